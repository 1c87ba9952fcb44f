/- The machine's board in memory, with the totals that it knows; total, pass walked. -/
import Derived.Test.YtgahlhfgpkklaaaDoorFDH
import Derived.Maps.OwnSet
import Derived.Maps.Ext
namespace Go.Proofs.YtgahlhfgpkklaaaDoor
open Go.RowKit Go.Maps

/-! ### totals that are known -/
theorem keyedI : Keyed Tryd.prog 3 := int_keyed Tryd.underlying3
theorem zeroI (w : World) : (zeroValue 3).run Tryd.prog w = .ok (.int .i64 0) w := by kernel_rfl
theorem wfI {n : Int} (h0 : -9223372036854775808 ≤ n) (h1 : n ≤ 9223372036854775807) : (Lit.int .i64 n).wf = true := by
  have e1 : IntKind.i64.min = -9223372036854775808 := rfl
  have e2 : IntKind.i64.max = 9223372036854775807 := rfl
  simp only [Lit.wf, Bool.and_eq_true, decide_eq_true_eq]
  omega
abbrev ky (n : Nat) : Lit := .int .i64 (n : Int)
/-- How many of the numbers up to n are among T. -/
def cntB (T : Nat → Bool) (n : Nat) : Nat := ((List.range n).filter T).length
theorem cntB_le (T : Nat → Bool) (n : Nat) : cntB T n ≤ n := by
  unfold cntB
  have := List.length_filter_le T (List.range n)
  simpa using this
theorem cntB_more {T S : Nat → Bool} {k : Nat} (hk : T k = false) (hS : ∀ j, S j = (T j || decide (j = k))) : ∀ n, cntB S n = cntB T n + if k < n then 1 else 0
  | 0 => by simp [cntB]
  | n + 1 => by
    have ih := cntB_more hk hS n
    unfold cntB at ih ⊢
    rw [List.range_succ, List.filter_append, List.filter_append, List.length_append, List.length_append, ih]
    by_cases e : n = k
    · subst e
      simp [List.filter, hS, hk]
    · have : S n = T n := by rw [hS]; simp [e]
      by_cases hT : T n = true
      · simp only [List.filter, this, hT, List.length_cons, List.length_nil]
        split <;> split <;> omega
      · simp only [List.filter, this, Bool.eq_false_iff.2 hT, List.length_nil]
        split <;> split <;> omega
/-- Block M is a map of totals, each one right. -/
def TM (r : Rp) (M : Nat) (w : World) : Prop := ∃ D : DataW Unit, w.ownsMap Tryd.prog 3 (plainElem Tryd.prog 3) M (Maps.size D) D ∧ Tidy D ∧ Maps.size D ≤ cntB (fun k => Maps.has D (ky k)) 20001 ∧
  ∀ n : Nat, n ≤ 20000 → Maps.has D (ky n) = true → ∀ z, D.atKey (ky n) z = .lit (.int .i64 (totR r n))
theorem own_tight {w : World} {k : TypeId} {R : Value → Option (DataW Unit × List MemPlace)} {b n : Nat} {D : DataW Unit} (h : w.ownsMap Tryd.prog k R b n D) : w.ownsMap Tryd.prog k R b (Maps.size D) D := by
  obtain ⟨es, clock, hb, F, _, hD⟩ := h
  refine ⟨es, clock, hb, F, ?_, hD⟩
  rw [hD, Maps.size_eq, length_sorted]
  simp
theorem TM.lt {r : Rp} {M : Nat} {w : World} (h : TM r M w) : M < w.heap.size := by
  obtain ⟨D, h1, _⟩ := h
  exact h1.lt
theorem TM.same {r : Rp} {M : Nat} {w w1 : World} (h : TM r M w) (hb : w1.heap[M]? = w.heap[M]?) : TM r M w1 := by
  obtain ⟨D, ⟨es, clock, h1, h2⟩, h3⟩ := h
  exact ⟨D, ⟨es, clock, hb.trans h1, h2⟩, h3⟩
theorem TM.later {r : Rp} {M : Nat} {w w1 : World} (h : TM r M w) (hb : Below w.heap.size w w1) : TM r M w1 := h.same (hb.block M h.lt)
theorem TM.made (r : Rp) (w : World) : TM r w.heap.size (w.alloc (.map #[] 0)) := ⟨.map [], World.ownsMap_made w _ _ _, tidy_empty, Nat.zero_le _, fun n _ h => by cases h⟩
theorem TM.look {r : Rp} {M : Nat} {w : World} (h : TM r M w) {n : Nat} (hn : n ≤ 20000) : ∃ (v : Int) (k : Bool), (Instr.lookup 50 (.map (some M)) (.int .i64 (n : Int)) true).run Tryd.prog w = .ok (.tuple #[.int .i64 v, .bool k]) w ∧ (k = true → v = totR r n) := by
  obtain ⟨D, h1, ht, hs, hv⟩ := h
  obtain ⟨v, ps, hrun, hR⟩ := h1.look_ok keyedI Tryd.underlying50 (zeroI w) (plainElem_int Tryd.underlying3 (wfI (n := 0) (by decide) (by decide))) (keyOf_int_mk Tryd.underlying3 (wfI (n := (n : Int)) (by omega) (by omega)))
  obtain ⟨c, rfl, hc, _⟩ := plainElem_int_inv Tryd.underlying3 hR
  refine ⟨c, _, hrun, fun hk => ?_⟩
  simp only [Prod.mk.injEq] at hc
  have := (hv n hn hk _).symm.trans hc.1
  simpa using this.symm
theorem key_lit (n : Nat) (hn : n ≤ 20000) : WideAt.IsKeyLit (ky n) := keyedI.key (keyOf_int_mk Tryd.underlying3 (wfI (n := (n : Int)) (by omega) (by omega)))
theorem TM.store {r : Rp} {M : Nat} {w : World} (h : TM r M w) {n : Nat} (hn : n ≤ 20000) (hr : rpOk r = true) : ∃ w', (Instr.mapUpdate 50 (.map (some M)) (.int .i64 (n : Int)) (.int .i64 (totR r n))).run Tryd.prog w = .ok () w' ∧ TM r M w' ∧ w.grownBy w' (some M) := by
  obtain ⟨D, h1, ht, hs, hv⟩ := h
  have hb := totR_bd hr hn
  have hc := cntB_le (fun k => Maps.has D (ky k)) 20001
  obtain ⟨w', hrun, h2, hg⟩ := h1.update keyedI Tryd.underlying50 (Nat.lt_of_le_of_lt (Nat.le_trans hs hc) (by decide)) (keyOf_int_mk Tryd.underlying3 (wfI (n := (n : Int)) (by omega) (by omega))) (plainElem_int (H := Unit) Tryd.underlying3 (wfI (n := totR r n) (by omega) (by omega)))
  refine ⟨w', hrun, ⟨_, own_tight h2, ht.put (key_lit n hn) _, ?_, ?_⟩, hg⟩
  · have hp : ∀ j : Nat, Maps.has (D.put (ky n) (.lit (.int .i64 (totR r n)))) (ky j) = (Maps.has D (ky j) || decide (j = n)) := fun j => by
      by_cases e : j = n
      · subst e
        rw [Maps.has_put_same (World.ownsMap.isMap h1) (key_lit j hn)]
        simp
      · rw [Maps.has_put_other (by simpa using fun h => e (by omega))]
        simp [e]
    rw [Maps.size_put ht]
    cases e : Maps.has D (ky n) with
    | true =>
      simp only [if_true]
      have ee : (fun k : Nat => Maps.has (D.put (ky n) (.lit (.int .i64 (totR r n)))) (ky k)) = fun k : Nat => Maps.has D (ky k) := by
        funext j
        rw [hp]
        by_cases ej : j = n
        · subst ej; rw [e]; rfl
        · simp [ej]
      rw [ee]
      exact hs
    | false =>
      have h5 := cntB_more (T := fun k => Maps.has D (ky k)) (k := n) e hp 20001
      rw [if_pos (show n < 20001 by omega)] at h5
      simp only [Bool.false_eq_true, if_false]
      exact Nat.le_trans (Nat.succ_le_succ hs) (Nat.le_of_eq h5.symm)
  · intro m hm hh z
    by_cases e : m = n
    · subst e
      exact Maps.atKey_put_same (World.ownsMap.isMap h1) (key_lit m hn) _ _
    · have hne : ky m ≠ ky n := by simpa using fun h => e (by omega)
      rw [Maps.has_put_other hne] at hh
      rw [Maps.atKey_put_other hne]
      exact hv m hm hh z

/-! ### the board -/
abbrev bdc (r : Rg) (f : Fm) (M : Nat) : List Value := [.int .i64 r.lo.x, .int .i64 r.lo.y, .int .i64 r.lo.z, .int .i64 r.hi.x, .int .i64 r.hi.y, .int .i64 r.hi.z, .int .i64 r.rp.c, .int .i64 r.rp.f, .int .i64 r.rp.m, .int .i64 r.rp.r, .int .i64 r.ps, .int .i64 r.mo,
  .bool f.hm, .int .i64 f.pt.x, .int .i64 f.pt.y, .int .i64 f.pt.z, .int .i64 f.pl, .bool f.tp, .int .i64 f.ht, .int .i64 f.tu, .int .i64 f.tk, .map (some M)]
abbrev bdv (r : Rg) (f : Fm) (M : Nat) : Value := .agg #[.int .i64 r.lo.x, .int .i64 r.lo.y, .int .i64 r.lo.z, .int .i64 r.hi.x, .int .i64 r.hi.y, .int .i64 r.hi.z, .int .i64 r.rp.c, .int .i64 r.rp.f, .int .i64 r.rp.m, .int .i64 r.rp.r, .int .i64 r.ps, .int .i64 r.mo,
  .bool f.hm, .int .i64 f.pt.x, .int .i64 f.pt.y, .int .i64 f.pt.z, .int .i64 f.pl, .bool f.tp, .int .i64 f.ht, .int .i64 f.tu, .int .i64 f.tk, .map (some M)]
abbrev bdo (r : Rg) (f : Fm) (M : Nat) : Obj := .cells #[.int .i64 r.lo.x, .int .i64 r.lo.y, .int .i64 r.lo.z, .int .i64 r.hi.x, .int .i64 r.hi.y, .int .i64 r.hi.z, .int .i64 r.rp.c, .int .i64 r.rp.f, .int .i64 r.rp.m, .int .i64 r.rp.r, .int .i64 r.ps, .int .i64 r.mo,
  .bool f.hm, .int .i64 f.pt.x, .int .i64 f.pt.y, .int .i64 f.pt.z, .int .i64 f.pl, .bool f.tp, .int .i64 f.ht, .int .i64 f.tu, .int .i64 f.tk, .map (some M)] 52
/-- A board in block B, its totals in block M. -/
structure Bd (B M : Nat) (r : Rg) (f : Fm) (w : World) : Prop where
  bk : Bk B (bdc r f M) w
  tm : TM r.rp M w
  ne : B ≠ M
def BM (B M : Nat) : Nat → Prop := fun k => k = B ∨ k = M
theorem Bd.later {B M : Nat} {r : Rg} {f : Fm} {w w1 : World} (h : Bd B M r f w) (hb : Below w.heap.size w w1) : Bd B M r f w1 := ⟨h.bk.later hb, h.tm.later hb, h.ne⟩
theorem Kpt.onB {B M : Nat} {w w1 w2 : World} (h : Kpt (BM B M) w w1) (hb : Below w1.heap.size w1 w2) : Kpt (BM B M) w w2 := h.trans (Kpt.of_below hb)
set_option maxHeartbeats 6400000 in
set_option maxRecDepth 100000 in
theorem total_any (B M : Nat) (r : Rg) (f : Fm) (n : Nat) (w : World) (h : Bd B M r f w) (hr : rpOk r.rp = true) (hn : n ≤ 20000) :
    Calls Tryd.prog 40 #[ptr B, .int .i64 (n : Int)] w fun e w' => e = .returned (.int .i64 (totR r.rp n)) ∧ Bd B M r f w' ∧ Kpt (BM B M) w w' := by
  have HT : Hid (∀ W, Calls Tryd.prog 57 #[rv r.rp, .int .i64 (n : Int)] W fun e w' => e = .returned (.tuple #[.int .i64 (totR r.rp n), .int .i64 0]) ∧ Below W.heap.size W w') := fun W => total_yes r.rp n W hr hn
  have HS : Hid (∀ W, TM r.rp M W → ∃ w', (Instr.mapUpdate 50 (.map (some M)) (.int .i64 (n : Int)) (.int .i64 (totR r.rp n))).run Tryd.prog W = .ok () w' ∧ TM r.rp M w' ∧ W.grownBy w' (some M)) := fun W hW => hW.store hn hr
  have HD : Hid (Bd B M r f w) := h
  obtain ⟨v, k, hl, hk⟩ := h.tm.look hn
  have q6 := h.bk.c 6 rfl
  have q7 := h.bk.c 7 rfl
  have q8 := h.bk.c 8 rfl
  have q9 := h.bk.c 9 rfl
  have q21 := h.bk.c 21 rfl
  clear h hr
  cases k with
  | true =>
    have e := hk rfl
    have HE : Hid (v = totR r.rp n) := e
    clear e hk
    go_enter Tryd.func40, Tryd.ntmps40
    go_wp2
    go_ret
    exact ⟨ret_int HE.out, HD.out, Kpt.refl _ _⟩
  | false =>
    clear hk
    obtain ⟨t, ht⟩ : ∃ t, t = totR r.rp n := ⟨_, rfl⟩
    rw [← ht] at HT HS ⊢
    clear ht
    go_enter Tryd.func40, Tryd.ntmps40
    go_wp2_with fail
    refine (HT.out _).mono ?_
    rintro e w1 ⟨rfl, hb1⟩
    have HD1 : Hid (Bd B M r f w1) := HD.out.later hb1
    obtain ⟨w2, hs, hm, hg⟩ := HS.out w1 HD1.out.tm
    have HD2 : Hid (Bd B M r f w2) := ⟨HD1.out.bk.same hg.size (hg.block B HD1.out.bk.1 (fun e => HD1.out.ne (by simpa using e))), hm, HD1.out.ne⟩
    have HK : Hid (Kpt (BM B M) w w2) := (Kpt.of_below hb1).trans (Kpt.grown hg fun k hk => .inr (by simpa using hk.symm))
    have q21' := HD1.out.bk.c 21 rfl
    clear hm hg hb1 HD1 HD q6 q7 q8 q9 q21
    go_wp2
    go_ret
    exact ⟨rfl, HD2.out, HK.out⟩
end Go.Proofs.YtgahlhfgpkklaaaDoor
