import Derived.Test.YtcajifelbldjnaaGreatHk
import Derived.WideKeyEntry
import Derived.Test.YtcajifelbldjnaaGreatHi
import Derived.Test.YtcajifelbldjnaaGreatHh
import Derived.Test.YtcajifelbldjnaaGreatHj

/- Maps whose elements are held as they are, told by a function of their keys. -/
namespace Go.Proofs.YtcajifelbldjnaaGreat
open Go.RowKit Go.Maps Go.ChangeMaps
/-- A place to work at: the ware's kind, a point. -/
abbrev Std := Int × Int × Int × Int
def Wf4 (p : Std) : Prop := Wf1 p.1 ∧ Wf1 p.2.1 ∧ Wf1 p.2.2.1 ∧ Wf1 p.2.2.2
abbrev stv (p : Std) : Value := .agg #[.int .i64 p.1, .int .i64 p.2.1, .int .i64 p.2.2.1, .int .i64 p.2.2.2]
theorem gateS : WideMaps.KeyLaw Tryz.prog 118 := deep_law_gate laidOutP (of_decide_eq_true (by kernel_rfl)) (of_decide_eq_true (by kernel_rfl)) (by kernel_rfl) (by kernel_rfl)
theorem gateP : WideMaps.KeyLaw Tryz.prog 57 := deep_law_gate laidOutP (of_decide_eq_true (by kernel_rfl)) (of_decide_eq_true (by kernel_rfl)) (by kernel_rfl) (by kernel_rfl)
theorem lawS : Keyed Tryz.prog 118 := Keyed.of_law gateS
theorem keyTS : Tryz.prog.keyType 118 = true := by kernel_rfl
theorem cellsSt : Tryz.prog.cellsOf 118 = 4 := by kernel_rfl
theorem cellsPt : Tryz.prog.cellsOf 29 = 3 := by kernel_rfl
set_option maxRecDepth 100000 in
theorem lits_point (d : Nat) {x y z : Int} (hx : Wf1 x) (hy : Wf1 y) (hz : Wf1 z) : Tryz.prog.keyLits (d + 2) 29 [.int .i64 x, .int .i64 y, .int .i64 z] = some [.int .i64 x, .int .i64 y, .int .i64 z] := by
  unfold Program.keyLits
  rw [Tryz.underlying29]
  simp [cellsPt, cellsI, lits_int d hx, lits_int d hy, lits_int d hz]
set_option maxRecDepth 100000 in
theorem lits_stand (d : Nat) {p : Std} (h : Wf4 p) : Tryz.prog.keyLits (d + 3) 118 [.int .i64 p.1, .int .i64 p.2.1, .int .i64 p.2.2.1, .int .i64 p.2.2.2] = some [.int .i64 p.1, .int .i64 p.2.1, .int .i64 p.2.2.1, .int .i64 p.2.2.2] := by
  unfold Program.keyLits
  rw [Tryz.underlying118]
  simp [cellsSt, cellsPt, cellsI, lits_int (d + 1) h.1, lits_point d h.2.1 h.2.2.1 h.2.2.2]
/-- What such a key reads as. -/
def klS (p : Std) : Lit := .string (keyBytes [.int .i64 p.1, .int .i64 p.2.1, .int .i64 p.2.2.1, .int .i64 p.2.2.2])
set_option maxRecDepth 100000 in
theorem keyS_some {p : Std} (h : Wf4 p) : keyOf Tryz.prog 118 (stv p) = some (klS p) := by
  unfold keyOf
  rw [Tryz.underlying118]
  simp only [keyTS, sizeT]
  have hf : (stv p).formed Tryz.prog 118 = true := by simp [Value.formed, Tryz.underlying118, cellsSt]
  rw [hf]
  simp only [Bool.and_self, if_true, Value.cells, List.toList_toArray]
  rw [show 270 = 267 + 3 from rfl, lits_stand 267 h]
  rfl
theorem klS_inj {p q : Std} (hp : Wf4 p) (hq : Wf4 q) (h : klS p = klS q) : p = q := by
  have := lawS.inj (keyS_some hp) (by rw [h]; exact keyS_some hq)
  injection this with e
  simp at e
  exact Prod.ext e.1 (Prod.ext e.2.1 (Prod.ext e.2.2.1 e.2.2.2))
/-- Keys of a kind, as values and as they read. -/
structure KK (κ : Type) where
  k : TypeId
  ok : κ → Prop
  v : κ → Value
  l : κ → Lit
  law : WideMaps.KeyLaw Tryz.prog k
  key : ∀ p, ok p → keyOf Tryz.prog k (v p) = some (l p)
  inj : ∀ p q, ok p → ok q → l p = l q → p = q
def kkP : KK Plc := ⟨57, Wf3, plv, klP, gateP, fun _ h => keyP_some h, fun _ _ h1 h2 h => klP_inj h1 h2 h⟩
def kkS : KK Std := ⟨118, Wf4, stv, klS, gateS, fun _ h => keyS_some h, fun _ _ h1 h2 h => klS_inj h1 h2 h⟩
section
variable {κ : Type} (c : KK κ)
/-- Block m is a map of at most n entries, which holds what f says. -/
def MF (w : World) (m n : Nat) (f : κ → Option Value) : Prop := ∃ D, w.ownsMap Tryz.prog c.k RV m n D ∧
  (∀ p, c.ok p → ∀ x, f p = some x → ∀ z, D.atKey (c.l p) z = .held x) ∧ ∀ p, c.ok p → f p = none → Maps.has D (c.l p) = false
def setF [DecidableEq κ] (f : κ → Option Value) (p : κ) (x : Value) : κ → Option Value := fun q => if q = p then some x else f q
variable {c}
theorem MF.lt {w : World} {m n : Nat} {f : κ → Option Value} (h : MF c w m n f) : m < w.heap.size := by
  obtain ⟨D, h1, _⟩ := h
  exact h1.lt
theorem MF.same {w w1 : World} {m n : Nat} {f : κ → Option Value} (h : MF c w m n f) (hb : w1.heap[m]? = w.heap[m]?) : MF c w1 m n f := by
  obtain ⟨D, ⟨es, clock, h1, h2⟩, h3⟩ := h
  exact ⟨D, ⟨es, clock, hb.trans h1, h2⟩, h3⟩
theorem MF.next {w w1 : World} {m n : Nat} {f : κ → Option Value} (h : MF c w m n f) (hb : Below w.heap.size w w1) : MF c w1 m n f := h.same (hb.block m h.lt)
theorem MF.made (w : World) : MF c (w.alloc (.map #[] 0)) w.heap.size 0 (fun _ => none) :=
  ⟨.map [], World.ownsMap_made w _ _ _, (fun _ _ _ h => by cases h), fun _ _ _ => rfl⟩
theorem MF.isMap {w : World} {m n : Nat} {f : κ → Option Value} (h : MF c w m n f) : ∃ es clock, w.heap[m]? = some (.map es clock) := by
  obtain ⟨D, ⟨es, clock, h1, _⟩, _⟩ := h
  exact ⟨es, clock, h1⟩
set_option maxRecDepth 100000 in
/-- 'm[k]'. -/
theorem MF.look {w : World} {m n : Nat} {f : κ → Option Value} (h : MF c w m n f) {t e : TypeId} (ht : Tryz.prog.underlying t = some (.map c.k e)) {z : Value} (hz : (zeroValue e).run Tryz.prog w = .ok z w) {p : κ} (hp : c.ok p) :
    (Instr.lookup t (.map (some m)) (c.v p) false).run Tryz.prog w = .ok ((f p).getD z) w := by
  obtain ⟨D, h1, h2, h3⟩ := h
  obtain ⟨v, ps, hrun, hv⟩ := h1.lookup (Keyed.of_law c.law) ht hz (zd := .held z) (zp := []) rfl (c.key p hp)
  rw [hrun]
  congr 1
  simp only [RV, Option.some.injEq, Prod.mk.injEq] at hv
  have hv1 := hv.1
  cases e : f p with
  | none =>
    rw [atKey_of_not_has (h3 p hp e)] at hv1
    injection hv1 with hv1
  | some x =>
    rw [h2 p hp x e] at hv1
    injection hv1 with hv1
/-- What holds of a map between its entry made sure of and its writing. -/
def Half [DecidableEq κ] (c : KK κ) (t : TypeId) (m n : Nat) (f : κ → Option Value) (p : κ) (st : Value) (w : World) : Prop :=
  ∃ o1, w.heap[m]? = some o1 ∧ ∀ (w2 : World) (x : Value), w2.heap[m]? = some o1 → ∃ o2, (Instr.entryStore t (.map (some m)) st x).run Tryz.prog w2 = .ok () (setBlock w2 m o2) ∧ ∀ w3 : World, w3.heap[m]? = some o2 → MF c w3 m (n + 1) (setF f p x)
theorem heap_setBlock_at {w : World} {b : Nat} {o : Obj} (h : b < w.heap.size) : (setBlock w b o).heap[b]? = some o := by
  simp [setBlock, h]
set_option maxRecDepth 100000 in
/-- 'm[k] = x' in two steps. -/
theorem MF.entry [DecidableEq κ] {w : World} {m n : Nat} {f : κ → Option Value} (h : MF c w m n f) {t e : TypeId} (ht : Tryz.prog.underlying t = some (.map c.k e)) {z : Value} (hz : ∀ u : World, (zeroValue e).run Tryz.prog u = .ok z u) {p : κ} (hp : c.ok p) (hn : n < maxLen) :
    ∃ (v0 st : Value) (o1 : Obj), (Instr.mapEntry t (.map (some m)) (c.v p)).run Tryz.prog w = .ok (.tuple #[v0, st]) (setBlock w m o1) ∧ Half c t m n f p st (setBlock w m o1) := by
  have hlt := h.lt
  obtain ⟨D, hD, h2, h3⟩ := h
  have hstore := fun x : Value => hD.store (Keyed.of_law c.law) ht hn (key := c.v p) (val := x) (kl := c.l p) (d := .held x) (ps := []) (c.key p hp) rfl
  have hTD := hD.tidy (Keyed.of_law c.law)
  obtain ⟨es, clock, hb, F, hsz, hDe⟩ := hD
  obtain ⟨v0, st, es1, clock1, e1, _, e2⟩ := WideElems.entry_then_store c.law ht hz hb F (c.key p hp)
  refine ⟨v0, goInt st, .map es1 clock1, e1, .map es1 clock1, heap_setBlock_at hlt, fun w2 x hw2 => ?_⟩
  obtain ⟨es', clock', e3, e4⟩ := e2 w2 x hw2
  refine ⟨.map es' clock', e3, fun w3 hw3 => ?_⟩
  obtain ⟨w', r1, r2, _⟩ := hstore x
  rw [e4] at r1
  injection r1 with _ r1
  subst r1
  obtain ⟨es2, clock2, q1, q2⟩ := r2
  rw [heap_setBlock_at hlt] at q1
  refine ⟨D.put (c.l p) (.held x), ⟨es2, clock2, hw3.trans q1, q2⟩, fun q hq y hy zd => ?_, fun q hq hy => ?_⟩
  · unfold setF at hy
    by_cases e : q = p
    · subst e
      rw [if_pos rfl] at hy
      injection hy with hy
      subst hy
      exact atKey_put_same hTD.isMap ((Keyed.of_law c.law).key (c.key q hq)) _ _
    · rw [if_neg e] at hy
      rw [atKey_put_other (fun e2 => e (c.inj q p hq hp e2))]
      exact h2 q hq y hy zd
  · unfold setF at hy
    by_cases e : q = p
    · rw [if_pos e] at hy; cases hy
    · rw [if_neg e] at hy
      rw [has_put_other (fun e2 => e (c.inj q p hq hp e2))]
      exact h3 q hq hy
end
end Go.Proofs.YtcajifelbldjnaaGreat

/- deck.find, deck.Tips, deck.At walked. -/
namespace Go.Proofs.YtcajifelbldjnaaGreat
open Go.RowKit
/-- One spot appended to the call's own. -/
theorem wpList_append_spot (w : World) {ops : Array Oper} {rest : List Oper} {o : Oper} {a : Act} {Q : Exit → Act → World → Prop} (hgd : o.guard = none) (s x : Operand)
    (ho : o.op = .call { callee := .builtin .append, args := #[s, x], argTypes := #[105, 105] }) (base : Nat) (v : Value) (ps : List (Nat × Nat)) (hs : a.eval s = v) (hown : Own w base v ps)
    (b : Nat) (r c : Nat) (hx : a.eval x = .slice (some ⟨b, 0, none⟩) 1 1) (h0 : w.cell? ⟨b, 0, none⟩ = some (.int .i64 r)) (h1 : w.cell? ⟨b, 1, none⟩ = some (.int .i64 c))
    (hlen : ps.length ≤ 1000000000000) (hbase : base ≤ w.heap.size)
    (h : ∀ v' w', Own w' base v' (ps ++ [(r, c)]) → w.grownBy w' v.ownBlock → wpList Tryz.prog ops Q rest (a.put o.dst v') w') :
    wpList Tryz.prog ops Q (o :: rest) a w := by
  obtain ⟨i0, hi, hz0, hz1, hz2⟩ := info_parts Tryz.info55
  refine wpList_append_own_at w hgd s x 105 ho base 55 i0 (.agg #[.int .i64 0, .int .i64 0]) 2 16 Tryz.underlying105 hi hz0 hz1 hz2 rfl (by decide) v ps.length (cellsS ps) hs hown ⟨b, 0, none⟩ 1 1 [.int .i64 r, .int .i64 c] hx rfl ?_ ?_ ?_ ?_ hbase ?_
  · intro j u hj
    match j, hj with
    | 0, hj => simp at hj; subst hj; simpa [Addr.add] using h0
    | 1, hj => simp at hj; subst hj; simpa [Addr.add] using h1
  · intro u hu
    simp at hu
    rcases hu with rfl | rfl <;> rfl
  · unfold maxLen; omega
  · omega
  · intro v' w' h1 h2 _ h4
    refine h v' w' ?_ h2
    unfold Own
    rw [cellsS_append, cellsS_one, List.length_append]
    exact h1

set_option maxHeartbeats 3200000 in
theorem all_ok (a : Wr) (R C : Nat) (w : World) (hs : a.name.size ≤ maxLen) (h0 : chk a = 0) (hR : a.rows = R) (hC : a.cols = C) :
    Calls Tryz.prog 41 #[wv a] w fun e w' => ∃ v, e = .returned (.tuple #[v, .int .i64 0]) ∧ Own w' (w.heap.size + 1) v (spots R (C * R)) ∧ Below w.heap.size w w' := by
  have HIN : Hid (InR a) := chk_inR h0
  have HCH : Hid (chk a = 0) := h0
  have r2 : R ≤ 16 := by have := HIN.out.r2; omega
  have r1 : 1 ≤ R := by have := HIN.out.r1; omega
  have k2 : C ≤ 24 := by have := HIN.out.c2; omega
  have HR : Hid (a.rows = R) := hR
  have HC : Hid (a.cols = C) := hC
  clear hR hC h0
  go_enter Tryz.func41, Tryz.ntmps41
  go_wp2_with fail
  refine (check_any a _ hs).mono ?_
  rintro e w1 ⟨rfl, hb⟩
  rw [HCH.out]
  have e2 : w1.cell? ⟨w.heap.size, 2, none⟩ = some (.int .i64 (R : Int)) := by rw [← HR.out]; exact cell_later hb (by go_simp)
  have e3 : w1.cell? ⟨w.heap.size, 3, none⟩ = some (.int .i64 (C : Int)) := by rw [← HC.out]; exact cell_later hb (by go_simp)
  have hB : Below w.heap.size w w1 := ((Below.refl _ _).alloc (Nat.le_refl _) _).trans (hb.mono (by simp))
  have lt : w.heap.size + 1 ≤ w1.heap.size := by have := hb.size; simp at this; omega
  clear hb
  go_wp2_with fail
  go_loopw [5, 15] (fun v i wo => ∃ c : Nat, c ≤ C ∧ i = .int .i64 c ∧ Own wo (w.heap.size + 1) v (spots R (c * R)) ∧ Below (w.heap.size + 1) w1 wo) (fun _ i _ => C - (intOf i).toNat)
  case atStart => exact ⟨0, by omega, rfl, by simpa [spots] using Own.nil w1 (w.heap.size + 1), Below.refl _ _⟩
  case round =>
    obtain ⟨c, hc24, rfl, hown, hbo⟩ := hrel
    obtain ⟨wo, rfl⟩ : ∃ wo, wo = wr := ⟨_, rfl⟩
    obtain ⟨ao0, cap0, rfl⟩ := hown.shape
    have HO : Hid (Own wo (w.heap.size + 1) (.slice ao0 (spots R (c * R)).length cap0) (spots R (c * R))) := hown
    have HBO : Hid (Below (w.heap.size + 1) w1 wo) := hbo
    have d2 : wo.cell? ⟨w.heap.size, 2, none⟩ = some (.int .i64 (R : Int)) := (hbo.cell (p := ⟨w.heap.size, 2, none⟩) (by show w.heap.size < w.heap.size + 1; omega)).trans e2
    clear hown hbo
    generalize (spots R (c * R)).length = n0 at *
    by_cases hc : c < C
    · go_wp2_with fail
      go_loopw [5, 20] (fun v i wi => ∃ r : Nat, r ≤ R ∧ i = .int .i64 r ∧ Own wi (w.heap.size + 1) v (spots R (c * R + r)) ∧ Below (w.heap.size + 1) w1 wi) (fun _ i _ => R - (intOf i).toNat)
      case atStart => exact ⟨0, by omega, rfl, by simpa using HO.out, HBO.out⟩
      case round =>
        obtain ⟨r, hr16, rfl, hown, hbi⟩ := hrel
        obtain ⟨ao1, cap1, rfl⟩ := hown.shape
        have HO2 : Hid (Own wr (w.heap.size + 1) (.slice ao1 (spots R (c * R + r)).length cap1) (spots R (c * R + r))) := hown
        have HBI : Hid (Below (w.heap.size + 1) w1 wr) := hbi
        have HL : Hid ((spots R (c * R + r)).length ≤ 1000000) := by
          show _ ≤ _
          rw [spots_length]
          have : c * R ≤ 24 * R := Nat.mul_le_mul_right _ (by omega)
          omega
        clear hown hbi
        generalize (spots R (c * R + r)).length = n1 at *
        by_cases hr : r < R
        · have HSZ : Hid (w.heap.size + 1 ≤ wr.heap.size) := Nat.le_trans lt HBI.out.size
          go_wp2_with (at_builtin; refine wpList_append_spot _ rfl (.tmp 23) (.tmp 27) rfl (w.heap.size + 1) (.slice ao1 n1 cap1) (spots R (c * R + r)) rfl (HO2.out.alloc _) wr.heap.size r c rfl (by go_simp) (by go_simp) (by rw [spots_length]; have : c * R ≤ 24 * R := Nat.mul_le_mul_right _ (by omega); omega) (by have := HSZ.out; simp; omega) ?_; intro v' w2 hown1 hg)
          go_roundw
          case rel =>
            refine ⟨r + 1, by omega, by go_num, ?_, ?_⟩
            · rw [← Nat.add_assoc, spots_next hr]; exact hown1
            · exact below_grown (HBI.out.alloc HSZ.out _) (HO2.out.alloc _) hg (by have := HSZ.out; simp; omega)
          case measure => simp [intOf]; omega
        · have HE : Hid (c * R + r = (c + 1) * R) := by show _ = _; rw [Nat.succ_mul]; omega
          go_wp2
          go_roundw
          case rel => exact ⟨c + 1, by omega, by go_num, by rw [← HE.out]; exact HO2.out, HBI.out⟩
          case measure => simp [intOf]; omega
    · have HE : Hid (c = C) := by show _ = _; omega
      go_wp2
      refine bodyPost_ret (v := .tuple #[.slice ao0 n0 cap0, .int .i64 0]) (by simp [results, Tryz.results41, go_sem]) rfl ⟨_, rfl, ?_, hB.trans (HBO.out.mono (by omega))⟩
      have := HO.out
      rwa [HE.out] at this

set_option maxHeartbeats 3200000 in
theorem find_none (g : Nat) (caps : Array Value) (f : Sit → Bool) (ao : Option Addr) (cap : Nat) (l : List Sit) (w : World) (eg : ∀ args w, (callFunc g args).run Tryz.prog w = .ok (.enter g args) w)
    (hT : TestsS g caps f w) (hL : Sts w ao l) (hl : l.length ≤ 9223372036854775807) (hno : ∀ s ∈ l, f s = false) :
    Calls Tryz.prog 39 #[.slice ao l.length cap, .func (.func g) #[] caps] w fun e w' => e = .returned (.tuple #[sv zSt, .int .i64 5]) ∧ Below w.heap.size w w' := by
  have al : Below w.heap.size w (w.alloc (sobj zSt)) := (Below.refl _ _).alloc (Nat.le_refl _) _
  have hcall := indexFuncS_any g caps f ao cap l (w.alloc (sobj zSt)) eg (fun a W hW => hT a W (al.trans (hW.mono (by simp)))) (hL.next al) hl
  rw [idxS_miss hno] at hcall
  have HC : Hid (Calls Tryz.prog 66 #[.slice ao l.length cap, .func (.func g) #[] caps] (w.alloc (sobj zSt)) fun e w' => e = .returned (.int .i64 (-1)) ∧ Below (w.alloc (sobj zSt)).heap.size (w.alloc (sobj zSt)) w') := hcall
  clear hT hL hcall hno
  go_enter Tryz.func39, Tryz.ntmps39
  go_wp2_with fail
  refine HC.out.mono ?_
  rintro e w1 ⟨rfl, hb⟩
  have K := (Sf.new w zSt).later hb
  have HB : Hid (Below w.heap.size w w1) := al.trans (hb.mono (by simp))
  clear hb al
  obtain ⟨⟨al, a0, a1, a2, a3, a4, a5, a6, a7, a8, a9, a10, a11, a12, a13⟩, f0, f1, f2, f3, f4, f5, f6, f7, f8, f9, f10, f11, f12, f13⟩ := K
  simp only [Nat.zero_add] at a1 a2 a3 a4 a5 a6 a7 a8 a9 a10 a11 a12 a13
  go_wp2
  refine bodyPost_ret (v := .tuple #[sv zSt, .int .i64 5]) (by simp [results, Tryz.results39, go_sem, a0, a1, a2, a3, a4, a5, a6, a7, a8, a9, a10, a11, a12, a13]) rfl ⟨rfl, ?_⟩
  exact below_put14 (s := zSt) HB.out (Nat.le_refl _)
set_option maxHeartbeats 3200000 in
theorem find_hit (g : Nat) (caps : Array Value) (f : Sit → Bool) (ao : Option Addr) (cap : Nat) (l : List Sit) (w : World) (eg : ∀ args w, (callFunc g args).run Tryz.prog w = .ok (.enter g args) w)
    (hT : TestsS g caps f w) (hL : Sts w ao l) (hl : l.length ≤ 9223372036854775807) (k : Nat) (hk : k < l.length) (s : Sit) (hs : s = l[k]'hk) (hhit : f s = true) (hno : ∀ b ∈ l.take k, f b = false) :
    Calls Tryz.prog 39 #[.slice ao l.length cap, .func (.func g) #[] caps] w fun e w' => e = .returned (.tuple #[sv s, .int .i64 0]) ∧ Below w.heap.size w w' := by
  have al : Below w.heap.size w (w.alloc (sobj zSt)) := (Below.refl _ _).alloc (Nat.le_refl _) _
  have hcall := indexFuncS_any g caps f ao cap l (w.alloc (sobj zSt)) eg (fun a W hW => hT a W (al.trans (hW.mono (by simp)))) (hL.next al) hl
  rw [idxS_hit hk hno (by rw [← hs]; exact hhit)] at hcall
  have HC : Hid (Calls Tryz.prog 66 #[.slice ao l.length cap, .func (.func g) #[] caps] (w.alloc (sobj zSt)) fun e w' => e = .returned (.int .i64 (k : Int)) ∧ Below (w.alloc (sobj zSt)).heap.size (w.alloc (sobj zSt)) w') := hcall
  obtain ⟨b, off, rfl, hat⟩ := hL.at hk
  rw [← hs] at hat
  have HAT := (show Hid _ from hat)
  clear hT hL hcall hno hs hhit hat
  go_enter Tryz.func39, Tryz.ntmps39
  go_wp2_with fail
  refine HC.out.mono ?_
  rintro e w1 ⟨rfl, hb⟩
  have K := (Sf.new w zSt).later hb
  have HB : Hid (Below w.heap.size w w1) := al.trans (hb.mono (by simp))
  obtain ⟨_, c0, c1, c2, c3, c4, c5, c6, c7, c8, c9, c10, c11, c12, c13⟩ := HAT.out.next HB.out
  clear hb al
  obtain ⟨⟨al, a0, a1, a2, a3, a4, a5, a6, a7, a8, a9, a10, a11, a12, a13⟩, f0, f1, f2, f3, f4, f5, f6, f7, f8, f9, f10, f11, f12, f13⟩ := K
  simp only [Nat.zero_add] at a1 a2 a3 a4 a5 a6 a7 a8 a9 a10 a11 a12 a13
  have hki : (k : Int) < (l.length : Int) := by omega
  go_wp2
  refine bodyPost_ret (v := .tuple #[sv s, .int .i64 0]) (by simp [results, Tryz.results39, go_sem, a0, a1, a2, a3, a4, a5, a6, a7, a8, a9, a10, a11, a12, a13]) rfl ⟨rfl, ?_⟩
  exact below_put14 (s := s) HB.out (Nat.le_refl _)

abbrev encS : Enc (Nat × Nat) := ⟨55, 2, fun p => [.int .i64 p.1, .int .i64 p.2]⟩
theorem goodS : Good encS := ⟨fun _ => rfl, fun x u hu => by simp at hu; rcases hu with rfl | rfl <;> rfl⟩
theorem own_spots {w : World} {base : Nat} {v : Value} {ps : List (Nat × Nat)} (h : Own w base v ps) : OwnR encS w base v ps := h

set_option maxHeartbeats 3200000 in
set_option maxRecDepth 100000 in
theorem tips_any (ao : Option Addr) (cap : Nat) (l : List Sit) (w : World) (hD : Dk w ao cap l) (hd : dchk l = 0) :
    Calls Tryz.prog 16 #[.slice ao l.length cap] w fun e w' => ∃ v, e = .returned (.tuple #[v, .int .i64 0]) ∧ OwnR encP w' w.heap.size v (tipsL l) ∧ Below w.heap.size w w' := by
  have HD : Hid (Dk w ao cap l) := hD
  have HDC : Hid (dchk l = 0) := hd
  have hl := dk_len hd
  have HC : Hid (Calls Tryz.prog 19 #[.slice ao l.length cap] w fun e w' => e = .returned (.int .i64 0) ∧ Below w.heap.size w w') := by
    have := dk_check ao cap l w hD (by omega)
    rw [hd] at this
    exact this
  clear hD hd
  go_enter Tryz.func16, Tryz.ntmps16
  go_wp2_with fail
  refine Calls.mono HC.out ?_
  rintro e w1 ⟨rfl, hb⟩
  have HB1 : Hid (Below w.heap.size w w1) := hb
  clear hb HC
  go_wp2_with fail
  go_loopw [5, 6] (fun v i wo => ∃ n : Nat, n ≤ 12 ∧ i = .int .i64 ((n : Int) + 1) ∧ OwnR encP wo w.heap.size v (tipsTo l n) ∧ Below w.heap.size w wo) (fun _ i _ => 13 - (intOf i).toNat)
  case atStart => exact ⟨0, by omega, rfl, OwnR.nil _ _ _, HB1.out⟩
  case round =>
    obtain ⟨n, hn, rfl, hown, hbo⟩ := hrel
    obtain ⟨wo, rfl⟩ : ∃ wo, wo = wr := ⟨_, rfl⟩
    obtain ⟨aoT, nT, capT, rfl⟩ := hown.form
    have HO : Hid (OwnR encP wo w.heap.size (.slice aoT nT capT) (tipsTo l n)) := hown
    have HBO : Hid (Below w.heap.size w wo) := hbo
    clear hown hbo HB1
    by_cases hlt : n < 12
    · have hlt2 : ((n : Int) + 1) ≤ 12 := by omega
      have hs := HBO.out.size
      have HFD : Hid (Sts (wo.alloc (.cells #[.int .i64 ((n : Int) + 1)] 3)) ao l) := (HD.out.sts.next HBO.out).next ((Below.refl _ _).alloc (Nat.le_refl _) _)
      have HT : Hid (TestsS 67 #[ptr wo.heap.size] (fun a => a.slot == (n : Int) + 1) (wo.alloc (.cells #[.int .i64 ((n : Int) + 1)] 3))) := fun a W hW => standing_test a _ wo.heap.size W (by have := hW.size; simp at this; omega) (cell_later hW (by go_simp))
      rcases find_cases l ((n : Int) + 1) with ⟨h1, h2⟩ | ⟨k, hk, h1, h2, h3⟩
      · have HR : Hid (tipsTo l (n + 1) = tipsTo l n) := by show _ = _; rw [tipsTo_succ, rackIn_no h1, List.append_nil]
        have HF : Hid (Calls Tryz.prog 39 #[.slice ao l.length cap, .func (.func 67) #[] #[ptr wo.heap.size]] (wo.alloc (.cells #[.int .i64 ((n : Int) + 1)] 3)) fun e w' => e = .returned (.tuple #[sv zSt, .int .i64 5]) ∧ Below (wo.alloc (.cells #[.int .i64 ((n : Int) + 1)] 3)).heap.size (wo.alloc (.cells #[.int .i64 ((n : Int) + 1)] 3)) w') := find_none 67 #[ptr wo.heap.size] (fun a => a.slot == (n : Int) + 1) ao cap l _ en67 HT.out HFD.out (by omega) h2
        clear HT HFD h1 h2
        go_wp2_with fail
        refine (standingIn_any ((n : Int) + 1) wo).mono ?_
        rintro e w2 ⟨rfl, rfl⟩
        go_wp2_with fail
        refine Calls.mono HF.out ?_
        rintro e w3 ⟨rfl, hb3⟩
        have HB3 : Hid (Below w.heap.size w w3) := (HBO.out.alloc hs _).trans (hb3.mono (by simp; omega))
        have HO3 : Hid (OwnR encP w3 w.heap.size (.slice aoT nT capT) (tipsTo l n)) := (HO.out.alloc _).later hb3
        clear hb3 HF
        go_wp2
        go_roundw
        case rel => exact ⟨n + 1, by omega, by go_num, by rw [HR.out]; exact HO3.out.alloc _, HB3.out.alloc HB3.out.size _⟩
        case measure => simp [intOf]; omega
      · obtain ⟨s, hs'⟩ : ∃ s, s = l[k]'hk := ⟨_, rfl⟩
        rw [← hs'] at h1 h2
        have HF : Hid (Calls Tryz.prog 39 #[.slice ao l.length cap, .func (.func 67) #[] #[ptr wo.heap.size]] (wo.alloc (.cells #[.int .i64 ((n : Int) + 1)] 3)) fun e w' => e = .returned (.tuple #[sv s, .int .i64 0]) ∧ Below (wo.alloc (.cells #[.int .i64 ((n : Int) + 1)] 3)).heap.size (wo.alloc (.cells #[.int .i64 ((n : Int) + 1)] 3)) w') := find_hit 67 #[ptr wo.heap.size] (fun a => a.slot == (n : Int) + 1) ao cap l _ en67 HT.out HFD.out (by omega) k hk s hs' (by simp [h2]) h3
        have HSO : Hid (SOk s) := by show SOk s; rw [hs']; exact HD.out.ok _ (List.getElem_mem hk)
        have HCH : Hid (chk s.ware = 0) := by show _ = _; rw [hs']; exact (dchk_ware HDC.out (List.getElem_mem hk)).1
        clear HT HFD h2 h3 hs'
        by_cases hkd : s.ware.kind = 2
        rotate_left
        · have hkd2 : (s.ware.kind != 2) = true := by simp [hkd]
          have HR : Hid (tipsTo l (n + 1) = tipsTo l n) := by show _ = _; rw [tipsTo_succ, rackIn_kind h1 hkd, List.append_nil]
          clear h1 hkd
          go_wp2_with fail
          refine (standingIn_any ((n : Int) + 1) wo).mono ?_
          rintro e w2 ⟨rfl, rfl⟩
          go_wp2_with fail
          refine Calls.mono HF.out ?_
          rintro e w3 ⟨rfl, hb3⟩
          have HB3 : Hid (Below w.heap.size w w3) := (HBO.out.alloc hs _).trans (hb3.mono (by simp; omega))
          have HO3 : Hid (OwnR encP w3 w.heap.size (.slice aoT nT capT) (tipsTo l n)) := (HO.out.alloc _).later hb3
          clear hb3 HF
          go_wp2
          go_roundw
          case rel => exact ⟨n + 1, by omega, by go_num, by rw [HR.out]; exact HO3.out.alloc _, HB3.out.alloc HB3.out.size _⟩
          case measure => simp [intOf]; omega
        · have hkd2 : (s.ware.kind != 2) = false := by simp [hkd]
          obtain ⟨R, hR⟩ : ∃ R : Nat, s.ware.rows = R := ⟨s.ware.rows.toNat, by have := inR_iff.1 (chk_in HCH.out).2.2.1; omega⟩
          obtain ⟨C, hC⟩ : ∃ C : Nat, s.ware.cols = C := ⟨s.ware.cols.toNat, by have := inR_iff.1 (chk_in HCH.out).2.2.2.1; omega⟩
          have HR : Hid (tipsTo l (n + 1) = tipsTo l n ++ (spots R (C * R)).map (spotP ((n : Int) + 1))) := by show _ = _; rw [tipsTo_succ, rackIn_yes h1 hkd hR hC]
          have HAll : Hid (∀ W, Calls Tryz.prog 41 #[wv s.ware] W fun e w' => ∃ v, e = .returned (.tuple #[v, .int .i64 0]) ∧ Own w' (W.heap.size + 1) v (spots R (C * R)) ∧ Below W.heap.size W w') := fun W => all_ok s.ware R C W HSO.out.1 HCH.out hR hC
          have HSM : Hid (C * R ≤ 384) := by
            show _ ≤ _
            have a1 := inR_iff.1 (chk_in HCH.out).2.2.1
            have a2 := inR_iff.1 (chk_in HCH.out).2.2.2.1
            have := Nat.mul_le_mul (show C ≤ 24 by omega) (show R ≤ 16 by omega)
            omega
          clear h1 hR hC hkd
          generalize hSP : spots R (C * R) = sps at *
          have HSL : Hid (sps.length ≤ 384) := by show _ ≤ _; rw [← hSP, spots_length]; exact HSM.out
          clear hSP HSM
          go_wp2_with fail
          refine (standingIn_any ((n : Int) + 1) wo).mono ?_
          rintro e w2 ⟨rfl, rfl⟩
          go_wp2_with fail
          refine Calls.mono HF.out ?_
          rintro e w3 ⟨rfl, hb3⟩
          have HB3 : Hid (Below w.heap.size w w3) := (HBO.out.alloc hs _).trans (hb3.mono (by simp; omega))
          have HO3 : Hid (OwnR encP w3 w.heap.size (.slice aoT nT capT) (tipsTo l n)) := (HO.out.alloc _).later hb3
          clear hb3 HF HO HBO
          go_wp2_with fail
          refine Calls.mono (HAll.out _) ?_
          rintro e w4 ⟨u, rfl, hu, hb4⟩
          have HB4 : Hid (Below w.heap.size w w4) := (HB3.out.alloc HB3.out.size _).trans (hb4.mono (by have := HB3.out.size; simp; omega))
          have HO4 : Hid (OwnR encP w4 w.heap.size (.slice aoT nT capT) (tipsTo l n)) := (HO3.out.alloc _).later hb4
          have HSep : Hid ((Value.slice aoT nT capT).ownBlock = none ∨ u.ownBlock ≠ (Value.slice aoT nT capT).ownBlock) := sep_of (HO3.out.alloc (sobj s)) (own_spots hu) (by simp)
          obtain ⟨aoS, capS, rfl⟩ := (own_spots hu).shape
          have HU : Hid (OwnR encS w4 0 (.slice aoS sps.length capS) sps) := (own_spots hu).base (Nat.zero_le _)
          clear hu hb4 HAll HO3 HB3
          go_wp2_with fail
          go_loopw [5, 45] (fun v i wi => ∃ r : Nat, r ≤ sps.length ∧ i = .int .i64 r ∧ OwnR encP wi w.heap.size v (tipsTo l n ++ (sps.map (spotP ((n : Int) + 1))).take r) ∧ OwnR encS wi 0 (.slice aoS sps.length capS) sps ∧ (v.ownBlock = none ∨ (Value.slice aoS sps.length capS).ownBlock ≠ v.ownBlock) ∧ Below w.heap.size w wi) (fun _ i _ => sps.length - (intOf i).toNat)
          case atStart => exact ⟨0, by omega, rfl, by simpa using HO4.out, HU.out, HSep.out, HB4.out⟩
          case round =>
            obtain ⟨r, hr, rfl, hown, hu, hsep, hbi⟩ := hrel
            obtain ⟨aoV, nV, capV, rfl⟩ := hown.form
            have HOi : Hid (OwnR encP wr w.heap.size (.slice aoV nV capV) (tipsTo l n ++ (sps.map (spotP ((n : Int) + 1))).take r)) := hown
            have HUi : Hid (OwnR encS wr 0 (.slice aoS sps.length capS) sps) := hu
            have HSi : Hid ((Value.slice aoV nV capV).ownBlock = none ∨ (Value.slice aoS sps.length capS).ownBlock ≠ (Value.slice aoV nV capV).ownBlock) := hsep
            have HBi : Hid (Below w.heap.size w wr) := hbi
            clear hown hu hsep hbi HO4 HU HSep HB4
            have hsl := HSL.out
            by_cases hrl : r < sps.length
            · rcases HUi.out.read goodS with ⟨e0, _⟩ | ⟨g, cap0, e0, _, _, hg, hc⟩
              · rw [e0] at hrl; simp at hrl
              injection e0 with e1 e2 e3
              subst e1
              have q0 := hc r hrl 0 (by decide)
              have q1 := hc r hrl 1 (by decide)
              have HTk : Hid ((sps.map (spotP ((n : Int) + 1))).take (r + 1) = (sps.map (spotP ((n : Int) + 1))).take r ++ [spotP ((n : Int) + 1) (sps[r]'hrl)]) := take_map_succ _ hrl
              generalize sps[r]'hrl = sp at *
              simp only [List.getElem?_cons_zero, List.getElem?_cons_succ, Nat.add_zero] at q0 q1
              clear hc e2 e3
              have hsz := HBi.out.size
              have hgn : g ≠ wr.heap.size := by omega
              have HLen : Hid ((tipsTo l n ++ (sps.map (spotP ((n : Int) + 1))).take r).length ≤ 1000000000) := by
                show _ ≤ _
                have a1 := tipsTo_length HDC.out n
                rw [List.length_append, List.length_take, List.length_map]
                have a2 := HSL.out
                omega
              go_wp2_with (at_builtin; refine wpList_append_row goodP Tryz.underlying38 infoP rfl (by decide) (by decide) _ rfl (.tmp 49) (.tmp 53) rfl w.heap.size (.slice aoV nV capV) (tipsTo l n ++ (sps.map (spotP ((n : Int) + 1))).take r) rfl ((HOi.out.alloc _).alloc _) (wr.heap.size + 1) (spotP ((n : Int) + 1) sp) rfl (fun j u hu => (Bk.new (wr.alloc _) _ 57 (wr.heap.size + 1) (by simp)).c j hu) HLen.out (by simp; omega) ?_; intro v' w5 ho hg' hloc)
              have HO5 : Hid (OwnR encP w5 w.heap.size v' (tipsTo l n ++ (sps.map (spotP ((n : Int) + 1))).take (r + 1))) := by show OwnR _ _ _ _ _; rw [HTk.out, ← List.append_assoc]; exact ho
              have HU5 := (show Hid _ from sep_kept HSi.out ((HUi.out.alloc _).alloc _) hg' hloc)
              have HB5 : Hid (Below w.heap.size w w5) := below_row ((HBi.out.alloc hsz _).alloc (by simp; omega) _) ((HOi.out.alloc _).alloc _) hg' (by simp; omega)
              clear ho hg' hloc
              go_roundw
              case rel => exact ⟨r + 1, by omega, by go_num, HO5.out, HU5.out.1, HU5.out.2, HB5.out⟩
              case measure => simp [intOf]; omega
            · have HE : Hid (r = sps.length) := by show _ = _; omega
              go_wp2
              go_roundw
              case rel =>
                refine ⟨n + 1, by omega, by go_num, ?_, HBi.out⟩
                have := HOi.out
                rw [HE.out, List.take_of_length_le (by simp)] at this
                rw [HR.out]
                exact this
              case measure => simp [intOf]; omega
    · have HE : Hid (n = 12) := by show _ = _; omega
      go_wp2
      go_ret2
      refine ⟨_, rfl, ?_, HBO.out⟩
      have := HO.out
      rw [HE.out, tipsTo_all] at this
      exact this
abbrev put3 (w : World) (b : Nat) (x y z : Int) : World := ((w.setCell ⟨b, 0, none⟩ (.int .i64 x)).setCell ⟨b, 1, none⟩ (.int .i64 y)).setCell ⟨b, 2, none⟩ (.int .i64 z)
theorem below_put3 {n b : Nat} {w w' : World} {x y z : Int} (h : Below n w w') (hn : n ≤ b) : Below n w (put3 w' b x y z) :=
  ((h.setCell hn _).setCell hn _).setCell hn _

def atV (s : Sit) (X Y Z mx my mz : Int) (S : Nat) (d : Nat) (v : Value) (_ : World) : Prop :=
  match d with
  | 39 => v = .pointer (some ⟨S, 0, none⟩)
  | 40 => v = .int .i64 s.slot
  | 41 => v = ptv (cx s.slot) (cy s.slot) 0
  | 42 => v = ptv mx my mz
  | 43 => v = ptv X Y Z
  | _ => True

set_option maxHeartbeats 6400000 in
set_option maxRecDepth 100000 in
theorem at_ok (ao : Option Addr) (cap : Nat) (l : List Sit) (n r c : Int) (w : World) (hL : Sts w ao l) (hcap : l.length ≤ cap) (hl : l.length ≤ 9223372036854775807) (hok : ∀ s ∈ l, SOk s) (hd : dchk l = 0) (k : Nat) (hk : k < l.length) (s : Sit) (hs : s = l[k]'hk) (hhit : s.slot = n) (hno : ∀ b ∈ l.take k, (b.slot == n) = false) (hsp : spotOk r c s.ware.rows s.ware.cols = true) :
    Calls Tryz.prog 46 #[.slice ao l.length cap, ptv n r c] w fun e w' => e = .returned (.tuple #[ptv (cx s.slot + (s.ware.x + c * s.ware.pitch)) (cy s.slot + (s.ware.y + r * s.ware.pitch)) (0 + (s.ware.hei - s.ware.deep)), .int .i64 0]) ∧ Below w.heap.size w w' := by
  have al : Below w.heap.size w ((w.alloc (plo n r c)).alloc (pto 0 0 0)) := ((Below.refl _ _).alloc (Nat.le_refl _) _).alloc (by simp) _
  have HC : Hid (Calls Tryz.prog 19 #[.slice ao l.length cap] ((w.alloc (plo n r c)).alloc (pto 0 0 0)) fun e w' => e = .returned (.int .i64 0) ∧ Below ((w.alloc (plo n r c)).alloc (pto 0 0 0)).heap.size ((w.alloc (plo n r c)).alloc (pto 0 0 0)) w') := by
    have := deckCheck_any ao cap l _ (hL.next al) hcap hl hok
    rw [hd] at this
    exact this
  have HF : Hid (∀ W : World, Below w.heap.size w W → Calls Tryz.prog 39 #[.slice ao l.length cap, .func (.func 67) #[] #[ptr W.heap.size]] (W.alloc (.cells #[.int .i64 n] 3)) fun e w' => e = .returned (.tuple #[sv s, .int .i64 0]) ∧ Below (W.alloc (.cells #[.int .i64 n] 3)).heap.size (W.alloc (.cells #[.int .i64 n] 3)) w') := fun W hW =>
    find_hit 67 #[ptr W.heap.size] (fun a => a.slot == n) ao cap l _ en67 (fun a W' hW' => standing_test a n W.heap.size W' (by have := hW'.size; simp at this; omega) (cell_later hW' (by go_simp))) (hL.next (hW.alloc hW.size _)) hl k hk s hs (by simp [hhit]) hno
  have HSO : Hid (SOk s) := by show SOk s; rw [hs]; exact hok _ (List.getElem_mem hk)
  have HCH : Hid (chk s.ware = 0) := by show _ = _; rw [hs]; exact ((dchk_in hd).2 k hk).2.1
  have HPL : Hid (1 ≤ s.slot ∧ s.slot ≤ 12) := by show _ ∧ _; rw [hs]; exact ⟨(plc_in ((dchk_in hd).2 k hk).1).1, (plc_in ((dchk_in hd).2 k hk).1).2.1⟩
  have HSP : Hid (spotOk r c s.ware.rows s.ware.cols = true) := hsp
  obtain ⟨mx, hmx⟩ : ∃ mx, mx = s.ware.x + c * s.ware.pitch := ⟨_, rfl⟩
  obtain ⟨my, hmy⟩ : ∃ my, my = s.ware.y + r * s.ware.pitch := ⟨_, rfl⟩
  obtain ⟨mz, hmz⟩ : ∃ mz, mz = s.ware.hei - s.ware.deep := ⟨_, rfl⟩
  have HIN : Hid (∀ m ∈ [cx s.slot, cy s.slot, 0, mx, my, mz], 0 ≤ m ∧ m ≤ 1000000000000) := by
    have hin := chk_inR HCH.out
    have h1 := spotOk_iff.1 HSP.out
    have h2 := prod_in (c := c) (p := s.ware.pitch) h1.2.1 (by have := hin.c2; omega) hin.p0 hin.p1
    have h3 := prod_in (c := r) (p := s.ware.pitch) h1.1.1 (by have := hin.r2; omega) hin.p0 hin.p1
    have h4 := (chk_in HCH.out).2.2.2.2.2
    simp only [roomOk, Bool.and_eq_true, decide_eq_true_eq] at h4
    have h5 := cx_in (n := s.slot)
    have h6 := cy_in HPL.out.1 HPL.out.2
    obtain ⟨_, _, _, _, _, _, _, _, _, _, _, _, _, _, _, _, _, _⟩ := hin
    intro m hm
    simp only [List.mem_cons, List.mem_nil_iff, or_false] at hm
    rcases hm with e | e | e | e | e | e <;> omega
  have HMD : Hid (∀ W : World, Calls Tryz.prog 72 #[wv s.ware, .agg #[.int .i64 r, .int .i64 c]] W fun e w' => e = .returned (.tuple #[ptv mx my mz, .int .i64 0]) ∧ Below W.heap.size W w') := fun W => by
    rw [hmx, hmy, hmz]; exact middle_ok s.ware r c W HSO.out.1 HCH.out HSP.out
  rw [← hmx, ← hmy, ← hmz]
  obtain ⟨X, hX⟩ : ∃ X, X = cx s.slot + mx := ⟨_, rfl⟩
  obtain ⟨Y, hY⟩ : ∃ Y, Y = cy s.slot + my := ⟨_, rfl⟩
  obtain ⟨Z, hZ⟩ : ∃ Z, Z = 0 + mz := ⟨_, rfl⟩
  have HCO : Hid (∀ W : World, Calls Tryz.prog 36 #[.int .i64 s.slot] W fun e w' => e = .returned (ptv (cx s.slot) (cy s.slot) 0) ∧ Below W.heap.size W w') := fun W => corner_any s.slot W HPL.out.1 HPL.out.2
  have HAD : Hid (∀ W : World, Calls Tryz.prog 37 #[ptv (cx s.slot) (cy s.slot) 0, ptv mx my mz] W fun e w' => e = .returned (ptv X Y Z) ∧ Below W.heap.size W w') := fun W => by
    rw [hX, hY, hZ]; exact added_any _ _ _ _ _ _ W HIN.out
  rw [← hX, ← hY, ← hZ]
  clear hX hY hZ
  clear hL hok hd hno hs hhit hsp hmx hmy hmz
  go_enter Tryz.func46, Tryz.ntmps46
  go_wp2_with fail
  refine Calls.mono HC.out ?_
  rintro e w1 ⟨rfl, hb⟩
  have TP : Hid (T3 w.heap.size n r c w1) := ((T3.new w n r c 57 w.heap.size rfl).later ((Below.refl _ _).alloc (Nat.le_refl _) _)).later hb
  have TR : Hid (T3 (w.heap.size + 1) 0 0 0 w1) := (T3.new (w.alloc (plo n r c)) 0 0 0 29 (w.heap.size + 1) (by simp)).later hb
  have HB : Hid (Below w.heap.size w w1) := al.trans (hb.mono (by simp; omega))
  obtain ⟨_, p0, p1, p2, _, _, _⟩ := TP.out
  clear hb al HC
  go_wp2_with fail
  refine (standingIn_any n w1).mono ?_
  rintro e w2 ⟨rfl, rfl⟩
  go_wp2_with fail
  refine Calls.mono (HF.out w1 HB.out) ?_
  rintro e w3 ⟨rfl, hb3⟩
  have al1 : Below w1.heap.size w1 (w1.alloc (.cells #[.int .i64 n] 3)) := (Below.refl _ _).alloc (Nat.le_refl _) _
  have HB3 : Hid (Below w.heap.size w w3) := (HB.out.alloc HB.out.size _).trans (hb3.mono (by have := HB.out.size; simp; omega))
  have TP3 : Hid (T3 w.heap.size n r c w3) := (TP.out.later al1).later hb3
  have TR3 : Hid (T3 (w.heap.size + 1) 0 0 0 w3) := (TR.out.later al1).later hb3
  clear hb3 al1 p0 p1 p2 TP TR HB HF
  obtain ⟨_, q0, q1, q2, _, _, _⟩ := TP3.out
  go_wp2_with fail
  refine Calls.mono (HMD.out (w3.alloc (sobj s))) ?_
  rintro e w5 ⟨rfl, hb5⟩
  have al3 : Below w3.heap.size w3 (w3.alloc (sobj s)) := (Below.refl _ _).alloc (Nat.le_refl _) _
  have HB5 : Hid (Below w.heap.size w w5) := (HB3.out.alloc HB3.out.size _).trans (hb5.mono (by have := HB3.out.size; simp; omega))
  have TR5 : Hid (T3 (w.heap.size + 1) 0 0 0 w5) := (TR3.out.later al3).later hb5
  have KS5 : Hid (Sf w3.heap.size s w5) := (Sf.new w3 s).later hb5
  clear hb5 al3 q0 q1 q2 TR3 TP3 HMD
  go_wp2_with fail
  obtain ⟨w6, hw6⟩ : ∃ w6, w6 = w5.alloc (pto mx my mz) := ⟨_, rfl⟩
  have al5 : Below w5.heap.size w5 w6 := by rw [hw6]; exact (Below.refl _ _).alloc (Nat.le_refl _) _
  have TR6 : Hid (T3 (w.heap.size + 1) 0 0 0 w6) := TR5.out.later al5
  have KS6 : Hid (Sf w3.heap.size s w6) := KS5.out.later al5
  have TM6 : Hid (T3 w5.heap.size mx my mz w6) := by show T3 _ _ _ _ _; rw [hw6]; exact T3.new w5 mx my mz 29 _ rfl
  have HB6 : Hid (Below w.heap.size w w6) := HB5.out.trans (al5.mono HB5.out.size)
  rw [← hw6]
  clear hw6 al5 TR5 KS5 HB5
  refine region_seq 5 [false, false, false, false, false, false, false, false, false, false, false, false, false, false, false, false, false, false, false, false, false, false, false, false, false, false, false, false, false, false, false, false, false, false, false, false, false, false, false, true, true, true, true, true]
    [(39, [], none), (40, [39], none), (41, [40], none), (42, [], none), (43, [41, 42], none)]
    (atV s X Y Z mx my mz w3.heap.size) (by kernel_rfl) (by kernel_rfl) (by kernel_rfl) (by kernel_rfl) (by kernel_rfl) (by decide) (fun _ _ _ _ h _ => h) ?_ ?_
  · refine ⟨?_, ?_, ?_, ?_, ?_, trivial⟩
    · intro f w1 hb _ K hK
      simp only [over, overL, Nat.reduceAdd]
      go_simp
      exact hK _ _ ⟨_, rfl, by simp only [over, overL, Nat.reduceAdd]; rfl, Below.refl _ _⟩
    · intro f w1 hb ⟨h39, _⟩ K hK
      have h39 : f 39 = _ := h39
      obtain ⟨⟨al, a0, a1, a2, a3, a4, a5, a6, a7, a8, a9, a10, a11, a12, a13⟩, _⟩ := (KS6.out).later hb
      simp only [Nat.zero_add] at a1 a2 a3 a4 a5 a6 a7 a8 a9 a10 a11 a12 a13
      simp only [over, overL, Nat.reduceAdd, h39]
      go_simp
      exact hK _ _ ⟨_, rfl, by simp only [over, overL, Nat.reduceAdd, h39]; rfl, Below.refl _ _⟩
    · intro f w1 hb ⟨h40, _⟩ K hK
      have h40 : f 40 = _ := h40
      simp only [over, overL, Nat.reduceAdd, h40]
      go_simp
      refine Calls.mono (HCO.out _) ?_
      rintro e w9 ⟨rfl, hb9⟩
      exact hK _ _ ⟨_, rfl, by simp only [over, overL, Nat.reduceAdd, h40]; rfl, hb9⟩
    · intro f w1 hb _ K hK
      obtain ⟨_, t0, t1, t2, _, _, _⟩ := TM6.out.later hb
      simp only [over, overL, Nat.reduceAdd]
      go_simp
      exact hK _ _ ⟨_, rfl, by simp only [over, overL, Nat.reduceAdd]; rfl, Below.refl _ _⟩
    · intro f w1 hb ⟨h41, h42, _⟩ K hK
      have h41 : f 41 = _ := h41
      have h42 : f 42 = _ := h42
      simp only [over, overL, Nat.reduceAdd, h41, h42]
      go_simp
      refine Calls.mono (HAD.out _) ?_
      rintro e w9 ⟨rfl, hb9⟩
      exact hK _ _ ⟨_, rfl, by simp only [over, overL, Nat.reduceAdd, h41, h42]; rfl, hb9⟩
  intro f w7 hb7 hv
  have h43 : f 43 = ptv X Y Z := hv.2.2.2.2.1
  obtain ⟨_, c0, c1, c2, f0, f1, f2⟩ := TR6.out.later hb7
  have HB7 : Hid (Below w.heap.size w w7) := HB6.out.trans (hb7.mono HB6.out.size)
  clear hb7 hv HCO HAD HIN
  simp only [over, overL, h43, Nat.reduceAdd, List.drop_succ_cons, List.drop_zero]
  clear h43
  go_wp2
  refine bodyPost_ret (v := .tuple #[ptv X Y Z, .int .i64 0]) (by simp [results, Tryz.results46, go_sem, c0, c1, c2]) rfl ⟨rfl, below_put3 HB7.out (by omega)⟩
end Go.Proofs.YtcajifelbldjnaaGreat

/- aim, tip, drop, warm, pass, shake walked. -/
namespace Go.Proofs.YtcajifelbldjnaaGreat
open Go.RowKit
abbrev acl (a : Acn) : List Value := [.int .i64 a.kind, .int .i64 a.pl.1, .int .i64 a.pl.2.1, .int .i64 a.pl.2.2, .string a.label, .int .i64 a.vol, .int .i64 a.value, .int .i64 a.time]
theorem tips_few {l : List Sit} (hd : dchk l = 0) : (tipsL l).length ≤ 4608 := by
  have := tipsTo_length hd 12
  rw [tipsTo_all] at this
  omega
def amV (b B : Nat) (ao : Option Addr) (cap : Nat) (l : List Sit) (a : Acn) (d : Nat) (v : Value) (_ : World) : Prop :=
  match d with
  | 9 => v = .pointer (some ⟨b, 0, none⟩)
  | 10 => v = .pointer (some ⟨b, 0, none⟩)
  | 11 => v = .pointer (some ⟨b, 0, none⟩)
  | 12 => v = .agg #[.slice ao l.length cap, .int .i64 ((tipsL l).length : Int), .int .i64 (tipM l)]
  | 13 => v = .pointer (some ⟨B, 1, none⟩)
  | 14 => v = .agg #[.int .i64 a.pl.1, .int .i64 a.pl.2.1, .int .i64 a.pl.2.2]
  | 15 => v = .tuple #[.int .i64 (wellM l a.pl).1, .int .i64 (wellM l a.pl).2]
  | 8 => v = .tuple #[.int .i64 (wellM l a.pl).1, .int .i64 (wellM l a.pl).2]
  | 16 => v = .int .i64 (wellM l a.pl).1
  | 17 => v = .int .i64 (wellM l a.pl).2
  | 6 => v = .int .i64 (wellM l a.pl).1
  | 7 => v = .int .i64 (wellM l a.pl).2
  | _ => True
theorem amV_mono (b B : Nat) (ao : Option Addr) (cap : Nat) (l : List Sit) (a : Acn) (d : Nat) (v : Value) (w w' : World) (h : amV b B ao cap l a d v w) (_ : Below w.heap.size w w') : amV b B ao cap l a d v w' := h
set_option maxHeartbeats 3200000 in
set_option maxRecDepth 100000 in
theorem aim_any (wB w : World) (ao : Option Addr) (cap : Nat) (l : List Sit) (b m md : Nat) (s : Sta) (a : Acn) (hB : Bn wB w ao cap l b m md s) :
    Calls Tryz.prog 108 #[ptr b, av a] w fun e w' => e = .returned (.tuple #[.int .i64 (aimR l a).1, .int .i64 (aimR l a).2]) ∧ Below w.heap.size w w' := by
  have HBN : Hid (Bn wB w ao cap l b m md s) := hB
  clear hB
  obtain ⟨w0, hw0⟩ : ∃ w0, w0 = w.alloc (aobj a) := ⟨_, rfl⟩
  have b0 : Below w.heap.size w w0 := by rw [hw0]; exact (Below.refl _ _).alloc (Nat.le_refl _) _
  have KA : Hid (Bk w.heap.size (acl a) w0) := by show Bk _ _ _; rw [hw0]; exact Bk.new w (acl a) 59 w.heap.size rfl
  have HB0 : Hid (Bn wB w0 ao cap l b m md s) := HBN.out.next b0
  have HW0 : Hid (w0 = w.alloc (aobj a)) := hw0
  clear hw0 b0
  obtain ⟨cw, aoH, capH, aoT, capT, K, hh, ht⟩ := HB0.out.bk
  have KB : Hid (Bk b (bcs ao cap l md m cw s aoH capH aoT capT) w0) := K
  have HH : Hid (Flx b m w0 aoH s.held) := hh
  have HT : Hid (Txx b m w0 aoT s.touched) := ht
  have hbw : b < w.heap.size := by obtain ⟨_, _, _, _, _, K', _⟩ := HBN.out.bk; exact K'.1
  have hbn : b ≠ w.heap.size := by omega
  have lt0 := KB.out.1
  clear K hh ht
  have HBW : Hid (Below w.heap.size w w0) := by show Below _ _ _; rw [HW0.out]; exact (Below.refl _ _).alloc (Nat.le_refl _) _
  have HQ : Hid (aimR l a = if (wellM l a.pl).2 = 0 then (if inR 1 1000000000 a.vol = true then ((wellM l a.pl).1, 0) else ((wellM l a.pl).1, 2)) else wellM l a.pl) := rfl
  go_enter Tryz.func108, Tryz.ntmps108
  go_wp2_with fail
  rename_i KK hkk
  have HKK := (show Hid _ from hkk)
  clear hkk
  rw [← HW0.out]
  refine region_seqE 12 [false, false, false, false, false, false, true, true, true, true, true, true, true, true, true, true, true, true, false, false, false, false, false, false, false, false, false, false]
    [(9, [], none), (10, [9], none), (11, [10], none), (12, [11], none), (13, [], none), (14, [13], none), (15, [12, 14], none), (8, [15], none), (16, [8], none), (17, [8], none), (6, [16], none), (7, [17], none)]
    (amV b w.heap.size ao cap l a) (by kernel_rfl) (by kernel_rfl) (by kernel_rfl) (by kernel_rfl) (by kernel_rfl) (by decide) (amV_mono b w.heap.size ao cap l a) ?_ ?_
  · refine ⟨?_, ?_, ?_, ?_, ?_, ?_, ?_, ?_, ?_, ?_, ?_, ?_, trivial⟩
    · intro f w1 hb _ K hK
      simp only [over, overL, Nat.reduceAdd]
      go_simp
      exact hK _ _ ⟨_, rfl, by simp only [over, overL, Nat.reduceAdd]; rfl, Below.refl _ _⟩
    · intro f w1 hb ⟨h9, _⟩ K hK
      replace h9 : f 9 = _ := h9
      simp only [over, overL, Nat.reduceAdd, h9]
      go_simp
      exact hK _ _ ⟨_, rfl, by simp only [over, overL, Nat.reduceAdd, h9]; rfl, Below.refl _ _⟩
    · intro f w1 hb ⟨h10, _⟩ K hK
      replace h10 : f 10 = _ := h10
      simp only [over, overL, Nat.reduceAdd, h10]
      go_simp
      exact hK _ _ ⟨_, rfl, by simp only [over, overL, Nat.reduceAdd, h10]; rfl, Below.refl _ _⟩
    · intro f w1 hb ⟨h11, _⟩ K hK
      replace h11 : f 11 = _ := h11
      have q0 := (KB.out.later hb).c 0 rfl
      have q1 := (KB.out.later hb).c 1 rfl
      have q2 := (KB.out.later hb).c 2 rfl
      simp only [over, overL, Nat.reduceAdd, h11]
      go_simp
      exact hK _ _ ⟨_, rfl, by simp only [over, overL, Nat.reduceAdd, h11]; rfl, Below.refl _ _⟩
    · intro f w1 hb _ K hK
      simp only [over, overL, Nat.reduceAdd]
      go_simp
      exact hK _ _ ⟨_, rfl, by simp only [over, overL, Nat.reduceAdd]; rfl, Below.refl _ _⟩
    · intro f w1 hb ⟨h13, _⟩ K hK
      replace h13 : f 13 = _ := h13
      have q1 := (KA.out.later hb).c 1 rfl
      have q2 := (KA.out.later hb).c 2 rfl
      have q3 := (KA.out.later hb).c 3 rfl
      simp only [over, overL, Nat.reduceAdd, h13]
      go_simp
      exact hK _ _ ⟨_, rfl, by simp only [over, overL, Nat.reduceAdd, h13]; rfl, Below.refl _ _⟩
    · intro f w1 hb ⟨h12, h14, _⟩ K hK
      replace h12 : f 12 = _ := h12
      replace h14 : f 14 = _ := h14
      simp only [over, overL, Nat.reduceAdd, h12, h14]
      go_simp
      refine (wellMost_any ao cap l a.pl w1 (HB0.out.next hb).dkw HB0.out.hd).mono ?_
      rintro e w2 ⟨rfl, hb2⟩
      exact hK _ _ ⟨_, rfl, by simp only [over, overL, Nat.reduceAdd, h12, h14]; rfl, hb2⟩
    · intro f w1 hb ⟨h15, _⟩ K hK
      replace h15 : f 15 = _ := h15
      simp only [over, overL, Nat.reduceAdd, h15]
      go_simp
      exact hK _ _ ⟨_, rfl, by simp only [over, overL, Nat.reduceAdd, h15]; rfl, Below.refl _ _⟩
    · intro f w1 hb ⟨h8, _⟩ K hK
      replace h8 : f 8 = _ := h8
      simp only [over, overL, Nat.reduceAdd, h8]
      go_simp
      exact hK _ _ ⟨_, rfl, by simp only [over, overL, Nat.reduceAdd, h8]; rfl, Below.refl _ _⟩
    · intro f w1 hb ⟨h8, _⟩ K hK
      replace h8 : f 8 = _ := h8
      simp only [over, overL, Nat.reduceAdd, h8]
      go_simp
      exact hK _ _ ⟨_, rfl, by simp only [over, overL, Nat.reduceAdd, h8]; rfl, Below.refl _ _⟩
    · intro f w1 hb ⟨h16, _⟩ K hK
      replace h16 : f 16 = _ := h16
      simp only [over, overL, Nat.reduceAdd, h16]
      go_simp
      exact hK _ _ ⟨_, rfl, by simp only [over, overL, Nat.reduceAdd, h16]; rfl, Below.refl _ _⟩
    · intro f w1 hb ⟨h17, _⟩ K hK
      replace h17 : f 17 = _ := h17
      simp only [over, overL, Nat.reduceAdd, h17]
      go_simp
      exact hK _ _ ⟨_, rfl, by simp only [over, overL, Nat.reduceAdd, h17]; rfl, Below.refl _ _⟩
  intro f w1 hb hv
  have h6 : f 6 = _ := hv.2.2.2.2.2.2.2.2.2.2.1
  have h7 : f 7 = _ := hv.2.2.2.2.2.2.2.2.2.2.2.1
  have KA1 : Hid (Bk w.heap.size (acl a) w1) := KA.out.later hb
  have HB1 : Hid (Below w.heap.size w w1) := HBW.out.trans (hb.mono HBW.out.size)
  clear hv hb
  simp only [List.drop, over, overL, Nat.reduceAdd, h6, h7]
  clear h6 h7
  go_wp2
  refine HKK.out _ _ ?_
  have q0 := (KA1.out).c 0 rfl
  have q1 := (KA1.out).c 1 rfl
  have q2 := (KA1.out).c 2 rfl
  have q3 := (KA1.out).c 3 rfl
  have q4 := (KA1.out).c 4 rfl
  have q5 := (KA1.out).c 5 rfl
  have q6 := (KA1.out).c 6 rfl
  have q7 := (KA1.out).c 7 rfl
  obtain ⟨⟨mo, e0⟩, hM⟩ : ∃ x, wellM l a.pl = x := ⟨_, rfl⟩
  rw [hM] at HQ ⊢
  simp only at HQ ⊢
  clear hM
  by_cases he : e0 = 0
  · subst he
    cases hv : inR 1 1000000000 a.vol with
    | true =>
      have HQ2 : Hid (aimR l a = (mo, 0)) := by show _ = _; rw [HQ.out, if_pos rfl, if_pos hv]
      go_wp2_with fail
      refine (mwithin_any 1 a.vol 1000000000 w1).mono ?_
      rintro e w2 ⟨rfl, rfl⟩
      rw [hv]
      go_wp2
      go_ret2
      exact ⟨by rw [HQ2.out]; rfl, HB1.out⟩
    | false =>
      have HQ2 : Hid (aimR l a = (mo, 2)) := by show _ = _; rw [HQ.out, if_pos rfl, if_neg (by rw [hv]; decide)]
      go_wp2_with fail
      refine (mwithin_any 1 a.vol 1000000000 w1).mono ?_
      rintro e w2 ⟨rfl, rfl⟩
      rw [hv]
      go_wp2
      go_ret2
      exact ⟨by rw [HQ2.out]; rfl, HB1.out⟩
  · have he2 : (e0 == 0) = false := by simp [he]
    have HQ2 : Hid (aimR l a = (mo, e0)) := by show _ = _; rw [HQ.out, if_neg he]
    clear he
    go_wp2
    go_ret2
    exact ⟨by rw [HQ2.out]; rfl, HB1.out⟩
theorem bn_tip {wB w : World} {ao : Option Addr} {cap : Nat} {l : List Sit} {b m md : Nat} {s : Sta} (h : Bn wB w ao cap l b m md s) (hq : tipA l s = ({ s with tip := true, used := s.used + 1 }, 0)) : Bn wB (((w).setCell ⟨b, 6, none⟩ (.bool true)).setCell ⟨b, 9, none⟩ (.int .i64 (s.used + 1))) ao cap l b m md (tipA l s).1 := by
  obtain ⟨cw, aoH, capH, aoT, capT, K, hh, ht⟩ := h.bk
  have hbut : But b m w (((w).setCell ⟨b, 6, none⟩ (.bool true)).setCell ⟨b, 9, none⟩ (.int .i64 (s.used + 1))) := (but_set b m (w) 6 (.bool true)).trans (but_set b m ((w).setCell ⟨b, 6, none⟩ (.bool true)) 9 (.int .i64 (s.used + 1)))
  obtain ⟨wl, hwm, hwl, hfl⟩ := h.wells
  have hmb : m ≠ b := fun e => h.ne.1 e.symm
  have hmay := (may_tip h.hd h.may (by rw [hq])).1
  rw [hq] at hmay ⊢
  have hwm2 : WM (((w).setCell ⟨b, 6, none⟩ (.bool true)).setCell ⟨b, 9, none⟩ (.int .i64 (s.used + 1))) m wl := hwm.same ((Below.heap_setCell ((w).setCell ⟨b, 6, none⟩ (.bool true)) ⟨b, 9, none⟩ (.int .i64 (s.used + 1)) m hmb).trans (Below.heap_setCell (w) ⟨b, 6, none⟩ (.bool true) m hmb))
  exact h.turned hbut hmay hwm2 hwl (fun x hx => (hfl x hx).but hbut) (cw := cw) (aoH := aoH) (capH := capH) (aoT := aoT) (capT := capT) (((K).put 6 (.bool true)).put 9 (.int .i64 (s.used + 1))) (hh.but hbut) (ht.but hbut)
theorem bn_drop {wB w : World} {ao : Option Addr} {cap : Nat} {l : List Sit} {b m md : Nat} {s : Sta} (h : Bn wB w ao cap l b m md s) (hq : dropA s = ({ s with tip := false, held := [], touched := [] }, 0)) : Bn wB ((((w).setCell ⟨b, 6, none⟩ (.bool false)).setCell ⟨b, 7, none⟩ (.slice none 0 0)).setCell ⟨b, 8, none⟩ (.slice none 0 0)) ao cap l b m md (dropA s).1 := by
  obtain ⟨cw, aoH, capH, aoT, capT, K, hh, ht⟩ := h.bk
  have hbut : But b m w ((((w).setCell ⟨b, 6, none⟩ (.bool false)).setCell ⟨b, 7, none⟩ (.slice none 0 0)).setCell ⟨b, 8, none⟩ (.slice none 0 0)) := ((but_set b m (w) 6 (.bool false)).trans (but_set b m ((w).setCell ⟨b, 6, none⟩ (.bool false)) 7 (.slice none 0 0))).trans (but_set b m (((w).setCell ⟨b, 6, none⟩ (.bool false)).setCell ⟨b, 7, none⟩ (.slice none 0 0)) 8 (.slice none 0 0))
  obtain ⟨wl, hwm, hwl, hfl⟩ := h.wells
  have hmb : m ≠ b := fun e => h.ne.1 e.symm
  have hmay := (may_drop h.may (by rw [hq])).1
  rw [hq] at hmay ⊢
  have hwm2 : WM ((((w).setCell ⟨b, 6, none⟩ (.bool false)).setCell ⟨b, 7, none⟩ (.slice none 0 0)).setCell ⟨b, 8, none⟩ (.slice none 0 0)) m wl := hwm.same ((Below.heap_setCell (((w).setCell ⟨b, 6, none⟩ (.bool false)).setCell ⟨b, 7, none⟩ (.slice none 0 0)) ⟨b, 8, none⟩ (.slice none 0 0) m hmb).trans ((Below.heap_setCell ((w).setCell ⟨b, 6, none⟩ (.bool false)) ⟨b, 7, none⟩ (.slice none 0 0) m hmb).trans (Below.heap_setCell (w) ⟨b, 6, none⟩ (.bool false) m hmb)))
  exact h.turned hbut hmay hwm2 hwl (fun x hx => (hfl x hx).but hbut) (cw := cw) (aoH := none) (capH := 0) (aoT := none) (capT := 0) ((((K).put 6 (.bool false)).put 7 (.slice none 0 0)).put 8 (.slice none 0 0)) ⟨⟨fun p hp => (by simp at hp), .inl rfl⟩, .inl rfl⟩ ⟨⟨fun p hp => (by simp at hp), .inl rfl⟩, .inl rfl⟩
theorem bn_warm {wB w : World} {ao : Option Addr} {cap : Nat} {l : List Sit} {b m md : Nat} {s : Sta} {a : Acn} (h : Bn wB w ao cap l b m md s) (hq : warmA s a = ({ s with heat := a.value }, 0)) : Bn wB ((w).setCell ⟨b, 10, none⟩ (.int .i64 a.value)) ao cap l b m md (warmA s a).1 := by
  obtain ⟨cw, aoH, capH, aoT, capT, K, hh, ht⟩ := h.bk
  have hbut : But b m w ((w).setCell ⟨b, 10, none⟩ (.int .i64 a.value)) := but_set b m (w) 10 (.int .i64 a.value)
  obtain ⟨wl, hwm, hwl, hfl⟩ := h.wells
  have hmb : m ≠ b := fun e => h.ne.1 e.symm
  have hmay := (may_warm h.may (by rw [hq])).1
  rw [hq] at hmay ⊢
  have hwm2 : WM ((w).setCell ⟨b, 10, none⟩ (.int .i64 a.value)) m wl := hwm.same (Below.heap_setCell (w) ⟨b, 10, none⟩ (.int .i64 a.value) m hmb)
  exact h.turned hbut hmay hwm2 hwl (fun x hx => (hfl x hx).but hbut) (cw := cw) (aoH := aoH) (capH := capH) (aoT := aoT) (capT := capT) ((K).put 10 (.int .i64 a.value)) (hh.but hbut) (ht.but hbut)
theorem bn_pass {wB w : World} {ao : Option Addr} {cap : Nat} {l : List Sit} {b m md : Nat} {s : Sta} {a : Acn} (h : Bn wB w ao cap l b m md s) (hq : passA s a = ({ s with clock := s.clock + a.time }, 0)) : Bn wB ((w).setCell ⟨b, 11, none⟩ (.int .i64 (s.clock + a.time))) ao cap l b m md (passA s a).1 := by
  obtain ⟨cw, aoH, capH, aoT, capT, K, hh, ht⟩ := h.bk
  have hbut : But b m w ((w).setCell ⟨b, 11, none⟩ (.int .i64 (s.clock + a.time))) := but_set b m (w) 11 (.int .i64 (s.clock + a.time))
  obtain ⟨wl, hwm, hwl, hfl⟩ := h.wells
  have hmb : m ≠ b := fun e => h.ne.1 e.symm
  have hmay := (may_pass h.may (by rw [hq])).1
  rw [hq] at hmay ⊢
  have hwm2 : WM ((w).setCell ⟨b, 11, none⟩ (.int .i64 (s.clock + a.time))) m wl := hwm.same (Below.heap_setCell (w) ⟨b, 11, none⟩ (.int .i64 (s.clock + a.time)) m hmb)
  exact h.turned hbut hmay hwm2 hwl (fun x hx => (hfl x hx).but hbut) (cw := cw) (aoH := aoH) (capH := capH) (aoT := aoT) (capT := capT) ((K).put 11 (.int .i64 (s.clock + a.time))) (hh.but hbut) (ht.but hbut)
set_option maxHeartbeats 3200000 in
set_option maxRecDepth 100000 in
theorem tip_any (wB w : World) (ao : Option Addr) (cap : Nat) (l : List Sit) (b m md : Nat) (s : Sta) (a : Acn) (hB : Bn wB w ao cap l b m md s) :
    Calls Tryz.prog 82 #[ptr b, av a] w fun e w' => e = .returned (.int .i64 (tipA l s).2) ∧ Bn wB w' ao cap l b m md (tipA l s).1 := by
  have HBN : Hid (Bn wB w ao cap l b m md s) := hB
  have HB0 : Hid (Bn wB (w.alloc (aobj a)) ao cap l b m md s) := hB.next ((Below.refl _ _).alloc (Nat.le_refl _) _)
  clear hB
  obtain ⟨cw, aoH, capH, aoT, capT, K, hh, ht⟩ := HBN.out.bk
  have KB : Hid (Bk b (bcs ao cap l md m cw s aoH capH aoT capT) w) := K
  have hbw := KB.out.1
  have hbn : b ≠ w.heap.size := by omega
  clear K hh ht
  have hfew := tips_few HB0.out.hd
  cases htp : s.tip with
  | true =>
    have HQ : Hid (tipA l s = (s, 12)) := by show _ = _; unfold tipA; rw [if_pos htp]
    have k0 := (KB.out).c 0 rfl
    have k1 := (KB.out).c 1 rfl
    have k2 := (KB.out).c 2 rfl
    have k3 := (KB.out).c 3 rfl
    have k4 := (KB.out).c 4 rfl
    have k5 := (KB.out).c 5 rfl
    have k6 := (KB.out).c 6 rfl
    have k7 := (KB.out).c 7 rfl
    have k8 := (KB.out).c 8 rfl
    have k9 := (KB.out).c 9 rfl
    have k10 := (KB.out).c 10 rfl
    have k11 := (KB.out).c 11 rfl
    rw [htp] at k6
    go_enter Tryz.func82, Tryz.ntmps82
    go_wp2
    go_ret
    exact ⟨by rw [HQ.out]; rfl, by rw [HQ.out]; exact HB0.out⟩
  | false =>
    have htk := HB0.out.may.take
    unfold mayTake at htk
    rw [if_neg (by rw [htp]; decide)] at htk
    simp only [Bool.and_eq_true, inR_iff] at htk
    have u0 := htk.1.1
    have u1 := htk.1.2
    clear htk
    by_cases hu : ((tipsL l).length : Int) ≤ s.used
    · have HQ : Hid (tipA l s = (s, 19)) := by show _ = _; unfold tipA; rw [if_neg (by rw [htp]; decide), if_pos hu]
      have hd : decide (((tipsL l).length : Int) ≤ s.used) = true := decide_eq_true hu
      have k0 := (KB.out).c 0 rfl
      have k1 := (KB.out).c 1 rfl
      have k2 := (KB.out).c 2 rfl
      have k3 := (KB.out).c 3 rfl
      have k4 := (KB.out).c 4 rfl
      have k5 := (KB.out).c 5 rfl
      have k6 := (KB.out).c 6 rfl
      have k7 := (KB.out).c 7 rfl
      have k8 := (KB.out).c 8 rfl
      have k9 := (KB.out).c 9 rfl
      have k10 := (KB.out).c 10 rfl
      have k11 := (KB.out).c 11 rfl
      rw [htp] at k6
      clear hu
      go_enter Tryz.func82, Tryz.ntmps82
      go_wp2_with fail
      go_big_quiet (fail)
      go_wp2
      go_ret
      exact ⟨by rw [HQ.out]; rfl, by rw [HQ.out]; exact HB0.out.next (blw_drewN (Below.refl _ _) _)⟩
    · have HQ : Hid (tipA l s = ({ s with tip := true, used := s.used + 1 }, 0)) := by show _ = _; unfold tipA; rw [if_neg (by rw [htp]; decide), if_neg hu]
      have hd : decide (((tipsL l).length : Int) ≤ s.used) = false := decide_eq_false hu
      have k0 := (KB.out).c 0 rfl
      have kf0 := (KB.out).f 0 rfl
      have k1 := (KB.out).c 1 rfl
      have kf1 := (KB.out).f 1 rfl
      have k2 := (KB.out).c 2 rfl
      have kf2 := (KB.out).f 2 rfl
      have k3 := (KB.out).c 3 rfl
      have kf3 := (KB.out).f 3 rfl
      have k4 := (KB.out).c 4 rfl
      have kf4 := (KB.out).f 4 rfl
      have k5 := (KB.out).c 5 rfl
      have kf5 := (KB.out).f 5 rfl
      have k6 := (KB.out).c 6 rfl
      have kf6 := (KB.out).f 6 rfl
      have k7 := (KB.out).c 7 rfl
      have kf7 := (KB.out).f 7 rfl
      have k8 := (KB.out).c 8 rfl
      have kf8 := (KB.out).f 8 rfl
      have k9 := (KB.out).c 9 rfl
      have kf9 := (KB.out).f 9 rfl
      have k10 := (KB.out).c 10 rfl
      have kf10 := (KB.out).f 10 rfl
      have k11 := (KB.out).c 11 rfl
      have kf11 := (KB.out).f 11 rfl
      rw [htp] at k6
      have hu2 : s.used < ((tipsL l).length : Int) := by omega
      have hwr : IntKind.i64.wrap (s.used + 1) = s.used + 1 := wrap_in (by omega) (by omega)
      clear hu
      go_enter Tryz.func82, Tryz.ntmps82
      go_wp2_with fail
      go_big_quiet (fail)
      go_wp2
      go_ret
      exact ⟨by rw [HQ.out]; rfl, bn_tip (HB0.out.next (blw_drewN (Below.refl _ _) _)) HQ.out⟩
set_option maxHeartbeats 3200000 in
set_option maxRecDepth 100000 in
theorem drop_any (wB w : World) (ao : Option Addr) (cap : Nat) (l : List Sit) (b m md : Nat) (s : Sta) (a : Acn) (hB : Bn wB w ao cap l b m md s) :
    Calls Tryz.prog 83 #[ptr b, av a] w fun e w' => e = .returned (.int .i64 (dropA s).2) ∧ Bn wB w' ao cap l b m md (dropA s).1 := by
  have HBN : Hid (Bn wB w ao cap l b m md s) := hB
  have HB0 : Hid (Bn wB (w.alloc (aobj a)) ao cap l b m md s) := hB.next ((Below.refl _ _).alloc (Nat.le_refl _) _)
  clear hB
  obtain ⟨cw, aoH, capH, aoT, capT, K, hh, ht⟩ := HBN.out.bk
  have KB : Hid (Bk b (bcs ao cap l md m cw s aoH capH aoT capT) w) := K
  have hbw := KB.out.1
  have hbn : b ≠ w.heap.size := by omega
  clear K hh ht
  cases htp : s.tip with
  | false =>
    have HQ : Hid (dropA s = (s, 12)) := by show _ = _; unfold dropA; rw [if_neg (by rw [htp]; decide)]
    have k0 := (KB.out).c 0 rfl
    have k1 := (KB.out).c 1 rfl
    have k2 := (KB.out).c 2 rfl
    have k3 := (KB.out).c 3 rfl
    have k4 := (KB.out).c 4 rfl
    have k5 := (KB.out).c 5 rfl
    have k6 := (KB.out).c 6 rfl
    have k7 := (KB.out).c 7 rfl
    have k8 := (KB.out).c 8 rfl
    have k9 := (KB.out).c 9 rfl
    have k10 := (KB.out).c 10 rfl
    have k11 := (KB.out).c 11 rfl
    rw [htp] at k6
    go_enter Tryz.func83, Tryz.ntmps83
    go_wp2
    go_ret
    exact ⟨by rw [HQ.out]; rfl, by rw [HQ.out]; exact HB0.out⟩
  | true =>
    have HQ : Hid (dropA s = ({ s with tip := false, held := [], touched := [] }, 0)) := by show _ = _; unfold dropA; rw [if_pos htp]
    have k0 := (KB.out).c 0 rfl
    have kf0 := (KB.out).f 0 rfl
    have k1 := (KB.out).c 1 rfl
    have kf1 := (KB.out).f 1 rfl
    have k2 := (KB.out).c 2 rfl
    have kf2 := (KB.out).f 2 rfl
    have k3 := (KB.out).c 3 rfl
    have kf3 := (KB.out).f 3 rfl
    have k4 := (KB.out).c 4 rfl
    have kf4 := (KB.out).f 4 rfl
    have k5 := (KB.out).c 5 rfl
    have kf5 := (KB.out).f 5 rfl
    have k6 := (KB.out).c 6 rfl
    have kf6 := (KB.out).f 6 rfl
    have k7 := (KB.out).c 7 rfl
    have kf7 := (KB.out).f 7 rfl
    have k8 := (KB.out).c 8 rfl
    have kf8 := (KB.out).f 8 rfl
    have k9 := (KB.out).c 9 rfl
    have kf9 := (KB.out).f 9 rfl
    have k10 := (KB.out).c 10 rfl
    have kf10 := (KB.out).f 10 rfl
    have k11 := (KB.out).c 11 rfl
    have kf11 := (KB.out).f 11 rfl
    rw [htp] at k6
    go_enter Tryz.func83, Tryz.ntmps83
    go_wp2
    go_ret
    refine ⟨by rw [HQ.out]; rfl, ?_⟩
    first | exact bn_drop HB0.out HQ.out | exact (bn_drop HBN.out HQ.out).next ((Below.refl _ _).alloc (by simp [World.setCell]) _)
set_option maxHeartbeats 3200000 in
set_option maxRecDepth 100000 in
theorem warm_any (wB w : World) (ao : Option Addr) (cap : Nat) (l : List Sit) (b m md : Nat) (s : Sta) (a : Acn) (hB : Bn wB w ao cap l b m md s) :
    Calls Tryz.prog 86 #[ptr b, av a] w fun e w' => e = .returned (.int .i64 (warmA s a).2) ∧ Bn wB w' ao cap l b m md (warmA s a).1 := by
  have HBN : Hid (Bn wB w ao cap l b m md s) := hB
  have HB0 : Hid (Bn wB (w.alloc (aobj a)) ao cap l b m md s) := hB.next ((Below.refl _ _).alloc (Nat.le_refl _) _)
  clear hB
  obtain ⟨cw, aoH, capH, aoT, capT, K, hh, ht⟩ := HBN.out.bk
  have KB : Hid (Bk b (bcs ao cap l md m cw s aoH capH aoT capT) w) := K
  have hbw := KB.out.1
  have hbn : b ≠ w.heap.size := by omega
  clear K hh ht
  have KA : Hid (Bk w.heap.size (acl a) (w.alloc (aobj a))) := by exact Bk.new w (acl a) 59 w.heap.size rfl
  cases hv : inR 0 1000000000 a.value with
  | false =>
    have HQ : Hid (warmA s a = (s, 2)) := by show _ = _; unfold warmA; rw [if_neg (by rw [hv]; decide)]
    go_enter Tryz.func86, Tryz.ntmps86
    go_wp2_with fail
    refine (mwithin_any 0 a.value 1000000000 _).mono ?_
    rintro e w2 ⟨rfl, rfl⟩
    rw [hv]
    go_wp2
    go_ret
    exact ⟨by rw [HQ.out]; rfl, by rw [HQ.out]; exact HB0.out⟩
  | true =>
    have HQ : Hid (warmA s a = ({ s with heat := a.value }, 0)) := by show _ = _; unfold warmA; rw [if_pos hv]
    have k0 := (KB.out).c 0 rfl
    have kf0 := (KB.out).f 0 rfl
    have k1 := (KB.out).c 1 rfl
    have kf1 := (KB.out).f 1 rfl
    have k2 := (KB.out).c 2 rfl
    have kf2 := (KB.out).f 2 rfl
    have k3 := (KB.out).c 3 rfl
    have kf3 := (KB.out).f 3 rfl
    have k4 := (KB.out).c 4 rfl
    have kf4 := (KB.out).f 4 rfl
    have k5 := (KB.out).c 5 rfl
    have kf5 := (KB.out).f 5 rfl
    have k6 := (KB.out).c 6 rfl
    have kf6 := (KB.out).f 6 rfl
    have k7 := (KB.out).c 7 rfl
    have kf7 := (KB.out).f 7 rfl
    have k8 := (KB.out).c 8 rfl
    have kf8 := (KB.out).f 8 rfl
    have k9 := (KB.out).c 9 rfl
    have kf9 := (KB.out).f 9 rfl
    have k10 := (KB.out).c 10 rfl
    have kf10 := (KB.out).f 10 rfl
    have k11 := (KB.out).c 11 rfl
    have kf11 := (KB.out).f 11 rfl
    go_enter Tryz.func86, Tryz.ntmps86
    go_wp2_with fail
    refine (mwithin_any 0 a.value 1000000000 _).mono ?_
    rintro e w2 ⟨rfl, rfl⟩
    rw [hv]
    go_wp2
    go_ret
    refine ⟨by rw [HQ.out]; rfl, ?_⟩
    first | exact bn_warm (a := a) HB0.out HQ.out | exact (bn_warm (a := a) HBN.out HQ.out).next ((Below.refl _ _).alloc (by simp [World.setCell]) _)
def psV (b B : Nat) (s : Sta) (a : Acn) (d : Nat) (v : Value) (_ : World) : Prop :=
  match d with
  | 18 => v = .pointer (some ⟨b, 0, none⟩)
  | 19 => v = .pointer (some ⟨b, 0, none⟩)
  | 20 => v = .pointer (some ⟨b, 5, none⟩)
  | 21 => v = .pointer (some ⟨b, 11, none⟩)
  | 22 => v = .int .i64 s.clock
  | 23 => v = .pointer (some ⟨B, 7, none⟩)
  | 24 => v = .int .i64 a.time
  | 25 => v = .int .i64 (s.clock + a.time)
  | _ => True
theorem psV_mono (b B : Nat) (s : Sta) (a : Acn) (d : Nat) (v : Value) (w w' : World) (h : psV b B s a d v w) (_ : Below w.heap.size w w') : psV b B s a d v w' := h
set_option maxHeartbeats 3200000 in
set_option maxRecDepth 100000 in
theorem pass_any (wB w : World) (ao : Option Addr) (cap : Nat) (l : List Sit) (b m md : Nat) (s : Sta) (a : Acn) (hB : Bn wB w ao cap l b m md s) :
    Calls Tryz.prog 87 #[ptr b, av a] w fun e w' => e = .returned (.int .i64 (passA s a).2) ∧ Bn wB w' ao cap l b m md (passA s a).1 := by
  have HBN : Hid (Bn wB w ao cap l b m md s) := hB
  have HB0 : Hid (Bn wB (w.alloc (aobj a)) ao cap l b m md s) := hB.next ((Below.refl _ _).alloc (Nat.le_refl _) _)
  clear hB
  obtain ⟨cw, aoH, capH, aoT, capT, K, hh, ht⟩ := HBN.out.bk
  have KB : Hid (Bk b (bcs ao cap l md m cw s aoH capH aoT capT) w) := K
  have hbw := KB.out.1
  have hbn : b ≠ w.heap.size := by omega
  clear K hh ht
  cases hv : inR 0 1000000000 a.time with
  | false =>
    have HQ : Hid (passA s a = (s, 2)) := by show _ = _; unfold passA; rw [if_neg (by rw [hv]; decide)]
    go_enter Tryz.func87, Tryz.ntmps87
    go_wp2_with fail
    refine (mwithin_any 0 a.time 1000000000 _).mono ?_
    rintro e w2 ⟨rfl, rfl⟩
    rw [hv]
    go_wp2
    go_ret
    exact ⟨by rw [HQ.out]; rfl, by rw [HQ.out]; exact HB0.out⟩
  | true =>
    have hcl := HBN.out.may.clock
    have hti := inR_iff.1 hv
    have hwr : IntKind.i64.wrap (s.clock + a.time) = s.clock + a.time := wrap_in (by omega) (by omega)
    by_cases hu : 1000000000 < s.clock + a.time
    · have HQ : Hid (passA s a = (s, 8)) := by show _ = _; unfold passA; rw [if_pos hv, if_pos hu]
      have hd : decide (1000000000 < s.clock + a.time) = true := decide_eq_true hu
      have k0 := (KB.out).c 0 rfl
      have k1 := (KB.out).c 1 rfl
      have k2 := (KB.out).c 2 rfl
      have k3 := (KB.out).c 3 rfl
      have k4 := (KB.out).c 4 rfl
      have k5 := (KB.out).c 5 rfl
      have k6 := (KB.out).c 6 rfl
      have k7 := (KB.out).c 7 rfl
      have k8 := (KB.out).c 8 rfl
      have k9 := (KB.out).c 9 rfl
      have k10 := (KB.out).c 10 rfl
      have k11 := (KB.out).c 11 rfl
      clear hu hcl hti
      go_enter Tryz.func87, Tryz.ntmps87
      go_wp2_with fail
      refine (mwithin_any 0 a.time 1000000000 _).mono ?_
      rintro e w2 ⟨rfl, rfl⟩
      rw [hv]
      go_wp2_with fail
      go_big_quiet (fail)
      go_wp2
      go_ret
      exact ⟨by rw [HQ.out]; rfl, by rw [HQ.out]; exact HB0.out.next (blw_drewN (Below.refl _ _) _)⟩
    · have HQ : Hid (passA s a = ({ s with clock := s.clock + a.time }, 0)) := by show _ = _; unfold passA; rw [if_pos hv, if_neg hu]
      have hd : decide (1000000000 < s.clock + a.time) = false := decide_eq_false hu
      have HWR : Hid (IntKind.i64.wrap (s.clock + a.time) = s.clock + a.time) := hwr
      have k0 := (KB.out).c 0 rfl
      have k1 := (KB.out).c 1 rfl
      have k2 := (KB.out).c 2 rfl
      have k3 := (KB.out).c 3 rfl
      have k4 := (KB.out).c 4 rfl
      have k5 := (KB.out).c 5 rfl
      have k6 := (KB.out).c 6 rfl
      have k7 := (KB.out).c 7 rfl
      have k8 := (KB.out).c 8 rfl
      have k9 := (KB.out).c 9 rfl
      have k10 := (KB.out).c 10 rfl
      have k11 := (KB.out).c 11 rfl
      clear hu hcl hti
      go_enter Tryz.func87, Tryz.ntmps87
      go_wp2_with fail
      refine (mwithin_any 0 a.time 1000000000 _).mono ?_
      rintro e w2 ⟨rfl, rfl⟩
      rw [hv]
      go_wp2_with fail
      go_big_quiet (fail)
      go_wp2_with fail
      rename_i KK hkk
      have HKK := (show Hid _ from hkk)
      clear hkk
      have KB0 : Hid (Bk b (bcs ao cap l md m cw s aoH capH aoT capT) (w.alloc (aobj a))) := KB.out.later ((Below.refl _ _).alloc (Nat.le_refl _) _)
      have KA0 : Hid (Bk w.heap.size (acl a) (w.alloc (aobj a))) := by exact Bk.new w (acl a) 59 w.heap.size rfl
      generalize hw3 : World.drewN (w.alloc (aobj a)) _ = w3
      have hb3 : Below (w.alloc (aobj a)).heap.size (w.alloc (aobj a)) w3 := by rw [← hw3]; exact blw_drewN (Below.refl _ _) _
      have KB1 : Hid (Bk b (bcs ao cap l md m cw s aoH capH aoT capT) w3) := KB0.out.later hb3
      have KA1 : Hid (Bk w.heap.size (acl a) w3) := KA0.out.later hb3
      have HB3 : Hid (Bn wB w3 ao cap l b m md s) := HB0.out.next hb3
      clear hw3 hb3 k0 k1 k2 k3 k4 k5 k6 k7 k8 k9 k10 k11
      refine region_seq 8 [false, false, false, false, false, false, false, false, false, false, false, false, false, false, false, false, false, false, true, true, true, true, true, true, true, true, false, false, false]
        [(18, [], none), (19, [18], none), (20, [19], none), (21, [20], none), (22, [21], none), (23, [], none), (24, [23], none), (25, [22, 24], none)]
        (psV b w.heap.size s a) (by kernel_rfl) (by kernel_rfl) (by kernel_rfl) (by kernel_rfl) (by kernel_rfl) (by decide) (psV_mono b w.heap.size s a) ?_ ?_
      · refine ⟨?_, ?_, ?_, ?_, ?_, ?_, ?_, ?_, trivial⟩
        · intro f w1 hb _ K hK
          simp only [over, overL, Nat.reduceAdd]
          go_simp
          exact hK _ _ ⟨_, rfl, by simp only [over, overL, Nat.reduceAdd]; rfl, Below.refl _ _⟩
        · intro f w1 hb ⟨h18, _⟩ K hK
          replace h18 : f 18 = _ := h18
          simp only [over, overL, Nat.reduceAdd, h18]
          go_simp
          exact hK _ _ ⟨_, rfl, by simp only [over, overL, Nat.reduceAdd, h18]; rfl, Below.refl _ _⟩
        · intro f w1 hb ⟨h19, _⟩ K hK
          replace h19 : f 19 = _ := h19
          simp only [over, overL, Nat.reduceAdd, h19]
          go_simp
          exact hK _ _ ⟨_, rfl, by simp only [over, overL, Nat.reduceAdd, h19]; rfl, Below.refl _ _⟩
        · intro f w1 hb ⟨h20, _⟩ K hK
          replace h20 : f 20 = _ := h20
          simp only [over, overL, Nat.reduceAdd, h20]
          go_simp
          exact hK _ _ ⟨_, rfl, by simp only [over, overL, Nat.reduceAdd, h20]; rfl, Below.refl _ _⟩
        · intro f w1 hb ⟨h21, _⟩ K hK
          replace h21 : f 21 = _ := h21
          have q11 := (KB1.out.later hb).c 11 rfl
          simp only [over, overL, Nat.reduceAdd, h21]
          go_simp
          exact hK _ _ ⟨_, rfl, by simp only [over, overL, Nat.reduceAdd, h21]; rfl, Below.refl _ _⟩
        · intro f w1 hb _ K hK
          simp only [over, overL, Nat.reduceAdd]
          go_simp
          exact hK _ _ ⟨_, rfl, by simp only [over, overL, Nat.reduceAdd]; rfl, Below.refl _ _⟩
        · intro f w1 hb ⟨h23, _⟩ K hK
          replace h23 : f 23 = _ := h23
          have q7 := (KA1.out.later hb).c 7 rfl
          simp only [over, overL, Nat.reduceAdd, h23]
          go_simp
          exact hK _ _ ⟨_, rfl, by simp only [over, overL, Nat.reduceAdd, h23]; rfl, Below.refl _ _⟩
        · intro f w1 hb ⟨h22, h24, _⟩ K hK
          replace h22 : f 22 = _ := h22
          replace h24 : f 24 = _ := h24
          have hwr := HWR.out
          simp only [over, overL, Nat.reduceAdd, h22, h24]
          go_simp
          exact hK _ _ ⟨_, rfl, by simp only [over, overL, Nat.reduceAdd, h22, h24]; rfl, Below.refl _ _⟩
      intro f w1 hb hv
      have h18 : f 18 = _ := hv.1
      have h25 : f 25 = _ := hv.2.2.2.2.2.2.2.1
      have HB4 : Hid (Bn wB w1 ao cap l b m md s) := HB3.out.next hb
      have KB2 : Hid (Bk b (bcs ao cap l md m cw s aoH capH aoT capT) w1) := KB1.out.later hb
      have k0 := (KB2.out).c 0 rfl
      have kf0 := (KB2.out).f 0 rfl
      have k1 := (KB2.out).c 1 rfl
      have kf1 := (KB2.out).f 1 rfl
      have k2 := (KB2.out).c 2 rfl
      have kf2 := (KB2.out).f 2 rfl
      have k3 := (KB2.out).c 3 rfl
      have kf3 := (KB2.out).f 3 rfl
      have k4 := (KB2.out).c 4 rfl
      have kf4 := (KB2.out).f 4 rfl
      have k5 := (KB2.out).c 5 rfl
      have kf5 := (KB2.out).f 5 rfl
      have k6 := (KB2.out).c 6 rfl
      have kf6 := (KB2.out).f 6 rfl
      have k7 := (KB2.out).c 7 rfl
      have kf7 := (KB2.out).f 7 rfl
      have k8 := (KB2.out).c 8 rfl
      have kf8 := (KB2.out).f 8 rfl
      have k9 := (KB2.out).c 9 rfl
      have kf9 := (KB2.out).f 9 rfl
      have k10 := (KB2.out).c 10 rfl
      have kf10 := (KB2.out).f 10 rfl
      have k11 := (KB2.out).c 11 rfl
      have kf11 := (KB2.out).f 11 rfl
      have lt1 := KB2.out.1
      clear hv hb
      simp only [List.drop, over, overL, Nat.reduceAdd, h18, h25]
      clear h18 h25
      go_wp2
      refine HKK.out _ _ ?_
      go_wp2
      go_ret
      exact ⟨by rw [HQ.out]; rfl, bn_pass (a := a) HB4.out HQ.out⟩
set_option maxHeartbeats 3200000 in
set_option maxRecDepth 100000 in
theorem shake_any (wB w : World) (ao : Option Addr) (cap : Nat) (l : List Sit) (b m md : Nat) (s : Sta) (a : Acn) (hB : Bn wB w ao cap l b m md s) :
    Calls Tryz.prog 88 #[ptr b, av a] w fun e w' => e = .returned (.int .i64 (shakeA s a).2) ∧ Bn wB w' ao cap l b m md (shakeA s a).1 := by
  have HBN : Hid (Bn wB w ao cap l b m md s) := hB
  have HB0 : Hid (Bn wB (w.alloc (aobj a)) ao cap l b m md s) := hB.next ((Below.refl _ _).alloc (Nat.le_refl _) _)
  clear hB
  obtain ⟨cw, aoH, capH, aoT, capT, K, hh, ht⟩ := HBN.out.bk
  have KB : Hid (Bk b (bcs ao cap l md m cw s aoH capH aoT capT) w) := K
  have hbw := KB.out.1
  have hbn : b ≠ w.heap.size := by omega
  clear K hh ht
  cases hv : inR 0 1000000000 a.value with
  | false =>
    have HQ : Hid (shakeA s a = (s, 2)) := by show _ = _; unfold shakeA; rw [if_neg (by rw [hv]; decide)]
    go_enter Tryz.func88, Tryz.ntmps88
    go_wp2_with fail
    refine (mwithin_any 0 a.value 1000000000 _).mono ?_
    rintro e w2 ⟨rfl, rfl⟩
    rw [hv]
    go_wp2
    go_ret
    exact ⟨by rw [HQ.out]; rfl, by rw [HQ.out]; exact HB0.out⟩
  | true =>
    have HQ : Hid (shakeA s a = passA s a) := by show _ = _; unfold shakeA; rw [if_pos hv]
    have k0 := (KB.out).c 0 rfl
    have k1 := (KB.out).c 1 rfl
    have k2 := (KB.out).c 2 rfl
    have k3 := (KB.out).c 3 rfl
    have k4 := (KB.out).c 4 rfl
    have k5 := (KB.out).c 5 rfl
    have k6 := (KB.out).c 6 rfl
    have k7 := (KB.out).c 7 rfl
    have k8 := (KB.out).c 8 rfl
    have k9 := (KB.out).c 9 rfl
    have k10 := (KB.out).c 10 rfl
    have k11 := (KB.out).c 11 rfl
    go_enter Tryz.func88, Tryz.ntmps88
    go_wp2_with fail
    refine (mwithin_any 0 a.value 1000000000 _).mono ?_
    rintro e w2 ⟨rfl, rfl⟩
    rw [hv]
    go_wp2_with fail
    refine (pass_any wB _ ao cap l b m md s a HB0.out).mono ?_
    rintro e w2 ⟨rfl, h2⟩
    have HB2 : Hid (Bn wB w2 ao cap l b m md (passA s a).1) := h2
    clear h2
    go_wp2
    go_ret
    exact ⟨by rw [HQ.out]; rfl, by rw [HQ.out]; exact HB2.out⟩
end Go.Proofs.YtcajifelbldjnaaGreat

/- fill walked. -/
namespace Go.Proofs.YtcajifelbldjnaaGreat
open Go.RowKit Go.Maps
/-- A fluid that lies apart from blocks b and m, as a value. -/
def Fr (b m : Nat) (ps : List F.Pc) (v : Value) (w : World) : Prop := ∃ ao cap, v = .slice ao ps.length cap ∧ Flx b m w ao ps
theorem Fr.later {b m : Nat} {ps : List F.Pc} {v : Value} {w w1 : World} (h : Fr b m ps v w) (hb : Below w.heap.size w w1) : Fr b m ps v w1 := by
  obtain ⟨ao, cap, e, hf⟩ := h
  exact ⟨ao, cap, e, hf.next hb⟩
def TF (b m : Nat) (ps : List F.Pc) (e : Int) (v : Value) (w : World) : Prop := ∃ x, v = .tuple #[x, .int .i64 e] ∧ Fr b m ps x w
theorem TF.later {b m : Nat} {ps : List F.Pc} {e : Int} {v : Value} {w w1 : World} (h : TF b m ps e v w) (hb : Below w.heap.size w w1) : TF b m ps e v w1 := by
  obtain ⟨x, h1, h2⟩ := h
  exact ⟨x, h1, h2.later hb⟩
def TG3 (b m : Nat) (ps qs : List F.Pc) (e : Int) (v : Value) (w : World) : Prop := ∃ x y, v = .tuple #[x, y, .int .i64 e] ∧ Fr b m ps x w ∧ Fr b m qs y w
theorem TG3.later {b m : Nat} {ps qs : List F.Pc} {e : Int} {v : Value} {w w1 : World} (h : TG3 b m ps qs e v w) (hb : Below w.heap.size w w1) : TG3 b m ps qs e v w1 := by
  obtain ⟨x, y, h1, h2, h3⟩ := h
  exact ⟨x, y, h1, h2.later hb, h3.later hb⟩
theorem tog_sizes (f g : List F.Pc) (m : Int) : ∀ p ∈ (togR f g m).1, p.1.size ≤ maxLen := by
  by_cases h : (togR f g m).2 = 0
  · exact F.fine_size (mayHold_iff.1 (mayHold_tog h)).1
  · have : (togR f g m).1 = [] := by
      unfold togR at h ⊢
      split at h
      · rename_i h1; rw [if_pos h1]
      · rename_i h1
        rw [if_neg h1]
        unfold F.putR at h ⊢
        repeat' split at h
        all_goals first | (exfalso; exact h rfl) | (repeat' split) <;> simp_all
    rw [this]
    intro p hp
    simp at hp
theorem draw_sizes (v : Int) (f : List F.Pc) : (∀ p ∈ (F.drawF v f).1, p.1.size ≤ maxLen) ∧ ∀ p ∈ (F.drawF v f).2.1, p.1.size ≤ maxLen := by
  by_cases h : (F.drawF v f).2.2 = 0
  · obtain ⟨h1, h2, h3, h4, h5⟩ := drawF_ok h
    obtain ⟨g1, g2⟩ := F.draw_fine h2 h1
    rw [h4, h5]
    exact ⟨F.fine_size g1, F.fine_size g2⟩
  · have : (F.drawF v f).1 = [] ∧ (F.drawF v f).2.1 = [] := by
      unfold F.drawF at h ⊢
      repeat' split at h
      all_goals first | (exfalso; exact h rfl) | (repeat' split) <;> simp_all
    rw [this.1, this.2]
    exact ⟨fun p hp => by simp at hp, fun p hp => by simp at hp⟩
theorem tog_fr (b m : Nat) (ao ao' : Option Addr) (cap cap' : Nat) (f g : List F.Pc) (mo : Int) (w : World) (h : F.Fl w ao f) (h' : F.Fl w ao' g) (hb : b < w.heap.size) (hm : m < w.heap.size) :
    Calls Tryz.prog 109 #[.slice ao f.length cap, .slice ao' g.length cap', .int .i64 mo] w fun e w' => ∃ v, e = .returned v ∧ TF b m (togR f g mo).1 (togR f g mo).2 v w' ∧ Below w.heap.size w w' := by
  refine (together_any ao ao' cap cap' f g mo w h h').mono ?_
  rintro e w' ⟨v, rfl, ho, hb'⟩
  exact ⟨_, rfl, ⟨v, rfl, flx_of ho (tog_sizes f g mo) hb hm⟩, hb'⟩
theorem draw_fr (b m : Nat) (ao : Option Addr) (cap : Nat) (ps : List F.Pc) (v : Int) (w : World) (h : F.Fl w ao ps) (hb : b < w.heap.size) (hm : m < w.heap.size) :
    Calls Tryz.prog 111 #[.slice ao ps.length cap, .int .i64 v] w fun e w' => ∃ x, e = .returned x ∧ TG3 b m (F.drawF v ps).1 (F.drawF v ps).2.1 (F.drawF v ps).2.2 x w' ∧ Below w.heap.size w w' := by
  refine (F.draw_any ao cap ps v w h).mono ?_
  rintro e w' ⟨x, y, rfl, h1, h2, hb'⟩
  exact ⟨_, rfl, ⟨x, y, rfl, flx_of h1 (draw_sizes v ps).1 hb hm, flx_of h2 (draw_sizes v ps).2 hb hm⟩, hb'⟩
theorem Bn.keptTo {wB w w1 : World} {ao : Option Addr} {cap : Nat} {l : List Sit} {b m md : Nat} {s s' : Sta} (h : Bn wB w ao cap l b m md s) {wl : List Wh} (hwl : whp wl = s.wells) (hfl : ∀ x ∈ wl, Flx b m w x.2.1 x.2.2.2) {p : Plc} {aof : Option Addr} {capf : Nat} {f : List F.Pc} (hbut : But b m w w1) (hwm : WM w1 m (setH wl p (aof, capf, f))) (hf : Flx b m w1 aof f) (hmay : May l s') (hs : s'.wells = wset s.wells p f)
    {cw : Option Addr × Nat × Nat} {aoH : Option Addr} {capH : Nat} {aoT : Option Addr} {capT : Nat} (hbk : Bk b (bcs ao cap l md m cw s' aoH capH aoT capT) w1) (hh : Flx b m w1 aoH s'.held) (ht : Txx b m w1 aoT s'.touched) : Bn wB w1 ao cap l b m md s' :=
  h.turned hbut hmay hwm (by rw [whp_setH, hwl, hs]) (fun x hx => by rcases mem_setH hx with rfl | hx; exact hf; exact (hfl x hx).but hbut) hbk hh ht
theorem flx_at {b m : Nat} {w : World} {wl : List Wh} (h : ∀ x ∈ wl, Flx b m w x.2.1 x.2.2.2) (p : Plc) : Flx b m w (fdAt wl p).1 (fdAt wl p).2.2 := by
  rcases fdAt_cases wl p with ⟨_, e⟩ | ⟨x, hx, _, e⟩
  · rw [e]
    exact ⟨⟨fun p hp => by simp at hp, .inl rfl⟩, .inl rfl⟩
  · rw [e]
    exact h x hx
theorem aim_ok {l : List Sit} {a : Acn} (h : (aimR l a).2 = 0) : (wellM l a.pl).2 = 0 := by
  unfold aimR at h
  split at h
  · assumption
  · exact h
def fiV (b B m c : Nat) (a : Acn) (mo : Int) (fw : F.Fd) (ps : List F.Pc) (e1 : Int) (d : Nat) (v : Value) (w : World) : Prop :=
  match d with
  | 31 => v = .pointer (some ⟨b, 0, none⟩)
  | 32 => v = .pointer (some ⟨b, 0, none⟩)
  | 33 => v = .pointer (some ⟨b, 4, none⟩)
  | 34 => v = .map (some m)
  | 35 => v = .pointer (some ⟨B, 1, none⟩)
  | 36 => v = .agg #[.int .i64 a.pl.1, .int .i64 a.pl.2.1, .int .i64 a.pl.2.2]
  | 37 => v = .slice fw.1 fw.2.2.length fw.2.1
  | 38 => v = .slice (some ⟨c, 0, none⟩) 1 1
  | 39 => v = .int .i64 mo
  | 40 => TF b m ps e1 v w
  | 30 => TF b m ps e1 v w
  | 41 => Fr b m ps v w
  | 42 => v = .int .i64 e1
  | 9 => Fr b m ps v w
  | 6 => v = .int .i64 e1
  | _ => True
theorem fiV_mono (b B m c : Nat) (a : Acn) (mo : Int) (fw : F.Fd) (ps : List F.Pc) (e1 : Int) (d : Nat) (v : Value) (w w' : World) (h : fiV b B m c a mo fw ps e1 d v w) (hb : Below w.heap.size w w') : fiV b B m c a mo fw ps e1 d v w' := by
  unfold fiV at h ⊢
  split <;> simp only [] at h <;> first | exact h | exact h.later hb
set_option maxHeartbeats 3200000 in
set_option maxRecDepth 100000 in
theorem fill_any (wB w : World) (ao : Option Addr) (cap : Nat) (l : List Sit) (b m md : Nat) (s : Sta) (a : Acn) (hB : Bn wB w ao cap l b m md s) (hlab : a.label.size ≤ maxLen) :
    Calls Tryz.prog 81 #[ptr b, av a] w fun e w' => e = .returned (.int .i64 (fillA l s a).2) ∧ Bn wB w' ao cap l b m md (fillA l s a).1 := by
  have HBN : Hid (Bn wB w ao cap l b m md s) := hB
  clear hB
  obtain ⟨w0, hw0⟩ : ∃ w0, w0 = w.alloc (aobj a) := ⟨_, rfl⟩
  have b0 : Below w.heap.size w w0 := by rw [hw0]; exact (Below.refl _ _).alloc (Nat.le_refl _) _
  have KA : Hid (Bk w.heap.size (acl a) w0) := by show Bk _ _ _; rw [hw0]; exact Bk.new w (acl a) 59 w.heap.size rfl
  have HB0 : Hid (Bn wB w0 ao cap l b m md s) := HBN.out.next b0
  have HW0 : Hid (w0 = w.alloc (aobj a)) := hw0
  clear hw0 b0
  obtain ⟨cw, aoH, capH, aoT, capT, K, hh, ht⟩ := HB0.out.bk
  have KB : Hid (Bk b (bcs ao cap l md m cw s aoH capH aoT capT) w0) := K
  have HH : Hid (Flx b m w0 aoH s.held) := hh
  have HT : Hid (Txx b m w0 aoT s.touched) := ht
  have hbw : b < w.heap.size := by obtain ⟨_, _, _, _, _, K', _⟩ := HBN.out.bk; exact K'.1
  have hbn : b ≠ w.heap.size := by omega
  have lt0 := KB.out.1
  clear K hh ht
  clear lt0
  have HLB : Hid (a.label.size ≤ maxLen) := hlab
  clear hlab
  go_enter Tryz.func81, Tryz.ntmps81
  go_wp2_with fail
  rw [← HW0.out]
  refine (aim_any wB w0 ao cap l b m md s a HB0.out).mono ?_
  rintro e w1 ⟨rfl, hb1⟩
  have HBB : Hid (Bn wB w1 ao cap l b m md s) := HB0.out.next hb1
  have KA1 : Hid (Bk w.heap.size (acl a) w1) := KA.out.later hb1
  have KB1 : Hid (Bk b (bcs ao cap l md m cw s aoH capH aoT capT) w1) := KB.out.later hb1
  have HH1 : Hid (Flx b m w1 aoH s.held) := HH.out.next hb1
  have HT1 : Hid (Txx b m w1 aoT s.touched) := HT.out.next hb1
  have ltA := KA1.out.1
  have ltB := KB1.out.1
  clear hb1
  have q0 := (KA1.out).c 0 rfl
  have q1 := (KA1.out).c 1 rfl
  have q2 := (KA1.out).c 2 rfl
  have q3 := (KA1.out).c 3 rfl
  have q4 := (KA1.out).c 4 rfl
  have q5 := (KA1.out).c 5 rfl
  have q6 := (KA1.out).c 6 rfl
  have q7 := (KA1.out).c 7 rfl
  obtain ⟨⟨mo, e0⟩, hM⟩ : ∃ x, aimR l a = x := ⟨_, rfl⟩
  have HA : Hid (aimR l a = (mo, e0)) := hM
  rw [hM]
  clear hM
  by_cases he : e0 = 0
  · subst he
    have HP : Hid (Wf3 a.pl) := wf_place HB0.out.hd (aim_ok (by rw [HA.out]))
    go_wp2_with fail
    have KC : Hid (Bk w1.heap.size [.string a.label, .int .i64 a.vol] (w1.alloc (.cells #[.string a.label, .int .i64 a.vol] 138))) := Bk.new w1 [.string a.label, .int .i64 a.vol] 138 w1.heap.size rfl
    have HB2 : Hid (Below w1.heap.size w1 (w1.alloc (.cells #[.string a.label, .int .i64 a.vol] 138))) := (Below.refl _ _).alloc (Nat.le_refl _) _
    have hpf : F.Fl (w1.alloc (.cells #[.string a.label, .int .i64 a.vol] 138)) (some ⟨w1.heap.size, 0, none⟩) [(a.label, a.vol)] := by
      refine ⟨fun p hp => by simp at hp; rw [hp]; exact HLB.out, .inr ⟨_, 0, rfl, KC.out.1, fun k hk => ?_⟩⟩
      have : k = 0 := by simp at hk; exact hk
      subst this
      exact ⟨KC.out.c 0 rfl, KC.out.c 1 rfl⟩
    have HPF := (show Hid _ from hpf)
    clear hpf
    refine (F.check_any (some ⟨w1.heap.size, 0, none⟩) 1 [(a.label, a.vol)] _ HPF.out).mono ?_
    rintro e w3 ⟨rfl, hb3⟩
    have hb13 : Below w1.heap.size w1 w3 := HB2.out.trans (hb3.mono HB2.out.size)
    have HB3 : Hid (Bn wB w3 ao cap l b m md s) := HBB.out.next hb13
    have KA3 : Hid (Bk w.heap.size (acl a) w3) := KA1.out.later hb13
    have KB3 : Hid (Bk b (bcs ao cap l md m cw s aoH capH aoT capT) w3) := KB1.out.later hb13
    have HH3 : Hid (Flx b m w3 aoH s.held) := HH1.out.next hb13
    have HT3 : Hid (Txx b m w3 aoT s.touched) := HT1.out.next hb13
    have HP3 : Hid (F.Fl w3 (some ⟨w1.heap.size, 0, none⟩) [(a.label, a.vol)]) := F.Fl.next HPF.out hb3
    clear HPF HB2 KC hb13 hb3 HBB KA1 KB1 HH1 HT1 q0 q1 q2 q3 q4 q5 q6 q7
    obtain ⟨e2, hcq⟩ : ∃ e2, F.fref [(a.label, a.vol)] = e2 := ⟨_, rfl⟩
    have HCK : Hid (F.fref [(a.label, a.vol)] = e2) := hcq
    rw [hcq]
    clear hcq
    by_cases hc : e2 = 0
    · subst hc
      go_wp2_with fail
      rename_i KK hkk
      have HKK := (show Hid _ from hkk)
      clear hkk
      obtain ⟨wl, hwm, hwl, hfl⟩ := HB3.out.wells
      obtain ⟨fw, hfw⟩ : ∃ x, fdAt wl a.pl = x := ⟨_, rfl⟩
      have hff := flx_at hfl a.pl
      rw [hfw] at hff
      have HFF : Hid (Flx b m w3 fw.1 fw.2.2) := hff
      have HLK : Hid (∀ W, Below w3.heap.size w3 W → (Instr.lookup 128 (.map (some m)) (plv a.pl) false).run Tryz.prog W = .ok (.slice fw.1 fw.2.2.length fw.2.1) W) := fun W hW => by
        have := (hwm.next hW).look HP.out
        rw [hfw] at this
        exact this
      have HWF : Hid (wellF s.wells a.pl = fw.2.2) := by show _ = _; rw [← hwl, ← fdAt_whp, hfw]
      have HWM : Hid (WM w3 m wl) := hwm
      have HWL : Hid (whp wl = s.wells) := hwl
      have HFL : Hid (∀ x ∈ wl, Flx b m w3 x.2.1 x.2.2.2) := hfl
      have HML : Hid (m < w3.heap.size) := hwm.lt
      obtain ⟨⟨ps, e1⟩, htq⟩ : ∃ x, togR fw.2.2 [(a.label, a.vol)] mo = x := ⟨_, rfl⟩
      have HTQ : Hid (togR fw.2.2 [(a.label, a.vol)] mo = (ps, e1)) := htq
      have HTG : Hid (∀ W, Below w3.heap.size w3 W → Calls Tryz.prog 109 #[.slice fw.1 fw.2.2.length fw.2.1, .slice (some ⟨w1.heap.size, 0, none⟩) 1 1, .int .i64 mo] W fun e w' => ∃ v, e = .returned v ∧ TF b m ps e1 v w' ∧ Below W.heap.size W w') := fun W hW => by
        have := tog_fr b m fw.1 (some ⟨w1.heap.size, 0, none⟩) fw.2.1 1 fw.2.2 [(a.label, a.vol)] mo W (HFF.out.next hW).1 (HP3.out.next hW) (Nat.lt_of_lt_of_le KB3.out.1 hW.size) (Nat.lt_of_lt_of_le HML.out hW.size)
        rw [HTQ.out] at this
        exact this
      clear hwm hwl hfl hfw hff htq
      refine region_seqE 15 [false, false, false, false, false, false, true, false, false, true, false, false, false, false, false, false, false, false, false, false, false, false, false, false, false, false, false, false, false, false, true, true, true, true, true, true, true, true, true, true, true, true, true, false, false, false, false, false, false, false, false]
        [(31, [], none), (32, [31], none), (33, [32], none), (34, [33], none), (35, [], none), (36, [35], none), (37, [34, 36], none), (38, [], none), (39, [], none), (40, [37, 38, 39], none), (30, [40], none), (41, [30], none), (42, [30], none), (9, [41], none), (6, [42], none)]
        (fiV b w.heap.size m w1.heap.size a mo fw ps e1) (by kernel_rfl) (by kernel_rfl) (by kernel_rfl) (by kernel_rfl) (by kernel_rfl) (by decide) (fiV_mono b w.heap.size m w1.heap.size a mo fw ps e1) ?_ ?_
      · refine ⟨?_, ?_, ?_, ?_, ?_, ?_, ?_, ?_, ?_, ?_, ?_, ?_, ?_, ?_, ?_, trivial⟩
        · intro f w1 hb _ K hK
          simp only [over, overL, Nat.reduceAdd]
          go_simp
          exact hK _ _ ⟨_, rfl, by simp only [over, overL, Nat.reduceAdd]; rfl, Below.refl _ _⟩
        · intro f w1 hb ⟨h31, _⟩ K hK
          replace h31 : f 31 = _ := h31
          simp only [over, overL, Nat.reduceAdd, h31]
          go_simp
          exact hK _ _ ⟨_, rfl, by simp only [over, overL, Nat.reduceAdd, h31]; rfl, Below.refl _ _⟩
        · intro f w1 hb ⟨h32, _⟩ K hK
          replace h32 : f 32 = _ := h32
          simp only [over, overL, Nat.reduceAdd, h32]
          go_simp
          exact hK _ _ ⟨_, rfl, by simp only [over, overL, Nat.reduceAdd, h32]; rfl, Below.refl _ _⟩
        · intro f w1 hb ⟨h33, _⟩ K hK
          replace h33 : f 33 = _ := h33
          have q4 := (KB3.out.later hb).c 4 rfl
          simp only [over, overL, Nat.reduceAdd, h33]
          go_simp
          exact hK _ _ ⟨_, rfl, by simp only [over, overL, Nat.reduceAdd, h33]; rfl, Below.refl _ _⟩
        · intro f w1 hb _ K hK
          simp only [over, overL, Nat.reduceAdd]
          go_simp
          exact hK _ _ ⟨_, rfl, by simp only [over, overL, Nat.reduceAdd]; rfl, Below.refl _ _⟩
        · intro f w1 hb ⟨h35, _⟩ K hK
          replace h35 : f 35 = _ := h35
          have q1 := (KA3.out.later hb).c 1 rfl
          have q2 := (KA3.out.later hb).c 2 rfl
          have q3 := (KA3.out.later hb).c 3 rfl
          simp only [over, overL, Nat.reduceAdd, h35]
          go_simp
          exact hK _ _ ⟨_, rfl, by simp only [over, overL, Nat.reduceAdd, h35]; rfl, Below.refl _ _⟩
        · intro f w1 hb ⟨h34, h36, _⟩ K hK
          replace h34 : f 34 = _ := h34
          replace h36 : f 36 = _ := h36
          have ql := HLK.out w1 hb
          simp only [over, overL, Nat.reduceAdd, h34, h36]
          go_simp
          exact hK _ _ ⟨_, rfl, by simp only [over, overL, Nat.reduceAdd, h34, h36]; rfl, Below.refl _ _⟩
        · intro f w1 hb _ K hK
          simp only [over, overL, Nat.reduceAdd]
          go_simp
          exact hK _ _ ⟨_, rfl, by simp only [over, overL, Nat.reduceAdd]; rfl, Below.refl _ _⟩
        · intro f w1 hb _ K hK
          simp only [over, overL, Nat.reduceAdd]
          go_simp
          exact hK _ _ ⟨_, rfl, by simp only [over, overL, Nat.reduceAdd]; rfl, Below.refl _ _⟩
        · intro f w1 hb ⟨h37, h38, h39, _⟩ K hK
          replace h37 : f 37 = _ := h37
          replace h38 : f 38 = _ := h38
          replace h39 : f 39 = _ := h39
          simp only [over, overL, Nat.reduceAdd, h37, h38, h39]
          go_simp
          refine ((HTG.out w1 hb).mono) ?_
          rintro e w2 ⟨x, rfl, ht, hb2⟩
          exact hK _ _ ⟨_, ht, by simp only [over, overL, Nat.reduceAdd, h37, h38, h39]; rfl, hb2⟩
        · intro f w1 hb ⟨h40, _⟩ K hK
          simp only [over, overL, Nat.reduceAdd]
          go_simp
          exact hK _ _ ⟨_, h40, by simp only [over, overL, Nat.reduceAdd]; rfl, Below.refl _ _⟩
        · intro f w1 hb ⟨h30, _⟩ K hK
          obtain ⟨x, h30, hx⟩ := h30
          simp only [over, overL, Nat.reduceAdd, h30]
          go_simp
          exact hK _ _ ⟨_, hx, by simp only [over, overL, Nat.reduceAdd, h30]; rfl, Below.refl _ _⟩
        · intro f w1 hb ⟨h30, _⟩ K hK
          obtain ⟨x, h30, hx⟩ := h30
          simp only [over, overL, Nat.reduceAdd, h30]
          go_simp
          exact hK _ _ ⟨_, rfl, by simp only [over, overL, Nat.reduceAdd, h30]; rfl, Below.refl _ _⟩
        · intro f w1 hb ⟨h41, _⟩ K hK
          simp only [over, overL, Nat.reduceAdd]
          go_simp
          exact hK _ _ ⟨_, h41, by simp only [over, overL, Nat.reduceAdd]; rfl, Below.refl _ _⟩
        · intro f w1 hb ⟨h42, _⟩ K hK
          replace h42 : f 42 = _ := h42
          simp only [over, overL, Nat.reduceAdd, h42]
          go_simp
          exact hK _ _ ⟨_, rfl, by simp only [over, overL, Nat.reduceAdd, h42]; rfl, Below.refl _ _⟩
      intro f w4 hb hv
      have h6 : f 6 = _ := hv.2.2.2.2.2.2.2.2.2.2.2.2.2.2.1
      have h9 : Fr b m ps (f 9) w4 := hv.2.2.2.2.2.2.2.2.2.2.2.2.2.1
      obtain ⟨aof, capf, h9, hf⟩ := h9
      have HF4 : Hid (Flx b m w4 aof ps) := hf
      have HB4 : Hid (Bn wB w4 ao cap l b m md s) := HB3.out.next hb
      have KA4 : Hid (Bk w.heap.size (acl a) w4) := KA3.out.later hb
      have KB4 : Hid (Bk b (bcs ao cap l md m cw s aoH capH aoT capT) w4) := KB3.out.later hb
      have HH4 : Hid (Flx b m w4 aoH s.held) := HH3.out.next hb
      have HT4 : Hid (Txx b m w4 aoT s.touched) := HT3.out.next hb
      have HWM4 : Hid (WM w4 m wl) := HWM.out.next hb
      have HFL4 : Hid (∀ x ∈ wl, Flx b m w4 x.2.1 x.2.2.2) := fun x hx => (HFL.out x hx).next hb
      clear hv hb hf HB3 KA3 KB3 HH3 HT3 HWM HFL HFF HLK HTG HP3
      simp only [List.drop, over, overL, Nat.reduceAdd, h6, h9]
      clear h6 h9
      go_wp2
      refine HKK.out _ _ ?_
      have q0 := (KA4.out).c 0 rfl
      have q1 := (KA4.out).c 1 rfl
      have q2 := (KA4.out).c 2 rfl
      have q3 := (KA4.out).c 3 rfl
      have q4 := (KA4.out).c 4 rfl
      have q5 := (KA4.out).c 5 rfl
      have q6 := (KA4.out).c 6 rfl
      have q7 := (KA4.out).c 7 rfl
      by_cases h1 : e1 = 0
      · subst h1
        have HQ : Hid (fillA l s a = ({ s with wells := wset s.wells a.pl ps }, 0)) := by
          show _ = _
          simp only [fillA, HA.out, HWF.out, HCK.out, HTQ.out]
          simp
        obtain ⟨hon, hfew⟩ := HB4.out.once HWL.out
        go_wp2_with fail
        refine (keep_any b m _ _ _ _ _ _ _ _ _ _ _ wl a.pl aof capf ps w4 KB4.out HWM4.out hon hfew HP.out).mono ?_
        rintro e w5 ⟨rfl, hwm, hg⟩
        have HWM5 : Hid (WM w5 m (setH wl a.pl (aof, capf, ps))) := hwm
        have HG : Hid (w4.grownBy w5 (some m)) := hg
        clear hwm hg hon hfew q0 q1 q2 q3 q4 q5 q6 q7
        go_wp2
        go_ret
        have hmay := (may_fill HB4.out.may (by rw [HQ.out] : (fillA l s a).2 = 0)).1
        rw [HQ.out] at hmay ⊢
        have hbut : But b m w4 w5 := but_grown HG.out
        exact ⟨rfl, HB4.out.keptTo HWL.out HFL4.out hbut HWM5.out (HF4.out.but hbut) hmay rfl (cw := cw) (KB4.out.same HG.out.size (HG.out.block b KB4.out.1 (by simpa using HB4.out.ne.1))) (HH4.out.but hbut) (HT4.out.but hbut)⟩
      · have h2 : (e1 == 0) = false := by simp [h1]
        have h3 : (e1 != 0) = true := by simp [h1]
        have HQ : Hid (fillA l s a = (s, e1)) := by
          show _ = _
          simp only [fillA, HA.out, HWF.out, HCK.out, HTQ.out]
          simp [h1]
        clear h1
        go_wp2
        go_ret
        exact ⟨by rw [HQ.out]; rfl, by rw [HQ.out]; exact HB4.out⟩
    · have h2 : (e2 == 0) = false := by simp [hc]
      have h3 : (e2 != 0) = true := by simp [hc]
      have HQ : Hid (fillA l s a = (s, e2)) := by
        show _ = _
        simp only [fillA, HA.out, HCK.out]
        simp [hc]
      clear hc
      go_wp2
      go_ret
      exact ⟨by rw [HQ.out]; rfl, by rw [HQ.out]; exact HB3.out⟩
  · have h2 : (e0 == 0) = false := by simp [he]
    have h3 : (e0 != 0) = true := by simp [he]
    have HQ : Hid (fillA l s a = (s, e0)) := by
      show _ = _
      simp only [fillA, HA.out]
      simp [he]
    clear he
    go_wp2
    go_ret
    exact ⟨by rw [HQ.out]; rfl, by rw [HQ.out]; exact HBB.out⟩
end Go.Proofs.YtcajifelbldjnaaGreat
