import Derived.Test.YtgbnjgenopdmfaaGreatKu
import Derived.TacticsInMore
import Derived.LoopIn
import Derived.LoopNIn
import Derived.OwnWalkIn
import Derived.Test.YtgbnjgenopdmfaaGreatKr
import Derived.Test.YtgbnjgenopdmfaaGreatKl

/- shares: what Puts put, one behind the other. -/
namespace Go.Proofs.YtgbnjgenopdmfaaGreat.L
open Go.RowKit
attribute [local go_sem] Oper.semAt_some
theorem follow_any (B T i : Nat) (t : Tp) (hv : Value) (a : Acn) (w : World) (hT : Bk T [.bool t.on, hv] w) (hBT : B ≤ T) (hBw : B ≤ w.heap.size) (hH : Hd w B T hv t.held) (hok : HOk i t.held) (hlen : t.held.length ≤ 100000) :
    Calls Tryz.prog 81 #[ptr T, .int .i64 i, av a] w fun e w' => ∃ gv, e = .returned gv ∧ FolP w w' B T (folR i a t) gv := by
  by_cases h6 : a.kind = 6
  · exact fo_tip B T i t hv a w hT hBT hBw hH hok hlen h6
  · by_cases h7 : a.kind = 7
    · exact fo_drop B T i t hv a w hT hBT hBw hH hok hlen h7
    · by_cases h : t.on = true ∧ 1 ≤ a.vol ∧ a.vol ≤ 1000000000
      · by_cases h8 : a.kind = 8
        · exact fo_draw B T i t hv a w hT hBT hBw hH hok hlen h8 h
        · by_cases h9 : a.kind = 9
          · exact fo_put B T i t hv a w hT hBT hBw hH hok hlen h9 h
          · exact fo_else B T i t hv a w hT hBT hBw hH hok hlen h6 h7 h8 h9 h
      · exact fo_out B T i t hv a w hT hBT hBw hH hok hlen h6 h7 h
theorem shares_make (ao : Option Addr) (n cap : Nat) (w : World) :
    Calls Tryz.prog 41 #[.slice ao n cap] w fun e w' => e = .returned (.func (.func 80) #[] #[ptr w.heap.size]) ∧ w' = w.alloc (.cells #[.slice ao n cap] 23) := by
  go_enter Tryz.func41, Tryz.ntmps41
  go_wp2
  go_ret
  exact ⟨rfl, rfl⟩
theorem fol_len (i : Nat) (a : Acn) (t : Tp) : (folR i a t).2.held.length ≤ t.held.length + 1 := by
  have hp : ∀ (v : Int) (h : List (Nat × Int)), (ptR i v h).2.length ≤ h.length := by
    intro v h
    induction h generalizing v with
    | nil => simp [ptR]
    | cons p r ih =>
      obtain ⟨d, x⟩ := p
      rw [ptR_cons]
      split
      · split
        · simp
        · have := ih (v - x); simp; omega
      · simp
  unfold folR
  split
  · simp
  · split
    · simp
    · split
      · split
        · simp
        · split
          · have := hp a.vol t.held; simp; omega
          · simp
      · simp
theorem tip_len (l : List Acn) : (tipR 0 tp0 l).held.length ≤ l.length := by
  induction l using snocInd with
  | h0 => simp [tipR]
  | h1 l a ih =>
    rw [tip_snoc]
    have := fol_len l.length a (tipR 0 tp0 l)
    simp
    omega
theorem put_len (i : Nat) (v : Int) (h : List (Nat × Int)) : (ptR i v h).1.length ≤ h.length := by
  induction h generalizing v with
  | nil => simp [ptR]
  | cons p r ih =>
    obtain ⟨d, x⟩ := p
    rw [ptR_cons]
    split
    · split
      · simp
      · have := ih (v - x); simp; omega
    · simp
theorem fol_few (i : Nat) (a : Acn) (t : Tp) : (folR i a t).1.length ≤ t.held.length := by
  unfold folR
  split
  · simp
  · split
    · simp
    · split
      · split
        · simp
        · split
          · exact put_len i a.vol t.held
          · simp
      · simp
abbrev shv (s : Shr) : Value := .agg #[.int .i64 s.draw, .int .i64 s.put, .int .i64 s.vol]
theorem acs_kept {M : Nat → Prop} {W wr : World} {ao : Option Addr} {acs : List Acn} (h : Acs W ao acs) (hk : Kpt M W wr) (hM : ∀ ad, ao = some ad → acs ≠ [] → ¬ M ad.block) : Acs wr ao acs := by
  refine ⟨?_, h.ok⟩
  rcases h.rd with h1 | ⟨g, off, e, hlt, hc⟩
  · exact .inl h1
  · by_cases hne : acs = []
    · exact .inl hne
    · refine .inr ⟨g, off, e, Nat.lt_of_lt_of_le hlt hk.size, fun k hk2 j hj => ?_⟩
      rw [← hc k hk2 j hj]
      exact World.cell?_of_block (a := ⟨g, off + k * 8 + j, none⟩) (hk.block g hlt (hM _ e hne))
/-- Shares in memory, from block B on. -/
def Gv (w : World) (B : Nat) (ao : Option Addr) (gs : List Shr) : Prop :=
  gs = [] ∨ ∃ g, ao = some ⟨g, 0, none⟩ ∧ B ≤ g ∧ g < w.heap.size ∧ ∀ k (hk : k < gs.length) j, j < 3 → w.cell? ⟨g, k * 3 + j, none⟩ = (shc (gs[k]'hk))[j]?
theorem Gv.of {w : World} {B base : Nat} {v : Value} {gs : List Shr} (h : OwnR encSh w base v gs) (hB : B ≤ base) : ∃ ao cap, v = .slice ao gs.length cap ∧ Gv w B ao gs := by
  rcases h.read goodSh with ⟨rfl, ao, cap, e⟩ | ⟨g, cap, e, h1, h2, h3, h4⟩
  · exact ⟨ao, cap, e, .inl rfl⟩
  · exact ⟨_, cap, e, .inr ⟨g, rfl, by omega, h3, h4⟩⟩
theorem Gv.kept {w w1 : World} {B : Nat} {ao : Option Addr} {gs : List Shr} (h : Gv w B ao gs) (hs : w.heap.size ≤ w1.heap.size) (hk : ∀ k, B ≤ k → k < w.heap.size → w1.heap[k]? = w.heap[k]?) : Gv w1 B ao gs := by
  rcases h with h | ⟨g, e, h1, h2, h3⟩
  · exact .inl h
  · refine .inr ⟨g, e, h1, Nat.lt_of_lt_of_le h2 hs, fun k hk2 j hj => ?_⟩
    rw [← h3 k hk2 j hj]
    exact World.cell?_of_block (a := ⟨g, k * 3 + j, none⟩) (hk g h1 h2)
/-- What holds between two actions. -/
structure ShI (W : World) (b l : Nat) (acs : List Acn) (J : List Shr → World → Prop) (pre : List Shr) (t : Tp) (wr : World) : Prop where
  kp : Kpt (fun k => k = b ∨ k = l ∨ W.heap.size ≤ k) W wr
  tip : ∃ hv, Bk W.heap.size [.bool t.on, hv] wr ∧ Hd wr W.heap.size W.heap.size hv t.held
  j : J pre wr
theorem ShI.grow {W : World} {b l : Nat} {acs : List Acn} {J : List Shr → World → Prop} (hJ : ∀ s A B, J s A → Below W.heap.size A B → J s B) {pre : List Shr} {t : Tp} {wr w1 : World} (h : ShI W b l acs J pre t wr) (hb : Below wr.heap.size wr w1) : ShI W b l acs J pre t w1 := by
  obtain ⟨hv, h1, h2⟩ := h.tip
  exact ⟨h.kp.trans (Kpt.of_below hb), ⟨hv, h1.later hb, h2.later hb⟩, hJ _ _ _ h.j (hb.mono h.kp.size)⟩
theorem ShI.yield {W : World} {b l : Nat} {acs : List Acn} {J : List Shr → World → Prop} (hb : b < W.heap.size ∧ l < W.heap.size) {pre pre' : List Shr} {t : Tp} {wr w1 : World} (h : ShI W b l acs J pre t wr) (hk : Kpt (fun k => k = b ∨ k = l) wr w1) (hj : J pre' w1) : ShI W b l acs J pre' t w1 := by
  obtain ⟨hv, h1, h2⟩ := h.tip
  refine ⟨h.kp.trans (hk.mono fun k e => e.imp id .inl), ⟨hv, hk.bk h1 (by omega), h2.kept hk.size fun k hB hs _ => hk.block k hs (by omega)⟩, hj⟩
set_option maxHeartbeats 6400000 in
set_option maxRecDepth 100000 in
/-- The iterator: each share once, in order. -/
theorem shares_all (n : Nat) (ao : Option Addr) (cap : Nat) (acs : List Acn) (C b l : Nat) (W : World) (hC : W.cell? ⟨C, 0, none⟩ = some (.slice ao acs.length cap)) (hCl : C < W.heap.size) (hA : Acs W ao acs) (hl : acs.length ≤ 3000)
    (hb : b < W.heap.size ∧ l < W.heap.size) (hAb : ∀ ad, ao = some ad → acs ≠ [] → ad.block ≠ b ∧ ad.block ≠ l ∧ ad.block < W.heap.size) :
    SeqGen Tryz.prog n 80 #[ptr C] (fun s : Shr => #[shv s]) (· <+: shares acs) (· = shares acs) (fun k => W.heap.size ≤ k) (fun k => k = b) l W := by
  intro J hJ0 hY h0
  have hJ : ∀ s A B, J s A → Below W.heap.size A B → J s B := fun s A B h hb => hJ0 s A B h (Kpt.of_low hb)
  clear hJ0
  have HA : Hid (Acs W ao acs) := hA
  have HAB : Hid (∀ ad, ao = some ad → acs ≠ [] → ad.block ≠ b ∧ ad.block ≠ l ∧ ad.block < W.heap.size) := hAb
  have HY : Hid (∀ pre x W1, J pre W1 → pre ++ [x] <+: shares acs → W.heap.size ≤ W1.heap.size → YieldAt Fence.wide (n - 1) Tryz.prog l #[shv x] W1 fun e W' => e = .returned (.bool true) ∧ J (pre ++ [x]) W' ∧ Kpt (fun k => k = b ∨ k = l) W1 W') := hY
  have HJ : Hid (∀ s A B, J s A → Below W.heap.size A B → J s B) := hJ
  have HB : Hid (b < W.heap.size ∧ l < W.heap.size) := hb
  have b0 : Below W.heap.size W (W.alloc (.cells #[.bool false, .slice none 0 0] 142)) := (Below.refl _ _).alloc (Nat.le_refl _) _
  have H0 : Hid (ShI W b l acs J [] tp0 (W.alloc (.cells #[.bool false, .slice none 0 0] 142))) := ⟨Kpt.of_below b0, ⟨_, Bk.new W [.bool false, .slice none 0 0] 142 W.heap.size rfl, Hd.nil _ _ _⟩, hJ _ _ _ h0 b0⟩
  clear hA hAb hY hJ hb b0 h0
  refine callsIn_of_wp Tryz.func80 rfl trivial ?_ rfl
  simp only [Tryz.ntmps80, List.size_toArray, List.length_cons, List.length_nil, Nat.reduceAdd, Nat.reduceSub, Array.replicate_succ, Array.replicate_zero, List.push_toArray, List.append_toArray, List.nil_append, List.cons_append]
  have hneC : C ≠ W.heap.size := by omega
  gi_wp2
  clear hC hneC hCl
  gi_loopw [10] (fun i wr => ∃ k : Nat, k ≤ acs.length ∧ i = .int .i64 k ∧ ShI W b l acs J (shares (acs.take k)) (tipR 0 tp0 (acs.take k)) wr) (fun i _ => acs.length - (intOf i).toNat)
  case atStart => exact ⟨0, Nat.zero_le _, rfl, H0.out⟩
  case round =>
    obtain ⟨k, hk, rfl, hI⟩ := hrel
    have HI : Hid (ShI W b l acs J (shares (acs.take k)) (tipR 0 tp0 (acs.take k)) wr) := hI
    clear hI
    by_cases hlt : k < acs.length
    · have HAW : Hid (Acs wr ao acs) := acs_kept HA.out HI.out.kp fun ad e hne => by have := HAB.out ad e hne; omega
      obtain ⟨g, off, rfl, hc⟩ := HAW.out.at hlt
      have HT : Hid (acs.take (k + 1) = acs.take k ++ [acs[k]'hlt]) := by show _ = _; rw [List.take_succ_eq_append_getElem]
      have HTL : Hid ((acs.take k).length = k) := by show _ = _; rw [List.length_take]; omega
      have HTO := (show Hid _ from tip_ok (acs.take k))
      have HTN := (show Hid _ from tip_len (acs.take k))
      have HPX : Hid (shares (acs.take (k + 1)) <+: shares acs) := shares_take
      generalize acs[k]'hlt = a at *
      have c0 := hc 0 (by decide)
      have c1 := hc 1 (by decide)
      have c2 := hc 2 (by decide)
      have c3 := hc 3 (by decide)
      have c4 := hc 4 (by decide)
      have c5 := hc 5 (by decide)
      have c6 := hc 6 (by decide)
      have c7 := hc 7 (by decide)
      simp only [acl, List.getElem?_cons_zero, List.getElem?_cons_succ, Nat.add_zero] at c0 c1 c2 c3 c4 c5 c6 c7
      clear hc
      have hki : (k : Int) < (acs.length : Int) := by omega
      obtain ⟨hv, hTk, hHd⟩ := (HI.out.grow HJ.out ((Below.refl _ _).alloc (Nat.le_refl _) (.cells (avs a) 55))).tip
      have HC := (show Hid _ from follow_any W.heap.size W.heap.size k (tipR 0 tp0 (acs.take k)) hv a (wr.alloc (.cells (avs a) 55)) hTk (Nat.le_refl _) (by have := HI.out.kp.size; simp; omega) hHd (by have := HTO.out; rwa [HTL.out] at this) (by have := HTN.out; rw [HTL.out] at this; omega))
      clear hTk hHd
      gi_wp2_with fail
      refine ⟨trivial, (fun h => by cases h), ?_⟩
      refine (callsIn_wide.2 HC.out).mono ?_
      rintro e w2 ⟨gv, rfl, FP⟩
      obtain ⟨aoG, capG, rfl, hGv⟩ := Gv.of (B := W.heap.size) FP.own (by have := HI.out.kp.size; simp; omega)
      have hwrs := HI.out.kp.size
      have HI2 : Hid (ShI W b l acs J (shares (acs.take k)) (folR k a (tipR 0 tp0 (acs.take k))).2 w2) :=
        ⟨(HI.out.kp.trans (Kpt.of_below ((Below.refl _ _).alloc (Nat.le_refl _) _))).trans (FP.kp.mono fun k e => .inr (.inr e)), FP.tip, HJ.out _ _ _ HI.out.j (((Below.refl _ _).alloc hwrs _).trans (FP.kp.below (by simp; omega) fun k e => e))⟩
      have HG : Hid (Gv w2 W.heap.size aoG (folR k a (tipR 0 tp0 (acs.take k))).1) := hGv
      have hfew := fol_few k a (tipR 0 tp0 (acs.take k))
      have htn := HTN.out
      rw [HTL.out] at htn
      have HSH : Hid (shares (acs.take (k + 1)) = shares (acs.take k) ++ (folR k a (tipR 0 tp0 (acs.take k))).1) := by show _ = _; rw [HT.out, shares_snoc, HTL.out]
      have HTP : Hid (tipR 0 tp0 (acs.take (k + 1)) = (folR k a (tipR 0 tp0 (acs.take k))).2) := by show _ = _; rw [HT.out, tip_snoc, HTL.out]
      clear FP hGv HC
      generalize (folR k a (tipR 0 tp0 (acs.take k))).1 = gs at *
      generalize (folR k a (tipR 0 tp0 (acs.take k))).2 = t2 at *
      obtain ⟨wO, hwO⟩ : ∃ x, x = wr := ⟨_, rfl⟩
      gi_wp2
      gi_loopw [19] (fun i wr => ∃ j : Nat, j ≤ gs.length ∧ i = .int .i64 j ∧ ShI W b l acs J (shares (acs.take k) ++ gs.take j) t2 wr ∧ Gv wr W.heap.size aoG gs) (fun i _ => gs.length - (intOf i).toNat)
      case atStart => exact ⟨0, Nat.zero_le _, rfl, by simpa using HI2.out, HG.out⟩
      case round =>
        obtain ⟨j, hj, rfl, hIj, hGj⟩ := hrel
        have HIj : Hid (ShI W b l acs J (shares (acs.take k) ++ gs.take j) t2 wr) := hIj
        have HGj : Hid (Gv wr W.heap.size aoG gs) := hGj
        clear hIj hGj
        by_cases hjl : j < gs.length
        · have HTJ : Hid (gs.take (j + 1) = gs.take j ++ [gs[j]'hjl]) := by show _ = _; rw [List.take_succ_eq_append_getElem]
          have HPJ : Hid (shares (acs.take k) ++ gs.take j ++ [gs[j]'hjl] <+: shares acs) := by
            show _ <+: _
            refine List.IsPrefix.trans ?_ HPX.out
            rw [HSH.out, List.append_assoc, ← HTJ.out]
            exact (List.prefix_append_right_inj _).2 (List.take_prefix _ _)
          obtain ⟨g2, rfl, hB2, hlt2, hcs⟩ := HGj.out.resolve_left (fun e => by rw [e] at hjl; simp at hjl)
          have s0 := hcs j hjl 0 (by decide)
          have s1 := hcs j hjl 1 (by decide)
          have s2 := hcs j hjl 2 (by decide)
          clear hcs
          generalize gs[j]'hjl = x at *
          simp only [shc, List.getElem?_cons_zero, List.getElem?_cons_succ, Nat.add_zero] at s0 s1 s2
          have hji : (j : Int) < (gs.length : Int) := by omega
          have hw3 := HIj.out.kp.size
          have HI3 := (show Hid (ShI W b l acs J (shares (acs.take k) ++ gs.take j) t2 (wr.alloc (.cells #[.int .i64 x.draw, .int .i64 x.put, .int .i64 x.vol] 89))) from HIj.out.grow HJ.out ((Below.refl _ _).alloc (Nat.le_refl _) _))
          obtain ⟨fn, tmps, assign, body, hy, hR⟩ := HY.out _ x _ HI3.out.j HPJ.out (by simp; omega)
          gi_wp2
          refine ⟨(fun h => by cases h), hR.mono ?_⟩
          rintro e w4 ⟨rfl, hJ4, hk4⟩
          gi_wp2
          go_roundw
          case rel =>
            refine ⟨j + 1, by omega, by go_num, ?_, ?_⟩
            · have := HI3.out.yield HB.out hk4 hJ4
              rwa [List.append_assoc, ← HTJ.out] at this
            · refine (HGj.out.kept (w1 := wr.alloc (.cells #[.int .i64 x.draw, .int .i64 x.put, .int .i64 x.vol] 89)) (by simp) fun k _ hk => Below.heap_alloc _ _ _ hk).kept hk4.size fun k hB hk => hk4.block k hk (by have := HB.out; omega)
          case measure => simp [intOf]; omega
        · have ej : j = gs.length := by omega
          have HEJ : Hid (gs.take j = gs) := List.take_of_length_le (by omega)
          gi_wp2
          go_roundw
          case rel =>
            refine ⟨k + 1, by omega, by go_num, ?_⟩
            rw [HSH.out, HTP.out]
            have := HIj.out
            rwa [HEJ.out] at this
          case measure => simp [intOf]; omega
    · gi_wp2
      go_end0
      have e : acs.take k = acs := List.take_of_length_le (by omega)
      have := HI.out.j
      rw [e] at this
      exact ⟨⟨_, rfl⟩, _, rfl, this⟩
end Go.Proofs.YtgbnjgenopdmfaaGreat.L

/- Within a round; how many shares there are. -/
namespace Go.Proofs.YtgbnjgenopdmfaaGreat.L
open Go.RowKit Go.Maps Go.MapKept
section
variable {P : Program} {Q : Exit → Act → World → Prop}
theorem list_round {ops : Array Oper} (l n : Nat) (hl : ¬ LetsOut Q) : ∀ (rest : List Oper) (a : Act) (w : World), (∀ o ∈ rest, ∀ c, o.op ≠ .defer c) →
    wpList P ops Q rest a w → wpListIn (Fence.wide.inRound l) n P ops Q rest a w
  | [], a, w, _, h => h
  | o :: rest, a, w, hd, h => by
    unfold wpList at h
    unfold wpListIn
    split at h
    · rename_i hw
      rw [if_pos hw]
      rcases h with h | h
      · exact oper_round l n (Oper.wp_mono (fun a w h => list_round l n hl rest a w (fun x hx => hd x (by simp [hx])) h) h) (hd o (by simp))
      · exact absurd h.2 hl
    · rename_i hw
      rw [if_neg hw]
      exact ⟨fun _ _ => trivial, list_round l n hl rest _ w (fun x hx => hd x (by simp [hx])) h⟩
theorem region_round {ops : List Oper} {id : Nat} {a : Act} {w : World} (l n : Nat) (hl : ¬ LetsOut Q) (hd : noDefer ops.toArray = true) (h : wpList P ops.toArray Q ops a w) : (Code.region id ops.toArray false).wpIn (Fence.wide.inRound l) n P Q a w := by
  refine wpIn_region_lit (list_round l n hl _ a w (fun o ho => ?_) h)
  obtain ⟨i, hi⟩ := List.mem_iff_getElem?.1 ho
  exact noDefer_at hd (i := i) (by simpa using hi)
end
theorem leave_plain {F : Fence} {n : Nat} {P : Program} {fn : Func} {R : Ending → World → Prop} {tmps : Array Value} {w : World} {v : Value} (h : (results fn tmps).run P w = .ok v w) (hR : R (.returned v) w) : LeavesInM F n P fn tmps R [] .returning w := ⟨_, h, hR⟩
theorem leave_mark {F : Fence} {n : Nat} {P : Program} {fn : Func} {R : Ending → World → Prop} {tmps : Array Value} {w : World} {D : Nat} {v : Value} (hD : w.heap[D]? = some (.deferred (some []))) (h : (results fn tmps).run P (w.putObj D (.deferred none)) = .ok v (w.putObj D (.deferred none))) (hR : R (.returned v) (w.putObj D (.deferred none))) :
    LeavesInM F n P fn tmps R [{ target := .collected D, args := #[] }] .returning w := by
  refine ⟨by simp, .inl ⟨_, _, rfl, run_takeDeferred hD, ?_⟩⟩
  exact ⟨_, h, hR⟩
theorem en_S : ∀ args w, (callFunc 80 args).run Tryz.prog w = .ok (.enter 80 args) w := enters_of Tryz.func80 (by kernel_rfl) rfl
theorem shares_few (l : List Acn) : (shares l).length ≤ l.length * l.length := by
  have : ∀ n, n ≤ l.length → (shares (l.take n)).length ≤ n * l.length := by
    intro n
    induction n with
    | zero => intro _; simp [shares, shrR]
    | succ n ih =>
      intro hn
      have e : l.take (n + 1) = l.take n ++ [l[n]'(by omega)] := by rw [List.take_succ_eq_append_getElem]
      rw [e, shares_snoc, List.length_append]
      have h1 := fol_few (l.take n).length (l[n]'(by omega)) (tipR 0 tp0 (l.take n))
      have h2 := tip_len (l.take n)
      have h3 : (l.take n).length = n := by rw [List.length_take]; omega
      have := ih (by omega)
      rw [Nat.succ_mul]
      omega
  have h := this l.length (Nat.le_refl _)
  rwa [List.take_length] at h
end Go.Proofs.YtgbnjgenopdmfaaGreat.L

/- flow.Usage walked. -/
namespace Go.Proofs.YtgbnjgenopdmfaaGreat.L
open Go.RowKit
attribute [local go_sem] Oper.semAt_some
/-- The sum of all times above 0 of Hold, Shake, Wait. -/
def usT : Int → List Acn → Option Int
  | t, [] => some t
  | t, a :: r => if (a.kind = 12 ∨ a.kind = 14 ∨ a.kind = 13) ∧ 0 < a.time then (if 1000000000 - t < a.time then none else usT (t + a.time) r) else usT t r
def tipsC : List Acn → Int
  | [] => 0
  | a :: r => (if a.kind = 6 then 1 else 0) + tipsC r
theorem tipsC_append (a b : List Acn) : tipsC (a ++ b) = tipsC a + tipsC b := by
  induction a with
  | nil => simp [tipsC]
  | cons x r ih => simp only [List.cons_append, tipsC, ih]; omega
theorem tipsC_in (l : List Acn) : 0 ≤ tipsC l ∧ tipsC l ≤ l.length := by
  induction l with
  | nil => simp [tipsC]
  | cons x r ih =>
    simp only [tipsC, List.length_cons]
    split <;> omega
def usR (l : List Acn) : Int × Int × Int × Int := if 3000 < l.length then (0, 0, 0, 7) else match usT 0 l with
  | none => (0, 0, 0, 8)
  | some t => (tipsC l, volsR (shares l), t, 0)
theorem setCell_id {w : World} {b k : Nat} {v : Value} (h : w.cell? ⟨b, k, none⟩ = some v) : w.setCell ⟨b, k, none⟩ v = w := by
  unfold World.cell? at h
  have e : (w.setCell ⟨b, k, none⟩ v).heap = w.heap := by
    unfold World.setCell
    apply Array.ext_getElem?
    intro i
    simp only [Array.getElem?_modify]
    split
    · rename_i e
      subst e
      cases hb : w.heap[b]? with
      | none => rfl
      | some o =>
        simp only [hb] at h
        cases o with
        | cells c t fz =>
          simp only [Option.isSome_none, Bool.false_eq_true, if_false] at h
          simp only [Option.map_some, Option.isSome_none, Bool.false_eq_true, if_false]
          congr 2
          apply Array.ext_getElem?
          intro j
          rw [Array.getElem?_setIfInBounds]
          split
          · rename_i e2
            subst e2
            rw [if_pos (Array.getElem?_eq_some_iff.1 h).1, h]
          · rfl
        | _ => simp at h
    · rfl
  calc w.setCell ⟨b, k, none⟩ v = { w with heap := (w.setCell ⟨b, k, none⟩ v).heap } := rfl
    _ = w := by rw [e]
theorem volsR_snoc (a : List Shr) (s : Shr) : volsR (a ++ [s]) = volsR a + s.vol := by rw [volsR_append]; simp [volsR]
set_option linter.unusedVariables false in
def usV (tp vo ti : Int) (i : Nat) (l : List Value) (w : World) : Prop :=
  match i, l with
  | 0, [v] => v = .int .i64 tp
  | 1, [v] => v = .int .i64 vo
  | 2, [v] => v = .int .i64 ti
  | 6, [v] => v = .int .i64 0
  | _, _ => True
def usJ (tp vo ti : Int) (M : Nat) (f : Nat → Value) (w : World) : Prop := f 2 = .int .i64 tp ∧ f 4 = .int .i64 ti ∧ Bk M [.int .i64 vo] w
theorem takesTime_any (k : Int) (w : World) : Calls Tryz.prog 40 #[.int .i64 k] w fun e w' => e = .returned (.bool (decide (k = 12 ∨ k = 14 ∨ k = 13))) ∧ w' = w := by
  by_cases h12 : k = 12
  · have b1 : (k == 12) = true := by simp [h12]
    have HR : Hid (decide (k = 12 ∨ k = 14 ∨ k = 13) = true) := by show _ = _; simp [h12]
    clear h12
    go_enter Tryz.func40, Tryz.ntmps40
    go_wp2
    go_ret
    exact ⟨ret_bool HR.out.symm, rfl⟩
  · have b1 : (k == 12) = false := by simp [h12]
    by_cases h14 : k = 14
    · have b2 : (k == 14) = true := by simp [h14]
      have HR : Hid (decide (k = 12 ∨ k = 14 ∨ k = 13) = true) := by show _ = _; simp [h14]
      clear h12 h14
      go_enter Tryz.func40, Tryz.ntmps40
      go_wp2
      go_ret
      exact ⟨ret_bool HR.out.symm, rfl⟩
    · have b2 : (k == 14) = false := by simp [h14]
      by_cases h13 : k = 13
      · have b3 : (k == 13) = true := by simp [h13]
        have HR : Hid (decide (k = 12 ∨ k = 14 ∨ k = 13) = true) := by show _ = _; simp [h13]
        clear h12 h14 h13
        go_enter Tryz.func40, Tryz.ntmps40
        go_wp2
        go_ret
        exact ⟨ret_bool HR.out.symm, rfl⟩
      · have b3 : (k == 13) = false := by simp [h13]
        have HR : Hid (decide (k = 12 ∨ k = 14 ∨ k = 13) = false) := by show _ = _; simp [h12, h13, h14]
        clear h12 h14 h13
        go_enter Tryz.func40, Tryz.ntmps40
        go_wp2
        go_ret
        exact ⟨ret_bool HR.out.symm, rfl⟩
abbrev usv (r : Int × Int × Int × Int) : Value := .tuple #[.int .i64 r.1, .int .i64 r.2.1, .int .i64 r.2.2.1, .int .i64 r.2.2.2]
theorem vols_in {ss : List Shr} (h : ∀ s ∈ ss, 1 ≤ s.vol ∧ s.vol ≤ 1000000000) : 0 ≤ volsR ss ∧ volsR ss ≤ 1000000000 * ss.length := by
  induction ss with
  | nil => simp [volsR]
  | cons s r ih =>
    have h1 := h s (by simp)
    have h2 := ih fun x hx => h x (by simp [hx])
    simp only [volsR, List.length_cons]
    omega
theorem vols_pre {acs : List Acn} {pre : List Shr} (hl : acs.length ≤ 3000) (h : pre <+: shares acs) : 0 ≤ volsR pre ∧ volsR pre ≤ 9000000000000000 := by
  have h1 := vols_in (ss := pre) fun s hs => (shares_ok acs s (h.subset hs)).2.2.2
  have h2 := h.length_le
  have h3 := shares_few acs
  have h4 : acs.length * acs.length ≤ 3000 * 3000 := Nat.mul_le_mul hl hl
  omega
set_option maxHeartbeats 6400000 in
set_option maxRecDepth 100000 in
theorem usage_any (ao : Option Addr) (cap : Nat) (acs : List Acn) (w : World) (hA : Acs w ao acs) (hla : acs.length ≤ 9223372036854775807) :
    Calls Tryz.prog 18 #[.slice ao acs.length cap] w fun e w' => e = .returned (usv (usR acs)) ∧ Below w.heap.size w w' := by
  have HA : Hid (Acs w ao acs) := hA
  clear hA
  refine (callsIn_wide (n := 3)).1 (callsIn_of_wp_marks Tryz.func18 rfl trivial (wpIn_wide.2 ?_) rfl)
  simp only [Tryz.ntmps18, List.size_toArray, List.length_cons, List.length_nil, Nat.reduceAdd, Nat.reduceSub, Array.replicate_succ, Array.replicate_zero, List.push_toArray, List.append_toArray, List.nil_append, List.cons_append]
  by_cases hbig : 3000 < acs.length
  · have HR : Hid (usR acs = (0, 0, 0, 7)) := if_pos hbig
    go_wp2
    refine leave_plain (v := usv (0, 0, 0, 7)) (by simp [results, Tryz.results18, go_sem]) ⟨by rw [HR.out], ?_⟩
    first
      | exact ((Below.refl _ _).alloc (Nat.le_refl _) _).setCell (Nat.le_refl _) _
      | exact (Below.refl _ _).alloc (Nat.le_refl _) _
  · have hl : acs.length ≤ 3000 := by omega
    have HUR : Hid (usR acs = match usT 0 acs with | none => (0, 0, 0, 8) | some t => (tipsC acs, volsR (shares acs), t, 0)) := if_neg hbig
    have K0 : Hid (Bk w.heap.size [.int .i64 0] (w.alloc (.cells #[.int .i64 0] 3))) := Bk.new w [.int .i64 0] 3 w.heap.size rfl
    have HB0 : Hid (Below w.heap.size w (w.alloc (.cells #[.int .i64 0] 3))) := (Below.refl _ _).alloc (Nat.le_refl _) _
    clear hbig
    go_wp2
    go_loopw [2, 4, 14] (fun a b i wr => ∃ (k : Nat) (t : Int), k ≤ acs.length ∧ i = .int .i64 k ∧ a = .int .i64 (tipsC (acs.take k)) ∧ b = .int .i64 t ∧ 0 ≤ t ∧ t ≤ 1000000000 ∧ usT 0 acs = usT t (acs.drop k) ∧ Bk w.heap.size [.int .i64 0] wr ∧ Below w.heap.size w wr) (fun _ _ i _ => acs.length - (intOf i).toNat)
    case atStart => exact ⟨0, 0, Nat.zero_le _, rfl, rfl, rfl, Int.le_refl _, by decide, rfl, K0.out, HB0.out⟩
    case round =>
      obtain ⟨k, t, hk, rfl, rfl, rfl, ht0, ht1, hus, hK, hB⟩ := hrel
      have HUS : Hid (usT 0 acs = usT t (acs.drop k)) := hus
      have HK : Hid (Bk w.heap.size [.int .i64 0] wr) := hK
      have HB : Hid (Below w.heap.size w wr) := hB
      clear hus hK hB
      by_cases hlt : k < acs.length
      · obtain ⟨g, off, rfl, hc⟩ := (HA.out.next HB.out).at hlt
        have HT : Hid (acs.take (k + 1) = acs.take k ++ [acs[k]'hlt]) := by show _ = _; rw [List.take_succ_eq_append_getElem]
        have HUS2 : Hid (usT 0 acs = usT t (acs[k]'hlt :: acs.drop (k + 1))) := by show _ = _; rw [HUS.out, List.drop_eq_getElem_cons hlt]
        have htc := tipsC_in (acs.take k)
        have htl : (acs.take k).length = k := by rw [List.length_take]; omega
        rw [htl] at htc
        have hwf := (HA.out.ok _ (List.getElem_mem hlt))
        generalize acs[k]'hlt = a at *
        clear htl
        have c0 := hc 0 (by decide)
        have c1 := hc 1 (by decide)
        have c2 := hc 2 (by decide)
        have c3 := hc 3 (by decide)
        have c4 := hc 4 (by decide)
        have c5 := hc 5 (by decide)
        have c6 := hc 6 (by decide)
        have c7 := hc 7 (by decide)
        simp only [acl, List.getElem?_cons_zero, List.getElem?_cons_succ, Nat.add_zero] at c0 c1 c2 c3 c4 c5 c6 c7
        clear hc
        have hki : (k : Int) < (acs.length : Int) := by omega
        have HCT : Hid (∀ W, Calls Tryz.prog 40 #[.int .i64 a.kind] W fun e w' => e = .returned (.bool (decide (a.kind = 12 ∨ a.kind = 14 ∨ a.kind = 13))) ∧ w' = W) := fun W => takesTime_any a.kind W
        have b2 : Below wr.heap.size wr (wr.alloc (aobj a)) := (Below.refl _ _).alloc (Nat.le_refl _) _
        have HK2 : Hid (Bk w.heap.size [.int .i64 0] (wr.alloc (aobj a))) := HK.out.later b2
        have HB2 : Hid (Below w.heap.size w (wr.alloc (aobj a))) := below_on HB.out b2
        clear b2
        have m0 := HK.out.c 0 rfl
        have mf0 := HK.out.f 0 rfl
        have hmw : w.heap.size ≠ wr.heap.size := by have := HK.out.1; omega
        by_cases h6 : a.kind = 6
        · have b6 : (a.kind == 6) = true := by simp [h6]
          have HTC : Hid (tipsC (acs.take (k + 1)) = tipsC (acs.take k) + 1) := by show _ = _; rw [HT.out, tipsC_append]; simp [tipsC, h6]
          have htt : decide (a.kind = 12 ∨ a.kind = 14 ∨ a.kind = 13) = false := by simp; omega
          have HUS3 : Hid (usT 0 acs = usT t (acs.drop (k + 1))) := by show _ = _; rw [HUS2.out, usT, if_neg (by omega)]
          rw [htt] at HCT
          clear h6 htt
          go_wp2_with (go_at_call 40; refine (HCT.out _).mono ?_; rintro e w2 ⟨rfl, rfl⟩)
          go_roundw
          case rel => exact ⟨k + 1, t, by omega, by go_num, by rw [HTC.out], rfl, ht0, ht1, HUS3.out, HK2.out, HB2.out⟩
          case measure => simp [intOf]; omega
        · have b6 : (a.kind == 6) = false := by simp [h6]
          have HTC : Hid (tipsC (acs.take (k + 1)) = tipsC (acs.take k)) := by show _ = _; rw [HT.out, tipsC_append]; simp [tipsC, h6]
          clear h6
          by_cases htt : (a.kind = 12 ∨ a.kind = 14 ∨ a.kind = 13)
          · rw [decide_eq_true htt] at HCT
            by_cases hp : 0 < a.time
            · by_cases hov : 1000000000 - t < a.time
              · have HR : Hid (usR acs = (0, 0, 0, 8)) := by show _ = _; rw [HUR.out, HUS2.out, usT, if_pos ⟨htt, hp⟩, if_pos hov]
                clear htt
                have n0 := HK2.out.c 0 rfl
                have nf0 := HK2.out.f 0 rfl
                have hlt2 : w.heap.size < wr.heap.size := HK.out.1
                go_wp2_with (go_at_call 40; refine (HCT.out _).mono ?_; rintro e w2 ⟨rfl, rfl⟩)
                rw [setCell_id m0]
                exact leave_plain (v := usv (0, 0, 0, 8)) (by simp [results, Tryz.results18, go_sem, n0]) ⟨by rw [HR.out], HB2.out⟩
              · have HUS3 : Hid (usT 0 acs = usT (t + a.time) (acs.drop (k + 1))) := by show _ = _; rw [HUS2.out, usT, if_pos ⟨htt, hp⟩, if_neg hov]
                clear htt
                go_wp2_with (go_at_call 40; refine (HCT.out _).mono ?_; rintro e w2 ⟨rfl, rfl⟩)
                go_roundw
                case rel => exact ⟨k + 1, t + a.time, by omega, by go_num, by rw [HTC.out], rfl, by omega, by omega, HUS3.out, HK2.out, HB2.out⟩
                case measure => simp [intOf]; omega
            · have HUS3 : Hid (usT 0 acs = usT t (acs.drop (k + 1))) := by show _ = _; rw [HUS2.out, usT, if_neg (fun h => hp h.2)]
              clear htt
              go_wp2_with (go_at_call 40; refine (HCT.out _).mono ?_; rintro e w2 ⟨rfl, rfl⟩)
              go_roundw
              case rel => exact ⟨k + 1, t, by omega, by go_num, by rw [HTC.out], rfl, ht0, ht1, HUS3.out, HK2.out, HB2.out⟩
              case measure => simp [intOf]; omega
          · rw [decide_eq_false htt] at HCT
            have HUS3 : Hid (usT 0 acs = usT t (acs.drop (k + 1))) := by show _ = _; rw [HUS2.out, usT, if_neg (fun h => htt h.1)]
            clear htt
            go_wp2_with (go_at_call 40; refine (HCT.out _).mono ?_; rintro e w2 ⟨rfl, rfl⟩)
            go_roundw
            case rel => exact ⟨k + 1, t, by omega, by go_num, by rw [HTC.out], rfl, ht0, ht1, HUS3.out, HK2.out, HB2.out⟩
            case measure => simp [intOf]; omega
      · have ek : k = acs.length := by omega
        subst ek

        have HUF : Hid (usR acs = (tipsC acs, volsR (shares acs), t, 0)) := by
          show _ = _
          rw [HUR.out, HUS.out, List.drop_length]
          rfl
        have HAR : Hid (Acs wr ao acs) := HA.out.next HB.out
        clear HUS HUR
        go_wp2_with (go_at_call 41; refine (shares_make ao acs.length cap _).mono ?_; rintro e w3 ⟨rfl, rfl⟩)
        obtain ⟨wR, hwR⟩ : ∃ wR, wR = wr.alloc (.cells #[.slice ao acs.length cap] 23) := ⟨_, rfl⟩
        have hsR : wR.heap.size = wr.heap.size + 1 := by rw [hwR]; simp
        have bR : Below wr.heap.size wr wR := by rw [hwR]; exact (Below.refl _ _).alloc (Nat.le_refl _) _
        have KC : Hid (Bk wr.heap.size [.slice ao acs.length cap] wR) := by
          show Bk _ _ _
          rw [hwR]
          exact Bk.new _ [.slice ao acs.length cap] 23 wr.heap.size rfl
        have HI0 : Hid (Bk w.heap.size [.int .i64 (volsR [])] wR ∧ Below w.heap.size w wR) := ⟨HK.out.later bR, below_on HB.out bR⟩
        have HAR2 : Hid (Acs wR ao acs) := HAR.out.next bR
        have HLA : Hid (∀ ad, ao = some ad → acs ≠ [] → ad.block < w.heap.size) := by
          intro ad e hne
          rcases HA.out.rd with h | ⟨b, off, e2, hlt, _⟩
          · exact absurd h hne
          · rw [e2] at e
            injection e with e
            subst e
            exact hlt
        have hwl : w.heap.size < wr.heap.size := HK.out.1
        rw [← hwR]
        clear hwR HAR
        refine range_gen (n := 3) (gf := 80) (lb := #[ptr wr.heap.size]) rfl (fun args w => en_S args w) (fun k => wr.heap.size + 3 ≤ k) (fun k => k = w.heap.size)
          (· <+: shares acs) (· = shares acs) (fun s : Shr => #[shv s]) (fun _ => rfl) ?_ (by rw [hsR]; exact fun k h => h) (by rw [hsR]; omega) (by rw [hsR]; omega) (fun pre W => Bk w.heap.size [.int .i64 (volsR pre)] W ∧ Below w.heap.size w W) ?_ HI0.out
          (fun s a1 A => ∃ (g : Nat) (v0 v1 v2 v4 v5 v6 v7 v9 v10 v11 v12 v13 v14 v15 v16 v17 v18 v19 v20 v21 v22 v23 v24 v25 v26 v27 v28 v29 v30 v31 v32 v33 v34 v35 v36 v37 v38 v39 v40 v41 v42 v43 v45 v46 v47 v48 v49 v50 v51 : Value), wr.heap.size + 3 ≤ g ∧ a1 = { tmps := #[v0, v1, v2, ptr w.heap.size, v4, v5, v6, v7, ptr g, v9, v10, v11, v12, v13, v14, v15, v16, v17, v18, v19, v20, v21, v22, v23, v24, v25, v26, v27, v28, v29, v30, v31, v32, v33, v34, v35, v36, v37, v38, v39, v40, v41, v42, v43, shv s, v45, v46, v47, v48, v49, v50, v51], defers := [] } ∧ Bk g [.int .i64 s.draw, .int .i64 s.put, .int .i64 s.vol] A) ?_ ?_ ?_ ?_
        · intro W hb hs
          have e : W.heap.size = wr.heap.size + 3 := by rw [hs, hsR]
          have := shares_all 2 ao cap acs wr.heap.size w.heap.size (wR.heap.size + 1) W ((KC.out.later hb).c 0 rfl) (by omega) (HAR2.out.next hb) hl (by omega) (fun ad e hne => by have := HLA.out ad e hne; omega)
          rw [e] at this
          exact this
        · rintro s A B ⟨h1, h2⟩ hk
          exact ⟨h1.same hk.size (hk.block _ h1.1 (by omega)), h2.trans (hk.below h2.size (fun k e => by omega))⟩
        · rintro s a1 A B ⟨g, v0, v1, v2, v4, v5, v6, v7, v9, v10, v11, v12, v13, v14, v15, v16, v17, v18, v19, v20, v21, v22, v23, v24, v25, v26, v27, v28, v29, v30, v31, v32, v33, v34, v35, v36, v37, v38, v39, v40, v41, v42, v43, v45, v46, v47, v48, v49, v50, v51, h1, h2, h3⟩ hk
          exact ⟨g, v0, v1, v2, v4, v5, v6, v7, v9, v10, v11, v12, v13, v14, v15, v16, v17, v18, v19, v20, v21, v22, v23, v24, v25, v26, v27, v28, v29, v30, v31, v32, v33, v34, v35, v36, v37, v38, v39, v40, v41, v42, v43, v45, v46, v47, v48, v49, v50, v51, h1, h2, h3.same hk.size (hk.block _ h3.1 (by omega))⟩
        · intro l pre s W K hI hpre hs hK
          have HKK : Hid _ := hK
          clear hK
          have K1 : Hid (Bk W.heap.size [.int .i64 s.draw, .int .i64 s.put, .int .i64 s.vol] (W.alloc (.cells #[.int .i64 s.draw, .int .i64 s.put, .int .i64 s.vol] 89))) := Bk.new W [.int .i64 s.draw, .int .i64 s.put, .int .i64 s.vol] 89 W.heap.size rfl
          refine region_round l _ (by rintro ⟨a, w, h⟩; exact h) (by kernel_rfl) ?_
          go_wp2
          exact HKK.out _ _ ⟨W.heap.size, _, _, _, _, _, _, _, _, _, _, _, _, _, _, _, _, _, _, _, _, _, _, _, _, _, _, _, _, _, _, _, _, _, _, _, _, _, _, _, _, _, _, _, _, _, _, _, _, _, by omega, rfl, K1.out⟩ ((Below.refl _ _).alloc (Nat.le_refl _) _)
        · rintro l pre s a1 W ⟨hk1, hb1⟩ hpre hs ⟨g, v0, v1, v2, v4, v5, v6, v7, v9, v10, v11, v12, v13, v14, v15, v16, v17, v18, v19, v20, v21, v22, v23, v24, v25, v26, v27, v28, v29, v30, v31, v32, v33, v34, v35, v36, v37, v38, v39, v40, v41, v42, v43, v45, v46, v47, v48, v49, v50, v51, hg, rfl, hk⟩
          have hok := shares_ok acs s (hpre.subset (by simp))
          obtain ⟨_, _, _, hs1, hs2⟩ := hok
          have hv := vols_pre hl ((List.prefix_append pre [s]).trans hpre)
          obtain ⟨hv0, hv1⟩ := hv
          have HVS : Hid (volsR (pre ++ [s]) = volsR pre + s.vol) := volsR_snoc pre s
          have HK1 : Hid (Bk w.heap.size [.int .i64 (volsR pre)] W) := hk1
          have HB1 : Hid (Below w.heap.size w W) := hb1
          have c0 := hk1.c 0 rfl
          have f0 := hk1.f 0 rfl
          have g2 := hk.c 2 rfl
          generalize volsR pre = vp at *
          clear hpre hk1 hb1 hk
          refine wpIn_block (region_round l _ (by rintro ⟨a, w, h⟩; cases h.1) (by kernel_rfl) ?_)
          go_wp2
          have k2 : Kpt (fun k => k = w.heap.size) W (W.setCell ⟨w.heap.size, 0, none⟩ (.int .i64 (vp + s.vol))) := Kpt.setCell _ _ _ _ rfl
          refine ⟨trivial, k2, ?_, HB1.out.trans (k2.below HB1.out.size (fun k e => by omega))⟩
          rw [HVS.out]
          exact HK1.out.put 0 _
        · intro xs W hS hI hs hd
          subst hS
          obtain ⟨hI1, hI2⟩ := hI
          have HI1 : Hid (Bk w.heap.size [.int .i64 (volsR (shares acs))] W) := hI1
          have HI2 : Hid (Below w.heap.size w W) := hI2
          clear hI1 hI2
          have HSR : Hid (wR.heap.size = wr.heap.size + 1) := hsR
          clear hsR
          go_wp2_with fail
          refine region_all [false, false, true, false, true, true, false, false, false, false, false, false, false, false, false, false, false, false, false, false, false, false, false, false, false, false, false, false, false, false, false, false, false, false, false, false, false, false, false, false, false, false, false, false, false, false, false, false, false, true, true, true]
            [([], [49], none), ([], [50], none), ([], [51], none), ([0], [2], none), ([1], [], none), ([2], [4], none), ([], [5], none)]
            (usV (tipsC acs) (volsR (shares acs)) t) (usJ (tipsC acs) (volsR (shares acs)) t w.heap.size) (by kernel_rfl) (by kernel_rfl) (fun w1 hb => ⟨rfl, rfl, HI1.out.later hb⟩) ?_ ?_
          · refine ⟨?_, ?_, ?_, ?_, ?_, ?_, ?_, trivial⟩
            · intro f w1 hb hJ _ K hK
              obtain ⟨j2, j4, jb⟩ := hJ
              simp only [over, overL, Nat.reduceAdd, j2, j4]
              go_simp
              exact hK _ _ ⟨_, by simp only [over, overL, Nat.reduceAdd, j2, j4]; rfl, rfl, hb, ⟨j2, j4, jb⟩, fun _ h => h⟩
            · intro f w1 hb hJ _ K hK
              obtain ⟨j2, j4, jb⟩ := hJ
              have q0 := jb.c 0 rfl
              simp only [over, overL, Nat.reduceAdd, j2, j4]
              go_simp
              exact hK _ _ ⟨_, by simp only [over, overL, Nat.reduceAdd, j2, j4]; rfl, rfl, hb, ⟨j2, j4, jb⟩, fun _ h => h⟩
            · intro f w1 hb hJ _ K hK
              obtain ⟨j2, j4, jb⟩ := hJ
              simp only [over, overL, Nat.reduceAdd, j2, j4]
              go_simp
              exact hK _ _ ⟨_, by simp only [over, overL, Nat.reduceAdd, j2, j4]; rfl, rfl, hb, ⟨j2, j4, jb⟩, fun _ h => h⟩
            · intro f w1 hb hJ ⟨h49, _⟩ K hK
              obtain ⟨j2, j4, jb⟩ := hJ
              replace h49 : f 49 = .int .i64 (tipsC acs) := h49
              simp only [over, overL, Nat.reduceAdd, j2, j4, h49]
              go_simp
              exact hK _ _ ⟨_, by simp only [over, overL, Nat.reduceAdd, j2, j4, h49]; rfl, trivial, hb, ⟨rfl, j4, jb⟩, fun _ h => h⟩
            · intro f w1 hb hJ ⟨h50, _⟩ K hK
              obtain ⟨j2, j4, jb⟩ := hJ
              replace h50 : f 50 = .int .i64 (volsR (shares acs)) := h50
              have q0 := jb.c 0 rfl
              have q1 := jb.f 0 rfl
              have q2 := setCell_id q0
              simp only [over, overL, Nat.reduceAdd, j2, j4, h50]
              go_simp
              exact hK _ _ ⟨undef, by simp only [over, overL, Nat.reduceAdd, j2, j4, h50]; rfl, trivial, hb, ⟨j2, j4, jb⟩, fun _ h => h⟩
            · intro f w1 hb hJ ⟨h51, _⟩ K hK
              obtain ⟨j2, j4, jb⟩ := hJ
              replace h51 : f 51 = .int .i64 t := h51
              simp only [over, overL, Nat.reduceAdd, j2, j4, h51]
              go_simp
              exact hK _ _ ⟨_, by simp only [over, overL, Nat.reduceAdd, j2, j4, h51]; rfl, trivial, hb, ⟨j2, rfl, jb⟩, fun _ h => h⟩
            · intro f w1 hb hJ _ K hK
              obtain ⟨j2, j4, jb⟩ := hJ
              simp only [over, overL, Nat.reduceAdd, j2, j4]
              go_simp
              exact hK _ _ ⟨_, by simp only [over, overL, Nat.reduceAdd, j2, j4]; rfl, rfl, hb, ⟨j2, j4, jb⟩, fun _ h => h⟩
          · intro f w1 hb hJ hv
            obtain ⟨j2, j4, jb⟩ := hJ
            have h5 : f 5 = .int .i64 0 := hv.2.2.2.2.2.2.1
            simp only [over, overL, Nat.reduceAdd, j2, j4, h5]
            have hd1 : w1.heap[wR.heap.size]? = some (.deferred (some [])) := (hb.block _ (by have := HSR.out; omega)).trans hd
            have hpk := Kpt.putObj (fun k => k = wR.heap.size) w1 wR.heap.size (.deferred none) rfl
            have jp := (jb.same hpk.size (hpk.block _ jb.1 (by have := HSR.out; omega))).c 0 rfl
            have hbw : Below w.heap.size w w1 := below_on HI2.out hb
            have HF : Hid (Below w.heap.size w (w1.putObj wR.heap.size (.deferred none))) := hbw.trans (hpk.below hbw.size (fun k e => by have := HSR.out; omega))
            go_wp2
            exact leave_mark hd1 (v := usv (tipsC acs, volsR (shares acs), t, 0)) (by simp [results, Tryz.results18, go_sem, jp]) ⟨by rw [HUF.out], HF.out⟩
end Go.Proofs.YtgbnjgenopdmfaaGreat.L

/- FlowFewer: a saved trace has no more tips, and leaves all wells, the heat and the clock as they were. -/
namespace Go.Proofs.YtgbnjgenopdmfaaGreat
open Go.RowKit Go.Maps
theorem acs_L {w : World} {ao : Option Addr} {acs : List Acn} (h : Acs w ao acs) : L.Acs w ao acs := ⟨h.rd, h.ok⟩
theorem tips_C : ∀ l : List Acn, L.tipsC l = (tipsN l : Int)
  | [] => rfl
  | a :: r => by
    have ih := tips_C r
    unfold L.tipsC
    rw [ih]
    unfold tipsN
    rw [List.countP_cons]
    by_cases h : a.kind = 6
    · simp [h]; omega
    · simp [h]
theorem us_tips {l : List Acn} (h : (L.usR l).2.2.2 = 0) : (L.usR l).1 = L.tipsC l := by
  unfold L.usR at h ⊢
  split
  · rename_i hb; rw [if_pos hb] at h; cases h
  · rename_i hb
    rw [if_neg hb] at h
    split
    · rename_i h2; rw [h2] at h; cases h
    · rfl
theorem save_zero (w : World) : Calls Tryz.prog 6 #[.slice none 0 0, .slice none 0 0] w fun r w' => Below w.heap.size w w' ∧ ∃ aoS capS, r = .returned (.tuple #[.slice aoS 0 capS, .int .i64 0]) := by
  have h := flowSave_any none 0 [] none 0 [] w ⟨.inl rfl, Nat.le_refl _, fun _ h => by cases h⟩ (by simp) ⟨.inl rfl, fun _ h => by cases h⟩ (fun _ h => by cases h) (by simp)
  refine Calls.mono h ?_
  rintro r w' ⟨hb, ⟨h1, _⟩ | ⟨_, h1, _⟩ | ⟨_, _, aoS, capS, rfl, _⟩⟩
  · simp at h1
  · exact absurd (by decide) h1
  · exact ⟨hb, aoS, capS, rfl⟩
theorem may_zero (w : World) : Calls Tryz.prog 16 #[.slice none 0 0, smv sm0] w fun r w' => r = .returned (.bool true) ∧ Below w.heap.size w w' := by
  have h := mayF_any none 0 [] sm0 w ⟨.inl rfl, Nat.le_refl _, fun _ h => by cases h⟩ (by simp) (SmIn.zero w) ⟨by simp, by simp⟩
  have e : mayS [] sm0.st = true := by decide
  rw [e] at h
  exact h
/-- What is saved is run to the same wells, heat and clock. -/
theorem saved_run {l : List Sit} {acs : List Acn} {st1 : Sta} (hd : dchk l = 0) (hro : runO l acs sta0 = some st1) : (runR l (saveF l st1 acs 0 0)).2.2 = 0 ∧ (runR l (saveF l st1 acs 0 0)).1.wells = st1.wells ∧ (runR l (saveF l st1 acs 0 0)).1.heat = st1.heat ∧ (runR l (saveF l st1 acs 0 0)).1.clock = st1.clock ∧ May l (runR l (saveF l st1 acs 0 0)).1 ∧ (saveF l st1 acs 0 0).length ≤ acs.length ∧ tipsN (saveF l st1 acs 0 0) ≤ tipsN acs := by
  obtain ⟨⟨t, h1, h2⟩, h3, h4⟩ := save_fewer hro (alike_iff.2 ⟨rfl, rfl, rfl⟩) 0 0
  generalize saveF l st1 acs 0 0 = S at *
  have e1 : runR l S = runA l sta0 0 S := if_pos hd
  obtain ⟨h5, h6⟩ := runA_of 0 h1
  rw [e1, h6]
  have h7 := alike_iff.1 h2
  exact ⟨h5, h7.1, h7.2.1, h7.2.2, runO_may hd _ _ _ (may_sta0 l) h1, h3, h4⟩
set_option maxHeartbeats 12800000 in
set_option maxRecDepth 100000 in
theorem flowFewer_any (aoD : Option Addr) (capD : Nat) (l : List Sit) (aoA : Option Addr) (capA : Nat) (acs : List Acn) (w : World) (hD : Dk w aoD capD l) (hln : l.length ≤ 9223372036854775807) (hA : Acs w aoA acs) (hla : acs.length ≤ 9223372036854775807) (hpl : ∀ a ∈ acs, Wf3 a.pl) :
    Calls Tryz.prog 4 #[.slice aoD l.length capD, .slice aoA acs.length capA] w fun e w' => e = .returned (.bool true) ∧ Below w.heap.size w w' := by
  have HD : Hid (Dk w aoD capD l) := hD
  have HA : Hid (Acs w aoA acs) := hA
  have HPL : Hid (∀ a ∈ acs, Wf3 a.pl) := hpl
  have HLN : Hid (l.length ≤ 9223372036854775807) := hln
  clear hD hA hpl hln
  go_enter Tryz.func4, Tryz.ntmps4
  go_wp2_with fail
  refine (save_zero w).mono ?_
  rintro r w1 ⟨hb1, aoS0, capS0, rfl⟩
  have HB1 : Hid (Below w.heap.size w w1) := hb1
  clear hb1
  go_wp2_with fail
  refine (may_zero w1).mono ?_
  rintro r w2 ⟨rfl, hb2⟩
  have HB2 : Hid (Below w.heap.size w w2) := below_on HB1.out hb2
  clear hb2
  go_wp2_with fail
  refine (flowSave_any aoD capD l aoA capA acs w2 (HD.out.next HB2.out) HLN.out (HA.out.next HB2.out) HPL.out hla).mono ?_
  rintro r w3 ⟨hb3, h3⟩
  have HB3 : Hid (Below w.heap.size w w3) := below_on HB2.out hb3
  clear hb3
  rcases h3 with ⟨_, rfl⟩ | ⟨_, _, rfl⟩ | ⟨hl, hz, aoS, capS, rfl, hAS⟩
  · go_wp2
    go_ret
    exact ⟨rfl, HB3.out⟩
  · go_wp2
    go_ret
    exact ⟨rfl, HB3.out⟩
  obtain ⟨hd0, hro⟩ := run_ok hz
  obtain ⟨hz2, hwl, hht, hck, hmy, hsl, htp⟩ := saved_run hd0 hro
  have hr1 : ∀ W, Below w3.heap.size w3 W → Calls Tryz.prog 17 #[.slice aoD l.length capD, .slice aoA acs.length capA] W fun e w' => ∃ t : Sm, e = .returned (.tuple #[smv t, .int .i64 ((runR l acs).2.1 : Int), .int .i64 0]) ∧ t.st = (runR l acs).1 ∧ SmIn w' t ∧ Below W.heap.size W w' := fun W hb => by
    have h := run_any aoD capD l aoA capA acs W (HD.out.next (below_on HB3.out hb)) HLN.out (HA.out.next (below_on HB3.out hb)) hla
    rw [hz] at h
    refine h.mono ?_
    rintro e w' ⟨t, h1, h2, h3, _, h4⟩
    exact ⟨t, h1, h2, h3, h4⟩
  generalize runR l acs = rr at *
  obtain ⟨st1, k1, e1⟩ := rr
  simp only at hr1 hAS hz2 hwl hht hck hmy hsl htp ⊢
  obtain ⟨S, hS⟩ : ∃ S, S = saveF l st1 acs 0 0 := ⟨_, rfl⟩
  rw [← hS] at hAS hz2 hwl hht hck hmy hsl htp ⊢
  have hr2 : ∀ W, Below w3.heap.size w3 W → Calls Tryz.prog 17 #[.slice aoD l.length capD, .slice aoS S.length capS] W fun e w' => ∃ t : Sm, e = .returned (.tuple #[smv t, .int .i64 ((runR l S).2.1 : Int), .int .i64 0]) ∧ t.st = (runR l S).1 ∧ SmIn w' t ∧ Below W.heap.size W w' := fun W hb => by
    have h := run_any aoD capD l aoS capS S W (HD.out.next (below_on HB3.out hb)) HLN.out (hAS.next hb) (by omega)
    rw [hz2] at h
    refine h.mono ?_
    rintro e w' ⟨t, h1, h2, h3, _, h4⟩
    exact ⟨t, h1, h2, h3, h4⟩
  have HR1 := (show Hid _ from hr1)
  have HR2 := (show Hid _ from hr2)
  have HU1 : Hid (∀ W, Below w3.heap.size w3 W → Calls Tryz.prog 18 #[.slice aoA acs.length capA] W fun e w' => e = .returned (L.usv (L.usR acs)) ∧ Below W.heap.size W w') := fun W hb => L.usage_any aoA capA acs W (acs_L (HA.out.next (below_on HB3.out hb))) hla
  have HU2 : Hid (∀ W, Below w3.heap.size w3 W → Calls Tryz.prog 18 #[.slice aoS S.length capS] W fun e w' => e = .returned (L.usv (L.usR S)) ∧ Below W.heap.size W w') := fun W hb => L.usage_any aoS capS S W (acs_L (hAS.next hb)) (by omega)
  have HUT : Hid ((L.usR acs).2.2.2 = 0 → (L.usR S).2.2.2 = 0 → (L.usR S).1 ≤ (L.usR acs).1) := fun h1 h2 => by rw [us_tips h1, us_tips h2, tips_C, tips_C]; omega
  generalize L.usR acs = ua at *
  generalize L.usR S = ub at *
  obtain ⟨a1, a2, a3, a4⟩ := ua
  obtain ⟨b1, b2, b3, b4⟩ := ub
  simp only [L.usv] at HU1 HU2 HUT
  have HWL : Hid ((runR l S).1.wells = st1.wells) := hwl
  have HHT : Hid ((runR l S).1.heat = st1.heat) := hht
  have HCK : Hid ((runR l S).1.clock = st1.clock) := hck
  have HMY : Hid (May l (runR l S).1) := hmy
  have HD0 : Hid (dchk l = 0) := hd0
  have hsl2 : (S.length : Int) ≤ (acs.length : Int) := by omega
  clear hz hro hz2 hwl hht hck hmy htp hr1 hr2 hAS hS hd0
  generalize runR l S = rs at *
  obtain ⟨st2, k2, e2⟩ := rs
  simp only at HR2 HWL HHT HCK HMY
  go_wp2_with fail
  refine (HR1.out w3 (Below.refl _ _)).mono ?_
  rintro r w4 ⟨t1, rfl, hst1, hin1, hb4⟩
  obtain ⟨w5, hw5⟩ : ∃ x, x = w4.alloc (.cells (sml t1).toArray 40) := ⟨_, rfl⟩
  have b5 : Below w4.heap.size w4 w5 := by rw [hw5]; exact (Below.refl _ _).alloc (Nat.le_refl _) _
  have HB5 : Hid (Below w3.heap.size w3 w5) := below_on hb4 b5
  have HT1 : Hid (SmIn w5 t1) := hin1.next b5
  have HS1 : Hid (t1.st = st1) := hst1
  have K1 : Hid (Bk w4.heap.size (sml t1) w5) := by show Bk _ _ _; rw [hw5]; exact Bk.new w4 (sml t1) 40 w4.heap.size rfl
  have HW5 : Hid (w5 = _) := hw5
  clear hst1 hin1 hb4 b5 hw5
  go_wp2_with fail
  rw [← HW5.out]
  clear HW5
  refine (HR2.out w5 HB5.out).mono ?_
  rintro r w6 ⟨t2, rfl, hst2, hin2, hb6⟩
  obtain ⟨w7, hw7⟩ : ∃ x, x = w6.alloc (.cells (sml t2).toArray 40) := ⟨_, rfl⟩
  have b7 : Below w6.heap.size w6 w7 := by rw [hw7]; exact (Below.refl _ _).alloc (Nat.le_refl _) _
  have HB7 : Hid (Below w5.heap.size w5 w7) := below_on hb6 b7
  have HT2 : Hid (SmIn w7 t2) := hin2.next b7
  have HS2 : Hid (t2.st = st2) := hst2
  have K2 : Hid (Bk w6.heap.size (sml t2) w7) := by show Bk _ _ _; rw [hw7]; exact Bk.new w6 (sml t2) 40 w6.heap.size rfl
  have HW7 : Hid (w7 = _) := hw7
  clear hst2 hin2 hb6 b7 hw7
  go_wp2_with fail
  rw [← HW7.out]
  clear HW7
  refine (HU1.out w7 (below_on HB5.out HB7.out)).mono ?_
  rintro r w8 ⟨rfl, hb8⟩
  have HB8 : Hid (Below w7.heap.size w7 w8) := hb8
  clear hb8
  go_wp2_with fail
  refine (HU2.out w8 (below_on (below_on HB5.out HB7.out) HB8.out)).mono ?_
  rintro r w9 ⟨rfl, hb9⟩
  have HB9 : Hid (Below w7.heap.size w7 w9) := below_on HB8.out hb9
  clear hb9
  have HQ5 : Hid (t1.heat = t2.heat) := by show _ = _; have e1 := congrArg Sta.heat HS1.out; have e2 := congrArg Sta.heat HS2.out; have := HHT.out; exact e1.trans (this.symm.trans e2.symm)
  have HQ6 : Hid (t1.clock = t2.clock) := by show _ = _; have e1 := congrArg Sta.clock HS1.out; have e2 := congrArg Sta.clock HS2.out; have := HCK.out; exact e1.trans (this.symm.trans e2.symm)
  have HQW : Hid (whp t1.wl = whp t2.wl) := by show _ = _; have e1 := congrArg Sta.wells HS1.out; have e2 := congrArg Sta.wells HS2.out; have := HWL.out; exact e1.trans (this.symm.trans e2.symm)
  have HM2 : Hid (May l t2.st) := by show May _ _; rw [HS2.out]; exact HMY.out
  have HK1 : Hid (∀ W, Below w9.heap.size w9 W → Bk w4.heap.size [.slice t1.aoW t1.wl.length t1.capW, .bool t1.tip, .slice t1.aoH t1.held.length t1.capH, .slice t1.aoT t1.touched.length t1.capT, .int .i64 t1.used, .int .i64 t2.heat, .int .i64 t2.clock] W) := fun W hb => by
    have h := (K1.out.later HB7.out).later (below_on HB9.out hb)
    rw [← HQ5.out, ← HQ6.out]
    exact h
  have HK2 : Hid (∀ W, Below w9.heap.size w9 W → Bk w6.heap.size (sml t2) W) := fun W hb => K2.out.later (below_on HB9.out hb)
  have HSW : Hid (Calls Tryz.prog 19 #[.agg #[.slice t1.aoW t1.wl.length t1.capW, .bool t1.tip, .slice t1.aoH t1.held.length t1.capH, .slice t1.aoT t1.touched.length t1.capT, .int .i64 t1.used, .int .i64 t2.heat, .int .i64 t2.clock], smv t2] w9 fun e w' => e = .returned (.bool true) ∧ Below w9.heap.size w9 w') := by
    have hi := HT1.out.next (below_on HB7.out HB9.out)
    exact sameWells_same { t1 with heat := t2.heat, clock := t2.clock } t2 w9 ⟨hi.wells, hi.held, hi.touched⟩ (HT2.out.next HB9.out) HQW.out (may_smlen HD0.out HM2.out).2 (fun z hz => (F.fref_in ((may_frefs HM2.out).1 z hz)).1)
  have HBE : Hid (Below w.heap.size w w9) := below_on HB3.out (below_on HB5.out (below_on HB7.out HB9.out))
  have x0 := (HK1.out w9 (Below.refl _ _)).c 0 rfl
  have x1 := (HK1.out w9 (Below.refl _ _)).c 1 rfl
  have x2 := (HK1.out w9 (Below.refl _ _)).c 2 rfl
  have x3 := (HK1.out w9 (Below.refl _ _)).c 3 rfl
  have x4 := (HK1.out w9 (Below.refl _ _)).c 4 rfl
  have x5 := (HK1.out w9 (Below.refl _ _)).c 5 rfl
  have x6 := (HK1.out w9 (Below.refl _ _)).c 6 rfl
  have y0 := (HK2.out w9 (Below.refl _ _)).c 0 rfl
  have y1 := (HK2.out w9 (Below.refl _ _)).c 1 rfl
  have y2 := (HK2.out w9 (Below.refl _ _)).c 2 rfl
  have y3 := (HK2.out w9 (Below.refl _ _)).c 3 rfl
  have y4 := (HK2.out w9 (Below.refl _ _)).c 4 rfl
  have y5 := (HK2.out w9 (Below.refl _ _)).c 5 rfl
  have y6 := (HK2.out w9 (Below.refl _ _)).c 6 rfl
  by_cases hh : a4 = 0
  rotate_left
  · have hh2 : (a4 == 0) = false := by simp [hh]
    have hh3 : (a4 != 0) = true := by simp [hh]
    clear hh
    go_wp2_with fail
    refine Calls.mono HSW.out ?_
    rintro r wf ⟨rfl, hbf⟩
    have HBF : Hid (Below w.heap.size w wf) := below_on HBE.out hbf
    clear x0 x1 x2 x3 x4 x5 x6 y0 y1 y2 y3 y4 y5 y6
    have x5 := (HK1.out wf hbf).c 5 rfl
    have x6 := (HK1.out wf hbf).c 6 rfl
    have y5 := (HK2.out wf hbf).c 5 rfl
    have y6 := (HK2.out wf hbf).c 6 rfl
    clear hbf
    go_wp2
    go_ret
    exact ⟨rfl, HBF.out⟩
  subst hh
  by_cases hi : b4 = 0
  rotate_left
  · have hi2 : (b4 == 0) = false := by simp [hi]
    have hi3 : (b4 != 0) = true := by simp [hi]
    clear hi
    go_wp2_with fail
    refine Calls.mono HSW.out ?_
    rintro r wf ⟨rfl, hbf⟩
    have HBF : Hid (Below w.heap.size w wf) := below_on HBE.out hbf
    clear x0 x1 x2 x3 x4 x5 x6 y0 y1 y2 y3 y4 y5 y6
    have x5 := (HK1.out wf hbf).c 5 rfl
    have x6 := (HK1.out wf hbf).c 6 rfl
    have y5 := (HK2.out wf hbf).c 5 rfl
    have y6 := (HK2.out wf hbf).c 6 rfl
    clear hbf
    go_wp2
    go_ret
    exact ⟨rfl, HBF.out⟩
  subst hi
  have hle : b1 ≤ a1 := HUT.out rfl rfl
  go_wp2_with fail
  refine Calls.mono HSW.out ?_
  rintro r wf ⟨rfl, hbf⟩
  have HBF : Hid (Below w.heap.size w wf) := below_on HBE.out hbf
  clear x0 x1 x2 x3 x4 x5 x6 y0 y1 y2 y3 y4 y5 y6
  have x5 := (HK1.out wf hbf).c 5 rfl
  have x6 := (HK1.out wf hbf).c 6 rfl
  have y5 := (HK2.out wf hbf).c 5 rfl
  have y6 := (HK2.out wf hbf).c 6 rfl
  clear hbf
  go_wp2
  go_ret
  exact ⟨rfl, HBF.out⟩
end Go.Proofs.YtgbnjgenopdmfaaGreat
