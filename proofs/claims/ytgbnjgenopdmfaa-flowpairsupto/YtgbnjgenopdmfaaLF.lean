/- shares: what Puts put, one behind the other. -/
import Derived.Test.YtgbnjgenopdmfaaLE
import Derived.TacticsInMore
import Derived.LoopIn
import Derived.LoopNIn
import Derived.OwnWalkIn
namespace Go.Proofs.Ytgbnjgenopdmfaa
open Go.RowKit
attribute [local go_sem] Oper.semAt_some

theorem follow_any (B T i : Nat) (t : Tp) (hv : Value) (a : Acn) (w : World) (hT : Bk T [.bool t.on, hv] w) (hBT : B ≤ T) (hBw : B ≤ w.heap.size) (hH : Hd w B T hv t.held) (hok : HOk i t.held) (hlen : t.held.length ≤ 100000) :
    Calls Try.prog 24 #[ptr T, .int .i64 i, av a] w fun e w' => ∃ gv, e = .returned gv ∧ FolP w w' B T (folR i a t) gv := by
  by_cases h6 : a.kind = 6
  · exact fo_tip B T i t hv a w hT hBT hBw hH hok hlen h6
  · by_cases h7 : a.kind = 7
    · exact fo_drop B T i t hv a w hT hBT hBw hH hok hlen h7
    · by_cases h : t.on = true ∧ 1 ≤ a.vol ∧ a.vol ≤ 1000000000
      · by_cases h8 : a.kind = 8
        · exact fo_draw B T i t hv a w hT hBT hBw hH hok hlen h8 h
        · by_cases h9 : a.kind = 9
          · exact fo_put B T i t hv a w hT hBT hBw hH hok hlen h9 h
          · exact fo_else B T i t hv a w hT hBT hBw hH hok hlen h6 h7 h8 h9 h
      · exact fo_out B T i t hv a w hT hBT hBw hH hok hlen h6 h7 h
theorem shares_make (ao : Option Addr) (n cap : Nat) (w : World) :
    Calls Try.prog 14 #[.slice ao n cap] w fun e w' => e = .returned (.func (.func 23) #[] #[ptr w.heap.size]) ∧ w' = w.alloc (.cells #[.slice ao n cap] 22) := by
  go_enter Try.func14, Try.ntmps14
  go_wp2
  go_ret
  exact ⟨rfl, rfl⟩
theorem fol_len (i : Nat) (a : Acn) (t : Tp) : (folR i a t).2.held.length ≤ t.held.length + 1 := by
  have hp : ∀ (v : Int) (h : List (Nat × Int)), (ptR i v h).2.length ≤ h.length := by
    intro v h
    induction h generalizing v with
    | nil => simp [ptR]
    | cons p r ih =>
      obtain ⟨d, x⟩ := p
      rw [ptR_cons]
      split
      · split
        · simp
        · have := ih (v - x); simp; omega
      · simp
  unfold folR
  split
  · simp
  · split
    · simp
    · split
      · split
        · simp
        · split
          · have := hp a.vol t.held; simp; omega
          · simp
      · simp
theorem tip_len (l : List Acn) : (tipR 0 tp0 l).held.length ≤ l.length := by
  induction l using snocInd with
  | h0 => simp [tipR]
  | h1 l a ih =>
    rw [tip_snoc]
    have := fol_len l.length a (tipR 0 tp0 l)
    simp
    omega
theorem put_len (i : Nat) (v : Int) (h : List (Nat × Int)) : (ptR i v h).1.length ≤ h.length := by
  induction h generalizing v with
  | nil => simp [ptR]
  | cons p r ih =>
    obtain ⟨d, x⟩ := p
    rw [ptR_cons]
    split
    · split
      · simp
      · have := ih (v - x); simp; omega
    · simp
theorem fol_few (i : Nat) (a : Acn) (t : Tp) : (folR i a t).1.length ≤ t.held.length := by
  unfold folR
  split
  · simp
  · split
    · simp
    · split
      · split
        · simp
        · split
          · exact put_len i a.vol t.held
          · simp
      · simp
abbrev shv (s : Shr) : Value := .agg #[.int .i64 s.draw, .int .i64 s.put, .int .i64 s.vol]
theorem acs_kept {M : Nat → Prop} {W wr : World} {ao : Option Addr} {acs : List Acn} (h : Acs W ao acs) (hk : Kpt M W wr) (hM : ∀ ad, ao = some ad → acs ≠ [] → ¬ M ad.block) : Acs wr ao acs := by
  refine ⟨?_, h.ok⟩
  rcases h.rd with h1 | ⟨g, off, e, hlt, hc⟩
  · exact .inl h1
  · by_cases hne : acs = []
    · exact .inl hne
    · refine .inr ⟨g, off, e, Nat.lt_of_lt_of_le hlt hk.size, fun k hk2 j hj => ?_⟩
      rw [← hc k hk2 j hj]
      exact World.cell?_of_block (a := ⟨g, off + k * 8 + j, none⟩) (hk.block g hlt (hM _ e hne))
/-- Shares in memory, from block B on. -/
def Gv (w : World) (B : Nat) (ao : Option Addr) (gs : List Shr) : Prop :=
  gs = [] ∨ ∃ g, ao = some ⟨g, 0, none⟩ ∧ B ≤ g ∧ g < w.heap.size ∧ ∀ k (hk : k < gs.length) j, j < 3 → w.cell? ⟨g, k * 3 + j, none⟩ = (shc (gs[k]'hk))[j]?
theorem Gv.of {w : World} {B base : Nat} {v : Value} {gs : List Shr} (h : OwnR encSh w base v gs) (hB : B ≤ base) : ∃ ao cap, v = .slice ao gs.length cap ∧ Gv w B ao gs := by
  rcases h.read goodSh with ⟨rfl, ao, cap, e⟩ | ⟨g, cap, e, h1, h2, h3, h4⟩
  · exact ⟨ao, cap, e, .inl rfl⟩
  · exact ⟨_, cap, e, .inr ⟨g, rfl, by omega, h3, h4⟩⟩
theorem Gv.kept {w w1 : World} {B : Nat} {ao : Option Addr} {gs : List Shr} (h : Gv w B ao gs) (hs : w.heap.size ≤ w1.heap.size) (hk : ∀ k, B ≤ k → k < w.heap.size → w1.heap[k]? = w.heap[k]?) : Gv w1 B ao gs := by
  rcases h with h | ⟨g, e, h1, h2, h3⟩
  · exact .inl h
  · refine .inr ⟨g, e, h1, Nat.lt_of_lt_of_le h2 hs, fun k hk2 j hj => ?_⟩
    rw [← h3 k hk2 j hj]
    exact World.cell?_of_block (a := ⟨g, k * 3 + j, none⟩) (hk g h1 h2)
/-- What holds between two actions. -/
structure ShI (W : World) (b l : Nat) (acs : List Acn) (J : List Shr → World → Prop) (pre : List Shr) (t : Tp) (wr : World) : Prop where
  kp : Kpt (fun k => k = b ∨ k = l ∨ W.heap.size ≤ k) W wr
  tip : ∃ hv, Bk W.heap.size [.bool t.on, hv] wr ∧ Hd wr W.heap.size W.heap.size hv t.held
  j : J pre wr
theorem ShI.grow {W : World} {b l : Nat} {acs : List Acn} {J : List Shr → World → Prop} (hJ : ∀ s A B, J s A → Below W.heap.size A B → J s B) {pre : List Shr} {t : Tp} {wr w1 : World} (h : ShI W b l acs J pre t wr) (hb : Below wr.heap.size wr w1) : ShI W b l acs J pre t w1 := by
  obtain ⟨hv, h1, h2⟩ := h.tip
  exact ⟨h.kp.trans (Kpt.of_below hb), ⟨hv, h1.later hb, h2.later hb⟩, hJ _ _ _ h.j (hb.mono h.kp.size)⟩
theorem ShI.yield {W : World} {b l : Nat} {acs : List Acn} {J : List Shr → World → Prop} (hb : b < W.heap.size ∧ l < W.heap.size) {pre pre' : List Shr} {t : Tp} {wr w1 : World} (h : ShI W b l acs J pre t wr) (hk : Kpt (fun k => k = b ∨ k = l) wr w1) (hj : J pre' w1) : ShI W b l acs J pre' t w1 := by
  obtain ⟨hv, h1, h2⟩ := h.tip
  refine ⟨h.kp.trans (hk.mono fun k e => e.imp id .inl), ⟨hv, hk.bk h1 (by omega), h2.kept hk.size fun k hB hs _ => hk.block k hs (by omega)⟩, hj⟩
set_option maxHeartbeats 6400000 in
set_option maxRecDepth 100000 in
/-- The iterator: each share once, in order. -/
theorem shares_all (n : Nat) (ao : Option Addr) (cap : Nat) (acs : List Acn) (C b l : Nat) (W : World) (hC : W.cell? ⟨C, 0, none⟩ = some (.slice ao acs.length cap)) (hCl : C < W.heap.size) (hA : Acs W ao acs) (hl : acs.length ≤ 3000)
    (hb : b < W.heap.size ∧ l < W.heap.size) (hAb : ∀ ad, ao = some ad → acs ≠ [] → ad.block ≠ b ∧ ad.block ≠ l ∧ ad.block < W.heap.size) :
    SeqGen Try.prog n 23 #[ptr C] (fun s : Shr => #[shv s]) (· <+: shares acs) (· = shares acs) (fun k => W.heap.size ≤ k) (fun k => k = b) l W := by
  intro J hJ0 hY h0
  have hJ : ∀ s A B, J s A → Below W.heap.size A B → J s B := fun s A B h hb => hJ0 s A B h (Kpt.of_low hb)
  clear hJ0
  have HA : Hid (Acs W ao acs) := hA
  have HAB : Hid (∀ ad, ao = some ad → acs ≠ [] → ad.block ≠ b ∧ ad.block ≠ l ∧ ad.block < W.heap.size) := hAb
  have HY : Hid (∀ pre x W1, J pre W1 → pre ++ [x] <+: shares acs → W.heap.size ≤ W1.heap.size → YieldAt Fence.wide (n - 1) Try.prog l #[shv x] W1 fun e W' => e = .returned (.bool true) ∧ J (pre ++ [x]) W' ∧ Kpt (fun k => k = b ∨ k = l) W1 W') := hY
  have HJ : Hid (∀ s A B, J s A → Below W.heap.size A B → J s B) := hJ
  have HB : Hid (b < W.heap.size ∧ l < W.heap.size) := hb
  have b0 : Below W.heap.size W (W.alloc (.cells #[.bool false, .slice none 0 0] 76)) := (Below.refl _ _).alloc (Nat.le_refl _) _
  have H0 : Hid (ShI W b l acs J [] tp0 (W.alloc (.cells #[.bool false, .slice none 0 0] 76))) := ⟨Kpt.of_below b0, ⟨_, Bk.new W [.bool false, .slice none 0 0] 76 W.heap.size rfl, Hd.nil _ _ _⟩, hJ _ _ _ h0 b0⟩
  clear hA hAb hY hJ hb b0 h0
  refine callsIn_of_wp Try.func23 rfl trivial ?_ rfl
  simp only [Try.ntmps23, List.size_toArray, List.length_cons, List.length_nil, Nat.reduceAdd, Nat.reduceSub, Array.replicate_succ, Array.replicate_zero, List.push_toArray, List.append_toArray, List.nil_append, List.cons_append]
  have hneC : C ≠ W.heap.size := by omega
  gi_wp2
  clear hC hneC hCl
  gi_loopw [10] (fun i wr => ∃ k : Nat, k ≤ acs.length ∧ i = .int .i64 k ∧ ShI W b l acs J (shares (acs.take k)) (tipR 0 tp0 (acs.take k)) wr) (fun i _ => acs.length - (intOf i).toNat)
  case atStart => exact ⟨0, Nat.zero_le _, rfl, H0.out⟩
  case round =>
    obtain ⟨k, hk, rfl, hI⟩ := hrel
    have HI : Hid (ShI W b l acs J (shares (acs.take k)) (tipR 0 tp0 (acs.take k)) wr) := hI
    clear hI
    by_cases hlt : k < acs.length
    · have HAW : Hid (Acs wr ao acs) := acs_kept HA.out HI.out.kp fun ad e hne => by have := HAB.out ad e hne; omega
      obtain ⟨g, off, rfl, hc⟩ := HAW.out.at hlt
      have HT : Hid (acs.take (k + 1) = acs.take k ++ [acs[k]'hlt]) := by show _ = _; rw [List.take_succ_eq_append_getElem]
      have HTL : Hid ((acs.take k).length = k) := by show _ = _; rw [List.length_take]; omega
      have HTO := (show Hid _ from tip_ok (acs.take k))
      have HTN := (show Hid _ from tip_len (acs.take k))
      have HPX : Hid (shares (acs.take (k + 1)) <+: shares acs) := shares_take
      generalize acs[k]'hlt = a at *
      have c0 := hc 0 (by decide)
      have c1 := hc 1 (by decide)
      have c2 := hc 2 (by decide)
      have c3 := hc 3 (by decide)
      have c4 := hc 4 (by decide)
      have c5 := hc 5 (by decide)
      have c6 := hc 6 (by decide)
      have c7 := hc 7 (by decide)
      simp only [acl, List.getElem?_cons_zero, List.getElem?_cons_succ, Nat.add_zero] at c0 c1 c2 c3 c4 c5 c6 c7
      clear hc
      have hki : (k : Int) < (acs.length : Int) := by omega
      obtain ⟨hv, hTk, hHd⟩ := (HI.out.grow HJ.out ((Below.refl _ _).alloc (Nat.le_refl _) (.cells (avs a) 45))).tip
      have HC := (show Hid _ from follow_any W.heap.size W.heap.size k (tipR 0 tp0 (acs.take k)) hv a (wr.alloc (.cells (avs a) 45)) hTk (Nat.le_refl _) (by have := HI.out.kp.size; simp; omega) hHd (by have := HTO.out; rwa [HTL.out] at this) (by have := HTN.out; rw [HTL.out] at this; omega))
      clear hTk hHd
      gi_wp2_with fail
      refine ⟨trivial, (fun h => by cases h), ?_⟩
      refine (callsIn_wide.2 HC.out).mono ?_
      rintro e w2 ⟨gv, rfl, FP⟩
      obtain ⟨aoG, capG, rfl, hGv⟩ := Gv.of (B := W.heap.size) FP.own (by have := HI.out.kp.size; simp; omega)
      have hwrs := HI.out.kp.size
      have HI2 : Hid (ShI W b l acs J (shares (acs.take k)) (folR k a (tipR 0 tp0 (acs.take k))).2 w2) :=
        ⟨(HI.out.kp.trans (Kpt.of_below ((Below.refl _ _).alloc (Nat.le_refl _) _))).trans (FP.kp.mono fun k e => .inr (.inr e)), FP.tip, HJ.out _ _ _ HI.out.j (((Below.refl _ _).alloc hwrs _).trans (FP.kp.below (by simp; omega) fun k e => e))⟩
      have HG : Hid (Gv w2 W.heap.size aoG (folR k a (tipR 0 tp0 (acs.take k))).1) := hGv
      have hfew := fol_few k a (tipR 0 tp0 (acs.take k))
      have htn := HTN.out
      rw [HTL.out] at htn
      have HSH : Hid (shares (acs.take (k + 1)) = shares (acs.take k) ++ (folR k a (tipR 0 tp0 (acs.take k))).1) := by show _ = _; rw [HT.out, shares_snoc, HTL.out]
      have HTP : Hid (tipR 0 tp0 (acs.take (k + 1)) = (folR k a (tipR 0 tp0 (acs.take k))).2) := by show _ = _; rw [HT.out, tip_snoc, HTL.out]
      clear FP hGv HC
      generalize (folR k a (tipR 0 tp0 (acs.take k))).1 = gs at *
      generalize (folR k a (tipR 0 tp0 (acs.take k))).2 = t2 at *
      obtain ⟨wO, hwO⟩ : ∃ x, x = wr := ⟨_, rfl⟩
      gi_wp2
      gi_loopw [19] (fun i wr => ∃ j : Nat, j ≤ gs.length ∧ i = .int .i64 j ∧ ShI W b l acs J (shares (acs.take k) ++ gs.take j) t2 wr ∧ Gv wr W.heap.size aoG gs) (fun i _ => gs.length - (intOf i).toNat)
      case atStart => exact ⟨0, Nat.zero_le _, rfl, by simpa using HI2.out, HG.out⟩
      case round =>
        obtain ⟨j, hj, rfl, hIj, hGj⟩ := hrel
        have HIj : Hid (ShI W b l acs J (shares (acs.take k) ++ gs.take j) t2 wr) := hIj
        have HGj : Hid (Gv wr W.heap.size aoG gs) := hGj
        clear hIj hGj
        by_cases hjl : j < gs.length
        · have HTJ : Hid (gs.take (j + 1) = gs.take j ++ [gs[j]'hjl]) := by show _ = _; rw [List.take_succ_eq_append_getElem]
          have HPJ : Hid (shares (acs.take k) ++ gs.take j ++ [gs[j]'hjl] <+: shares acs) := by
            show _ <+: _
            refine List.IsPrefix.trans ?_ HPX.out
            rw [HSH.out, List.append_assoc, ← HTJ.out]
            exact (List.prefix_append_right_inj _).2 (List.take_prefix _ _)
          obtain ⟨g2, rfl, hB2, hlt2, hcs⟩ := HGj.out.resolve_left (fun e => by rw [e] at hjl; simp at hjl)
          have s0 := hcs j hjl 0 (by decide)
          have s1 := hcs j hjl 1 (by decide)
          have s2 := hcs j hjl 2 (by decide)
          clear hcs
          generalize gs[j]'hjl = x at *
          simp only [shc, List.getElem?_cons_zero, List.getElem?_cons_succ, Nat.add_zero] at s0 s1 s2
          have hji : (j : Int) < (gs.length : Int) := by omega
          have hw3 := HIj.out.kp.size
          have HI3 := (show Hid (ShI W b l acs J (shares (acs.take k) ++ gs.take j) t2 (wr.alloc (.cells #[.int .i64 x.draw, .int .i64 x.put, .int .i64 x.vol] 54))) from HIj.out.grow HJ.out ((Below.refl _ _).alloc (Nat.le_refl _) _))
          obtain ⟨fn, tmps, assign, body, hy, hR⟩ := HY.out _ x _ HI3.out.j HPJ.out (by simp; omega)
          gi_wp2
          refine ⟨(fun h => by cases h), hR.mono ?_⟩
          rintro e w4 ⟨rfl, hJ4, hk4⟩
          gi_wp2
          go_roundw
          case rel =>
            refine ⟨j + 1, by omega, by go_num, ?_, ?_⟩
            · have := HI3.out.yield HB.out hk4 hJ4
              rwa [List.append_assoc, ← HTJ.out] at this
            · refine (HGj.out.kept (w1 := wr.alloc (.cells #[.int .i64 x.draw, .int .i64 x.put, .int .i64 x.vol] 54)) (by simp) fun k _ hk => Below.heap_alloc _ _ _ hk).kept hk4.size fun k hB hk => hk4.block k hk (by have := HB.out; omega)
          case measure => simp [intOf]; omega
        · have ej : j = gs.length := by omega
          have HEJ : Hid (gs.take j = gs) := List.take_of_length_le (by omega)
          gi_wp2
          go_roundw
          case rel =>
            refine ⟨k + 1, by omega, by go_num, ?_⟩
            rw [HSH.out, HTP.out]
            have := HIj.out
            rwa [HEJ.out] at this
          case measure => simp [intOf]; omega
    · gi_wp2
      go_end0
      have e : acs.take k = acs := List.take_of_length_le (by omega)
      have := HI.out.j
      rw [e] at this
      exact ⟨⟨_, rfl⟩, _, rfl, this⟩
end Go.Proofs.Ytgbnjgenopdmfaa
