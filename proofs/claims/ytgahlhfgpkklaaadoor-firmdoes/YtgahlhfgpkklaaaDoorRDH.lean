/- What times gives. -/
import Derived.Test.YtgahlhfgpkklaaaDoorRCH
namespace Go.Proofs.YtgahlhfgpkklaaaDoor
open Go.RowKit


attribute [local go_sem] Oper.semAt_some
theorem over_eq (a : Act) (m : List Bool) (f : Nat → Value) : over a m f = { tmps := (overL f m 0 a.tmps.toList).toArray, defers := a.defers } := rfl
/-- What a function gives in whatever world later than w, if what the body turns lies below lo or beyond w; z blocks it lays and turns. -/
def GivesAt (gf : Nat) (lb : Array Value) (xs : List Int) (z lo : Nat) (w : World) : Prop :=
  (∀ args w, (callFunc gf args).run Tryd.prog w = .ok (.enter gf args) w) ∧ ∀ n M l W, Below w.heap.size w W → (∀ k, M k → (k < lo ∨ w.heap.size ≤ k) ∧ ¬ (W.heap.size ≤ k ∧ k < W.heap.size + z)) → (l < lo ∨ w.heap.size ≤ l) → l < W.heap.size →
    Gives Tryd.prog n gf lb xs (fun k => W.heap.size ≤ k ∧ k < W.heap.size + z) M l W
theorem GivesAt.later {gf : Nat} {lb : Array Value} {xs : List Int} {z lo : Nat} {w w1 : World} (h : GivesAt gf lb xs z lo w) (hb : Below w.heap.size w w1) : GivesAt gf lb xs z lo w1 :=
  ⟨h.1, fun n M l W hbW hM hl hl2 => h.2 n M l W (hb.trans (hbW.mono hb.size)) (fun k hk => ⟨by have := (hM k hk).1; have := hb.size; omega, (hM k hk).2⟩) (by have := hb.size; omega) hl2⟩
theorem speeds_at (r : Rp) (n : Nat) (A B lo : Nat) (w : World) (hr : rpOk r = true) (hn : n ≤ 20000) (hA : Bk A (rcl r) w) (hB : Bk B [.int .i64 n] w) (h1 : lo ≤ A) (h2 : lo ≤ B) : GivesAt 64 #[ptr B, ptr A] (speedsL r n) 0 lo w :=
  ⟨en26, fun N0 M l W hb hM hl _ => (speeds_gives N0 r n A B l M W hr hn (hA.same hb.size (hb.block A hA.1)) (hB.same hb.size (hb.block B hB.1))
    (fun e => e.elim (fun e => absurd (hM A e).1 (by have := hA.1; omega)) fun e => by have := hA.1; omega) (fun e => e.elim (fun e => absurd (hM B e).1 (by have := hB.1; omega)) fun e => by have := hB.1; omega)).mono fun _ e => e.elim⟩
/-- How long steps take. -/
def timesL (r : Rp) (xs : List Int) : List Int := xs.map fun x => Int.tdiv r.c x
theorem timesL_length (r : Rp) (xs : List Int) : (timesL r xs).length = xs.length := by simp [timesL]
set_option linter.unusedVariables false in
def tmV (l A : Nat) (c x : Int) (d : Nat) (v : Value) (_ : World) : Prop :=
  match d with
  | 7 => v = yv l
  | 8 => v = ptr A
  | 9 => v = .int .i64 c
  | 10 => v = .int .i64 x
  | 11 => v = .int .i64 (Int.tdiv c x)
  | _ => True
set_option linter.unusedVariables false in
theorem tmV_mono (l A : Nat) (c x : Int) (d : Nat) (v : Value) (w w' : World) (h : tmV l A c x d v w) (_ : Below w.heap.size w w') : tmV l A c x d v w' := h
/-- Between two steps. -/
structure TmI (J : Nat → World → Prop) (r : Rp) (A l N : Nat) (k : Nat) (W : World) : Prop where
  j : J k W
  a : Bk A (rcl r) W
  y : Bk N [yv l] W
set_option maxHeartbeats 6400000 in
set_option maxRecDepth 100000 in
theorem times_at {gf : Nat} {lb : Array Value} {xs : List Int} {z lo : Nat} (r : Rp) (hr : rpOk r = true) (hx : ∀ x ∈ xs, 1 ≤ x) (w w1 : World) (A B : Nat) (h : GivesAt gf lb xs z lo w) (hb : Below w.heap.size w w1) (hA : Bk A (rcl r) w1) (hB : Bk B [.func (.func gf) #[] lb] w1) (hlA : lo ≤ A) :
    GivesAt 63 #[ptr B, ptr A] (timesL r xs) (z + 3) lo w1 := by
  refine ⟨en28, fun N0 M l W hbW hM hl0 hl1 J Jx hJ hJx hY h0 => ?_⟩
  have HA : Hid (Bk A (rcl r) W) := hA.same hbW.size (hbW.block A hA.1)
  have HB : Hid (Bk B [.func (.func gf) #[] lb] W) := hB.same hbW.size (hbW.block B hB.1)
  have HAw : Hid (A < w1.heap.size) := hA.1
  have HG : Hid (GivesAt gf lb xs z lo w) := h
  have HBW : Hid (Below w.heap.size w W) := hb.trans (hbW.mono hb.size)
  have HWS : Hid (w.heap.size ≤ w1.heap.size) := hb.size
  have HM : Hid (∀ k, M k → (k < lo ∨ w1.heap.size ≤ k) ∧ ¬ (W.heap.size ≤ k ∧ k < W.heap.size + (z + 3))) := hM
  have HSZ : Hid (w1.heap.size ≤ W.heap.size) := hbW.size
  have HY : Hid (∀ k (h : k < (timesL r xs).length) W1, J k W1 → W.heap.size ≤ W1.heap.size → YieldAt Fence.wide (N0 - 1) Tryd.prog l #[.int .i64 ((timesL r xs)[k]'h)] W1 fun e W' => (e = .returned (.bool true) ∧ J (k + 1) W' ∧ Kpt (fun k => M k ∨ k = l) W1 W') ∨ (e = .returned (.bool false) ∧ Jx (k + 1) W' ∧ Kpt (fun k => M k ∨ k = l) W1 W')) := hY
  have HJ : Hid (∀ s A B, J s A → Kpt (fun k => W.heap.size ≤ k ∧ k < W.heap.size + (z + 3)) A B → J s B) := hJ
  have HJX : Hid (∀ s A B, Jx s A → Kpt (fun k => W.heap.size ≤ k ∧ k < W.heap.size + (z + 3)) A B → Jx s B) := hJx
  have H0 : Hid (J 0 W) := h0
  have HX : Hid (∀ x ∈ xs, 1 ≤ x) := hx
  have HC : Hid (1 ≤ r.c ∧ r.c ≤ 100000000) := by show _ ∧ _; have := rpOk_iff.1 hr; omega
  clear hA hB hM hY hJ hJx h0 hr h hb hbW hx
  refine callsIn_of_wp_marks Tryd.func63 rfl trivial (wpIn_wide.2 ?_) rfl
  simp only [Tryd.ntmps63, List.size_toArray, List.length_cons, List.length_nil, Nat.reduceAdd, Nat.reduceSub, Array.replicate_succ, Array.replicate_zero, List.push_toArray, List.append_toArray, List.nil_append, List.cons_append]
  have cB := HB.out.c 0 rfl
  have lB := HB.out.1
  go_wp2_with fail
  obtain ⟨wR, hwR⟩ : ∃ x, x = W.alloc (.cells #[yv l] 108) := ⟨_, rfl⟩
  have hsR : wR.heap.size = W.heap.size + 1 := by rw [hwR]; simp
  have bR : Below W.heap.size W wR := by rw [hwR]; exact (Below.refl _ _).alloc (Nat.le_refl _) _
  have KY : Hid (Bk W.heap.size [yv l] wR) := by show Bk _ _ _; rw [hwR]; exact Bk.new W [yv l] 108 W.heap.size rfl
  have KA : Hid (Bk A (rcl r) wR) := HA.out.later bR
  have HBR : Hid (Below W.heap.size W wR) := bR
  rw [← hwR]
  clear hwR bR cB lB
  refine (wpIn_wide (n := N0)).1 (range_it (n := N0) (gf := gf) (lb := lb) rfl HG.out.1 xs (fun k => wR.heap.size + 2 ≤ k ∧ k < wR.heap.size + 2 + z) (fun k => M k ∨ k = l) rfl ?_ (fun k e => e.1) ?_ ?_
    (TmI J r A l W.heap.size) Jx ?_ ?_ ⟨HJ.out _ _ _ H0.out (Kpt.of_below HBR.out), KA.out, KY.out⟩
    (fun x => { tmps := #[yv l, ptr B, ptr A, ptr W.heap.size, .int .i64 x, .func (.func gf) #[] lb, .int .i64 x, undef, undef, undef, undef, undef, undef, undef], defers := [] }) .ret .ret (.inl ⟨rfl, rfl⟩) ?_ ?_ ?_ ?_)
  · intro W2 hb2 hs2
    have hws := HWS.out
    have := HG.out.2 (N0 - 1) (fun k => M k ∨ k = l) (wR.heap.size + 1) W2 (HBW.out.trans ((HBR.out.trans (hb2.mono HBR.out.size)).mono HBW.out.size)) ?_ (by have := HSZ.out; omega) (by omega)
    · rw [hs2] at this
      exact this
    · rintro k (e | e)
      · have := HM.out k e; omega
      · omega
  · rintro (e | e)
    · have := HM.out _ e; omega
    · omega
  · rintro (e | e)
    · have := HM.out _ e; omega
    · omega
  · rintro s A2 B2 ⟨h1, h2, h3⟩ hk
    have q1 := HAw.out
    have q2 := HSZ.out
    exact ⟨HJ.out _ _ _ h1 (hk.mono fun k e => by omega), bk_kpt h2 hk (by omega), bk_kpt h3 hk (by omega)⟩
  · rintro s A2 B2 h1 hk
    exact HJX.out _ _ _ h1 (hk.mono fun k e => by omega)
  · intro l2 x W2 K hK
    have HK : Hid (K { tmps := #[yv l, ptr B, ptr A, ptr W.heap.size, .int .i64 x, .func (.func gf) #[] lb, .int .i64 x, undef, undef, undef, undef, undef, undef, undef], defers := [] } W2) := hK
    clear hK
    gi_wp2
    exact HK.out
  · rintro l2 k hk W2 ⟨hj, ha, hy0⟩ hs
    have HKT : Hid (k < (timesL r xs).length) := by show _ < _; rw [timesL_length]; exact hk
    have HE : Hid ((timesL r xs)[k]'HKT.out = Int.tdiv r.c (xs[k]'hk)) := by show _ = _; simp [timesL]
    have hx1 : 1 ≤ xs[k]'hk := HX.out _ (List.getElem_mem hk)
    obtain ⟨x, hxe⟩ : ∃ x, x = xs[k]'hk := ⟨_, rfl⟩
    rw [← hxe] at hx1 HE ⊢
    have HJ2 : Hid (J k W2) := hj
    have HA2 : Hid (Bk A (rcl r) W2) := ha
    have HY2 : Hid (Bk W.heap.size [yv l] W2) := hy0
    have HS2 : Hid (wR.heap.size + 2 ≤ W2.heap.size) := hs
    have hx0 : x ≠ 0 := by omega
    obtain ⟨hc1, hc2⟩ := HC.out
    have HD : Hid (Value.int .i64 (IntKind.i64.wrap (Int.tdiv r.c x)) = .int .i64 (Int.tdiv r.c x)) := by
      show _ = _
      rw [wrap_in]
      · rw [Int.tdiv_eq_ediv_of_nonneg (by omega)]; have := Int.ediv_nonneg (a := r.c) (b := x) (by omega) (by omega); omega
      · rw [Int.tdiv_eq_ediv_of_nonneg (by omega)]; have := Int.ediv_le_self x (a := r.c) (by omega); omega
    clear hj ha hy0 hs hxe hk
    gi_wp2_with fail
    refine region_seqI (by kernel_rfl) 5 [false, false, false, false, false, false, false, true, true, true, true, true, false, false]
      [(7, [], none), (8, [], none), (9, [8], none), (10, [], none), (11, [9, 10], none)]
      (tmV l A r.c x) (by kernel_rfl) (by kernel_rfl) (by kernel_rfl) (by kernel_rfl) (by kernel_rfl) (by decide) (tmV_mono l A r.c x) ?_ ?_
    · refine ⟨?_, ?_, ?_, ?_, ?_, trivial⟩
      · intro f w3 hb _ K hK
        have q0 := cell_later hb (HY2.out.c 0 rfl)
        simp only [over, overL, Nat.reduceAdd]
        go_simp
        exact hK _ _ ⟨_, rfl, by simp only [over, overL, Nat.reduceAdd]; rfl, Below.refl _ _⟩
      · intro f w3 hb _ K hK
        have q0 := cell_later hb (HA2.out.c 0 rfl)
        simp only [over, overL, Nat.reduceAdd]
        go_simp
        exact hK _ _ ⟨_, rfl, by simp only [over, overL, Nat.reduceAdd]; rfl, Below.refl _ _⟩
      · intro f w3 hb ⟨h8, _⟩ K hK
        replace h8 : f 8 = _ := h8
        have q0 := cell_later hb (HA2.out.c 0 rfl)
        simp only [over, overL, Nat.reduceAdd, h8]
        go_simp
        exact hK _ _ ⟨_, rfl, by simp only [over, overL, Nat.reduceAdd, h8]; rfl, Below.refl _ _⟩
      · intro f w3 hb _ K hK
        simp only [over, overL, Nat.reduceAdd]
        go_simp
        exact hK _ _ ⟨_, rfl, by simp only [over, overL, Nat.reduceAdd]; rfl, Below.refl _ _⟩
      · intro f w3 hb ⟨h9, h10, _⟩ K hK
        replace h9 : f 9 = _ := h9
        replace h10 : f 10 = _ := h10
        simp only [over, overL, Nat.reduceAdd, h9, h10]
        go_simp
        exact hK _ _ ⟨_, HD.out, by simp only [over, overL, Nat.reduceAdd, h9, h10]; rfl, Below.refl _ _⟩
    · intro f w3 hb hv
      have h7 : f 7 = _ := hv.1
      have h11 : f 11 = _ := hv.2.2.2.2.1
      have hj3 : J k w3 := HJ.out _ _ _ HJ2.out (Kpt.of_below hb)
      obtain ⟨fn, tmps, assign, body, hy, hR⟩ := yield_any (N0 - 1 - 1 - 1) (HY.out k HKT.out w3 hj3 (by have := HS2.out; have := hb.size; omega))
      rw [HE.out] at hy
      have HB3 : Hid (Below W2.heap.size W2 w3) := hb
      have HR : Hid (RoundIn Fence.wide (N0 - 1 - 1 - 1) Tryd.prog l fn tmps assign body w3 fun e W' => (e = .returned (.bool true) ∧ J (k + 1) W' ∧ Kpt (fun k => M k ∨ k = l) w3 W') ∨ (e = .returned (.bool false) ∧ Jx (k + 1) W' ∧ Kpt (fun k => M k ∨ k = l) w3 W')) := hR
      clear hv hb hR hj3
      simp only [over_eq, overL, h7, h11, Nat.reduceAdd, List.drop_succ_cons, List.drop_zero]
      gi_wp2
      refine ⟨(fun h => by cases h), RoundIn.mono HR.out ?_⟩
      rintro e w4 (⟨rfl, hJ4, hk4⟩ | ⟨rfl, hJ4, hk4⟩)
      · have HJ4 : Hid (J (k + 1) w4) := hJ4
        have HK4 : Hid (Kpt (fun k => M k ∨ k = l) W2 w4) := (Kpt.of_below HB3.out).trans hk4
        clear hJ4 hk4
        gi_wp2
        have q1 := HAw.out
        have q2 := HSZ.out
        exact ⟨HK4.out, HJ4.out, bk_kpt HA2.out HK4.out (fun e => e.elim (fun e => by have := HM.out _ e; omega) (fun e => by omega)), bk_kpt HY2.out HK4.out (fun e => e.elim (fun e => by have := HM.out _ e; omega) (fun e => by omega))⟩
      · have HJ4 : Hid (Jx (k + 1) w4) := hJ4
        have HK4 : Hid (Kpt (fun k => M k ∨ k = l) W2 w4) := (Kpt.of_below HB3.out).trans hk4
        clear hJ4 hk4
        gi_wp2
        exact ⟨HK4.out, HJ4.out⟩
  · rintro W2 ⟨h1, h2, h3⟩ hs hd
    have HJ2 : Hid (J (timesL r xs).length (W2.putObj wR.heap.size (.deferred none))) := by show J _ _; rw [timesL_length]; exact HJ.out _ _ _ h1 (Kpt.putObj _ _ _ _ (by omega))
    clear h1 h2 h3
    go_wp2
    exact leave_mark hd (v := .tuple #[]) (results_none (by kernel_rfl) _ _ _) ⟨⟨_, rfl⟩, .inl HJ2.out⟩
  · rintro k W2 hk h1 hs hd
    have HJ2 : Hid (Jx (k + 1) (W2.putObj wR.heap.size (.deferred none))) := HJX.out _ _ _ h1 (Kpt.putObj _ _ _ _ (by omega))
    clear h1
    refine wpIn_wide.2 ?_
    go_wp2
    exact leave_mark hd (v := .tuple #[]) (results_none (by kernel_rfl) _ _ _) ⟨⟨_, rfl⟩, .inr ⟨k, by rw [timesL_length]; exact hk, HJ2.out⟩⟩
end Go.Proofs.YtgahlhfgpkklaaaDoor
