/- HeatHolds walked. -/
import Derived.Test.YtjpjkkjklghpgaaHN
namespace Go.Proofs.Ytjpjkkjklghpgaa
open Go.RowKit

set_option maxHeartbeats 6400000 in
set_option maxRecDepth 100000 in
theorem holds_a (h : Ht) (t g b need most : Int) (w : World) (hok : htOk h = false) :
    Calls Try.prog 4 #[hv h, .int .i64 t, .int .i64 g, .int .i64 b, .int .i64 need, .int .i64 most] w fun e w' => e = .returned (.bool true) ∧ Below w.heap.size w w' := by
  have HB0 : Hid (Below w.heap.size w (w.alloc (ho h))) := (Below.refl _ _).alloc (Nat.le_refl _) _
  have KA0 : Hid (Bk w.heap.size (hcl h) (w.alloc (ho h))) := Bk.new w (hcl h) 23 w.heap.size rfl
  have HHO : Hid (∀ W, Calls Try.prog 17 #[hv h, .int .i64 t, .int .i64 g, .int .i64 b, .int .i64 need, .int .i64 most] W fun e w' => e = .returned (three 0 0 2) ∧ Below W.heap.size W w') := fun W => hold_ref h t g b need most W (by rw [hok]; rfl)
  have HMA : Hid (∀ W, Calls Try.prog 11 #[hv h] W fun e w' => e = .returned (.bool false) ∧ Below W.heap.size W w') := fun W => (hotMay_any h W).mono fun e w' q => by rwa [hok] at q
  clear hok
  go_enter Try.func4, Try.ntmps4
  go_wp2_with fail
  refine Calls.mono (HHO.out _) ?_
  rintro e w1 ⟨rfl, hb1⟩
  have HB1 : Hid (Below w.heap.size w w1) := below_on HB0.out hb1 HB0.out.size
  have KA1 : Hid (Bk w.heap.size (hcl h) w1) := KA0.out.later hb1
  clear hb1
  have k0 := KA1.out.c 0 rfl
  have k1 := KA1.out.c 1 rfl
  have k2 := KA1.out.c 2 rfl
  have k3 := KA1.out.c 3 rfl
  go_wp2_with fail
  refine Calls.mono (HMA.out _) ?_
  rintro e w2 ⟨rfl, hb2⟩
  have HB2 : Hid (Below w.heap.size w w2) := below_on HB1.out hb2 HB1.out.size
  have KA2 : Hid (Bk w.heap.size (hcl h) w2) := KA1.out.later hb2
  clear hb2 k0 k1 k2 k3
  have k0 := KA2.out.c 0 rfl
  have k1 := KA2.out.c 1 rfl
  have k2 := KA2.out.c 2 rfl
  have k3 := KA2.out.c 3 rfl
  clear k0 k1 k2 k3
  go_wp2
  go_ret
  exact ⟨rfl, HB2.out⟩
set_option maxHeartbeats 6400000 in
set_option maxRecDepth 100000 in
theorem holds_b (h : Ht) (t g b need most : Int) (w : World) (hok : htOk h = true) (ht : inR 0 1000000 t = false) :
    Calls Try.prog 4 #[hv h, .int .i64 t, .int .i64 g, .int .i64 b, .int .i64 need, .int .i64 most] w fun e w' => e = .returned (.bool true) ∧ Below w.heap.size w w' := by
  have HB0 : Hid (Below w.heap.size w (w.alloc (ho h))) := (Below.refl _ _).alloc (Nat.le_refl _) _
  have KA0 : Hid (Bk w.heap.size (hcl h) (w.alloc (ho h))) := Bk.new w (hcl h) 23 w.heap.size rfl
  have HHO : Hid (∀ W, Calls Try.prog 17 #[hv h, .int .i64 t, .int .i64 g, .int .i64 b, .int .i64 need, .int .i64 most] W fun e w' => e = .returned (three 0 0 2) ∧ Below W.heap.size W w') := fun W => hold_ref h t g b need most W (by rw [hok, ht]; rfl)
  have HMA : Hid (∀ W, Calls Try.prog 11 #[hv h] W fun e w' => e = .returned (.bool true) ∧ Below W.heap.size W w') := fun W => (hotMay_any h W).mono fun e w' q => by rwa [hok] at q
  have HT : Hid (∀ W, Calls Try.prog 13 #[.int .i64 t] W fun e w' => e = .returned (.bool false) ∧ w' = W) := fun W => (hot_any t W).mono fun e w' q => by rwa [ht] at q
  clear hok ht
  go_enter Try.func4, Try.ntmps4
  go_wp2_with fail
  refine Calls.mono (HHO.out _) ?_
  rintro e w1 ⟨rfl, hb1⟩
  have HB1 : Hid (Below w.heap.size w w1) := below_on HB0.out hb1 HB0.out.size
  have KA1 : Hid (Bk w.heap.size (hcl h) w1) := KA0.out.later hb1
  clear hb1
  have k0 := KA1.out.c 0 rfl
  have k1 := KA1.out.c 1 rfl
  have k2 := KA1.out.c 2 rfl
  have k3 := KA1.out.c 3 rfl
  go_wp2_with fail
  refine Calls.mono (HMA.out _) ?_
  rintro e w2 ⟨rfl, hb2⟩
  have HB2 : Hid (Below w.heap.size w w2) := below_on HB1.out hb2 HB1.out.size
  have KA2 : Hid (Bk w.heap.size (hcl h) w2) := KA1.out.later hb2
  clear hb2 k0 k1 k2 k3
  have k0 := KA2.out.c 0 rfl
  have k1 := KA2.out.c 1 rfl
  have k2 := KA2.out.c 2 rfl
  have k3 := KA2.out.c 3 rfl
  go_wp2_with fail
  refine Calls.mono (HT.out _) ?_
  rintro e w3 ⟨rfl, rfl⟩
  clear k0 k1 k2 k3
  go_wp2
  go_ret
  exact ⟨rfl, HB2.out⟩
set_option maxHeartbeats 6400000 in
set_option maxRecDepth 100000 in
theorem holds_c (h : Ht) (t g b need most : Int) (w : World) (hok : htOk h = true) (ht : inR 0 1000000 t = true) (hg : inR 0 1000000 g = false) :
    Calls Try.prog 4 #[hv h, .int .i64 t, .int .i64 g, .int .i64 b, .int .i64 need, .int .i64 most] w fun e w' => e = .returned (.bool true) ∧ Below w.heap.size w w' := by
  have HB0 : Hid (Below w.heap.size w (w.alloc (ho h))) := (Below.refl _ _).alloc (Nat.le_refl _) _
  have KA0 : Hid (Bk w.heap.size (hcl h) (w.alloc (ho h))) := Bk.new w (hcl h) 23 w.heap.size rfl
  have HHO : Hid (∀ W, Calls Try.prog 17 #[hv h, .int .i64 t, .int .i64 g, .int .i64 b, .int .i64 need, .int .i64 most] W fun e w' => e = .returned (three 0 0 2) ∧ Below W.heap.size W w') := fun W => hold_ref h t g b need most W (by rw [hok, ht, hg]; rfl)
  have HMA : Hid (∀ W, Calls Try.prog 11 #[hv h] W fun e w' => e = .returned (.bool true) ∧ Below W.heap.size W w') := fun W => (hotMay_any h W).mono fun e w' q => by rwa [hok] at q
  have HT : Hid (∀ W, Calls Try.prog 13 #[.int .i64 t] W fun e w' => e = .returned (.bool true) ∧ w' = W) := fun W => (hot_any t W).mono fun e w' q => by rwa [ht] at q
  have HG : Hid (∀ W, Calls Try.prog 13 #[.int .i64 g] W fun e w' => e = .returned (.bool false) ∧ w' = W) := fun W => (hot_any g W).mono fun e w' q => by rwa [hg] at q
  clear hok ht hg
  go_enter Try.func4, Try.ntmps4
  go_wp2_with fail
  refine Calls.mono (HHO.out _) ?_
  rintro e w1 ⟨rfl, hb1⟩
  have HB1 : Hid (Below w.heap.size w w1) := below_on HB0.out hb1 HB0.out.size
  have KA1 : Hid (Bk w.heap.size (hcl h) w1) := KA0.out.later hb1
  clear hb1
  have k0 := KA1.out.c 0 rfl
  have k1 := KA1.out.c 1 rfl
  have k2 := KA1.out.c 2 rfl
  have k3 := KA1.out.c 3 rfl
  go_wp2_with fail
  refine Calls.mono (HMA.out _) ?_
  rintro e w2 ⟨rfl, hb2⟩
  have HB2 : Hid (Below w.heap.size w w2) := below_on HB1.out hb2 HB1.out.size
  have KA2 : Hid (Bk w.heap.size (hcl h) w2) := KA1.out.later hb2
  clear hb2 k0 k1 k2 k3
  have k0 := KA2.out.c 0 rfl
  have k1 := KA2.out.c 1 rfl
  have k2 := KA2.out.c 2 rfl
  have k3 := KA2.out.c 3 rfl
  go_wp2_with fail
  refine Calls.mono (HT.out _) ?_
  rintro e w3 ⟨rfl, rfl⟩
  go_wp2_with fail
  refine Calls.mono (HG.out _) ?_
  rintro e w3 ⟨rfl, rfl⟩
  clear k0 k1 k2 k3
  go_wp2
  go_ret
  exact ⟨rfl, HB2.out⟩
set_option maxHeartbeats 6400000 in
set_option maxRecDepth 100000 in
theorem holds_d (h : Ht) (t g b need most : Int) (w : World) (hok : htOk h = true) (ht : inR 0 1000000 t = true) (hg : inR 0 1000000 g = true) (hc : (inR 0 100000 b && (inR 0 100000 need && inR 0 100000 most)) = false) :
    Calls Try.prog 4 #[hv h, .int .i64 t, .int .i64 g, .int .i64 b, .int .i64 need, .int .i64 most] w fun e w' => e = .returned (.bool true) ∧ Below w.heap.size w w' := by
  have HB0 : Hid (Below w.heap.size w (w.alloc (ho h))) := (Below.refl _ _).alloc (Nat.le_refl _) _
  have KA0 : Hid (Bk w.heap.size (hcl h) (w.alloc (ho h))) := Bk.new w (hcl h) 23 w.heap.size rfl
  have HHO : Hid (∀ W, Calls Try.prog 17 #[hv h, .int .i64 t, .int .i64 g, .int .i64 b, .int .i64 need, .int .i64 most] W fun e w' => e = .returned (three 0 0 7) ∧ Below W.heap.size W w') := fun W => hold_cnt h t g b need most W hok (by rw [ht, hg]; rfl) hc
  have HMA : Hid (∀ W, Calls Try.prog 11 #[hv h] W fun e w' => e = .returned (.bool true) ∧ Below W.heap.size W w') := fun W => (hotMay_any h W).mono fun e w' q => by rwa [hok] at q
  have HT : Hid (∀ W, Calls Try.prog 13 #[.int .i64 t] W fun e w' => e = .returned (.bool true) ∧ w' = W) := fun W => (hot_any t W).mono fun e w' q => by rwa [ht] at q
  have HG : Hid (∀ W, Calls Try.prog 13 #[.int .i64 g] W fun e w' => e = .returned (.bool true) ∧ w' = W) := fun W => (hot_any g W).mono fun e w' q => by rwa [hg] at q
  have hw : (b < 0) ∨ (¬ b < 0 ∧ 100000 < b) ∨ (¬ b < 0 ∧ ¬ 100000 < b ∧ need < 0) ∨ (¬ b < 0 ∧ ¬ 100000 < b ∧ ¬ need < 0 ∧ 100000 < need) ∨ (¬ b < 0 ∧ ¬ 100000 < b ∧ ¬ need < 0 ∧ ¬ 100000 < need ∧ most < 0) ∨ (¬ b < 0 ∧ ¬ 100000 < b ∧ ¬ need < 0 ∧ ¬ 100000 < need ∧ ¬ most < 0 ∧ 100000 < most) := by
    simp only [inR, Bool.and_eq_false_iff, decide_eq_false_iff_not] at hc
    omega
  clear hok ht hg hc
  go_enter Try.func4, Try.ntmps4
  go_wp2_with fail
  refine Calls.mono (HHO.out _) ?_
  rintro e w1 ⟨rfl, hb1⟩
  have HB1 : Hid (Below w.heap.size w w1) := below_on HB0.out hb1 HB0.out.size
  have KA1 : Hid (Bk w.heap.size (hcl h) w1) := KA0.out.later hb1
  clear hb1
  have k0 := KA1.out.c 0 rfl
  have k1 := KA1.out.c 1 rfl
  have k2 := KA1.out.c 2 rfl
  have k3 := KA1.out.c 3 rfl
  go_wp2_with fail
  refine Calls.mono (HMA.out _) ?_
  rintro e w2 ⟨rfl, hb2⟩
  have HB2 : Hid (Below w.heap.size w w2) := below_on HB1.out hb2 HB1.out.size
  have KA2 : Hid (Bk w.heap.size (hcl h) w2) := KA1.out.later hb2
  clear hb2 k0 k1 k2 k3
  have k0 := KA2.out.c 0 rfl
  have k1 := KA2.out.c 1 rfl
  have k2 := KA2.out.c 2 rfl
  have k3 := KA2.out.c 3 rfl
  go_wp2_with fail
  refine Calls.mono (HT.out _) ?_
  rintro e w3 ⟨rfl, rfl⟩
  go_wp2_with fail
  refine Calls.mono (HG.out _) ?_
  rintro e w3 ⟨rfl, rfl⟩
  clear k0 k1 k2 k3
  rcases hw with d1 | ⟨d1, d2⟩ | ⟨d1, d2, d3⟩ | ⟨d1, d2, d3, d4⟩ | ⟨d1, d2, d3, d4, d5⟩ | ⟨d1, d2, d3, d4, d5, d6⟩
  all_goals
    go_wp2
    go_ret
    exact ⟨rfl, HB2.out⟩
set_option maxHeartbeats 6400000 in
set_option maxRecDepth 100000 in
theorem holds_e (h : Ht) (t g b need most : Int) (w : World) (hok : htOk h = true) (ht : inR 0 1000000 t = true) (hg : inR 0 1000000 g = true) (b0 : 0 ≤ b) (b1 : b ≤ 100000) (n0 : 0 ≤ need) (n1 : need ≤ 100000) (m0 : 0 ≤ most) (m1 : most ≤ 100000) (hz : need = 0) :
    Calls Try.prog 4 #[hv h, .int .i64 t, .int .i64 g, .int .i64 b, .int .i64 need, .int .i64 most] w fun e w' => e = .returned (.bool true) ∧ Below w.heap.size w w' := by
  have HB0 : Hid (Below w.heap.size w (w.alloc (ho h))) := (Below.refl _ _).alloc (Nat.le_refl _) _
  have KA0 : Hid (Bk w.heap.size (hcl h) (w.alloc (ho h))) := Bk.new w (hcl h) 23 w.heap.size rfl
  have HHO : Hid (∀ W, Calls Try.prog 17 #[hv h, .int .i64 t, .int .i64 g, .int .i64 b, .int .i64 need, .int .i64 most] W fun e w' => e = .returned (three 0 t 0) ∧ Below W.heap.size W w') := fun W => hold_none h t g b need most W hok (by rw [ht, hg]; rfl) (by rw [inR_yes b0 b1, inR_yes n0 n1, inR_yes m0 m1]; rfl) hz
  have HMA : Hid (∀ W, Calls Try.prog 11 #[hv h] W fun e w' => e = .returned (.bool true) ∧ Below W.heap.size W w') := fun W => (hotMay_any h W).mono fun e w' q => by rwa [hok] at q
  have HT : Hid (∀ W, Calls Try.prog 13 #[.int .i64 t] W fun e w' => e = .returned (.bool true) ∧ w' = W) := fun W => (hot_any t W).mono fun e w' q => by rwa [ht] at q
  have HG : Hid (∀ W, Calls Try.prog 13 #[.int .i64 g] W fun e w' => e = .returned (.bool true) ∧ w' = W) := fun W => (hot_any g W).mono fun e w' q => by rwa [hg] at q
  have HHH : Hid (∀ W, Calls Try.prog 18 #[hv h, .int .i64 t, .int .i64 g, .int .i64 b, .int .i64 need, .int .i64 most] W fun e w' => e = .returned (threeB 0 t true) ∧ Below W.heap.size W w') := fun W => hotHold_none h t g b need most hz W
  have d1 : ¬ b < 0 := by omega
  have d2 : ¬ 100000 < b := by omega
  have d3 : ¬ need < 0 := by omega
  have d4 : ¬ 100000 < need := by omega
  have d5 : ¬ most < 0 := by omega
  have d6 : ¬ 100000 < most := by omega
  clear hok ht hg b0 b1 n0 n1 m0 m1 hz
  go_enter Try.func4, Try.ntmps4
  go_wp2_with fail
  refine Calls.mono (HHO.out _) ?_
  rintro e w1 ⟨rfl, hb1⟩
  have HB1 : Hid (Below w.heap.size w w1) := below_on HB0.out hb1 HB0.out.size
  have KA1 : Hid (Bk w.heap.size (hcl h) w1) := KA0.out.later hb1
  clear hb1
  have k0 := KA1.out.c 0 rfl
  have k1 := KA1.out.c 1 rfl
  have k2 := KA1.out.c 2 rfl
  have k3 := KA1.out.c 3 rfl
  go_wp2_with fail
  refine Calls.mono (HMA.out _) ?_
  rintro e w2 ⟨rfl, hb2⟩
  have HB2 : Hid (Below w.heap.size w w2) := below_on HB1.out hb2 HB1.out.size
  have KA2 : Hid (Bk w.heap.size (hcl h) w2) := KA1.out.later hb2
  clear hb2 k0 k1 k2 k3
  have k0 := KA2.out.c 0 rfl
  have k1 := KA2.out.c 1 rfl
  have k2 := KA2.out.c 2 rfl
  have k3 := KA2.out.c 3 rfl
  go_wp2_with fail
  refine Calls.mono (HT.out _) ?_
  rintro e w3 ⟨rfl, rfl⟩
  go_wp2_with fail
  refine Calls.mono (HG.out _) ?_
  rintro e w3 ⟨rfl, rfl⟩
  go_wp2_with fail
  refine Calls.mono (HHH.out _) ?_
  rintro e w4 ⟨rfl, hb4⟩
  have HB4 : Hid (Below w.heap.size w w4) := below_on HB2.out hb4 HB2.out.size
  have KA4 : Hid (Bk w.heap.size (hcl h) w4) := KA2.out.later hb4
  clear hb4 k0 k1 k2 k3
  have k0 := KA4.out.c 0 rfl
  have k1 := KA4.out.c 1 rfl
  have k2 := KA4.out.c 2 rfl
  have k3 := KA4.out.c 3 rfl
  clear k0 k1 k2 k3
  go_wp2
  go_ret
  exact ⟨rfl, HB4.out⟩
set_option maxHeartbeats 6400000 in
set_option maxRecDepth 100000 in
theorem holds_f (h : Ht) (t g b need most : Int) (w : World) (hok : htOk h = true) (ht : inR 0 1000000 t = true) (hg : inR 0 1000000 g = true) (b0 : 0 ≤ b) (b1 : b ≤ 100000) (n0 : 0 ≤ need) (n1 : need ≤ 100000) (m0 : 0 ≤ most) (m1 : most ≤ 100000) (hz : need ≠ 0) :
    Calls Try.prog 4 #[hv h, .int .i64 t, .int .i64 g, .int .i64 b, .int .i64 need, .int .i64 most] w fun e w' => e = .returned (.bool true) ∧ Below w.heap.size w w' := by
  have HB0 : Hid (Below w.heap.size w (w.alloc (ho h))) := (Below.refl _ _).alloc (Nat.le_refl _) _
  have KA0 : Hid (Bk w.heap.size (hcl h) (w.alloc (ho h))) := Bk.new w (hcl h) 23 w.heap.size rfl
  obtain ⟨t0, t1⟩ := inR_iff.1 ht
  obtain ⟨g0, g1⟩ := inR_iff.1 hg
  obtain ⟨nn, rfl⟩ : ∃ q : Nat, need = (q : Int) := ⟨need.toNat, by omega⟩
  obtain ⟨mm, rfl⟩ : ∃ q : Nat, most = (q : Int) := ⟨most.toNat, by omega⟩
  have HHO : Hid (∀ W, Calls Try.prog 17 #[hv h, .int .i64 t, .int .i64 g, .int .i64 b, .int .i64 (nn : Int), .int .i64 (mm : Int)] W fun e w' => ∃ u x er, e = .returned (three u x er) ∧ HoldIs h (g - b) (g + b) t nn mm u x er ∧ Below W.heap.size W w') := fun W => hold_yes h t g b nn mm W hok t0 t1 g0 g1 b0 b1 (by omega) (by omega) (by omega)
  have HMA : Hid (∀ W, Calls Try.prog 11 #[hv h] W fun e w' => e = .returned (.bool true) ∧ Below W.heap.size W w') := fun W => (hotMay_any h W).mono fun e w' q => by rwa [hok] at q
  have HT : Hid (∀ W, Calls Try.prog 13 #[.int .i64 t] W fun e w' => e = .returned (.bool true) ∧ w' = W) := fun W => (hot_any t W).mono fun e w' q => by rwa [ht] at q
  have HG : Hid (∀ W, Calls Try.prog 13 #[.int .i64 g] W fun e w' => e = .returned (.bool true) ∧ w' = W) := fun W => (hot_any g W).mono fun e w' q => by rwa [hg] at q
  have HHH : Hid (∀ W, Calls Try.prog 18 #[hv h, .int .i64 t, .int .i64 g, .int .i64 b, .int .i64 (nn : Int), .int .i64 (mm : Int)] W fun e w' => ∃ u x ok, e = .returned (threeB u x ok) ∧ HoldIs h (g - b) (g + b) t nn mm u x (if ok then 0 else 18) ∧ Below W.heap.size W w') := fun W => hotHold_any h t g b nn mm W hok t0 t1 g0 g1 b0 b1 (by omega) (by omega) (by omega)
  have d1 : ¬ b < 0 := by omega
  have d2 : ¬ 100000 < b := by omega
  have d3 : ¬ (nn : Int) < 0 := by omega
  have d4 : ¬ 100000 < (nn : Int) := by omega
  have d5 : ¬ (mm : Int) < 0 := by omega
  have d6 : ¬ 100000 < (mm : Int) := by omega
  clear hok ht hg b0 b1 n0 n1 m0 m1 hz t0 t1 g0 g1
  go_enter Try.func4, Try.ntmps4
  go_wp2_with fail
  refine Calls.mono (HHO.out _) ?_
  rintro e w1 ⟨u, x, er, rfl, hh, hb1⟩
  have HH : Hid (HoldIs h (g - b) (g + b) t nn mm u x er) := hh
  clear hh
  have HB1 : Hid (Below w.heap.size w w1) := below_on HB0.out hb1 HB0.out.size
  have KA1 : Hid (Bk w.heap.size (hcl h) w1) := KA0.out.later hb1
  clear hb1
  have k0 := KA1.out.c 0 rfl
  have k1 := KA1.out.c 1 rfl
  have k2 := KA1.out.c 2 rfl
  have k3 := KA1.out.c 3 rfl
  go_wp2_with fail
  refine Calls.mono (HMA.out _) ?_
  rintro e w2 ⟨rfl, hb2⟩
  have HB2 : Hid (Below w.heap.size w w2) := below_on HB1.out hb2 HB1.out.size
  have KA2 : Hid (Bk w.heap.size (hcl h) w2) := KA1.out.later hb2
  clear hb2 k0 k1 k2 k3
  have k0 := KA2.out.c 0 rfl
  have k1 := KA2.out.c 1 rfl
  have k2 := KA2.out.c 2 rfl
  have k3 := KA2.out.c 3 rfl
  go_wp2_with fail
  refine Calls.mono (HT.out _) ?_
  rintro e w3 ⟨rfl, rfl⟩
  go_wp2_with fail
  refine Calls.mono (HG.out _) ?_
  rintro e w3 ⟨rfl, rfl⟩
  go_wp2_with fail
  refine Calls.mono (HHH.out _) ?_
  rintro e w4 ⟨u2, x2, ok, rfl, hh, hb4⟩
  obtain ⟨e1, e2, e3⟩ := hold_one HH.out hh
  clear HH hh
  subst e1 e2 e3
  have HB4 : Hid (Below w.heap.size w w4) := below_on HB2.out hb4 HB2.out.size
  have KA4 : Hid (Bk w.heap.size (hcl h) w4) := KA2.out.later hb4
  clear hb4 k0 k1 k2 k3
  have k0 := KA4.out.c 0 rfl
  have k1 := KA4.out.c 1 rfl
  have k2 := KA4.out.c 2 rfl
  have k3 := KA4.out.c 3 rfl
  clear k0 k1 k2 k3
  cases ok with
  | true =>
    simp only [if_true]
    go_wp2
    go_ret
    exact ⟨rfl, HB4.out⟩
  | false =>
    simp only [Bool.false_eq_true, if_false]
    go_wp2
    go_ret
    exact ⟨rfl, HB4.out⟩
theorem holds_law (h : Ht) (t g b need most : Int) (w : World) :
    Calls Try.prog 4 #[hv h, .int .i64 t, .int .i64 g, .int .i64 b, .int .i64 need, .int .i64 most] w fun e w' => e = .returned (.bool true) ∧ Below w.heap.size w w' := by
  cases hok : htOk h with
  | false => exact holds_a h t g b need most w hok
  | true =>
    cases ht : inR 0 1000000 t with
    | false => exact holds_b h t g b need most w hok ht
    | true =>
      cases hg : inR 0 1000000 g with
      | false => exact holds_c h t g b need most w hok ht hg
      | true =>
        cases hc : (inR 0 100000 b && (inR 0 100000 need && inR 0 100000 most)) with
        | false => exact holds_d h t g b need most w hok ht hg hc
        | true =>
          obtain ⟨c1, c2⟩ := Bool.and_eq_true_iff.1 hc
          obtain ⟨c2, c3⟩ := Bool.and_eq_true_iff.1 c2
          obtain ⟨b0, b1⟩ := inR_iff.1 c1
          obtain ⟨n0, n1⟩ := inR_iff.1 c2
          obtain ⟨m0, m1⟩ := inR_iff.1 c3
          by_cases hz : need = 0
          · exact holds_e h t g b need most w hok ht hg b0 b1 n0 n1 m0 m1 hz
          · exact holds_f h t g b need most w hok ht hg b0 b1 n0 n1 m0 m1 hz
end Go.Proofs.Ytjpjkkjklghpgaa
