/- HeatTicks walked. -/
import Derived.Test.YtjpjkkjklghpgaaHL
import Derived.Test.YtjpjkkjklghpgaaHE
namespace Go.Proofs.Ytjpjkkjklghpgaa
open Go.RowKit

set_option maxHeartbeats 6400000 in
set_option maxRecDepth 100000 in
theorem ticks_a (h : Ht) (t : Int) (on : Bool) (g b n : Int) (w : World) (hok : htOk h = false) :
    Calls Try.prog 3 #[hv h, .int .i64 t, .bool on, .int .i64 g, .int .i64 b, .int .i64 n] w fun e w' => e = .returned (.bool true) ∧ Below w.heap.size w w' := by
  have hno : (htOk h && inR 0 1000000 t) = false := by rw [hok]; rfl
  have hbn : (htOk h && (inR 0 1000000 t && inR 0 1000000 g)) = false := by rw [hok]; rfl
  have HTI : Hid (∀ W, Calls Try.prog 8 #[hv h, .int .i64 t, .bool on] W fun e w' => e = .returned (two 0 2) ∧ Below W.heap.size W w') := fun W => tick_no h t on hno W
  have HRE : Hid (∀ W, Calls Try.prog 9 #[hv h, .bool on] W fun e w' => e = .returned (two 0 2) ∧ Below W.heap.size W w') := fun W => rest_no h on hok W
  have HBA : Hid (∀ W, Calls Try.prog 10 #[hv h, .int .i64 t, .int .i64 g, .int .i64 b, .int .i64 n] W fun e w' => e = .returned (sl2 (.slice none 0 0) 2) ∧ Below W.heap.size W w') := fun W => bang_ref h t g b n W hbn
  have HMA : Hid (∀ W, Calls Try.prog 11 #[hv h] W fun e w' => e = .returned (.bool false) ∧ Below W.heap.size W w') := fun W => (hotMay_any h W).mono fun e w' q => by rwa [hok] at q
  clear hok hno hbn
  have HB0 : Hid (Below w.heap.size w (w.alloc (ho h))) := (Below.refl _ _).alloc (Nat.le_refl _) _
  have KA0 : Hid (Bk w.heap.size (hcl h) (w.alloc (ho h))) := Bk.new w (hcl h) 23 w.heap.size rfl
  go_enter Try.func3, Try.ntmps3
  go_wp2_with fail
  refine Calls.mono (HTI.out _) ?_
  rintro e w1 ⟨rfl, hb1⟩
  have HB1 : Hid (Below w.heap.size w w1) := below_on HB0.out hb1 HB0.out.size
  have KA1 : Hid (Bk w.heap.size (hcl h) w1) := KA0.out.later hb1
  clear hb1
  have k0 := KA1.out.c 0 rfl
  have k1 := KA1.out.c 1 rfl
  have k2 := KA1.out.c 2 rfl
  have k3 := KA1.out.c 3 rfl
  go_wp2_with fail
  refine Calls.mono (HRE.out _) ?_
  rintro e w2 ⟨rfl, hb2⟩
  have HB2 : Hid (Below w.heap.size w w2) := below_on HB1.out hb2 HB1.out.size
  have KA2 : Hid (Bk w.heap.size (hcl h) w2) := KA1.out.later hb2
  clear hb2 k0 k1 k2 k3
  have k0 := KA2.out.c 0 rfl
  have k1 := KA2.out.c 1 rfl
  have k2 := KA2.out.c 2 rfl
  have k3 := KA2.out.c 3 rfl
  go_wp2_with fail
  refine Calls.mono (HBA.out _) ?_
  rintro e w3 ⟨rfl, hb3⟩
  have HB3 : Hid (Below w.heap.size w w3) := below_on HB2.out hb3 HB2.out.size
  have KA3 : Hid (Bk w.heap.size (hcl h) w3) := KA2.out.later hb3
  clear hb3 k0 k1 k2 k3
  have k0 := KA3.out.c 0 rfl
  have k1 := KA3.out.c 1 rfl
  have k2 := KA3.out.c 2 rfl
  have k3 := KA3.out.c 3 rfl
  go_wp2_with fail
  refine Calls.mono (HMA.out _) ?_
  rintro e w4 ⟨rfl, hb4⟩
  have HB4 : Hid (Below w.heap.size w w4) := below_on HB3.out hb4 HB3.out.size
  have KA4 : Hid (Bk w.heap.size (hcl h) w4) := KA3.out.later hb4
  clear hb4 k0 k1 k2 k3
  have k0 := KA4.out.c 0 rfl
  have k1 := KA4.out.c 1 rfl
  have k2 := KA4.out.c 2 rfl
  have k3 := KA4.out.c 3 rfl
  clear k0 k1 k2 k3
  go_wp2
  go_ret
  exact ⟨rfl, HB4.out⟩
set_option maxHeartbeats 6400000 in
set_option maxRecDepth 100000 in
theorem ticks_b (h : Ht) (t : Int) (on : Bool) (g b n : Int) (w : World) (hok : htOk h = true) (ht : inR 0 1000000 t = false) :
    Calls Try.prog 3 #[hv h, .int .i64 t, .bool on, .int .i64 g, .int .i64 b, .int .i64 n] w fun e w' => e = .returned (.bool true) ∧ Below w.heap.size w w' := by
  have hno : (htOk h && inR 0 1000000 t) = false := by rw [hok, ht]; rfl
  have hbn : (htOk h && (inR 0 1000000 t && inR 0 1000000 g)) = false := by rw [hok, ht]; rfl
  have HTI : Hid (∀ W, Calls Try.prog 8 #[hv h, .int .i64 t, .bool on] W fun e w' => e = .returned (two 0 2) ∧ Below W.heap.size W w') := fun W => tick_no h t on hno W
  have HRE : Hid (∀ W, Calls Try.prog 9 #[hv h, .bool on] W fun e w' => ∃ r : Nat, e = .returned (two (r : Int) 0) ∧ RestIs h on r ∧ Below W.heap.size W w') := fun W => rest_yes h on hok W
  have HBA : Hid (∀ W, Calls Try.prog 10 #[hv h, .int .i64 t, .int .i64 g, .int .i64 b, .int .i64 n] W fun e w' => e = .returned (sl2 (.slice none 0 0) 2) ∧ Below W.heap.size W w') := fun W => bang_ref h t g b n W hbn
  have HMA : Hid (∀ W, Calls Try.prog 11 #[hv h] W fun e w' => e = .returned (.bool true) ∧ Below W.heap.size W w') := fun W => (hotMay_any h W).mono fun e w' q => by rwa [hok] at q
  have HHR : Hid (∀ r : Nat, RestIs h on r → ∀ W, Calls Try.prog 12 #[hv h, .bool on] W fun e w' => e = .returned (.int .i64 (r : Int)) ∧ Below W.heap.size W w') := fun r hr W => hotRest_any h on r hok hr W
  have HHO : Hid (∀ W, Calls Try.prog 13 #[.int .i64 t] W fun e w' => e = .returned (.bool false) ∧ w' = W) := fun W => (hot_any t W).mono fun e w' q => by rwa [ht] at q
  clear hok hno hbn ht
  have HB0 : Hid (Below w.heap.size w (w.alloc (ho h))) := (Below.refl _ _).alloc (Nat.le_refl _) _
  have KA0 : Hid (Bk w.heap.size (hcl h) (w.alloc (ho h))) := Bk.new w (hcl h) 23 w.heap.size rfl
  go_enter Try.func3, Try.ntmps3
  go_wp2_with fail
  refine Calls.mono (HTI.out _) ?_
  rintro e w1 ⟨rfl, hb1⟩
  have HB1 : Hid (Below w.heap.size w w1) := below_on HB0.out hb1 HB0.out.size
  have KA1 : Hid (Bk w.heap.size (hcl h) w1) := KA0.out.later hb1
  clear hb1
  have k0 := KA1.out.c 0 rfl
  have k1 := KA1.out.c 1 rfl
  have k2 := KA1.out.c 2 rfl
  have k3 := KA1.out.c 3 rfl
  go_wp2_with fail
  refine Calls.mono (HRE.out _) ?_
  rintro e w2 ⟨r, rfl, hr, hb2⟩
  have HRI : Hid (RestIs h on r) := hr
  clear hr
  have HB2 : Hid (Below w.heap.size w w2) := below_on HB1.out hb2 HB1.out.size
  have KA2 : Hid (Bk w.heap.size (hcl h) w2) := KA1.out.later hb2
  clear hb2 k0 k1 k2 k3
  have k0 := KA2.out.c 0 rfl
  have k1 := KA2.out.c 1 rfl
  have k2 := KA2.out.c 2 rfl
  have k3 := KA2.out.c 3 rfl
  go_wp2_with fail
  refine Calls.mono (HBA.out _) ?_
  rintro e w3 ⟨rfl, hb3⟩
  have HB3 : Hid (Below w.heap.size w w3) := below_on HB2.out hb3 HB2.out.size
  have KA3 : Hid (Bk w.heap.size (hcl h) w3) := KA2.out.later hb3
  clear hb3 k0 k1 k2 k3
  have k0 := KA3.out.c 0 rfl
  have k1 := KA3.out.c 1 rfl
  have k2 := KA3.out.c 2 rfl
  have k3 := KA3.out.c 3 rfl
  go_wp2_with fail
  refine Calls.mono (HMA.out _) ?_
  rintro e w4 ⟨rfl, hb4⟩
  have HB4 : Hid (Below w.heap.size w w4) := below_on HB3.out hb4 HB3.out.size
  have KA4 : Hid (Bk w.heap.size (hcl h) w4) := KA3.out.later hb4
  clear hb4 k0 k1 k2 k3
  have k0 := KA4.out.c 0 rfl
  have k1 := KA4.out.c 1 rfl
  have k2 := KA4.out.c 2 rfl
  have k3 := KA4.out.c 3 rfl
  go_wp2_with fail
  refine Calls.mono (HHR.out r HRI.out _) ?_
  rintro e w5 ⟨rfl, hb5⟩
  have HB5 : Hid (Below w.heap.size w w5) := below_on HB4.out hb5 HB4.out.size
  have KA5 : Hid (Bk w.heap.size (hcl h) w5) := KA4.out.later hb5
  clear hb5 k0 k1 k2 k3
  have k0 := KA5.out.c 0 rfl
  have k1 := KA5.out.c 1 rfl
  have k2 := KA5.out.c 2 rfl
  have k3 := KA5.out.c 3 rfl
  go_wp2_with fail
  refine Calls.mono (HHO.out _) ?_
  rintro e w6 ⟨rfl, rfl⟩
  clear k0 k1 k2 k3
  go_wp2
  go_ret
  exact ⟨rfl, HB5.out⟩
set_option maxHeartbeats 6400000 in
set_option maxRecDepth 100000 in
theorem ticks_c (h : Ht) (t : Int) (on : Bool) (g b n : Int) (w : World) (hok : htOk h = true) (t0 : 0 ≤ t) (t1 : t ≤ 1000000) (hg : inR 0 1000000 g = false) :
    Calls Try.prog 3 #[hv h, .int .i64 t, .bool on, .int .i64 g, .int .i64 b, .int .i64 n] w fun e w' => e = .returned (.bool true) ∧ Below w.heap.size w w' := by
  have ht : inR 0 1000000 t = true := inR_yes t0 t1
  have HTI : Hid (∀ W, Calls Try.prog 8 #[hv h, .int .i64 t, .bool on] W fun e w' => e = .returned (two (tk h on t) 0) ∧ Below W.heap.size W w') := fun W => tick_yes h t on hok t0 t1 W
  have HRE : Hid (∀ W, Calls Try.prog 9 #[hv h, .bool on] W fun e w' => ∃ r : Nat, e = .returned (two (r : Int) 0) ∧ RestIs h on r ∧ Below W.heap.size W w') := fun W => rest_yes h on hok W
  have HMA : Hid (∀ W, Calls Try.prog 11 #[hv h] W fun e w' => e = .returned (.bool true) ∧ Below W.heap.size W w') := fun W => (hotMay_any h W).mono fun e w' q => by rwa [hok] at q
  have HHR : Hid (∀ r : Nat, RestIs h on r → ∀ W, Calls Try.prog 12 #[hv h, .bool on] W fun e w' => e = .returned (.int .i64 (r : Int)) ∧ Below W.heap.size W w') := fun r hr W => hotRest_any h on r hok hr W
  have HHT : Hid (∀ W, Calls Try.prog 14 #[hv h, .int .i64 t, .bool on] W fun e w' => e = .returned (.int .i64 (tk h on t)) ∧ Below W.heap.size W w') := fun W => hotTick_any h t on hok t0 t1 W
  have HHO : Hid (∀ W, Calls Try.prog 13 #[.int .i64 t] W fun e w' => e = .returned (.bool true) ∧ w' = W) := fun W => (hot_any t W).mono fun e w' q => by rwa [ht] at q
  have hbn : (htOk h && (inR 0 1000000 t && inR 0 1000000 g)) = false := by rw [hok, ht, hg]; rfl
  have HBA : Hid (∀ W, Calls Try.prog 10 #[hv h, .int .i64 t, .int .i64 g, .int .i64 b, .int .i64 n] W fun e w' => e = .returned (sl2 (.slice none 0 0) 2) ∧ Below W.heap.size W w') := fun W => bang_ref h t g b n W hbn
  have HHG : Hid (∀ W, Calls Try.prog 13 #[.int .i64 g] W fun e w' => e = .returned (.bool false) ∧ w' = W) := fun W => (hot_any g W).mono fun e w' q => by rwa [hg] at q
  clear hok t0 t1 hg ht hbn
  generalize tk h on t = y at *
  have HB0 : Hid (Below w.heap.size w (w.alloc (ho h))) := (Below.refl _ _).alloc (Nat.le_refl _) _
  have KA0 : Hid (Bk w.heap.size (hcl h) (w.alloc (ho h))) := Bk.new w (hcl h) 23 w.heap.size rfl
  go_enter Try.func3, Try.ntmps3
  go_wp2_with fail
  refine Calls.mono (HTI.out _) ?_
  rintro e w1 ⟨rfl, hb1⟩
  have HB1 : Hid (Below w.heap.size w w1) := below_on HB0.out hb1 HB0.out.size
  have KA1 : Hid (Bk w.heap.size (hcl h) w1) := KA0.out.later hb1
  clear hb1
  have k0 := KA1.out.c 0 rfl
  have k1 := KA1.out.c 1 rfl
  have k2 := KA1.out.c 2 rfl
  have k3 := KA1.out.c 3 rfl
  go_wp2_with fail
  refine Calls.mono (HRE.out _) ?_
  rintro e w2 ⟨r, rfl, hr, hb2⟩
  have HRI : Hid (RestIs h on r) := hr
  clear hr
  have HB2 : Hid (Below w.heap.size w w2) := below_on HB1.out hb2 HB1.out.size
  have KA2 : Hid (Bk w.heap.size (hcl h) w2) := KA1.out.later hb2
  clear hb2 k0 k1 k2 k3
  have k0 := KA2.out.c 0 rfl
  have k1 := KA2.out.c 1 rfl
  have k2 := KA2.out.c 2 rfl
  have k3 := KA2.out.c 3 rfl
  go_wp2_with fail
  refine Calls.mono (HBA.out _) ?_
  rintro e w3 ⟨rfl, hb3⟩
  have HB3 : Hid (Below w.heap.size w w3) := below_on HB2.out hb3 HB2.out.size
  have KA3 : Hid (Bk w.heap.size (hcl h) w3) := KA2.out.later hb3
  clear hb3 k0 k1 k2 k3
  have k0 := KA3.out.c 0 rfl
  have k1 := KA3.out.c 1 rfl
  have k2 := KA3.out.c 2 rfl
  have k3 := KA3.out.c 3 rfl
  go_wp2_with fail
  refine Calls.mono (HMA.out _) ?_
  rintro e w4 ⟨rfl, hb4⟩
  have HB4 : Hid (Below w.heap.size w w4) := below_on HB3.out hb4 HB3.out.size
  have KA4 : Hid (Bk w.heap.size (hcl h) w4) := KA3.out.later hb4
  clear hb4 k0 k1 k2 k3
  have k0 := KA4.out.c 0 rfl
  have k1 := KA4.out.c 1 rfl
  have k2 := KA4.out.c 2 rfl
  have k3 := KA4.out.c 3 rfl
  go_wp2_with fail
  refine Calls.mono (HHR.out r HRI.out _) ?_
  rintro e w5 ⟨rfl, hb5⟩
  have HB5 : Hid (Below w.heap.size w w5) := below_on HB4.out hb5 HB4.out.size
  have KA5 : Hid (Bk w.heap.size (hcl h) w5) := KA4.out.later hb5
  clear hb5 k0 k1 k2 k3
  have k0 := KA5.out.c 0 rfl
  have k1 := KA5.out.c 1 rfl
  have k2 := KA5.out.c 2 rfl
  have k3 := KA5.out.c 3 rfl
  go_wp2_with fail
  refine Calls.mono (HHO.out _) ?_
  rintro e w6 ⟨rfl, rfl⟩
  go_wp2_with fail
  refine Calls.mono (HHT.out _) ?_
  rintro e w6 ⟨rfl, hb6⟩
  have HB6 : Hid (Below w.heap.size w w6) := below_on HB5.out hb6 HB5.out.size
  have KA6 : Hid (Bk w.heap.size (hcl h) w6) := KA5.out.later hb6
  clear hb6 k0 k1 k2 k3
  have k0 := KA6.out.c 0 rfl
  have k1 := KA6.out.c 1 rfl
  have k2 := KA6.out.c 2 rfl
  have k3 := KA6.out.c 3 rfl
  go_wp2_with fail
  refine Calls.mono (HHG.out _) ?_
  rintro e w7 ⟨rfl, rfl⟩
  clear k0 k1 k2 k3
  go_wp2
  go_ret
  exact ⟨rfl, HB6.out⟩
set_option maxHeartbeats 6400000 in
set_option maxRecDepth 100000 in
theorem ticks_d (h : Ht) (t : Int) (on : Bool) (g b n : Int) (w : World) (hok : htOk h = true) (t0 : 0 ≤ t) (t1 : t ≤ 1000000) (g0 : 0 ≤ g) (g1 : g ≤ 1000000) (hcn : (inR 0 100000 b && inR 0 5000 n) = false) :
    Calls Try.prog 3 #[hv h, .int .i64 t, .bool on, .int .i64 g, .int .i64 b, .int .i64 n] w fun e w' => e = .returned (.bool true) ∧ Below w.heap.size w w' := by
  have ht : inR 0 1000000 t = true := inR_yes t0 t1
  have HTI : Hid (∀ W, Calls Try.prog 8 #[hv h, .int .i64 t, .bool on] W fun e w' => e = .returned (two (tk h on t) 0) ∧ Below W.heap.size W w') := fun W => tick_yes h t on hok t0 t1 W
  have HRE : Hid (∀ W, Calls Try.prog 9 #[hv h, .bool on] W fun e w' => ∃ r : Nat, e = .returned (two (r : Int) 0) ∧ RestIs h on r ∧ Below W.heap.size W w') := fun W => rest_yes h on hok W
  have HMA : Hid (∀ W, Calls Try.prog 11 #[hv h] W fun e w' => e = .returned (.bool true) ∧ Below W.heap.size W w') := fun W => (hotMay_any h W).mono fun e w' q => by rwa [hok] at q
  have HHR : Hid (∀ r : Nat, RestIs h on r → ∀ W, Calls Try.prog 12 #[hv h, .bool on] W fun e w' => e = .returned (.int .i64 (r : Int)) ∧ Below W.heap.size W w') := fun r hr W => hotRest_any h on r hok hr W
  have HHT : Hid (∀ W, Calls Try.prog 14 #[hv h, .int .i64 t, .bool on] W fun e w' => e = .returned (.int .i64 (tk h on t)) ∧ Below W.heap.size W w') := fun W => hotTick_any h t on hok t0 t1 W
  have HHO : Hid (∀ W, Calls Try.prog 13 #[.int .i64 t] W fun e w' => e = .returned (.bool true) ∧ w' = W) := fun W => (hot_any t W).mono fun e w' q => by rwa [ht] at q
  have hg : inR 0 1000000 g = true := inR_yes g0 g1
  have hin : (inR 0 1000000 t && inR 0 1000000 g) = true := by rw [ht, hg]; rfl
  have HBA : Hid (∀ W, Calls Try.prog 10 #[hv h, .int .i64 t, .int .i64 g, .int .i64 b, .int .i64 n] W fun e w' => e = .returned (sl2 (.slice none 0 0) 7) ∧ Below W.heap.size W w') := fun W => bang_cnt h t g b n W hok hin hcn
  have HHG : Hid (∀ W, Calls Try.prog 13 #[.int .i64 g] W fun e w' => e = .returned (.bool true) ∧ w' = W) := fun W => (hot_any g W).mono fun e w' q => by rwa [hg] at q
  have hw : (b < 0) ∨ (¬ b < 0 ∧ 100000 < b) ∨ (¬ b < 0 ∧ ¬ 100000 < b ∧ n < 0) ∨ (¬ b < 0 ∧ ¬ 100000 < b ∧ ¬ n < 0 ∧ 5000 < n) := by
    rcases Bool.and_eq_false_iff.1 hcn with q | q
    · simp only [inR, Bool.and_eq_false_iff, decide_eq_false_iff_not] at q; omega
    · simp only [inR, Bool.and_eq_false_iff, decide_eq_false_iff_not] at q; omega
  clear hok t0 t1 hg ht hin hcn g0 g1
  generalize tk h on t = y at *
  have HB0 : Hid (Below w.heap.size w (w.alloc (ho h))) := (Below.refl _ _).alloc (Nat.le_refl _) _
  have KA0 : Hid (Bk w.heap.size (hcl h) (w.alloc (ho h))) := Bk.new w (hcl h) 23 w.heap.size rfl
  go_enter Try.func3, Try.ntmps3
  go_wp2_with fail
  refine Calls.mono (HTI.out _) ?_
  rintro e w1 ⟨rfl, hb1⟩
  have HB1 : Hid (Below w.heap.size w w1) := below_on HB0.out hb1 HB0.out.size
  have KA1 : Hid (Bk w.heap.size (hcl h) w1) := KA0.out.later hb1
  clear hb1
  have k0 := KA1.out.c 0 rfl
  have k1 := KA1.out.c 1 rfl
  have k2 := KA1.out.c 2 rfl
  have k3 := KA1.out.c 3 rfl
  go_wp2_with fail
  refine Calls.mono (HRE.out _) ?_
  rintro e w2 ⟨r, rfl, hr, hb2⟩
  have HRI : Hid (RestIs h on r) := hr
  clear hr
  have HB2 : Hid (Below w.heap.size w w2) := below_on HB1.out hb2 HB1.out.size
  have KA2 : Hid (Bk w.heap.size (hcl h) w2) := KA1.out.later hb2
  clear hb2 k0 k1 k2 k3
  have k0 := KA2.out.c 0 rfl
  have k1 := KA2.out.c 1 rfl
  have k2 := KA2.out.c 2 rfl
  have k3 := KA2.out.c 3 rfl
  go_wp2_with fail
  refine Calls.mono (HBA.out _) ?_
  rintro e w3 ⟨rfl, hb3⟩
  have HB3 : Hid (Below w.heap.size w w3) := below_on HB2.out hb3 HB2.out.size
  have KA3 : Hid (Bk w.heap.size (hcl h) w3) := KA2.out.later hb3
  clear hb3 k0 k1 k2 k3
  have k0 := KA3.out.c 0 rfl
  have k1 := KA3.out.c 1 rfl
  have k2 := KA3.out.c 2 rfl
  have k3 := KA3.out.c 3 rfl
  go_wp2_with fail
  refine Calls.mono (HMA.out _) ?_
  rintro e w4 ⟨rfl, hb4⟩
  have HB4 : Hid (Below w.heap.size w w4) := below_on HB3.out hb4 HB3.out.size
  have KA4 : Hid (Bk w.heap.size (hcl h) w4) := KA3.out.later hb4
  clear hb4 k0 k1 k2 k3
  have k0 := KA4.out.c 0 rfl
  have k1 := KA4.out.c 1 rfl
  have k2 := KA4.out.c 2 rfl
  have k3 := KA4.out.c 3 rfl
  go_wp2_with fail
  refine Calls.mono (HHR.out r HRI.out _) ?_
  rintro e w5 ⟨rfl, hb5⟩
  have HB5 : Hid (Below w.heap.size w w5) := below_on HB4.out hb5 HB4.out.size
  have KA5 : Hid (Bk w.heap.size (hcl h) w5) := KA4.out.later hb5
  clear hb5 k0 k1 k2 k3
  have k0 := KA5.out.c 0 rfl
  have k1 := KA5.out.c 1 rfl
  have k2 := KA5.out.c 2 rfl
  have k3 := KA5.out.c 3 rfl
  go_wp2_with fail
  refine Calls.mono (HHO.out _) ?_
  rintro e w6 ⟨rfl, rfl⟩
  go_wp2_with fail
  refine Calls.mono (HHT.out _) ?_
  rintro e w6 ⟨rfl, hb6⟩
  have HB6 : Hid (Below w.heap.size w w6) := below_on HB5.out hb6 HB5.out.size
  have KA6 : Hid (Bk w.heap.size (hcl h) w6) := KA5.out.later hb6
  clear hb6 k0 k1 k2 k3
  have k0 := KA6.out.c 0 rfl
  have k1 := KA6.out.c 1 rfl
  have k2 := KA6.out.c 2 rfl
  have k3 := KA6.out.c 3 rfl
  go_wp2_with fail
  refine Calls.mono (HHG.out _) ?_
  rintro e w7 ⟨rfl, rfl⟩
  clear k0 k1 k2 k3
  rcases hw with d1 | ⟨d1, d2⟩ | ⟨d1, d2, d3⟩ | ⟨d1, d2, d3, d4⟩
  all_goals
    go_wp2
    go_ret
    exact ⟨rfl, HB6.out⟩
set_option maxHeartbeats 6400000 in
set_option maxRecDepth 100000 in
theorem ticks_e (h : Ht) (t : Int) (on : Bool) (g b n : Int) (w : World) (hok : htOk h = true) (t0 : 0 ≤ t) (t1 : t ≤ 1000000) (g0 : 0 ≤ g) (g1 : g ≤ 1000000) (b0 : 0 ≤ b) (b1 : b ≤ 100000) (n0 : 0 ≤ n) (n1 : n ≤ 5000) :
    Calls Try.prog 3 #[hv h, .int .i64 t, .bool on, .int .i64 g, .int .i64 b, .int .i64 n] w fun e w' => e = .returned (.bool true) ∧ Below w.heap.size w w' := by
  obtain ⟨m, rfl⟩ : ∃ m : Nat, n = (m : Int) := ⟨n.toNat, by omega⟩
  have ht : inR 0 1000000 t = true := inR_yes t0 t1
  have HTI : Hid (∀ W, Calls Try.prog 8 #[hv h, .int .i64 t, .bool on] W fun e w' => e = .returned (two (tk h on t) 0) ∧ Below W.heap.size W w') := fun W => tick_yes h t on hok t0 t1 W
  have HRE : Hid (∀ W, Calls Try.prog 9 #[hv h, .bool on] W fun e w' => ∃ r : Nat, e = .returned (two (r : Int) 0) ∧ RestIs h on r ∧ Below W.heap.size W w') := fun W => rest_yes h on hok W
  have HMA : Hid (∀ W, Calls Try.prog 11 #[hv h] W fun e w' => e = .returned (.bool true) ∧ Below W.heap.size W w') := fun W => (hotMay_any h W).mono fun e w' q => by rwa [hok] at q
  have HHR : Hid (∀ r : Nat, RestIs h on r → ∀ W, Calls Try.prog 12 #[hv h, .bool on] W fun e w' => e = .returned (.int .i64 (r : Int)) ∧ Below W.heap.size W w') := fun r hr W => hotRest_any h on r hok hr W
  have HHT : Hid (∀ W, Calls Try.prog 14 #[hv h, .int .i64 t, .bool on] W fun e w' => e = .returned (.int .i64 (tk h on t)) ∧ Below W.heap.size W w') := fun W => hotTick_any h t on hok t0 t1 W
  have HHO : Hid (∀ W, Calls Try.prog 13 #[.int .i64 t] W fun e w' => e = .returned (.bool true) ∧ w' = W) := fun W => (hot_any t W).mono fun e w' q => by rwa [ht] at q
  have hg : inR 0 1000000 g = true := inR_yes g0 g1
  have HHG : Hid (∀ W, Calls Try.prog 13 #[.int .i64 g] W fun e w' => e = .returned (.bool true) ∧ w' = W) := fun W => (hot_any g W).mono fun e w' q => by rwa [hg] at q
  have HBA : Hid (∀ W, Calls Try.prog 10 #[hv h, .int .i64 t, .int .i64 g, .int .i64 b, .int .i64 (m : Int)] W fun e w' => ∃ G, e = .returned (sl2 (.slice (some ⟨G, 0, none⟩) m m) 0) ∧ W.heap.size ≤ G ∧ Ints (heatsL h (g - b) (g + b) t m) G w' ∧ Below W.heap.size W w') := fun W => bang_yes h t g b m W hok t0 t1 g0 g1 b0 b1 (by omega)
  have HHB : Hid (∀ W, Calls Try.prog 16 #[hv h, .int .i64 t, .int .i64 g, .int .i64 b, .int .i64 (m : Int)] W fun e w' => ∃ ao cap, e = .returned (.slice ao m cap) ∧ RdI w' ao (heatsL h (g - b) (g + b) t m) ∧ Below W.heap.size W w') := fun W => hotBang_any h t g b m hok t0 t1 g0 g1 b0 b1 (by omega) W
  have HSA : Hid (∀ (G c1 c2 : Nat) (ao : Option Addr) (W : World), Ints (heatsL h (g - b) (g + b) t m) G W → RdI W ao (heatsL h (g - b) (g + b) t m) → Calls Try.prog 15 #[.slice (some ⟨G, 0, none⟩) m c1, .slice ao m c2] W fun e w' => e = .returned (.bool true) ∧ Below W.heap.size W w') := fun G c1 c2 ao W q1 q2 => sameInts_any _ G m c1 c2 ao W (heatsL_length _ _ _ _ _) (by omega) q1 q2
  generalize heatsL h (g - b) (g + b) t m = xs at *
  clear hok t0 t1 hg ht g0 g1
  generalize tk h on t = y at *
  have HB0 : Hid (Below w.heap.size w (w.alloc (ho h))) := (Below.refl _ _).alloc (Nat.le_refl _) _
  have KA0 : Hid (Bk w.heap.size (hcl h) (w.alloc (ho h))) := Bk.new w (hcl h) 23 w.heap.size rfl
  go_enter Try.func3, Try.ntmps3
  go_wp2_with fail
  refine Calls.mono (HTI.out _) ?_
  rintro e w1 ⟨rfl, hb1⟩
  have HB1 : Hid (Below w.heap.size w w1) := below_on HB0.out hb1 HB0.out.size
  have KA1 : Hid (Bk w.heap.size (hcl h) w1) := KA0.out.later hb1
  clear hb1
  have k0 := KA1.out.c 0 rfl
  have k1 := KA1.out.c 1 rfl
  have k2 := KA1.out.c 2 rfl
  have k3 := KA1.out.c 3 rfl
  go_wp2_with fail
  refine Calls.mono (HRE.out _) ?_
  rintro e w2 ⟨r, rfl, hr, hb2⟩
  have HRI : Hid (RestIs h on r) := hr
  clear hr
  have HB2 : Hid (Below w.heap.size w w2) := below_on HB1.out hb2 HB1.out.size
  have KA2 : Hid (Bk w.heap.size (hcl h) w2) := KA1.out.later hb2
  clear hb2 k0 k1 k2 k3
  have k0 := KA2.out.c 0 rfl
  have k1 := KA2.out.c 1 rfl
  have k2 := KA2.out.c 2 rfl
  have k3 := KA2.out.c 3 rfl
  go_wp2_with fail
  refine Calls.mono (HBA.out _) ?_
  rintro e w3 ⟨G, rfl, _, hi, hb3⟩
  have HI3 : Hid (Ints xs G w3) := hi
  clear hi
  have HB3 : Hid (Below w.heap.size w w3) := below_on HB2.out hb3 HB2.out.size
  have KA3 : Hid (Bk w.heap.size (hcl h) w3) := KA2.out.later hb3
  clear hb3 k0 k1 k2 k3
  have k0 := KA3.out.c 0 rfl
  have k1 := KA3.out.c 1 rfl
  have k2 := KA3.out.c 2 rfl
  have k3 := KA3.out.c 3 rfl
  go_wp2_with fail
  refine Calls.mono (HMA.out _) ?_
  rintro e w4 ⟨rfl, hb4⟩
  have W34 : Hid (Below w3.heap.size w3 w4) := hb4
  have HB4 : Hid (Below w.heap.size w w4) := below_on HB3.out hb4 HB3.out.size
  have KA4 : Hid (Bk w.heap.size (hcl h) w4) := KA3.out.later hb4
  clear hb4 k0 k1 k2 k3
  have k0 := KA4.out.c 0 rfl
  have k1 := KA4.out.c 1 rfl
  have k2 := KA4.out.c 2 rfl
  have k3 := KA4.out.c 3 rfl
  go_wp2_with fail
  refine Calls.mono (HHR.out r HRI.out _) ?_
  rintro e w5 ⟨rfl, hb5⟩
  have W35 : Hid (Below w3.heap.size w3 w5) := (W34.out).trans (hb5.mono (W34.out).size)
  have HB5 : Hid (Below w.heap.size w w5) := below_on HB4.out hb5 HB4.out.size
  have KA5 : Hid (Bk w.heap.size (hcl h) w5) := KA4.out.later hb5
  clear hb5 k0 k1 k2 k3
  have k0 := KA5.out.c 0 rfl
  have k1 := KA5.out.c 1 rfl
  have k2 := KA5.out.c 2 rfl
  have k3 := KA5.out.c 3 rfl
  go_wp2_with fail
  refine Calls.mono (HHO.out _) ?_
  rintro e w6 ⟨rfl, rfl⟩
  go_wp2_with fail
  refine Calls.mono (HHT.out _) ?_
  rintro e w6 ⟨rfl, hb6⟩
  have W36 : Hid (Below w3.heap.size w3 w6) := (W35.out).trans (hb6.mono (W35.out).size)
  have HB6 : Hid (Below w.heap.size w w6) := below_on HB5.out hb6 HB5.out.size
  have KA6 : Hid (Bk w.heap.size (hcl h) w6) := KA5.out.later hb6
  clear hb6 k0 k1 k2 k3
  have k0 := KA6.out.c 0 rfl
  have k1 := KA6.out.c 1 rfl
  have k2 := KA6.out.c 2 rfl
  have k3 := KA6.out.c 3 rfl
  go_wp2_with fail
  refine Calls.mono (HHG.out _) ?_
  rintro e w7 ⟨rfl, rfl⟩
  go_wp2_with fail
  refine Calls.mono (HHB.out _) ?_
  rintro e w7 ⟨ao, cap, rfl, hr, hb7⟩
  have HR7 : Hid (RdI w7 ao xs) := hr
  clear hr
  have W37 : Hid (Below w3.heap.size w3 w7) := (W36.out).trans (hb7.mono (W36.out).size)
  have HB7 : Hid (Below w.heap.size w w7) := below_on HB6.out hb7 HB6.out.size
  have KA7 : Hid (Bk w.heap.size (hcl h) w7) := KA6.out.later hb7
  clear hb7 k0 k1 k2 k3
  have k0 := KA7.out.c 0 rfl
  have k1 := KA7.out.c 1 rfl
  have k2 := KA7.out.c 2 rfl
  have k3 := KA7.out.c 3 rfl
  have HI7 : Hid (Ints xs G w7) := HI3.out.later W37.out
  clear k0 k1 k2 k3
  go_wp2_with fail
  refine Calls.mono (HSA.out _ _ _ _ _ HI7.out HR7.out) ?_
  rintro e w8 ⟨rfl, hb8⟩
  have HB8 : Hid (Below w.heap.size w w8) := below_on HB7.out hb8 HB7.out.size
  clear hb8
  go_wp2
  go_ret
  exact ⟨rfl, HB8.out⟩
theorem ticks_law (h : Ht) (t : Int) (on : Bool) (g b n : Int) (w : World) :
    Calls Try.prog 3 #[hv h, .int .i64 t, .bool on, .int .i64 g, .int .i64 b, .int .i64 n] w fun e w' => e = .returned (.bool true) ∧ Below w.heap.size w w' := by
  cases hok : htOk h with
  | false => exact ticks_a h t on g b n w hok
  | true =>
    cases ht : inR 0 1000000 t with
    | false => exact ticks_b h t on g b n w hok ht
    | true =>
      obtain ⟨t0, t1⟩ := inR_iff.1 ht
      cases hg : inR 0 1000000 g with
      | false => exact ticks_c h t on g b n w hok t0 t1 hg
      | true =>
        obtain ⟨g0, g1⟩ := inR_iff.1 hg
        cases hc : (inR 0 100000 b && inR 0 5000 n) with
        | false => exact ticks_d h t on g b n w hok t0 t1 g0 g1 hc
        | true =>
          obtain ⟨c1, c2⟩ := Bool.and_eq_true_iff.1 hc
          obtain ⟨b0, b1⟩ := inR_iff.1 c1
          obtain ⟨n0, n1⟩ := inR_iff.1 c2
          exact ticks_e h t on g b n w hok t0 t1 g0 g1 b0 b1 n0 n1
end Go.Proofs.Ytjpjkkjklghpgaa
