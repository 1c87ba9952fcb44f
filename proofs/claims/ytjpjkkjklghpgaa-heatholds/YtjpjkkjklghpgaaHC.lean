/- isThere, atWork, ticks, isPlate, refusal walked; Tick. -/
import Derived.Test.YtjpjkkjklghpgaaHB
namespace Go.Proofs.Ytjpjkkjklghpgaa
open Go.RowKit

set_option maxHeartbeats 3200000 in
theorem isThere_any (B : Nat) (h : Ht) (lo hi : Int) (s : Int × Bool) (w : World) (hB : Bk B (wkc h lo hi s) w) :
    Calls Try.prog 28 #[ptr B] w fun e w' => e = .returned (.bool (isW lo hi s.1)) ∧ Below w.heap.size w w' := by
  obtain ⟨t, on⟩ := s
  have HW : Hid (∀ n, Below w.heap.size w (w.drewN n)) := fun n => below_drewN (Below.refl _ _) _
  have c4 := hB.c 4 rfl
  have c6 := hB.c 6 rfl
  have c7 := hB.c 7 rfl
  have HS : Hid (isW lo hi t = (decide (lo ≤ t) && decide (t ≤ hi))) := rfl
  clear hB
  simp only at *
  cases h1 : decide (lo ≤ t) with
  | true =>
    cases h2 : decide (t ≤ hi) with
    | true =>
      rw [h1, h2] at HS
      go_enter Try.func28, Try.ntmps28
      go_wp2_with fail
      go_big_quiet (fail)
      go_wp2
      go_ret
      exact ⟨ret_bool HS.out.symm, HW.out _⟩
    | false =>
      rw [h1, h2] at HS
      go_enter Try.func28, Try.ntmps28
      go_wp2_with fail
      go_big_quiet (fail)
      go_wp2
      go_ret
      exact ⟨ret_bool HS.out.symm, HW.out _⟩
  | false =>
    rw [h1] at HS
    go_enter Try.func28, Try.ntmps28
    go_wp2_with fail
    go_big_quiet (fail)
    go_wp2
    go_ret
    exact ⟨ret_bool HS.out.symm, HW.out _⟩
abbrev wko (h : Ht) (lo hi : Int) (s : Int × Bool) : Obj := .cells #[.int .i64 h.g, .int .i64 h.l, .int .i64 h.a, .int .i64 h.m, .int .i64 s.1, .bool s.2, .int .i64 lo, .int .i64 hi] 57
set_option maxHeartbeats 3200000 in
theorem atWork_any (h : Ht) (t g b : Int) (w : World) (h0 : 0 ≤ g) (h1 : g ≤ 1000000) (h2 : 0 ≤ b) (h3 : b ≤ 100000) :
    Calls Try.prog 25 #[hv h, .int .i64 t, .int .i64 g, .int .i64 b] w fun e w' => e = .returned (ptr (w.heap.size + 1)) ∧ w' = (w.alloc (ho h)).alloc (wko h (g - b) (g + b) (t, false)) := by
  obtain ⟨x0, x1, x2, x3⟩ := h
  go_enter Try.func25, Try.ntmps25
  go_wp2
  go_ret
  exact ⟨by simp, rfl⟩
/-- The ticks of a plate at work: a function that yields. -/
abbrev tiC (n p : Nat) : Value := .func (.func 30) #[] #[ptr n, ptr p]
theorem ticks_any (B : Nat) (n : Int) (w : World) :
    Calls Try.prog 26 #[ptr B, .int .i64 n] w fun e w' => e = .returned (tiC (w.heap.size + 1) w.heap.size) ∧ w' = (w.alloc (.cells #[ptr B] 49)).alloc (io n) := by
  go_enter Try.func26, Try.ntmps26
  go_wp2
  go_ret
  exact ⟨by simp, rfl⟩
theorem upA (m x : Int) (w : World) (b : Nat) (hb : b = w.heap.size) : Calls Try.prog 24 #[.int .i64 m, .slice (some ⟨b, 0, none⟩) 1 1] (w.alloc (.cells #[.int .i64 x] 3)) fun e w' => e = .returned (.bool (inR 0 m x)) ∧ w' = w.alloc (.cells #[.int .i64 x] 3) := by
  subst hb; exact upTo1 m x w
theorem upB (m x y : Int) (w : World) (b : Nat) (hb : b = w.heap.size) : Calls Try.prog 24 #[.int .i64 m, .slice (some ⟨b, 0, none⟩) 2 2] (w.alloc (.cells #[.int .i64 x, .int .i64 y] 3)) fun e w' => e = .returned (.bool (inR 0 m x && inR 0 m y)) ∧ w' = w.alloc (.cells #[.int .i64 x, .int .i64 y] 3) := by
  subst hb; exact upTo2 m x y w
theorem upC (m x y z : Int) (w : World) (b : Nat) (hb : b = w.heap.size) : Calls Try.prog 24 #[.int .i64 m, .slice (some ⟨b, 0, none⟩) 3 3] (w.alloc (.cells #[.int .i64 x, .int .i64 y, .int .i64 z] 3)) fun e w' => e = .returned (.bool (inR 0 m x && (inR 0 m y && inR 0 m z))) ∧ w' = w.alloc (.cells #[.int .i64 x, .int .i64 y, .int .i64 z] 3) := by
  subst hb; exact upTo3 m x y z w
theorem htOk_parts (h : Ht) : htOk h = (inR 0 100000 h.g && inR 0 512 h.l && (inR 0 1000000 h.a && inR 0 1000000 h.m) && decide (h.a ≤ h.m)) := by
  rw [Bool.eq_iff_iff, htOk_iff]
  simp only [inR, Bool.and_eq_true, decide_eq_true_eq]
  omega
theorem below_two (w : World) (a b : Obj) : Below w.heap.size w ((w.alloc a).alloc b) := ((Below.refl _ _).alloc (Nat.le_refl _) _).alloc (by simp) _
theorem below_three (w : World) (a b c : Obj) : Below w.heap.size w (((w.alloc a).alloc b).alloc c) := (below_two w a b).alloc (by simp; omega) _
theorem below_four (w : World) (a b c d : Obj) : Below w.heap.size w ((((w.alloc a).alloc b).alloc c).alloc d) := (below_three w a b c).alloc (by simp; omega) _
set_option maxHeartbeats 6400000 in
theorem isPlate_any (h : Ht) (w : World) : Calls Try.prog 29 #[hv h] w fun e w' => e = .returned (.bool (htOk h)) ∧ Below w.heap.size w w' := by
  have HR := htOk_parts h
  obtain ⟨g, l, a, m⟩ := h
  simp only at *
  have U1 : Hid (∀ (W : World) b, b = W.heap.size → Calls Try.prog 24 #[.int .i64 100000, .slice (some ⟨b, 0, none⟩) 1 1] (W.alloc (.cells #[.int .i64 g] 3)) fun e w' => e = .returned (.bool (inR 0 100000 g)) ∧ w' = W.alloc (.cells #[.int .i64 g] 3)) := upA _ _
  have U2 : Hid (∀ (W : World) b, b = W.heap.size → Calls Try.prog 24 #[.int .i64 512, .slice (some ⟨b, 0, none⟩) 1 1] (W.alloc (.cells #[.int .i64 l] 3)) fun e w' => e = .returned (.bool (inR 0 512 l)) ∧ w' = W.alloc (.cells #[.int .i64 l] 3)) := upA _ _
  have U3 : Hid (∀ (W : World) b, b = W.heap.size → Calls Try.prog 24 #[.int .i64 1000000, .slice (some ⟨b, 0, none⟩) 2 2] (W.alloc (.cells #[.int .i64 a, .int .i64 m] 3)) fun e w' => e = .returned (.bool (inR 0 1000000 a && inR 0 1000000 m)) ∧ w' = W.alloc (.cells #[.int .i64 a, .int .i64 m] 3)) := upB _ _ _
  generalize inR 0 100000 g = b1 at *
  generalize inR 0 512 l = b2 at *
  generalize (inR 0 1000000 a && inR 0 1000000 m) = b3 at *
  have HR : Hid (htOk ⟨g, l, a, m⟩ = (b1 && b2 && b3 && decide (a ≤ m))) := HR
  go_enter Try.func29, Try.ntmps29
  go_wp2_with fail
  refine Calls.mono (U1.out _ _ (by simp)) ?_
  rintro e w1 ⟨rfl, rfl⟩
  cases b1 with
  | false =>
    go_wp2
    go_ret
    exact ⟨ret_bool (by rw [HR.out]; rfl), below_two _ _ _⟩
  | true =>
    go_wp2_with fail
    refine Calls.mono (U2.out _ _ (by simp)) ?_
    rintro e w1 ⟨rfl, rfl⟩
    cases b2 with
    | false =>
      go_wp2
      go_ret
      exact ⟨ret_bool (by rw [HR.out]; rfl), below_three _ _ _ _⟩
    | true =>
      go_wp2_with fail
      refine Calls.mono (U3.out _ _ (by simp)) ?_
      rintro e w1 ⟨rfl, rfl⟩
      cases b3 with
      | false =>
        go_wp2
        go_ret
        exact ⟨ret_bool (by rw [HR.out]; rfl), below_four _ _ _ _ _⟩
      | true =>
        go_wp2
        go_ret
        exact ⟨ret_bool (by rw [HR.out]; simp), below_four _ _ _ _ _⟩
/-- What is wrong with a plate, or with heats. -/
def refH (h : Ht) (b : Bool) : Int := if htOk h then if b then 0 else 2 else 2
set_option maxHeartbeats 6400000 in
theorem refusal_any (h : Ht) (ao : Option Addr) (n cap : Nat) (l : List Int) (hl : l.length = n) (hn : n ≤ 1000) (w : World) (hr : RdI w ao l) :
    Calls Try.prog 20 #[hv h, .slice ao n cap] w fun e w' => e = .returned (.int .i64 (refH h (upTo 1000000 l))) ∧ Below w.heap.size w w' := by
  have HP : Hid (∀ W, Calls Try.prog 29 #[hv h] W fun e w' => e = .returned (.bool (htOk h)) ∧ Below W.heap.size W w') := isPlate_any h
  have HU : Hid (∀ W, RdI W ao l → Calls Try.prog 24 #[.int .i64 1000000, .slice ao n cap] W fun e w' => e = .returned (.bool (upTo 1000000 l)) ∧ w' = W) := fun W h => by subst hl; exact areUpTo_any _ ao cap l W h hn
  have HB0 : Hid (Below w.heap.size w (w.alloc (ho h))) := (Below.refl _ _).alloc (Nat.le_refl _) _
  have HR : Hid (RdI w ao l) := hr
  have HE : Hid (refH h (upTo 1000000 l) = if htOk h then if upTo 1000000 l then 0 else 2 else 2) := rfl
  clear hr hl
  generalize upTo 1000000 l = b at *
  go_enter Try.func20, Try.ntmps20
  go_wp2_with fail
  refine Calls.mono (HP.out _) ?_
  rintro e w1 ⟨rfl, hb1⟩
  have HB1 : Hid (Below w.heap.size w w1) := HB0.out.trans (hb1.mono HB0.out.size)
  clear hb1
  cases hok : htOk h with
  | false =>
    rw [hok] at HE
    go_wp2
    go_ret
    exact ⟨ret_int HE.out.symm, HB1.out⟩
  | true =>
    rw [hok] at HE
    go_wp2_with fail
    refine Calls.mono (HU.out _ (HR.out.later HB1.out)) ?_
    rintro e w2 ⟨rfl, rfl⟩
    cases b with
    | false =>
      go_wp2
      go_ret
      exact ⟨ret_int HE.out.symm, HB1.out⟩
    | true =>
      go_wp2
      go_ret
      exact ⟨ret_int HE.out.symm, HB1.out⟩
end Go.Proofs.Ytjpjkkjklghpgaa
