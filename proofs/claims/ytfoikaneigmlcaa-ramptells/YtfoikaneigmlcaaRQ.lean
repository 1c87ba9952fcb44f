/- RampTells walked. -/
import Derived.Test.YtfoikaneigmlcaaRP
import Derived.Test.YtfoikaneigmlcaaRL
namespace Go.Proofs.Ytfoikaneigmlcaa
open Go.RowKit

attribute [local go_sem] Oper.semAt_some
set_option maxHeartbeats 6400000 in
set_option maxRecDepth 100000 in
theorem tells_range (r : Rp) (n : Int) (t : Int) (w : World) (hr : rpOk r = false) :
    Calls Try.prog 3 #[rv r, .int .i64 n, .int .i64 t] w fun e w' => e = .returned (.bool true) ∧ Below w.heap.size w w' := by
  have H6 : Hid (∀ W, Calls Try.prog 6 #[rv r, .int .i64 n] W fun e w' => e = .returned (.tuple #[.slice none 0 0, .int .i64 2]) ∧ Below W.heap.size W w') := fun W => (speedsF_no r n W (by rw [refR_range hr]; decide)).mono fun e w' ⟨h1, h2⟩ => ⟨by rw [h1, refR_range hr], h2⟩
  have H7 : Hid (∀ W, Calls Try.prog 7 #[rv r, .int .i64 n] W fun e w' => e = .returned (.tuple #[.slice none 0 0, .int .i64 2]) ∧ Below W.heap.size W w') := fun W => (ticks_no r n W (by rw [refR_range hr]; decide)).mono fun e w' ⟨h1, h2⟩ => ⟨by rw [h1, refR_range hr], h2⟩
  have H8 : Hid (∀ W, Calls Try.prog 8 #[rv r, .int .i64 n] W fun e w' => e = .returned (.tuple #[.int .i64 0, .int .i64 2]) ∧ Below W.heap.size W w') := fun W => (total_no r n W (by rw [refR_range hr]; decide)).mono fun e w' ⟨h1, h2⟩ => ⟨by rw [h1, refR_range hr], h2⟩
  have H9 : Hid (∀ W, Calls Try.prog 9 #[rv r, .int .i64 n, .int .i64 t] W fun e w' => e = .returned (.tuple #[.int .i64 0, .int .i64 2]) ∧ Below W.heap.size W w') := fun W => (at_no r n t W (by rw [refR_range hr]; decide)).mono fun e w' ⟨h1, h2⟩ => ⟨by rw [h1, refR_range hr], h2⟩
  have H10 : Hid (∀ W, Calls Try.prog 10 #[rv r, .int .i64 t] W fun e w' => e = .returned (.tuple #[.int .i64 0, .int .i64 2]) ∧ Below W.heap.size W w') := fun W => longest_no r t W hr
  have H11 : Hid (∀ W, Calls Try.prog 11 #[rv r] W fun e w' => e = .returned (.bool false) ∧ Below W.heap.size W w') := fun W => (rampMay_any r W).mono fun e w' ⟨h1, h2⟩ => ⟨by rw [h1, hr], h2⟩
  have HB1 : Hid (Below w.heap.size w (w.alloc (ro r))) := (Below.refl _ _).alloc (Nat.le_refl _) _
  have KA1 : Hid (Bk w.heap.size (rcl r) (w.alloc (ro r))) := Bk.new w (rcl r) 23 w.heap.size rfl
  clear hr
  go_enter Try.func3, Try.ntmps3
  go_wp2_with fail
  refine Calls.mono (H6.out _) ?_
  rintro e w2 ⟨rfl, hb⟩
  have HB2 : Hid (Below w.heap.size w w2) := HB1.out.trans (hb.mono HB1.out.size)
  have KA2 : Hid (Bk w.heap.size (rcl r) w2) := KA1.out.later hb
  clear hb
  have a0 := KA2.out.c 0 rfl
  have a1 := KA2.out.c 1 rfl
  have a2 := KA2.out.c 2 rfl
  have a3 := KA2.out.c 3 rfl
  go_wp2_with fail
  clear a0 a1 a2 a3
  refine Calls.mono (H7.out _) ?_
  rintro e w3 ⟨rfl, hb⟩
  have HB3 : Hid (Below w.heap.size w w3) := HB2.out.trans (hb.mono HB2.out.size)
  have KA3 : Hid (Bk w.heap.size (rcl r) w3) := KA2.out.later hb
  clear hb
  have a0 := KA3.out.c 0 rfl
  have a1 := KA3.out.c 1 rfl
  have a2 := KA3.out.c 2 rfl
  have a3 := KA3.out.c 3 rfl
  go_wp2_with fail
  clear a0 a1 a2 a3
  refine Calls.mono (H8.out _) ?_
  rintro e w4 ⟨rfl, hb⟩
  have HB4 : Hid (Below w.heap.size w w4) := HB3.out.trans (hb.mono HB3.out.size)
  have KA4 : Hid (Bk w.heap.size (rcl r) w4) := KA3.out.later hb
  clear hb
  have a0 := KA4.out.c 0 rfl
  have a1 := KA4.out.c 1 rfl
  have a2 := KA4.out.c 2 rfl
  have a3 := KA4.out.c 3 rfl
  go_wp2_with fail
  clear a0 a1 a2 a3
  refine Calls.mono (H9.out _) ?_
  rintro e w5 ⟨rfl, hb⟩
  have HB5 : Hid (Below w.heap.size w w5) := HB4.out.trans (hb.mono HB4.out.size)
  have KA5 : Hid (Bk w.heap.size (rcl r) w5) := KA4.out.later hb
  clear hb
  have a0 := KA5.out.c 0 rfl
  have a1 := KA5.out.c 1 rfl
  have a2 := KA5.out.c 2 rfl
  have a3 := KA5.out.c 3 rfl
  go_wp2_with fail
  clear a0 a1 a2 a3
  refine Calls.mono (H10.out _) ?_
  rintro e w6 ⟨rfl, hb⟩
  have HB6 : Hid (Below w.heap.size w w6) := HB5.out.trans (hb.mono HB5.out.size)
  have KA6 : Hid (Bk w.heap.size (rcl r) w6) := KA5.out.later hb
  clear hb
  have a0 := KA6.out.c 0 rfl
  have a1 := KA6.out.c 1 rfl
  have a2 := KA6.out.c 2 rfl
  have a3 := KA6.out.c 3 rfl
  go_wp2_with fail
  clear a0 a1 a2 a3
  refine Calls.mono (H11.out _) ?_
  rintro e w7 ⟨rfl, hb⟩
  have HB7 : Hid (Below w.heap.size w w7) := HB6.out.trans (hb.mono HB6.out.size)
  have KA7 : Hid (Bk w.heap.size (rcl r) w7) := KA6.out.later hb
  clear hb
  have a0 := KA7.out.c 0 rfl
  have a1 := KA7.out.c 1 rfl
  have a2 := KA7.out.c 2 rfl
  have a3 := KA7.out.c 3 rfl
  clear a0 a1 a2 a3
  go_wp2
  go_ret
  exact ⟨rfl, HB7.out⟩
set_option maxHeartbeats 6400000 in
set_option maxRecDepth 100000 in
theorem tells_count_neg (r : Rp) (n : Int) (t : Int) (w : World) (hr : rpOk r = true) (hn : n < 0 ∨ 20000 < n) (ht : t < 0) :
    Calls Try.prog 3 #[rv r, .int .i64 n, .int .i64 t] w fun e w' => e = .returned (.bool true) ∧ Below w.heap.size w w' := by
  have H6 : Hid (∀ W, Calls Try.prog 6 #[rv r, .int .i64 n] W fun e w' => e = .returned (.tuple #[.slice none 0 0, .int .i64 7]) ∧ Below W.heap.size W w') := fun W => (speedsF_no r n W (by rw [refR_count hr hn]; decide)).mono fun e w' ⟨h1, h2⟩ => ⟨by rw [h1, refR_count hr hn], h2⟩
  have H7 : Hid (∀ W, Calls Try.prog 7 #[rv r, .int .i64 n] W fun e w' => e = .returned (.tuple #[.slice none 0 0, .int .i64 7]) ∧ Below W.heap.size W w') := fun W => (ticks_no r n W (by rw [refR_count hr hn]; decide)).mono fun e w' ⟨h1, h2⟩ => ⟨by rw [h1, refR_count hr hn], h2⟩
  have H8 : Hid (∀ W, Calls Try.prog 8 #[rv r, .int .i64 n] W fun e w' => e = .returned (.tuple #[.int .i64 0, .int .i64 7]) ∧ Below W.heap.size W w') := fun W => (total_no r n W (by rw [refR_count hr hn]; decide)).mono fun e w' ⟨h1, h2⟩ => ⟨by rw [h1, refR_count hr hn], h2⟩
  have H9 : Hid (∀ W, Calls Try.prog 9 #[rv r, .int .i64 n, .int .i64 t] W fun e w' => e = .returned (.tuple #[.int .i64 0, .int .i64 7]) ∧ Below W.heap.size W w') := fun W => (at_no r n t W (by rw [refR_count hr hn]; decide)).mono fun e w' ⟨h1, h2⟩ => ⟨by rw [h1, refR_count hr hn], h2⟩
  have H10 : Hid (∀ W, Calls Try.prog 10 #[rv r, .int .i64 t] W fun e w' => e = .returned (.tuple #[.int .i64 0, .int .i64 8]) ∧ Below W.heap.size W w') := fun W => longest_neg r t W hr ht
  have H11 : Hid (∀ W, Calls Try.prog 11 #[rv r] W fun e w' => e = .returned (.bool true) ∧ Below W.heap.size W w') := fun W => (rampMay_any r W).mono fun e w' ⟨h1, h2⟩ => ⟨by rw [h1, hr], h2⟩
  have HB1 : Hid (Below w.heap.size w (w.alloc (ro r))) := (Below.refl _ _).alloc (Nat.le_refl _) _
  have KA1 : Hid (Bk w.heap.size (rcl r) (w.alloc (ro r))) := Bk.new w (rcl r) 23 w.heap.size rfl
  clear hr
  go_enter Try.func3, Try.ntmps3
  go_wp2_with fail
  refine Calls.mono (H6.out _) ?_
  rintro e w2 ⟨rfl, hb⟩
  have HB2 : Hid (Below w.heap.size w w2) := HB1.out.trans (hb.mono HB1.out.size)
  have KA2 : Hid (Bk w.heap.size (rcl r) w2) := KA1.out.later hb
  clear hb
  have a0 := KA2.out.c 0 rfl
  have a1 := KA2.out.c 1 rfl
  have a2 := KA2.out.c 2 rfl
  have a3 := KA2.out.c 3 rfl
  go_wp2_with fail
  clear a0 a1 a2 a3
  refine Calls.mono (H7.out _) ?_
  rintro e w3 ⟨rfl, hb⟩
  have HB3 : Hid (Below w.heap.size w w3) := HB2.out.trans (hb.mono HB2.out.size)
  have KA3 : Hid (Bk w.heap.size (rcl r) w3) := KA2.out.later hb
  clear hb
  have a0 := KA3.out.c 0 rfl
  have a1 := KA3.out.c 1 rfl
  have a2 := KA3.out.c 2 rfl
  have a3 := KA3.out.c 3 rfl
  go_wp2_with fail
  clear a0 a1 a2 a3
  refine Calls.mono (H8.out _) ?_
  rintro e w4 ⟨rfl, hb⟩
  have HB4 : Hid (Below w.heap.size w w4) := HB3.out.trans (hb.mono HB3.out.size)
  have KA4 : Hid (Bk w.heap.size (rcl r) w4) := KA3.out.later hb
  clear hb
  have a0 := KA4.out.c 0 rfl
  have a1 := KA4.out.c 1 rfl
  have a2 := KA4.out.c 2 rfl
  have a3 := KA4.out.c 3 rfl
  go_wp2_with fail
  clear a0 a1 a2 a3
  refine Calls.mono (H9.out _) ?_
  rintro e w5 ⟨rfl, hb⟩
  have HB5 : Hid (Below w.heap.size w w5) := HB4.out.trans (hb.mono HB4.out.size)
  have KA5 : Hid (Bk w.heap.size (rcl r) w5) := KA4.out.later hb
  clear hb
  have a0 := KA5.out.c 0 rfl
  have a1 := KA5.out.c 1 rfl
  have a2 := KA5.out.c 2 rfl
  have a3 := KA5.out.c 3 rfl
  go_wp2_with fail
  clear a0 a1 a2 a3
  refine Calls.mono (H10.out _) ?_
  rintro e w6 ⟨rfl, hb⟩
  have HB6 : Hid (Below w.heap.size w w6) := HB5.out.trans (hb.mono HB5.out.size)
  have KA6 : Hid (Bk w.heap.size (rcl r) w6) := KA5.out.later hb
  clear hb
  have a0 := KA6.out.c 0 rfl
  have a1 := KA6.out.c 1 rfl
  have a2 := KA6.out.c 2 rfl
  have a3 := KA6.out.c 3 rfl
  go_wp2_with fail
  clear a0 a1 a2 a3
  refine Calls.mono (H11.out _) ?_
  rintro e w7 ⟨rfl, hb⟩
  have HB7 : Hid (Below w.heap.size w w7) := HB6.out.trans (hb.mono HB6.out.size)
  have KA7 : Hid (Bk w.heap.size (rcl r) w7) := KA6.out.later hb
  clear hb
  have a0 := KA7.out.c 0 rfl
  have a1 := KA7.out.c 1 rfl
  have a2 := KA7.out.c 2 rfl
  have a3 := KA7.out.c 3 rfl
  clear a0 a1 a2 a3
  rcases hn with hn | hn
  · go_wp2
    go_ret
    exact ⟨rfl, HB7.out⟩
  · go_wp2
    go_ret
    exact ⟨rfl, HB7.out⟩
set_option maxHeartbeats 6400000 in
set_option maxRecDepth 100000 in
theorem tells_count (r : Rp) (n : Int) (t : Int) (w : World) (hr : rpOk r = true) (hn : n < 0 ∨ 20000 < n) (ht0 : 0 ≤ t) (ht1 : t ≤ 9223372036854775807) :
    Calls Try.prog 3 #[rv r, .int .i64 n, .int .i64 t] w fun e w' => e = .returned (.bool true) ∧ Below w.heap.size w w' := by
  have H6 : Hid (∀ W, Calls Try.prog 6 #[rv r, .int .i64 n] W fun e w' => e = .returned (.tuple #[.slice none 0 0, .int .i64 7]) ∧ Below W.heap.size W w') := fun W => (speedsF_no r n W (by rw [refR_count hr hn]; decide)).mono fun e w' ⟨h1, h2⟩ => ⟨by rw [h1, refR_count hr hn], h2⟩
  have H7 : Hid (∀ W, Calls Try.prog 7 #[rv r, .int .i64 n] W fun e w' => e = .returned (.tuple #[.slice none 0 0, .int .i64 7]) ∧ Below W.heap.size W w') := fun W => (ticks_no r n W (by rw [refR_count hr hn]; decide)).mono fun e w' ⟨h1, h2⟩ => ⟨by rw [h1, refR_count hr hn], h2⟩
  have H8 : Hid (∀ W, Calls Try.prog 8 #[rv r, .int .i64 n] W fun e w' => e = .returned (.tuple #[.int .i64 0, .int .i64 7]) ∧ Below W.heap.size W w') := fun W => (total_no r n W (by rw [refR_count hr hn]; decide)).mono fun e w' ⟨h1, h2⟩ => ⟨by rw [h1, refR_count hr hn], h2⟩
  have H9 : Hid (∀ W, Calls Try.prog 9 #[rv r, .int .i64 n, .int .i64 t] W fun e w' => e = .returned (.tuple #[.int .i64 0, .int .i64 7]) ∧ Below W.heap.size W w') := fun W => (at_no r n t W (by rw [refR_count hr hn]; decide)).mono fun e w' ⟨h1, h2⟩ => ⟨by rw [h1, refR_count hr hn], h2⟩
  have H10 : Hid (∀ W, Calls Try.prog 10 #[rv r, .int .i64 t] W fun e w' => e = .returned (.tuple #[.int .i64 ((doneN t (timesL r (addedL r 20000)) : Nat) : Int), .int .i64 0]) ∧ Below W.heap.size W w') := fun W => longest_yes r t W hr ht0 ht1
  have H12 : Hid (∀ W, Calls Try.prog 12 #[rv r, .int .i64 t] W fun e w' => e = .returned (.int .i64 ((doneN t (timesL r (addedL r 20000)) : Nat) : Int)) ∧ Below W.heap.size W w') := fun W => rampLongest_any r t W hr ht0 ht1
  have H11 : Hid (∀ W, Calls Try.prog 11 #[rv r] W fun e w' => e = .returned (.bool true) ∧ Below W.heap.size W w') := fun W => (rampMay_any r W).mono fun e w' ⟨h1, h2⟩ => ⟨by rw [h1, hr], h2⟩
  have HB1 : Hid (Below w.heap.size w (w.alloc (ro r))) := (Below.refl _ _).alloc (Nat.le_refl _) _
  have KA1 : Hid (Bk w.heap.size (rcl r) (w.alloc (ro r))) := Bk.new w (rcl r) 23 w.heap.size rfl
  clear hr
  generalize doneN t (timesL r (addedL r 20000)) = D at *
  go_enter Try.func3, Try.ntmps3
  go_wp2_with fail
  refine Calls.mono (H6.out _) ?_
  rintro e w2 ⟨rfl, hb⟩
  have HB2 : Hid (Below w.heap.size w w2) := HB1.out.trans (hb.mono HB1.out.size)
  have KA2 : Hid (Bk w.heap.size (rcl r) w2) := KA1.out.later hb
  clear hb
  have a0 := KA2.out.c 0 rfl
  have a1 := KA2.out.c 1 rfl
  have a2 := KA2.out.c 2 rfl
  have a3 := KA2.out.c 3 rfl
  go_wp2_with fail
  clear a0 a1 a2 a3
  refine Calls.mono (H7.out _) ?_
  rintro e w3 ⟨rfl, hb⟩
  have HB3 : Hid (Below w.heap.size w w3) := HB2.out.trans (hb.mono HB2.out.size)
  have KA3 : Hid (Bk w.heap.size (rcl r) w3) := KA2.out.later hb
  clear hb
  have a0 := KA3.out.c 0 rfl
  have a1 := KA3.out.c 1 rfl
  have a2 := KA3.out.c 2 rfl
  have a3 := KA3.out.c 3 rfl
  go_wp2_with fail
  clear a0 a1 a2 a3
  refine Calls.mono (H8.out _) ?_
  rintro e w4 ⟨rfl, hb⟩
  have HB4 : Hid (Below w.heap.size w w4) := HB3.out.trans (hb.mono HB3.out.size)
  have KA4 : Hid (Bk w.heap.size (rcl r) w4) := KA3.out.later hb
  clear hb
  have a0 := KA4.out.c 0 rfl
  have a1 := KA4.out.c 1 rfl
  have a2 := KA4.out.c 2 rfl
  have a3 := KA4.out.c 3 rfl
  go_wp2_with fail
  clear a0 a1 a2 a3
  refine Calls.mono (H9.out _) ?_
  rintro e w5 ⟨rfl, hb⟩
  have HB5 : Hid (Below w.heap.size w w5) := HB4.out.trans (hb.mono HB4.out.size)
  have KA5 : Hid (Bk w.heap.size (rcl r) w5) := KA4.out.later hb
  clear hb
  have a0 := KA5.out.c 0 rfl
  have a1 := KA5.out.c 1 rfl
  have a2 := KA5.out.c 2 rfl
  have a3 := KA5.out.c 3 rfl
  go_wp2_with fail
  clear a0 a1 a2 a3
  refine Calls.mono (H10.out _) ?_
  rintro e w6 ⟨rfl, hb⟩
  have HB6 : Hid (Below w.heap.size w w6) := HB5.out.trans (hb.mono HB5.out.size)
  have KA6 : Hid (Bk w.heap.size (rcl r) w6) := KA5.out.later hb
  clear hb
  have a0 := KA6.out.c 0 rfl
  have a1 := KA6.out.c 1 rfl
  have a2 := KA6.out.c 2 rfl
  have a3 := KA6.out.c 3 rfl
  go_wp2_with fail
  clear a0 a1 a2 a3
  refine Calls.mono (H11.out _) ?_
  rintro e w7 ⟨rfl, hb⟩
  have HB7 : Hid (Below w.heap.size w w7) := HB6.out.trans (hb.mono HB6.out.size)
  have KA7 : Hid (Bk w.heap.size (rcl r) w7) := KA6.out.later hb
  clear hb
  have a0 := KA7.out.c 0 rfl
  have a1 := KA7.out.c 1 rfl
  have a2 := KA7.out.c 2 rfl
  have a3 := KA7.out.c 3 rfl
  go_wp2_with fail
  clear a0 a1 a2 a3
  refine Calls.mono (H12.out _) ?_
  rintro e w8 ⟨rfl, hb⟩
  have HB8 : Hid (Below w.heap.size w w8) := HB7.out.trans (hb.mono HB7.out.size)
  have KA8 : Hid (Bk w.heap.size (rcl r) w8) := KA7.out.later hb
  clear hb
  have a0 := KA8.out.c 0 rfl
  have a1 := KA8.out.c 1 rfl
  have a2 := KA8.out.c 2 rfl
  have a3 := KA8.out.c 3 rfl
  clear a0 a1 a2 a3
  rcases hn with hn | hn
  · go_wp2
    go_ret
    exact ⟨rfl, HB8.out⟩
  · go_wp2
    go_ret
    exact ⟨rfl, HB8.out⟩
set_option maxHeartbeats 6400000 in
set_option maxRecDepth 100000 in
theorem tells_yes_neg (r : Rp) (n : Nat) (t : Int) (w : World) (hr : rpOk r = true) (hn : n ≤ 20000) (ht : t < 0) :
    Calls Try.prog 3 #[rv r, .int .i64 (n : Int), .int .i64 t] w fun e w' => e = .returned (.bool true) ∧ Below w.heap.size w w' := by
  have H6 : Hid (∀ W, Calls Try.prog 6 #[rv r, .int .i64 (n : Int)] W fun e w' => ∃ G, e = .returned (.tuple #[.slice (some ⟨G, 0, none⟩) n n, .int .i64 0]) ∧ W.heap.size ≤ G ∧ Ints (speedsL r n) G w' ∧ Below W.heap.size W w') := fun W => speedsF_yes r n W hr hn
  have H7 : Hid (∀ W, Calls Try.prog 7 #[rv r, .int .i64 (n : Int)] W fun e w' => ∃ G, e = .returned (.tuple #[.slice (some ⟨G, 0, none⟩) n n, .int .i64 0]) ∧ W.heap.size ≤ G ∧ Ints (timesL r (speedsL r n)) G w' ∧ Below W.heap.size W w') := fun W => ticks_yes r n W hr hn
  have H8 : Hid (∀ W, Calls Try.prog 8 #[rv r, .int .i64 (n : Int)] W fun e w' => e = .returned (.tuple #[.int .i64 (totR r n), .int .i64 0]) ∧ Below W.heap.size W w') := fun W => total_yes r n W hr hn
  have H9 : Hid (∀ W, Calls Try.prog 9 #[rv r, .int .i64 (n : Int), .int .i64 t] W fun e w' => e = .returned (.tuple #[.int .i64 0, .int .i64 8]) ∧ Below W.heap.size W w') := fun W => at_neg r n t W (refR_ok hr (by omega) (by omega)) ht
  have H10 : Hid (∀ W, Calls Try.prog 10 #[rv r, .int .i64 t] W fun e w' => e = .returned (.tuple #[.int .i64 0, .int .i64 8]) ∧ Below W.heap.size W w') := fun W => longest_neg r t W hr ht
  have H11 : Hid (∀ W, Calls Try.prog 11 #[rv r] W fun e w' => e = .returned (.bool true) ∧ Below W.heap.size W w') := fun W => (rampMay_any r W).mono fun e w' ⟨h1, h2⟩ => ⟨by rw [h1, hr], h2⟩
  have H13 : Hid (∀ W, Calls Try.prog 13 #[rv r, .int .i64 (n : Int)] W fun e w' => ∃ G, e = .returned (.slice (some ⟨G, 0, none⟩) n n) ∧ W.heap.size ≤ G ∧ Ints (speedsL r n) G w' ∧ Below W.heap.size W w') := fun W => rampSpeeds_any r n W hr hn
  have H14 : Hid (∀ G H W, Ints (speedsL r n) G W → Ints (speedsL r n) H W → Calls Try.prog 14 #[.slice (some ⟨G, 0, none⟩) n n, .slice (some ⟨H, 0, none⟩) n n] W fun e w' => e = .returned (.bool true) ∧ Below W.heap.size W w') := fun G H W h1 h2 => sameInts_any (speedsL r n) G H n n n W (speedsL_length r n) hn h1 h2
  have H15 : Hid (∀ W, Calls Try.prog 15 #[rv r, .int .i64 (n : Int)] W fun e w' => e = .returned (.int .i64 (totR r n)) ∧ Below W.heap.size W w') := fun W => rampTotal_any r n W hr hn
  have HR : Hid (rpOk r = true) := hr
  have HB1 : Hid (Below w.heap.size w (w.alloc (ro r))) := (Below.refl _ _).alloc (Nat.le_refl _) _
  have KA1 : Hid (Bk w.heap.size (rcl r) (w.alloc (ro r))) := Bk.new w (rcl r) 23 w.heap.size rfl
  clear hr
  generalize totR r n = T at *
  go_enter Try.func3, Try.ntmps3
  go_wp2_with fail
  refine Calls.mono (H6.out _) ?_
  rintro e w2 ⟨P, rfl, hge, hin, hb⟩
  have HB2 : Hid (Below w.heap.size w w2) := HB1.out.trans (hb.mono HB1.out.size)
  have KA2 : Hid (Bk w.heap.size (rcl r) w2) := KA1.out.later hb
  have IP2 : Hid (Ints (speedsL r n) P w2) := hin
  clear hb hin hge
  have a0 := KA2.out.c 0 rfl
  have a1 := KA2.out.c 1 rfl
  have a2 := KA2.out.c 2 rfl
  have a3 := KA2.out.c 3 rfl
  go_wp2_with fail
  clear a0 a1 a2 a3
  refine Calls.mono (H7.out _) ?_
  rintro e w3 ⟨Q, rfl, hge, hin, hb⟩
  have HB3 : Hid (Below w.heap.size w w3) := HB2.out.trans (hb.mono HB2.out.size)
  have KA3 : Hid (Bk w.heap.size (rcl r) w3) := KA2.out.later hb
  have IP3 : Hid (Ints (speedsL r n) P w3) := IP2.out.later hb
  have IQ3 : Hid (Ints (timesL r (speedsL r n)) Q w3) := hin
  clear hb hin hge
  have a0 := KA3.out.c 0 rfl
  have a1 := KA3.out.c 1 rfl
  have a2 := KA3.out.c 2 rfl
  have a3 := KA3.out.c 3 rfl
  go_wp2_with fail
  clear a0 a1 a2 a3
  refine Calls.mono (H8.out _) ?_
  rintro e w4 ⟨rfl, hb⟩
  have HB4 : Hid (Below w.heap.size w w4) := HB3.out.trans (hb.mono HB3.out.size)
  have KA4 : Hid (Bk w.heap.size (rcl r) w4) := KA3.out.later hb
  have IP4 : Hid (Ints (speedsL r n) P w4) := IP3.out.later hb
  have IQ4 : Hid (Ints (timesL r (speedsL r n)) Q w4) := IQ3.out.later hb
  clear hb
  have a0 := KA4.out.c 0 rfl
  have a1 := KA4.out.c 1 rfl
  have a2 := KA4.out.c 2 rfl
  have a3 := KA4.out.c 3 rfl
  go_wp2_with fail
  clear a0 a1 a2 a3
  refine Calls.mono (H9.out _) ?_
  rintro e w5 ⟨rfl, hb⟩
  have HB5 : Hid (Below w.heap.size w w5) := HB4.out.trans (hb.mono HB4.out.size)
  have KA5 : Hid (Bk w.heap.size (rcl r) w5) := KA4.out.later hb
  have IP5 : Hid (Ints (speedsL r n) P w5) := IP4.out.later hb
  have IQ5 : Hid (Ints (timesL r (speedsL r n)) Q w5) := IQ4.out.later hb
  clear hb
  have a0 := KA5.out.c 0 rfl
  have a1 := KA5.out.c 1 rfl
  have a2 := KA5.out.c 2 rfl
  have a3 := KA5.out.c 3 rfl
  go_wp2_with fail
  clear a0 a1 a2 a3
  refine Calls.mono (H10.out _) ?_
  rintro e w6 ⟨rfl, hb⟩
  have HB6 : Hid (Below w.heap.size w w6) := HB5.out.trans (hb.mono HB5.out.size)
  have KA6 : Hid (Bk w.heap.size (rcl r) w6) := KA5.out.later hb
  have IP6 : Hid (Ints (speedsL r n) P w6) := IP5.out.later hb
  have IQ6 : Hid (Ints (timesL r (speedsL r n)) Q w6) := IQ5.out.later hb
  clear hb
  have a0 := KA6.out.c 0 rfl
  have a1 := KA6.out.c 1 rfl
  have a2 := KA6.out.c 2 rfl
  have a3 := KA6.out.c 3 rfl
  go_wp2_with fail
  clear a0 a1 a2 a3
  refine Calls.mono (H11.out _) ?_
  rintro e w7 ⟨rfl, hb⟩
  have HB7 : Hid (Below w.heap.size w w7) := HB6.out.trans (hb.mono HB6.out.size)
  have KA7 : Hid (Bk w.heap.size (rcl r) w7) := KA6.out.later hb
  have IP7 : Hid (Ints (speedsL r n) P w7) := IP6.out.later hb
  have IQ7 : Hid (Ints (timesL r (speedsL r n)) Q w7) := IQ6.out.later hb
  clear hb
  have a0 := KA7.out.c 0 rfl
  have a1 := KA7.out.c 1 rfl
  have a2 := KA7.out.c 2 rfl
  have a3 := KA7.out.c 3 rfl
  go_wp2_with fail
  clear a0 a1 a2 a3
  refine Calls.mono (H13.out _) ?_
  rintro e w8 ⟨X, rfl, hge, hin, hb⟩
  have HB8 : Hid (Below w.heap.size w w8) := HB7.out.trans (hb.mono HB7.out.size)
  have KA8 : Hid (Bk w.heap.size (rcl r) w8) := KA7.out.later hb
  have IP8 : Hid (Ints (speedsL r n) P w8) := IP7.out.later hb
  have IQ8 : Hid (Ints (timesL r (speedsL r n)) Q w8) := IQ7.out.later hb
  have IX8 : Hid (Ints (speedsL r n) X w8) := hin
  clear hb hin hge
  have a0 := KA8.out.c 0 rfl
  have a1 := KA8.out.c 1 rfl
  have a2 := KA8.out.c 2 rfl
  have a3 := KA8.out.c 3 rfl
  go_wp2_with fail
  clear a0 a1 a2 a3
  refine Calls.mono (H14.out P X _ IP8.out IX8.out) ?_
  rintro e w9 ⟨rfl, hb⟩
  have HB9 : Hid (Below w.heap.size w w9) := HB8.out.trans (hb.mono HB8.out.size)
  have KA9 : Hid (Bk w.heap.size (rcl r) w9) := KA8.out.later hb
  have IP9 : Hid (Ints (speedsL r n) P w9) := IP8.out.later hb
  have IQ9 : Hid (Ints (timesL r (speedsL r n)) Q w9) := IQ8.out.later hb
  have IX9 : Hid (Ints (speedsL r n) X w9) := IX8.out.later hb
  clear hb
  have a0 := KA9.out.c 0 rfl
  have a1 := KA9.out.c 1 rfl
  have a2 := KA9.out.c 2 rfl
  have a3 := KA9.out.c 3 rfl
  go_wp2_with fail
  clear a0 a1 a2 a3
  refine Calls.mono (H15.out _) ?_
  rintro e w10 ⟨rfl, hb⟩
  have HB10 : Hid (Below w.heap.size w w10) := HB9.out.trans (hb.mono HB9.out.size)
  have KA10 : Hid (Bk w.heap.size (rcl r) w10) := KA9.out.later hb
  have IP10 : Hid (Ints (speedsL r n) P w10) := IP9.out.later hb
  have IQ10 : Hid (Ints (timesL r (speedsL r n)) Q w10) := IQ9.out.later hb
  have IX10 : Hid (Ints (speedsL r n) X w10) := IX9.out.later hb
  clear hb
  have a0 := KA10.out.c 0 rfl
  have a1 := KA10.out.c 1 rfl
  have a2 := KA10.out.c 2 rfl
  have a3 := KA10.out.c 3 rfl
  go_wp2_with fail
  clear a0 a1 a2 a3
  go_loopw [18] (fun i wr => ∃ k : Nat, k ≤ n ∧ i = .int .i64 ((k : Nat) : Int) ∧ ∃ q, wr = w10.drewN q) (fun i _ => n - (intOf i).toNat)
  case atStart => exact ⟨0, Nat.zero_le _, rfl, 0, rfl⟩
  case round =>
    obtain ⟨k, hk, rfl, q, rfl⟩ := hrel
    by_cases hlt : k < n
    · have hkl : k < (speedsL r n).length := by rw [speedsL_length]; exact hlt
      have hkt : k < (timesL r (speedsL r n)).length := by rw [timesL_length]; exact hkl
      have c1 := IQ10.out.2 k hkt
      have c2 := IX10.out.2 k hkl
      have hx1 := speedsL_pos HR.out hn _ (List.getElem_mem hkl)
      have hc := rpOk_iff.1 HR.out
      rw [timesL_at, Int.tdiv_eq_ediv_of_nonneg (by omega)] at c1
      generalize (speedsL r n)[k]'hkl = x at *
      have hd0 := Int.ediv_nonneg (a := r.c) (b := x) (by omega) (by omega)
      have hd1 := Int.ediv_le_self x (a := r.c) (by omega)
      have hc0 : 0 ≤ r.c := by omega
      have hc1 : r.c ≤ 100000000 := by omega
      have hx0 : x ≠ 0 := by omega
      have a0 := KA10.out.c 0 rfl
      clear hc
      go_wp2_with fail
      go_big_quiet (fail)
      go_wp2
      go_roundw
      case rel => exact ⟨k + 1, by omega, by go_num, q + nq, by first | rfl | simp⟩
      case measure => simp [intOf]; omega
    · have HBQ : Hid (Below w.heap.size w (w10.drewN q)) := below_drewN HB10.out q
      go_wp2
      go_ret
      exact ⟨rfl, HBQ.out⟩
set_option maxHeartbeats 6400000 in
set_option maxRecDepth 100000 in
theorem tells_yes (r : Rp) (n : Nat) (t : Int) (w : World) (hr : rpOk r = true) (hn : n ≤ 20000) (ht0 : 0 ≤ t) (ht1 : t ≤ 9223372036854775807) :
    Calls Try.prog 3 #[rv r, .int .i64 (n : Int), .int .i64 t] w fun e w' => e = .returned (.bool true) ∧ Below w.heap.size w w' := by
  have H6 : Hid (∀ W, Calls Try.prog 6 #[rv r, .int .i64 (n : Int)] W fun e w' => ∃ G, e = .returned (.tuple #[.slice (some ⟨G, 0, none⟩) n n, .int .i64 0]) ∧ W.heap.size ≤ G ∧ Ints (speedsL r n) G w' ∧ Below W.heap.size W w') := fun W => speedsF_yes r n W hr hn
  have H7 : Hid (∀ W, Calls Try.prog 7 #[rv r, .int .i64 (n : Int)] W fun e w' => ∃ G, e = .returned (.tuple #[.slice (some ⟨G, 0, none⟩) n n, .int .i64 0]) ∧ W.heap.size ≤ G ∧ Ints (timesL r (speedsL r n)) G w' ∧ Below W.heap.size W w') := fun W => ticks_yes r n W hr hn
  have H8 : Hid (∀ W, Calls Try.prog 8 #[rv r, .int .i64 (n : Int)] W fun e w' => e = .returned (.tuple #[.int .i64 (totR r n), .int .i64 0]) ∧ Below W.heap.size W w') := fun W => total_yes r n W hr hn
  have H9 : Hid (∀ W, Calls Try.prog 9 #[rv r, .int .i64 (n : Int), .int .i64 t] W fun e w' => e = .returned (.tuple #[.int .i64 ((doneN t (timesL r (speedsL r n)) : Nat) : Int), .int .i64 0]) ∧ Below W.heap.size W w') := fun W => at_yes r n t W hr hn ht0 ht1
  have H10 : Hid (∀ W, Calls Try.prog 10 #[rv r, .int .i64 t] W fun e w' => e = .returned (.tuple #[.int .i64 ((doneN t (timesL r (addedL r 20000)) : Nat) : Int), .int .i64 0]) ∧ Below W.heap.size W w') := fun W => longest_yes r t W hr ht0 ht1
  have H12 : Hid (∀ W, Calls Try.prog 12 #[rv r, .int .i64 t] W fun e w' => e = .returned (.int .i64 ((doneN t (timesL r (addedL r 20000)) : Nat) : Int)) ∧ Below W.heap.size W w') := fun W => rampLongest_any r t W hr ht0 ht1
  have H11 : Hid (∀ W, Calls Try.prog 11 #[rv r] W fun e w' => e = .returned (.bool true) ∧ Below W.heap.size W w') := fun W => (rampMay_any r W).mono fun e w' ⟨h1, h2⟩ => ⟨by rw [h1, hr], h2⟩
  have H13 : Hid (∀ W, Calls Try.prog 13 #[rv r, .int .i64 (n : Int)] W fun e w' => ∃ G, e = .returned (.slice (some ⟨G, 0, none⟩) n n) ∧ W.heap.size ≤ G ∧ Ints (speedsL r n) G w' ∧ Below W.heap.size W w') := fun W => rampSpeeds_any r n W hr hn
  have H14 : Hid (∀ G H W, Ints (speedsL r n) G W → Ints (speedsL r n) H W → Calls Try.prog 14 #[.slice (some ⟨G, 0, none⟩) n n, .slice (some ⟨H, 0, none⟩) n n] W fun e w' => e = .returned (.bool true) ∧ Below W.heap.size W w') := fun G H W h1 h2 => sameInts_any (speedsL r n) G H n n n W (speedsL_length r n) hn h1 h2
  have H15 : Hid (∀ W, Calls Try.prog 15 #[rv r, .int .i64 (n : Int)] W fun e w' => e = .returned (.int .i64 (totR r n)) ∧ Below W.heap.size W w') := fun W => rampTotal_any r n W hr hn
  have H16 : Hid (∀ W, Calls Try.prog 16 #[rv r, .int .i64 (n : Int), .int .i64 t] W fun e w' => e = .returned (.int .i64 ((doneN t (timesL r (speedsL r n)) : Nat) : Int)) ∧ Below W.heap.size W w') := fun W => rampAt_any r n t W hr hn ht0 ht1
  have HR : Hid (rpOk r = true) := hr
  have HB1 : Hid (Below w.heap.size w (w.alloc (ro r))) := (Below.refl _ _).alloc (Nat.le_refl _) _
  have KA1 : Hid (Bk w.heap.size (rcl r) (w.alloc (ro r))) := Bk.new w (rcl r) 23 w.heap.size rfl
  clear hr
  generalize doneN t (timesL r (addedL r 20000)) = D at *
  generalize doneN t (timesL r (speedsL r n)) = A at *
  generalize totR r n = T at *
  go_enter Try.func3, Try.ntmps3
  go_wp2_with fail
  refine Calls.mono (H6.out _) ?_
  rintro e w2 ⟨P, rfl, hge, hin, hb⟩
  have HB2 : Hid (Below w.heap.size w w2) := HB1.out.trans (hb.mono HB1.out.size)
  have KA2 : Hid (Bk w.heap.size (rcl r) w2) := KA1.out.later hb
  have IP2 : Hid (Ints (speedsL r n) P w2) := hin
  clear hb hin hge
  have a0 := KA2.out.c 0 rfl
  have a1 := KA2.out.c 1 rfl
  have a2 := KA2.out.c 2 rfl
  have a3 := KA2.out.c 3 rfl
  go_wp2_with fail
  clear a0 a1 a2 a3
  refine Calls.mono (H7.out _) ?_
  rintro e w3 ⟨Q, rfl, hge, hin, hb⟩
  have HB3 : Hid (Below w.heap.size w w3) := HB2.out.trans (hb.mono HB2.out.size)
  have KA3 : Hid (Bk w.heap.size (rcl r) w3) := KA2.out.later hb
  have IP3 : Hid (Ints (speedsL r n) P w3) := IP2.out.later hb
  have IQ3 : Hid (Ints (timesL r (speedsL r n)) Q w3) := hin
  clear hb hin hge
  have a0 := KA3.out.c 0 rfl
  have a1 := KA3.out.c 1 rfl
  have a2 := KA3.out.c 2 rfl
  have a3 := KA3.out.c 3 rfl
  go_wp2_with fail
  clear a0 a1 a2 a3
  refine Calls.mono (H8.out _) ?_
  rintro e w4 ⟨rfl, hb⟩
  have HB4 : Hid (Below w.heap.size w w4) := HB3.out.trans (hb.mono HB3.out.size)
  have KA4 : Hid (Bk w.heap.size (rcl r) w4) := KA3.out.later hb
  have IP4 : Hid (Ints (speedsL r n) P w4) := IP3.out.later hb
  have IQ4 : Hid (Ints (timesL r (speedsL r n)) Q w4) := IQ3.out.later hb
  clear hb
  have a0 := KA4.out.c 0 rfl
  have a1 := KA4.out.c 1 rfl
  have a2 := KA4.out.c 2 rfl
  have a3 := KA4.out.c 3 rfl
  go_wp2_with fail
  clear a0 a1 a2 a3
  refine Calls.mono (H9.out _) ?_
  rintro e w5 ⟨rfl, hb⟩
  have HB5 : Hid (Below w.heap.size w w5) := HB4.out.trans (hb.mono HB4.out.size)
  have KA5 : Hid (Bk w.heap.size (rcl r) w5) := KA4.out.later hb
  have IP5 : Hid (Ints (speedsL r n) P w5) := IP4.out.later hb
  have IQ5 : Hid (Ints (timesL r (speedsL r n)) Q w5) := IQ4.out.later hb
  clear hb
  have a0 := KA5.out.c 0 rfl
  have a1 := KA5.out.c 1 rfl
  have a2 := KA5.out.c 2 rfl
  have a3 := KA5.out.c 3 rfl
  go_wp2_with fail
  clear a0 a1 a2 a3
  refine Calls.mono (H10.out _) ?_
  rintro e w6 ⟨rfl, hb⟩
  have HB6 : Hid (Below w.heap.size w w6) := HB5.out.trans (hb.mono HB5.out.size)
  have KA6 : Hid (Bk w.heap.size (rcl r) w6) := KA5.out.later hb
  have IP6 : Hid (Ints (speedsL r n) P w6) := IP5.out.later hb
  have IQ6 : Hid (Ints (timesL r (speedsL r n)) Q w6) := IQ5.out.later hb
  clear hb
  have a0 := KA6.out.c 0 rfl
  have a1 := KA6.out.c 1 rfl
  have a2 := KA6.out.c 2 rfl
  have a3 := KA6.out.c 3 rfl
  go_wp2_with fail
  clear a0 a1 a2 a3
  refine Calls.mono (H11.out _) ?_
  rintro e w7 ⟨rfl, hb⟩
  have HB7 : Hid (Below w.heap.size w w7) := HB6.out.trans (hb.mono HB6.out.size)
  have KA7 : Hid (Bk w.heap.size (rcl r) w7) := KA6.out.later hb
  have IP7 : Hid (Ints (speedsL r n) P w7) := IP6.out.later hb
  have IQ7 : Hid (Ints (timesL r (speedsL r n)) Q w7) := IQ6.out.later hb
  clear hb
  have a0 := KA7.out.c 0 rfl
  have a1 := KA7.out.c 1 rfl
  have a2 := KA7.out.c 2 rfl
  have a3 := KA7.out.c 3 rfl
  go_wp2_with fail
  clear a0 a1 a2 a3
  refine Calls.mono (H12.out _) ?_
  rintro e w8 ⟨rfl, hb⟩
  have HB8 : Hid (Below w.heap.size w w8) := HB7.out.trans (hb.mono HB7.out.size)
  have KA8 : Hid (Bk w.heap.size (rcl r) w8) := KA7.out.later hb
  have IP8 : Hid (Ints (speedsL r n) P w8) := IP7.out.later hb
  have IQ8 : Hid (Ints (timesL r (speedsL r n)) Q w8) := IQ7.out.later hb
  clear hb
  have a0 := KA8.out.c 0 rfl
  have a1 := KA8.out.c 1 rfl
  have a2 := KA8.out.c 2 rfl
  have a3 := KA8.out.c 3 rfl
  go_wp2_with fail
  clear a0 a1 a2 a3
  refine Calls.mono (H13.out _) ?_
  rintro e w9 ⟨X, rfl, hge, hin, hb⟩
  have HB9 : Hid (Below w.heap.size w w9) := HB8.out.trans (hb.mono HB8.out.size)
  have KA9 : Hid (Bk w.heap.size (rcl r) w9) := KA8.out.later hb
  have IP9 : Hid (Ints (speedsL r n) P w9) := IP8.out.later hb
  have IQ9 : Hid (Ints (timesL r (speedsL r n)) Q w9) := IQ8.out.later hb
  have IX9 : Hid (Ints (speedsL r n) X w9) := hin
  clear hb hin hge
  have a0 := KA9.out.c 0 rfl
  have a1 := KA9.out.c 1 rfl
  have a2 := KA9.out.c 2 rfl
  have a3 := KA9.out.c 3 rfl
  go_wp2_with fail
  clear a0 a1 a2 a3
  refine Calls.mono (H14.out P X _ IP9.out IX9.out) ?_
  rintro e w10 ⟨rfl, hb⟩
  have HB10 : Hid (Below w.heap.size w w10) := HB9.out.trans (hb.mono HB9.out.size)
  have KA10 : Hid (Bk w.heap.size (rcl r) w10) := KA9.out.later hb
  have IP10 : Hid (Ints (speedsL r n) P w10) := IP9.out.later hb
  have IQ10 : Hid (Ints (timesL r (speedsL r n)) Q w10) := IQ9.out.later hb
  have IX10 : Hid (Ints (speedsL r n) X w10) := IX9.out.later hb
  clear hb
  have a0 := KA10.out.c 0 rfl
  have a1 := KA10.out.c 1 rfl
  have a2 := KA10.out.c 2 rfl
  have a3 := KA10.out.c 3 rfl
  go_wp2_with fail
  clear a0 a1 a2 a3
  refine Calls.mono (H15.out _) ?_
  rintro e w11 ⟨rfl, hb⟩
  have HB11 : Hid (Below w.heap.size w w11) := HB10.out.trans (hb.mono HB10.out.size)
  have KA11 : Hid (Bk w.heap.size (rcl r) w11) := KA10.out.later hb
  have IP11 : Hid (Ints (speedsL r n) P w11) := IP10.out.later hb
  have IQ11 : Hid (Ints (timesL r (speedsL r n)) Q w11) := IQ10.out.later hb
  have IX11 : Hid (Ints (speedsL r n) X w11) := IX10.out.later hb
  clear hb
  have a0 := KA11.out.c 0 rfl
  have a1 := KA11.out.c 1 rfl
  have a2 := KA11.out.c 2 rfl
  have a3 := KA11.out.c 3 rfl
  go_wp2_with fail
  clear a0 a1 a2 a3
  go_loopw [18] (fun i wr => ∃ k : Nat, k ≤ n ∧ i = .int .i64 ((k : Nat) : Int) ∧ ∃ q, wr = w11.drewN q) (fun i _ => n - (intOf i).toNat)
  case atStart => exact ⟨0, Nat.zero_le _, rfl, 0, rfl⟩
  case round =>
    obtain ⟨k, hk, rfl, q, rfl⟩ := hrel
    by_cases hlt : k < n
    · have hkl : k < (speedsL r n).length := by rw [speedsL_length]; exact hlt
      have hkt : k < (timesL r (speedsL r n)).length := by rw [timesL_length]; exact hkl
      have c1 := IQ11.out.2 k hkt
      have c2 := IX11.out.2 k hkl
      have hx1 := speedsL_pos HR.out hn _ (List.getElem_mem hkl)
      have hc := rpOk_iff.1 HR.out
      rw [timesL_at, Int.tdiv_eq_ediv_of_nonneg (by omega)] at c1
      generalize (speedsL r n)[k]'hkl = x at *
      have hd0 := Int.ediv_nonneg (a := r.c) (b := x) (by omega) (by omega)
      have hd1 := Int.ediv_le_self x (a := r.c) (by omega)
      have hc0 : 0 ≤ r.c := by omega
      have hc1 : r.c ≤ 100000000 := by omega
      have hx0 : x ≠ 0 := by omega
      have a0 := KA11.out.c 0 rfl
      clear hc
      go_wp2_with fail
      go_big_quiet (fail)
      go_wp2
      go_roundw
      case rel => exact ⟨k + 1, by omega, by go_num, q + nq, by first | rfl | simp⟩
      case measure => simp [intOf]; omega
    · have HBQ : Hid (Below w.heap.size w (w11.drewN q)) := below_drewN HB11.out q
      have a0 := KA11.out.c 0 rfl
      have a1 := KA11.out.c 1 rfl
      have a2 := KA11.out.c 2 rfl
      have a3 := KA11.out.c 3 rfl
      go_wp2_with fail
      refine Calls.mono (H16.out _) ?_
      rintro e w99 ⟨rfl, hb⟩
      have HBE : Hid (Below w.heap.size w w99) := HBQ.out.trans (hb.mono HBQ.out.size)
      clear hb a0 a1 a2 a3
      go_wp2
      go_ret
      exact ⟨rfl, HBE.out⟩
theorem tells_any (r : Rp) (n t : Int) (w : World) (_ : -9223372036854775808 ≤ n) (_ : n ≤ 9223372036854775807) (_ : -9223372036854775808 ≤ t) (ht1 : t ≤ 9223372036854775807) :
    Calls Try.prog 3 #[rv r, .int .i64 n, .int .i64 t] w fun e w' => e = .returned (.bool true) ∧ Below w.heap.size w w' := by
  cases hr : rpOk r with
  | false => exact tells_range r n t w hr
  | true =>
    by_cases hn : 0 ≤ n ∧ n ≤ 20000
    · obtain ⟨m, rfl⟩ : ∃ m : Nat, n = (m : Int) := ⟨n.toNat, by omega⟩
      by_cases ht : t < 0
      · exact tells_yes_neg r m t w hr (by omega) ht
      · exact tells_yes r m t w hr (by omega) (by omega) ht1
    · by_cases ht : t < 0
      · exact tells_count_neg r n t w hr (by omega) ht
      · exact tells_count r n t w hr (by omega) (by omega) ht1
end Go.Proofs.Ytfoikaneigmlcaa
