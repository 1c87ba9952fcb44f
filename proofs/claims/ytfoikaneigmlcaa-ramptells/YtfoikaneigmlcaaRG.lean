/- Refusals; At and Longest walked. -/
import Derived.Test.YtfoikaneigmlcaaRF
namespace Go.Proofs.Ytfoikaneigmlcaa
open Go.RowKit

attribute [local go_sem] Oper.semAt_some
theorem within_fn {xs : List Int} {z lo : Nat} {v : Value} (t : Int) (w : World) (h : FnV xs z lo v w) (h0 : 0 ≤ t) (ht : t ≤ 9223372036854775807) (hx : ∀ x ∈ xs, 0 ≤ x) (hn : xs.length ≤ 20000) :
    Calls Try.prog 21 #[.int .i64 t, v] w fun e w' => e = .returned (.int .i64 ((doneN t xs : Nat) : Int)) ∧ Below w.heap.size w w' := by
  obtain ⟨gf, lb, rfl, h⟩ := h
  exact within_any t w h h0 ht hx hn
theorem refR_ne {r : Rp} {n : Int} (h : refR r n ≠ 0) : refR r n = 2 ∨ refR r n = 7 := by
  unfold refR at h ⊢
  split
  · split
    · rename_i h1 h2; rw [if_pos h1, if_pos h2] at h; exact absurd rfl h
    · exact .inr rfl
  · exact .inl rfl
theorem refR_ok {r : Rp} {n : Int} (hr : rpOk r = true) (h0 : 0 ≤ n) (h1 : n ≤ 20000) : refR r n = 0 := by unfold refR; rw [if_pos hr, if_pos ⟨h0, h1⟩]
theorem refR_range {r : Rp} {n : Int} (hr : rpOk r = false) : refR r n = 2 := by unfold refR; rw [hr]; rfl
theorem refR_count {r : Rp} {n : Int} (hr : rpOk r = true) (h : n < 0 ∨ 20000 < n) : refR r n = 7 := by unfold refR; rw [if_pos hr, if_neg (by omega)]
set_option maxHeartbeats 1600000 in
theorem speedsF_no (r : Rp) (n : Int) (w : World) (h : refR r n ≠ 0) :
    Calls Try.prog 6 #[rv r, .int .i64 n] w fun e w' => e = .returned (.tuple #[.slice none 0 0, .int .i64 (refR r n)]) ∧ Below w.heap.size w w' := by
  have HF : Hid (∀ W, Calls Try.prog 18 #[rv r, .int .i64 n] W fun e w' => e = .returned (.int .i64 (refR r n)) ∧ Below W.heap.size W w') := fun W => refusal_any r n W
  have HB : Hid (Below w.heap.size w (w.alloc (ro r))) := (Below.refl _ _).alloc (Nat.le_refl _) _
  have hc := refR_ne h
  clear h
  generalize refR r n = e at *
  go_enter Try.func6, Try.ntmps6
  go_wp2_with fail
  refine Calls.mono (HF.out _) ?_
  rintro e w1 ⟨rfl, hb1⟩
  have HB1 : Hid (Below w.heap.size w w1) := HB.out.trans (hb1.mono HB.out.size)
  clear hb1
  rcases hc with rfl | rfl
  · go_wp2
    exact bodyPost_ret (v := .tuple #[.slice none 0 0, .int .i64 2]) (by simp [results, Try.results6, go_sem]) rfl ⟨rfl, HB1.out⟩
  · go_wp2
    exact bodyPost_ret (v := .tuple #[.slice none 0 0, .int .i64 7]) (by simp [results, Try.results6, go_sem]) rfl ⟨rfl, HB1.out⟩
set_option maxHeartbeats 1600000 in
theorem ticks_no (r : Rp) (n : Int) (w : World) (h : refR r n ≠ 0) :
    Calls Try.prog 7 #[rv r, .int .i64 n] w fun e w' => e = .returned (.tuple #[.slice none 0 0, .int .i64 (refR r n)]) ∧ Below w.heap.size w w' := by
  have HF : Hid (∀ W, Calls Try.prog 18 #[rv r, .int .i64 n] W fun e w' => e = .returned (.int .i64 (refR r n)) ∧ Below W.heap.size W w') := fun W => refusal_any r n W
  have HB : Hid (Below w.heap.size w (w.alloc (ro r))) := (Below.refl _ _).alloc (Nat.le_refl _) _
  have hc := refR_ne h
  clear h
  generalize refR r n = e at *
  go_enter Try.func7, Try.ntmps7
  go_wp2_with fail
  refine Calls.mono (HF.out _) ?_
  rintro e w1 ⟨rfl, hb1⟩
  have HB1 : Hid (Below w.heap.size w w1) := HB.out.trans (hb1.mono HB.out.size)
  clear hb1
  rcases hc with rfl | rfl
  · go_wp2
    exact bodyPost_ret (v := .tuple #[.slice none 0 0, .int .i64 2]) (by simp [results, Try.results7, go_sem]) rfl ⟨rfl, HB1.out⟩
  · go_wp2
    exact bodyPost_ret (v := .tuple #[.slice none 0 0, .int .i64 7]) (by simp [results, Try.results7, go_sem]) rfl ⟨rfl, HB1.out⟩
set_option maxHeartbeats 1600000 in
theorem total_no (r : Rp) (n : Int) (w : World) (h : refR r n ≠ 0) :
    Calls Try.prog 8 #[rv r, .int .i64 n] w fun e w' => e = .returned (.tuple #[.int .i64 0, .int .i64 (refR r n)]) ∧ Below w.heap.size w w' := by
  have HF : Hid (∀ W, Calls Try.prog 18 #[rv r, .int .i64 n] W fun e w' => e = .returned (.int .i64 (refR r n)) ∧ Below W.heap.size W w') := fun W => refusal_any r n W
  have HB : Hid (Below w.heap.size w (w.alloc (ro r))) := (Below.refl _ _).alloc (Nat.le_refl _) _
  have hc := refR_ne h
  clear h
  generalize refR r n = e at *
  go_enter Try.func8, Try.ntmps8
  go_wp2_with fail
  refine Calls.mono (HF.out _) ?_
  rintro e w1 ⟨rfl, hb1⟩
  have HB1 : Hid (Below w.heap.size w w1) := HB.out.trans (hb1.mono HB.out.size)
  clear hb1
  rcases hc with rfl | rfl
  · go_wp2
    exact bodyPost_ret (v := .tuple #[.int .i64 0, .int .i64 2]) (by simp [results, Try.results8, go_sem]) rfl ⟨rfl, HB1.out⟩
  · go_wp2
    exact bodyPost_ret (v := .tuple #[.int .i64 0, .int .i64 7]) (by simp [results, Try.results8, go_sem]) rfl ⟨rfl, HB1.out⟩
set_option maxHeartbeats 1600000 in
theorem at_no (r : Rp) (n : Int) (t : Int) (w : World) (h : refR r n ≠ 0) :
    Calls Try.prog 9 #[rv r, .int .i64 n, .int .i64 t] w fun e w' => e = .returned (.tuple #[.int .i64 0, .int .i64 (refR r n)]) ∧ Below w.heap.size w w' := by
  have HF : Hid (∀ W, Calls Try.prog 18 #[rv r, .int .i64 n] W fun e w' => e = .returned (.int .i64 (refR r n)) ∧ Below W.heap.size W w') := fun W => refusal_any r n W
  have HB : Hid (Below w.heap.size w (w.alloc (ro r))) := (Below.refl _ _).alloc (Nat.le_refl _) _
  have hc := refR_ne h
  clear h
  generalize refR r n = e at *
  go_enter Try.func9, Try.ntmps9
  go_wp2_with fail
  refine Calls.mono (HF.out _) ?_
  rintro e w1 ⟨rfl, hb1⟩
  have HB1 : Hid (Below w.heap.size w w1) := HB.out.trans (hb1.mono HB.out.size)
  clear hb1
  rcases hc with rfl | rfl
  · go_wp2
    exact bodyPost_ret (v := .tuple #[.int .i64 0, .int .i64 2]) (by simp [results, Try.results9, go_sem]) rfl ⟨rfl, HB1.out⟩
  · go_wp2
    exact bodyPost_ret (v := .tuple #[.int .i64 0, .int .i64 7]) (by simp [results, Try.results9, go_sem]) rfl ⟨rfl, HB1.out⟩
theorem at_neg (r : Rp) (n : Int) (t : Int) (w : World) (h : refR r n = 0) (ht : t < 0) :
    Calls Try.prog 9 #[rv r, .int .i64 n, .int .i64 t] w fun e w' => e = .returned (.tuple #[.int .i64 0, .int .i64 8]) ∧ Below w.heap.size w w' := by
  have HF : Hid (∀ W, Calls Try.prog 18 #[rv r, .int .i64 n] W fun e w' => e = .returned (.int .i64 0) ∧ Below W.heap.size W w') := fun W => (refusal_any r n W).mono fun e w' ⟨h1, h2⟩ => ⟨by rw [h1, h], h2⟩
  have HB : Hid (Below w.heap.size w (w.alloc (ro r))) := (Below.refl _ _).alloc (Nat.le_refl _) _
  clear h
  go_enter Try.func9, Try.ntmps9
  go_wp2_with fail
  refine Calls.mono (HF.out _) ?_
  rintro e w1 ⟨rfl, hb1⟩
  have HB1 : Hid (Below w.heap.size w w1) := HB.out.trans (hb1.mono HB.out.size)
  clear hb1
  go_wp2
  exact bodyPost_ret (v := .tuple #[.int .i64 0, .int .i64 8]) (by simp [results, Try.results9, go_sem]) rfl ⟨rfl, HB1.out⟩
theorem longest_no (r : Rp) (t : Int) (w : World) (h : rpOk r = false) :
    Calls Try.prog 10 #[rv r, .int .i64 t] w fun e w' => e = .returned (.tuple #[.int .i64 0, .int .i64 2]) ∧ Below w.heap.size w w' := by
  have HC : Hid (∀ W, Calls Try.prog 22 #[rv r] W fun e w' => e = .returned (.bool false) ∧ w' = W.alloc (ro r)) := fun W => (isRamp_any r W).mono fun e w' ⟨h1, h2⟩ => ⟨by rw [h1, h], h2⟩
  have HB : Hid (Below w.heap.size w ((w.alloc (ro r)).alloc (ro r))) := ((Below.refl _ _).alloc (Nat.le_refl _) _).alloc (by simp) _
  clear h
  go_enter Try.func10, Try.ntmps10
  go_wp2_with fail
  refine Calls.mono (HC.out _) ?_
  rintro e w1 ⟨rfl, rfl⟩
  go_wp2
  exact bodyPost_ret (v := .tuple #[.int .i64 0, .int .i64 2]) (by simp [results, Try.results10, go_sem]) rfl ⟨rfl, HB.out⟩
theorem longest_neg (r : Rp) (t : Int) (w : World) (h : rpOk r = true) (ht : t < 0) :
    Calls Try.prog 10 #[rv r, .int .i64 t] w fun e w' => e = .returned (.tuple #[.int .i64 0, .int .i64 8]) ∧ Below w.heap.size w w' := by
  have HC : Hid (∀ W, Calls Try.prog 22 #[rv r] W fun e w' => e = .returned (.bool true) ∧ w' = W.alloc (ro r)) := fun W => (isRamp_any r W).mono fun e w' ⟨h1, h2⟩ => ⟨by rw [h1, h], h2⟩
  have HB : Hid (Below w.heap.size w ((w.alloc (ro r)).alloc (ro r))) := ((Below.refl _ _).alloc (Nat.le_refl _) _).alloc (by simp) _
  clear h
  go_enter Try.func10, Try.ntmps10
  go_wp2_with fail
  refine Calls.mono (HC.out _) ?_
  rintro e w1 ⟨rfl, rfl⟩
  go_wp2
  exact bodyPost_ret (v := .tuple #[.int .i64 0, .int .i64 8]) (by simp [results, Try.results10, go_sem]) rfl ⟨rfl, HB.out⟩
set_option linter.unusedVariables false in
def atV (r : Rp) (n lo : Nat) (t : Int) (d : Nat) (v : Value) (w : World) : Prop :=
  match d with
  | 17 => v = .int .i64 t
  | 18 => v = rv r
  | 19 => v = rv r
  | 20 => v = .int .i64 (n : Int)
  | 21 => FnV (speedsL r n) 0 lo v w
  | 22 => FnV (timesL r (speedsL r n)) 3 lo v w
  | 23 => v = .int .i64 ((doneN t (timesL r (speedsL r n)) : Nat) : Int)
  | 6 => v = .int .i64 ((doneN t (timesL r (speedsL r n)) : Nat) : Int)
  | 7 => v = .int .i64 0
  | _ => True
set_option linter.unusedVariables false in
theorem atV_mono (r : Rp) (n lo : Nat) (t : Int) (d : Nat) (v : Value) (w w' : World) (h : atV r n lo t d v w) (hb : Below w.heap.size w w') : atV r n lo t d v w' := by
  unfold atV at h ⊢
  split <;> simp only [] at h <;> first | exact h | exact FnV.later h hb
set_option maxHeartbeats 6400000 in
set_option maxRecDepth 100000 in
theorem at_yes (r : Rp) (n : Nat) (t : Int) (w : World) (hr : rpOk r = true) (hn : n ≤ 20000) (h0 : 0 ≤ t) (ht : t ≤ 9223372036854775807) :
    Calls Try.prog 9 #[rv r, .int .i64 (n : Int), .int .i64 t] w fun e w' => e = .returned (.tuple #[.int .i64 ((doneN t (timesL r (speedsL r n)) : Nat) : Int), .int .i64 0]) ∧ Below w.heap.size w w' := by
  have HF : Hid (∀ W, Calls Try.prog 18 #[rv r, .int .i64 (n : Int)] W fun e w' => e = .returned (.int .i64 0) ∧ Below W.heap.size W w') := fun W => (refusal_any r n W).mono fun e w' ⟨h1, h2⟩ => ⟨by rw [h1, refR_ok hr (by omega) (by omega)], h2⟩
  have HS : Hid (∀ lo W, lo ≤ W.heap.size → Calls Try.prog 19 #[rv r, .int .i64 (n : Int)] W fun e w' => ∃ v, e = .returned v ∧ FnV (speedsL r n) 0 lo v w' ∧ Below W.heap.size W w') := fun lo W h => speeds_fn r n lo W hr hn h
  have HT : Hid (∀ lo W v, lo ≤ W.heap.size → FnV (speedsL r n) 0 lo v W → Calls Try.prog 20 #[rv r, v] W fun e w' => ∃ v, e = .returned v ∧ FnV (timesL r (speedsL r n)) 3 lo v w' ∧ Below W.heap.size W w') := fun lo W v h0 h => times_fn r W hr (speedsL_pos hr hn) h0 h
  have HW : Hid (∀ lo W v, FnV (timesL r (speedsL r n)) 3 lo v W → Calls Try.prog 21 #[.int .i64 t, v] W fun e w' => e = .returned (.int .i64 ((doneN t (timesL r (speedsL r n)) : Nat) : Int)) ∧ Below W.heap.size W w') := fun lo W v h => within_fn t W h h0 ht (fun x hx => (timesL_bd hr (speedsL_pos hr hn) x hx).1) (by rw [timesL_length, speedsL_length]; exact hn)
  have HB0 : Hid (Below w.heap.size w (w.alloc (ro r))) := (Below.refl _ _).alloc (Nat.le_refl _) _
  have KR0 : Hid (Bk w.heap.size (rcl r) (w.alloc (ro r))) := Bk.new w (rcl r) 23 w.heap.size rfl
  clear hr
  go_enter Try.func9, Try.ntmps9
  go_wp2_with fail
  refine Calls.mono (HF.out _) ?_
  rintro e w2 ⟨rfl, hb1⟩
  have HB2 : Hid (Below w.heap.size w w2) := HB0.out.trans (hb1.mono HB0.out.size)
  have KR : Hid (Bk w.heap.size (rcl r) w2) := KR0.out.later hb1
  have hs1 : w.heap.size < w2.heap.size := KR.out.1
  clear hb1
  go_wp2_with fail
  refine region_inv [false, false, false, false, false, false, true, true, false, false, false, false, false, false, false, false, false, true, true, true, true, true, true, true]
    [(17, [], none), (18, [], none), (19, [], none), (20, [], none), (21, [19, 20], none), (22, [18, 21], none), (23, [17, 22], none), (6, [23], none), (7, [], none)]
    (atV r n w2.heap.size t) (by kernel_rfl) (by kernel_rfl) (atV_mono r n w2.heap.size t) ?_ ?_
  · refine ⟨?_, ?_, ?_, ?_, ?_, ?_, ?_, ?_, ?_, trivial⟩
    · intro f w1 hb _ K hK
      simp only [over, overL, Nat.reduceAdd]
      go_simp
      exact hK _ _ ⟨_, rfl, by simp only [over, overL, Nat.reduceAdd]; rfl, Below.refl _ _⟩
    · intro f w1 hb _ K hK
      have q0 := cell_later hb (KR.out.c 0 rfl)
      have q1 := cell_later hb (KR.out.c 1 rfl)
      have q2 := cell_later hb (KR.out.c 2 rfl)
      have q3 := cell_later hb (KR.out.c 3 rfl)
      simp only [over, overL, Nat.reduceAdd]
      go_simp
      exact hK _ _ ⟨_, rfl, by simp only [over, overL, Nat.reduceAdd]; rfl, Below.refl _ _⟩
    · intro f w1 hb _ K hK
      have q0 := cell_later hb (KR.out.c 0 rfl)
      have q1 := cell_later hb (KR.out.c 1 rfl)
      have q2 := cell_later hb (KR.out.c 2 rfl)
      have q3 := cell_later hb (KR.out.c 3 rfl)
      simp only [over, overL, Nat.reduceAdd]
      go_simp
      exact hK _ _ ⟨_, rfl, by simp only [over, overL, Nat.reduceAdd]; rfl, Below.refl _ _⟩
    · intro f w1 hb _ K hK
      simp only [over, overL, Nat.reduceAdd]
      go_simp
      exact hK _ _ ⟨_, rfl, by simp only [over, overL, Nat.reduceAdd]; rfl, Below.refl _ _⟩
    · intro f w5 hb ⟨h19, h20, _⟩ K hK
      replace h19 : f 19 = _ := h19
      replace h20 : f 20 = _ := h20
      simp only [over, overL, Nat.reduceAdd, h19, h20]
      go_simp
      refine Calls.mono (HS.out w2.heap.size _ hb.size) ?_
      rintro e w9 ⟨v, rfl, h1, hb2⟩
      exact hK _ _ ⟨_, h1, by simp only [over, overL, Nat.reduceAdd, h19, h20]; rfl, hb2⟩
    · intro f w1 hb ⟨h18, h21, _⟩ K hK
      replace h18 : f 18 = _ := h18
      replace h21 : FnV (speedsL r n) 0 w2.heap.size (f 21) w1 := h21
      simp only [over, overL, Nat.reduceAdd, h18]
      go_simp
      refine Calls.mono (HT.out w2.heap.size _ _ hb.size h21) ?_
      rintro e w9 ⟨v, rfl, h1, hb2⟩
      exact hK _ _ ⟨_, h1, by simp only [over, overL, Nat.reduceAdd, h18]; rfl, hb2⟩
    · intro f w1 hb ⟨h17, h22, _⟩ K hK
      replace h17 : f 17 = _ := h17
      replace h22 : FnV (timesL r (speedsL r n)) 3 w2.heap.size (f 22) w1 := h22
      simp only [over, overL, Nat.reduceAdd, h17]
      go_simp
      refine Calls.mono (HW.out w2.heap.size _ _ h22) ?_
      rintro e w9 ⟨rfl, hb2⟩
      exact hK _ _ ⟨_, rfl, by simp only [over, overL, Nat.reduceAdd, h17]; rfl, hb2⟩
    · intro f w1 hb ⟨h23, _⟩ K hK
      replace h23 : f 23 = _ := h23
      simp only [over, overL, Nat.reduceAdd, h23]
      go_simp
      exact hK _ _ ⟨_, rfl, by simp only [over, overL, Nat.reduceAdd, h23]; rfl, Below.refl _ _⟩
    · intro f w1 hb _ K hK
      simp only [over, overL, Nat.reduceAdd]
      go_simp
      exact hK _ _ ⟨_, rfl, by simp only [over, overL, Nat.reduceAdd]; rfl, Below.refl _ _⟩
  intro f w3 hb hv
  have h6 : f 6 = _ := hv.2.2.2.2.2.2.2.1
  have h7 : f 7 = _ := hv.2.2.2.2.2.2.2.2.1
  have HB3 : Hid (Below w.heap.size w w3) := HB2.out.trans (hb.mono HB2.out.size)
  clear hv hb
  simp only [over_eq, overL, h6, h7, Nat.reduceAdd]
  go_wp2
  exact bodyPost_ret (v := .tuple #[_, .int .i64 0]) (by simp [results, Try.results9, go_sem]) rfl ⟨rfl, HB3.out⟩
set_option linter.unusedVariables false in
def loV (r : Rp) (xs : List Int) (lo : Nat) (t : Int) (d : Nat) (v : Value) (w : World) : Prop :=
  match d with
  | 11 => v = .int .i64 t
  | 12 => v = rv r
  | 13 => v = rv r
  | 14 => FnV (xs) 0 lo v w
  | 15 => FnV (timesL r (xs)) 3 lo v w
  | 16 => v = .int .i64 ((doneN t (timesL r (xs)) : Nat) : Int)
  | 4 => v = .int .i64 ((doneN t (timesL r (xs)) : Nat) : Int)
  | 5 => v = .int .i64 0
  | _ => True
set_option linter.unusedVariables false in
theorem loV_mono (r : Rp) (xs : List Int) (lo : Nat) (t : Int) (d : Nat) (v : Value) (w w' : World) (h : loV r xs lo t d v w) (hb : Below w.heap.size w w') : loV r xs lo t d v w' := by
  unfold loV at h ⊢
  split <;> simp only [] at h <;> first | exact h | exact FnV.later h hb
set_option maxHeartbeats 6400000 in
set_option maxRecDepth 100000 in
theorem longest_yes (r : Rp) (t : Int) (w : World) (hr : rpOk r = true) (h0 : 0 ≤ t) (ht : t ≤ 9223372036854775807) :
    Calls Try.prog 10 #[rv r, .int .i64 t] w fun e w' => e = .returned (.tuple #[.int .i64 ((doneN t (timesL r (addedL r 20000)) : Nat) : Int), .int .i64 0]) ∧ Below w.heap.size w w' := by
  have HF : Hid (∀ W, Calls Try.prog 22 #[rv r] W fun e w' => e = .returned (.bool true) ∧ Below W.heap.size W w') := fun W => (isRamp_any r W).mono fun e w' ⟨h1, h2⟩ => ⟨by rw [h1, hr], by rw [h2]; exact (Below.refl _ _).alloc (Nat.le_refl _) _⟩
  have HS : Hid (∀ lo W, lo ≤ W.heap.size → Calls Try.prog 23 #[rv r] W fun e w' => ∃ v, e = .returned v ∧ FnV (addedL r 20000) 0 lo v w' ∧ Below W.heap.size W w') := fun lo W h => added_fn r lo W hr h
  have HT : Hid (∀ lo W v, lo ≤ W.heap.size → FnV (addedL r 20000) 0 lo v W → Calls Try.prog 20 #[rv r, v] W fun e w' => ∃ v, e = .returned v ∧ FnV (timesL r (addedL r 20000)) 3 lo v w' ∧ Below W.heap.size W w') := fun lo W v h0 h => times_fn r W hr (addedL_pos hr (Nat.le_refl _)) h0 h
  have HW : Hid (∀ lo W v, FnV (timesL r (addedL r 20000)) 3 lo v W → Calls Try.prog 21 #[.int .i64 t, v] W fun e w' => e = .returned (.int .i64 ((doneN t (timesL r (addedL r 20000)) : Nat) : Int)) ∧ Below W.heap.size W w') := fun lo W v h => within_fn t W h h0 ht (fun x hx => (timesL_bd hr (addedL_pos hr (Nat.le_refl _)) x hx).1) (by rw [timesL_length, addedL_length]; exact Nat.le_refl _)
  have HB0 : Hid (Below w.heap.size w (w.alloc (ro r))) := (Below.refl _ _).alloc (Nat.le_refl _) _
  have KR0 : Hid (Bk w.heap.size (rcl r) (w.alloc (ro r))) := Bk.new w (rcl r) 23 w.heap.size rfl
  clear hr
  generalize addedL r 20000 = xs at *
  go_enter Try.func10, Try.ntmps10
  go_wp2_with fail
  refine Calls.mono (HF.out _) ?_
  rintro e w2 ⟨rfl, hb1⟩
  have HB2 : Hid (Below w.heap.size w w2) := HB0.out.trans (hb1.mono HB0.out.size)
  have KR : Hid (Bk w.heap.size (rcl r) w2) := KR0.out.later hb1
  have hs1 : w.heap.size < w2.heap.size := KR.out.1
  clear hb1
  go_wp2_with fail
  refine region_inv [false, false, false, false, true, true, false, false, false, false, false, true, true, true, true, true, true]
    [(11, [], none), (12, [], none), (13, [], none), (14, [13], none), (15, [12, 14], none), (16, [11, 15], none), (4, [16], none), (5, [], none)]
    (loV r xs w2.heap.size t) (by kernel_rfl) (by kernel_rfl) (loV_mono r xs w2.heap.size t) ?_ ?_
  · refine ⟨?_, ?_, ?_, ?_, ?_, ?_, ?_, ?_, trivial⟩
    · intro f w1 hb _ K hK
      simp only [over, overL, Nat.reduceAdd]
      go_simp
      exact hK _ _ ⟨_, rfl, by simp only [over, overL, Nat.reduceAdd]; rfl, Below.refl _ _⟩
    · intro f w1 hb _ K hK
      have q0 := cell_later hb (KR.out.c 0 rfl)
      have q1 := cell_later hb (KR.out.c 1 rfl)
      have q2 := cell_later hb (KR.out.c 2 rfl)
      have q3 := cell_later hb (KR.out.c 3 rfl)
      simp only [over, overL, Nat.reduceAdd]
      go_simp
      exact hK _ _ ⟨_, rfl, by simp only [over, overL, Nat.reduceAdd]; rfl, Below.refl _ _⟩
    · intro f w1 hb _ K hK
      have q0 := cell_later hb (KR.out.c 0 rfl)
      have q1 := cell_later hb (KR.out.c 1 rfl)
      have q2 := cell_later hb (KR.out.c 2 rfl)
      have q3 := cell_later hb (KR.out.c 3 rfl)
      simp only [over, overL, Nat.reduceAdd]
      go_simp
      exact hK _ _ ⟨_, rfl, by simp only [over, overL, Nat.reduceAdd]; rfl, Below.refl _ _⟩
    · intro f w1 hb ⟨h13, _⟩ K hK
      replace h13 : f 13 = _ := h13
      simp only [over, overL, Nat.reduceAdd, h13]
      go_simp
      refine Calls.mono (HS.out w2.heap.size _ hb.size) ?_
      rintro e w9 ⟨v, rfl, h1, hb2⟩
      exact hK _ _ ⟨_, h1, by simp only [over, overL, Nat.reduceAdd, h13]; rfl, hb2⟩
    · intro f w1 hb ⟨h12, h14, _⟩ K hK
      replace h12 : f 12 = _ := h12
      replace h14 : FnV (xs) 0 w2.heap.size (f 14) w1 := h14
      simp only [over, overL, Nat.reduceAdd, h12]
      go_simp
      refine Calls.mono (HT.out w2.heap.size _ _ hb.size h14) ?_
      rintro e w9 ⟨v, rfl, h1, hb2⟩
      exact hK _ _ ⟨_, h1, by simp only [over, overL, Nat.reduceAdd, h12]; rfl, hb2⟩
    · intro f w1 hb ⟨h11, h15, _⟩ K hK
      replace h11 : f 11 = _ := h11
      replace h15 : FnV (timesL r (xs)) 3 w2.heap.size (f 15) w1 := h15
      simp only [over, overL, Nat.reduceAdd, h11]
      go_simp
      refine Calls.mono (HW.out w2.heap.size _ _ h15) ?_
      rintro e w9 ⟨rfl, hb2⟩
      exact hK _ _ ⟨_, rfl, by simp only [over, overL, Nat.reduceAdd, h11]; rfl, hb2⟩
    · intro f w1 hb ⟨h16, _⟩ K hK
      replace h16 : f 16 = _ := h16
      simp only [over, overL, Nat.reduceAdd, h16]
      go_simp
      exact hK _ _ ⟨_, rfl, by simp only [over, overL, Nat.reduceAdd, h16]; rfl, Below.refl _ _⟩
    · intro f w1 hb _ K hK
      simp only [over, overL, Nat.reduceAdd]
      go_simp
      exact hK _ _ ⟨_, rfl, by simp only [over, overL, Nat.reduceAdd]; rfl, Below.refl _ _⟩
  intro f w3 hb hv
  have h4 : f 4 = _ := hv.2.2.2.2.2.2.1
  have h5 : f 5 = _ := hv.2.2.2.2.2.2.2.1
  have HB3 : Hid (Below w.heap.size w w3) := HB2.out.trans (hb.mono HB2.out.size)
  clear hv hb
  simp only [over_eq, overL, h4, h5, Nat.reduceAdd]
  go_wp2
  exact bodyPost_ret (v := .tuple #[_, .int .i64 0]) (by simp [results, Try.results10, go_sem]) rfl ⟨rfl, HB3.out⟩
end Go.Proofs.Ytfoikaneigmlcaa
