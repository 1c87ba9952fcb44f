/- Bang and Hold where they are refused, or need no tick. -/
import Derived.Test.YtjpjkkjklghpgaaHH
namespace Go.Proofs.Ytjpjkkjklghpgaa
open Go.RowKit

set_option maxHeartbeats 3200000 in
theorem bang_ref (h : Ht) (t g b n : Int) (w : World) (hno : (htOk h && (inR 0 1000000 t && inR 0 1000000 g)) = false) :
    Calls Try.prog 10 #[hv h, .int .i64 t, .int .i64 g, .int .i64 b, .int .i64 n] w fun e w' => e = .returned (sl2 (.slice none 0 0) 2) ∧ Below w.heap.size w w' := by
  have HF : Hid (∀ (W : World) q, q = W.heap.size → Calls Try.prog 20 #[hv h, .slice (some ⟨q, 0, none⟩) 2 2] (W.alloc (.cells #[.int .i64 t, .int .i64 g] 3)) fun e w' => e = .returned (.int .i64 2) ∧ Below W.heap.size W w') := fun W q hq => (ref2 h t g W q hq).mono fun e w' ⟨q1, q2⟩ => ⟨by rw [q1, refH_no (Bool.and_eq_false_iff.1 hno)], q2⟩
  have HB0 : Hid (Below w.heap.size w (w.alloc (ho h))) := (Below.refl _ _).alloc (Nat.le_refl _) _
  clear hno
  go_enter Try.func10, Try.ntmps10
  go_wp2_with fail
  refine Calls.mono (HF.out _ _ (by simp)) ?_
  rintro e w1 ⟨rfl, hb1⟩
  have HB1 : Hid (Below w.heap.size w w1) := HB0.out.trans (hb1.mono HB0.out.size)
  clear hb1
  go_wp2
  go_ret2
  exact ⟨rfl, HB1.out⟩
set_option maxHeartbeats 3200000 in
theorem bang_cnt (h : Ht) (t g b n : Int) (w : World) (hok : htOk h = true) (hin : (inR 0 1000000 t && inR 0 1000000 g) = true) (hno : (inR 0 100000 b && inR 0 5000 n) = false) :
    Calls Try.prog 10 #[hv h, .int .i64 t, .int .i64 g, .int .i64 b, .int .i64 n] w fun e w' => e = .returned (sl2 (.slice none 0 0) 7) ∧ Below w.heap.size w w' := by
  have HF : Hid (∀ (W : World) q, q = W.heap.size → Calls Try.prog 20 #[hv h, .slice (some ⟨q, 0, none⟩) 2 2] (W.alloc (.cells #[.int .i64 t, .int .i64 g] 3)) fun e w' => e = .returned (.int .i64 0) ∧ Below W.heap.size W w') := fun W q hq => (ref2 h t g W q hq).mono fun e w' ⟨q1, q2⟩ => ⟨by rw [q1, hin]; exact congrArg _ (congrArg _ (refH_ok hok)), q2⟩
  have HU1 : Hid (∀ (W : World) q, q = W.heap.size → Calls Try.prog 24 #[.int .i64 100000, .slice (some ⟨q, 0, none⟩) 1 1] (W.alloc (.cells #[.int .i64 b] 3)) fun e w' => e = .returned (.bool (inR 0 100000 b)) ∧ w' = W.alloc (.cells #[.int .i64 b] 3)) := upA _ _
  have HU2 : Hid (∀ (W : World) q, q = W.heap.size → Calls Try.prog 24 #[.int .i64 5000, .slice (some ⟨q, 0, none⟩) 1 1] (W.alloc (.cells #[.int .i64 n] 3)) fun e w' => e = .returned (.bool (inR 0 5000 n)) ∧ w' = W.alloc (.cells #[.int .i64 n] 3)) := upA _ _
  have HB0 : Hid (Below w.heap.size w (w.alloc (ho h))) := (Below.refl _ _).alloc (Nat.le_refl _) _
  have HNO : Hid ((inR 0 100000 b && inR 0 5000 n) = false) := hno
  clear hok hin hno
  generalize inR 0 100000 b = b1 at *
  generalize inR 0 5000 n = b2 at *
  go_enter Try.func10, Try.ntmps10
  go_wp2_with fail
  refine Calls.mono (HF.out _ _ (by simp)) ?_
  rintro e w1 ⟨rfl, hb1⟩
  have HB1 : Hid (Below w.heap.size w w1) := HB0.out.trans (hb1.mono HB0.out.size)
  clear hb1
  go_wp2_with fail
  refine Calls.mono (HU1.out _ _ rfl) ?_
  rintro e w2 ⟨rfl, rfl⟩
  cases b1 with
  | false =>
    go_wp2
    go_ret2
    exact ⟨rfl, HB1.out.alloc HB1.out.size _⟩
  | true =>
    cases b2 with
    | true => exact absurd HNO.out (by decide)
    | false =>
      go_wp2_with fail
      refine Calls.mono (HU2.out _ _ (by simp)) ?_
      rintro e w2 ⟨rfl, rfl⟩
      go_wp2
      go_ret2
      exact ⟨rfl, (HB1.out.alloc HB1.out.size _).alloc (by have := HB1.out.size; simp; omega) _⟩
set_option maxHeartbeats 6400000 in
set_option maxRecDepth 100000 in
theorem hold_ref (h : Ht) (t g b need most : Int) (w : World) (hno : (htOk h && (inR 0 1000000 t && inR 0 1000000 g)) = false) :
    Calls Try.prog 17 #[hv h, .int .i64 t, .int .i64 g, .int .i64 b, .int .i64 need, .int .i64 most] w fun e w' => e = .returned (three 0 0 2) ∧ Below w.heap.size w w' := by
  have HF : Hid (∀ (W : World) q, q = W.heap.size → Calls Try.prog 20 #[hv h, .slice (some ⟨q, 0, none⟩) 2 2] (W.alloc (.cells #[.int .i64 t, .int .i64 g] 3)) fun e w' => e = .returned (.int .i64 2) ∧ Below W.heap.size W w') := fun W q hq => (ref2 h t g W q hq).mono fun e w' ⟨q1, q2⟩ => ⟨by rw [q1, refH_no (Bool.and_eq_false_iff.1 hno)], q2⟩
  obtain ⟨w0, hw0⟩ : ∃ x, x = ((((w.alloc (ho h)).alloc (io need)).alloc (io 0)).alloc (io 0)).alloc (.cells #[.int .i64 0] 24) := ⟨_, rfl⟩
  have HB0 : Hid (Below w.heap.size w w0) := by show Below _ _ _; rw [hw0]; exact (below_four _ _ _ _ _).alloc (by simp; omega) _
  have KN : Hid (Bk (w.heap.size + 1) [.int .i64 need] w0) := by show Bk _ _ _; rw [hw0]; exact (Bk.new (w.alloc (ho h)) [.int .i64 need] 3 (w.heap.size + 1) (by simp)).later (below_three _ _ _ _)
  have KU : Hid (Bk (w.heap.size + 1 + 1) [.int .i64 0] w0) := by show Bk _ _ _; rw [hw0]; exact (Bk.new ((w.alloc (ho h)).alloc (io need)) [.int .i64 0] 3 (w.heap.size + 1 + 1) (by simp)).later (below_two _ _ _)
  have KX : Hid (Bk (w.heap.size + 1 + 1 + 1) [.int .i64 0] w0) := by show Bk _ _ _; rw [hw0]; exact (Bk.new (((w.alloc (ho h)).alloc (io need)).alloc (io 0)) [.int .i64 0] 3 (w.heap.size + 1 + 1 + 1) (by simp)).later ((Below.refl _ _).alloc (Nat.le_refl _) _)
  have KZ : Hid (Bk (w.heap.size + 1 + 1 + 1 + 1) [.int .i64 0] w0) := by show Bk _ _ _; rw [hw0]; exact Bk.new ((((w.alloc (ho h)).alloc (io need)).alloc (io 0)).alloc (io 0)) [.int .i64 0] 24 (w.heap.size + 1 + 1 + 1 + 1) (by simp)
  have hs0 : w0.heap.size = w.heap.size + 5 := by rw [hw0]; simp
  clear hno
  go_enter Try.func17, Try.ntmps17
  go_wp2_with fail
  try rw [← hw0]
  clear hw0
  obtain ⟨N, hN⟩ : ∃ N, N = w.heap.size + 1 := ⟨_, rfl⟩
  simp only [← hN] at KN KU KX KZ ⊢
  obtain ⟨U, hU⟩ : ∃ U, U = N + 1 := ⟨_, rfl⟩
  simp only [← hU] at KU KX KZ ⊢
  obtain ⟨X, hX⟩ : ∃ X, X = U + 1 := ⟨_, rfl⟩
  simp only [← hX] at KX KZ ⊢
  obtain ⟨Z, hZ⟩ : ∃ Z, Z = X + 1 := ⟨_, rfl⟩
  simp only [← hZ] at KZ ⊢
  have o1 : w.heap.size < N := by omega
  have o2 : N < U := by omega
  have o3 : U < X := by omega
  have o4 : X < Z := by omega
  have o5 : Z + 1 = w0.heap.size := by omega
  clear hN hU hX hZ hs0
  refine Calls.mono (HF.out _ _ o5) ?_
  rintro e w1 ⟨rfl, hb1⟩
  have HB1 : Hid (Below w.heap.size w w1) := HB0.out.trans (hb1.mono HB0.out.size)
  have KN1 : Hid (Bk N [.int .i64 need] w1) := KN.out.later hb1
  have KU1 : Hid (Bk U [.int .i64 0] w1) := KU.out.later hb1
  have KX1 : Hid (Bk X [.int .i64 0] w1) := KX.out.later hb1
  have KZ1 : Hid (Bk Z [.int .i64 0] w1) := KZ.out.later hb1
  have hs1 : w0.heap.size ≤ w1.heap.size := hb1.size
  clear hb1 KN KU KX KZ HB0
  have c1 := KU1.out.c 0 rfl
  have f1 := KU1.out.f 0 rfl
  have KXa := KX1.out.other (show X ≠ U by omega) 0 (.int .i64 0)
  have c2 := KXa.c 0 rfl
  have f2 := KXa.f 0 rfl
  have KZa := (KZ1.out.other (show Z ≠ U by omega) 0 (.int .i64 0)).other (show Z ≠ X by omega) 0 (.int .i64 0)
  have c3 := KZa.c 0 rfl
  have f3 := KZa.f 0 rfl
  clear KXa KZa
  go_wp2
  refine bodyPost_ret (v := three 0 0 2) (results_ccc Try.results17 _ _ _ rfl rfl rfl (load_int (((KU1.out.put 0 (.int .i64 0)).other (by omega) 0 (.int .i64 0)).other (by omega) 0 (.int .i64 2)))
    (load_int (((KX1.out.other (show X ≠ U by omega) 0 (.int .i64 0)).put 0 (.int .i64 0)).other (by omega) 0 (.int .i64 2))) (load_err (((KZ1.out.other (show Z ≠ U by omega) 0 (.int .i64 0)).other (show Z ≠ X by omega) 0 (.int .i64 0)).put 0 (.int .i64 2)))) rfl ?_
  exact ⟨rfl, ((HB1.out.setCell (by show w.heap.size ≤ U; omega) _).setCell (by show w.heap.size ≤ X; omega) _).setCell (by show w.heap.size ≤ Z; omega) _⟩
set_option maxHeartbeats 6400000 in
set_option maxRecDepth 100000 in
theorem hold_cnt (h : Ht) (t g b need most : Int) (w : World) (hok : htOk h = true) (hin : (inR 0 1000000 t && inR 0 1000000 g) = true) (hcn : (inR 0 100000 b && (inR 0 100000 need && inR 0 100000 most)) = false) :
    Calls Try.prog 17 #[hv h, .int .i64 t, .int .i64 g, .int .i64 b, .int .i64 need, .int .i64 most] w fun e w' => e = .returned (three 0 0 7) ∧ Below w.heap.size w w' := by
  have HF : Hid (∀ (W : World) q, q = W.heap.size → Calls Try.prog 20 #[hv h, .slice (some ⟨q, 0, none⟩) 2 2] (W.alloc (.cells #[.int .i64 t, .int .i64 g] 3)) fun e w' => e = .returned (.int .i64 0) ∧ Below W.heap.size W w') := fun W q hq => (ref2 h t g W q hq).mono fun e w' ⟨q1, q2⟩ => ⟨by rw [q1, hin]; exact congrArg _ (congrArg _ (refH_ok hok)), q2⟩
  have HU1 : Hid (∀ (W : World) q, q = W.heap.size → Calls Try.prog 24 #[.int .i64 100000, .slice (some ⟨q, 0, none⟩) 3 3] (W.alloc (.cells #[.int .i64 b, .int .i64 need, .int .i64 most] 3)) fun e w' => e = .returned (.bool false) ∧ w' = W.alloc (.cells #[.int .i64 b, .int .i64 need, .int .i64 most] 3)) := fun W q hq => (upC 100000 b need most W q hq).mono fun e w' ⟨q1, q2⟩ => ⟨by rw [q1, hcn], q2⟩
  obtain ⟨w0, hw0⟩ : ∃ x, x = ((((w.alloc (ho h)).alloc (io need)).alloc (io 0)).alloc (io 0)).alloc (.cells #[.int .i64 0] 24) := ⟨_, rfl⟩
  have HB0 : Hid (Below w.heap.size w w0) := by show Below _ _ _; rw [hw0]; exact (below_four _ _ _ _ _).alloc (by simp; omega) _
  have KN : Hid (Bk (w.heap.size + 1) [.int .i64 need] w0) := by show Bk _ _ _; rw [hw0]; exact (Bk.new (w.alloc (ho h)) [.int .i64 need] 3 (w.heap.size + 1) (by simp)).later (below_three _ _ _ _)
  have KU : Hid (Bk (w.heap.size + 1 + 1) [.int .i64 0] w0) := by show Bk _ _ _; rw [hw0]; exact (Bk.new ((w.alloc (ho h)).alloc (io need)) [.int .i64 0] 3 (w.heap.size + 1 + 1) (by simp)).later (below_two _ _ _)
  have KX : Hid (Bk (w.heap.size + 1 + 1 + 1) [.int .i64 0] w0) := by show Bk _ _ _; rw [hw0]; exact (Bk.new (((w.alloc (ho h)).alloc (io need)).alloc (io 0)) [.int .i64 0] 3 (w.heap.size + 1 + 1 + 1) (by simp)).later ((Below.refl _ _).alloc (Nat.le_refl _) _)
  have KZ : Hid (Bk (w.heap.size + 1 + 1 + 1 + 1) [.int .i64 0] w0) := by show Bk _ _ _; rw [hw0]; exact Bk.new ((((w.alloc (ho h)).alloc (io need)).alloc (io 0)).alloc (io 0)) [.int .i64 0] 24 (w.heap.size + 1 + 1 + 1 + 1) (by simp)
  have hs0 : w0.heap.size = w.heap.size + 5 := by rw [hw0]; simp
  clear hok hin hcn
  go_enter Try.func17, Try.ntmps17
  go_wp2_with fail
  try rw [← hw0]
  clear hw0
  obtain ⟨N, hN⟩ : ∃ N, N = w.heap.size + 1 := ⟨_, rfl⟩
  simp only [← hN] at KN KU KX KZ ⊢
  obtain ⟨U, hU⟩ : ∃ U, U = N + 1 := ⟨_, rfl⟩
  simp only [← hU] at KU KX KZ ⊢
  obtain ⟨X, hX⟩ : ∃ X, X = U + 1 := ⟨_, rfl⟩
  simp only [← hX] at KX KZ ⊢
  obtain ⟨Z, hZ⟩ : ∃ Z, Z = X + 1 := ⟨_, rfl⟩
  simp only [← hZ] at KZ ⊢
  have o1 : w.heap.size < N := by omega
  have o2 : N < U := by omega
  have o3 : U < X := by omega
  have o4 : X < Z := by omega
  have o5 : Z + 1 = w0.heap.size := by omega
  clear hN hU hX hZ hs0
  refine Calls.mono (HF.out _ _ o5) ?_
  rintro e w1 ⟨rfl, hb1⟩
  have HB1 : Hid (Below w.heap.size w w1) := HB0.out.trans (hb1.mono HB0.out.size)
  have KN1 : Hid (Bk N [.int .i64 need] w1) := KN.out.later hb1
  have KU1 : Hid (Bk U [.int .i64 0] w1) := KU.out.later hb1
  have KX1 : Hid (Bk X [.int .i64 0] w1) := KX.out.later hb1
  have KZ1 : Hid (Bk Z [.int .i64 0] w1) := KZ.out.later hb1
  have hs1 : w0.heap.size ≤ w1.heap.size := hb1.size
  clear hb1 KN KU KX KZ HB0
  have cN := KN1.out.c 0 rfl
  have hn1 : N < w1.heap.size := KN1.out.1
  go_wp2_with fail
  refine Calls.mono (HU1.out _ _ rfl) ?_
  rintro e w2 ⟨rfl, hw2⟩
  have hb2 : Below w1.heap.size w1 w2 := by rw [hw2]; exact (Below.refl _ _).alloc (Nat.le_refl _) _
  have HB2 : Hid (Below w.heap.size w w2) := HB1.out.trans (hb2.mono HB1.out.size)
  have KN2 : Hid (Bk N [.int .i64 need] w2) := KN1.out.later hb2
  have KU2 : Hid (Bk U [.int .i64 0] w2) := KU1.out.later hb2
  have KX2 : Hid (Bk X [.int .i64 0] w2) := KX1.out.later hb2
  have KZ2 : Hid (Bk Z [.int .i64 0] w2) := KZ1.out.later hb2
  clear hb2 hw2 KN1 KU1 KX1 KZ1 HB1 cN hn1
  have c1 := KU2.out.c 0 rfl
  have f1 := KU2.out.f 0 rfl
  have KXa := KX2.out.other (show X ≠ U by omega) 0 (.int .i64 0)
  have c2 := KXa.c 0 rfl
  have f2 := KXa.f 0 rfl
  have KZa := (KZ2.out.other (show Z ≠ U by omega) 0 (.int .i64 0)).other (show Z ≠ X by omega) 0 (.int .i64 0)
  have c3 := KZa.c 0 rfl
  have f3 := KZa.f 0 rfl
  clear KXa KZa
  go_wp2
  refine bodyPost_ret (v := three 0 0 7) (results_ccc Try.results17 _ _ _ rfl rfl rfl (load_int (((KU2.out.put 0 (.int .i64 0)).other (by omega) 0 (.int .i64 0)).other (by omega) 0 (.int .i64 7)))
    (load_int (((KX2.out.other (show X ≠ U by omega) 0 (.int .i64 0)).put 0 (.int .i64 0)).other (by omega) 0 (.int .i64 7))) (load_err (((KZ2.out.other (show Z ≠ U by omega) 0 (.int .i64 0)).other (show Z ≠ X by omega) 0 (.int .i64 0)).put 0 (.int .i64 7)))) rfl ?_
  exact ⟨rfl, ((HB2.out.setCell (by show w.heap.size ≤ U; omega) _).setCell (by show w.heap.size ≤ X; omega) _).setCell (by show w.heap.size ≤ Z; omega) _⟩
set_option maxHeartbeats 6400000 in
set_option maxRecDepth 100000 in
theorem hold_none (h : Ht) (t g b need most : Int) (w : World) (hok : htOk h = true) (hin : (inR 0 1000000 t && inR 0 1000000 g) = true) (hcn : (inR 0 100000 b && (inR 0 100000 need && inR 0 100000 most)) = true) (hz : need = 0) :
    Calls Try.prog 17 #[hv h, .int .i64 t, .int .i64 g, .int .i64 b, .int .i64 need, .int .i64 most] w fun e w' => e = .returned (three 0 t 0) ∧ Below w.heap.size w w' := by
  have HF : Hid (∀ (W : World) q, q = W.heap.size → Calls Try.prog 20 #[hv h, .slice (some ⟨q, 0, none⟩) 2 2] (W.alloc (.cells #[.int .i64 t, .int .i64 g] 3)) fun e w' => e = .returned (.int .i64 0) ∧ Below W.heap.size W w') := fun W q hq => (ref2 h t g W q hq).mono fun e w' ⟨q1, q2⟩ => ⟨by rw [q1, hin]; exact congrArg _ (congrArg _ (refH_ok hok)), q2⟩
  have HU1 : Hid (∀ (W : World) q, q = W.heap.size → Calls Try.prog 24 #[.int .i64 100000, .slice (some ⟨q, 0, none⟩) 3 3] (W.alloc (.cells #[.int .i64 b, .int .i64 need, .int .i64 most] 3)) fun e w' => e = .returned (.bool true) ∧ w' = W.alloc (.cells #[.int .i64 b, .int .i64 need, .int .i64 most] 3)) := fun W q hq => (upC 100000 b need most W q hq).mono fun e w' ⟨q1, q2⟩ => ⟨by rw [q1, hcn], q2⟩
  subst hz
  obtain ⟨w0, hw0⟩ : ∃ x, x = ((((w.alloc (ho h)).alloc (io 0)).alloc (io 0)).alloc (io 0)).alloc (.cells #[.int .i64 0] 24) := ⟨_, rfl⟩
  have HB0 : Hid (Below w.heap.size w w0) := by show Below _ _ _; rw [hw0]; exact (below_four _ _ _ _ _).alloc (by simp; omega) _
  have KN : Hid (Bk (w.heap.size + 1) [.int .i64 0] w0) := by show Bk _ _ _; rw [hw0]; exact (Bk.new (w.alloc (ho h)) [.int .i64 0] 3 (w.heap.size + 1) (by simp)).later (below_three _ _ _ _)
  have KU : Hid (Bk (w.heap.size + 1 + 1) [.int .i64 0] w0) := by show Bk _ _ _; rw [hw0]; exact (Bk.new ((w.alloc (ho h)).alloc (io 0)) [.int .i64 0] 3 (w.heap.size + 1 + 1) (by simp)).later (below_two _ _ _)
  have KX : Hid (Bk (w.heap.size + 1 + 1 + 1) [.int .i64 0] w0) := by show Bk _ _ _; rw [hw0]; exact (Bk.new (((w.alloc (ho h)).alloc (io 0)).alloc (io 0)) [.int .i64 0] 3 (w.heap.size + 1 + 1 + 1) (by simp)).later ((Below.refl _ _).alloc (Nat.le_refl _) _)
  have KZ : Hid (Bk (w.heap.size + 1 + 1 + 1 + 1) [.int .i64 0] w0) := by show Bk _ _ _; rw [hw0]; exact Bk.new ((((w.alloc (ho h)).alloc (io 0)).alloc (io 0)).alloc (io 0)) [.int .i64 0] 24 (w.heap.size + 1 + 1 + 1 + 1) (by simp)
  have hs0 : w0.heap.size = w.heap.size + 5 := by rw [hw0]; simp
  clear hok hin hcn
  go_enter Try.func17, Try.ntmps17
  go_wp2_with fail
  try rw [← hw0]
  clear hw0
  obtain ⟨N, hN⟩ : ∃ N, N = w.heap.size + 1 := ⟨_, rfl⟩
  simp only [← hN] at KN KU KX KZ ⊢
  obtain ⟨U, hU⟩ : ∃ U, U = N + 1 := ⟨_, rfl⟩
  simp only [← hU] at KU KX KZ ⊢
  obtain ⟨X, hX⟩ : ∃ X, X = U + 1 := ⟨_, rfl⟩
  simp only [← hX] at KX KZ ⊢
  obtain ⟨Z, hZ⟩ : ∃ Z, Z = X + 1 := ⟨_, rfl⟩
  simp only [← hZ] at KZ ⊢
  have o1 : w.heap.size < N := by omega
  have o2 : N < U := by omega
  have o3 : U < X := by omega
  have o4 : X < Z := by omega
  have o5 : Z + 1 = w0.heap.size := by omega
  clear hN hU hX hZ hs0
  refine Calls.mono (HF.out _ _ o5) ?_
  rintro e w1 ⟨rfl, hb1⟩
  have HB1 : Hid (Below w.heap.size w w1) := HB0.out.trans (hb1.mono HB0.out.size)
  have KN1 : Hid (Bk N [.int .i64 0] w1) := KN.out.later hb1
  have KU1 : Hid (Bk U [.int .i64 0] w1) := KU.out.later hb1
  have KX1 : Hid (Bk X [.int .i64 0] w1) := KX.out.later hb1
  have KZ1 : Hid (Bk Z [.int .i64 0] w1) := KZ.out.later hb1
  have hs1 : w0.heap.size ≤ w1.heap.size := hb1.size
  clear hb1 KN KU KX KZ HB0
  have cN := KN1.out.c 0 rfl
  have hn1 : N < w1.heap.size := KN1.out.1
  go_wp2_with fail
  refine Calls.mono (HU1.out _ _ rfl) ?_
  rintro e w2 ⟨rfl, hw2⟩
  have hb2 : Below w1.heap.size w1 w2 := by rw [hw2]; exact (Below.refl _ _).alloc (Nat.le_refl _) _
  have HB2 : Hid (Below w.heap.size w w2) := HB1.out.trans (hb2.mono HB1.out.size)
  have KN2 : Hid (Bk N [.int .i64 0] w2) := KN1.out.later hb2
  have KU2 : Hid (Bk U [.int .i64 0] w2) := KU1.out.later hb2
  have KX2 : Hid (Bk X [.int .i64 0] w2) := KX1.out.later hb2
  have KZ2 : Hid (Bk Z [.int .i64 0] w2) := KZ1.out.later hb2
  clear hb2 hw2 KN1 KU1 KX1 KZ1 HB1 cN hn1
  have cN := KN2.out.c 0 rfl
  have c1 := KU2.out.c 0 rfl
  have f1 := KU2.out.f 0 rfl
  have KXa := KX2.out.other (show X ≠ U by omega) 0 (.int .i64 0)
  have c2 := KXa.c 0 rfl
  have f2 := KXa.f 0 rfl
  have KZa := (KZ2.out.other (show Z ≠ U by omega) 0 (.int .i64 0)).other (show Z ≠ X by omega) 0 (.int .i64 t)
  have c3 := KZa.c 0 rfl
  have f3 := KZa.f 0 rfl
  clear KXa KZa
  go_wp2
  refine bodyPost_ret (v := three 0 t 0) (results_ccc Try.results17 _ _ _ rfl rfl rfl (load_int (((KU2.out.put 0 (.int .i64 0)).other (by omega) 0 (.int .i64 t)).other (by omega) 0 (.int .i64 0)))
    (load_int (((KX2.out.other (show X ≠ U by omega) 0 (.int .i64 0)).put 0 (.int .i64 t)).other (by omega) 0 (.int .i64 0))) (load_err (((KZ2.out.other (show Z ≠ U by omega) 0 (.int .i64 0)).other (show Z ≠ X by omega) 0 (.int .i64 t)).put 0 (.int .i64 0)))) rfl ?_
  exact ⟨rfl, ((HB2.out.setCell (by show w.heap.size ≤ U; omega) _).setCell (by show w.heap.size ≤ X; omega) _).setCell (by show w.heap.size ≤ Z; omega) _⟩
end Go.Proofs.Ytjpjkkjklghpgaa
