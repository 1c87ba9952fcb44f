/- unit.quantity, unit.May and the document's QuantityMay, bothMay, quantityOf, walked. -/
import Derived.Test.YtjlbheeipchpkaaQty
namespace Go.Proofs.Ytjlbheeipchpkaa
open Go.RowKit

set_option maxHeartbeats 400000 in
theorem quantity_ok (k v : Int) (w : World) (h : ref1 k v = 0) :
    Calls Try.prog 18 #[.int .i64 k, .int .i64 v] w fun e w' => e = .returned (.tuple #[.agg #[.int .i64 k, .int .i64 v], .int .i64 0]) ∧ Below w.heap.size w w' := by
  go_enter Try.func18, Try.ntmps18
  go_wp2_with fail
  refine (refusal1 _ k v _ (by go_simp) (by go_simp)).mono ?_
  rintro e w1 ⟨rfl, hb⟩
  obtain ⟨hc, hf⟩ := bcell hb
  have hz : w.heap.size + 2 < w1.heap.size := by have := hb.size; simp at this; omega
  have e0 : w1.cell? ⟨w.heap.size, 0, none⟩ = some (.int .i64 0) := (hc _ _ (by simp; omega)).trans (by go_simp)
  have e1 : w1.cell? ⟨w.heap.size, 1, none⟩ = some (.int .i64 0) := (hc _ _ (by simp; omega)).trans (by go_simp)
  go_wp2
  refine bodyPost_ret (v := .tuple #[.agg #[.int .i64 k, .int .i64 v], .int .i64 0]) (by simp [results, Try.results18, go_sem, e0, e1]) rfl ⟨rfl, ?_⟩
  refine Below.setCell ?_ (by simp) _
  refine Below.setCell ?_ (by simp) _
  refine Below.trans ?_ (hb.mono (by simp; omega))
  exact (((Below.refl _ _).alloc (Nat.le_refl _) _).alloc (by simp) _).alloc (by simp; omega) _

set_option maxHeartbeats 400000 in
theorem quantity_no (k v : Int) (w : World) (h : ref1 k v ≠ 0) :
    Calls Try.prog 18 #[.int .i64 k, .int .i64 v] w fun e w' => e = .returned (.tuple #[.agg #[.int .i64 0, .int .i64 0], .int .i64 (ref1 k v)]) ∧ Below w.heap.size w w' := by
  have hne : (ref1 k v == 0) = false := by simp [h]
  have hne2 : (ref1 k v != 0) = true := by simp [h]
  clear h
  go_enter Try.func18, Try.ntmps18
  go_wp2_with fail
  refine (refusal1 _ k v _ (by go_simp) (by go_simp)).mono ?_
  rintro e w1 ⟨rfl, hb⟩
  obtain ⟨hc, hf⟩ := bcell hb
  have hz : w.heap.size + 2 < w1.heap.size := by have := hb.size; simp at this; omega
  have e0 : w1.cell? ⟨w.heap.size, 0, none⟩ = some (.int .i64 0) := (hc _ _ (by simp; omega)).trans (by go_simp)
  have e1 : w1.cell? ⟨w.heap.size, 1, none⟩ = some (.int .i64 0) := (hc _ _ (by simp; omega)).trans (by go_simp)
  go_wp2
  refine bodyPost_ret (v := .tuple #[.agg #[.int .i64 0, .int .i64 0], .int .i64 (ref1 k v)]) (by simp [results, Try.results18, go_sem, e0, e1]) rfl ⟨rfl, ?_⟩
  refine Below.setCell ?_ (by simp) _
  refine Below.setCell ?_ (by simp) _
  refine Below.trans ?_ (hb.mono (by simp; omega))
  exact (((Below.refl _ _).alloc (Nat.le_refl _) _).alloc (by simp) _).alloc (by simp; omega) _

/-- A quantity of a kind and a value, unless it may not be: kind, value, error. -/
def mkQ (k v : Int) : Int × Int × Int := if ref1 k v = 0 then (k, v, 0) else (0, 0, ref1 k v)
/-- A quantity and an error, as they come back. -/
def R3 (q : Int × Int × Int) : Value := .tuple #[.agg #[.int .i64 q.1, .int .i64 q.2.1], .int .i64 q.2.2]

theorem quantity_any (k v : Int) (w : World) :
    Calls Try.prog 18 #[.int .i64 k, .int .i64 v] w fun e w' => e = .returned (.tuple #[.agg #[.int .i64 (mkQ k v).1, .int .i64 (mkQ k v).2.1], .int .i64 (mkQ k v).2.2]) ∧ Below w.heap.size w w' := by
  by_cases h : ref1 k v = 0
  · have e : mkQ k v = (k, v, 0) := if_pos h
    rw [e]; exact quantity_ok k v w h
  · have e : mkQ k v = (0, 0, ref1 k v) := if_neg h
    rw [e]; exact quantity_no k v w h

set_option maxHeartbeats 400000 in
theorem within_any (n low high : Int) (w : World) :
    Calls Try.prog 21 #[.int .i64 n, .int .i64 low, .int .i64 high] w fun e w' => e = .returned (.bool (decide (low ≤ n) && decide (n ≤ high))) ∧ w' = w := by
  by_cases h1 : low ≤ n
  · by_cases h2 : n ≤ high
    · go_enter Try.func21, Try.ntmps21
      go_wp2
      go_ret
      exact ⟨by simp [h1, h2], rfl⟩
    · go_enter Try.func21, Try.ntmps21
      go_wp2
      go_ret
      exact ⟨by simp [h2], rfl⟩
  · go_enter Try.func21, Try.ntmps21
    go_wp2
    go_ret
    exact ⟨by simp; intro _; omega, rfl⟩
theorem within_yes (n low high : Int) (w : World) (h1 : low ≤ n) (h2 : n ≤ high) :
    Calls Try.prog 21 #[.int .i64 n, .int .i64 low, .int .i64 high] w fun e w' => e = .returned (.bool true) ∧ w' = w :=
  (within_any n low high w).mono fun e w' ⟨he, hw⟩ => ⟨by rw [he]; simp [h1, h2], hw⟩
theorem within_no (n low high : Int) (w : World) (h : n < low ∨ high < n) :
    Calls Try.prog 21 #[.int .i64 n, .int .i64 low, .int .i64 high] w fun e w' => e = .returned (.bool false) ∧ w' = w :=
  (within_any n low high w).mono fun e w' ⟨he, hw⟩ => ⟨by rw [he]; simp; omega, hw⟩


set_option maxHeartbeats 400000 in
theorem quantityOf_any (k v : Int) (w : World) (h0 : 0 ≤ k) (h5 : k ≤ 5) :
    Calls Try.prog 20 #[.int .i64 k, .int .i64 v] w fun e w' => e = .returned (.tuple #[.agg #[.int .i64 (mkQ k v).1, .int .i64 (mkQ k v).2.1], .int .i64 (mkQ k v).2.2]) ∧ Below w.heap.size w w' := by
  by_cases h : -1000000000 ≤ v ∧ v ≤ 1000000000
  · have e : mkQ k v = (k, v, 0) := if_pos (ref1_ok h0 h5 h.1 h.2)
    rw [e]
    clear e
    obtain ⟨h1, h2⟩ := h
    go_enter Try.func20, Try.ntmps20
    go_wp2_with fail
    refine (within_yes v (-1000000000) 1000000000 _ h1 h2).mono ?_
    rintro e w1 ⟨rfl, rfl⟩
    go_wp2
    refine bodyPost_ret (v := .tuple #[.agg #[.int .i64 k, .int .i64 v], .int .i64 0]) (by simp [results, Try.results20, go_sem]) rfl ⟨rfl, ?_⟩
    exact (Below.refl _ _).alloc (Nat.le_refl _) _
  · have e : mkQ k v = (0, 0, 2) := by
      have h2 := ref1_range (k := k) (v := v) h0 h5 (by omega)
      unfold mkQ; rw [h2]; rfl
    rw [e]
    clear e
    go_enter Try.func20, Try.ntmps20
    go_wp2_with fail
    refine (within_no v (-1000000000) 1000000000 _ (by omega)).mono ?_
    rintro e w1 ⟨rfl, rfl⟩
    go_wp2
    refine bodyPost_ret (v := .tuple #[.agg #[.int .i64 0, .int .i64 0], .int .i64 2]) (by simp [results, Try.results20, go_sem]) rfl ⟨rfl, ?_⟩
    exact (Below.refl _ _).alloc (Nat.le_refl _) _

set_option maxHeartbeats 800000 in
theorem qmay_any (k v : Int) (w : World) :
    Calls Try.prog 22 #[.agg #[.int .i64 k, .int .i64 v]] w fun e w' => e = .returned (.int .i64 (ref1 k v)) ∧ Below w.heap.size w w' := by
  by_cases c1 : k < 0 ∨ 5 < k
  · rw [ref1_kind c1]
    go_enter Try.func22, Try.ntmps22
    go_wp2_with fail
    refine (within_no k 0 5 _ c1).mono ?_
    rintro e w1 ⟨rfl, rfl⟩
    go_wp2
    go_ret
    exact ⟨rfl, (Below.refl _ _).alloc (Nat.le_refl _) _⟩
  · by_cases c2 : v < -1000000000 ∨ 1000000000 < v
    · rw [ref1_range (by omega) (by omega) c2]
      go_enter Try.func22, Try.ntmps22
      go_wp2_with fail
      refine (within_yes k 0 5 _ (by omega) (by omega)).mono ?_
      rintro e w1 ⟨rfl, rfl⟩
      go_wp2_with fail
      refine (within_no v (-1000000000) 1000000000 _ c2).mono ?_
      rintro e w1 ⟨rfl, rfl⟩
      go_wp2
      go_ret
      exact ⟨rfl, (Below.refl _ _).alloc (Nat.le_refl _) _⟩
    · rw [ref1_ok (by omega) (by omega) (by omega) (by omega)]
      go_enter Try.func22, Try.ntmps22
      go_wp2_with fail
      refine (within_yes k 0 5 _ (by omega) (by omega)).mono ?_
      rintro e w1 ⟨rfl, rfl⟩
      go_wp2_with fail
      refine (within_yes v (-1000000000) 1000000000 _ (by omega) (by omega)).mono ?_
      rintro e w1 ⟨rfl, rfl⟩
      go_wp2
      go_ret
      exact ⟨rfl, (Below.refl _ _).alloc (Nat.le_refl _) _⟩

set_option maxHeartbeats 800000 in
theorem may_any (k v : Int) (w : World) :
    Calls Try.prog 16 #[.agg #[.int .i64 k, .int .i64 v]] w fun e w' => e = .returned (.bool (ref1 k v == 0)) ∧ Below w.heap.size w w' := by
  go_enter Try.func16, Try.ntmps16
  go_wp2_with fail
  refine (refusal1 _ k v _ (by go_simp) (by go_simp)).mono ?_
  rintro e w1 ⟨rfl, hb⟩
  go_wp2
  go_ret
  refine ⟨rfl, Below.trans ?_ (hb.mono (by simp; omega))⟩
  exact ((Below.refl _ _).alloc (Nat.le_refl _) _).alloc (by simp) _

set_option maxHeartbeats 800000 in
theorem both_any (k v k2 v2 : Int) (w : World) :
    Calls Try.prog 19 #[.agg #[.int .i64 k, .int .i64 v], .agg #[.int .i64 k2, .int .i64 v2]] w fun e w' => e = .returned (.int .i64 (ref2 k v k2 v2)) ∧ Below w.heap.size w w' := by
  by_cases h : ref1 k v = 0
  · have e : ref2 k v k2 v2 = ref1 k2 v2 := if_pos h
    rw [e]; clear e
    go_enter Try.func19, Try.ntmps19
    go_wp2_with fail
    refine (qmay_any k v _).mono ?_
    rintro e w1 ⟨rfl, hb⟩
    obtain ⟨hc, hf⟩ := bcell hb
    have e0 : w1.cell? ⟨w.heap.size + 1, 0, none⟩ = some (.int .i64 k2) := (hc _ _ (by simp)).trans (by go_simp)
    have e1 : w1.cell? ⟨w.heap.size + 1, 1, none⟩ = some (.int .i64 v2) := (hc _ _ (by simp)).trans (by go_simp)
    clear hc hf
    go_wp2_with fail
    refine (qmay_any k2 v2 _).mono ?_
    rintro e w2 ⟨rfl, hb2⟩
    go_wp2
    go_ret
    refine ⟨rfl, Below.trans (Below.trans ?_ (hb.mono (by simp; omega))) (hb2.mono (by have := hb.size; simp at this; omega))⟩
    exact ((Below.refl _ _).alloc (Nat.le_refl _) _).alloc (by simp) _
  · have e : ref2 k v k2 v2 = ref1 k v := if_neg h
    rw [e]; clear e
    have hne : (ref1 k v == 0) = false := by simp [h]
    have hne2 : (ref1 k v != 0) = true := by simp [h]
    clear h
    go_enter Try.func19, Try.ntmps19
    go_wp2_with fail
    refine (qmay_any k v _).mono ?_
    rintro e w1 ⟨rfl, hb⟩
    go_wp2
    go_ret
    refine ⟨rfl, Below.trans ?_ (hb.mono (by simp; omega))⟩
    exact ((Below.refl _ _).alloc (Nat.le_refl _) _).alloc (by simp) _
end Go.Proofs.Ytjlbheeipchpkaa
