/- unit.Add, Times, Over and the document's SumOf, ProductOf, QuotientOf, walked: each pair comes to one plain function. -/
import Derived.Test.YtjlbheeipchpkaaQty2
namespace Go.Proofs.Ytjlbheeipchpkaa
open Go.RowKit

def sumQ (k1 v1 k2 v2 : Int) : Int × Int × Int := if ref2 k1 v1 k2 v2 = 0 then (if k1 = k2 then mkQ k1 (v1 + v2) else (0, 0, 6)) else (0, 0, ref2 k1 v1 k2 v2)
def proQ (k1 v1 k2 v2 : Int) : Int × Int × Int := if ref2 k1 v1 k2 v2 = 0 then (if k1 = 0 then mkQ k2 (v1 * v2) else if k2 = 0 then mkQ k1 (v1 * v2) else (0, 0, 6)) else (0, 0, ref2 k1 v1 k2 v2)
def quoQ (k1 v1 k2 v2 : Int) : Int × Int × Int := if ref2 k1 v1 k2 v2 = 0 then (if k2 = 0 then (if v2 = 0 then (0, 0, 5) else mkQ k1 (v1.tdiv v2)) else if k1 = k2 then (if v2 = 0 then (0, 0, 5) else mkQ 0 (v1.tdiv v2)) else (0, 0, 6)) else (0, 0, ref2 k1 v1 k2 v2)

theorem ref1_in {k v : Int} (h : ref1 k v = 0) : (0 ≤ k ∧ k ≤ 5) ∧ -1000000000 ≤ v ∧ v ≤ 1000000000 := by
  unfold ref1 at h
  split at h
  · split at h
    · constructor <;> assumption
    · omega
  · omega
theorem ref2_in {k v k2 v2 : Int} (h : ref2 k v k2 v2 = 0) : ((0 ≤ k ∧ k ≤ 5) ∧ -1000000000 ≤ v ∧ v ≤ 1000000000) ∧ ((0 ≤ k2 ∧ k2 ≤ 5) ∧ -1000000000 ≤ v2 ∧ v2 ≤ 1000000000) := by
  unfold ref2 at h
  split at h
  · exact ⟨ref1_in (by assumption), ref1_in h⟩
  · exact absurd h (by assumption)
theorem mul_in {a b : Int} (h1 : -1000000000 ≤ a) (h2 : a ≤ 1000000000) (h3 : -1000000000 ≤ b) (h4 : b ≤ 1000000000) : -1000000000000000000 ≤ a * b ∧ a * b ≤ 1000000000000000000 := by
  have k1 := Int.mul_nonneg (show 0 ≤ 1000000000 - a by omega) (show 0 ≤ 1000000000 - b by omega)
  have k2 := Int.mul_nonneg (show 0 ≤ 1000000000 + a by omega) (show 0 ≤ 1000000000 + b by omega)
  have k3 := Int.mul_nonneg (show 0 ≤ 1000000000 - a by omega) (show 0 ≤ 1000000000 + b by omega)
  have k4 := Int.mul_nonneg (show 0 ≤ 1000000000 + a by omega) (show 0 ≤ 1000000000 - b by omega)
  simp only [Int.sub_mul, Int.add_mul, Int.mul_sub, Int.mul_add] at k1 k2 k3 k4
  omega

/-- The two arguments' boxes and the result's lie in w1 as they were laid. -/
structure Held (w1 : World) (B : Nat) (k1 v1 k2 v2 : Int) : Prop where
  a0 : w1.cell? ⟨B, 0, none⟩ = some (.int .i64 k1)
  a1 : w1.cell? ⟨B, 1, none⟩ = some (.int .i64 v1)
  b0 : w1.cell? ⟨B + 1, 0, none⟩ = some (.int .i64 k2)
  b1 : w1.cell? ⟨B + 1, 1, none⟩ = some (.int .i64 v2)
  c0 : w1.cell? ⟨B + 2, 0, none⟩ = some (.int .i64 0)
  c1 : w1.cell? ⟨B + 2, 1, none⟩ = some (.int .i64 0)
  f0 : w1.frozen? ⟨B + 2, 0, none⟩ = false
  f1 : w1.frozen? ⟨B + 2, 1, none⟩ = false
  sz : B + 2 < w1.heap.size

theorem Held.next {w1 w2 : World} {B : Nat} {k1 v1 k2 v2 : Int} (h : Held w1 B k1 v1 k2 v2) (hb : Below w1.heap.size w1 w2) : Held w2 B k1 v1 k2 v2 := by
  obtain ⟨a0, a1, b0, b1, c0, c1, f0, f1, sz⟩ := h
  obtain ⟨hc, hf⟩ := bcell hb
  exact ⟨(hc _ _ (by omega)).trans a0, (hc _ _ (by omega)).trans a1, (hc _ _ (by omega)).trans b0, (hc _ _ (by omega)).trans b1, (hc _ _ (by omega)).trans c0, (hc _ _ (by omega)).trans c1, (hf _ _ (by omega)).trans f0, (hf _ _ (by omega)).trans f1, by have := hb.size; omega⟩
theorem held3 (w : World) (k1 v1 k2 v2 : Int) : Held (((w.alloc (.cells #[.int .i64 k1, .int .i64 v1] 23)).alloc (.cells #[.int .i64 k2, .int .i64 v2] 23)).alloc (.cells #[.int .i64 0, .int .i64 0] 23)) w.heap.size k1 v1 k2 v2 := by
  constructor <;> (first | go_simp | simp)
theorem held4 (w : World) (k1 v1 k2 v2 : Int) (o : Obj) : Held ((((w.alloc (.cells #[.int .i64 k1, .int .i64 v1] 23)).alloc (.cells #[.int .i64 k2, .int .i64 v2] 23)).alloc (.cells #[.int .i64 0, .int .i64 0] 23)).alloc o) w.heap.size k1 v1 k2 v2 :=
  (held3 w k1 v1 k2 v2).next ((Below.refl _ _).alloc (Nat.le_refl _) _)
theorem below3 (w : World) (o1 o2 o3 : Obj) : Below w.heap.size w (((w.alloc o1).alloc o2).alloc o3) :=
  (((Below.refl _ _).alloc (Nat.le_refl _) _).alloc (by simp) _).alloc (by simp; omega) _
theorem below4 (w : World) (o1 o2 o3 o4 : Obj) : Below w.heap.size w ((((w.alloc o1).alloc o2).alloc o3).alloc o4) :=
  (below3 w o1 o2 o3).alloc (by simp; omega) _
/-- Two stores into the result's box. -/
theorem below_box {w w1 : World} {u0 u1 : Value} (h : Below w.heap.size w w1) : Below w.heap.size w ((w1.setCell ⟨w.heap.size + 2, 0, none⟩ u0).setCell ⟨w.heap.size + 2, 1, none⟩ u1) :=
  (h.setCell (by simp) _).setCell (by simp) _

set_option maxHeartbeats 1600000 in
theorem add_any (k1 v1 k2 v2 : Int) (w : World) :
    Calls Try.prog 7 #[.agg #[.int .i64 k1, .int .i64 v1], .agg #[.int .i64 k2, .int .i64 v2]] w fun e w' => e = .returned (.tuple #[.agg #[.int .i64 (sumQ k1 v1 k2 v2).1, .int .i64 (sumQ k1 v1 k2 v2).2.1], .int .i64 (sumQ k1 v1 k2 v2).2.2]) ∧ Below w.heap.size w w' := by
  by_cases hr : ref2 k1 v1 k2 v2 = 0
  rotate_left
  · have hq : sumQ k1 v1 k2 v2 = (0, 0, ref2 k1 v1 k2 v2) := if_neg hr
    rw [hq]; clear hq
    have hne : (ref2 k1 v1 k2 v2 == 0) = false := by simp [hr]
    have hne2 : (ref2 k1 v1 k2 v2 != 0) = true := by simp [hr]
    clear hr
    go_enter Try.func7, Try.ntmps7
    go_wp2_with fail
    refine (refusal2 _ k1 v1 k2 v2 _ (by go_simp) (by go_simp) (by go_simp) (by go_simp) (by simp)).mono ?_
    rintro e w1 ⟨rfl, hb⟩
    have hH := (held4 w k1 v1 k2 v2 _).next hb
    have hB := (below4 w _ _ _ _).trans (hb.mono (by simp; omega))
    have HH := hH
    obtain ⟨a0, a1, b0, b1, c0, c1, f0, f1, sz⟩ := hH
    clear hb
    clear HH
    go_wp2
    refine bodyPost_ret (v := (.tuple #[.agg #[.int .i64 0, .int .i64 0], .int .i64 (ref2 k1 v1 k2 v2)])) (by simp [results, Try.results7, go_sem, c0, c1]) rfl ⟨rfl, below_box hB⟩
  obtain ⟨⟨⟨k1a, k1b⟩, v1a, v1b⟩, ⟨k2a, k2b⟩, v2a, v2b⟩ := ref2_in hr
  by_cases hk : k1 = k2
  · have hq : sumQ k1 v1 k2 v2 = mkQ k1 (v1 + v2) := by unfold sumQ; rw [if_pos hr, if_pos hk]
    rw [hq]; clear hq
    subst hk
    go_enter Try.func7, Try.ntmps7
    go_wp2_with fail
    refine (refusal2 _ k1 v1 k1 v2 _ (by go_simp) (by go_simp) (by go_simp) (by go_simp) (by simp)).mono ?_
    rintro e w1 ⟨rfl, hb⟩
    have hH := (held4 w k1 v1 k1 v2 _).next hb
    have hB := (below4 w _ _ _ _).trans (hb.mono (by simp; omega))
    have HH := hH
    obtain ⟨a0, a1, b0, b1, c0, c1, f0, f1, sz⟩ := hH
    clear hb
    go_wp2_with fail
    refine (quantity_any k1 (v1 + v2) _).mono ?_
    rintro e w2 ⟨rfl, hb2⟩
    have hH2 := HH.next hb2
    have hB2 := hB.trans (hb2.mono (by omega))
    clear a0 a1 b0 b1 c0 c1 f0 f1 HH
    obtain ⟨a0, a1, b0, b1, c0, c1, f0, f1, sz2⟩ := hH2
    go_wp2
    refine bodyPost_ret (v := (.tuple #[.agg #[.int .i64 (mkQ k1 (v1 + v2)).1, .int .i64 (mkQ k1 (v1 + v2)).2.1], .int .i64 (mkQ k1 (v1 + v2)).2.2])) (by simp [results, Try.results7, go_sem, c0, c1]) rfl ⟨rfl, below_box hB2⟩
  · have hq : sumQ k1 v1 k2 v2 = (0, 0, 6) := by unfold sumQ; rw [if_pos hr, if_neg hk]
    rw [hq]; clear hq
    have hne : (k1 == k2) = false := by simp [hk]
    have hne2 : (k1 != k2) = true := by simp [hk]
    clear hk
    go_enter Try.func7, Try.ntmps7
    go_wp2_with fail
    refine (refusal2 _ k1 v1 k2 v2 _ (by go_simp) (by go_simp) (by go_simp) (by go_simp) (by simp)).mono ?_
    rintro e w1 ⟨rfl, hb⟩
    have hH := (held4 w k1 v1 k2 v2 _).next hb
    have hB := (below4 w _ _ _ _).trans (hb.mono (by simp; omega))
    have HH := hH
    obtain ⟨a0, a1, b0, b1, c0, c1, f0, f1, sz⟩ := hH
    clear hb
    clear HH
    go_wp2
    refine bodyPost_ret (v := (.tuple #[.agg #[.int .i64 0, .int .i64 0], .int .i64 6])) (by simp [results, Try.results7, go_sem, c0, c1]) rfl ⟨rfl, below_box hB⟩

set_option maxHeartbeats 1600000 in
theorem sumOf_any (k1 v1 k2 v2 : Int) (w : World) :
    Calls Try.prog 10 #[.agg #[.int .i64 k1, .int .i64 v1], .agg #[.int .i64 k2, .int .i64 v2]] w fun e w' => e = .returned (.tuple #[.agg #[.int .i64 (sumQ k1 v1 k2 v2).1, .int .i64 (sumQ k1 v1 k2 v2).2.1], .int .i64 (sumQ k1 v1 k2 v2).2.2]) ∧ Below w.heap.size w w' := by
  by_cases hr : ref2 k1 v1 k2 v2 = 0
  rotate_left
  · have hq : sumQ k1 v1 k2 v2 = (0, 0, ref2 k1 v1 k2 v2) := if_neg hr
    rw [hq]; clear hq
    have hne : (ref2 k1 v1 k2 v2 == 0) = false := by simp [hr]
    have hne2 : (ref2 k1 v1 k2 v2 != 0) = true := by simp [hr]
    clear hr
    go_enter Try.func10, Try.ntmps10
    go_wp2_with fail
    refine (both_any k1 v1 k2 v2 _).mono ?_
    rintro e w1 ⟨rfl, hb⟩
    have hH := (held3 w k1 v1 k2 v2).next hb
    have hB := (below3 w _ _ _).trans (hb.mono (by simp; omega))
    have HH := hH
    obtain ⟨a0, a1, b0, b1, c0, c1, f0, f1, sz⟩ := hH
    clear hb
    clear HH
    go_wp2
    refine bodyPost_ret (v := (.tuple #[.agg #[.int .i64 0, .int .i64 0], .int .i64 (ref2 k1 v1 k2 v2)])) (by simp [results, Try.results10, go_sem, c0, c1]) rfl ⟨rfl, below_box hB⟩
  obtain ⟨⟨⟨k1a, k1b⟩, v1a, v1b⟩, ⟨k2a, k2b⟩, v2a, v2b⟩ := ref2_in hr
  by_cases hk : k1 = k2
  · have hq : sumQ k1 v1 k2 v2 = mkQ k1 (v1 + v2) := by unfold sumQ; rw [if_pos hr, if_pos hk]
    rw [hq]; clear hq
    subst hk
    go_enter Try.func10, Try.ntmps10
    go_wp2_with fail
    refine (both_any k1 v1 k1 v2 _).mono ?_
    rintro e w1 ⟨rfl, hb⟩
    have hH := (held3 w k1 v1 k1 v2).next hb
    have hB := (below3 w _ _ _).trans (hb.mono (by simp; omega))
    have HH := hH
    obtain ⟨a0, a1, b0, b1, c0, c1, f0, f1, sz⟩ := hH
    clear hb
    go_wp2_with fail
    refine (quantityOf_any k1 (v1 + v2) _ (by omega) (by omega)).mono ?_
    rintro e w2 ⟨rfl, hb2⟩
    have hH2 := HH.next hb2
    have hB2 := hB.trans (hb2.mono (by omega))
    clear a0 a1 b0 b1 c0 c1 f0 f1 HH
    obtain ⟨a0, a1, b0, b1, c0, c1, f0, f1, sz2⟩ := hH2
    go_wp2
    refine bodyPost_ret (v := (.tuple #[.agg #[.int .i64 (mkQ k1 (v1 + v2)).1, .int .i64 (mkQ k1 (v1 + v2)).2.1], .int .i64 (mkQ k1 (v1 + v2)).2.2])) (by simp [results, Try.results10, go_sem, c0, c1]) rfl ⟨rfl, below_box hB2⟩
  · have hq : sumQ k1 v1 k2 v2 = (0, 0, 6) := by unfold sumQ; rw [if_pos hr, if_neg hk]
    rw [hq]; clear hq
    have hne : (k1 == k2) = false := by simp [hk]
    have hne2 : (k1 != k2) = true := by simp [hk]
    clear hk
    go_enter Try.func10, Try.ntmps10
    go_wp2_with fail
    refine (both_any k1 v1 k2 v2 _).mono ?_
    rintro e w1 ⟨rfl, hb⟩
    have hH := (held3 w k1 v1 k2 v2).next hb
    have hB := (below3 w _ _ _).trans (hb.mono (by simp; omega))
    have HH := hH
    obtain ⟨a0, a1, b0, b1, c0, c1, f0, f1, sz⟩ := hH
    clear hb
    clear HH
    go_wp2
    refine bodyPost_ret (v := (.tuple #[.agg #[.int .i64 0, .int .i64 0], .int .i64 6])) (by simp [results, Try.results10, go_sem, c0, c1]) rfl ⟨rfl, below_box hB⟩

set_option maxHeartbeats 1600000 in
theorem times_any (k1 v1 k2 v2 : Int) (w : World) :
    Calls Try.prog 8 #[.agg #[.int .i64 k1, .int .i64 v1], .agg #[.int .i64 k2, .int .i64 v2]] w fun e w' => e = .returned (.tuple #[.agg #[.int .i64 (proQ k1 v1 k2 v2).1, .int .i64 (proQ k1 v1 k2 v2).2.1], .int .i64 (proQ k1 v1 k2 v2).2.2]) ∧ Below w.heap.size w w' := by
  by_cases hr : ref2 k1 v1 k2 v2 = 0
  rotate_left
  · have hq : proQ k1 v1 k2 v2 = (0, 0, ref2 k1 v1 k2 v2) := if_neg hr
    rw [hq]; clear hq
    have hne : (ref2 k1 v1 k2 v2 == 0) = false := by simp [hr]
    have hne2 : (ref2 k1 v1 k2 v2 != 0) = true := by simp [hr]
    clear hr
    go_enter Try.func8, Try.ntmps8
    go_wp2_with fail
    refine (refusal2 _ k1 v1 k2 v2 _ (by go_simp) (by go_simp) (by go_simp) (by go_simp) (by simp)).mono ?_
    rintro e w1 ⟨rfl, hb⟩
    have hH := (held4 w k1 v1 k2 v2 _).next hb
    have hB := (below4 w _ _ _ _).trans (hb.mono (by simp; omega))
    have HH := hH
    obtain ⟨a0, a1, b0, b1, c0, c1, f0, f1, sz⟩ := hH
    clear hb
    clear HH
    go_wp2
    refine bodyPost_ret (v := (.tuple #[.agg #[.int .i64 0, .int .i64 0], .int .i64 (ref2 k1 v1 k2 v2)])) (by simp [results, Try.results8, go_sem, c0, c1]) rfl ⟨rfl, below_box hB⟩
  obtain ⟨⟨⟨k1a, k1b⟩, v1a, v1b⟩, ⟨k2a, k2b⟩, v2a, v2b⟩ := ref2_in hr
  have hm := mul_in v1a v1b v2a v2b
  obtain ⟨hm1, hm2⟩ := hm
  by_cases hk : k1 = 0
  · have hq : proQ k1 v1 k2 v2 = mkQ k2 (v1 * v2) := by unfold proQ; rw [if_pos hr, if_pos hk]
    rw [hq]; clear hq
    subst hk
    go_enter Try.func8, Try.ntmps8
    go_wp2_with fail
    refine (refusal2 _ 0 v1 k2 v2 _ (by go_simp) (by go_simp) (by go_simp) (by go_simp) (by simp)).mono ?_
    rintro e w1 ⟨rfl, hb⟩
    have hH := (held4 w 0 v1 k2 v2 _).next hb
    have hB := (below4 w _ _ _ _).trans (hb.mono (by simp; omega))
    have HH := hH
    obtain ⟨a0, a1, b0, b1, c0, c1, f0, f1, sz⟩ := hH
    clear hb
    go_wp2_with fail
    refine (quantity_any k2 (v1 * v2) _).mono ?_
    rintro e w2 ⟨rfl, hb2⟩
    have hH2 := HH.next hb2
    have hB2 := hB.trans (hb2.mono (by omega))
    clear a0 a1 b0 b1 c0 c1 f0 f1 HH
    obtain ⟨a0, a1, b0, b1, c0, c1, f0, f1, sz2⟩ := hH2
    go_wp2
    refine bodyPost_ret (v := (.tuple #[.agg #[.int .i64 (mkQ k2 (v1 * v2)).1, .int .i64 (mkQ k2 (v1 * v2)).2.1], .int .i64 (mkQ k2 (v1 * v2)).2.2])) (by simp [results, Try.results8, go_sem, c0, c1]) rfl ⟨rfl, below_box hB2⟩
  · have hn1 : (k1 == 0) = false := by simp [hk]
    have hn2 : (k1 != 0) = true := by simp [hk]
    by_cases hk2 : k2 = 0
    · have hq : proQ k1 v1 k2 v2 = mkQ k1 (v1 * v2) := by unfold proQ; rw [if_pos hr, if_neg hk, if_pos hk2]
      rw [hq]; clear hq hk
      subst hk2
      go_enter Try.func8, Try.ntmps8
      go_wp2_with fail
      refine (refusal2 _ k1 v1 0 v2 _ (by go_simp) (by go_simp) (by go_simp) (by go_simp) (by simp)).mono ?_
      rintro e w1 ⟨rfl, hb⟩
      have hH := (held4 w k1 v1 0 v2 _).next hb
      have hB := (below4 w _ _ _ _).trans (hb.mono (by simp; omega))
      have HH := hH
      obtain ⟨a0, a1, b0, b1, c0, c1, f0, f1, sz⟩ := hH
      clear hb
      go_wp2_with fail
      refine (quantity_any k1 (v1 * v2) _).mono ?_
      rintro e w2 ⟨rfl, hb2⟩
      have hH2 := HH.next hb2
      have hB2 := hB.trans (hb2.mono (by omega))
      clear a0 a1 b0 b1 c0 c1 f0 f1 HH
      obtain ⟨a0, a1, b0, b1, c0, c1, f0, f1, sz2⟩ := hH2
      go_wp2
      refine bodyPost_ret (v := (.tuple #[.agg #[.int .i64 (mkQ k1 (v1 * v2)).1, .int .i64 (mkQ k1 (v1 * v2)).2.1], .int .i64 (mkQ k1 (v1 * v2)).2.2])) (by simp [results, Try.results8, go_sem, c0, c1]) rfl ⟨rfl, below_box hB2⟩
    · have hq : proQ k1 v1 k2 v2 = (0, 0, 6) := by unfold proQ; rw [if_pos hr, if_neg hk, if_neg hk2]
      rw [hq]; clear hq
      have hn3 : (k2 == 0) = false := by simp [hk2]
      have hn4 : (k2 != 0) = true := by simp [hk2]
      clear hk hk2
      go_enter Try.func8, Try.ntmps8
      go_wp2_with fail
      refine (refusal2 _ k1 v1 k2 v2 _ (by go_simp) (by go_simp) (by go_simp) (by go_simp) (by simp)).mono ?_
      rintro e w1 ⟨rfl, hb⟩
      have hH := (held4 w k1 v1 k2 v2 _).next hb
      have hB := (below4 w _ _ _ _).trans (hb.mono (by simp; omega))
      have HH := hH
      obtain ⟨a0, a1, b0, b1, c0, c1, f0, f1, sz⟩ := hH
      clear hb
      clear HH
      go_wp2
      refine bodyPost_ret (v := (.tuple #[.agg #[.int .i64 0, .int .i64 0], .int .i64 6])) (by simp [results, Try.results8, go_sem, c0, c1]) rfl ⟨rfl, below_box hB⟩

set_option maxHeartbeats 1600000 in
theorem productOf_any (k1 v1 k2 v2 : Int) (w : World) :
    Calls Try.prog 11 #[.agg #[.int .i64 k1, .int .i64 v1], .agg #[.int .i64 k2, .int .i64 v2]] w fun e w' => e = .returned (.tuple #[.agg #[.int .i64 (proQ k1 v1 k2 v2).1, .int .i64 (proQ k1 v1 k2 v2).2.1], .int .i64 (proQ k1 v1 k2 v2).2.2]) ∧ Below w.heap.size w w' := by
  by_cases hr : ref2 k1 v1 k2 v2 = 0
  rotate_left
  · have hq : proQ k1 v1 k2 v2 = (0, 0, ref2 k1 v1 k2 v2) := if_neg hr
    rw [hq]; clear hq
    have hne : (ref2 k1 v1 k2 v2 == 0) = false := by simp [hr]
    have hne2 : (ref2 k1 v1 k2 v2 != 0) = true := by simp [hr]
    clear hr
    go_enter Try.func11, Try.ntmps11
    go_wp2_with fail
    refine (both_any k1 v1 k2 v2 _).mono ?_
    rintro e w1 ⟨rfl, hb⟩
    have hH := (held3 w k1 v1 k2 v2).next hb
    have hB := (below3 w _ _ _).trans (hb.mono (by simp; omega))
    have HH := hH
    obtain ⟨a0, a1, b0, b1, c0, c1, f0, f1, sz⟩ := hH
    clear hb
    clear HH
    go_wp2
    refine bodyPost_ret (v := (.tuple #[.agg #[.int .i64 0, .int .i64 0], .int .i64 (ref2 k1 v1 k2 v2)])) (by simp [results, Try.results11, go_sem, c0, c1]) rfl ⟨rfl, below_box hB⟩
  obtain ⟨⟨⟨k1a, k1b⟩, v1a, v1b⟩, ⟨k2a, k2b⟩, v2a, v2b⟩ := ref2_in hr
  have hm := mul_in v1a v1b v2a v2b
  obtain ⟨hm1, hm2⟩ := hm
  by_cases hk : k1 = 0
  · have hq : proQ k1 v1 k2 v2 = mkQ k2 (v1 * v2) := by unfold proQ; rw [if_pos hr, if_pos hk]
    rw [hq]; clear hq
    subst hk
    go_enter Try.func11, Try.ntmps11
    go_wp2_with fail
    refine (both_any 0 v1 k2 v2 _).mono ?_
    rintro e w1 ⟨rfl, hb⟩
    have hH := (held3 w 0 v1 k2 v2).next hb
    have hB := (below3 w _ _ _).trans (hb.mono (by simp; omega))
    have HH := hH
    obtain ⟨a0, a1, b0, b1, c0, c1, f0, f1, sz⟩ := hH
    clear hb
    go_wp2_with fail
    refine (quantityOf_any k2 (v1 * v2) _ (by omega) (by omega)).mono ?_
    rintro e w2 ⟨rfl, hb2⟩
    have hH2 := HH.next hb2
    have hB2 := hB.trans (hb2.mono (by omega))
    clear a0 a1 b0 b1 c0 c1 f0 f1 HH
    obtain ⟨a0, a1, b0, b1, c0, c1, f0, f1, sz2⟩ := hH2
    go_wp2
    refine bodyPost_ret (v := (.tuple #[.agg #[.int .i64 (mkQ k2 (v1 * v2)).1, .int .i64 (mkQ k2 (v1 * v2)).2.1], .int .i64 (mkQ k2 (v1 * v2)).2.2])) (by simp [results, Try.results11, go_sem, c0, c1]) rfl ⟨rfl, below_box hB2⟩
  · have hn1 : (k1 == 0) = false := by simp [hk]
    have hn2 : (k1 != 0) = true := by simp [hk]
    by_cases hk2 : k2 = 0
    · have hq : proQ k1 v1 k2 v2 = mkQ k1 (v1 * v2) := by unfold proQ; rw [if_pos hr, if_neg hk, if_pos hk2]
      rw [hq]; clear hq hk
      subst hk2
      go_enter Try.func11, Try.ntmps11
      go_wp2_with fail
      refine (both_any k1 v1 0 v2 _).mono ?_
      rintro e w1 ⟨rfl, hb⟩
      have hH := (held3 w k1 v1 0 v2).next hb
      have hB := (below3 w _ _ _).trans (hb.mono (by simp; omega))
      have HH := hH
      obtain ⟨a0, a1, b0, b1, c0, c1, f0, f1, sz⟩ := hH
      clear hb
      go_wp2_with fail
      refine (quantityOf_any k1 (v1 * v2) _ (by omega) (by omega)).mono ?_
      rintro e w2 ⟨rfl, hb2⟩
      have hH2 := HH.next hb2
      have hB2 := hB.trans (hb2.mono (by omega))
      clear a0 a1 b0 b1 c0 c1 f0 f1 HH
      obtain ⟨a0, a1, b0, b1, c0, c1, f0, f1, sz2⟩ := hH2
      go_wp2
      refine bodyPost_ret (v := (.tuple #[.agg #[.int .i64 (mkQ k1 (v1 * v2)).1, .int .i64 (mkQ k1 (v1 * v2)).2.1], .int .i64 (mkQ k1 (v1 * v2)).2.2])) (by simp [results, Try.results11, go_sem, c0, c1]) rfl ⟨rfl, below_box hB2⟩
    · have hq : proQ k1 v1 k2 v2 = (0, 0, 6) := by unfold proQ; rw [if_pos hr, if_neg hk, if_neg hk2]
      rw [hq]; clear hq
      have hn3 : (k2 == 0) = false := by simp [hk2]
      have hn4 : (k2 != 0) = true := by simp [hk2]
      clear hk hk2
      go_enter Try.func11, Try.ntmps11
      go_wp2_with fail
      refine (both_any k1 v1 k2 v2 _).mono ?_
      rintro e w1 ⟨rfl, hb⟩
      have hH := (held3 w k1 v1 k2 v2).next hb
      have hB := (below3 w _ _ _).trans (hb.mono (by simp; omega))
      have HH := hH
      obtain ⟨a0, a1, b0, b1, c0, c1, f0, f1, sz⟩ := hH
      clear hb
      clear HH
      go_wp2
      refine bodyPost_ret (v := (.tuple #[.agg #[.int .i64 0, .int .i64 0], .int .i64 6])) (by simp [results, Try.results11, go_sem, c0, c1]) rfl ⟨rfl, below_box hB⟩

end Go.Proofs.Ytjlbheeipchpkaa
