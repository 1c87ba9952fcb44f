/- unit.Over and the document's QuotientOf, walked: both come to one plain function. -/
import Derived.Test.YtjlbheeipchpkaaQty3
namespace Go.Proofs.Ytjlbheeipchpkaa
open Go.RowKit

theorem quo_in {a b : Int} (h1 : -1000000000 ≤ a) (h2 : a ≤ 1000000000) : -1000000000 ≤ a.tdiv b ∧ a.tdiv b ≤ 1000000000 := by
  have h := Int.natAbs_tdiv_le_natAbs a b
  omega

set_option maxHeartbeats 1600000 in
theorem over_any (k1 v1 k2 v2 : Int) (w : World) :
    Calls Try.prog 9 #[.agg #[.int .i64 k1, .int .i64 v1], .agg #[.int .i64 k2, .int .i64 v2]] w fun e w' => e = .returned (.tuple #[.agg #[.int .i64 (quoQ k1 v1 k2 v2).1, .int .i64 (quoQ k1 v1 k2 v2).2.1], .int .i64 (quoQ k1 v1 k2 v2).2.2]) ∧ Below w.heap.size w w' := by
  by_cases hr : ref2 k1 v1 k2 v2 = 0
  rotate_left
  · have hq : quoQ k1 v1 k2 v2 = (0, 0, ref2 k1 v1 k2 v2) := if_neg hr
    rw [hq]; clear hq
    have hne : (ref2 k1 v1 k2 v2 == 0) = false := by simp [hr]
    have hne2 : (ref2 k1 v1 k2 v2 != 0) = true := by simp [hr]
    clear hr
    go_enter Try.func9, Try.ntmps9
    go_wp2_with fail
    refine (refusal2 _ k1 v1 k2 v2 _ (by go_simp) (by go_simp) (by go_simp) (by go_simp) (by simp)).mono ?_
    rintro e w1 ⟨rfl, hb⟩
    have hH := (held4 w k1 v1 k2 v2 _).next hb
    have hB := (below4 w _ _ _ _).trans (hb.mono (by simp; omega))
    have HH := hH
    obtain ⟨a0, a1, b0, b1, c0, c1, f0, f1, sz⟩ := hH
    clear hb
    clear HH
    go_wp2
    refine bodyPost_ret (v := (.tuple #[.agg #[.int .i64 0, .int .i64 0], .int .i64 (ref2 k1 v1 k2 v2)])) (by simp [results, Try.results9, go_sem, c0, c1]) rfl ⟨rfl, below_box hB⟩
  obtain ⟨⟨⟨k1a, k1b⟩, v1a, v1b⟩, ⟨k2a, k2b⟩, v2a, v2b⟩ := ref2_in hr
  obtain ⟨ht1, ht2⟩ := quo_in (b := v2) v1a v1b
  by_cases hk : k2 = 0
  · by_cases hv : v2 = 0
    · have hq : quoQ k1 v1 k2 v2 = (0, 0, 5) := by unfold quoQ; rw [if_pos hr, if_pos hk, if_pos hv]
      rw [hq]; clear hq
      subst hk hv
      go_enter Try.func9, Try.ntmps9
      go_wp2_with fail
      refine (refusal2 _ k1 v1 0 0 _ (by go_simp) (by go_simp) (by go_simp) (by go_simp) (by simp)).mono ?_
      rintro e w1 ⟨rfl, hb⟩
      have hH := (held4 w k1 v1 0 0 _).next hb
      have hB := (below4 w _ _ _ _).trans (hb.mono (by simp; omega))
      have HH := hH
      obtain ⟨a0, a1, b0, b1, c0, c1, f0, f1, sz⟩ := hH
      clear hb
      clear HH
      go_wp2
      refine bodyPost_ret (v := (.tuple #[.agg #[.int .i64 0, .int .i64 0], .int .i64 5])) (by simp [results, Try.results9, go_sem, c0, c1]) rfl ⟨rfl, below_box hB⟩
    · have hq : quoQ k1 v1 k2 v2 = mkQ k1 (v1.tdiv v2) := by unfold quoQ; rw [if_pos hr, if_pos hk, if_neg hv]
      rw [hq]; clear hq
      subst hk
      have hv0 : (v2 == 0) = false := by simp [hv]
      go_enter Try.func9, Try.ntmps9
      go_wp2_with fail
      refine (refusal2 _ k1 v1 0 v2 _ (by go_simp) (by go_simp) (by go_simp) (by go_simp) (by simp)).mono ?_
      rintro e w1 ⟨rfl, hb⟩
      have hH := (held4 w k1 v1 0 v2 _).next hb
      have hB := (below4 w _ _ _ _).trans (hb.mono (by simp; omega))
      have HH := hH
      obtain ⟨a0, a1, b0, b1, c0, c1, f0, f1, sz⟩ := hH
      clear hb
      go_wp2_with fail
      refine (quantity_any k1 (v1.tdiv v2) _).mono ?_
      rintro e w2 ⟨rfl, hb2⟩
      have hH2 := HH.next hb2
      have hB2 := hB.trans (hb2.mono (by omega))
      clear a0 a1 b0 b1 c0 c1 f0 f1 HH
      obtain ⟨a0, a1, b0, b1, c0, c1, f0, f1, sz2⟩ := hH2
      go_wp2
      refine bodyPost_ret (v := (.tuple #[.agg #[.int .i64 (mkQ k1 (v1.tdiv v2)).1, .int .i64 (mkQ k1 (v1.tdiv v2)).2.1], .int .i64 (mkQ k1 (v1.tdiv v2)).2.2])) (by simp [results, Try.results9, go_sem, c0, c1]) rfl ⟨rfl, below_box hB2⟩
  · have hn1 : (k2 == 0) = false := by simp [hk]
    by_cases hkk : k1 = k2
    · by_cases hv : v2 = 0
      · have hq : quoQ k1 v1 k2 v2 = (0, 0, 5) := by unfold quoQ; rw [if_pos hr, if_neg hk, if_pos hkk, if_pos hv]
        rw [hq]; clear hq hk
        subst hkk hv
        go_enter Try.func9, Try.ntmps9
        go_wp2_with fail
        refine (refusal2 _ k1 v1 k1 0 _ (by go_simp) (by go_simp) (by go_simp) (by go_simp) (by simp)).mono ?_
        rintro e w1 ⟨rfl, hb⟩
        have hH := (held4 w k1 v1 k1 0 _).next hb
        have hB := (below4 w _ _ _ _).trans (hb.mono (by simp; omega))
        have HH := hH
        obtain ⟨a0, a1, b0, b1, c0, c1, f0, f1, sz⟩ := hH
        clear hb
        clear HH
        go_wp2
        refine bodyPost_ret (v := (.tuple #[.agg #[.int .i64 0, .int .i64 0], .int .i64 5])) (by simp [results, Try.results9, go_sem, c0, c1]) rfl ⟨rfl, below_box hB⟩
      · have hq : quoQ k1 v1 k2 v2 = mkQ 0 (v1.tdiv v2) := by unfold quoQ; rw [if_pos hr, if_neg hk, if_pos hkk, if_neg hv]
        rw [hq]; clear hq hk
        subst hkk
        have hv0 : (v2 == 0) = false := by simp [hv]
        go_enter Try.func9, Try.ntmps9
        go_wp2_with fail
        refine (refusal2 _ k1 v1 k1 v2 _ (by go_simp) (by go_simp) (by go_simp) (by go_simp) (by simp)).mono ?_
        rintro e w1 ⟨rfl, hb⟩
        have hH := (held4 w k1 v1 k1 v2 _).next hb
        have hB := (below4 w _ _ _ _).trans (hb.mono (by simp; omega))
        have HH := hH
        obtain ⟨a0, a1, b0, b1, c0, c1, f0, f1, sz⟩ := hH
        clear hb
        go_wp2_with fail
        refine (quantity_any 0 (v1.tdiv v2) _).mono ?_
        rintro e w2 ⟨rfl, hb2⟩
        have hH2 := HH.next hb2
        have hB2 := hB.trans (hb2.mono (by omega))
        clear a0 a1 b0 b1 c0 c1 f0 f1 HH
        obtain ⟨a0, a1, b0, b1, c0, c1, f0, f1, sz2⟩ := hH2
        go_wp2
        refine bodyPost_ret (v := (.tuple #[.agg #[.int .i64 (mkQ 0 (v1.tdiv v2)).1, .int .i64 (mkQ 0 (v1.tdiv v2)).2.1], .int .i64 (mkQ 0 (v1.tdiv v2)).2.2])) (by simp [results, Try.results9, go_sem, c0, c1]) rfl ⟨rfl, below_box hB2⟩
    · have hq : quoQ k1 v1 k2 v2 = (0, 0, 6) := by unfold quoQ; rw [if_pos hr, if_neg hk, if_neg hkk]
      rw [hq]; clear hq
      have hn2 : (k2 == k1) = false := by simp; omega
      have hn3 : (k1 == k2) = false := by simp [hkk]
      have hn4 : (k1 != k2) = true := by simp [hkk]
      clear hk hkk
      go_enter Try.func9, Try.ntmps9
      go_wp2_with fail
      refine (refusal2 _ k1 v1 k2 v2 _ (by go_simp) (by go_simp) (by go_simp) (by go_simp) (by simp)).mono ?_
      rintro e w1 ⟨rfl, hb⟩
      have hH := (held4 w k1 v1 k2 v2 _).next hb
      have hB := (below4 w _ _ _ _).trans (hb.mono (by simp; omega))
      have HH := hH
      obtain ⟨a0, a1, b0, b1, c0, c1, f0, f1, sz⟩ := hH
      clear hb
      clear HH
      go_wp2
      refine bodyPost_ret (v := (.tuple #[.agg #[.int .i64 0, .int .i64 0], .int .i64 6])) (by simp [results, Try.results9, go_sem, c0, c1]) rfl ⟨rfl, below_box hB⟩

set_option maxHeartbeats 1600000 in
theorem quotientOf_any (k1 v1 k2 v2 : Int) (w : World) :
    Calls Try.prog 12 #[.agg #[.int .i64 k1, .int .i64 v1], .agg #[.int .i64 k2, .int .i64 v2]] w fun e w' => e = .returned (.tuple #[.agg #[.int .i64 (quoQ k1 v1 k2 v2).1, .int .i64 (quoQ k1 v1 k2 v2).2.1], .int .i64 (quoQ k1 v1 k2 v2).2.2]) ∧ Below w.heap.size w w' := by
  by_cases hr : ref2 k1 v1 k2 v2 = 0
  rotate_left
  · have hq : quoQ k1 v1 k2 v2 = (0, 0, ref2 k1 v1 k2 v2) := if_neg hr
    rw [hq]; clear hq
    have hne : (ref2 k1 v1 k2 v2 == 0) = false := by simp [hr]
    have hne2 : (ref2 k1 v1 k2 v2 != 0) = true := by simp [hr]
    clear hr
    go_enter Try.func12, Try.ntmps12
    go_wp2_with fail
    refine (both_any k1 v1 k2 v2 _).mono ?_
    rintro e w1 ⟨rfl, hb⟩
    have hH := (held3 w k1 v1 k2 v2).next hb
    have hB := (below3 w _ _ _).trans (hb.mono (by simp; omega))
    have HH := hH
    obtain ⟨a0, a1, b0, b1, c0, c1, f0, f1, sz⟩ := hH
    clear hb
    clear HH
    go_wp2
    refine bodyPost_ret (v := (.tuple #[.agg #[.int .i64 0, .int .i64 0], .int .i64 (ref2 k1 v1 k2 v2)])) (by simp [results, Try.results12, go_sem, c0, c1]) rfl ⟨rfl, below_box hB⟩
  obtain ⟨⟨⟨k1a, k1b⟩, v1a, v1b⟩, ⟨k2a, k2b⟩, v2a, v2b⟩ := ref2_in hr
  obtain ⟨ht1, ht2⟩ := quo_in (b := v2) v1a v1b
  by_cases hk : k2 = 0
  · by_cases hv : v2 = 0
    · have hq : quoQ k1 v1 k2 v2 = (0, 0, 5) := by unfold quoQ; rw [if_pos hr, if_pos hk, if_pos hv]
      rw [hq]; clear hq
      subst hk hv
      go_enter Try.func12, Try.ntmps12
      go_wp2_with fail
      refine (both_any k1 v1 0 0 _).mono ?_
      rintro e w1 ⟨rfl, hb⟩
      have hH := (held3 w k1 v1 0 0).next hb
      have hB := (below3 w _ _ _).trans (hb.mono (by simp; omega))
      have HH := hH
      obtain ⟨a0, a1, b0, b1, c0, c1, f0, f1, sz⟩ := hH
      clear hb
      clear HH
      go_wp2
      refine bodyPost_ret (v := (.tuple #[.agg #[.int .i64 0, .int .i64 0], .int .i64 5])) (by simp [results, Try.results12, go_sem, c0, c1]) rfl ⟨rfl, below_box hB⟩
    · have hq : quoQ k1 v1 k2 v2 = mkQ k1 (v1.tdiv v2) := by unfold quoQ; rw [if_pos hr, if_pos hk, if_neg hv]
      rw [hq]; clear hq
      subst hk
      have hv0 : (v2 == 0) = false := by simp [hv]
      go_enter Try.func12, Try.ntmps12
      go_wp2_with fail
      refine (both_any k1 v1 0 v2 _).mono ?_
      rintro e w1 ⟨rfl, hb⟩
      have hH := (held3 w k1 v1 0 v2).next hb
      have hB := (below3 w _ _ _).trans (hb.mono (by simp; omega))
      have HH := hH
      obtain ⟨a0, a1, b0, b1, c0, c1, f0, f1, sz⟩ := hH
      clear hb
      go_wp2_with fail
      refine (quantityOf_any k1 (v1.tdiv v2) _ (by omega) (by omega)).mono ?_
      rintro e w2 ⟨rfl, hb2⟩
      have hH2 := HH.next hb2
      have hB2 := hB.trans (hb2.mono (by omega))
      clear a0 a1 b0 b1 c0 c1 f0 f1 HH
      obtain ⟨a0, a1, b0, b1, c0, c1, f0, f1, sz2⟩ := hH2
      go_wp2
      refine bodyPost_ret (v := (.tuple #[.agg #[.int .i64 (mkQ k1 (v1.tdiv v2)).1, .int .i64 (mkQ k1 (v1.tdiv v2)).2.1], .int .i64 (mkQ k1 (v1.tdiv v2)).2.2])) (by simp [results, Try.results12, go_sem, c0, c1]) rfl ⟨rfl, below_box hB2⟩
  · have hn1 : (k2 == 0) = false := by simp [hk]
    by_cases hkk : k1 = k2
    · by_cases hv : v2 = 0
      · have hq : quoQ k1 v1 k2 v2 = (0, 0, 5) := by unfold quoQ; rw [if_pos hr, if_neg hk, if_pos hkk, if_pos hv]
        rw [hq]; clear hq hk
        subst hkk hv
        go_enter Try.func12, Try.ntmps12
        go_wp2_with fail
        refine (both_any k1 v1 k1 0 _).mono ?_
        rintro e w1 ⟨rfl, hb⟩
        have hH := (held3 w k1 v1 k1 0).next hb
        have hB := (below3 w _ _ _).trans (hb.mono (by simp; omega))
        have HH := hH
        obtain ⟨a0, a1, b0, b1, c0, c1, f0, f1, sz⟩ := hH
        clear hb
        clear HH
        go_wp2
        refine bodyPost_ret (v := (.tuple #[.agg #[.int .i64 0, .int .i64 0], .int .i64 5])) (by simp [results, Try.results12, go_sem, c0, c1]) rfl ⟨rfl, below_box hB⟩
      · have hq : quoQ k1 v1 k2 v2 = mkQ 0 (v1.tdiv v2) := by unfold quoQ; rw [if_pos hr, if_neg hk, if_pos hkk, if_neg hv]
        rw [hq]; clear hq hk
        subst hkk
        have hv0 : (v2 == 0) = false := by simp [hv]
        go_enter Try.func12, Try.ntmps12
        go_wp2_with fail
        refine (both_any k1 v1 k1 v2 _).mono ?_
        rintro e w1 ⟨rfl, hb⟩
        have hH := (held3 w k1 v1 k1 v2).next hb
        have hB := (below3 w _ _ _).trans (hb.mono (by simp; omega))
        have HH := hH
        obtain ⟨a0, a1, b0, b1, c0, c1, f0, f1, sz⟩ := hH
        clear hb
        go_wp2_with fail
        refine (quantityOf_any 0 (v1.tdiv v2) _ (by omega) (by omega)).mono ?_
        rintro e w2 ⟨rfl, hb2⟩
        have hH2 := HH.next hb2
        have hB2 := hB.trans (hb2.mono (by omega))
        clear a0 a1 b0 b1 c0 c1 f0 f1 HH
        obtain ⟨a0, a1, b0, b1, c0, c1, f0, f1, sz2⟩ := hH2
        go_wp2
        refine bodyPost_ret (v := (.tuple #[.agg #[.int .i64 (mkQ 0 (v1.tdiv v2)).1, .int .i64 (mkQ 0 (v1.tdiv v2)).2.1], .int .i64 (mkQ 0 (v1.tdiv v2)).2.2])) (by simp [results, Try.results12, go_sem, c0, c1]) rfl ⟨rfl, below_box hB2⟩
    · have hq : quoQ k1 v1 k2 v2 = (0, 0, 6) := by unfold quoQ; rw [if_pos hr, if_neg hk, if_neg hkk]
      rw [hq]; clear hq
      have hn2 : (k2 == k1) = false := by simp; omega
      have hn3 : (k1 == k2) = false := by simp [hkk]
      have hn4 : (k1 != k2) = true := by simp [hkk]
      clear hk hkk
      go_enter Try.func12, Try.ntmps12
      go_wp2_with fail
      refine (both_any k1 v1 k2 v2 _).mono ?_
      rintro e w1 ⟨rfl, hb⟩
      have hH := (held3 w k1 v1 k2 v2).next hb
      have hB := (below3 w _ _ _).trans (hb.mono (by simp; omega))
      have HH := hH
      obtain ⟨a0, a1, b0, b1, c0, c1, f0, f1, sz⟩ := hH
      clear hb
      clear HH
      go_wp2
      refine bodyPost_ret (v := (.tuple #[.agg #[.int .i64 0, .int .i64 0], .int .i64 6])) (by simp [results, Try.results12, go_sem, c0, c1]) rfl ⟨rfl, below_box hB⟩

end Go.Proofs.Ytjlbheeipchpkaa
