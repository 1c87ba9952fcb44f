import Derived.Test.YtcajifelbldjnaaGreatHe

/- isMeasured, middle, isRoomy walked. -/
namespace Go.Proofs.YtcajifelbldjnaaGreat
open Go.RowKit
theorem all1 {x lo hi : Int} : [x].all (inR lo hi) = inR lo hi x := by simp
theorem isMeasured_any (a : Wr) (w : World) (hr0 : 0 ≤ a.rows * a.cols) (hr1 : a.rows * a.cols ≤ 384) :
    Calls Tryz.prog 77 #[wv a] w fun e w' => e = .returned (.bool (rangeOk a)) ∧ Below w.heap.size w w' := by
  by_cases hm : 1 < a.rows * a.cols
  · have hl : loP a = 1 := if_pos hm
    by_cases hk : a.kind = 3
    · have h1 : loC a = 0 := if_pos hk
      have h2 : hiC a = 0 := if_pos hk
      have h := isMeasured_11 a w hr0 hr1 hm hk _ _ _ _ rfl rfl rfl rfl
      unfold rangeOk; rw [hl, h1, h2]; exact h
    · have h1 : loC a = 1 := if_neg hk
      have h2 : hiC a = 1000000000 := if_neg hk
      have h := isMeasured_10 a w hr0 hr1 hm (by simp [hk]) _ _ _ _ rfl rfl rfl rfl
      unfold rangeOk; rw [hl, h1, h2]; exact h
  · have hl : loP a = 0 := if_neg hm
    by_cases hk : a.kind = 3
    · have h1 : loC a = 0 := if_pos hk
      have h2 : hiC a = 0 := if_pos hk
      have h := isMeasured_01 a w hr0 hr1 (by omega) hk _ _ _ _ rfl rfl rfl rfl
      unfold rangeOk; rw [hl, h1, h2]; exact h
    · have h1 : loC a = 1 := if_neg hk
      have h2 : hiC a = 1000000000 := if_neg hk
      have h := isMeasured_00 a w hr0 hr1 (by omega) (by simp [hk]) _ _ _ _ rfl rfl rfl rfl
      unfold rangeOk; rw [hl, h1, h2]; exact h

/-- What is known of a ware whose counts and numbers are in their ranges. -/
structure InR (a : Wr) : Prop where
  r1 : 1 ≤ a.rows
  r2 : a.rows ≤ 16
  c1 : 1 ≤ a.cols
  c2 : a.cols ≤ 24
  x0 : 0 ≤ a.x
  x1 : a.x ≤ 200000
  y0 : 0 ≤ a.y
  y1 : a.y ≤ 200000
  p0 : 0 ≤ a.pitch
  p1 : a.pitch ≤ 200000
  w0 : 1 ≤ a.wid
  w1 : a.wid ≤ 200000
  l0 : 1 ≤ a.len
  l1 : a.len ≤ 200000
  h0 : 1 ≤ a.hei
  h1 : a.hei ≤ 200000
  d0 : 0 ≤ a.deep
  d1 : a.deep ≤ 200000
theorem loP_in (a : Wr) : 0 ≤ loP a := by unfold loP; split <;> decide
theorem inR_of {a : Wr} (hr : inR 1 16 a.rows = true) (hc : inR 1 24 a.cols = true) (h : rangeOk a = true) : InR a := by
  have h1 := inR_iff.1 hr
  have h2 := inR_iff.1 hc
  simp only [rangeOk, List.all_cons, List.all_nil, Bool.and_true, Bool.and_eq_true, inR_iff] at h
  obtain ⟨⟨⟨⟨hx, hy, hd⟩, hp⟩, hw, hl, hh⟩, _⟩ := h
  have := loP_in a
  exact ⟨h1.1, h1.2, h2.1, h2.2, hx.1, hx.2, hy.1, hy.2, by omega, hp.2, hw.1, hw.2, hl.1, hl.2, hh.1, hh.2, hd.1, hd.2⟩
theorem prod_in {c p : Int} (h0 : 0 ≤ c) (h1 : c ≤ 100) (h2 : 0 ≤ p) (h3 : p ≤ 200000) : 0 ≤ c * p ∧ c * p ≤ 20000000 := by
  refine ⟨Int.mul_nonneg h0 h2, ?_⟩
  have k1 : c * p ≤ c * 200000 := Int.mul_le_mul_of_nonneg_left h3 h0
  omega

theorem box3 {w : World} {b : Nat} {u0 u1 u2 : Value} (c0 : w.cell? ⟨b, 0, none⟩ = some u0) (c1 : w.cell? ⟨b, 1, none⟩ = some u1) (c2 : w.cell? ⟨b, 2, none⟩ = some u2) (x y z : Value) :
    (((w.setCell ⟨b, 0, none⟩ x).setCell ⟨b, 1, none⟩ y).setCell ⟨b, 2, none⟩ z).cell? ⟨b, 0, none⟩ = some x ∧
    (((w.setCell ⟨b, 0, none⟩ x).setCell ⟨b, 1, none⟩ y).setCell ⟨b, 2, none⟩ z).cell? ⟨b, 1, none⟩ = some y ∧
    (((w.setCell ⟨b, 0, none⟩ x).setCell ⟨b, 1, none⟩ y).setCell ⟨b, 2, none⟩ z).cell? ⟨b, 2, none⟩ = some z := by
  refine ⟨?_, ?_, ?_⟩
  all_goals simp [go_sem, c0, c1, c2]

set_option maxHeartbeats 1600000 in
theorem middle_any (a : Wr) (r c : Int) (w : World) (h : InR a) (hr0 : 0 ≤ r) (hr1 : r ≤ 100) (hc0 : 0 ≤ c) (hc1 : c ≤ 100) :
    Calls Tryz.prog 103 #[wv a, .agg #[.int .i64 r, .int .i64 c]] w fun e w' => e = .returned (.agg #[.int .i64 (a.x + c * a.pitch), .int .i64 (a.y + r * a.pitch), .int .i64 (a.hei - a.deep)]) ∧ Below w.heap.size w w' := by
  obtain ⟨r1, r2, c1, c2, x0, x1, y0, y1, p0, p1, w0, w1, l0, l1, h0, h1, d0, d1⟩ := h
  obtain ⟨m0, m1⟩ := prod_in hc0 hc1 p0 p1
  obtain ⟨n0, n1⟩ := prod_in hr0 hr1 p0 p1
  go_enter Tryz.func103, Tryz.ntmps103
  go_wp2
  refine bodyPost_ret (v := .agg #[.int .i64 (a.x + c * a.pitch), .int .i64 (a.y + r * a.pitch), .int .i64 (a.hei - a.deep)]) (by simp [results, Tryz.results103, go_sem]) rfl ⟨rfl, ?_⟩
  repeat (first | exact Below.refl _ _ | refine Below.alloc ?_ (by simp; omega) _ | refine Below.alloc ?_ (by simp) _)

/-- Is a ware great enough for its wells? -/
def roomOk (a : Wr) : Bool := decide (a.x + (a.cols - 1) * a.pitch ≤ a.wid) && (decide (a.y + (a.rows - 1) * a.pitch ≤ a.len) && decide (a.deep ≤ a.hei))

set_option maxHeartbeats 3200000 in
theorem isRoomy_any (a : Wr) (w : World) (h : InR a) :
    Calls Tryz.prog 78 #[wv a] w fun e w' => e = .returned (.bool (roomOk a)) ∧ Below w.heap.size w w' := by
  have H : Hid (InR a) := h
  obtain ⟨r1, r2, c1, c2, _, _, _, _, _, _, _, _, _, _, _, _, _, _⟩ := h
  obtain ⟨X, hX⟩ : ∃ X, X = a.x + (a.cols - 1) * a.pitch := ⟨_, rfl⟩
  obtain ⟨Y, hY⟩ : ∃ Y, Y = a.y + (a.rows - 1) * a.pitch := ⟨_, rfl⟩
  have HR : Hid (roomOk a = (decide (X ≤ a.wid) && (decide (Y ≤ a.len) && decide (a.deep ≤ a.hei)))) := by rw [hX, hY]; rfl
  rw [HR.out]
  have HM : Hid (∀ w : World, Calls Tryz.prog 103 #[wv a, .agg #[.int .i64 (a.rows - 1), .int .i64 (a.cols - 1)]] w fun e w' => e = .returned (.agg #[.int .i64 X, .int .i64 Y, .int .i64 (a.hei - a.deep)]) ∧ Below w.heap.size w w') := by
    intro w
    rw [hX, hY]
    exact middle_any a (a.rows - 1) (a.cols - 1) w H.out (by omega) (by omega) (by omega) (by omega)
  clear hX hY
  by_cases q1 : X ≤ a.wid
  · by_cases q2 : Y ≤ a.len
    · by_cases q3 : a.deep ≤ a.hei
      all_goals
        go_enter Tryz.func78, Tryz.ntmps78
        go_wp2_with fail
        refine (HM.out _).mono ?_
        rintro e w2 ⟨rfl, hb⟩
        have hB : Below w.heap.size w w2 := ((Below.refl _ _).alloc (Nat.le_refl _) _).trans (hb.mono (by simp))
        have k7 : ∀ o, (w2.alloc o).cell? ⟨w.heap.size, 7, none⟩ = some (.int .i64 a.wid) := fun o => cell_later ((Below.refl _ w2).alloc (Nat.le_refl _) o) (cell_later hb (by go_simp))
        have k8 : ∀ o, (w2.alloc o).cell? ⟨w.heap.size, 8, none⟩ = some (.int .i64 a.len) := fun o => cell_later ((Below.refl _ w2).alloc (Nat.le_refl _) o) (cell_later hb (by go_simp))
        have k9 : ∀ o, (w2.alloc o).cell? ⟨w.heap.size, 9, none⟩ = some (.int .i64 a.hei) := fun o => cell_later ((Below.refl _ w2).alloc (Nat.le_refl _) o) (cell_later hb (by go_simp))
        have k10 : ∀ o, (w2.alloc o).cell? ⟨w.heap.size, 10, none⟩ = some (.int .i64 a.deep) := fun o => cell_later ((Below.refl _ w2).alloc (Nat.le_refl _) o) (cell_later hb (by go_simp))
        go_wp2
        go_ret
        refine ⟨ret_bool ?_, hB.alloc hB.size _⟩
        simp [q1, q2]
        try omega
    · have q2' : decide (Y ≤ a.len) = false := by simp; omega
      go_enter Tryz.func78, Tryz.ntmps78
      go_wp2_with fail
      refine (HM.out _).mono ?_
      rintro e w2 ⟨rfl, hb⟩
      have hB : Below w.heap.size w w2 := ((Below.refl _ _).alloc (Nat.le_refl _) _).trans (hb.mono (by simp))
      have k7 : ∀ o, (w2.alloc o).cell? ⟨w.heap.size, 7, none⟩ = some (.int .i64 a.wid) := fun o => cell_later ((Below.refl _ w2).alloc (Nat.le_refl _) o) (cell_later hb (by go_simp))
      have k8 : ∀ o, (w2.alloc o).cell? ⟨w.heap.size, 8, none⟩ = some (.int .i64 a.len) := fun o => cell_later ((Below.refl _ w2).alloc (Nat.le_refl _) o) (cell_later hb (by go_simp))
      go_wp2
      go_ret
      exact ⟨ret_bool (by simp; omega), hB.alloc hB.size _⟩
  · have q1' : decide (X ≤ a.wid) = false := by simp; omega
    go_enter Tryz.func78, Tryz.ntmps78
    go_wp2_with fail
    refine (HM.out _).mono ?_
    rintro e w2 ⟨rfl, hb⟩
    have hB : Below w.heap.size w w2 := ((Below.refl _ _).alloc (Nat.le_refl _) _).trans (hb.mono (by simp))
    have k7 : ∀ o, (w2.alloc o).cell? ⟨w.heap.size, 7, none⟩ = some (.int .i64 a.wid) := fun o => cell_later ((Below.refl _ w2).alloc (Nat.le_refl _) o) (cell_later hb (by go_simp))
    go_wp2
    go_ret
    exact ⟨ret_bool (by simp; omega), hB.alloc hB.size _⟩

end Go.Proofs.YtcajifelbldjnaaGreat
