/- home walked. -/
import Derived.Test.YtgahlhfgpkklaaaDoorFKH
namespace Go.Proofs.YtgahlhfgpkklaaaDoor
open Go.RowKit Go.Maps

set_option linter.unusedVariables false in
def hoV (B X Y : Nat) (r : Rg) (i : Nat) (l : List Value) (w : World) : Prop :=
  match i, l with
  | 0, [v] => v = .pointer (some ⟨B, 0, none⟩)
  | 1, [v] => v = .pointer (some ⟨B, 0, none⟩)
  | 2, [v] => v = .pointer (some ⟨B, 0, none⟩)
  | 3, [v] => v = .pointer (some ⟨B, 3, none⟩)
  | 4, [v] => v = .agg #[.int .i64 r.hi.x, .int .i64 r.hi.y, .int .i64 r.hi.z]
  | 5, [v] => v = .pointer (some ⟨B, 0, none⟩)
  | 6, [v] => v = .pointer (some ⟨B, 0, none⟩)
  | 7, [v] => v = .pointer (some ⟨B, 0, none⟩)
  | 8, [v] => v = .pointer (some ⟨B, 0, none⟩)
  | 9, [v] => v = .agg #[.int .i64 r.lo.x, .int .i64 r.lo.y, .int .i64 r.lo.z]
  | 10, [] => Bk X (c3 r.hi) w
  | 11, [] => Bk Y (c3 r.lo) w
  | _, _ => True
/-- Stores into X, and into Y, leave the other words as they are. -/
theorem ho_x {B X Y : Nat} {r : Rg} {w : World} {u0 u1 u2 : Value} (hXY : X ≠ Y) (KX : Bk X [u0, u1, u2] w) (i : Nat) (l : List Value) (h : hoV B X Y r i l w) : hoV B X Y r i l (P3 w X r.hi) := by
  unfold hoV at h ⊢
  split <;> simp only [] at h <;> first | exact h | exact KX.put3 r.hi | exact Bk.oth3 h (Ne.symm hXY) r.hi
theorem ho_y {B X Y : Nat} {r : Rg} {w : World} {u0 u1 u2 : Value} (hXY : X ≠ Y) (KY : Bk Y [u0, u1, u2] w) (i : Nat) (l : List Value) (h : hoV B X Y r i l w) : hoV B X Y r i l (P3 w Y r.lo) := by
  unfold hoV at h ⊢
  split <;> simp only [] at h <;> first | exact h | exact KY.put3 r.lo | exact Bk.oth3 h hXY r.lo
theorem Bd.oth3 {B M b : Nat} {r : Rg} {f : Fm} {w : World} (h : Bd B M r f w) (h1 : B ≠ b) (h2 : M ≠ b) (p : Pt) : Bd B M r f (P3 w b p) :=
  ⟨h.bk.oth3 h1 p, h.tm.same (((Below.heap_setCell _ _ _ _ h2).trans (Below.heap_setCell _ _ _ _ h2)).trans (Below.heap_setCell _ _ _ _ h2)), h.ne⟩
theorem Kpt.p3 {S : Nat → Prop} {b : Nat} (hS : S b) (w : World) (p : Pt) : Kpt S w (P3 w b p) :=
  ⟨rfl, rfl, rfl, by simp [World.setCell], fun k _ hk => ((Below.heap_setCell _ _ _ _ (fun e => hk (by rw [e]; exact hS))).trans (Below.heap_setCell _ _ _ _ (fun e => hk (by rw [e]; exact hS)))).trans (Below.heap_setCell _ _ _ _ (fun e => hk (by rw [e]; exact hS)))⟩
/-- A board that is homed, at 0, 0, 0. -/
def homF (f : Fm) : Fm := { f with hm := true, pt := p0 }
abbrev homW (w : World) (B : Nat) : World := (((w.setCell ⟨B, 12, none⟩ (.bool true)).setCell ⟨B, 13, none⟩ (.int .i64 0)).setCell ⟨B, 14, none⟩ (.int .i64 0)).setCell ⟨B, 15, none⟩ (.int .i64 0)
theorem Bd.homed {B M : Nat} {r : Rg} {f : Fm} {w : World} (h : Bd B M r f w) : Bd B M r (homF f) (homW w B) ∧ Kpt (BM B M) w (homW w B) := by
  obtain ⟨h1, k1⟩ := h.set 12 (.bool true) (f' := { f with hm := true }) rfl
  obtain ⟨h2, k2⟩ := h1.set3 p0
  exact ⟨h2, k1.trans k2⟩
set_option maxHeartbeats 6400000 in
set_option maxRecDepth 100000 in
theorem home_ch (B M : Nat) (r : Rg) (f : Fm) (w : World) (h : Bd B M r f w) (hr : RgOk r) (hm : f.hm = true) (hf : FmOk r f) (t : Int) (ht : t = tick r f.pt p0) (hl : f.tk + t ≤ 1000000000000000) :
    Calls Tryd.prog 50 #[ptr B] w fun e w' => e = .returned (.nilIface) ∧ Bd B M r ({ homF f with tk := f.tk + t }) w' ∧ Kpt (BM B M) w w' := by
  have HN : Hid (∀ W, Bd B M r f W → Calls Tryd.prog 22 #[ptr B, v3 f.pt, v3 p0] W fun e w' => e = .returned (.tuple #[.int .i64 t, .nilIface]) ∧ Bd B M r f w' ∧ Kpt (BM B M) W w') := fun W hW => by rw [ht]; exact need_c B M r f f.pt p0 W hW hr hf.at' (in_zero hr)
  have HP : Hid (∀ W, Bd B M r (homF f) W → Calls Tryd.prog 55 #[ptr B, .int .i64 t] W fun e w' => e = .returned .nilIface ∧ Bd B M r { homF f with tk := f.tk + t } w' ∧ Kpt (BM B M) W w') := fun W hW => pass_yes B M r (homF f) t W hW hf.tk.1 hf.tk.2 (by rw [ht]; exact (tick_bd hr hf.at' (in_zero hr)).1) hl
  clear hl ht hr hf
  obtain ⟨w0, hw0⟩ : ∃ x, x = (w.alloc (o3 f.pt 23)).alloc (o3 p0 23) := ⟨_, rfl⟩
  have HB0 : Hid (Below w.heap.size w w0) := by show Below _ _ _; rw [hw0]; exact two_new _ _ _
  have KX0 : Hid (Bk w.heap.size (c3 f.pt) w0) := by show Bk _ _ _; rw [hw0]; exact (Bk.new w (c3 f.pt) 23 w.heap.size rfl).later (one_new _ _)
  have KY0 : Hid (Bk (w.heap.size + 1) (c3 p0) w0) := by show Bk _ _ _; rw [hw0]; exact Bk.new (w.alloc (o3 f.pt 23)) (c3 p0) 23 (w.heap.size + 1) (by simp)
  have HD : Hid (Bd B M r f w0) := h.later HB0.out
  have hBw : B < w.heap.size := h.bk.1
  have hMw : M < w.heap.size := h.tm.lt
  have q12 : w.cell? ⟨B, 12, none⟩ = some (.bool true) := by rw [← hm]; exact h.bk.c 12 rfl
  have q13 := h.bk.c 13 rfl
  have q14 := h.bk.c 14 rfl
  have q15 := h.bk.c 15 rfl
  obtain ⟨Y, hY⟩ : ∃ b, b = w.heap.size + 1 := ⟨_, rfl⟩
  obtain ⟨X, hX⟩ : ∃ b, b = w.heap.size := ⟨_, rfl⟩
  rw [← hY] at KY0
  rw [← hX] at KX0
  have KX : Hid (Bk X (c3 f.pt) w0) := KX0
  have KY : Hid (Bk Y (c3 p0) w0) := KY0
  have HX : Hid (B ≠ X ∧ M ≠ X ∧ B ≠ Y ∧ M ≠ Y ∧ X ≠ Y) := by show _ ∧ _; omega
  clear h hm KX0 KY0
  go_enter Tryd.func50, Tryd.ntmps50
  go_wp2_with fail
  simp only [show (w.alloc (o3 f.pt 23)).alloc (.cells #[.int .i64 0, .int .i64 0, .int .i64 0] 23) = w0 from hw0.symm, ← hY]
  try simp only [← hX]
  clear hX hY hw0 q12 q13 q14 q15 hBw hMw
  refine Calls.mono (HN.out _ HD.out) ?_
  rintro e w1 ⟨rfl, hd1, hk1⟩
  have HD1 : Hid (Bd B M r f w1) := hd1
  have HK1 : Hid (Kpt (BM B M) w w1) := (Kpt.of_below HB0.out).trans hk1
  clear hd1 hk1
  have b12 := HD1.out.bk.c 12 rfl
  have b13 := HD1.out.bk.c 13 rfl
  have b14 := HD1.out.bk.c 14 rfl
  have b15 := HD1.out.bk.c 15 rfl
  have z12 := HD1.out.bk.f 12 rfl
  have z13 := HD1.out.bk.f 13 rfl
  have z14 := HD1.out.bk.f 14 rfl
  have z15 := HD1.out.bk.f 15 rfl
  obtain ⟨w2, hw2⟩ : ∃ x, x = homW w1 B := ⟨_, rfl⟩
  have HD2 : Hid (Bd B M r (homF f) w2) := by show Bd _ _ _ _ _; rw [hw2]; exact HD1.out.homed.1
  have HK2 : Hid (Kpt (BM B M) w w2) := by show Kpt _ _ _; rw [hw2]; exact HK1.out.trans HD1.out.homed.2
  go_wp2_with fail
  simp only [← hw2]
  clear hw2
  refine Calls.mono (HP.out _ HD2.out) ?_
  rintro e w3 ⟨rfl, hd3, hk3⟩
  have HD3 : Hid (Bd B M r { homF f with tk := f.tk + t } w3) := hd3
  have HK3 : Hid (Kpt (BM B M) w w3) := HK2.out.trans hk3
  clear hd3 hk3
  go_wp2
  go_ret
  exact ⟨rfl, HD3.out, HK3.out⟩
set_option maxHeartbeats 6400000 in
set_option maxRecDepth 100000 in
theorem home_cn (B M : Nat) (r : Rg) (f : Fm) (w : World) (h : Bd B M r f w) (hr : RgOk r) (hm : f.hm = false) (hf : FmOk r f) (t : Int) (ht : t = tick r r.hi r.lo) (hl : f.tk + t ≤ 1000000000000000) :
    Calls Tryd.prog 50 #[ptr B] w fun e w' => e = .returned (.nilIface) ∧ Bd B M r ({ homF f with tk := f.tk + t }) w' ∧ Kpt (BM B M) w w' := by
  have HN : Hid (∀ W, Bd B M r f W → Calls Tryd.prog 22 #[ptr B, v3 r.hi, v3 r.lo] W fun e w' => e = .returned (.tuple #[.int .i64 t, .nilIface]) ∧ Bd B M r f w' ∧ Kpt (BM B M) W w') := fun W hW => by rw [ht]; exact need_c B M r f r.hi r.lo W hW hr (in_hi hr) (in_lo hr)
  have HP : Hid (∀ W, Bd B M r (homF f) W → Calls Tryd.prog 55 #[ptr B, .int .i64 t] W fun e w' => e = .returned .nilIface ∧ Bd B M r { homF f with tk := f.tk + t } w' ∧ Kpt (BM B M) W w') := fun W hW => pass_yes B M r (homF f) t W hW hf.tk.1 hf.tk.2 (by rw [ht]; exact (tick_bd hr (in_hi hr) (in_lo hr)).1) hl
  clear hl ht hr hf
  obtain ⟨w0, hw0⟩ : ∃ x, x = (w.alloc (o3 f.pt 23)).alloc (o3 p0 23) := ⟨_, rfl⟩
  have HB0 : Hid (Below w.heap.size w w0) := by show Below _ _ _; rw [hw0]; exact two_new _ _ _
  have KX0 : Hid (Bk w.heap.size (c3 f.pt) w0) := by show Bk _ _ _; rw [hw0]; exact (Bk.new w (c3 f.pt) 23 w.heap.size rfl).later (one_new _ _)
  have KY0 : Hid (Bk (w.heap.size + 1) (c3 p0) w0) := by show Bk _ _ _; rw [hw0]; exact Bk.new (w.alloc (o3 f.pt 23)) (c3 p0) 23 (w.heap.size + 1) (by simp)
  have HD : Hid (Bd B M r f w0) := h.later HB0.out
  have hBw : B < w.heap.size := h.bk.1
  have hMw : M < w.heap.size := h.tm.lt
  have q12 : w.cell? ⟨B, 12, none⟩ = some (.bool false) := by rw [← hm]; exact h.bk.c 12 rfl
  have q13 := h.bk.c 13 rfl
  have q14 := h.bk.c 14 rfl
  have q15 := h.bk.c 15 rfl
  obtain ⟨Y, hY⟩ : ∃ b, b = w.heap.size + 1 := ⟨_, rfl⟩
  obtain ⟨X, hX⟩ : ∃ b, b = w.heap.size := ⟨_, rfl⟩
  rw [← hY] at KY0
  rw [← hX] at KX0
  have KX : Hid (Bk X (c3 f.pt) w0) := KX0
  have KY : Hid (Bk Y (c3 p0) w0) := KY0
  have HLOW : Hid (∀ k, k < w.heap.size → ¬ (k = X ∨ k = Y)) := fun k hk e => by omega
  have HX : Hid (B ≠ X ∧ M ≠ X ∧ B ≠ Y ∧ M ≠ Y ∧ X ≠ Y) := by show _ ∧ _; omega
  clear h hm KX0 KY0
  go_enter Tryd.func50, Tryd.ntmps50
  go_wp2_with fail
  rename_i KK hkk
  have HKK := (show Hid _ from hkk)
  clear hkk
  simp only [show (w.alloc (o3 f.pt 23)).alloc (.cells #[.int .i64 0, .int .i64 0, .int .i64 0] 23) = w0 from hw0.symm, ← hY]
  try simp only [← hX]
  clear hX hY hw0 q12 q13 q14 q15 hBw hMw
  refine region_ev [false, false, false, false, false, false, false, false, false, false, false, false, false, false, false, false, false, false, false, true, true, true, true, true, true, true, true, true, true, false, false, false, false, false, false, false, false, false, false, false, false, false, false, false, false, false, false, false, false, false, false]
    [([], [19], none), ([0], [20], none), ([1], [21], none), ([2], [22], none), ([3], [23], none), ([], [24], none), ([5], [25], none), ([6], [26], none), ([7], [27], none), ([8], [28], none), ([4], [], none), ([9], [], none)]
    (hoV B X Y r) (fun _ W => Bd B M r f W ∧ (∃ u0 u1 u2, Bk X [u0, u1, u2] W) ∧ ∃ u0 u1 u2, Bk Y [u0, u1, u2] W) (Kpt (fun k => k = X ∨ k = Y) w0) (by kernel_rfl) (by kernel_rfl) (Kpt.refl _ _).drew ⟨HD.out.drew, ⟨_, _, _, KX.out.drew⟩, ⟨_, _, _, KY.out.drew⟩⟩ ?_ ?_
  · refine ⟨?_, ?_, ?_, ?_, ?_, ?_, ?_, ?_, ?_, ?_, ?_, ?_, trivial⟩
    · intro f w1 hb hJ _ K hK
      simp only [over, overL, Nat.reduceAdd]
      go_simp
      exact hK _ _ ⟨_, by simp only [over, overL, Nat.reduceAdd]; rfl, rfl, hb, hJ, fun _ h => h⟩
    · intro f w1 hb hJ ⟨h19, _⟩ K hK
      replace h19 : f 19 = _ := h19
      simp only [over, overL, Nat.reduceAdd, h19]
      go_simp
      exact hK _ _ ⟨_, by simp only [over, overL, Nat.reduceAdd, h19]; rfl, rfl, hb, hJ, fun _ h => h⟩
    · intro f w1 hb hJ ⟨h20, _⟩ K hK
      replace h20 : f 20 = _ := h20
      simp only [over, overL, Nat.reduceAdd, h20]
      go_simp
      exact hK _ _ ⟨_, by simp only [over, overL, Nat.reduceAdd, h20]; rfl, rfl, hb, hJ, fun _ h => h⟩
    · intro f w1 hb hJ ⟨h21, _⟩ K hK
      replace h21 : f 21 = _ := h21
      simp only [over, overL, Nat.reduceAdd, h21]
      go_simp
      exact hK _ _ ⟨_, by simp only [over, overL, Nat.reduceAdd, h21]; rfl, rfl, hb, hJ, fun _ h => h⟩
    · intro f w1 hb hJ ⟨h22, _⟩ K hK
      replace h22 : f 22 = _ := h22
      have q3 := hJ.1.bk.c 3 rfl
      have q4 := hJ.1.bk.c 4 rfl
      have q5 := hJ.1.bk.c 5 rfl
      simp only [over, overL, Nat.reduceAdd, h22]
      go_simp
      exact hK _ _ ⟨_, by simp only [over, overL, Nat.reduceAdd, h22]; rfl, rfl, hb, hJ, fun _ h => h⟩
    · intro f w1 hb hJ _ K hK
      simp only [over, overL, Nat.reduceAdd]
      go_simp
      exact hK _ _ ⟨_, by simp only [over, overL, Nat.reduceAdd]; rfl, rfl, hb, hJ, fun _ h => h⟩
    · intro f w1 hb hJ ⟨h24, _⟩ K hK
      replace h24 : f 24 = _ := h24
      simp only [over, overL, Nat.reduceAdd, h24]
      go_simp
      exact hK _ _ ⟨_, by simp only [over, overL, Nat.reduceAdd, h24]; rfl, rfl, hb, hJ, fun _ h => h⟩
    · intro f w1 hb hJ ⟨h25, _⟩ K hK
      replace h25 : f 25 = _ := h25
      simp only [over, overL, Nat.reduceAdd, h25]
      go_simp
      exact hK _ _ ⟨_, by simp only [over, overL, Nat.reduceAdd, h25]; rfl, rfl, hb, hJ, fun _ h => h⟩
    · intro f w1 hb hJ ⟨h26, _⟩ K hK
      replace h26 : f 26 = _ := h26
      simp only [over, overL, Nat.reduceAdd, h26]
      go_simp
      exact hK _ _ ⟨_, by simp only [over, overL, Nat.reduceAdd, h26]; rfl, rfl, hb, hJ, fun _ h => h⟩
    · intro f w1 hb hJ ⟨h27, _⟩ K hK
      replace h27 : f 27 = _ := h27
      have q0 := hJ.1.bk.c 0 rfl
      have q1 := hJ.1.bk.c 1 rfl
      have q2 := hJ.1.bk.c 2 rfl
      simp only [over, overL, Nat.reduceAdd, h27]
      go_simp
      exact hK _ _ ⟨_, by simp only [over, overL, Nat.reduceAdd, h27]; rfl, rfl, hb, hJ, fun _ h => h⟩
    · intro f w1 hb hJ ⟨h23, _⟩ K hK
      replace h23 : f 23 = _ := h23
      obtain ⟨hD, ⟨u0, u1, u2, KX⟩, KY⟩ := hJ
      have x0 := KX.c 0 rfl
      have x1 := KX.c 1 rfl
      have x2 := KX.c 2 rfl
      have y0 := KX.f 0 rfl
      have y1 := KX.f 1 rfl
      have y2 := KX.f 2 rfl
      simp only [over, overL, Nat.reduceAdd, h23]
      go_simp
      refine hK _ _ ⟨undef, by simp only [over, overL, Nat.reduceAdd, h23]; rfl, KX.put3 r.hi, hb.trans (Kpt.p3 (.inl rfl) _ _), ⟨hD.oth3 HX.out.1 HX.out.2.1 _, ⟨_, _, _, KX.put3 r.hi⟩, ?_⟩, fun j h => ho_x HX.out.2.2.2.2 KX j _ h⟩
      obtain ⟨v0, v1, v2, KY⟩ := KY
      exact ⟨_, _, _, KY.oth3 (Ne.symm HX.out.2.2.2.2) _⟩
    · intro f w1 hb hJ ⟨h28, _⟩ K hK
      replace h28 : f 28 = _ := h28
      obtain ⟨hD, KX, ⟨u0, u1, u2, KY⟩⟩ := hJ
      have x0 := KY.c 0 rfl
      have x1 := KY.c 1 rfl
      have x2 := KY.c 2 rfl
      have y0 := KY.f 0 rfl
      have y1 := KY.f 1 rfl
      have y2 := KY.f 2 rfl
      simp only [over, overL, Nat.reduceAdd, h28]
      go_simp
      refine hK _ _ ⟨undef, by simp only [over, overL, Nat.reduceAdd, h28]; rfl, KY.put3 r.lo, hb.trans (Kpt.p3 (.inr rfl) _ _), ⟨hD.oth3 HX.out.2.2.1 HX.out.2.2.2.1 _, ?_, ⟨_, _, _, KY.put3 r.lo⟩⟩, fun j h => ho_y HX.out.2.2.2.2 KY j _ h⟩
      obtain ⟨v0, v1, v2, KX⟩ := KX
      exact ⟨_, _, _, KX.oth3 HX.out.2.2.2.2 _⟩
  · intro fr w9 hk9 hJ hv
    have HD9 : Hid (Bd B M r f w9) := hJ.1
    have HK9 : Hid (Kpt (BM B M) w w9) := ⟨hk9.os.trans HB0.out.os, hk9.tape.trans HB0.out.tape, hk9.output.trans HB0.out.output, Nat.le_trans HB0.out.size hk9.size, fun k hk _ => (hk9.block k (Nat.lt_of_lt_of_le hk HB0.out.size) (HLOW.out k hk)).trans (HB0.out.block k hk)⟩
    have hx : Bk X (c3 r.hi) w9 := hv.2.2.2.2.2.2.2.2.2.2.1
    have hy : Bk Y (c3 r.lo) w9 := hv.2.2.2.2.2.2.2.2.2.2.2.1
    have x0 := hx.c 0 rfl
    have x1 := hx.c 1 rfl
    have x2 := hx.c 2 rfl
    have y0 := hy.c 0 rfl
    have y1 := hy.c 1 rfl
    have y2 := hy.c 2 rfl
    simp only [over_eq, overL, Nat.reduceAdd]
    clear hv hk9 hJ hx hy
    refine HKK.out _ _ ?_
    clear HKK
    go_wp2_with fail
    refine Calls.mono (HN.out _ HD9.out) ?_
    rintro e w1 ⟨rfl, hd1, hk1⟩
    have HD1 : Hid (Bd B M r f w1) := hd1
    have HK1 : Hid (Kpt (BM B M) w w1) := HK9.out.trans hk1
    clear hd1 hk1
    have b12 := HD1.out.bk.c 12 rfl
    have b13 := HD1.out.bk.c 13 rfl
    have b14 := HD1.out.bk.c 14 rfl
    have b15 := HD1.out.bk.c 15 rfl
    have z12 := HD1.out.bk.f 12 rfl
    have z13 := HD1.out.bk.f 13 rfl
    have z14 := HD1.out.bk.f 14 rfl
    have z15 := HD1.out.bk.f 15 rfl
    obtain ⟨w2, hw2⟩ : ∃ x, x = homW w1 B := ⟨_, rfl⟩
    have HD2 : Hid (Bd B M r (homF f) w2) := by show Bd _ _ _ _ _; rw [hw2]; exact HD1.out.homed.1
    have HK2 : Hid (Kpt (BM B M) w w2) := by show Kpt _ _ _; rw [hw2]; exact HK1.out.trans HD1.out.homed.2
    go_wp2_with fail
    simp only [← hw2]
    clear hw2
    refine Calls.mono (HP.out _ HD2.out) ?_
    rintro e w3 ⟨rfl, hd3, hk3⟩
    have HD3 : Hid (Bd B M r { homF f with tk := f.tk + t } w3) := hd3
    have HK3 : Hid (Kpt (BM B M) w w3) := HK2.out.trans hk3
    clear hd3 hk3
    go_wp2
    go_ret
    exact ⟨rfl, HD3.out, HK3.out⟩
set_option maxHeartbeats 6400000 in
set_option maxRecDepth 100000 in
theorem home_dh (a : Nat → Addr) (n : Nat) (B M : Nat) (r : Rg) (f : Fm) (w : World) (h : Bd B M r f w) (hg : Gl a n w) (hB : n ≤ B) (hM : n ≤ M) (hr : RgOk r) (hm : f.hm = true) (hf : FmOk r f) (t : Int) (ht : t = tick r f.pt p0) (hl : 1000000000000000 < f.tk + t) :
    Calls Tryd.prog 50 #[ptr B] w fun e w' => e = .returned (.iface 109 (.pointer (some (a 7)))) ∧ Bd B M r (homF f) w' ∧ Kpt (BM B M) w w' := by
  have HN : Hid (∀ W, Bd B M r f W → Calls Tryd.prog 22 #[ptr B, v3 f.pt, v3 p0] W fun e w' => e = .returned (.tuple #[.int .i64 t, .nilIface]) ∧ Bd B M r f w' ∧ Kpt (BM B M) W w') := fun W hW => by rw [ht]; exact need_c B M r f f.pt p0 W hW hr hf.at' (in_zero hr)
  have HP : Hid (∀ W, Bd B M r (homF f) W → Kpt (BM B M) w W → Calls Tryd.prog 55 #[ptr B, .int .i64 t] W fun e w' => e = .returned (.iface 109 (.pointer (some (a 7)))) ∧ w' = W) := fun W hW hk => pass_no a n B M r (homF f) t W hW (hg.onB hk hB hM) hf.tk.1 hf.tk.2 hl
  clear hl ht hr hf hg
  obtain ⟨w0, hw0⟩ : ∃ x, x = (w.alloc (o3 f.pt 23)).alloc (o3 p0 23) := ⟨_, rfl⟩
  have HB0 : Hid (Below w.heap.size w w0) := by show Below _ _ _; rw [hw0]; exact two_new _ _ _
  have KX0 : Hid (Bk w.heap.size (c3 f.pt) w0) := by show Bk _ _ _; rw [hw0]; exact (Bk.new w (c3 f.pt) 23 w.heap.size rfl).later (one_new _ _)
  have KY0 : Hid (Bk (w.heap.size + 1) (c3 p0) w0) := by show Bk _ _ _; rw [hw0]; exact Bk.new (w.alloc (o3 f.pt 23)) (c3 p0) 23 (w.heap.size + 1) (by simp)
  have HD : Hid (Bd B M r f w0) := h.later HB0.out
  have hBw : B < w.heap.size := h.bk.1
  have hMw : M < w.heap.size := h.tm.lt
  have q12 : w.cell? ⟨B, 12, none⟩ = some (.bool true) := by rw [← hm]; exact h.bk.c 12 rfl
  have q13 := h.bk.c 13 rfl
  have q14 := h.bk.c 14 rfl
  have q15 := h.bk.c 15 rfl
  obtain ⟨Y, hY⟩ : ∃ b, b = w.heap.size + 1 := ⟨_, rfl⟩
  obtain ⟨X, hX⟩ : ∃ b, b = w.heap.size := ⟨_, rfl⟩
  rw [← hY] at KY0
  rw [← hX] at KX0
  have KX : Hid (Bk X (c3 f.pt) w0) := KX0
  have KY : Hid (Bk Y (c3 p0) w0) := KY0
  have HX : Hid (B ≠ X ∧ M ≠ X ∧ B ≠ Y ∧ M ≠ Y ∧ X ≠ Y) := by show _ ∧ _; omega
  clear h hm KX0 KY0
  go_enter Tryd.func50, Tryd.ntmps50
  go_wp2_with fail
  simp only [show (w.alloc (o3 f.pt 23)).alloc (.cells #[.int .i64 0, .int .i64 0, .int .i64 0] 23) = w0 from hw0.symm, ← hY]
  try simp only [← hX]
  clear hX hY hw0 q12 q13 q14 q15 hBw hMw
  refine Calls.mono (HN.out _ HD.out) ?_
  rintro e w1 ⟨rfl, hd1, hk1⟩
  have HD1 : Hid (Bd B M r f w1) := hd1
  have HK1 : Hid (Kpt (BM B M) w w1) := (Kpt.of_below HB0.out).trans hk1
  clear hd1 hk1
  have b12 := HD1.out.bk.c 12 rfl
  have b13 := HD1.out.bk.c 13 rfl
  have b14 := HD1.out.bk.c 14 rfl
  have b15 := HD1.out.bk.c 15 rfl
  have z12 := HD1.out.bk.f 12 rfl
  have z13 := HD1.out.bk.f 13 rfl
  have z14 := HD1.out.bk.f 14 rfl
  have z15 := HD1.out.bk.f 15 rfl
  obtain ⟨w2, hw2⟩ : ∃ x, x = homW w1 B := ⟨_, rfl⟩
  have HD2 : Hid (Bd B M r (homF f) w2) := by show Bd _ _ _ _ _; rw [hw2]; exact HD1.out.homed.1
  have HK2 : Hid (Kpt (BM B M) w w2) := by show Kpt _ _ _; rw [hw2]; exact HK1.out.trans HD1.out.homed.2
  go_wp2_with fail
  simp only [← hw2]
  clear hw2
  refine Calls.mono (HP.out _ HD2.out HK2.out) ?_
  rintro e w3 ⟨rfl, hd3⟩
  subst hd3
  go_wp2
  go_ret
  exact ⟨rfl, HD2.out, HK2.out⟩
set_option maxHeartbeats 6400000 in
set_option maxRecDepth 100000 in
theorem home_dn (a : Nat → Addr) (n : Nat) (B M : Nat) (r : Rg) (f : Fm) (w : World) (h : Bd B M r f w) (hg : Gl a n w) (hB : n ≤ B) (hM : n ≤ M) (hr : RgOk r) (hm : f.hm = false) (hf : FmOk r f) (t : Int) (ht : t = tick r r.hi r.lo) (hl : 1000000000000000 < f.tk + t) :
    Calls Tryd.prog 50 #[ptr B] w fun e w' => e = .returned (.iface 109 (.pointer (some (a 7)))) ∧ Bd B M r (homF f) w' ∧ Kpt (BM B M) w w' := by
  have HN : Hid (∀ W, Bd B M r f W → Calls Tryd.prog 22 #[ptr B, v3 r.hi, v3 r.lo] W fun e w' => e = .returned (.tuple #[.int .i64 t, .nilIface]) ∧ Bd B M r f w' ∧ Kpt (BM B M) W w') := fun W hW => by rw [ht]; exact need_c B M r f r.hi r.lo W hW hr (in_hi hr) (in_lo hr)
  have HP : Hid (∀ W, Bd B M r (homF f) W → Kpt (BM B M) w W → Calls Tryd.prog 55 #[ptr B, .int .i64 t] W fun e w' => e = .returned (.iface 109 (.pointer (some (a 7)))) ∧ w' = W) := fun W hW hk => pass_no a n B M r (homF f) t W hW (hg.onB hk hB hM) hf.tk.1 hf.tk.2 hl
  clear hl ht hr hf hg
  obtain ⟨w0, hw0⟩ : ∃ x, x = (w.alloc (o3 f.pt 23)).alloc (o3 p0 23) := ⟨_, rfl⟩
  have HB0 : Hid (Below w.heap.size w w0) := by show Below _ _ _; rw [hw0]; exact two_new _ _ _
  have KX0 : Hid (Bk w.heap.size (c3 f.pt) w0) := by show Bk _ _ _; rw [hw0]; exact (Bk.new w (c3 f.pt) 23 w.heap.size rfl).later (one_new _ _)
  have KY0 : Hid (Bk (w.heap.size + 1) (c3 p0) w0) := by show Bk _ _ _; rw [hw0]; exact Bk.new (w.alloc (o3 f.pt 23)) (c3 p0) 23 (w.heap.size + 1) (by simp)
  have HD : Hid (Bd B M r f w0) := h.later HB0.out
  have hBw : B < w.heap.size := h.bk.1
  have hMw : M < w.heap.size := h.tm.lt
  have q12 : w.cell? ⟨B, 12, none⟩ = some (.bool false) := by rw [← hm]; exact h.bk.c 12 rfl
  have q13 := h.bk.c 13 rfl
  have q14 := h.bk.c 14 rfl
  have q15 := h.bk.c 15 rfl
  obtain ⟨Y, hY⟩ : ∃ b, b = w.heap.size + 1 := ⟨_, rfl⟩
  obtain ⟨X, hX⟩ : ∃ b, b = w.heap.size := ⟨_, rfl⟩
  rw [← hY] at KY0
  rw [← hX] at KX0
  have KX : Hid (Bk X (c3 f.pt) w0) := KX0
  have KY : Hid (Bk Y (c3 p0) w0) := KY0
  have HLOW : Hid (∀ k, k < w.heap.size → ¬ (k = X ∨ k = Y)) := fun k hk e => by omega
  have HX : Hid (B ≠ X ∧ M ≠ X ∧ B ≠ Y ∧ M ≠ Y ∧ X ≠ Y) := by show _ ∧ _; omega
  clear h hm KX0 KY0
  go_enter Tryd.func50, Tryd.ntmps50
  go_wp2_with fail
  rename_i KK hkk
  have HKK := (show Hid _ from hkk)
  clear hkk
  simp only [show (w.alloc (o3 f.pt 23)).alloc (.cells #[.int .i64 0, .int .i64 0, .int .i64 0] 23) = w0 from hw0.symm, ← hY]
  try simp only [← hX]
  clear hX hY hw0 q12 q13 q14 q15 hBw hMw
  refine region_ev [false, false, false, false, false, false, false, false, false, false, false, false, false, false, false, false, false, false, false, true, true, true, true, true, true, true, true, true, true, false, false, false, false, false, false, false, false, false, false, false, false, false, false, false, false, false, false, false, false, false, false]
    [([], [19], none), ([0], [20], none), ([1], [21], none), ([2], [22], none), ([3], [23], none), ([], [24], none), ([5], [25], none), ([6], [26], none), ([7], [27], none), ([8], [28], none), ([4], [], none), ([9], [], none)]
    (hoV B X Y r) (fun _ W => Bd B M r f W ∧ (∃ u0 u1 u2, Bk X [u0, u1, u2] W) ∧ ∃ u0 u1 u2, Bk Y [u0, u1, u2] W) (Kpt (fun k => k = X ∨ k = Y) w0) (by kernel_rfl) (by kernel_rfl) (Kpt.refl _ _).drew ⟨HD.out.drew, ⟨_, _, _, KX.out.drew⟩, ⟨_, _, _, KY.out.drew⟩⟩ ?_ ?_
  · refine ⟨?_, ?_, ?_, ?_, ?_, ?_, ?_, ?_, ?_, ?_, ?_, ?_, trivial⟩
    · intro f w1 hb hJ _ K hK
      simp only [over, overL, Nat.reduceAdd]
      go_simp
      exact hK _ _ ⟨_, by simp only [over, overL, Nat.reduceAdd]; rfl, rfl, hb, hJ, fun _ h => h⟩
    · intro f w1 hb hJ ⟨h19, _⟩ K hK
      replace h19 : f 19 = _ := h19
      simp only [over, overL, Nat.reduceAdd, h19]
      go_simp
      exact hK _ _ ⟨_, by simp only [over, overL, Nat.reduceAdd, h19]; rfl, rfl, hb, hJ, fun _ h => h⟩
    · intro f w1 hb hJ ⟨h20, _⟩ K hK
      replace h20 : f 20 = _ := h20
      simp only [over, overL, Nat.reduceAdd, h20]
      go_simp
      exact hK _ _ ⟨_, by simp only [over, overL, Nat.reduceAdd, h20]; rfl, rfl, hb, hJ, fun _ h => h⟩
    · intro f w1 hb hJ ⟨h21, _⟩ K hK
      replace h21 : f 21 = _ := h21
      simp only [over, overL, Nat.reduceAdd, h21]
      go_simp
      exact hK _ _ ⟨_, by simp only [over, overL, Nat.reduceAdd, h21]; rfl, rfl, hb, hJ, fun _ h => h⟩
    · intro f w1 hb hJ ⟨h22, _⟩ K hK
      replace h22 : f 22 = _ := h22
      have q3 := hJ.1.bk.c 3 rfl
      have q4 := hJ.1.bk.c 4 rfl
      have q5 := hJ.1.bk.c 5 rfl
      simp only [over, overL, Nat.reduceAdd, h22]
      go_simp
      exact hK _ _ ⟨_, by simp only [over, overL, Nat.reduceAdd, h22]; rfl, rfl, hb, hJ, fun _ h => h⟩
    · intro f w1 hb hJ _ K hK
      simp only [over, overL, Nat.reduceAdd]
      go_simp
      exact hK _ _ ⟨_, by simp only [over, overL, Nat.reduceAdd]; rfl, rfl, hb, hJ, fun _ h => h⟩
    · intro f w1 hb hJ ⟨h24, _⟩ K hK
      replace h24 : f 24 = _ := h24
      simp only [over, overL, Nat.reduceAdd, h24]
      go_simp
      exact hK _ _ ⟨_, by simp only [over, overL, Nat.reduceAdd, h24]; rfl, rfl, hb, hJ, fun _ h => h⟩
    · intro f w1 hb hJ ⟨h25, _⟩ K hK
      replace h25 : f 25 = _ := h25
      simp only [over, overL, Nat.reduceAdd, h25]
      go_simp
      exact hK _ _ ⟨_, by simp only [over, overL, Nat.reduceAdd, h25]; rfl, rfl, hb, hJ, fun _ h => h⟩
    · intro f w1 hb hJ ⟨h26, _⟩ K hK
      replace h26 : f 26 = _ := h26
      simp only [over, overL, Nat.reduceAdd, h26]
      go_simp
      exact hK _ _ ⟨_, by simp only [over, overL, Nat.reduceAdd, h26]; rfl, rfl, hb, hJ, fun _ h => h⟩
    · intro f w1 hb hJ ⟨h27, _⟩ K hK
      replace h27 : f 27 = _ := h27
      have q0 := hJ.1.bk.c 0 rfl
      have q1 := hJ.1.bk.c 1 rfl
      have q2 := hJ.1.bk.c 2 rfl
      simp only [over, overL, Nat.reduceAdd, h27]
      go_simp
      exact hK _ _ ⟨_, by simp only [over, overL, Nat.reduceAdd, h27]; rfl, rfl, hb, hJ, fun _ h => h⟩
    · intro f w1 hb hJ ⟨h23, _⟩ K hK
      replace h23 : f 23 = _ := h23
      obtain ⟨hD, ⟨u0, u1, u2, KX⟩, KY⟩ := hJ
      have x0 := KX.c 0 rfl
      have x1 := KX.c 1 rfl
      have x2 := KX.c 2 rfl
      have y0 := KX.f 0 rfl
      have y1 := KX.f 1 rfl
      have y2 := KX.f 2 rfl
      simp only [over, overL, Nat.reduceAdd, h23]
      go_simp
      refine hK _ _ ⟨undef, by simp only [over, overL, Nat.reduceAdd, h23]; rfl, KX.put3 r.hi, hb.trans (Kpt.p3 (.inl rfl) _ _), ⟨hD.oth3 HX.out.1 HX.out.2.1 _, ⟨_, _, _, KX.put3 r.hi⟩, ?_⟩, fun j h => ho_x HX.out.2.2.2.2 KX j _ h⟩
      obtain ⟨v0, v1, v2, KY⟩ := KY
      exact ⟨_, _, _, KY.oth3 (Ne.symm HX.out.2.2.2.2) _⟩
    · intro f w1 hb hJ ⟨h28, _⟩ K hK
      replace h28 : f 28 = _ := h28
      obtain ⟨hD, KX, ⟨u0, u1, u2, KY⟩⟩ := hJ
      have x0 := KY.c 0 rfl
      have x1 := KY.c 1 rfl
      have x2 := KY.c 2 rfl
      have y0 := KY.f 0 rfl
      have y1 := KY.f 1 rfl
      have y2 := KY.f 2 rfl
      simp only [over, overL, Nat.reduceAdd, h28]
      go_simp
      refine hK _ _ ⟨undef, by simp only [over, overL, Nat.reduceAdd, h28]; rfl, KY.put3 r.lo, hb.trans (Kpt.p3 (.inr rfl) _ _), ⟨hD.oth3 HX.out.2.2.1 HX.out.2.2.2.1 _, ?_, ⟨_, _, _, KY.put3 r.lo⟩⟩, fun j h => ho_y HX.out.2.2.2.2 KY j _ h⟩
      obtain ⟨v0, v1, v2, KX⟩ := KX
      exact ⟨_, _, _, KX.oth3 HX.out.2.2.2.2 _⟩
  · intro fr w9 hk9 hJ hv
    have HD9 : Hid (Bd B M r f w9) := hJ.1
    have HK9 : Hid (Kpt (BM B M) w w9) := ⟨hk9.os.trans HB0.out.os, hk9.tape.trans HB0.out.tape, hk9.output.trans HB0.out.output, Nat.le_trans HB0.out.size hk9.size, fun k hk _ => (hk9.block k (Nat.lt_of_lt_of_le hk HB0.out.size) (HLOW.out k hk)).trans (HB0.out.block k hk)⟩
    have hx : Bk X (c3 r.hi) w9 := hv.2.2.2.2.2.2.2.2.2.2.1
    have hy : Bk Y (c3 r.lo) w9 := hv.2.2.2.2.2.2.2.2.2.2.2.1
    have x0 := hx.c 0 rfl
    have x1 := hx.c 1 rfl
    have x2 := hx.c 2 rfl
    have y0 := hy.c 0 rfl
    have y1 := hy.c 1 rfl
    have y2 := hy.c 2 rfl
    simp only [over_eq, overL, Nat.reduceAdd]
    clear hv hk9 hJ hx hy
    refine HKK.out _ _ ?_
    clear HKK
    go_wp2_with fail
    refine Calls.mono (HN.out _ HD9.out) ?_
    rintro e w1 ⟨rfl, hd1, hk1⟩
    have HD1 : Hid (Bd B M r f w1) := hd1
    have HK1 : Hid (Kpt (BM B M) w w1) := HK9.out.trans hk1
    clear hd1 hk1
    have b12 := HD1.out.bk.c 12 rfl
    have b13 := HD1.out.bk.c 13 rfl
    have b14 := HD1.out.bk.c 14 rfl
    have b15 := HD1.out.bk.c 15 rfl
    have z12 := HD1.out.bk.f 12 rfl
    have z13 := HD1.out.bk.f 13 rfl
    have z14 := HD1.out.bk.f 14 rfl
    have z15 := HD1.out.bk.f 15 rfl
    obtain ⟨w2, hw2⟩ : ∃ x, x = homW w1 B := ⟨_, rfl⟩
    have HD2 : Hid (Bd B M r (homF f) w2) := by show Bd _ _ _ _ _; rw [hw2]; exact HD1.out.homed.1
    have HK2 : Hid (Kpt (BM B M) w w2) := by show Kpt _ _ _; rw [hw2]; exact HK1.out.trans HD1.out.homed.2
    go_wp2_with fail
    simp only [← hw2]
    clear hw2
    refine Calls.mono (HP.out _ HD2.out HK2.out) ?_
    rintro e w3 ⟨rfl, hd3⟩
    subst hd3
    go_wp2
    go_ret
    exact ⟨rfl, HD2.out, HK2.out⟩
end Go.Proofs.YtgahlhfgpkklaaaDoor
