/- BoxMoved, BoxHull walked. -/
import Derived.Test.YtiafcgbohckmmaaRefB
namespace Go.Proofs.Ytiafcgbohckmmaa
open Go.RowKit

def BoxMovedV (a : Bx) (p : Pt) (n : Nat) (d : Nat) (v : Value) (_w : World) : Prop :=
  match d with
  | 5 => v = .pointer (some ⟨n, 0, none⟩)
  | 6 => v = pv a.lo
  | 7 => v = pv p
  | 8 => v = pv (addP a.lo p)
  | 9 => v = .pointer (some ⟨n, 3, none⟩)
  | 10 => v = pv a.hi
  | 11 => v = pv p
  | 12 => v = pv (addP a.hi p)
  | 13 => v = bv (movB a p)
  | _ => True
set_option maxHeartbeats 3200000 in
set_option maxRecDepth 100000 in
theorem BoxMoved_any (a : Bx) (p : Pt) (w : World) (ha : SmB a) (hp : SmP p) :
    Calls Try.prog 17 #[bv a, pv p] w fun e w' => e = .returned (bv (movB a p)) ∧ Below w.heap.size w w' := by
  obtain ⟨w0, hw0⟩ : ∃ w0, w0 = ((w.alloc (bo a)).alloc (po p)).alloc (bo zB) := ⟨_, rfl⟩
  have HW0 : Hid (w0 = ((w.alloc (bo a)).alloc (po p)).alloc (bo zB)) := hw0
  have HB0 : Hid (Below w.heap.size w w0) := by
    show Below _ _ _
    rw [hw0]
    exact (((Below.refl _ _).alloc (Nat.le_refl _) _).alloc (by simp) _).alloc (by simp; omega) _
  have HR : Hid (Bf (w.heap.size + 1 + 1) zB w0) := by
    show Bf _ _ _
    rw [hw0]
    have h := Bf.new ((w.alloc (bo a)).alloc (po p)) zB
    simpa using h
  clear hw0
  go_enter Try.func17, Try.ntmps17
  go_wp2_with fail
  rw [← HW0.out]
  have plx : w0.cell? ⟨w.heap.size, 0, none⟩ = some (.int .i64 a.lx) := by rw [HW0.out]; go_simp
  have ply : w0.cell? ⟨w.heap.size, 1, none⟩ = some (.int .i64 a.ly) := by rw [HW0.out]; go_simp
  have plz : w0.cell? ⟨w.heap.size, 2, none⟩ = some (.int .i64 a.lz) := by rw [HW0.out]; go_simp
  have phx : w0.cell? ⟨w.heap.size, 3, none⟩ = some (.int .i64 a.hx) := by rw [HW0.out]; go_simp
  have phy : w0.cell? ⟨w.heap.size, 4, none⟩ = some (.int .i64 a.hy) := by rw [HW0.out]; go_simp
  have phz : w0.cell? ⟨w.heap.size, 5, none⟩ = some (.int .i64 a.hz) := by rw [HW0.out]; go_simp
  have qx : w0.cell? ⟨w.heap.size + 1, 0, none⟩ = some (.int .i64 p.x) := by rw [HW0.out]; go_simp
  have qy : w0.cell? ⟨w.heap.size + 1, 1, none⟩ = some (.int .i64 p.y) := by rw [HW0.out]; go_simp
  have qz : w0.cell? ⟨w.heap.size + 1, 2, none⟩ = some (.int .i64 p.z) := by rw [HW0.out]; go_simp
  refine region_seq 9 [false, false, false, false, false, true, true, true, true, true, true, true, true, true]
    [(5, [], none), (6, [5], none), (7, [], none), (8, [6, 7], none), (9, [], none), (10, [9], none), (11, [], none), (12, [10, 11], none), (13, [8, 12], none)]
    (BoxMovedV a p w.heap.size) (by kernel_rfl) (by kernel_rfl) (by kernel_rfl) (by kernel_rfl) (by kernel_rfl) (by decide) (fun _ _ _ _ h _ => h) ?_ ?_
  · refine ⟨?_, ?_, ?_, ?_, ?_, ?_, ?_, ?_, ?_, trivial⟩
    · intro f w1 hb _ K hK
      simp only [over, overL, Nat.reduceAdd]
      go_simp
      exact hK _ _ ⟨_, rfl, by simp only [over, overL, Nat.reduceAdd]; rfl, Below.refl _ _⟩
    · intro f w1 hb ⟨h5, _⟩ K hK
      have h5 : f 5 = _ := h5
      have cplx := cell_later hb plx
      have cply := cell_later hb ply
      have cplz := cell_later hb plz
      simp only [over, overL, Nat.reduceAdd, h5]
      go_simp
      exact hK _ _ ⟨_, rfl, by simp only [over, overL, Nat.reduceAdd, h5]; rfl, Below.refl _ _⟩
    · intro f w1 hb _ K hK
      have cqx := cell_later hb qx
      have cqy := cell_later hb qy
      have cqz := cell_later hb qz
      simp only [over, overL, Nat.reduceAdd]
      go_simp
      exact hK _ _ ⟨_, rfl, by simp only [over, overL, Nat.reduceAdd]; rfl, Below.refl _ _⟩
    · intro f w1 hb ⟨h6, h7, _⟩ K hK
      have h6 : f 6 = _ := h6
      have h7 : f 7 = _ := h7
      simp only [over, overL, Nat.reduceAdd, h6, h7]
      go_simp
      refine (PointSum_any a.lo p w1 ha.1 hp).mono ?_
      rintro e w2 ⟨rfl, hbn⟩
      exact hK _ _ ⟨_, rfl, by simp only [over, overL, Nat.reduceAdd, h6, h7]; rfl, hbn⟩
    · intro f w1 hb _ K hK
      simp only [over, overL, Nat.reduceAdd]
      go_simp
      exact hK _ _ ⟨_, rfl, by simp only [over, overL, Nat.reduceAdd]; rfl, Below.refl _ _⟩
    · intro f w1 hb ⟨h9, _⟩ K hK
      have h9 : f 9 = _ := h9
      have cphx := cell_later hb phx
      have cphy := cell_later hb phy
      have cphz := cell_later hb phz
      simp only [over, overL, Nat.reduceAdd, h9]
      go_simp
      exact hK _ _ ⟨_, rfl, by simp only [over, overL, Nat.reduceAdd, h9]; rfl, Below.refl _ _⟩
    · intro f w1 hb _ K hK
      have cqx := cell_later hb qx
      have cqy := cell_later hb qy
      have cqz := cell_later hb qz
      simp only [over, overL, Nat.reduceAdd]
      go_simp
      exact hK _ _ ⟨_, rfl, by simp only [over, overL, Nat.reduceAdd]; rfl, Below.refl _ _⟩
    · intro f w1 hb ⟨h10, h11, _⟩ K hK
      have h10 : f 10 = _ := h10
      have h11 : f 11 = _ := h11
      simp only [over, overL, Nat.reduceAdd, h10, h11]
      go_simp
      refine (PointSum_any a.hi p w1 ha.2 hp).mono ?_
      rintro e w2 ⟨rfl, hbn⟩
      exact hK _ _ ⟨_, rfl, by simp only [over, overL, Nat.reduceAdd, h10, h11]; rfl, hbn⟩
    · intro f w1 hb ⟨h8, h12, _⟩ K hK
      have h8 : f 8 = _ := h8
      have h12 : f 12 = _ := h12
      simp only [over, overL, Nat.reduceAdd, h8, h12]
      go_simp
      exact hK _ _ ⟨_, rfl, by simp only [over, overL, Nat.reduceAdd, h8, h12]; rfl, Below.refl _ _⟩
  intro f w1 hb1 h
  have hl : f 13 = bv (movB a p) := h.2.2.2.2.2.2.2.2.1
  have hR := HR.out.later hb1
  obtain ⟨⟨_, r0, r1, r2, r3, r4, r5⟩, f0, f1, f2, f3, f4, f5⟩ := hR
  simp only [Nat.zero_add] at r1 r2 r3 r4 r5
  have HB : Hid (Below w.heap.size w w1) := HB0.out.trans (hb1.mono HB0.out.size)
  clear hb1 h
  simp only [over_eq, overL, hl, Nat.reduceAdd, List.drop_succ_cons, List.drop_zero]
  go_wp2
  refine bodyPost_ret (v := bv (movB a p)) (by simp [results, Try.results17, go_sem, r0, r1, r2, r3, r4, r5]) rfl ⟨rfl, ?_⟩
  exact below_put6 HB.out (by omega)

def BoxHullV (a b : Bx) (n : Nat) (d : Nat) (v : Value) (_w : World) : Prop :=
  match d with
  | 5 => v = .pointer (some ⟨n, 0, none⟩)
  | 6 => v = .pointer (some ⟨n, 0, none⟩)
  | 7 => v = .int .i64 a.lx
  | 8 => v = .pointer (some ⟨n + 1, 0, none⟩)
  | 9 => v = .pointer (some ⟨n + 1, 0, none⟩)
  | 10 => v = .int .i64 b.lx
  | 11 => v = .int .i64 (min a.lx b.lx)
  | 12 => v = .pointer (some ⟨n, 0, none⟩)
  | 13 => v = .pointer (some ⟨n, 1, none⟩)
  | 14 => v = .int .i64 a.ly
  | 15 => v = .pointer (some ⟨n + 1, 0, none⟩)
  | 16 => v = .pointer (some ⟨n + 1, 1, none⟩)
  | 17 => v = .int .i64 b.ly
  | 18 => v = .int .i64 (min a.ly b.ly)
  | 19 => v = .pointer (some ⟨n, 0, none⟩)
  | 20 => v = .pointer (some ⟨n, 2, none⟩)
  | 21 => v = .int .i64 a.lz
  | 22 => v = .pointer (some ⟨n + 1, 0, none⟩)
  | 23 => v = .pointer (some ⟨n + 1, 2, none⟩)
  | 24 => v = .int .i64 b.lz
  | 25 => v = .int .i64 (min a.lz b.lz)
  | 26 => v = pv (minP a.lo b.lo)
  | 27 => v = .pointer (some ⟨n, 3, none⟩)
  | 28 => v = .pointer (some ⟨n, 3, none⟩)
  | 29 => v = .int .i64 a.hx
  | 30 => v = .pointer (some ⟨n + 1, 3, none⟩)
  | 31 => v = .pointer (some ⟨n + 1, 3, none⟩)
  | 32 => v = .int .i64 b.hx
  | 33 => v = .int .i64 (max a.hx b.hx)
  | 34 => v = .pointer (some ⟨n, 3, none⟩)
  | 35 => v = .pointer (some ⟨n, 4, none⟩)
  | 36 => v = .int .i64 a.hy
  | 37 => v = .pointer (some ⟨n + 1, 3, none⟩)
  | 38 => v = .pointer (some ⟨n + 1, 4, none⟩)
  | 39 => v = .int .i64 b.hy
  | 40 => v = .int .i64 (max a.hy b.hy)
  | 41 => v = .pointer (some ⟨n, 3, none⟩)
  | 42 => v = .pointer (some ⟨n, 5, none⟩)
  | 43 => v = .int .i64 a.hz
  | 44 => v = .pointer (some ⟨n + 1, 3, none⟩)
  | 45 => v = .pointer (some ⟨n + 1, 5, none⟩)
  | 46 => v = .int .i64 b.hz
  | 47 => v = .int .i64 (max a.hz b.hz)
  | 48 => v = pv (maxP a.hi b.hi)
  | 49 => v = bv (hullB a b)
  | _ => True
set_option maxHeartbeats 3200000 in
set_option maxRecDepth 100000 in
theorem BoxHull_any (a b : Bx) (w : World) :
    Calls Try.prog 15 #[bv a, bv b] w fun e w' => e = .returned (bv (hullB a b)) ∧ Below w.heap.size w w' := by
  obtain ⟨w0, hw0⟩ : ∃ w0, w0 = ((w.alloc (bo a)).alloc (bo b)).alloc (bo zB) := ⟨_, rfl⟩
  have HW0 : Hid (w0 = ((w.alloc (bo a)).alloc (bo b)).alloc (bo zB)) := hw0
  have HB0 : Hid (Below w.heap.size w w0) := by
    show Below _ _ _
    rw [hw0]
    exact (((Below.refl _ _).alloc (Nat.le_refl _) _).alloc (by simp) _).alloc (by simp; omega) _
  have HR : Hid (Bf (w.heap.size + 1 + 1) zB w0) := by
    show Bf _ _ _
    rw [hw0]
    have h := Bf.new ((w.alloc (bo a)).alloc (bo b)) zB
    simpa using h
  clear hw0
  go_enter Try.func15, Try.ntmps15
  go_wp2_with fail
  rw [← HW0.out]
  have plx : w0.cell? ⟨w.heap.size, 0, none⟩ = some (.int .i64 a.lx) := by rw [HW0.out]; go_simp
  have ply : w0.cell? ⟨w.heap.size, 1, none⟩ = some (.int .i64 a.ly) := by rw [HW0.out]; go_simp
  have plz : w0.cell? ⟨w.heap.size, 2, none⟩ = some (.int .i64 a.lz) := by rw [HW0.out]; go_simp
  have phx : w0.cell? ⟨w.heap.size, 3, none⟩ = some (.int .i64 a.hx) := by rw [HW0.out]; go_simp
  have phy : w0.cell? ⟨w.heap.size, 4, none⟩ = some (.int .i64 a.hy) := by rw [HW0.out]; go_simp
  have phz : w0.cell? ⟨w.heap.size, 5, none⟩ = some (.int .i64 a.hz) := by rw [HW0.out]; go_simp
  have qlx : w0.cell? ⟨w.heap.size + 1, 0, none⟩ = some (.int .i64 b.lx) := by rw [HW0.out]; go_simp
  have qly : w0.cell? ⟨w.heap.size + 1, 1, none⟩ = some (.int .i64 b.ly) := by rw [HW0.out]; go_simp
  have qlz : w0.cell? ⟨w.heap.size + 1, 2, none⟩ = some (.int .i64 b.lz) := by rw [HW0.out]; go_simp
  have qhx : w0.cell? ⟨w.heap.size + 1, 3, none⟩ = some (.int .i64 b.hx) := by rw [HW0.out]; go_simp
  have qhy : w0.cell? ⟨w.heap.size + 1, 4, none⟩ = some (.int .i64 b.hy) := by rw [HW0.out]; go_simp
  have qhz : w0.cell? ⟨w.heap.size + 1, 5, none⟩ = some (.int .i64 b.hz) := by rw [HW0.out]; go_simp
  refine region_seq 45 [false, false, false, false, false, true, true, true, true, true, true, true, true, true, true, true, true, true, true, true, true, true, true, true, true, true, true, true, true, true, true, true, true, true, true, true, true, true, true, true, true, true, true, true, true, true, true, true, true, true]
    [(5, [], none), (6, [5], none), (7, [6], none), (8, [], none), (9, [8], none), (10, [9], none), (11, [7, 10], none), (12, [], none), (13, [12], none), (14, [13], none), (15, [], none), (16, [15], none), (17, [16], none), (18, [14, 17], none), (19, [], none), (20, [19], none), (21, [20], none), (22, [], none), (23, [22], none), (24, [23], none), (25, [21, 24], none), (26, [11, 18, 25], none), (27, [], none), (28, [27], none), (29, [28], none), (30, [], none), (31, [30], none), (32, [31], none), (33, [29, 32], none), (34, [], none), (35, [34], none), (36, [35], none), (37, [], none), (38, [37], none), (39, [38], none), (40, [36, 39], none), (41, [], none), (42, [41], none), (43, [42], none), (44, [], none), (45, [44], none), (46, [45], none), (47, [43, 46], none), (48, [33, 40, 47], none), (49, [26, 48], none)]
    (BoxHullV a b w.heap.size) (by kernel_rfl) (by kernel_rfl) (by kernel_rfl) (by kernel_rfl) (by kernel_rfl) (by decide) (fun _ _ _ _ h _ => h) ?_ ?_
  · refine ⟨?_, ?_, ?_, ?_, ?_, ?_, ?_, ?_, ?_, ?_, ?_, ?_, ?_, ?_, ?_, ?_, ?_, ?_, ?_, ?_, ?_, ?_, ?_, ?_, ?_, ?_, ?_, ?_, ?_, ?_, ?_, ?_, ?_, ?_, ?_, ?_, ?_, ?_, ?_, ?_, ?_, ?_, ?_, ?_, ?_, trivial⟩
    · intro f w1 hb _ K hK
      simp only [over, overL, Nat.reduceAdd]
      go_simp
      exact hK _ _ ⟨_, rfl, by simp only [over, overL, Nat.reduceAdd]; rfl, Below.refl _ _⟩
    · intro f w1 hb ⟨h5, _⟩ K hK
      have h5 : f 5 = _ := h5
      simp only [over, overL, Nat.reduceAdd, h5]
      go_simp
      exact hK _ _ ⟨_, rfl, by simp only [over, overL, Nat.reduceAdd, h5]; rfl, Below.refl _ _⟩
    · intro f w1 hb ⟨h6, _⟩ K hK
      have h6 : f 6 = _ := h6
      have cplx := cell_later hb plx
      simp only [over, overL, Nat.reduceAdd, h6]
      go_simp
      exact hK _ _ ⟨_, rfl, by simp only [over, overL, Nat.reduceAdd, h6]; rfl, Below.refl _ _⟩
    · intro f w1 hb _ K hK
      simp only [over, overL, Nat.reduceAdd]
      go_simp
      exact hK _ _ ⟨_, rfl, by simp only [over, overL, Nat.reduceAdd]; rfl, Below.refl _ _⟩
    · intro f w1 hb ⟨h8, _⟩ K hK
      have h8 : f 8 = _ := h8
      simp only [over, overL, Nat.reduceAdd, h8]
      go_simp
      exact hK _ _ ⟨_, rfl, by simp only [over, overL, Nat.reduceAdd, h8]; rfl, Below.refl _ _⟩
    · intro f w1 hb ⟨h9, _⟩ K hK
      have h9 : f 9 = _ := h9
      have cqlx := cell_later hb qlx
      simp only [over, overL, Nat.reduceAdd, h9]
      go_simp
      exact hK _ _ ⟨_, rfl, by simp only [over, overL, Nat.reduceAdd, h9]; rfl, Below.refl _ _⟩
    · intro f w1 hb ⟨h7, h10, _⟩ K hK
      have h7 : f 7 = _ := h7
      have h10 : f 10 = _ := h10
      simp only [over, overL, Nat.reduceAdd, h7, h10]
      go_simp
      refine (lesser_any a.lx b.lx w1).mono ?_
      rintro e w2 ⟨rfl, hw⟩
      exact hK _ _ ⟨_, rfl, by simp only [over, overL, Nat.reduceAdd, h7, h10]; rfl, hw ▸ Below.refl _ _⟩
    · intro f w1 hb _ K hK
      simp only [over, overL, Nat.reduceAdd]
      go_simp
      exact hK _ _ ⟨_, rfl, by simp only [over, overL, Nat.reduceAdd]; rfl, Below.refl _ _⟩
    · intro f w1 hb ⟨h12, _⟩ K hK
      have h12 : f 12 = _ := h12
      simp only [over, overL, Nat.reduceAdd, h12]
      go_simp
      exact hK _ _ ⟨_, rfl, by simp only [over, overL, Nat.reduceAdd, h12]; rfl, Below.refl _ _⟩
    · intro f w1 hb ⟨h13, _⟩ K hK
      have h13 : f 13 = _ := h13
      have cply := cell_later hb ply
      simp only [over, overL, Nat.reduceAdd, h13]
      go_simp
      exact hK _ _ ⟨_, rfl, by simp only [over, overL, Nat.reduceAdd, h13]; rfl, Below.refl _ _⟩
    · intro f w1 hb _ K hK
      simp only [over, overL, Nat.reduceAdd]
      go_simp
      exact hK _ _ ⟨_, rfl, by simp only [over, overL, Nat.reduceAdd]; rfl, Below.refl _ _⟩
    · intro f w1 hb ⟨h15, _⟩ K hK
      have h15 : f 15 = _ := h15
      simp only [over, overL, Nat.reduceAdd, h15]
      go_simp
      exact hK _ _ ⟨_, rfl, by simp only [over, overL, Nat.reduceAdd, h15]; rfl, Below.refl _ _⟩
    · intro f w1 hb ⟨h16, _⟩ K hK
      have h16 : f 16 = _ := h16
      have cqly := cell_later hb qly
      simp only [over, overL, Nat.reduceAdd, h16]
      go_simp
      exact hK _ _ ⟨_, rfl, by simp only [over, overL, Nat.reduceAdd, h16]; rfl, Below.refl _ _⟩
    · intro f w1 hb ⟨h14, h17, _⟩ K hK
      have h14 : f 14 = _ := h14
      have h17 : f 17 = _ := h17
      simp only [over, overL, Nat.reduceAdd, h14, h17]
      go_simp
      refine (lesser_any a.ly b.ly w1).mono ?_
      rintro e w2 ⟨rfl, hw⟩
      exact hK _ _ ⟨_, rfl, by simp only [over, overL, Nat.reduceAdd, h14, h17]; rfl, hw ▸ Below.refl _ _⟩
    · intro f w1 hb _ K hK
      simp only [over, overL, Nat.reduceAdd]
      go_simp
      exact hK _ _ ⟨_, rfl, by simp only [over, overL, Nat.reduceAdd]; rfl, Below.refl _ _⟩
    · intro f w1 hb ⟨h19, _⟩ K hK
      have h19 : f 19 = _ := h19
      simp only [over, overL, Nat.reduceAdd, h19]
      go_simp
      exact hK _ _ ⟨_, rfl, by simp only [over, overL, Nat.reduceAdd, h19]; rfl, Below.refl _ _⟩
    · intro f w1 hb ⟨h20, _⟩ K hK
      have h20 : f 20 = _ := h20
      have cplz := cell_later hb plz
      simp only [over, overL, Nat.reduceAdd, h20]
      go_simp
      exact hK _ _ ⟨_, rfl, by simp only [over, overL, Nat.reduceAdd, h20]; rfl, Below.refl _ _⟩
    · intro f w1 hb _ K hK
      simp only [over, overL, Nat.reduceAdd]
      go_simp
      exact hK _ _ ⟨_, rfl, by simp only [over, overL, Nat.reduceAdd]; rfl, Below.refl _ _⟩
    · intro f w1 hb ⟨h22, _⟩ K hK
      have h22 : f 22 = _ := h22
      simp only [over, overL, Nat.reduceAdd, h22]
      go_simp
      exact hK _ _ ⟨_, rfl, by simp only [over, overL, Nat.reduceAdd, h22]; rfl, Below.refl _ _⟩
    · intro f w1 hb ⟨h23, _⟩ K hK
      have h23 : f 23 = _ := h23
      have cqlz := cell_later hb qlz
      simp only [over, overL, Nat.reduceAdd, h23]
      go_simp
      exact hK _ _ ⟨_, rfl, by simp only [over, overL, Nat.reduceAdd, h23]; rfl, Below.refl _ _⟩
    · intro f w1 hb ⟨h21, h24, _⟩ K hK
      have h21 : f 21 = _ := h21
      have h24 : f 24 = _ := h24
      simp only [over, overL, Nat.reduceAdd, h21, h24]
      go_simp
      refine (lesser_any a.lz b.lz w1).mono ?_
      rintro e w2 ⟨rfl, hw⟩
      exact hK _ _ ⟨_, rfl, by simp only [over, overL, Nat.reduceAdd, h21, h24]; rfl, hw ▸ Below.refl _ _⟩
    · intro f w1 hb ⟨h11, h18, h25, _⟩ K hK
      have h11 : f 11 = _ := h11
      have h18 : f 18 = _ := h18
      have h25 : f 25 = _ := h25
      simp only [over, overL, Nat.reduceAdd, h11, h18, h25]
      go_simp
      exact hK _ _ ⟨_, rfl, by simp only [over, overL, Nat.reduceAdd, h11, h18, h25]; rfl, Below.refl _ _⟩
    · intro f w1 hb _ K hK
      simp only [over, overL, Nat.reduceAdd]
      go_simp
      exact hK _ _ ⟨_, rfl, by simp only [over, overL, Nat.reduceAdd]; rfl, Below.refl _ _⟩
    · intro f w1 hb ⟨h27, _⟩ K hK
      have h27 : f 27 = _ := h27
      simp only [over, overL, Nat.reduceAdd, h27]
      go_simp
      exact hK _ _ ⟨_, rfl, by simp only [over, overL, Nat.reduceAdd, h27]; rfl, Below.refl _ _⟩
    · intro f w1 hb ⟨h28, _⟩ K hK
      have h28 : f 28 = _ := h28
      have cphx := cell_later hb phx
      simp only [over, overL, Nat.reduceAdd, h28]
      go_simp
      exact hK _ _ ⟨_, rfl, by simp only [over, overL, Nat.reduceAdd, h28]; rfl, Below.refl _ _⟩
    · intro f w1 hb _ K hK
      simp only [over, overL, Nat.reduceAdd]
      go_simp
      exact hK _ _ ⟨_, rfl, by simp only [over, overL, Nat.reduceAdd]; rfl, Below.refl _ _⟩
    · intro f w1 hb ⟨h30, _⟩ K hK
      have h30 : f 30 = _ := h30
      simp only [over, overL, Nat.reduceAdd, h30]
      go_simp
      exact hK _ _ ⟨_, rfl, by simp only [over, overL, Nat.reduceAdd, h30]; rfl, Below.refl _ _⟩
    · intro f w1 hb ⟨h31, _⟩ K hK
      have h31 : f 31 = _ := h31
      have cqhx := cell_later hb qhx
      simp only [over, overL, Nat.reduceAdd, h31]
      go_simp
      exact hK _ _ ⟨_, rfl, by simp only [over, overL, Nat.reduceAdd, h31]; rfl, Below.refl _ _⟩
    · intro f w1 hb ⟨h29, h32, _⟩ K hK
      have h29 : f 29 = _ := h29
      have h32 : f 32 = _ := h32
      simp only [over, overL, Nat.reduceAdd, h29, h32]
      go_simp
      refine (greater_any a.hx b.hx w1).mono ?_
      rintro e w2 ⟨rfl, hw⟩
      exact hK _ _ ⟨_, rfl, by simp only [over, overL, Nat.reduceAdd, h29, h32]; rfl, hw ▸ Below.refl _ _⟩
    · intro f w1 hb _ K hK
      simp only [over, overL, Nat.reduceAdd]
      go_simp
      exact hK _ _ ⟨_, rfl, by simp only [over, overL, Nat.reduceAdd]; rfl, Below.refl _ _⟩
    · intro f w1 hb ⟨h34, _⟩ K hK
      have h34 : f 34 = _ := h34
      simp only [over, overL, Nat.reduceAdd, h34]
      go_simp
      exact hK _ _ ⟨_, rfl, by simp only [over, overL, Nat.reduceAdd, h34]; rfl, Below.refl _ _⟩
    · intro f w1 hb ⟨h35, _⟩ K hK
      have h35 : f 35 = _ := h35
      have cphy := cell_later hb phy
      simp only [over, overL, Nat.reduceAdd, h35]
      go_simp
      exact hK _ _ ⟨_, rfl, by simp only [over, overL, Nat.reduceAdd, h35]; rfl, Below.refl _ _⟩
    · intro f w1 hb _ K hK
      simp only [over, overL, Nat.reduceAdd]
      go_simp
      exact hK _ _ ⟨_, rfl, by simp only [over, overL, Nat.reduceAdd]; rfl, Below.refl _ _⟩
    · intro f w1 hb ⟨h37, _⟩ K hK
      have h37 : f 37 = _ := h37
      simp only [over, overL, Nat.reduceAdd, h37]
      go_simp
      exact hK _ _ ⟨_, rfl, by simp only [over, overL, Nat.reduceAdd, h37]; rfl, Below.refl _ _⟩
    · intro f w1 hb ⟨h38, _⟩ K hK
      have h38 : f 38 = _ := h38
      have cqhy := cell_later hb qhy
      simp only [over, overL, Nat.reduceAdd, h38]
      go_simp
      exact hK _ _ ⟨_, rfl, by simp only [over, overL, Nat.reduceAdd, h38]; rfl, Below.refl _ _⟩
    · intro f w1 hb ⟨h36, h39, _⟩ K hK
      have h36 : f 36 = _ := h36
      have h39 : f 39 = _ := h39
      simp only [over, overL, Nat.reduceAdd, h36, h39]
      go_simp
      refine (greater_any a.hy b.hy w1).mono ?_
      rintro e w2 ⟨rfl, hw⟩
      exact hK _ _ ⟨_, rfl, by simp only [over, overL, Nat.reduceAdd, h36, h39]; rfl, hw ▸ Below.refl _ _⟩
    · intro f w1 hb _ K hK
      simp only [over, overL, Nat.reduceAdd]
      go_simp
      exact hK _ _ ⟨_, rfl, by simp only [over, overL, Nat.reduceAdd]; rfl, Below.refl _ _⟩
    · intro f w1 hb ⟨h41, _⟩ K hK
      have h41 : f 41 = _ := h41
      simp only [over, overL, Nat.reduceAdd, h41]
      go_simp
      exact hK _ _ ⟨_, rfl, by simp only [over, overL, Nat.reduceAdd, h41]; rfl, Below.refl _ _⟩
    · intro f w1 hb ⟨h42, _⟩ K hK
      have h42 : f 42 = _ := h42
      have cphz := cell_later hb phz
      simp only [over, overL, Nat.reduceAdd, h42]
      go_simp
      exact hK _ _ ⟨_, rfl, by simp only [over, overL, Nat.reduceAdd, h42]; rfl, Below.refl _ _⟩
    · intro f w1 hb _ K hK
      simp only [over, overL, Nat.reduceAdd]
      go_simp
      exact hK _ _ ⟨_, rfl, by simp only [over, overL, Nat.reduceAdd]; rfl, Below.refl _ _⟩
    · intro f w1 hb ⟨h44, _⟩ K hK
      have h44 : f 44 = _ := h44
      simp only [over, overL, Nat.reduceAdd, h44]
      go_simp
      exact hK _ _ ⟨_, rfl, by simp only [over, overL, Nat.reduceAdd, h44]; rfl, Below.refl _ _⟩
    · intro f w1 hb ⟨h45, _⟩ K hK
      have h45 : f 45 = _ := h45
      have cqhz := cell_later hb qhz
      simp only [over, overL, Nat.reduceAdd, h45]
      go_simp
      exact hK _ _ ⟨_, rfl, by simp only [over, overL, Nat.reduceAdd, h45]; rfl, Below.refl _ _⟩
    · intro f w1 hb ⟨h43, h46, _⟩ K hK
      have h43 : f 43 = _ := h43
      have h46 : f 46 = _ := h46
      simp only [over, overL, Nat.reduceAdd, h43, h46]
      go_simp
      refine (greater_any a.hz b.hz w1).mono ?_
      rintro e w2 ⟨rfl, hw⟩
      exact hK _ _ ⟨_, rfl, by simp only [over, overL, Nat.reduceAdd, h43, h46]; rfl, hw ▸ Below.refl _ _⟩
    · intro f w1 hb ⟨h33, h40, h47, _⟩ K hK
      have h33 : f 33 = _ := h33
      have h40 : f 40 = _ := h40
      have h47 : f 47 = _ := h47
      simp only [over, overL, Nat.reduceAdd, h33, h40, h47]
      go_simp
      exact hK _ _ ⟨_, rfl, by simp only [over, overL, Nat.reduceAdd, h33, h40, h47]; rfl, Below.refl _ _⟩
    · intro f w1 hb ⟨h26, h48, _⟩ K hK
      have h26 : f 26 = _ := h26
      have h48 : f 48 = _ := h48
      simp only [over, overL, Nat.reduceAdd, h26, h48]
      go_simp
      exact hK _ _ ⟨_, rfl, by simp only [over, overL, Nat.reduceAdd, h26, h48]; rfl, Below.refl _ _⟩
  intro f w1 hb1 h
  have hl : f 49 = bv (hullB a b) := h.2.2.2.2.2.2.2.2.2.2.2.2.2.2.2.2.2.2.2.2.2.2.2.2.2.2.2.2.2.2.2.2.2.2.2.2.2.2.2.2.2.2.2.2.1
  have hR := HR.out.later hb1
  obtain ⟨⟨_, r0, r1, r2, r3, r4, r5⟩, f0, f1, f2, f3, f4, f5⟩ := hR
  simp only [Nat.zero_add] at r1 r2 r3 r4 r5
  have HB : Hid (Below w.heap.size w w1) := HB0.out.trans (hb1.mono HB0.out.size)
  clear hb1 h
  simp only [over_eq, overL, hl, Nat.reduceAdd, List.drop_succ_cons, List.drop_zero]
  go_wp2
  refine bodyPost_ret (v := bv (hullB a b)) (by simp [results, Try.results15, go_sem, r0, r1, r2, r3, r4, r5]) rfl ⟨rfl, ?_⟩
  exact below_put6 HB.out (by omega)

end Go.Proofs.Ytiafcgbohckmmaa
