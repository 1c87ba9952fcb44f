/- The law WareSpots, a way. -/
import Derived.Test.YtefjeohhdmmboaaDoorSpBase
namespace Go.Proofs.YtefjeohhdmmboaaDoor
open Go.RowKit

set_option maxHeartbeats 12800000 in
set_option maxRecDepth 100000 in
theorem spots_1110 (a : Wr) (r c : Nat) (hr : r < 16) (hc : c < 24) (l : List UInt8) (w : World) (hs : a.name.size ≤ maxLen) (hl : l.length ≤ maxLen) (hS : spotR l = (0, 0, 1)) (hn : chk a ≠ 0) :
    Calls Tryd.prog 4 #[wv a, .agg #[.int .i64 (r : Int), .int .i64 (c : Int)], .string ⟨l.toArray⟩] w fun e w' => e = .returned (.bool true) ∧ Below w.heap.size w w' := by
  have hne : (chk a != 0) = true := by simp [hn]
  go_enter Tryd.func4, Tryd.ntmps4
  go_wp2_with fail
  refine (name_ok r c _ hr hc).mono ?_
  rintro e w1 ⟨rfl, hb1⟩
  have e0 : w1.cell? ⟨w.heap.size, 0, none⟩ = some (.string a.name) := cell_later hb1 (by go_simp)
  have e1 : w1.cell? ⟨w.heap.size, 1, none⟩ = some (.int .i64 a.kind) := cell_later hb1 (by go_simp)
  have e2 : w1.cell? ⟨w.heap.size, 2, none⟩ = some (.int .i64 a.rows) := cell_later hb1 (by go_simp)
  have e3 : w1.cell? ⟨w.heap.size, 3, none⟩ = some (.int .i64 a.cols) := cell_later hb1 (by go_simp)
  have e4 : w1.cell? ⟨w.heap.size, 4, none⟩ = some (.int .i64 a.x) := cell_later hb1 (by go_simp)
  have e5 : w1.cell? ⟨w.heap.size, 5, none⟩ = some (.int .i64 a.y) := cell_later hb1 (by go_simp)
  have e6 : w1.cell? ⟨w.heap.size, 6, none⟩ = some (.int .i64 a.pitch) := cell_later hb1 (by go_simp)
  have e7 : w1.cell? ⟨w.heap.size, 7, none⟩ = some (.int .i64 a.wid) := cell_later hb1 (by go_simp)
  have e8 : w1.cell? ⟨w.heap.size, 8, none⟩ = some (.int .i64 a.len) := cell_later hb1 (by go_simp)
  have e9 : w1.cell? ⟨w.heap.size, 9, none⟩ = some (.int .i64 a.hei) := cell_later hb1 (by go_simp)
  have e10 : w1.cell? ⟨w.heap.size, 10, none⟩ = some (.int .i64 a.deep) := cell_later hb1 (by go_simp)
  have e11 : w1.cell? ⟨w.heap.size, 11, none⟩ = some (.int .i64 a.cap) := cell_later hb1 (by go_simp)
  have s0 : w1.cell? ⟨w.heap.size + 1, 0, none⟩ = some (.int .i64 (r : Int)) := cell_later hb1 (by go_simp)
  have s1 : w1.cell? ⟨w.heap.size + 1, 1, none⟩ = some (.int .i64 (c : Int)) := cell_later hb1 (by go_simp)
  have hB1 : Below w.heap.size w w1 := (((Below.refl _ _).alloc (Nat.le_refl _) _).alloc (by simp) _).trans (hb1.mono (by simp; omega))
  clear hb1
  go_wp2_with fail
  refine (spot_l l _ hl).mono ?_
  rintro e w2 ⟨rfl, hb2⟩
  rw [hS]
  have e0 : w2.cell? ⟨w.heap.size, 0, none⟩ = some (.string a.name) := cell_later hb2 e0
  have e1 : w2.cell? ⟨w.heap.size, 1, none⟩ = some (.int .i64 a.kind) := cell_later hb2 e1
  have e2 : w2.cell? ⟨w.heap.size, 2, none⟩ = some (.int .i64 a.rows) := cell_later hb2 e2
  have e3 : w2.cell? ⟨w.heap.size, 3, none⟩ = some (.int .i64 a.cols) := cell_later hb2 e3
  have e4 : w2.cell? ⟨w.heap.size, 4, none⟩ = some (.int .i64 a.x) := cell_later hb2 e4
  have e5 : w2.cell? ⟨w.heap.size, 5, none⟩ = some (.int .i64 a.y) := cell_later hb2 e5
  have e6 : w2.cell? ⟨w.heap.size, 6, none⟩ = some (.int .i64 a.pitch) := cell_later hb2 e6
  have e7 : w2.cell? ⟨w.heap.size, 7, none⟩ = some (.int .i64 a.wid) := cell_later hb2 e7
  have e8 : w2.cell? ⟨w.heap.size, 8, none⟩ = some (.int .i64 a.len) := cell_later hb2 e8
  have e9 : w2.cell? ⟨w.heap.size, 9, none⟩ = some (.int .i64 a.hei) := cell_later hb2 e9
  have e10 : w2.cell? ⟨w.heap.size, 10, none⟩ = some (.int .i64 a.deep) := cell_later hb2 e10
  have e11 : w2.cell? ⟨w.heap.size, 11, none⟩ = some (.int .i64 a.cap) := cell_later hb2 e11
  have s0 : w2.cell? ⟨w.heap.size + 1, 0, none⟩ = some (.int .i64 (r : Int)) := cell_later hb2 s0
  have s1 : w2.cell? ⟨w.heap.size + 1, 1, none⟩ = some (.int .i64 (c : Int)) := cell_later hb2 s1
  have hB2 : Below w.heap.size w w2 := hB1.trans (hb2.mono hB1.size)
  clear hb2
  have al : ∀ o, Below w2.heap.size w2 (w2.alloc o) := fun o => (Below.refl _ w2).alloc (Nat.le_refl _) o
  have qe0 : ∀ o, (w2.alloc o).cell? ⟨w.heap.size, 0, none⟩ = some (.string a.name) := fun o => cell_later (al o) e0
  have qe1 : ∀ o, (w2.alloc o).cell? ⟨w.heap.size, 1, none⟩ = some (.int .i64 a.kind) := fun o => cell_later (al o) e1
  have qe2 : ∀ o, (w2.alloc o).cell? ⟨w.heap.size, 2, none⟩ = some (.int .i64 a.rows) := fun o => cell_later (al o) e2
  have qe3 : ∀ o, (w2.alloc o).cell? ⟨w.heap.size, 3, none⟩ = some (.int .i64 a.cols) := fun o => cell_later (al o) e3
  have qe4 : ∀ o, (w2.alloc o).cell? ⟨w.heap.size, 4, none⟩ = some (.int .i64 a.x) := fun o => cell_later (al o) e4
  have qe5 : ∀ o, (w2.alloc o).cell? ⟨w.heap.size, 5, none⟩ = some (.int .i64 a.y) := fun o => cell_later (al o) e5
  have qe6 : ∀ o, (w2.alloc o).cell? ⟨w.heap.size, 6, none⟩ = some (.int .i64 a.pitch) := fun o => cell_later (al o) e6
  have qe7 : ∀ o, (w2.alloc o).cell? ⟨w.heap.size, 7, none⟩ = some (.int .i64 a.wid) := fun o => cell_later (al o) e7
  have qe8 : ∀ o, (w2.alloc o).cell? ⟨w.heap.size, 8, none⟩ = some (.int .i64 a.len) := fun o => cell_later (al o) e8
  have qe9 : ∀ o, (w2.alloc o).cell? ⟨w.heap.size, 9, none⟩ = some (.int .i64 a.hei) := fun o => cell_later (al o) e9
  have qe10 : ∀ o, (w2.alloc o).cell? ⟨w.heap.size, 10, none⟩ = some (.int .i64 a.deep) := fun o => cell_later (al o) e10
  have qe11 : ∀ o, (w2.alloc o).cell? ⟨w.heap.size, 11, none⟩ = some (.int .i64 a.cap) := fun o => cell_later (al o) e11
  have qs0 : ∀ o, (w2.alloc o).cell? ⟨w.heap.size + 1, 0, none⟩ = some (.int .i64 (r : Int)) := fun o => cell_later (al o) s0
  have qs1 : ∀ o, (w2.alloc o).cell? ⟨w.heap.size + 1, 1, none⟩ = some (.int .i64 (c : Int)) := fun o => cell_later (al o) s1
  clear al
  go_wp2_with fail
  refine (middle_err a _ _ _ hs hn).mono ?_
  rintro e w3 ⟨rfl, hb3⟩
  have e0 : w3.cell? ⟨w.heap.size, 0, none⟩ = some (.string a.name) := cell_later hb3 (qe0 _)
  have e1 : w3.cell? ⟨w.heap.size, 1, none⟩ = some (.int .i64 a.kind) := cell_later hb3 (qe1 _)
  have e2 : w3.cell? ⟨w.heap.size, 2, none⟩ = some (.int .i64 a.rows) := cell_later hb3 (qe2 _)
  have e3 : w3.cell? ⟨w.heap.size, 3, none⟩ = some (.int .i64 a.cols) := cell_later hb3 (qe3 _)
  have e4 : w3.cell? ⟨w.heap.size, 4, none⟩ = some (.int .i64 a.x) := cell_later hb3 (qe4 _)
  have e5 : w3.cell? ⟨w.heap.size, 5, none⟩ = some (.int .i64 a.y) := cell_later hb3 (qe5 _)
  have e6 : w3.cell? ⟨w.heap.size, 6, none⟩ = some (.int .i64 a.pitch) := cell_later hb3 (qe6 _)
  have e7 : w3.cell? ⟨w.heap.size, 7, none⟩ = some (.int .i64 a.wid) := cell_later hb3 (qe7 _)
  have e8 : w3.cell? ⟨w.heap.size, 8, none⟩ = some (.int .i64 a.len) := cell_later hb3 (qe8 _)
  have e9 : w3.cell? ⟨w.heap.size, 9, none⟩ = some (.int .i64 a.hei) := cell_later hb3 (qe9 _)
  have e10 : w3.cell? ⟨w.heap.size, 10, none⟩ = some (.int .i64 a.deep) := cell_later hb3 (qe10 _)
  have e11 : w3.cell? ⟨w.heap.size, 11, none⟩ = some (.int .i64 a.cap) := cell_later hb3 (qe11 _)
  have s0 : w3.cell? ⟨w.heap.size + 1, 0, none⟩ = some (.int .i64 (r : Int)) := cell_later hb3 (qs0 _)
  have s1 : w3.cell? ⟨w.heap.size + 1, 1, none⟩ = some (.int .i64 (c : Int)) := cell_later hb3 (qs1 _)
  have t0 : w3.cell? ⟨w2.heap.size, 0, none⟩ = some (.int .i64 0) := cell_later hb3 (by go_simp)
  have t1 : w3.cell? ⟨w2.heap.size, 1, none⟩ = some (.int .i64 0) := cell_later hb3 (by go_simp)
  have hB3 : Below w.heap.size w w3 := (hB2.alloc hB2.size _).trans (hb3.mono (by have := hB2.size; simp; omega))
  clear hb3
  clear qe0 qe1 qe2 qe3 qe4 qe5 qe6 qe7 qe8 qe9 qe10 qe11 qs0 qs1
  have al : ∀ o, Below w3.heap.size w3 (w3.alloc o) := fun o => (Below.refl _ w3).alloc (Nat.le_refl _) o
  have qe0 : ∀ o, (w3.alloc o).cell? ⟨w.heap.size, 0, none⟩ = some (.string a.name) := fun o => cell_later (al o) e0
  have qe1 : ∀ o, (w3.alloc o).cell? ⟨w.heap.size, 1, none⟩ = some (.int .i64 a.kind) := fun o => cell_later (al o) e1
  have qe2 : ∀ o, (w3.alloc o).cell? ⟨w.heap.size, 2, none⟩ = some (.int .i64 a.rows) := fun o => cell_later (al o) e2
  have qe3 : ∀ o, (w3.alloc o).cell? ⟨w.heap.size, 3, none⟩ = some (.int .i64 a.cols) := fun o => cell_later (al o) e3
  have qe4 : ∀ o, (w3.alloc o).cell? ⟨w.heap.size, 4, none⟩ = some (.int .i64 a.x) := fun o => cell_later (al o) e4
  have qe5 : ∀ o, (w3.alloc o).cell? ⟨w.heap.size, 5, none⟩ = some (.int .i64 a.y) := fun o => cell_later (al o) e5
  have qe6 : ∀ o, (w3.alloc o).cell? ⟨w.heap.size, 6, none⟩ = some (.int .i64 a.pitch) := fun o => cell_later (al o) e6
  have qe7 : ∀ o, (w3.alloc o).cell? ⟨w.heap.size, 7, none⟩ = some (.int .i64 a.wid) := fun o => cell_later (al o) e7
  have qe8 : ∀ o, (w3.alloc o).cell? ⟨w.heap.size, 8, none⟩ = some (.int .i64 a.len) := fun o => cell_later (al o) e8
  have qe9 : ∀ o, (w3.alloc o).cell? ⟨w.heap.size, 9, none⟩ = some (.int .i64 a.hei) := fun o => cell_later (al o) e9
  have qe10 : ∀ o, (w3.alloc o).cell? ⟨w.heap.size, 10, none⟩ = some (.int .i64 a.deep) := fun o => cell_later (al o) e10
  have qe11 : ∀ o, (w3.alloc o).cell? ⟨w.heap.size, 11, none⟩ = some (.int .i64 a.cap) := fun o => cell_later (al o) e11
  have qs0 : ∀ o, (w3.alloc o).cell? ⟨w.heap.size + 1, 0, none⟩ = some (.int .i64 (r : Int)) := fun o => cell_later (al o) s0
  have qs1 : ∀ o, (w3.alloc o).cell? ⟨w.heap.size + 1, 1, none⟩ = some (.int .i64 (c : Int)) := fun o => cell_later (al o) s1
  have qt0 : ∀ o, (w3.alloc o).cell? ⟨w2.heap.size, 0, none⟩ = some (.int .i64 0) := fun o => cell_later (al o) t0
  have qt1 : ∀ o, (w3.alloc o).cell? ⟨w2.heap.size, 1, none⟩ = some (.int .i64 0) := fun o => cell_later (al o) t1
  clear al
  go_wp2_with fail
  refine (all_err a _ hs hn).mono ?_
  rintro e w4 ⟨rfl, hb4⟩
  have e0 : w4.cell? ⟨w.heap.size, 0, none⟩ = some (.string a.name) := cell_later hb4 (qe0 _)
  have e1 : w4.cell? ⟨w.heap.size, 1, none⟩ = some (.int .i64 a.kind) := cell_later hb4 (qe1 _)
  have e2 : w4.cell? ⟨w.heap.size, 2, none⟩ = some (.int .i64 a.rows) := cell_later hb4 (qe2 _)
  have e3 : w4.cell? ⟨w.heap.size, 3, none⟩ = some (.int .i64 a.cols) := cell_later hb4 (qe3 _)
  have e4 : w4.cell? ⟨w.heap.size, 4, none⟩ = some (.int .i64 a.x) := cell_later hb4 (qe4 _)
  have e5 : w4.cell? ⟨w.heap.size, 5, none⟩ = some (.int .i64 a.y) := cell_later hb4 (qe5 _)
  have e6 : w4.cell? ⟨w.heap.size, 6, none⟩ = some (.int .i64 a.pitch) := cell_later hb4 (qe6 _)
  have e7 : w4.cell? ⟨w.heap.size, 7, none⟩ = some (.int .i64 a.wid) := cell_later hb4 (qe7 _)
  have e8 : w4.cell? ⟨w.heap.size, 8, none⟩ = some (.int .i64 a.len) := cell_later hb4 (qe8 _)
  have e9 : w4.cell? ⟨w.heap.size, 9, none⟩ = some (.int .i64 a.hei) := cell_later hb4 (qe9 _)
  have e10 : w4.cell? ⟨w.heap.size, 10, none⟩ = some (.int .i64 a.deep) := cell_later hb4 (qe10 _)
  have e11 : w4.cell? ⟨w.heap.size, 11, none⟩ = some (.int .i64 a.cap) := cell_later hb4 (qe11 _)
  have s0 : w4.cell? ⟨w.heap.size + 1, 0, none⟩ = some (.int .i64 (r : Int)) := cell_later hb4 (qs0 _)
  have s1 : w4.cell? ⟨w.heap.size + 1, 1, none⟩ = some (.int .i64 (c : Int)) := cell_later hb4 (qs1 _)
  have t0 : w4.cell? ⟨w2.heap.size, 0, none⟩ = some (.int .i64 0) := cell_later hb4 (qt0 _)
  have t1 : w4.cell? ⟨w2.heap.size, 1, none⟩ = some (.int .i64 0) := cell_later hb4 (qt1 _)
  have p0 : w4.cell? ⟨w3.heap.size, 0, none⟩ = some (.int .i64 0) := cell_later hb4 (by go_simp)
  have p1 : w4.cell? ⟨w3.heap.size, 1, none⟩ = some (.int .i64 0) := cell_later hb4 (by go_simp)
  have p2 : w4.cell? ⟨w3.heap.size, 2, none⟩ = some (.int .i64 0) := cell_later hb4 (by go_simp)
  have hB4 : Below w.heap.size w w4 := (hB3.alloc hB3.size _).trans (hb4.mono (by have := hB3.size; simp; omega))
  clear hb4
  clear qe0 qe1 qe2 qe3 qe4 qe5 qe6 qe7 qe8 qe9 qe10 qe11 qs0 qs1 qt0 qt1
  go_wp2_with fail
  refine (readSpot_any l _).mono ?_
  rintro e w5 ⟨rfl, hb5⟩
  rw [hS]
  have e0 : w5.cell? ⟨w.heap.size, 0, none⟩ = some (.string a.name) := cell_later hb5 e0
  have e1 : w5.cell? ⟨w.heap.size, 1, none⟩ = some (.int .i64 a.kind) := cell_later hb5 e1
  have e2 : w5.cell? ⟨w.heap.size, 2, none⟩ = some (.int .i64 a.rows) := cell_later hb5 e2
  have e3 : w5.cell? ⟨w.heap.size, 3, none⟩ = some (.int .i64 a.cols) := cell_later hb5 e3
  have e4 : w5.cell? ⟨w.heap.size, 4, none⟩ = some (.int .i64 a.x) := cell_later hb5 e4
  have e5 : w5.cell? ⟨w.heap.size, 5, none⟩ = some (.int .i64 a.y) := cell_later hb5 e5
  have e6 : w5.cell? ⟨w.heap.size, 6, none⟩ = some (.int .i64 a.pitch) := cell_later hb5 e6
  have e7 : w5.cell? ⟨w.heap.size, 7, none⟩ = some (.int .i64 a.wid) := cell_later hb5 e7
  have e8 : w5.cell? ⟨w.heap.size, 8, none⟩ = some (.int .i64 a.len) := cell_later hb5 e8
  have e9 : w5.cell? ⟨w.heap.size, 9, none⟩ = some (.int .i64 a.hei) := cell_later hb5 e9
  have e10 : w5.cell? ⟨w.heap.size, 10, none⟩ = some (.int .i64 a.deep) := cell_later hb5 e10
  have e11 : w5.cell? ⟨w.heap.size, 11, none⟩ = some (.int .i64 a.cap) := cell_later hb5 e11
  have s0 : w5.cell? ⟨w.heap.size + 1, 0, none⟩ = some (.int .i64 (r : Int)) := cell_later hb5 s0
  have s1 : w5.cell? ⟨w.heap.size + 1, 1, none⟩ = some (.int .i64 (c : Int)) := cell_later hb5 s1
  have t0 : w5.cell? ⟨w2.heap.size, 0, none⟩ = some (.int .i64 0) := cell_later hb5 t0
  have t1 : w5.cell? ⟨w2.heap.size, 1, none⟩ = some (.int .i64 0) := cell_later hb5 t1
  have p0 : w5.cell? ⟨w3.heap.size, 0, none⟩ = some (.int .i64 0) := cell_later hb5 p0
  have p1 : w5.cell? ⟨w3.heap.size, 1, none⟩ = some (.int .i64 0) := cell_later hb5 p1
  have p2 : w5.cell? ⟨w3.heap.size, 2, none⟩ = some (.int .i64 0) := cell_later hb5 p2
  have hB5 : Below w.heap.size w w5 := hB4.trans (hb5.mono hB4.size)
  have al : ∀ o, Below w5.heap.size w5 (w5.alloc o) := fun o => (Below.refl _ w5).alloc (Nat.le_refl _) o
  have qe0 : ∀ o, (w5.alloc o).cell? ⟨w.heap.size, 0, none⟩ = some (.string a.name) := fun o => cell_later (al o) e0
  have qe1 : ∀ o, (w5.alloc o).cell? ⟨w.heap.size, 1, none⟩ = some (.int .i64 a.kind) := fun o => cell_later (al o) e1
  have qe2 : ∀ o, (w5.alloc o).cell? ⟨w.heap.size, 2, none⟩ = some (.int .i64 a.rows) := fun o => cell_later (al o) e2
  have qe3 : ∀ o, (w5.alloc o).cell? ⟨w.heap.size, 3, none⟩ = some (.int .i64 a.cols) := fun o => cell_later (al o) e3
  have qe4 : ∀ o, (w5.alloc o).cell? ⟨w.heap.size, 4, none⟩ = some (.int .i64 a.x) := fun o => cell_later (al o) e4
  have qe5 : ∀ o, (w5.alloc o).cell? ⟨w.heap.size, 5, none⟩ = some (.int .i64 a.y) := fun o => cell_later (al o) e5
  have qe6 : ∀ o, (w5.alloc o).cell? ⟨w.heap.size, 6, none⟩ = some (.int .i64 a.pitch) := fun o => cell_later (al o) e6
  have qe7 : ∀ o, (w5.alloc o).cell? ⟨w.heap.size, 7, none⟩ = some (.int .i64 a.wid) := fun o => cell_later (al o) e7
  have qe8 : ∀ o, (w5.alloc o).cell? ⟨w.heap.size, 8, none⟩ = some (.int .i64 a.len) := fun o => cell_later (al o) e8
  have qe9 : ∀ o, (w5.alloc o).cell? ⟨w.heap.size, 9, none⟩ = some (.int .i64 a.hei) := fun o => cell_later (al o) e9
  have qe10 : ∀ o, (w5.alloc o).cell? ⟨w.heap.size, 10, none⟩ = some (.int .i64 a.deep) := fun o => cell_later (al o) e10
  have qe11 : ∀ o, (w5.alloc o).cell? ⟨w.heap.size, 11, none⟩ = some (.int .i64 a.cap) := fun o => cell_later (al o) e11
  have qs0 : ∀ o, (w5.alloc o).cell? ⟨w.heap.size + 1, 0, none⟩ = some (.int .i64 (r : Int)) := fun o => cell_later (al o) s0
  have qs1 : ∀ o, (w5.alloc o).cell? ⟨w.heap.size + 1, 1, none⟩ = some (.int .i64 (c : Int)) := fun o => cell_later (al o) s1
  have qt0 : ∀ o, (w5.alloc o).cell? ⟨w2.heap.size, 0, none⟩ = some (.int .i64 0) := fun o => cell_later (al o) t0
  have qt1 : ∀ o, (w5.alloc o).cell? ⟨w2.heap.size, 1, none⟩ = some (.int .i64 0) := fun o => cell_later (al o) t1
  have qp0 : ∀ o, (w5.alloc o).cell? ⟨w3.heap.size, 0, none⟩ = some (.int .i64 0) := fun o => cell_later (al o) p0
  have qp1 : ∀ o, (w5.alloc o).cell? ⟨w3.heap.size, 1, none⟩ = some (.int .i64 0) := fun o => cell_later (al o) p1
  have qp2 : ∀ o, (w5.alloc o).cell? ⟨w3.heap.size, 2, none⟩ = some (.int .i64 0) := fun o => cell_later (al o) p2
  clear al
  have hB45 : Below w4.heap.size w4 w5 := hb5
  clear hb5
  go_wp2_with fail
  refine (spotMay_any (r : Int) (c : Int) _).mono ?_
  rintro e w6 ⟨rfl, hb6⟩
  rw [show spotOk (r : Int) (c : Int) 16 24 = true from spotOk_iff.2 ⟨⟨by omega, by omega⟩, by omega, by omega⟩]
  have e0 : w6.cell? ⟨w.heap.size, 0, none⟩ = some (.string a.name) := cell_later hb6 (qe0 _)
  have e1 : w6.cell? ⟨w.heap.size, 1, none⟩ = some (.int .i64 a.kind) := cell_later hb6 (qe1 _)
  have e2 : w6.cell? ⟨w.heap.size, 2, none⟩ = some (.int .i64 a.rows) := cell_later hb6 (qe2 _)
  have e3 : w6.cell? ⟨w.heap.size, 3, none⟩ = some (.int .i64 a.cols) := cell_later hb6 (qe3 _)
  have e4 : w6.cell? ⟨w.heap.size, 4, none⟩ = some (.int .i64 a.x) := cell_later hb6 (qe4 _)
  have e5 : w6.cell? ⟨w.heap.size, 5, none⟩ = some (.int .i64 a.y) := cell_later hb6 (qe5 _)
  have e6 : w6.cell? ⟨w.heap.size, 6, none⟩ = some (.int .i64 a.pitch) := cell_later hb6 (qe6 _)
  have e7 : w6.cell? ⟨w.heap.size, 7, none⟩ = some (.int .i64 a.wid) := cell_later hb6 (qe7 _)
  have e8 : w6.cell? ⟨w.heap.size, 8, none⟩ = some (.int .i64 a.len) := cell_later hb6 (qe8 _)
  have e9 : w6.cell? ⟨w.heap.size, 9, none⟩ = some (.int .i64 a.hei) := cell_later hb6 (qe9 _)
  have e10 : w6.cell? ⟨w.heap.size, 10, none⟩ = some (.int .i64 a.deep) := cell_later hb6 (qe10 _)
  have e11 : w6.cell? ⟨w.heap.size, 11, none⟩ = some (.int .i64 a.cap) := cell_later hb6 (qe11 _)
  have s0 : w6.cell? ⟨w.heap.size + 1, 0, none⟩ = some (.int .i64 (r : Int)) := cell_later hb6 (qs0 _)
  have s1 : w6.cell? ⟨w.heap.size + 1, 1, none⟩ = some (.int .i64 (c : Int)) := cell_later hb6 (qs1 _)
  have t0 : w6.cell? ⟨w2.heap.size, 0, none⟩ = some (.int .i64 0) := cell_later hb6 (qt0 _)
  have t1 : w6.cell? ⟨w2.heap.size, 1, none⟩ = some (.int .i64 0) := cell_later hb6 (qt1 _)
  have p0 : w6.cell? ⟨w3.heap.size, 0, none⟩ = some (.int .i64 0) := cell_later hb6 (qp0 _)
  have p1 : w6.cell? ⟨w3.heap.size, 1, none⟩ = some (.int .i64 0) := cell_later hb6 (qp1 _)
  have p2 : w6.cell? ⟨w3.heap.size, 2, none⟩ = some (.int .i64 0) := cell_later hb6 (qp2 _)
  have hB56 : Below w5.heap.size w5 w6 := ((Below.refl _ _).alloc (Nat.le_refl _) _).trans (hb6.mono (by simp))
  have hB6 : Below w.heap.size w w6 := hB5.trans (hB56.mono hB5.size)
  clear hb6
  clear qe0 qe1 qe2 qe3 qe4 qe5 qe6 qe7 qe8 qe9 qe10 qe11 qs0 qs1 qt0 qt1 qp0 qp1 qp2
  go_wp2_with fail
  refine (spotName_any r c _ hr hc).mono ?_
  rintro e w7 ⟨rfl, hb7⟩
  have e0 : w7.cell? ⟨w.heap.size, 0, none⟩ = some (.string a.name) := cell_later hb7 e0
  have e1 : w7.cell? ⟨w.heap.size, 1, none⟩ = some (.int .i64 a.kind) := cell_later hb7 e1
  have e2 : w7.cell? ⟨w.heap.size, 2, none⟩ = some (.int .i64 a.rows) := cell_later hb7 e2
  have e3 : w7.cell? ⟨w.heap.size, 3, none⟩ = some (.int .i64 a.cols) := cell_later hb7 e3
  have e4 : w7.cell? ⟨w.heap.size, 4, none⟩ = some (.int .i64 a.x) := cell_later hb7 e4
  have e5 : w7.cell? ⟨w.heap.size, 5, none⟩ = some (.int .i64 a.y) := cell_later hb7 e5
  have e6 : w7.cell? ⟨w.heap.size, 6, none⟩ = some (.int .i64 a.pitch) := cell_later hb7 e6
  have e7 : w7.cell? ⟨w.heap.size, 7, none⟩ = some (.int .i64 a.wid) := cell_later hb7 e7
  have e8 : w7.cell? ⟨w.heap.size, 8, none⟩ = some (.int .i64 a.len) := cell_later hb7 e8
  have e9 : w7.cell? ⟨w.heap.size, 9, none⟩ = some (.int .i64 a.hei) := cell_later hb7 e9
  have e10 : w7.cell? ⟨w.heap.size, 10, none⟩ = some (.int .i64 a.deep) := cell_later hb7 e10
  have e11 : w7.cell? ⟨w.heap.size, 11, none⟩ = some (.int .i64 a.cap) := cell_later hb7 e11
  have s0 : w7.cell? ⟨w.heap.size + 1, 0, none⟩ = some (.int .i64 (r : Int)) := cell_later hb7 s0
  have s1 : w7.cell? ⟨w.heap.size + 1, 1, none⟩ = some (.int .i64 (c : Int)) := cell_later hb7 s1
  have t0 : w7.cell? ⟨w2.heap.size, 0, none⟩ = some (.int .i64 0) := cell_later hb7 t0
  have t1 : w7.cell? ⟨w2.heap.size, 1, none⟩ = some (.int .i64 0) := cell_later hb7 t1
  have p0 : w7.cell? ⟨w3.heap.size, 0, none⟩ = some (.int .i64 0) := cell_later hb7 p0
  have p1 : w7.cell? ⟨w3.heap.size, 1, none⟩ = some (.int .i64 0) := cell_later hb7 p1
  have p2 : w7.cell? ⟨w3.heap.size, 2, none⟩ = some (.int .i64 0) := cell_later hb7 p2
  have hB7 : Below w.heap.size w w7 := hB6.trans (hb7.mono hB6.size)
  have hB57 : Below w5.heap.size w5 w7 := hB56.trans (hb7.mono hB56.size)
  clear hb7
  go_wp2_with fail
  refine (wareMay_any a _ hs).mono ?_
  rintro e w8 ⟨rfl, hb8⟩
  have e0 : w8.cell? ⟨w.heap.size, 0, none⟩ = some (.string a.name) := cell_later hb8 e0
  have e1 : w8.cell? ⟨w.heap.size, 1, none⟩ = some (.int .i64 a.kind) := cell_later hb8 e1
  have e2 : w8.cell? ⟨w.heap.size, 2, none⟩ = some (.int .i64 a.rows) := cell_later hb8 e2
  have e3 : w8.cell? ⟨w.heap.size, 3, none⟩ = some (.int .i64 a.cols) := cell_later hb8 e3
  have e4 : w8.cell? ⟨w.heap.size, 4, none⟩ = some (.int .i64 a.x) := cell_later hb8 e4
  have e5 : w8.cell? ⟨w.heap.size, 5, none⟩ = some (.int .i64 a.y) := cell_later hb8 e5
  have e6 : w8.cell? ⟨w.heap.size, 6, none⟩ = some (.int .i64 a.pitch) := cell_later hb8 e6
  have e7 : w8.cell? ⟨w.heap.size, 7, none⟩ = some (.int .i64 a.wid) := cell_later hb8 e7
  have e8 : w8.cell? ⟨w.heap.size, 8, none⟩ = some (.int .i64 a.len) := cell_later hb8 e8
  have e9 : w8.cell? ⟨w.heap.size, 9, none⟩ = some (.int .i64 a.hei) := cell_later hb8 e9
  have e10 : w8.cell? ⟨w.heap.size, 10, none⟩ = some (.int .i64 a.deep) := cell_later hb8 e10
  have e11 : w8.cell? ⟨w.heap.size, 11, none⟩ = some (.int .i64 a.cap) := cell_later hb8 e11
  have s0 : w8.cell? ⟨w.heap.size + 1, 0, none⟩ = some (.int .i64 (r : Int)) := cell_later hb8 s0
  have s1 : w8.cell? ⟨w.heap.size + 1, 1, none⟩ = some (.int .i64 (c : Int)) := cell_later hb8 s1
  have t0 : w8.cell? ⟨w2.heap.size, 0, none⟩ = some (.int .i64 0) := cell_later hb8 t0
  have t1 : w8.cell? ⟨w2.heap.size, 1, none⟩ = some (.int .i64 0) := cell_later hb8 t1
  have p0 : w8.cell? ⟨w3.heap.size, 0, none⟩ = some (.int .i64 0) := cell_later hb8 p0
  have p1 : w8.cell? ⟨w3.heap.size, 1, none⟩ = some (.int .i64 0) := cell_later hb8 p1
  have p2 : w8.cell? ⟨w3.heap.size, 2, none⟩ = some (.int .i64 0) := cell_later hb8 p2
  have hB8 : Below w.heap.size w w8 := hB7.trans (hb8.mono hB7.size)
  have hB48 : Below w4.heap.size w4 w8 := hB45.trans ((hB57.trans (hb8.mono hB57.size)).mono hB45.size)
  clear hb8
  go_wp2
  go_ret
  exact ⟨ret_bool (by simp), hB8⟩

end Go.Proofs.YtefjeohhdmmboaaDoor
