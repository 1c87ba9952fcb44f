/- ware.Read walked. -/
import Derived.Test.YtmmpaaaifdikdaaGreatDoorParse2
namespace Go.Proofs.YtmmpaaaifdikdaaGreatDoor
open Go.RowKit Go.Shelf

set_option maxHeartbeats 6400000 in
set_option maxRecDepth 100000 in
theorem read_form (s : ByteArray) (w : World) (hT : Tabs w) (hp : ∀ w' : World, Tabs w' → Calls Tryz.prog 99 #[.string s] w' fun e w2 => ∃ g : Wr, e = .returned (.tuple #[wv g, .bool false]) ∧ Below w'.heap.size w' w2) :
    Calls Tryz.prog 83 #[.string s] w fun e w' => e = .returned (.tuple #[wv zW, .int .i64 1]) ∧ Below w.heap.size w w' := by
  have HT : Hid (Tabs w) := hT
  have HPA : Hid (∀ w' : World, Tabs w' → Calls Tryz.prog 99 #[.string s] w' fun e w2 => ∃ g : Wr, e = .returned (.tuple #[wv g, .bool false]) ∧ Below w'.heap.size w' w2) := hp
  clear hT hp
  go_enter Tryz.func83, Tryz.ntmps83
  go_wp2_with fail
  refine (HPA.out _ (HT.out.next ((Below.refl _ _).alloc (Nat.le_refl _) _))).mono ?_
  rintro e w1 ⟨g, rfl, hb1⟩
  have hB1 : Below w.heap.size w w1 := ((Below.refl _ _).alloc (Nat.le_refl _) _).trans (hb1.mono (by simp))
  have r0 : w1.cell? ⟨w.heap.size, 0, none⟩ = some (.string ⟨#[]⟩) := cell_later hb1 (by go_simp)
  have r1 : w1.cell? ⟨w.heap.size, 1, none⟩ = some (.int .i64 0) := cell_later hb1 (by go_simp)
  have r2 : w1.cell? ⟨w.heap.size, 2, none⟩ = some (.int .i64 0) := cell_later hb1 (by go_simp)
  have r3 : w1.cell? ⟨w.heap.size, 3, none⟩ = some (.int .i64 0) := cell_later hb1 (by go_simp)
  have r4 : w1.cell? ⟨w.heap.size, 4, none⟩ = some (.int .i64 0) := cell_later hb1 (by go_simp)
  have r5 : w1.cell? ⟨w.heap.size, 5, none⟩ = some (.int .i64 0) := cell_later hb1 (by go_simp)
  have r6 : w1.cell? ⟨w.heap.size, 6, none⟩ = some (.int .i64 0) := cell_later hb1 (by go_simp)
  have r7 : w1.cell? ⟨w.heap.size, 7, none⟩ = some (.int .i64 0) := cell_later hb1 (by go_simp)
  have r8 : w1.cell? ⟨w.heap.size, 8, none⟩ = some (.int .i64 0) := cell_later hb1 (by go_simp)
  have r9 : w1.cell? ⟨w.heap.size, 9, none⟩ = some (.int .i64 0) := cell_later hb1 (by go_simp)
  have r10 : w1.cell? ⟨w.heap.size, 10, none⟩ = some (.int .i64 0) := cell_later hb1 (by go_simp)
  have r11 : w1.cell? ⟨w.heap.size, 11, none⟩ = some (.int .i64 0) := cell_later hb1 (by go_simp)
  have f0 : w1.frozen? ⟨w.heap.size, 0, none⟩ = false := (hb1.frozen (p := ⟨w.heap.size, 0, none⟩) (by simp)).trans (by go_simp)
  have f1 : w1.frozen? ⟨w.heap.size, 1, none⟩ = false := (hb1.frozen (p := ⟨w.heap.size, 1, none⟩) (by simp)).trans (by go_simp)
  have f2 : w1.frozen? ⟨w.heap.size, 2, none⟩ = false := (hb1.frozen (p := ⟨w.heap.size, 2, none⟩) (by simp)).trans (by go_simp)
  have f3 : w1.frozen? ⟨w.heap.size, 3, none⟩ = false := (hb1.frozen (p := ⟨w.heap.size, 3, none⟩) (by simp)).trans (by go_simp)
  have f4 : w1.frozen? ⟨w.heap.size, 4, none⟩ = false := (hb1.frozen (p := ⟨w.heap.size, 4, none⟩) (by simp)).trans (by go_simp)
  have f5 : w1.frozen? ⟨w.heap.size, 5, none⟩ = false := (hb1.frozen (p := ⟨w.heap.size, 5, none⟩) (by simp)).trans (by go_simp)
  have f6 : w1.frozen? ⟨w.heap.size, 6, none⟩ = false := (hb1.frozen (p := ⟨w.heap.size, 6, none⟩) (by simp)).trans (by go_simp)
  have f7 : w1.frozen? ⟨w.heap.size, 7, none⟩ = false := (hb1.frozen (p := ⟨w.heap.size, 7, none⟩) (by simp)).trans (by go_simp)
  have f8 : w1.frozen? ⟨w.heap.size, 8, none⟩ = false := (hb1.frozen (p := ⟨w.heap.size, 8, none⟩) (by simp)).trans (by go_simp)
  have f9 : w1.frozen? ⟨w.heap.size, 9, none⟩ = false := (hb1.frozen (p := ⟨w.heap.size, 9, none⟩) (by simp)).trans (by go_simp)
  have f10 : w1.frozen? ⟨w.heap.size, 10, none⟩ = false := (hb1.frozen (p := ⟨w.heap.size, 10, none⟩) (by simp)).trans (by go_simp)
  have f11 : w1.frozen? ⟨w.heap.size, 11, none⟩ = false := (hb1.frozen (p := ⟨w.heap.size, 11, none⟩) (by simp)).trans (by go_simp)
  have lt : w.heap.size < w1.heap.size := by have := hb1.size; simp at this; omega
  clear hb1
  have y0 : ∀ o, (((((((((((((w1.setCell ⟨w.heap.size, 0, none⟩ (.string ⟨#[]⟩)).setCell ⟨w.heap.size, 1, none⟩ (.int .i64 0)).setCell ⟨w.heap.size, 2, none⟩ (.int .i64 0)).setCell ⟨w.heap.size, 3, none⟩ (.int .i64 0)).setCell ⟨w.heap.size, 4, none⟩ (.int .i64 0)).setCell ⟨w.heap.size, 5, none⟩ (.int .i64 0)).setCell ⟨w.heap.size, 6, none⟩ (.int .i64 0)).setCell ⟨w.heap.size, 7, none⟩ (.int .i64 0)).setCell ⟨w.heap.size, 8, none⟩ (.int .i64 0)).setCell ⟨w.heap.size, 9, none⟩ (.int .i64 0)).setCell ⟨w.heap.size, 10, none⟩ (.int .i64 0)).setCell ⟨w.heap.size, 11, none⟩ (.int .i64 0)).alloc o).cell? ⟨w.heap.size, 0, none⟩ = some (.string ⟨#[]⟩) := fun o => cell_later ((Below.refl _ _).alloc (Nat.le_refl _) o) (by simp [go_sem, r0])
  have y1 : ∀ o, (((((((((((((w1.setCell ⟨w.heap.size, 0, none⟩ (.string ⟨#[]⟩)).setCell ⟨w.heap.size, 1, none⟩ (.int .i64 0)).setCell ⟨w.heap.size, 2, none⟩ (.int .i64 0)).setCell ⟨w.heap.size, 3, none⟩ (.int .i64 0)).setCell ⟨w.heap.size, 4, none⟩ (.int .i64 0)).setCell ⟨w.heap.size, 5, none⟩ (.int .i64 0)).setCell ⟨w.heap.size, 6, none⟩ (.int .i64 0)).setCell ⟨w.heap.size, 7, none⟩ (.int .i64 0)).setCell ⟨w.heap.size, 8, none⟩ (.int .i64 0)).setCell ⟨w.heap.size, 9, none⟩ (.int .i64 0)).setCell ⟨w.heap.size, 10, none⟩ (.int .i64 0)).setCell ⟨w.heap.size, 11, none⟩ (.int .i64 0)).alloc o).cell? ⟨w.heap.size, 1, none⟩ = some (.int .i64 0) := fun o => cell_later ((Below.refl _ _).alloc (Nat.le_refl _) o) (by simp [go_sem, r1])
  have y2 : ∀ o, (((((((((((((w1.setCell ⟨w.heap.size, 0, none⟩ (.string ⟨#[]⟩)).setCell ⟨w.heap.size, 1, none⟩ (.int .i64 0)).setCell ⟨w.heap.size, 2, none⟩ (.int .i64 0)).setCell ⟨w.heap.size, 3, none⟩ (.int .i64 0)).setCell ⟨w.heap.size, 4, none⟩ (.int .i64 0)).setCell ⟨w.heap.size, 5, none⟩ (.int .i64 0)).setCell ⟨w.heap.size, 6, none⟩ (.int .i64 0)).setCell ⟨w.heap.size, 7, none⟩ (.int .i64 0)).setCell ⟨w.heap.size, 8, none⟩ (.int .i64 0)).setCell ⟨w.heap.size, 9, none⟩ (.int .i64 0)).setCell ⟨w.heap.size, 10, none⟩ (.int .i64 0)).setCell ⟨w.heap.size, 11, none⟩ (.int .i64 0)).alloc o).cell? ⟨w.heap.size, 2, none⟩ = some (.int .i64 0) := fun o => cell_later ((Below.refl _ _).alloc (Nat.le_refl _) o) (by simp [go_sem, r2])
  have y3 : ∀ o, (((((((((((((w1.setCell ⟨w.heap.size, 0, none⟩ (.string ⟨#[]⟩)).setCell ⟨w.heap.size, 1, none⟩ (.int .i64 0)).setCell ⟨w.heap.size, 2, none⟩ (.int .i64 0)).setCell ⟨w.heap.size, 3, none⟩ (.int .i64 0)).setCell ⟨w.heap.size, 4, none⟩ (.int .i64 0)).setCell ⟨w.heap.size, 5, none⟩ (.int .i64 0)).setCell ⟨w.heap.size, 6, none⟩ (.int .i64 0)).setCell ⟨w.heap.size, 7, none⟩ (.int .i64 0)).setCell ⟨w.heap.size, 8, none⟩ (.int .i64 0)).setCell ⟨w.heap.size, 9, none⟩ (.int .i64 0)).setCell ⟨w.heap.size, 10, none⟩ (.int .i64 0)).setCell ⟨w.heap.size, 11, none⟩ (.int .i64 0)).alloc o).cell? ⟨w.heap.size, 3, none⟩ = some (.int .i64 0) := fun o => cell_later ((Below.refl _ _).alloc (Nat.le_refl _) o) (by simp [go_sem, r3])
  have y4 : ∀ o, (((((((((((((w1.setCell ⟨w.heap.size, 0, none⟩ (.string ⟨#[]⟩)).setCell ⟨w.heap.size, 1, none⟩ (.int .i64 0)).setCell ⟨w.heap.size, 2, none⟩ (.int .i64 0)).setCell ⟨w.heap.size, 3, none⟩ (.int .i64 0)).setCell ⟨w.heap.size, 4, none⟩ (.int .i64 0)).setCell ⟨w.heap.size, 5, none⟩ (.int .i64 0)).setCell ⟨w.heap.size, 6, none⟩ (.int .i64 0)).setCell ⟨w.heap.size, 7, none⟩ (.int .i64 0)).setCell ⟨w.heap.size, 8, none⟩ (.int .i64 0)).setCell ⟨w.heap.size, 9, none⟩ (.int .i64 0)).setCell ⟨w.heap.size, 10, none⟩ (.int .i64 0)).setCell ⟨w.heap.size, 11, none⟩ (.int .i64 0)).alloc o).cell? ⟨w.heap.size, 4, none⟩ = some (.int .i64 0) := fun o => cell_later ((Below.refl _ _).alloc (Nat.le_refl _) o) (by simp [go_sem, r4])
  have y5 : ∀ o, (((((((((((((w1.setCell ⟨w.heap.size, 0, none⟩ (.string ⟨#[]⟩)).setCell ⟨w.heap.size, 1, none⟩ (.int .i64 0)).setCell ⟨w.heap.size, 2, none⟩ (.int .i64 0)).setCell ⟨w.heap.size, 3, none⟩ (.int .i64 0)).setCell ⟨w.heap.size, 4, none⟩ (.int .i64 0)).setCell ⟨w.heap.size, 5, none⟩ (.int .i64 0)).setCell ⟨w.heap.size, 6, none⟩ (.int .i64 0)).setCell ⟨w.heap.size, 7, none⟩ (.int .i64 0)).setCell ⟨w.heap.size, 8, none⟩ (.int .i64 0)).setCell ⟨w.heap.size, 9, none⟩ (.int .i64 0)).setCell ⟨w.heap.size, 10, none⟩ (.int .i64 0)).setCell ⟨w.heap.size, 11, none⟩ (.int .i64 0)).alloc o).cell? ⟨w.heap.size, 5, none⟩ = some (.int .i64 0) := fun o => cell_later ((Below.refl _ _).alloc (Nat.le_refl _) o) (by simp [go_sem, r5])
  have y6 : ∀ o, (((((((((((((w1.setCell ⟨w.heap.size, 0, none⟩ (.string ⟨#[]⟩)).setCell ⟨w.heap.size, 1, none⟩ (.int .i64 0)).setCell ⟨w.heap.size, 2, none⟩ (.int .i64 0)).setCell ⟨w.heap.size, 3, none⟩ (.int .i64 0)).setCell ⟨w.heap.size, 4, none⟩ (.int .i64 0)).setCell ⟨w.heap.size, 5, none⟩ (.int .i64 0)).setCell ⟨w.heap.size, 6, none⟩ (.int .i64 0)).setCell ⟨w.heap.size, 7, none⟩ (.int .i64 0)).setCell ⟨w.heap.size, 8, none⟩ (.int .i64 0)).setCell ⟨w.heap.size, 9, none⟩ (.int .i64 0)).setCell ⟨w.heap.size, 10, none⟩ (.int .i64 0)).setCell ⟨w.heap.size, 11, none⟩ (.int .i64 0)).alloc o).cell? ⟨w.heap.size, 6, none⟩ = some (.int .i64 0) := fun o => cell_later ((Below.refl _ _).alloc (Nat.le_refl _) o) (by simp [go_sem, r6])
  have y7 : ∀ o, (((((((((((((w1.setCell ⟨w.heap.size, 0, none⟩ (.string ⟨#[]⟩)).setCell ⟨w.heap.size, 1, none⟩ (.int .i64 0)).setCell ⟨w.heap.size, 2, none⟩ (.int .i64 0)).setCell ⟨w.heap.size, 3, none⟩ (.int .i64 0)).setCell ⟨w.heap.size, 4, none⟩ (.int .i64 0)).setCell ⟨w.heap.size, 5, none⟩ (.int .i64 0)).setCell ⟨w.heap.size, 6, none⟩ (.int .i64 0)).setCell ⟨w.heap.size, 7, none⟩ (.int .i64 0)).setCell ⟨w.heap.size, 8, none⟩ (.int .i64 0)).setCell ⟨w.heap.size, 9, none⟩ (.int .i64 0)).setCell ⟨w.heap.size, 10, none⟩ (.int .i64 0)).setCell ⟨w.heap.size, 11, none⟩ (.int .i64 0)).alloc o).cell? ⟨w.heap.size, 7, none⟩ = some (.int .i64 0) := fun o => cell_later ((Below.refl _ _).alloc (Nat.le_refl _) o) (by simp [go_sem, r7])
  have y8 : ∀ o, (((((((((((((w1.setCell ⟨w.heap.size, 0, none⟩ (.string ⟨#[]⟩)).setCell ⟨w.heap.size, 1, none⟩ (.int .i64 0)).setCell ⟨w.heap.size, 2, none⟩ (.int .i64 0)).setCell ⟨w.heap.size, 3, none⟩ (.int .i64 0)).setCell ⟨w.heap.size, 4, none⟩ (.int .i64 0)).setCell ⟨w.heap.size, 5, none⟩ (.int .i64 0)).setCell ⟨w.heap.size, 6, none⟩ (.int .i64 0)).setCell ⟨w.heap.size, 7, none⟩ (.int .i64 0)).setCell ⟨w.heap.size, 8, none⟩ (.int .i64 0)).setCell ⟨w.heap.size, 9, none⟩ (.int .i64 0)).setCell ⟨w.heap.size, 10, none⟩ (.int .i64 0)).setCell ⟨w.heap.size, 11, none⟩ (.int .i64 0)).alloc o).cell? ⟨w.heap.size, 8, none⟩ = some (.int .i64 0) := fun o => cell_later ((Below.refl _ _).alloc (Nat.le_refl _) o) (by simp [go_sem, r8])
  have y9 : ∀ o, (((((((((((((w1.setCell ⟨w.heap.size, 0, none⟩ (.string ⟨#[]⟩)).setCell ⟨w.heap.size, 1, none⟩ (.int .i64 0)).setCell ⟨w.heap.size, 2, none⟩ (.int .i64 0)).setCell ⟨w.heap.size, 3, none⟩ (.int .i64 0)).setCell ⟨w.heap.size, 4, none⟩ (.int .i64 0)).setCell ⟨w.heap.size, 5, none⟩ (.int .i64 0)).setCell ⟨w.heap.size, 6, none⟩ (.int .i64 0)).setCell ⟨w.heap.size, 7, none⟩ (.int .i64 0)).setCell ⟨w.heap.size, 8, none⟩ (.int .i64 0)).setCell ⟨w.heap.size, 9, none⟩ (.int .i64 0)).setCell ⟨w.heap.size, 10, none⟩ (.int .i64 0)).setCell ⟨w.heap.size, 11, none⟩ (.int .i64 0)).alloc o).cell? ⟨w.heap.size, 9, none⟩ = some (.int .i64 0) := fun o => cell_later ((Below.refl _ _).alloc (Nat.le_refl _) o) (by simp [go_sem, r9])
  have y10 : ∀ o, (((((((((((((w1.setCell ⟨w.heap.size, 0, none⟩ (.string ⟨#[]⟩)).setCell ⟨w.heap.size, 1, none⟩ (.int .i64 0)).setCell ⟨w.heap.size, 2, none⟩ (.int .i64 0)).setCell ⟨w.heap.size, 3, none⟩ (.int .i64 0)).setCell ⟨w.heap.size, 4, none⟩ (.int .i64 0)).setCell ⟨w.heap.size, 5, none⟩ (.int .i64 0)).setCell ⟨w.heap.size, 6, none⟩ (.int .i64 0)).setCell ⟨w.heap.size, 7, none⟩ (.int .i64 0)).setCell ⟨w.heap.size, 8, none⟩ (.int .i64 0)).setCell ⟨w.heap.size, 9, none⟩ (.int .i64 0)).setCell ⟨w.heap.size, 10, none⟩ (.int .i64 0)).setCell ⟨w.heap.size, 11, none⟩ (.int .i64 0)).alloc o).cell? ⟨w.heap.size, 10, none⟩ = some (.int .i64 0) := fun o => cell_later ((Below.refl _ _).alloc (Nat.le_refl _) o) (by simp [go_sem, r10])
  have y11 : ∀ o, (((((((((((((w1.setCell ⟨w.heap.size, 0, none⟩ (.string ⟨#[]⟩)).setCell ⟨w.heap.size, 1, none⟩ (.int .i64 0)).setCell ⟨w.heap.size, 2, none⟩ (.int .i64 0)).setCell ⟨w.heap.size, 3, none⟩ (.int .i64 0)).setCell ⟨w.heap.size, 4, none⟩ (.int .i64 0)).setCell ⟨w.heap.size, 5, none⟩ (.int .i64 0)).setCell ⟨w.heap.size, 6, none⟩ (.int .i64 0)).setCell ⟨w.heap.size, 7, none⟩ (.int .i64 0)).setCell ⟨w.heap.size, 8, none⟩ (.int .i64 0)).setCell ⟨w.heap.size, 9, none⟩ (.int .i64 0)).setCell ⟨w.heap.size, 10, none⟩ (.int .i64 0)).setCell ⟨w.heap.size, 11, none⟩ (.int .i64 0)).alloc o).cell? ⟨w.heap.size, 11, none⟩ = some (.int .i64 0) := fun o => cell_later ((Below.refl _ _).alloc (Nat.le_refl _) o) (by simp [go_sem, r11])
  go_wp2
  refine bodyPost_ret (v := .tuple #[wv zW, .int .i64 1]) (by simp [results, Tryz.results83, go_sem, y0, y1, y2, y3, y4, y5, y6, y7, y8, y9, y10, y11, zW]) rfl ⟨rfl, ?_⟩
  exact ((((((((((((hB1.setCell (Nat.le_refl _) _).setCell (Nat.le_refl _) _).setCell (Nat.le_refl _) _).setCell (Nat.le_refl _) _).setCell (Nat.le_refl _) _).setCell (Nat.le_refl _) _).setCell (Nat.le_refl _) _).setCell (Nat.le_refl _) _).setCell (Nat.le_refl _) _).setCell (Nat.le_refl _) _).setCell (Nat.le_refl _) _).setCell (Nat.le_refl _) _).alloc (by simp [World.setCell]; omega) _

set_option maxHeartbeats 6400000 in
set_option maxRecDepth 100000 in
theorem read_chk (s : ByteArray) (w : World) (hT : Tabs w) (a : Wr) (hs : a.name.size ≤ maxLen) (hp : ∀ w' : World, Tabs w' → Calls Tryz.prog 99 #[.string s] w' fun e w2 => e = .returned (.tuple #[wv a, .bool true]) ∧ Below w'.heap.size w' w2) (hc : chk a ≠ 0) :
    Calls Tryz.prog 83 #[.string s] w fun e w' => e = .returned (.tuple #[wv zW, .int .i64 (chk a)]) ∧ Below w.heap.size w w' := by
  have HT : Hid (Tabs w) := hT
  have HPA : Hid (∀ w' : World, Tabs w' → Calls Tryz.prog 99 #[.string s] w' fun e w2 => e = .returned (.tuple #[wv a, .bool true]) ∧ Below w'.heap.size w' w2) := hp
  clear hT hp
  have hne : (chk a != 0) = true := by simp [hc]
  clear hc
  go_enter Tryz.func83, Tryz.ntmps83
  go_wp2_with fail
  refine (HPA.out _ (HT.out.next ((Below.refl _ _).alloc (Nat.le_refl _) _))).mono ?_
  rintro e w1 ⟨rfl, hb1⟩
  have hB1 : Below w.heap.size w w1 := ((Below.refl _ _).alloc (Nat.le_refl _) _).trans (hb1.mono (by simp))
  have r0 : w1.cell? ⟨w.heap.size, 0, none⟩ = some (.string ⟨#[]⟩) := cell_later hb1 (by go_simp)
  have r1 : w1.cell? ⟨w.heap.size, 1, none⟩ = some (.int .i64 0) := cell_later hb1 (by go_simp)
  have r2 : w1.cell? ⟨w.heap.size, 2, none⟩ = some (.int .i64 0) := cell_later hb1 (by go_simp)
  have r3 : w1.cell? ⟨w.heap.size, 3, none⟩ = some (.int .i64 0) := cell_later hb1 (by go_simp)
  have r4 : w1.cell? ⟨w.heap.size, 4, none⟩ = some (.int .i64 0) := cell_later hb1 (by go_simp)
  have r5 : w1.cell? ⟨w.heap.size, 5, none⟩ = some (.int .i64 0) := cell_later hb1 (by go_simp)
  have r6 : w1.cell? ⟨w.heap.size, 6, none⟩ = some (.int .i64 0) := cell_later hb1 (by go_simp)
  have r7 : w1.cell? ⟨w.heap.size, 7, none⟩ = some (.int .i64 0) := cell_later hb1 (by go_simp)
  have r8 : w1.cell? ⟨w.heap.size, 8, none⟩ = some (.int .i64 0) := cell_later hb1 (by go_simp)
  have r9 : w1.cell? ⟨w.heap.size, 9, none⟩ = some (.int .i64 0) := cell_later hb1 (by go_simp)
  have r10 : w1.cell? ⟨w.heap.size, 10, none⟩ = some (.int .i64 0) := cell_later hb1 (by go_simp)
  have r11 : w1.cell? ⟨w.heap.size, 11, none⟩ = some (.int .i64 0) := cell_later hb1 (by go_simp)
  have f0 : w1.frozen? ⟨w.heap.size, 0, none⟩ = false := (hb1.frozen (p := ⟨w.heap.size, 0, none⟩) (by simp)).trans (by go_simp)
  have f1 : w1.frozen? ⟨w.heap.size, 1, none⟩ = false := (hb1.frozen (p := ⟨w.heap.size, 1, none⟩) (by simp)).trans (by go_simp)
  have f2 : w1.frozen? ⟨w.heap.size, 2, none⟩ = false := (hb1.frozen (p := ⟨w.heap.size, 2, none⟩) (by simp)).trans (by go_simp)
  have f3 : w1.frozen? ⟨w.heap.size, 3, none⟩ = false := (hb1.frozen (p := ⟨w.heap.size, 3, none⟩) (by simp)).trans (by go_simp)
  have f4 : w1.frozen? ⟨w.heap.size, 4, none⟩ = false := (hb1.frozen (p := ⟨w.heap.size, 4, none⟩) (by simp)).trans (by go_simp)
  have f5 : w1.frozen? ⟨w.heap.size, 5, none⟩ = false := (hb1.frozen (p := ⟨w.heap.size, 5, none⟩) (by simp)).trans (by go_simp)
  have f6 : w1.frozen? ⟨w.heap.size, 6, none⟩ = false := (hb1.frozen (p := ⟨w.heap.size, 6, none⟩) (by simp)).trans (by go_simp)
  have f7 : w1.frozen? ⟨w.heap.size, 7, none⟩ = false := (hb1.frozen (p := ⟨w.heap.size, 7, none⟩) (by simp)).trans (by go_simp)
  have f8 : w1.frozen? ⟨w.heap.size, 8, none⟩ = false := (hb1.frozen (p := ⟨w.heap.size, 8, none⟩) (by simp)).trans (by go_simp)
  have f9 : w1.frozen? ⟨w.heap.size, 9, none⟩ = false := (hb1.frozen (p := ⟨w.heap.size, 9, none⟩) (by simp)).trans (by go_simp)
  have f10 : w1.frozen? ⟨w.heap.size, 10, none⟩ = false := (hb1.frozen (p := ⟨w.heap.size, 10, none⟩) (by simp)).trans (by go_simp)
  have f11 : w1.frozen? ⟨w.heap.size, 11, none⟩ = false := (hb1.frozen (p := ⟨w.heap.size, 11, none⟩) (by simp)).trans (by go_simp)
  have lt : w.heap.size < w1.heap.size := by have := hb1.size; simp at this; omega
  have al : ∀ o, Below w1.heap.size w1 (w1.alloc o) := fun o => (Below.refl _ w1).alloc (Nat.le_refl _) o
  clear hb1
  go_wp2_with fail
  refine (check_any a _ hs).mono ?_
  rintro e w2 ⟨rfl, hb2⟩
  have sr0 : w2.cell? ⟨w.heap.size, 0, none⟩ = some (.string ⟨#[]⟩) := cell_later hb2 (cell_later (al _) r0)
  have sf0 : w2.frozen? ⟨w.heap.size, 0, none⟩ = false := (hb2.frozen (p := ⟨w.heap.size, 0, none⟩) (by simp; omega)).trans (((al _).frozen (p := ⟨w.heap.size, 0, none⟩) lt).trans f0)
  have sr1 : w2.cell? ⟨w.heap.size, 1, none⟩ = some (.int .i64 0) := cell_later hb2 (cell_later (al _) r1)
  have sf1 : w2.frozen? ⟨w.heap.size, 1, none⟩ = false := (hb2.frozen (p := ⟨w.heap.size, 1, none⟩) (by simp; omega)).trans (((al _).frozen (p := ⟨w.heap.size, 1, none⟩) lt).trans f1)
  have sr2 : w2.cell? ⟨w.heap.size, 2, none⟩ = some (.int .i64 0) := cell_later hb2 (cell_later (al _) r2)
  have sf2 : w2.frozen? ⟨w.heap.size, 2, none⟩ = false := (hb2.frozen (p := ⟨w.heap.size, 2, none⟩) (by simp; omega)).trans (((al _).frozen (p := ⟨w.heap.size, 2, none⟩) lt).trans f2)
  have sr3 : w2.cell? ⟨w.heap.size, 3, none⟩ = some (.int .i64 0) := cell_later hb2 (cell_later (al _) r3)
  have sf3 : w2.frozen? ⟨w.heap.size, 3, none⟩ = false := (hb2.frozen (p := ⟨w.heap.size, 3, none⟩) (by simp; omega)).trans (((al _).frozen (p := ⟨w.heap.size, 3, none⟩) lt).trans f3)
  have sr4 : w2.cell? ⟨w.heap.size, 4, none⟩ = some (.int .i64 0) := cell_later hb2 (cell_later (al _) r4)
  have sf4 : w2.frozen? ⟨w.heap.size, 4, none⟩ = false := (hb2.frozen (p := ⟨w.heap.size, 4, none⟩) (by simp; omega)).trans (((al _).frozen (p := ⟨w.heap.size, 4, none⟩) lt).trans f4)
  have sr5 : w2.cell? ⟨w.heap.size, 5, none⟩ = some (.int .i64 0) := cell_later hb2 (cell_later (al _) r5)
  have sf5 : w2.frozen? ⟨w.heap.size, 5, none⟩ = false := (hb2.frozen (p := ⟨w.heap.size, 5, none⟩) (by simp; omega)).trans (((al _).frozen (p := ⟨w.heap.size, 5, none⟩) lt).trans f5)
  have sr6 : w2.cell? ⟨w.heap.size, 6, none⟩ = some (.int .i64 0) := cell_later hb2 (cell_later (al _) r6)
  have sf6 : w2.frozen? ⟨w.heap.size, 6, none⟩ = false := (hb2.frozen (p := ⟨w.heap.size, 6, none⟩) (by simp; omega)).trans (((al _).frozen (p := ⟨w.heap.size, 6, none⟩) lt).trans f6)
  have sr7 : w2.cell? ⟨w.heap.size, 7, none⟩ = some (.int .i64 0) := cell_later hb2 (cell_later (al _) r7)
  have sf7 : w2.frozen? ⟨w.heap.size, 7, none⟩ = false := (hb2.frozen (p := ⟨w.heap.size, 7, none⟩) (by simp; omega)).trans (((al _).frozen (p := ⟨w.heap.size, 7, none⟩) lt).trans f7)
  have sr8 : w2.cell? ⟨w.heap.size, 8, none⟩ = some (.int .i64 0) := cell_later hb2 (cell_later (al _) r8)
  have sf8 : w2.frozen? ⟨w.heap.size, 8, none⟩ = false := (hb2.frozen (p := ⟨w.heap.size, 8, none⟩) (by simp; omega)).trans (((al _).frozen (p := ⟨w.heap.size, 8, none⟩) lt).trans f8)
  have sr9 : w2.cell? ⟨w.heap.size, 9, none⟩ = some (.int .i64 0) := cell_later hb2 (cell_later (al _) r9)
  have sf9 : w2.frozen? ⟨w.heap.size, 9, none⟩ = false := (hb2.frozen (p := ⟨w.heap.size, 9, none⟩) (by simp; omega)).trans (((al _).frozen (p := ⟨w.heap.size, 9, none⟩) lt).trans f9)
  have sr10 : w2.cell? ⟨w.heap.size, 10, none⟩ = some (.int .i64 0) := cell_later hb2 (cell_later (al _) r10)
  have sf10 : w2.frozen? ⟨w.heap.size, 10, none⟩ = false := (hb2.frozen (p := ⟨w.heap.size, 10, none⟩) (by simp; omega)).trans (((al _).frozen (p := ⟨w.heap.size, 10, none⟩) lt).trans f10)
  have sr11 : w2.cell? ⟨w.heap.size, 11, none⟩ = some (.int .i64 0) := cell_later hb2 (cell_later (al _) r11)
  have sf11 : w2.frozen? ⟨w.heap.size, 11, none⟩ = false := (hb2.frozen (p := ⟨w.heap.size, 11, none⟩) (by simp; omega)).trans (((al _).frozen (p := ⟨w.heap.size, 11, none⟩) lt).trans f11)
  have x0 : w2.cell? ⟨w1.heap.size, 0, none⟩ = some (.string a.name) := cell_later hb2 (by go_simp)
  have x1 : w2.cell? ⟨w1.heap.size, 1, none⟩ = some (.int .i64 a.kind) := cell_later hb2 (by go_simp)
  have x2 : w2.cell? ⟨w1.heap.size, 2, none⟩ = some (.int .i64 a.rows) := cell_later hb2 (by go_simp)
  have x3 : w2.cell? ⟨w1.heap.size, 3, none⟩ = some (.int .i64 a.cols) := cell_later hb2 (by go_simp)
  have x4 : w2.cell? ⟨w1.heap.size, 4, none⟩ = some (.int .i64 a.x) := cell_later hb2 (by go_simp)
  have x5 : w2.cell? ⟨w1.heap.size, 5, none⟩ = some (.int .i64 a.y) := cell_later hb2 (by go_simp)
  have x6 : w2.cell? ⟨w1.heap.size, 6, none⟩ = some (.int .i64 a.pitch) := cell_later hb2 (by go_simp)
  have x7 : w2.cell? ⟨w1.heap.size, 7, none⟩ = some (.int .i64 a.wid) := cell_later hb2 (by go_simp)
  have x8 : w2.cell? ⟨w1.heap.size, 8, none⟩ = some (.int .i64 a.len) := cell_later hb2 (by go_simp)
  have x9 : w2.cell? ⟨w1.heap.size, 9, none⟩ = some (.int .i64 a.hei) := cell_later hb2 (by go_simp)
  have x10 : w2.cell? ⟨w1.heap.size, 10, none⟩ = some (.int .i64 a.deep) := cell_later hb2 (by go_simp)
  have x11 : w2.cell? ⟨w1.heap.size, 11, none⟩ = some (.int .i64 a.cap) := cell_later hb2 (by go_simp)
  have hB2 : Below w.heap.size w w2 := (hB1.alloc hB1.size _).trans (hb2.mono (by have := hB1.size; simp; omega))
  have lt2 : w.heap.size < w2.heap.size := by have := hb2.size; simp at this; omega
  clear hb2 al
  clear r0 f0
  clear r1 f1
  clear r2 f2
  clear r3 f3
  clear r4 f4
  clear r5 f5
  clear r6 f6
  clear r7 f7
  clear r8 f8
  clear r9 f9
  clear r10 f10
  clear r11 f11
  go_wp2
  refine bodyPost_ret (v := .tuple #[wv zW, .int .i64 (chk a)]) (by simp [results, Tryz.results83, go_sem, sr0, sr1, sr2, sr3, sr4, sr5, sr6, sr7, sr8, sr9, sr10, sr11, zW]) rfl ⟨rfl, ?_⟩
  exact ((((((((((((hB2.setCell (Nat.le_refl _) _).setCell (Nat.le_refl _) _).setCell (Nat.le_refl _) _).setCell (Nat.le_refl _) _).setCell (Nat.le_refl _) _).setCell (Nat.le_refl _) _).setCell (Nat.le_refl _) _).setCell (Nat.le_refl _) _).setCell (Nat.le_refl _) _).setCell (Nat.le_refl _) _).setCell (Nat.le_refl _) _).setCell (Nat.le_refl _) _)

set_option maxHeartbeats 6400000 in
set_option maxRecDepth 100000 in
theorem read_ok (s : ByteArray) (w : World) (hT : Tabs w) (a : Wr) (hs : a.name.size ≤ maxLen) (hp : ∀ w' : World, Tabs w' → Calls Tryz.prog 99 #[.string s] w' fun e w2 => e = .returned (.tuple #[wv a, .bool true]) ∧ Below w'.heap.size w' w2) (hc : chk a = 0) :
    Calls Tryz.prog 83 #[.string s] w fun e w' => e = .returned (.tuple #[wv a, .int .i64 0]) ∧ Below w.heap.size w w' := by
  have HT : Hid (Tabs w) := hT
  have HPA : Hid (∀ w' : World, Tabs w' → Calls Tryz.prog 99 #[.string s] w' fun e w2 => e = .returned (.tuple #[wv a, .bool true]) ∧ Below w'.heap.size w' w2) := hp
  clear hT hp
  have HCH : Hid (chk a = 0) := hc
  clear hc
  go_enter Tryz.func83, Tryz.ntmps83
  go_wp2_with fail
  refine (HPA.out _ (HT.out.next ((Below.refl _ _).alloc (Nat.le_refl _) _))).mono ?_
  rintro e w1 ⟨rfl, hb1⟩
  have hB1 : Below w.heap.size w w1 := ((Below.refl _ _).alloc (Nat.le_refl _) _).trans (hb1.mono (by simp))
  have r0 : w1.cell? ⟨w.heap.size, 0, none⟩ = some (.string ⟨#[]⟩) := cell_later hb1 (by go_simp)
  have r1 : w1.cell? ⟨w.heap.size, 1, none⟩ = some (.int .i64 0) := cell_later hb1 (by go_simp)
  have r2 : w1.cell? ⟨w.heap.size, 2, none⟩ = some (.int .i64 0) := cell_later hb1 (by go_simp)
  have r3 : w1.cell? ⟨w.heap.size, 3, none⟩ = some (.int .i64 0) := cell_later hb1 (by go_simp)
  have r4 : w1.cell? ⟨w.heap.size, 4, none⟩ = some (.int .i64 0) := cell_later hb1 (by go_simp)
  have r5 : w1.cell? ⟨w.heap.size, 5, none⟩ = some (.int .i64 0) := cell_later hb1 (by go_simp)
  have r6 : w1.cell? ⟨w.heap.size, 6, none⟩ = some (.int .i64 0) := cell_later hb1 (by go_simp)
  have r7 : w1.cell? ⟨w.heap.size, 7, none⟩ = some (.int .i64 0) := cell_later hb1 (by go_simp)
  have r8 : w1.cell? ⟨w.heap.size, 8, none⟩ = some (.int .i64 0) := cell_later hb1 (by go_simp)
  have r9 : w1.cell? ⟨w.heap.size, 9, none⟩ = some (.int .i64 0) := cell_later hb1 (by go_simp)
  have r10 : w1.cell? ⟨w.heap.size, 10, none⟩ = some (.int .i64 0) := cell_later hb1 (by go_simp)
  have r11 : w1.cell? ⟨w.heap.size, 11, none⟩ = some (.int .i64 0) := cell_later hb1 (by go_simp)
  have f0 : w1.frozen? ⟨w.heap.size, 0, none⟩ = false := (hb1.frozen (p := ⟨w.heap.size, 0, none⟩) (by simp)).trans (by go_simp)
  have f1 : w1.frozen? ⟨w.heap.size, 1, none⟩ = false := (hb1.frozen (p := ⟨w.heap.size, 1, none⟩) (by simp)).trans (by go_simp)
  have f2 : w1.frozen? ⟨w.heap.size, 2, none⟩ = false := (hb1.frozen (p := ⟨w.heap.size, 2, none⟩) (by simp)).trans (by go_simp)
  have f3 : w1.frozen? ⟨w.heap.size, 3, none⟩ = false := (hb1.frozen (p := ⟨w.heap.size, 3, none⟩) (by simp)).trans (by go_simp)
  have f4 : w1.frozen? ⟨w.heap.size, 4, none⟩ = false := (hb1.frozen (p := ⟨w.heap.size, 4, none⟩) (by simp)).trans (by go_simp)
  have f5 : w1.frozen? ⟨w.heap.size, 5, none⟩ = false := (hb1.frozen (p := ⟨w.heap.size, 5, none⟩) (by simp)).trans (by go_simp)
  have f6 : w1.frozen? ⟨w.heap.size, 6, none⟩ = false := (hb1.frozen (p := ⟨w.heap.size, 6, none⟩) (by simp)).trans (by go_simp)
  have f7 : w1.frozen? ⟨w.heap.size, 7, none⟩ = false := (hb1.frozen (p := ⟨w.heap.size, 7, none⟩) (by simp)).trans (by go_simp)
  have f8 : w1.frozen? ⟨w.heap.size, 8, none⟩ = false := (hb1.frozen (p := ⟨w.heap.size, 8, none⟩) (by simp)).trans (by go_simp)
  have f9 : w1.frozen? ⟨w.heap.size, 9, none⟩ = false := (hb1.frozen (p := ⟨w.heap.size, 9, none⟩) (by simp)).trans (by go_simp)
  have f10 : w1.frozen? ⟨w.heap.size, 10, none⟩ = false := (hb1.frozen (p := ⟨w.heap.size, 10, none⟩) (by simp)).trans (by go_simp)
  have f11 : w1.frozen? ⟨w.heap.size, 11, none⟩ = false := (hb1.frozen (p := ⟨w.heap.size, 11, none⟩) (by simp)).trans (by go_simp)
  have lt : w.heap.size < w1.heap.size := by have := hb1.size; simp at this; omega
  have al : ∀ o, Below w1.heap.size w1 (w1.alloc o) := fun o => (Below.refl _ w1).alloc (Nat.le_refl _) o
  clear hb1
  go_wp2_with fail
  refine (check_any a _ hs).mono ?_
  rintro e w2 ⟨rfl, hb2⟩
  rw [HCH.out]
  have sr0 : w2.cell? ⟨w.heap.size, 0, none⟩ = some (.string ⟨#[]⟩) := cell_later hb2 (cell_later (al _) r0)
  have sf0 : w2.frozen? ⟨w.heap.size, 0, none⟩ = false := (hb2.frozen (p := ⟨w.heap.size, 0, none⟩) (by simp; omega)).trans (((al _).frozen (p := ⟨w.heap.size, 0, none⟩) lt).trans f0)
  have sr1 : w2.cell? ⟨w.heap.size, 1, none⟩ = some (.int .i64 0) := cell_later hb2 (cell_later (al _) r1)
  have sf1 : w2.frozen? ⟨w.heap.size, 1, none⟩ = false := (hb2.frozen (p := ⟨w.heap.size, 1, none⟩) (by simp; omega)).trans (((al _).frozen (p := ⟨w.heap.size, 1, none⟩) lt).trans f1)
  have sr2 : w2.cell? ⟨w.heap.size, 2, none⟩ = some (.int .i64 0) := cell_later hb2 (cell_later (al _) r2)
  have sf2 : w2.frozen? ⟨w.heap.size, 2, none⟩ = false := (hb2.frozen (p := ⟨w.heap.size, 2, none⟩) (by simp; omega)).trans (((al _).frozen (p := ⟨w.heap.size, 2, none⟩) lt).trans f2)
  have sr3 : w2.cell? ⟨w.heap.size, 3, none⟩ = some (.int .i64 0) := cell_later hb2 (cell_later (al _) r3)
  have sf3 : w2.frozen? ⟨w.heap.size, 3, none⟩ = false := (hb2.frozen (p := ⟨w.heap.size, 3, none⟩) (by simp; omega)).trans (((al _).frozen (p := ⟨w.heap.size, 3, none⟩) lt).trans f3)
  have sr4 : w2.cell? ⟨w.heap.size, 4, none⟩ = some (.int .i64 0) := cell_later hb2 (cell_later (al _) r4)
  have sf4 : w2.frozen? ⟨w.heap.size, 4, none⟩ = false := (hb2.frozen (p := ⟨w.heap.size, 4, none⟩) (by simp; omega)).trans (((al _).frozen (p := ⟨w.heap.size, 4, none⟩) lt).trans f4)
  have sr5 : w2.cell? ⟨w.heap.size, 5, none⟩ = some (.int .i64 0) := cell_later hb2 (cell_later (al _) r5)
  have sf5 : w2.frozen? ⟨w.heap.size, 5, none⟩ = false := (hb2.frozen (p := ⟨w.heap.size, 5, none⟩) (by simp; omega)).trans (((al _).frozen (p := ⟨w.heap.size, 5, none⟩) lt).trans f5)
  have sr6 : w2.cell? ⟨w.heap.size, 6, none⟩ = some (.int .i64 0) := cell_later hb2 (cell_later (al _) r6)
  have sf6 : w2.frozen? ⟨w.heap.size, 6, none⟩ = false := (hb2.frozen (p := ⟨w.heap.size, 6, none⟩) (by simp; omega)).trans (((al _).frozen (p := ⟨w.heap.size, 6, none⟩) lt).trans f6)
  have sr7 : w2.cell? ⟨w.heap.size, 7, none⟩ = some (.int .i64 0) := cell_later hb2 (cell_later (al _) r7)
  have sf7 : w2.frozen? ⟨w.heap.size, 7, none⟩ = false := (hb2.frozen (p := ⟨w.heap.size, 7, none⟩) (by simp; omega)).trans (((al _).frozen (p := ⟨w.heap.size, 7, none⟩) lt).trans f7)
  have sr8 : w2.cell? ⟨w.heap.size, 8, none⟩ = some (.int .i64 0) := cell_later hb2 (cell_later (al _) r8)
  have sf8 : w2.frozen? ⟨w.heap.size, 8, none⟩ = false := (hb2.frozen (p := ⟨w.heap.size, 8, none⟩) (by simp; omega)).trans (((al _).frozen (p := ⟨w.heap.size, 8, none⟩) lt).trans f8)
  have sr9 : w2.cell? ⟨w.heap.size, 9, none⟩ = some (.int .i64 0) := cell_later hb2 (cell_later (al _) r9)
  have sf9 : w2.frozen? ⟨w.heap.size, 9, none⟩ = false := (hb2.frozen (p := ⟨w.heap.size, 9, none⟩) (by simp; omega)).trans (((al _).frozen (p := ⟨w.heap.size, 9, none⟩) lt).trans f9)
  have sr10 : w2.cell? ⟨w.heap.size, 10, none⟩ = some (.int .i64 0) := cell_later hb2 (cell_later (al _) r10)
  have sf10 : w2.frozen? ⟨w.heap.size, 10, none⟩ = false := (hb2.frozen (p := ⟨w.heap.size, 10, none⟩) (by simp; omega)).trans (((al _).frozen (p := ⟨w.heap.size, 10, none⟩) lt).trans f10)
  have sr11 : w2.cell? ⟨w.heap.size, 11, none⟩ = some (.int .i64 0) := cell_later hb2 (cell_later (al _) r11)
  have sf11 : w2.frozen? ⟨w.heap.size, 11, none⟩ = false := (hb2.frozen (p := ⟨w.heap.size, 11, none⟩) (by simp; omega)).trans (((al _).frozen (p := ⟨w.heap.size, 11, none⟩) lt).trans f11)
  have x0 : w2.cell? ⟨w1.heap.size, 0, none⟩ = some (.string a.name) := cell_later hb2 (by go_simp)
  have x1 : w2.cell? ⟨w1.heap.size, 1, none⟩ = some (.int .i64 a.kind) := cell_later hb2 (by go_simp)
  have x2 : w2.cell? ⟨w1.heap.size, 2, none⟩ = some (.int .i64 a.rows) := cell_later hb2 (by go_simp)
  have x3 : w2.cell? ⟨w1.heap.size, 3, none⟩ = some (.int .i64 a.cols) := cell_later hb2 (by go_simp)
  have x4 : w2.cell? ⟨w1.heap.size, 4, none⟩ = some (.int .i64 a.x) := cell_later hb2 (by go_simp)
  have x5 : w2.cell? ⟨w1.heap.size, 5, none⟩ = some (.int .i64 a.y) := cell_later hb2 (by go_simp)
  have x6 : w2.cell? ⟨w1.heap.size, 6, none⟩ = some (.int .i64 a.pitch) := cell_later hb2 (by go_simp)
  have x7 : w2.cell? ⟨w1.heap.size, 7, none⟩ = some (.int .i64 a.wid) := cell_later hb2 (by go_simp)
  have x8 : w2.cell? ⟨w1.heap.size, 8, none⟩ = some (.int .i64 a.len) := cell_later hb2 (by go_simp)
  have x9 : w2.cell? ⟨w1.heap.size, 9, none⟩ = some (.int .i64 a.hei) := cell_later hb2 (by go_simp)
  have x10 : w2.cell? ⟨w1.heap.size, 10, none⟩ = some (.int .i64 a.deep) := cell_later hb2 (by go_simp)
  have x11 : w2.cell? ⟨w1.heap.size, 11, none⟩ = some (.int .i64 a.cap) := cell_later hb2 (by go_simp)
  have hB2 : Below w.heap.size w w2 := (hB1.alloc hB1.size _).trans (hb2.mono (by have := hB1.size; simp; omega))
  have lt2 : w.heap.size < w2.heap.size := by have := hb2.size; simp at this; omega
  clear hb2 al
  clear r0 f0
  clear r1 f1
  clear r2 f2
  clear r3 f3
  clear r4 f4
  clear r5 f5
  clear r6 f6
  clear r7 f7
  clear r8 f8
  clear r9 f9
  clear r10 f10
  clear r11 f11
  go_wp2
  refine bodyPost_ret (v := .tuple #[wv a, .int .i64 0]) (by simp [results, Tryz.results83, go_sem, sr0, sr1, sr2, sr3, sr4, sr5, sr6, sr7, sr8, sr9, sr10, sr11]) rfl ⟨rfl, ?_⟩
  exact ((((((((((((hB2.setCell (Nat.le_refl _) _).setCell (Nat.le_refl _) _).setCell (Nat.le_refl _) _).setCell (Nat.le_refl _) _).setCell (Nat.le_refl _) _).setCell (Nat.le_refl _) _).setCell (Nat.le_refl _) _).setCell (Nat.le_refl _) _).setCell (Nat.le_refl _) _).setCell (Nat.le_refl _) _).setCell (Nat.le_refl _) _).setCell (Nat.le_refl _) _)

end Go.Proofs.YtmmpaaaifdikdaaGreatDoor
