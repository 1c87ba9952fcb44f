/- The law WareTexts walked. -/
import Derived.Test.YtefjeohhdmmboaaDoorTextsM
import Derived.Test.YtefjeohhdmmboaaDoorWText
import Derived.Test.YtefjeohhdmmboaaDoorRefs
namespace Go.Proofs.YtefjeohhdmmboaaDoor
open Go.RowKit Go.Shelf

set_option maxHeartbeats 12800000 in
set_option maxRecDepth 100000 in
theorem texts_err (a : Wr) (s : ByteArray) (w : World) (hs : a.name.size ≤ maxLen) (hsz : s.size ≤ 1048576) (hT : Tabs w) (hn : chk a ≠ 0) :
    Calls Tryd.prog 3 #[wv a, .string s] w fun e w' => e = .returned (.bool true) ∧ Below w.heap.size w w' := by
  have HT : Hid (Tabs w) := hT
  have HRD : Hid (∀ w : World, Tabs w → Calls Tryd.prog 9 #[.string s] w fun e w' => e = .returned (.tuple #[wv (outP s).1, .int .i64 (outP s).2]) ∧ Below w.heap.size w w') := fun w hT => read_any s w hsz hT
  have HRW : Hid (∀ w : World, Calls Tryd.prog 10 #[.string s] w fun e w' => e = .returned (.tuple #[wv (outP s).1, .int .i64 (outP s).2]) ∧ Below w.heap.size w w') := fun w => readWare_any s w hsz
  obtain ⟨X, hX⟩ : ∃ X, X = (outP s).1 := ⟨_, rfl⟩
  obtain ⟨E, hE⟩ : ∃ E, E = (outP s).2 := ⟨_, rfl⟩
  rw [← hX, ← hE] at HRD HRW
  clear hX hE hT
  have HCK : Hid (∀ w : World, Calls Tryd.prog 7 #[wv a] w fun e w' => e = .returned (.int .i64 (chk a)) ∧ Below w.heap.size w w') := fun w => check_any a w hs
  have HMY : Hid (∀ w : World, Calls Tryd.prog 11 #[wv a] w fun e w' => e = .returned (.int .i64 (chk a)) ∧ Below w.heap.size w w') := fun w => wareMay_any a w hs
  have HSH : Hid (∀ w : World, Tabs w → Calls Tryd.prog 8 #[wv a] w fun e w' => e = .returned (.tuple #[.string ⟨#[]⟩, .int .i64 (chk a)]) ∧ Below w.heap.size w w') := fun w _ => show_err a w hs hn
  have hne : (chk a != 0) = true := by simp [hn]
  generalize chk a = c at *
  clear hn
  go_enter Tryd.func3, Tryd.ntmps3
  go_wp2_with fail
  refine (HCK.out _).mono ?_
  rintro e w1 ⟨rfl, hb1⟩
  have e0 : w1.cell? ⟨w.heap.size, 0, none⟩ = some (.string a.name) := cell_later hb1 (by go_simp)
  have e1 : w1.cell? ⟨w.heap.size, 1, none⟩ = some (.int .i64 a.kind) := cell_later hb1 (by go_simp)
  have e2 : w1.cell? ⟨w.heap.size, 2, none⟩ = some (.int .i64 a.rows) := cell_later hb1 (by go_simp)
  have e3 : w1.cell? ⟨w.heap.size, 3, none⟩ = some (.int .i64 a.cols) := cell_later hb1 (by go_simp)
  have e4 : w1.cell? ⟨w.heap.size, 4, none⟩ = some (.int .i64 a.x) := cell_later hb1 (by go_simp)
  have e5 : w1.cell? ⟨w.heap.size, 5, none⟩ = some (.int .i64 a.y) := cell_later hb1 (by go_simp)
  have e6 : w1.cell? ⟨w.heap.size, 6, none⟩ = some (.int .i64 a.pitch) := cell_later hb1 (by go_simp)
  have e7 : w1.cell? ⟨w.heap.size, 7, none⟩ = some (.int .i64 a.wid) := cell_later hb1 (by go_simp)
  have e8 : w1.cell? ⟨w.heap.size, 8, none⟩ = some (.int .i64 a.len) := cell_later hb1 (by go_simp)
  have e9 : w1.cell? ⟨w.heap.size, 9, none⟩ = some (.int .i64 a.hei) := cell_later hb1 (by go_simp)
  have e10 : w1.cell? ⟨w.heap.size, 10, none⟩ = some (.int .i64 a.deep) := cell_later hb1 (by go_simp)
  have e11 : w1.cell? ⟨w.heap.size, 11, none⟩ = some (.int .i64 a.cap) := cell_later hb1 (by go_simp)
  have hB1 : Below w.heap.size w w1 := ((Below.refl _ _).alloc (Nat.le_refl _) _).trans (hb1.mono (by simp))
  clear hb1
  go_wp2_with fail
  refine (HSH.out _ (HT.out.next hB1)).mono ?_
  rintro e w2 ⟨rfl, hb2⟩
  have e0 : w2.cell? ⟨w.heap.size, 0, none⟩ = some (.string a.name) := cell_later hb2 e0
  have e1 : w2.cell? ⟨w.heap.size, 1, none⟩ = some (.int .i64 a.kind) := cell_later hb2 e1
  have e2 : w2.cell? ⟨w.heap.size, 2, none⟩ = some (.int .i64 a.rows) := cell_later hb2 e2
  have e3 : w2.cell? ⟨w.heap.size, 3, none⟩ = some (.int .i64 a.cols) := cell_later hb2 e3
  have e4 : w2.cell? ⟨w.heap.size, 4, none⟩ = some (.int .i64 a.x) := cell_later hb2 e4
  have e5 : w2.cell? ⟨w.heap.size, 5, none⟩ = some (.int .i64 a.y) := cell_later hb2 e5
  have e6 : w2.cell? ⟨w.heap.size, 6, none⟩ = some (.int .i64 a.pitch) := cell_later hb2 e6
  have e7 : w2.cell? ⟨w.heap.size, 7, none⟩ = some (.int .i64 a.wid) := cell_later hb2 e7
  have e8 : w2.cell? ⟨w.heap.size, 8, none⟩ = some (.int .i64 a.len) := cell_later hb2 e8
  have e9 : w2.cell? ⟨w.heap.size, 9, none⟩ = some (.int .i64 a.hei) := cell_later hb2 e9
  have e10 : w2.cell? ⟨w.heap.size, 10, none⟩ = some (.int .i64 a.deep) := cell_later hb2 e10
  have e11 : w2.cell? ⟨w.heap.size, 11, none⟩ = some (.int .i64 a.cap) := cell_later hb2 e11
  have hB2 : Below w.heap.size w w2 := hB1.trans (hb2.mono hB1.size)
  clear hb2
  go_wp2_with fail
  refine (HRD.out _ (HT.out.next hB2)).mono ?_
  rintro e w3 ⟨rfl, hb3⟩
  have e0 : w3.cell? ⟨w.heap.size, 0, none⟩ = some (.string a.name) := cell_later hb3 e0
  have e1 : w3.cell? ⟨w.heap.size, 1, none⟩ = some (.int .i64 a.kind) := cell_later hb3 e1
  have e2 : w3.cell? ⟨w.heap.size, 2, none⟩ = some (.int .i64 a.rows) := cell_later hb3 e2
  have e3 : w3.cell? ⟨w.heap.size, 3, none⟩ = some (.int .i64 a.cols) := cell_later hb3 e3
  have e4 : w3.cell? ⟨w.heap.size, 4, none⟩ = some (.int .i64 a.x) := cell_later hb3 e4
  have e5 : w3.cell? ⟨w.heap.size, 5, none⟩ = some (.int .i64 a.y) := cell_later hb3 e5
  have e6 : w3.cell? ⟨w.heap.size, 6, none⟩ = some (.int .i64 a.pitch) := cell_later hb3 e6
  have e7 : w3.cell? ⟨w.heap.size, 7, none⟩ = some (.int .i64 a.wid) := cell_later hb3 e7
  have e8 : w3.cell? ⟨w.heap.size, 8, none⟩ = some (.int .i64 a.len) := cell_later hb3 e8
  have e9 : w3.cell? ⟨w.heap.size, 9, none⟩ = some (.int .i64 a.hei) := cell_later hb3 e9
  have e10 : w3.cell? ⟨w.heap.size, 10, none⟩ = some (.int .i64 a.deep) := cell_later hb3 e10
  have e11 : w3.cell? ⟨w.heap.size, 11, none⟩ = some (.int .i64 a.cap) := cell_later hb3 e11
  have hB3 : Below w.heap.size w w3 := hB2.trans (hb3.mono hB2.size)
  clear hb3
  have al : ∀ o, Below w3.heap.size w3 (w3.alloc o) := fun o => (Below.refl _ w3).alloc (Nat.le_refl _) o
  have qe0 : ∀ o, (w3.alloc o).cell? ⟨w.heap.size, 0, none⟩ = some (.string a.name) := fun o => cell_later (al o) e0
  have qe1 : ∀ o, (w3.alloc o).cell? ⟨w.heap.size, 1, none⟩ = some (.int .i64 a.kind) := fun o => cell_later (al o) e1
  have qe2 : ∀ o, (w3.alloc o).cell? ⟨w.heap.size, 2, none⟩ = some (.int .i64 a.rows) := fun o => cell_later (al o) e2
  have qe3 : ∀ o, (w3.alloc o).cell? ⟨w.heap.size, 3, none⟩ = some (.int .i64 a.cols) := fun o => cell_later (al o) e3
  have qe4 : ∀ o, (w3.alloc o).cell? ⟨w.heap.size, 4, none⟩ = some (.int .i64 a.x) := fun o => cell_later (al o) e4
  have qe5 : ∀ o, (w3.alloc o).cell? ⟨w.heap.size, 5, none⟩ = some (.int .i64 a.y) := fun o => cell_later (al o) e5
  have qe6 : ∀ o, (w3.alloc o).cell? ⟨w.heap.size, 6, none⟩ = some (.int .i64 a.pitch) := fun o => cell_later (al o) e6
  have qe7 : ∀ o, (w3.alloc o).cell? ⟨w.heap.size, 7, none⟩ = some (.int .i64 a.wid) := fun o => cell_later (al o) e7
  have qe8 : ∀ o, (w3.alloc o).cell? ⟨w.heap.size, 8, none⟩ = some (.int .i64 a.len) := fun o => cell_later (al o) e8
  have qe9 : ∀ o, (w3.alloc o).cell? ⟨w.heap.size, 9, none⟩ = some (.int .i64 a.hei) := fun o => cell_later (al o) e9
  have qe10 : ∀ o, (w3.alloc o).cell? ⟨w.heap.size, 10, none⟩ = some (.int .i64 a.deep) := fun o => cell_later (al o) e10
  have qe11 : ∀ o, (w3.alloc o).cell? ⟨w.heap.size, 11, none⟩ = some (.int .i64 a.cap) := fun o => cell_later (al o) e11
  clear al
  go_wp2_with fail
  refine (HRW.out _).mono ?_
  rintro e w4 ⟨rfl, hb4⟩
  have e0 : w4.cell? ⟨w.heap.size, 0, none⟩ = some (.string a.name) := cell_later hb4 (qe0 _)
  have e1 : w4.cell? ⟨w.heap.size, 1, none⟩ = some (.int .i64 a.kind) := cell_later hb4 (qe1 _)
  have e2 : w4.cell? ⟨w.heap.size, 2, none⟩ = some (.int .i64 a.rows) := cell_later hb4 (qe2 _)
  have e3 : w4.cell? ⟨w.heap.size, 3, none⟩ = some (.int .i64 a.cols) := cell_later hb4 (qe3 _)
  have e4 : w4.cell? ⟨w.heap.size, 4, none⟩ = some (.int .i64 a.x) := cell_later hb4 (qe4 _)
  have e5 : w4.cell? ⟨w.heap.size, 5, none⟩ = some (.int .i64 a.y) := cell_later hb4 (qe5 _)
  have e6 : w4.cell? ⟨w.heap.size, 6, none⟩ = some (.int .i64 a.pitch) := cell_later hb4 (qe6 _)
  have e7 : w4.cell? ⟨w.heap.size, 7, none⟩ = some (.int .i64 a.wid) := cell_later hb4 (qe7 _)
  have e8 : w4.cell? ⟨w.heap.size, 8, none⟩ = some (.int .i64 a.len) := cell_later hb4 (qe8 _)
  have e9 : w4.cell? ⟨w.heap.size, 9, none⟩ = some (.int .i64 a.hei) := cell_later hb4 (qe9 _)
  have e10 : w4.cell? ⟨w.heap.size, 10, none⟩ = some (.int .i64 a.deep) := cell_later hb4 (qe10 _)
  have e11 : w4.cell? ⟨w.heap.size, 11, none⟩ = some (.int .i64 a.cap) := cell_later hb4 (qe11 _)
  have x0 : w4.cell? ⟨w3.heap.size, 0, none⟩ = some (.string X.name) := cell_later hb4 (by go_simp)
  have x1 : w4.cell? ⟨w3.heap.size, 1, none⟩ = some (.int .i64 X.kind) := cell_later hb4 (by go_simp)
  have x2 : w4.cell? ⟨w3.heap.size, 2, none⟩ = some (.int .i64 X.rows) := cell_later hb4 (by go_simp)
  have x3 : w4.cell? ⟨w3.heap.size, 3, none⟩ = some (.int .i64 X.cols) := cell_later hb4 (by go_simp)
  have x4 : w4.cell? ⟨w3.heap.size, 4, none⟩ = some (.int .i64 X.x) := cell_later hb4 (by go_simp)
  have x5 : w4.cell? ⟨w3.heap.size, 5, none⟩ = some (.int .i64 X.y) := cell_later hb4 (by go_simp)
  have x6 : w4.cell? ⟨w3.heap.size, 6, none⟩ = some (.int .i64 X.pitch) := cell_later hb4 (by go_simp)
  have x7 : w4.cell? ⟨w3.heap.size, 7, none⟩ = some (.int .i64 X.wid) := cell_later hb4 (by go_simp)
  have x8 : w4.cell? ⟨w3.heap.size, 8, none⟩ = some (.int .i64 X.len) := cell_later hb4 (by go_simp)
  have x9 : w4.cell? ⟨w3.heap.size, 9, none⟩ = some (.int .i64 X.hei) := cell_later hb4 (by go_simp)
  have x10 : w4.cell? ⟨w3.heap.size, 10, none⟩ = some (.int .i64 X.deep) := cell_later hb4 (by go_simp)
  have x11 : w4.cell? ⟨w3.heap.size, 11, none⟩ = some (.int .i64 X.cap) := cell_later hb4 (by go_simp)
  have hB4 : Below w.heap.size w w4 := (hB3.alloc hB3.size _).trans (hb4.mono (by have := hB3.size; simp; omega))
  clear hb4
  clear qe0 qe1 qe2 qe3 qe4 qe5 qe6 qe7 qe8 qe9 qe10 qe11
  have al : ∀ o, Below w4.heap.size w4 (w4.alloc o) := fun o => (Below.refl _ w4).alloc (Nat.le_refl _) o
  have qe0 : ∀ o, (w4.alloc o).cell? ⟨w.heap.size, 0, none⟩ = some (.string a.name) := fun o => cell_later (al o) e0
  have qe1 : ∀ o, (w4.alloc o).cell? ⟨w.heap.size, 1, none⟩ = some (.int .i64 a.kind) := fun o => cell_later (al o) e1
  have qe2 : ∀ o, (w4.alloc o).cell? ⟨w.heap.size, 2, none⟩ = some (.int .i64 a.rows) := fun o => cell_later (al o) e2
  have qe3 : ∀ o, (w4.alloc o).cell? ⟨w.heap.size, 3, none⟩ = some (.int .i64 a.cols) := fun o => cell_later (al o) e3
  have qe4 : ∀ o, (w4.alloc o).cell? ⟨w.heap.size, 4, none⟩ = some (.int .i64 a.x) := fun o => cell_later (al o) e4
  have qe5 : ∀ o, (w4.alloc o).cell? ⟨w.heap.size, 5, none⟩ = some (.int .i64 a.y) := fun o => cell_later (al o) e5
  have qe6 : ∀ o, (w4.alloc o).cell? ⟨w.heap.size, 6, none⟩ = some (.int .i64 a.pitch) := fun o => cell_later (al o) e6
  have qe7 : ∀ o, (w4.alloc o).cell? ⟨w.heap.size, 7, none⟩ = some (.int .i64 a.wid) := fun o => cell_later (al o) e7
  have qe8 : ∀ o, (w4.alloc o).cell? ⟨w.heap.size, 8, none⟩ = some (.int .i64 a.len) := fun o => cell_later (al o) e8
  have qe9 : ∀ o, (w4.alloc o).cell? ⟨w.heap.size, 9, none⟩ = some (.int .i64 a.hei) := fun o => cell_later (al o) e9
  have qe10 : ∀ o, (w4.alloc o).cell? ⟨w.heap.size, 10, none⟩ = some (.int .i64 a.deep) := fun o => cell_later (al o) e10
  have qe11 : ∀ o, (w4.alloc o).cell? ⟨w.heap.size, 11, none⟩ = some (.int .i64 a.cap) := fun o => cell_later (al o) e11
  have qx0 : ∀ o, (w4.alloc o).cell? ⟨w3.heap.size, 0, none⟩ = some (.string X.name) := fun o => cell_later (al o) x0
  have qx1 : ∀ o, (w4.alloc o).cell? ⟨w3.heap.size, 1, none⟩ = some (.int .i64 X.kind) := fun o => cell_later (al o) x1
  have qx2 : ∀ o, (w4.alloc o).cell? ⟨w3.heap.size, 2, none⟩ = some (.int .i64 X.rows) := fun o => cell_later (al o) x2
  have qx3 : ∀ o, (w4.alloc o).cell? ⟨w3.heap.size, 3, none⟩ = some (.int .i64 X.cols) := fun o => cell_later (al o) x3
  have qx4 : ∀ o, (w4.alloc o).cell? ⟨w3.heap.size, 4, none⟩ = some (.int .i64 X.x) := fun o => cell_later (al o) x4
  have qx5 : ∀ o, (w4.alloc o).cell? ⟨w3.heap.size, 5, none⟩ = some (.int .i64 X.y) := fun o => cell_later (al o) x5
  have qx6 : ∀ o, (w4.alloc o).cell? ⟨w3.heap.size, 6, none⟩ = some (.int .i64 X.pitch) := fun o => cell_later (al o) x6
  have qx7 : ∀ o, (w4.alloc o).cell? ⟨w3.heap.size, 7, none⟩ = some (.int .i64 X.wid) := fun o => cell_later (al o) x7
  have qx8 : ∀ o, (w4.alloc o).cell? ⟨w3.heap.size, 8, none⟩ = some (.int .i64 X.len) := fun o => cell_later (al o) x8
  have qx9 : ∀ o, (w4.alloc o).cell? ⟨w3.heap.size, 9, none⟩ = some (.int .i64 X.hei) := fun o => cell_later (al o) x9
  have qx10 : ∀ o, (w4.alloc o).cell? ⟨w3.heap.size, 10, none⟩ = some (.int .i64 X.deep) := fun o => cell_later (al o) x10
  have qx11 : ∀ o, (w4.alloc o).cell? ⟨w3.heap.size, 11, none⟩ = some (.int .i64 X.cap) := fun o => cell_later (al o) x11
  clear al
  go_wp2_with fail
  refine (HMY.out _).mono ?_
  rintro e w5 ⟨rfl, hb5⟩
  have e0 : w5.cell? ⟨w.heap.size, 0, none⟩ = some (.string a.name) := cell_later hb5 (qe0 _)
  have e1 : w5.cell? ⟨w.heap.size, 1, none⟩ = some (.int .i64 a.kind) := cell_later hb5 (qe1 _)
  have e2 : w5.cell? ⟨w.heap.size, 2, none⟩ = some (.int .i64 a.rows) := cell_later hb5 (qe2 _)
  have e3 : w5.cell? ⟨w.heap.size, 3, none⟩ = some (.int .i64 a.cols) := cell_later hb5 (qe3 _)
  have e4 : w5.cell? ⟨w.heap.size, 4, none⟩ = some (.int .i64 a.x) := cell_later hb5 (qe4 _)
  have e5 : w5.cell? ⟨w.heap.size, 5, none⟩ = some (.int .i64 a.y) := cell_later hb5 (qe5 _)
  have e6 : w5.cell? ⟨w.heap.size, 6, none⟩ = some (.int .i64 a.pitch) := cell_later hb5 (qe6 _)
  have e7 : w5.cell? ⟨w.heap.size, 7, none⟩ = some (.int .i64 a.wid) := cell_later hb5 (qe7 _)
  have e8 : w5.cell? ⟨w.heap.size, 8, none⟩ = some (.int .i64 a.len) := cell_later hb5 (qe8 _)
  have e9 : w5.cell? ⟨w.heap.size, 9, none⟩ = some (.int .i64 a.hei) := cell_later hb5 (qe9 _)
  have e10 : w5.cell? ⟨w.heap.size, 10, none⟩ = some (.int .i64 a.deep) := cell_later hb5 (qe10 _)
  have e11 : w5.cell? ⟨w.heap.size, 11, none⟩ = some (.int .i64 a.cap) := cell_later hb5 (qe11 _)
  have x0 : w5.cell? ⟨w3.heap.size, 0, none⟩ = some (.string X.name) := cell_later hb5 (qx0 _)
  have x1 : w5.cell? ⟨w3.heap.size, 1, none⟩ = some (.int .i64 X.kind) := cell_later hb5 (qx1 _)
  have x2 : w5.cell? ⟨w3.heap.size, 2, none⟩ = some (.int .i64 X.rows) := cell_later hb5 (qx2 _)
  have x3 : w5.cell? ⟨w3.heap.size, 3, none⟩ = some (.int .i64 X.cols) := cell_later hb5 (qx3 _)
  have x4 : w5.cell? ⟨w3.heap.size, 4, none⟩ = some (.int .i64 X.x) := cell_later hb5 (qx4 _)
  have x5 : w5.cell? ⟨w3.heap.size, 5, none⟩ = some (.int .i64 X.y) := cell_later hb5 (qx5 _)
  have x6 : w5.cell? ⟨w3.heap.size, 6, none⟩ = some (.int .i64 X.pitch) := cell_later hb5 (qx6 _)
  have x7 : w5.cell? ⟨w3.heap.size, 7, none⟩ = some (.int .i64 X.wid) := cell_later hb5 (qx7 _)
  have x8 : w5.cell? ⟨w3.heap.size, 8, none⟩ = some (.int .i64 X.len) := cell_later hb5 (qx8 _)
  have x9 : w5.cell? ⟨w3.heap.size, 9, none⟩ = some (.int .i64 X.hei) := cell_later hb5 (qx9 _)
  have x10 : w5.cell? ⟨w3.heap.size, 10, none⟩ = some (.int .i64 X.deep) := cell_later hb5 (qx10 _)
  have x11 : w5.cell? ⟨w3.heap.size, 11, none⟩ = some (.int .i64 X.cap) := cell_later hb5 (qx11 _)
  have y0 : w5.cell? ⟨w4.heap.size, 0, none⟩ = some (.string X.name) := cell_later hb5 (by go_simp)
  have y1 : w5.cell? ⟨w4.heap.size, 1, none⟩ = some (.int .i64 X.kind) := cell_later hb5 (by go_simp)
  have y2 : w5.cell? ⟨w4.heap.size, 2, none⟩ = some (.int .i64 X.rows) := cell_later hb5 (by go_simp)
  have y3 : w5.cell? ⟨w4.heap.size, 3, none⟩ = some (.int .i64 X.cols) := cell_later hb5 (by go_simp)
  have y4 : w5.cell? ⟨w4.heap.size, 4, none⟩ = some (.int .i64 X.x) := cell_later hb5 (by go_simp)
  have y5 : w5.cell? ⟨w4.heap.size, 5, none⟩ = some (.int .i64 X.y) := cell_later hb5 (by go_simp)
  have y6 : w5.cell? ⟨w4.heap.size, 6, none⟩ = some (.int .i64 X.pitch) := cell_later hb5 (by go_simp)
  have y7 : w5.cell? ⟨w4.heap.size, 7, none⟩ = some (.int .i64 X.wid) := cell_later hb5 (by go_simp)
  have y8 : w5.cell? ⟨w4.heap.size, 8, none⟩ = some (.int .i64 X.len) := cell_later hb5 (by go_simp)
  have y9 : w5.cell? ⟨w4.heap.size, 9, none⟩ = some (.int .i64 X.hei) := cell_later hb5 (by go_simp)
  have y10 : w5.cell? ⟨w4.heap.size, 10, none⟩ = some (.int .i64 X.deep) := cell_later hb5 (by go_simp)
  have y11 : w5.cell? ⟨w4.heap.size, 11, none⟩ = some (.int .i64 X.cap) := cell_later hb5 (by go_simp)
  have hB5 : Below w.heap.size w w5 := (hB4.alloc hB4.size _).trans (hb5.mono (by have := hB4.size; simp; omega))
  clear hb5
  clear qe0 qe1 qe2 qe3 qe4 qe5 qe6 qe7 qe8 qe9 qe10 qe11 qx0 qx1 qx2 qx3 qx4 qx5 qx6 qx7 qx8 qx9 qx10 qx11
  go_wp2
  go_ret
  exact ⟨ret_bool (by simp), hB5⟩
set_option maxHeartbeats 12800000 in
set_option maxRecDepth 100000 in
theorem texts_ok (a : Wr) (s : ByteArray) (w : World) (hs : a.name.size ≤ maxLen) (hsz : s.size ≤ 1048576) (hT : Tabs w) (hn : chk a = 0) :
    Calls Tryd.prog 3 #[wv a, .string s] w fun e w' => e = .returned (.bool true) ∧ Below w.heap.size w w' := by
  have HT : Hid (Tabs w) := hT
  have HRD : Hid (∀ w : World, Tabs w → Calls Tryd.prog 9 #[.string s] w fun e w' => e = .returned (.tuple #[wv (outP s).1, .int .i64 (outP s).2]) ∧ Below w.heap.size w w') := fun w hT => read_any s w hsz hT
  have HRW : Hid (∀ w : World, Calls Tryd.prog 10 #[.string s] w fun e w' => e = .returned (.tuple #[wv (outP s).1, .int .i64 (outP s).2]) ∧ Below w.heap.size w w') := fun w => readWare_any s w hsz
  obtain ⟨X, hX⟩ : ∃ X, X = (outP s).1 := ⟨_, rfl⟩
  obtain ⟨E, hE⟩ : ∃ E, E = (outP s).2 := ⟨_, rfl⟩
  rw [← hX, ← hE] at HRD HRW
  clear hX hE hT
  have HCK : Hid (∀ w : World, Calls Tryd.prog 7 #[wv a] w fun e w' => e = .returned (.int .i64 (chk a)) ∧ Below w.heap.size w w') := fun w => check_any a w hs
  have HMY : Hid (∀ w : World, Calls Tryd.prog 11 #[wv a] w fun e w' => e = .returned (.int .i64 (chk a)) ∧ Below w.heap.size w w') := fun w => wareMay_any a w hs
  have HSH : Hid (∀ w : World, Tabs w → Calls Tryd.prog 8 #[wv a] w fun e w' => e = .returned (.tuple #[.string ⟨(showL a).toArray⟩, .int .i64 0]) ∧ Below w.heap.size w w') := fun w hT => show_ok a w hs hn hT
  have HWT : Hid (∀ w : World, Calls Tryd.prog 12 #[wv a] w fun e w' => e = .returned (.string ⟨(showL a).toArray⟩) ∧ Below w.heap.size w w') := fun w => wareText_ok a w hn
  rw [hn] at HCK HMY
  generalize showL a = L at *
  clear hn
  go_enter Tryd.func3, Tryd.ntmps3
  go_wp2_with fail
  refine (HCK.out _).mono ?_
  rintro e w1 ⟨rfl, hb1⟩
  have e0 : w1.cell? ⟨w.heap.size, 0, none⟩ = some (.string a.name) := cell_later hb1 (by go_simp)
  have e1 : w1.cell? ⟨w.heap.size, 1, none⟩ = some (.int .i64 a.kind) := cell_later hb1 (by go_simp)
  have e2 : w1.cell? ⟨w.heap.size, 2, none⟩ = some (.int .i64 a.rows) := cell_later hb1 (by go_simp)
  have e3 : w1.cell? ⟨w.heap.size, 3, none⟩ = some (.int .i64 a.cols) := cell_later hb1 (by go_simp)
  have e4 : w1.cell? ⟨w.heap.size, 4, none⟩ = some (.int .i64 a.x) := cell_later hb1 (by go_simp)
  have e5 : w1.cell? ⟨w.heap.size, 5, none⟩ = some (.int .i64 a.y) := cell_later hb1 (by go_simp)
  have e6 : w1.cell? ⟨w.heap.size, 6, none⟩ = some (.int .i64 a.pitch) := cell_later hb1 (by go_simp)
  have e7 : w1.cell? ⟨w.heap.size, 7, none⟩ = some (.int .i64 a.wid) := cell_later hb1 (by go_simp)
  have e8 : w1.cell? ⟨w.heap.size, 8, none⟩ = some (.int .i64 a.len) := cell_later hb1 (by go_simp)
  have e9 : w1.cell? ⟨w.heap.size, 9, none⟩ = some (.int .i64 a.hei) := cell_later hb1 (by go_simp)
  have e10 : w1.cell? ⟨w.heap.size, 10, none⟩ = some (.int .i64 a.deep) := cell_later hb1 (by go_simp)
  have e11 : w1.cell? ⟨w.heap.size, 11, none⟩ = some (.int .i64 a.cap) := cell_later hb1 (by go_simp)
  have hB1 : Below w.heap.size w w1 := ((Below.refl _ _).alloc (Nat.le_refl _) _).trans (hb1.mono (by simp))
  clear hb1
  go_wp2_with fail
  refine (HSH.out _ (HT.out.next hB1)).mono ?_
  rintro e w2 ⟨rfl, hb2⟩
  have e0 : w2.cell? ⟨w.heap.size, 0, none⟩ = some (.string a.name) := cell_later hb2 e0
  have e1 : w2.cell? ⟨w.heap.size, 1, none⟩ = some (.int .i64 a.kind) := cell_later hb2 e1
  have e2 : w2.cell? ⟨w.heap.size, 2, none⟩ = some (.int .i64 a.rows) := cell_later hb2 e2
  have e3 : w2.cell? ⟨w.heap.size, 3, none⟩ = some (.int .i64 a.cols) := cell_later hb2 e3
  have e4 : w2.cell? ⟨w.heap.size, 4, none⟩ = some (.int .i64 a.x) := cell_later hb2 e4
  have e5 : w2.cell? ⟨w.heap.size, 5, none⟩ = some (.int .i64 a.y) := cell_later hb2 e5
  have e6 : w2.cell? ⟨w.heap.size, 6, none⟩ = some (.int .i64 a.pitch) := cell_later hb2 e6
  have e7 : w2.cell? ⟨w.heap.size, 7, none⟩ = some (.int .i64 a.wid) := cell_later hb2 e7
  have e8 : w2.cell? ⟨w.heap.size, 8, none⟩ = some (.int .i64 a.len) := cell_later hb2 e8
  have e9 : w2.cell? ⟨w.heap.size, 9, none⟩ = some (.int .i64 a.hei) := cell_later hb2 e9
  have e10 : w2.cell? ⟨w.heap.size, 10, none⟩ = some (.int .i64 a.deep) := cell_later hb2 e10
  have e11 : w2.cell? ⟨w.heap.size, 11, none⟩ = some (.int .i64 a.cap) := cell_later hb2 e11
  have hB2 : Below w.heap.size w w2 := hB1.trans (hb2.mono hB1.size)
  clear hb2
  go_wp2_with fail
  refine (HRD.out _ (HT.out.next hB2)).mono ?_
  rintro e w3 ⟨rfl, hb3⟩
  have e0 : w3.cell? ⟨w.heap.size, 0, none⟩ = some (.string a.name) := cell_later hb3 e0
  have e1 : w3.cell? ⟨w.heap.size, 1, none⟩ = some (.int .i64 a.kind) := cell_later hb3 e1
  have e2 : w3.cell? ⟨w.heap.size, 2, none⟩ = some (.int .i64 a.rows) := cell_later hb3 e2
  have e3 : w3.cell? ⟨w.heap.size, 3, none⟩ = some (.int .i64 a.cols) := cell_later hb3 e3
  have e4 : w3.cell? ⟨w.heap.size, 4, none⟩ = some (.int .i64 a.x) := cell_later hb3 e4
  have e5 : w3.cell? ⟨w.heap.size, 5, none⟩ = some (.int .i64 a.y) := cell_later hb3 e5
  have e6 : w3.cell? ⟨w.heap.size, 6, none⟩ = some (.int .i64 a.pitch) := cell_later hb3 e6
  have e7 : w3.cell? ⟨w.heap.size, 7, none⟩ = some (.int .i64 a.wid) := cell_later hb3 e7
  have e8 : w3.cell? ⟨w.heap.size, 8, none⟩ = some (.int .i64 a.len) := cell_later hb3 e8
  have e9 : w3.cell? ⟨w.heap.size, 9, none⟩ = some (.int .i64 a.hei) := cell_later hb3 e9
  have e10 : w3.cell? ⟨w.heap.size, 10, none⟩ = some (.int .i64 a.deep) := cell_later hb3 e10
  have e11 : w3.cell? ⟨w.heap.size, 11, none⟩ = some (.int .i64 a.cap) := cell_later hb3 e11
  have hB3 : Below w.heap.size w w3 := hB2.trans (hb3.mono hB2.size)
  clear hb3
  have al : ∀ o, Below w3.heap.size w3 (w3.alloc o) := fun o => (Below.refl _ w3).alloc (Nat.le_refl _) o
  have qe0 : ∀ o, (w3.alloc o).cell? ⟨w.heap.size, 0, none⟩ = some (.string a.name) := fun o => cell_later (al o) e0
  have qe1 : ∀ o, (w3.alloc o).cell? ⟨w.heap.size, 1, none⟩ = some (.int .i64 a.kind) := fun o => cell_later (al o) e1
  have qe2 : ∀ o, (w3.alloc o).cell? ⟨w.heap.size, 2, none⟩ = some (.int .i64 a.rows) := fun o => cell_later (al o) e2
  have qe3 : ∀ o, (w3.alloc o).cell? ⟨w.heap.size, 3, none⟩ = some (.int .i64 a.cols) := fun o => cell_later (al o) e3
  have qe4 : ∀ o, (w3.alloc o).cell? ⟨w.heap.size, 4, none⟩ = some (.int .i64 a.x) := fun o => cell_later (al o) e4
  have qe5 : ∀ o, (w3.alloc o).cell? ⟨w.heap.size, 5, none⟩ = some (.int .i64 a.y) := fun o => cell_later (al o) e5
  have qe6 : ∀ o, (w3.alloc o).cell? ⟨w.heap.size, 6, none⟩ = some (.int .i64 a.pitch) := fun o => cell_later (al o) e6
  have qe7 : ∀ o, (w3.alloc o).cell? ⟨w.heap.size, 7, none⟩ = some (.int .i64 a.wid) := fun o => cell_later (al o) e7
  have qe8 : ∀ o, (w3.alloc o).cell? ⟨w.heap.size, 8, none⟩ = some (.int .i64 a.len) := fun o => cell_later (al o) e8
  have qe9 : ∀ o, (w3.alloc o).cell? ⟨w.heap.size, 9, none⟩ = some (.int .i64 a.hei) := fun o => cell_later (al o) e9
  have qe10 : ∀ o, (w3.alloc o).cell? ⟨w.heap.size, 10, none⟩ = some (.int .i64 a.deep) := fun o => cell_later (al o) e10
  have qe11 : ∀ o, (w3.alloc o).cell? ⟨w.heap.size, 11, none⟩ = some (.int .i64 a.cap) := fun o => cell_later (al o) e11
  clear al
  go_wp2_with fail
  refine (HRW.out _).mono ?_
  rintro e w4 ⟨rfl, hb4⟩
  have e0 : w4.cell? ⟨w.heap.size, 0, none⟩ = some (.string a.name) := cell_later hb4 (qe0 _)
  have e1 : w4.cell? ⟨w.heap.size, 1, none⟩ = some (.int .i64 a.kind) := cell_later hb4 (qe1 _)
  have e2 : w4.cell? ⟨w.heap.size, 2, none⟩ = some (.int .i64 a.rows) := cell_later hb4 (qe2 _)
  have e3 : w4.cell? ⟨w.heap.size, 3, none⟩ = some (.int .i64 a.cols) := cell_later hb4 (qe3 _)
  have e4 : w4.cell? ⟨w.heap.size, 4, none⟩ = some (.int .i64 a.x) := cell_later hb4 (qe4 _)
  have e5 : w4.cell? ⟨w.heap.size, 5, none⟩ = some (.int .i64 a.y) := cell_later hb4 (qe5 _)
  have e6 : w4.cell? ⟨w.heap.size, 6, none⟩ = some (.int .i64 a.pitch) := cell_later hb4 (qe6 _)
  have e7 : w4.cell? ⟨w.heap.size, 7, none⟩ = some (.int .i64 a.wid) := cell_later hb4 (qe7 _)
  have e8 : w4.cell? ⟨w.heap.size, 8, none⟩ = some (.int .i64 a.len) := cell_later hb4 (qe8 _)
  have e9 : w4.cell? ⟨w.heap.size, 9, none⟩ = some (.int .i64 a.hei) := cell_later hb4 (qe9 _)
  have e10 : w4.cell? ⟨w.heap.size, 10, none⟩ = some (.int .i64 a.deep) := cell_later hb4 (qe10 _)
  have e11 : w4.cell? ⟨w.heap.size, 11, none⟩ = some (.int .i64 a.cap) := cell_later hb4 (qe11 _)
  have x0 : w4.cell? ⟨w3.heap.size, 0, none⟩ = some (.string X.name) := cell_later hb4 (by go_simp)
  have x1 : w4.cell? ⟨w3.heap.size, 1, none⟩ = some (.int .i64 X.kind) := cell_later hb4 (by go_simp)
  have x2 : w4.cell? ⟨w3.heap.size, 2, none⟩ = some (.int .i64 X.rows) := cell_later hb4 (by go_simp)
  have x3 : w4.cell? ⟨w3.heap.size, 3, none⟩ = some (.int .i64 X.cols) := cell_later hb4 (by go_simp)
  have x4 : w4.cell? ⟨w3.heap.size, 4, none⟩ = some (.int .i64 X.x) := cell_later hb4 (by go_simp)
  have x5 : w4.cell? ⟨w3.heap.size, 5, none⟩ = some (.int .i64 X.y) := cell_later hb4 (by go_simp)
  have x6 : w4.cell? ⟨w3.heap.size, 6, none⟩ = some (.int .i64 X.pitch) := cell_later hb4 (by go_simp)
  have x7 : w4.cell? ⟨w3.heap.size, 7, none⟩ = some (.int .i64 X.wid) := cell_later hb4 (by go_simp)
  have x8 : w4.cell? ⟨w3.heap.size, 8, none⟩ = some (.int .i64 X.len) := cell_later hb4 (by go_simp)
  have x9 : w4.cell? ⟨w3.heap.size, 9, none⟩ = some (.int .i64 X.hei) := cell_later hb4 (by go_simp)
  have x10 : w4.cell? ⟨w3.heap.size, 10, none⟩ = some (.int .i64 X.deep) := cell_later hb4 (by go_simp)
  have x11 : w4.cell? ⟨w3.heap.size, 11, none⟩ = some (.int .i64 X.cap) := cell_later hb4 (by go_simp)
  have hB4 : Below w.heap.size w w4 := (hB3.alloc hB3.size _).trans (hb4.mono (by have := hB3.size; simp; omega))
  clear hb4
  clear qe0 qe1 qe2 qe3 qe4 qe5 qe6 qe7 qe8 qe9 qe10 qe11
  have al : ∀ o, Below w4.heap.size w4 (w4.alloc o) := fun o => (Below.refl _ w4).alloc (Nat.le_refl _) o
  have qe0 : ∀ o, (w4.alloc o).cell? ⟨w.heap.size, 0, none⟩ = some (.string a.name) := fun o => cell_later (al o) e0
  have qe1 : ∀ o, (w4.alloc o).cell? ⟨w.heap.size, 1, none⟩ = some (.int .i64 a.kind) := fun o => cell_later (al o) e1
  have qe2 : ∀ o, (w4.alloc o).cell? ⟨w.heap.size, 2, none⟩ = some (.int .i64 a.rows) := fun o => cell_later (al o) e2
  have qe3 : ∀ o, (w4.alloc o).cell? ⟨w.heap.size, 3, none⟩ = some (.int .i64 a.cols) := fun o => cell_later (al o) e3
  have qe4 : ∀ o, (w4.alloc o).cell? ⟨w.heap.size, 4, none⟩ = some (.int .i64 a.x) := fun o => cell_later (al o) e4
  have qe5 : ∀ o, (w4.alloc o).cell? ⟨w.heap.size, 5, none⟩ = some (.int .i64 a.y) := fun o => cell_later (al o) e5
  have qe6 : ∀ o, (w4.alloc o).cell? ⟨w.heap.size, 6, none⟩ = some (.int .i64 a.pitch) := fun o => cell_later (al o) e6
  have qe7 : ∀ o, (w4.alloc o).cell? ⟨w.heap.size, 7, none⟩ = some (.int .i64 a.wid) := fun o => cell_later (al o) e7
  have qe8 : ∀ o, (w4.alloc o).cell? ⟨w.heap.size, 8, none⟩ = some (.int .i64 a.len) := fun o => cell_later (al o) e8
  have qe9 : ∀ o, (w4.alloc o).cell? ⟨w.heap.size, 9, none⟩ = some (.int .i64 a.hei) := fun o => cell_later (al o) e9
  have qe10 : ∀ o, (w4.alloc o).cell? ⟨w.heap.size, 10, none⟩ = some (.int .i64 a.deep) := fun o => cell_later (al o) e10
  have qe11 : ∀ o, (w4.alloc o).cell? ⟨w.heap.size, 11, none⟩ = some (.int .i64 a.cap) := fun o => cell_later (al o) e11
  have qx0 : ∀ o, (w4.alloc o).cell? ⟨w3.heap.size, 0, none⟩ = some (.string X.name) := fun o => cell_later (al o) x0
  have qx1 : ∀ o, (w4.alloc o).cell? ⟨w3.heap.size, 1, none⟩ = some (.int .i64 X.kind) := fun o => cell_later (al o) x1
  have qx2 : ∀ o, (w4.alloc o).cell? ⟨w3.heap.size, 2, none⟩ = some (.int .i64 X.rows) := fun o => cell_later (al o) x2
  have qx3 : ∀ o, (w4.alloc o).cell? ⟨w3.heap.size, 3, none⟩ = some (.int .i64 X.cols) := fun o => cell_later (al o) x3
  have qx4 : ∀ o, (w4.alloc o).cell? ⟨w3.heap.size, 4, none⟩ = some (.int .i64 X.x) := fun o => cell_later (al o) x4
  have qx5 : ∀ o, (w4.alloc o).cell? ⟨w3.heap.size, 5, none⟩ = some (.int .i64 X.y) := fun o => cell_later (al o) x5
  have qx6 : ∀ o, (w4.alloc o).cell? ⟨w3.heap.size, 6, none⟩ = some (.int .i64 X.pitch) := fun o => cell_later (al o) x6
  have qx7 : ∀ o, (w4.alloc o).cell? ⟨w3.heap.size, 7, none⟩ = some (.int .i64 X.wid) := fun o => cell_later (al o) x7
  have qx8 : ∀ o, (w4.alloc o).cell? ⟨w3.heap.size, 8, none⟩ = some (.int .i64 X.len) := fun o => cell_later (al o) x8
  have qx9 : ∀ o, (w4.alloc o).cell? ⟨w3.heap.size, 9, none⟩ = some (.int .i64 X.hei) := fun o => cell_later (al o) x9
  have qx10 : ∀ o, (w4.alloc o).cell? ⟨w3.heap.size, 10, none⟩ = some (.int .i64 X.deep) := fun o => cell_later (al o) x10
  have qx11 : ∀ o, (w4.alloc o).cell? ⟨w3.heap.size, 11, none⟩ = some (.int .i64 X.cap) := fun o => cell_later (al o) x11
  clear al
  go_wp2_with fail
  refine (HMY.out _).mono ?_
  rintro e w5 ⟨rfl, hb5⟩
  have e0 : w5.cell? ⟨w.heap.size, 0, none⟩ = some (.string a.name) := cell_later hb5 (qe0 _)
  have e1 : w5.cell? ⟨w.heap.size, 1, none⟩ = some (.int .i64 a.kind) := cell_later hb5 (qe1 _)
  have e2 : w5.cell? ⟨w.heap.size, 2, none⟩ = some (.int .i64 a.rows) := cell_later hb5 (qe2 _)
  have e3 : w5.cell? ⟨w.heap.size, 3, none⟩ = some (.int .i64 a.cols) := cell_later hb5 (qe3 _)
  have e4 : w5.cell? ⟨w.heap.size, 4, none⟩ = some (.int .i64 a.x) := cell_later hb5 (qe4 _)
  have e5 : w5.cell? ⟨w.heap.size, 5, none⟩ = some (.int .i64 a.y) := cell_later hb5 (qe5 _)
  have e6 : w5.cell? ⟨w.heap.size, 6, none⟩ = some (.int .i64 a.pitch) := cell_later hb5 (qe6 _)
  have e7 : w5.cell? ⟨w.heap.size, 7, none⟩ = some (.int .i64 a.wid) := cell_later hb5 (qe7 _)
  have e8 : w5.cell? ⟨w.heap.size, 8, none⟩ = some (.int .i64 a.len) := cell_later hb5 (qe8 _)
  have e9 : w5.cell? ⟨w.heap.size, 9, none⟩ = some (.int .i64 a.hei) := cell_later hb5 (qe9 _)
  have e10 : w5.cell? ⟨w.heap.size, 10, none⟩ = some (.int .i64 a.deep) := cell_later hb5 (qe10 _)
  have e11 : w5.cell? ⟨w.heap.size, 11, none⟩ = some (.int .i64 a.cap) := cell_later hb5 (qe11 _)
  have x0 : w5.cell? ⟨w3.heap.size, 0, none⟩ = some (.string X.name) := cell_later hb5 (qx0 _)
  have x1 : w5.cell? ⟨w3.heap.size, 1, none⟩ = some (.int .i64 X.kind) := cell_later hb5 (qx1 _)
  have x2 : w5.cell? ⟨w3.heap.size, 2, none⟩ = some (.int .i64 X.rows) := cell_later hb5 (qx2 _)
  have x3 : w5.cell? ⟨w3.heap.size, 3, none⟩ = some (.int .i64 X.cols) := cell_later hb5 (qx3 _)
  have x4 : w5.cell? ⟨w3.heap.size, 4, none⟩ = some (.int .i64 X.x) := cell_later hb5 (qx4 _)
  have x5 : w5.cell? ⟨w3.heap.size, 5, none⟩ = some (.int .i64 X.y) := cell_later hb5 (qx5 _)
  have x6 : w5.cell? ⟨w3.heap.size, 6, none⟩ = some (.int .i64 X.pitch) := cell_later hb5 (qx6 _)
  have x7 : w5.cell? ⟨w3.heap.size, 7, none⟩ = some (.int .i64 X.wid) := cell_later hb5 (qx7 _)
  have x8 : w5.cell? ⟨w3.heap.size, 8, none⟩ = some (.int .i64 X.len) := cell_later hb5 (qx8 _)
  have x9 : w5.cell? ⟨w3.heap.size, 9, none⟩ = some (.int .i64 X.hei) := cell_later hb5 (qx9 _)
  have x10 : w5.cell? ⟨w3.heap.size, 10, none⟩ = some (.int .i64 X.deep) := cell_later hb5 (qx10 _)
  have x11 : w5.cell? ⟨w3.heap.size, 11, none⟩ = some (.int .i64 X.cap) := cell_later hb5 (qx11 _)
  have y0 : w5.cell? ⟨w4.heap.size, 0, none⟩ = some (.string X.name) := cell_later hb5 (by go_simp)
  have y1 : w5.cell? ⟨w4.heap.size, 1, none⟩ = some (.int .i64 X.kind) := cell_later hb5 (by go_simp)
  have y2 : w5.cell? ⟨w4.heap.size, 2, none⟩ = some (.int .i64 X.rows) := cell_later hb5 (by go_simp)
  have y3 : w5.cell? ⟨w4.heap.size, 3, none⟩ = some (.int .i64 X.cols) := cell_later hb5 (by go_simp)
  have y4 : w5.cell? ⟨w4.heap.size, 4, none⟩ = some (.int .i64 X.x) := cell_later hb5 (by go_simp)
  have y5 : w5.cell? ⟨w4.heap.size, 5, none⟩ = some (.int .i64 X.y) := cell_later hb5 (by go_simp)
  have y6 : w5.cell? ⟨w4.heap.size, 6, none⟩ = some (.int .i64 X.pitch) := cell_later hb5 (by go_simp)
  have y7 : w5.cell? ⟨w4.heap.size, 7, none⟩ = some (.int .i64 X.wid) := cell_later hb5 (by go_simp)
  have y8 : w5.cell? ⟨w4.heap.size, 8, none⟩ = some (.int .i64 X.len) := cell_later hb5 (by go_simp)
  have y9 : w5.cell? ⟨w4.heap.size, 9, none⟩ = some (.int .i64 X.hei) := cell_later hb5 (by go_simp)
  have y10 : w5.cell? ⟨w4.heap.size, 10, none⟩ = some (.int .i64 X.deep) := cell_later hb5 (by go_simp)
  have y11 : w5.cell? ⟨w4.heap.size, 11, none⟩ = some (.int .i64 X.cap) := cell_later hb5 (by go_simp)
  have hB5 : Below w.heap.size w w5 := (hB4.alloc hB4.size _).trans (hb5.mono (by have := hB4.size; simp; omega))
  clear hb5
  clear qe0 qe1 qe2 qe3 qe4 qe5 qe6 qe7 qe8 qe9 qe10 qe11 qx0 qx1 qx2 qx3 qx4 qx5 qx6 qx7 qx8 qx9 qx10 qx11
  go_wp2_with fail
  refine (HWT.out _).mono ?_
  rintro e w6 ⟨rfl, hb6⟩
  go_wp2
  go_ret
  exact ⟨ret_bool (by simp), hB5.trans (hb6.mono hB5.size)⟩
theorem texts_any (a : Wr) (s : ByteArray) (w : World) (hs : a.name.size ≤ maxLen) (hsz : s.size ≤ 1048576) (hT : Tabs w) :
    Calls Tryd.prog 3 #[wv a, .string s] w fun e w' => e = .returned (.bool true) ∧ Below w.heap.size w w' := by
  by_cases h : chk a = 0
  · exact texts_ok a s w hs hsz hT h
  · exact texts_err a s w hs hsz hT h
end Go.Proofs.YtefjeohhdmmboaaDoor
