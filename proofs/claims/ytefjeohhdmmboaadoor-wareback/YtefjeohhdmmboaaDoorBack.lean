/- The law WareBack walked. -/
import Derived.Test.YtefjeohhdmmboaaDoorBackM
import Derived.Test.YtefjeohhdmmboaaDoorSeq2
import Derived.Test.YtefjeohhdmmboaaDoorAll
import Derived.Test.YtefjeohhdmmboaaDoorRsp
import Derived.Test.YtefjeohhdmmboaaDoorNames
namespace Go.Proofs.YtefjeohhdmmboaaDoor
open Go.RowKit Go.Shelf

/-- The document's example. -/
def exW : Wr := ⟨⟨#[112]⟩, 1, 8, 12, 14380, 11240, 9000, 127760, 85480, 14220, 10670, 360000⟩
set_option maxRecDepth 100000 in
theorem exW_chk : chk exW = 0 := by decide
theorem exW_show : showL exW = [112, 32, 112, 108, 97, 116, 101, 32, 56, 32, 49, 50, 32, 49, 52, 51, 56, 48, 32, 49, 49, 50, 52, 48, 32, 57, 48, 48, 48, 32, 49, 50, 55, 55, 54, 48, 32, 56, 53, 52, 56, 48, 32, 49, 52, 50, 50, 48, 32, 49, 48, 54, 55, 48, 32, 51, 54, 48, 48, 48, 48] := by kernel_rfl
theorem read_ex (w : World) (hT : Tabs w) : Calls Tryd.prog 9 #[.string ⟨[112, 32, 112, 108, 97, 116, 101, 32, 56, 32, 49, 50, 32, 49, 52, 51, 56, 48, 32, 49, 49, 50, 52, 48, 32, 57, 48, 48, 48, 32, 49, 50, 55, 55, 54, 48, 32, 56, 53, 52, 56, 48, 32, 49, 52, 50, 50, 48, 32, 49, 48, 54, 55, 48, 32, 51, 54, 48, 48, 48, 48].toArray⟩] w fun e w' => e = .returned (.tuple #[wv exW, .int .i64 0]) ∧ Below w.heap.size w w' := by
  have h := read_show exW w exW_chk hT
  rw [exW_show] at h
  exact h

set_option maxHeartbeats 6400000 in
set_option maxRecDepth 100000 in
theorem back_err (a : Wr) (p q : Int) (w : World) (hs : a.name.size ≤ maxLen) (hT : Tabs w) (hn : chk a ≠ 0) :
    Calls Tryd.prog 5 #[wv a, .int .i64 p, .int .i64 q] w fun e w' => e = .returned (.bool true) ∧ Below w.heap.size w w' := by
  have hne : (chk a != 0) = true := by simp [hn]
  have HT : Hid (Tabs w) := hT
  have hcol : (exW.cols != 12) = false := by decide
  clear hT
  go_enter Tryd.func5, Tryd.ntmps5
  go_wp2_with fail
  refine (read_ex _ (HT.out.next ((Below.refl _ _).alloc (Nat.le_refl _) _))).mono ?_
  rintro e w1 ⟨rfl, hb1⟩
  have e0 : w1.cell? ⟨w.heap.size, 0, none⟩ = some (.string a.name) := cell_later hb1 (by go_simp)
  have e1 : w1.cell? ⟨w.heap.size, 1, none⟩ = some (.int .i64 a.kind) := cell_later hb1 (by go_simp)
  have e2 : w1.cell? ⟨w.heap.size, 2, none⟩ = some (.int .i64 a.rows) := cell_later hb1 (by go_simp)
  have e3 : w1.cell? ⟨w.heap.size, 3, none⟩ = some (.int .i64 a.cols) := cell_later hb1 (by go_simp)
  have e4 : w1.cell? ⟨w.heap.size, 4, none⟩ = some (.int .i64 a.x) := cell_later hb1 (by go_simp)
  have e5 : w1.cell? ⟨w.heap.size, 5, none⟩ = some (.int .i64 a.y) := cell_later hb1 (by go_simp)
  have e6 : w1.cell? ⟨w.heap.size, 6, none⟩ = some (.int .i64 a.pitch) := cell_later hb1 (by go_simp)
  have e7 : w1.cell? ⟨w.heap.size, 7, none⟩ = some (.int .i64 a.wid) := cell_later hb1 (by go_simp)
  have e8 : w1.cell? ⟨w.heap.size, 8, none⟩ = some (.int .i64 a.len) := cell_later hb1 (by go_simp)
  have e9 : w1.cell? ⟨w.heap.size, 9, none⟩ = some (.int .i64 a.hei) := cell_later hb1 (by go_simp)
  have e10 : w1.cell? ⟨w.heap.size, 10, none⟩ = some (.int .i64 a.deep) := cell_later hb1 (by go_simp)
  have e11 : w1.cell? ⟨w.heap.size, 11, none⟩ = some (.int .i64 a.cap) := cell_later hb1 (by go_simp)
  have hB1 : Below w.heap.size w w1 := ((Below.refl _ _).alloc (Nat.le_refl _) _).trans (hb1.mono (by simp))
  clear hb1
  have al : ∀ o, Below w1.heap.size w1 (w1.alloc o) := fun o => (Below.refl _ w1).alloc (Nat.le_refl _) o
  have qe0 : ∀ o, (w1.alloc o).cell? ⟨w.heap.size, 0, none⟩ = some (.string a.name) := fun o => cell_later (al o) e0
  have qe1 : ∀ o, (w1.alloc o).cell? ⟨w.heap.size, 1, none⟩ = some (.int .i64 a.kind) := fun o => cell_later (al o) e1
  have qe2 : ∀ o, (w1.alloc o).cell? ⟨w.heap.size, 2, none⟩ = some (.int .i64 a.rows) := fun o => cell_later (al o) e2
  have qe3 : ∀ o, (w1.alloc o).cell? ⟨w.heap.size, 3, none⟩ = some (.int .i64 a.cols) := fun o => cell_later (al o) e3
  have qe4 : ∀ o, (w1.alloc o).cell? ⟨w.heap.size, 4, none⟩ = some (.int .i64 a.x) := fun o => cell_later (al o) e4
  have qe5 : ∀ o, (w1.alloc o).cell? ⟨w.heap.size, 5, none⟩ = some (.int .i64 a.y) := fun o => cell_later (al o) e5
  have qe6 : ∀ o, (w1.alloc o).cell? ⟨w.heap.size, 6, none⟩ = some (.int .i64 a.pitch) := fun o => cell_later (al o) e6
  have qe7 : ∀ o, (w1.alloc o).cell? ⟨w.heap.size, 7, none⟩ = some (.int .i64 a.wid) := fun o => cell_later (al o) e7
  have qe8 : ∀ o, (w1.alloc o).cell? ⟨w.heap.size, 8, none⟩ = some (.int .i64 a.len) := fun o => cell_later (al o) e8
  have qe9 : ∀ o, (w1.alloc o).cell? ⟨w.heap.size, 9, none⟩ = some (.int .i64 a.hei) := fun o => cell_later (al o) e9
  have qe10 : ∀ o, (w1.alloc o).cell? ⟨w.heap.size, 10, none⟩ = some (.int .i64 a.deep) := fun o => cell_later (al o) e10
  have qe11 : ∀ o, (w1.alloc o).cell? ⟨w.heap.size, 11, none⟩ = some (.int .i64 a.cap) := fun o => cell_later (al o) e11
  clear al
  go_wp2_with fail
  refine (show_err a _ hs hn).mono ?_
  rintro e w2 ⟨rfl, hb2⟩
  go_wp2
  go_ret
  exact ⟨ret_bool (by simp), (hB1.alloc hB1.size _).trans (hb2.mono (by have := hB1.size; simp; omega))⟩

/-- A new point's box. -/
def NewPt (base : Nat) (v : Value) (w : World) : Prop := ∃ b, v = .pointer (some ⟨b, 0, none⟩) ∧ base ≤ b ∧ (∀ j, j < 3 → w.cell? ⟨b, j, none⟩ = some (.int .i64 0)) ∧ (∀ j, j < 3 → w.frozen? ⟨b, j, none⟩ = false) ∧ b < w.heap.size
theorem NewPt.later {base : Nat} {v : Value} {w w' : World} (h : NewPt base v w) (hb : Below w.heap.size w w') : NewPt base v w' := by
  obtain ⟨b, rfl, h1, h2, h3, h4⟩ := h
  exact ⟨b, rfl, h1, fun j hj => cell_later hb (h2 j hj), fun j hj => (hb.frozen (p := ⟨b, j, none⟩) h4).trans (h3 j hj), Nat.lt_of_lt_of_le h4 hb.size⟩
theorem new_pt (base : Nat) (w : World) (t : Nat) (h : base ≤ w.heap.size) : NewPt base (.pointer (some ⟨w.heap.size, 0, none⟩)) (w.alloc (.cells #[.int .i64 0, .int .i64 0, .int .i64 0] t)) := by
  refine ⟨_, rfl, h, fun j hj => ?_, fun j hj => ?_, by simp⟩
  · rcases (show j = 0 ∨ j = 1 ∨ j = 2 by omega) with e | e | e
    all_goals (subst e; simp [go_sem])
  · rcases (show j = 0 ∨ j = 1 ∨ j = 2 by omega) with e | e | e
    all_goals (subst e; simp [go_sem])
/-- Three stores into a box leave other blocks alone. -/
theorem other3 {w : World} {b g i : Nat} {u x y z : Value} (hne : g ≠ b) (h : w.cell? ⟨g, i, none⟩ = some u) : (((w.setCell ⟨b, 0, none⟩ x).setCell ⟨b, 1, none⟩ y).setCell ⟨b, 2, none⟩ z).cell? ⟨g, i, none⟩ = some u := other_set hne (other_set hne (other_set hne h))
/-- A laid point's box. -/
structure Pt (b : Nat) (X Y Z : Int) (w : World) : Prop where
  c0 : w.cell? ⟨b, 0, none⟩ = some (.int .i64 X)
  c1 : w.cell? ⟨b, 1, none⟩ = some (.int .i64 Y)
  c2 : w.cell? ⟨b, 2, none⟩ = some (.int .i64 Z)
theorem Pt.later {b : Nat} {X Y Z : Int} {w w' : World} (h : Pt b X Y Z w) (hb : Below w.heap.size w w') : Pt b X Y Z w' := ⟨cell_later hb h.c0, cell_later hb h.c1, cell_later hb h.c2⟩
theorem cut_with {P : Program} {Q : Exit → Act → World → Prop} {id : Nat} {ops : Array Oper} {a : Act} {w : World} (T : Act → Prop) (h1 : Hid (T a) → (Code.region id ops true).wp P Q a w) (h2 : T a) : (Code.region id ops true).wp P Q a w := h1 h2
def b16V (a : Wr) (g n cap i k ri ci W b18 : Nat) (X Y Z : Int) (X' Y' : Int) (eb : Bool) (d : Nat) (v : Value) (_w : World) : Prop :=
  match d with
  | 111 => v = .int .i64 0
  | 112 => v = .bool true
  | 113 => v = .bool true
  | 114 => v = .int .i64 0
  | 115 => v = .bool true
  | 116 => v = .bool true
  | 117 => v = .bool true
  | 118 => v = .agg #[.int .i64 (ri : Int), .int .i64 (ci : Int)]
  | 119 => v = .slice (some ⟨g, 0, none⟩) n cap
  | 120 => v = .int .i64 (i : Int)
  | 121 => v = .pointer (some ⟨g, i * 2, none⟩)
  | 122 => v = .agg #[.int .i64 (ri : Int), .int .i64 (ci : Int)]
  | 123 => v = .bool true
  | 124 => v = .bool true
  | 125 => v = .bool true
  | 126 => v = .int .i64 0
  | 127 => v = .bool true
  | 128 => v = .bool true
  | 129 => v = .bool true
  | 130 => v = .int .i64 0
  | 131 => v = .bool true
  | 132 => v = .bool true
  | 133 => v = .bool true
  | 134 => v = .agg #[.int .i64 X, .int .i64 Y, .int .i64 Z]
  | 135 => v = .agg #[.int .i64 X', .int .i64 Y', .int .i64 Z]
  | 136 => v = .bool eb
  | 137 => v = .int .i64 (i : Int)
  | 138 => v = .int .i64 (k : Int)
  | 139 => v = .bool ((i : Int) == (k : Int))
  | 140 => v = .bool true
  | 141 => v = .bool true
  | 142 => v = .bool true
  | 143 => v = .pointer (some ⟨b18, 0, none⟩)
  | 144 => v = .int .i64 X
  | 145 => v = .pointer (some ⟨W, 7, none⟩)
  | 146 => v = .int .i64 a.wid
  | 147 => v = .bool true
  | 148 => v = .bool true
  | 149 => v = .bool true
  | 150 => v = .pointer (some ⟨b18, 1, none⟩)
  | 151 => v = .int .i64 Y
  | 152 => v = .pointer (some ⟨W, 8, none⟩)
  | 153 => v = .int .i64 a.len
  | 154 => v = .bool true
  | 155 => v = .bool true
  | 156 => v = .bool true
  | 157 => v = .pointer (some ⟨b18, 2, none⟩)
  | 158 => v = .int .i64 Z
  | 159 => v = .bool true
  | 160 => v = .bool true
  | 6 => v = .bool true
  | _ => True
theorem mid_room (a : Wr) (h0 : chk a = 0) (r c R C : Nat) (hR : a.rows = R) (hC : a.cols = C) (hr : r < R) (hc : c < C) : a.x + c * a.pitch ≤ a.wid ∧ a.y + r * a.pitch ≤ a.len ∧ 0 ≤ a.hei - a.deep := by
  have hin := chk_inR h0
  have h1 := (chk_in h0).2.2.2.2.2
  unfold roomOk at h1
  rw [Bool.and_eq_true, Bool.and_eq_true, decide_eq_true_iff, decide_eq_true_iff, decide_eq_true_iff, hR, hC] at h1
  have e1 : (c : Int) * a.pitch ≤ ((C : Int) - 1) * a.pitch := Int.mul_le_mul_of_nonneg_right (by omega) hin.p0
  have e2 : (r : Int) * a.pitch ≤ ((R : Int) - 1) * a.pitch := Int.mul_le_mul_of_nonneg_right (by omega) hin.p0
  exact ⟨by omega, by omega, by omega⟩
theorem mid_inj (a : Wr) (h0 : chk a = 0) (r c r' c' R C : Nat) (hR : a.rows = R) (hC : a.cols = C) (hr : r < R) (hc : c < C) (hr' : r' < R) (hc' : c' < C) (hx : a.x + c * a.pitch = a.x + c' * a.pitch) (hy : a.y + r * a.pitch = a.y + r' * a.pitch) : r = r' ∧ c = c' := by
  have h1 := (chk_in h0).2.2.2.2.1
  have hp : loP a ≤ a.pitch := by
    unfold rangeOk at h1
    simp only [Bool.and_eq_true, List.all_cons, List.all_nil, Bool.and_true] at h1
    exact (inR_iff.1 h1.1.1.2).1
  unfold loP at hp
  by_cases h2 : 1 < a.rows * a.cols
  · rw [if_pos h2] at hp
    have e1 : (c : Int) * a.pitch = c' * a.pitch := by omega
    have e2 : (r : Int) * a.pitch = r' * a.pitch := by omega
    have e3 := Int.eq_of_mul_eq_mul_right (by omega) e1
    have e4 := Int.eq_of_mul_eq_mul_right (by omega) e2
    exact ⟨by omega, by omega⟩
  · rw [hR, hC] at h2
    have h3 : R * C ≤ 1 := by
      have : ((R * C : Nat) : Int) ≤ 1 := by push_cast; omega
      omega
    have h4 : R ≤ R * C := Nat.le_mul_of_pos_right _ (by omega)
    have h5 : C ≤ R * C := Nat.le_mul_of_pos_left _ (by omega)
    exact ⟨by omega, by omega⟩
def b14V (a : Wr) (g n cap i r c : Nat) (X Y Z : Int) (base : Nat) (d : Nat) (v : Value) (w : World) : Prop :=
  match d with
  | 94 => v = wv a
  | 95 => v = .slice (some ⟨g, 0, none⟩) n cap
  | 96 => v = .int .i64 (i : Int)
  | 97 => v = .pointer (some ⟨g, i * 2, none⟩)
  | 98 => v = .agg #[.int .i64 (r : Int), .int .i64 (c : Int)]
  | 99 => v = .tuple #[.agg #[.int .i64 X, .int .i64 Y, .int .i64 Z], .int .i64 0]
  | 93 => v = .tuple #[.agg #[.int .i64 X, .int .i64 Y, .int .i64 Z], .int .i64 0]
  | 100 => v = .agg #[.int .i64 X, .int .i64 Y, .int .i64 Z]
  | 101 => v = .int .i64 0
  | 18 => NewPt base v w
  | _ => True
theorem b14V_mono (a : Wr) (g n cap i r c : Nat) (X Y Z : Int) (base : Nat) (d : Nat) (v : Value) (w w' : World) (h : b14V a g n cap i r c X Y Z base d v w) (hb : Below w.heap.size w w') : b14V a g n cap i r c X Y Z base d v w' := by
  unfold b14V at h ⊢
  split <;> simp only [] at h <;> first | exact h | exact h.later hb
def b15V (a : Wr) (g n cap i r c : Nat) (X Y Z : Int) (base : Nat) (d : Nat) (v : Value) (w : World) : Prop :=
  match d with
  | 103 => v = wv a
  | 104 => v = .slice (some ⟨g, 0, none⟩) n cap
  | 105 => v = .int .i64 (i : Int)
  | 106 => v = .pointer (some ⟨g, i * 2, none⟩)
  | 107 => v = .agg #[.int .i64 (r : Int), .int .i64 (c : Int)]
  | 108 => v = .tuple #[.agg #[.int .i64 X, .int .i64 Y, .int .i64 Z], .int .i64 0]
  | 102 => v = .tuple #[.agg #[.int .i64 X, .int .i64 Y, .int .i64 Z], .int .i64 0]
  | 109 => v = .agg #[.int .i64 X, .int .i64 Y, .int .i64 Z]
  | 110 => v = .int .i64 0
  | 19 => NewPt base v w
  | _ => True
theorem b15V_mono (a : Wr) (g n cap i r c : Nat) (X Y Z : Int) (base : Nat) (d : Nat) (v : Value) (w w' : World) (h : b15V a g n cap i r c X Y Z base d v w) (hb : Below w.heap.size w w') : b15V a g n cap i r c X Y Z base d v w' := by
  unfold b15V at h ⊢
  split <;> simp only [] at h <;> first | exact h | exact h.later hb
set_option maxHeartbeats 25600000 in
set_option maxRecDepth 100000 in
theorem back_ok (a : Wr) (p q : Int) (w : World) (hs : a.name.size ≤ maxLen) (hT : Tabs w) (h0 : chk a = 0) (R C : Nat) (hR : a.rows = R) (hC : a.cols = C) (hp0 : -9223372036854775808 ≤ p) (hp1 : p ≤ 9223372036854775807) (hq0 : -9223372036854775808 ≤ q) (hq1 : q ≤ 9223372036854775807) :
    Calls Tryd.prog 5 #[wv a, .int .i64 p, .int .i64 q] w fun e w' => e = .returned (.bool true) ∧ Below w.heap.size w w' := by
  have HIN : Hid (InR a) := chk_inR h0
  have HCH : Hid (chk a = 0) := h0
  have r2 : R ≤ 16 := by have := HIN.out.r2; omega
  have r1 : 1 ≤ R := by have := HIN.out.r1; omega
  have k2 : C ≤ 24 := by have := HIN.out.c2; omega
  have k1 : 1 ≤ C := by have := HIN.out.c1; omega
  have HR : Hid (a.rows = R) := hR
  have HC : Hid (a.cols = C) := hC
  have HALL : Hid (∀ w : World, Calls Tryd.prog 16 #[wv a] w fun e w' => ∃ v, e = .returned (.tuple #[v, .int .i64 0]) ∧ Own w' (w.heap.size + 1) v (spots R (C * R)) ∧ Below w.heap.size w w') := fun w => all_ok a R C w hs h0 hR hC
  clear hR hC h0
  have HT : Hid (Tabs w) := hT
  have hcol : (exW.cols != 12) = false := by decide
  clear hT
  go_enter Tryd.func5, Tryd.ntmps5
  go_wp2_with fail
  refine (read_ex _ (HT.out.next ((Below.refl _ _).alloc (Nat.le_refl _) _))).mono ?_
  rintro e w1 ⟨rfl, hb1⟩
  have e0 : w1.cell? ⟨w.heap.size, 0, none⟩ = some (.string a.name) := cell_later hb1 (by go_simp)
  have e1 : w1.cell? ⟨w.heap.size, 1, none⟩ = some (.int .i64 a.kind) := cell_later hb1 (by go_simp)
  have e2 : w1.cell? ⟨w.heap.size, 2, none⟩ = some (.int .i64 a.rows) := cell_later hb1 (by go_simp)
  have e3 : w1.cell? ⟨w.heap.size, 3, none⟩ = some (.int .i64 a.cols) := cell_later hb1 (by go_simp)
  have e4 : w1.cell? ⟨w.heap.size, 4, none⟩ = some (.int .i64 a.x) := cell_later hb1 (by go_simp)
  have e5 : w1.cell? ⟨w.heap.size, 5, none⟩ = some (.int .i64 a.y) := cell_later hb1 (by go_simp)
  have e6 : w1.cell? ⟨w.heap.size, 6, none⟩ = some (.int .i64 a.pitch) := cell_later hb1 (by go_simp)
  have e7 : w1.cell? ⟨w.heap.size, 7, none⟩ = some (.int .i64 a.wid) := cell_later hb1 (by go_simp)
  have e8 : w1.cell? ⟨w.heap.size, 8, none⟩ = some (.int .i64 a.len) := cell_later hb1 (by go_simp)
  have e9 : w1.cell? ⟨w.heap.size, 9, none⟩ = some (.int .i64 a.hei) := cell_later hb1 (by go_simp)
  have e10 : w1.cell? ⟨w.heap.size, 10, none⟩ = some (.int .i64 a.deep) := cell_later hb1 (by go_simp)
  have e11 : w1.cell? ⟨w.heap.size, 11, none⟩ = some (.int .i64 a.cap) := cell_later hb1 (by go_simp)
  have hB1 : Below w.heap.size w w1 := ((Below.refl _ _).alloc (Nat.le_refl _) _).trans (hb1.mono (by simp))
  clear hb1
  have al : ∀ o, Below w1.heap.size w1 (w1.alloc o) := fun o => (Below.refl _ w1).alloc (Nat.le_refl _) o
  have qe0 : ∀ o, (w1.alloc o).cell? ⟨w.heap.size, 0, none⟩ = some (.string a.name) := fun o => cell_later (al o) e0
  have qe1 : ∀ o, (w1.alloc o).cell? ⟨w.heap.size, 1, none⟩ = some (.int .i64 a.kind) := fun o => cell_later (al o) e1
  have qe2 : ∀ o, (w1.alloc o).cell? ⟨w.heap.size, 2, none⟩ = some (.int .i64 a.rows) := fun o => cell_later (al o) e2
  have qe3 : ∀ o, (w1.alloc o).cell? ⟨w.heap.size, 3, none⟩ = some (.int .i64 a.cols) := fun o => cell_later (al o) e3
  have qe4 : ∀ o, (w1.alloc o).cell? ⟨w.heap.size, 4, none⟩ = some (.int .i64 a.x) := fun o => cell_later (al o) e4
  have qe5 : ∀ o, (w1.alloc o).cell? ⟨w.heap.size, 5, none⟩ = some (.int .i64 a.y) := fun o => cell_later (al o) e5
  have qe6 : ∀ o, (w1.alloc o).cell? ⟨w.heap.size, 6, none⟩ = some (.int .i64 a.pitch) := fun o => cell_later (al o) e6
  have qe7 : ∀ o, (w1.alloc o).cell? ⟨w.heap.size, 7, none⟩ = some (.int .i64 a.wid) := fun o => cell_later (al o) e7
  have qe8 : ∀ o, (w1.alloc o).cell? ⟨w.heap.size, 8, none⟩ = some (.int .i64 a.len) := fun o => cell_later (al o) e8
  have qe9 : ∀ o, (w1.alloc o).cell? ⟨w.heap.size, 9, none⟩ = some (.int .i64 a.hei) := fun o => cell_later (al o) e9
  have qe10 : ∀ o, (w1.alloc o).cell? ⟨w.heap.size, 10, none⟩ = some (.int .i64 a.deep) := fun o => cell_later (al o) e10
  have qe11 : ∀ o, (w1.alloc o).cell? ⟨w.heap.size, 11, none⟩ = some (.int .i64 a.cap) := fun o => cell_later (al o) e11
  clear al
  go_wp2_with fail
  refine (show_ok a _ hs HCH.out ((HT.out.next hB1).next ((Below.refl _ _).alloc (Nat.le_refl _) _))).mono ?_
  rintro e w2 ⟨rfl, hb2⟩
  have e0 : w2.cell? ⟨w.heap.size, 0, none⟩ = some (.string a.name) := cell_later hb2 (qe0 _)
  have e1 : w2.cell? ⟨w.heap.size, 1, none⟩ = some (.int .i64 a.kind) := cell_later hb2 (qe1 _)
  have e2 : w2.cell? ⟨w.heap.size, 2, none⟩ = some (.int .i64 a.rows) := cell_later hb2 (qe2 _)
  have e3 : w2.cell? ⟨w.heap.size, 3, none⟩ = some (.int .i64 a.cols) := cell_later hb2 (qe3 _)
  have e4 : w2.cell? ⟨w.heap.size, 4, none⟩ = some (.int .i64 a.x) := cell_later hb2 (qe4 _)
  have e5 : w2.cell? ⟨w.heap.size, 5, none⟩ = some (.int .i64 a.y) := cell_later hb2 (qe5 _)
  have e6 : w2.cell? ⟨w.heap.size, 6, none⟩ = some (.int .i64 a.pitch) := cell_later hb2 (qe6 _)
  have e7 : w2.cell? ⟨w.heap.size, 7, none⟩ = some (.int .i64 a.wid) := cell_later hb2 (qe7 _)
  have e8 : w2.cell? ⟨w.heap.size, 8, none⟩ = some (.int .i64 a.len) := cell_later hb2 (qe8 _)
  have e9 : w2.cell? ⟨w.heap.size, 9, none⟩ = some (.int .i64 a.hei) := cell_later hb2 (qe9 _)
  have e10 : w2.cell? ⟨w.heap.size, 10, none⟩ = some (.int .i64 a.deep) := cell_later hb2 (qe10 _)
  have e11 : w2.cell? ⟨w.heap.size, 11, none⟩ = some (.int .i64 a.cap) := cell_later hb2 (qe11 _)
  have hB2 : Below w.heap.size w w2 := (hB1.alloc hB1.size _).trans (hb2.mono (by have := hB1.size; simp; omega))
  clear hb2
  clear qe0 qe1 qe2 qe3 qe4 qe5 qe6 qe7 qe8 qe9 qe10 qe11
  go_wp2_with fail
  refine (read_show a _ HCH.out (HT.out.next hB2)).mono ?_
  rintro e w3 ⟨rfl, hb3⟩
  have e0 : w3.cell? ⟨w.heap.size, 0, none⟩ = some (.string a.name) := cell_later hb3 e0
  have e1 : w3.cell? ⟨w.heap.size, 1, none⟩ = some (.int .i64 a.kind) := cell_later hb3 e1
  have e2 : w3.cell? ⟨w.heap.size, 2, none⟩ = some (.int .i64 a.rows) := cell_later hb3 e2
  have e3 : w3.cell? ⟨w.heap.size, 3, none⟩ = some (.int .i64 a.cols) := cell_later hb3 e3
  have e4 : w3.cell? ⟨w.heap.size, 4, none⟩ = some (.int .i64 a.x) := cell_later hb3 e4
  have e5 : w3.cell? ⟨w.heap.size, 5, none⟩ = some (.int .i64 a.y) := cell_later hb3 e5
  have e6 : w3.cell? ⟨w.heap.size, 6, none⟩ = some (.int .i64 a.pitch) := cell_later hb3 e6
  have e7 : w3.cell? ⟨w.heap.size, 7, none⟩ = some (.int .i64 a.wid) := cell_later hb3 e7
  have e8 : w3.cell? ⟨w.heap.size, 8, none⟩ = some (.int .i64 a.len) := cell_later hb3 e8
  have e9 : w3.cell? ⟨w.heap.size, 9, none⟩ = some (.int .i64 a.hei) := cell_later hb3 e9
  have e10 : w3.cell? ⟨w.heap.size, 10, none⟩ = some (.int .i64 a.deep) := cell_later hb3 e10
  have e11 : w3.cell? ⟨w.heap.size, 11, none⟩ = some (.int .i64 a.cap) := cell_later hb3 e11
  have hB3 : Below w.heap.size w w3 := hB2.trans (hb3.mono hB2.size)
  clear hb3
  have al : ∀ o, Below w3.heap.size w3 (w3.alloc o) := fun o => (Below.refl _ w3).alloc (Nat.le_refl _) o
  have qe0 : ∀ o, (w3.alloc o).cell? ⟨w.heap.size, 0, none⟩ = some (.string a.name) := fun o => cell_later (al o) e0
  have qe1 : ∀ o, (w3.alloc o).cell? ⟨w.heap.size, 1, none⟩ = some (.int .i64 a.kind) := fun o => cell_later (al o) e1
  have qe2 : ∀ o, (w3.alloc o).cell? ⟨w.heap.size, 2, none⟩ = some (.int .i64 a.rows) := fun o => cell_later (al o) e2
  have qe3 : ∀ o, (w3.alloc o).cell? ⟨w.heap.size, 3, none⟩ = some (.int .i64 a.cols) := fun o => cell_later (al o) e3
  have qe4 : ∀ o, (w3.alloc o).cell? ⟨w.heap.size, 4, none⟩ = some (.int .i64 a.x) := fun o => cell_later (al o) e4
  have qe5 : ∀ o, (w3.alloc o).cell? ⟨w.heap.size, 5, none⟩ = some (.int .i64 a.y) := fun o => cell_later (al o) e5
  have qe6 : ∀ o, (w3.alloc o).cell? ⟨w.heap.size, 6, none⟩ = some (.int .i64 a.pitch) := fun o => cell_later (al o) e6
  have qe7 : ∀ o, (w3.alloc o).cell? ⟨w.heap.size, 7, none⟩ = some (.int .i64 a.wid) := fun o => cell_later (al o) e7
  have qe8 : ∀ o, (w3.alloc o).cell? ⟨w.heap.size, 8, none⟩ = some (.int .i64 a.len) := fun o => cell_later (al o) e8
  have qe9 : ∀ o, (w3.alloc o).cell? ⟨w.heap.size, 9, none⟩ = some (.int .i64 a.hei) := fun o => cell_later (al o) e9
  have qe10 : ∀ o, (w3.alloc o).cell? ⟨w.heap.size, 10, none⟩ = some (.int .i64 a.deep) := fun o => cell_later (al o) e10
  have qe11 : ∀ o, (w3.alloc o).cell? ⟨w.heap.size, 11, none⟩ = some (.int .i64 a.cap) := fun o => cell_later (al o) e11
  clear al
  go_wp2_with fail
  refine (HALL.out _).mono ?_
  rintro e w4 ⟨v4, rfl, hown, hb4⟩
  have e0 : w4.cell? ⟨w.heap.size, 0, none⟩ = some (.string a.name) := cell_later hb4 (qe0 _)
  have e1 : w4.cell? ⟨w.heap.size, 1, none⟩ = some (.int .i64 a.kind) := cell_later hb4 (qe1 _)
  have e2 : w4.cell? ⟨w.heap.size, 2, none⟩ = some (.int .i64 a.rows) := cell_later hb4 (qe2 _)
  have e3 : w4.cell? ⟨w.heap.size, 3, none⟩ = some (.int .i64 a.cols) := cell_later hb4 (qe3 _)
  have e4 : w4.cell? ⟨w.heap.size, 4, none⟩ = some (.int .i64 a.x) := cell_later hb4 (qe4 _)
  have e5 : w4.cell? ⟨w.heap.size, 5, none⟩ = some (.int .i64 a.y) := cell_later hb4 (qe5 _)
  have e6 : w4.cell? ⟨w.heap.size, 6, none⟩ = some (.int .i64 a.pitch) := cell_later hb4 (qe6 _)
  have e7 : w4.cell? ⟨w.heap.size, 7, none⟩ = some (.int .i64 a.wid) := cell_later hb4 (qe7 _)
  have e8 : w4.cell? ⟨w.heap.size, 8, none⟩ = some (.int .i64 a.len) := cell_later hb4 (qe8 _)
  have e9 : w4.cell? ⟨w.heap.size, 9, none⟩ = some (.int .i64 a.hei) := cell_later hb4 (qe9 _)
  have e10 : w4.cell? ⟨w.heap.size, 10, none⟩ = some (.int .i64 a.deep) := cell_later hb4 (qe10 _)
  have e11 : w4.cell? ⟨w.heap.size, 11, none⟩ = some (.int .i64 a.cap) := cell_later hb4 (qe11 _)
  have x0 : w4.cell? ⟨w3.heap.size, 0, none⟩ = some (.string a.name) := cell_later hb4 (by go_simp)
  have x1 : w4.cell? ⟨w3.heap.size, 1, none⟩ = some (.int .i64 a.kind) := cell_later hb4 (by go_simp)
  have x2 : w4.cell? ⟨w3.heap.size, 2, none⟩ = some (.int .i64 a.rows) := cell_later hb4 (by go_simp)
  have x3 : w4.cell? ⟨w3.heap.size, 3, none⟩ = some (.int .i64 a.cols) := cell_later hb4 (by go_simp)
  have x4 : w4.cell? ⟨w3.heap.size, 4, none⟩ = some (.int .i64 a.x) := cell_later hb4 (by go_simp)
  have x5 : w4.cell? ⟨w3.heap.size, 5, none⟩ = some (.int .i64 a.y) := cell_later hb4 (by go_simp)
  have x6 : w4.cell? ⟨w3.heap.size, 6, none⟩ = some (.int .i64 a.pitch) := cell_later hb4 (by go_simp)
  have x7 : w4.cell? ⟨w3.heap.size, 7, none⟩ = some (.int .i64 a.wid) := cell_later hb4 (by go_simp)
  have x8 : w4.cell? ⟨w3.heap.size, 8, none⟩ = some (.int .i64 a.len) := cell_later hb4 (by go_simp)
  have x9 : w4.cell? ⟨w3.heap.size, 9, none⟩ = some (.int .i64 a.hei) := cell_later hb4 (by go_simp)
  have x10 : w4.cell? ⟨w3.heap.size, 10, none⟩ = some (.int .i64 a.deep) := cell_later hb4 (by go_simp)
  have x11 : w4.cell? ⟨w3.heap.size, 11, none⟩ = some (.int .i64 a.cap) := cell_later hb4 (by go_simp)
  have hB4 : Below w.heap.size w w4 := (hB3.alloc hB3.size _).trans (hb4.mono (by have := hB3.size; simp; omega))
  clear hb4
  clear qe0 qe1 qe2 qe3 qe4 qe5 qe6 qe7 qe8 qe9 qe10 qe11
  obtain ⟨g, cap, rfl, hgl, hcell⟩ : ∃ g cap, v4 = .slice (some ⟨g, 0, none⟩) (spots R (C * R)).length cap ∧ g < w4.heap.size ∧ ∀ k (hk : k < (spots R (C * R)).length), w4.cell? ⟨g, k * 2, none⟩ = some (.int .i64 ((spots R (C * R))[k]'hk).1) ∧ w4.cell? ⟨g, k * 2 + 1, none⟩ = some (.int .i64 ((spots R (C * R))[k]'hk).2) := by
    rcases hown.read with h | h
    · exfalso
      have h1 := spots_length R (C * R)
      rw [h] at h1
      have h2 : 0 < C * R := Nat.mul_pos (by omega) (by omega)
      simp at h1; omega
    · exact h
  have HCELL : Hid (∀ k : Nat, k < C * R → w4.cell? ⟨g, k * 2, none⟩ = some (.int .i64 ((k % R : Nat) : Int)) ∧ w4.cell? ⟨g, k * 2 + 1, none⟩ = some (.int .i64 ((k / R : Nat) : Int))) := fun k hk => by
    have hk' : k < (spots R (C * R)).length := by rw [spots_length]; exact hk
    have h1 := hcell k hk'
    have h2 : (spots R (C * R))[k]'hk' = (k % R, k / R) := by
      have h3 := spots_at (R := R) hk
      rw [List.getElem?_eq_getElem hk'] at h3
      exact Option.some.inj h3
    rw [h2] at h1
    exact h1
  clear hcell hown
  rw [spots_length]
  obtain ⟨n, hne⟩ : ∃ n, n = C * R := ⟨_, rfl⟩
  have HN : Hid (n = C * R) := hne
  rw [← hne]
  have hn1 : n ≤ 384 := by
    rw [hne]
    exact Nat.mul_le_mul k2 r2
  have hnI : ((n : Int) != (R : Int) * (C : Int)) = false := by
    rw [hne]
    have : ((C * R : Nat) : Int) = (R : Int) * (C : Int) := by rw [Int.natCast_mul, Int.mul_comm]
    simp [this]
  have hm0 : 0 ≤ (R : Int) * (C : Int) := Int.mul_nonneg (by omega) (by omega)
  have hm1 : (R : Int) * (C : Int) ≤ 384 := by
    have h := hn1
    rw [hne] at h
    have : ((C * R : Nat) : Int) = (R : Int) * (C : Int) := by rw [Int.natCast_mul, Int.mul_comm]
    omega
  clear hne
  have m2 : w4.cell? ⟨w.heap.size, 2, none⟩ = some (.int .i64 a.rows) := e2
  have hnR : ((n : Int) != a.rows * a.cols) = false := by rw [HR.out, HC.out]; exact hnI
  have hmR0 : 0 ≤ a.rows * a.cols := by rw [HR.out, HC.out]; exact hm0
  have hmR1 : a.rows * a.cols ≤ 384 := by rw [HR.out, HC.out]; exact hm1
  have hn0 : 1 ≤ n := by rw [HN.out]; exact Nat.mul_pos k1 r1
  go_wp2_with fail
  refine (picked_any p n _ hp0 hp1 (by omega) (by omega)).mono ?_
  rintro e w4 ⟨i, hi, rfl, rfl⟩
  go_wp2_with fail
  refine (picked_any q n _ hq0 hq1 (by omega) (by omega)).mono ?_
  rintro e w4 ⟨k, hk, rfl, rfl⟩
  have hi : i < n := by omega
  have hk : k < n := by omega
  clear x0 x1 x2 x3 x4 x5 x6 x7 x8 x9 x10 x11
  obtain ⟨ri, hri⟩ : ∃ ri, ri = i % R := ⟨_, rfl⟩
  obtain ⟨ci, hci⟩ : ∃ ci, ci = i / R := ⟨_, rfl⟩
  obtain ⟨rk, hrk⟩ : ∃ rk, rk = k % R := ⟨_, rfl⟩
  obtain ⟨ck, hck⟩ : ∃ ck, ck = k / R := ⟨_, rfl⟩
  have hci' := HCELL.out i (by rw [← HN.out]; exact hi)
  have hck' := HCELL.out k (by rw [← HN.out]; exact hk)
  rw [← hri, ← hci] at hci'
  rw [← hrk, ← hck] at hck'
  have g0 : w4.cell? ⟨g, i * 2, none⟩ = some (.int .i64 (ri : Int)) := hci'.1
  have g1 : w4.cell? ⟨g, i * 2 + 1, none⟩ = some (.int .i64 (ci : Int)) := hci'.2
  have h0 : w4.cell? ⟨g, k * 2, none⟩ = some (.int .i64 (rk : Int)) := hck'.1
  have h1 : w4.cell? ⟨g, k * 2 + 1, none⟩ = some (.int .i64 (ck : Int)) := hck'.2
  have hriR : ri < R := by rw [hri]; exact Nat.mod_lt _ r1
  have hrkR : rk < R := by rw [hrk]; exact Nat.mod_lt _ r1
  have hciC : ci < C := by rw [hci]; exact Nat.div_lt_of_lt_mul (by rw [Nat.mul_comm, ← HN.out]; exact hi)
  have hckC : ck < C := by rw [hck]; exact Nat.div_lt_of_lt_mul (by rw [Nat.mul_comm, ← HN.out]; exact hk)
  have HIK : Hid (i = k ↔ ri = rk ∧ ci = ck) := by
    constructor
    · intro e; subst e; exact ⟨hri.trans hrk.symm, hci.trans hck.symm⟩
    · rintro ⟨e1, e2⟩
      have d1 := Nat.mod_add_div i R
      have d2 := Nat.mod_add_div k R
      rw [← hri, ← hci, e1, e2] at d1
      rw [← hrk, ← hck] at d2
      omega
  have HMI : Hid (∀ w : World, Calls Tryd.prog 15 #[wv a, .agg #[.int .i64 (ri : Int), .int .i64 (ci : Int)]] w fun e w' => e = .returned (.tuple #[.agg #[.int .i64 (a.x + ci * a.pitch), .int .i64 (a.y + ri * a.pitch), .int .i64 (a.hei - a.deep)], .int .i64 0]) ∧ Below w.heap.size w w') := fun w => middle_ok a _ _ w hs HCH.out (by rw [HR.out, HC.out]; exact spotOk_iff.2 ⟨⟨by omega, by omega⟩, by omega, by omega⟩)
  have HMK : Hid (∀ w : World, Calls Tryd.prog 15 #[wv a, .agg #[.int .i64 (rk : Int), .int .i64 (ck : Int)]] w fun e w' => e = .returned (.tuple #[.agg #[.int .i64 (a.x + ck * a.pitch), .int .i64 (a.y + rk * a.pitch), .int .i64 (a.hei - a.deep)], .int .i64 0]) ∧ Below w.heap.size w w') := fun w => middle_ok a _ _ w hs HCH.out (by rw [HR.out, HC.out]; exact spotOk_iff.2 ⟨⟨by omega, by omega⟩, by omega, by omega⟩)
  have HRI := (show Hid (ri = i % R) from hri)
  have HLT : Hid (w.heap.size < w4.heap.size ∧ g < w4.heap.size) := ⟨by have := hB4.size; have := World.block_lt_of_cell? _ _ e0; exact this, hgl⟩
  clear hri hci hrk hck hci' hck' m2 HCELL hgl
  have z1 : (0 : Int) ≤ (i : Int) := by omega
  have z2 : (i : Int) < (n : Int) := by omega
  have y1 : (0 : Int) ≤ (k : Int) := by omega
  have y2 : (k : Int) < (n : Int) := by omega
  have hri16 : ri < 16 := by omega
  have hci24 : ci < 24 := by omega
  go_wp2_with fail
  refine (name_ok ri ci _ hri16 hci24).mono ?_
  rintro e w5 ⟨rfl, hb5⟩
  have e0 : w5.cell? ⟨w.heap.size, 0, none⟩ = some (.string a.name) := cell_later hb5 e0
  have e1 : w5.cell? ⟨w.heap.size, 1, none⟩ = some (.int .i64 a.kind) := cell_later hb5 e1
  have e2 : w5.cell? ⟨w.heap.size, 2, none⟩ = some (.int .i64 a.rows) := cell_later hb5 e2
  have e3 : w5.cell? ⟨w.heap.size, 3, none⟩ = some (.int .i64 a.cols) := cell_later hb5 e3
  have e4 : w5.cell? ⟨w.heap.size, 4, none⟩ = some (.int .i64 a.x) := cell_later hb5 e4
  have e5 : w5.cell? ⟨w.heap.size, 5, none⟩ = some (.int .i64 a.y) := cell_later hb5 e5
  have e6 : w5.cell? ⟨w.heap.size, 6, none⟩ = some (.int .i64 a.pitch) := cell_later hb5 e6
  have e7 : w5.cell? ⟨w.heap.size, 7, none⟩ = some (.int .i64 a.wid) := cell_later hb5 e7
  have e8 : w5.cell? ⟨w.heap.size, 8, none⟩ = some (.int .i64 a.len) := cell_later hb5 e8
  have e9 : w5.cell? ⟨w.heap.size, 9, none⟩ = some (.int .i64 a.hei) := cell_later hb5 e9
  have e10 : w5.cell? ⟨w.heap.size, 10, none⟩ = some (.int .i64 a.deep) := cell_later hb5 e10
  have e11 : w5.cell? ⟨w.heap.size, 11, none⟩ = some (.int .i64 a.cap) := cell_later hb5 e11
  have g0 : w5.cell? ⟨g, i * 2, none⟩ = some (.int .i64 (ri : Int)) := cell_later hb5 g0
  have g1 : w5.cell? ⟨g, i * 2 + 1, none⟩ = some (.int .i64 (ci : Int)) := cell_later hb5 g1
  have h0 : w5.cell? ⟨g, k * 2, none⟩ = some (.int .i64 (rk : Int)) := cell_later hb5 h0
  have h1 : w5.cell? ⟨g, k * 2 + 1, none⟩ = some (.int .i64 (ck : Int)) := cell_later hb5 h1
  have hB5 : Below w.heap.size w w5 := hB4.trans (hb5.mono hB4.size)
  have HLT5 : Hid (w.heap.size < w5.heap.size ∧ g < w5.heap.size) := ⟨Nat.lt_of_lt_of_le HLT.out.1 hb5.size, Nat.lt_of_lt_of_le HLT.out.2 hb5.size⟩
  clear hb5
  go_wp2_with fail
  have hnl := nameL_len ri hci24
  refine (spot_list (nameL ri ci) _ (by omega) (by unfold maxLen; omega)).mono ?_
  rintro e w6 ⟨rfl, hb6⟩
  rw [spotR_name hri16 hci24]
  have e0 : w6.cell? ⟨w.heap.size, 0, none⟩ = some (.string a.name) := cell_later hb6 e0
  have e1 : w6.cell? ⟨w.heap.size, 1, none⟩ = some (.int .i64 a.kind) := cell_later hb6 e1
  have e2 : w6.cell? ⟨w.heap.size, 2, none⟩ = some (.int .i64 a.rows) := cell_later hb6 e2
  have e3 : w6.cell? ⟨w.heap.size, 3, none⟩ = some (.int .i64 a.cols) := cell_later hb6 e3
  have e4 : w6.cell? ⟨w.heap.size, 4, none⟩ = some (.int .i64 a.x) := cell_later hb6 e4
  have e5 : w6.cell? ⟨w.heap.size, 5, none⟩ = some (.int .i64 a.y) := cell_later hb6 e5
  have e6 : w6.cell? ⟨w.heap.size, 6, none⟩ = some (.int .i64 a.pitch) := cell_later hb6 e6
  have e7 : w6.cell? ⟨w.heap.size, 7, none⟩ = some (.int .i64 a.wid) := cell_later hb6 e7
  have e8 : w6.cell? ⟨w.heap.size, 8, none⟩ = some (.int .i64 a.len) := cell_later hb6 e8
  have e9 : w6.cell? ⟨w.heap.size, 9, none⟩ = some (.int .i64 a.hei) := cell_later hb6 e9
  have e10 : w6.cell? ⟨w.heap.size, 10, none⟩ = some (.int .i64 a.deep) := cell_later hb6 e10
  have e11 : w6.cell? ⟨w.heap.size, 11, none⟩ = some (.int .i64 a.cap) := cell_later hb6 e11
  have g0 : w6.cell? ⟨g, i * 2, none⟩ = some (.int .i64 (ri : Int)) := cell_later hb6 g0
  have g1 : w6.cell? ⟨g, i * 2 + 1, none⟩ = some (.int .i64 (ci : Int)) := cell_later hb6 g1
  have h0 : w6.cell? ⟨g, k * 2, none⟩ = some (.int .i64 (rk : Int)) := cell_later hb6 h0
  have h1 : w6.cell? ⟨g, k * 2 + 1, none⟩ = some (.int .i64 (ck : Int)) := cell_later hb6 h1
  have hB6 : Below w.heap.size w w6 := hB5.trans (hb6.mono hB5.size)
  have HLT6 : Hid (w.heap.size < w6.heap.size ∧ g < w6.heap.size) := ⟨Nat.lt_of_lt_of_le HLT5.out.1 hb6.size, Nat.lt_of_lt_of_le HLT5.out.2 hb6.size⟩
  clear hb6
  go_wp2_with fail
  obtain ⟨w7, hw7⟩ : ∃ w7, w7 = w6.alloc (.cells #[.int .i64 (ri : Int), .int .i64 (ci : Int)] 33) := ⟨_, rfl⟩
  have hb7 : Below w6.heap.size w6 w7 := by rw [hw7]; exact (Below.refl _ _).alloc (Nat.le_refl _) _
  have e0 : w7.cell? ⟨w.heap.size, 0, none⟩ = some (.string a.name) := cell_later hb7 e0
  have e1 : w7.cell? ⟨w.heap.size, 1, none⟩ = some (.int .i64 a.kind) := cell_later hb7 e1
  have e2 : w7.cell? ⟨w.heap.size, 2, none⟩ = some (.int .i64 a.rows) := cell_later hb7 e2
  have e3 : w7.cell? ⟨w.heap.size, 3, none⟩ = some (.int .i64 a.cols) := cell_later hb7 e3
  have e4 : w7.cell? ⟨w.heap.size, 4, none⟩ = some (.int .i64 a.x) := cell_later hb7 e4
  have e5 : w7.cell? ⟨w.heap.size, 5, none⟩ = some (.int .i64 a.y) := cell_later hb7 e5
  have e6 : w7.cell? ⟨w.heap.size, 6, none⟩ = some (.int .i64 a.pitch) := cell_later hb7 e6
  have e7 : w7.cell? ⟨w.heap.size, 7, none⟩ = some (.int .i64 a.wid) := cell_later hb7 e7
  have e8 : w7.cell? ⟨w.heap.size, 8, none⟩ = some (.int .i64 a.len) := cell_later hb7 e8
  have e9 : w7.cell? ⟨w.heap.size, 9, none⟩ = some (.int .i64 a.hei) := cell_later hb7 e9
  have e10 : w7.cell? ⟨w.heap.size, 10, none⟩ = some (.int .i64 a.deep) := cell_later hb7 e10
  have e11 : w7.cell? ⟨w.heap.size, 11, none⟩ = some (.int .i64 a.cap) := cell_later hb7 e11
  have g0 : w7.cell? ⟨g, i * 2, none⟩ = some (.int .i64 (ri : Int)) := cell_later hb7 g0
  have g1 : w7.cell? ⟨g, i * 2 + 1, none⟩ = some (.int .i64 (ci : Int)) := cell_later hb7 g1
  have h0 : w7.cell? ⟨g, k * 2, none⟩ = some (.int .i64 (rk : Int)) := cell_later hb7 h0
  have h1 : w7.cell? ⟨g, k * 2 + 1, none⟩ = some (.int .i64 (ck : Int)) := cell_later hb7 h1
  have t0 : w7.cell? ⟨w6.heap.size, 0, none⟩ = some (.int .i64 (ri : Int)) := by rw [hw7]; go_simp
  have t1 : w7.cell? ⟨w6.heap.size, 1, none⟩ = some (.int .i64 (ci : Int)) := by rw [hw7]; go_simp
  have hB7 : Below w.heap.size w w7 := hB6.trans (hb7.mono hB6.size)
  have HLT7 : Hid (w.heap.size < w7.heap.size ∧ g < w7.heap.size ∧ w6.heap.size < w7.heap.size) := ⟨Nat.lt_of_lt_of_le HLT6.out.1 hb7.size, Nat.lt_of_lt_of_le HLT6.out.2 hb7.size, by rw [hw7]; simp⟩
  rw [← hw7]
  clear hw7 hb7
  rename_i K HK
  obtain ⟨M, hM⟩ : ∃ M : List Bool, M = [false, false, false, false, false, false, false, false, false, false, false, false, false, false, false, false, false, false, true, false, false, false, false, false, false, false, false, false, false, false, false, false, false, false, false, false, false, false, false, false, false, false, false, false, false, false, false, false, false, false, false, false, false, false, false, false, false, false, false, false, false, false, false, false, false, false, false, false, false, false, false, false, false, false, false, false, false, false, false, false, false, false, false, false, false, false, false, false, false, false, false, false, false, true, true, true, true, true, true, true, true, true, false, false, false, false, false, false, false, false, false, false, false, false, false, false, false, false, false, false, false, false, false, false, false, false, false, false, false, false, false, false, false, false, false, false, false, false, false, false, false, false, false, false, false, false, false, false, false, false, false, false, false, false, false, false, false, false, false, false, false] := ⟨_, rfl⟩
  refine cut_with (fun fr => ∀ (f : Nat → Value) (v : World) (b : Nat), Below w7.heap.size w7 v → w7.heap.size ≤ b → b < v.heap.size → Pt b (a.x + ci * a.pitch) (a.y + ri * a.pitch) (a.hei - a.deep) v → f 94 = wv a → f 95 = .slice (some ⟨g, 0, none⟩) n cap → f 96 = .int .i64 (i : Int) → f 97 = .pointer (some ⟨g, i * 2, none⟩) → f 98 = .agg #[.int .i64 (ri : Int), .int .i64 (ci : Int)] → f 99 = .tuple #[.agg #[.int .i64 (a.x + ci * a.pitch), .int .i64 (a.y + ri * a.pitch), .int .i64 (a.hei - a.deep)], .int .i64 0] → f 93 = .tuple #[.agg #[.int .i64 (a.x + ci * a.pitch), .int .i64 (a.y + ri * a.pitch), .int .i64 (a.hei - a.deep)], .int .i64 0] → f 100 = .agg #[.int .i64 (a.x + ci * a.pitch), .int .i64 (a.y + ri * a.pitch), .int .i64 (a.hei - a.deep)] → f 101 = .int .i64 0 → f 18 = .pointer (some ⟨b, 0, none⟩) → K ((over fr M f).put (some 13) (.int .i64 0)) v) ?_ ?_
  · intro HTL
    clear HK
    refine region_seqL 10 8 [false, false, false, false, false, false, false, false, false, false, false, false, false, false, false, false, false, false, true, false, false, false, false, false, false, false, false, false, false, false, false, false, false, false, false, false, false, false, false, false, false, false, false, false, false, false, false, false, false, false, false, false, false, false, false, false, false, false, false, false, false, false, false, false, false, false, false, false, false, false, false, false, false, false, false, false, false, false, false, false, false, false, false, false, false, false, false, false, false, false, false, false, false, true, true, true, true, true, true, true, true, true, false, false, false, false, false, false, false, false, false, false, false, false, false, false, false, false, false, false, false, false, false, false, false, false, false, false, false, false, false, false, false, false, false, false, false, false, false, false, false, false, false, false, false, false, false, false, false, false, false, false, false, false, false, false, false, false, false, false, false]
      [(94, [], none), (95, [], none), (96, [], none), (97, [95, 96], none), (98, [97], none), (99, [94, 98], none), (93, [99], none), (100, [93], none), (101, [93], none), (18, [], none)]
      (b14V a g n cap i ri ci (a.x + ci * a.pitch) (a.y + ri * a.pitch) (a.hei - a.deep) w7.heap.size) (by kernel_rfl) (by kernel_rfl) (by kernel_rfl) (by kernel_rfl) (by kernel_rfl) (by decide) (by decide) (b14V_mono a g n cap i ri ci (a.x + ci * a.pitch) (a.y + ri * a.pitch) (a.hei - a.deep) w7.heap.size) ?_ ?_ ?_
    · refine ⟨?_, ?_, ?_, ?_, ?_, ?_, ?_, ?_, ?_, ?_, trivial⟩
      · intro f w1 hb _ K hK
        have ce0 : w1.cell? ⟨w.heap.size, 0, none⟩ = some (.string a.name) := cell_later hb e0
        have ce1 : w1.cell? ⟨w.heap.size, 1, none⟩ = some (.int .i64 a.kind) := cell_later hb e1
        have ce2 : w1.cell? ⟨w.heap.size, 2, none⟩ = some (.int .i64 a.rows) := cell_later hb e2
        have ce3 : w1.cell? ⟨w.heap.size, 3, none⟩ = some (.int .i64 a.cols) := cell_later hb e3
        have ce4 : w1.cell? ⟨w.heap.size, 4, none⟩ = some (.int .i64 a.x) := cell_later hb e4
        have ce5 : w1.cell? ⟨w.heap.size, 5, none⟩ = some (.int .i64 a.y) := cell_later hb e5
        have ce6 : w1.cell? ⟨w.heap.size, 6, none⟩ = some (.int .i64 a.pitch) := cell_later hb e6
        have ce7 : w1.cell? ⟨w.heap.size, 7, none⟩ = some (.int .i64 a.wid) := cell_later hb e7
        have ce8 : w1.cell? ⟨w.heap.size, 8, none⟩ = some (.int .i64 a.len) := cell_later hb e8
        have ce9 : w1.cell? ⟨w.heap.size, 9, none⟩ = some (.int .i64 a.hei) := cell_later hb e9
        have ce10 : w1.cell? ⟨w.heap.size, 10, none⟩ = some (.int .i64 a.deep) := cell_later hb e10
        have ce11 : w1.cell? ⟨w.heap.size, 11, none⟩ = some (.int .i64 a.cap) := cell_later hb e11
        simp only [over, overL, Nat.reduceAdd]
        go_simp
        exact hK _ _ ⟨_, rfl, by simp only [over, overL, Nat.reduceAdd]; rfl, Below.refl _ _⟩
      · intro f w1 hb _ K hK
        simp only [over, overL, Nat.reduceAdd]
        go_simp
        exact hK _ _ ⟨_, rfl, by simp only [over, overL, Nat.reduceAdd]; rfl, Below.refl _ _⟩
      · intro f w1 hb _ K hK
        simp only [over, overL, Nat.reduceAdd]
        go_simp
        exact hK _ _ ⟨_, rfl, by simp only [over, overL, Nat.reduceAdd]; rfl, Below.refl _ _⟩
      · intro f w1 hb ⟨h95, h96, _⟩ K hK
        have h95 : f 95 = _ := h95
        have h96 : f 96 = _ := h96
        simp only [over, overL, Nat.reduceAdd, h95, h96]
        go_simp
        exact hK _ _ ⟨_, rfl, by simp only [over, overL, Nat.reduceAdd, h95, h96]; rfl, Below.refl _ _⟩
      · intro f w1 hb ⟨h97, _⟩ K hK
        have cg0 : w1.cell? ⟨g, i * 2, none⟩ = some (.int .i64 (ri : Int)) := cell_later hb g0
        have cg1 : w1.cell? ⟨g, i * 2 + 1, none⟩ = some (.int .i64 (ci : Int)) := cell_later hb g1
        have h97 : f 97 = _ := h97
        simp only [over, overL, Nat.reduceAdd, h97]
        go_simp
        exact hK _ _ ⟨_, rfl, by simp only [over, overL, Nat.reduceAdd, h97]; rfl, Below.refl _ _⟩
      · intro f w1 hb ⟨h94, h98, _⟩ K hK
        have h94 : f 94 = _ := h94
        have h98 : f 98 = _ := h98
        simp only [over, overL, Nat.reduceAdd, h94, h98]
        go_simp
        refine (HMI.out _).mono ?_
        rintro e w2 ⟨rfl, hb2⟩
        exact hK _ _ ⟨_, rfl, by simp only [over, overL, Nat.reduceAdd, h94, h98]; rfl, hb2⟩
      · intro f w1 hb ⟨h99, _⟩ K hK
        have h99 : f 99 = _ := h99
        simp only [over, overL, Nat.reduceAdd, h99]
        go_simp
        exact hK _ _ ⟨_, rfl, by simp only [over, overL, Nat.reduceAdd, h99]; rfl, Below.refl _ _⟩
      · intro f w1 hb ⟨h93, _⟩ K hK
        have h93 : f 93 = _ := h93
        simp only [over, overL, Nat.reduceAdd, h93]
        go_simp
        exact hK _ _ ⟨_, rfl, by simp only [over, overL, Nat.reduceAdd, h93]; rfl, Below.refl _ _⟩
      · intro f w1 hb ⟨h93, _⟩ K hK
        have h93 : f 93 = _ := h93
        simp only [over, overL, Nat.reduceAdd, h93]
        go_simp
        exact hK _ _ ⟨_, rfl, by simp only [over, overL, Nat.reduceAdd, h93]; rfl, Below.refl _ _⟩
      · intro f w1 hb _ K hK
        simp only [over, overL, Nat.reduceAdd]
        go_simp
        exact hK _ _ ⟨_, new_pt _ _ _ hb.size, by simp only [over, overL, Nat.reduceAdd]; rfl, (Below.refl _ _).alloc (Nat.le_refl _) _⟩
    · intro f v hbv ⟨h94, h95, h96, h97, h98, h99, h93, h100, h101, h18, _⟩
      have h94 : f 94 = wv a := h94
      have h95 : f 95 = .slice (some ⟨g, 0, none⟩) n cap := h95
      have h96 : f 96 = .int .i64 (i : Int) := h96
      have h97 : f 97 = .pointer (some ⟨g, i * 2, none⟩) := h97
      have h98 : f 98 = .agg #[.int .i64 (ri : Int), .int .i64 (ci : Int)] := h98
      have h99 : f 99 = .tuple #[.agg #[.int .i64 (a.x + ci * a.pitch), .int .i64 (a.y + ri * a.pitch), .int .i64 (a.hei - a.deep)], .int .i64 0] := h99
      have h93 : f 93 = .tuple #[.agg #[.int .i64 (a.x + ci * a.pitch), .int .i64 (a.y + ri * a.pitch), .int .i64 (a.hei - a.deep)], .int .i64 0] := h93
      have h100 : f 100 = .agg #[.int .i64 (a.x + ci * a.pitch), .int .i64 (a.y + ri * a.pitch), .int .i64 (a.hei - a.deep)] := h100
      have h101 : f 101 = .int .i64 0 := h101
      obtain ⟨b, h18, hbb, hz, hfz, hbs⟩ := h18
      have hz0 := hz 0 (by decide)
      have hf0 := hfz 0 (by decide)
      have hz1 := hz 1 (by decide)
      have hf1 := hfz 1 (by decide)
      have hz2 := hz 2 (by decide)
      have hf2 := hfz 2 (by decide)
      have hp : Pt b (a.x + ci * a.pitch) (a.y + ri * a.pitch) (a.hei - a.deep) (((v.setCell ⟨b, 0, none⟩ (.int .i64 (a.x + ci * a.pitch))).setCell ⟨b, 1, none⟩ (.int .i64 (a.y + ri * a.pitch))).setCell ⟨b, 2, none⟩ (.int .i64 (a.hei - a.deep))) := ⟨by go_simp, by go_simp, by go_simp⟩
      have hlt : b < (((v.setCell ⟨b, 0, none⟩ (.int .i64 (a.x + ci * a.pitch))).setCell ⟨b, 1, none⟩ (.int .i64 (a.y + ri * a.pitch))).setCell ⟨b, 2, none⟩ (.int .i64 (a.hei - a.deep))).heap.size := World.block_lt_of_cell? _ _ hp.c0
      have hk := HTL.out f _ b (((hbv.setCell hbb _).setCell hbb _).setCell hbb _) hbb hlt hp h94 h95 h96 h97 h98 h99 h93 h100 h101 h18
      rw [hM] at hk
      simp only [over_eq, overL, Nat.reduceAdd, List.drop_succ_cons, List.drop_zero, h94, h95, h96, h97, h98, h99, h93, h100, h101, h18] at hk ⊢
      go_wp2
      exact hk
    · intro f v ok ol hok hol hbv ⟨h94, h95, h96, h97, h98, h99, h93, h100, h101, h18, _⟩
      cases hok
      cases hol
      have h94 : f 94 = wv a := h94 (by decide)
      have h95 : f 95 = .slice (some ⟨g, 0, none⟩) n cap := h95 (by decide)
      have h96 : f 96 = .int .i64 (i : Int) := h96 (by decide)
      have h97 : f 97 = .pointer (some ⟨g, i * 2, none⟩) := h97 (by decide)
      have h98 : f 98 = .agg #[.int .i64 (ri : Int), .int .i64 (ci : Int)] := h98 (by decide)
      have h99 : f 99 = .tuple #[.agg #[.int .i64 (a.x + ci * a.pitch), .int .i64 (a.y + ri * a.pitch), .int .i64 (a.hei - a.deep)], .int .i64 0] := h99 (by decide)
      have h93 : f 93 = .tuple #[.agg #[.int .i64 (a.x + ci * a.pitch), .int .i64 (a.y + ri * a.pitch), .int .i64 (a.hei - a.deep)], .int .i64 0] := h93 (by decide)
      have h100 : f 100 = .agg #[.int .i64 (a.x + ci * a.pitch), .int .i64 (a.y + ri * a.pitch), .int .i64 (a.hei - a.deep)] := h100 (by decide)
      obtain ⟨b, h18, hbb, hz, hfz, hbs⟩ := h18 (by decide)
      have hz0 := hz 0 (by decide)
      have hf0 := hfz 0 (by decide)
      have hz1 := hz 1 (by decide)
      have hf1 := hfz 1 (by decide)
      have hz2 := hz 2 (by decide)
      have hf2 := hfz 2 (by decide)
      have hp : Pt b (a.x + ci * a.pitch) (a.y + ri * a.pitch) (a.hei - a.deep) (((v.setCell ⟨b, 0, none⟩ (.int .i64 (a.x + ci * a.pitch))).setCell ⟨b, 1, none⟩ (.int .i64 (a.y + ri * a.pitch))).setCell ⟨b, 2, none⟩ (.int .i64 (a.hei - a.deep))) := ⟨by go_simp, by go_simp, by go_simp⟩
      have hlt : b < (((v.setCell ⟨b, 0, none⟩ (.int .i64 (a.x + ci * a.pitch))).setCell ⟨b, 1, none⟩ (.int .i64 (a.y + ri * a.pitch))).setCell ⟨b, 2, none⟩ (.int .i64 (a.hei - a.deep))).heap.size := World.block_lt_of_cell? _ _ hp.c0
      have hk := HTL.out (upd f 101 (.int .i64 0)) _ b (((hbv.setCell hbb _).setCell hbb _).setCell hbb _) hbb hlt hp ((upd_other (by decide)).trans h94) ((upd_other (by decide)).trans h95) ((upd_other (by decide)).trans h96) ((upd_other (by decide)).trans h97) ((upd_other (by decide)).trans h98) ((upd_other (by decide)).trans h99) ((upd_other (by decide)).trans h93) ((upd_other (by decide)).trans h100) (upd_same _ _ _) ((upd_other (by decide)).trans h18)
      rw [← over_put _ _ _ _ _ (by rw [hM]; rfl)] at hk
      rw [hM] at hk
      simp only [over_eq, overL, Nat.reduceAdd, List.drop_succ_cons, List.drop_zero, h94, h95, h96, h97, h98, h99, h93, h100, h18] at hk ⊢
      go_wp2
      exact hk
  · intro f w8 b18 hbw8 hbbw8 hltw8 hpw8 h94 h95 h96 h97 h98 h99 h93 h100 h101 h18
    refine HK _ _ ?_
    rw [hM]
    simp only [over_eq, overL, Nat.reduceAdd, h94, h95, h96, h97, h98, h99, h93, h100, h101, h18]
    simp only [Act.put, List.setIfInBounds_toArray, List.set_cons_succ, List.set_cons_zero]
    clear h94 h95 h96 h97 h98 h99 h93 h100 h101 h18 HK hM M
    have e0 : w8.cell? ⟨w.heap.size, 0, none⟩ = some (.string a.name) := cell_later hbw8 e0
    have e1 : w8.cell? ⟨w.heap.size, 1, none⟩ = some (.int .i64 a.kind) := cell_later hbw8 e1
    have e2 : w8.cell? ⟨w.heap.size, 2, none⟩ = some (.int .i64 a.rows) := cell_later hbw8 e2
    have e3 : w8.cell? ⟨w.heap.size, 3, none⟩ = some (.int .i64 a.cols) := cell_later hbw8 e3
    have e4 : w8.cell? ⟨w.heap.size, 4, none⟩ = some (.int .i64 a.x) := cell_later hbw8 e4
    have e5 : w8.cell? ⟨w.heap.size, 5, none⟩ = some (.int .i64 a.y) := cell_later hbw8 e5
    have e6 : w8.cell? ⟨w.heap.size, 6, none⟩ = some (.int .i64 a.pitch) := cell_later hbw8 e6
    have e7 : w8.cell? ⟨w.heap.size, 7, none⟩ = some (.int .i64 a.wid) := cell_later hbw8 e7
    have e8 : w8.cell? ⟨w.heap.size, 8, none⟩ = some (.int .i64 a.len) := cell_later hbw8 e8
    have e9 : w8.cell? ⟨w.heap.size, 9, none⟩ = some (.int .i64 a.hei) := cell_later hbw8 e9
    have e10 : w8.cell? ⟨w.heap.size, 10, none⟩ = some (.int .i64 a.deep) := cell_later hbw8 e10
    have e11 : w8.cell? ⟨w.heap.size, 11, none⟩ = some (.int .i64 a.cap) := cell_later hbw8 e11
    have g0 : w8.cell? ⟨g, i * 2, none⟩ = some (.int .i64 (ri : Int)) := cell_later hbw8 g0
    have g1 : w8.cell? ⟨g, i * 2 + 1, none⟩ = some (.int .i64 (ci : Int)) := cell_later hbw8 g1
    have h0 : w8.cell? ⟨g, k * 2, none⟩ = some (.int .i64 (rk : Int)) := cell_later hbw8 h0
    have h1 : w8.cell? ⟨g, k * 2 + 1, none⟩ = some (.int .i64 (ck : Int)) := cell_later hbw8 h1
    have t0 : w8.cell? ⟨w6.heap.size, 0, none⟩ = some (.int .i64 (ri : Int)) := cell_later hbw8 t0
    have t1 : w8.cell? ⟨w6.heap.size, 1, none⟩ = some (.int .i64 (ci : Int)) := cell_later hbw8 t1
    have hB8 : Below w.heap.size w w8 := hB7.trans (hbw8.mono hB7.size)
    clear hbw8
    go_wp2_with fail
    rename_i K HK
    obtain ⟨M, hM⟩ : ∃ M : List Bool, M = [false, false, false, false, false, false, false, false, false, false, false, false, false, false, false, false, false, false, false, true, false, false, false, false, false, false, false, false, false, false, false, false, false, false, false, false, false, false, false, false, false, false, false, false, false, false, false, false, false, false, false, false, false, false, false, false, false, false, false, false, false, false, false, false, false, false, false, false, false, false, false, false, false, false, false, false, false, false, false, false, false, false, false, false, false, false, false, false, false, false, false, false, false, false, false, false, false, false, false, false, false, false, true, true, true, true, true, true, true, true, true, false, false, false, false, false, false, false, false, false, false, false, false, false, false, false, false, false, false, false, false, false, false, false, false, false, false, false, false, false, false, false, false, false, false, false, false, false, false, false, false, false, false, false, false, false, false, false, false, false, false] := ⟨_, rfl⟩
    refine cut_with (fun fr => ∀ (f : Nat → Value) (v : World) (b : Nat), Below w8.heap.size w8 v → w8.heap.size ≤ b → b < v.heap.size → Pt b (a.x + ck * a.pitch) (a.y + rk * a.pitch) (a.hei - a.deep) v → f 103 = wv a → f 104 = .slice (some ⟨g, 0, none⟩) n cap → f 105 = .int .i64 (k : Int) → f 106 = .pointer (some ⟨g, k * 2, none⟩) → f 107 = .agg #[.int .i64 (rk : Int), .int .i64 (ck : Int)] → f 108 = .tuple #[.agg #[.int .i64 (a.x + ck * a.pitch), .int .i64 (a.y + rk * a.pitch), .int .i64 (a.hei - a.deep)], .int .i64 0] → f 102 = .tuple #[.agg #[.int .i64 (a.x + ck * a.pitch), .int .i64 (a.y + rk * a.pitch), .int .i64 (a.hei - a.deep)], .int .i64 0] → f 109 = .agg #[.int .i64 (a.x + ck * a.pitch), .int .i64 (a.y + rk * a.pitch), .int .i64 (a.hei - a.deep)] → f 110 = .int .i64 0 → f 19 = .pointer (some ⟨b, 0, none⟩) → K ((over fr M f).put (some 20) (.int .i64 0)) v) ?_ ?_
    · intro HTL
      clear HK
      refine region_seqL 10 8 [false, false, false, false, false, false, false, false, false, false, false, false, false, false, false, false, false, false, false, true, false, false, false, false, false, false, false, false, false, false, false, false, false, false, false, false, false, false, false, false, false, false, false, false, false, false, false, false, false, false, false, false, false, false, false, false, false, false, false, false, false, false, false, false, false, false, false, false, false, false, false, false, false, false, false, false, false, false, false, false, false, false, false, false, false, false, false, false, false, false, false, false, false, false, false, false, false, false, false, false, false, false, true, true, true, true, true, true, true, true, true, false, false, false, false, false, false, false, false, false, false, false, false, false, false, false, false, false, false, false, false, false, false, false, false, false, false, false, false, false, false, false, false, false, false, false, false, false, false, false, false, false, false, false, false, false, false, false, false, false, false]
        [(103, [], none), (104, [], none), (105, [], none), (106, [104, 105], none), (107, [106], none), (108, [103, 107], none), (102, [108], none), (109, [102], none), (110, [102], none), (19, [], none)]
        (b15V a g n cap k rk ck (a.x + ck * a.pitch) (a.y + rk * a.pitch) (a.hei - a.deep) w8.heap.size) (by kernel_rfl) (by kernel_rfl) (by kernel_rfl) (by kernel_rfl) (by kernel_rfl) (by decide) (by decide) (b15V_mono a g n cap k rk ck (a.x + ck * a.pitch) (a.y + rk * a.pitch) (a.hei - a.deep) w8.heap.size) ?_ ?_ ?_
      · refine ⟨?_, ?_, ?_, ?_, ?_, ?_, ?_, ?_, ?_, ?_, trivial⟩
        · intro f w1 hb _ K hK
          have ce0 : w1.cell? ⟨w.heap.size, 0, none⟩ = some (.string a.name) := cell_later hb e0
          have ce1 : w1.cell? ⟨w.heap.size, 1, none⟩ = some (.int .i64 a.kind) := cell_later hb e1
          have ce2 : w1.cell? ⟨w.heap.size, 2, none⟩ = some (.int .i64 a.rows) := cell_later hb e2
          have ce3 : w1.cell? ⟨w.heap.size, 3, none⟩ = some (.int .i64 a.cols) := cell_later hb e3
          have ce4 : w1.cell? ⟨w.heap.size, 4, none⟩ = some (.int .i64 a.x) := cell_later hb e4
          have ce5 : w1.cell? ⟨w.heap.size, 5, none⟩ = some (.int .i64 a.y) := cell_later hb e5
          have ce6 : w1.cell? ⟨w.heap.size, 6, none⟩ = some (.int .i64 a.pitch) := cell_later hb e6
          have ce7 : w1.cell? ⟨w.heap.size, 7, none⟩ = some (.int .i64 a.wid) := cell_later hb e7
          have ce8 : w1.cell? ⟨w.heap.size, 8, none⟩ = some (.int .i64 a.len) := cell_later hb e8
          have ce9 : w1.cell? ⟨w.heap.size, 9, none⟩ = some (.int .i64 a.hei) := cell_later hb e9
          have ce10 : w1.cell? ⟨w.heap.size, 10, none⟩ = some (.int .i64 a.deep) := cell_later hb e10
          have ce11 : w1.cell? ⟨w.heap.size, 11, none⟩ = some (.int .i64 a.cap) := cell_later hb e11
          simp only [over, overL, Nat.reduceAdd]
          go_simp
          exact hK _ _ ⟨_, rfl, by simp only [over, overL, Nat.reduceAdd]; rfl, Below.refl _ _⟩
        · intro f w1 hb _ K hK
          simp only [over, overL, Nat.reduceAdd]
          go_simp
          exact hK _ _ ⟨_, rfl, by simp only [over, overL, Nat.reduceAdd]; rfl, Below.refl _ _⟩
        · intro f w1 hb _ K hK
          simp only [over, overL, Nat.reduceAdd]
          go_simp
          exact hK _ _ ⟨_, rfl, by simp only [over, overL, Nat.reduceAdd]; rfl, Below.refl _ _⟩
        · intro f w1 hb ⟨h104, h105, _⟩ K hK
          have h104 : f 104 = _ := h104
          have h105 : f 105 = _ := h105
          simp only [over, overL, Nat.reduceAdd, h104, h105]
          go_simp
          exact hK _ _ ⟨_, rfl, by simp only [over, overL, Nat.reduceAdd, h104, h105]; rfl, Below.refl _ _⟩
        · intro f w1 hb ⟨h106, _⟩ K hK
          have ch0 : w1.cell? ⟨g, k * 2, none⟩ = some (.int .i64 (rk : Int)) := cell_later hb h0
          have ch1 : w1.cell? ⟨g, k * 2 + 1, none⟩ = some (.int .i64 (ck : Int)) := cell_later hb h1
          have h106 : f 106 = _ := h106
          simp only [over, overL, Nat.reduceAdd, h106]
          go_simp
          exact hK _ _ ⟨_, rfl, by simp only [over, overL, Nat.reduceAdd, h106]; rfl, Below.refl _ _⟩
        · intro f w1 hb ⟨h103, h107, _⟩ K hK
          have h103 : f 103 = _ := h103
          have h107 : f 107 = _ := h107
          simp only [over, overL, Nat.reduceAdd, h103, h107]
          go_simp
          refine (HMK.out _).mono ?_
          rintro e w2 ⟨rfl, hb2⟩
          exact hK _ _ ⟨_, rfl, by simp only [over, overL, Nat.reduceAdd, h103, h107]; rfl, hb2⟩
        · intro f w1 hb ⟨h108, _⟩ K hK
          have h108 : f 108 = _ := h108
          simp only [over, overL, Nat.reduceAdd, h108]
          go_simp
          exact hK _ _ ⟨_, rfl, by simp only [over, overL, Nat.reduceAdd, h108]; rfl, Below.refl _ _⟩
        · intro f w1 hb ⟨h102, _⟩ K hK
          have h102 : f 102 = _ := h102
          simp only [over, overL, Nat.reduceAdd, h102]
          go_simp
          exact hK _ _ ⟨_, rfl, by simp only [over, overL, Nat.reduceAdd, h102]; rfl, Below.refl _ _⟩
        · intro f w1 hb ⟨h102, _⟩ K hK
          have h102 : f 102 = _ := h102
          simp only [over, overL, Nat.reduceAdd, h102]
          go_simp
          exact hK _ _ ⟨_, rfl, by simp only [over, overL, Nat.reduceAdd, h102]; rfl, Below.refl _ _⟩
        · intro f w1 hb _ K hK
          simp only [over, overL, Nat.reduceAdd]
          go_simp
          exact hK _ _ ⟨_, new_pt _ _ _ hb.size, by simp only [over, overL, Nat.reduceAdd]; rfl, (Below.refl _ _).alloc (Nat.le_refl _) _⟩
      · intro f v hbv ⟨h103, h104, h105, h106, h107, h108, h102, h109, h110, h19, _⟩
        have h103 : f 103 = wv a := h103
        have h104 : f 104 = .slice (some ⟨g, 0, none⟩) n cap := h104
        have h105 : f 105 = .int .i64 (k : Int) := h105
        have h106 : f 106 = .pointer (some ⟨g, k * 2, none⟩) := h106
        have h107 : f 107 = .agg #[.int .i64 (rk : Int), .int .i64 (ck : Int)] := h107
        have h108 : f 108 = .tuple #[.agg #[.int .i64 (a.x + ck * a.pitch), .int .i64 (a.y + rk * a.pitch), .int .i64 (a.hei - a.deep)], .int .i64 0] := h108
        have h102 : f 102 = .tuple #[.agg #[.int .i64 (a.x + ck * a.pitch), .int .i64 (a.y + rk * a.pitch), .int .i64 (a.hei - a.deep)], .int .i64 0] := h102
        have h109 : f 109 = .agg #[.int .i64 (a.x + ck * a.pitch), .int .i64 (a.y + rk * a.pitch), .int .i64 (a.hei - a.deep)] := h109
        have h110 : f 110 = .int .i64 0 := h110
        obtain ⟨b, h19, hbb, hz, hfz, hbs⟩ := h19
        have hz0 := hz 0 (by decide)
        have hf0 := hfz 0 (by decide)
        have hz1 := hz 1 (by decide)
        have hf1 := hfz 1 (by decide)
        have hz2 := hz 2 (by decide)
        have hf2 := hfz 2 (by decide)
        have hp : Pt b (a.x + ck * a.pitch) (a.y + rk * a.pitch) (a.hei - a.deep) (((v.setCell ⟨b, 0, none⟩ (.int .i64 (a.x + ck * a.pitch))).setCell ⟨b, 1, none⟩ (.int .i64 (a.y + rk * a.pitch))).setCell ⟨b, 2, none⟩ (.int .i64 (a.hei - a.deep))) := ⟨by go_simp, by go_simp, by go_simp⟩
        have hlt : b < (((v.setCell ⟨b, 0, none⟩ (.int .i64 (a.x + ck * a.pitch))).setCell ⟨b, 1, none⟩ (.int .i64 (a.y + rk * a.pitch))).setCell ⟨b, 2, none⟩ (.int .i64 (a.hei - a.deep))).heap.size := World.block_lt_of_cell? _ _ hp.c0
        have hk := HTL.out f _ b (((hbv.setCell hbb _).setCell hbb _).setCell hbb _) hbb hlt hp h103 h104 h105 h106 h107 h108 h102 h109 h110 h19
        rw [hM] at hk
        simp only [over_eq, overL, Nat.reduceAdd, List.drop_succ_cons, List.drop_zero, h103, h104, h105, h106, h107, h108, h102, h109, h110, h19] at hk ⊢
        go_wp2
        exact hk
      · intro f v ok ol hok hol hbv ⟨h103, h104, h105, h106, h107, h108, h102, h109, h110, h19, _⟩
        cases hok
        cases hol
        have h103 : f 103 = wv a := h103 (by decide)
        have h104 : f 104 = .slice (some ⟨g, 0, none⟩) n cap := h104 (by decide)
        have h105 : f 105 = .int .i64 (k : Int) := h105 (by decide)
        have h106 : f 106 = .pointer (some ⟨g, k * 2, none⟩) := h106 (by decide)
        have h107 : f 107 = .agg #[.int .i64 (rk : Int), .int .i64 (ck : Int)] := h107 (by decide)
        have h108 : f 108 = .tuple #[.agg #[.int .i64 (a.x + ck * a.pitch), .int .i64 (a.y + rk * a.pitch), .int .i64 (a.hei - a.deep)], .int .i64 0] := h108 (by decide)
        have h102 : f 102 = .tuple #[.agg #[.int .i64 (a.x + ck * a.pitch), .int .i64 (a.y + rk * a.pitch), .int .i64 (a.hei - a.deep)], .int .i64 0] := h102 (by decide)
        have h109 : f 109 = .agg #[.int .i64 (a.x + ck * a.pitch), .int .i64 (a.y + rk * a.pitch), .int .i64 (a.hei - a.deep)] := h109 (by decide)
        obtain ⟨b, h19, hbb, hz, hfz, hbs⟩ := h19 (by decide)
        have hz0 := hz 0 (by decide)
        have hf0 := hfz 0 (by decide)
        have hz1 := hz 1 (by decide)
        have hf1 := hfz 1 (by decide)
        have hz2 := hz 2 (by decide)
        have hf2 := hfz 2 (by decide)
        have hp : Pt b (a.x + ck * a.pitch) (a.y + rk * a.pitch) (a.hei - a.deep) (((v.setCell ⟨b, 0, none⟩ (.int .i64 (a.x + ck * a.pitch))).setCell ⟨b, 1, none⟩ (.int .i64 (a.y + rk * a.pitch))).setCell ⟨b, 2, none⟩ (.int .i64 (a.hei - a.deep))) := ⟨by go_simp, by go_simp, by go_simp⟩
        have hlt : b < (((v.setCell ⟨b, 0, none⟩ (.int .i64 (a.x + ck * a.pitch))).setCell ⟨b, 1, none⟩ (.int .i64 (a.y + rk * a.pitch))).setCell ⟨b, 2, none⟩ (.int .i64 (a.hei - a.deep))).heap.size := World.block_lt_of_cell? _ _ hp.c0
        have hk := HTL.out (upd f 110 (.int .i64 0)) _ b (((hbv.setCell hbb _).setCell hbb _).setCell hbb _) hbb hlt hp ((upd_other (by decide)).trans h103) ((upd_other (by decide)).trans h104) ((upd_other (by decide)).trans h105) ((upd_other (by decide)).trans h106) ((upd_other (by decide)).trans h107) ((upd_other (by decide)).trans h108) ((upd_other (by decide)).trans h102) ((upd_other (by decide)).trans h109) (upd_same _ _ _) ((upd_other (by decide)).trans h19)
        rw [← over_put _ _ _ _ _ (by rw [hM]; rfl)] at hk
        rw [hM] at hk
        simp only [over_eq, overL, Nat.reduceAdd, List.drop_succ_cons, List.drop_zero, h103, h104, h105, h106, h107, h108, h102, h109, h19] at hk ⊢
        go_wp2
        exact hk
    · intro f w9 b19 hbw9 hbbw9 hltw9 hpw9 h103 h104 h105 h106 h107 h108 h102 h109 h110 h19
      refine HK _ _ ?_
      rw [hM]
      simp only [over_eq, overL, Nat.reduceAdd, h103, h104, h105, h106, h107, h108, h102, h109, h110, h19]
      simp only [Act.put, List.setIfInBounds_toArray, List.set_cons_succ, List.set_cons_zero]
      clear h103 h104 h105 h106 h107 h108 h102 h109 h110 h19 HK hM M
      have e0 : w9.cell? ⟨w.heap.size, 0, none⟩ = some (.string a.name) := cell_later hbw9 e0
      have e1 : w9.cell? ⟨w.heap.size, 1, none⟩ = some (.int .i64 a.kind) := cell_later hbw9 e1
      have e2 : w9.cell? ⟨w.heap.size, 2, none⟩ = some (.int .i64 a.rows) := cell_later hbw9 e2
      have e3 : w9.cell? ⟨w.heap.size, 3, none⟩ = some (.int .i64 a.cols) := cell_later hbw9 e3
      have e4 : w9.cell? ⟨w.heap.size, 4, none⟩ = some (.int .i64 a.x) := cell_later hbw9 e4
      have e5 : w9.cell? ⟨w.heap.size, 5, none⟩ = some (.int .i64 a.y) := cell_later hbw9 e5
      have e6 : w9.cell? ⟨w.heap.size, 6, none⟩ = some (.int .i64 a.pitch) := cell_later hbw9 e6
      have e7 : w9.cell? ⟨w.heap.size, 7, none⟩ = some (.int .i64 a.wid) := cell_later hbw9 e7
      have e8 : w9.cell? ⟨w.heap.size, 8, none⟩ = some (.int .i64 a.len) := cell_later hbw9 e8
      have e9 : w9.cell? ⟨w.heap.size, 9, none⟩ = some (.int .i64 a.hei) := cell_later hbw9 e9
      have e10 : w9.cell? ⟨w.heap.size, 10, none⟩ = some (.int .i64 a.deep) := cell_later hbw9 e10
      have e11 : w9.cell? ⟨w.heap.size, 11, none⟩ = some (.int .i64 a.cap) := cell_later hbw9 e11
      have g0 : w9.cell? ⟨g, i * 2, none⟩ = some (.int .i64 (ri : Int)) := cell_later hbw9 g0
      have g1 : w9.cell? ⟨g, i * 2 + 1, none⟩ = some (.int .i64 (ci : Int)) := cell_later hbw9 g1
      have h0 : w9.cell? ⟨g, k * 2, none⟩ = some (.int .i64 (rk : Int)) := cell_later hbw9 h0
      have h1 : w9.cell? ⟨g, k * 2 + 1, none⟩ = some (.int .i64 (ck : Int)) := cell_later hbw9 h1
      have t0 : w9.cell? ⟨w6.heap.size, 0, none⟩ = some (.int .i64 (ri : Int)) := cell_later hbw9 t0
      have t1 : w9.cell? ⟨w6.heap.size, 1, none⟩ = some (.int .i64 (ci : Int)) := cell_later hbw9 t1
      have p0 := (hpw8.later hbw9).c0
      have p1 := (hpw8.later hbw9).c1
      have p2 := (hpw8.later hbw9).c2
      have q0 := hpw9.c0
      have q1 := hpw9.c1
      have q2 := hpw9.c2
      have hB9 : Below w.heap.size w w9 := hB8.trans (hbw9.mono hB8.size)
      clear hbw9
      go_wp2_with fail
      obtain ⟨X, hX⟩ : ∃ X, X = a.x + ci * a.pitch := ⟨_, rfl⟩
      obtain ⟨Y, hY⟩ : ∃ Y, Y = a.y + ri * a.pitch := ⟨_, rfl⟩
      obtain ⟨Z, hZ⟩ : ∃ Z, Z = a.hei - a.deep := ⟨_, rfl⟩
      obtain ⟨X', hX'⟩ : ∃ X, X = a.x + ck * a.pitch := ⟨_, rfl⟩
      obtain ⟨Y', hY'⟩ : ∃ Y, Y = a.y + rk * a.pitch := ⟨_, rfl⟩
      have hro := mid_room a HCH.out ri ci R C HR.out HC.out hriR hciC
      have x1 : X ≤ a.wid := by rw [hX]; exact hro.1
      have x2 : Y ≤ a.len := by rw [hY]; exact hro.2.1
      have x3 : 0 ≤ Z := by rw [hZ]; exact hro.2.2
      obtain ⟨eb, heb⟩ : ∃ eb : Bool, eb = (decide (X = X') && decide (Y = Y')) := ⟨_, rfl⟩
      have HEB : Hid (eb = (decide (X = X') && decide (Y = Y'))) := heb
      have HE2 : Hid ((eb == ((i : Int) == (k : Int))) = true) := by
        show _ = _
        rw [heb, hX, hY, hX', hY']
        by_cases e : i = k
        · obtain ⟨e1, e2⟩ := HIK.out.1 e
          subst e1; subst e2; subst e
          simp
        · have e3 : ((i : Int) == (k : Int)) = false := by simp; omega
          rw [e3]
          cases e1 : (decide (a.x + ci * a.pitch = a.x + ck * a.pitch) && decide (a.y + ri * a.pitch = a.y + rk * a.pitch)) with
          | false => rfl
          | true =>
            rw [Bool.and_eq_true, decide_eq_true_iff, decide_eq_true_iff] at e1
            exact absurd (HIK.out.2 (mid_inj a HCH.out ri ci rk ck R C HR.out HC.out hriR hciC hrkR hckC e1.1 e1.2)) e
      rw [← hX] at p0
      rw [← hY] at p1
      rw [← hZ] at p2 q2
      rw [← hX'] at q0
      rw [← hY'] at q1
      clear hro heb hX hY hZ hX' hY'
      refine region_inv [false, false, false, false, false, false, true, false, false, false, false, false, false, false, false, false, false, false, false, false, false, false, false, false, false, false, false, false, false, false, false, false, false, false, false, false, false, false, false, false, false, false, false, false, false, false, false, false, false, false, false, false, false, false, false, false, false, false, false, false, false, false, false, false, false, false, false, false, false, false, false, false, false, false, false, false, false, false, false, false, false, false, false, false, false, false, false, false, false, false, false, false, false, false, false, false, false, false, false, false, false, false, false, false, false, false, false, false, false, false, false, true, true, true, true, true, true, true, true, true, true, true, true, true, true, true, true, true, true, true, true, true, true, true, true, true, true, true, true, true, true, true, true, true, true, true, true, true, true, true, true, true, true, true, true, true, true, true, true, true, true]
        [(111, [], none), (112, [111], none), (113, [112], none), (114, [113], some (113, true)), (115, [114, 113], some (113, true)), (116, [113, 115], none), (117, [116], none), (118, [117], some (117, true)), (119, [117], some (117, true)), (120, [117], some (117, true)), (121, [119, 120, 117], some (117, true)), (122, [121, 117], some (117, true)), (123, [118, 122, 117], some (117, true)), (124, [117, 123], none), (125, [124], none), (126, [125], some (125, true)), (127, [126, 125], some (125, true)), (128, [125, 127], none), (129, [128], none), (130, [129], some (129, true)), (131, [130, 129], some (129, true)), (132, [129, 131], none), (133, [132], none), (134, [133], some (133, true)), (135, [133], some (133, true)), (136, [134, 135, 133], some (133, true)), (137, [133], some (133, true)), (138, [133], some (133, true)), (139, [137, 138, 133], some (133, true)), (140, [136, 139, 133], some (133, true)), (141, [133, 140], none), (142, [141], none), (143, [142], some (142, true)), (144, [143, 142], some (142, true)), (145, [142], some (142, true)), (146, [145, 142], some (142, true)), (147, [144, 146, 142], some (142, true)), (148, [142, 147], none), (149, [148], none), (150, [149], some (149, true)), (151, [150, 149], some (149, true)), (152, [149], some (149, true)), (153, [152, 149], some (149, true)), (154, [151, 153, 149], some (149, true)), (155, [149, 154], none), (156, [155], none), (157, [156], some (156, true)), (158, [157, 156], some (156, true)), (159, [158, 156], some (156, true)), (160, [156, 159], none), (6, [160], none)]
        (b16V a g n cap i k ri ci w.heap.size b18 X Y Z X' Y' eb) (by kernel_rfl) (by kernel_rfl) (fun _ _ _ _ h _ => h) ?_ ?_
      · refine ⟨?_, ?_, ?_, ?_, ?_, ?_, ?_, ?_, ?_, ?_, ?_, ?_, ?_, ?_, ?_, ?_, ?_, ?_, ?_, ?_, ?_, ?_, ?_, ?_, ?_, ?_, ?_, ?_, ?_, ?_, ?_, ?_, ?_, ?_, ?_, ?_, ?_, ?_, ?_, ?_, ?_, ?_, ?_, ?_, ?_, ?_, ?_, ?_, ?_, ?_, ?_, trivial⟩
        · intro f w1 hb _ K hK
          simp only [over, overL, Nat.reduceAdd]
          go_simp
          exact hK _ _ ⟨_, rfl, by simp only [over, overL, Nat.reduceAdd]; rfl, Below.refl _ _⟩
        · intro f w1 hb ⟨h111, _⟩ K hK
          have h111 : f 111 = _ := h111
          simp only [over, overL, Nat.reduceAdd, h111]
          go_simp
          exact hK _ _ ⟨_, rfl, by simp only [over, overL, Nat.reduceAdd, h111]; rfl, Below.refl _ _⟩
        · intro f w1 hb ⟨h112, _⟩ K hK
          have h112 : f 112 = _ := h112
          simp only [over, overL, Nat.reduceAdd, h112]
          go_simp
          exact hK _ _ ⟨_, rfl, by simp only [over, overL, Nat.reduceAdd, h112]; rfl, Below.refl _ _⟩
        · intro f w1 hb ⟨h113, _⟩
          have h113 : f 113 = _ := h113
          refine ⟨fun _ => ?_, fun hg => absurd h113 hg⟩
          intro K hK
          simp only [over, overL, Nat.reduceAdd, h113]
          go_simp
          exact hK _ _ ⟨_, rfl, by simp only [over, overL, Nat.reduceAdd, h113]; rfl, Below.refl _ _⟩
        · intro f w1 hb ⟨h114, h113, _⟩
          have h114 : f 114 = _ := h114
          have h113 : f 113 = _ := h113
          refine ⟨fun _ => ?_, fun hg => absurd h113 hg⟩
          intro K hK
          simp only [over, overL, Nat.reduceAdd, h114, h113]
          go_simp
          exact hK _ _ ⟨_, rfl, by simp only [over, overL, Nat.reduceAdd, h114, h113]; rfl, Below.refl _ _⟩
        · intro f w1 hb ⟨h113, h115, _⟩ K hK
          have h113 : f 113 = _ := h113
          have h115 : f 115 = _ := h115
          simp only [over, overL, Nat.reduceAdd, h113, h115]
          go_simp
          exact hK _ _ ⟨_, rfl, by simp only [over, overL, Nat.reduceAdd, h113, h115]; rfl, Below.refl _ _⟩
        · intro f w1 hb ⟨h116, _⟩ K hK
          have h116 : f 116 = _ := h116
          simp only [over, overL, Nat.reduceAdd, h116]
          go_simp
          exact hK _ _ ⟨_, rfl, by simp only [over, overL, Nat.reduceAdd, h116]; rfl, Below.refl _ _⟩
        · intro f w1 hb ⟨h117, _⟩
          have ct0 : w1.cell? ⟨w6.heap.size, 0, none⟩ = some (.int .i64 (ri : Int)) := cell_later hb t0
          have ct1 : w1.cell? ⟨w6.heap.size, 1, none⟩ = some (.int .i64 (ci : Int)) := cell_later hb t1
          have h117 : f 117 = _ := h117
          refine ⟨fun _ => ?_, fun hg => absurd h117 hg⟩
          intro K hK
          simp only [over, overL, Nat.reduceAdd, h117]
          go_simp
          exact hK _ _ ⟨_, rfl, by simp only [over, overL, Nat.reduceAdd, h117]; rfl, Below.refl _ _⟩
        · intro f w1 hb ⟨h117, _⟩
          have h117 : f 117 = _ := h117
          refine ⟨fun _ => ?_, fun hg => absurd h117 hg⟩
          intro K hK
          simp only [over, overL, Nat.reduceAdd, h117]
          go_simp
          exact hK _ _ ⟨_, rfl, by simp only [over, overL, Nat.reduceAdd, h117]; rfl, Below.refl _ _⟩
        · intro f w1 hb ⟨h117, _⟩
          have h117 : f 117 = _ := h117
          refine ⟨fun _ => ?_, fun hg => absurd h117 hg⟩
          intro K hK
          simp only [over, overL, Nat.reduceAdd, h117]
          go_simp
          exact hK _ _ ⟨_, rfl, by simp only [over, overL, Nat.reduceAdd, h117]; rfl, Below.refl _ _⟩
        · intro f w1 hb ⟨h119, h120, h117, _⟩
          have h119 : f 119 = _ := h119
          have h120 : f 120 = _ := h120
          have h117 : f 117 = _ := h117
          refine ⟨fun _ => ?_, fun hg => absurd h117 hg⟩
          intro K hK
          simp only [over, overL, Nat.reduceAdd, h119, h120, h117]
          go_simp
          exact hK _ _ ⟨_, rfl, by simp only [over, overL, Nat.reduceAdd, h119, h120, h117]; rfl, Below.refl _ _⟩
        · intro f w1 hb ⟨h121, h117, _⟩
          have cg0 : w1.cell? ⟨g, i * 2, none⟩ = some (.int .i64 (ri : Int)) := cell_later hb g0
          have cg1 : w1.cell? ⟨g, i * 2 + 1, none⟩ = some (.int .i64 (ci : Int)) := cell_later hb g1
          have h121 : f 121 = _ := h121
          have h117 : f 117 = _ := h117
          refine ⟨fun _ => ?_, fun hg => absurd h117 hg⟩
          intro K hK
          simp only [over, overL, Nat.reduceAdd, h121, h117]
          go_simp
          exact hK _ _ ⟨_, rfl, by simp only [over, overL, Nat.reduceAdd, h121, h117]; rfl, Below.refl _ _⟩
        · intro f w1 hb ⟨h118, h122, h117, _⟩
          have h118 : f 118 = _ := h118
          have h122 : f 122 = _ := h122
          have h117 : f 117 = _ := h117
          refine ⟨fun _ => ?_, fun hg => absurd h117 hg⟩
          intro K hK
          simp only [over, overL, Nat.reduceAdd, h118, h122, h117]
          go_simp
          exact hK _ _ ⟨_, rfl, by simp only [over, overL, Nat.reduceAdd, h118, h122, h117]; rfl, Below.refl _ _⟩
        · intro f w1 hb ⟨h117, h123, _⟩ K hK
          have h117 : f 117 = _ := h117
          have h123 : f 123 = _ := h123
          simp only [over, overL, Nat.reduceAdd, h117, h123]
          go_simp
          exact hK _ _ ⟨_, rfl, by simp only [over, overL, Nat.reduceAdd, h117, h123]; rfl, Below.refl _ _⟩
        · intro f w1 hb ⟨h124, _⟩ K hK
          have h124 : f 124 = _ := h124
          simp only [over, overL, Nat.reduceAdd, h124]
          go_simp
          exact hK _ _ ⟨_, rfl, by simp only [over, overL, Nat.reduceAdd, h124]; rfl, Below.refl _ _⟩
        · intro f w1 hb ⟨h125, _⟩
          have h125 : f 125 = _ := h125
          refine ⟨fun _ => ?_, fun hg => absurd h125 hg⟩
          intro K hK
          simp only [over, overL, Nat.reduceAdd, h125]
          go_simp
          exact hK _ _ ⟨_, rfl, by simp only [over, overL, Nat.reduceAdd, h125]; rfl, Below.refl _ _⟩
        · intro f w1 hb ⟨h126, h125, _⟩
          have h126 : f 126 = _ := h126
          have h125 : f 125 = _ := h125
          refine ⟨fun _ => ?_, fun hg => absurd h125 hg⟩
          intro K hK
          simp only [over, overL, Nat.reduceAdd, h126, h125]
          go_simp
          exact hK _ _ ⟨_, rfl, by simp only [over, overL, Nat.reduceAdd, h126, h125]; rfl, Below.refl _ _⟩
        · intro f w1 hb ⟨h125, h127, _⟩ K hK
          have h125 : f 125 = _ := h125
          have h127 : f 127 = _ := h127
          simp only [over, overL, Nat.reduceAdd, h125, h127]
          go_simp
          exact hK _ _ ⟨_, rfl, by simp only [over, overL, Nat.reduceAdd, h125, h127]; rfl, Below.refl _ _⟩
        · intro f w1 hb ⟨h128, _⟩ K hK
          have h128 : f 128 = _ := h128
          simp only [over, overL, Nat.reduceAdd, h128]
          go_simp
          exact hK _ _ ⟨_, rfl, by simp only [over, overL, Nat.reduceAdd, h128]; rfl, Below.refl _ _⟩
        · intro f w1 hb ⟨h129, _⟩
          have h129 : f 129 = _ := h129
          refine ⟨fun _ => ?_, fun hg => absurd h129 hg⟩
          intro K hK
          simp only [over, overL, Nat.reduceAdd, h129]
          go_simp
          exact hK _ _ ⟨_, rfl, by simp only [over, overL, Nat.reduceAdd, h129]; rfl, Below.refl _ _⟩
        · intro f w1 hb ⟨h130, h129, _⟩
          have h130 : f 130 = _ := h130
          have h129 : f 129 = _ := h129
          refine ⟨fun _ => ?_, fun hg => absurd h129 hg⟩
          intro K hK
          simp only [over, overL, Nat.reduceAdd, h130, h129]
          go_simp
          exact hK _ _ ⟨_, rfl, by simp only [over, overL, Nat.reduceAdd, h130, h129]; rfl, Below.refl _ _⟩
        · intro f w1 hb ⟨h129, h131, _⟩ K hK
          have h129 : f 129 = _ := h129
          have h131 : f 131 = _ := h131
          simp only [over, overL, Nat.reduceAdd, h129, h131]
          go_simp
          exact hK _ _ ⟨_, rfl, by simp only [over, overL, Nat.reduceAdd, h129, h131]; rfl, Below.refl _ _⟩
        · intro f w1 hb ⟨h132, _⟩ K hK
          have h132 : f 132 = _ := h132
          simp only [over, overL, Nat.reduceAdd, h132]
          go_simp
          exact hK _ _ ⟨_, rfl, by simp only [over, overL, Nat.reduceAdd, h132]; rfl, Below.refl _ _⟩
        · intro f w1 hb ⟨h133, _⟩
          have cp0 : w1.cell? ⟨b18, 0, none⟩ = some (.int .i64 X) := cell_later hb p0
          have cp1 : w1.cell? ⟨b18, 1, none⟩ = some (.int .i64 Y) := cell_later hb p1
          have cp2 : w1.cell? ⟨b18, 2, none⟩ = some (.int .i64 Z) := cell_later hb p2
          have h133 : f 133 = _ := h133
          refine ⟨fun _ => ?_, fun hg => absurd h133 hg⟩
          intro K hK
          simp only [over, overL, Nat.reduceAdd, h133]
          go_simp
          exact hK _ _ ⟨_, rfl, by simp only [over, overL, Nat.reduceAdd, h133]; rfl, Below.refl _ _⟩
        · intro f w1 hb ⟨h133, _⟩
          have cq0 : w1.cell? ⟨b19, 0, none⟩ = some (.int .i64 X') := cell_later hb q0
          have cq1 : w1.cell? ⟨b19, 1, none⟩ = some (.int .i64 Y') := cell_later hb q1
          have cq2 : w1.cell? ⟨b19, 2, none⟩ = some (.int .i64 Z) := cell_later hb q2
          have h133 : f 133 = _ := h133
          refine ⟨fun _ => ?_, fun hg => absurd h133 hg⟩
          intro K hK
          simp only [over, overL, Nat.reduceAdd, h133]
          go_simp
          exact hK _ _ ⟨_, rfl, by simp only [over, overL, Nat.reduceAdd, h133]; rfl, Below.refl _ _⟩
        · intro f w1 hb ⟨h134, h135, h133, _⟩
          have h134 : f 134 = _ := h134
          have h135 : f 135 = _ := h135
          have h133 : f 133 = _ := h133
          refine ⟨fun _ => ?_, fun hg => absurd h133 hg⟩
          intro K hK
          simp only [over, overL, Nat.reduceAdd, h134, h135, h133]
          go_simp
          by_cases e1 : X = X'
          · have E1 : Hid (X = X') := e1
            by_cases e2 : Y = Y'
            · have E2 : Hid (Y = Y') := e2
              rw [if_pos e1, if_pos e2]
              clear e1 e2
              go_simp
              exact hK _ _ ⟨.bool true, by rw [HEB.out]; simp [E1.out, E2.out]; rfl, by simp only [over, overL, Nat.reduceAdd, h134, h135, h133]; rfl, Below.refl _ _⟩
            · have E2 : Hid (Y ≠ Y') := e2
              rw [if_pos e1, if_neg e2]
              clear e1 e2
              go_simp
              exact hK _ _ ⟨.bool false, by rw [HEB.out]; simp [E1.out, E2.out]; rfl, by simp only [over, overL, Nat.reduceAdd, h134, h135, h133]; rfl, Below.refl _ _⟩
          · rw [if_neg e1]
            go_simp
            exact hK _ _ ⟨.bool false, by rw [HEB.out]; simp [e1]; rfl, by simp only [over, overL, Nat.reduceAdd, h134, h135, h133]; rfl, Below.refl _ _⟩
        · intro f w1 hb ⟨h133, _⟩
          have h133 : f 133 = _ := h133
          refine ⟨fun _ => ?_, fun hg => absurd h133 hg⟩
          intro K hK
          simp only [over, overL, Nat.reduceAdd, h133]
          go_simp
          exact hK _ _ ⟨_, rfl, by simp only [over, overL, Nat.reduceAdd, h133]; rfl, Below.refl _ _⟩
        · intro f w1 hb ⟨h133, _⟩
          have h133 : f 133 = _ := h133
          refine ⟨fun _ => ?_, fun hg => absurd h133 hg⟩
          intro K hK
          simp only [over, overL, Nat.reduceAdd, h133]
          go_simp
          exact hK _ _ ⟨_, rfl, by simp only [over, overL, Nat.reduceAdd, h133]; rfl, Below.refl _ _⟩
        · intro f w1 hb ⟨h137, h138, h133, _⟩
          have h137 : f 137 = _ := h137
          have h138 : f 138 = _ := h138
          have h133 : f 133 = _ := h133
          refine ⟨fun _ => ?_, fun hg => absurd h133 hg⟩
          intro K hK
          simp only [over, overL, Nat.reduceAdd, h137, h138, h133]
          go_simp
          exact hK _ _ ⟨_, rfl, by simp only [over, overL, Nat.reduceAdd, h137, h138, h133]; rfl, Below.refl _ _⟩
        · intro f w1 hb ⟨h136, h139, h133, _⟩
          have h136 : f 136 = _ := h136
          have h139 : f 139 = _ := h139
          have h133 : f 133 = _ := h133
          refine ⟨fun _ => ?_, fun hg => absurd h133 hg⟩
          intro K hK
          simp only [over, overL, Nat.reduceAdd, h136, h139, h133]
          go_simp
          exact hK _ _ ⟨_, (congrArg Value.bool HE2.out), by simp only [over, overL, Nat.reduceAdd, h136, h139, h133]; rfl, Below.refl _ _⟩
        · intro f w1 hb ⟨h133, h140, _⟩ K hK
          have h133 : f 133 = _ := h133
          have h140 : f 140 = _ := h140
          simp only [over, overL, Nat.reduceAdd, h133, h140]
          go_simp
          exact hK _ _ ⟨_, rfl, by simp only [over, overL, Nat.reduceAdd, h133, h140]; rfl, Below.refl _ _⟩
        · intro f w1 hb ⟨h141, _⟩ K hK
          have h141 : f 141 = _ := h141
          simp only [over, overL, Nat.reduceAdd, h141]
          go_simp
          exact hK _ _ ⟨_, rfl, by simp only [over, overL, Nat.reduceAdd, h141]; rfl, Below.refl _ _⟩
        · intro f w1 hb ⟨h142, _⟩
          have h142 : f 142 = _ := h142
          refine ⟨fun _ => ?_, fun hg => absurd h142 hg⟩
          intro K hK
          simp only [over, overL, Nat.reduceAdd, h142]
          go_simp
          exact hK _ _ ⟨_, rfl, by simp only [over, overL, Nat.reduceAdd, h142]; rfl, Below.refl _ _⟩
        · intro f w1 hb ⟨h143, h142, _⟩
          have cp0 : w1.cell? ⟨b18, 0, none⟩ = some (.int .i64 X) := cell_later hb p0
          have h143 : f 143 = _ := h143
          have h142 : f 142 = _ := h142
          refine ⟨fun _ => ?_, fun hg => absurd h142 hg⟩
          intro K hK
          simp only [over, overL, Nat.reduceAdd, h143, h142]
          go_simp
          exact hK _ _ ⟨_, rfl, by simp only [over, overL, Nat.reduceAdd, h143, h142]; rfl, Below.refl _ _⟩
        · intro f w1 hb ⟨h142, _⟩
          have h142 : f 142 = _ := h142
          refine ⟨fun _ => ?_, fun hg => absurd h142 hg⟩
          intro K hK
          simp only [over, overL, Nat.reduceAdd, h142]
          go_simp
          exact hK _ _ ⟨_, rfl, by simp only [over, overL, Nat.reduceAdd, h142]; rfl, Below.refl _ _⟩
        · intro f w1 hb ⟨h145, h142, _⟩
          have ce7 : w1.cell? ⟨w.heap.size, 7, none⟩ = some (.int .i64 a.wid) := cell_later hb e7
          have h145 : f 145 = _ := h145
          have h142 : f 142 = _ := h142
          refine ⟨fun _ => ?_, fun hg => absurd h142 hg⟩
          intro K hK
          simp only [over, overL, Nat.reduceAdd, h145, h142]
          go_simp
          exact hK _ _ ⟨_, rfl, by simp only [over, overL, Nat.reduceAdd, h145, h142]; rfl, Below.refl _ _⟩
        · intro f w1 hb ⟨h144, h146, h142, _⟩
          have h144 : f 144 = _ := h144
          have h146 : f 146 = _ := h146
          have h142 : f 142 = _ := h142
          refine ⟨fun _ => ?_, fun hg => absurd h142 hg⟩
          intro K hK
          simp only [over, overL, Nat.reduceAdd, h144, h146, h142]
          go_simp
          exact hK _ _ ⟨_, rfl, by simp only [over, overL, Nat.reduceAdd, h144, h146, h142]; rfl, Below.refl _ _⟩
        · intro f w1 hb ⟨h142, h147, _⟩ K hK
          have h142 : f 142 = _ := h142
          have h147 : f 147 = _ := h147
          simp only [over, overL, Nat.reduceAdd, h142, h147]
          go_simp
          exact hK _ _ ⟨_, rfl, by simp only [over, overL, Nat.reduceAdd, h142, h147]; rfl, Below.refl _ _⟩
        · intro f w1 hb ⟨h148, _⟩ K hK
          have h148 : f 148 = _ := h148
          simp only [over, overL, Nat.reduceAdd, h148]
          go_simp
          exact hK _ _ ⟨_, rfl, by simp only [over, overL, Nat.reduceAdd, h148]; rfl, Below.refl _ _⟩
        · intro f w1 hb ⟨h149, _⟩
          have h149 : f 149 = _ := h149
          refine ⟨fun _ => ?_, fun hg => absurd h149 hg⟩
          intro K hK
          simp only [over, overL, Nat.reduceAdd, h149]
          go_simp
          exact hK _ _ ⟨_, rfl, by simp only [over, overL, Nat.reduceAdd, h149]; rfl, Below.refl _ _⟩
        · intro f w1 hb ⟨h150, h149, _⟩
          have cp1 : w1.cell? ⟨b18, 1, none⟩ = some (.int .i64 Y) := cell_later hb p1
          have h150 : f 150 = _ := h150
          have h149 : f 149 = _ := h149
          refine ⟨fun _ => ?_, fun hg => absurd h149 hg⟩
          intro K hK
          simp only [over, overL, Nat.reduceAdd, h150, h149]
          go_simp
          exact hK _ _ ⟨_, rfl, by simp only [over, overL, Nat.reduceAdd, h150, h149]; rfl, Below.refl _ _⟩
        · intro f w1 hb ⟨h149, _⟩
          have h149 : f 149 = _ := h149
          refine ⟨fun _ => ?_, fun hg => absurd h149 hg⟩
          intro K hK
          simp only [over, overL, Nat.reduceAdd, h149]
          go_simp
          exact hK _ _ ⟨_, rfl, by simp only [over, overL, Nat.reduceAdd, h149]; rfl, Below.refl _ _⟩
        · intro f w1 hb ⟨h152, h149, _⟩
          have ce8 : w1.cell? ⟨w.heap.size, 8, none⟩ = some (.int .i64 a.len) := cell_later hb e8
          have h152 : f 152 = _ := h152
          have h149 : f 149 = _ := h149
          refine ⟨fun _ => ?_, fun hg => absurd h149 hg⟩
          intro K hK
          simp only [over, overL, Nat.reduceAdd, h152, h149]
          go_simp
          exact hK _ _ ⟨_, rfl, by simp only [over, overL, Nat.reduceAdd, h152, h149]; rfl, Below.refl _ _⟩
        · intro f w1 hb ⟨h151, h153, h149, _⟩
          have h151 : f 151 = _ := h151
          have h153 : f 153 = _ := h153
          have h149 : f 149 = _ := h149
          refine ⟨fun _ => ?_, fun hg => absurd h149 hg⟩
          intro K hK
          simp only [over, overL, Nat.reduceAdd, h151, h153, h149]
          go_simp
          exact hK _ _ ⟨_, rfl, by simp only [over, overL, Nat.reduceAdd, h151, h153, h149]; rfl, Below.refl _ _⟩
        · intro f w1 hb ⟨h149, h154, _⟩ K hK
          have h149 : f 149 = _ := h149
          have h154 : f 154 = _ := h154
          simp only [over, overL, Nat.reduceAdd, h149, h154]
          go_simp
          exact hK _ _ ⟨_, rfl, by simp only [over, overL, Nat.reduceAdd, h149, h154]; rfl, Below.refl _ _⟩
        · intro f w1 hb ⟨h155, _⟩ K hK
          have h155 : f 155 = _ := h155
          simp only [over, overL, Nat.reduceAdd, h155]
          go_simp
          exact hK _ _ ⟨_, rfl, by simp only [over, overL, Nat.reduceAdd, h155]; rfl, Below.refl _ _⟩
        · intro f w1 hb ⟨h156, _⟩
          have h156 : f 156 = _ := h156
          refine ⟨fun _ => ?_, fun hg => absurd h156 hg⟩
          intro K hK
          simp only [over, overL, Nat.reduceAdd, h156]
          go_simp
          exact hK _ _ ⟨_, rfl, by simp only [over, overL, Nat.reduceAdd, h156]; rfl, Below.refl _ _⟩
        · intro f w1 hb ⟨h157, h156, _⟩
          have cp2 : w1.cell? ⟨b18, 2, none⟩ = some (.int .i64 Z) := cell_later hb p2
          have h157 : f 157 = _ := h157
          have h156 : f 156 = _ := h156
          refine ⟨fun _ => ?_, fun hg => absurd h156 hg⟩
          intro K hK
          simp only [over, overL, Nat.reduceAdd, h157, h156]
          go_simp
          exact hK _ _ ⟨_, rfl, by simp only [over, overL, Nat.reduceAdd, h157, h156]; rfl, Below.refl _ _⟩
        · intro f w1 hb ⟨h158, h156, _⟩
          have h158 : f 158 = _ := h158
          have h156 : f 156 = _ := h156
          refine ⟨fun _ => ?_, fun hg => absurd h156 hg⟩
          intro K hK
          simp only [over, overL, Nat.reduceAdd, h158, h156]
          go_simp
          exact hK _ _ ⟨_, rfl, by simp only [over, overL, Nat.reduceAdd, h158, h156]; rfl, Below.refl _ _⟩
        · intro f w1 hb ⟨h156, h159, _⟩ K hK
          have h156 : f 156 = _ := h156
          have h159 : f 159 = _ := h159
          simp only [over, overL, Nat.reduceAdd, h156, h159]
          go_simp
          exact hK _ _ ⟨_, rfl, by simp only [over, overL, Nat.reduceAdd, h156, h159]; rfl, Below.refl _ _⟩
        · intro f w1 hb ⟨h160, _⟩ K hK
          have h160 : f 160 = _ := h160
          simp only [over, overL, Nat.reduceAdd, h160]
          go_simp
          exact hK _ _ ⟨_, rfl, by simp only [over, overL, Nat.reduceAdd, h160]; rfl, Below.refl _ _⟩
      · intro f w10 hb10 h
        have h6 : f 6 = .bool true := h.2.2.2.2.2.2.2.2.2.2.2.2.2.2.2.2.2.2.2.2.2.2.2.2.2.2.2.2.2.2.2.2.2.2.2.2.2.2.2.2.2.2.2.2.2.2.2.2.2.2.1
        simp only [over_eq, overL, h6, Nat.reduceAdd]
        go_wp2
        go_ret
        exact ⟨rfl, hB9.trans (hb10.mono hB9.size)⟩
end Go.Proofs.YtefjeohhdmmboaaDoor
