import Derived.Test.YtgbnjgenopdmfaaGreatGb

/- Wares. -/
namespace Go.Proofs.YtgbnjgenopdmfaaGreat
open Go.RowKit
/-- A ware. -/
structure Wr where
  name : ByteArray
  kind : Int
  rows : Int
  cols : Int
  x : Int
  y : Int
  pitch : Int
  wid : Int
  len : Int
  hei : Int
  deep : Int
  cap : Int
abbrev wcs (a : Wr) : Array Value := #[.string a.name, .int .i64 a.kind, .int .i64 a.rows, .int .i64 a.cols, .int .i64 a.x, .int .i64 a.y, .int .i64 a.pitch, .int .i64 a.wid, .int .i64 a.len, .int .i64 a.hei, .int .i64 a.deep, .int .i64 a.cap]
abbrev wv (a : Wr) : Value := .agg (wcs a)
abbrev wobj (a : Wr) : Obj := .cells (wcs a) 70

theorem new_three (x y z : Int) (w : World) (t : Nat) : IsInts [x, y, z] (.slice (some ⟨w.heap.size, 0, none⟩) 3 3) (w.alloc (.cells #[.int .i64 x, .int .i64 y, .int .i64 z] t)) :=
  ⟨_, rfl, fun k hk => by
    rcases (show k = 0 ∨ k = 1 ∨ k = 2 by simp at hk; omega) with e | e | e
    all_goals (subst e; simp [go_sem])⟩
theorem every_v (xs : List Int) (lo hi : Int) (b : Bool) (hb : xs.all (inR lo hi) = b) (v c : Value) (w : World) (hn : xs.length ≤ 100) (hc : IsClo lo hi c w) (hv : IsInts xs v w) :
    Calls Tryz.prog 100 #[c, v] w fun e w' => e = .returned (.bool b) ∧ w' = w := by
  subst hb; exact every_is xs lo hi v c w hn hc hv

/-- The least pitch. -/
def loP (a : Wr) : Int := if 1 < a.rows * a.cols then 1 else 0
def loC (a : Wr) : Int := if a.kind = 3 then 0 else 1
def hiC (a : Wr) : Int := if a.kind = 3 then 0 else 1000000000
/-- Are all numbers behind the counts in their ranges? -/
def rangeOk (a : Wr) : Bool := [a.x, a.y, a.deep].all (inR 0 200000) && [a.pitch].all (inR (loP a) 200000) && [a.wid, a.len, a.hei].all (inR 1 200000) && [a.cap].all (inR (loC a) (hiC a))

def measV (a : Wr) (lo hlo hhi : Int) (b1 c1 c2 c3 : Bool) (B : Nat) (d : Nat) (v : Value) (w : World) : Prop :=
  match d with
  | 16 => IsClo 0 200000 v w
  | 17 => v = .pointer (some ⟨B, 4, none⟩)
  | 18 => v = .int .i64 a.x
  | 19 => v = .pointer (some ⟨B, 5, none⟩)
  | 20 => v = .int .i64 a.y
  | 21 => v = .pointer (some ⟨B, 10, none⟩)
  | 22 => v = .int .i64 a.deep
  | 23 => IsInts [a.x, a.y, a.deep] v w
  | 24 => v = .bool b1
  | 25 => v = .bool b1
  | 26 => b1 = true → v = .int .i64 lo
  | 27 => b1 = true → IsClo lo 200000 v w
  | 28 => b1 = true → v = .pointer (some ⟨B, 6, none⟩)
  | 29 => b1 = true → v = .int .i64 a.pitch
  | 30 => b1 = true → IsInts [a.pitch] v w
  | 31 => b1 = true → v = .bool c1
  | 32 => v = .bool (b1 && c1)
  | 33 => v = .bool (b1 && c1)
  | 34 => (b1 && c1) = true → IsClo 1 200000 v w
  | 35 => (b1 && c1) = true → v = .pointer (some ⟨B, 7, none⟩)
  | 36 => (b1 && c1) = true → v = .int .i64 a.wid
  | 37 => (b1 && c1) = true → v = .pointer (some ⟨B, 8, none⟩)
  | 38 => (b1 && c1) = true → v = .int .i64 a.len
  | 39 => (b1 && c1) = true → v = .pointer (some ⟨B, 9, none⟩)
  | 40 => (b1 && c1) = true → v = .int .i64 a.hei
  | 41 => (b1 && c1) = true → IsInts [a.wid, a.len, a.hei] v w
  | 42 => (b1 && c1) = true → v = .bool c2
  | 43 => v = .bool (b1 && c1 && c2)
  | 44 => v = .bool (b1 && c1 && c2)
  | 45 => (b1 && c1 && c2) = true → IsClo hlo hhi v w
  | 46 => (b1 && c1 && c2) = true → v = .pointer (some ⟨B, 11, none⟩)
  | 47 => (b1 && c1 && c2) = true → v = .int .i64 a.cap
  | 48 => (b1 && c1 && c2) = true → IsInts [a.cap] v w
  | 49 => (b1 && c1 && c2) = true → v = .bool c3
  | 50 => v = .bool (b1 && c1 && c2 && c3)
  | 2 => v = .bool (b1 && c1 && c2 && c3)
  | _ => True
theorem measV_mono (a : Wr) (lo hlo hhi : Int) (b1 c1 c2 c3 : Bool) (B : Nat) (d : Nat) (v : Value) (w w' : World) (h : measV a lo hlo hhi b1 c1 c2 c3 B d v w) (hb : Below w.heap.size w w') : measV a lo hlo hhi b1 c1 c2 c3 B d v w' := by
  unfold measV at h ⊢
  split <;> simp only [] at h <;> first | exact h | exact h.later hb | exact fun g => (h g).later hb

set_option maxHeartbeats 3200000 in
theorem isMeasured_00 (a : Wr) (w : World) (hr0 : 0 ≤ a.rows * a.cols) (hr1 : a.rows * a.cols ≤ 384) (hm : a.rows * a.cols ≤ 1) (hk : (a.kind == 3) = false) (b1 c1 c2 c3 : Bool)
    (hb1 : [a.x, a.y, a.deep].all (inR 0 200000) = b1) (hc1 : [a.pitch].all (inR 0 200000) = c1) (hc2 : [a.wid, a.len, a.hei].all (inR 1 200000) = c2) (hc3 : [a.cap].all (inR 1 1000000000) = c3) :
    Calls Tryz.prog 102 #[wv a] w fun e w' => e = .returned (.bool (b1 && c1 && c2 && c3)) ∧ Below w.heap.size w w' := by
  go_enter Tryz.func102, Tryz.ntmps102
  go_wp2_with (go_at_call 101; refine (within_int _ _ _).mono ?_; rintro e w2 ⟨rfl, rfl⟩)
  obtain ⟨W, hW⟩ : ∃ W, W = (((w.alloc (wobj a)).alloc (.cells #[.int .i64 1] 3)).alloc (.cells #[.int .i64 1000000000] 3)) := ⟨_, rfl⟩
  have hB : Below (w.alloc (wobj a)).heap.size (w.alloc (wobj a)) W := by
    rw [hW]
    repeat (first | exact Below.refl _ _ | refine Below.alloc ?_ (by simp; omega) _ | refine Below.alloc ?_ (by simp) _)
  have hp0 : W.cell? ⟨w.heap.size + 1, 0, none⟩ = some (.int .i64 1) := by rw [hW]; go_simp
  have hp1 : W.cell? ⟨w.heap.size + 1 + 1, 0, none⟩ = some (.int .i64 1000000000) := by rw [hW]; go_simp
  rw [← hW]
  clear hW
  refine region_inv [false, false, true, false, false, false, false, false, false, false, false, false, false, false, false, false, true, true, true, true, true, true, true, true, true, true, true, true, true, true, true, true, true, true, true, true, true, true, true, true, true, true, true, true, true, true, true, true, true, true, true]
    [(16, [], none), (17, [], none), (18, [17], none), (19, [], none), (20, [19], none), (21, [], none), (22, [21], none), (23, [18, 20, 22], none), (24, [16, 23], none), (25, [24], none), (26, [25], some (25, true)), (27, [25, 26], some (25, true)), (28, [25], some (25, true)), (29, [25, 28], some (25, true)), (30, [25, 29], some (25, true)), (31, [25, 27, 30], some (25, true)), (32, [25, 31], none), (33, [32], none), (34, [33], some (33, true)), (35, [33], some (33, true)), (36, [33, 35], some (33, true)), (37, [33], some (33, true)), (38, [33, 37], some (33, true)), (39, [33], some (33, true)), (40, [33, 39], some (33, true)), (41, [33, 36, 38, 40], some (33, true)), (42, [33, 34, 41], some (33, true)), (43, [33, 42], none), (44, [43], none), (45, [44], some (44, true)), (46, [44], some (44, true)), (47, [44, 46], some (44, true)), (48, [44, 47], some (44, true)), (49, [44, 45, 48], some (44, true)), (50, [44, 49], none), (2, [50], none)]
    (measV a 0 1 1000000000 b1 c1 c2 c3 w.heap.size) (by kernel_rfl) (by kernel_rfl) (measV_mono a 0 1 1000000000 b1 c1 c2 c3 w.heap.size) ?_ ?_
  · refine ⟨?_, ?_, ?_, ?_, ?_, ?_, ?_, ?_, ?_, ?_, ?_, ?_, ?_, ?_, ?_, ?_, ?_, ?_, ?_, ?_, ?_, ?_, ?_, ?_, ?_, ?_, ?_, ?_, ?_, ?_, ?_, ?_, ?_, ?_, ?_, ?_, trivial⟩
    · intro f w1 hb _ K hK
      simp only [over, overL, Nat.reduceAdd]
      go_simp
      refine (within_is _ _ _).mono ?_
      rintro e w2 ⟨v, rfl, hv, hb2⟩
      exact hK _ _ ⟨_, hv, by simp only [over, overL, Nat.reduceAdd]; rfl, hb2⟩
    · intro f w1 hb _ K hK
      simp only [over, overL, Nat.reduceAdd]
      go_simp
      exact hK _ _ ⟨_, rfl, by simp only [over, overL, Nat.reduceAdd]; rfl, Below.refl _ _⟩
    · intro f w1 hb ⟨h17, _⟩ K hK
      have h17 : f 17 = _ := h17
      have cl : w1.cell? ⟨w.heap.size, 4, none⟩ = some (.int .i64 a.x) := cell_later hb (cell_later hB (by go_simp))
      simp only [over, overL, Nat.reduceAdd, h17]
      go_simp
      exact hK _ _ ⟨_, rfl, by simp only [over, overL, Nat.reduceAdd, h17]; rfl, Below.refl _ _⟩
    · intro f w1 hb _ K hK
      simp only [over, overL, Nat.reduceAdd]
      go_simp
      exact hK _ _ ⟨_, rfl, by simp only [over, overL, Nat.reduceAdd]; rfl, Below.refl _ _⟩
    · intro f w1 hb ⟨h19, _⟩ K hK
      have h19 : f 19 = _ := h19
      have cl : w1.cell? ⟨w.heap.size, 5, none⟩ = some (.int .i64 a.y) := cell_later hb (cell_later hB (by go_simp))
      simp only [over, overL, Nat.reduceAdd, h19]
      go_simp
      exact hK _ _ ⟨_, rfl, by simp only [over, overL, Nat.reduceAdd, h19]; rfl, Below.refl _ _⟩
    · intro f w1 hb _ K hK
      simp only [over, overL, Nat.reduceAdd]
      go_simp
      exact hK _ _ ⟨_, rfl, by simp only [over, overL, Nat.reduceAdd]; rfl, Below.refl _ _⟩
    · intro f w1 hb ⟨h21, _⟩ K hK
      have h21 : f 21 = _ := h21
      have cl : w1.cell? ⟨w.heap.size, 10, none⟩ = some (.int .i64 a.deep) := cell_later hb (cell_later hB (by go_simp))
      simp only [over, overL, Nat.reduceAdd, h21]
      go_simp
      exact hK _ _ ⟨_, rfl, by simp only [over, overL, Nat.reduceAdd, h21]; rfl, Below.refl _ _⟩
    · intro f w1 hb ⟨h18, h20, h22, _⟩ K hK
      have h18 : f 18 = _ := h18
      have h20 : f 20 = _ := h20
      have h22 : f 22 = _ := h22
      simp only [over, overL, Nat.reduceAdd, h18, h20, h22]
      go_simp
      exact hK _ _ ⟨_, new_three _ _ _ _ _, by simp only [over, overL, Nat.reduceAdd, h18, h20, h22]; rfl, (Below.refl _ _).alloc (Nat.le_refl _) _⟩
    · intro f w1 hb ⟨h16, h23, _⟩ K hK
      simp only [over, overL, Nat.reduceAdd]
      go_simp
      refine (every_v [a.x, a.y, a.deep] 0 200000 b1 hb1 _ _ _ (by simp) h16 h23).mono ?_
      rintro e w2 ⟨rfl, hw⟩
      exact hK _ _ ⟨_, rfl, by simp only [over, overL, Nat.reduceAdd]; rfl, hw ▸ Below.refl _ _⟩
    · intro f w1 hb ⟨h24, _⟩ K hK
      have h24 : f 24 = _ := h24
      simp only [over, overL, Nat.reduceAdd, h24]
      go_simp
      exact hK _ _ ⟨_, rfl, by simp only [over, overL, Nat.reduceAdd, h24]; rfl, Below.refl _ _⟩
    · intro f w1 hb ⟨h25, _⟩
      have h25 : f 25 = _ := h25
      refine ⟨fun hg => ?_, fun hg => ?_⟩
      rotate_left
      · intro hG; exact absurd (h25.trans (by rw [hG])) hg
      have hG := Value.bool.inj (h25.symm.trans hg)
      intro K hK
      simp only [over, overL, Nat.reduceAdd, h25, hG]
      go_simp
      exact hK _ _ ⟨_, (fun _ => rfl), by simp only [over, overL, Nat.reduceAdd, h25, hG]; rfl, Below.refl _ _⟩
    · intro f w1 hb ⟨h25, h26, _⟩
      have h25 : f 25 = _ := h25
      refine ⟨fun hg => ?_, fun hg => ?_⟩
      rotate_left
      · intro hG; exact absurd (h25.trans (by rw [hG])) hg
      have hG := Value.bool.inj (h25.symm.trans hg)
      intro K hK
      have h26 : f 26 = _ := h26 hG
      simp only [over, overL, Nat.reduceAdd, h25, h26, hG]
      go_simp
      refine (within_is _ _ _).mono ?_
      rintro e w2 ⟨v, rfl, hv, hb2⟩
      exact hK _ _ ⟨_, (fun _ => hv), by simp only [over, overL, Nat.reduceAdd, h25, h26, hG]; rfl, hb2⟩
    · intro f w1 hb ⟨h25, _⟩
      have h25 : f 25 = _ := h25
      refine ⟨fun hg => ?_, fun hg => ?_⟩
      rotate_left
      · intro hG; exact absurd (h25.trans (by rw [hG])) hg
      have hG := Value.bool.inj (h25.symm.trans hg)
      intro K hK
      simp only [over, overL, Nat.reduceAdd, h25, hG]
      go_simp
      exact hK _ _ ⟨_, (fun _ => rfl), by simp only [over, overL, Nat.reduceAdd, h25, hG]; rfl, Below.refl _ _⟩
    · intro f w1 hb ⟨h25, h28, _⟩
      have h25 : f 25 = _ := h25
      refine ⟨fun hg => ?_, fun hg => ?_⟩
      rotate_left
      · intro hG; exact absurd (h25.trans (by rw [hG])) hg
      have hG := Value.bool.inj (h25.symm.trans hg)
      intro K hK
      have h28 : f 28 = _ := h28 hG
      have cl : w1.cell? ⟨w.heap.size, 6, none⟩ = some (.int .i64 a.pitch) := cell_later hb (cell_later hB (by go_simp))
      simp only [over, overL, Nat.reduceAdd, h25, h28, hG]
      go_simp
      exact hK _ _ ⟨_, (fun _ => rfl), by simp only [over, overL, Nat.reduceAdd, h25, h28, hG]; rfl, Below.refl _ _⟩
    · intro f w1 hb ⟨h25, h29, _⟩
      have h25 : f 25 = _ := h25
      refine ⟨fun hg => ?_, fun hg => ?_⟩
      rotate_left
      · intro hG; exact absurd (h25.trans (by rw [hG])) hg
      have hG := Value.bool.inj (h25.symm.trans hg)
      intro K hK
      have h29 : f 29 = _ := h29 hG
      simp only [over, overL, Nat.reduceAdd, h25, h29, hG]
      go_simp
      exact hK _ _ ⟨_, (fun _ => new_one _ _ _), by simp only [over, overL, Nat.reduceAdd, h25, h29, hG]; rfl, (Below.refl _ _).alloc (Nat.le_refl _) _⟩
    · intro f w1 hb ⟨h25, h27, h30, _⟩
      have h25 : f 25 = _ := h25
      refine ⟨fun hg => ?_, fun hg => ?_⟩
      rotate_left
      · intro hG; exact absurd (h25.trans (by rw [hG])) hg
      have hG := Value.bool.inj (h25.symm.trans hg)
      intro K hK
      replace h27 := h27 hG
      replace h30 := h30 hG
      simp only [over, overL, Nat.reduceAdd, h25, hG]
      go_simp
      refine (every_v [a.pitch] 0 200000 c1 hc1 _ _ _ (by simp) h27 h30).mono ?_
      rintro e w2 ⟨rfl, hw⟩
      exact hK _ _ ⟨_, (fun _ => rfl), by simp only [over, overL, Nat.reduceAdd, h25, hG]; rfl, hw ▸ Below.refl _ _⟩
    · intro f w1 hb ⟨h25, h31, _⟩ K hK
      have h25 : f 25 = _ := h25
      have h31 : b1 = true → f 31 = _ := h31
      cases hG : b1 with
      | false =>
        rw [hG] at h25
        simp only [over, overL, Nat.reduceAdd, h25]
        go_simp
        exact hK _ _ ⟨.bool false, by simp [measV, hG], by simp only [over, overL, Nat.reduceAdd, h25]; rfl, Below.refl _ _⟩
      | true =>
        have h31 := h31 hG
        rw [hG] at h25
        simp only [over, overL, Nat.reduceAdd, h25, h31]
        go_simp
        exact hK _ _ ⟨.bool c1, by simp [measV, hG], by simp only [over, overL, Nat.reduceAdd, h25, h31]; rfl, Below.refl _ _⟩
    · intro f w1 hb ⟨h32, _⟩ K hK
      have h32 : f 32 = _ := h32
      simp only [over, overL, Nat.reduceAdd, h32]
      go_simp
      exact hK _ _ ⟨_, rfl, by simp only [over, overL, Nat.reduceAdd, h32]; rfl, Below.refl _ _⟩
    · intro f w1 hb ⟨h33, _⟩
      have h33 : f 33 = _ := h33
      refine ⟨fun hg => ?_, fun hg => ?_⟩
      rotate_left
      · intro hG; exact absurd (h33.trans (by rw [hG])) hg
      have hG := Value.bool.inj (h33.symm.trans hg)
      intro K hK
      simp only [over, overL, Nat.reduceAdd, h33, hG]
      go_simp
      refine (within_is _ _ _).mono ?_
      rintro e w2 ⟨v, rfl, hv, hb2⟩
      exact hK _ _ ⟨_, (fun _ => hv), by simp only [over, overL, Nat.reduceAdd, h33, hG]; rfl, hb2⟩
    · intro f w1 hb ⟨h33, _⟩
      have h33 : f 33 = _ := h33
      refine ⟨fun hg => ?_, fun hg => ?_⟩
      rotate_left
      · intro hG; exact absurd (h33.trans (by rw [hG])) hg
      have hG := Value.bool.inj (h33.symm.trans hg)
      intro K hK
      simp only [over, overL, Nat.reduceAdd, h33, hG]
      go_simp
      exact hK _ _ ⟨_, (fun _ => rfl), by simp only [over, overL, Nat.reduceAdd, h33, hG]; rfl, Below.refl _ _⟩
    · intro f w1 hb ⟨h33, h35, _⟩
      have h33 : f 33 = _ := h33
      refine ⟨fun hg => ?_, fun hg => ?_⟩
      rotate_left
      · intro hG; exact absurd (h33.trans (by rw [hG])) hg
      have hG := Value.bool.inj (h33.symm.trans hg)
      intro K hK
      have h35 : f 35 = _ := h35 hG
      have cl : w1.cell? ⟨w.heap.size, 7, none⟩ = some (.int .i64 a.wid) := cell_later hb (cell_later hB (by go_simp))
      simp only [over, overL, Nat.reduceAdd, h33, h35, hG]
      go_simp
      exact hK _ _ ⟨_, (fun _ => rfl), by simp only [over, overL, Nat.reduceAdd, h33, h35, hG]; rfl, Below.refl _ _⟩
    · intro f w1 hb ⟨h33, _⟩
      have h33 : f 33 = _ := h33
      refine ⟨fun hg => ?_, fun hg => ?_⟩
      rotate_left
      · intro hG; exact absurd (h33.trans (by rw [hG])) hg
      have hG := Value.bool.inj (h33.symm.trans hg)
      intro K hK
      simp only [over, overL, Nat.reduceAdd, h33, hG]
      go_simp
      exact hK _ _ ⟨_, (fun _ => rfl), by simp only [over, overL, Nat.reduceAdd, h33, hG]; rfl, Below.refl _ _⟩
    · intro f w1 hb ⟨h33, h37, _⟩
      have h33 : f 33 = _ := h33
      refine ⟨fun hg => ?_, fun hg => ?_⟩
      rotate_left
      · intro hG; exact absurd (h33.trans (by rw [hG])) hg
      have hG := Value.bool.inj (h33.symm.trans hg)
      intro K hK
      have h37 : f 37 = _ := h37 hG
      have cl : w1.cell? ⟨w.heap.size, 8, none⟩ = some (.int .i64 a.len) := cell_later hb (cell_later hB (by go_simp))
      simp only [over, overL, Nat.reduceAdd, h33, h37, hG]
      go_simp
      exact hK _ _ ⟨_, (fun _ => rfl), by simp only [over, overL, Nat.reduceAdd, h33, h37, hG]; rfl, Below.refl _ _⟩
    · intro f w1 hb ⟨h33, _⟩
      have h33 : f 33 = _ := h33
      refine ⟨fun hg => ?_, fun hg => ?_⟩
      rotate_left
      · intro hG; exact absurd (h33.trans (by rw [hG])) hg
      have hG := Value.bool.inj (h33.symm.trans hg)
      intro K hK
      simp only [over, overL, Nat.reduceAdd, h33, hG]
      go_simp
      exact hK _ _ ⟨_, (fun _ => rfl), by simp only [over, overL, Nat.reduceAdd, h33, hG]; rfl, Below.refl _ _⟩
    · intro f w1 hb ⟨h33, h39, _⟩
      have h33 : f 33 = _ := h33
      refine ⟨fun hg => ?_, fun hg => ?_⟩
      rotate_left
      · intro hG; exact absurd (h33.trans (by rw [hG])) hg
      have hG := Value.bool.inj (h33.symm.trans hg)
      intro K hK
      have h39 : f 39 = _ := h39 hG
      have cl : w1.cell? ⟨w.heap.size, 9, none⟩ = some (.int .i64 a.hei) := cell_later hb (cell_later hB (by go_simp))
      simp only [over, overL, Nat.reduceAdd, h33, h39, hG]
      go_simp
      exact hK _ _ ⟨_, (fun _ => rfl), by simp only [over, overL, Nat.reduceAdd, h33, h39, hG]; rfl, Below.refl _ _⟩
    · intro f w1 hb ⟨h33, h36, h38, h40, _⟩
      have h33 : f 33 = _ := h33
      refine ⟨fun hg => ?_, fun hg => ?_⟩
      rotate_left
      · intro hG; exact absurd (h33.trans (by rw [hG])) hg
      have hG := Value.bool.inj (h33.symm.trans hg)
      intro K hK
      have h36 : f 36 = _ := h36 hG
      have h38 : f 38 = _ := h38 hG
      have h40 : f 40 = _ := h40 hG
      simp only [over, overL, Nat.reduceAdd, h33, h36, h38, h40, hG]
      go_simp
      exact hK _ _ ⟨_, (fun _ => new_three _ _ _ _ _), by simp only [over, overL, Nat.reduceAdd, h33, h36, h38, h40, hG]; rfl, (Below.refl _ _).alloc (Nat.le_refl _) _⟩
    · intro f w1 hb ⟨h33, h34, h41, _⟩
      have h33 : f 33 = _ := h33
      refine ⟨fun hg => ?_, fun hg => ?_⟩
      rotate_left
      · intro hG; exact absurd (h33.trans (by rw [hG])) hg
      have hG := Value.bool.inj (h33.symm.trans hg)
      intro K hK
      replace h34 := h34 hG
      replace h41 := h41 hG
      simp only [over, overL, Nat.reduceAdd, h33, hG]
      go_simp
      refine (every_v [a.wid, a.len, a.hei] 1 200000 c2 hc2 _ _ _ (by simp) h34 h41).mono ?_
      rintro e w2 ⟨rfl, hw⟩
      exact hK _ _ ⟨_, (fun _ => rfl), by simp only [over, overL, Nat.reduceAdd, h33, hG]; rfl, hw ▸ Below.refl _ _⟩
    · intro f w1 hb ⟨h33, h42, _⟩ K hK
      have h33 : f 33 = _ := h33
      have h42 : (b1 && c1) = true → f 42 = _ := h42
      cases hG : (b1 && c1) with
      | false =>
        rw [hG] at h33
        simp only [over, overL, Nat.reduceAdd, h33]
        go_simp
        exact hK _ _ ⟨.bool false, by simp [measV, hG], by simp only [over, overL, Nat.reduceAdd, h33]; rfl, Below.refl _ _⟩
      | true =>
        have h42 := h42 hG
        rw [hG] at h33
        simp only [over, overL, Nat.reduceAdd, h33, h42]
        go_simp
        exact hK _ _ ⟨.bool c2, by simp [measV, hG], by simp only [over, overL, Nat.reduceAdd, h33, h42]; rfl, Below.refl _ _⟩
    · intro f w1 hb ⟨h43, _⟩ K hK
      have h43 : f 43 = _ := h43
      simp only [over, overL, Nat.reduceAdd, h43]
      go_simp
      exact hK _ _ ⟨_, rfl, by simp only [over, overL, Nat.reduceAdd, h43]; rfl, Below.refl _ _⟩
    · intro f w1 hb ⟨h44, _⟩
      have h44 : f 44 = _ := h44
      refine ⟨fun hg => ?_, fun hg => ?_⟩
      rotate_left
      · intro hG; exact absurd (h44.trans (by rw [hG])) hg
      have hG := Value.bool.inj (h44.symm.trans hg)
      intro K hK
      simp only [over, overL, Nat.reduceAdd, h44, hG]
      go_simp
      exact hK _ _ ⟨_, (fun _ => ⟨_, _, rfl, cell_later hb hp0, cell_later hb hp1⟩), by simp only [over, overL, Nat.reduceAdd, h44, hG]; rfl, Below.refl _ _⟩
    · intro f w1 hb ⟨h44, _⟩
      have h44 : f 44 = _ := h44
      refine ⟨fun hg => ?_, fun hg => ?_⟩
      rotate_left
      · intro hG; exact absurd (h44.trans (by rw [hG])) hg
      have hG := Value.bool.inj (h44.symm.trans hg)
      intro K hK
      simp only [over, overL, Nat.reduceAdd, h44, hG]
      go_simp
      exact hK _ _ ⟨_, (fun _ => rfl), by simp only [over, overL, Nat.reduceAdd, h44, hG]; rfl, Below.refl _ _⟩
    · intro f w1 hb ⟨h44, h46, _⟩
      have h44 : f 44 = _ := h44
      refine ⟨fun hg => ?_, fun hg => ?_⟩
      rotate_left
      · intro hG; exact absurd (h44.trans (by rw [hG])) hg
      have hG := Value.bool.inj (h44.symm.trans hg)
      intro K hK
      have h46 : f 46 = _ := h46 hG
      have cl : w1.cell? ⟨w.heap.size, 11, none⟩ = some (.int .i64 a.cap) := cell_later hb (cell_later hB (by go_simp))
      simp only [over, overL, Nat.reduceAdd, h44, h46, hG]
      go_simp
      exact hK _ _ ⟨_, (fun _ => rfl), by simp only [over, overL, Nat.reduceAdd, h44, h46, hG]; rfl, Below.refl _ _⟩
    · intro f w1 hb ⟨h44, h47, _⟩
      have h44 : f 44 = _ := h44
      refine ⟨fun hg => ?_, fun hg => ?_⟩
      rotate_left
      · intro hG; exact absurd (h44.trans (by rw [hG])) hg
      have hG := Value.bool.inj (h44.symm.trans hg)
      intro K hK
      have h47 : f 47 = _ := h47 hG
      simp only [over, overL, Nat.reduceAdd, h44, h47, hG]
      go_simp
      exact hK _ _ ⟨_, (fun _ => new_one _ _ _), by simp only [over, overL, Nat.reduceAdd, h44, h47, hG]; rfl, (Below.refl _ _).alloc (Nat.le_refl _) _⟩
    · intro f w1 hb ⟨h44, h45, h48, _⟩
      have h44 : f 44 = _ := h44
      refine ⟨fun hg => ?_, fun hg => ?_⟩
      rotate_left
      · intro hG; exact absurd (h44.trans (by rw [hG])) hg
      have hG := Value.bool.inj (h44.symm.trans hg)
      intro K hK
      replace h45 := h45 hG
      replace h48 := h48 hG
      simp only [over, overL, Nat.reduceAdd, h44, hG]
      go_simp
      refine (every_v [a.cap] 1 1000000000 c3 hc3 _ _ _ (by simp) h45 h48).mono ?_
      rintro e w2 ⟨rfl, hw⟩
      exact hK _ _ ⟨_, (fun _ => rfl), by simp only [over, overL, Nat.reduceAdd, h44, hG]; rfl, hw ▸ Below.refl _ _⟩
    · intro f w1 hb ⟨h44, h49, _⟩ K hK
      have h44 : f 44 = _ := h44
      have h49 : (b1 && c1 && c2) = true → f 49 = _ := h49
      cases hG : (b1 && c1 && c2) with
      | false =>
        rw [hG] at h44
        simp only [over, overL, Nat.reduceAdd, h44]
        go_simp
        exact hK _ _ ⟨.bool false, by simp [measV, hG], by simp only [over, overL, Nat.reduceAdd, h44]; rfl, Below.refl _ _⟩
      | true =>
        have h49 := h49 hG
        rw [hG] at h44
        simp only [over, overL, Nat.reduceAdd, h44, h49]
        go_simp
        exact hK _ _ ⟨.bool c3, by simp [measV, hG], by simp only [over, overL, Nat.reduceAdd, h44, h49]; rfl, Below.refl _ _⟩
    · intro f w1 hb ⟨h50, _⟩ K hK
      have h50 : f 50 = _ := h50
      simp only [over, overL, Nat.reduceAdd, h50]
      go_simp
      exact hK _ _ ⟨_, rfl, by simp only [over, overL, Nat.reduceAdd, h50]; rfl, Below.refl _ _⟩
  · intro f w1 hb h
    have h2 : f 2 = .bool (b1 && c1 && c2 && c3) := h.2.2.2.2.2.2.2.2.2.2.2.2.2.2.2.2.2.2.2.2.2.2.2.2.2.2.2.2.2.2.2.2.2.2.2.1
    simp only [over, overL, h2, Nat.reduceAdd]
    go_wp2
    go_ret
    exact ⟨rfl, ((Below.refl _ _).alloc (Nat.le_refl _) _).trans ((hB.mono (by simp)).trans (hb.mono (by have := hB.size; simp at this; omega)))⟩

set_option maxHeartbeats 3200000 in
theorem isMeasured_01 (a : Wr) (w : World) (hr0 : 0 ≤ a.rows * a.cols) (hr1 : a.rows * a.cols ≤ 384) (hm : a.rows * a.cols ≤ 1) (hk : a.kind = 3) (b1 c1 c2 c3 : Bool)
    (hb1 : [a.x, a.y, a.deep].all (inR 0 200000) = b1) (hc1 : [a.pitch].all (inR 0 200000) = c1) (hc2 : [a.wid, a.len, a.hei].all (inR 1 200000) = c2) (hc3 : [a.cap].all (inR 0 0) = c3) :
    Calls Tryz.prog 102 #[wv a] w fun e w' => e = .returned (.bool (b1 && c1 && c2 && c3)) ∧ Below w.heap.size w w' := by
  go_enter Tryz.func102, Tryz.ntmps102
  go_wp2_with (go_at_call 101; refine (within_int _ _ _).mono ?_; rintro e w2 ⟨rfl, rfl⟩)
  obtain ⟨W, hW⟩ : ∃ W, W = (((((w.alloc (wobj a)).alloc (.cells #[.int .i64 1] 3)).alloc (.cells #[.int .i64 1000000000] 3)).alloc (.cells #[.int .i64 0] 3)).alloc (.cells #[.int .i64 0] 3)) := ⟨_, rfl⟩
  have hB : Below (w.alloc (wobj a)).heap.size (w.alloc (wobj a)) W := by
    rw [hW]
    repeat (first | exact Below.refl _ _ | refine Below.alloc ?_ (by simp; omega) _ | refine Below.alloc ?_ (by simp) _)
  have hp0 : W.cell? ⟨w.heap.size + 1 + 1 + 1, 0, none⟩ = some (.int .i64 0) := by rw [hW]; go_simp
  have hp1 : W.cell? ⟨w.heap.size + 1 + 1 + 1 + 1, 0, none⟩ = some (.int .i64 0) := by rw [hW]; go_simp
  rw [← hW]
  clear hW
  refine region_inv [false, false, true, false, false, false, false, false, false, false, false, false, false, false, false, false, true, true, true, true, true, true, true, true, true, true, true, true, true, true, true, true, true, true, true, true, true, true, true, true, true, true, true, true, true, true, true, true, true, true, true]
    [(16, [], none), (17, [], none), (18, [17], none), (19, [], none), (20, [19], none), (21, [], none), (22, [21], none), (23, [18, 20, 22], none), (24, [16, 23], none), (25, [24], none), (26, [25], some (25, true)), (27, [25, 26], some (25, true)), (28, [25], some (25, true)), (29, [25, 28], some (25, true)), (30, [25, 29], some (25, true)), (31, [25, 27, 30], some (25, true)), (32, [25, 31], none), (33, [32], none), (34, [33], some (33, true)), (35, [33], some (33, true)), (36, [33, 35], some (33, true)), (37, [33], some (33, true)), (38, [33, 37], some (33, true)), (39, [33], some (33, true)), (40, [33, 39], some (33, true)), (41, [33, 36, 38, 40], some (33, true)), (42, [33, 34, 41], some (33, true)), (43, [33, 42], none), (44, [43], none), (45, [44], some (44, true)), (46, [44], some (44, true)), (47, [44, 46], some (44, true)), (48, [44, 47], some (44, true)), (49, [44, 45, 48], some (44, true)), (50, [44, 49], none), (2, [50], none)]
    (measV a 0 0 0 b1 c1 c2 c3 w.heap.size) (by kernel_rfl) (by kernel_rfl) (measV_mono a 0 0 0 b1 c1 c2 c3 w.heap.size) ?_ ?_
  · refine ⟨?_, ?_, ?_, ?_, ?_, ?_, ?_, ?_, ?_, ?_, ?_, ?_, ?_, ?_, ?_, ?_, ?_, ?_, ?_, ?_, ?_, ?_, ?_, ?_, ?_, ?_, ?_, ?_, ?_, ?_, ?_, ?_, ?_, ?_, ?_, ?_, trivial⟩
    · intro f w1 hb _ K hK
      simp only [over, overL, Nat.reduceAdd]
      go_simp
      refine (within_is _ _ _).mono ?_
      rintro e w2 ⟨v, rfl, hv, hb2⟩
      exact hK _ _ ⟨_, hv, by simp only [over, overL, Nat.reduceAdd]; rfl, hb2⟩
    · intro f w1 hb _ K hK
      simp only [over, overL, Nat.reduceAdd]
      go_simp
      exact hK _ _ ⟨_, rfl, by simp only [over, overL, Nat.reduceAdd]; rfl, Below.refl _ _⟩
    · intro f w1 hb ⟨h17, _⟩ K hK
      have h17 : f 17 = _ := h17
      have cl : w1.cell? ⟨w.heap.size, 4, none⟩ = some (.int .i64 a.x) := cell_later hb (cell_later hB (by go_simp))
      simp only [over, overL, Nat.reduceAdd, h17]
      go_simp
      exact hK _ _ ⟨_, rfl, by simp only [over, overL, Nat.reduceAdd, h17]; rfl, Below.refl _ _⟩
    · intro f w1 hb _ K hK
      simp only [over, overL, Nat.reduceAdd]
      go_simp
      exact hK _ _ ⟨_, rfl, by simp only [over, overL, Nat.reduceAdd]; rfl, Below.refl _ _⟩
    · intro f w1 hb ⟨h19, _⟩ K hK
      have h19 : f 19 = _ := h19
      have cl : w1.cell? ⟨w.heap.size, 5, none⟩ = some (.int .i64 a.y) := cell_later hb (cell_later hB (by go_simp))
      simp only [over, overL, Nat.reduceAdd, h19]
      go_simp
      exact hK _ _ ⟨_, rfl, by simp only [over, overL, Nat.reduceAdd, h19]; rfl, Below.refl _ _⟩
    · intro f w1 hb _ K hK
      simp only [over, overL, Nat.reduceAdd]
      go_simp
      exact hK _ _ ⟨_, rfl, by simp only [over, overL, Nat.reduceAdd]; rfl, Below.refl _ _⟩
    · intro f w1 hb ⟨h21, _⟩ K hK
      have h21 : f 21 = _ := h21
      have cl : w1.cell? ⟨w.heap.size, 10, none⟩ = some (.int .i64 a.deep) := cell_later hb (cell_later hB (by go_simp))
      simp only [over, overL, Nat.reduceAdd, h21]
      go_simp
      exact hK _ _ ⟨_, rfl, by simp only [over, overL, Nat.reduceAdd, h21]; rfl, Below.refl _ _⟩
    · intro f w1 hb ⟨h18, h20, h22, _⟩ K hK
      have h18 : f 18 = _ := h18
      have h20 : f 20 = _ := h20
      have h22 : f 22 = _ := h22
      simp only [over, overL, Nat.reduceAdd, h18, h20, h22]
      go_simp
      exact hK _ _ ⟨_, new_three _ _ _ _ _, by simp only [over, overL, Nat.reduceAdd, h18, h20, h22]; rfl, (Below.refl _ _).alloc (Nat.le_refl _) _⟩
    · intro f w1 hb ⟨h16, h23, _⟩ K hK
      simp only [over, overL, Nat.reduceAdd]
      go_simp
      refine (every_v [a.x, a.y, a.deep] 0 200000 b1 hb1 _ _ _ (by simp) h16 h23).mono ?_
      rintro e w2 ⟨rfl, hw⟩
      exact hK _ _ ⟨_, rfl, by simp only [over, overL, Nat.reduceAdd]; rfl, hw ▸ Below.refl _ _⟩
    · intro f w1 hb ⟨h24, _⟩ K hK
      have h24 : f 24 = _ := h24
      simp only [over, overL, Nat.reduceAdd, h24]
      go_simp
      exact hK _ _ ⟨_, rfl, by simp only [over, overL, Nat.reduceAdd, h24]; rfl, Below.refl _ _⟩
    · intro f w1 hb ⟨h25, _⟩
      have h25 : f 25 = _ := h25
      refine ⟨fun hg => ?_, fun hg => ?_⟩
      rotate_left
      · intro hG; exact absurd (h25.trans (by rw [hG])) hg
      have hG := Value.bool.inj (h25.symm.trans hg)
      intro K hK
      simp only [over, overL, Nat.reduceAdd, h25, hG]
      go_simp
      exact hK _ _ ⟨_, (fun _ => rfl), by simp only [over, overL, Nat.reduceAdd, h25, hG]; rfl, Below.refl _ _⟩
    · intro f w1 hb ⟨h25, h26, _⟩
      have h25 : f 25 = _ := h25
      refine ⟨fun hg => ?_, fun hg => ?_⟩
      rotate_left
      · intro hG; exact absurd (h25.trans (by rw [hG])) hg
      have hG := Value.bool.inj (h25.symm.trans hg)
      intro K hK
      have h26 : f 26 = _ := h26 hG
      simp only [over, overL, Nat.reduceAdd, h25, h26, hG]
      go_simp
      refine (within_is _ _ _).mono ?_
      rintro e w2 ⟨v, rfl, hv, hb2⟩
      exact hK _ _ ⟨_, (fun _ => hv), by simp only [over, overL, Nat.reduceAdd, h25, h26, hG]; rfl, hb2⟩
    · intro f w1 hb ⟨h25, _⟩
      have h25 : f 25 = _ := h25
      refine ⟨fun hg => ?_, fun hg => ?_⟩
      rotate_left
      · intro hG; exact absurd (h25.trans (by rw [hG])) hg
      have hG := Value.bool.inj (h25.symm.trans hg)
      intro K hK
      simp only [over, overL, Nat.reduceAdd, h25, hG]
      go_simp
      exact hK _ _ ⟨_, (fun _ => rfl), by simp only [over, overL, Nat.reduceAdd, h25, hG]; rfl, Below.refl _ _⟩
    · intro f w1 hb ⟨h25, h28, _⟩
      have h25 : f 25 = _ := h25
      refine ⟨fun hg => ?_, fun hg => ?_⟩
      rotate_left
      · intro hG; exact absurd (h25.trans (by rw [hG])) hg
      have hG := Value.bool.inj (h25.symm.trans hg)
      intro K hK
      have h28 : f 28 = _ := h28 hG
      have cl : w1.cell? ⟨w.heap.size, 6, none⟩ = some (.int .i64 a.pitch) := cell_later hb (cell_later hB (by go_simp))
      simp only [over, overL, Nat.reduceAdd, h25, h28, hG]
      go_simp
      exact hK _ _ ⟨_, (fun _ => rfl), by simp only [over, overL, Nat.reduceAdd, h25, h28, hG]; rfl, Below.refl _ _⟩
    · intro f w1 hb ⟨h25, h29, _⟩
      have h25 : f 25 = _ := h25
      refine ⟨fun hg => ?_, fun hg => ?_⟩
      rotate_left
      · intro hG; exact absurd (h25.trans (by rw [hG])) hg
      have hG := Value.bool.inj (h25.symm.trans hg)
      intro K hK
      have h29 : f 29 = _ := h29 hG
      simp only [over, overL, Nat.reduceAdd, h25, h29, hG]
      go_simp
      exact hK _ _ ⟨_, (fun _ => new_one _ _ _), by simp only [over, overL, Nat.reduceAdd, h25, h29, hG]; rfl, (Below.refl _ _).alloc (Nat.le_refl _) _⟩
    · intro f w1 hb ⟨h25, h27, h30, _⟩
      have h25 : f 25 = _ := h25
      refine ⟨fun hg => ?_, fun hg => ?_⟩
      rotate_left
      · intro hG; exact absurd (h25.trans (by rw [hG])) hg
      have hG := Value.bool.inj (h25.symm.trans hg)
      intro K hK
      replace h27 := h27 hG
      replace h30 := h30 hG
      simp only [over, overL, Nat.reduceAdd, h25, hG]
      go_simp
      refine (every_v [a.pitch] 0 200000 c1 hc1 _ _ _ (by simp) h27 h30).mono ?_
      rintro e w2 ⟨rfl, hw⟩
      exact hK _ _ ⟨_, (fun _ => rfl), by simp only [over, overL, Nat.reduceAdd, h25, hG]; rfl, hw ▸ Below.refl _ _⟩
    · intro f w1 hb ⟨h25, h31, _⟩ K hK
      have h25 : f 25 = _ := h25
      have h31 : b1 = true → f 31 = _ := h31
      cases hG : b1 with
      | false =>
        rw [hG] at h25
        simp only [over, overL, Nat.reduceAdd, h25]
        go_simp
        exact hK _ _ ⟨.bool false, by simp [measV, hG], by simp only [over, overL, Nat.reduceAdd, h25]; rfl, Below.refl _ _⟩
      | true =>
        have h31 := h31 hG
        rw [hG] at h25
        simp only [over, overL, Nat.reduceAdd, h25, h31]
        go_simp
        exact hK _ _ ⟨.bool c1, by simp [measV, hG], by simp only [over, overL, Nat.reduceAdd, h25, h31]; rfl, Below.refl _ _⟩
    · intro f w1 hb ⟨h32, _⟩ K hK
      have h32 : f 32 = _ := h32
      simp only [over, overL, Nat.reduceAdd, h32]
      go_simp
      exact hK _ _ ⟨_, rfl, by simp only [over, overL, Nat.reduceAdd, h32]; rfl, Below.refl _ _⟩
    · intro f w1 hb ⟨h33, _⟩
      have h33 : f 33 = _ := h33
      refine ⟨fun hg => ?_, fun hg => ?_⟩
      rotate_left
      · intro hG; exact absurd (h33.trans (by rw [hG])) hg
      have hG := Value.bool.inj (h33.symm.trans hg)
      intro K hK
      simp only [over, overL, Nat.reduceAdd, h33, hG]
      go_simp
      refine (within_is _ _ _).mono ?_
      rintro e w2 ⟨v, rfl, hv, hb2⟩
      exact hK _ _ ⟨_, (fun _ => hv), by simp only [over, overL, Nat.reduceAdd, h33, hG]; rfl, hb2⟩
    · intro f w1 hb ⟨h33, _⟩
      have h33 : f 33 = _ := h33
      refine ⟨fun hg => ?_, fun hg => ?_⟩
      rotate_left
      · intro hG; exact absurd (h33.trans (by rw [hG])) hg
      have hG := Value.bool.inj (h33.symm.trans hg)
      intro K hK
      simp only [over, overL, Nat.reduceAdd, h33, hG]
      go_simp
      exact hK _ _ ⟨_, (fun _ => rfl), by simp only [over, overL, Nat.reduceAdd, h33, hG]; rfl, Below.refl _ _⟩
    · intro f w1 hb ⟨h33, h35, _⟩
      have h33 : f 33 = _ := h33
      refine ⟨fun hg => ?_, fun hg => ?_⟩
      rotate_left
      · intro hG; exact absurd (h33.trans (by rw [hG])) hg
      have hG := Value.bool.inj (h33.symm.trans hg)
      intro K hK
      have h35 : f 35 = _ := h35 hG
      have cl : w1.cell? ⟨w.heap.size, 7, none⟩ = some (.int .i64 a.wid) := cell_later hb (cell_later hB (by go_simp))
      simp only [over, overL, Nat.reduceAdd, h33, h35, hG]
      go_simp
      exact hK _ _ ⟨_, (fun _ => rfl), by simp only [over, overL, Nat.reduceAdd, h33, h35, hG]; rfl, Below.refl _ _⟩
    · intro f w1 hb ⟨h33, _⟩
      have h33 : f 33 = _ := h33
      refine ⟨fun hg => ?_, fun hg => ?_⟩
      rotate_left
      · intro hG; exact absurd (h33.trans (by rw [hG])) hg
      have hG := Value.bool.inj (h33.symm.trans hg)
      intro K hK
      simp only [over, overL, Nat.reduceAdd, h33, hG]
      go_simp
      exact hK _ _ ⟨_, (fun _ => rfl), by simp only [over, overL, Nat.reduceAdd, h33, hG]; rfl, Below.refl _ _⟩
    · intro f w1 hb ⟨h33, h37, _⟩
      have h33 : f 33 = _ := h33
      refine ⟨fun hg => ?_, fun hg => ?_⟩
      rotate_left
      · intro hG; exact absurd (h33.trans (by rw [hG])) hg
      have hG := Value.bool.inj (h33.symm.trans hg)
      intro K hK
      have h37 : f 37 = _ := h37 hG
      have cl : w1.cell? ⟨w.heap.size, 8, none⟩ = some (.int .i64 a.len) := cell_later hb (cell_later hB (by go_simp))
      simp only [over, overL, Nat.reduceAdd, h33, h37, hG]
      go_simp
      exact hK _ _ ⟨_, (fun _ => rfl), by simp only [over, overL, Nat.reduceAdd, h33, h37, hG]; rfl, Below.refl _ _⟩
    · intro f w1 hb ⟨h33, _⟩
      have h33 : f 33 = _ := h33
      refine ⟨fun hg => ?_, fun hg => ?_⟩
      rotate_left
      · intro hG; exact absurd (h33.trans (by rw [hG])) hg
      have hG := Value.bool.inj (h33.symm.trans hg)
      intro K hK
      simp only [over, overL, Nat.reduceAdd, h33, hG]
      go_simp
      exact hK _ _ ⟨_, (fun _ => rfl), by simp only [over, overL, Nat.reduceAdd, h33, hG]; rfl, Below.refl _ _⟩
    · intro f w1 hb ⟨h33, h39, _⟩
      have h33 : f 33 = _ := h33
      refine ⟨fun hg => ?_, fun hg => ?_⟩
      rotate_left
      · intro hG; exact absurd (h33.trans (by rw [hG])) hg
      have hG := Value.bool.inj (h33.symm.trans hg)
      intro K hK
      have h39 : f 39 = _ := h39 hG
      have cl : w1.cell? ⟨w.heap.size, 9, none⟩ = some (.int .i64 a.hei) := cell_later hb (cell_later hB (by go_simp))
      simp only [over, overL, Nat.reduceAdd, h33, h39, hG]
      go_simp
      exact hK _ _ ⟨_, (fun _ => rfl), by simp only [over, overL, Nat.reduceAdd, h33, h39, hG]; rfl, Below.refl _ _⟩
    · intro f w1 hb ⟨h33, h36, h38, h40, _⟩
      have h33 : f 33 = _ := h33
      refine ⟨fun hg => ?_, fun hg => ?_⟩
      rotate_left
      · intro hG; exact absurd (h33.trans (by rw [hG])) hg
      have hG := Value.bool.inj (h33.symm.trans hg)
      intro K hK
      have h36 : f 36 = _ := h36 hG
      have h38 : f 38 = _ := h38 hG
      have h40 : f 40 = _ := h40 hG
      simp only [over, overL, Nat.reduceAdd, h33, h36, h38, h40, hG]
      go_simp
      exact hK _ _ ⟨_, (fun _ => new_three _ _ _ _ _), by simp only [over, overL, Nat.reduceAdd, h33, h36, h38, h40, hG]; rfl, (Below.refl _ _).alloc (Nat.le_refl _) _⟩
    · intro f w1 hb ⟨h33, h34, h41, _⟩
      have h33 : f 33 = _ := h33
      refine ⟨fun hg => ?_, fun hg => ?_⟩
      rotate_left
      · intro hG; exact absurd (h33.trans (by rw [hG])) hg
      have hG := Value.bool.inj (h33.symm.trans hg)
      intro K hK
      replace h34 := h34 hG
      replace h41 := h41 hG
      simp only [over, overL, Nat.reduceAdd, h33, hG]
      go_simp
      refine (every_v [a.wid, a.len, a.hei] 1 200000 c2 hc2 _ _ _ (by simp) h34 h41).mono ?_
      rintro e w2 ⟨rfl, hw⟩
      exact hK _ _ ⟨_, (fun _ => rfl), by simp only [over, overL, Nat.reduceAdd, h33, hG]; rfl, hw ▸ Below.refl _ _⟩
    · intro f w1 hb ⟨h33, h42, _⟩ K hK
      have h33 : f 33 = _ := h33
      have h42 : (b1 && c1) = true → f 42 = _ := h42
      cases hG : (b1 && c1) with
      | false =>
        rw [hG] at h33
        simp only [over, overL, Nat.reduceAdd, h33]
        go_simp
        exact hK _ _ ⟨.bool false, by simp [measV, hG], by simp only [over, overL, Nat.reduceAdd, h33]; rfl, Below.refl _ _⟩
      | true =>
        have h42 := h42 hG
        rw [hG] at h33
        simp only [over, overL, Nat.reduceAdd, h33, h42]
        go_simp
        exact hK _ _ ⟨.bool c2, by simp [measV, hG], by simp only [over, overL, Nat.reduceAdd, h33, h42]; rfl, Below.refl _ _⟩
    · intro f w1 hb ⟨h43, _⟩ K hK
      have h43 : f 43 = _ := h43
      simp only [over, overL, Nat.reduceAdd, h43]
      go_simp
      exact hK _ _ ⟨_, rfl, by simp only [over, overL, Nat.reduceAdd, h43]; rfl, Below.refl _ _⟩
    · intro f w1 hb ⟨h44, _⟩
      have h44 : f 44 = _ := h44
      refine ⟨fun hg => ?_, fun hg => ?_⟩
      rotate_left
      · intro hG; exact absurd (h44.trans (by rw [hG])) hg
      have hG := Value.bool.inj (h44.symm.trans hg)
      intro K hK
      simp only [over, overL, Nat.reduceAdd, h44, hG]
      go_simp
      exact hK _ _ ⟨_, (fun _ => ⟨_, _, rfl, cell_later hb hp0, cell_later hb hp1⟩), by simp only [over, overL, Nat.reduceAdd, h44, hG]; rfl, Below.refl _ _⟩
    · intro f w1 hb ⟨h44, _⟩
      have h44 : f 44 = _ := h44
      refine ⟨fun hg => ?_, fun hg => ?_⟩
      rotate_left
      · intro hG; exact absurd (h44.trans (by rw [hG])) hg
      have hG := Value.bool.inj (h44.symm.trans hg)
      intro K hK
      simp only [over, overL, Nat.reduceAdd, h44, hG]
      go_simp
      exact hK _ _ ⟨_, (fun _ => rfl), by simp only [over, overL, Nat.reduceAdd, h44, hG]; rfl, Below.refl _ _⟩
    · intro f w1 hb ⟨h44, h46, _⟩
      have h44 : f 44 = _ := h44
      refine ⟨fun hg => ?_, fun hg => ?_⟩
      rotate_left
      · intro hG; exact absurd (h44.trans (by rw [hG])) hg
      have hG := Value.bool.inj (h44.symm.trans hg)
      intro K hK
      have h46 : f 46 = _ := h46 hG
      have cl : w1.cell? ⟨w.heap.size, 11, none⟩ = some (.int .i64 a.cap) := cell_later hb (cell_later hB (by go_simp))
      simp only [over, overL, Nat.reduceAdd, h44, h46, hG]
      go_simp
      exact hK _ _ ⟨_, (fun _ => rfl), by simp only [over, overL, Nat.reduceAdd, h44, h46, hG]; rfl, Below.refl _ _⟩
    · intro f w1 hb ⟨h44, h47, _⟩
      have h44 : f 44 = _ := h44
      refine ⟨fun hg => ?_, fun hg => ?_⟩
      rotate_left
      · intro hG; exact absurd (h44.trans (by rw [hG])) hg
      have hG := Value.bool.inj (h44.symm.trans hg)
      intro K hK
      have h47 : f 47 = _ := h47 hG
      simp only [over, overL, Nat.reduceAdd, h44, h47, hG]
      go_simp
      exact hK _ _ ⟨_, (fun _ => new_one _ _ _), by simp only [over, overL, Nat.reduceAdd, h44, h47, hG]; rfl, (Below.refl _ _).alloc (Nat.le_refl _) _⟩
    · intro f w1 hb ⟨h44, h45, h48, _⟩
      have h44 : f 44 = _ := h44
      refine ⟨fun hg => ?_, fun hg => ?_⟩
      rotate_left
      · intro hG; exact absurd (h44.trans (by rw [hG])) hg
      have hG := Value.bool.inj (h44.symm.trans hg)
      intro K hK
      replace h45 := h45 hG
      replace h48 := h48 hG
      simp only [over, overL, Nat.reduceAdd, h44, hG]
      go_simp
      refine (every_v [a.cap] 0 0 c3 hc3 _ _ _ (by simp) h45 h48).mono ?_
      rintro e w2 ⟨rfl, hw⟩
      exact hK _ _ ⟨_, (fun _ => rfl), by simp only [over, overL, Nat.reduceAdd, h44, hG]; rfl, hw ▸ Below.refl _ _⟩
    · intro f w1 hb ⟨h44, h49, _⟩ K hK
      have h44 : f 44 = _ := h44
      have h49 : (b1 && c1 && c2) = true → f 49 = _ := h49
      cases hG : (b1 && c1 && c2) with
      | false =>
        rw [hG] at h44
        simp only [over, overL, Nat.reduceAdd, h44]
        go_simp
        exact hK _ _ ⟨.bool false, by simp [measV, hG], by simp only [over, overL, Nat.reduceAdd, h44]; rfl, Below.refl _ _⟩
      | true =>
        have h49 := h49 hG
        rw [hG] at h44
        simp only [over, overL, Nat.reduceAdd, h44, h49]
        go_simp
        exact hK _ _ ⟨.bool c3, by simp [measV, hG], by simp only [over, overL, Nat.reduceAdd, h44, h49]; rfl, Below.refl _ _⟩
    · intro f w1 hb ⟨h50, _⟩ K hK
      have h50 : f 50 = _ := h50
      simp only [over, overL, Nat.reduceAdd, h50]
      go_simp
      exact hK _ _ ⟨_, rfl, by simp only [over, overL, Nat.reduceAdd, h50]; rfl, Below.refl _ _⟩
  · intro f w1 hb h
    have h2 : f 2 = .bool (b1 && c1 && c2 && c3) := h.2.2.2.2.2.2.2.2.2.2.2.2.2.2.2.2.2.2.2.2.2.2.2.2.2.2.2.2.2.2.2.2.2.2.2.1
    simp only [over, overL, h2, Nat.reduceAdd]
    go_wp2
    go_ret
    exact ⟨rfl, ((Below.refl _ _).alloc (Nat.le_refl _) _).trans ((hB.mono (by simp)).trans (hb.mono (by have := hB.size; simp at this; omega)))⟩

set_option maxHeartbeats 3200000 in
theorem isMeasured_10 (a : Wr) (w : World) (hr0 : 0 ≤ a.rows * a.cols) (hr1 : a.rows * a.cols ≤ 384) (hm : 1 < a.rows * a.cols) (hk : (a.kind == 3) = false) (b1 c1 c2 c3 : Bool)
    (hb1 : [a.x, a.y, a.deep].all (inR 0 200000) = b1) (hc1 : [a.pitch].all (inR 1 200000) = c1) (hc2 : [a.wid, a.len, a.hei].all (inR 1 200000) = c2) (hc3 : [a.cap].all (inR 1 1000000000) = c3) :
    Calls Tryz.prog 102 #[wv a] w fun e w' => e = .returned (.bool (b1 && c1 && c2 && c3)) ∧ Below w.heap.size w w' := by
  go_enter Tryz.func102, Tryz.ntmps102
  go_wp2_with (go_at_call 101; refine (within_int _ _ _).mono ?_; rintro e w2 ⟨rfl, rfl⟩)
  obtain ⟨W, hW⟩ : ∃ W, W = (((w.alloc (wobj a)).alloc (.cells #[.int .i64 1] 3)).alloc (.cells #[.int .i64 1000000000] 3)) := ⟨_, rfl⟩
  have hB : Below (w.alloc (wobj a)).heap.size (w.alloc (wobj a)) W := by
    rw [hW]
    repeat (first | exact Below.refl _ _ | refine Below.alloc ?_ (by simp; omega) _ | refine Below.alloc ?_ (by simp) _)
  have hp0 : W.cell? ⟨w.heap.size + 1, 0, none⟩ = some (.int .i64 1) := by rw [hW]; go_simp
  have hp1 : W.cell? ⟨w.heap.size + 1 + 1, 0, none⟩ = some (.int .i64 1000000000) := by rw [hW]; go_simp
  rw [← hW]
  clear hW
  refine region_inv [false, false, true, false, false, false, false, false, false, false, false, false, false, false, false, false, true, true, true, true, true, true, true, true, true, true, true, true, true, true, true, true, true, true, true, true, true, true, true, true, true, true, true, true, true, true, true, true, true, true, true]
    [(16, [], none), (17, [], none), (18, [17], none), (19, [], none), (20, [19], none), (21, [], none), (22, [21], none), (23, [18, 20, 22], none), (24, [16, 23], none), (25, [24], none), (26, [25], some (25, true)), (27, [25, 26], some (25, true)), (28, [25], some (25, true)), (29, [25, 28], some (25, true)), (30, [25, 29], some (25, true)), (31, [25, 27, 30], some (25, true)), (32, [25, 31], none), (33, [32], none), (34, [33], some (33, true)), (35, [33], some (33, true)), (36, [33, 35], some (33, true)), (37, [33], some (33, true)), (38, [33, 37], some (33, true)), (39, [33], some (33, true)), (40, [33, 39], some (33, true)), (41, [33, 36, 38, 40], some (33, true)), (42, [33, 34, 41], some (33, true)), (43, [33, 42], none), (44, [43], none), (45, [44], some (44, true)), (46, [44], some (44, true)), (47, [44, 46], some (44, true)), (48, [44, 47], some (44, true)), (49, [44, 45, 48], some (44, true)), (50, [44, 49], none), (2, [50], none)]
    (measV a 1 1 1000000000 b1 c1 c2 c3 w.heap.size) (by kernel_rfl) (by kernel_rfl) (measV_mono a 1 1 1000000000 b1 c1 c2 c3 w.heap.size) ?_ ?_
  · refine ⟨?_, ?_, ?_, ?_, ?_, ?_, ?_, ?_, ?_, ?_, ?_, ?_, ?_, ?_, ?_, ?_, ?_, ?_, ?_, ?_, ?_, ?_, ?_, ?_, ?_, ?_, ?_, ?_, ?_, ?_, ?_, ?_, ?_, ?_, ?_, ?_, trivial⟩
    · intro f w1 hb _ K hK
      simp only [over, overL, Nat.reduceAdd]
      go_simp
      refine (within_is _ _ _).mono ?_
      rintro e w2 ⟨v, rfl, hv, hb2⟩
      exact hK _ _ ⟨_, hv, by simp only [over, overL, Nat.reduceAdd]; rfl, hb2⟩
    · intro f w1 hb _ K hK
      simp only [over, overL, Nat.reduceAdd]
      go_simp
      exact hK _ _ ⟨_, rfl, by simp only [over, overL, Nat.reduceAdd]; rfl, Below.refl _ _⟩
    · intro f w1 hb ⟨h17, _⟩ K hK
      have h17 : f 17 = _ := h17
      have cl : w1.cell? ⟨w.heap.size, 4, none⟩ = some (.int .i64 a.x) := cell_later hb (cell_later hB (by go_simp))
      simp only [over, overL, Nat.reduceAdd, h17]
      go_simp
      exact hK _ _ ⟨_, rfl, by simp only [over, overL, Nat.reduceAdd, h17]; rfl, Below.refl _ _⟩
    · intro f w1 hb _ K hK
      simp only [over, overL, Nat.reduceAdd]
      go_simp
      exact hK _ _ ⟨_, rfl, by simp only [over, overL, Nat.reduceAdd]; rfl, Below.refl _ _⟩
    · intro f w1 hb ⟨h19, _⟩ K hK
      have h19 : f 19 = _ := h19
      have cl : w1.cell? ⟨w.heap.size, 5, none⟩ = some (.int .i64 a.y) := cell_later hb (cell_later hB (by go_simp))
      simp only [over, overL, Nat.reduceAdd, h19]
      go_simp
      exact hK _ _ ⟨_, rfl, by simp only [over, overL, Nat.reduceAdd, h19]; rfl, Below.refl _ _⟩
    · intro f w1 hb _ K hK
      simp only [over, overL, Nat.reduceAdd]
      go_simp
      exact hK _ _ ⟨_, rfl, by simp only [over, overL, Nat.reduceAdd]; rfl, Below.refl _ _⟩
    · intro f w1 hb ⟨h21, _⟩ K hK
      have h21 : f 21 = _ := h21
      have cl : w1.cell? ⟨w.heap.size, 10, none⟩ = some (.int .i64 a.deep) := cell_later hb (cell_later hB (by go_simp))
      simp only [over, overL, Nat.reduceAdd, h21]
      go_simp
      exact hK _ _ ⟨_, rfl, by simp only [over, overL, Nat.reduceAdd, h21]; rfl, Below.refl _ _⟩
    · intro f w1 hb ⟨h18, h20, h22, _⟩ K hK
      have h18 : f 18 = _ := h18
      have h20 : f 20 = _ := h20
      have h22 : f 22 = _ := h22
      simp only [over, overL, Nat.reduceAdd, h18, h20, h22]
      go_simp
      exact hK _ _ ⟨_, new_three _ _ _ _ _, by simp only [over, overL, Nat.reduceAdd, h18, h20, h22]; rfl, (Below.refl _ _).alloc (Nat.le_refl _) _⟩
    · intro f w1 hb ⟨h16, h23, _⟩ K hK
      simp only [over, overL, Nat.reduceAdd]
      go_simp
      refine (every_v [a.x, a.y, a.deep] 0 200000 b1 hb1 _ _ _ (by simp) h16 h23).mono ?_
      rintro e w2 ⟨rfl, hw⟩
      exact hK _ _ ⟨_, rfl, by simp only [over, overL, Nat.reduceAdd]; rfl, hw ▸ Below.refl _ _⟩
    · intro f w1 hb ⟨h24, _⟩ K hK
      have h24 : f 24 = _ := h24
      simp only [over, overL, Nat.reduceAdd, h24]
      go_simp
      exact hK _ _ ⟨_, rfl, by simp only [over, overL, Nat.reduceAdd, h24]; rfl, Below.refl _ _⟩
    · intro f w1 hb ⟨h25, _⟩
      have h25 : f 25 = _ := h25
      refine ⟨fun hg => ?_, fun hg => ?_⟩
      rotate_left
      · intro hG; exact absurd (h25.trans (by rw [hG])) hg
      have hG := Value.bool.inj (h25.symm.trans hg)
      intro K hK
      simp only [over, overL, Nat.reduceAdd, h25, hG]
      go_simp
      exact hK _ _ ⟨_, (fun _ => rfl), by simp only [over, overL, Nat.reduceAdd, h25, hG]; rfl, Below.refl _ _⟩
    · intro f w1 hb ⟨h25, h26, _⟩
      have h25 : f 25 = _ := h25
      refine ⟨fun hg => ?_, fun hg => ?_⟩
      rotate_left
      · intro hG; exact absurd (h25.trans (by rw [hG])) hg
      have hG := Value.bool.inj (h25.symm.trans hg)
      intro K hK
      have h26 : f 26 = _ := h26 hG
      simp only [over, overL, Nat.reduceAdd, h25, h26, hG]
      go_simp
      refine (within_is _ _ _).mono ?_
      rintro e w2 ⟨v, rfl, hv, hb2⟩
      exact hK _ _ ⟨_, (fun _ => hv), by simp only [over, overL, Nat.reduceAdd, h25, h26, hG]; rfl, hb2⟩
    · intro f w1 hb ⟨h25, _⟩
      have h25 : f 25 = _ := h25
      refine ⟨fun hg => ?_, fun hg => ?_⟩
      rotate_left
      · intro hG; exact absurd (h25.trans (by rw [hG])) hg
      have hG := Value.bool.inj (h25.symm.trans hg)
      intro K hK
      simp only [over, overL, Nat.reduceAdd, h25, hG]
      go_simp
      exact hK _ _ ⟨_, (fun _ => rfl), by simp only [over, overL, Nat.reduceAdd, h25, hG]; rfl, Below.refl _ _⟩
    · intro f w1 hb ⟨h25, h28, _⟩
      have h25 : f 25 = _ := h25
      refine ⟨fun hg => ?_, fun hg => ?_⟩
      rotate_left
      · intro hG; exact absurd (h25.trans (by rw [hG])) hg
      have hG := Value.bool.inj (h25.symm.trans hg)
      intro K hK
      have h28 : f 28 = _ := h28 hG
      have cl : w1.cell? ⟨w.heap.size, 6, none⟩ = some (.int .i64 a.pitch) := cell_later hb (cell_later hB (by go_simp))
      simp only [over, overL, Nat.reduceAdd, h25, h28, hG]
      go_simp
      exact hK _ _ ⟨_, (fun _ => rfl), by simp only [over, overL, Nat.reduceAdd, h25, h28, hG]; rfl, Below.refl _ _⟩
    · intro f w1 hb ⟨h25, h29, _⟩
      have h25 : f 25 = _ := h25
      refine ⟨fun hg => ?_, fun hg => ?_⟩
      rotate_left
      · intro hG; exact absurd (h25.trans (by rw [hG])) hg
      have hG := Value.bool.inj (h25.symm.trans hg)
      intro K hK
      have h29 : f 29 = _ := h29 hG
      simp only [over, overL, Nat.reduceAdd, h25, h29, hG]
      go_simp
      exact hK _ _ ⟨_, (fun _ => new_one _ _ _), by simp only [over, overL, Nat.reduceAdd, h25, h29, hG]; rfl, (Below.refl _ _).alloc (Nat.le_refl _) _⟩
    · intro f w1 hb ⟨h25, h27, h30, _⟩
      have h25 : f 25 = _ := h25
      refine ⟨fun hg => ?_, fun hg => ?_⟩
      rotate_left
      · intro hG; exact absurd (h25.trans (by rw [hG])) hg
      have hG := Value.bool.inj (h25.symm.trans hg)
      intro K hK
      replace h27 := h27 hG
      replace h30 := h30 hG
      simp only [over, overL, Nat.reduceAdd, h25, hG]
      go_simp
      refine (every_v [a.pitch] 1 200000 c1 hc1 _ _ _ (by simp) h27 h30).mono ?_
      rintro e w2 ⟨rfl, hw⟩
      exact hK _ _ ⟨_, (fun _ => rfl), by simp only [over, overL, Nat.reduceAdd, h25, hG]; rfl, hw ▸ Below.refl _ _⟩
    · intro f w1 hb ⟨h25, h31, _⟩ K hK
      have h25 : f 25 = _ := h25
      have h31 : b1 = true → f 31 = _ := h31
      cases hG : b1 with
      | false =>
        rw [hG] at h25
        simp only [over, overL, Nat.reduceAdd, h25]
        go_simp
        exact hK _ _ ⟨.bool false, by simp [measV, hG], by simp only [over, overL, Nat.reduceAdd, h25]; rfl, Below.refl _ _⟩
      | true =>
        have h31 := h31 hG
        rw [hG] at h25
        simp only [over, overL, Nat.reduceAdd, h25, h31]
        go_simp
        exact hK _ _ ⟨.bool c1, by simp [measV, hG], by simp only [over, overL, Nat.reduceAdd, h25, h31]; rfl, Below.refl _ _⟩
    · intro f w1 hb ⟨h32, _⟩ K hK
      have h32 : f 32 = _ := h32
      simp only [over, overL, Nat.reduceAdd, h32]
      go_simp
      exact hK _ _ ⟨_, rfl, by simp only [over, overL, Nat.reduceAdd, h32]; rfl, Below.refl _ _⟩
    · intro f w1 hb ⟨h33, _⟩
      have h33 : f 33 = _ := h33
      refine ⟨fun hg => ?_, fun hg => ?_⟩
      rotate_left
      · intro hG; exact absurd (h33.trans (by rw [hG])) hg
      have hG := Value.bool.inj (h33.symm.trans hg)
      intro K hK
      simp only [over, overL, Nat.reduceAdd, h33, hG]
      go_simp
      refine (within_is _ _ _).mono ?_
      rintro e w2 ⟨v, rfl, hv, hb2⟩
      exact hK _ _ ⟨_, (fun _ => hv), by simp only [over, overL, Nat.reduceAdd, h33, hG]; rfl, hb2⟩
    · intro f w1 hb ⟨h33, _⟩
      have h33 : f 33 = _ := h33
      refine ⟨fun hg => ?_, fun hg => ?_⟩
      rotate_left
      · intro hG; exact absurd (h33.trans (by rw [hG])) hg
      have hG := Value.bool.inj (h33.symm.trans hg)
      intro K hK
      simp only [over, overL, Nat.reduceAdd, h33, hG]
      go_simp
      exact hK _ _ ⟨_, (fun _ => rfl), by simp only [over, overL, Nat.reduceAdd, h33, hG]; rfl, Below.refl _ _⟩
    · intro f w1 hb ⟨h33, h35, _⟩
      have h33 : f 33 = _ := h33
      refine ⟨fun hg => ?_, fun hg => ?_⟩
      rotate_left
      · intro hG; exact absurd (h33.trans (by rw [hG])) hg
      have hG := Value.bool.inj (h33.symm.trans hg)
      intro K hK
      have h35 : f 35 = _ := h35 hG
      have cl : w1.cell? ⟨w.heap.size, 7, none⟩ = some (.int .i64 a.wid) := cell_later hb (cell_later hB (by go_simp))
      simp only [over, overL, Nat.reduceAdd, h33, h35, hG]
      go_simp
      exact hK _ _ ⟨_, (fun _ => rfl), by simp only [over, overL, Nat.reduceAdd, h33, h35, hG]; rfl, Below.refl _ _⟩
    · intro f w1 hb ⟨h33, _⟩
      have h33 : f 33 = _ := h33
      refine ⟨fun hg => ?_, fun hg => ?_⟩
      rotate_left
      · intro hG; exact absurd (h33.trans (by rw [hG])) hg
      have hG := Value.bool.inj (h33.symm.trans hg)
      intro K hK
      simp only [over, overL, Nat.reduceAdd, h33, hG]
      go_simp
      exact hK _ _ ⟨_, (fun _ => rfl), by simp only [over, overL, Nat.reduceAdd, h33, hG]; rfl, Below.refl _ _⟩
    · intro f w1 hb ⟨h33, h37, _⟩
      have h33 : f 33 = _ := h33
      refine ⟨fun hg => ?_, fun hg => ?_⟩
      rotate_left
      · intro hG; exact absurd (h33.trans (by rw [hG])) hg
      have hG := Value.bool.inj (h33.symm.trans hg)
      intro K hK
      have h37 : f 37 = _ := h37 hG
      have cl : w1.cell? ⟨w.heap.size, 8, none⟩ = some (.int .i64 a.len) := cell_later hb (cell_later hB (by go_simp))
      simp only [over, overL, Nat.reduceAdd, h33, h37, hG]
      go_simp
      exact hK _ _ ⟨_, (fun _ => rfl), by simp only [over, overL, Nat.reduceAdd, h33, h37, hG]; rfl, Below.refl _ _⟩
    · intro f w1 hb ⟨h33, _⟩
      have h33 : f 33 = _ := h33
      refine ⟨fun hg => ?_, fun hg => ?_⟩
      rotate_left
      · intro hG; exact absurd (h33.trans (by rw [hG])) hg
      have hG := Value.bool.inj (h33.symm.trans hg)
      intro K hK
      simp only [over, overL, Nat.reduceAdd, h33, hG]
      go_simp
      exact hK _ _ ⟨_, (fun _ => rfl), by simp only [over, overL, Nat.reduceAdd, h33, hG]; rfl, Below.refl _ _⟩
    · intro f w1 hb ⟨h33, h39, _⟩
      have h33 : f 33 = _ := h33
      refine ⟨fun hg => ?_, fun hg => ?_⟩
      rotate_left
      · intro hG; exact absurd (h33.trans (by rw [hG])) hg
      have hG := Value.bool.inj (h33.symm.trans hg)
      intro K hK
      have h39 : f 39 = _ := h39 hG
      have cl : w1.cell? ⟨w.heap.size, 9, none⟩ = some (.int .i64 a.hei) := cell_later hb (cell_later hB (by go_simp))
      simp only [over, overL, Nat.reduceAdd, h33, h39, hG]
      go_simp
      exact hK _ _ ⟨_, (fun _ => rfl), by simp only [over, overL, Nat.reduceAdd, h33, h39, hG]; rfl, Below.refl _ _⟩
    · intro f w1 hb ⟨h33, h36, h38, h40, _⟩
      have h33 : f 33 = _ := h33
      refine ⟨fun hg => ?_, fun hg => ?_⟩
      rotate_left
      · intro hG; exact absurd (h33.trans (by rw [hG])) hg
      have hG := Value.bool.inj (h33.symm.trans hg)
      intro K hK
      have h36 : f 36 = _ := h36 hG
      have h38 : f 38 = _ := h38 hG
      have h40 : f 40 = _ := h40 hG
      simp only [over, overL, Nat.reduceAdd, h33, h36, h38, h40, hG]
      go_simp
      exact hK _ _ ⟨_, (fun _ => new_three _ _ _ _ _), by simp only [over, overL, Nat.reduceAdd, h33, h36, h38, h40, hG]; rfl, (Below.refl _ _).alloc (Nat.le_refl _) _⟩
    · intro f w1 hb ⟨h33, h34, h41, _⟩
      have h33 : f 33 = _ := h33
      refine ⟨fun hg => ?_, fun hg => ?_⟩
      rotate_left
      · intro hG; exact absurd (h33.trans (by rw [hG])) hg
      have hG := Value.bool.inj (h33.symm.trans hg)
      intro K hK
      replace h34 := h34 hG
      replace h41 := h41 hG
      simp only [over, overL, Nat.reduceAdd, h33, hG]
      go_simp
      refine (every_v [a.wid, a.len, a.hei] 1 200000 c2 hc2 _ _ _ (by simp) h34 h41).mono ?_
      rintro e w2 ⟨rfl, hw⟩
      exact hK _ _ ⟨_, (fun _ => rfl), by simp only [over, overL, Nat.reduceAdd, h33, hG]; rfl, hw ▸ Below.refl _ _⟩
    · intro f w1 hb ⟨h33, h42, _⟩ K hK
      have h33 : f 33 = _ := h33
      have h42 : (b1 && c1) = true → f 42 = _ := h42
      cases hG : (b1 && c1) with
      | false =>
        rw [hG] at h33
        simp only [over, overL, Nat.reduceAdd, h33]
        go_simp
        exact hK _ _ ⟨.bool false, by simp [measV, hG], by simp only [over, overL, Nat.reduceAdd, h33]; rfl, Below.refl _ _⟩
      | true =>
        have h42 := h42 hG
        rw [hG] at h33
        simp only [over, overL, Nat.reduceAdd, h33, h42]
        go_simp
        exact hK _ _ ⟨.bool c2, by simp [measV, hG], by simp only [over, overL, Nat.reduceAdd, h33, h42]; rfl, Below.refl _ _⟩
    · intro f w1 hb ⟨h43, _⟩ K hK
      have h43 : f 43 = _ := h43
      simp only [over, overL, Nat.reduceAdd, h43]
      go_simp
      exact hK _ _ ⟨_, rfl, by simp only [over, overL, Nat.reduceAdd, h43]; rfl, Below.refl _ _⟩
    · intro f w1 hb ⟨h44, _⟩
      have h44 : f 44 = _ := h44
      refine ⟨fun hg => ?_, fun hg => ?_⟩
      rotate_left
      · intro hG; exact absurd (h44.trans (by rw [hG])) hg
      have hG := Value.bool.inj (h44.symm.trans hg)
      intro K hK
      simp only [over, overL, Nat.reduceAdd, h44, hG]
      go_simp
      exact hK _ _ ⟨_, (fun _ => ⟨_, _, rfl, cell_later hb hp0, cell_later hb hp1⟩), by simp only [over, overL, Nat.reduceAdd, h44, hG]; rfl, Below.refl _ _⟩
    · intro f w1 hb ⟨h44, _⟩
      have h44 : f 44 = _ := h44
      refine ⟨fun hg => ?_, fun hg => ?_⟩
      rotate_left
      · intro hG; exact absurd (h44.trans (by rw [hG])) hg
      have hG := Value.bool.inj (h44.symm.trans hg)
      intro K hK
      simp only [over, overL, Nat.reduceAdd, h44, hG]
      go_simp
      exact hK _ _ ⟨_, (fun _ => rfl), by simp only [over, overL, Nat.reduceAdd, h44, hG]; rfl, Below.refl _ _⟩
    · intro f w1 hb ⟨h44, h46, _⟩
      have h44 : f 44 = _ := h44
      refine ⟨fun hg => ?_, fun hg => ?_⟩
      rotate_left
      · intro hG; exact absurd (h44.trans (by rw [hG])) hg
      have hG := Value.bool.inj (h44.symm.trans hg)
      intro K hK
      have h46 : f 46 = _ := h46 hG
      have cl : w1.cell? ⟨w.heap.size, 11, none⟩ = some (.int .i64 a.cap) := cell_later hb (cell_later hB (by go_simp))
      simp only [over, overL, Nat.reduceAdd, h44, h46, hG]
      go_simp
      exact hK _ _ ⟨_, (fun _ => rfl), by simp only [over, overL, Nat.reduceAdd, h44, h46, hG]; rfl, Below.refl _ _⟩
    · intro f w1 hb ⟨h44, h47, _⟩
      have h44 : f 44 = _ := h44
      refine ⟨fun hg => ?_, fun hg => ?_⟩
      rotate_left
      · intro hG; exact absurd (h44.trans (by rw [hG])) hg
      have hG := Value.bool.inj (h44.symm.trans hg)
      intro K hK
      have h47 : f 47 = _ := h47 hG
      simp only [over, overL, Nat.reduceAdd, h44, h47, hG]
      go_simp
      exact hK _ _ ⟨_, (fun _ => new_one _ _ _), by simp only [over, overL, Nat.reduceAdd, h44, h47, hG]; rfl, (Below.refl _ _).alloc (Nat.le_refl _) _⟩
    · intro f w1 hb ⟨h44, h45, h48, _⟩
      have h44 : f 44 = _ := h44
      refine ⟨fun hg => ?_, fun hg => ?_⟩
      rotate_left
      · intro hG; exact absurd (h44.trans (by rw [hG])) hg
      have hG := Value.bool.inj (h44.symm.trans hg)
      intro K hK
      replace h45 := h45 hG
      replace h48 := h48 hG
      simp only [over, overL, Nat.reduceAdd, h44, hG]
      go_simp
      refine (every_v [a.cap] 1 1000000000 c3 hc3 _ _ _ (by simp) h45 h48).mono ?_
      rintro e w2 ⟨rfl, hw⟩
      exact hK _ _ ⟨_, (fun _ => rfl), by simp only [over, overL, Nat.reduceAdd, h44, hG]; rfl, hw ▸ Below.refl _ _⟩
    · intro f w1 hb ⟨h44, h49, _⟩ K hK
      have h44 : f 44 = _ := h44
      have h49 : (b1 && c1 && c2) = true → f 49 = _ := h49
      cases hG : (b1 && c1 && c2) with
      | false =>
        rw [hG] at h44
        simp only [over, overL, Nat.reduceAdd, h44]
        go_simp
        exact hK _ _ ⟨.bool false, by simp [measV, hG], by simp only [over, overL, Nat.reduceAdd, h44]; rfl, Below.refl _ _⟩
      | true =>
        have h49 := h49 hG
        rw [hG] at h44
        simp only [over, overL, Nat.reduceAdd, h44, h49]
        go_simp
        exact hK _ _ ⟨.bool c3, by simp [measV, hG], by simp only [over, overL, Nat.reduceAdd, h44, h49]; rfl, Below.refl _ _⟩
    · intro f w1 hb ⟨h50, _⟩ K hK
      have h50 : f 50 = _ := h50
      simp only [over, overL, Nat.reduceAdd, h50]
      go_simp
      exact hK _ _ ⟨_, rfl, by simp only [over, overL, Nat.reduceAdd, h50]; rfl, Below.refl _ _⟩
  · intro f w1 hb h
    have h2 : f 2 = .bool (b1 && c1 && c2 && c3) := h.2.2.2.2.2.2.2.2.2.2.2.2.2.2.2.2.2.2.2.2.2.2.2.2.2.2.2.2.2.2.2.2.2.2.2.1
    simp only [over, overL, h2, Nat.reduceAdd]
    go_wp2
    go_ret
    exact ⟨rfl, ((Below.refl _ _).alloc (Nat.le_refl _) _).trans ((hB.mono (by simp)).trans (hb.mono (by have := hB.size; simp at this; omega)))⟩

set_option maxHeartbeats 3200000 in
theorem isMeasured_11 (a : Wr) (w : World) (hr0 : 0 ≤ a.rows * a.cols) (hr1 : a.rows * a.cols ≤ 384) (hm : 1 < a.rows * a.cols) (hk : a.kind = 3) (b1 c1 c2 c3 : Bool)
    (hb1 : [a.x, a.y, a.deep].all (inR 0 200000) = b1) (hc1 : [a.pitch].all (inR 1 200000) = c1) (hc2 : [a.wid, a.len, a.hei].all (inR 1 200000) = c2) (hc3 : [a.cap].all (inR 0 0) = c3) :
    Calls Tryz.prog 102 #[wv a] w fun e w' => e = .returned (.bool (b1 && c1 && c2 && c3)) ∧ Below w.heap.size w w' := by
  go_enter Tryz.func102, Tryz.ntmps102
  go_wp2_with (go_at_call 101; refine (within_int _ _ _).mono ?_; rintro e w2 ⟨rfl, rfl⟩)
  obtain ⟨W, hW⟩ : ∃ W, W = (((((w.alloc (wobj a)).alloc (.cells #[.int .i64 1] 3)).alloc (.cells #[.int .i64 1000000000] 3)).alloc (.cells #[.int .i64 0] 3)).alloc (.cells #[.int .i64 0] 3)) := ⟨_, rfl⟩
  have hB : Below (w.alloc (wobj a)).heap.size (w.alloc (wobj a)) W := by
    rw [hW]
    repeat (first | exact Below.refl _ _ | refine Below.alloc ?_ (by simp; omega) _ | refine Below.alloc ?_ (by simp) _)
  have hp0 : W.cell? ⟨w.heap.size + 1 + 1 + 1, 0, none⟩ = some (.int .i64 0) := by rw [hW]; go_simp
  have hp1 : W.cell? ⟨w.heap.size + 1 + 1 + 1 + 1, 0, none⟩ = some (.int .i64 0) := by rw [hW]; go_simp
  rw [← hW]
  clear hW
  refine region_inv [false, false, true, false, false, false, false, false, false, false, false, false, false, false, false, false, true, true, true, true, true, true, true, true, true, true, true, true, true, true, true, true, true, true, true, true, true, true, true, true, true, true, true, true, true, true, true, true, true, true, true]
    [(16, [], none), (17, [], none), (18, [17], none), (19, [], none), (20, [19], none), (21, [], none), (22, [21], none), (23, [18, 20, 22], none), (24, [16, 23], none), (25, [24], none), (26, [25], some (25, true)), (27, [25, 26], some (25, true)), (28, [25], some (25, true)), (29, [25, 28], some (25, true)), (30, [25, 29], some (25, true)), (31, [25, 27, 30], some (25, true)), (32, [25, 31], none), (33, [32], none), (34, [33], some (33, true)), (35, [33], some (33, true)), (36, [33, 35], some (33, true)), (37, [33], some (33, true)), (38, [33, 37], some (33, true)), (39, [33], some (33, true)), (40, [33, 39], some (33, true)), (41, [33, 36, 38, 40], some (33, true)), (42, [33, 34, 41], some (33, true)), (43, [33, 42], none), (44, [43], none), (45, [44], some (44, true)), (46, [44], some (44, true)), (47, [44, 46], some (44, true)), (48, [44, 47], some (44, true)), (49, [44, 45, 48], some (44, true)), (50, [44, 49], none), (2, [50], none)]
    (measV a 1 0 0 b1 c1 c2 c3 w.heap.size) (by kernel_rfl) (by kernel_rfl) (measV_mono a 1 0 0 b1 c1 c2 c3 w.heap.size) ?_ ?_
  · refine ⟨?_, ?_, ?_, ?_, ?_, ?_, ?_, ?_, ?_, ?_, ?_, ?_, ?_, ?_, ?_, ?_, ?_, ?_, ?_, ?_, ?_, ?_, ?_, ?_, ?_, ?_, ?_, ?_, ?_, ?_, ?_, ?_, ?_, ?_, ?_, ?_, trivial⟩
    · intro f w1 hb _ K hK
      simp only [over, overL, Nat.reduceAdd]
      go_simp
      refine (within_is _ _ _).mono ?_
      rintro e w2 ⟨v, rfl, hv, hb2⟩
      exact hK _ _ ⟨_, hv, by simp only [over, overL, Nat.reduceAdd]; rfl, hb2⟩
    · intro f w1 hb _ K hK
      simp only [over, overL, Nat.reduceAdd]
      go_simp
      exact hK _ _ ⟨_, rfl, by simp only [over, overL, Nat.reduceAdd]; rfl, Below.refl _ _⟩
    · intro f w1 hb ⟨h17, _⟩ K hK
      have h17 : f 17 = _ := h17
      have cl : w1.cell? ⟨w.heap.size, 4, none⟩ = some (.int .i64 a.x) := cell_later hb (cell_later hB (by go_simp))
      simp only [over, overL, Nat.reduceAdd, h17]
      go_simp
      exact hK _ _ ⟨_, rfl, by simp only [over, overL, Nat.reduceAdd, h17]; rfl, Below.refl _ _⟩
    · intro f w1 hb _ K hK
      simp only [over, overL, Nat.reduceAdd]
      go_simp
      exact hK _ _ ⟨_, rfl, by simp only [over, overL, Nat.reduceAdd]; rfl, Below.refl _ _⟩
    · intro f w1 hb ⟨h19, _⟩ K hK
      have h19 : f 19 = _ := h19
      have cl : w1.cell? ⟨w.heap.size, 5, none⟩ = some (.int .i64 a.y) := cell_later hb (cell_later hB (by go_simp))
      simp only [over, overL, Nat.reduceAdd, h19]
      go_simp
      exact hK _ _ ⟨_, rfl, by simp only [over, overL, Nat.reduceAdd, h19]; rfl, Below.refl _ _⟩
    · intro f w1 hb _ K hK
      simp only [over, overL, Nat.reduceAdd]
      go_simp
      exact hK _ _ ⟨_, rfl, by simp only [over, overL, Nat.reduceAdd]; rfl, Below.refl _ _⟩
    · intro f w1 hb ⟨h21, _⟩ K hK
      have h21 : f 21 = _ := h21
      have cl : w1.cell? ⟨w.heap.size, 10, none⟩ = some (.int .i64 a.deep) := cell_later hb (cell_later hB (by go_simp))
      simp only [over, overL, Nat.reduceAdd, h21]
      go_simp
      exact hK _ _ ⟨_, rfl, by simp only [over, overL, Nat.reduceAdd, h21]; rfl, Below.refl _ _⟩
    · intro f w1 hb ⟨h18, h20, h22, _⟩ K hK
      have h18 : f 18 = _ := h18
      have h20 : f 20 = _ := h20
      have h22 : f 22 = _ := h22
      simp only [over, overL, Nat.reduceAdd, h18, h20, h22]
      go_simp
      exact hK _ _ ⟨_, new_three _ _ _ _ _, by simp only [over, overL, Nat.reduceAdd, h18, h20, h22]; rfl, (Below.refl _ _).alloc (Nat.le_refl _) _⟩
    · intro f w1 hb ⟨h16, h23, _⟩ K hK
      simp only [over, overL, Nat.reduceAdd]
      go_simp
      refine (every_v [a.x, a.y, a.deep] 0 200000 b1 hb1 _ _ _ (by simp) h16 h23).mono ?_
      rintro e w2 ⟨rfl, hw⟩
      exact hK _ _ ⟨_, rfl, by simp only [over, overL, Nat.reduceAdd]; rfl, hw ▸ Below.refl _ _⟩
    · intro f w1 hb ⟨h24, _⟩ K hK
      have h24 : f 24 = _ := h24
      simp only [over, overL, Nat.reduceAdd, h24]
      go_simp
      exact hK _ _ ⟨_, rfl, by simp only [over, overL, Nat.reduceAdd, h24]; rfl, Below.refl _ _⟩
    · intro f w1 hb ⟨h25, _⟩
      have h25 : f 25 = _ := h25
      refine ⟨fun hg => ?_, fun hg => ?_⟩
      rotate_left
      · intro hG; exact absurd (h25.trans (by rw [hG])) hg
      have hG := Value.bool.inj (h25.symm.trans hg)
      intro K hK
      simp only [over, overL, Nat.reduceAdd, h25, hG]
      go_simp
      exact hK _ _ ⟨_, (fun _ => rfl), by simp only [over, overL, Nat.reduceAdd, h25, hG]; rfl, Below.refl _ _⟩
    · intro f w1 hb ⟨h25, h26, _⟩
      have h25 : f 25 = _ := h25
      refine ⟨fun hg => ?_, fun hg => ?_⟩
      rotate_left
      · intro hG; exact absurd (h25.trans (by rw [hG])) hg
      have hG := Value.bool.inj (h25.symm.trans hg)
      intro K hK
      have h26 : f 26 = _ := h26 hG
      simp only [over, overL, Nat.reduceAdd, h25, h26, hG]
      go_simp
      refine (within_is _ _ _).mono ?_
      rintro e w2 ⟨v, rfl, hv, hb2⟩
      exact hK _ _ ⟨_, (fun _ => hv), by simp only [over, overL, Nat.reduceAdd, h25, h26, hG]; rfl, hb2⟩
    · intro f w1 hb ⟨h25, _⟩
      have h25 : f 25 = _ := h25
      refine ⟨fun hg => ?_, fun hg => ?_⟩
      rotate_left
      · intro hG; exact absurd (h25.trans (by rw [hG])) hg
      have hG := Value.bool.inj (h25.symm.trans hg)
      intro K hK
      simp only [over, overL, Nat.reduceAdd, h25, hG]
      go_simp
      exact hK _ _ ⟨_, (fun _ => rfl), by simp only [over, overL, Nat.reduceAdd, h25, hG]; rfl, Below.refl _ _⟩
    · intro f w1 hb ⟨h25, h28, _⟩
      have h25 : f 25 = _ := h25
      refine ⟨fun hg => ?_, fun hg => ?_⟩
      rotate_left
      · intro hG; exact absurd (h25.trans (by rw [hG])) hg
      have hG := Value.bool.inj (h25.symm.trans hg)
      intro K hK
      have h28 : f 28 = _ := h28 hG
      have cl : w1.cell? ⟨w.heap.size, 6, none⟩ = some (.int .i64 a.pitch) := cell_later hb (cell_later hB (by go_simp))
      simp only [over, overL, Nat.reduceAdd, h25, h28, hG]
      go_simp
      exact hK _ _ ⟨_, (fun _ => rfl), by simp only [over, overL, Nat.reduceAdd, h25, h28, hG]; rfl, Below.refl _ _⟩
    · intro f w1 hb ⟨h25, h29, _⟩
      have h25 : f 25 = _ := h25
      refine ⟨fun hg => ?_, fun hg => ?_⟩
      rotate_left
      · intro hG; exact absurd (h25.trans (by rw [hG])) hg
      have hG := Value.bool.inj (h25.symm.trans hg)
      intro K hK
      have h29 : f 29 = _ := h29 hG
      simp only [over, overL, Nat.reduceAdd, h25, h29, hG]
      go_simp
      exact hK _ _ ⟨_, (fun _ => new_one _ _ _), by simp only [over, overL, Nat.reduceAdd, h25, h29, hG]; rfl, (Below.refl _ _).alloc (Nat.le_refl _) _⟩
    · intro f w1 hb ⟨h25, h27, h30, _⟩
      have h25 : f 25 = _ := h25
      refine ⟨fun hg => ?_, fun hg => ?_⟩
      rotate_left
      · intro hG; exact absurd (h25.trans (by rw [hG])) hg
      have hG := Value.bool.inj (h25.symm.trans hg)
      intro K hK
      replace h27 := h27 hG
      replace h30 := h30 hG
      simp only [over, overL, Nat.reduceAdd, h25, hG]
      go_simp
      refine (every_v [a.pitch] 1 200000 c1 hc1 _ _ _ (by simp) h27 h30).mono ?_
      rintro e w2 ⟨rfl, hw⟩
      exact hK _ _ ⟨_, (fun _ => rfl), by simp only [over, overL, Nat.reduceAdd, h25, hG]; rfl, hw ▸ Below.refl _ _⟩
    · intro f w1 hb ⟨h25, h31, _⟩ K hK
      have h25 : f 25 = _ := h25
      have h31 : b1 = true → f 31 = _ := h31
      cases hG : b1 with
      | false =>
        rw [hG] at h25
        simp only [over, overL, Nat.reduceAdd, h25]
        go_simp
        exact hK _ _ ⟨.bool false, by simp [measV, hG], by simp only [over, overL, Nat.reduceAdd, h25]; rfl, Below.refl _ _⟩
      | true =>
        have h31 := h31 hG
        rw [hG] at h25
        simp only [over, overL, Nat.reduceAdd, h25, h31]
        go_simp
        exact hK _ _ ⟨.bool c1, by simp [measV, hG], by simp only [over, overL, Nat.reduceAdd, h25, h31]; rfl, Below.refl _ _⟩
    · intro f w1 hb ⟨h32, _⟩ K hK
      have h32 : f 32 = _ := h32
      simp only [over, overL, Nat.reduceAdd, h32]
      go_simp
      exact hK _ _ ⟨_, rfl, by simp only [over, overL, Nat.reduceAdd, h32]; rfl, Below.refl _ _⟩
    · intro f w1 hb ⟨h33, _⟩
      have h33 : f 33 = _ := h33
      refine ⟨fun hg => ?_, fun hg => ?_⟩
      rotate_left
      · intro hG; exact absurd (h33.trans (by rw [hG])) hg
      have hG := Value.bool.inj (h33.symm.trans hg)
      intro K hK
      simp only [over, overL, Nat.reduceAdd, h33, hG]
      go_simp
      refine (within_is _ _ _).mono ?_
      rintro e w2 ⟨v, rfl, hv, hb2⟩
      exact hK _ _ ⟨_, (fun _ => hv), by simp only [over, overL, Nat.reduceAdd, h33, hG]; rfl, hb2⟩
    · intro f w1 hb ⟨h33, _⟩
      have h33 : f 33 = _ := h33
      refine ⟨fun hg => ?_, fun hg => ?_⟩
      rotate_left
      · intro hG; exact absurd (h33.trans (by rw [hG])) hg
      have hG := Value.bool.inj (h33.symm.trans hg)
      intro K hK
      simp only [over, overL, Nat.reduceAdd, h33, hG]
      go_simp
      exact hK _ _ ⟨_, (fun _ => rfl), by simp only [over, overL, Nat.reduceAdd, h33, hG]; rfl, Below.refl _ _⟩
    · intro f w1 hb ⟨h33, h35, _⟩
      have h33 : f 33 = _ := h33
      refine ⟨fun hg => ?_, fun hg => ?_⟩
      rotate_left
      · intro hG; exact absurd (h33.trans (by rw [hG])) hg
      have hG := Value.bool.inj (h33.symm.trans hg)
      intro K hK
      have h35 : f 35 = _ := h35 hG
      have cl : w1.cell? ⟨w.heap.size, 7, none⟩ = some (.int .i64 a.wid) := cell_later hb (cell_later hB (by go_simp))
      simp only [over, overL, Nat.reduceAdd, h33, h35, hG]
      go_simp
      exact hK _ _ ⟨_, (fun _ => rfl), by simp only [over, overL, Nat.reduceAdd, h33, h35, hG]; rfl, Below.refl _ _⟩
    · intro f w1 hb ⟨h33, _⟩
      have h33 : f 33 = _ := h33
      refine ⟨fun hg => ?_, fun hg => ?_⟩
      rotate_left
      · intro hG; exact absurd (h33.trans (by rw [hG])) hg
      have hG := Value.bool.inj (h33.symm.trans hg)
      intro K hK
      simp only [over, overL, Nat.reduceAdd, h33, hG]
      go_simp
      exact hK _ _ ⟨_, (fun _ => rfl), by simp only [over, overL, Nat.reduceAdd, h33, hG]; rfl, Below.refl _ _⟩
    · intro f w1 hb ⟨h33, h37, _⟩
      have h33 : f 33 = _ := h33
      refine ⟨fun hg => ?_, fun hg => ?_⟩
      rotate_left
      · intro hG; exact absurd (h33.trans (by rw [hG])) hg
      have hG := Value.bool.inj (h33.symm.trans hg)
      intro K hK
      have h37 : f 37 = _ := h37 hG
      have cl : w1.cell? ⟨w.heap.size, 8, none⟩ = some (.int .i64 a.len) := cell_later hb (cell_later hB (by go_simp))
      simp only [over, overL, Nat.reduceAdd, h33, h37, hG]
      go_simp
      exact hK _ _ ⟨_, (fun _ => rfl), by simp only [over, overL, Nat.reduceAdd, h33, h37, hG]; rfl, Below.refl _ _⟩
    · intro f w1 hb ⟨h33, _⟩
      have h33 : f 33 = _ := h33
      refine ⟨fun hg => ?_, fun hg => ?_⟩
      rotate_left
      · intro hG; exact absurd (h33.trans (by rw [hG])) hg
      have hG := Value.bool.inj (h33.symm.trans hg)
      intro K hK
      simp only [over, overL, Nat.reduceAdd, h33, hG]
      go_simp
      exact hK _ _ ⟨_, (fun _ => rfl), by simp only [over, overL, Nat.reduceAdd, h33, hG]; rfl, Below.refl _ _⟩
    · intro f w1 hb ⟨h33, h39, _⟩
      have h33 : f 33 = _ := h33
      refine ⟨fun hg => ?_, fun hg => ?_⟩
      rotate_left
      · intro hG; exact absurd (h33.trans (by rw [hG])) hg
      have hG := Value.bool.inj (h33.symm.trans hg)
      intro K hK
      have h39 : f 39 = _ := h39 hG
      have cl : w1.cell? ⟨w.heap.size, 9, none⟩ = some (.int .i64 a.hei) := cell_later hb (cell_later hB (by go_simp))
      simp only [over, overL, Nat.reduceAdd, h33, h39, hG]
      go_simp
      exact hK _ _ ⟨_, (fun _ => rfl), by simp only [over, overL, Nat.reduceAdd, h33, h39, hG]; rfl, Below.refl _ _⟩
    · intro f w1 hb ⟨h33, h36, h38, h40, _⟩
      have h33 : f 33 = _ := h33
      refine ⟨fun hg => ?_, fun hg => ?_⟩
      rotate_left
      · intro hG; exact absurd (h33.trans (by rw [hG])) hg
      have hG := Value.bool.inj (h33.symm.trans hg)
      intro K hK
      have h36 : f 36 = _ := h36 hG
      have h38 : f 38 = _ := h38 hG
      have h40 : f 40 = _ := h40 hG
      simp only [over, overL, Nat.reduceAdd, h33, h36, h38, h40, hG]
      go_simp
      exact hK _ _ ⟨_, (fun _ => new_three _ _ _ _ _), by simp only [over, overL, Nat.reduceAdd, h33, h36, h38, h40, hG]; rfl, (Below.refl _ _).alloc (Nat.le_refl _) _⟩
    · intro f w1 hb ⟨h33, h34, h41, _⟩
      have h33 : f 33 = _ := h33
      refine ⟨fun hg => ?_, fun hg => ?_⟩
      rotate_left
      · intro hG; exact absurd (h33.trans (by rw [hG])) hg
      have hG := Value.bool.inj (h33.symm.trans hg)
      intro K hK
      replace h34 := h34 hG
      replace h41 := h41 hG
      simp only [over, overL, Nat.reduceAdd, h33, hG]
      go_simp
      refine (every_v [a.wid, a.len, a.hei] 1 200000 c2 hc2 _ _ _ (by simp) h34 h41).mono ?_
      rintro e w2 ⟨rfl, hw⟩
      exact hK _ _ ⟨_, (fun _ => rfl), by simp only [over, overL, Nat.reduceAdd, h33, hG]; rfl, hw ▸ Below.refl _ _⟩
    · intro f w1 hb ⟨h33, h42, _⟩ K hK
      have h33 : f 33 = _ := h33
      have h42 : (b1 && c1) = true → f 42 = _ := h42
      cases hG : (b1 && c1) with
      | false =>
        rw [hG] at h33
        simp only [over, overL, Nat.reduceAdd, h33]
        go_simp
        exact hK _ _ ⟨.bool false, by simp [measV, hG], by simp only [over, overL, Nat.reduceAdd, h33]; rfl, Below.refl _ _⟩
      | true =>
        have h42 := h42 hG
        rw [hG] at h33
        simp only [over, overL, Nat.reduceAdd, h33, h42]
        go_simp
        exact hK _ _ ⟨.bool c2, by simp [measV, hG], by simp only [over, overL, Nat.reduceAdd, h33, h42]; rfl, Below.refl _ _⟩
    · intro f w1 hb ⟨h43, _⟩ K hK
      have h43 : f 43 = _ := h43
      simp only [over, overL, Nat.reduceAdd, h43]
      go_simp
      exact hK _ _ ⟨_, rfl, by simp only [over, overL, Nat.reduceAdd, h43]; rfl, Below.refl _ _⟩
    · intro f w1 hb ⟨h44, _⟩
      have h44 : f 44 = _ := h44
      refine ⟨fun hg => ?_, fun hg => ?_⟩
      rotate_left
      · intro hG; exact absurd (h44.trans (by rw [hG])) hg
      have hG := Value.bool.inj (h44.symm.trans hg)
      intro K hK
      simp only [over, overL, Nat.reduceAdd, h44, hG]
      go_simp
      exact hK _ _ ⟨_, (fun _ => ⟨_, _, rfl, cell_later hb hp0, cell_later hb hp1⟩), by simp only [over, overL, Nat.reduceAdd, h44, hG]; rfl, Below.refl _ _⟩
    · intro f w1 hb ⟨h44, _⟩
      have h44 : f 44 = _ := h44
      refine ⟨fun hg => ?_, fun hg => ?_⟩
      rotate_left
      · intro hG; exact absurd (h44.trans (by rw [hG])) hg
      have hG := Value.bool.inj (h44.symm.trans hg)
      intro K hK
      simp only [over, overL, Nat.reduceAdd, h44, hG]
      go_simp
      exact hK _ _ ⟨_, (fun _ => rfl), by simp only [over, overL, Nat.reduceAdd, h44, hG]; rfl, Below.refl _ _⟩
    · intro f w1 hb ⟨h44, h46, _⟩
      have h44 : f 44 = _ := h44
      refine ⟨fun hg => ?_, fun hg => ?_⟩
      rotate_left
      · intro hG; exact absurd (h44.trans (by rw [hG])) hg
      have hG := Value.bool.inj (h44.symm.trans hg)
      intro K hK
      have h46 : f 46 = _ := h46 hG
      have cl : w1.cell? ⟨w.heap.size, 11, none⟩ = some (.int .i64 a.cap) := cell_later hb (cell_later hB (by go_simp))
      simp only [over, overL, Nat.reduceAdd, h44, h46, hG]
      go_simp
      exact hK _ _ ⟨_, (fun _ => rfl), by simp only [over, overL, Nat.reduceAdd, h44, h46, hG]; rfl, Below.refl _ _⟩
    · intro f w1 hb ⟨h44, h47, _⟩
      have h44 : f 44 = _ := h44
      refine ⟨fun hg => ?_, fun hg => ?_⟩
      rotate_left
      · intro hG; exact absurd (h44.trans (by rw [hG])) hg
      have hG := Value.bool.inj (h44.symm.trans hg)
      intro K hK
      have h47 : f 47 = _ := h47 hG
      simp only [over, overL, Nat.reduceAdd, h44, h47, hG]
      go_simp
      exact hK _ _ ⟨_, (fun _ => new_one _ _ _), by simp only [over, overL, Nat.reduceAdd, h44, h47, hG]; rfl, (Below.refl _ _).alloc (Nat.le_refl _) _⟩
    · intro f w1 hb ⟨h44, h45, h48, _⟩
      have h44 : f 44 = _ := h44
      refine ⟨fun hg => ?_, fun hg => ?_⟩
      rotate_left
      · intro hG; exact absurd (h44.trans (by rw [hG])) hg
      have hG := Value.bool.inj (h44.symm.trans hg)
      intro K hK
      replace h45 := h45 hG
      replace h48 := h48 hG
      simp only [over, overL, Nat.reduceAdd, h44, hG]
      go_simp
      refine (every_v [a.cap] 0 0 c3 hc3 _ _ _ (by simp) h45 h48).mono ?_
      rintro e w2 ⟨rfl, hw⟩
      exact hK _ _ ⟨_, (fun _ => rfl), by simp only [over, overL, Nat.reduceAdd, h44, hG]; rfl, hw ▸ Below.refl _ _⟩
    · intro f w1 hb ⟨h44, h49, _⟩ K hK
      have h44 : f 44 = _ := h44
      have h49 : (b1 && c1 && c2) = true → f 49 = _ := h49
      cases hG : (b1 && c1 && c2) with
      | false =>
        rw [hG] at h44
        simp only [over, overL, Nat.reduceAdd, h44]
        go_simp
        exact hK _ _ ⟨.bool false, by simp [measV, hG], by simp only [over, overL, Nat.reduceAdd, h44]; rfl, Below.refl _ _⟩
      | true =>
        have h49 := h49 hG
        rw [hG] at h44
        simp only [over, overL, Nat.reduceAdd, h44, h49]
        go_simp
        exact hK _ _ ⟨.bool c3, by simp [measV, hG], by simp only [over, overL, Nat.reduceAdd, h44, h49]; rfl, Below.refl _ _⟩
    · intro f w1 hb ⟨h50, _⟩ K hK
      have h50 : f 50 = _ := h50
      simp only [over, overL, Nat.reduceAdd, h50]
      go_simp
      exact hK _ _ ⟨_, rfl, by simp only [over, overL, Nat.reduceAdd, h50]; rfl, Below.refl _ _⟩
  · intro f w1 hb h
    have h2 : f 2 = .bool (b1 && c1 && c2 && c3) := h.2.2.2.2.2.2.2.2.2.2.2.2.2.2.2.2.2.2.2.2.2.2.2.2.2.2.2.2.2.2.2.2.2.2.2.1
    simp only [over, overL, h2, Nat.reduceAdd]
    go_wp2
    go_ret
    exact ⟨rfl, ((Below.refl _ _).alloc (Nat.le_refl _) _).trans ((hB.mono (by simp)).trans (hb.mono (by have := hB.size; simp at this; omega)))⟩


end Go.Proofs.YtgbnjgenopdmfaaGreat
