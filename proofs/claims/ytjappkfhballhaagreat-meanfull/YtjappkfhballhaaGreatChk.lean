/- ware.Check walked. -/
import Derived.Test.YtjappkfhballhaaGreatRoom
namespace Go.Proofs.YtjappkfhballhaaGreat
open Go.RowKit


/-- What is wrong with a ware. -/
def chk (a : Wr) : Int :=
  if lab a.name = true then (if inR 1 3 a.kind = true then (if inR 1 16 a.rows = true ∧ inR 1 24 a.cols = true then (if rangeOk a = true then (if roomOk a = true then 0 else 8) else 2) else 7) else 6) else 3

def chk3V (a : Wr) (k1 : Bool) (B : Nat) (d : Nat) (v : Value) (w : World) : Prop :=
  match d with
  | 9 => IsClo 1 3 v w
  | 10 => v = .pointer (some ⟨B, 1, none⟩)
  | 11 => v = .int .i64 a.kind
  | 12 => IsInts [a.kind] v w
  | 13 => v = .bool k1
  | 14 => v = .bool (!k1)
  | 8 => v = .bool (!k1)
  | _ => True
theorem chk3V_mono (a : Wr) (k1 : Bool) (B : Nat) (d : Nat) (v : Value) (w w' : World) (h : chk3V a k1 B d v w) (hb : Below w.heap.size w w') : chk3V a k1 B d v w' := by
  unfold chk3V at h ⊢
  split <;> simp only [] at h <;> first | exact h | exact h.later hb
def chk5V (a : Wr) (k2 k3 : Bool) (B : Nat) (d : Nat) (v : Value) (w : World) : Prop :=
  match d with
  | 16 => IsClo 1 16 v w
  | 17 => v = .pointer (some ⟨B, 2, none⟩)
  | 18 => v = .int .i64 a.rows
  | 19 => IsInts [a.rows] v w
  | 20 => v = .bool k2
  | 21 => v = .bool (!k2)
  | 22 => v = .bool (!k2)
  | 23 => (!k2) = false → IsClo 1 24 v w
  | 24 => (!k2) = false → v = .pointer (some ⟨B, 3, none⟩)
  | 25 => (!k2) = false → v = .int .i64 a.cols
  | 26 => (!k2) = false → IsInts [a.cols] v w
  | 27 => (!k2) = false → v = .bool k3
  | 28 => (!k2) = false → v = .bool (!k3)
  | 29 => v = .bool (!k2 || !k3)
  | 15 => v = .bool (!k2 || !k3)
  | _ => True
theorem chk5V_mono (a : Wr) (k2 k3 : Bool) (B : Nat) (d : Nat) (v : Value) (w w' : World) (h : chk5V a k2 k3 B d v w) (hb : Below w.heap.size w w') : chk5V a k2 k3 B d v w' := by
  unfold chk5V at h ⊢
  split <;> simp only [] at h <;> first | exact h | exact h.later hb | exact fun g => (h g).later hb

set_option maxHeartbeats 3200000 in
theorem check_label (a : Wr) (w : World) (hs : a.name.size ≤ maxLen) (hl : lab a.name = false) :
    Calls Tryz.prog 60 #[wv a] w fun e w' => e = .returned (.int .i64 3) ∧ Below w.heap.size w w' := by
  go_enter Tryz.func60, Tryz.ntmps60
  go_wp2_with fail
  refine (isLabel_any a.name _ hs).mono ?_
  rintro e w2 ⟨rfl, hb⟩
  rw [hl]
  go_wp2
  go_ret
  exact ⟨rfl, ((Below.refl _ _).alloc (Nat.le_refl _) _).trans (hb.mono (by simp))⟩

set_option maxHeartbeats 6400000 in
theorem check_rest (a : Wr) (w : World) (hs : a.name.size ≤ maxLen) (hl : lab a.name = true) (k1 k2 k3 : Bool) (hk1 : [a.kind].all (inR 1 3) = k1) (hk2 : [a.rows].all (inR 1 16) = k2) (hk3 : [a.cols].all (inR 1 24) = k3) :
    Calls Tryz.prog 60 #[wv a] w fun e w' => e = .returned (.int .i64 (if k1 = true then (if k2 = true ∧ k3 = true then (if rangeOk a = true then (if roomOk a = true then 0 else 8) else 2) else 7) else 6)) ∧ Below w.heap.size w w' := by
  go_enter Tryz.func60, Tryz.ntmps60
  go_wp2_with fail
  refine (isLabel_any a.name _ hs).mono ?_
  rintro e w0 ⟨rfl, hb0⟩
  rw [hl]
  have hB0 : Below w.heap.size w w0 := ((Below.refl _ _).alloc (Nat.le_refl _) _).trans (hb0.mono (by simp))
  have c1 : w0.cell? ⟨w.heap.size, 1, none⟩ = some (.int .i64 a.kind) := cell_later hb0 (by go_simp)
  have c2 : w0.cell? ⟨w.heap.size, 2, none⟩ = some (.int .i64 a.rows) := cell_later hb0 (by go_simp)
  have c3 : w0.cell? ⟨w.heap.size, 3, none⟩ = some (.int .i64 a.cols) := cell_later hb0 (by go_simp)
  have call : ∀ k (hk : k < 12), w0.cell? ⟨w.heap.size, k, none⟩ = some ((wcs a)[k]'(by simpa using hk)) := fun k hk => cell_later hb0 (by
    match k, hk with
    | 0, _ => go_simp
    | 1, _ => go_simp
    | 2, _ => go_simp
    | 3, _ => go_simp
    | 4, _ => go_simp
    | 5, _ => go_simp
    | 6, _ => go_simp
    | 7, _ => go_simp
    | 8, _ => go_simp
    | 9, _ => go_simp
    | 10, _ => go_simp
    | 11, _ => go_simp)
  have CALL : Hid (∀ k (hk : k < 12), w0.cell? ⟨w.heap.size, k, none⟩ = some ((wcs a)[k]'(by simpa using hk))) := call
  clear call hb0
  go_wp2_with fail
  refine region_inv [false, false, false, false, false, false, false, false, true, true, true, true, true, true, true, false, false, false, false, false, false, false, false, false, false, false, false, false, false, false, false, false, false, false, false, false, false, false]
    [(9, [], none), (10, [], none), (11, [10], none), (12, [11], none), (13, [9, 12], none), (14, [13], none), (8, [14], none)]
    (chk3V a k1 w.heap.size) (by kernel_rfl) (by kernel_rfl) (chk3V_mono a k1 w.heap.size) ?_ ?_
  · refine ⟨?_, ?_, ?_, ?_, ?_, ?_, ?_, trivial⟩
    · intro f w1 hb _ K hK
      simp only [over, overL, Nat.reduceAdd]
      go_simp
      refine (within_is _ _ _).mono ?_
      rintro e w2 ⟨v, rfl, hv, hb2⟩
      exact hK _ _ ⟨_, hv, by simp only [over, overL, Nat.reduceAdd]; rfl, hb2⟩
    · intro f w1 hb _ K hK
      simp only [over, overL, Nat.reduceAdd]
      go_simp
      exact hK _ _ ⟨_, rfl, by simp only [over, overL, Nat.reduceAdd]; rfl, Below.refl _ _⟩
    · intro f w1 hb ⟨h10, _⟩ K hK
      have h10 : f 10 = _ := h10
      have cl : w1.cell? ⟨w.heap.size, 1, none⟩ = some (.int .i64 a.kind) := cell_later hb (c1)
      simp only [over, overL, Nat.reduceAdd, h10]
      go_simp
      exact hK _ _ ⟨_, rfl, by simp only [over, overL, Nat.reduceAdd, h10]; rfl, Below.refl _ _⟩
    · intro f w1 hb ⟨h11, _⟩ K hK
      have h11 : f 11 = _ := h11
      simp only [over, overL, Nat.reduceAdd, h11]
      go_simp
      exact hK _ _ ⟨_, new_one _ _ _, by simp only [over, overL, Nat.reduceAdd, h11]; rfl, (Below.refl _ _).alloc (Nat.le_refl _) _⟩
    · intro f w1 hb ⟨h9, h12, _⟩ K hK
      simp only [over, overL, Nat.reduceAdd]
      go_simp
      refine (every_v [a.kind] 1 3 k1 hk1 _ _ _ (by simp) h9 h12).mono ?_
      rintro e w2 ⟨rfl, hw⟩
      exact hK _ _ ⟨_, rfl, by simp only [over, overL, Nat.reduceAdd]; rfl, hw ▸ Below.refl _ _⟩
    · intro f w1 hb ⟨h13, _⟩ K hK
      have h13 : f 13 = _ := h13
      simp only [over, overL, Nat.reduceAdd, h13]
      go_simp
      exact hK _ _ ⟨_, rfl, by simp only [over, overL, Nat.reduceAdd, h13]; rfl, Below.refl _ _⟩
    · intro f w1 hb ⟨h14, _⟩ K hK
      have h14 : f 14 = _ := h14
      simp only [over, overL, Nat.reduceAdd, h14]
      go_simp
      exact hK _ _ ⟨_, rfl, by simp only [over, overL, Nat.reduceAdd, h14]; rfl, Below.refl _ _⟩
  · intro f w1 hb1 h
    have h8 : f 8 = .bool (!k1) := h.2.2.2.2.2.2.1
    simp only [over, overL, h8, Nat.reduceAdd]
    have hB1 := hb1
    have hBw1 : Below w.heap.size w w1 := hB0.trans (hb1.mono hB0.size)
    cases k1 with
    | false =>
      simp only [Bool.not_false]
      go_wp2
      go_ret
      exact ⟨rfl, hBw1⟩
    | true =>
      simp only [Bool.not_true]
      go_wp2_with fail
      refine region_inv [false, false, false, false, false, false, false, false, false, false, false, false, false, false, false, true, true, true, true, true, true, true, true, true, true, true, true, true, true, true, false, false, false, false, false, false, false, false]
        [(16, [], none), (17, [], none), (18, [17], none), (19, [18], none), (20, [16, 19], none), (21, [20], none), (22, [21], none), (23, [22], some (22, false)), (24, [22], some (22, false)), (25, [22, 24], some (22, false)), (26, [22, 25], some (22, false)), (27, [22, 23, 26], some (22, false)), (28, [22, 27], some (22, false)), (29, [22, 28], none), (15, [29], none)]
        (chk5V a k2 k3 w.heap.size) (by kernel_rfl) (by kernel_rfl) (chk5V_mono a k2 k3 w.heap.size) ?_ ?_
      · refine ⟨?_, ?_, ?_, ?_, ?_, ?_, ?_, ?_, ?_, ?_, ?_, ?_, ?_, ?_, ?_, trivial⟩
        · intro f w1 hb _ K hK
          simp only [over, overL, Nat.reduceAdd]
          go_simp
          refine (within_is _ _ _).mono ?_
          rintro e w2 ⟨v, rfl, hv, hb2⟩
          exact hK _ _ ⟨_, hv, by simp only [over, overL, Nat.reduceAdd]; rfl, hb2⟩
        · intro f w1 hb _ K hK
          simp only [over, overL, Nat.reduceAdd]
          go_simp
          exact hK _ _ ⟨_, rfl, by simp only [over, overL, Nat.reduceAdd]; rfl, Below.refl _ _⟩
        · intro f w1 hb ⟨h17, _⟩ K hK
          have h17 : f 17 = _ := h17
          have cl : w1.cell? ⟨w.heap.size, 2, none⟩ = some (.int .i64 a.rows) := cell_later hb (cell_later hB1 c2)
          simp only [over, overL, Nat.reduceAdd, h17]
          go_simp
          exact hK _ _ ⟨_, rfl, by simp only [over, overL, Nat.reduceAdd, h17]; rfl, Below.refl _ _⟩
        · intro f w1 hb ⟨h18, _⟩ K hK
          have h18 : f 18 = _ := h18
          simp only [over, overL, Nat.reduceAdd, h18]
          go_simp
          exact hK _ _ ⟨_, new_one _ _ _, by simp only [over, overL, Nat.reduceAdd, h18]; rfl, (Below.refl _ _).alloc (Nat.le_refl _) _⟩
        · intro f w1 hb ⟨h16, h19, _⟩ K hK
          simp only [over, overL, Nat.reduceAdd]
          go_simp
          refine (every_v [a.rows] 1 16 k2 hk2 _ _ _ (by simp) h16 h19).mono ?_
          rintro e w2 ⟨rfl, hw⟩
          exact hK _ _ ⟨_, rfl, by simp only [over, overL, Nat.reduceAdd]; rfl, hw ▸ Below.refl _ _⟩
        · intro f w1 hb ⟨h20, _⟩ K hK
          have h20 : f 20 = _ := h20
          simp only [over, overL, Nat.reduceAdd, h20]
          go_simp
          exact hK _ _ ⟨_, rfl, by simp only [over, overL, Nat.reduceAdd, h20]; rfl, Below.refl _ _⟩
        · intro f w1 hb ⟨h21, _⟩ K hK
          have h21 : f 21 = _ := h21
          simp only [over, overL, Nat.reduceAdd, h21]
          go_simp
          exact hK _ _ ⟨_, rfl, by simp only [over, overL, Nat.reduceAdd, h21]; rfl, Below.refl _ _⟩
        · intro f w1 hb ⟨h22, _⟩
          have h22 : f 22 = _ := h22
          refine ⟨fun hg => ?_, fun hg => ?_⟩
          rotate_left
          · intro hG; exact absurd (h22.trans (by rw [hG])) hg
          have hG := Value.bool.inj (h22.symm.trans hg)
          intro K hK
          simp only [over, overL, Nat.reduceAdd, h22, hG]
          go_simp
          refine (within_is _ _ _).mono ?_
          rintro e w2 ⟨v, rfl, hv, hb2⟩
          exact hK _ _ ⟨_, (fun _ => hv), by simp only [over, overL, Nat.reduceAdd, h22, hG]; rfl, hb2⟩
        · intro f w1 hb ⟨h22, _⟩
          have h22 : f 22 = _ := h22
          refine ⟨fun hg => ?_, fun hg => ?_⟩
          rotate_left
          · intro hG; exact absurd (h22.trans (by rw [hG])) hg
          have hG := Value.bool.inj (h22.symm.trans hg)
          intro K hK
          simp only [over, overL, Nat.reduceAdd, h22, hG]
          go_simp
          exact hK _ _ ⟨_, (fun _ => rfl), by simp only [over, overL, Nat.reduceAdd, h22, hG]; rfl, Below.refl _ _⟩
        · intro f w1 hb ⟨h22, h24, _⟩
          have h22 : f 22 = _ := h22
          refine ⟨fun hg => ?_, fun hg => ?_⟩
          rotate_left
          · intro hG; exact absurd (h22.trans (by rw [hG])) hg
          have hG := Value.bool.inj (h22.symm.trans hg)
          intro K hK
          have h24 : f 24 = _ := h24 hG
          have cl : w1.cell? ⟨w.heap.size, 3, none⟩ = some (.int .i64 a.cols) := cell_later hb (cell_later hB1 c3)
          simp only [over, overL, Nat.reduceAdd, h22, h24, hG]
          go_simp
          exact hK _ _ ⟨_, (fun _ => rfl), by simp only [over, overL, Nat.reduceAdd, h22, h24, hG]; rfl, Below.refl _ _⟩
        · intro f w1 hb ⟨h22, h25, _⟩
          have h22 : f 22 = _ := h22
          refine ⟨fun hg => ?_, fun hg => ?_⟩
          rotate_left
          · intro hG; exact absurd (h22.trans (by rw [hG])) hg
          have hG := Value.bool.inj (h22.symm.trans hg)
          intro K hK
          have h25 : f 25 = _ := h25 hG
          simp only [over, overL, Nat.reduceAdd, h22, h25, hG]
          go_simp
          exact hK _ _ ⟨_, (fun _ => new_one _ _ _), by simp only [over, overL, Nat.reduceAdd, h22, h25, hG]; rfl, (Below.refl _ _).alloc (Nat.le_refl _) _⟩
        · intro f w1 hb ⟨h22, h23, h26, _⟩
          have h22 : f 22 = _ := h22
          refine ⟨fun hg => ?_, fun hg => ?_⟩
          rotate_left
          · intro hG; exact absurd (h22.trans (by rw [hG])) hg
          have hG := Value.bool.inj (h22.symm.trans hg)
          intro K hK
          replace h23 := h23 hG
          replace h26 := h26 hG
          simp only [over, overL, Nat.reduceAdd, h22, hG]
          go_simp
          refine (every_v [a.cols] 1 24 k3 hk3 _ _ _ (by simp) h23 h26).mono ?_
          rintro e w2 ⟨rfl, hw⟩
          exact hK _ _ ⟨_, (fun _ => rfl), by simp only [over, overL, Nat.reduceAdd, h22, hG]; rfl, hw ▸ Below.refl _ _⟩
        · intro f w1 hb ⟨h22, h27, _⟩
          have h22 : f 22 = _ := h22
          refine ⟨fun hg => ?_, fun hg => ?_⟩
          rotate_left
          · intro hG; exact absurd (h22.trans (by rw [hG])) hg
          have hG := Value.bool.inj (h22.symm.trans hg)
          intro K hK
          have h27 : f 27 = _ := h27 hG
          simp only [over, overL, Nat.reduceAdd, h22, h27, hG]
          go_simp
          exact hK _ _ ⟨_, (fun _ => rfl), by simp only [over, overL, Nat.reduceAdd, h22, h27, hG]; rfl, Below.refl _ _⟩
        · intro f w1 hb ⟨h22, h28, _⟩ K hK
          have h22 : f 22 = _ := h22
          have h28 : (!k2) = false → f 28 = _ := h28
          cases hG : (!k2) with
          | true =>
            rw [hG] at h22
            simp only [over, overL, Nat.reduceAdd, h22]
            go_simp
            exact hK _ _ ⟨.bool true, by simp [chk5V, hG], by simp only [over, overL, Nat.reduceAdd, h22]; rfl, Below.refl _ _⟩
          | false =>
            have h28 := h28 hG
            rw [hG] at h22
            simp only [over, overL, Nat.reduceAdd, h22, h28]
            go_simp
            exact hK _ _ ⟨.bool (!k3), by simp [chk5V, hG], by simp only [over, overL, Nat.reduceAdd, h22, h28]; rfl, Below.refl _ _⟩
        · intro f w1 hb ⟨h29, _⟩ K hK
          have h29 : f 29 = _ := h29
          simp only [over, overL, Nat.reduceAdd, h29]
          go_simp
          exact hK _ _ ⟨_, rfl, by simp only [over, overL, Nat.reduceAdd, h29]; rfl, Below.refl _ _⟩
      · intro f2 w2 hb2 h2
        have h15 : f2 15 = .bool (!k2 || !k3) := h2.2.2.2.2.2.2.2.2.2.2.2.2.2.2.1
        simp only [over, overL, h15, Nat.reduceAdd]
        have hBw2 : Below w.heap.size w w2 := hBw1.trans (hb2.mono hBw1.size)
        by_cases hkk : k2 = true ∧ k3 = true
        · obtain ⟨rfl, rfl⟩ := hkk
          have CB : Hid (∀ k (hk : k < 12), w2.cell? ⟨w.heap.size, k, none⟩ = some ((wcs a)[k]'(by simpa using hk))) := fun k hk => cell_later hb2 (cell_later hB1 (CALL.out k hk))
          have hr := inR_iff.1 (all1.symm.trans hk2)
          have hc := inR_iff.1 (all1.symm.trans hk3)
          have hm0 : 0 ≤ a.rows * a.cols := Int.mul_nonneg (by omega) (by omega)
          have hm1 : a.rows * a.cols ≤ 384 := by
            have k1 : a.rows * a.cols ≤ a.rows * 24 := Int.mul_le_mul_of_nonneg_left hc.2 (by omega)
            omega
          have e0 : w2.cell? ⟨w.heap.size, 0, none⟩ = some (.string a.name) := CB.out 0 (by decide)
          have e1 : w2.cell? ⟨w.heap.size, 1, none⟩ = some (.int .i64 a.kind) := CB.out 1 (by decide)
          have e2 : w2.cell? ⟨w.heap.size, 2, none⟩ = some (.int .i64 a.rows) := CB.out 2 (by decide)
          have e3 : w2.cell? ⟨w.heap.size, 3, none⟩ = some (.int .i64 a.cols) := CB.out 3 (by decide)
          have e4 : w2.cell? ⟨w.heap.size, 4, none⟩ = some (.int .i64 a.x) := CB.out 4 (by decide)
          have e5 : w2.cell? ⟨w.heap.size, 5, none⟩ = some (.int .i64 a.y) := CB.out 5 (by decide)
          have e6 : w2.cell? ⟨w.heap.size, 6, none⟩ = some (.int .i64 a.pitch) := CB.out 6 (by decide)
          have e7 : w2.cell? ⟨w.heap.size, 7, none⟩ = some (.int .i64 a.wid) := CB.out 7 (by decide)
          have e8 : w2.cell? ⟨w.heap.size, 8, none⟩ = some (.int .i64 a.len) := CB.out 8 (by decide)
          have e9 : w2.cell? ⟨w.heap.size, 9, none⟩ = some (.int .i64 a.hei) := CB.out 9 (by decide)
          have e10 : w2.cell? ⟨w.heap.size, 10, none⟩ = some (.int .i64 a.deep) := CB.out 10 (by decide)
          have e11 : w2.cell? ⟨w.heap.size, 11, none⟩ = some (.int .i64 a.cap) := CB.out 11 (by decide)
          cases hro : rangeOk a with
          | false =>
            simp only [Bool.not_true, Bool.or_self]
            go_wp2_with fail
            refine (isMeasured_any a _ hm0 hm1).mono ?_
            rintro e w3 ⟨rfl, hb3⟩
            rw [hro]
            go_wp2
            go_ret
            exact ⟨rfl, hBw2.trans (hb3.mono hBw2.size)⟩
          | true =>
            have hin : InR a := inR_of (all1.symm.trans hk2) (all1.symm.trans hk3) hro
            have HIN : Hid (InR a) := hin
            clear hin
            simp only [Bool.not_true, Bool.or_self]
            go_wp2_with fail
            refine (isMeasured_any a _ hm0 hm1).mono ?_
            rintro e w3 ⟨rfl, hb3⟩
            rw [hro]
            have hBw3 : Below w.heap.size w w3 := hBw2.trans (hb3.mono hBw2.size)
            have g0 : w3.cell? ⟨w.heap.size, 0, none⟩ = some (.string a.name) := cell_later hb3 e0
            have g1 : w3.cell? ⟨w.heap.size, 1, none⟩ = some (.int .i64 a.kind) := cell_later hb3 e1
            have g2 : w3.cell? ⟨w.heap.size, 2, none⟩ = some (.int .i64 a.rows) := cell_later hb3 e2
            have g3 : w3.cell? ⟨w.heap.size, 3, none⟩ = some (.int .i64 a.cols) := cell_later hb3 e3
            have g4 : w3.cell? ⟨w.heap.size, 4, none⟩ = some (.int .i64 a.x) := cell_later hb3 e4
            have g5 : w3.cell? ⟨w.heap.size, 5, none⟩ = some (.int .i64 a.y) := cell_later hb3 e5
            have g6 : w3.cell? ⟨w.heap.size, 6, none⟩ = some (.int .i64 a.pitch) := cell_later hb3 e6
            have g7 : w3.cell? ⟨w.heap.size, 7, none⟩ = some (.int .i64 a.wid) := cell_later hb3 e7
            have g8 : w3.cell? ⟨w.heap.size, 8, none⟩ = some (.int .i64 a.len) := cell_later hb3 e8
            have g9 : w3.cell? ⟨w.heap.size, 9, none⟩ = some (.int .i64 a.hei) := cell_later hb3 e9
            have g10 : w3.cell? ⟨w.heap.size, 10, none⟩ = some (.int .i64 a.deep) := cell_later hb3 e10
            have g11 : w3.cell? ⟨w.heap.size, 11, none⟩ = some (.int .i64 a.cap) := cell_later hb3 e11
            cases hrm : roomOk a with
            | false =>
              go_wp2_with fail
              refine (isRoomy_any a _ HIN.out).mono ?_
              rintro e w4 ⟨rfl, hb4⟩
              rw [hrm]
              go_wp2
              go_ret
              exact ⟨rfl, hBw3.trans (hb4.mono hBw3.size)⟩
            | true =>
              go_wp2_with fail
              refine (isRoomy_any a _ HIN.out).mono ?_
              rintro e w4 ⟨rfl, hb4⟩
              rw [hrm]
              go_wp2
              go_ret
              exact ⟨rfl, hBw3.trans (hb4.mono hBw3.size)⟩
        · have e : (!k2 || !k3) = true := by cases k2 <;> cases k3 <;> simp at hkk ⊢
          rw [e]
          go_wp2
          go_ret
          exact ⟨rfl, hBw2⟩

theorem check_any (a : Wr) (w : World) (hs : a.name.size ≤ maxLen) :
    Calls Tryz.prog 60 #[wv a] w fun e w' => e = .returned (.int .i64 (chk a)) ∧ Below w.heap.size w w' := by
  cases hl : lab a.name with
  | false => have h := check_label a w hs hl; unfold chk; rw [hl]; exact h
  | true =>
    have h := check_rest a w hs hl _ _ _ all1 all1 all1
    unfold chk; rw [hl]; exact h

end Go.Proofs.YtjappkfhballhaaGreat
