/- isSpot walked. -/
import Derived.Test.YtjappkfhballhaaGreatAny
namespace Go.Proofs.YtjappkfhballhaaGreat
open Go.RowKit


theorem cell_later {w w' : World} (hb : Below w.heap.size w w') {b o : Nat} {v : Value} (h : w.cell? ⟨b, o, none⟩ = some v) : w'.cell? ⟨b, o, none⟩ = some v := by
  rw [← h]
  refine hb.cell (p := ⟨b, o, none⟩) ?_
  show b < w.heap.size
  by_cases e : b < w.heap.size
  · exact e
  · have : w.heap[b]? = none := by simp; omega
    simp [World.cell?, this] at h

/-- A closure over a range. -/
def IsClo (lo hi : Int) (v : Value) (w : World) : Prop := ∃ p q, v = clo p q ∧ w.cell? ⟨p, 0, none⟩ = some (.int .i64 lo) ∧ w.cell? ⟨q, 0, none⟩ = some (.int .i64 hi)
/-- A slice of some numbers. -/
def IsInts (xs : List Int) (v : Value) (w : World) : Prop := ∃ b, v = .slice (some ⟨b, 0, none⟩) xs.length xs.length ∧ ∀ k, k < xs.length → w.cell? ⟨b, k, none⟩ = some (.int .i64 (xs.getD k 0))
theorem IsClo.later {lo hi : Int} {v : Value} {w w' : World} (h : IsClo lo hi v w) (hb : Below w.heap.size w w') : IsClo lo hi v w' := by
  obtain ⟨p, q, rfl, hp, hq⟩ := h
  exact ⟨p, q, rfl, cell_later hb hp, cell_later hb hq⟩
theorem IsInts.later {xs : List Int} {v : Value} {w w' : World} (h : IsInts xs v w) (hb : Below w.heap.size w w') : IsInts xs v w' := by
  obtain ⟨b, rfl, hc⟩ := h
  exact ⟨b, rfl, fun k hk => cell_later hb (hc k hk)⟩
theorem within_is (lo hi : Int) (w : World) :
    Calls Tryz.prog 85 #[.int .i64 lo, .int .i64 hi] w fun e w' => ∃ v, e = .returned v ∧ IsClo lo hi v w' ∧ Below w.heap.size w w' := by
  refine (within_int lo hi w).mono ?_
  rintro e w1 ⟨rfl, rfl⟩
  exact ⟨_, rfl, ⟨_, _, rfl, by simp [go_sem], by simp [go_sem]⟩, ((Below.refl _ _).alloc (Nat.le_refl _) _).alloc (by simp) _⟩
theorem every_is (xs : List Int) (lo hi : Int) (v c : Value) (w : World) (hn : xs.length ≤ 100) (hc : IsClo lo hi c w) (hv : IsInts xs v w) :
    Calls Tryz.prog 84 #[c, v] w fun e w' => e = .returned (.bool (xs.all (inR lo hi))) ∧ w' = w := by
  obtain ⟨p, q, rfl, hp, hq⟩ := hc
  obtain ⟨b, rfl, hx⟩ := hv
  exact every_any xs lo hi p q b _ w hn hp hq hx

theorem new_one (x : Int) (w : World) (t : Nat) : IsInts [x] (.slice (some ⟨w.heap.size, 0, none⟩) 1 1) (w.alloc (.cells #[.int .i64 x] t)) :=
  ⟨_, rfl, fun k hk => by
    have : k = 0 := by simpa using hk
    subst this; simp [go_sem]⟩
theorem every_one (x lo hi : Int) (v c : Value) (w : World) (hc : IsClo lo hi c w) (hv : IsInts [x] v w) :
    Calls Tryz.prog 84 #[c, v] w fun e w' => e = .returned (.bool (inR lo hi x)) ∧ w' = w := by
  have h := every_is [x] lo hi v c w (by simp) hc hv
  simpa using h

/-- Is there such a spot in so many rows and columns? -/
def spotOk (r c R C : Int) : Bool := inR 0 (R - 1) r && inR 0 (C - 1) c
theorem spotOk_iff {r c R C : Int} : spotOk r c R C = true ↔ (0 ≤ r ∧ r < R) ∧ 0 ≤ c ∧ c < C := by
  simp only [spotOk, Bool.and_eq_true, inR_iff]; omega
theorem wrap_in {x : Int} (h : -9223372036854775808 ≤ x) (h2 : x ≤ 9223372036854775807) : IntKind.i64.wrap x = x := by
  rw [IntWalk.i64_left]; exact IntWalk.wrap64_in _ ⟨h, h2⟩

def spotV (r c R C : Int) (B : Nat) (d : Nat) (v : Value) (w : World) : Prop :=
  match d with
  | 7 => v = .int .i64 R
  | 8 => v = .int .i64 (R - 1)
  | 9 => IsClo 0 (R - 1) v w
  | 10 => v = .pointer (some ⟨B, 0, none⟩)
  | 11 => v = .int .i64 r
  | 12 => IsInts [r] v w
  | 13 => v = .bool (inR 0 (R - 1) r)
  | 14 => v = .bool (inR 0 (R - 1) r)
  | 15 => inR 0 (R - 1) r = true → v = .int .i64 C
  | 16 => inR 0 (R - 1) r = true → v = .int .i64 (C - 1)
  | 17 => inR 0 (R - 1) r = true → IsClo 0 (C - 1) v w
  | 18 => inR 0 (R - 1) r = true → v = .pointer (some ⟨B, 1, none⟩)
  | 19 => inR 0 (R - 1) r = true → v = .int .i64 c
  | 20 => inR 0 (R - 1) r = true → IsInts [c] v w
  | 21 => inR 0 (R - 1) r = true → v = .bool (inR 0 (C - 1) c)
  | 22 => v = .bool (spotOk r c R C)
  | 6 => v = .bool (spotOk r c R C)
  | _ => True
theorem spotV_mono (r c R C : Int) (B : Nat) (d : Nat) (v : Value) (w w' : World) (h : spotV r c R C B d v w) (hb : Below w.heap.size w w') : spotV r c R C B d v w' := by
  unfold spotV at h ⊢
  split <;> simp only [] at h <;> first | exact h | exact h.later hb | exact fun g => (h g).later hb

set_option maxHeartbeats 1600000 in
theorem isSpot_any (r c R C : Int) (w : World) (hR : 1 ≤ R) (hR2 : R ≤ 100) (hC : 1 ≤ C) (hC2 : C ≤ 100) :
    Calls Tryz.prog 113 #[.agg #[.int .i64 r, .int .i64 c], .int .i64 R, .int .i64 C] w fun e w' => e = .returned (.bool (spotOk r c R C)) ∧ Below w.heap.size w w' := by
  have hw1 : IntKind.i64.wrap (R - 1) = R - 1 := wrap_in (by omega) (by omega)
  have hw2 : IntKind.i64.wrap (C - 1) = C - 1 := wrap_in (by omega) (by omega)
  go_enter Tryz.func113, Tryz.ntmps113
  go_wp2_with fail
  refine region_inv [false, false, false, false, false, false, true, true, true, true, true, true, true, true, true, true, true, true, true, true, true, true, true]
    [(7, [], none), (8, [7], none), (9, [8], none), (10, [], none), (11, [10], none), (12, [11], none), (13, [9, 12], none), (14, [13], none), (15, [14], some (14, true)), (16, [14, 15], some (14, true)), (17, [14, 16], some (14, true)), (18, [14], some (14, true)), (19, [14, 18], some (14, true)), (20, [14, 19], some (14, true)), (21, [14, 17, 20], some (14, true)), (22, [14, 21], none), (6, [22], none)]
    (spotV r c R C w.heap.size) (by kernel_rfl) (by kernel_rfl) (spotV_mono r c R C w.heap.size) ?_ ?_
  · refine ⟨?_, ?_, ?_, ?_, ?_, ?_, ?_, ?_, ?_, ?_, ?_, ?_, ?_, ?_, ?_, ?_, ?_, trivial⟩
    · intro f w1 hb _ K hK
      simp only [over, overL, Nat.reduceAdd]
      go_simp
      exact hK _ _ ⟨_, rfl, by simp only [over, overL, Nat.reduceAdd]; rfl, Below.refl _ _⟩
    · intro f w1 hb ⟨h7, _⟩ K hK
      have h7 : f 7 = _ := h7
      simp only [over, overL, Nat.reduceAdd, h7]
      go_simp
      exact hK _ _ ⟨_, rfl, by simp only [over, overL, Nat.reduceAdd, h7]; rfl, Below.refl _ _⟩
    · intro f w1 hb ⟨h8, _⟩ K hK
      have h8 : f 8 = _ := h8
      simp only [over, overL, Nat.reduceAdd, h8]
      go_simp
      refine (within_is _ _ _).mono ?_
      rintro e w2 ⟨v, rfl, hv, hb2⟩
      exact hK _ _ ⟨_, hv, by simp only [over, overL, Nat.reduceAdd, h8]; rfl, hb2⟩
    · intro f w1 hb _ K hK
      simp only [over, overL, Nat.reduceAdd]
      go_simp
      exact hK _ _ ⟨_, rfl, by simp only [over, overL, Nat.reduceAdd]; rfl, Below.refl _ _⟩
    · intro f w1 hb ⟨h10, _⟩ K hK
      have h10 : f 10 = _ := h10
      have c0 : w1.cell? ⟨w.heap.size, 0, none⟩ = some (.int .i64 r) := cell_later hb (by go_simp)
      simp only [over, overL, Nat.reduceAdd, h10]
      go_simp
      exact hK _ _ ⟨_, rfl, by simp only [over, overL, Nat.reduceAdd, h10]; rfl, Below.refl _ _⟩
    · intro f w1 hb ⟨h11, _⟩ K hK
      have h11 : f 11 = _ := h11
      simp only [over, overL, Nat.reduceAdd, h11]
      go_simp
      exact hK _ _ ⟨_, new_one _ _ _, by simp only [over, overL, Nat.reduceAdd, h11]; rfl, (Below.refl _ _).alloc (Nat.le_refl _) _⟩
    · intro f w1 hb ⟨h9, h12, _⟩ K hK
      simp only [over, overL, Nat.reduceAdd]
      go_simp
      refine (every_one r 0 (R - 1) _ _ _ h9 h12).mono ?_
      rintro e w2 ⟨rfl, hw⟩
      exact hK _ _ ⟨_, rfl, by simp only [over, overL, Nat.reduceAdd]; rfl, hw ▸ Below.refl _ _⟩
    · intro f w1 hb ⟨h13, _⟩ K hK
      have h13 : f 13 = _ := h13
      simp only [over, overL, Nat.reduceAdd, h13]
      go_simp
      exact hK _ _ ⟨_, rfl, by simp only [over, overL, Nat.reduceAdd, h13]; rfl, Below.refl _ _⟩
    · intro f w1 hb ⟨h14, _⟩
      have h14 : f 14 = _ := h14
      refine ⟨fun hg => ?_, fun hg => ?_⟩
      rotate_left
      · intro hG; exact absurd (h14.trans (by rw [hG])) hg
      have hG := Value.bool.inj (h14.symm.trans hg)
      intro K hK
      simp only [over, overL, Nat.reduceAdd, h14, hG]
      go_simp
      exact hK _ _ ⟨_, (fun _ => rfl), by simp only [over, overL, Nat.reduceAdd, h14, hG]; rfl, Below.refl _ _⟩
    · intro f w1 hb ⟨h14, h15, _⟩
      have h14 : f 14 = _ := h14
      refine ⟨fun hg => ?_, fun hg => ?_⟩
      rotate_left
      · intro hG; exact absurd (h14.trans (by rw [hG])) hg
      have hG := Value.bool.inj (h14.symm.trans hg)
      intro K hK
      have h15 : f 15 = _ := h15 hG
      simp only [over, overL, Nat.reduceAdd, h14, h15, hG]
      go_simp
      exact hK _ _ ⟨_, (fun _ => rfl), by simp only [over, overL, Nat.reduceAdd, h14, h15, hG]; rfl, Below.refl _ _⟩
    · intro f w1 hb ⟨h14, h16, _⟩
      have h14 : f 14 = _ := h14
      refine ⟨fun hg => ?_, fun hg => ?_⟩
      rotate_left
      · intro hG; exact absurd (h14.trans (by rw [hG])) hg
      have hG := Value.bool.inj (h14.symm.trans hg)
      intro K hK
      have h16 : f 16 = _ := h16 hG
      simp only [over, overL, Nat.reduceAdd, h14, h16, hG]
      go_simp
      refine (within_is _ _ _).mono ?_
      rintro e w2 ⟨v, rfl, hv, hb2⟩
      exact hK _ _ ⟨_, (fun _ => hv), by simp only [over, overL, Nat.reduceAdd, h14, h16, hG]; rfl, hb2⟩
    · intro f w1 hb ⟨h14, _⟩
      have h14 : f 14 = _ := h14
      refine ⟨fun hg => ?_, fun hg => ?_⟩
      rotate_left
      · intro hG; exact absurd (h14.trans (by rw [hG])) hg
      have hG := Value.bool.inj (h14.symm.trans hg)
      intro K hK
      simp only [over, overL, Nat.reduceAdd, h14, hG]
      go_simp
      exact hK _ _ ⟨_, (fun _ => rfl), by simp only [over, overL, Nat.reduceAdd, h14, hG]; rfl, Below.refl _ _⟩
    · intro f w1 hb ⟨h14, h18, _⟩
      have h14 : f 14 = _ := h14
      refine ⟨fun hg => ?_, fun hg => ?_⟩
      rotate_left
      · intro hG; exact absurd (h14.trans (by rw [hG])) hg
      have hG := Value.bool.inj (h14.symm.trans hg)
      intro K hK
      have h18 : f 18 = _ := h18 hG
      have c0 : w1.cell? ⟨w.heap.size, 1, none⟩ = some (.int .i64 c) := cell_later hb (by go_simp)
      simp only [over, overL, Nat.reduceAdd, h14, h18, hG]
      go_simp
      exact hK _ _ ⟨_, (fun _ => rfl), by simp only [over, overL, Nat.reduceAdd, h14, h18, hG]; rfl, Below.refl _ _⟩
    · intro f w1 hb ⟨h14, h19, _⟩
      have h14 : f 14 = _ := h14
      refine ⟨fun hg => ?_, fun hg => ?_⟩
      rotate_left
      · intro hG; exact absurd (h14.trans (by rw [hG])) hg
      have hG := Value.bool.inj (h14.symm.trans hg)
      intro K hK
      have h19 : f 19 = _ := h19 hG
      simp only [over, overL, Nat.reduceAdd, h14, h19, hG]
      go_simp
      exact hK _ _ ⟨_, (fun _ => new_one _ _ _), by simp only [over, overL, Nat.reduceAdd, h14, h19, hG]; rfl, (Below.refl _ _).alloc (Nat.le_refl _) _⟩
    · intro f w1 hb ⟨h14, h17, h20, _⟩
      have h14 : f 14 = _ := h14
      refine ⟨fun hg => ?_, fun hg => ?_⟩
      rotate_left
      · intro hG; exact absurd (h14.trans (by rw [hG])) hg
      have hG := Value.bool.inj (h14.symm.trans hg)
      intro K hK
      replace h17 := h17 hG
      replace h20 := h20 hG
      simp only [over, overL, Nat.reduceAdd, h14, hG]
      go_simp
      refine (every_one c 0 (C - 1) _ _ _ h17 h20).mono ?_
      rintro e w2 ⟨rfl, hw⟩
      exact hK _ _ ⟨_, (fun _ => rfl), by simp only [over, overL, Nat.reduceAdd, h14, hG]; rfl, hw ▸ Below.refl _ _⟩
    · intro f w1 hb ⟨h14, h21, _⟩ K hK
      have h14 : f 14 = _ := h14
      have h21 : inR 0 (R - 1) r = true → f 21 = _ := h21
      cases hG : inR 0 (R - 1) r
      · rw [hG] at h14
        simp only [over, overL, Nat.reduceAdd, h14]
        go_simp
        exact hK _ _ ⟨.bool false, by simp [spotV, spotOk, hG], by simp only [over, overL, Nat.reduceAdd, h14]; rfl, Below.refl _ _⟩
      · have h21 := h21 hG
        rw [hG] at h14
        simp only [over, overL, Nat.reduceAdd, h14, h21]
        go_simp
        exact hK _ _ ⟨.bool (inR 0 (C - 1) c), by simp [spotV, spotOk, hG], by simp only [over, overL, Nat.reduceAdd, h14, h21]; rfl, Below.refl _ _⟩
    · intro f w1 hb ⟨h22, _⟩ K hK
      have h22 : f 22 = _ := h22
      simp only [over, overL, Nat.reduceAdd, h22]
      go_simp
      exact hK _ _ ⟨_, rfl, by simp only [over, overL, Nat.reduceAdd, h22]; rfl, Below.refl _ _⟩
  · intro f w1 hb h
    have h6 : f 6 = .bool (spotOk r c R C) := by simpa [AllP, spotV] using h.2.2.2.2.2.2.2.2.2.2.2.2.2.2.2.2.1
    simp only [over, overL, h6, Nat.reduceAdd]
    go_wp2
    go_ret
    exact ⟨rfl, ((Below.refl _ _).alloc (Nat.le_refl _) _).trans (hb.mono (by simp))⟩

end Go.Proofs.YtjappkfhballhaaGreat
