/- space.Meet walked. -/
import Derived.Test.YtiafcgbohckmmaaIs
namespace Go.Proofs.Ytiafcgbohckmmaa
open Go.RowKit

def mtV (a b : Bx) (d : Nat) (v : Value) (w : World) : Prop :=
  match d with
  | 14 => v = bv a
  | 15 => IsSl [a] v w
  | 16 => IsMeets [a] v w
  | 17 => v = bv b
  | 18 => v = .bool (meet a b)
  | 4 => v = .bool (meet a b)
  | 5 => v = .int .i64 0
  | _ => True
theorem mtV_mono (a b : Bx) (d : Nat) (v : Value) (w w' : World) (h : mtV a b d v w) (hb : Below w.heap.size w w') : mtV a b d v w' := by
  unfold mtV at h ⊢
  split <;> simp only [] at h <;> first | exact h | exact h.later hb
set_option maxHeartbeats 3200000 in
set_option maxRecDepth 100000 in
theorem meet_any (a b : Bx) (w : World) : Calls Try.prog 9 #[bv a, bv b] w fun e w' => e = .returned (.tuple #[.bool (meetR a b).1, .int .i64 (meetR a b).2]) ∧ Below w.heap.size w w' := by
  have HB0 : Hid (Below w.heap.size w (((w.alloc (bo a)).alloc (bo b)).alloc (bo2 a b))) := (((Below.refl _ _).alloc (Nat.le_refl _) _).alloc (by simp) _).alloc (by simp; omega) _
  by_cases hr : badL [a, b] = 0
  · have HR : Hid (badL [a, b] = 0) := hr
    have HQ : Hid (meetR a b = (meet a b, 0)) := if_pos hr
    clear hr
    have HA : Hid (Bf w.heap.size a (((w.alloc (bo a)).alloc (bo b)).alloc (bo2 a b))) := (Bf.new w a).later (((Below.refl _ _).alloc (Nat.le_refl _) _).alloc (by simp) _)
    have HC : Hid (Bf (w.heap.size + 1) b (((w.alloc (bo a)).alloc (bo b)).alloc (bo2 a b))) := by
      have h := (Bf.new (w.alloc (bo a)) b).later ((Below.refl _ _).alloc (Nat.le_refl _) (bo2 a b))
      show Bf _ _ _
      simpa using h
    go_enter Try.func9, Try.ntmps9
    go_wp2_with fail
    refine (refusal2 a b ((w.alloc (bo a)).alloc (bo b)) (w.heap.size + 1 + 1) (by simp)).mono ?_
    rintro e w1 ⟨rfl, hb1⟩
    rw [HR.out]
    have HB1 : Hid (Below w.heap.size w w1) := HB0.out.trans (hb1.mono HB0.out.size)
    have hA := HA.out.later hb1
    have hC := HC.out.later hb1
    clear hb1
    obtain ⟨⟨_, p0, p1, p2, p3, p4, p5⟩, pf0, pf1, pf2, pf3, pf4, pf5⟩ := hA
    simp only [Nat.zero_add] at p1 p2 p3 p4 p5
    obtain ⟨⟨_, q0, q1, q2, q3, q4, q5⟩, qf0, qf1, qf2, qf3, qf4, qf5⟩ := hC
    simp only [Nat.zero_add] at q1 q2 q3 q4 q5
    go_wp2_with fail
    refine region_inv [false, false, false, false, true, true, false, false, false, false, false, false, false, false, true, true, true, true, true]
      [(14, [], none), (15, [14], none), (16, [15], none), (17, [], none), (18, [16, 17], none), (4, [18], none), (5, [], none)]
      (mtV a b) (by kernel_rfl) (by kernel_rfl) (mtV_mono a b) ?_ ?_
    · refine ⟨?_, ?_, ?_, ?_, ?_, ?_, ?_, trivial⟩
      · intro f w2 hb _ K hK
        have cp0 := cell_later hb p0
        have cp1 := cell_later hb p1
        have cp2 := cell_later hb p2
        have cp3 := cell_later hb p3
        have cp4 := cell_later hb p4
        have cp5 := cell_later hb p5
        simp only [over, overL, Nat.reduceAdd]
        go_simp
        exact hK _ _ ⟨_, rfl, by simp only [over, overL, Nat.reduceAdd]; rfl, Below.refl _ _⟩
      · intro f w2 hb ⟨h14, _⟩ K hK
        have h14 : f 14 = _ := h14
        simp only [over, overL, Nat.reduceAdd, h14]
        go_simp
        exact hK _ _ ⟨_, new1 a w2, by simp only [over, overL, Nat.reduceAdd, h14]; rfl, (Below.refl _ _).alloc (Nat.le_refl _) _⟩
      · intro f w2 hb ⟨h15, _⟩ K hK
        simp only [over, overL, Nat.reduceAdd]
        go_simp
        refine (meets_is [a] _ w2 h15).mono ?_
        rintro e w3 ⟨u, rfl, hu, hbn⟩
        exact hK _ _ ⟨_, hu, by simp only [over, overL, Nat.reduceAdd]; rfl, hbn⟩
      · intro f w2 hb _ K hK
        have cq0 := cell_later hb q0
        have cq1 := cell_later hb q1
        have cq2 := cell_later hb q2
        have cq3 := cell_later hb q3
        have cq4 := cell_later hb q4
        have cq5 := cell_later hb q5
        simp only [over, overL, Nat.reduceAdd]
        go_simp
        exact hK _ _ ⟨_, rfl, by simp only [over, overL, Nat.reduceAdd]; rfl, Below.refl _ _⟩
      · intro f w2 hb ⟨h16, h17, _⟩ K hK
        have h17 : f 17 = _ := h17
        obtain ⟨B, e16, _⟩ := id h16
        have h16 : IsMeets [a] (f 16) w2 := h16
        rw [e16] at h16
        have ht := IsMeets.tests (by simp) h16 b w2 (Below.refl _ _)
        simp only [over, overL, Nat.reduceAdd, e16, h17]
        go_simp
        refine ht.mono ?_
        rintro e w3 ⟨rfl, hbn⟩
        exact hK _ _ ⟨_, (by show Value.bool ([a].any (meet b)) = Value.bool (meet a b); rw [show [a].any (meet b) = meet b a by simp, meet_comm]), by simp only [over, overL, Nat.reduceAdd, e16, h17]; rfl, hbn⟩
      · intro f w2 hb ⟨h18, _⟩ K hK
        have h18 : f 18 = _ := h18
        simp only [over, overL, Nat.reduceAdd, h18]
        go_simp
        exact hK _ _ ⟨_, rfl, by simp only [over, overL, Nat.reduceAdd, h18]; rfl, Below.refl _ _⟩
      · intro f w2 hb _ K hK
        simp only [over, overL, Nat.reduceAdd]
        go_simp
        exact hK _ _ ⟨_, rfl, by simp only [over, overL, Nat.reduceAdd]; rfl, Below.refl _ _⟩
    intro f w2 hb2 h
    have h4 : f 4 = .bool (meet a b) := h.2.2.2.2.2.1
    have h5 : f 5 = .int .i64 0 := h.2.2.2.2.2.2.1
    simp only [over, overL, h4, h5, Nat.reduceAdd]
    go_wp2
    go_ret2
    exact ⟨by rw [HQ.out]; rfl, HB1.out.trans (hb2.mono HB1.out.size)⟩
  · have hne : (badL [a, b] != 0) = true := by simp [hr]
    have HQ : Hid (meetR a b = (false, badL [a, b])) := if_neg hr
    clear hr
    go_enter Try.func9, Try.ntmps9
    go_wp2_with fail
    refine (refusal2 a b ((w.alloc (bo a)).alloc (bo b)) (w.heap.size + 1 + 1) (by simp)).mono ?_
    rintro e w1 ⟨rfl, hb1⟩
    go_wp2
    go_ret2
    exact ⟨by rw [HQ.out]; rfl, HB0.out.trans (hb1.mono HB0.out.size)⟩
end Go.Proofs.Ytiafcgbohckmmaa
