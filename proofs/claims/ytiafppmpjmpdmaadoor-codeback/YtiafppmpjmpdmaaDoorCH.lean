/- The law CodeAlone. -/
import Derived.Test.YtiafppmpjmpdmaaDoorCG
namespace Go.Proofs.YtiafppmpjmpdmaaDoor
open Go.RowKit Go.Shelf

theorem prL_ok {n k x y z u : Int} (h : refuC n k x y z u = 0) : prL n k x y z u = lineL n k.toNat x y z u := by unfold prL; rw [if_pos h]
theorem prL_no {n k x y z u : Int} (h : refuC n k x y z u ≠ 0) : prL n k x y z u = [] := by unfold prL; rw [if_neg h]
/-- Printed alike just if they are alike. -/
theorem alone {k x y z u k' x' y' z' u' : Int} (h : refuC 1 k x y z u = 0) (h' : refuC 1 k' x' y' z' u' = 0) : (prL 1 k x y z u = prL 1 k' x' y' z' u') ↔ (k = k' ∧ x = x' ∧ y = y' ∧ z = z' ∧ u = u') := by
  obtain ⟨_, a1, a8⟩ := refu_fit h
  obtain ⟨_, b1, b8⟩ := refu_fit h'
  constructor
  · intro e
    rw [prL_ok h, prL_ok h'] at e
    have ha : refuC 1 ((k.toNat : Nat) : Int) x y z u = 0 := by rw [show ((k.toNat : Nat) : Int) = k by omega]; exact h
    have hb : refuC 1 ((k'.toNat : Nat) : Int) x' y' z' u' = 0 := by rw [show ((k'.toNat : Nat) : Int) = k' by omega]; exact h'
    obtain ⟨_, e1, e2⟩ := line_inj ha hb e
    exact ⟨by omega, e2⟩
  · rintro ⟨rfl, rfl, rfl, rfl, rfl⟩
    rfl
set_option maxHeartbeats 6400000 in
set_option maxRecDepth 100000 in
theorem codeAlone_any (k x y z u k' x' y' z' u' : Int) (w : World) (hT : Tabs w) : Calls Tryd.prog 6 #[cm k x y z u, cm k' x' y' z' u'] w fun e w' => e = .returned (.bool true) ∧ Below w.heap.size w w' := by
  have HP0 : Hid (∀ W, Tabs W → Calls Tryd.prog 8 #[.int .i64 7, cm 1 0 0 0 0] W fun e w' => e = .returned (.tuple #[sA (prL 7 1 0 0 0 0), .int .i64 0]) ∧ Below W.heap.size W w') := fun W h => print_any 7 1 0 0 0 0 W h
  have HPa : Hid (∀ W, Tabs W → Calls Tryd.prog 8 #[.int .i64 1, cm k x y z u] W fun e w' => e = .returned (.tuple #[sA (prL 1 k x y z u), .int .i64 (refuC 1 k x y z u)]) ∧ Below W.heap.size W w') := fun W h => print_any 1 k x y z u W h
  have HPb : Hid (∀ W, Tabs W → Calls Tryd.prog 8 #[.int .i64 1, cm k' x' y' z' u'] W fun e w' => e = .returned (.tuple #[sA (prL 1 k' x' y' z' u'), .int .i64 (refuC 1 k' x' y' z' u')]) ∧ Below W.heap.size W w') := fun W h => print_any 1 k' x' y' z' u' W h
  have hl0 : 7 ≤ (prL 7 1 0 0 0 0).length := by
    have h : refuC 7 1 0 0 0 0 = 0 := by decide
    rw [prL_ok h]; exact line_long (refu_fit h).1 (by decide) (by decide)
  have HA0 : Hid (Bk w.heap.size (c5 k x y z u) ((w.alloc (o5 k x y z u)).alloc (o5 k' x' y' z' u'))) := (Bk.new w (c5 k x y z u) 23 _ rfl).later ((Below.refl _ _).alloc (Nat.le_refl _) _)
  have HD0 : Hid (Bk (w.heap.size + 1) (c5 k' x' y' z' u') ((w.alloc (o5 k x y z u)).alloc (o5 k' x' y' z' u'))) := Bk.new (w.alloc (o5 k x y z u)) (c5 k' x' y' z' u') 23 _ (by simp)
  have HB0 : Hid (Below w.heap.size w ((w.alloc (o5 k x y z u)).alloc (o5 k' x' y' z' u'))) := ((Below.refl _ _).alloc (Nat.le_refl _) _).alloc (by simp) _
  have HT0 : Hid (Tabs ((w.alloc (o5 k x y z u)).alloc (o5 k' x' y' z' u'))) := hT.later HB0.out
  generalize prL 7 1 0 0 0 0 = L0 at *
  clear hT
  go_enter Tryd.func6, Tryd.ntmps6
  go_wp2_with fail
  generalize (w.alloc (o5 k x y z u)).alloc (o5 k' x' y' z' u') = w0 at *
  refine (HP0.out _ HT0.out).mono ?_
  rintro e w1 ⟨rfl, hb⟩
  have HT1 : Hid (Tabs w1) := HT0.out.later hb
  have HA1 : Hid (Bk w.heap.size (c5 k x y z u) w1) := HA0.out.later hb
  have HD1 : Hid (Bk (w.heap.size + 1) (c5 k' x' y' z' u') w1) := HD0.out.later hb
  have HB1 : Hid (Below w.heap.size w w1) := HB0.out.trans (hb.mono HB0.out.size)
  clear hb HT0 HA0 HD0 HB0
  have a0 := HA1.out.c 0 rfl
  have a1 := HA1.out.c 1 rfl
  have a2 := HA1.out.c 2 rfl
  have a3 := HA1.out.c 3 rfl
  have a4 := HA1.out.c 4 rfl
  go_wp2_with fail
  refine (HPa.out _ HT1.out).mono ?_
  rintro e w2 ⟨rfl, hb⟩
  have HT2 : Hid (Tabs w2) := HT1.out.later hb
  have HA2 : Hid (Bk w.heap.size (c5 k x y z u) w2) := HA1.out.later hb
  have HD2 : Hid (Bk (w.heap.size + 1) (c5 k' x' y' z' u') w2) := HD1.out.later hb
  have HB2 : Hid (Below w.heap.size w w2) := HB1.out.trans (hb.mono HB1.out.size)
  clear hb HT1 HA1 HD1 HB1 a0 a1 a2 a3 a4
  have a0 := HD2.out.c 0 rfl
  have a1 := HD2.out.c 1 rfl
  have a2 := HD2.out.c 2 rfl
  have a3 := HD2.out.c 3 rfl
  have a4 := HD2.out.c 4 rfl
  go_wp2_with fail
  refine (HPb.out _ HT2.out).mono ?_
  rintro e w3 ⟨rfl, hb⟩
  have HA3 : Hid (Bk w.heap.size (c5 k x y z u) w3) := HA2.out.later hb
  have HD3 : Hid (Bk (w.heap.size + 1) (c5 k' x' y' z' u') w3) := HD2.out.later hb
  have HB3 : Hid (Below w.heap.size w w3) := HB2.out.trans (hb.mono HB2.out.size)
  clear hb HT2 HA2 HD2 HB2 a0 a1 a2 a3 a4 HP0 HPa HPb
  by_cases hr : refuC 1 k x y z u = 0
  · by_cases hs : refuC 1 k' x' y' z' u' = 0
    · have HQ : Hid ((prL 1 k x y z u = prL 1 k' x' y' z' u') ↔ (k = k' ∧ x = x' ∧ y = y' ∧ z = z' ∧ u = u')) := alone hr hs
      rw [hr, hs]
      generalize prL 1 k x y z u = La at *
      generalize prL 1 k' x' y' z' u' = Lb at *
      clear hr hs
      by_cases hE : k = k' ∧ x = x' ∧ y = y' ∧ z = z' ∧ u = u'
      · obtain rfl := HQ.out.2 hE
        obtain ⟨rfl, rfl, rfl, rfl, rfl⟩ := hE
        clear HQ
        have a0 := HA3.out.c 0 rfl
        have d0 := HD3.out.c 0 rfl
        have a1 := HA3.out.c 1 rfl
        have d1 := HD3.out.c 1 rfl
        have a2 := HA3.out.c 2 rfl
        have d2 := HD3.out.c 2 rfl
        have a3 := HA3.out.c 3 rfl
        have d3 := HD3.out.c 3 rfl
        have a4 := HA3.out.c 4 rfl
        have d4 := HD3.out.c 4 rfl
        go_wp2
        go_ret
        exact ⟨ret_bool (by simp), HB3.out⟩
      · have hL : La ≠ Lb := fun h => hE (HQ.out.1 h)
        have HN : Hid (¬ (k = k' ∧ x = x' ∧ y = y' ∧ z = z' ∧ u = u')) := hE
        have p1 : (La == Lb) = false := by rw [beq_eq_false_iff_ne]; exact hL
        have p2 : (Lb == La) = false := by rw [beq_eq_false_iff_ne]; exact fun h => hL h.symm
        clear hL hE HQ
        have a0 := HA3.out.c 0 rfl
        have d0 := HD3.out.c 0 rfl
        have a1 := HA3.out.c 1 rfl
        have d1 := HD3.out.c 1 rfl
        have a2 := HA3.out.c 2 rfl
        have d2 := HD3.out.c 2 rfl
        have a3 := HA3.out.c 3 rfl
        have d3 := HD3.out.c 3 rfl
        have a4 := HA3.out.c 4 rfl
        have d4 := HD3.out.c 4 rfl
        go_wp2
        all_goals first
          | (go_ret; exact ⟨rfl, HB3.out⟩)
          | (refine (HN.out ⟨?_, ?_, ?_, ?_, ?_⟩).elim <;> first | rfl | omega)
    · have e : prL 1 k' x' y' z' u' = [] := prL_no hs
      rw [e, hr]
      have q1 : (refuC 1 k' x' y' z' u' == 0) = false := by simp [hs]
      have q2 : (refuC 1 k' x' y' z' u' != 0) = true := by simp [hs]
      generalize refuC 1 k' x' y' z' u' = r at *
      generalize prL 1 k x y z u = La at *
      clear hs hr e
      go_wp2
      go_ret
      exact ⟨rfl, HB3.out⟩
  · have e : prL 1 k x y z u = [] := prL_no hr
    rw [e]
    have q1 : (refuC 1 k x y z u == 0) = false := by simp [hr]
    have q2 : (refuC 1 k x y z u != 0) = true := by simp [hr]
    generalize refuC 1 k x y z u = r at *
    generalize prL 1 k' x' y' z' u' = Lb at *
    generalize refuC 1 k' x' y' z' u' = r' at *
    clear hr e
    go_wp2
    go_ret
    exact ⟨rfl, HB3.out⟩
end Go.Proofs.YtiafppmpjmpdmaaDoor
