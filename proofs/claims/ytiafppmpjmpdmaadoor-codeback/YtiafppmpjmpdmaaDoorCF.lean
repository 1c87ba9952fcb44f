/- Check, refusal walked. -/
import Derived.Test.YtiafppmpjmpdmaaDoorCE
namespace Go.Proofs.YtiafppmpjmpdmaaDoor
open Go.RowKit Go.Shelf

set_option linter.unusedVariables false in
def ckV (k : Nat) (x y z u : Int) (U : Bool) (B : Nat) (d : Nat) (v : Value) (_ : World) : Prop :=
  match d with
  | 18 => v = .pointer (some ⟨B, 0, none⟩)
  | 19 => v = .int .i64 k
  | 20 => v = .pointer (some ⟨0, k * 5, none⟩)
  | 21 => v = .agg #[sA (firstW k), sA (letW k 0), sA (letW k 1), sA (letW k 2), sA (letW k 3)]
  | 22 => v = .agg #[.int .i64 k, .int .i64 x, .int .i64 y, .int .i64 z, .int .i64 u]
  | 23 => v = .agg #[.int .i64 x, .int .i64 y, .int .i64 z, .int .i64 u]
  | 24 => v = .bool U
  | 25 => v = .bool (!U)
  | 17 => v = .bool (!U)
  | _ => True
set_option linter.unusedVariables false in
theorem ckV_mono (k : Nat) (x y z u : Int) (U : Bool) (B : Nat) (d : Nat) (v : Value) (w w' : World) (h : ckV k x y z u U B d v w) (_ : Below w.heap.size w w') : ckV k x y z u U B d v w' := h
set_option maxHeartbeats 6400000 in
set_option maxRecDepth 100000 in
theorem check_in (k : Nat) (x y z u : Int) (w : World) (h1 : 1 ≤ k) (h8 : k ≤ 8) (hr : inRg x y z u = true) (hT : WT w) : Calls Tryd.prog 7 #[cm k x y z u] w fun e w' => e = .returned (.int .i64 (if usedC k x y z u = true then 0 else 1)) ∧ Below w.heap.size w w' := by
  have HN : Hid (∀ W, Calls Tryd.prog 17 #[cm k x y z u] W fun e w' => e = .returned (n4 x y z u) ∧ Below W.heap.size W w') := fun W => numbersB k x y z u W
  have HI : Hid (∀ W, Calls Tryd.prog 16 #[n4 x y z u] W fun e w' => e = .returned (.bool true) ∧ Below W.heap.size W w') := fun W => by
    have := isInRange_any x y z u W
    rwa [hr] at this
  have HU : Hid (∀ W, Calls Tryd.prog 18 #[wd (firstW k) (letW k 0) (letW k 1) (letW k 2) (letW k 3), n4 x y z u] W fun e w' => e = .returned (.bool (usedC k x y z u)) ∧ Below W.heap.size W w') := fun W => isUsed_any (firstW k) (letW k 0) (letW k 1) (letW k 2) (letW k 3) x y z u W
  have HC0 : Hid (Bk w.heap.size (c5 k x y z u) (w.alloc (o5 k x y z u))) := Bk.new w (c5 k x y z u) 23 _ rfl
  have HB0 : Hid (Below w.heap.size w (w.alloc (o5 k x y z u))) := (Below.refl _ _).alloc (Nat.le_refl _) _
  have HW0 : Hid (WT (w.alloc (o5 k x y z u))) := hT.later HB0.out
  obtain ⟨U, hU⟩ : ∃ U, U = usedC k x y z u := ⟨_, rfl⟩
  rw [← hU] at HU
  rw [← hU]
  clear hT hr hU
  go_enter Tryd.func7, Tryd.ntmps7
  go_wp2_with fail
  refine (HN.out _).mono ?_
  rintro e w1 ⟨rfl, hb1⟩
  go_wp2_with fail
  refine (HI.out _).mono ?_
  rintro e w2 ⟨rfl, hb2⟩
  have HB : Hid (Below w.heap.size w w2) := HB0.out.trans (Below.mono (hb1.trans (hb2.mono hb1.size)) HB0.out.size)
  have HC : Hid (Bk w.heap.size (c5 k x y z u) w2) := HC0.out.later (hb1.trans (hb2.mono hb1.size))
  have HW : Hid (WT w2) := HW0.out.later (hb1.trans (hb2.mono hb1.size))
  obtain ⟨B, hB⟩ : ∃ B, B = w.heap.size := ⟨_, rfl⟩
  rw [← hB] at HC
  clear hb1 hb2 HC0 HB0 HW0
  go_wp2_with fail
  simp only [← hB]
  have hwB : w.heap.size ≤ B := by omega
  clear hB
  refine region_inv [false, false, false, false, false, false, false, false, false, false, false, false, false, false, false, false, false, true, true, true, true, true, true, true, true, true]
    [(18, [], none), (19, [18], none), (20, [19], none), (21, [20], none), (22, [], none), (23, [22], none), (24, [21, 23], none), (25, [24], none), (17, [25], none)]
    (ckV k x y z u U B) (by kernel_rfl) (by kernel_rfl) (ckV_mono k x y z u U B) ?_ ?_
  · refine ⟨?_, ?_, ?_, ?_, ?_, ?_, ?_, ?_, ?_, trivial⟩
    · intro f w1 hb _ K hK
      simp only [over, overL, Nat.reduceAdd]
      go_simp
      exact hK _ _ ⟨_, rfl, by simp only [over, overL, Nat.reduceAdd]; rfl, Below.refl _ _⟩
    · intro f w1 hb ⟨h18, _⟩ K hK
      replace h18 : f 18 = _ := h18
      have q0 := (HC.out.later hb).c 0 rfl
      simp only [over, overL, Nat.reduceAdd, h18]
      go_simp
      exact hK _ _ ⟨_, rfl, by simp only [over, overL, Nat.reduceAdd, h18]; rfl, Below.refl _ _⟩
    · intro f w1 hb ⟨h19, _⟩ K hK
      replace h19 : f 19 = _ := h19
      have k9 : (k : Int) < 9 := by omega
      simp only [over, overL, Nat.reduceAdd, h19]
      go_simp
      exact hK _ _ ⟨_, rfl, by simp only [over, overL, Nat.reduceAdd, h19]; rfl, Below.refl _ _⟩
    · intro f w1 hb ⟨h20, _⟩ K hK
      replace h20 : f 20 = _ := h20
      have hW := HW.out.later hb
      have q0 := hW.first k (by omega)
      have q1 := hW.letter k 0 (by omega) (by decide)
      have q2 := hW.letter k 1 (by omega) (by decide)
      have q3 := hW.letter k 2 (by omega) (by decide)
      have q4 := hW.letter k 3 (by omega) (by decide)
      simp only [over, overL, Nat.reduceAdd, h20]
      go_simp
      exact hK _ _ ⟨_, rfl, by simp only [over, overL, Nat.reduceAdd, h20]; rfl, Below.refl _ _⟩
    · intro f w1 hb _ K hK
      have q0 := (HC.out.later hb).c 0 rfl
      have q1 := (HC.out.later hb).c 1 rfl
      have q2 := (HC.out.later hb).c 2 rfl
      have q3 := (HC.out.later hb).c 3 rfl
      have q4 := (HC.out.later hb).c 4 rfl
      simp only [over, overL, Nat.reduceAdd]
      go_simp
      exact hK _ _ ⟨_, rfl, by simp only [over, overL, Nat.reduceAdd]; rfl, Below.refl _ _⟩
    · intro f w1 hb ⟨h22, _⟩ K hK
      replace h22 : f 22 = _ := h22
      simp only [over, overL, Nat.reduceAdd, h22]
      go_simp
      refine (HN.out _).mono ?_
      rintro e w2 ⟨rfl, hb2⟩
      exact hK _ _ ⟨_, rfl, by simp only [over, overL, Nat.reduceAdd, h22]; rfl, hb2⟩
    · intro f w1 hb ⟨h21, h23, _⟩ K hK
      replace h21 : f 21 = _ := h21
      replace h23 : f 23 = _ := h23
      simp only [over, overL, Nat.reduceAdd, h21, h23]
      go_simp
      refine (HU.out _).mono ?_
      rintro e w2 ⟨rfl, hb2⟩
      exact hK _ _ ⟨_, rfl, by simp only [over, overL, Nat.reduceAdd, h21, h23]; rfl, hb2⟩
    · intro f w1 hb ⟨h24, _⟩ K hK
      replace h24 : f 24 = _ := h24
      simp only [over, overL, Nat.reduceAdd, h24]
      go_simp
      exact hK _ _ ⟨_, rfl, by simp only [over, overL, Nat.reduceAdd, h24]; rfl, Below.refl _ _⟩
    · intro f w1 hb ⟨h25, _⟩ K hK
      replace h25 : f 25 = _ := h25
      simp only [over, overL, Nat.reduceAdd, h25]
      go_simp
      exact hK _ _ ⟨_, rfl, by simp only [over, overL, Nat.reduceAdd, h25]; rfl, Below.refl _ _⟩
  · intro f w3 hb3 hv
    have h17 : f 17 = .bool (!U) := hv.2.2.2.2.2.2.2.2.1
    have HBF : Hid (Below w.heap.size w w3) := HB.out.trans (hb3.mono HB.out.size)
    simp only [over_eq, overL, h17, Nat.reduceAdd]
    clear hv h17 hb3
    cases U
    all_goals
      go_wp2
      go_ret
      exact ⟨rfl, HBF.out⟩
set_option maxHeartbeats 6400000 in
set_option maxRecDepth 100000 in
theorem check_out (k x y z u : Int) (w : World) (h1 : 1 ≤ k) (h8 : k ≤ 8) (hr : inRg x y z u = false) : Calls Tryd.prog 7 #[cm k x y z u] w fun e w' => e = .returned (.int .i64 2) ∧ Below w.heap.size w w' := by
  have HN : Hid (∀ W, Calls Tryd.prog 17 #[cm k x y z u] W fun e w' => e = .returned (n4 x y z u) ∧ Below W.heap.size W w') := fun W => numbersB k x y z u W
  have HI : Hid (∀ W, Calls Tryd.prog 16 #[n4 x y z u] W fun e w' => e = .returned (.bool false) ∧ Below W.heap.size W w') := fun W => by
    have := isInRange_any x y z u W
    rwa [hr] at this
  have HB0 : Hid (Below w.heap.size w (w.alloc (o5 k x y z u))) := (Below.refl _ _).alloc (Nat.le_refl _) _
  clear hr
  go_enter Tryd.func7, Tryd.ntmps7
  go_wp2_with fail
  refine (HN.out _).mono ?_
  rintro e w1 ⟨rfl, hb1⟩
  go_wp2_with fail
  refine (HI.out _).mono ?_
  rintro e w2 ⟨rfl, hb2⟩
  have HB : Hid (Below w.heap.size w w2) := HB0.out.trans (Below.mono (hb1.trans (hb2.mono hb1.size)) HB0.out.size)
  clear hb1 hb2 HB0
  go_wp2
  go_ret
  exact ⟨rfl, HB.out⟩
set_option maxHeartbeats 6400000 in
set_option maxRecDepth 100000 in
theorem check_kind (k x y z u : Int) (w : World) (h : k < 1 ∨ 8 < k) : Calls Tryd.prog 7 #[cm k x y z u] w fun e w' => e = .returned (.int .i64 6) ∧ Below w.heap.size w w' := by
  have HB0 : Hid (Below w.heap.size w (w.alloc (o5 k x y z u))) := (Below.refl _ _).alloc (Nat.le_refl _) _
  rcases h with h | h
  · go_enter Tryd.func7, Tryd.ntmps7
    go_wp2
    go_ret
    exact ⟨rfl, HB0.out⟩
  · have h2 : ¬ k < 1 := by omega
    go_enter Tryd.func7, Tryd.ntmps7
    go_wp2
    go_ret
    exact ⟨rfl, HB0.out⟩
theorem check_any (k x y z u : Int) (w : World) (hT : WT w) : Calls Tryd.prog 7 #[cm k x y z u] w fun e w' => e = .returned (.int .i64 (chkC k x y z u)) ∧ Below w.heap.size w w' := by
  unfold chkC
  by_cases h : k < 1 ∨ 8 < k
  · rw [if_pos h]; exact check_kind k x y z u w h
  · rw [if_neg h]
    cases hr : inRg x y z u with
    | false => rw [if_pos rfl]; exact check_out k x y z u w (by omega) (by omega) hr
    | true =>
      rw [if_neg (by simp)]
      obtain ⟨m, rfl⟩ := Int.eq_ofNat_of_zero_le (show 0 ≤ k by omega)
      have hc := check_in m x y z u w (by omega) (by omega) hr hT
      rw [show (m : Int).toNat = m by omega]
      cases hu : usedC m x y z u with
      | false => rw [hu] at hc; exact hc
      | true => rw [hu] at hc; exact hc
set_option maxHeartbeats 6400000 in
set_option maxRecDepth 100000 in
theorem refusal_any (n k x y z u : Int) (w : World) (hT : WT w) : Calls Tryd.prog 19 #[.int .i64 n, cm k x y z u] w fun e w' => e = .returned (.int .i64 (refuC n k x y z u)) ∧ Below w.heap.size w w' := by
  have HB0 : Hid (Below w.heap.size w (w.alloc (o5 k x y z u))) := (Below.refl _ _).alloc (Nat.le_refl _) _
  by_cases h : n < 0 ∨ 100000 < n
  · have e : refuC n k x y z u = 7 := by unfold refuC; rw [if_pos h]
    rw [e]; clear e
    rcases h with h | h
    · go_enter Tryd.func19, Tryd.ntmps19
      go_wp2
      go_ret
      exact ⟨rfl, HB0.out⟩
    · have h2 : ¬ n < 0 := by omega
      go_enter Tryd.func19, Tryd.ntmps19
      go_wp2
      go_ret
      exact ⟨rfl, HB0.out⟩
  · have e : refuC n k x y z u = chkC k x y z u := by unfold refuC; rw [if_neg h]
    rw [e]; clear e
    have HK : Hid (Calls Tryd.prog 7 #[cm k x y z u] (w.alloc (o5 k x y z u)) fun e w' => e = .returned (.int .i64 (chkC k x y z u)) ∧ Below (w.alloc (o5 k x y z u)).heap.size (w.alloc (o5 k x y z u)) w') := check_any k x y z u _ (hT.later HB0.out)
    generalize chkC k x y z u = r at *
    have h1 : ¬ n < 0 := by omega
    have h2 : ¬ 100000 < n := by omega
    clear h hT
    go_enter Tryd.func19, Tryd.ntmps19
    go_wp2_with fail
    refine HK.out.mono ?_
    rintro e w1 ⟨rfl, hb⟩
    go_wp2
    go_ret
    exact ⟨rfl, HB0.out.trans (hb.mono HB0.out.size)⟩
end Go.Proofs.YtiafppmpjmpdmaaDoor
