/- Steps, Volume, picked walked. -/
import Derived.Test.YteamcgoemgailaaStp
namespace Go.Proofs.Yteamcgoemgailaa
open Go.RowKit

set_option maxHeartbeats 1600000 in
theorem steps_bad (ao : Option Addr) (cap : Nat) (l : List Kn) (v : Int) (w : World) (hL : Kns w ao l) (hl : l.length ≤ 9223372036854775807) (hc : chk l ≠ 0) :
    Calls Try.prog 9 #[.slice ao l.length cap, .int .i64 v] w fun e w' => e = tup2 0 (chk l) ∧ Below w.heap.size w w' := by
  have hcall := most_bad ao cap l w hL hl hc
  have hne : (chk l != 0) = true := by simp [hc]
  clear hL hc
  generalize chk l = r at *
  go_enter Try.func9, Try.ntmps9
  go_wp2_with (go_at_call 11; refine hcall.mono ?_; rintro e w1 ⟨rfl, hb1⟩)
  go_ret2
  exact ⟨rfl, hb1⟩
set_option maxHeartbeats 1600000 in
theorem steps_out (ao : Option Addr) (cap : Nat) (l : List Kn) (v : Int) (w : World) (hL : Kns w ao l) (hc : Curve l) (hv : v < 0 ∨ mostV l < v) :
    Calls Try.prog 9 #[.slice ao l.length cap, .int .i64 v] w fun e w' => e = tup2 0 2 ∧ Below w.heap.size w w' := by
  have hcall := most_ok ao cap l w hL hc
  clear hL hc
  generalize mostV l = mv at *
  generalize mostS l = ms at *
  by_cases h0 : v < 0
  · go_enter Try.func9, Try.ntmps9
    go_wp2_with (go_at_call 11; refine hcall.mono ?_; rintro e w1 ⟨rfl, hb1⟩)
    go_ret2
    exact ⟨rfl, hb1⟩
  · have h1 : mv < v := by omega
    clear hv
    go_enter Try.func9, Try.ntmps9
    go_wp2_with (go_at_call 11; refine hcall.mono ?_; rintro e w1 ⟨rfl, hb1⟩)
    go_ret2
    exact ⟨rfl, hb1⟩
set_option maxHeartbeats 1600000 in
theorem steps_ok (ao : Option Addr) (cap : Nat) (l : List Kn) (v : Int) (w : World) (hL : Kns w ao l) (hc : Curve l) (hv : 0 ≤ v) (hm : v ≤ mostV l) :
    Calls Try.prog 9 #[.slice ao l.length cap, .int .i64 v] w fun e w' => e = tup2 (stp l v) 0 ∧ Below w.heap.size w w' := by
  have hcall := most_ok ao cap l w hL hc
  have hst : ∀ W, Below w.heap.size w W → Calls Try.prog 21 #[.slice ao l.length cap, .int .i64 v] W fun e w' => e = .returned (.int .i64 (stp l v)) ∧ Below W.heap.size W w' := fun W hW => stepsFor_any ao cap l v W (hL.next hW) hc hv hm
  have HS : Hid (∀ W, Below w.heap.size w W → Calls Try.prog 21 #[.slice ao l.length cap, .int .i64 v] W fun e w' => e = .returned (.int .i64 (stp l v)) ∧ Below W.heap.size W w') := hst
  clear hL hc hst
  generalize mostV l = mv at *
  generalize mostS l = ms at *
  generalize stp l v = s at *
  go_enter Try.func9, Try.ntmps9
  go_wp2_with fail
  refine hcall.mono ?_
  rintro e w1 ⟨rfl, hb1⟩
  have HB1 : Hid (Below w.heap.size w w1) := hb1
  clear hb1
  go_wp2_with fail
  refine (HS.out w1 HB1.out).mono ?_
  rintro e w2 ⟨rfl, hb2⟩
  go_wp2
  go_ret2
  exact ⟨rfl, below_on HB1.out hb2⟩

def tmV (ao : Option Addr) (n cap i : Nat) (s st : Int) (d : Nat) (v : Value) (_w : World) : Prop :=
  match d with
  | 5 => v = .slice ao n cap
  | 6 => v = .int .i64 (i : Int)
  | 7 => v = .int .i64 ((i : Int) + 1)
  | 8 => v = .int .i64 s
  | 9 => v = .int .i64 st
  | 10 => v = .bool (decide (st < s))
  | 4 => v = .bool (decide (st < s))
  | _ => True
set_option maxHeartbeats 3200000 in
set_option maxRecDepth 100000 in
/-- The test of Volume: does one more need too many steps? -/
theorem tooMuch_any (A B : Nat) (ao : Option Addr) (n cap i : Nat) (s st : Int) (w : World) (cA : w.cell? ⟨A, 0, none⟩ = some (.slice ao n cap)) (cB : w.cell? ⟨B, 0, none⟩ = some (.int .i64 st)) (hi : i < 1000000000)
    (hcall : ∀ W, Below w.heap.size w W → Calls Try.prog 21 #[.slice ao n cap, .int .i64 ((i : Int) + 1)] W fun e w' => e = .returned (.int .i64 s) ∧ Below W.heap.size W w') :
    Calls Try.prog 22 #[.int .i64 (i : Int), ptr A, ptr B] w fun e w' => e = .returned (.bool (decide (st < s))) ∧ Below w.heap.size w w' := by
  have hwr : IntKind.i64.wrap ((i : Int) + 1) = (i : Int) + 1 := by rw [IntWalk.i64_left, IntWalk.wrap64_in _ ⟨by omega, by omega⟩]
  go_enter Try.func22, Try.ntmps22
  go_wp2_with fail
  refine region_inv [false, false, false, false, true, true, true, true, true, true, true]
    [(5, [], none), (6, [], none), (7, [6], none), (8, [5, 7], none), (9, [], none), (10, [8, 9], none), (4, [10], none)]
    (tmV ao n cap i s st) (by kernel_rfl) (by kernel_rfl) (fun _ _ _ _ h _ => h) ?_ ?_
  · refine ⟨?_, ?_, ?_, ?_, ?_, ?_, ?_, trivial⟩
    · intro f w1 hb _ K hK
      have e0 := cell_later hb cA
      simp only [over, overL, Nat.reduceAdd]
      go_simp
      exact hK _ _ ⟨_, rfl, by simp only [over, overL, Nat.reduceAdd]; rfl, Below.refl _ _⟩
    · intro f w1 hb _ K hK
      simp only [over, overL, Nat.reduceAdd]
      go_simp
      exact hK _ _ ⟨_, rfl, by simp only [over, overL, Nat.reduceAdd]; rfl, Below.refl _ _⟩
    · intro f w1 hb ⟨h6, _⟩ K hK
      have h6 : f 6 = _ := h6
      simp only [over, overL, Nat.reduceAdd, h6]
      go_simp
      exact hK _ _ ⟨_, rfl, by simp only [over, overL, Nat.reduceAdd, h6]; rfl, Below.refl _ _⟩
    · intro f w1 hb ⟨h5, h7, _⟩ K hK
      have h5 : f 5 = _ := h5
      have h7 : f 7 = _ := h7
      simp only [over, overL, Nat.reduceAdd, h5, h7]
      go_simp
      refine (hcall w1 hb).mono ?_
      rintro e w2 ⟨rfl, hb2⟩
      exact hK _ _ ⟨_, rfl, by simp only [over, overL, Nat.reduceAdd, h5, h7]; rfl, hb2⟩
    · intro f w1 hb _ K hK
      have e0 := cell_later hb cB
      simp only [over, overL, Nat.reduceAdd]
      go_simp
      exact hK _ _ ⟨_, rfl, by simp only [over, overL, Nat.reduceAdd]; rfl, Below.refl _ _⟩
    · intro f w1 hb ⟨h8, h9, _⟩ K hK
      have h8 : f 8 = _ := h8
      have h9 : f 9 = _ := h9
      simp only [over, overL, Nat.reduceAdd, h8, h9]
      go_simp
      exact hK _ _ ⟨_, rfl, by simp only [over, overL, Nat.reduceAdd, h8, h9]; rfl, Below.refl _ _⟩
    · intro f w1 hb ⟨h10, _⟩ K hK
      have h10 : f 10 = _ := h10
      simp only [over, overL, Nat.reduceAdd, h10]
      go_simp
      exact hK _ _ ⟨_, rfl, by simp only [over, overL, Nat.reduceAdd, h10]; rfl, Below.refl _ _⟩
  intro f w1 hb1 h
  have h4 : f 4 = .bool (decide (st < s)) := h.2.2.2.2.2.2.1
  simp only [over_eq, overL, h4, Nat.reduceAdd]
  go_wp2
  go_ret
  exact ⟨rfl, hb1⟩
theorem en22 : ∀ args w, (callFunc 22 args).run Try.prog w = .ok (.enter 22 args) w := enters_of Try.func22 (by kernel_rfl) rfl

set_option maxHeartbeats 1600000 in
theorem volume_bad (ao : Option Addr) (cap : Nat) (l : List Kn) (n : Int) (w : World) (hL : Kns w ao l) (hl : l.length ≤ 9223372036854775807) (hc : chk l ≠ 0) :
    Calls Try.prog 10 #[.slice ao l.length cap, .int .i64 n] w fun e w' => e = tup2 0 (chk l) ∧ Below w.heap.size w w' := by
  have HL : Hid (Kns w ao l) := hL
  have HC : Hid (chk l ≠ 0) := hc
  have hne : (chk l != 0) = true := by simp [hc]
  clear hL hc
  go_enter Try.func10, Try.ntmps10
  go_wp2_with fail
  have hb0 : Below w.heap.size w ((w.alloc (.cells #[.slice ao l.length cap] 22)).alloc (.cells #[.int .i64 n] 3)) := below_grow _ (Nat.le_refl _) ((Below.refl _ _).alloc (Nat.le_refl _) _) _
  refine (most_bad ao cap l _ (HL.out.next hb0) hl HC.out).mono ?_
  rintro e w1 ⟨rfl, hb1⟩
  have HB : Hid (Below w.heap.size w w1) := below_on hb0 hb1
  clear hb0 hb1
  go_wp2
  go_ret2
  exact ⟨rfl, HB.out⟩
set_option maxHeartbeats 1600000 in
theorem volume_out (ao : Option Addr) (cap : Nat) (l : List Kn) (n : Int) (w : World) (hL : Kns w ao l) (hc : Curve l) (hv : n < 0 ∨ mostS l < n) :
    Calls Try.prog 10 #[.slice ao l.length cap, .int .i64 n] w fun e w' => e = tup2 0 2 ∧ Below w.heap.size w w' := by
  have HL : Hid (Kns w ao l) := hL
  have HC : Hid (Curve l) := hc
  clear hL hc
  have hb0 : Below w.heap.size w ((w.alloc (.cells #[.slice ao l.length cap] 22)).alloc (.cells #[.int .i64 n] 3)) := below_grow _ (Nat.le_refl _) ((Below.refl _ _).alloc (Nat.le_refl _) _) _
  have HB0 := (show Hid _ from hb0)
  clear hb0
  by_cases h0 : n < 0
  · go_enter Try.func10, Try.ntmps10
    go_wp2_with fail
    refine (most_ok ao cap l _ (HL.out.next HB0.out) HC.out).mono ?_
    rintro e w1 ⟨rfl, hb1⟩
    have cB : w1.cell? ⟨w.heap.size + 1, 0, none⟩ = some (.int .i64 n) := cell_later hb1 (by go_simp)
    have HB : Hid (Below w.heap.size w w1) := below_on HB0.out hb1
    clear hb1 hv
    generalize mostV l = mv at *
    generalize mostS l = ms at *
    go_wp2
    go_ret2
    exact ⟨rfl, HB.out⟩
  · have h1 : mostS l < n := by omega
    clear hv
    go_enter Try.func10, Try.ntmps10
    go_wp2_with fail
    refine (most_ok ao cap l _ (HL.out.next HB0.out) HC.out).mono ?_
    rintro e w1 ⟨rfl, hb1⟩
    have cB : w1.cell? ⟨w.heap.size + 1, 0, none⟩ = some (.int .i64 n) := cell_later hb1 (by go_simp)
    have HB : Hid (Below w.heap.size w w1) := below_on HB0.out hb1
    clear hb1
    generalize mostV l = mv at *
    generalize mostS l = ms at *
    go_wp2
    go_ret2
    exact ⟨rfl, HB.out⟩
set_option maxHeartbeats 1600000 in
theorem volume_ok (ao : Option Addr) (cap : Nat) (l : List Kn) (n : Int) (w : World) (hL : Kns w ao l) (hc : Curve l) (hv : 0 ≤ n) (hm : n ≤ mostS l) :
    Calls Try.prog 10 #[.slice ao l.length cap, .int .i64 n] w fun e w' => ∃ r, e = tup2 r 0 ∧ VolAt l n r ∧ Below w.heap.size w w' := by
  have HL : Hid (Kns w ao l) := hL
  have HC : Hid (Curve l) := hc
  have HN : Hid (0 ≤ mostV l ∧ mostV l ≤ 1000000000) := (hc.near _ (by have := hc.two; omega)).1
  have hb0 : Below w.heap.size w ((w.alloc (.cells #[.slice ao l.length cap] 22)).alloc (.cells #[.int .i64 n] 3)) := below_grow _ (Nat.le_refl _) ((Below.refl _ _).alloc (Nat.le_refl _) _) _
  have HB0 := (show Hid _ from hb0)
  obtain ⟨M, hM⟩ : ∃ M : Nat, mostV l = (M : Int) := ⟨(mostV l).toNat, by have := HN.out; omega⟩
  have HM : Hid (mostV l = (M : Int)) := hM
  have hM2 : M ≤ 1000000000 := by have := HN.out; omega
  clear hL hc hb0 hM
  go_enter Try.func10, Try.ntmps10
  go_wp2_with fail
  refine (most_ok ao cap l _ (HL.out.next HB0.out) HC.out).mono ?_
  rintro e w1 ⟨rfl, hb1⟩
  have cA : w1.cell? ⟨w.heap.size, 0, none⟩ = some (.slice ao l.length cap) := cell_later hb1 (by go_simp)
  have cB : w1.cell? ⟨w.heap.size + 1, 0, none⟩ = some (.int .i64 n) := cell_later hb1 (by go_simp)
  have HB : Hid (Below w.heap.size w w1) := below_on HB0.out hb1
  have HK : Hid (Kns w1 ao l) := HL.out.next HB.out
  have CA : Hid (w1.cell? ⟨w.heap.size, 0, none⟩ = some (.slice ao l.length cap)) := cA
  have CB : Hid (w1.cell? ⟨w.heap.size + 1, 0, none⟩ = some (.int .i64 n)) := cB
  clear hb1
  rw [HM.out]
  generalize mostS l = ms at *
  go_wp2_with fail
  refine (search_any 22 #[ptr w.heap.size, ptr (w.heap.size + 1)] (fun i => decide (n < stp l ((i : Int) + 1))) M w1 en22 (fun i W hi hW => tooMuch_any w.heap.size (w.heap.size + 1) ao l.length cap i (stp l ((i : Int) + 1)) n W (cell_later hW CA.out) (cell_later hW CB.out) (by omega)
    (fun W' hW' => stepsFor_any ao cap l ((i : Int) + 1) W' ((HK.out.next hW).next hW') HC.out (by omega) (by rw [HM.out]; omega))) (by omega)).mono ?_
  rintro e w2 ⟨r, rfl, h1, h3, h4, hb2⟩
  have HR : Hid (VolAt l n (r : Int)) := by
    refine ⟨⟨by omega, by rw [HM.out]; omega⟩, ?_, ?_⟩
    · rcases h3 with h3 | h3
      · subst h3; rw [Int.natCast_zero, stp_zero HC.out]; exact hv
      · by_cases e : r = 0
        · subst e; rw [Int.natCast_zero, stp_zero HC.out]; exact hv
        · simp only [decide_eq_false_iff_not] at h3
          rw [show ((r - 1 : Nat) : Int) + 1 = (r : Int) by omega] at h3
          omega
    · rw [HM.out]
      rcases h4 with h4 | h4
      · left; omega
      · right; simpa using h4
  clear h1 h3 h4
  go_wp2
  go_ret2
  exact ⟨_, rfl, HR.out, below_on HB.out hb2⟩

/-- A number below another, made of any. -/
def pick (a n : Int) : Int := if a < 0 then (-(a + 1)) % n else a % n
theorem pick_in (a n : Int) (h : 0 < n) : 0 ≤ pick a n ∧ pick a n < n := by
  unfold pick
  split
  · exact ⟨Int.emod_nonneg _ (by omega), Int.emod_lt_of_pos _ h⟩
  · exact ⟨Int.emod_nonneg _ (by omega), Int.emod_lt_of_pos _ h⟩
theorem picked_any (a n : Int) (w : World) (ha : -9223372036854775808 ≤ a ∧ a ≤ 9223372036854775807) (hn : 0 < n) (hn2 : n ≤ 9223372036854775807) :
    Calls Try.prog 17 #[.int .i64 a, .int .i64 n] w fun e w' => e = .returned (.int .i64 (pick a n)) ∧ w' = w := by
  by_cases h : a < 0
  · have HP : Hid (pick a n = (-(a + 1)) % n) := if_pos h
    go_enter Try.func17, Try.ntmps17
    go_wp2
    go_ret
    exact ⟨ret_int (by rw [HP.out, ← Int.tmod_eq_emod_of_nonneg (by omega), Int.neg_tmod]), rfl⟩
  · have HP : Hid (pick a n = a % n) := if_neg h
    go_enter Try.func17, Try.ntmps17
    go_wp2
    go_ret
    exact ⟨ret_int HP.out.symm, rfl⟩
end Go.Proofs.Yteamcgoemgailaa
