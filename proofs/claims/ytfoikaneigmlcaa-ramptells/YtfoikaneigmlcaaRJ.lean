/- RampFaster walked. -/
import Derived.Test.YtfoikaneigmlcaaRI
import Derived.Test.YtfoikaneigmlcaaSeq
namespace Go.Proofs.Ytfoikaneigmlcaa
open Go.RowKit

attribute [local go_sem] Oper.semAt_some
set_option linter.unusedVariables false in
def f9V (A Q : Nat) (c m more p : Int) (d : Nat) (v : Value) (w : World) : Prop :=
  match d with
  | 38 => v = .pointer (some ⟨Q, 2, none⟩)
  | 39 => v = .int .i64 m
  | 40 => v = .int .i64 more
  | 41 => v = ptr A
  | 42 => v = .int .i64 c
  | 43 => v = .pointer (some ⟨A, 2, none⟩)
  | 44 => v = .int .i64 m
  | 45 => v = .int .i64 (c - m)
  | 46 => v = .int .i64 (c - m + 1)
  | 47 => v = .int .i64 p
  | 48 => v = .int .i64 (m + p)
  | 49 => v = .pointer (some ⟨Q, 2, none⟩)
  | _ => True
set_option linter.unusedVariables false in
theorem f9V_mono (A Q : Nat) (c m more p : Int) (d : Nat) (v : Value) (w w' : World) (h : f9V A Q c m more p d v w) (_ : Below w.heap.size w w') : f9V A Q c m more p d v w' := h
set_option linter.unusedVariables false in
def f10V (A Q : Nat) (x more p : Int) (d : Nat) (v : Value) (w : World) : Prop :=
  match d with
  | 50 => v = .pointer (some ⟨Q, 3, none⟩)
  | 51 => v = .int .i64 x
  | 52 => v = .int .i64 more
  | 53 => v = .pointer (some ⟨A, 3, none⟩)
  | 54 => v = .int .i64 x
  | 55 => v = .int .i64 (100001 - x)
  | 56 => v = .int .i64 p
  | 57 => v = .int .i64 (x + p)
  | 58 => v = .pointer (some ⟨Q, 3, none⟩)
  | _ => True
set_option linter.unusedVariables false in
theorem f10V_mono (A Q : Nat) (x more p : Int) (d : Nat) (v : Value) (w w' : World) (h : f10V A Q x more p d v w) (_ : Below w.heap.size w w') : f10V A Q x more p d v w' := h
/-- What is picked. -/
def pkN (n of : Int) : Int := if n < 0 then Int.tmod (-(n + 1)) of else Int.tmod n of
theorem pkN_bd {n of : Int} (hn : -9223372036854775808 ≤ n) (ho : 1 ≤ of) : 0 ≤ pkN n of ∧ pkN n of < of := by
  unfold pkN
  split
  · obtain ⟨p, e1, e2⟩ := tmod_nat (x := -(n + 1)) (of := of) (by omega) ho
    omega
  · obtain ⟨p, e1, e2⟩ := tmod_nat (x := n) (of := of) (by omega) ho
    omega
theorem picked_is (n of : Int) (w : World) (hn : -9223372036854775808 ≤ n) (hn2 : n ≤ 9223372036854775807) (ho : 1 ≤ of) :
    Calls Try.prog 17 #[.int .i64 n, .int .i64 of] w fun e w' => e = .returned (.int .i64 (pkN n of)) ∧ w' = w := by
  have HE : Hid (pkN n of = if n < 0 then Int.tmod (-(n + 1)) of else Int.tmod n of) := rfl
  have h0 : of ≠ 0 := by omega
  by_cases h : n < 0
  · go_enter Try.func17, Try.ntmps17
    go_wp2
    go_ret
    exact ⟨ret_int (by rw [HE.out, if_pos h, Int.neg_tmod]), rfl⟩
  · go_enter Try.func17, Try.ntmps17
    go_wp2
    go_ret
    exact ⟨ret_int (by rw [HE.out, if_neg (by omega), Int.tmod_eq_emod_of_nonneg (by omega)]), rfl⟩
set_option maxHeartbeats 6400000 in
set_option maxRecDepth 100000 in
theorem faster_any (r : Rp) (steps more : Int) (w : World) (hs1 : -9223372036854775808 ≤ steps) (hs2 : steps ≤ 9223372036854775807) (hm1 : -9223372036854775808 ≤ more) (hm2 : more ≤ 9223372036854775807) :
    Calls Try.prog 5 #[rv r, .int .i64 steps, .int .i64 more] w fun e w' => e = .returned (.bool true) ∧ Below w.heap.size w w' := by
  obtain ⟨p, hp, HP0⟩ : ∃ p : Nat, p < 500 ∧ Hid (∀ W, Calls Try.prog 17 #[.int .i64 steps, .int .i64 500] W fun e w' => e = .returned (.int .i64 (p : Int)) ∧ w' = W) := by
    obtain ⟨h1, h2⟩ := pkN_bd (n := steps) (of := 500) hs1 (by omega)
    refine ⟨(pkN steps 500).toNat, by omega, fun W => ?_⟩
    rw [Int.toNat_of_nonneg h1]
    exact picked_is steps 500 W hs1 hs2 (by omega)
  have HT5 : Hid (∀ W, Calls Try.prog 8 #[.agg #[.int .i64 1000, .int .i64 100, .int .i64 300, .int .i64 100], .int .i64 5] W fun e w' => e = .returned (.tuple #[.int .i64 33, .int .i64 0]) ∧ Below W.heap.size W w') := fun W => (total_yes ⟨1000, 100, 300, 100⟩ 5 W (by decide) (by decide)).mono fun e w' ⟨h1, h2⟩ => ⟨by rw [h1, five_tot], h2⟩
  have HB0 : Hid (Below w.heap.size w (w.alloc (ro r))) := (Below.refl _ _).alloc (Nat.le_refl _) _
  have KA0 : Hid (Bk w.heap.size (rcl r) (w.alloc (ro r))) := Bk.new w (rcl r) 23 w.heap.size rfl
  have HNO : Hid (rpOk r = false → ∀ W, Calls Try.prog 8 #[rv r, .int .i64 (p : Int)] W fun e w' => e = .returned (.tuple #[.int .i64 0, .int .i64 2]) ∧ Below W.heap.size W w') := fun h W => (total_no r p W (by rw [refR_range h]; decide)).mono fun e w' ⟨h1, h2⟩ => ⟨by rw [h1, refR_range h], h2⟩
  have HYES : Hid (rpOk r = true → ∀ W, Calls Try.prog 8 #[rv r, .int .i64 (p : Int)] W fun e w' => e = .returned (.tuple #[.int .i64 (totR r p), .int .i64 0]) ∧ Below W.heap.size W w') := fun h W => total_yes r p W h (by omega)
  go_enter Try.func5, Try.ntmps5
  go_wp2_with fail
  refine Calls.mono (HP0.out _) ?_
  rintro e w1 ⟨rfl, rfl⟩
  go_wp2_with fail
  refine Calls.mono (HT5.out _) ?_
  rintro e w1 ⟨rfl, hb1⟩
  have HB1 : Hid (Below w.heap.size w w1) := HB0.out.trans (hb1.mono HB0.out.size)
  have KA1 : Hid (Bk w.heap.size (rcl r) w1) := KA0.out.later hb1
  have a0 := KA1.out.c 0 rfl
  have a1 := KA1.out.c 1 rfl
  have a2 := KA1.out.c 2 rfl
  have a3 := KA1.out.c 3 rfl
  clear hb1
  go_wp2_with fail
  cases hok : rpOk r with
  | false =>
    refine Calls.mono (HNO.out hok _) ?_
    rintro e w2 ⟨rfl, hb2⟩
    have HB2 : Hid (Below w.heap.size w w2) := HB1.out.trans (hb2.mono HB1.out.size)
    clear hb2 a0 a1 a2 a3
    go_wp2
    go_ret
    exact ⟨rfl, HB2.out⟩
  | true =>
    refine Calls.mono (HYES.out hok _) ?_
    rintro e w2 ⟨rfl, hb2⟩
    have HB2 : Hid (Below w.heap.size w w2) := HB1.out.trans (hb2.mono HB1.out.size)
    have KA2 : Hid (Bk w.heap.size (rcl r) w2) := KA1.out.later hb2
    clear a0 a1 a2 a3 hb2
    have a0 := KA2.out.c 0 rfl
    have a1 := KA2.out.c 1 rfl
    have a2 := KA2.out.c 2 rfl
    have a3 := KA2.out.c 3 rfl
    obtain ⟨h1, h2, h3, h4, h5, h6⟩ := rpOk_iff.1 hok
    have HOK : Hid (rpOk r = true) := hok
    clear hok
    go_wp2_with fail
    clear a0 a1 a2 a3
    obtain ⟨Q, hQ⟩ : ∃ Q, Q = w2.heap.size := ⟨_, rfl⟩
    obtain ⟨w3, hw3⟩ : ∃ x, x = w2.alloc (ro r) := ⟨_, rfl⟩
    have hb3 : Below w2.heap.size w2 w3 := by rw [hw3]; exact (Below.refl _ _).alloc (Nat.le_refl _) _
    have KQ : Hid (Bk Q (rcl r) w3) := by show Bk _ _ _; rw [hw3, hQ]; exact Bk.new w2 (rcl r) 23 w2.heap.size rfl
    have KA : Hid (Bk w.heap.size (rcl r) w3) := KA2.out.later hb3
    have HB3 : Hid (Below w.heap.size w w3) := HB2.out.trans (hb3.mono HB2.out.size)
    have hwQ : w.heap.size < Q := by have := KA2.out.1; omega
    rw [← hQ, ← hw3]
    clear hQ hw3 hb3
    rename_i KK hkk
    have HKK := (show Hid _ from hkk)
    clear hkk
    obtain ⟨p1, hp1, hp2, HP1⟩ : ∃ p1, 0 ≤ p1 ∧ p1 < r.c - r.m + 1 ∧ Hid (∀ W, Calls Try.prog 17 #[.int .i64 more, .int .i64 (r.c - r.m + 1)] W fun e w' => e = .returned (.int .i64 p1) ∧ w' = W) := by
      obtain ⟨h1, h2⟩ := pkN_bd (n := more) (of := r.c - r.m + 1) hm1 (by omega)
      exact ⟨_, h1, h2, fun W => picked_is more (r.c - r.m + 1) W hm1 hm2 (by omega)⟩
    obtain ⟨p2, hp3, hp4, HP2⟩ : ∃ p2, 0 ≤ p2 ∧ p2 < 100001 - r.r ∧ Hid (∀ W, Calls Try.prog 17 #[.int .i64 more, .int .i64 (100001 - r.r)] W fun e w' => e = .returned (.int .i64 p2) ∧ w' = W) := by
      obtain ⟨h1, h2⟩ := pkN_bd (n := more) (of := 100001 - r.r) hm1 (by omega)
      exact ⟨_, h1, h2, fun W => picked_is more (100001 - r.r) W hm1 hm2 (by omega)⟩
    have W45 : Hid (Value.int .i64 (IntKind.i64.wrap (r.c - r.m)) = .int .i64 (r.c - r.m)) := by show _ = _; rw [wrap_in (by omega) (by omega)]
    have W46 : Hid (Value.int .i64 (IntKind.i64.wrap (r.c - r.m + 1)) = .int .i64 (r.c - r.m + 1)) := by show _ = _; rw [wrap_in (by omega) (by omega)]
    have W48 : Hid (Value.int .i64 (IntKind.i64.wrap (r.m + p1)) = .int .i64 (r.m + p1)) := by show _ = _; rw [wrap_in (by omega) (by omega)]
    have W55 : Hid (Value.int .i64 (IntKind.i64.wrap (100001 - r.r)) = .int .i64 (100001 - r.r)) := by show _ = _; rw [wrap_in (by omega) (by omega)]
    have W57 : Hid (Value.int .i64 (IntKind.i64.wrap (r.r + p2)) = .int .i64 (r.r + p2)) := by show _ = _; rw [wrap_in (by omega) (by omega)]
    have HQ : Hid (rpOk ⟨r.c, r.f, r.m + p1, r.r + p2⟩ = true) := rpOk_yes (by simp only; omega)
    have HLE : Hid (totR ⟨r.c, r.f, r.m + p1, r.r + p2⟩ p ≤ totR r p) := tot_le (q := ⟨r.c, r.f, r.m + p1, r.r + p2⟩) HOK.out rfl rfl (by simp only; omega) (by simp only; omega) (by omega)
    have HYQ : Hid (∀ W, Calls Try.prog 8 #[rv ⟨r.c, r.f, r.m + p1, r.r + p2⟩, .int .i64 (p : Int)] W fun e w' => e = .returned (.tuple #[.int .i64 (totR ⟨r.c, r.f, r.m + p1, r.r + p2⟩ p), .int .i64 0]) ∧ Below W.heap.size W w') := fun W => total_yes _ p W HQ.out (by omega)
    refine region_seq 12 [false, false, false, false, false, false, false, false, false, false, false, false, false, false, false, false, false, false, false, false, false, false, false, false, false, false, false, false, false, false, false, false, false, false, false, false, false, false, true, true, true, true, true, true, true, true, true, true, true, true, false, false, false, false, false, false, false, false, false, false, false, false, false, false, false, false, false, false, false, false, false, false]
      [(38, [], none), (39, [38], none), (40, [], none), (41, [], none), (42, [41], none), (43, [], none), (44, [43], none), (45, [42, 44], none), (46, [45], none), (47, [40, 46], none), (48, [39, 47], none), (49, [], none)]
      (f9V w.heap.size Q r.c r.m more p1) (by kernel_rfl) (by kernel_rfl) (by kernel_rfl) (by kernel_rfl) (by kernel_rfl) (by decide) (f9V_mono w.heap.size Q r.c r.m more p1) ?_ ?_
    · refine ⟨?_, ?_, ?_, ?_, ?_, ?_, ?_, ?_, ?_, ?_, ?_, ?_, trivial⟩
      · intro f w1 hb _ K hK
        have q0 := cell_later hb (KQ.out.c 0 rfl)
        simp only [over, overL, Nat.reduceAdd]
        go_simp
        exact hK _ _ ⟨_, rfl, by simp only [over, overL, Nat.reduceAdd]; rfl, Below.refl _ _⟩
      · intro f w1 hb ⟨h38, _⟩ K hK
        replace h38 : f 38 = _ := h38
        have q0 := cell_later hb (KQ.out.c 2 rfl)
        simp only [over, overL, Nat.reduceAdd, h38]
        go_simp
        exact hK _ _ ⟨_, rfl, by simp only [over, overL, Nat.reduceAdd, h38]; rfl, Below.refl _ _⟩
      · intro f w1 hb _ K hK
        simp only [over, overL, Nat.reduceAdd]
        go_simp
        exact hK _ _ ⟨_, rfl, by simp only [over, overL, Nat.reduceAdd]; rfl, Below.refl _ _⟩
      · intro f w1 hb _ K hK
        have q0 := cell_later hb (KA.out.c 0 rfl)
        simp only [over, overL, Nat.reduceAdd]
        go_simp
        exact hK _ _ ⟨_, rfl, by simp only [over, overL, Nat.reduceAdd]; rfl, Below.refl _ _⟩
      · intro f w1 hb ⟨h41, _⟩ K hK
        replace h41 : f 41 = _ := h41
        have q0 := cell_later hb (KA.out.c 0 rfl)
        simp only [over, overL, Nat.reduceAdd, h41]
        go_simp
        exact hK _ _ ⟨_, rfl, by simp only [over, overL, Nat.reduceAdd, h41]; rfl, Below.refl _ _⟩
      · intro f w1 hb _ K hK
        have q0 := cell_later hb (KA.out.c 0 rfl)
        simp only [over, overL, Nat.reduceAdd]
        go_simp
        exact hK _ _ ⟨_, rfl, by simp only [over, overL, Nat.reduceAdd]; rfl, Below.refl _ _⟩
      · intro f w1 hb ⟨h43, _⟩ K hK
        replace h43 : f 43 = _ := h43
        have q0 := cell_later hb (KA.out.c 2 rfl)
        simp only [over, overL, Nat.reduceAdd, h43]
        go_simp
        exact hK _ _ ⟨_, rfl, by simp only [over, overL, Nat.reduceAdd, h43]; rfl, Below.refl _ _⟩
      · intro f w1 hb ⟨h42, h44, _⟩ K hK
        replace h42 : f 42 = _ := h42
        replace h44 : f 44 = _ := h44
        simp only [over, overL, Nat.reduceAdd, h42, h44]
        go_simp
        exact hK _ _ ⟨_, W45.out, by simp only [over, overL, Nat.reduceAdd, h42, h44]; rfl, Below.refl _ _⟩
      · intro f w1 hb ⟨h45, _⟩ K hK
        replace h45 : f 45 = _ := h45
        simp only [over, overL, Nat.reduceAdd, h45]
        go_simp
        exact hK _ _ ⟨_, W46.out, by simp only [over, overL, Nat.reduceAdd, h45]; rfl, Below.refl _ _⟩
      · intro f w1 hb ⟨h40, h46, _⟩ K hK
        replace h40 : f 40 = _ := h40
        replace h46 : f 46 = _ := h46
        simp only [over, overL, Nat.reduceAdd, h40, h46]
        go_simp
        refine Calls.mono (HP1.out _) ?_
        rintro e w9 ⟨rfl, rfl⟩
        exact hK _ _ ⟨_, rfl, by simp only [over, overL, Nat.reduceAdd, h40, h46]; rfl, Below.refl _ _⟩
      · intro f w1 hb ⟨h39, h47, _⟩ K hK
        replace h39 : f 39 = _ := h39
        replace h47 : f 47 = _ := h47
        simp only [over, overL, Nat.reduceAdd, h39, h47]
        go_simp
        exact hK _ _ ⟨_, W48.out, by simp only [over, overL, Nat.reduceAdd, h39, h47]; rfl, Below.refl _ _⟩
      · intro f w1 hb _ K hK
        have q0 := cell_later hb (KQ.out.c 0 rfl)
        simp only [over, overL, Nat.reduceAdd]
        go_simp
        exact hK _ _ ⟨_, rfl, by simp only [over, overL, Nat.reduceAdd]; rfl, Below.refl _ _⟩
    intro f w4 hb hv
    have h48 : f 48 = _ := hv.2.2.2.2.2.2.2.2.2.2.1
    have h49 : f 49 = _ := hv.2.2.2.2.2.2.2.2.2.2.2.1
    have KQ4 := KQ.out.later hb
    have KA4 : Hid (Bk w.heap.size (rcl r) w4) := KA.out.later hb
    have HB4 : Hid (Below w.heap.size w w4) := HB3.out.trans (hb.mono HB3.out.size)
    have c4 := KQ4.c 2 rfl
    have f4 := KQ4.f 2 rfl
    have HKQ4 : Hid (Bk Q (rcl r) w4) := KQ4
    clear hv hb KQ4
    simp only [over_eq, overL, h48, h49, Nat.reduceAdd, List.drop_succ_cons, List.drop_zero]
    go_wp2_with fail
    clear c4 f4 KA KQ
    obtain ⟨w5, hw5⟩ : ∃ x, x = w4.setCell ⟨Q, 2, none⟩ (.int .i64 (r.m + p1)) := ⟨_, rfl⟩
    have KQ : Hid (Bk Q [.int .i64 r.c, .int .i64 r.f, .int .i64 (r.m + p1), .int .i64 r.r] w5) := by show Bk _ _ _; rw [hw5]; exact HKQ4.out.put 2 _
    have KA : Hid (Bk w.heap.size (rcl r) w5) := by show Bk _ _ _; rw [hw5]; exact KA4.out.other (by omega) _ _
    have HB5 : Hid (Below w.heap.size w w5) := by show Below _ _ _; rw [hw5]; exact HB4.out.setCell (by show w.heap.size ≤ Q; omega) _
    rw [← hw5]
    clear hw5
    refine HKK.out _ _ ?_
    go_wp2_with fail
    rename_i KK2 hkk
    have HKK2 := (show Hid _ from hkk)
    clear hkk
    refine region_seq 9 [false, false, false, false, false, false, false, false, false, false, false, false, false, false, false, false, false, false, false, false, false, false, false, false, false, false, false, false, false, false, false, false, false, false, false, false, false, false, false, false, false, false, false, false, false, false, false, false, false, false, true, true, true, true, true, true, true, true, true, false, false, false, false, false, false, false, false, false, false, false, false, false]
      [(50, [], none), (51, [50], none), (52, [], none), (53, [], none), (54, [53], none), (55, [54], none), (56, [52, 55], none), (57, [51, 56], none), (58, [], none)]
      (f10V w.heap.size Q r.r more p2) (by kernel_rfl) (by kernel_rfl) (by kernel_rfl) (by kernel_rfl) (by kernel_rfl) (by decide) (f10V_mono w.heap.size Q r.r more p2) ?_ ?_
    · refine ⟨?_, ?_, ?_, ?_, ?_, ?_, ?_, ?_, ?_, trivial⟩
      · intro f w1 hb _ K hK
        have q0 := cell_later hb (KQ.out.c 0 rfl)
        simp only [over, overL, Nat.reduceAdd]
        go_simp
        exact hK _ _ ⟨_, rfl, by simp only [over, overL, Nat.reduceAdd]; rfl, Below.refl _ _⟩
      · intro f w1 hb ⟨h50, _⟩ K hK
        replace h50 : f 50 = _ := h50
        have q0 := cell_later hb (KQ.out.c 3 rfl)
        simp only [over, overL, Nat.reduceAdd, h50]
        go_simp
        exact hK _ _ ⟨_, rfl, by simp only [over, overL, Nat.reduceAdd, h50]; rfl, Below.refl _ _⟩
      · intro f w1 hb _ K hK
        simp only [over, overL, Nat.reduceAdd]
        go_simp
        exact hK _ _ ⟨_, rfl, by simp only [over, overL, Nat.reduceAdd]; rfl, Below.refl _ _⟩
      · intro f w1 hb _ K hK
        have q0 := cell_later hb (KA.out.c 0 rfl)
        simp only [over, overL, Nat.reduceAdd]
        go_simp
        exact hK _ _ ⟨_, rfl, by simp only [over, overL, Nat.reduceAdd]; rfl, Below.refl _ _⟩
      · intro f w1 hb ⟨h53, _⟩ K hK
        replace h53 : f 53 = _ := h53
        have q0 := cell_later hb (KA.out.c 3 rfl)
        simp only [over, overL, Nat.reduceAdd, h53]
        go_simp
        exact hK _ _ ⟨_, rfl, by simp only [over, overL, Nat.reduceAdd, h53]; rfl, Below.refl _ _⟩
      · intro f w1 hb ⟨h54, _⟩ K hK
        replace h54 : f 54 = _ := h54
        simp only [over, overL, Nat.reduceAdd, h54]
        go_simp
        exact hK _ _ ⟨_, W55.out, by simp only [over, overL, Nat.reduceAdd, h54]; rfl, Below.refl _ _⟩
      · intro f w1 hb ⟨h52, h55, _⟩ K hK
        replace h52 : f 52 = _ := h52
        replace h55 : f 55 = _ := h55
        simp only [over, overL, Nat.reduceAdd, h52, h55]
        go_simp
        refine Calls.mono (HP2.out _) ?_
        rintro e w9 ⟨rfl, rfl⟩
        exact hK _ _ ⟨_, rfl, by simp only [over, overL, Nat.reduceAdd, h52, h55]; rfl, Below.refl _ _⟩
      · intro f w1 hb ⟨h51, h56, _⟩ K hK
        replace h51 : f 51 = _ := h51
        replace h56 : f 56 = _ := h56
        simp only [over, overL, Nat.reduceAdd, h51, h56]
        go_simp
        exact hK _ _ ⟨_, W57.out, by simp only [over, overL, Nat.reduceAdd, h51, h56]; rfl, Below.refl _ _⟩
      · intro f w1 hb _ K hK
        have q0 := cell_later hb (KQ.out.c 0 rfl)
        simp only [over, overL, Nat.reduceAdd]
        go_simp
        exact hK _ _ ⟨_, rfl, by simp only [over, overL, Nat.reduceAdd]; rfl, Below.refl _ _⟩
    intro f2 w6 hb hv
    have h57 : f2 57 = _ := hv.2.2.2.2.2.2.2.1
    have h58 : f2 58 = _ := hv.2.2.2.2.2.2.2.2.1
    have KQ6 := KQ.out.later hb
    have HB6 : Hid (Below w.heap.size w w6) := HB5.out.trans (hb.mono HB5.out.size)
    have c6 := KQ6.c 3 rfl
    have f6 := KQ6.f 3 rfl
    have HKQ6 : Hid (Bk Q [.int .i64 r.c, .int .i64 r.f, .int .i64 (r.m + p1), .int .i64 r.r] w6) := KQ6
    clear hv hb KQ6
    simp only [over_eq, overL, h57, h58, Nat.reduceAdd, List.drop_succ_cons, List.drop_zero]
    go_wp2_with fail
    clear c6 f6
    obtain ⟨w7, hw7⟩ : ∃ x, x = w6.setCell ⟨Q, 3, none⟩ (.int .i64 (r.r + p2)) := ⟨_, rfl⟩
    have KQ7 : Bk Q [.int .i64 r.c, .int .i64 r.f, .int .i64 (r.m + p1), .int .i64 (r.r + p2)] w7 := by rw [hw7]; exact HKQ6.out.put 3 _
    have HB7 : Hid (Below w.heap.size w w7) := by show Below _ _ _; rw [hw7]; exact HB6.out.setCell (by show w.heap.size ≤ Q; omega) _
    rw [← hw7]
    clear hw7
    have a0 := KQ7.c 0 rfl
    have a1 := KQ7.c 1 rfl
    have a2 := KQ7.c 2 rfl
    have a3 := KQ7.c 3 rfl
    clear KQ7
    refine HKK2.out _ _ ?_
    go_wp2_with fail
    refine Calls.mono (HYQ.out _) ?_
    rintro e w8 ⟨rfl, hb8⟩
    have HB8 : Hid (Below w.heap.size w w8) := HB7.out.trans (hb8.mono HB7.out.size)
    have hle := HLE.out
    clear hb8 a0 a1 a2 a3
    generalize totR ⟨r.c, r.f, r.m + p1, r.r + p2⟩ p = x at *
    generalize totR r p = y at *
    go_wp2
    go_ret
    exact ⟨rfl, HB8.out⟩
end Go.Proofs.Ytfoikaneigmlcaa
