/- The law SpaceSweeps: the sweep is met. -/
import Derived.Test.YtiafcgbohckmmaaSwBase
namespace Go.Proofs.Ytiafcgbohckmmaa
open Go.RowKit

set_option linter.unusedVariables false in
set_option maxHeartbeats 6400000 in
set_option maxRecDepth 100000 in
theorem sw_3 (a b s : Bx) (far way part : Int) (q : Pt) (w : World) (hw0 : -9223372036854775808 ≤ way) (hw1 : way ≤ 9223372036854775807) (hf0 : -9223372036854775808 ≤ far) (hf1 : far ≤ 9223372036854775807) (hp0 : -9223372036854775808 ≤ part) (hp1 : part ≤ 9223372036854775807) (hq : q = stepP way far) (hs : sweepR a q = (s, 0)) (hx : meetR s b = (true, 0)) : Calls Try.prog 6 #[bv a, bv b, .int .i64 far, .int .i64 way, .int .i64 part] w fun e w' => e = .returned (.bool true) ∧ Below w.heap.size w w' := by
  have HQ : Hid (q = stepP way far) := hq
  clear hq
  have HS : Hid (sweepR a q = (s, 0)) := hs
  have HX : Hid (meetR s b = (true, 0)) := hx
  clear hs hx
  have HB0 : Hid (Below w.heap.size w w) := Below.refl _ _
  go_enter Try.func6, Try.ntmps6
  go_wp2_with fail
  refine (sweep_r cube1 ⟨0, 0, 0, 5, 1, 1⟩ ⟨4, 0, 0⟩ 0 cube1_sweep _).mono ?_
  rintro e w1 ⟨rfl, hb1⟩
  have hal : Below w.heap.size w (((w.alloc (bo a)).alloc (bo b)).alloc (.cells #[.int .i64 way] 3)) := below_grow _ (Nat.le_refl _) (below_grow _ (Nat.le_refl _) (below_grow _ (Nat.le_refl _) (Below.refl _ _) _) _) _
  have HB1 : Hid (Below w.heap.size w w1) := hal.trans (hb1.mono hal.size)
  have Ka1 : Hid (Bf w.heap.size a w1) := ((Bf.new w a).later (below_grow _ (Nat.le_refl _) (below_grow _ (Nat.le_refl _) (Below.refl _ _) _) _)).later hb1
  have Kb1 : Hid (Bf (w.heap.size + 1) b w1) := by
    have h := ((Bf.new (w.alloc (bo a)) b).later (below_grow _ (Nat.le_refl _) (Below.refl _ _) _)).later hb1
    show Bf _ _ _
    simpa using h
  have Kc1 : Hid (Cf (w.heap.size + 1 + 1) way w1) := by
    have h := (Cf.new ((w.alloc (bo a)).alloc (bo b)) way).later hb1
    show Cf _ _ _
    simpa using h
  clear hal hb1
  go_wp2_with fail
  rename_i KK hk
  have HKK := (show Hid _ from hk)
  clear hk
  obtain ⟨⟨al, a0, a1, a2, a3, a4, a5⟩, _⟩ := Ka1.out
  simp only [Nat.zero_add] at a1 a2 a3 a4 a5
  obtain ⟨w2, hw2⟩ : ∃ w2, w2 = w1.alloc (bo ⟨0, 0, 0, 5, 1, 1⟩) := ⟨_, rfl⟩
  have HB2 : Hid (Below w1.heap.size w1 w2) := by show Below _ _ _; rw [hw2]; exact below_grow _ (Nat.le_refl _) (Below.refl _ _) _
  have Ks2 : Hid (Bf w1.heap.size ⟨0, 0, 0, 5, 1, 1⟩ w2) := by show Bf _ _ _; rw [hw2]; exact Bf.new w1 _
  rw [← hw2]
  clear hw2
  refine region_seqL 8 7 [false, false, false, false, false, false, false, false, false, false, false, false, false, false, false, false, false, false, false, false, false, false, false, false, false, false, false, false, false, false, false, false, false, false, false, true, true, true, true, true, true, true, true, false, false, false, false, false, false, false, false, false, false, false, false, false, false, false, false, false, false, false, false, false, false, false, false, false, false, false, false, false, false, false, false, false, false, false, false, false, false, false, false, false, false, false, false, false, false, false, false, false, false, false, false, false, false, false, false, false, false, false, false]
    [(36, [], none), (37, [], none), (38, [], none), (39, [37, 38], none), (40, [36, 39], none), (35, [40], none), (41, [35], none), (42, [35], none)]
    (sw5V a s q far 0 (w.heap.size + 1 + 1)) (by kernel_rfl) (by kernel_rfl) (by kernel_rfl) (by kernel_rfl) (by kernel_rfl) (by decide) (by decide) (fun _ _ _ _ h _ => h) ?_ ?_ ?_
  · refine ⟨?_, ?_, ?_, ?_, ?_, ?_, ?_, ?_, trivial⟩
    · intro f wr hb _ K hK
      have c0 := cell_later (HB2.out.trans (hb.mono HB2.out.size)) a0
      have c1 := cell_later (HB2.out.trans (hb.mono HB2.out.size)) a1
      have c2 := cell_later (HB2.out.trans (hb.mono HB2.out.size)) a2
      have c3 := cell_later (HB2.out.trans (hb.mono HB2.out.size)) a3
      have c4 := cell_later (HB2.out.trans (hb.mono HB2.out.size)) a4
      have c5 := cell_later (HB2.out.trans (hb.mono HB2.out.size)) a5
      simp only [over, overL, Nat.reduceAdd]
      go_simp
      exact hK _ _ ⟨_, rfl, by simp only [over, overL, Nat.reduceAdd]; rfl, Below.refl _ _⟩
    · intro f wr hb _ K hK
      simp only [over, overL, Nat.reduceAdd]
      go_simp
      exact hK _ _ ⟨_, rfl, by simp only [over, overL, Nat.reduceAdd]; rfl, Below.refl _ _⟩
    · intro f wr hb _ K hK
      simp only [over, overL, Nat.reduceAdd]
      go_simp
      exact hK _ _ ⟨_, rfl, by simp only [over, overL, Nat.reduceAdd]; rfl, Below.refl _ _⟩
    · intro f wr hb ⟨h37, h38, _⟩ K hK
      have h37 : f 37 = _ := h37
      have h38 : f 38 = _ := h38
      have hcf := Kc1.out.later (HB2.out.trans (hb.mono HB2.out.size))
      simp only [over, overL, Nat.reduceAdd, h37, h38]
      go_simp
      refine (step_r way far q HQ.out (w.heap.size + 1 + 1) wr hcf hw0 hw1).mono ?_
      rintro e w9 ⟨rfl, hbn⟩
      exact hK _ _ ⟨_, rfl, by simp only [over, overL, Nat.reduceAdd, h37, h38]; rfl, hbn⟩
    · intro f wr hb ⟨h36, h39, _⟩ K hK
      have h36 : f 36 = _ := h36
      have h39 : f 39 = _ := h39
      simp only [over, overL, Nat.reduceAdd, h36, h39]
      go_simp
      refine (sweep_r a s q 0 HS.out wr).mono ?_
      rintro e w9 ⟨rfl, hbn⟩
      exact hK _ _ ⟨_, rfl, by simp only [over, overL, Nat.reduceAdd, h36, h39]; rfl, hbn⟩
    · intro f wr hb ⟨h40, _⟩ K hK
      have h40 : f 40 = _ := h40
      simp only [over, overL, Nat.reduceAdd, h40]
      go_simp
      exact hK _ _ ⟨_, rfl, by simp only [over, overL, Nat.reduceAdd, h40]; rfl, Below.refl _ _⟩
    · intro f wr hb ⟨h35, _⟩ K hK
      have h35 : f 35 = _ := h35
      simp only [over, overL, Nat.reduceAdd, h35]
      go_simp
      exact hK _ _ ⟨_, rfl, by simp only [over, overL, Nat.reduceAdd, h35]; rfl, Below.refl _ _⟩
    · intro f wr hb ⟨h35, _⟩ K hK
      have h35 : f 35 = _ := h35
      simp only [over, overL, Nat.reduceAdd, h35]
      go_simp
      exact hK _ _ ⟨_, rfl, by simp only [over, overL, Nat.reduceAdd, h35]; rfl, Below.refl _ _⟩
  · intro f w3 hb3 h
    have h41 : f 41 = bv s := h.2.2.2.2.2.2.1
    have h42 : f 42 = .int .i64 0 := h.2.2.2.2.2.2.2.1
    clear al a0 a1 a2 a3 a4 a5
    have Ks3 := Ks2.out.later hb3
    have hB13 : Below w1.heap.size w1 (put6 w3 w1.heap.size s) := below_put6 (HB2.out.trans (hb3.mono HB2.out.size)) (Nat.le_refl _)
    have Ks4 : Hid (Bf w1.heap.size s (put6 w3 w1.heap.size s)) := Ks3.put s
    have Ka4 : Hid (Bf w.heap.size a (put6 w3 w1.heap.size s)) := Ka1.out.later hB13
    have Kb4 : Hid (Bf (w.heap.size + 1) b (put6 w3 w1.heap.size s)) := Kb1.out.later hB13
    have Kc4 : Hid (Cf (w.heap.size + 1 + 1) way (put6 w3 w1.heap.size s)) := Kc1.out.later hB13
    have HB4 : Hid (Below w.heap.size w (put6 w3 w1.heap.size s)) := HB1.out.trans (hB13.mono HB1.out.size)
    obtain ⟨⟨sl, s0, s1, s2, s3, s4, s5⟩, sf0, sf1, sf2, sf3, sf4, sf5⟩ := Ks3
    simp only [Nat.zero_add] at s1 s2 s3 s4 s5
    simp only [over_eq, overL, Nat.reduceAdd, h41, h42, List.drop_succ_cons, List.drop_zero]
    clear h h41 h42 hB13 hb3
    go_wp2
    clear sl s0 s1 s2 s3 s4 s5 sf0 sf1 sf2 sf3 sf4 sf5
    change KK _ (put6 w3 w1.heap.size s)
    generalize put6 w3 w1.heap.size s = w4 at *
    refine HKK.out _ _ ?_
    obtain ⟨⟨sl, s0, s1, s2, s3, s4, s5⟩, sf0, sf1, sf2, sf3, sf4, sf5⟩ := Ks4.out
    simp only [Nat.zero_add] at s1 s2 s3 s4 s5
    obtain ⟨⟨bl, b0, b1, b2, b3, b4, b5⟩, bf0, bf1, bf2, bf3, bf4, bf5⟩ := Kb4.out
    simp only [Nat.zero_add] at b1 b2 b3 b4 b5
    go_wp2_with fail
    refine (meet_r s b true 0 HX.out _).mono ?_
    rintro e w5 ⟨rfl, hb5⟩
    have HB5 : Hid (Below w.heap.size w w5) := HB4.out.trans (hb5.mono HB4.out.size)
    have Ka5 : Hid (Bf w.heap.size a w5) := Ka4.out.later hb5
    have Kb5 : Hid (Bf (w.heap.size + 1) b w5) := Kb4.out.later hb5
    have Kc5 : Hid (Cf (w.heap.size + 1 + 1) way w5) := Kc4.out.later hb5
    clear hb5 sl s0 s1 s2 s3 s4 s5 sf0 sf1 sf2 sf3 sf4 sf5 bl b0 b1 b2 b3 b4 b5 bf0 bf1 bf2 bf3 bf4 bf5
    go_wp2
    go_ret
    exact ⟨rfl, HB5.out⟩
  · intro f w3 ok ol hok hol hb3 h
    cases hok
    cases hol
    have h41 : f 41 = bv s := h.2.2.2.2.2.2.1 (by decide)
    have h42 : f 35 = .tuple #[bv s, .int .i64 0] := h.2.2.2.2.2.1 (by decide)
    clear al a0 a1 a2 a3 a4 a5
    have Ks3 := Ks2.out.later hb3
    have hB13 : Below w1.heap.size w1 (put6 w3 w1.heap.size s) := below_put6 (HB2.out.trans (hb3.mono HB2.out.size)) (Nat.le_refl _)
    have Ks4 : Hid (Bf w1.heap.size s (put6 w3 w1.heap.size s)) := Ks3.put s
    have Ka4 : Hid (Bf w.heap.size a (put6 w3 w1.heap.size s)) := Ka1.out.later hB13
    have Kb4 : Hid (Bf (w.heap.size + 1) b (put6 w3 w1.heap.size s)) := Kb1.out.later hB13
    have Kc4 : Hid (Cf (w.heap.size + 1 + 1) way (put6 w3 w1.heap.size s)) := Kc1.out.later hB13
    have HB4 : Hid (Below w.heap.size w (put6 w3 w1.heap.size s)) := HB1.out.trans (hB13.mono HB1.out.size)
    obtain ⟨⟨sl, s0, s1, s2, s3, s4, s5⟩, sf0, sf1, sf2, sf3, sf4, sf5⟩ := Ks3
    simp only [Nat.zero_add] at s1 s2 s3 s4 s5
    simp only [over_eq, overL, Nat.reduceAdd, h41, h42, List.drop_succ_cons, List.drop_zero]
    clear h h41 h42 hB13 hb3
    go_wp2
    clear sl s0 s1 s2 s3 s4 s5 sf0 sf1 sf2 sf3 sf4 sf5
    change KK _ (put6 w3 w1.heap.size s)
    generalize put6 w3 w1.heap.size s = w4 at *
    refine HKK.out _ _ ?_
    obtain ⟨⟨sl, s0, s1, s2, s3, s4, s5⟩, sf0, sf1, sf2, sf3, sf4, sf5⟩ := Ks4.out
    simp only [Nat.zero_add] at s1 s2 s3 s4 s5
    obtain ⟨⟨bl, b0, b1, b2, b3, b4, b5⟩, bf0, bf1, bf2, bf3, bf4, bf5⟩ := Kb4.out
    simp only [Nat.zero_add] at b1 b2 b3 b4 b5
    go_wp2_with fail
    refine (meet_r s b true 0 HX.out _).mono ?_
    rintro e w5 ⟨rfl, hb5⟩
    have HB5 : Hid (Below w.heap.size w w5) := HB4.out.trans (hb5.mono HB4.out.size)
    have Ka5 : Hid (Bf w.heap.size a w5) := Ka4.out.later hb5
    have Kb5 : Hid (Bf (w.heap.size + 1) b w5) := Kb4.out.later hb5
    have Kc5 : Hid (Cf (w.heap.size + 1 + 1) way w5) := Kc4.out.later hb5
    clear hb5 sl s0 s1 s2 s3 s4 s5 sf0 sf1 sf2 sf3 sf4 sf5 bl b0 b1 b2 b3 b4 b5 bf0 bf1 bf2 bf3 bf4 bf5
    go_wp2
    go_ret
    exact ⟨rfl, HB5.out⟩
end Go.Proofs.Ytiafcgbohckmmaa
