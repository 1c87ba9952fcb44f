/- The law SpaceSweeps: nothing is met, case 4. -/
import Derived.Test.YtiafcgbohckmmaaSwBase
namespace Go.Proofs.Ytiafcgbohckmmaa
open Go.RowKit

set_option linter.unusedVariables false in
set_option maxHeartbeats 6400000 in
set_option maxRecDepth 100000 in
theorem sw_4 (a b s : Bx) (far way part : Int) (q : Pt) (w : World) (hw0 : -9223372036854775808 ≤ way) (hw1 : way ≤ 9223372036854775807) (hf0 : -9223372036854775808 ≤ far) (hf1 : far ≤ 9223372036854775807) (hp0 : -9223372036854775808 ≤ part) (hp1 : part ≤ 9223372036854775807) (hq : q = stepP way far) (hs : sweepR a q = (s, 0)) (hsg : bad1 s = 0) (hb : bad1 b = 0) (hm : meet s b = false) (h1 : 0 ≤ far) (h2 : far < (pickN part 1000001 : Int)) : Calls Try.prog 6 #[bv a, bv b, .int .i64 far, .int .i64 way, .int .i64 part] w fun e w' => e = .returned (.bool true) ∧ Below w.heap.size w w' := by
  have HQ : Hid (q = stepP way far) := hq
  clear hq
  have HS : Hid (sweepR a q = (s, 0)) := hs
  have HX : Hid (meetR s b = (false, 0)) := by show _ = _; rw [meetR_ok hsg hb, hm]
  obtain ⟨t, ht⟩ : ∃ t : Nat, t = pickN part 1000001 := ⟨_, rfl⟩
  have HT : Hid (pickN part 1000001 = t) := ht.symm
  have ht2 : (t : Int) < 1000001 := by rw [ht]; exact pickN_lt part 1000001 (by decide)
  rw [← ht] at h2
  obtain ⟨u, hu⟩ : ∃ u : Pt, u = stepP way far := ⟨_, rfl⟩
  have HU : Hid (u = stepP way far) := hu
  obtain ⟨m, hmm⟩ : ∃ m : Bx, m = movB a u := ⟨_, rfl⟩
  have hin := stop_in (stop := far) (by rw [← HQ.out]; exact hs) (.inl ⟨h1, Int.le_refl _⟩) hb hm
  rw [← hu, ← hmm] at hin
  have HM : Hid (moveR a u = (m, 0)) := hin.1
  have HMM : Hid (meetR m b = (false, 0)) := hin.2
  have d1 : decide (far < 0) = false := decide_eq_false (by omega)
  have d2 : decide (0 ≤ far) = true := decide_eq_true h1
  have d3 : decide (far < (t : Int)) = true := decide_eq_true h2
  clear ht hs hb hm hsg hu hmm hin
  have HB0 : Hid (Below w.heap.size w w) := Below.refl _ _
  go_enter Try.func6, Try.ntmps6
  go_wp2_with fail
  refine (sweep_r cube1 ⟨0, 0, 0, 5, 1, 1⟩ ⟨4, 0, 0⟩ 0 cube1_sweep _).mono ?_
  rintro e w1 ⟨rfl, hb1⟩
  have hal : Below w.heap.size w (((w.alloc (bo a)).alloc (bo b)).alloc (.cells #[.int .i64 way] 3)) := below_grow _ (Nat.le_refl _) (below_grow _ (Nat.le_refl _) (below_grow _ (Nat.le_refl _) (Below.refl _ _) _) _) _
  have HB1 : Hid (Below w.heap.size w w1) := hal.trans (hb1.mono hal.size)
  have Ka1 : Hid (Bf w.heap.size a w1) := ((Bf.new w a).later (below_grow _ (Nat.le_refl _) (below_grow _ (Nat.le_refl _) (Below.refl _ _) _) _)).later hb1
  have Kb1 : Hid (Bf (w.heap.size + 1) b w1) := by
    have h := ((Bf.new (w.alloc (bo a)) b).later (below_grow _ (Nat.le_refl _) (Below.refl _ _) _)).later hb1
    show Bf _ _ _
    simpa using h
  have Kc1 : Hid (Cf (w.heap.size + 1 + 1) way w1) := by
    have h := (Cf.new ((w.alloc (bo a)).alloc (bo b)) way).later hb1
    show Cf _ _ _
    simpa using h
  clear hal hb1
  go_wp2_with fail
  rename_i KK hk
  have HKK := (show Hid _ from hk)
  clear hk
  obtain ⟨⟨al, a0, a1, a2, a3, a4, a5⟩, _⟩ := Ka1.out
  simp only [Nat.zero_add] at a1 a2 a3 a4 a5
  obtain ⟨w2, hw2⟩ : ∃ w2, w2 = w1.alloc (bo ⟨0, 0, 0, 5, 1, 1⟩) := ⟨_, rfl⟩
  have HB2 : Hid (Below w1.heap.size w1 w2) := by show Below _ _ _; rw [hw2]; exact below_grow _ (Nat.le_refl _) (Below.refl _ _) _
  have Ks2 : Hid (Bf w1.heap.size ⟨0, 0, 0, 5, 1, 1⟩ w2) := by show Bf _ _ _; rw [hw2]; exact Bf.new w1 _
  rw [← hw2]
  clear hw2
  refine region_seqL 8 7 [false, false, false, false, false, false, false, false, false, false, false, false, false, false, false, false, false, false, false, false, false, false, false, false, false, false, false, false, false, false, false, false, false, false, false, true, true, true, true, true, true, true, true, false, false, false, false, false, false, false, false, false, false, false, false, false, false, false, false, false, false, false, false, false, false, false, false, false, false, false, false, false, false, false, false, false, false, false, false, false, false, false, false, false, false, false, false, false, false, false, false, false, false, false, false, false, false, false, false, false, false, false, false]
    [(36, [], none), (37, [], none), (38, [], none), (39, [37, 38], none), (40, [36, 39], none), (35, [40], none), (41, [35], none), (42, [35], none)]
    (sw5V a s q far 0 (w.heap.size + 1 + 1)) (by kernel_rfl) (by kernel_rfl) (by kernel_rfl) (by kernel_rfl) (by kernel_rfl) (by decide) (by decide) (fun _ _ _ _ h _ => h) ?_ ?_ ?_
  · refine ⟨?_, ?_, ?_, ?_, ?_, ?_, ?_, ?_, trivial⟩
    · intro f wr hb _ K hK
      have c0 := cell_later (HB2.out.trans (hb.mono HB2.out.size)) a0
      have c1 := cell_later (HB2.out.trans (hb.mono HB2.out.size)) a1
      have c2 := cell_later (HB2.out.trans (hb.mono HB2.out.size)) a2
      have c3 := cell_later (HB2.out.trans (hb.mono HB2.out.size)) a3
      have c4 := cell_later (HB2.out.trans (hb.mono HB2.out.size)) a4
      have c5 := cell_later (HB2.out.trans (hb.mono HB2.out.size)) a5
      simp only [over, overL, Nat.reduceAdd]
      go_simp
      exact hK _ _ ⟨_, rfl, by simp only [over, overL, Nat.reduceAdd]; rfl, Below.refl _ _⟩
    · intro f wr hb _ K hK
      simp only [over, overL, Nat.reduceAdd]
      go_simp
      exact hK _ _ ⟨_, rfl, by simp only [over, overL, Nat.reduceAdd]; rfl, Below.refl _ _⟩
    · intro f wr hb _ K hK
      simp only [over, overL, Nat.reduceAdd]
      go_simp
      exact hK _ _ ⟨_, rfl, by simp only [over, overL, Nat.reduceAdd]; rfl, Below.refl _ _⟩
    · intro f wr hb ⟨h37, h38, _⟩ K hK
      have h37 : f 37 = _ := h37
      have h38 : f 38 = _ := h38
      have hcf := Kc1.out.later (HB2.out.trans (hb.mono HB2.out.size))
      simp only [over, overL, Nat.reduceAdd, h37, h38]
      go_simp
      refine (step_r way far q HQ.out (w.heap.size + 1 + 1) wr hcf hw0 hw1).mono ?_
      rintro e w9 ⟨rfl, hbn⟩
      exact hK _ _ ⟨_, rfl, by simp only [over, overL, Nat.reduceAdd, h37, h38]; rfl, hbn⟩
    · intro f wr hb ⟨h36, h39, _⟩ K hK
      have h36 : f 36 = _ := h36
      have h39 : f 39 = _ := h39
      simp only [over, overL, Nat.reduceAdd, h36, h39]
      go_simp
      refine (sweep_r a s q 0 HS.out wr).mono ?_
      rintro e w9 ⟨rfl, hbn⟩
      exact hK _ _ ⟨_, rfl, by simp only [over, overL, Nat.reduceAdd, h36, h39]; rfl, hbn⟩
    · intro f wr hb ⟨h40, _⟩ K hK
      have h40 : f 40 = _ := h40
      simp only [over, overL, Nat.reduceAdd, h40]
      go_simp
      exact hK _ _ ⟨_, rfl, by simp only [over, overL, Nat.reduceAdd, h40]; rfl, Below.refl _ _⟩
    · intro f wr hb ⟨h35, _⟩ K hK
      have h35 : f 35 = _ := h35
      simp only [over, overL, Nat.reduceAdd, h35]
      go_simp
      exact hK _ _ ⟨_, rfl, by simp only [over, overL, Nat.reduceAdd, h35]; rfl, Below.refl _ _⟩
    · intro f wr hb ⟨h35, _⟩ K hK
      have h35 : f 35 = _ := h35
      simp only [over, overL, Nat.reduceAdd, h35]
      go_simp
      exact hK _ _ ⟨_, rfl, by simp only [over, overL, Nat.reduceAdd, h35]; rfl, Below.refl _ _⟩
  · intro f w3 hb3 h
    have h41 : f 41 = bv s := h.2.2.2.2.2.2.1
    have h42 : f 42 = .int .i64 0 := h.2.2.2.2.2.2.2.1
    clear al a0 a1 a2 a3 a4 a5
    have Ks3 := Ks2.out.later hb3
    have hB13 : Below w1.heap.size w1 (put6 w3 w1.heap.size s) := below_put6 (HB2.out.trans (hb3.mono HB2.out.size)) (Nat.le_refl _)
    have Ks4 : Hid (Bf w1.heap.size s (put6 w3 w1.heap.size s)) := Ks3.put s
    have Ka4 : Hid (Bf w.heap.size a (put6 w3 w1.heap.size s)) := Ka1.out.later hB13
    have Kb4 : Hid (Bf (w.heap.size + 1) b (put6 w3 w1.heap.size s)) := Kb1.out.later hB13
    have Kc4 : Hid (Cf (w.heap.size + 1 + 1) way (put6 w3 w1.heap.size s)) := Kc1.out.later hB13
    have HB4 : Hid (Below w.heap.size w (put6 w3 w1.heap.size s)) := HB1.out.trans (hB13.mono HB1.out.size)
    obtain ⟨⟨sl, s0, s1, s2, s3, s4, s5⟩, sf0, sf1, sf2, sf3, sf4, sf5⟩ := Ks3
    simp only [Nat.zero_add] at s1 s2 s3 s4 s5
    simp only [over_eq, overL, Nat.reduceAdd, h41, h42, List.drop_succ_cons, List.drop_zero]
    clear h h41 h42 hB13 hb3
    go_wp2
    clear sl s0 s1 s2 s3 s4 s5 sf0 sf1 sf2 sf3 sf4 sf5
    change KK _ (put6 w3 w1.heap.size s)
    generalize put6 w3 w1.heap.size s = w4 at *
    refine HKK.out _ _ ?_
    obtain ⟨⟨sl, s0, s1, s2, s3, s4, s5⟩, sf0, sf1, sf2, sf3, sf4, sf5⟩ := Ks4.out
    simp only [Nat.zero_add] at s1 s2 s3 s4 s5
    obtain ⟨⟨bl, b0, b1, b2, b3, b4, b5⟩, bf0, bf1, bf2, bf3, bf4, bf5⟩ := Kb4.out
    simp only [Nat.zero_add] at b1 b2 b3 b4 b5
    go_wp2_with fail
    refine (meet_r s b false 0 HX.out _).mono ?_
    rintro e w5 ⟨rfl, hb5⟩
    have HB5 : Hid (Below w.heap.size w w5) := HB4.out.trans (hb5.mono HB4.out.size)
    have Ka5 : Hid (Bf w.heap.size a w5) := Ka4.out.later hb5
    have Kb5 : Hid (Bf (w.heap.size + 1) b w5) := Kb4.out.later hb5
    have Kc5 : Hid (Cf (w.heap.size + 1 + 1) way w5) := Kc4.out.later hb5
    clear hb5 sl s0 s1 s2 s3 s4 s5 sf0 sf1 sf2 sf3 sf4 sf5 bl b0 b1 b2 b3 b4 b5 bf0 bf1 bf2 bf3 bf4 bf5
    go_wp2_with fail
    refine (picked_any part 1000001 _ hp0 hp1 (by decide) (by decide)).mono ?_
    rintro e w6 ⟨rfl, h6⟩
    rw [HT.out, h6]
    clear h6
    obtain ⟨⟨al, a0, a1, a2, a3, a4, a5⟩, _⟩ := Ka5.out
    simp only [Nat.zero_add] at a1 a2 a3 a4 a5
    go_wp2_with fail
    rename_i KK2 hk2
    have HKK2 := (show Hid _ from hk2)
    clear hk2
    refine region_seqL 9 7 [false, false, false, false, false, false, false, false, false, false, false, false, false, false, false, false, true, false, false, false, false, false, false, false, false, false, false, false, false, false, false, false, false, false, false, false, false, false, false, false, false, false, false, false, false, false, false, false, false, false, false, false, false, false, false, false, false, false, false, false, false, false, false, false, false, false, false, false, false, false, false, false, false, false, false, false, false, false, false, true, true, true, true, true, true, true, true, false, false, false, false, false, false, false, false, false, false, false, false, false, false, false, false]
      [(80, [], none), (81, [], none), (82, [], none), (83, [81, 82], none), (84, [80, 83], none), (79, [84], none), (85, [79], none), (86, [79], none), (16, [], none)]
      (sw16V a m u far (w.heap.size + 1 + 1) w5.heap.size) (by kernel_rfl) (by kernel_rfl) (by kernel_rfl) (by kernel_rfl) (by kernel_rfl) (by decide) (by decide) (sw16V_mono a m u far (w.heap.size + 1 + 1) w5.heap.size) ?_ ?_ ?_
    · refine ⟨?_, ?_, ?_, ?_, ?_, ?_, ?_, ?_, ?_, trivial⟩
      · intro f wr hb _ K hK
        have c0 := cell_later hb a0
        have c1 := cell_later hb a1
        have c2 := cell_later hb a2
        have c3 := cell_later hb a3
        have c4 := cell_later hb a4
        have c5 := cell_later hb a5
        simp only [over, overL, Nat.reduceAdd]
        go_simp
        exact hK _ _ ⟨_, rfl, by simp only [over, overL, Nat.reduceAdd]; rfl, Below.refl _ _⟩
      · intro f wr hb _ K hK
        simp only [over, overL, Nat.reduceAdd]
        go_simp
        exact hK _ _ ⟨_, rfl, by simp only [over, overL, Nat.reduceAdd]; rfl, Below.refl _ _⟩
      · intro f wr hb _ K hK
        simp only [over, overL, Nat.reduceAdd]
        go_simp
        exact hK _ _ ⟨_, rfl, by simp only [over, overL, Nat.reduceAdd]; rfl, Below.refl _ _⟩
      · intro f wr hb ⟨h81, h82, _⟩ K hK
        have h81 : f 81 = _ := h81
        have h82 : f 82 = _ := h82
        have hcf := Kc5.out.later hb
        simp only [over, overL, Nat.reduceAdd, h81, h82]
        go_simp
        refine (step_r way far u HU.out (w.heap.size + 1 + 1) wr hcf hw0 hw1).mono ?_
        rintro e w9 ⟨rfl, hbn⟩
        exact hK _ _ ⟨_, rfl, by simp only [over, overL, Nat.reduceAdd, h81, h82]; rfl, hbn⟩
      · intro f wr hb ⟨h80, h83, _⟩ K hK
        have h80 : f 80 = _ := h80
        have h83 : f 83 = _ := h83
        simp only [over, overL, Nat.reduceAdd, h80, h83]
        go_simp
        refine (move_r a u m 0 HM.out wr).mono ?_
        rintro e w9 ⟨rfl, hbn⟩
        exact hK _ _ ⟨_, rfl, by simp only [over, overL, Nat.reduceAdd, h80, h83]; rfl, hbn⟩
      · intro f wr hb ⟨h84, _⟩ K hK
        have h84 : f 84 = _ := h84
        simp only [over, overL, Nat.reduceAdd, h84]
        go_simp
        exact hK _ _ ⟨_, rfl, by simp only [over, overL, Nat.reduceAdd, h84]; rfl, Below.refl _ _⟩
      · intro f wr hb ⟨h79, _⟩ K hK
        have h79 : f 79 = _ := h79
        simp only [over, overL, Nat.reduceAdd, h79]
        go_simp
        exact hK _ _ ⟨_, rfl, by simp only [over, overL, Nat.reduceAdd, h79]; rfl, Below.refl _ _⟩
      · intro f wr hb ⟨h79, _⟩ K hK
        have h79 : f 79 = _ := h79
        simp only [over, overL, Nat.reduceAdd, h79]
        go_simp
        exact hK _ _ ⟨_, rfl, by simp only [over, overL, Nat.reduceAdd, h79]; rfl, Below.refl _ _⟩
      · intro f wr hb _ K hK
        simp only [over, overL, Nat.reduceAdd]
        go_simp
        exact hK _ _ ⟨_, ⟨_, rfl, hb.size, Bf.new wr zB⟩, by simp only [over, overL, Nat.reduceAdd]; rfl, (Below.refl _ _).alloc (Nat.le_refl _) _⟩
    · intro f w7 hb7 h
      have h85 : f 85 = bv m := h.2.2.2.2.2.2.1
      have h86 : f 86 = .int .i64 0 := h.2.2.2.2.2.2.2.1
      obtain ⟨B, h16, n16, Km7⟩ := (show ∃ b, f 16 = ptr b ∧ w5.heap.size ≤ b ∧ Bf b zB w7 from h.2.2.2.2.2.2.2.2.1)
      
      have hB57 : Below w5.heap.size w5 (put6 w7 B m) := below_put6 hb7 n16
      have Km8 : Hid (Bf B m (put6 w7 B m)) := Km7.put m
      have Kb8 : Hid (Bf (w.heap.size + 1) b (put6 w7 B m)) := Kb5.out.later hB57
      have HB8 : Hid (Below w.heap.size w (put6 w7 B m)) := HB5.out.trans (hB57.mono HB5.out.size)
      clear al a0 a1 a2 a3 a4 a5
      obtain ⟨⟨ml, m0, m1, m2, m3, m4, m5⟩, mf0, mf1, mf2, mf3, mf4, mf5⟩ := Km7
      simp only [Nat.zero_add] at m1 m2 m3 m4 m5
      simp only [over_eq, overL, Nat.reduceAdd, h85, h86, h16, List.drop_succ_cons, List.drop_zero]
      clear h h85 h86 h16 hB57 hb7 n16
      go_wp2
      clear ml m0 m1 m2 m3 m4 m5 mf0 mf1 mf2 mf3 mf4 mf5
      change KK2 _ (put6 w7 B m)
      generalize put6 w7 B m = w8 at *
      refine HKK2.out _ _ ?_
      obtain ⟨⟨ml, m0, m1, m2, m3, m4, m5⟩, mf0, mf1, mf2, mf3, mf4, mf5⟩ := Km8.out
      simp only [Nat.zero_add] at m1 m2 m3 m4 m5
      obtain ⟨⟨bl, b0, b1, b2, b3, b4, b5⟩, bf0, bf1, bf2, bf3, bf4, bf5⟩ := Kb8.out
      simp only [Nat.zero_add] at b1 b2 b3 b4 b5
      go_wp2_with fail
      refine (meet_r m b false 0 HMM.out _).mono ?_
      rintro e w9 ⟨rfl, hb9⟩
      have HB9 : Hid (Below w.heap.size w w9) := HB8.out.trans (hb9.mono HB8.out.size)
      clear hb9
      go_wp2
      go_ret
      exact ⟨rfl, HB9.out⟩
    · intro f w7 ok ol hok hol hb7 h
      cases hok
      cases hol
      have h85 : f 85 = bv m := h.2.2.2.2.2.2.1 (by decide)
      have h86 : f 79 = .tuple #[bv m, .int .i64 0] := h.2.2.2.2.2.1 (by decide)
      obtain ⟨B, h16, n16, Km7⟩ := (show ∃ b, f 16 = ptr b ∧ w5.heap.size ≤ b ∧ Bf b zB w7 from h.2.2.2.2.2.2.2.2.1 (by decide))
      
      have hB57 : Below w5.heap.size w5 (put6 w7 B m) := below_put6 hb7 n16
      have Km8 : Hid (Bf B m (put6 w7 B m)) := Km7.put m
      have Kb8 : Hid (Bf (w.heap.size + 1) b (put6 w7 B m)) := Kb5.out.later hB57
      have HB8 : Hid (Below w.heap.size w (put6 w7 B m)) := HB5.out.trans (hB57.mono HB5.out.size)
      clear al a0 a1 a2 a3 a4 a5
      obtain ⟨⟨ml, m0, m1, m2, m3, m4, m5⟩, mf0, mf1, mf2, mf3, mf4, mf5⟩ := Km7
      simp only [Nat.zero_add] at m1 m2 m3 m4 m5
      simp only [over_eq, overL, Nat.reduceAdd, h85, h86, h16, List.drop_succ_cons, List.drop_zero]
      clear h h85 h86 h16 hB57 hb7 n16
      go_wp2
      clear ml m0 m1 m2 m3 m4 m5 mf0 mf1 mf2 mf3 mf4 mf5
      change KK2 _ (put6 w7 B m)
      generalize put6 w7 B m = w8 at *
      refine HKK2.out _ _ ?_
      obtain ⟨⟨ml, m0, m1, m2, m3, m4, m5⟩, mf0, mf1, mf2, mf3, mf4, mf5⟩ := Km8.out
      simp only [Nat.zero_add] at m1 m2 m3 m4 m5
      obtain ⟨⟨bl, b0, b1, b2, b3, b4, b5⟩, bf0, bf1, bf2, bf3, bf4, bf5⟩ := Kb8.out
      simp only [Nat.zero_add] at b1 b2 b3 b4 b5
      go_wp2_with fail
      refine (meet_r m b false 0 HMM.out _).mono ?_
      rintro e w9 ⟨rfl, hb9⟩
      have HB9 : Hid (Below w.heap.size w w9) := HB8.out.trans (hb9.mono HB8.out.size)
      clear hb9
      go_wp2
      go_ret
      exact ⟨rfl, HB9.out⟩
  · intro f w3 ok ol hok hol hb3 h
    cases hok
    cases hol
    have h41 : f 41 = bv s := h.2.2.2.2.2.2.1 (by decide)
    have h42 : f 35 = .tuple #[bv s, .int .i64 0] := h.2.2.2.2.2.1 (by decide)
    clear al a0 a1 a2 a3 a4 a5
    have Ks3 := Ks2.out.later hb3
    have hB13 : Below w1.heap.size w1 (put6 w3 w1.heap.size s) := below_put6 (HB2.out.trans (hb3.mono HB2.out.size)) (Nat.le_refl _)
    have Ks4 : Hid (Bf w1.heap.size s (put6 w3 w1.heap.size s)) := Ks3.put s
    have Ka4 : Hid (Bf w.heap.size a (put6 w3 w1.heap.size s)) := Ka1.out.later hB13
    have Kb4 : Hid (Bf (w.heap.size + 1) b (put6 w3 w1.heap.size s)) := Kb1.out.later hB13
    have Kc4 : Hid (Cf (w.heap.size + 1 + 1) way (put6 w3 w1.heap.size s)) := Kc1.out.later hB13
    have HB4 : Hid (Below w.heap.size w (put6 w3 w1.heap.size s)) := HB1.out.trans (hB13.mono HB1.out.size)
    obtain ⟨⟨sl, s0, s1, s2, s3, s4, s5⟩, sf0, sf1, sf2, sf3, sf4, sf5⟩ := Ks3
    simp only [Nat.zero_add] at s1 s2 s3 s4 s5
    simp only [over_eq, overL, Nat.reduceAdd, h41, h42, List.drop_succ_cons, List.drop_zero]
    clear h h41 h42 hB13 hb3
    go_wp2
    clear sl s0 s1 s2 s3 s4 s5 sf0 sf1 sf2 sf3 sf4 sf5
    change KK _ (put6 w3 w1.heap.size s)
    generalize put6 w3 w1.heap.size s = w4 at *
    refine HKK.out _ _ ?_
    obtain ⟨⟨sl, s0, s1, s2, s3, s4, s5⟩, sf0, sf1, sf2, sf3, sf4, sf5⟩ := Ks4.out
    simp only [Nat.zero_add] at s1 s2 s3 s4 s5
    obtain ⟨⟨bl, b0, b1, b2, b3, b4, b5⟩, bf0, bf1, bf2, bf3, bf4, bf5⟩ := Kb4.out
    simp only [Nat.zero_add] at b1 b2 b3 b4 b5
    go_wp2_with fail
    refine (meet_r s b false 0 HX.out _).mono ?_
    rintro e w5 ⟨rfl, hb5⟩
    have HB5 : Hid (Below w.heap.size w w5) := HB4.out.trans (hb5.mono HB4.out.size)
    have Ka5 : Hid (Bf w.heap.size a w5) := Ka4.out.later hb5
    have Kb5 : Hid (Bf (w.heap.size + 1) b w5) := Kb4.out.later hb5
    have Kc5 : Hid (Cf (w.heap.size + 1 + 1) way w5) := Kc4.out.later hb5
    clear hb5 sl s0 s1 s2 s3 s4 s5 sf0 sf1 sf2 sf3 sf4 sf5 bl b0 b1 b2 b3 b4 b5 bf0 bf1 bf2 bf3 bf4 bf5
    go_wp2_with fail
    refine (picked_any part 1000001 _ hp0 hp1 (by decide) (by decide)).mono ?_
    rintro e w6 ⟨rfl, h6⟩
    rw [HT.out, h6]
    clear h6
    obtain ⟨⟨al, a0, a1, a2, a3, a4, a5⟩, _⟩ := Ka5.out
    simp only [Nat.zero_add] at a1 a2 a3 a4 a5
    go_wp2_with fail
    rename_i KK2 hk2
    have HKK2 := (show Hid _ from hk2)
    clear hk2
    refine region_seqL 9 7 [false, false, false, false, false, false, false, false, false, false, false, false, false, false, false, false, true, false, false, false, false, false, false, false, false, false, false, false, false, false, false, false, false, false, false, false, false, false, false, false, false, false, false, false, false, false, false, false, false, false, false, false, false, false, false, false, false, false, false, false, false, false, false, false, false, false, false, false, false, false, false, false, false, false, false, false, false, false, false, true, true, true, true, true, true, true, true, false, false, false, false, false, false, false, false, false, false, false, false, false, false, false, false]
      [(80, [], none), (81, [], none), (82, [], none), (83, [81, 82], none), (84, [80, 83], none), (79, [84], none), (85, [79], none), (86, [79], none), (16, [], none)]
      (sw16V a m u far (w.heap.size + 1 + 1) w5.heap.size) (by kernel_rfl) (by kernel_rfl) (by kernel_rfl) (by kernel_rfl) (by kernel_rfl) (by decide) (by decide) (sw16V_mono a m u far (w.heap.size + 1 + 1) w5.heap.size) ?_ ?_ ?_
    · refine ⟨?_, ?_, ?_, ?_, ?_, ?_, ?_, ?_, ?_, trivial⟩
      · intro f wr hb _ K hK
        have c0 := cell_later hb a0
        have c1 := cell_later hb a1
        have c2 := cell_later hb a2
        have c3 := cell_later hb a3
        have c4 := cell_later hb a4
        have c5 := cell_later hb a5
        simp only [over, overL, Nat.reduceAdd]
        go_simp
        exact hK _ _ ⟨_, rfl, by simp only [over, overL, Nat.reduceAdd]; rfl, Below.refl _ _⟩
      · intro f wr hb _ K hK
        simp only [over, overL, Nat.reduceAdd]
        go_simp
        exact hK _ _ ⟨_, rfl, by simp only [over, overL, Nat.reduceAdd]; rfl, Below.refl _ _⟩
      · intro f wr hb _ K hK
        simp only [over, overL, Nat.reduceAdd]
        go_simp
        exact hK _ _ ⟨_, rfl, by simp only [over, overL, Nat.reduceAdd]; rfl, Below.refl _ _⟩
      · intro f wr hb ⟨h81, h82, _⟩ K hK
        have h81 : f 81 = _ := h81
        have h82 : f 82 = _ := h82
        have hcf := Kc5.out.later hb
        simp only [over, overL, Nat.reduceAdd, h81, h82]
        go_simp
        refine (step_r way far u HU.out (w.heap.size + 1 + 1) wr hcf hw0 hw1).mono ?_
        rintro e w9 ⟨rfl, hbn⟩
        exact hK _ _ ⟨_, rfl, by simp only [over, overL, Nat.reduceAdd, h81, h82]; rfl, hbn⟩
      · intro f wr hb ⟨h80, h83, _⟩ K hK
        have h80 : f 80 = _ := h80
        have h83 : f 83 = _ := h83
        simp only [over, overL, Nat.reduceAdd, h80, h83]
        go_simp
        refine (move_r a u m 0 HM.out wr).mono ?_
        rintro e w9 ⟨rfl, hbn⟩
        exact hK _ _ ⟨_, rfl, by simp only [over, overL, Nat.reduceAdd, h80, h83]; rfl, hbn⟩
      · intro f wr hb ⟨h84, _⟩ K hK
        have h84 : f 84 = _ := h84
        simp only [over, overL, Nat.reduceAdd, h84]
        go_simp
        exact hK _ _ ⟨_, rfl, by simp only [over, overL, Nat.reduceAdd, h84]; rfl, Below.refl _ _⟩
      · intro f wr hb ⟨h79, _⟩ K hK
        have h79 : f 79 = _ := h79
        simp only [over, overL, Nat.reduceAdd, h79]
        go_simp
        exact hK _ _ ⟨_, rfl, by simp only [over, overL, Nat.reduceAdd, h79]; rfl, Below.refl _ _⟩
      · intro f wr hb ⟨h79, _⟩ K hK
        have h79 : f 79 = _ := h79
        simp only [over, overL, Nat.reduceAdd, h79]
        go_simp
        exact hK _ _ ⟨_, rfl, by simp only [over, overL, Nat.reduceAdd, h79]; rfl, Below.refl _ _⟩
      · intro f wr hb _ K hK
        simp only [over, overL, Nat.reduceAdd]
        go_simp
        exact hK _ _ ⟨_, ⟨_, rfl, hb.size, Bf.new wr zB⟩, by simp only [over, overL, Nat.reduceAdd]; rfl, (Below.refl _ _).alloc (Nat.le_refl _) _⟩
    · intro f w7 hb7 h
      have h85 : f 85 = bv m := h.2.2.2.2.2.2.1
      have h86 : f 86 = .int .i64 0 := h.2.2.2.2.2.2.2.1
      obtain ⟨B, h16, n16, Km7⟩ := (show ∃ b, f 16 = ptr b ∧ w5.heap.size ≤ b ∧ Bf b zB w7 from h.2.2.2.2.2.2.2.2.1)
      
      have hB57 : Below w5.heap.size w5 (put6 w7 B m) := below_put6 hb7 n16
      have Km8 : Hid (Bf B m (put6 w7 B m)) := Km7.put m
      have Kb8 : Hid (Bf (w.heap.size + 1) b (put6 w7 B m)) := Kb5.out.later hB57
      have HB8 : Hid (Below w.heap.size w (put6 w7 B m)) := HB5.out.trans (hB57.mono HB5.out.size)
      clear al a0 a1 a2 a3 a4 a5
      obtain ⟨⟨ml, m0, m1, m2, m3, m4, m5⟩, mf0, mf1, mf2, mf3, mf4, mf5⟩ := Km7
      simp only [Nat.zero_add] at m1 m2 m3 m4 m5
      simp only [over_eq, overL, Nat.reduceAdd, h85, h86, h16, List.drop_succ_cons, List.drop_zero]
      clear h h85 h86 h16 hB57 hb7 n16
      go_wp2
      clear ml m0 m1 m2 m3 m4 m5 mf0 mf1 mf2 mf3 mf4 mf5
      change KK2 _ (put6 w7 B m)
      generalize put6 w7 B m = w8 at *
      refine HKK2.out _ _ ?_
      obtain ⟨⟨ml, m0, m1, m2, m3, m4, m5⟩, mf0, mf1, mf2, mf3, mf4, mf5⟩ := Km8.out
      simp only [Nat.zero_add] at m1 m2 m3 m4 m5
      obtain ⟨⟨bl, b0, b1, b2, b3, b4, b5⟩, bf0, bf1, bf2, bf3, bf4, bf5⟩ := Kb8.out
      simp only [Nat.zero_add] at b1 b2 b3 b4 b5
      go_wp2_with fail
      refine (meet_r m b false 0 HMM.out _).mono ?_
      rintro e w9 ⟨rfl, hb9⟩
      have HB9 : Hid (Below w.heap.size w w9) := HB8.out.trans (hb9.mono HB8.out.size)
      clear hb9
      go_wp2
      go_ret
      exact ⟨rfl, HB9.out⟩
    · intro f w7 ok ol hok hol hb7 h
      cases hok
      cases hol
      have h85 : f 85 = bv m := h.2.2.2.2.2.2.1 (by decide)
      have h86 : f 79 = .tuple #[bv m, .int .i64 0] := h.2.2.2.2.2.1 (by decide)
      obtain ⟨B, h16, n16, Km7⟩ := (show ∃ b, f 16 = ptr b ∧ w5.heap.size ≤ b ∧ Bf b zB w7 from h.2.2.2.2.2.2.2.2.1 (by decide))
      
      have hB57 : Below w5.heap.size w5 (put6 w7 B m) := below_put6 hb7 n16
      have Km8 : Hid (Bf B m (put6 w7 B m)) := Km7.put m
      have Kb8 : Hid (Bf (w.heap.size + 1) b (put6 w7 B m)) := Kb5.out.later hB57
      have HB8 : Hid (Below w.heap.size w (put6 w7 B m)) := HB5.out.trans (hB57.mono HB5.out.size)
      clear al a0 a1 a2 a3 a4 a5
      obtain ⟨⟨ml, m0, m1, m2, m3, m4, m5⟩, mf0, mf1, mf2, mf3, mf4, mf5⟩ := Km7
      simp only [Nat.zero_add] at m1 m2 m3 m4 m5
      simp only [over_eq, overL, Nat.reduceAdd, h85, h86, h16, List.drop_succ_cons, List.drop_zero]
      clear h h85 h86 h16 hB57 hb7 n16
      go_wp2
      clear ml m0 m1 m2 m3 m4 m5 mf0 mf1 mf2 mf3 mf4 mf5
      change KK2 _ (put6 w7 B m)
      generalize put6 w7 B m = w8 at *
      refine HKK2.out _ _ ?_
      obtain ⟨⟨ml, m0, m1, m2, m3, m4, m5⟩, mf0, mf1, mf2, mf3, mf4, mf5⟩ := Km8.out
      simp only [Nat.zero_add] at m1 m2 m3 m4 m5
      obtain ⟨⟨bl, b0, b1, b2, b3, b4, b5⟩, bf0, bf1, bf2, bf3, bf4, bf5⟩ := Kb8.out
      simp only [Nat.zero_add] at b1 b2 b3 b4 b5
      go_wp2_with fail
      refine (meet_r m b false 0 HMM.out _).mono ?_
      rintro e w9 ⟨rfl, hb9⟩
      have HB9 : Hid (Below w.heap.size w w9) := HB8.out.trans (hb9.mono HB8.out.size)
      clear hb9
      go_wp2
      go_ret
      exact ⟨rfl, HB9.out⟩
end Go.Proofs.Ytiafcgbohckmmaa
