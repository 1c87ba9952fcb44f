/- The law SpaceMoves: case C, ok. -/
import Derived.Test.YtiafcgbohckmmaaMvBase
namespace Go.Proofs.Ytiafcgbohckmmaa
open Go.RowKit

set_option maxHeartbeats 6400000 in
set_option maxRecDepth 100000 in
theorem mv_c_ok (a b : Bx) (p : Pt) (w : World) (ha : bad1 a = 0) (hb : bad1 b = 0) (hp : nearP p = true) (hm : nearB (movB a p) = true) (hs : straight p = true) : Calls Try.prog 3 #[bv a, bv b, pv p] w fun e w' => e = .returned (.bool true) ∧ Below w.heap.size w w' := by
  have HA : Hid (bad1 a = 0) := ha
  have HBB : Hid (bad1 b = 0) := hb
  have HX : Hid (meetR a b = (meet a b, 0)) := meetR_ok ha hb
  have HH : Hid (hullR a b = (hullB a b, 0)) := hullR_ok ha hb
  clear hb
  obtain ⟨m, hmm⟩ : ∃ m, m = movB a p := ⟨_, rfl⟩
  have HC : Hid (m = movB a p) := hmm
  have HP : Hid (nearP p = true) := hp
  have HM : Hid (moveR a p = (m, 0)) := by show _ = _; rw [hmm]; exact moveR_ok ha hp hm
  have HMB : Hid (bad1 m = 0) := (moveR_good HM.out).2.2.2
  have HST : Hid (straight p = true) := hs
  have HS : Hid (sweepR a p = (hullB a m, 0)) := sweepR_ok HM.out hs
  clear ha hp hm hmm hs
  have HB0 : Hid (Below w.heap.size w w) := Below.refl _ _
  go_enter Try.func3, Try.ntmps3
  go_wp2_with fail
  refine (meet_r a b (meet a b) 0 HX.out _).mono ?_
  rintro e w1 ⟨rfl, hb1⟩
  have hal : Below w.heap.size w (((w.alloc (bo (a))).alloc (bo (b))).alloc (po (p))) := (below_grow _ (Nat.le_refl _) (below_grow _ (Nat.le_refl _) (below_grow _ (Nat.le_refl _) (Below.refl _ _) _) _) _)
  have hn : Below w.heap.size w w1 := hal.trans (hb1.mono hal.size)
  have HB1 : Hid (Below w.heap.size w w1) := HB0.out.trans (hn.mono HB0.out.size)
  have Ka1 : Hid (Bf (w.heap.size) (a) w1) := by
    have h := ((Bf.new w (a)).later (below_grow _ (Nat.le_refl _) (below_grow _ (Nat.le_refl _) (Below.refl _ _) _) _)).later hb1
    show Bf _ _ _
    simpa using h
  have Kb1 : Hid (Bf (w.heap.size + 1) (b) w1) := by
    have h := ((Bf.new (w.alloc (bo (a))) (b)).later (below_grow _ (Nat.le_refl _) (Below.refl _ _) _)).later hb1
    show Bf _ _ _
    simpa using h
  have Kp1 : Hid (Pf (w.heap.size + 1 + 1) (p) w1) := by
    have h := ((Pf.new ((w.alloc (bo (a))).alloc (bo (b))) (p)).later (Below.refl _ _)).later hb1
    show Pf _ _ _
    simpa using h
  clear hal hn hb1
  obtain ⟨⟨al, a0, a1, a2, a3, a4, a5⟩, af0, af1, af2, af3, af4, af5⟩ := Ka1.out
  simp only [Nat.zero_add] at a1 a2 a3 a4 a5
  obtain ⟨⟨bl, b0, b1, b2, b3, b4, b5⟩, bf0, bf1, bf2, bf3, bf4, bf5⟩ := Kb1.out
  simp only [Nat.zero_add] at b1 b2 b3 b4 b5
  go_wp2_with fail
  refine (fhull_r a b (hullB a b) 0 HH.out _).mono ?_
  rintro e w2 ⟨rfl, hb2⟩
  clear al a0 a1 a2 a3 a4 a5 af0 af1 af2 af3 af4 af5 bl b0 b1 b2 b3 b4 b5 bf0 bf1 bf2 bf3 bf4 bf5
  have hal : Below w1.heap.size w1 w1 := (Below.refl _ _)
  have hn : Below w1.heap.size w1 w2 := hal.trans (hb2.mono hal.size)
  have HB2 : Hid (Below w.heap.size w w2) := HB1.out.trans (hn.mono HB1.out.size)
  have Ka2 : Hid (Bf (w.heap.size) (a) w2) := Ka1.out.later hn
  have Kb2 : Hid (Bf (w.heap.size + 1) (b) w2) := Kb1.out.later hn
  have Kp2 : Hid (Pf (w.heap.size + 1 + 1) (p) w2) := Kp1.out.later hn
  clear hal hn hb2
  obtain ⟨⟨al, a0, a1, a2, a3, a4, a5⟩, af0, af1, af2, af3, af4, af5⟩ := Ka2.out
  simp only [Nat.zero_add] at a1 a2 a3 a4 a5
  obtain ⟨pl, p0, p1, p2⟩ := Kp2.out
  go_wp2_with fail
  refine (move_r a p m 0 HM.out _).mono ?_
  rintro e w3 ⟨rfl, hb3⟩
  clear al a0 a1 a2 a3 a4 a5 af0 af1 af2 af3 af4 af5 pl p0 p1 p2
  have hal : Below w2.heap.size w2 (w2.alloc (bo ((hullB a b)))) := (below_grow _ (Nat.le_refl _) (Below.refl _ _) _)
  have hn : Below w2.heap.size w2 w3 := hal.trans (hb3.mono hal.size)
  have HB3 : Hid (Below w.heap.size w w3) := HB2.out.trans (hn.mono HB2.out.size)
  have Ka3 : Hid (Bf (w.heap.size) (a) w3) := Ka2.out.later hn
  have Kb3 : Hid (Bf (w.heap.size + 1) (b) w3) := Kb2.out.later hn
  have Kp3 : Hid (Pf (w.heap.size + 1 + 1) (p) w3) := Kp2.out.later hn
  have Kh3 : Hid (Bf (w2.heap.size) ((hullB a b)) w3) := by
    have h := ((Bf.new w2 ((hullB a b))).later (Below.refl _ _)).later hb3
    show Bf _ _ _
    simpa using h
  clear hal hn hb3
  obtain ⟨⟨al, a0, a1, a2, a3, a4, a5⟩, af0, af1, af2, af3, af4, af5⟩ := Ka3.out
  simp only [Nat.zero_add] at a1 a2 a3 a4 a5
  obtain ⟨pl, p0, p1, p2⟩ := Kp3.out
  go_wp2_with fail
  refine (sweep_r a (hullB a m) p 0 HS.out _).mono ?_
  rintro e w4 ⟨rfl, hb4⟩
  clear al a0 a1 a2 a3 a4 a5 af0 af1 af2 af3 af4 af5 pl p0 p1 p2
  have hal : Below w3.heap.size w3 (w3.alloc (bo (m))) := (below_grow _ (Nat.le_refl _) (Below.refl _ _) _)
  have hn : Below w3.heap.size w3 w4 := hal.trans (hb4.mono hal.size)
  have HB4 : Hid (Below w.heap.size w w4) := HB3.out.trans (hn.mono HB3.out.size)
  have Ka4 : Hid (Bf (w.heap.size) (a) w4) := Ka3.out.later hn
  have Kb4 : Hid (Bf (w.heap.size + 1) (b) w4) := Kb3.out.later hn
  have Kp4 : Hid (Pf (w.heap.size + 1 + 1) (p) w4) := Kp3.out.later hn
  have Kh4 : Hid (Bf (w2.heap.size) ((hullB a b)) w4) := Kh3.out.later hn
  have Km4 : Hid (Bf (w3.heap.size) (m) w4) := by
    have h := ((Bf.new w3 (m)).later (Below.refl _ _)).later hb4
    show Bf _ _ _
    simpa using h
  clear hal hn hb4
  obtain ⟨⟨al, a0, a1, a2, a3, a4, a5⟩, af0, af1, af2, af3, af4, af5⟩ := Ka4.out
  simp only [Nat.zero_add] at a1 a2 a3 a4 a5
  go_wp2_with fail
  refine (BoxMay_r a 0 HA.out _).mono ?_
  rintro e w5 ⟨rfl, hb5⟩
  clear al a0 a1 a2 a3 a4 a5 af0 af1 af2 af3 af4 af5
  have hal : Below w4.heap.size w4 ((w4.alloc (bo ((hullB a m)))).alloc (bo (zB))) := (below_grow _ (Nat.le_refl _) (below_grow _ (Nat.le_refl _) (Below.refl _ _) _) _)
  have hn : Below w4.heap.size w4 w5 := hal.trans (hb5.mono hal.size)
  have HB5 : Hid (Below w.heap.size w w5) := HB4.out.trans (hn.mono HB4.out.size)
  have Ka5 : Hid (Bf (w.heap.size) (a) w5) := Ka4.out.later hn
  have Kb5 : Hid (Bf (w.heap.size + 1) (b) w5) := Kb4.out.later hn
  have Kp5 : Hid (Pf (w.heap.size + 1 + 1) (p) w5) := Kp4.out.later hn
  have Kh5 : Hid (Bf (w2.heap.size) ((hullB a b)) w5) := Kh4.out.later hn
  have Km5 : Hid (Bf (w3.heap.size) (m) w5) := Km4.out.later hn
  have Ks5 : Hid (Bf (w4.heap.size) ((hullB a m)) w5) := by
    have h := ((Bf.new w4 ((hullB a m))).later (below_grow _ (Nat.le_refl _) (Below.refl _ _) _)).later hb5
    show Bf _ _ _
    simpa using h
  have Kz5 : Hid (Bf (w4.heap.size + 1) (zB) w5) := by
    have h := ((Bf.new (w4.alloc (bo ((hullB a m)))) (zB)).later (Below.refl _ _)).later hb5
    show Bf _ _ _
    simpa using h
  clear hal hn hb5
  obtain ⟨⟨bl, b0, b1, b2, b3, b4, b5⟩, bf0, bf1, bf2, bf3, bf4, bf5⟩ := Kb5.out
  simp only [Nat.zero_add] at b1 b2 b3 b4 b5
  go_wp2_with fail
  refine (BoxMay_r b 0 HBB.out _).mono ?_
  rintro e w6 ⟨rfl, hb6⟩
  clear bl b0 b1 b2 b3 b4 b5 bf0 bf1 bf2 bf3 bf4 bf5
  have hal : Below w5.heap.size w5 w5 := (Below.refl _ _)
  have hn : Below w5.heap.size w5 w6 := hal.trans (hb6.mono hal.size)
  have HB6 : Hid (Below w.heap.size w w6) := HB5.out.trans (hn.mono HB5.out.size)
  have Ka6 : Hid (Bf (w.heap.size) (a) w6) := Ka5.out.later hn
  have Kb6 : Hid (Bf (w.heap.size + 1) (b) w6) := Kb5.out.later hn
  have Kp6 : Hid (Pf (w.heap.size + 1 + 1) (p) w6) := Kp5.out.later hn
  have Kh6 : Hid (Bf (w2.heap.size) ((hullB a b)) w6) := Kh5.out.later hn
  have Km6 : Hid (Bf (w3.heap.size) (m) w6) := Km5.out.later hn
  have Ks6 : Hid (Bf (w4.heap.size) ((hullB a m)) w6) := Ks5.out.later hn
  have Kz6 : Hid (Bf (w4.heap.size + 1) (zB) w6) := Kz5.out.later hn
  clear hal hn hb6
  obtain ⟨⟨al, a0, a1, a2, a3, a4, a5⟩, af0, af1, af2, af3, af4, af5⟩ := Ka6.out
  simp only [Nat.zero_add] at a1 a2 a3 a4 a5
  obtain ⟨⟨bl, b0, b1, b2, b3, b4, b5⟩, bf0, bf1, bf2, bf3, bf4, bf5⟩ := Kb6.out
  simp only [Nat.zero_add] at b1 b2 b3 b4 b5
  obtain ⟨⟨hl, h0, h1, h2, h3, h4, h5⟩, hf0, hf1, hf2, hf3, hf4, hf5⟩ := Kh6.out
  simp only [Nat.zero_add] at h1 h2 h3 h4 h5
  go_wp2_with fail
  refine region_inv [false, false, false, false, false, false, false, false, false, false, false, false, false, false, false, false, false, false, false, false, false, false, false, false, false, false, false, false, false, false, false, false, false, false, false, false, false, false, false, false, false, false, false, false, false, false, false, false, false, false, false, false, false, false, false, false, false, false, false, false, false, false, false, false, false, false, false, false, true, true, true, true, true, true, true, true, true, true, true, true, true, true, true, true, true, true, true, true, false, false, false, false, false, false, false, false, false, false, false, false, false, false, false, false, false, false, false, false, false, false, false, false, false, false, false, false, false, false, false, false, false, false, false, false, false, false, false, false, false, false, false, false, false, false, false, false, false, false, false, false, false, false, false, false, false, false, false, false, false, false, false, false, false, false, false, false, false, false, false, false, false, false, false, false]
    [(68, [], none), (69, [68], none), (70, [69], none), (71, [70], some (70, false)), (72, [70, 71], some (70, false)), (73, [70, 72], none), (74, [73], none), (75, [74], some (74, false)), (76, [74], some (74, false)), (77, [74], some (74, false)), (78, [74, 76, 77], some (74, false)), (79, [74, 75, 78], some (74, false)), (80, [74, 79], none), (81, [80], none), (82, [81], some (81, false)), (83, [81], some (81, false)), (84, [81], some (81, false)), (85, [81, 83, 84], some (81, false)), (86, [81, 82, 85], some (81, false)), (87, [81, 86], none)]
    (mv13V a b) (by kernel_rfl) (by kernel_rfl) (fun _ _ _ _ h _ => h) ?_ ?_
  · refine ⟨?_, ?_, ?_, ?_, ?_, ?_, ?_, ?_, ?_, ?_, ?_, ?_, ?_, ?_, ?_, ?_, ?_, ?_, ?_, ?_, trivial⟩
    · intro f wr hb _ K hK
      simp only [over, overL, Nat.reduceAdd]
      go_simp
      exact hK _ _ ⟨_, rfl, by simp only [over, overL, Nat.reduceAdd]; rfl, Below.refl _ _⟩
    · intro f wr hb ⟨h68, _⟩ K hK
      have h68 : f 68 = _ := h68
      simp only [over, overL, Nat.reduceAdd, h68]
      go_simp
      exact hK _ _ ⟨_, rfl, by simp only [over, overL, Nat.reduceAdd, h68]; rfl, Below.refl _ _⟩
    · intro f wr hb ⟨h69, _⟩ K hK
      have h69 : f 69 = _ := h69
      simp only [over, overL, Nat.reduceAdd, h69]
      go_simp
      exact hK _ _ ⟨_, rfl, by simp only [over, overL, Nat.reduceAdd, h69]; rfl, Below.refl _ _⟩
    · intro f wr hb ⟨h70, _⟩
      have h70 : f 70 = _ := h70
      refine ⟨fun _ => ?_, fun hg => absurd h70 hg⟩
      intro K hK
      simp only [over, overL, Nat.reduceAdd, h70]
      go_simp
      exact hK _ _ ⟨_, rfl, by simp only [over, overL, Nat.reduceAdd, h70]; rfl, Below.refl _ _⟩
    · intro f wr hb ⟨h70, h71, _⟩
      have h70 : f 70 = _ := h70
      have h71 : f 71 = _ := h71
      refine ⟨fun _ => ?_, fun hg => absurd h70 hg⟩
      intro K hK
      simp only [over, overL, Nat.reduceAdd, h70, h71]
      go_simp
      exact hK _ _ ⟨_, rfl, by simp only [over, overL, Nat.reduceAdd, h70, h71]; rfl, Below.refl _ _⟩
    · intro f wr hb ⟨h70, h72, _⟩ K hK
      have h70 : f 70 = _ := h70
      have h72 : f 72 = _ := h72
      simp only [over, overL, Nat.reduceAdd, h70, h72]
      go_simp
      exact hK _ _ ⟨_, rfl, by simp only [over, overL, Nat.reduceAdd, h70, h72]; rfl, Below.refl _ _⟩
    · intro f wr hb ⟨h73, _⟩ K hK
      have h73 : f 73 = _ := h73
      simp only [over, overL, Nat.reduceAdd, h73]
      go_simp
      exact hK _ _ ⟨_, rfl, by simp only [over, overL, Nat.reduceAdd, h73]; rfl, Below.refl _ _⟩
    · intro f wr hb ⟨h74, _⟩
      have h74 : f 74 = _ := h74
      refine ⟨fun _ => ?_, fun hg => absurd h74 hg⟩
      intro K hK
      simp only [over, overL, Nat.reduceAdd, h74]
      go_simp
      exact hK _ _ ⟨_, rfl, by simp only [over, overL, Nat.reduceAdd, h74]; rfl, Below.refl _ _⟩
    · intro f wr hb ⟨h74, _⟩
      have h74 : f 74 = _ := h74
      refine ⟨fun _ => ?_, fun hg => absurd h74 hg⟩
      intro K hK
      have ca0 := cell_later hb a0
      have ca1 := cell_later hb a1
      have ca2 := cell_later hb a2
      have ca3 := cell_later hb a3
      have ca4 := cell_later hb a4
      have ca5 := cell_later hb a5
      simp only [over, overL, Nat.reduceAdd, h74]
      go_simp
      exact hK _ _ ⟨_, rfl, by simp only [over, overL, Nat.reduceAdd, h74]; rfl, Below.refl _ _⟩
    · intro f wr hb ⟨h74, _⟩
      have h74 : f 74 = _ := h74
      refine ⟨fun _ => ?_, fun hg => absurd h74 hg⟩
      intro K hK
      have cb0 := cell_later hb b0
      have cb1 := cell_later hb b1
      have cb2 := cell_later hb b2
      have cb3 := cell_later hb b3
      have cb4 := cell_later hb b4
      have cb5 := cell_later hb b5
      simp only [over, overL, Nat.reduceAdd, h74]
      go_simp
      exact hK _ _ ⟨_, rfl, by simp only [over, overL, Nat.reduceAdd, h74]; rfl, Below.refl _ _⟩
    · intro f wr hb ⟨h74, h76, h77, _⟩
      have h74 : f 74 = _ := h74
      have h76 : f 76 = _ := h76
      have h77 : f 77 = _ := h77
      refine ⟨fun _ => ?_, fun hg => absurd h74 hg⟩
      intro K hK
      simp only [over, overL, Nat.reduceAdd, h74, h76, h77]
      go_simp
      refine (BoxMeet_any a b wr).mono ?_
      rintro e w9 ⟨rfl, hbn⟩
      exact hK _ _ ⟨_, rfl, by simp only [over, overL, Nat.reduceAdd, h74, h76, h77]; rfl, hbn⟩
    · intro f wr hb ⟨h74, h75, h78, _⟩
      have h74 : f 74 = _ := h74
      have h75 : f 75 = _ := h75
      have h78 : f 78 = _ := h78
      refine ⟨fun _ => ?_, fun hg => absurd h74 hg⟩
      intro K hK
      simp only [over, overL, Nat.reduceAdd, h74, h75, h78]
      go_simp
      exact hK _ _ ⟨_, rfl, by simp only [over, overL, Nat.reduceAdd, h74, h75, h78]; rfl, Below.refl _ _⟩
    · intro f wr hb ⟨h74, h79, _⟩ K hK
      have h74 : f 74 = _ := h74
      have h79 : f 79 = _ := h79
      simp only [over, overL, Nat.reduceAdd, h74, h79]
      go_simp
      exact hK _ _ ⟨_, rfl, by simp only [over, overL, Nat.reduceAdd, h74, h79]; rfl, Below.refl _ _⟩
    · intro f wr hb ⟨h80, _⟩ K hK
      have h80 : f 80 = _ := h80
      simp only [over, overL, Nat.reduceAdd, h80]
      go_simp
      exact hK _ _ ⟨_, rfl, by simp only [over, overL, Nat.reduceAdd, h80]; rfl, Below.refl _ _⟩
    · intro f wr hb ⟨h81, _⟩
      have h81 : f 81 = _ := h81
      refine ⟨fun _ => ?_, fun hg => absurd h81 hg⟩
      intro K hK
      have ch0 := cell_later hb h0
      have ch1 := cell_later hb h1
      have ch2 := cell_later hb h2
      have ch3 := cell_later hb h3
      have ch4 := cell_later hb h4
      have ch5 := cell_later hb h5
      simp only [over, overL, Nat.reduceAdd, h81]
      go_simp
      exact hK _ _ ⟨_, rfl, by simp only [over, overL, Nat.reduceAdd, h81]; rfl, Below.refl _ _⟩
    · intro f wr hb ⟨h81, _⟩
      have h81 : f 81 = _ := h81
      refine ⟨fun _ => ?_, fun hg => absurd h81 hg⟩
      intro K hK
      have ca0 := cell_later hb a0
      have ca1 := cell_later hb a1
      have ca2 := cell_later hb a2
      have ca3 := cell_later hb a3
      have ca4 := cell_later hb a4
      have ca5 := cell_later hb a5
      simp only [over, overL, Nat.reduceAdd, h81]
      go_simp
      exact hK _ _ ⟨_, rfl, by simp only [over, overL, Nat.reduceAdd, h81]; rfl, Below.refl _ _⟩
    · intro f wr hb ⟨h81, _⟩
      have h81 : f 81 = _ := h81
      refine ⟨fun _ => ?_, fun hg => absurd h81 hg⟩
      intro K hK
      have cb0 := cell_later hb b0
      have cb1 := cell_later hb b1
      have cb2 := cell_later hb b2
      have cb3 := cell_later hb b3
      have cb4 := cell_later hb b4
      have cb5 := cell_later hb b5
      simp only [over, overL, Nat.reduceAdd, h81]
      go_simp
      exact hK _ _ ⟨_, rfl, by simp only [over, overL, Nat.reduceAdd, h81]; rfl, Below.refl _ _⟩
    · intro f wr hb ⟨h81, h83, h84, _⟩
      have h81 : f 81 = _ := h81
      have h83 : f 83 = _ := h83
      have h84 : f 84 = _ := h84
      refine ⟨fun _ => ?_, fun hg => absurd h81 hg⟩
      intro K hK
      simp only [over, overL, Nat.reduceAdd, h81, h83, h84]
      go_simp
      refine (BoxHull_any a b wr).mono ?_
      rintro e w9 ⟨rfl, hbn⟩
      exact hK _ _ ⟨_, rfl, by simp only [over, overL, Nat.reduceAdd, h81, h83, h84]; rfl, hbn⟩
    · intro f wr hb ⟨h81, h82, h85, _⟩
      have h81 : f 81 = _ := h81
      have h82 : f 82 = _ := h82
      have h85 : f 85 = _ := h85
      refine ⟨fun _ => ?_, fun hg => absurd h81 hg⟩
      intro K hK
      simp only [over, overL, Nat.reduceAdd, h81, h82, h85]
      go_simp
      exact hK _ _ ⟨_, rfl, by simp only [over, overL, Nat.reduceAdd, h81, h82, h85]; rfl, Below.refl _ _⟩
    · intro f wr hb ⟨h81, h86, _⟩ K hK
      have h81 : f 81 = _ := h81
      have h86 : f 86 = _ := h86
      simp only [over, overL, Nat.reduceAdd, h81, h86]
      go_simp
      exact hK _ _ ⟨_, rfl, by simp only [over, overL, Nat.reduceAdd, h81, h86]; rfl, Below.refl _ _⟩
  intro f7 w7 hn h
  have hs87 : f7 87 = .bool false := h.2.2.2.2.2.2.2.2.2.2.2.2.2.2.2.2.2.2.2.1
  clear al a0 a1 a2 a3 a4 a5 af0 af1 af2 af3 af4 af5 bl b0 b1 b2 b3 b4 b5 bf0 bf1 bf2 bf3 bf4 bf5 hl h0 h1 h2 h3 h4 h5 hf0 hf1 hf2 hf3 hf4 hf5
  have HB7 : Hid (Below w.heap.size w w7) := HB6.out.trans (hn.mono HB6.out.size)
  have Ka7 : Hid (Bf (w.heap.size) (a) w7) := Ka6.out.later hn
  have Kb7 : Hid (Bf (w.heap.size + 1) (b) w7) := Kb6.out.later hn
  have Kp7 : Hid (Pf (w.heap.size + 1 + 1) (p) w7) := Kp6.out.later hn
  have Kh7 : Hid (Bf (w2.heap.size) ((hullB a b)) w7) := Kh6.out.later hn
  have Km7 : Hid (Bf (w3.heap.size) (m) w7) := Km6.out.later hn
  have Ks7 : Hid (Bf (w4.heap.size) ((hullB a m)) w7) := Ks6.out.later hn
  have Kz7 : Hid (Bf (w4.heap.size + 1) (zB) w7) := Kz6.out.later hn
  clear h hn
  obtain ⟨pl, p0, p1, p2⟩ := Kp7.out
  simp only [over_eq, overL, Nat.reduceAdd, hs87]
  clear hs87
  go_wp2_with fail
  refine (PointMay_r p true HP.out _).mono ?_
  rintro e w8 ⟨rfl, hb8⟩
  clear pl p0 p1 p2
  have hal : Below w7.heap.size w7 w7 := (Below.refl _ _)
  have hn : Below w7.heap.size w7 w8 := hal.trans (hb8.mono hal.size)
  have HB8 : Hid (Below w.heap.size w w8) := HB7.out.trans (hn.mono HB7.out.size)
  have Ka8 : Hid (Bf (w.heap.size) (a) w8) := Ka7.out.later hn
  have Kb8 : Hid (Bf (w.heap.size + 1) (b) w8) := Kb7.out.later hn
  have Kp8 : Hid (Pf (w.heap.size + 1 + 1) (p) w8) := Kp7.out.later hn
  have Kh8 : Hid (Bf (w2.heap.size) ((hullB a b)) w8) := Kh7.out.later hn
  have Km8 : Hid (Bf (w3.heap.size) (m) w8) := Km7.out.later hn
  have Ks8 : Hid (Bf (w4.heap.size) ((hullB a m)) w8) := Ks7.out.later hn
  have Kz8 : Hid (Bf (w4.heap.size + 1) (zB) w8) := Kz7.out.later hn
  clear hal hn hb8
  obtain ⟨⟨al, a0, a1, a2, a3, a4, a5⟩, af0, af1, af2, af3, af4, af5⟩ := Ka8.out
  simp only [Nat.zero_add] at a1 a2 a3 a4 a5
  obtain ⟨pl, p0, p1, p2⟩ := Kp8.out
  go_wp2_with fail
  refine (BoxMoved_r a m p HC.out (near_sm HA.out) (nearP_sm HP.out) _).mono ?_
  rintro e w9 ⟨rfl, hb9⟩
  clear al a0 a1 a2 a3 a4 a5 af0 af1 af2 af3 af4 af5 pl p0 p1 p2
  have hal : Below w8.heap.size w8 w8 := (Below.refl _ _)
  have hn : Below w8.heap.size w8 w9 := hal.trans (hb9.mono hal.size)
  have HB9 : Hid (Below w.heap.size w w9) := HB8.out.trans (hn.mono HB8.out.size)
  have Ka9 : Hid (Bf (w.heap.size) (a) w9) := Ka8.out.later hn
  have Kb9 : Hid (Bf (w.heap.size + 1) (b) w9) := Kb8.out.later hn
  have Kp9 : Hid (Pf (w.heap.size + 1 + 1) (p) w9) := Kp8.out.later hn
  have Kh9 : Hid (Bf (w2.heap.size) ((hullB a b)) w9) := Kh8.out.later hn
  have Km9 : Hid (Bf (w3.heap.size) (m) w9) := Km8.out.later hn
  have Ks9 : Hid (Bf (w4.heap.size) ((hullB a m)) w9) := Ks8.out.later hn
  have Kz9 : Hid (Bf (w4.heap.size + 1) (zB) w9) := Kz8.out.later hn
  clear hal hn hb9
  go_wp2_with fail
  refine (BoxMay_r m 0 HMB.out _).mono ?_
  rintro e w10 ⟨rfl, hb10⟩
  have hal : Below w9.heap.size w9 w9 := (Below.refl _ _)
  have hn : Below w9.heap.size w9 w10 := hal.trans (hb10.mono hal.size)
  have HB10 : Hid (Below w.heap.size w w10) := HB9.out.trans (hn.mono HB9.out.size)
  have Ka10 : Hid (Bf (w.heap.size) (a) w10) := Ka9.out.later hn
  have Kb10 : Hid (Bf (w.heap.size + 1) (b) w10) := Kb9.out.later hn
  have Kp10 : Hid (Pf (w.heap.size + 1 + 1) (p) w10) := Kp9.out.later hn
  have Kh10 : Hid (Bf (w2.heap.size) ((hullB a b)) w10) := Kh9.out.later hn
  have Km10 : Hid (Bf (w3.heap.size) (m) w10) := Km9.out.later hn
  have Ks10 : Hid (Bf (w4.heap.size) ((hullB a m)) w10) := Ks9.out.later hn
  have Kz10 : Hid (Bf (w4.heap.size + 1) (zB) w10) := Kz9.out.later hn
  clear hal hn hb10
  obtain ⟨⟨al, a0, a1, a2, a3, a4, a5⟩, af0, af1, af2, af3, af4, af5⟩ := Ka10.out
  simp only [Nat.zero_add] at a1 a2 a3 a4 a5
  obtain ⟨⟨ml, m0, m1, m2, m3, m4, m5⟩, mf0, mf1, mf2, mf3, mf4, mf5⟩ := Km10.out
  simp only [Nat.zero_add] at m1 m2 m3 m4 m5
  obtain ⟨pl, p0, p1, p2⟩ := Kp10.out
  go_wp2_with fail
  refine region_inv [false, false, false, false, false, false, false, false, false, false, false, false, false, false, false, false, false, false, false, false, false, false, false, false, false, false, false, false, false, false, false, false, false, false, false, false, false, false, false, false, false, false, false, false, false, false, false, false, false, false, false, false, false, false, false, false, false, false, false, false, false, false, false, false, false, false, false, false, false, false, false, false, false, false, false, false, false, false, false, false, false, false, false, false, false, false, false, false, false, false, false, false, false, false, false, false, false, false, false, false, false, false, false, false, false, false, false, false, false, false, false, false, false, false, false, false, false, false, false, false, false, false, true, true, true, true, true, true, true, true, true, false, false, false, false, false, false, false, false, false, false, false, false, false, false, false, false, false, false, false, false, false, false, false, false, false, false, false, false, false, false, false, false, false]
    [(122, [], none), (123, [122], none), (124, [123], none), (125, [124], some (124, false)), (126, [124], some (124, false)), (127, [124], some (124, false)), (128, [124, 126, 127], some (124, false)), (129, [124, 125, 128], some (124, false)), (130, [124, 129], none)]
    (mv19V a m p) (by kernel_rfl) (by kernel_rfl) (fun _ _ _ _ h _ => h) ?_ ?_
  · refine ⟨?_, ?_, ?_, ?_, ?_, ?_, ?_, ?_, ?_, trivial⟩
    · intro f wr hb _ K hK
      simp only [over, overL, Nat.reduceAdd]
      go_simp
      exact hK _ _ ⟨_, rfl, by simp only [over, overL, Nat.reduceAdd]; rfl, Below.refl _ _⟩
    · intro f wr hb ⟨h122, _⟩ K hK
      have h122 : f 122 = _ := h122
      simp only [over, overL, Nat.reduceAdd, h122]
      go_simp
      exact hK _ _ ⟨_, rfl, by simp only [over, overL, Nat.reduceAdd, h122]; rfl, Below.refl _ _⟩
    · intro f wr hb ⟨h123, _⟩ K hK
      have h123 : f 123 = _ := h123
      simp only [over, overL, Nat.reduceAdd, h123]
      go_simp
      exact hK _ _ ⟨_, rfl, by simp only [over, overL, Nat.reduceAdd, h123]; rfl, Below.refl _ _⟩
    · intro f wr hb ⟨h124, _⟩
      have h124 : f 124 = _ := h124
      refine ⟨fun _ => ?_, fun hg => absurd h124 hg⟩
      intro K hK
      have cm0 := cell_later hb m0
      have cm1 := cell_later hb m1
      have cm2 := cell_later hb m2
      have cm3 := cell_later hb m3
      have cm4 := cell_later hb m4
      have cm5 := cell_later hb m5
      simp only [over, overL, Nat.reduceAdd, h124]
      go_simp
      exact hK _ _ ⟨_, rfl, by simp only [over, overL, Nat.reduceAdd, h124]; rfl, Below.refl _ _⟩
    · intro f wr hb ⟨h124, _⟩
      have h124 : f 124 = _ := h124
      refine ⟨fun _ => ?_, fun hg => absurd h124 hg⟩
      intro K hK
      have ca0 := cell_later hb a0
      have ca1 := cell_later hb a1
      have ca2 := cell_later hb a2
      have ca3 := cell_later hb a3
      have ca4 := cell_later hb a4
      have ca5 := cell_later hb a5
      simp only [over, overL, Nat.reduceAdd, h124]
      go_simp
      exact hK _ _ ⟨_, rfl, by simp only [over, overL, Nat.reduceAdd, h124]; rfl, Below.refl _ _⟩
    · intro f wr hb ⟨h124, _⟩
      have h124 : f 124 = _ := h124
      refine ⟨fun _ => ?_, fun hg => absurd h124 hg⟩
      intro K hK
      have cp0 := cell_later hb p0
      have cp1 := cell_later hb p1
      have cp2 := cell_later hb p2
      simp only [over, overL, Nat.reduceAdd, h124]
      go_simp
      exact hK _ _ ⟨_, rfl, by simp only [over, overL, Nat.reduceAdd, h124]; rfl, Below.refl _ _⟩
    · intro f wr hb ⟨h124, h126, h127, _⟩
      have h124 : f 124 = _ := h124
      have h126 : f 126 = _ := h126
      have h127 : f 127 = _ := h127
      refine ⟨fun _ => ?_, fun hg => absurd h124 hg⟩
      intro K hK
      simp only [over, overL, Nat.reduceAdd, h124, h126, h127]
      go_simp
      refine (BoxMoved_r a m p HC.out (near_sm HA.out) (nearP_sm HP.out) wr).mono ?_
      rintro e w9 ⟨rfl, hbn⟩
      exact hK _ _ ⟨_, rfl, by simp only [over, overL, Nat.reduceAdd, h124, h126, h127]; rfl, hbn⟩
    · intro f wr hb ⟨h124, h125, h128, _⟩
      have h124 : f 124 = _ := h124
      have h125 : f 125 = _ := h125
      have h128 : f 128 = _ := h128
      refine ⟨fun _ => ?_, fun hg => absurd h124 hg⟩
      intro K hK
      simp only [over, overL, Nat.reduceAdd, h124, h125, h128]
      go_simp
      exact hK _ _ ⟨_, rfl, by simp only [over, overL, Nat.reduceAdd, h124, h125, h128]; rfl, Below.refl _ _⟩
    · intro f wr hb ⟨h124, h129, _⟩ K hK
      have h124 : f 124 = _ := h124
      have h129 : f 129 = _ := h129
      simp only [over, overL, Nat.reduceAdd, h124, h129]
      go_simp
      exact hK _ _ ⟨_, rfl, by simp only [over, overL, Nat.reduceAdd, h124, h129]; rfl, Below.refl _ _⟩
  intro f11 w11 hn h
  have hs130 : f11 130 = .bool false := h.2.2.2.2.2.2.2.2.1
  clear al a0 a1 a2 a3 a4 a5 af0 af1 af2 af3 af4 af5 ml m0 m1 m2 m3 m4 m5 mf0 mf1 mf2 mf3 mf4 mf5 pl p0 p1 p2
  have HB11 : Hid (Below w.heap.size w w11) := HB10.out.trans (hn.mono HB10.out.size)
  have Ka11 : Hid (Bf (w.heap.size) (a) w11) := Ka10.out.later hn
  have Kb11 : Hid (Bf (w.heap.size + 1) (b) w11) := Kb10.out.later hn
  have Kp11 : Hid (Pf (w.heap.size + 1 + 1) (p) w11) := Kp10.out.later hn
  have Kh11 : Hid (Bf (w2.heap.size) ((hullB a b)) w11) := Kh10.out.later hn
  have Km11 : Hid (Bf (w3.heap.size) (m) w11) := Km10.out.later hn
  have Ks11 : Hid (Bf (w4.heap.size) ((hullB a m)) w11) := Ks10.out.later hn
  have Kz11 : Hid (Bf (w4.heap.size + 1) (zB) w11) := Kz10.out.later hn
  clear h hn
  obtain ⟨pl, p0, p1, p2⟩ := Kp11.out
  obtain ⟨⟨sl, s0, s1, s2, s3, s4, s5⟩, sf0, sf1, sf2, sf3, sf4, sf5⟩ := Ks11.out
  simp only [Nat.zero_add] at s1 s2 s3 s4 s5
  obtain ⟨⟨al, a0, a1, a2, a3, a4, a5⟩, af0, af1, af2, af3, af4, af5⟩ := Ka11.out
  simp only [Nat.zero_add] at a1 a2 a3 a4 a5
  obtain ⟨⟨ml, m0, m1, m2, m3, m4, m5⟩, mf0, mf1, mf2, mf3, mf4, mf5⟩ := Km11.out
  simp only [Nat.zero_add] at m1 m2 m3 m4 m5
  simp only [over_eq, overL, Nat.reduceAdd, hs130]
  clear hs130
  skip
  by_cases hx : p.x = 0
  · have Hx : Hid (one p.x = 0) := by show one p.x = 0; rw [hx]; rfl
    have bqx : (p.x == 0) = true := by simp [hx]
    have cx : (p.x != 0) = false := by simp [hx]
    clear hx
    by_cases hy : p.y = 0
    · have Hy : Hid (one p.y = 0) := by show one p.y = 0; rw [hy]; rfl
      have bqy : (p.y == 0) = true := by simp [hy]
      have cy : (p.y != 0) = false := by simp [hy]
      clear hy
      by_cases hz : p.z = 0
      · have Hz : Hid (one p.z = 0) := by show one p.z = 0; rw [hz]; rfl
        have bqz : (p.z == 0) = true := by simp [hz]
        have cz : (p.z != 0) = false := by simp [hz]
        clear hz
        go_wp2_with fail
        refine region_inv [false, false, false, false, false, false, true, false, false, false, false, false, false, false, false, false, false, false, false, false, false, false, false, false, false, false, false, false, false, false, false, false, false, false, false, false, false, false, false, false, false, false, false, false, false, false, false, false, false, false, false, false, false, false, false, false, false, false, false, false, false, false, false, false, false, false, false, false, false, false, false, false, false, false, false, false, false, false, false, false, false, false, false, false, false, false, false, false, false, false, false, false, false, false, false, false, false, false, false, false, false, false, false, false, false, false, false, false, false, false, false, false, false, false, false, false, false, false, false, false, false, false, false, false, false, false, false, false, false, false, false, false, false, false, false, false, false, false, false, false, false, false, false, false, false, false, false, false, false, false, false, false, false, false, false, true, true, true, true, true, true, true, true, true]
          [(155, [], none), (156, [155], none), (157, [156], none), (158, [157], some (157, true)), (159, [157], some (157, true)), (160, [157], some (157, true)), (161, [157, 159, 160], some (157, true)), (162, [157, 158, 161], some (157, true)), (163, [157, 162], none), (6, [163], none)]
          (mv30V a m) (by kernel_rfl) (by kernel_rfl) (fun _ _ _ _ h _ => h) ?_ ?_
        · refine ⟨?_, ?_, ?_, ?_, ?_, ?_, ?_, ?_, ?_, ?_, trivial⟩
          · intro f wr hb _ K hK
            simp only [over, overL, Nat.reduceAdd]
            go_simp
            exact hK _ _ ⟨_, rfl, by simp only [over, overL, Nat.reduceAdd]; rfl, Below.refl _ _⟩
          · intro f wr hb ⟨h155, _⟩ K hK
            have h155 : f 155 = _ := h155
            simp only [over, overL, Nat.reduceAdd, h155]
            go_simp
            exact hK _ _ ⟨_, rfl, by simp only [over, overL, Nat.reduceAdd, h155]; rfl, Below.refl _ _⟩
          · intro f wr hb ⟨h156, _⟩ K hK
            have h156 : f 156 = _ := h156
            simp only [over, overL, Nat.reduceAdd, h156]
            go_simp
            exact hK _ _ ⟨_, rfl, by simp only [over, overL, Nat.reduceAdd, h156]; rfl, Below.refl _ _⟩
          · intro f wr hb ⟨h157, _⟩
            have h157 : f 157 = _ := h157
            refine ⟨fun _ => ?_, fun hg => absurd h157 hg⟩
            intro K hK
            have cs0 := cell_later hb s0
            have cs1 := cell_later hb s1
            have cs2 := cell_later hb s2
            have cs3 := cell_later hb s3
            have cs4 := cell_later hb s4
            have cs5 := cell_later hb s5
            simp only [over, overL, Nat.reduceAdd, h157]
            go_simp
            exact hK _ _ ⟨_, rfl, by simp only [over, overL, Nat.reduceAdd, h157]; rfl, Below.refl _ _⟩
          · intro f wr hb ⟨h157, _⟩
            have h157 : f 157 = _ := h157
            refine ⟨fun _ => ?_, fun hg => absurd h157 hg⟩
            intro K hK
            have ca0 := cell_later hb a0
            have ca1 := cell_later hb a1
            have ca2 := cell_later hb a2
            have ca3 := cell_later hb a3
            have ca4 := cell_later hb a4
            have ca5 := cell_later hb a5
            simp only [over, overL, Nat.reduceAdd, h157]
            go_simp
            exact hK _ _ ⟨_, rfl, by simp only [over, overL, Nat.reduceAdd, h157]; rfl, Below.refl _ _⟩
          · intro f wr hb ⟨h157, _⟩
            have h157 : f 157 = _ := h157
            refine ⟨fun _ => ?_, fun hg => absurd h157 hg⟩
            intro K hK
            have cm0 := cell_later hb m0
            have cm1 := cell_later hb m1
            have cm2 := cell_later hb m2
            have cm3 := cell_later hb m3
            have cm4 := cell_later hb m4
            have cm5 := cell_later hb m5
            simp only [over, overL, Nat.reduceAdd, h157]
            go_simp
            exact hK _ _ ⟨_, rfl, by simp only [over, overL, Nat.reduceAdd, h157]; rfl, Below.refl _ _⟩
          · intro f wr hb ⟨h157, h159, h160, _⟩
            have h157 : f 157 = _ := h157
            have h159 : f 159 = _ := h159
            have h160 : f 160 = _ := h160
            refine ⟨fun _ => ?_, fun hg => absurd h157 hg⟩
            intro K hK
            simp only [over, overL, Nat.reduceAdd, h157, h159, h160]
            go_simp
            refine (BoxHull_any a m wr).mono ?_
            rintro e w9 ⟨rfl, hbn⟩
            exact hK _ _ ⟨_, rfl, by simp only [over, overL, Nat.reduceAdd, h157, h159, h160]; rfl, hbn⟩
          · intro f wr hb ⟨h157, h158, h161, _⟩
            have h157 : f 157 = _ := h157
            have h158 : f 158 = _ := h158
            have h161 : f 161 = _ := h161
            refine ⟨fun _ => ?_, fun hg => absurd h157 hg⟩
            intro K hK
            simp only [over, overL, Nat.reduceAdd, h157, h158, h161]
            go_simp
            exact hK _ _ ⟨_, rfl, by simp only [over, overL, Nat.reduceAdd, h157, h158, h161]; rfl, Below.refl _ _⟩
          · intro f wr hb ⟨h157, h162, _⟩ K hK
            have h157 : f 157 = _ := h157
            have h162 : f 162 = _ := h162
            simp only [over, overL, Nat.reduceAdd, h157, h162]
            go_simp
            exact hK _ _ ⟨_, rfl, by simp only [over, overL, Nat.reduceAdd, h157, h162]; rfl, Below.refl _ _⟩
          · intro f wr hb ⟨h163, _⟩ K hK
            have h163 : f 163 = _ := h163
            simp only [over, overL, Nat.reduceAdd, h163]
            go_simp
            exact hK _ _ ⟨_, rfl, by simp only [over, overL, Nat.reduceAdd, h163]; rfl, Below.refl _ _⟩
        intro f12 w12 hn h
        have hs6 : f12 6 = .bool true := h.2.2.2.2.2.2.2.2.2.1
        clear pl p0 p1 p2 sl s0 s1 s2 s3 s4 s5 sf0 sf1 sf2 sf3 sf4 sf5 al a0 a1 a2 a3 a4 a5 af0 af1 af2 af3 af4 af5 ml m0 m1 m2 m3 m4 m5 mf0 mf1 mf2 mf3 mf4 mf5
        have HB12 : Hid (Below w.heap.size w w12) := HB11.out.trans (hn.mono HB11.out.size)
        have Ka12 : Hid (Bf (w.heap.size) (a) w12) := Ka11.out.later hn
        have Kb12 : Hid (Bf (w.heap.size + 1) (b) w12) := Kb11.out.later hn
        have Kp12 : Hid (Pf (w.heap.size + 1 + 1) (p) w12) := Kp11.out.later hn
        have Kh12 : Hid (Bf (w2.heap.size) ((hullB a b)) w12) := Kh11.out.later hn
        have Km12 : Hid (Bf (w3.heap.size) (m) w12) := Km11.out.later hn
        have Ks12 : Hid (Bf (w4.heap.size) ((hullB a m)) w12) := Ks11.out.later hn
        have Kz12 : Hid (Bf (w4.heap.size + 1) (zB) w12) := Kz11.out.later hn
        clear h hn
        simp only [over_eq, overL, Nat.reduceAdd, hs6]
        clear hs6
        go_wp2
        go_ret
        exact ⟨rfl, HB12.out⟩
      · have Hz : Hid (one p.z = 1) := one_of hz
        have bqz : (p.z == 0) = false := by simp [hz]
        have cz : (p.z != 0) = true := by simp [hz]
        clear hz
        go_wp2_with fail
        refine region_inv [false, false, false, false, false, false, true, false, false, false, false, false, false, false, false, false, false, false, false, false, false, false, false, false, false, false, false, false, false, false, false, false, false, false, false, false, false, false, false, false, false, false, false, false, false, false, false, false, false, false, false, false, false, false, false, false, false, false, false, false, false, false, false, false, false, false, false, false, false, false, false, false, false, false, false, false, false, false, false, false, false, false, false, false, false, false, false, false, false, false, false, false, false, false, false, false, false, false, false, false, false, false, false, false, false, false, false, false, false, false, false, false, false, false, false, false, false, false, false, false, false, false, false, false, false, false, false, false, false, false, false, false, false, false, false, false, false, false, false, false, false, false, false, false, false, false, false, false, false, false, false, false, false, false, false, true, true, true, true, true, true, true, true, true]
          [(155, [], none), (156, [155], none), (157, [156], none), (158, [157], some (157, true)), (159, [157], some (157, true)), (160, [157], some (157, true)), (161, [157, 159, 160], some (157, true)), (162, [157, 158, 161], some (157, true)), (163, [157, 162], none), (6, [163], none)]
          (mv30V a m) (by kernel_rfl) (by kernel_rfl) (fun _ _ _ _ h _ => h) ?_ ?_
        · refine ⟨?_, ?_, ?_, ?_, ?_, ?_, ?_, ?_, ?_, ?_, trivial⟩
          · intro f wr hb _ K hK
            simp only [over, overL, Nat.reduceAdd]
            go_simp
            exact hK _ _ ⟨_, rfl, by simp only [over, overL, Nat.reduceAdd]; rfl, Below.refl _ _⟩
          · intro f wr hb ⟨h155, _⟩ K hK
            have h155 : f 155 = _ := h155
            simp only [over, overL, Nat.reduceAdd, h155]
            go_simp
            exact hK _ _ ⟨_, rfl, by simp only [over, overL, Nat.reduceAdd, h155]; rfl, Below.refl _ _⟩
          · intro f wr hb ⟨h156, _⟩ K hK
            have h156 : f 156 = _ := h156
            simp only [over, overL, Nat.reduceAdd, h156]
            go_simp
            exact hK _ _ ⟨_, rfl, by simp only [over, overL, Nat.reduceAdd, h156]; rfl, Below.refl _ _⟩
          · intro f wr hb ⟨h157, _⟩
            have h157 : f 157 = _ := h157
            refine ⟨fun _ => ?_, fun hg => absurd h157 hg⟩
            intro K hK
            have cs0 := cell_later hb s0
            have cs1 := cell_later hb s1
            have cs2 := cell_later hb s2
            have cs3 := cell_later hb s3
            have cs4 := cell_later hb s4
            have cs5 := cell_later hb s5
            simp only [over, overL, Nat.reduceAdd, h157]
            go_simp
            exact hK _ _ ⟨_, rfl, by simp only [over, overL, Nat.reduceAdd, h157]; rfl, Below.refl _ _⟩
          · intro f wr hb ⟨h157, _⟩
            have h157 : f 157 = _ := h157
            refine ⟨fun _ => ?_, fun hg => absurd h157 hg⟩
            intro K hK
            have ca0 := cell_later hb a0
            have ca1 := cell_later hb a1
            have ca2 := cell_later hb a2
            have ca3 := cell_later hb a3
            have ca4 := cell_later hb a4
            have ca5 := cell_later hb a5
            simp only [over, overL, Nat.reduceAdd, h157]
            go_simp
            exact hK _ _ ⟨_, rfl, by simp only [over, overL, Nat.reduceAdd, h157]; rfl, Below.refl _ _⟩
          · intro f wr hb ⟨h157, _⟩
            have h157 : f 157 = _ := h157
            refine ⟨fun _ => ?_, fun hg => absurd h157 hg⟩
            intro K hK
            have cm0 := cell_later hb m0
            have cm1 := cell_later hb m1
            have cm2 := cell_later hb m2
            have cm3 := cell_later hb m3
            have cm4 := cell_later hb m4
            have cm5 := cell_later hb m5
            simp only [over, overL, Nat.reduceAdd, h157]
            go_simp
            exact hK _ _ ⟨_, rfl, by simp only [over, overL, Nat.reduceAdd, h157]; rfl, Below.refl _ _⟩
          · intro f wr hb ⟨h157, h159, h160, _⟩
            have h157 : f 157 = _ := h157
            have h159 : f 159 = _ := h159
            have h160 : f 160 = _ := h160
            refine ⟨fun _ => ?_, fun hg => absurd h157 hg⟩
            intro K hK
            simp only [over, overL, Nat.reduceAdd, h157, h159, h160]
            go_simp
            refine (BoxHull_any a m wr).mono ?_
            rintro e w9 ⟨rfl, hbn⟩
            exact hK _ _ ⟨_, rfl, by simp only [over, overL, Nat.reduceAdd, h157, h159, h160]; rfl, hbn⟩
          · intro f wr hb ⟨h157, h158, h161, _⟩
            have h157 : f 157 = _ := h157
            have h158 : f 158 = _ := h158
            have h161 : f 161 = _ := h161
            refine ⟨fun _ => ?_, fun hg => absurd h157 hg⟩
            intro K hK
            simp only [over, overL, Nat.reduceAdd, h157, h158, h161]
            go_simp
            exact hK _ _ ⟨_, rfl, by simp only [over, overL, Nat.reduceAdd, h157, h158, h161]; rfl, Below.refl _ _⟩
          · intro f wr hb ⟨h157, h162, _⟩ K hK
            have h157 : f 157 = _ := h157
            have h162 : f 162 = _ := h162
            simp only [over, overL, Nat.reduceAdd, h157, h162]
            go_simp
            exact hK _ _ ⟨_, rfl, by simp only [over, overL, Nat.reduceAdd, h157, h162]; rfl, Below.refl _ _⟩
          · intro f wr hb ⟨h163, _⟩ K hK
            have h163 : f 163 = _ := h163
            simp only [over, overL, Nat.reduceAdd, h163]
            go_simp
            exact hK _ _ ⟨_, rfl, by simp only [over, overL, Nat.reduceAdd, h163]; rfl, Below.refl _ _⟩
        intro f12 w12 hn h
        have hs6 : f12 6 = .bool true := h.2.2.2.2.2.2.2.2.2.1
        clear pl p0 p1 p2 sl s0 s1 s2 s3 s4 s5 sf0 sf1 sf2 sf3 sf4 sf5 al a0 a1 a2 a3 a4 a5 af0 af1 af2 af3 af4 af5 ml m0 m1 m2 m3 m4 m5 mf0 mf1 mf2 mf3 mf4 mf5
        have HB12 : Hid (Below w.heap.size w w12) := HB11.out.trans (hn.mono HB11.out.size)
        have Ka12 : Hid (Bf (w.heap.size) (a) w12) := Ka11.out.later hn
        have Kb12 : Hid (Bf (w.heap.size + 1) (b) w12) := Kb11.out.later hn
        have Kp12 : Hid (Pf (w.heap.size + 1 + 1) (p) w12) := Kp11.out.later hn
        have Kh12 : Hid (Bf (w2.heap.size) ((hullB a b)) w12) := Kh11.out.later hn
        have Km12 : Hid (Bf (w3.heap.size) (m) w12) := Km11.out.later hn
        have Ks12 : Hid (Bf (w4.heap.size) ((hullB a m)) w12) := Ks11.out.later hn
        have Kz12 : Hid (Bf (w4.heap.size + 1) (zB) w12) := Kz11.out.later hn
        clear h hn
        simp only [over_eq, overL, Nat.reduceAdd, hs6]
        clear hs6
        go_wp2
        go_ret
        exact ⟨rfl, HB12.out⟩
    · have Hy : Hid (one p.y = 1) := one_of hy
      have bqy : (p.y == 0) = false := by simp [hy]
      have cy : (p.y != 0) = true := by simp [hy]
      clear hy
      by_cases hz : p.z = 0
      · have Hz : Hid (one p.z = 0) := by show one p.z = 0; rw [hz]; rfl
        have bqz : (p.z == 0) = true := by simp [hz]
        have cz : (p.z != 0) = false := by simp [hz]
        clear hz
        go_wp2_with fail
        refine region_inv [false, false, false, false, false, false, true, false, false, false, false, false, false, false, false, false, false, false, false, false, false, false, false, false, false, false, false, false, false, false, false, false, false, false, false, false, false, false, false, false, false, false, false, false, false, false, false, false, false, false, false, false, false, false, false, false, false, false, false, false, false, false, false, false, false, false, false, false, false, false, false, false, false, false, false, false, false, false, false, false, false, false, false, false, false, false, false, false, false, false, false, false, false, false, false, false, false, false, false, false, false, false, false, false, false, false, false, false, false, false, false, false, false, false, false, false, false, false, false, false, false, false, false, false, false, false, false, false, false, false, false, false, false, false, false, false, false, false, false, false, false, false, false, false, false, false, false, false, false, false, false, false, false, false, false, true, true, true, true, true, true, true, true, true]
          [(155, [], none), (156, [155], none), (157, [156], none), (158, [157], some (157, true)), (159, [157], some (157, true)), (160, [157], some (157, true)), (161, [157, 159, 160], some (157, true)), (162, [157, 158, 161], some (157, true)), (163, [157, 162], none), (6, [163], none)]
          (mv30V a m) (by kernel_rfl) (by kernel_rfl) (fun _ _ _ _ h _ => h) ?_ ?_
        · refine ⟨?_, ?_, ?_, ?_, ?_, ?_, ?_, ?_, ?_, ?_, trivial⟩
          · intro f wr hb _ K hK
            simp only [over, overL, Nat.reduceAdd]
            go_simp
            exact hK _ _ ⟨_, rfl, by simp only [over, overL, Nat.reduceAdd]; rfl, Below.refl _ _⟩
          · intro f wr hb ⟨h155, _⟩ K hK
            have h155 : f 155 = _ := h155
            simp only [over, overL, Nat.reduceAdd, h155]
            go_simp
            exact hK _ _ ⟨_, rfl, by simp only [over, overL, Nat.reduceAdd, h155]; rfl, Below.refl _ _⟩
          · intro f wr hb ⟨h156, _⟩ K hK
            have h156 : f 156 = _ := h156
            simp only [over, overL, Nat.reduceAdd, h156]
            go_simp
            exact hK _ _ ⟨_, rfl, by simp only [over, overL, Nat.reduceAdd, h156]; rfl, Below.refl _ _⟩
          · intro f wr hb ⟨h157, _⟩
            have h157 : f 157 = _ := h157
            refine ⟨fun _ => ?_, fun hg => absurd h157 hg⟩
            intro K hK
            have cs0 := cell_later hb s0
            have cs1 := cell_later hb s1
            have cs2 := cell_later hb s2
            have cs3 := cell_later hb s3
            have cs4 := cell_later hb s4
            have cs5 := cell_later hb s5
            simp only [over, overL, Nat.reduceAdd, h157]
            go_simp
            exact hK _ _ ⟨_, rfl, by simp only [over, overL, Nat.reduceAdd, h157]; rfl, Below.refl _ _⟩
          · intro f wr hb ⟨h157, _⟩
            have h157 : f 157 = _ := h157
            refine ⟨fun _ => ?_, fun hg => absurd h157 hg⟩
            intro K hK
            have ca0 := cell_later hb a0
            have ca1 := cell_later hb a1
            have ca2 := cell_later hb a2
            have ca3 := cell_later hb a3
            have ca4 := cell_later hb a4
            have ca5 := cell_later hb a5
            simp only [over, overL, Nat.reduceAdd, h157]
            go_simp
            exact hK _ _ ⟨_, rfl, by simp only [over, overL, Nat.reduceAdd, h157]; rfl, Below.refl _ _⟩
          · intro f wr hb ⟨h157, _⟩
            have h157 : f 157 = _ := h157
            refine ⟨fun _ => ?_, fun hg => absurd h157 hg⟩
            intro K hK
            have cm0 := cell_later hb m0
            have cm1 := cell_later hb m1
            have cm2 := cell_later hb m2
            have cm3 := cell_later hb m3
            have cm4 := cell_later hb m4
            have cm5 := cell_later hb m5
            simp only [over, overL, Nat.reduceAdd, h157]
            go_simp
            exact hK _ _ ⟨_, rfl, by simp only [over, overL, Nat.reduceAdd, h157]; rfl, Below.refl _ _⟩
          · intro f wr hb ⟨h157, h159, h160, _⟩
            have h157 : f 157 = _ := h157
            have h159 : f 159 = _ := h159
            have h160 : f 160 = _ := h160
            refine ⟨fun _ => ?_, fun hg => absurd h157 hg⟩
            intro K hK
            simp only [over, overL, Nat.reduceAdd, h157, h159, h160]
            go_simp
            refine (BoxHull_any a m wr).mono ?_
            rintro e w9 ⟨rfl, hbn⟩
            exact hK _ _ ⟨_, rfl, by simp only [over, overL, Nat.reduceAdd, h157, h159, h160]; rfl, hbn⟩
          · intro f wr hb ⟨h157, h158, h161, _⟩
            have h157 : f 157 = _ := h157
            have h158 : f 158 = _ := h158
            have h161 : f 161 = _ := h161
            refine ⟨fun _ => ?_, fun hg => absurd h157 hg⟩
            intro K hK
            simp only [over, overL, Nat.reduceAdd, h157, h158, h161]
            go_simp
            exact hK _ _ ⟨_, rfl, by simp only [over, overL, Nat.reduceAdd, h157, h158, h161]; rfl, Below.refl _ _⟩
          · intro f wr hb ⟨h157, h162, _⟩ K hK
            have h157 : f 157 = _ := h157
            have h162 : f 162 = _ := h162
            simp only [over, overL, Nat.reduceAdd, h157, h162]
            go_simp
            exact hK _ _ ⟨_, rfl, by simp only [over, overL, Nat.reduceAdd, h157, h162]; rfl, Below.refl _ _⟩
          · intro f wr hb ⟨h163, _⟩ K hK
            have h163 : f 163 = _ := h163
            simp only [over, overL, Nat.reduceAdd, h163]
            go_simp
            exact hK _ _ ⟨_, rfl, by simp only [over, overL, Nat.reduceAdd, h163]; rfl, Below.refl _ _⟩
        intro f12 w12 hn h
        have hs6 : f12 6 = .bool true := h.2.2.2.2.2.2.2.2.2.1
        clear pl p0 p1 p2 sl s0 s1 s2 s3 s4 s5 sf0 sf1 sf2 sf3 sf4 sf5 al a0 a1 a2 a3 a4 a5 af0 af1 af2 af3 af4 af5 ml m0 m1 m2 m3 m4 m5 mf0 mf1 mf2 mf3 mf4 mf5
        have HB12 : Hid (Below w.heap.size w w12) := HB11.out.trans (hn.mono HB11.out.size)
        have Ka12 : Hid (Bf (w.heap.size) (a) w12) := Ka11.out.later hn
        have Kb12 : Hid (Bf (w.heap.size + 1) (b) w12) := Kb11.out.later hn
        have Kp12 : Hid (Pf (w.heap.size + 1 + 1) (p) w12) := Kp11.out.later hn
        have Kh12 : Hid (Bf (w2.heap.size) ((hullB a b)) w12) := Kh11.out.later hn
        have Km12 : Hid (Bf (w3.heap.size) (m) w12) := Km11.out.later hn
        have Ks12 : Hid (Bf (w4.heap.size) ((hullB a m)) w12) := Ks11.out.later hn
        have Kz12 : Hid (Bf (w4.heap.size + 1) (zB) w12) := Kz11.out.later hn
        clear h hn
        simp only [over_eq, overL, Nat.reduceAdd, hs6]
        clear hs6
        go_wp2
        go_ret
        exact ⟨rfl, HB12.out⟩
      · have Hz : Hid (one p.z = 1) := one_of hz
        have bqz : (p.z == 0) = false := by simp [hz]
        have cz : (p.z != 0) = true := by simp [hz]
        clear hz
        exact absurd (HST.out.symm.trans (straight_of Hx.out Hy.out Hz.out)) (by decide)
  · have Hx : Hid (one p.x = 1) := one_of hx
    have bqx : (p.x == 0) = false := by simp [hx]
    have cx : (p.x != 0) = true := by simp [hx]
    clear hx
    by_cases hy : p.y = 0
    · have Hy : Hid (one p.y = 0) := by show one p.y = 0; rw [hy]; rfl
      have bqy : (p.y == 0) = true := by simp [hy]
      have cy : (p.y != 0) = false := by simp [hy]
      clear hy
      by_cases hz : p.z = 0
      · have Hz : Hid (one p.z = 0) := by show one p.z = 0; rw [hz]; rfl
        have bqz : (p.z == 0) = true := by simp [hz]
        have cz : (p.z != 0) = false := by simp [hz]
        clear hz
        go_wp2_with fail
        refine region_inv [false, false, false, false, false, false, true, false, false, false, false, false, false, false, false, false, false, false, false, false, false, false, false, false, false, false, false, false, false, false, false, false, false, false, false, false, false, false, false, false, false, false, false, false, false, false, false, false, false, false, false, false, false, false, false, false, false, false, false, false, false, false, false, false, false, false, false, false, false, false, false, false, false, false, false, false, false, false, false, false, false, false, false, false, false, false, false, false, false, false, false, false, false, false, false, false, false, false, false, false, false, false, false, false, false, false, false, false, false, false, false, false, false, false, false, false, false, false, false, false, false, false, false, false, false, false, false, false, false, false, false, false, false, false, false, false, false, false, false, false, false, false, false, false, false, false, false, false, false, false, false, false, false, false, false, true, true, true, true, true, true, true, true, true]
          [(155, [], none), (156, [155], none), (157, [156], none), (158, [157], some (157, true)), (159, [157], some (157, true)), (160, [157], some (157, true)), (161, [157, 159, 160], some (157, true)), (162, [157, 158, 161], some (157, true)), (163, [157, 162], none), (6, [163], none)]
          (mv30V a m) (by kernel_rfl) (by kernel_rfl) (fun _ _ _ _ h _ => h) ?_ ?_
        · refine ⟨?_, ?_, ?_, ?_, ?_, ?_, ?_, ?_, ?_, ?_, trivial⟩
          · intro f wr hb _ K hK
            simp only [over, overL, Nat.reduceAdd]
            go_simp
            exact hK _ _ ⟨_, rfl, by simp only [over, overL, Nat.reduceAdd]; rfl, Below.refl _ _⟩
          · intro f wr hb ⟨h155, _⟩ K hK
            have h155 : f 155 = _ := h155
            simp only [over, overL, Nat.reduceAdd, h155]
            go_simp
            exact hK _ _ ⟨_, rfl, by simp only [over, overL, Nat.reduceAdd, h155]; rfl, Below.refl _ _⟩
          · intro f wr hb ⟨h156, _⟩ K hK
            have h156 : f 156 = _ := h156
            simp only [over, overL, Nat.reduceAdd, h156]
            go_simp
            exact hK _ _ ⟨_, rfl, by simp only [over, overL, Nat.reduceAdd, h156]; rfl, Below.refl _ _⟩
          · intro f wr hb ⟨h157, _⟩
            have h157 : f 157 = _ := h157
            refine ⟨fun _ => ?_, fun hg => absurd h157 hg⟩
            intro K hK
            have cs0 := cell_later hb s0
            have cs1 := cell_later hb s1
            have cs2 := cell_later hb s2
            have cs3 := cell_later hb s3
            have cs4 := cell_later hb s4
            have cs5 := cell_later hb s5
            simp only [over, overL, Nat.reduceAdd, h157]
            go_simp
            exact hK _ _ ⟨_, rfl, by simp only [over, overL, Nat.reduceAdd, h157]; rfl, Below.refl _ _⟩
          · intro f wr hb ⟨h157, _⟩
            have h157 : f 157 = _ := h157
            refine ⟨fun _ => ?_, fun hg => absurd h157 hg⟩
            intro K hK
            have ca0 := cell_later hb a0
            have ca1 := cell_later hb a1
            have ca2 := cell_later hb a2
            have ca3 := cell_later hb a3
            have ca4 := cell_later hb a4
            have ca5 := cell_later hb a5
            simp only [over, overL, Nat.reduceAdd, h157]
            go_simp
            exact hK _ _ ⟨_, rfl, by simp only [over, overL, Nat.reduceAdd, h157]; rfl, Below.refl _ _⟩
          · intro f wr hb ⟨h157, _⟩
            have h157 : f 157 = _ := h157
            refine ⟨fun _ => ?_, fun hg => absurd h157 hg⟩
            intro K hK
            have cm0 := cell_later hb m0
            have cm1 := cell_later hb m1
            have cm2 := cell_later hb m2
            have cm3 := cell_later hb m3
            have cm4 := cell_later hb m4
            have cm5 := cell_later hb m5
            simp only [over, overL, Nat.reduceAdd, h157]
            go_simp
            exact hK _ _ ⟨_, rfl, by simp only [over, overL, Nat.reduceAdd, h157]; rfl, Below.refl _ _⟩
          · intro f wr hb ⟨h157, h159, h160, _⟩
            have h157 : f 157 = _ := h157
            have h159 : f 159 = _ := h159
            have h160 : f 160 = _ := h160
            refine ⟨fun _ => ?_, fun hg => absurd h157 hg⟩
            intro K hK
            simp only [over, overL, Nat.reduceAdd, h157, h159, h160]
            go_simp
            refine (BoxHull_any a m wr).mono ?_
            rintro e w9 ⟨rfl, hbn⟩
            exact hK _ _ ⟨_, rfl, by simp only [over, overL, Nat.reduceAdd, h157, h159, h160]; rfl, hbn⟩
          · intro f wr hb ⟨h157, h158, h161, _⟩
            have h157 : f 157 = _ := h157
            have h158 : f 158 = _ := h158
            have h161 : f 161 = _ := h161
            refine ⟨fun _ => ?_, fun hg => absurd h157 hg⟩
            intro K hK
            simp only [over, overL, Nat.reduceAdd, h157, h158, h161]
            go_simp
            exact hK _ _ ⟨_, rfl, by simp only [over, overL, Nat.reduceAdd, h157, h158, h161]; rfl, Below.refl _ _⟩
          · intro f wr hb ⟨h157, h162, _⟩ K hK
            have h157 : f 157 = _ := h157
            have h162 : f 162 = _ := h162
            simp only [over, overL, Nat.reduceAdd, h157, h162]
            go_simp
            exact hK _ _ ⟨_, rfl, by simp only [over, overL, Nat.reduceAdd, h157, h162]; rfl, Below.refl _ _⟩
          · intro f wr hb ⟨h163, _⟩ K hK
            have h163 : f 163 = _ := h163
            simp only [over, overL, Nat.reduceAdd, h163]
            go_simp
            exact hK _ _ ⟨_, rfl, by simp only [over, overL, Nat.reduceAdd, h163]; rfl, Below.refl _ _⟩
        intro f12 w12 hn h
        have hs6 : f12 6 = .bool true := h.2.2.2.2.2.2.2.2.2.1
        clear pl p0 p1 p2 sl s0 s1 s2 s3 s4 s5 sf0 sf1 sf2 sf3 sf4 sf5 al a0 a1 a2 a3 a4 a5 af0 af1 af2 af3 af4 af5 ml m0 m1 m2 m3 m4 m5 mf0 mf1 mf2 mf3 mf4 mf5
        have HB12 : Hid (Below w.heap.size w w12) := HB11.out.trans (hn.mono HB11.out.size)
        have Ka12 : Hid (Bf (w.heap.size) (a) w12) := Ka11.out.later hn
        have Kb12 : Hid (Bf (w.heap.size + 1) (b) w12) := Kb11.out.later hn
        have Kp12 : Hid (Pf (w.heap.size + 1 + 1) (p) w12) := Kp11.out.later hn
        have Kh12 : Hid (Bf (w2.heap.size) ((hullB a b)) w12) := Kh11.out.later hn
        have Km12 : Hid (Bf (w3.heap.size) (m) w12) := Km11.out.later hn
        have Ks12 : Hid (Bf (w4.heap.size) ((hullB a m)) w12) := Ks11.out.later hn
        have Kz12 : Hid (Bf (w4.heap.size + 1) (zB) w12) := Kz11.out.later hn
        clear h hn
        simp only [over_eq, overL, Nat.reduceAdd, hs6]
        clear hs6
        go_wp2
        go_ret
        exact ⟨rfl, HB12.out⟩
      · have Hz : Hid (one p.z = 1) := one_of hz
        have bqz : (p.z == 0) = false := by simp [hz]
        have cz : (p.z != 0) = true := by simp [hz]
        clear hz
        exact absurd (HST.out.symm.trans (straight_of Hx.out Hy.out Hz.out)) (by decide)
    · have Hy : Hid (one p.y = 1) := one_of hy
      have bqy : (p.y == 0) = false := by simp [hy]
      have cy : (p.y != 0) = true := by simp [hy]
      clear hy
      by_cases hz : p.z = 0
      · have Hz : Hid (one p.z = 0) := by show one p.z = 0; rw [hz]; rfl
        have bqz : (p.z == 0) = true := by simp [hz]
        have cz : (p.z != 0) = false := by simp [hz]
        clear hz
        exact absurd (HST.out.symm.trans (straight_of Hx.out Hy.out Hz.out)) (by decide)
      · have Hz : Hid (one p.z = 1) := one_of hz
        have bqz : (p.z == 0) = false := by simp [hz]
        have cz : (p.z != 0) = true := by simp [hz]
        clear hz
        exact absurd (HST.out.symm.trans (straight_of Hx.out Hy.out Hz.out)) (by decide)
end Go.Proofs.Ytiafcgbohckmmaa
