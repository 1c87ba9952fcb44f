/- The law SpaceLists: a list that is none. -/
import Derived.Test.YtiafcgbohckmmaaLsBase
namespace Go.Proofs.Ytiafcgbohckmmaa
open Go.RowKit

set_option linter.unusedVariables false in
set_option maxHeartbeats 12800000 in
set_option maxRecDepth 100000 in
theorem ls_1 (ao : Option Addr) (cap : Nat) (l : List Bx) (a : Bx) (p : Pt) (w : World) (hL : Bxs w ao l) (hn0 : ao = none → cap = 0) (hreach : l.length * 48 ≤ 140737488351232) (hr : rlist l [] ≠ 0) : Calls Try.prog 4 #[.slice ao l.length cap, bv a, pv p] w fun e w' => e = .returned (.bool true) ∧ Below w.heap.size w w' := by
  have HL : Hid (Bxs w ao l) := hL
  have hll : l.length ≤ 9223372036854775807 := by omega
  clear hL
  obtain ⟨r, hrr⟩ : ∃ r, r = rlist l [] := ⟨_, rfl⟩
  have hr0 : r ≠ 0 := by rw [hrr]; exact hr
  have HR : Hid (rlist l [] = r) := hrr.symm
  have e1 : rlist l [a] = r := by rw [rlist_same hr, hrr]
  have HF : Hid (firstR l a = (0, r)) := by show _ = _; unfold firstR; rw [e1, if_neg hr0]
  have HA : Hid (ApartIs l 0 0 r) := .inl ⟨hr, rfl, rfl, hrr⟩
  have HS : Hid (SafeIs l a p 0 r) := .inl ⟨by rw [e1]; exact hr0, rfl, e1.symm⟩
  have hne : (r != 0) = true := by simp [hr0]
  clear hrr hr0 hr e1
  have HB0 : Hid (Below w.heap.size w w) := Below.refl _ _
  go_enter Try.func4, Try.ntmps4
  go_wp2_with fail
  obtain ⟨w1, hw1⟩ : ∃ w1, w1 = ((w.alloc (bo (a))).alloc (po (p))) := ⟨_, rfl⟩
  have hal : Below w.heap.size w w1 := by rw [hw1]; exact (below_grow _ (Nat.le_refl _) (below_grow _ (Nat.le_refl _) (Below.refl _ _) _) _)
  have HB1 : Hid (Below w.heap.size w w1) := HB0.out.trans (hal.mono HB0.out.size)
  have Ka1 : Hid (Bf (w.heap.size) (a) w1) := by
    have h : Bf _ (a) ((w.alloc (bo (a))).alloc (po (p))) := (Bf.new w (a)).later (below_grow _ (Nat.le_refl _) (Below.refl _ _) _)
    rw [← hw1] at h
    show Bf _ _ _
    simpa using h
  have Kp1 : Hid (Pf (w.heap.size + 1) (p) w1) := by
    have h : Pf _ (p) ((w.alloc (bo (a))).alloc (po (p))) := (Pf.new (w.alloc (bo (a))) (p)).later (Below.refl _ _)
    rw [← hw1] at h
    show Pf _ _ _
    simpa using h
  rw [← hw1]
  clear hw1 hal
  obtain ⟨⟨al, a0, a1, a2, a3, a4, a5⟩, af0, af1, af2, af3, af4, af5⟩ := Ka1.out
  simp only [Nat.zero_add] at a1 a2 a3 a4 a5
  refine region_seqE 9 [false, false, false, false, false, false, false, true, true, false, false, false, false, false, false, false, false, false, false, false, false, true, true, true, true, true, true, true, false, false, false, false, false, false, false, false, false, false, false, false, false, false, false, false, false, false, false, false, false, false, false, false, false, false, false, false, false, false, false, false, false, false, false, false, false, false, false, false, false, false, false, false, false, false, false, false, false, false, false, false, false, false, false, false, false, false, false, false, false, false, false, false, false, false, false, false, false, false, false, false, false, false, false, false, false, false, false, false, false, false, false, false, false, false, false, false, false, false, false, false, false, false, false, false, false, false, false, false, false, false, false, false, false, false, false, false, false, false, false, false, false, false, false, false, false, false, false, false, false, false, false, false, false, false, false, false, false, false, false, false, false, false, false, false, false, false, false, false, false, false, false, false, false, false, false, false, false, false, false, false, false]
    [(22, [], none), (23, [22], none), (24, [], none), (25, [23, 24], none), (21, [25], none), (26, [21], none), (27, [21], none), (7, [26], none), (8, [27], none)]
    (ls1V l a 0 r ao cap) (by kernel_rfl) (by kernel_rfl) (by kernel_rfl) (by kernel_rfl) (by kernel_rfl) (by decide) (ls1V_mono l a 0 r ao cap) ?_ ?_
  · refine ⟨?_, ?_, ?_, ?_, ?_, ?_, ?_, ?_, ?_, trivial⟩
    · intro f wr hb _ K hK
      simp only [over, overL, Nat.reduceAdd]
      go_simp
      exact hK _ _ ⟨_, rfl, by simp only [over, overL, Nat.reduceAdd]; rfl, Below.refl _ _⟩
    · intro f wr hb ⟨h22, _⟩ K hK
      have h22 : f 22 = _ := h22
      simp only [over, overL, Nat.reduceAdd, h22]
      go_simp
      refine (boxes_any ao cap l wr (HL.out.next (HB1.out.trans (hb.mono HB1.out.size))) hn0 hreach).mono ?_
      rintro e w9 ⟨u, rfl, hu, hbn⟩
      exact hK _ _ ⟨_, hu, by simp only [over, overL, Nat.reduceAdd, h22]; rfl, hbn⟩
    · intro f wr hb _ K hK
      have ca0 := cell_later hb a0
      have ca1 := cell_later hb a1
      have ca2 := cell_later hb a2
      have ca3 := cell_later hb a3
      have ca4 := cell_later hb a4
      have ca5 := cell_later hb a5
      simp only [over, overL, Nat.reduceAdd]
      go_simp
      exact hK _ _ ⟨_, rfl, by simp only [over, overL, Nat.reduceAdd]; rfl, Below.refl _ _⟩
    · intro f wr hb ⟨h23, h24, _⟩ K hK
      have h24 : f 24 = _ := h24
      obtain ⟨ao2, cap2, ecp, hbx, hcp⟩ := (show IsCopy l (f 23) wr from h23)
      simp only [over, overL, Nat.reduceAdd, ecp, h24]
      go_simp
      refine (first_r ao2 cap2 l a 0 r HF.out hll wr hbx).mono ?_
      rintro e w9 ⟨rfl, hbn⟩
      exact hK _ _ ⟨_, rfl, by simp only [over, overL, Nat.reduceAdd, ecp, h24]; rfl, hbn⟩
    · intro f wr hb ⟨h25, _⟩ K hK
      have h25 : f 25 = _ := h25
      simp only [over, overL, Nat.reduceAdd, h25]
      go_simp
      exact hK _ _ ⟨_, rfl, by simp only [over, overL, Nat.reduceAdd, h25]; rfl, Below.refl _ _⟩
    · intro f wr hb ⟨h21, _⟩ K hK
      have h21 : f 21 = _ := h21
      simp only [over, overL, Nat.reduceAdd, h21]
      go_simp
      exact hK _ _ ⟨_, rfl, by simp only [over, overL, Nat.reduceAdd, h21]; rfl, Below.refl _ _⟩
    · intro f wr hb ⟨h21, _⟩ K hK
      have h21 : f 21 = _ := h21
      simp only [over, overL, Nat.reduceAdd, h21]
      go_simp
      exact hK _ _ ⟨_, rfl, by simp only [over, overL, Nat.reduceAdd, h21]; rfl, Below.refl _ _⟩
    · intro f wr hb ⟨h26, _⟩ K hK
      have h26 : f 26 = _ := h26
      simp only [over, overL, Nat.reduceAdd, h26]
      go_simp
      exact hK _ _ ⟨_, rfl, by simp only [over, overL, Nat.reduceAdd, h26]; rfl, Below.refl _ _⟩
    · intro f wr hb ⟨h27, _⟩ K hK
      have h27 : f 27 = _ := h27
      simp only [over, overL, Nat.reduceAdd, h27]
      go_simp
      exact hK _ _ ⟨_, rfl, by simp only [over, overL, Nat.reduceAdd, h27]; rfl, Below.refl _ _⟩
  intro f2 w2 hn h
  have hs7 : f2 7 = .int .i64 (0) := h.2.2.2.2.2.2.2.1
  have hs8 : f2 8 = .int .i64 (r) := h.2.2.2.2.2.2.2.2.1
  clear al a0 a1 a2 a3 a4 a5 af0 af1 af2 af3 af4 af5
  have HB2 : Hid (Below w.heap.size w w2) := HB1.out.trans (hn.mono HB1.out.size)
  have Ka2 : Hid (Bf (w.heap.size) (a) w2) := Ka1.out.later hn
  have Kp2 : Hid (Pf (w.heap.size + 1) (p) w2) := Kp1.out.later hn
  clear h hn
  simp only [over_eq, overL, Nat.reduceAdd, List.drop_succ_cons, List.drop_zero, hs7, hs8]
  clear hs7 hs8
  go_wp2_with fail
  refine (boxes_any ao cap l w2 (HL.out.next HB2.out) hn0 hreach).mono ?_
  rintro e w3 ⟨u, rfl, hu, hb3⟩
  have hal : Below w2.heap.size w2 w2 := (Below.refl _ _)
  have hn : Below w2.heap.size w2 w3 := hal.trans (hb3.mono hal.size)
  have HB3 : Hid (Below w.heap.size w w3) := HB2.out.trans (hn.mono HB2.out.size)
  have Ka3 : Hid (Bf (w.heap.size) (a) w3) := Ka2.out.later hn
  have Kp3 : Hid (Pf (w.heap.size + 1) (p) w3) := Kp2.out.later hn
  clear hal hn hb3
  obtain ⟨ao2, cap2, rfl, hbx2, hcp2⟩ := hu
  have HX2 : Hid (Bxs w3 ao2 l) := hbx2
  clear hbx2
  go_wp2_with fail
  refine (apart_r ao2 cap2 l 0 0 r HA.out hll w3 HX2.out hcp2).mono ?_
  rintro e w4 ⟨rfl, hb4⟩
  have hal : Below w3.heap.size w3 w3 := (Below.refl _ _)
  have hn : Below w3.heap.size w3 w4 := hal.trans (hb4.mono hal.size)
  have HB4 : Hid (Below w.heap.size w w4) := HB3.out.trans (hn.mono HB3.out.size)
  have Ka4 : Hid (Bf (w.heap.size) (a) w4) := Ka3.out.later hn
  have Kp4 : Hid (Pf (w.heap.size + 1) (p) w4) := Kp3.out.later hn
  clear hal hn hb4
  obtain ⟨⟨al, a0, a1, a2, a3, a4, a5⟩, af0, af1, af2, af3, af4, af5⟩ := Ka4.out
  simp only [Nat.zero_add] at a1 a2 a3 a4 a5
  obtain ⟨pl, p0, p1, p2⟩ := Kp4.out
  go_wp2_with fail
  refine region_seqE 10 [false, false, false, false, false, false, false, false, false, false, false, false, true, true, false, false, false, false, false, false, false, false, false, false, false, false, false, false, false, false, false, false, false, false, false, true, true, true, true, true, true, true, true, false, false, false, false, false, false, false, false, false, false, false, false, false, false, false, false, false, false, false, false, false, false, false, false, false, false, false, false, false, false, false, false, false, false, false, false, false, false, false, false, false, false, false, false, false, false, false, false, false, false, false, false, false, false, false, false, false, false, false, false, false, false, false, false, false, false, false, false, false, false, false, false, false, false, false, false, false, false, false, false, false, false, false, false, false, false, false, false, false, false, false, false, false, false, false, false, false, false, false, false, false, false, false, false, false, false, false, false, false, false, false, false, false, false, false, false, false, false, false, false, false, false, false, false, false, false, false, false, false, false, false, false, false, false, false, false, false, false]
    [(36, [], none), (37, [36], none), (38, [], none), (39, [], none), (40, [37, 38, 39], none), (35, [40], none), (41, [35], none), (42, [35], none), (12, [41], none), (13, [42], none)]
    (ls3V l a p 0 r ao cap) (by kernel_rfl) (by kernel_rfl) (by kernel_rfl) (by kernel_rfl) (by kernel_rfl) (by decide) (ls3V_mono l a p 0 r ao cap) ?_ ?_
  · refine ⟨?_, ?_, ?_, ?_, ?_, ?_, ?_, ?_, ?_, ?_, trivial⟩
    · intro f wr hb _ K hK
      simp only [over, overL, Nat.reduceAdd]
      go_simp
      exact hK _ _ ⟨_, rfl, by simp only [over, overL, Nat.reduceAdd]; rfl, Below.refl _ _⟩
    · intro f wr hb ⟨h36, _⟩ K hK
      have h36 : f 36 = _ := h36
      simp only [over, overL, Nat.reduceAdd, h36]
      go_simp
      refine (boxes_any ao cap l wr (HL.out.next (HB4.out.trans (hb.mono HB4.out.size))) hn0 hreach).mono ?_
      rintro e w9 ⟨u, rfl, hu, hbn⟩
      exact hK _ _ ⟨_, hu, by simp only [over, overL, Nat.reduceAdd, h36]; rfl, hbn⟩
    · intro f wr hb _ K hK
      have ca0 := cell_later hb a0
      have ca1 := cell_later hb a1
      have ca2 := cell_later hb a2
      have ca3 := cell_later hb a3
      have ca4 := cell_later hb a4
      have ca5 := cell_later hb a5
      simp only [over, overL, Nat.reduceAdd]
      go_simp
      exact hK _ _ ⟨_, rfl, by simp only [over, overL, Nat.reduceAdd]; rfl, Below.refl _ _⟩
    · intro f wr hb _ K hK
      have cp0 := cell_later hb p0
      have cp1 := cell_later hb p1
      have cp2 := cell_later hb p2
      simp only [over, overL, Nat.reduceAdd]
      go_simp
      exact hK _ _ ⟨_, rfl, by simp only [over, overL, Nat.reduceAdd]; rfl, Below.refl _ _⟩
    · intro f wr hb ⟨h37, h38, h39, _⟩ K hK
      have h38 : f 38 = _ := h38
      have h39 : f 39 = _ := h39
      obtain ⟨ao2, cap2, ecp, hbx, hcp⟩ := (show IsCopy l (f 37) wr from h37)
      simp only [over, overL, Nat.reduceAdd, ecp, h38, h39]
      go_simp
      refine (safe_r ao2 cap2 l a p 0 r HS.out hll wr hbx).mono ?_
      rintro e w9 ⟨rfl, hbn⟩
      exact hK _ _ ⟨_, rfl, by simp only [over, overL, Nat.reduceAdd, ecp, h38, h39]; rfl, hbn⟩
    · intro f wr hb ⟨h40, _⟩ K hK
      have h40 : f 40 = _ := h40
      simp only [over, overL, Nat.reduceAdd, h40]
      go_simp
      exact hK _ _ ⟨_, rfl, by simp only [over, overL, Nat.reduceAdd, h40]; rfl, Below.refl _ _⟩
    · intro f wr hb ⟨h35, _⟩ K hK
      have h35 : f 35 = _ := h35
      simp only [over, overL, Nat.reduceAdd, h35]
      go_simp
      exact hK _ _ ⟨_, rfl, by simp only [over, overL, Nat.reduceAdd, h35]; rfl, Below.refl _ _⟩
    · intro f wr hb ⟨h35, _⟩ K hK
      have h35 : f 35 = _ := h35
      simp only [over, overL, Nat.reduceAdd, h35]
      go_simp
      exact hK _ _ ⟨_, rfl, by simp only [over, overL, Nat.reduceAdd, h35]; rfl, Below.refl _ _⟩
    · intro f wr hb ⟨h41, _⟩ K hK
      have h41 : f 41 = _ := h41
      simp only [over, overL, Nat.reduceAdd, h41]
      go_simp
      exact hK _ _ ⟨_, rfl, by simp only [over, overL, Nat.reduceAdd, h41]; rfl, Below.refl _ _⟩
    · intro f wr hb ⟨h42, _⟩ K hK
      have h42 : f 42 = _ := h42
      simp only [over, overL, Nat.reduceAdd, h42]
      go_simp
      exact hK _ _ ⟨_, rfl, by simp only [over, overL, Nat.reduceAdd, h42]; rfl, Below.refl _ _⟩
  intro f5 w5 hn h
  have hs12 : f5 12 = .int .i64 (0) := h.2.2.2.2.2.2.2.2.1
  have hs13 : f5 13 = .int .i64 (r) := h.2.2.2.2.2.2.2.2.2.1
  clear al a0 a1 a2 a3 a4 a5 af0 af1 af2 af3 af4 af5 pl p0 p1 p2
  have HB5 : Hid (Below w.heap.size w w5) := HB4.out.trans (hn.mono HB4.out.size)
  have Ka5 : Hid (Bf (w.heap.size) (a) w5) := Ka4.out.later hn
  have Kp5 : Hid (Pf (w.heap.size + 1) (p) w5) := Kp4.out.later hn
  clear h hn
  simp only [over_eq, overL, Nat.reduceAdd, List.drop_succ_cons, List.drop_zero, hs12, hs13]
  clear hs12 hs13
  go_wp2_with fail
  refine (BoxesMay_r ao cap l r HR.out w5 (HL.out.next HB5.out) hll).mono ?_
  rintro e w6 ⟨rfl, hb6⟩
  have hal : Below w5.heap.size w5 w5 := (Below.refl _ _)
  have hn : Below w5.heap.size w5 w6 := hal.trans (hb6.mono hal.size)
  have HB6 : Hid (Below w.heap.size w w6) := HB5.out.trans (hn.mono HB5.out.size)
  have Ka6 : Hid (Bf (w.heap.size) (a) w6) := Ka5.out.later hn
  have Kp6 : Hid (Pf (w.heap.size + 1) (p) w6) := Kp5.out.later hn
  clear hal hn hb6
  go_wp2
  go_ret
  exact ⟨by simp, HB6.out⟩
end Go.Proofs.Ytiafcgbohckmmaa
