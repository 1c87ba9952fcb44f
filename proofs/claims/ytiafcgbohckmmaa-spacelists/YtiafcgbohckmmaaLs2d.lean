/- The law SpaceLists: case d. -/
import Derived.Test.YtiafcgbohckmmaaLsBase
namespace Go.Proofs.Ytiafcgbohckmmaa
open Go.RowKit

set_option linter.unusedVariables false in
set_option maxHeartbeats 12800000 in
set_option maxRecDepth 100000 in
theorem ls_2d (ao : Option Addr) (cap : Nat) (l : List Bx) (a : Bx) (p : Pt) (w : World) (hL : Bxs w ao l) (hn0 : ao = none → cap = 0) (hreach : l.length * 48 ≤ 140737488351232) (I J : Int) (hr : rlist l [] = 0) (hA : Apt l I J) (ha : bad1 a = 0) (hp : nearP p = true) (H : Int) (hH : Least l (wayX a p) (wayY a p) H) (hn : nearB (movB (endB a p) ⟨0, 0, H⟩) = true) : Calls Try.prog 4 #[.slice ao l.length cap, bv a, pv p] w fun e w' => e = .returned (.bool true) ∧ Below w.heap.size w w' := by
  have HL : Hid (Bxs w ao l) := hL
  have hll : l.length ≤ 9223372036854775807 := by omega
  clear hL
  have hl40 : l.length ≤ 40 := (rlist_zero.1 hr).1
  have HG : Hid (badL l = 0) := (rlist_zero.1 hr).2.1
  have HR : Hid (rlist l [] = 0) := hr
  have HAP : Hid (Apt l I J) := hA
  have HA : Hid (ApartIs l I J 0) := .inr ⟨hr, hA, rfl⟩
  have HBA : Hid (bad1 a = 0) := ha
  have e1 : rlist l [a] = 0 := by rw [rlist_one hr, ha]
  obtain ⟨i1, hi1⟩ : ∃ i1, firstI l a = i1 := ⟨_, rfl⟩
  have HFI : Hid (firstI l a = i1) := hi1
  have HF : Hid (firstR l a = (i1, 0)) := by show _ = _; unfold firstR; rw [e1, if_pos rfl, hi1]
  have HP : Hid (nearP p = true) := hp
  have HH : Hid (Least l (wayX a p) (wayY a p) H) := hH
  have HNB : Hid (nearB (movB (endB a p) ⟨0, 0, H⟩) = true) := hn
  have HS : Hid (SafeIs l a p H 0) := .inr (.inr ⟨e1, hp, H, hH, .inr ⟨hn, rfl, rfl⟩⟩)
  clear e1 hi1 ha hr hA hp hH hn
  have HB0 : Hid (Below w.heap.size w w) := Below.refl _ _
  go_enter Try.func4, Try.ntmps4
  go_wp2_with fail
  obtain ⟨w1, hw1⟩ : ∃ w1, w1 = ((w.alloc (bo (a))).alloc (po (p))) := ⟨_, rfl⟩
  have hal : Below w.heap.size w w1 := by rw [hw1]; exact (below_grow _ (Nat.le_refl _) (below_grow _ (Nat.le_refl _) (Below.refl _ _) _) _)
  have HB1 : Hid (Below w.heap.size w w1) := HB0.out.trans (hal.mono HB0.out.size)
  have Ka1 : Hid (Bf (w.heap.size) (a) w1) := by
    have h : Bf _ (a) ((w.alloc (bo (a))).alloc (po (p))) := (Bf.new w (a)).later (below_grow _ (Nat.le_refl _) (Below.refl _ _) _)
    rw [← hw1] at h
    show Bf _ _ _
    simpa using h
  have Kp1 : Hid (Pf (w.heap.size + 1) (p) w1) := by
    have h : Pf _ (p) ((w.alloc (bo (a))).alloc (po (p))) := (Pf.new (w.alloc (bo (a))) (p)).later (Below.refl _ _)
    rw [← hw1] at h
    show Pf _ _ _
    simpa using h
  rw [← hw1]
  clear hw1 hal
  obtain ⟨⟨al, a0, a1, a2, a3, a4, a5⟩, af0, af1, af2, af3, af4, af5⟩ := Ka1.out
  simp only [Nat.zero_add] at a1 a2 a3 a4 a5
  refine region_seqE 9 [false, false, false, false, false, false, false, true, true, false, false, false, false, false, false, false, false, false, false, false, false, true, true, true, true, true, true, true, false, false, false, false, false, false, false, false, false, false, false, false, false, false, false, false, false, false, false, false, false, false, false, false, false, false, false, false, false, false, false, false, false, false, false, false, false, false, false, false, false, false, false, false, false, false, false, false, false, false, false, false, false, false, false, false, false, false, false, false, false, false, false, false, false, false, false, false, false, false, false, false, false, false, false, false, false, false, false, false, false, false, false, false, false, false, false, false, false, false, false, false, false, false, false, false, false, false, false, false, false, false, false, false, false, false, false, false, false, false, false, false, false, false, false, false, false, false, false, false, false, false, false, false, false, false, false, false, false, false, false, false, false, false, false, false, false, false, false, false, false, false, false, false, false, false, false, false, false, false, false, false, false]
    [(22, [], none), (23, [22], none), (24, [], none), (25, [23, 24], none), (21, [25], none), (26, [21], none), (27, [21], none), (7, [26], none), (8, [27], none)]
    (ls1V l a i1 0 ao cap) (by kernel_rfl) (by kernel_rfl) (by kernel_rfl) (by kernel_rfl) (by kernel_rfl) (by decide) (ls1V_mono l a i1 0 ao cap) ?_ ?_
  · refine ⟨?_, ?_, ?_, ?_, ?_, ?_, ?_, ?_, ?_, trivial⟩
    · intro f wr hb _ K hK
      simp only [over, overL, Nat.reduceAdd]
      go_simp
      exact hK _ _ ⟨_, rfl, by simp only [over, overL, Nat.reduceAdd]; rfl, Below.refl _ _⟩
    · intro f wr hb ⟨h22, _⟩ K hK
      have h22 : f 22 = _ := h22
      simp only [over, overL, Nat.reduceAdd, h22]
      go_simp
      refine (boxes_any ao cap l wr (HL.out.next (HB1.out.trans (hb.mono HB1.out.size))) hn0 hreach).mono ?_
      rintro e w9 ⟨u, rfl, hu, hbn⟩
      exact hK _ _ ⟨_, hu, by simp only [over, overL, Nat.reduceAdd, h22]; rfl, hbn⟩
    · intro f wr hb _ K hK
      have ca0 := cell_later hb a0
      have ca1 := cell_later hb a1
      have ca2 := cell_later hb a2
      have ca3 := cell_later hb a3
      have ca4 := cell_later hb a4
      have ca5 := cell_later hb a5
      simp only [over, overL, Nat.reduceAdd]
      go_simp
      exact hK _ _ ⟨_, rfl, by simp only [over, overL, Nat.reduceAdd]; rfl, Below.refl _ _⟩
    · intro f wr hb ⟨h23, h24, _⟩ K hK
      have h24 : f 24 = _ := h24
      obtain ⟨ao2, cap2, ecp, hbx, hcp⟩ := (show IsCopy l (f 23) wr from h23)
      simp only [over, overL, Nat.reduceAdd, ecp, h24]
      go_simp
      refine (first_r ao2 cap2 l a i1 0 HF.out hll wr hbx).mono ?_
      rintro e w9 ⟨rfl, hbn⟩
      exact hK _ _ ⟨_, rfl, by simp only [over, overL, Nat.reduceAdd, ecp, h24]; rfl, hbn⟩
    · intro f wr hb ⟨h25, _⟩ K hK
      have h25 : f 25 = _ := h25
      simp only [over, overL, Nat.reduceAdd, h25]
      go_simp
      exact hK _ _ ⟨_, rfl, by simp only [over, overL, Nat.reduceAdd, h25]; rfl, Below.refl _ _⟩
    · intro f wr hb ⟨h21, _⟩ K hK
      have h21 : f 21 = _ := h21
      simp only [over, overL, Nat.reduceAdd, h21]
      go_simp
      exact hK _ _ ⟨_, rfl, by simp only [over, overL, Nat.reduceAdd, h21]; rfl, Below.refl _ _⟩
    · intro f wr hb ⟨h21, _⟩ K hK
      have h21 : f 21 = _ := h21
      simp only [over, overL, Nat.reduceAdd, h21]
      go_simp
      exact hK _ _ ⟨_, rfl, by simp only [over, overL, Nat.reduceAdd, h21]; rfl, Below.refl _ _⟩
    · intro f wr hb ⟨h26, _⟩ K hK
      have h26 : f 26 = _ := h26
      simp only [over, overL, Nat.reduceAdd, h26]
      go_simp
      exact hK _ _ ⟨_, rfl, by simp only [over, overL, Nat.reduceAdd, h26]; rfl, Below.refl _ _⟩
    · intro f wr hb ⟨h27, _⟩ K hK
      have h27 : f 27 = _ := h27
      simp only [over, overL, Nat.reduceAdd, h27]
      go_simp
      exact hK _ _ ⟨_, rfl, by simp only [over, overL, Nat.reduceAdd, h27]; rfl, Below.refl _ _⟩
  intro f2 w2 hn h
  have hs7 : f2 7 = .int .i64 (i1) := h.2.2.2.2.2.2.2.1
  have hs8 : f2 8 = .int .i64 (0) := h.2.2.2.2.2.2.2.2.1
  clear al a0 a1 a2 a3 a4 a5 af0 af1 af2 af3 af4 af5
  have HB2 : Hid (Below w.heap.size w w2) := HB1.out.trans (hn.mono HB1.out.size)
  have Ka2 : Hid (Bf (w.heap.size) (a) w2) := Ka1.out.later hn
  have Kp2 : Hid (Pf (w.heap.size + 1) (p) w2) := Kp1.out.later hn
  clear h hn
  simp only [over_eq, overL, Nat.reduceAdd, List.drop_succ_cons, List.drop_zero, hs7, hs8]
  clear hs7 hs8
  go_wp2_with fail
  refine (boxes_any ao cap l w2 (HL.out.next HB2.out) hn0 hreach).mono ?_
  rintro e w3 ⟨u, rfl, hu, hb3⟩
  have hal : Below w2.heap.size w2 w2 := (Below.refl _ _)
  have hn : Below w2.heap.size w2 w3 := hal.trans (hb3.mono hal.size)
  have HB3 : Hid (Below w.heap.size w w3) := HB2.out.trans (hn.mono HB2.out.size)
  have Ka3 : Hid (Bf (w.heap.size) (a) w3) := Ka2.out.later hn
  have Kp3 : Hid (Pf (w.heap.size + 1) (p) w3) := Kp2.out.later hn
  clear hal hn hb3
  obtain ⟨ao2, cap2, rfl, hbx2, hcp2⟩ := hu
  have HX2 : Hid (Bxs w3 ao2 l) := hbx2
  clear hbx2
  go_wp2_with fail
  refine (apart_r ao2 cap2 l I J 0 HA.out hll w3 HX2.out hcp2).mono ?_
  rintro e w4 ⟨rfl, hb4⟩
  have hal : Below w3.heap.size w3 w3 := (Below.refl _ _)
  have hn : Below w3.heap.size w3 w4 := hal.trans (hb4.mono hal.size)
  have HB4 : Hid (Below w.heap.size w w4) := HB3.out.trans (hn.mono HB3.out.size)
  have Ka4 : Hid (Bf (w.heap.size) (a) w4) := Ka3.out.later hn
  have Kp4 : Hid (Pf (w.heap.size + 1) (p) w4) := Kp3.out.later hn
  clear hal hn hb4
  obtain ⟨⟨al, a0, a1, a2, a3, a4, a5⟩, af0, af1, af2, af3, af4, af5⟩ := Ka4.out
  simp only [Nat.zero_add] at a1 a2 a3 a4 a5
  obtain ⟨pl, p0, p1, p2⟩ := Kp4.out
  go_wp2_with fail
  refine region_seqE 10 [false, false, false, false, false, false, false, false, false, false, false, false, true, true, false, false, false, false, false, false, false, false, false, false, false, false, false, false, false, false, false, false, false, false, false, true, true, true, true, true, true, true, true, false, false, false, false, false, false, false, false, false, false, false, false, false, false, false, false, false, false, false, false, false, false, false, false, false, false, false, false, false, false, false, false, false, false, false, false, false, false, false, false, false, false, false, false, false, false, false, false, false, false, false, false, false, false, false, false, false, false, false, false, false, false, false, false, false, false, false, false, false, false, false, false, false, false, false, false, false, false, false, false, false, false, false, false, false, false, false, false, false, false, false, false, false, false, false, false, false, false, false, false, false, false, false, false, false, false, false, false, false, false, false, false, false, false, false, false, false, false, false, false, false, false, false, false, false, false, false, false, false, false, false, false, false, false, false, false, false, false]
    [(36, [], none), (37, [36], none), (38, [], none), (39, [], none), (40, [37, 38, 39], none), (35, [40], none), (41, [35], none), (42, [35], none), (12, [41], none), (13, [42], none)]
    (ls3V l a p H 0 ao cap) (by kernel_rfl) (by kernel_rfl) (by kernel_rfl) (by kernel_rfl) (by kernel_rfl) (by decide) (ls3V_mono l a p H 0 ao cap) ?_ ?_
  · refine ⟨?_, ?_, ?_, ?_, ?_, ?_, ?_, ?_, ?_, ?_, trivial⟩
    · intro f wr hb _ K hK
      simp only [over, overL, Nat.reduceAdd]
      go_simp
      exact hK _ _ ⟨_, rfl, by simp only [over, overL, Nat.reduceAdd]; rfl, Below.refl _ _⟩
    · intro f wr hb ⟨h36, _⟩ K hK
      have h36 : f 36 = _ := h36
      simp only [over, overL, Nat.reduceAdd, h36]
      go_simp
      refine (boxes_any ao cap l wr (HL.out.next (HB4.out.trans (hb.mono HB4.out.size))) hn0 hreach).mono ?_
      rintro e w9 ⟨u, rfl, hu, hbn⟩
      exact hK _ _ ⟨_, hu, by simp only [over, overL, Nat.reduceAdd, h36]; rfl, hbn⟩
    · intro f wr hb _ K hK
      have ca0 := cell_later hb a0
      have ca1 := cell_later hb a1
      have ca2 := cell_later hb a2
      have ca3 := cell_later hb a3
      have ca4 := cell_later hb a4
      have ca5 := cell_later hb a5
      simp only [over, overL, Nat.reduceAdd]
      go_simp
      exact hK _ _ ⟨_, rfl, by simp only [over, overL, Nat.reduceAdd]; rfl, Below.refl _ _⟩
    · intro f wr hb _ K hK
      have cp0 := cell_later hb p0
      have cp1 := cell_later hb p1
      have cp2 := cell_later hb p2
      simp only [over, overL, Nat.reduceAdd]
      go_simp
      exact hK _ _ ⟨_, rfl, by simp only [over, overL, Nat.reduceAdd]; rfl, Below.refl _ _⟩
    · intro f wr hb ⟨h37, h38, h39, _⟩ K hK
      have h38 : f 38 = _ := h38
      have h39 : f 39 = _ := h39
      obtain ⟨ao2, cap2, ecp, hbx, hcp⟩ := (show IsCopy l (f 37) wr from h37)
      simp only [over, overL, Nat.reduceAdd, ecp, h38, h39]
      go_simp
      refine (safe_r ao2 cap2 l a p H 0 HS.out hll wr hbx).mono ?_
      rintro e w9 ⟨rfl, hbn⟩
      exact hK _ _ ⟨_, rfl, by simp only [over, overL, Nat.reduceAdd, ecp, h38, h39]; rfl, hbn⟩
    · intro f wr hb ⟨h40, _⟩ K hK
      have h40 : f 40 = _ := h40
      simp only [over, overL, Nat.reduceAdd, h40]
      go_simp
      exact hK _ _ ⟨_, rfl, by simp only [over, overL, Nat.reduceAdd, h40]; rfl, Below.refl _ _⟩
    · intro f wr hb ⟨h35, _⟩ K hK
      have h35 : f 35 = _ := h35
      simp only [over, overL, Nat.reduceAdd, h35]
      go_simp
      exact hK _ _ ⟨_, rfl, by simp only [over, overL, Nat.reduceAdd, h35]; rfl, Below.refl _ _⟩
    · intro f wr hb ⟨h35, _⟩ K hK
      have h35 : f 35 = _ := h35
      simp only [over, overL, Nat.reduceAdd, h35]
      go_simp
      exact hK _ _ ⟨_, rfl, by simp only [over, overL, Nat.reduceAdd, h35]; rfl, Below.refl _ _⟩
    · intro f wr hb ⟨h41, _⟩ K hK
      have h41 : f 41 = _ := h41
      simp only [over, overL, Nat.reduceAdd, h41]
      go_simp
      exact hK _ _ ⟨_, rfl, by simp only [over, overL, Nat.reduceAdd, h41]; rfl, Below.refl _ _⟩
    · intro f wr hb ⟨h42, _⟩ K hK
      have h42 : f 42 = _ := h42
      simp only [over, overL, Nat.reduceAdd, h42]
      go_simp
      exact hK _ _ ⟨_, rfl, by simp only [over, overL, Nat.reduceAdd, h42]; rfl, Below.refl _ _⟩
  intro f5 w5 hn h
  have hs12 : f5 12 = .int .i64 (H) := h.2.2.2.2.2.2.2.2.1
  have hs13 : f5 13 = .int .i64 (0) := h.2.2.2.2.2.2.2.2.2.1
  clear al a0 a1 a2 a3 a4 a5 af0 af1 af2 af3 af4 af5 pl p0 p1 p2
  have HB5 : Hid (Below w.heap.size w w5) := HB4.out.trans (hn.mono HB4.out.size)
  have Ka5 : Hid (Bf (w.heap.size) (a) w5) := Ka4.out.later hn
  have Kp5 : Hid (Pf (w.heap.size + 1) (p) w5) := Kp4.out.later hn
  clear h hn
  simp only [over_eq, overL, Nat.reduceAdd, List.drop_succ_cons, List.drop_zero, hs12, hs13]
  clear hs12 hs13
  go_wp2_with fail
  refine (BoxesMay_r ao cap l 0 HR.out w5 (HL.out.next HB5.out) hll).mono ?_
  rintro e w6 ⟨rfl, hb6⟩
  have hal : Below w5.heap.size w5 w5 := (Below.refl _ _)
  have hn : Below w5.heap.size w5 w6 := hal.trans (hb6.mono hal.size)
  have HB6 : Hid (Below w.heap.size w w6) := HB5.out.trans (hn.mono HB5.out.size)
  have Ka6 : Hid (Bf (w.heap.size) (a) w6) := Ka5.out.later hn
  have Kp6 : Hid (Pf (w.heap.size + 1) (p) w6) := Kp5.out.later hn
  clear hal hn hb6
  go_wp2_with fail
  go_loopw [15, 16, 17] (fun sx sy sp wr => ∃ (n : Nat) (X Y : Int), sx = .int .i64 X ∧ sy = .int .i64 Y ∧ sp = .int .i64 n ∧ n ≤ l.length ∧ LsI l I J n X Y ∧ Below w6.heap.size w6 wr) (fun _ _ sp _ => l.length - (intOf sp).toNat)
  case atStart => exact ⟨0, -1, -1, rfl, rfl, rfl, Nat.zero_le _, .inl ⟨rfl, rfl, fun p q hp hq h => absurd h (Nat.not_lt_zero _)⟩, Below.refl _ _⟩
  case round =>
    obtain ⟨n, X, Y, rfl, rfl, rfl, hn, hI, hb⟩ := hrel
    obtain ⟨wo, rfl⟩ : ∃ wo, wo = wr := ⟨_, rfl⟩
    have HB : Hid (Below w6.heap.size w6 wo) := hb
    clear hb
    have hw1 : IntKind.i64.wrap ((n : Int) + 1) = (n : Int) + 1 := wrap_is (by omega) (by omega)
    rcases hI with ⟨rfl, rfl, hno⟩ | ⟨rfl, rfl, h0⟩
    · have HNO : Hid (NoPair l n) := hno
      clear hno
      by_cases hlt : n < l.length
      · have dl : decide ((n : Int) < (l.length : Int)) = true := by simp; omega
        go_wp2_with fail
        go_loopw [15, 16, 18] (fun sx sy sq wr => ∃ (q : Nat) (X Y : Int), sx = .int .i64 X ∧ sy = .int .i64 Y ∧ sq = .int .i64 q ∧ n < q ∧ q ≤ l.length ∧ LsJ l I J n hlt q X Y ∧ Below w6.heap.size w6 wr) (fun _ _ sq _ => l.length - (intOf sq).toNat)
        case atStart => exact ⟨n + 1, -1, -1, rfl, rfl, by go_num, by omega, by omega, .inl ⟨rfl, rfl, fun q' h1 h2 => by omega⟩, HB.out⟩
        case round =>
          obtain ⟨q, X, Y, rfl, rfl, rfl, hnq, hq, hJ, hb⟩ := hrel
          have HB2 : Hid (Below w6.heap.size w6 wr) := hb
          clear hb
          have hw2 : IntKind.i64.wrap ((q : Int) + 1) = (q : Int) + 1 := wrap_is (by omega) (by omega)
          rcases hJ with ⟨rfl, rfl, hnn⟩ | ⟨rfl, rfl, h0⟩
          · by_cases hlq : q < l.length
            · have dq : decide ((q : Int) < (l.length : Int)) = true := by simp; omega
              have HFound : Hid (meet (l[n]'hlt) (l[q]'hlq) = true → I = (n : Int) ∧ J = (q : Int)) := fun hm => HAP.out.unique (pair_found hnq hlq HNO.out (fun q' h1 h2 => hnn q' (by omega) h1 h2) hm)
              have HNext : Hid (meet (l[n]'hlt) (l[q]'hlq) = false → ∀ q' (h : q' < l.length), q' < q + 1 → n < q' → meet (l[n]'hlt) (l[q']'h) = false) := fun hm q' h h1 h2 => by
                by_cases e : q' = q
                · subst e; exact hm
                · exact hnn q' h (by omega) h2
              obtain ⟨b, off, rfl, hbn⟩ := ((HL.out.next HB6.out).next HB2.out).at hlt
              obtain ⟨b2, off2, eb, hbq⟩ := ((HL.out.next HB6.out).next HB2.out).at hlq
              simp only [Option.some.injEq, Addr.mk.injEq, and_true] at eb
              obtain ⟨rfl, rfl⟩ := eb
              obtain ⟨c, hc⟩ : ∃ c, l[n]'hlt = c := ⟨_, rfl⟩
              obtain ⟨d, hd⟩ : ∃ d, l[q]'hlq = d := ⟨_, rfl⟩
              rw [hc] at hbn
              rw [hd] at hbq
              have HC : Hid (l[n]'hlt = c ∧ l[q]'hlq = d) := ⟨hc, hd⟩
              clear hc hd hnn
              obtain ⟨_, c0, c1, c2, c3, c4, c5⟩ := hbn
              obtain ⟨_, d0, d1, d2, d3, d4, d5⟩ := hbq
              have hni : (n : Int) < (l.length : Int) := by omega
              have hqi : (q : Int) < (l.length : Int) := by omega
              go_wp2_with fail
              refine region_inv [false, false, false, false, false, false, false, false, false, false, false, false, false, false, false, false, false, false, false, false, false, false, false, false, false, false, false, false, false, false, false, false, false, false, false, false, false, false, false, false, false, false, false, false, false, false, false, false, false, false, false, false, false, false, false, false, false, false, false, false, false, false, false, false, false, false, false, false, false, false, false, false, false, false, false, false, false, false, false, false, false, false, false, false, false, false, false, false, false, false, false, false, false, false, false, false, false, false, true, true, true, true, true, true, true, true, true, false, false, false, false, false, false, false, false, false, false, false, false, false, false, false, false, false, false, false, false, false, false, false, false, false, false, false, false, false, false, false, false, false, false, false, false, false, false, false, false, false, false, false, false, false, false, false, false, false, false, false, false, false, false, false, false, false, false, false, false, false, false, false, false, false, false, false, false, false, false, false, false, false, false]
                [(98, [], none), (99, [], none), (100, [98, 99], none), (101, [100], none), (102, [], none), (103, [], none), (104, [102, 103], none), (105, [104], none), (106, [101, 105], none)]
                (ls14V l.length cap b off n q c d) (by kernel_rfl) (by kernel_rfl) (fun _ _ _ _ h _ => h) ?_ ?_
              · refine ⟨?_, ?_, ?_, ?_, ?_, ?_, ?_, ?_, ?_, trivial⟩
                · intro f wr hb _ K hK
                  simp only [over, overL, Nat.reduceAdd]
                  go_simp
                  exact hK _ _ ⟨_, rfl, by simp only [over, overL, Nat.reduceAdd]; rfl, Below.refl _ _⟩
                · intro f wr hb _ K hK
                  simp only [over, overL, Nat.reduceAdd]
                  go_simp
                  exact hK _ _ ⟨_, rfl, by simp only [over, overL, Nat.reduceAdd]; rfl, Below.refl _ _⟩
                · intro f wr hb ⟨h98, h99, _⟩ K hK
                  have h98 : f 98 = _ := h98
                  have h99 : f 99 = _ := h99
                  simp only [over, overL, Nat.reduceAdd, h98, h99]
                  go_simp
                  exact hK _ _ ⟨_, rfl, by simp only [over, overL, Nat.reduceAdd, h98, h99]; rfl, Below.refl _ _⟩
                · intro f wr hb ⟨h100, _⟩ K hK
                  have h100 : f 100 = _ := h100
                  have cc0 := cell_later hb c0
                  have cc1 := cell_later hb c1
                  have cc2 := cell_later hb c2
                  have cc3 := cell_later hb c3
                  have cc4 := cell_later hb c4
                  have cc5 := cell_later hb c5
                  simp only [over, overL, Nat.reduceAdd, h100]
                  go_simp
                  exact hK _ _ ⟨_, rfl, by simp only [over, overL, Nat.reduceAdd, h100]; rfl, Below.refl _ _⟩
                · intro f wr hb _ K hK
                  simp only [over, overL, Nat.reduceAdd]
                  go_simp
                  exact hK _ _ ⟨_, rfl, by simp only [over, overL, Nat.reduceAdd]; rfl, Below.refl _ _⟩
                · intro f wr hb _ K hK
                  simp only [over, overL, Nat.reduceAdd]
                  go_simp
                  exact hK _ _ ⟨_, rfl, by simp only [over, overL, Nat.reduceAdd]; rfl, Below.refl _ _⟩
                · intro f wr hb ⟨h102, h103, _⟩ K hK
                  have h102 : f 102 = _ := h102
                  have h103 : f 103 = _ := h103
                  simp only [over, overL, Nat.reduceAdd, h102, h103]
                  go_simp
                  exact hK _ _ ⟨_, rfl, by simp only [over, overL, Nat.reduceAdd, h102, h103]; rfl, Below.refl _ _⟩
                · intro f wr hb ⟨h104, _⟩ K hK
                  have h104 : f 104 = _ := h104
                  have cd0 := cell_later hb d0
                  have cd1 := cell_later hb d1
                  have cd2 := cell_later hb d2
                  have cd3 := cell_later hb d3
                  have cd4 := cell_later hb d4
                  have cd5 := cell_later hb d5
                  simp only [over, overL, Nat.reduceAdd, h104]
                  go_simp
                  exact hK _ _ ⟨_, rfl, by simp only [over, overL, Nat.reduceAdd, h104]; rfl, Below.refl _ _⟩
                · intro f wr hb ⟨h101, h105, _⟩ K hK
                  have h101 : f 101 = _ := h101
                  have h105 : f 105 = _ := h105
                  simp only [over, overL, Nat.reduceAdd, h101, h105]
                  go_simp
                  refine (BoxMeet_any c d wr).mono ?_
                  rintro e w9 ⟨rfl, hbn⟩
                  exact hK _ _ ⟨_, rfl, by simp only [over, overL, Nat.reduceAdd, h101, h105]; rfl, hbn⟩
              intro f w7 hb7 h
              have h106 : f 106 = .bool (meet c d) := h.2.2.2.2.2.2.2.2.1
              have HB7 : Hid (Below w6.heap.size w6 w7) := HB2.out.trans (hb7.mono HB2.out.size)
              clear c0 c1 c2 c3 c4 c5 d0 d1 d2 d3 d4 d5 hb7 h
              simp only [over_eq, overL, Nat.reduceAdd, h106]
              clear h106
              cases hm : meet c d with
              | true =>
                have HE := (show Hid _ from HFound.out (by rw [HC.out.1, HC.out.2]; exact hm))
                go_wp2
                go_roundw
                case rel => exact ⟨q + 1, n, q, rfl, rfl, by go_num, by omega, by omega, .inr ⟨HE.out.1.symm, HE.out.2.symm, by rw [HE.out.1]; omega⟩, HB7.out⟩
                case measure => simp [intOf]; omega
              | false =>
                have HE := (show Hid _ from HNext.out (by rw [HC.out.1, HC.out.2]; exact hm))
                go_wp2
                go_roundw
                case rel => exact ⟨q + 1, -1, -1, rfl, rfl, by go_num, by omega, by omega, .inl ⟨rfl, rfl, fun q' h h1 h2 => HE.out q' h h1 h2⟩, HB7.out⟩
                case measure => simp [intOf]; omega
            · have dq : decide ((q : Int) < (l.length : Int)) = false := by simp; omega
              have HNX : Hid (NoPair l (n + 1)) := pair_next hlt HNO.out fun q' h1 h2 => hnn q' h1 (by omega) h2
              clear hnn
              go_wp2
              go_roundw
              case rel => exact ⟨n + 1, -1, -1, rfl, rfl, by go_num, by omega, .inl ⟨rfl, rfl, HNX.out⟩, HB2.out⟩
              case measure => simp [intOf]; omega
          · have dx : decide (X < 0) = false := by simp; omega
            by_cases hlq : q < l.length
            · have dq : decide ((q : Int) < (l.length : Int)) = true := by simp; omega
              go_wp2
              go_roundw
              case rel => exact ⟨n + 1, _, _, rfl, rfl, by go_num, by omega, .inr ⟨rfl, rfl, h0⟩, HB2.out⟩
              case measure => simp [intOf]; omega
            · have dq : decide ((q : Int) < (l.length : Int)) = false := by simp; omega
              go_wp2
              go_roundw
              case rel => exact ⟨n + 1, _, _, rfl, rfl, by go_num, by omega, .inr ⟨rfl, rfl, h0⟩, HB2.out⟩
              case measure => simp [intOf]; omega
      · have dl : decide ((n : Int) < (l.length : Int)) = false := by simp; omega
        have HE : Hid (I = -1 ∧ J = -1) := HAP.out.unique (pair_end (by rw [show l.length = n by omega]; exact HNO.out))
        rw [HE.out.1, HE.out.2]
        have HB40 : Hid (Below w.heap.size w wo) := HB6.out.trans (HB.out.mono HB6.out.size)
        have Ka40 : Hid (Bf w.heap.size a wo) := Ka6.out.later HB.out
        have Kp40 : Hid (Pf (w.heap.size + 1) p wo) := Kp6.out.later HB.out
        obtain ⟨⟨al, a0, a1, a2, a3, a4, a5⟩, af0, af1, af2, af3, af4, af5⟩ := Ka40.out
        simp only [Nat.zero_add] at a1 a2 a3 a4 a5
        go_wp2_with fail
        refine (BoxMay_r a 0 HBA.out _).mono ?_
        rintro e w41 ⟨rfl, hb41⟩
        clear al a0 a1 a2 a3 a4 a5 af0 af1 af2 af3 af4 af5
        have hal : Below wo.heap.size wo wo := (Below.refl _ _)
        have hn : Below wo.heap.size wo w41 := hal.trans (hb41.mono hal.size)
        have HB41 : Hid (Below w.heap.size w w41) := HB40.out.trans (hn.mono HB40.out.size)
        have Ka41 : Hid (Bf (w.heap.size) (a) w41) := Ka40.out.later hn
        have Kp41 : Hid (Pf (w.heap.size + 1) (p) w41) := Kp40.out.later hn
        clear hal hn hb41
        obtain ⟨⟨al, a0, a1, a2, a3, a4, a5⟩, af0, af1, af2, af3, af4, af5⟩ := Ka41.out
        simp only [Nat.zero_add] at a1 a2 a3 a4 a5
        go_wp2_with fail
        refine (BoxFirst_r ao cap l a i1 HFI.out w41 (HL.out.next HB41.out) hl40).mono ?_
        rintro e w42 ⟨rfl, hb42⟩
        clear al a0 a1 a2 a3 a4 a5 af0 af1 af2 af3 af4 af5
        have hal : Below w41.heap.size w41 w41 := (Below.refl _ _)
        have hn : Below w41.heap.size w41 w42 := hal.trans (hb42.mono hal.size)
        have HB42 : Hid (Below w.heap.size w w42) := HB41.out.trans (hn.mono HB41.out.size)
        have Ka42 : Hid (Bf (w.heap.size) (a) w42) := Ka41.out.later hn
        have Kp42 : Hid (Pf (w.heap.size + 1) (p) w42) := Kp41.out.later hn
        clear hal hn hb42
        obtain ⟨pl, p0, p1, p2⟩ := Kp42.out
        go_wp2_with fail
        refine (PointMay_r p true HP.out _).mono ?_
        rintro e w43 ⟨rfl, hb43⟩
        clear pl p0 p1 p2
        have hal : Below w42.heap.size w42 w42 := (Below.refl _ _)
        have hn : Below w42.heap.size w42 w43 := hal.trans (hb43.mono hal.size)
        have HB43 : Hid (Below w.heap.size w w43) := HB42.out.trans (hn.mono HB42.out.size)
        have Ka43 : Hid (Bf (w.heap.size) (a) w43) := Ka42.out.later hn
        have Kp43 : Hid (Pf (w.heap.size + 1) (p) w43) := Kp42.out.later hn
        clear hal hn hb43
        obtain ⟨⟨al, a0, a1, a2, a3, a4, a5⟩, af0, af1, af2, af3, af4, af5⟩ := Ka43.out
        simp only [Nat.zero_add] at a1 a2 a3 a4 a5
        obtain ⟨pl, p0, p1, p2⟩ := Kp43.out
        go_wp2_with fail
        refine (bsafe_r ao cap l a p H true w43 (HL.out.next HB43.out) hl40 HG.out HBA.out HP.out HH.out HNB.out).mono ?_
        rintro e w44 ⟨rfl, hb44⟩
        clear al a0 a1 a2 a3 a4 a5 af0 af1 af2 af3 af4 af5 pl p0 p1 p2
        have hal : Below w43.heap.size w43 w43 := (Below.refl _ _)
        have hn : Below w43.heap.size w43 w44 := hal.trans (hb44.mono hal.size)
        have HB44 : Hid (Below w.heap.size w w44) := HB43.out.trans (hn.mono HB43.out.size)
        have Ka44 : Hid (Bf (w.heap.size) (a) w44) := Ka43.out.later hn
        have Kp44 : Hid (Pf (w.heap.size + 1) (p) w44) := Kp43.out.later hn
        clear hal hn hb44
        go_wp2
        go_ret
        exact ⟨by simp, HB44.out⟩
    · have dx : decide (X < 0) = false := by simp; omega
      by_cases hlt : n < l.length
      · have dl : decide ((n : Int) < (l.length : Int)) = true := by simp; omega
        have HB40 : Hid (Below w.heap.size w wo) := HB6.out.trans (HB.out.mono HB6.out.size)
        have Ka40 : Hid (Bf w.heap.size a wo) := Ka6.out.later HB.out
        have Kp40 : Hid (Pf (w.heap.size + 1) p wo) := Kp6.out.later HB.out
        obtain ⟨⟨al, a0, a1, a2, a3, a4, a5⟩, af0, af1, af2, af3, af4, af5⟩ := Ka40.out
        simp only [Nat.zero_add] at a1 a2 a3 a4 a5
        go_wp2_with fail
        refine (BoxMay_r a 0 HBA.out _).mono ?_
        rintro e w41 ⟨rfl, hb41⟩
        clear al a0 a1 a2 a3 a4 a5 af0 af1 af2 af3 af4 af5
        have hal : Below wo.heap.size wo wo := (Below.refl _ _)
        have hn : Below wo.heap.size wo w41 := hal.trans (hb41.mono hal.size)
        have HB41 : Hid (Below w.heap.size w w41) := HB40.out.trans (hn.mono HB40.out.size)
        have Ka41 : Hid (Bf (w.heap.size) (a) w41) := Ka40.out.later hn
        have Kp41 : Hid (Pf (w.heap.size + 1) (p) w41) := Kp40.out.later hn
        clear hal hn hb41
        obtain ⟨⟨al, a0, a1, a2, a3, a4, a5⟩, af0, af1, af2, af3, af4, af5⟩ := Ka41.out
        simp only [Nat.zero_add] at a1 a2 a3 a4 a5
        go_wp2_with fail
        refine (BoxFirst_r ao cap l a i1 HFI.out w41 (HL.out.next HB41.out) hl40).mono ?_
        rintro e w42 ⟨rfl, hb42⟩
        clear al a0 a1 a2 a3 a4 a5 af0 af1 af2 af3 af4 af5
        have hal : Below w41.heap.size w41 w41 := (Below.refl _ _)
        have hn : Below w41.heap.size w41 w42 := hal.trans (hb42.mono hal.size)
        have HB42 : Hid (Below w.heap.size w w42) := HB41.out.trans (hn.mono HB41.out.size)
        have Ka42 : Hid (Bf (w.heap.size) (a) w42) := Ka41.out.later hn
        have Kp42 : Hid (Pf (w.heap.size + 1) (p) w42) := Kp41.out.later hn
        clear hal hn hb42
        obtain ⟨pl, p0, p1, p2⟩ := Kp42.out
        go_wp2_with fail
        refine (PointMay_r p true HP.out _).mono ?_
        rintro e w43 ⟨rfl, hb43⟩
        clear pl p0 p1 p2
        have hal : Below w42.heap.size w42 w42 := (Below.refl _ _)
        have hn : Below w42.heap.size w42 w43 := hal.trans (hb43.mono hal.size)
        have HB43 : Hid (Below w.heap.size w w43) := HB42.out.trans (hn.mono HB42.out.size)
        have Ka43 : Hid (Bf (w.heap.size) (a) w43) := Ka42.out.later hn
        have Kp43 : Hid (Pf (w.heap.size + 1) (p) w43) := Kp42.out.later hn
        clear hal hn hb43
        obtain ⟨⟨al, a0, a1, a2, a3, a4, a5⟩, af0, af1, af2, af3, af4, af5⟩ := Ka43.out
        simp only [Nat.zero_add] at a1 a2 a3 a4 a5
        obtain ⟨pl, p0, p1, p2⟩ := Kp43.out
        go_wp2_with fail
        refine (bsafe_r ao cap l a p H true w43 (HL.out.next HB43.out) hl40 HG.out HBA.out HP.out HH.out HNB.out).mono ?_
        rintro e w44 ⟨rfl, hb44⟩
        clear al a0 a1 a2 a3 a4 a5 af0 af1 af2 af3 af4 af5 pl p0 p1 p2
        have hal : Below w43.heap.size w43 w43 := (Below.refl _ _)
        have hn : Below w43.heap.size w43 w44 := hal.trans (hb44.mono hal.size)
        have HB44 : Hid (Below w.heap.size w w44) := HB43.out.trans (hn.mono HB43.out.size)
        have Ka44 : Hid (Bf (w.heap.size) (a) w44) := Ka43.out.later hn
        have Kp44 : Hid (Pf (w.heap.size + 1) (p) w44) := Kp43.out.later hn
        clear hal hn hb44
        go_wp2
        go_ret
        exact ⟨by simp, HB44.out⟩
      · have dl : decide ((n : Int) < (l.length : Int)) = false := by simp; omega
        have HB40 : Hid (Below w.heap.size w wo) := HB6.out.trans (HB.out.mono HB6.out.size)
        have Ka40 : Hid (Bf w.heap.size a wo) := Ka6.out.later HB.out
        have Kp40 : Hid (Pf (w.heap.size + 1) p wo) := Kp6.out.later HB.out
        obtain ⟨⟨al, a0, a1, a2, a3, a4, a5⟩, af0, af1, af2, af3, af4, af5⟩ := Ka40.out
        simp only [Nat.zero_add] at a1 a2 a3 a4 a5
        go_wp2_with fail
        refine (BoxMay_r a 0 HBA.out _).mono ?_
        rintro e w41 ⟨rfl, hb41⟩
        clear al a0 a1 a2 a3 a4 a5 af0 af1 af2 af3 af4 af5
        have hal : Below wo.heap.size wo wo := (Below.refl _ _)
        have hn : Below wo.heap.size wo w41 := hal.trans (hb41.mono hal.size)
        have HB41 : Hid (Below w.heap.size w w41) := HB40.out.trans (hn.mono HB40.out.size)
        have Ka41 : Hid (Bf (w.heap.size) (a) w41) := Ka40.out.later hn
        have Kp41 : Hid (Pf (w.heap.size + 1) (p) w41) := Kp40.out.later hn
        clear hal hn hb41
        obtain ⟨⟨al, a0, a1, a2, a3, a4, a5⟩, af0, af1, af2, af3, af4, af5⟩ := Ka41.out
        simp only [Nat.zero_add] at a1 a2 a3 a4 a5
        go_wp2_with fail
        refine (BoxFirst_r ao cap l a i1 HFI.out w41 (HL.out.next HB41.out) hl40).mono ?_
        rintro e w42 ⟨rfl, hb42⟩
        clear al a0 a1 a2 a3 a4 a5 af0 af1 af2 af3 af4 af5
        have hal : Below w41.heap.size w41 w41 := (Below.refl _ _)
        have hn : Below w41.heap.size w41 w42 := hal.trans (hb42.mono hal.size)
        have HB42 : Hid (Below w.heap.size w w42) := HB41.out.trans (hn.mono HB41.out.size)
        have Ka42 : Hid (Bf (w.heap.size) (a) w42) := Ka41.out.later hn
        have Kp42 : Hid (Pf (w.heap.size + 1) (p) w42) := Kp41.out.later hn
        clear hal hn hb42
        obtain ⟨pl, p0, p1, p2⟩ := Kp42.out
        go_wp2_with fail
        refine (PointMay_r p true HP.out _).mono ?_
        rintro e w43 ⟨rfl, hb43⟩
        clear pl p0 p1 p2
        have hal : Below w42.heap.size w42 w42 := (Below.refl _ _)
        have hn : Below w42.heap.size w42 w43 := hal.trans (hb43.mono hal.size)
        have HB43 : Hid (Below w.heap.size w w43) := HB42.out.trans (hn.mono HB42.out.size)
        have Ka43 : Hid (Bf (w.heap.size) (a) w43) := Ka42.out.later hn
        have Kp43 : Hid (Pf (w.heap.size + 1) (p) w43) := Kp42.out.later hn
        clear hal hn hb43
        obtain ⟨⟨al, a0, a1, a2, a3, a4, a5⟩, af0, af1, af2, af3, af4, af5⟩ := Ka43.out
        simp only [Nat.zero_add] at a1 a2 a3 a4 a5
        obtain ⟨pl, p0, p1, p2⟩ := Kp43.out
        go_wp2_with fail
        refine (bsafe_r ao cap l a p H true w43 (HL.out.next HB43.out) hl40 HG.out HBA.out HP.out HH.out HNB.out).mono ?_
        rintro e w44 ⟨rfl, hb44⟩
        clear al a0 a1 a2 a3 a4 a5 af0 af1 af2 af3 af4 af5 pl p0 p1 p2
        have hal : Below w43.heap.size w43 w43 := (Below.refl _ _)
        have hn : Below w43.heap.size w43 w44 := hal.trans (hb44.mono hal.size)
        have HB44 : Hid (Below w.heap.size w w44) := HB43.out.trans (hn.mono HB43.out.size)
        have Ka44 : Hid (Bf (w.heap.size) (a) w44) := Ka43.out.later hn
        have Kp44 : Hid (Pf (w.heap.size + 1) (p) w44) := Kp43.out.later hn
        clear hal hn hb44
        go_wp2
        go_ret
        exact ⟨by simp, HB44.out⟩
end Go.Proofs.Ytiafcgbohckmmaa
