/- space.Safe walked. -/
import Derived.Test.YtiafcgbohckmmaaLh
import Derived.Test.YtiafcgbohckmmaaHM
import Derived.Test.YtiafcgbohckmmaaMvBase
namespace Go.Proofs.Ytiafcgbohckmmaa
open Go.RowKit

def sf8V (ao : Option Addr) (n cap : Nat) (a k m : Bx) (H : Int) (d : Nat) (v : Value) (_w : World) : Prop :=
  match d with
  | 34 => v = .slice ao n cap
  | 35 => v = bv a
  | 36 => v = bv k
  | 37 => v = bv (hullB a k)
  | 38 => v = bv k
  | 39 => v = bv m
  | 40 => v = bv (hullB k m)
  | 41 => v = .int .i64 H
  | 11 => v = .int .i64 H
  | _ => True
/-- The corner, the end, both ways. -/
abbrev cornerB (a : Bx) (p : Pt) : Bx := movB a ⟨p.x, 0, 0⟩
abbrev endB (a : Bx) (p : Pt) : Bx := movB (cornerB a p) ⟨0, p.y, 0⟩
abbrev wayX (a : Bx) (p : Pt) : Bx := hullB a (cornerB a p)
abbrev wayY (a : Bx) (p : Pt) : Bx := hullB (cornerB a p) (endB a p)
/-- No number on the way is great. -/
structure SafeF (a : Bx) (p : Pt) : Prop where
  ka : SmB a
  kc : SmB (cornerB a p)
  ke : SmB (endB a p)
  kx : SmB (wayX a p)
  ky : SmB (wayY a p)
  px : SmP ⟨p.x, 0, 0⟩
  py : SmP ⟨0, p.y, 0⟩
  hz : (wayX a p).lz = (wayY a p).lz
  za : (wayX a p).lz = a.lz
  z0 : -10000000 ≤ (wayX a p).lz
  z1 : (wayX a p).lz ≤ 10000000
theorem safe_facts {a : Bx} {p : Pt} (ha : bad1 a = 0) (hp : nearP p = true) : SafeF a p := by
  have ha := bad1_iff.1 ha
  have hp := nearP_iff.1 hp
  refine ⟨?_, ?_, ?_, ?_, ?_, ?_, ?_, ?_, ?_, ?_, ?_⟩
  all_goals (simp only [SmB, SmP, cornerB, endB, wayX, wayY, movB, hullB]; omega)
theorem least_in {l : List Bx} {x y : Bx} {H : Int} (hg : badL l = 0) (h : Least l x y H) (z0 : -10000000 ≤ x.lz) (z1 : x.lz ≤ 10000000) : 0 ≤ H ∧ H ≤ 20000000 := by
  obtain ⟨h0, _, _, e | ⟨b, hb, e⟩⟩ := h
  · omega
  · have g := bad1_iff.1 (badL_zero.1 hg b hb)
    omega
theorem moved_r (a m : Bx) (p : Pt) (h : m = movB a p) (ha : SmB a) (hp : SmP p) (w : World) : Calls Try.prog 32 #[bv a, pv p] w fun e w' => e = .returned (bv m) ∧ Below w.heap.size w w' := by
  rw [h]; exact moved_any a p w ha hp
set_option maxHeartbeats 6400000 in
set_option maxRecDepth 100000 in
theorem safe_bad (ao : Option Addr) (cap : Nat) (l : List Bx) (a : Bx) (p : Pt) (w : World) (hL : Bxs w ao l) (hll : l.length ≤ 9223372036854775807) (hr : rlist l [a] ≠ 0) : Calls Try.prog 21 #[.slice ao l.length cap, bv a, pv p] w fun e w' => e = .returned (.tuple #[.int .i64 0, .int .i64 (rlist l [a])]) ∧ Below w.heap.size w w' := by
  have HL : Hid (Bxs w ao l) := hL
  clear hL
  have hne : (rlist l [a] != 0) = true := by simp [hr]
  clear hr
  have HB0 : Hid (Below w.heap.size w w) := Below.refl _ _
  go_enter Try.func21, Try.ntmps21
  go_wp2_with fail
  refine (refList1 ao cap l a _ rfl ((w.alloc (bo (a))).alloc (po (p))) (w.heap.size + 1 + 1) (by simp) (HL.out.next (below_grow _ (Nat.le_refl _) (below_grow _ (Nat.le_refl _) (Below.refl _ _) _) _)) hll).mono ?_
  rintro e w1 ⟨rfl, hb1⟩
  have hal : Below w.heap.size w (((w.alloc (bo (a))).alloc (po (p))).alloc (bo (a))) := (below_grow _ (Nat.le_refl _) (below_grow _ (Nat.le_refl _) (below_grow _ (Nat.le_refl _) (Below.refl _ _) _) _) _)
  have hn : Below w.heap.size w w1 := hal.trans (hb1.mono hal.size)
  have HB1 : Hid (Below w.heap.size w w1) := HB0.out.trans (hn.mono HB0.out.size)
  have Ka1 : Hid (Bf (w.heap.size) (a) w1) := by
    have h := ((Bf.new w (a)).later (below_grow _ (Nat.le_refl _) (below_grow _ (Nat.le_refl _) (Below.refl _ _) _) _)).later hb1
    show Bf _ _ _
    simpa using h
  have Kp1 : Hid (Pf (w.heap.size + 1) (p) w1) := by
    have h := ((Pf.new (w.alloc (bo (a))) (p)).later (below_grow _ (Nat.le_refl _) (Below.refl _ _) _)).later hb1
    show Pf _ _ _
    simpa using h
  clear hal hn hb1
  go_wp2
  go_ret2
  exact ⟨rfl, HB1.out⟩
set_option maxHeartbeats 6400000 in
set_option maxRecDepth 100000 in
theorem safe_far (ao : Option Addr) (cap : Nat) (l : List Bx) (a : Bx) (p : Pt) (w : World) (hL : Bxs w ao l) (hll : l.length ≤ 9223372036854775807) (hr : rlist l [a] = 0) (hp : nearP p = false) : Calls Try.prog 21 #[.slice ao l.length cap, bv a, pv p] w fun e w' => e = .returned (.tuple #[.int .i64 0, .int .i64 2]) ∧ Below w.heap.size w w' := by
  have HL : Hid (Bxs w ao l) := hL
  clear hL
  have HR : Hid (rlist l [a] = 0) := hr
  have HP : Hid (nearP p = false) := hp
  clear hr hp
  have HB0 : Hid (Below w.heap.size w w) := Below.refl _ _
  go_enter Try.func21, Try.ntmps21
  go_wp2_with fail
  refine (refList1 ao cap l a 0 HR.out ((w.alloc (bo (a))).alloc (po (p))) (w.heap.size + 1 + 1) (by simp) (HL.out.next (below_grow _ (Nat.le_refl _) (below_grow _ (Nat.le_refl _) (Below.refl _ _) _) _)) hll).mono ?_
  rintro e w1 ⟨rfl, hb1⟩
  have hal : Below w.heap.size w (((w.alloc (bo (a))).alloc (po (p))).alloc (bo (a))) := (below_grow _ (Nat.le_refl _) (below_grow _ (Nat.le_refl _) (below_grow _ (Nat.le_refl _) (Below.refl _ _) _) _) _)
  have hn : Below w.heap.size w w1 := hal.trans (hb1.mono hal.size)
  have HB1 : Hid (Below w.heap.size w w1) := HB0.out.trans (hn.mono HB0.out.size)
  have Ka1 : Hid (Bf (w.heap.size) (a) w1) := by
    have h := ((Bf.new w (a)).later (below_grow _ (Nat.le_refl _) (below_grow _ (Nat.le_refl _) (Below.refl _ _) _) _)).later hb1
    show Bf _ _ _
    simpa using h
  have Kp1 : Hid (Pf (w.heap.size + 1) (p) w1) := by
    have h := ((Pf.new (w.alloc (bo (a))) (p)).later (below_grow _ (Nat.le_refl _) (Below.refl _ _) _)).later hb1
    show Pf _ _ _
    simpa using h
  clear hal hn hb1
  obtain ⟨pl, p0, p1, p2⟩ := Kp1.out
  go_wp2_with fail
  refine (near1r p false HP.out w1 w1.heap.size rfl).mono ?_
  rintro e w2 ⟨rfl, hb2⟩
  clear pl p0 p1 p2
  have hal : Below w1.heap.size w1 (w1.alloc (po (p))) := (below_grow _ (Nat.le_refl _) (Below.refl _ _) _)
  have hn : Below w1.heap.size w1 w2 := hal.trans (hb2.mono hal.size)
  have HB2 : Hid (Below w.heap.size w w2) := HB1.out.trans (hn.mono HB1.out.size)
  have Ka2 : Hid (Bf (w.heap.size) (a) w2) := Ka1.out.later hn
  have Kp2 : Hid (Pf (w.heap.size + 1) (p) w2) := Kp1.out.later hn
  clear hal hn hb2
  go_wp2
  go_ret2
  exact ⟨rfl, HB2.out⟩
set_option maxHeartbeats 6400000 in
set_option maxRecDepth 100000 in
theorem safe_out (ao : Option Addr) (cap : Nat) (l : List Bx) (a : Bx) (p : Pt) (w : World) (hL : Bxs w ao l) (hll : l.length ≤ 9223372036854775807) (H : Int) (hr : rlist l [a] = 0) (hp : nearP p = true) (hH : Least l (wayX a p) (wayY a p) H) (hn : nearB (movB (endB a p) ⟨0, 0, H⟩) = false) : Calls Try.prog 21 #[.slice ao l.length cap, bv a, pv p] w fun e w' => e = .returned (.tuple #[.int .i64 0, .int .i64 2]) ∧ Below w.heap.size w w' := by
  have HL : Hid (Bxs w ao l) := hL
  clear hL
  have ha : bad1 a = 0 := by have := (rlist_zero.1 hr).2.2; rwa [badL_one] at this
  have hf := safe_facts ha hp
  have hl40 : l.length ≤ 40 := (rlist_zero.1 hr).1
  have HG : Hid (badL l = 0) := (rlist_zero.1 hr).2.1
  have hin := least_in HG.out hH hf.z0 hf.z1
  obtain ⟨k, hk⟩ : ∃ k, k = cornerB a p := ⟨_, rfl⟩
  obtain ⟨m, hm⟩ : ∃ m, m = movB k ⟨0, p.y, 0⟩ := ⟨_, rfl⟩
  obtain ⟨r, hrr⟩ : ∃ r, r = movB m ⟨0, 0, H⟩ := ⟨_, rfl⟩
  have HK : Hid (k = movB a ⟨p.x, 0, 0⟩) := hk
  have HM : Hid (m = movB k ⟨0, p.y, 0⟩) := hm
  have HRR : Hid (r = movB m ⟨0, 0, H⟩) := hrr
  have em : endB a p = m := by rw [hm, hk]
  have HLE : Hid (Least l (hullB a k) (hullB k m) H) := by show Least _ _ _ _; rw [← em, hk]; exact hH
  have HF : Hid (SmB (hullB a k) ∧ SmB (hullB k m) ∧ (hullB a k).lz = (hullB k m).lz ∧ -30000000 ≤ (hullB a k).lz ∧ (hullB a k).lz ≤ 30000000) := by
    show _ ∧ _
    rw [← em, hk]
    exact ⟨hf.kx, hf.ky, hf.hz, Int.le_trans (by decide) hf.z0, Int.le_trans hf.z1 (by decide)⟩
  have HSA : Hid (SmB a ∧ SmP ⟨p.x, 0, 0⟩) := ⟨hf.ka, hf.px⟩
  have HSK : Hid (SmB k ∧ SmP ⟨0, p.y, 0⟩) := by show _ ∧ _; rw [hk]; exact ⟨hf.kc, hf.py⟩
  have HSM : Hid (SmB m ∧ SmP ⟨0, 0, H⟩) := by
    refine ⟨by rw [← em]; exact hf.ke, ?_⟩
    unfold SmP
    simp only
    omega
  have HN : Hid (nearB r = false) := by show _ = _; rw [hrr, ← em]; exact hn
  have HR : Hid (rlist l [a] = 0) := hr
  have HP : Hid (nearP p = true) := hp
  clear ha hf hin hk hm hrr em hr hp hH hn
  have HB0 : Hid (Below w.heap.size w w) := Below.refl _ _
  go_enter Try.func21, Try.ntmps21
  go_wp2_with fail
  refine (refList1 ao cap l a 0 HR.out ((w.alloc (bo (a))).alloc (po (p))) (w.heap.size + 1 + 1) (by simp) (HL.out.next (below_grow _ (Nat.le_refl _) (below_grow _ (Nat.le_refl _) (Below.refl _ _) _) _)) hll).mono ?_
  rintro e w1 ⟨rfl, hb1⟩
  have hal : Below w.heap.size w (((w.alloc (bo (a))).alloc (po (p))).alloc (bo (a))) := (below_grow _ (Nat.le_refl _) (below_grow _ (Nat.le_refl _) (below_grow _ (Nat.le_refl _) (Below.refl _ _) _) _) _)
  have hn : Below w.heap.size w w1 := hal.trans (hb1.mono hal.size)
  have HB1 : Hid (Below w.heap.size w w1) := HB0.out.trans (hn.mono HB0.out.size)
  have Ka1 : Hid (Bf (w.heap.size) (a) w1) := by
    have h := ((Bf.new w (a)).later (below_grow _ (Nat.le_refl _) (below_grow _ (Nat.le_refl _) (Below.refl _ _) _) _)).later hb1
    show Bf _ _ _
    simpa using h
  have Kp1 : Hid (Pf (w.heap.size + 1) (p) w1) := by
    have h := ((Pf.new (w.alloc (bo (a))) (p)).later (below_grow _ (Nat.le_refl _) (Below.refl _ _) _)).later hb1
    show Pf _ _ _
    simpa using h
  clear hal hn hb1
  obtain ⟨pl, p0, p1, p2⟩ := Kp1.out
  go_wp2_with fail
  refine (near1r p true HP.out w1 w1.heap.size rfl).mono ?_
  rintro e w2 ⟨rfl, hb2⟩
  clear pl p0 p1 p2
  have hal : Below w1.heap.size w1 (w1.alloc (po (p))) := (below_grow _ (Nat.le_refl _) (Below.refl _ _) _)
  have hn : Below w1.heap.size w1 w2 := hal.trans (hb2.mono hal.size)
  have HB2 : Hid (Below w.heap.size w w2) := HB1.out.trans (hn.mono HB1.out.size)
  have Ka2 : Hid (Bf (w.heap.size) (a) w2) := Ka1.out.later hn
  have Kp2 : Hid (Pf (w.heap.size + 1) (p) w2) := Kp1.out.later hn
  clear hal hn hb2
  obtain ⟨⟨al, a0, a1, a2, a3, a4, a5⟩, af0, af1, af2, af3, af4, af5⟩ := Ka2.out
  simp only [Nat.zero_add] at a1 a2 a3 a4 a5
  obtain ⟨pl, p0, p1, p2⟩ := Kp2.out
  go_wp2_with fail
  refine (moved_r a k ⟨p.x, 0, 0⟩ HK.out HSA.out.1 HSA.out.2 _).mono ?_
  rintro e w3 ⟨rfl, hb3⟩
  clear al a0 a1 a2 a3 a4 a5 af0 af1 af2 af3 af4 af5 pl p0 p1 p2
  have hal : Below w2.heap.size w2 w2 := (Below.refl _ _)
  have hn : Below w2.heap.size w2 w3 := hal.trans (hb3.mono hal.size)
  have HB3 : Hid (Below w.heap.size w w3) := HB2.out.trans (hn.mono HB2.out.size)
  have Ka3 : Hid (Bf (w.heap.size) (a) w3) := Ka2.out.later hn
  have Kp3 : Hid (Pf (w.heap.size + 1) (p) w3) := Kp2.out.later hn
  clear hal hn hb3
  obtain ⟨pl, p0, p1, p2⟩ := Kp3.out
  go_wp2_with fail
  refine (moved_r k m ⟨0, p.y, 0⟩ HM.out HSK.out.1 HSK.out.2 _).mono ?_
  rintro e w4 ⟨rfl, hb4⟩
  clear pl p0 p1 p2
  have hal : Below w3.heap.size w3 (w3.alloc (bo (k))) := (below_grow _ (Nat.le_refl _) (Below.refl _ _) _)
  have hn : Below w3.heap.size w3 w4 := hal.trans (hb4.mono hal.size)
  have HB4 : Hid (Below w.heap.size w w4) := HB3.out.trans (hn.mono HB3.out.size)
  have Ka4 : Hid (Bf (w.heap.size) (a) w4) := Ka3.out.later hn
  have Kp4 : Hid (Pf (w.heap.size + 1) (p) w4) := Kp3.out.later hn
  have Kk4 : Hid (Bf (w3.heap.size) (k) w4) := by
    have h := ((Bf.new w3 (k)).later (Below.refl _ _)).later hb4
    show Bf _ _ _
    simpa using h
  clear hal hn hb4
  go_wp2_with fail
  obtain ⟨w5, hw5⟩ : ∃ w5, w5 = (w4.alloc (bo (m))) := ⟨_, rfl⟩
  have hal : Below w4.heap.size w4 w5 := by rw [hw5]; exact (below_grow _ (Nat.le_refl _) (Below.refl _ _) _)
  have HB5 : Hid (Below w.heap.size w w5) := HB4.out.trans (hal.mono HB4.out.size)
  have Ka5 : Hid (Bf (w.heap.size) (a) w5) := Ka4.out.later hal
  have Kp5 : Hid (Pf (w.heap.size + 1) (p) w5) := Kp4.out.later hal
  have Kk5 : Hid (Bf (w3.heap.size) (k) w5) := Kk4.out.later hal
  have Km5 : Hid (Bf (w4.heap.size) (m) w5) := by
    have h := (Bf.new w4 (m)).later (Below.refl _ _)
    rw [← hw5] at h
    show Bf _ _ _
    simpa using h
  rw [← hw5]
  clear hw5 hal
  obtain ⟨⟨al, a0, a1, a2, a3, a4, a5⟩, af0, af1, af2, af3, af4, af5⟩ := Ka5.out
  simp only [Nat.zero_add] at a1 a2 a3 a4 a5
  obtain ⟨⟨kl, k0, k1, k2, k3, k4, k5⟩, kf0, kf1, kf2, kf3, kf4, kf5⟩ := Kk5.out
  simp only [Nat.zero_add] at k1 k2 k3 k4 k5
  obtain ⟨⟨ml, m0, m1, m2, m3, m4, m5⟩, mf0, mf1, mf2, mf3, mf4, mf5⟩ := Km5.out
  simp only [Nat.zero_add] at m1 m2 m3 m4 m5
  refine region_inv [false, false, false, false, false, false, false, false, false, false, false, true, false, false, false, false, false, false, false, false, false, false, false, false, false, false, false, false, false, false, false, false, false, false, true, true, true, true, true, true, true, true, false, false, false, false, false, false, false, false, false, false, false, false]
    [(34, [], none), (35, [], none), (36, [], none), (37, [35, 36], none), (38, [], none), (39, [], none), (40, [38, 39], none), (41, [34, 37, 40], none), (11, [41], none)]
    (sf8V ao l.length cap a k m H) (by kernel_rfl) (by kernel_rfl) (fun _ _ _ _ h _ => h) ?_ ?_
  · refine ⟨?_, ?_, ?_, ?_, ?_, ?_, ?_, ?_, ?_, trivial⟩
    · intro f wr hb _ K hK
      simp only [over, overL, Nat.reduceAdd]
      go_simp
      exact hK _ _ ⟨_, rfl, by simp only [over, overL, Nat.reduceAdd]; rfl, Below.refl _ _⟩
    · intro f wr hb _ K hK
      have ca0 := cell_later hb a0
      have ca1 := cell_later hb a1
      have ca2 := cell_later hb a2
      have ca3 := cell_later hb a3
      have ca4 := cell_later hb a4
      have ca5 := cell_later hb a5
      simp only [over, overL, Nat.reduceAdd]
      go_simp
      exact hK _ _ ⟨_, rfl, by simp only [over, overL, Nat.reduceAdd]; rfl, Below.refl _ _⟩
    · intro f wr hb _ K hK
      have ck0 := cell_later hb k0
      have ck1 := cell_later hb k1
      have ck2 := cell_later hb k2
      have ck3 := cell_later hb k3
      have ck4 := cell_later hb k4
      have ck5 := cell_later hb k5
      simp only [over, overL, Nat.reduceAdd]
      go_simp
      exact hK _ _ ⟨_, rfl, by simp only [over, overL, Nat.reduceAdd]; rfl, Below.refl _ _⟩
    · intro f wr hb ⟨h35, h36, _⟩ K hK
      have h35 : f 35 = _ := h35
      have h36 : f 36 = _ := h36
      simp only [over, overL, Nat.reduceAdd, h35, h36]
      go_simp
      refine (hull_any a k wr).mono ?_
      rintro e w9 ⟨rfl, hbn⟩
      exact hK _ _ ⟨_, rfl, by simp only [over, overL, Nat.reduceAdd, h35, h36]; rfl, hbn⟩
    · intro f wr hb _ K hK
      have ck0 := cell_later hb k0
      have ck1 := cell_later hb k1
      have ck2 := cell_later hb k2
      have ck3 := cell_later hb k3
      have ck4 := cell_later hb k4
      have ck5 := cell_later hb k5
      simp only [over, overL, Nat.reduceAdd]
      go_simp
      exact hK _ _ ⟨_, rfl, by simp only [over, overL, Nat.reduceAdd]; rfl, Below.refl _ _⟩
    · intro f wr hb _ K hK
      have cm0 := cell_later hb m0
      have cm1 := cell_later hb m1
      have cm2 := cell_later hb m2
      have cm3 := cell_later hb m3
      have cm4 := cell_later hb m4
      have cm5 := cell_later hb m5
      simp only [over, overL, Nat.reduceAdd]
      go_simp
      exact hK _ _ ⟨_, rfl, by simp only [over, overL, Nat.reduceAdd]; rfl, Below.refl _ _⟩
    · intro f wr hb ⟨h38, h39, _⟩ K hK
      have h38 : f 38 = _ := h38
      have h39 : f 39 = _ := h39
      simp only [over, overL, Nat.reduceAdd, h38, h39]
      go_simp
      refine (hull_any k m wr).mono ?_
      rintro e w9 ⟨rfl, hbn⟩
      exact hK _ _ ⟨_, rfl, by simp only [over, overL, Nat.reduceAdd, h38, h39]; rfl, hbn⟩
    · intro f wr hb ⟨h34, h37, h40, _⟩ K hK
      have h34 : f 34 = _ := h34
      have h37 : f 37 = _ := h37
      have h40 : f 40 = _ := h40
      simp only [over, overL, Nat.reduceAdd, h34, h37, h40]
      go_simp
      refine (least_any ao cap l (hullB a k) (hullB k m) H wr (HL.out.next (HB5.out.trans (hb.mono HB5.out.size))) hl40 HG.out HF.out.1 HF.out.2.1 HF.out.2.2.1 HF.out.2.2.2.1 HF.out.2.2.2.2 HLE.out).mono ?_
      rintro e w9 ⟨rfl, hbn⟩
      exact hK _ _ ⟨_, rfl, by simp only [over, overL, Nat.reduceAdd, h34, h37, h40]; rfl, hbn⟩
    · intro f wr hb ⟨h41, _⟩ K hK
      have h41 : f 41 = _ := h41
      simp only [over, overL, Nat.reduceAdd, h41]
      go_simp
      exact hK _ _ ⟨_, rfl, by simp only [over, overL, Nat.reduceAdd, h41]; rfl, Below.refl _ _⟩
  intro f6 w6 hn h
  have hs11 : f6 11 = .int .i64 H := h.2.2.2.2.2.2.2.2.1
  clear al a0 a1 a2 a3 a4 a5 af0 af1 af2 af3 af4 af5 kl k0 k1 k2 k3 k4 k5 kf0 kf1 kf2 kf3 kf4 kf5 ml m0 m1 m2 m3 m4 m5 mf0 mf1 mf2 mf3 mf4 mf5
  have HB6 : Hid (Below w.heap.size w w6) := HB5.out.trans (hn.mono HB5.out.size)
  have Ka6 : Hid (Bf (w.heap.size) (a) w6) := Ka5.out.later hn
  have Kp6 : Hid (Pf (w.heap.size + 1) (p) w6) := Kp5.out.later hn
  have Kk6 : Hid (Bf (w3.heap.size) (k) w6) := Kk5.out.later hn
  have Km6 : Hid (Bf (w4.heap.size) (m) w6) := Km5.out.later hn
  clear h hn
  obtain ⟨⟨ml, m0, m1, m2, m3, m4, m5⟩, mf0, mf1, mf2, mf3, mf4, mf5⟩ := Km6.out
  simp only [Nat.zero_add] at m1 m2 m3 m4 m5
  simp only [over_eq, overL, Nat.reduceAdd, hs11]
  clear hs11
  go_wp2_with fail
  refine (moved_r m r ⟨0, 0, H⟩ HRR.out HSM.out.1 HSM.out.2 _).mono ?_
  rintro e w7 ⟨rfl, hb7⟩
  clear ml m0 m1 m2 m3 m4 m5 mf0 mf1 mf2 mf3 mf4 mf5
  have hal : Below w6.heap.size w6 w6 := (Below.refl _ _)
  have hn : Below w6.heap.size w6 w7 := hal.trans (hb7.mono hal.size)
  have HB7 : Hid (Below w.heap.size w w7) := HB6.out.trans (hn.mono HB6.out.size)
  have Ka7 : Hid (Bf (w.heap.size) (a) w7) := Ka6.out.later hn
  have Kp7 : Hid (Pf (w.heap.size + 1) (p) w7) := Kp6.out.later hn
  have Kk7 : Hid (Bf (w3.heap.size) (k) w7) := Kk6.out.later hn
  have Km7 : Hid (Bf (w4.heap.size) (m) w7) := Km6.out.later hn
  clear hal hn hb7
  go_wp2_with fail
  refine (near2r r false HN.out (w7.alloc (bo (r))) (w7.heap.size + 1) (by simp)).mono ?_
  rintro e w8 ⟨rfl, hb8⟩
  have hal : Below w7.heap.size w7 ((w7.alloc (bo (r))).alloc (bp r)) := (below_grow _ (Nat.le_refl _) (below_grow _ (Nat.le_refl _) (Below.refl _ _) _) _)
  have hn : Below w7.heap.size w7 w8 := hal.trans (hb8.mono hal.size)
  have HB8 : Hid (Below w.heap.size w w8) := HB7.out.trans (hn.mono HB7.out.size)
  have Ka8 : Hid (Bf (w.heap.size) (a) w8) := Ka7.out.later hn
  have Kp8 : Hid (Pf (w.heap.size + 1) (p) w8) := Kp7.out.later hn
  have Kk8 : Hid (Bf (w3.heap.size) (k) w8) := Kk7.out.later hn
  have Km8 : Hid (Bf (w4.heap.size) (m) w8) := Km7.out.later hn
  have Kr8 : Hid (Bf (w7.heap.size) (r) w8) := by
    have h := ((Bf.new w7 (r)).later (below_grow _ (Nat.le_refl _) (Below.refl _ _) _)).later hb8
    show Bf _ _ _
    simpa using h
  clear hal hn hb8
  go_wp2
  go_ret2
  exact ⟨rfl, HB8.out⟩
set_option maxHeartbeats 6400000 in
set_option maxRecDepth 100000 in
theorem safe_ok (ao : Option Addr) (cap : Nat) (l : List Bx) (a : Bx) (p : Pt) (w : World) (hL : Bxs w ao l) (hll : l.length ≤ 9223372036854775807) (H : Int) (hr : rlist l [a] = 0) (hp : nearP p = true) (hH : Least l (wayX a p) (wayY a p) H) (hn : nearB (movB (endB a p) ⟨0, 0, H⟩) = true) : Calls Try.prog 21 #[.slice ao l.length cap, bv a, pv p] w fun e w' => e = .returned (.tuple #[.int .i64 H, .int .i64 0]) ∧ Below w.heap.size w w' := by
  have HL : Hid (Bxs w ao l) := hL
  clear hL
  have ha : bad1 a = 0 := by have := (rlist_zero.1 hr).2.2; rwa [badL_one] at this
  have hf := safe_facts ha hp
  have hl40 : l.length ≤ 40 := (rlist_zero.1 hr).1
  have HG : Hid (badL l = 0) := (rlist_zero.1 hr).2.1
  have hin := least_in HG.out hH hf.z0 hf.z1
  obtain ⟨k, hk⟩ : ∃ k, k = cornerB a p := ⟨_, rfl⟩
  obtain ⟨m, hm⟩ : ∃ m, m = movB k ⟨0, p.y, 0⟩ := ⟨_, rfl⟩
  obtain ⟨r, hrr⟩ : ∃ r, r = movB m ⟨0, 0, H⟩ := ⟨_, rfl⟩
  have HK : Hid (k = movB a ⟨p.x, 0, 0⟩) := hk
  have HM : Hid (m = movB k ⟨0, p.y, 0⟩) := hm
  have HRR : Hid (r = movB m ⟨0, 0, H⟩) := hrr
  have em : endB a p = m := by rw [hm, hk]
  have HLE : Hid (Least l (hullB a k) (hullB k m) H) := by show Least _ _ _ _; rw [← em, hk]; exact hH
  have HF : Hid (SmB (hullB a k) ∧ SmB (hullB k m) ∧ (hullB a k).lz = (hullB k m).lz ∧ -30000000 ≤ (hullB a k).lz ∧ (hullB a k).lz ≤ 30000000) := by
    show _ ∧ _
    rw [← em, hk]
    exact ⟨hf.kx, hf.ky, hf.hz, Int.le_trans (by decide) hf.z0, Int.le_trans hf.z1 (by decide)⟩
  have HSA : Hid (SmB a ∧ SmP ⟨p.x, 0, 0⟩) := ⟨hf.ka, hf.px⟩
  have HSK : Hid (SmB k ∧ SmP ⟨0, p.y, 0⟩) := by show _ ∧ _; rw [hk]; exact ⟨hf.kc, hf.py⟩
  have HSM : Hid (SmB m ∧ SmP ⟨0, 0, H⟩) := by
    refine ⟨by rw [← em]; exact hf.ke, ?_⟩
    unfold SmP
    simp only
    omega
  have HN : Hid (nearB r = true) := by show _ = _; rw [hrr, ← em]; exact hn
  have HR : Hid (rlist l [a] = 0) := hr
  have HP : Hid (nearP p = true) := hp
  clear ha hf hin hk hm hrr em hr hp hH hn
  have HB0 : Hid (Below w.heap.size w w) := Below.refl _ _
  go_enter Try.func21, Try.ntmps21
  go_wp2_with fail
  refine (refList1 ao cap l a 0 HR.out ((w.alloc (bo (a))).alloc (po (p))) (w.heap.size + 1 + 1) (by simp) (HL.out.next (below_grow _ (Nat.le_refl _) (below_grow _ (Nat.le_refl _) (Below.refl _ _) _) _)) hll).mono ?_
  rintro e w1 ⟨rfl, hb1⟩
  have hal : Below w.heap.size w (((w.alloc (bo (a))).alloc (po (p))).alloc (bo (a))) := (below_grow _ (Nat.le_refl _) (below_grow _ (Nat.le_refl _) (below_grow _ (Nat.le_refl _) (Below.refl _ _) _) _) _)
  have hn : Below w.heap.size w w1 := hal.trans (hb1.mono hal.size)
  have HB1 : Hid (Below w.heap.size w w1) := HB0.out.trans (hn.mono HB0.out.size)
  have Ka1 : Hid (Bf (w.heap.size) (a) w1) := by
    have h := ((Bf.new w (a)).later (below_grow _ (Nat.le_refl _) (below_grow _ (Nat.le_refl _) (Below.refl _ _) _) _)).later hb1
    show Bf _ _ _
    simpa using h
  have Kp1 : Hid (Pf (w.heap.size + 1) (p) w1) := by
    have h := ((Pf.new (w.alloc (bo (a))) (p)).later (below_grow _ (Nat.le_refl _) (Below.refl _ _) _)).later hb1
    show Pf _ _ _
    simpa using h
  clear hal hn hb1
  obtain ⟨pl, p0, p1, p2⟩ := Kp1.out
  go_wp2_with fail
  refine (near1r p true HP.out w1 w1.heap.size rfl).mono ?_
  rintro e w2 ⟨rfl, hb2⟩
  clear pl p0 p1 p2
  have hal : Below w1.heap.size w1 (w1.alloc (po (p))) := (below_grow _ (Nat.le_refl _) (Below.refl _ _) _)
  have hn : Below w1.heap.size w1 w2 := hal.trans (hb2.mono hal.size)
  have HB2 : Hid (Below w.heap.size w w2) := HB1.out.trans (hn.mono HB1.out.size)
  have Ka2 : Hid (Bf (w.heap.size) (a) w2) := Ka1.out.later hn
  have Kp2 : Hid (Pf (w.heap.size + 1) (p) w2) := Kp1.out.later hn
  clear hal hn hb2
  obtain ⟨⟨al, a0, a1, a2, a3, a4, a5⟩, af0, af1, af2, af3, af4, af5⟩ := Ka2.out
  simp only [Nat.zero_add] at a1 a2 a3 a4 a5
  obtain ⟨pl, p0, p1, p2⟩ := Kp2.out
  go_wp2_with fail
  refine (moved_r a k ⟨p.x, 0, 0⟩ HK.out HSA.out.1 HSA.out.2 _).mono ?_
  rintro e w3 ⟨rfl, hb3⟩
  clear al a0 a1 a2 a3 a4 a5 af0 af1 af2 af3 af4 af5 pl p0 p1 p2
  have hal : Below w2.heap.size w2 w2 := (Below.refl _ _)
  have hn : Below w2.heap.size w2 w3 := hal.trans (hb3.mono hal.size)
  have HB3 : Hid (Below w.heap.size w w3) := HB2.out.trans (hn.mono HB2.out.size)
  have Ka3 : Hid (Bf (w.heap.size) (a) w3) := Ka2.out.later hn
  have Kp3 : Hid (Pf (w.heap.size + 1) (p) w3) := Kp2.out.later hn
  clear hal hn hb3
  obtain ⟨pl, p0, p1, p2⟩ := Kp3.out
  go_wp2_with fail
  refine (moved_r k m ⟨0, p.y, 0⟩ HM.out HSK.out.1 HSK.out.2 _).mono ?_
  rintro e w4 ⟨rfl, hb4⟩
  clear pl p0 p1 p2
  have hal : Below w3.heap.size w3 (w3.alloc (bo (k))) := (below_grow _ (Nat.le_refl _) (Below.refl _ _) _)
  have hn : Below w3.heap.size w3 w4 := hal.trans (hb4.mono hal.size)
  have HB4 : Hid (Below w.heap.size w w4) := HB3.out.trans (hn.mono HB3.out.size)
  have Ka4 : Hid (Bf (w.heap.size) (a) w4) := Ka3.out.later hn
  have Kp4 : Hid (Pf (w.heap.size + 1) (p) w4) := Kp3.out.later hn
  have Kk4 : Hid (Bf (w3.heap.size) (k) w4) := by
    have h := ((Bf.new w3 (k)).later (Below.refl _ _)).later hb4
    show Bf _ _ _
    simpa using h
  clear hal hn hb4
  go_wp2_with fail
  obtain ⟨w5, hw5⟩ : ∃ w5, w5 = (w4.alloc (bo (m))) := ⟨_, rfl⟩
  have hal : Below w4.heap.size w4 w5 := by rw [hw5]; exact (below_grow _ (Nat.le_refl _) (Below.refl _ _) _)
  have HB5 : Hid (Below w.heap.size w w5) := HB4.out.trans (hal.mono HB4.out.size)
  have Ka5 : Hid (Bf (w.heap.size) (a) w5) := Ka4.out.later hal
  have Kp5 : Hid (Pf (w.heap.size + 1) (p) w5) := Kp4.out.later hal
  have Kk5 : Hid (Bf (w3.heap.size) (k) w5) := Kk4.out.later hal
  have Km5 : Hid (Bf (w4.heap.size) (m) w5) := by
    have h := (Bf.new w4 (m)).later (Below.refl _ _)
    rw [← hw5] at h
    show Bf _ _ _
    simpa using h
  rw [← hw5]
  clear hw5 hal
  obtain ⟨⟨al, a0, a1, a2, a3, a4, a5⟩, af0, af1, af2, af3, af4, af5⟩ := Ka5.out
  simp only [Nat.zero_add] at a1 a2 a3 a4 a5
  obtain ⟨⟨kl, k0, k1, k2, k3, k4, k5⟩, kf0, kf1, kf2, kf3, kf4, kf5⟩ := Kk5.out
  simp only [Nat.zero_add] at k1 k2 k3 k4 k5
  obtain ⟨⟨ml, m0, m1, m2, m3, m4, m5⟩, mf0, mf1, mf2, mf3, mf4, mf5⟩ := Km5.out
  simp only [Nat.zero_add] at m1 m2 m3 m4 m5
  refine region_inv [false, false, false, false, false, false, false, false, false, false, false, true, false, false, false, false, false, false, false, false, false, false, false, false, false, false, false, false, false, false, false, false, false, false, true, true, true, true, true, true, true, true, false, false, false, false, false, false, false, false, false, false, false, false]
    [(34, [], none), (35, [], none), (36, [], none), (37, [35, 36], none), (38, [], none), (39, [], none), (40, [38, 39], none), (41, [34, 37, 40], none), (11, [41], none)]
    (sf8V ao l.length cap a k m H) (by kernel_rfl) (by kernel_rfl) (fun _ _ _ _ h _ => h) ?_ ?_
  · refine ⟨?_, ?_, ?_, ?_, ?_, ?_, ?_, ?_, ?_, trivial⟩
    · intro f wr hb _ K hK
      simp only [over, overL, Nat.reduceAdd]
      go_simp
      exact hK _ _ ⟨_, rfl, by simp only [over, overL, Nat.reduceAdd]; rfl, Below.refl _ _⟩
    · intro f wr hb _ K hK
      have ca0 := cell_later hb a0
      have ca1 := cell_later hb a1
      have ca2 := cell_later hb a2
      have ca3 := cell_later hb a3
      have ca4 := cell_later hb a4
      have ca5 := cell_later hb a5
      simp only [over, overL, Nat.reduceAdd]
      go_simp
      exact hK _ _ ⟨_, rfl, by simp only [over, overL, Nat.reduceAdd]; rfl, Below.refl _ _⟩
    · intro f wr hb _ K hK
      have ck0 := cell_later hb k0
      have ck1 := cell_later hb k1
      have ck2 := cell_later hb k2
      have ck3 := cell_later hb k3
      have ck4 := cell_later hb k4
      have ck5 := cell_later hb k5
      simp only [over, overL, Nat.reduceAdd]
      go_simp
      exact hK _ _ ⟨_, rfl, by simp only [over, overL, Nat.reduceAdd]; rfl, Below.refl _ _⟩
    · intro f wr hb ⟨h35, h36, _⟩ K hK
      have h35 : f 35 = _ := h35
      have h36 : f 36 = _ := h36
      simp only [over, overL, Nat.reduceAdd, h35, h36]
      go_simp
      refine (hull_any a k wr).mono ?_
      rintro e w9 ⟨rfl, hbn⟩
      exact hK _ _ ⟨_, rfl, by simp only [over, overL, Nat.reduceAdd, h35, h36]; rfl, hbn⟩
    · intro f wr hb _ K hK
      have ck0 := cell_later hb k0
      have ck1 := cell_later hb k1
      have ck2 := cell_later hb k2
      have ck3 := cell_later hb k3
      have ck4 := cell_later hb k4
      have ck5 := cell_later hb k5
      simp only [over, overL, Nat.reduceAdd]
      go_simp
      exact hK _ _ ⟨_, rfl, by simp only [over, overL, Nat.reduceAdd]; rfl, Below.refl _ _⟩
    · intro f wr hb _ K hK
      have cm0 := cell_later hb m0
      have cm1 := cell_later hb m1
      have cm2 := cell_later hb m2
      have cm3 := cell_later hb m3
      have cm4 := cell_later hb m4
      have cm5 := cell_later hb m5
      simp only [over, overL, Nat.reduceAdd]
      go_simp
      exact hK _ _ ⟨_, rfl, by simp only [over, overL, Nat.reduceAdd]; rfl, Below.refl _ _⟩
    · intro f wr hb ⟨h38, h39, _⟩ K hK
      have h38 : f 38 = _ := h38
      have h39 : f 39 = _ := h39
      simp only [over, overL, Nat.reduceAdd, h38, h39]
      go_simp
      refine (hull_any k m wr).mono ?_
      rintro e w9 ⟨rfl, hbn⟩
      exact hK _ _ ⟨_, rfl, by simp only [over, overL, Nat.reduceAdd, h38, h39]; rfl, hbn⟩
    · intro f wr hb ⟨h34, h37, h40, _⟩ K hK
      have h34 : f 34 = _ := h34
      have h37 : f 37 = _ := h37
      have h40 : f 40 = _ := h40
      simp only [over, overL, Nat.reduceAdd, h34, h37, h40]
      go_simp
      refine (least_any ao cap l (hullB a k) (hullB k m) H wr (HL.out.next (HB5.out.trans (hb.mono HB5.out.size))) hl40 HG.out HF.out.1 HF.out.2.1 HF.out.2.2.1 HF.out.2.2.2.1 HF.out.2.2.2.2 HLE.out).mono ?_
      rintro e w9 ⟨rfl, hbn⟩
      exact hK _ _ ⟨_, rfl, by simp only [over, overL, Nat.reduceAdd, h34, h37, h40]; rfl, hbn⟩
    · intro f wr hb ⟨h41, _⟩ K hK
      have h41 : f 41 = _ := h41
      simp only [over, overL, Nat.reduceAdd, h41]
      go_simp
      exact hK _ _ ⟨_, rfl, by simp only [over, overL, Nat.reduceAdd, h41]; rfl, Below.refl _ _⟩
  intro f6 w6 hn h
  have hs11 : f6 11 = .int .i64 H := h.2.2.2.2.2.2.2.2.1
  clear al a0 a1 a2 a3 a4 a5 af0 af1 af2 af3 af4 af5 kl k0 k1 k2 k3 k4 k5 kf0 kf1 kf2 kf3 kf4 kf5 ml m0 m1 m2 m3 m4 m5 mf0 mf1 mf2 mf3 mf4 mf5
  have HB6 : Hid (Below w.heap.size w w6) := HB5.out.trans (hn.mono HB5.out.size)
  have Ka6 : Hid (Bf (w.heap.size) (a) w6) := Ka5.out.later hn
  have Kp6 : Hid (Pf (w.heap.size + 1) (p) w6) := Kp5.out.later hn
  have Kk6 : Hid (Bf (w3.heap.size) (k) w6) := Kk5.out.later hn
  have Km6 : Hid (Bf (w4.heap.size) (m) w6) := Km5.out.later hn
  clear h hn
  obtain ⟨⟨ml, m0, m1, m2, m3, m4, m5⟩, mf0, mf1, mf2, mf3, mf4, mf5⟩ := Km6.out
  simp only [Nat.zero_add] at m1 m2 m3 m4 m5
  simp only [over_eq, overL, Nat.reduceAdd, hs11]
  clear hs11
  go_wp2_with fail
  refine (moved_r m r ⟨0, 0, H⟩ HRR.out HSM.out.1 HSM.out.2 _).mono ?_
  rintro e w7 ⟨rfl, hb7⟩
  clear ml m0 m1 m2 m3 m4 m5 mf0 mf1 mf2 mf3 mf4 mf5
  have hal : Below w6.heap.size w6 w6 := (Below.refl _ _)
  have hn : Below w6.heap.size w6 w7 := hal.trans (hb7.mono hal.size)
  have HB7 : Hid (Below w.heap.size w w7) := HB6.out.trans (hn.mono HB6.out.size)
  have Ka7 : Hid (Bf (w.heap.size) (a) w7) := Ka6.out.later hn
  have Kp7 : Hid (Pf (w.heap.size + 1) (p) w7) := Kp6.out.later hn
  have Kk7 : Hid (Bf (w3.heap.size) (k) w7) := Kk6.out.later hn
  have Km7 : Hid (Bf (w4.heap.size) (m) w7) := Km6.out.later hn
  clear hal hn hb7
  go_wp2_with fail
  refine (near2r r true HN.out (w7.alloc (bo (r))) (w7.heap.size + 1) (by simp)).mono ?_
  rintro e w8 ⟨rfl, hb8⟩
  have hal : Below w7.heap.size w7 ((w7.alloc (bo (r))).alloc (bp r)) := (below_grow _ (Nat.le_refl _) (below_grow _ (Nat.le_refl _) (Below.refl _ _) _) _)
  have hn : Below w7.heap.size w7 w8 := hal.trans (hb8.mono hal.size)
  have HB8 : Hid (Below w.heap.size w w8) := HB7.out.trans (hn.mono HB7.out.size)
  have Ka8 : Hid (Bf (w.heap.size) (a) w8) := Ka7.out.later hn
  have Kp8 : Hid (Pf (w.heap.size + 1) (p) w8) := Kp7.out.later hn
  have Kk8 : Hid (Bf (w3.heap.size) (k) w8) := Kk7.out.later hn
  have Km8 : Hid (Bf (w4.heap.size) (m) w8) := Km7.out.later hn
  have Kr8 : Hid (Bf (w7.heap.size) (r) w8) := by
    have h := ((Bf.new w7 (r)).later (below_grow _ (Nat.le_refl _) (Below.refl _ _) _)).later hb8
    show Bf _ _ _
    simpa using h
  clear hal hn hb8
  go_wp2
  go_ret2
  exact ⟨rfl, HB8.out⟩
end Go.Proofs.Ytiafcgbohckmmaa
