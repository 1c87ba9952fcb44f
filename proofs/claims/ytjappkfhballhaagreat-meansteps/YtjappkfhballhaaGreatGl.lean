import Derived.Test.YtjappkfhballhaaGreatGk

/- may, May walked. -/
namespace Go.Proofs.YtjappkfhballhaaGreat
open Go.RowKit
/-- The bounds of lengths that a state handed in keeps to. -/
structure SmLen (m : Sm) : Prop where
  wells : m.wl.length ≤ 9223372036854775807
  touched : m.touched.length ≤ 9223372036854775807
set_option maxHeartbeats 3200000 in
theorem may_any (ao : Option Addr) (cap : Nat) (l : List Sit) (m : Sm) (w : World) (hD : Dk w ao cap l) (hd : dchk l = 0) (hS : SmIn w m) (hl : SmLen m) :
    Calls Tryz.prog 29 #[layv ao cap l, smv m] w fun e w' => e = .returned (.bool (mayB l m.st)) ∧ Below w.heap.size w w' := by
  have HS : Hid (SmIn w m) := hS
  have HD : Hid (Dk w ao cap l) := hD
  have HDC : Hid (dchk l = 0) := hd
  have HL : Hid (SmLen m) := hl
  clear hS hD hd hl
  obtain ⟨w0, hw0⟩ : ∃ w0, w0 = (w.alloc (layo ao cap l)).alloc (smo m) := ⟨_, rfl⟩
  have HB : Hid (Below w.heap.size w w0) := by show Below _ _ _; rw [hw0]; exact ((Below.refl _ _).alloc (Nat.le_refl _) _).alloc (by simp) _
  have KL : Hid (Bk w.heap.size (lal ao cap l) w0) := by show Bk _ _ _; rw [hw0]; exact (Bk.new w (lal ao cap l) 67 w.heap.size rfl).later ((Below.refl _ _).alloc (Nat.le_refl _) _)
  have KS : Hid (Bk (w.heap.size + 1) (sml m) w0) := by show Bk _ _ _; rw [hw0]; exact Bk.new (w.alloc _) (sml m) 27 (w.heap.size + 1) (by simp)
  have HW0 : Hid (w0 = (w.alloc (layo ao cap l)).alloc (smo m)) := hw0
  have HQ : Hid (mayB l m.st = (mayFill l (whp m.wl) && (mayTake l m.st && (inR 0 1000000000 m.heat && inR 0 1000000000 m.clock)))) := rfl
  clear hw0
  go_enter Tryz.func29, Tryz.ntmps29
  go_wp2_with fail
  rw [← HW0.out]
  refine (mayFill_any ao cap l m.aoW m.capW m.wl w0 (HD.out.next HB.out) HDC.out (HS.out.next HB.out).wells HL.out.wells).mono ?_
  rintro e w1 ⟨rfl, hb1⟩
  have HB1 : Hid (Below w.heap.size w w1) := HB.out.trans (hb1.mono HB.out.size)
  have KL1 : Hid (Bk w.heap.size (lal ao cap l) w1) := KL.out.later hb1
  have KS1 : Hid (Bk (w.heap.size + 1) (sml m) w1) := KS.out.later hb1
  clear hb1 KL KS HW0
  cases h1 : mayFill l (whp m.wl) with
  | false =>
    rw [h1] at HQ
    go_wp2
    go_ret
    exact ⟨ret_bool HQ.out.symm, HB1.out⟩
  | true =>
    rw [h1] at HQ
    clear h1
    have y0 := (KL1.out).c 0 rfl
    have y1 := (KL1.out).c 1 rfl
    have y2 := (KL1.out).c 2 rfl
    have s0 := (KS1.out).c 0 rfl
    have s1 := (KS1.out).c 1 rfl
    have s2 := (KS1.out).c 2 rfl
    have s3 := (KS1.out).c 3 rfl
    have s4 := (KS1.out).c 4 rfl
    have s5 := (KS1.out).c 5 rfl
    have s6 := (KS1.out).c 6 rfl
    go_wp2_with fail
    refine (mayTake_any ao cap l m w1 (HS.out.next HB1.out) HL.out.touched).mono ?_
    rintro e w2 ⟨rfl, hb2⟩
    have HB2 : Hid (Below w.heap.size w w2) := HB1.out.trans (hb2.mono HB1.out.size)
    have KS2 : Hid (Bk (w.heap.size + 1) (sml m) w2) := KS1.out.later hb2
    clear hb2 KL1 KS1 y0 y1 y2 s0 s1 s2 s3 s4 s5 s6
    have s0 := (KS2.out).c 0 rfl
    have s1 := (KS2.out).c 1 rfl
    have s2 := (KS2.out).c 2 rfl
    have s3 := (KS2.out).c 3 rfl
    have s4 := (KS2.out).c 4 rfl
    have s5 := (KS2.out).c 5 rfl
    have s6 := (KS2.out).c 6 rfl
    cases h2 : mayTake l m.st with
    | false =>
      rw [h2] at HQ
      go_wp2
      go_ret
      exact ⟨ret_bool HQ.out.symm, HB2.out⟩
    | true =>
      rw [h2] at HQ
      clear h2
      go_wp2_with fail
      refine (mwithin_any 0 m.heat 1000000000 w2).mono ?_
      rintro e w3 ⟨rfl, rfl⟩
      cases h3 : inR 0 1000000000 m.heat with
      | false =>
        rw [h3] at HQ
        go_wp2
        go_ret
        exact ⟨ret_bool HQ.out.symm, HB2.out⟩
      | true =>
        rw [h3] at HQ
        clear h3
        go_wp2_with fail
        refine (mwithin_any 0 m.clock 1000000000 _).mono ?_
        rintro e w3 ⟨rfl, rfl⟩
        go_wp2
        go_ret
        exact ⟨ret_bool HQ.out.symm, HB2.out⟩
def myV (ao : Option Addr) (cap : Nat) (l : List Sit) (m : Sm) (d : Nat) (v : Value) (_ : World) : Prop :=
  match d with
  | 5 => v = .slice ao l.length cap
  | 6 => v = .int .i64 (dchk l)
  | 7 => v = .bool true
  | 8 => v = .bool true
  | 9 => v = .slice ao l.length cap
  | 10 => v = layv ao cap l
  | 11 => v = .agg #[.slice m.aoW m.wl.length m.capW, .bool m.tip, .slice m.aoH m.held.length m.capH, .slice m.aoT m.touched.length m.capT, .int .i64 m.used, .int .i64 m.heat, .int .i64 m.clock]
  | 12 => v = .bool (mayB l m.st)
  | 13 => v = .bool (mayB l m.st)
  | 4 => v = .bool (mayB l m.st)
  | _ => True
theorem myV_mono (ao : Option Addr) (cap : Nat) (l : List Sit) (m : Sm) (d : Nat) (v : Value) (w w' : World) (h : myV ao cap l m d v w) (_ : Below w.heap.size w w') : myV ao cap l m d v w' := h
def mzV (ao : Option Addr) (cap : Nat) (l : List Sit) (d : Nat) (v : Value) (_ : World) : Prop :=
  match d with
  | 5 => v = .slice ao l.length cap
  | 6 => v = .int .i64 (dchk l)
  | 7 => v = .bool false
  | 8 => v = .bool false
  | 13 => v = .bool false
  | 4 => v = .bool false
  | _ => True
theorem mzV_mono (ao : Option Addr) (cap : Nat) (l : List Sit) (d : Nat) (v : Value) (w w' : World) (h : mzV ao cap l d v w) (_ : Below w.heap.size w w') : mzV ao cap l d v w' := h
set_option maxHeartbeats 3200000 in
set_option maxRecDepth 100000 in
theorem mayF_any (ao : Option Addr) (cap : Nat) (l : List Sit) (m : Sm) (w : World) (hD : Dk w ao cap l) (hln : l.length ≤ 9223372036854775807) (hS : SmIn w m) (hl : SmLen m) :
    Calls Tryz.prog 8 #[.slice ao l.length cap, smv m] w fun e w' => e = .returned (.bool (mayS l m.st)) ∧ Below w.heap.size w w' := by
  have HS : Hid (SmIn w m) := hS
  have HD : Hid (Dk w ao cap l) := hD
  have HL : Hid (SmLen m) := hl
  clear hS hD hl
  obtain ⟨w0, hw0⟩ : ∃ w0, w0 = w.alloc (smo m) := ⟨_, rfl⟩
  have HB : Hid (Below w.heap.size w w0) := by show Below _ _ _; rw [hw0]; exact (Below.refl _ _).alloc (Nat.le_refl _) _
  have KS : Hid (Bk w.heap.size (sml m) w0) := by show Bk _ _ _; rw [hw0]; exact Bk.new w (sml m) 27 w.heap.size rfl
  have HW0 : Hid (w0 = w.alloc (smo m)) := hw0
  clear hw0
  by_cases hd : dchk l = 0
  · have HDC : Hid (dchk l = 0) := hd
    have HQ : Hid (mayS l m.st = mayB l m.st) := by show _ = _; unfold mayS; rw [decide_eq_true hd]; rfl
    have hde : (dchk l == 0) = true := by simp [hd]
    clear hd
    go_enter Tryz.func8, Tryz.ntmps8
    go_wp2_with fail
    rename_i KK hkk
    have HKK := (show Hid _ from hkk)
    clear hkk
    rw [← HW0.out]
    refine region_inv [false, false, false, false, true, true, true, true, true, true, true, true, true, true]
      [(5, [], none), (6, [5], none), (7, [6], none), (8, [7], none), (9, [8], some (8, true)), (10, [8, 9], some (8, true)), (11, [8], some (8, true)), (12, [8, 10, 11], some (8, true)), (13, [8, 12], none), (4, [13], none)]
      (myV ao cap l m) (by kernel_rfl) (by kernel_rfl) (myV_mono ao cap l m) ?_ ?_
    · refine ⟨?_, ?_, ?_, ?_, ?_, ?_, ?_, ?_, ?_, ?_, trivial⟩
      · intro f w1 hb _ K hK
        simp only [over, overL, Nat.reduceAdd]
        go_simp
        exact hK _ _ ⟨_, rfl, by simp only [over, overL, Nat.reduceAdd]; rfl, Below.refl _ _⟩
      · intro f w1 hb ⟨h5, _⟩ K hK
        replace h5 : f 5 = _ := h5
        simp only [over, overL, Nat.reduceAdd, h5]
        go_simp
        refine (dk_check ao cap l w1 (HD.out.next (HB.out.trans (hb.mono HB.out.size))) (by omega)).mono ?_
        rintro e w2 ⟨rfl, hb2⟩
        exact hK _ _ ⟨_, rfl, by simp only [over, overL, Nat.reduceAdd, h5]; rfl, hb2⟩
      · intro f w1 hb ⟨h6, _⟩ K hK
        replace h6 : f 6 = _ := h6
        simp only [over, overL, Nat.reduceAdd, h6]
        go_simp
        exact hK _ _ ⟨_, rfl, by simp only [over, overL, Nat.reduceAdd, h6]; rfl, Below.refl _ _⟩
      · intro f w1 hb ⟨h7, _⟩ K hK
        replace h7 : f 7 = _ := h7
        simp only [over, overL, Nat.reduceAdd, h7]
        go_simp
        exact hK _ _ ⟨_, rfl, by simp only [over, overL, Nat.reduceAdd, h7]; rfl, Below.refl _ _⟩
      · intro f w1 hb ⟨h8, _⟩
        replace h8 : f 8 = _ := h8
        refine ⟨fun _ => ?_, fun hg => absurd h8 hg⟩
        intro K hK
        simp only [over, overL, Nat.reduceAdd, h8]
        go_simp
        exact hK _ _ ⟨_, rfl, by simp only [over, overL, Nat.reduceAdd, h8]; rfl, Below.refl _ _⟩
      · intro f w1 hb ⟨h8, h9, _⟩
        replace h8 : f 8 = _ := h8
        replace h9 : f 9 = _ := h9
        refine ⟨fun _ => ?_, fun hg => absurd h8 hg⟩
        intro K hK
        simp only [over, overL, Nat.reduceAdd, h8, h9]
        go_simp
        refine (newLayout_any ao cap l w1 (HD.out.next (HB.out.trans (hb.mono HB.out.size))) HDC.out).mono ?_
        rintro e w2 ⟨rfl, hb2⟩
        exact hK _ _ ⟨_, rfl, by simp only [over, overL, Nat.reduceAdd, h8, h9]; rfl, hb2⟩
      · intro f w1 hb ⟨h8, _⟩
        replace h8 : f 8 = _ := h8
        refine ⟨fun _ => ?_, fun hg => absurd h8 hg⟩
        intro K hK
        have q0 := (KS.out.later hb).c 0 rfl
        have q1 := (KS.out.later hb).c 1 rfl
        have q2 := (KS.out.later hb).c 2 rfl
        have q3 := (KS.out.later hb).c 3 rfl
        have q4 := (KS.out.later hb).c 4 rfl
        have q5 := (KS.out.later hb).c 5 rfl
        have q6 := (KS.out.later hb).c 6 rfl
        simp only [over, overL, Nat.reduceAdd, h8]
        go_simp
        exact hK _ _ ⟨_, rfl, by simp only [over, overL, Nat.reduceAdd, h8]; rfl, Below.refl _ _⟩
      · intro f w1 hb ⟨h8, h10, h11, _⟩
        replace h8 : f 8 = _ := h8
        replace h10 : f 10 = _ := h10
        replace h11 : f 11 = _ := h11
        refine ⟨fun _ => ?_, fun hg => absurd h8 hg⟩
        intro K hK
        simp only [over, overL, Nat.reduceAdd, h8, h10, h11]
        go_simp
        refine (may_any ao cap l m w1 (HD.out.next (HB.out.trans (hb.mono HB.out.size))) HDC.out (HS.out.next (HB.out.trans (hb.mono HB.out.size))) HL.out).mono ?_
        rintro e w2 ⟨rfl, hb2⟩
        exact hK _ _ ⟨_, rfl, by simp only [over, overL, Nat.reduceAdd, h8, h10, h11]; rfl, hb2⟩
      · intro f w1 hb ⟨h8, h12, _⟩ K hK
        replace h8 : f 8 = _ := h8
        replace h12 : f 12 = _ := h12
        simp only [over, overL, Nat.reduceAdd, h8, h12]
        go_simp
        exact hK _ _ ⟨_, rfl, by simp only [over, overL, Nat.reduceAdd, h8, h12]; rfl, Below.refl _ _⟩
      · intro f w1 hb ⟨h13, _⟩ K hK
        replace h13 : f 13 = _ := h13
        simp only [over, overL, Nat.reduceAdd, h13]
        go_simp
        exact hK _ _ ⟨_, rfl, by simp only [over, overL, Nat.reduceAdd, h13]; rfl, Below.refl _ _⟩
    intro f w5 hb5 hv
    have h4 : f 4 = .bool (mayB l m.st) := hv.2.2.2.2.2.2.2.2.2.1
    have HB5 : Hid (Below w.heap.size w w5) := HB.out.trans (hb5.mono HB.out.size)
    clear hb5 hv
    simp only [over, overL, Nat.reduceAdd, h4]
    clear h4
    refine HKK.out _ _ ?_
    go_wp2
    go_ret
    exact ⟨ret_bool HQ.out.symm, HB5.out⟩
  · have HQ : Hid (mayS l m.st = false) := by show _ = _; unfold mayS; rw [decide_eq_false hd]; rfl
    have hde : (dchk l == 0) = false := by simp [hd]
    clear hd
    go_enter Tryz.func8, Tryz.ntmps8
    go_wp2_with fail
    rename_i KK hkk
    have HKK := (show Hid _ from hkk)
    clear hkk
    rw [← HW0.out]
    refine region_inv [false, false, false, false, true, true, true, true, true, true, true, true, true, true]
      [(5, [], none), (6, [5], none), (7, [6], none), (8, [7], none), (9, [8], some (8, true)), (10, [8, 9], some (8, true)), (11, [8], some (8, true)), (12, [8, 10, 11], some (8, true)), (13, [8, 12], none), (4, [13], none)]
      (mzV ao cap l) (by kernel_rfl) (by kernel_rfl) (mzV_mono ao cap l) ?_ ?_
    · refine ⟨?_, ?_, ?_, ?_, ?_, ?_, ?_, ?_, ?_, ?_, trivial⟩
      · intro f w1 hb _ K hK
        simp only [over, overL, Nat.reduceAdd]
        go_simp
        exact hK _ _ ⟨_, rfl, by simp only [over, overL, Nat.reduceAdd]; rfl, Below.refl _ _⟩
      · intro f w1 hb ⟨h5, _⟩ K hK
        replace h5 : f 5 = _ := h5
        simp only [over, overL, Nat.reduceAdd, h5]
        go_simp
        refine (dk_check ao cap l w1 (HD.out.next (HB.out.trans (hb.mono HB.out.size))) (by omega)).mono ?_
        rintro e w2 ⟨rfl, hb2⟩
        exact hK _ _ ⟨_, rfl, by simp only [over, overL, Nat.reduceAdd, h5]; rfl, hb2⟩
      · intro f w1 hb ⟨h6, _⟩ K hK
        replace h6 : f 6 = _ := h6
        simp only [over, overL, Nat.reduceAdd, h6]
        go_simp
        exact hK _ _ ⟨_, rfl, by simp only [over, overL, Nat.reduceAdd, h6]; rfl, Below.refl _ _⟩
      · intro f w1 hb ⟨h7, _⟩ K hK
        replace h7 : f 7 = _ := h7
        simp only [over, overL, Nat.reduceAdd, h7]
        go_simp
        exact hK _ _ ⟨_, rfl, by simp only [over, overL, Nat.reduceAdd, h7]; rfl, Below.refl _ _⟩
      · intro f w1 hb ⟨h8, _⟩
        replace h8 : f 8 = _ := h8
        exact ⟨fun hg => absurd (h8.symm.trans hg) (by simp), fun _ => trivial⟩
      · intro f w1 hb ⟨h8, h9, _⟩
        replace h8 : f 8 = _ := h8
        exact ⟨fun hg => absurd (h8.symm.trans hg) (by simp), fun _ => trivial⟩
      · intro f w1 hb ⟨h8, _⟩
        replace h8 : f 8 = _ := h8
        exact ⟨fun hg => absurd (h8.symm.trans hg) (by simp), fun _ => trivial⟩
      · intro f w1 hb ⟨h8, h10, h11, _⟩
        replace h8 : f 8 = _ := h8
        exact ⟨fun hg => absurd (h8.symm.trans hg) (by simp), fun _ => trivial⟩
      · intro f w1 hb ⟨h8, h12, _⟩ K hK
        replace h8 : f 8 = _ := h8
        simp only [over, overL, Nat.reduceAdd, h8]
        go_simp
        exact hK _ _ ⟨_, rfl, by simp only [over, overL, Nat.reduceAdd, h8]; rfl, Below.refl _ _⟩
      · intro f w1 hb ⟨h13, _⟩ K hK
        replace h13 : f 13 = _ := h13
        simp only [over, overL, Nat.reduceAdd, h13]
        go_simp
        exact hK _ _ ⟨_, rfl, by simp only [over, overL, Nat.reduceAdd, h13]; rfl, Below.refl _ _⟩
    intro f w5 hb5 hv
    have h4 : f 4 = .bool false := hv.2.2.2.2.2.2.2.2.2.1
    have HB5 : Hid (Below w.heap.size w w5) := HB.out.trans (hb5.mono HB.out.size)
    clear hb5 hv
    simp only [over, overL, Nat.reduceAdd, h4]
    clear h4
    refine HKK.out _ _ ?_
    go_wp2
    go_ret
    exact ⟨ret_bool HQ.out.symm, HB5.out⟩
end Go.Proofs.YtjappkfhballhaaGreat
