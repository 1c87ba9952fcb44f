import Derived.Test.YtfadmpnpgiceeaaGreatKj
import Derived.Test.YtfadmpnpgiceeaaGreatKe

/- may, May walked. -/
namespace Go.Proofs.YtfadmpnpgiceeaaGreat
open Go.RowKit
structure SmLen (m : Sm) : Prop where
 wells : m.wl.length ≤ 9223372036854775807
 touched : m.touched.length ≤ 9223372036854775807
set_option maxHeartbeats 3200000 in
theorem may_any (ao : Option Addr) (cap : Nat) (l : List Sit) (m : Sm) (w : World) (hD : Dk w ao cap l) (hd : dchk l = 0) (hS : SmIn w m) (hl : SmLen m) :
  Calls Tryz.prog 25 #[layv ao cap l, smv m] w fun e w' => e = .returned (.bool (mayB l m.st)) ∧ Below w.heap.size w w' := by
 have HS : Hid (SmIn w m) := hS
 have HD : Hid (Dk w ao cap l) := hD
 have HDC : Hid (dchk l = 0) := hd
 have HL : Hid (SmLen m) := hl
 clear hS hD hd hl
 obtain ⟨w0, hw0⟩ : ∃ w0, w0 = (w.alloc (layo ao cap l)).alloc (smo m) := ⟨_, rfl⟩
 have HB : Hid (Below w.heap.size w w0) := by show Below _ _ _; rw [hw0]; exact ((brf).alloc (Nat.le_refl _) _).alloc (by simp) _
 have KL : Hid (Bk w.heap.size (lal ao cap l) w0) := by show Bk _ _ _; rw [hw0]; exact (Bk.new w (lal ao cap l) 66 w.heap.size rfl).later ((brf).alloc (Nat.le_refl _) _)
 have KS : Hid (Bk (w.heap.size + 1) (sml m) w0) := by show Bk _ _ _; rw [hw0]; exact Bk.new (w.alloc _) (sml m) 27 (w.heap.size + 1) (by simp)
 have HW0 : Hid (w0 = (w.alloc (layo ao cap l)).alloc (smo m)) := hw0
 have HQ : Hid (mayB l m.st = (mayFill l (whp m.wl) && (mayTake l m.st && (inR 0 1000000000 m.heat && inR 0 1000000000 m.clock)))) := rfl
 clear hw0
 go_enter Tryz.func25, Tryz.ntmps25
 go_wp2_with fail
 rw [← HW0.out]
 refine (mayFill_any ao cap l m.aoW m.capW m.wl w0 (HD.out.next HB.out) HDC.out (HS.out.next HB.out).wells HL.out.wells).mono ?_
 rintro e w1 ⟨rfl, hb1⟩
 have HB1 : Hid (Below w.heap.size w w1) := HB.out.trans (hb1.mono HB.out.size)
 have KL1 : Hid (Bk w.heap.size (lal ao cap l) w1) := KL.out.later hb1
 have KS1 : Hid (Bk (w.heap.size + 1) (sml m) w1) := KS.out.later hb1
 clear hb1 KL KS HW0
 cases h1 : mayFill l (whp m.wl) with
 | false =>
  rw [h1] at HQ
  go_wp2
  go_ret
  exact ⟨ret_bool HQ.out.symm, HB1.out⟩
 | true =>
  rw [h1] at HQ
  clear h1
  obtain ⟨y0, y1, y2⟩ := (KL1.out).c3
  obtain ⟨s0, s1, s2, s3, s4, s5, s6⟩ := (KS1.out).c7
  go_wp2_with fail
  refine (mayTake_any ao cap l m w1 (HS.out.next HB1.out) HL.out.touched).mono ?_
  rintro e w2 ⟨rfl, hb2⟩
  have HB2 : Hid (Below w.heap.size w w2) := HB1.out.trans (hb2.mono HB1.out.size)
  have KS2 : Hid (Bk (w.heap.size + 1) (sml m) w2) := KS1.out.later hb2
  clear hb2 KL1 KS1 y0 y1 y2 s0 s1 s2 s3 s4 s5 s6
  obtain ⟨s0, s1, s2, s3, s4, s5, s6⟩ := (KS2.out).c7
  cases h2 : mayTake l m.st with
  | false =>
   rw [h2] at HQ
   go_wp2
   go_ret
   exact ⟨ret_bool HQ.out.symm, HB2.out⟩
  | true =>
   rw [h2] at HQ
   clear h2
   go_wp2_with fail
   refine (mwithin_any 0 m.heat 1000000000 w2).mono ?_
   rintro e w3 ⟨rfl, rfl⟩
   cases h3 : inR 0 1000000000 m.heat with
   | false =>
    rw [h3] at HQ
    go_wp2
    go_ret
    exact ⟨ret_bool HQ.out.symm, HB2.out⟩
   | true =>
    rw [h3] at HQ
    clear h3
    go_wp2_with fail
    refine (mwithin_any 0 m.clock 1000000000 _).mono ?_
    rintro e w3 ⟨rfl, rfl⟩
    go_wp2
    go_ret
    exact ⟨ret_bool HQ.out.symm, HB2.out⟩
def myV (ao : Option Addr) (cap : Nat) (l : List Sit) (m : Sm) (d : Nat) (v : Value) (_ : World) : Prop :=
 match d with
 | 5 => v = .slice ao l.length cap
 | 6 => v = .int .i64 (dchk l)
 | 7 => v = .bool true
 | 8 => v = .bool true
 | 9 => v = .slice ao l.length cap
 | 10 => v = layv ao cap l
 | 11 => v = .agg #[.slice m.aoW m.wl.length m.capW, .bool m.tip, .slice m.aoH m.held.length m.capH, .slice m.aoT m.touched.length m.capT, .int .i64 m.used, .int .i64 m.heat, .int .i64 m.clock]
 | 12 => v = .bool (mayB l m.st)
 | 13 => v = .bool (mayB l m.st)
 | 4 => v = .bool (mayB l m.st)
 | _ => True
theorem myV_mono (ao : Option Addr) (cap : Nat) (l : List Sit) (m : Sm) (d : Nat) (v : Value) (w w' : World) (h : myV ao cap l m d v w) (_ : Below w.heap.size w w') : myV ao cap l m d v w' := h
def mzV (ao : Option Addr) (cap : Nat) (l : List Sit) (d : Nat) (v : Value) (_ : World) : Prop :=
 match d with
 | 5 => v = .slice ao l.length cap
 | 6 => v = .int .i64 (dchk l)
 | 7 => v = .bool false
 | 8 => v = .bool false
 | 13 => v = .bool false
 | 4 => v = .bool false
 | _ => True
theorem mzV_mono (ao : Option Addr) (cap : Nat) (l : List Sit) (d : Nat) (v : Value) (w w' : World) (h : mzV ao cap l d v w) (_ : Below w.heap.size w w') : mzV ao cap l d v w' := h
set_option maxHeartbeats 3200000 in
set_option maxRecDepth 100000 in
theorem mayF_any (ao : Option Addr) (cap : Nat) (l : List Sit) (m : Sm) (w : World) (hD : Dk w ao cap l) (hln : l.length ≤ 9223372036854775807) (hS : SmIn w m) (hl : SmLen m) :
  Calls Tryz.prog 7 #[.slice ao l.length cap, smv m] w fun e w' => e = .returned (.bool (mayS l m.st)) ∧ Below w.heap.size w w' := by
 have HS : Hid (SmIn w m) := hS
 have HD : Hid (Dk w ao cap l) := hD
 have HL : Hid (SmLen m) := hl
 clear hS hD hl
 obtain ⟨w0, hw0⟩ : ∃ w0, w0 = w.alloc (smo m) := ⟨_, rfl⟩
 have HB : Hid (Below w.heap.size w w0) := by show Below _ _ _; rw [hw0]; exact (brf).alloc (Nat.le_refl _) _
 have KS : Hid (Bk w.heap.size (sml m) w0) := by show Bk _ _ _; rw [hw0]; exact Bk.new w (sml m) 27 w.heap.size rfl
 have HW0 : Hid (w0 = w.alloc (smo m)) := hw0
 clear hw0
 by_cases hd : dchk l = 0
 ·have HDC : Hid (dchk l = 0) := hd
  have HQ : Hid (mayS l m.st = mayB l m.st) := by show _ = _; unfold mayS; rw [decide_eq_true hd]; rfl
  have hde : (dchk l == 0) = true := by simp [hd]
  clear hd
  go_enter Tryz.func7, Tryz.ntmps7
  go_wp2_with fail
  rename_i KK hkk
  have HKK := (show Hid _ from hkk)
  clear hkk
  rw [← HW0.out]
  refine region_inv [zf,zf,zf,zf,zt,zt,zt,zt,zt,zt,zt,zt,zt,zt]
   [(5, [], none), (6, [5], none), (7, [6], none), (8, [7], none), (9, [8], some (8, true)), (10, [8, 9], some (8, true)), (11, [8], some (8, true)), (12, [8, 10, 11], some (8, true)), (13, [8, 12], none), (4, [13], none)]
   (myV ao cap l m) (by kernel_rfl) (by kernel_rfl) (myV_mono ao cap l m) ?_ ?_
  ·refine ⟨?_, ?_, ?_, ?_, ?_, ?_, ?_, ?_, ?_, ?_, trivial⟩
   ·intro f w1 hb _ K hK
    simp only [over, overL, Nat.reduceAdd]
    go_simp
    exact hK _ _ ⟨_, rfl, by simp only [over, overL, Nat.reduceAdd]; rfl, brf⟩
   ·rintro f w1 hb ⟨(h5 : f 5 = _), _⟩ K hK
    simp only [over, overL, Nat.reduceAdd, h5]
    go_simp
    refine (dk_check ao cap l w1 (HD.out.next (HB.out.trans (hb.mono HB.out.size))) (by omega)).mono ?_
    rintro e w2 ⟨rfl, hb2⟩
    exact hK _ _ ⟨_, rfl, by simp only [over, overL, Nat.reduceAdd, h5]; rfl, hb2⟩
   ·rintro f w1 hb ⟨(h6 : f 6 = _), _⟩ K hK
    simp only [over, overL, Nat.reduceAdd, h6]
    go_simp
    exact hK _ _ ⟨_, rfl, by simp only [over, overL, Nat.reduceAdd, h6]; rfl, brf⟩
   ·rintro f w1 hb ⟨(h7 : f 7 = _), _⟩ K hK
    simp only [over, overL, Nat.reduceAdd, h7]
    go_simp
    exact hK _ _ ⟨_, rfl, by simp only [over, overL, Nat.reduceAdd, h7]; rfl, brf⟩
   ·rintro f w1 hb ⟨(h8 : f 8 = _), _⟩
    refine ⟨fun _ => ?_, fun hg => absurd h8 hg⟩
    intro K hK
    simp only [over, overL, Nat.reduceAdd, h8]
    go_simp
    exact hK _ _ ⟨_, rfl, by simp only [over, overL, Nat.reduceAdd, h8]; rfl, brf⟩
   ·rintro f w1 hb ⟨(h8 : f 8 = _), (h9 : f 9 = _), _⟩
    refine ⟨fun _ => ?_, fun hg => absurd h8 hg⟩
    intro K hK
    simp only [over, overL, Nat.reduceAdd, h8, h9]
    go_simp
    refine (newLayout_any ao cap l w1 (HD.out.next (HB.out.trans (hb.mono HB.out.size))) HDC.out).mono ?_
    rintro e w2 ⟨rfl, hb2⟩
    exact hK _ _ ⟨_, rfl, by simp only [over, overL, Nat.reduceAdd, h8, h9]; rfl, hb2⟩
   ·rintro f w1 hb ⟨(h8 : f 8 = _), _⟩
    refine ⟨fun _ => ?_, fun hg => absurd h8 hg⟩
    intro K hK
    obtain ⟨q0, q1, q2, q3, q4, q5, q6⟩ := (KS.out.later hb).c7
    simp only [over, overL, Nat.reduceAdd, h8]
    go_simp
    exact hK _ _ ⟨_, rfl, by simp only [over, overL, Nat.reduceAdd, h8]; rfl, brf⟩
   ·rintro f w1 hb ⟨(h8 : f 8 = _), (h10 : f 10 = _), (h11 : f 11 = _), _⟩
    refine ⟨fun _ => ?_, fun hg => absurd h8 hg⟩
    intro K hK
    simp only [over, overL, Nat.reduceAdd, h8, h10, h11]
    go_simp
    refine (may_any ao cap l m w1 (HD.out.next (HB.out.trans (hb.mono HB.out.size))) HDC.out (HS.out.next (HB.out.trans (hb.mono HB.out.size))) HL.out).mono ?_
    rintro e w2 ⟨rfl, hb2⟩
    exact hK _ _ ⟨_, rfl, by simp only [over, overL, Nat.reduceAdd, h8, h10, h11]; rfl, hb2⟩
   ·rintro f w1 hb ⟨(h8 : f 8 = _), (h12 : f 12 = _), _⟩ K hK
    simp only [over, overL, Nat.reduceAdd, h8, h12]
    go_simp
    exact hK _ _ ⟨_, rfl, by simp only [over, overL, Nat.reduceAdd, h8, h12]; rfl, brf⟩
   ·rintro f w1 hb ⟨(h13 : f 13 = _), _⟩ K hK
    simp only [over, overL, Nat.reduceAdd, h13]
    go_simp
    exact hK _ _ ⟨_, rfl, by simp only [over, overL, Nat.reduceAdd, h13]; rfl, brf⟩
  intro f w5 hb5 hv
  have h4 : f 4 = .bool (mayB l m.st) := hv.2.2.2.2.2.2.2.2.2.1
  have HB5 : Hid (Below w.heap.size w w5) := HB.out.trans (hb5.mono HB.out.size)
  clear hb5 hv
  simp only [over, overL, Nat.reduceAdd, h4]
  clear h4
  refine HKK.out _ _ ?_
  go_wp2
  go_ret
  exact ⟨ret_bool HQ.out.symm, HB5.out⟩
 ·have HQ : Hid (mayS l m.st = false) := by show _ = _; unfold mayS; rw [decide_eq_false hd]; rfl
  have hde : (dchk l == 0) = false := by simp [hd]
  clear hd
  go_enter Tryz.func7, Tryz.ntmps7
  go_wp2_with fail
  rename_i KK hkk
  have HKK := (show Hid _ from hkk)
  clear hkk
  rw [← HW0.out]
  refine region_inv [zf,zf,zf,zf,zt,zt,zt,zt,zt,zt,zt,zt,zt,zt]
   [(5, [], none), (6, [5], none), (7, [6], none), (8, [7], none), (9, [8], some (8, true)), (10, [8, 9], some (8, true)), (11, [8], some (8, true)), (12, [8, 10, 11], some (8, true)), (13, [8, 12], none), (4, [13], none)]
   (mzV ao cap l) (by kernel_rfl) (by kernel_rfl) (mzV_mono ao cap l) ?_ ?_
  ·refine ⟨?_, ?_, ?_, ?_, ?_, ?_, ?_, ?_, ?_, ?_, trivial⟩
   ·intro f w1 hb _ K hK
    simp only [over, overL, Nat.reduceAdd]
    go_simp
    exact hK _ _ ⟨_, rfl, by simp only [over, overL, Nat.reduceAdd]; rfl, brf⟩
   ·rintro f w1 hb ⟨(h5 : f 5 = _), _⟩ K hK
    simp only [over, overL, Nat.reduceAdd, h5]
    go_simp
    refine (dk_check ao cap l w1 (HD.out.next (HB.out.trans (hb.mono HB.out.size))) (by omega)).mono ?_
    rintro e w2 ⟨rfl, hb2⟩
    exact hK _ _ ⟨_, rfl, by simp only [over, overL, Nat.reduceAdd, h5]; rfl, hb2⟩
   ·rintro f w1 hb ⟨(h6 : f 6 = _), _⟩ K hK
    simp only [over, overL, Nat.reduceAdd, h6]
    go_simp
    exact hK _ _ ⟨_, rfl, by simp only [over, overL, Nat.reduceAdd, h6]; rfl, brf⟩
   ·rintro f w1 hb ⟨(h7 : f 7 = _), _⟩ K hK
    simp only [over, overL, Nat.reduceAdd, h7]
    go_simp
    exact hK _ _ ⟨_, rfl, by simp only [over, overL, Nat.reduceAdd, h7]; rfl, brf⟩
   ·rintro f w1 hb ⟨(h8 : f 8 = _), _⟩
    exact ⟨fun hg => absurd (h8.symm.trans hg) (by simp), fun _ => trivial⟩
   ·rintro f w1 hb ⟨(h8 : f 8 = _), h9, _⟩
    exact ⟨fun hg => absurd (h8.symm.trans hg) (by simp), fun _ => trivial⟩
   ·rintro f w1 hb ⟨(h8 : f 8 = _), _⟩
    exact ⟨fun hg => absurd (h8.symm.trans hg) (by simp), fun _ => trivial⟩
   ·rintro f w1 hb ⟨(h8 : f 8 = _), h10, h11, _⟩
    exact ⟨fun hg => absurd (h8.symm.trans hg) (by simp), fun _ => trivial⟩
   ·rintro f w1 hb ⟨(h8 : f 8 = _), h12, _⟩ K hK
    simp only [over, overL, Nat.reduceAdd, h8]
    go_simp
    exact hK _ _ ⟨_, rfl, by simp only [over, overL, Nat.reduceAdd, h8]; rfl, brf⟩
   ·rintro f w1 hb ⟨(h13 : f 13 = _), _⟩ K hK
    simp only [over, overL, Nat.reduceAdd, h13]
    go_simp
    exact hK _ _ ⟨_, rfl, by simp only [over, overL, Nat.reduceAdd, h13]; rfl, brf⟩
  intro f w5 hb5 hv
  have h4 : f 4 = .bool false := hv.2.2.2.2.2.2.2.2.2.1
  have HB5 : Hid (Below w.heap.size w w5) := HB.out.trans (hb5.mono HB.out.size)
  clear hb5 hv
  simp only [over, overL, Nat.reduceAdd, h4]
  clear h4
  refine HKK.out _ _ ?_
  go_wp2
  go_ret
  exact ⟨ret_bool HQ.out.symm, HB5.out⟩
end Go.Proofs.YtfadmpnpgiceeaaGreat

/- workcellref: PlaceLess, SameFluid, SeatAt walked. -/
namespace Go.Proofs.YtfadmpnpgiceeaaGreat
open Go.RowKit Go.Maps
set_option maxHeartbeats 1600000 in
theorem refSame_any (ao ao' : Option Addr) (cap cap' : Nat) (ps qs : List F.Pc) (w : World) (h : F.Fl w ao ps) (h' : F.Fl w ao' qs) (hl : ps.length ≤ 1000000000000) :
  Calls Tryz.prog 12 #[.slice ao ps.length cap, .slice ao' qs.length cap'] w fun e w' => e = .returned (.bool (decide (ps = qs))) ∧ ∃ n, w' = w.drewN n := by
 have HF : Hid (F.Fl w ao ps) := h
 have HF' : Hid (F.Fl w ao' qs) := h'
 clear h h'
 by_cases hlen : ps.length = qs.length
 rotate_left
 ·have HQ : Hid (decide (ps = qs) = false) := by show _ = _; rw [decide_eq_false_iff_not]; exact fun e => hlen (by rw [e])
  have hne : ((ps.length : Int) != (qs.length : Int)) = true := by simp; omega
  clear hlen
  go_enter Tryz.func12, Tryz.ntmps12
  go_wp2
  go_ret
  exact ⟨ret_bool HQ.out.symm, 0, rfl⟩
 have HLEN : Hid (ps.length = qs.length) := hlen
 have hne : ((ps.length : Int) != (qs.length : Int)) = false := by simp; omega
 clear hlen
 go_enter Tryz.func12, Tryz.ntmps12
 go_wp2
 go_loopw [5] (fun i wr => ∃ k : Nat, k ≤ ps.length ∧ i = .int .i64 k ∧ ps.take k = qs.take k ∧ ∃ n, wr = w.drewN n) (fun i _ => ps.length - (intOf i).toNat)
 case atStart => exact ⟨0, Nat.zero_le _, rfl, rfl, 0, rfl⟩
 case round =>
  obtain ⟨k, hk, rfl, htk, n, rfl⟩ := hrel
  have HTK : Hid (ps.take k = qs.take k) := htk
  clear htk
  by_cases hlt : k < ps.length
  ·have hlt' : k < qs.length := by rw [← HLEN.out]; exact hlt
   obtain ⟨b, off, rfl, hb, c0, c1, _⟩ := HF.out.at hlt
   obtain ⟨b', off', rfl, hb', c0', c1', _⟩ := HF'.out.at hlt'
   have HN : Hid (ps[k]'hlt = qs[k]'hlt' → ps.take (k + 1) = qs.take (k + 1)) := fun e => by rw [List.take_succ_eq_append_getElem hlt, List.take_succ_eq_append_getElem hlt', HTK.out, e]
   have HD : Hid (ps[k]'hlt ≠ qs[k]'hlt' → ps ≠ qs) := fun hne e => hne (by subst e; rfl)
   generalize ps[k]'hlt = p at *
   generalize qs[k]'hlt' = q at *
   obtain ⟨l1, v1⟩ := p
   obtain ⟨l2, v2⟩ := q
   simp only at c0 c1 c0' c1'
   have hpn := fun W => pc_neq W l1 l2 v1 v2
   by_cases he : (l1, v1) = (l2, v2)
   ·have HT : Hid (_) := HN.out he
    simp only [he, decide_true, Bool.not_true] at hpn
    clear he HN HD
    go_wp2
    go_big_quiet (fail)
    go_wp2
    go_roundw
    case rel => exact ⟨k + 1, by omega, by go_num, HT.out, n + nq, by simp⟩
    case measure => simp [intOf]; omega
   ·have HT : Hid (decide (ps = qs) = false) := by show _ = _; rw [decide_eq_false_iff_not]; exact HD.out he
    simp only [he, decide_false, Bool.not_false] at hpn
    clear he HN HD
    go_wp2
    go_big_quiet (fail)
    go_wp2
    go_ret
    exact ⟨ret_bool HT.out.symm, n + nq, by simp⟩
  ·have HT : Hid (decide (ps = qs) = true) := by
    show _ = _
    rw [decide_eq_true_iff]
    have := HTK.out
    rwa [List.take_of_length_le (by omega), List.take_of_length_le (by rw [← HLEN.out]; omega)] at this
   go_wp2
   go_ret
   exact ⟨ret_bool HT.out.symm, n, rfl⟩
set_option maxHeartbeats 1600000 in
theorem placeLess_any (p q : Plc) (w : World) : Calls Tryz.prog 33 #[plv p, plv q] w fun e w' => e = .returned (.bool (pltB p q)) ∧ Below w.heap.size w w' := by
 have hB : Below w.heap.size w ((w.alloc (pobj p)).alloc (pobj q)) := ((brf).alloc (Nat.le_refl _) _).alloc (by simp) _
 have HB : Hid (Below w.heap.size w ((w.alloc (pobj p)).alloc (pobj q))) := hB
 clear hB
 by_cases h1 : p.1 = q.1
 ·have n1 : (p.1 != q.1) = false := by simp [h1]
  by_cases h2 : p.2.2 = q.2.2
  ·have n2 : (p.2.2 != q.2.2) = false := by simp [h2]
   have HR : Hid (pltB p q = decide (p.2.1 < q.2.1)) := by
    show _ = _
    rw [Bool.eq_iff_iff, plt_iff, decide_eq_true_eq]
    omega
   clear h1 h2
   go_enter Tryz.func33, Tryz.ntmps33
   go_wp2
   go_ret
   exact ⟨ret_bool HR.out.symm, HB.out⟩
  ·have n2 : (p.2.2 != q.2.2) = true := by simp [h2]
   have HR : Hid (pltB p q = decide (p.2.2 < q.2.2)) := by
    show _ = _
    rw [Bool.eq_iff_iff, plt_iff, decide_eq_true_eq]
    omega
   clear h1 h2
   go_enter Tryz.func33, Tryz.ntmps33
   go_wp2
   go_ret
   exact ⟨ret_bool HR.out.symm, HB.out⟩
 ·have n1 : (p.1 != q.1) = true := by simp [h1]
  have HR : Hid (pltB p q = decide (p.1 < q.1)) := by
   show _ = _
   rw [Bool.eq_iff_iff, plt_iff, decide_eq_true_eq]
   omega
  clear h1
  go_enter Tryz.func33, Tryz.ntmps33
  go_wp2
  go_ret
  exact ⟨ret_bool HR.out.symm, HB.out⟩
def seatAt (l : List Sit) (n : Int) : Int := match l.findIdx? fun s => s.slot == n with
 | some i => i
 | none => -1
theorem seatAt_hit {l : List Sit} {n : Int} {k : Nat} (hk : k < l.length) (h : ∀ s ∈ l.take k, (s.slot == n) = false) (hs : ((l[k]'hk).slot == n) = true) : seatAt l n = k := by
 unfold seatAt
 have : l.findIdx? (fun s => s.slot == n) = some k := by
  rw [List.findIdx?_eq_some_iff_getElem]
  refine ⟨hk, hs, fun j hj => ?_⟩
  have := h (l[j]'(by omega)) (by rw [List.mem_take_iff_getElem]; exact ⟨j, by omega, rfl⟩)
  simp [this]
 rw [this]
theorem seatAt_none {l : List Sit} {n : Int} (h : ∀ s ∈ l, (s.slot == n) = false) : seatAt l n = -1 := by
 unfold seatAt
 have : l.findIdx? (fun s => s.slot == n) = none := by
  rw [List.findIdx?_eq_none_iff]
  intro s hs
  exact h s hs
 rw [this]
set_option maxHeartbeats 1600000 in
theorem seatAt_any (ao : Option Addr) (cap : Nat) (l : List Sit) (n : Int) (w : World) (hD : Dk w ao cap l) (hln : l.length ≤ 9223372036854775807) :
  Calls Tryz.prog 71 #[.slice ao l.length cap, .int .i64 n] w fun e w' => e = .returned (.int .i64 (seatAt l n)) ∧ w' = w := by
 have HD : Hid (Dk w ao cap l) := hD
 clear hD
 go_enter Tryz.func71, Tryz.ntmps71
 go_wp2
 go_loopw [5] (fun i wr => ∃ k : Nat, k ≤ l.length ∧ i = .int .i64 k ∧ (∀ s ∈ l.take k, (s.slot == n) = false) ∧ w = wr) (fun i _ => l.length - (intOf i).toNat)
 case atStart => exact ⟨0, Nat.zero_le _, rfl, (fun s hs => by simp at hs), rfl⟩
 case round =>
  obtain ⟨k, hk, rfl, ha, hwr⟩ := hrel
  subst hwr
  have HA : Hid (∀ s ∈ l.take k, (s.slot == n) = false) := ha
  clear ha
  by_cases hlt : k < l.length
  ·obtain ⟨b, off, hao, hc⟩ := HD.out.sts.at hlt
   have HN : Hid (((l[k]'hlt).slot == n) = false → ∀ s ∈ l.take (k + 1), (s.slot == n) = false) := fun h s hs => by
    rw [List.take_succ_eq_append_getElem hlt] at hs
    rcases List.mem_append.1 hs with hs | hs
    ·exact HA.out s hs
    ·rw [List.mem_singleton] at hs; rw [hs]; exact h
   have HH : Hid (((l[k]'hlt).slot == n) = true → seatAt l n = k) := fun h => seatAt_hit hlt HA.out h
   generalize l[k]'hlt = z at *
   subst hao
   have c0 := hc.c0
   have hki : (k : Int) < (l.length : Int) := by omega
   cases hz : (z.slot == n) with
   | true =>
    have HQ : Hid (seatAt l n = k) := HH.out hz
    clear hc HN HH
    go_wp2
    go_ret
    exact ⟨ret_int HQ.out.symm, rfl⟩
   | false =>
    have HM : Hid (_) := HN.out hz
    clear hc HN HH
    go_wp2
    go_roundw
    case rel => exact ⟨k + 1, by omega, by go_num, HM.out, (by first | rfl | trivial)⟩
    case measure => simp [intOf]; omega
  ·have HQ : Hid (seatAt l n = -1) := seatAt_none fun s hs => HA.out s (by rw [List.take_of_length_le (by omega)]; exact hs)
   go_wp2
   go_ret
   exact ⟨ret_int HQ.out.symm, rfl⟩
end Go.Proofs.YtfadmpnpgiceeaaGreat

/- workcellref: within, SpotIn, WellCapacity walked. -/
namespace Go.Proofs.YtfadmpnpgiceeaaGreat
open Go.RowKit Go.Maps
theorem rwithin_any (lo x hi : Int) (w : World) :
  Calls Tryz.prog 37 #[.int .i64 x, .int .i64 lo, .int .i64 hi] w fun e w' => e = .returned (.bool (inR lo hi x)) ∧ w' = w := by
 unfold inR
 by_cases h : lo ≤ x
 ·go_enter Tryz.func37, Tryz.ntmps37
  go_wp2
  go_ret
  exact ⟨by simp [h], rfl⟩
 ·go_enter Tryz.func37, Tryz.ntmps37
  go_wp2
  go_ret
  exact ⟨by simp; omega, rfl⟩
abbrev spv (p : Plc) : Value := .agg #[.int .i64 p.2.1, .int .i64 p.2.2]
set_option maxHeartbeats 1600000 in
theorem spotIn_any (a : Wr) (p : Plc) (w : World) (hr : 1 ≤ a.rows ∧ a.rows ≤ 16) (hc : 1 ≤ a.cols ∧ a.cols ≤ 24) :
  Calls Tryz.prog 72 #[wv a, spv p] w fun e w' => e = .returned (.bool (spotOk p.2.1 p.2.2 a.rows a.cols)) ∧ Below w.heap.size w w' := by
 have w1 : IntKind.i64.wrap (a.rows - 1) = a.rows - 1 := wrap_in (by omega) (by omega)
 have w2 : IntKind.i64.wrap (a.cols - 1) = a.cols - 1 := wrap_in (by omega) (by omega)
 have HB : Hid (∀ o o', Below w.heap.size w ((w.alloc o).alloc o')) := fun o o' => ((brf).alloc (Nat.le_refl _) _).alloc (by simp) _
 have HQ : Hid (spotOk p.2.1 p.2.2 a.rows a.cols = (inR 0 (a.rows - 1) p.2.1 && inR 0 (a.cols - 1) p.2.2)) := rfl
 clear hr hc
 cases h1 : inR 0 (a.rows - 1) p.2.1 with
 | false =>
  have HQ2 : Hid (spotOk p.2.1 p.2.2 a.rows a.cols = false) := by show _ = _; rw [HQ.out, h1]; rfl
  go_enter Tryz.func72, Tryz.ntmps72
  go_wp2_with fail
  refine (rwithin_any 0 p.2.1 (a.rows - 1) _).mono ?_
  rintro e w3 ⟨rfl, rfl⟩
  rw [h1]
  go_wp2
  go_ret
  exact ⟨by rw [HQ2.out]; rfl, HB.out _ _⟩
 | true =>
  have HQ2 : Hid (spotOk p.2.1 p.2.2 a.rows a.cols = inR 0 (a.cols - 1) p.2.2) := by show _ = _; rw [HQ.out, h1]; simp
  go_enter Tryz.func72, Tryz.ntmps72
  go_wp2_with fail
  refine (rwithin_any 0 p.2.1 (a.rows - 1) _).mono ?_
  rintro e w3 ⟨rfl, rfl⟩
  rw [h1]
  go_wp2_with fail
  refine (rwithin_any 0 p.2.2 (a.cols - 1) _).mono ?_
  rintro e w4 ⟨rfl, rfl⟩
  go_wp2
  go_ret
  exact ⟨by rw [HQ2.out]; rfl, HB.out _ _⟩
def wnV (d : Nat) (v : Value) (_ : World) : Prop :=
 match d with
 | 11 => v = .int .i64 (-1)
 | 12 => v = .bool true
 | 13 => v = .bool true
 | 23 => v = .bool true
 | _ => True
theorem wnV_mono (d : Nat) (v : Value) (w w' : World) (h : wnV d v w) (_ : Below w.heap.size w w') : wnV d v w' := h
def wsV (B b off n cap k : Nat) (p : Plc) (z : Sit) (sp : Bool) (d : Nat) (v : Value) (_ : World) : Prop :=
 match d with
 | 11 => v = .int .i64 (k : Int)
 | 12 => v = .bool false
 | 13 => v = .bool false
 | 14 => v = .slice (some ⟨b, off, none⟩) n cap
 | 15 => v = .int .i64 (k : Int)
 | 16 => v = .pointer (some ⟨b, off + k * 14, none⟩)
 | 17 => v = .pointer (some ⟨b, off + k * 14 + 1, none⟩)
 | 18 => v = .agg #[.string z.ware.name, .int .i64 z.ware.kind, .int .i64 z.ware.rows, .int .i64 z.ware.cols, .int .i64 z.ware.x, .int .i64 z.ware.y, .int .i64 z.ware.pitch, .int .i64 z.ware.wid, .int .i64 z.ware.len, .int .i64 z.ware.hei, .int .i64 z.ware.deep, .int .i64 z.ware.cap]
 | 19 => v = .pointer (some ⟨B, 1, none⟩)
 | 20 => v = .agg #[.int .i64 p.2.1, .int .i64 p.2.2]
 | 21 => v = .bool sp
 | 22 => v = .bool (!sp)
 | 23 => v = .bool (!sp)
 | _ => True
theorem wsV_mono (B b off n cap k : Nat) (p : Plc) (z : Sit) (sp : Bool) (d : Nat) (v : Value) (w w' : World) (h : wsV B b off n cap k p z sp d v w) (_ : Below w.heap.size w w') : wsV B b off n cap k p z sp d v w' := h
set_option maxHeartbeats 3200000 in
set_option maxRecDepth 100000 in
theorem wellCap_any (ao : Option Addr) (cap : Nat) (l : List Sit) (p : Plc) (w : World) (hD : Dk w ao cap l) (hd : dchk l = 0) :
  Calls Tryz.prog 31 #[.slice ao l.length cap, plv p] w fun e w' => e = .returned (.tuple #[.int .i64 (wellM l p).1, .int .i64 (wellM l p).2]) ∧ Below w.heap.size w w' := by
 have hl12 := dk_len hd
 obtain ⟨w0, hw0⟩ : ∃ w0, w0 = w.alloc (pobj p) := ⟨_, rfl⟩
 have b0 : Below w.heap.size w w0 := by rw [hw0]; exact (brf).alloc (Nat.le_refl _) _
 have KB : Hid (Bk w.heap.size (pcl p) w0) := by show Bk _ _ _; rw [hw0]; exact Bk.new w (pcl p) 31 w.heap.size rfl
 have HD : Hid (Dk w0 ao cap l) := hD.next b0
 have HB0 : Hid (Below w.heap.size w w0) := b0
 have HW0 : Hid (w0 = w.alloc (pobj p)) := hw0
 clear hD hw0 b0
 have HCS := (show Hid _ from find_cases l p.1)
 go_enter Tryz.func31, Tryz.ntmps31
 go_wp2_with fail
 rw [← HW0.out]
 refine (seatAt_any ao cap l p.1 w0 HD.out (by omega)).mono ?_
 rintro e w1 ⟨rfl, hw1⟩
 have hw2 := hw1.symm
 clear hw1
 subst hw2
 rcases HCS.out with ⟨e1, e2⟩ | ⟨k, h0, e1, e2, e3⟩
 ·have HQ : Hid (wellM l p = (0, 5)) := by show _ = _; unfold wellM wareOf; rw [e1]
  rw [seatAt_none e2]
  clear e1 e2 HCS
  go_wp2_with fail
  rename_i KK hkk
  have HKK := (show Hid _ from hkk)
  clear hkk
  refine region_inv [zf,zf,zf,zf,zf,zf,zf,zf,zf,zf,zf,zt,zt,zt,zt,zt,zt,zt,zt,zt,zt,zt,zt,zt,zf,zf,zf,zf,zf,zf,zf,zf,zf,zf,zf,zf,zf]
   [(11, [], none), (12, [11], none), (13, [12], none), (14, [13], some (13, false)), (15, [13], some (13, false)), (16, [13, 14, 15], some (13, false)), (17, [13, 16], some (13, false)), (18, [13, 17], some (13, false)), (19, [13], some (13, false)), (20, [13, 19], some (13, false)), (21, [13, 18, 20], some (13, false)), (22, [13, 21], some (13, false)), (23, [13, 22], none)]
   wnV (by kernel_rfl) (by kernel_rfl) wnV_mono ?_ ?_
  ·refine ⟨?_, ?_, ?_, ?_, ?_, ?_, ?_, ?_, ?_, ?_, ?_, ?_, ?_, trivial⟩
   ·intro f wA hb _ K hK
    simp only [over, overL, Nat.reduceAdd]
    go_simp
    exact hK _ _ ⟨_, rfl, by simp only [over, overL, Nat.reduceAdd]; rfl, brf⟩
   ·rintro f wA hb ⟨(h11 : f 11 = _), _⟩ K hK
    simp only [over, overL, Nat.reduceAdd, h11]
    go_simp
    exact hK _ _ ⟨_, rfl, by simp only [over, overL, Nat.reduceAdd, h11]; rfl, brf⟩
   ·rintro f wA hb ⟨(h12 : f 12 = _), _⟩ K hK
    simp only [over, overL, Nat.reduceAdd, h12]
    go_simp
    exact hK _ _ ⟨_, rfl, by simp only [over, overL, Nat.reduceAdd, h12]; rfl, brf⟩
   ·rintro f wA hb ⟨(h13 : f 13 = _), _⟩
    exact ⟨fun hg => absurd (h13.symm.trans hg) (by simp), fun _ => trivial⟩
   ·rintro f wA hb ⟨(h13 : f 13 = _), _⟩
    exact ⟨fun hg => absurd (h13.symm.trans hg) (by simp), fun _ => trivial⟩
   ·rintro f wA hb ⟨(h13 : f 13 = _), h14, h15, _⟩
    exact ⟨fun hg => absurd (h13.symm.trans hg) (by simp), fun _ => trivial⟩
   ·rintro f wA hb ⟨(h13 : f 13 = _), h16, _⟩
    exact ⟨fun hg => absurd (h13.symm.trans hg) (by simp), fun _ => trivial⟩
   ·rintro f wA hb ⟨(h13 : f 13 = _), h17, _⟩
    exact ⟨fun hg => absurd (h13.symm.trans hg) (by simp), fun _ => trivial⟩
   ·rintro f wA hb ⟨(h13 : f 13 = _), _⟩
    exact ⟨fun hg => absurd (h13.symm.trans hg) (by simp), fun _ => trivial⟩
   ·rintro f wA hb ⟨(h13 : f 13 = _), h19, _⟩
    exact ⟨fun hg => absurd (h13.symm.trans hg) (by simp), fun _ => trivial⟩
   ·rintro f wA hb ⟨(h13 : f 13 = _), h18, h20, _⟩
    exact ⟨fun hg => absurd (h13.symm.trans hg) (by simp), fun _ => trivial⟩
   ·rintro f wA hb ⟨(h13 : f 13 = _), h21, _⟩
    exact ⟨fun hg => absurd (h13.symm.trans hg) (by simp), fun _ => trivial⟩
   ·rintro f wA hb ⟨(h13 : f 13 = _), h22, _⟩ K hK
    simp only [over, overL, Nat.reduceAdd, h13]
    go_simp
    exact hK _ _ ⟨_, rfl, by simp only [over, overL, Nat.reduceAdd, h13]; rfl, brf⟩
  intro f w2 hb hv
  have h23 : f 23 = _ := hv.2.2.2.2.2.2.2.2.2.2.2.2.1
  have HB2 : Hid (Below w.heap.size w w2) := HB0.out.trans (hb.mono HB0.out.size)
  clear hv hb
  simp only [over, overL, Nat.reduceAdd, h23]
  clear h23
  refine HKK.out _ _ ?_
  go_wp2
  go_ret2
  exact ⟨by rw [HQ.out]; rfl, HB2.out⟩
 ·have hq := ((dchk_in hd).2 k h0).2.1
  have hr := inR_iff.1 (chk_in hq).2.2.1
  have hc := inR_iff.1 (chk_in hq).2.2.2.1
  rw [seatAt_hit h0 e3 (by simp [e2])]
  obtain ⟨b, off, hao, hst⟩ := HD.out.sts.at h0
  generalize l[k]'h0 = z at *
  subst hao
  obtain ⟨sp, hsp⟩ : ∃ sp, spotOk p.2.1 p.2.2 z.ware.rows z.ware.cols = sp := ⟨_, rfl⟩
  have HWM : Hid (wellM l p = if sp = true then (if z.ware.kind = 1 then (z.ware.cap, 0) else (0, 6)) else (0, 5)) := by
   show _ = _
   unfold wellM wareOf
   rw [e1]
   simp only [hsp]
   cases sp <;> rfl
  have HSP : Hid (∀ W, Below w0.heap.size w0 W → Calls Tryz.prog 72 #[wv z.ware, spv p] W fun e w' => e = .returned (.bool sp) ∧ Below W.heap.size W w') := fun W _ => by
   have := spotIn_any z.ware p W hr hc
   rw [hsp] at this
   exact this
  obtain ⟨_, c0, c1, c2, c3, c4, c5, c6, c7, c8, c9, c10, c11, c12, c13⟩ := hst
  have HC2 : Hid (w0.cell? ⟨b, off + k * 14 + 2, none⟩ = some (.int .i64 z.ware.kind)) := c2
  have HC12 : Hid (w0.cell? ⟨b, off + k * 14 + 12, none⟩ = some (.int .i64 z.ware.cap)) := c12
  have hki : (k : Int) < (l.length : Int) := by omega
  clear e1 e2 e3 HCS hq hr hc hsp
  go_wp2_with fail
  rename_i KK hkk
  have HKK := (show Hid _ from hkk)
  clear hkk
  refine region_inv [zf,zf,zf,zf,zf,zf,zf,zf,zf,zf,zf,zt,zt,zt,zt,zt,zt,zt,zt,zt,zt,zt,zt,zt,zf,zf,zf,zf,zf,zf,zf,zf,zf,zf,zf,zf,zf]
   [(11, [], none), (12, [11], none), (13, [12], none), (14, [13], some (13, false)), (15, [13], some (13, false)), (16, [13, 14, 15], some (13, false)), (17, [13, 16], some (13, false)), (18, [13, 17], some (13, false)), (19, [13], some (13, false)), (20, [13, 19], some (13, false)), (21, [13, 18, 20], some (13, false)), (22, [13, 21], some (13, false)), (23, [13, 22], none)]
   (wsV w.heap.size b off l.length cap k p z sp) (by kernel_rfl) (by kernel_rfl) (wsV_mono w.heap.size b off l.length cap k p z sp) ?_ ?_
  ·refine ⟨?_, ?_, ?_, ?_, ?_, ?_, ?_, ?_, ?_, ?_, ?_, ?_, ?_, trivial⟩
   ·intro f wA hb _ K hK
    simp only [over, overL, Nat.reduceAdd]
    go_simp
    exact hK _ _ ⟨_, rfl, by simp only [over, overL, Nat.reduceAdd]; rfl, brf⟩
   ·rintro f wA hb ⟨(h11 : f 11 = _), _⟩ K hK
    simp only [over, overL, Nat.reduceAdd, h11]
    go_simp
    exact hK _ _ ⟨_, rfl, by simp only [over, overL, Nat.reduceAdd, h11]; rfl, brf⟩
   ·rintro f wA hb ⟨(h12 : f 12 = _), _⟩ K hK
    simp only [over, overL, Nat.reduceAdd, h12]
    go_simp
    exact hK _ _ ⟨_, rfl, by simp only [over, overL, Nat.reduceAdd, h12]; rfl, brf⟩
   ·rintro f wA hb ⟨(h13 : f 13 = _), _⟩
    refine ⟨fun _ => ?_, fun hg => absurd h13 hg⟩
    intro K hK
    simp only [over, overL, Nat.reduceAdd, h13]
    go_simp
    exact hK _ _ ⟨_, rfl, by simp only [over, overL, Nat.reduceAdd, h13]; rfl, brf⟩
   ·rintro f wA hb ⟨(h13 : f 13 = _), _⟩
    refine ⟨fun _ => ?_, fun hg => absurd h13 hg⟩
    intro K hK
    simp only [over, overL, Nat.reduceAdd, h13]
    go_simp
    exact hK _ _ ⟨_, rfl, by simp only [over, overL, Nat.reduceAdd, h13]; rfl, brf⟩
   ·rintro f wA hb ⟨(h13 : f 13 = _), (h14 : f 14 = _), (h15 : f 15 = _), _⟩
    refine ⟨fun _ => ?_, fun hg => absurd h13 hg⟩
    intro K hK
    simp only [over, overL, Nat.reduceAdd, h13, h14, h15]
    go_simp
    exact hK _ _ ⟨_, rfl, by simp only [over, overL, Nat.reduceAdd, h13, h14, h15]; rfl, brf⟩
   ·rintro f wA hb ⟨(h13 : f 13 = _), (h16 : f 16 = _), _⟩
    refine ⟨fun _ => ?_, fun hg => absurd h13 hg⟩
    intro K hK
    simp only [over, overL, Nat.reduceAdd, h13, h16]
    go_simp
    exact hK _ _ ⟨_, rfl, by simp only [over, overL, Nat.reduceAdd, h13, h16]; rfl, brf⟩
   ·rintro f wA hb ⟨(h13 : f 13 = _), (h17 : f 17 = _), _⟩
    refine ⟨fun _ => ?_, fun hg => absurd h13 hg⟩
    intro K hK
    have q1 := cell_later hb c1
    have q2 := cell_later hb c2
    have q3 := cell_later hb c3
    have q4 := cell_later hb c4
    have q5 := cell_later hb c5
    have q6 := cell_later hb c6
    have q7 := cell_later hb c7
    have q8 := cell_later hb c8
    have q9 := cell_later hb c9
    have q10 := cell_later hb c10
    have q11 := cell_later hb c11
    have q12 := cell_later hb c12
    simp only [over, overL, Nat.reduceAdd, h13, h17]
    go_simp
    exact hK _ _ ⟨_, rfl, by simp only [over, overL, Nat.reduceAdd, h13, h17]; rfl, brf⟩
   ·rintro f wA hb ⟨(h13 : f 13 = _), _⟩
    refine ⟨fun _ => ?_, fun hg => absurd h13 hg⟩
    intro K hK
    simp only [over, overL, Nat.reduceAdd, h13]
    go_simp
    exact hK _ _ ⟨_, rfl, by simp only [over, overL, Nat.reduceAdd, h13]; rfl, brf⟩
   ·rintro f wA hb ⟨(h13 : f 13 = _), (h19 : f 19 = _), _⟩
    refine ⟨fun _ => ?_, fun hg => absurd h13 hg⟩
    intro K hK
    have q1 := (KB.out.later hb).c 1 rfl
    have q2 := (KB.out.later hb).c 2 rfl
    simp only [over, overL, Nat.reduceAdd, h13, h19]
    go_simp
    exact hK _ _ ⟨_, rfl, by simp only [over, overL, Nat.reduceAdd, h13, h19]; rfl, brf⟩
   ·rintro f wA hb ⟨(h13 : f 13 = _), (h18 : f 18 = _), (h20 : f 20 = _), _⟩
    refine ⟨fun _ => ?_, fun hg => absurd h13 hg⟩
    intro K hK
    simp only [over, overL, Nat.reduceAdd, h13, h18, h20]
    go_simp
    refine ((HSP.out wA hb).mono) ?_
    rintro e w2 ⟨rfl, hb2⟩
    exact hK _ _ ⟨_, rfl, by simp only [over, overL, Nat.reduceAdd, h13, h18, h20]; rfl, hb2⟩
   ·rintro f wA hb ⟨(h13 : f 13 = _), (h21 : f 21 = _), _⟩
    refine ⟨fun _ => ?_, fun hg => absurd h13 hg⟩
    intro K hK
    simp only [over, overL, Nat.reduceAdd, h13, h21]
    go_simp
    exact hK _ _ ⟨_, rfl, by simp only [over, overL, Nat.reduceAdd, h13, h21]; rfl, brf⟩
   ·rintro f wA hb ⟨(h13 : f 13 = _), (h22 : f 22 = _), _⟩ K hK
    simp only [over, overL, Nat.reduceAdd, h13, h22]
    go_simp
    exact hK _ _ ⟨_, rfl, by simp only [over, overL, Nat.reduceAdd, h13, h22]; rfl, brf⟩
  intro f w2 hb hv
  have h23 : f 23 = _ := hv.2.2.2.2.2.2.2.2.2.2.2.2.1
  have HB2 : Hid (Below w.heap.size w w2) := HB0.out.trans (hb.mono HB0.out.size)
  have g2 := cell_later hb HC2.out
  have g12 := cell_later hb HC12.out
  clear hv hb c0 c1 c2 c3 c4 c5 c6 c7 c8 c9 c10 c11 c12 c13
  simp only [over, overL, Nat.reduceAdd, h23]
  clear h23
  refine HKK.out _ _ ?_
  cases sp with
  | false =>
   have HQ : Hid (wellM l p = (0, 5)) := HWM.out
   go_wp2
   go_ret2
   exact ⟨by rw [HQ.out]; rfl, HB2.out⟩
  | true =>
   by_cases hk : z.ware.kind = 1
   ·have HQ : Hid (wellM l p = (z.ware.cap, 0)) := by show _ = _; rw [HWM.out, if_pos rfl, if_pos hk]
    have hk2 : (z.ware.kind != 1) = false := by simp [hk]
    clear hk
    go_wp2
    go_ret2
    exact ⟨by rw [HQ.out]; rfl, HB2.out⟩
   ·have HQ : Hid (wellM l p = (0, 6)) := by show _ = _; rw [HWM.out, if_pos rfl, if_neg hk]
    have hk2 : (z.ware.kind != 1) = true := by simp [hk]
    clear hk
    go_wp2
    go_ret2
    exact ⟨by rw [HQ.out]; rfl, HB2.out⟩
end Go.Proofs.YtfadmpnpgiceeaaGreat

/- workcellref: LabelMay, FluidMay, FluidTotal walked. -/
namespace Go.Proofs.YtfadmpnpgiceeaaGreat.F
open Go.RowKit
set_option maxHeartbeats 400000 in
theorem within_any (n low high : Int) (w : World) :
  Calls Tryz.prog 37 #[.int .i64 n, .int .i64 low, .int .i64 high] w fun e w' => e = .returned (.bool (decide (low ≤ n) && decide (n ≤ high))) ∧ w' = w := by
 by_cases h1 : low ≤ n
 ·by_cases h2 : n ≤ high
  ·go_enter Tryz.func37, Tryz.ntmps37
   go_wp2
   go_ret
   exact ⟨by simp [h1, h2], rfl⟩
  ·go_enter Tryz.func37, Tryz.ntmps37
   go_wp2
   go_ret
   exact ⟨by simp [h2], rfl⟩
 ·go_enter Tryz.func37, Tryz.ntmps37
  go_wp2
  go_ret
  exact ⟨by simp; intro _; omega, rfl⟩
theorem within_yes (n low high : Int) (w : World) (h1 : low ≤ n) (h2 : n ≤ high) :
  Calls Tryz.prog 37 #[.int .i64 n, .int .i64 low, .int .i64 high] w fun e w' => e = .returned (.bool true) ∧ w' = w :=
 (within_any n low high w).mono fun e w' ⟨he, hw⟩ => ⟨by rw [he]; simp [h1, h2], hw⟩
theorem within_no (n low high : Int) (w : World) (h : n < low ∨ high < n) :
  Calls Tryz.prog 37 #[.int .i64 n, .int .i64 low, .int .i64 high] w fun e w' => e = .returned (.bool false) ∧ w' = w :=
 (within_any n low high w).mono fun e w' ⟨he, hw⟩ => ⟨by rw [he]; simp; omega, hw⟩
set_option maxHeartbeats 400000 in
theorem digit_yes (c : Int) (w : World) (h1 : 48 ≤ c) (h2 : c ≤ 57) : Calls Tryz.prog 75 #[.int .u8 c] w fun e w' => e = .returned (.bool true) ∧ w' = w := by
 go_enter Tryz.func75, Tryz.ntmps75
 go_wp2
 go_ret
 exact ⟨rfl, rfl⟩
set_option maxHeartbeats 400000 in
theorem digit_no (c : Int) (w : World) (h : c < 48 ∨ 57 < c) : Calls Tryz.prog 75 #[.int .u8 c] w fun e w' => e = .returned (.bool false) ∧ w' = w := by
 by_cases h1 : 48 ≤ c
 ·have h2 : ¬ c ≤ 57 := by omega
  go_enter Tryz.func75, Tryz.ntmps75
  go_wp2
  go_ret
  exact ⟨rfl, rfl⟩
 ·go_enter Tryz.func75, Tryz.ntmps75
  go_wp2
  go_ret
  exact ⟨rfl, rfl⟩
set_option maxHeartbeats 3200000 in
theorem labelMay_any (s : ByteArray) (w : World) (hs : s.size ≤ maxLen) :
  Calls Tryz.prog 35 #[.string s] w fun e w' => e = .returned (.bool (lab s)) ∧ w' = w := by
 unfold maxLen at hs
 by_cases h1 : s.size < 1 ∨ 16 < s.size
 ·have HB : Hid (lab s = false) := h1.elim lab_short lab_long
  go_enter Tryz.func35, Tryz.ntmps35
  go_wp2_with (go_at_call 37; refine (within_no _ _ _ _ (by omega)).mono ?_; rintro e w' ⟨rfl, rfl⟩)
  go_ret
  exact ⟨ret_bool HB.out.symm, rfl⟩
 have h1' : 1 ≤ s.size := by omega
 have h2' : s.size ≤ 16 := by omega
 clear h1
 go_enter Tryz.func35, Tryz.ntmps35
 go_wp2_with (go_at_call 37; refine (within_yes _ _ _ _ (by omega) (by omega)).mono ?_; rintro e w' ⟨rfl, rfl⟩)
 go_loop [3] (fun i => ∃ pos : Nat, pos ≤ s.size ∧ i = .int .i64 pos ∧ ∀ k (h : k < s.size), k < pos → okAt (s[k]'h) k = true) (fun i => s.size - (intOf i).toNat)
 case atStart => exact ⟨0, Nat.zero_le _, rfl, fun k _ h => absurd h (Nat.not_lt_zero _)⟩
 case round =>
  obtain ⟨pos, hpos, rfl, hgood⟩ := hrel
  have HG : Hid (∀ k (h : k < s.size), k < pos → okAt (s[k]'h) k = true) := hgood
  clear hgood
  by_cases hp : pos < s.size
  ·obtain ⟨c, hc⟩ : ∃ c : UInt8, s[pos]'hp = c := ⟨_, rfl⟩
   have HC : Hid (c = s[pos]'hp) := hc.symm
   by_cases hl : 97 ≤ c.toNat ∧ c.toNat ≤ 122
   ·obtain ⟨l1', l2'⟩ := hl
    have l1 : decide ((97 : Int) ≤ (c.toNat : Int)) = true := by simp; omega
    have l2 : decide ((c.toNat : Int) ≤ 122) = true := by simp; omega
    go_wp2
    go_round
    case rel => exact ⟨pos + 1, by omega, by go_num, good_succ hp HG.out (by rw [← HC.out]; exact okAt_letter l1' l2')⟩
    case measure => simp [intOf]; omega
   ·by_cases h0 : pos = 0
    ·have HB : Hid (lab s = false) := lab_bad hp (by rw [← HC.out]; exact okAt_zero h0 (by omega))
     have h00 : ((pos : Int) == 0) = true := by simp; omega
     clear h0
     rcases (show c.toNat < 97 ∨ 122 < c.toNat by omega) with d | d
     ·have l1 : decide ((97 : Int) ≤ (c.toNat : Int)) = false := by simp; omega
      go_wp2
      go_ret
      exact ⟨ret_bool HB.out.symm, rfl⟩
     ·have l1 : decide ((97 : Int) ≤ (c.toNat : Int)) = true := by simp; omega
      have l2 : decide ((c.toNat : Int) ≤ 122) = false := by simp; omega
      go_wp2
      go_ret
      exact ⟨ret_bool HB.out.symm, rfl⟩
    ·have h00 : ((pos : Int) == 0) = false := by simp; omega
     have h01 : 0 < pos := by omega
     clear h0
     rcases (show c.toNat < 48 ∨ (48 ≤ c.toNat ∧ c.toNat ≤ 57) ∨ (57 < c.toNat ∧ c.toNat < 97) ∨ 122 < c.toNat by omega) with d | ⟨d0, d⟩ | ⟨d0, d⟩ | d
     ·have l1 : decide ((97 : Int) ≤ (c.toNat : Int)) = false := by simp; omega
      go_wp2_with (go_at_call 75; refine (digit_no _ _ (by omega)).mono ?_; rintro e w' ⟨rfl, rfl⟩)
      go_ret
      exact ⟨ret_bool (lab_bad hp (by rw [← HC.out]; exact okAt_no (by omega) (by omega))).symm, rfl⟩
     ·have l1 : decide ((97 : Int) ≤ (c.toNat : Int)) = false := by simp; omega
      go_wp2_with (go_at_call 75; refine (digit_yes _ _ (by omega) (by omega)).mono ?_; rintro e w' ⟨rfl, rfl⟩)
      go_round
      case rel => exact ⟨pos + 1, by omega, by go_num, good_succ hp HG.out (by rw [← HC.out]; exact okAt_digit h01 d0 d)⟩
      case measure => simp [intOf]; omega
     ·have l1 : decide ((97 : Int) ≤ (c.toNat : Int)) = false := by simp; omega
      go_wp2_with (go_at_call 75; refine (digit_no _ _ (by omega)).mono ?_; rintro e w' ⟨rfl, rfl⟩)
      go_ret
      exact ⟨ret_bool (lab_bad hp (by rw [← HC.out]; exact okAt_no (by omega) (by omega))).symm, rfl⟩
     ·have l1 : decide ((97 : Int) ≤ (c.toNat : Int)) = true := by simp; omega
      have l2 : decide ((c.toNat : Int) ≤ 122) = false := by simp; omega
      go_wp2_with (go_at_call 75; refine (digit_no _ _ (by omega)).mono ?_; rintro e w' ⟨rfl, rfl⟩)
      go_ret
      exact ⟨ret_bool (lab_bad hp (by rw [← HC.out]; exact okAt_no (by omega) (by omega))).symm, rfl⟩
  ·go_wp2
   go_ret
   exact ⟨ret_bool (lab_good (by omega) (by omega) (fun k h => HG.out k h (by omega))).symm, rfl⟩
theorem labelMay_yes (s : ByteArray) (w : World) (hs : s.size ≤ maxLen) (h : lab s = true) :
  Calls Tryz.prog 35 #[.string s] w fun e w' => e = .returned (.bool true) ∧ w' = w :=
 (labelMay_any s w hs).mono fun e w' ⟨he, hw⟩ => ⟨by rw [he, h], hw⟩
theorem labelMay_no (s : ByteArray) (w : World) (hs : s.size ≤ maxLen) (h : lab s = false) :
  Calls Tryz.prog 35 #[.string s] w fun e w' => e = .returned (.bool false) ∧ w' = w :=
 (labelMay_any s w hs).mono fun e w' ⟨he, hw⟩ => ⟨by rw [he, h], hw⟩
set_option maxHeartbeats 1600000 in
theorem fluidMay_any (ao : Option Addr) (cap : Nat) (ps : List Pc) (w : World) (h : Fl w ao ps) (hlm : ps.length ≤ 1000000000000000) :
  Calls Tryz.prog 73 #[.slice ao ps.length cap] w fun e w' => e = .returned (.int .i64 (fref ps)) ∧ w' = w := by
 have HF : Hid (Fl w ao ps) := h
 clear h
 by_cases h100 : 100 < ps.length
 ·go_enter Tryz.func73, Tryz.ntmps73
  go_wp2
  go_ret
  exact ⟨ret_int (fref_many h100).symm, rfl⟩
 have h100' : ps.length ≤ 100 := by omega
 have hd : decide (100 < ps.length) = false := by simp; omega
 clear h100
 go_enter Tryz.func73, Tryz.ntmps73
 go_wp2
 go_loop [3, 4] (fun s i => ∃ m : Nat, m ≤ ps.length ∧ i = .int .i64 m ∧ s = .int .i64 (tot (ps.take m)) ∧ badL (ps.take m) = 0) (fun _ i => ps.length - (intOf i).toNat)
 case atStart => exact ⟨0, Nat.zero_le _, rfl, rfl, rfl⟩
 case round =>
  obtain ⟨m, hm, rfl, rfl, hbl⟩ := hrel
  have HBL : Hid (badL (ps.take m) = 0) := hbl
  clear hbl
  have hpi := part_in (ps := ps.take m) (fine_of HBL.out) (by rw [List.length_take]; omega) m
  rw [List.take_take, Nat.min_self] at hpi
  have hp0 := hpi.1
  have hp1 := hpi.2
  clear hpi
  by_cases hlt2 : m < ps.length
  ·obtain ⟨b2, off, rfl, hb2, c0, c1, hsz⟩ := HF.out.at hlt2
   have HA : Hid (bad1 (ps[m]'hlt2) ≠ 0 → fref ps = bad1 (ps[m]'hlt2)) := fun h => by
    have e := badL_at hlt2 HBL.out h
    rw [fref_bad h100' (by rw [e]; exact h), e]
   have HS : Hid (bad1 (ps[m]'hlt2) = 0 → badL (ps.take (m + 1)) = 0) := badL_succ hlt2 HBL.out
   have HT : Hid (tot (ps.take (m + 1)) = tot (ps.take m) + (ps[m]'hlt2).2) := take_get hlt2
   obtain ⟨p, hp⟩ : ∃ p, ps[m]'hlt2 = p := ⟨_, rfl⟩
   rw [hp] at c0 c1 HA HS hsz HT
   clear hp
   obtain ⟨l, v⟩ := p
   simp only at c0 c1 hsz HT
   cases hlab : lab l with
   | false =>
    have HL : Hid (lab l = false) := hlab
    clear hlab
    have e3 : Hid (bad1 (l, v) = 3) := bad1_name HL.out
    go_wp2_with (go_at_call 35; refine (labelMay_no _ _ hsz HL.out).mono ?_; rintro e w2 ⟨rfl, rfl⟩)
    go_ret
    exact ⟨ret_int (by rw [HA.out (by rw [e3.out]; decide), e3.out]), rfl⟩
   | true =>
    have HL : Hid (lab l = true) := hlab
    clear hlab
    by_cases hv : v < 0 ∨ 1000000000 < v
    ·have e3 : Hid (bad1 (l, v) = 2) := bad1_range HL.out hv
     go_wp2_with (first | (go_at_call 35; refine (labelMay_yes _ _ hsz HL.out).mono ?_; rintro e w2 ⟨rfl, rfl⟩) | (go_at_call 37; refine (within_no _ _ _ _ hv).mono ?_; rintro e w2 ⟨rfl, rfl⟩))
     go_ret
     exact ⟨ret_int (by rw [HA.out (by rw [e3.out]; decide), e3.out]), rfl⟩
    ·have hv0 : 0 ≤ v := by omega
     have hv1 : v ≤ 1000000000 := by omega
     clear hv
     have e3 : Hid (bad1 (l, v) = 0) := bad1_ok HL.out hv0 hv1
     go_wp2_with (first | (go_at_call 35; refine (labelMay_yes _ _ hsz HL.out).mono ?_; rintro e w2 ⟨rfl, rfl⟩) | (go_at_call 37; refine (within_yes _ _ _ _ hv0 hv1).mono ?_; rintro e w2 ⟨rfl, rfl⟩))
     go_round
     case rel => exact ⟨m + 1, by omega, by go_num, by rw [HT.out], HS.out e3.out⟩
     case measure => simp [intOf]; omega
  ·have e : Hid (ps.take m = ps) := List.take_of_length_le (by omega)
   have HBL2 : Hid (badL ps = 0) := by have := HBL.out; rw [e.out] at this; exact this
   rw [e.out] at hp0 hp1 ⊢
   by_cases ht : 1000000000 < tot ps
   ·go_wp2
    go_ret
    exact ⟨ret_int (fref_size h100' HBL2.out ht).symm, rfl⟩
   ·go_wp2
    go_ret
    exact ⟨ret_int (fref_ok h100' HBL2.out (by omega)).symm, rfl⟩
set_option maxHeartbeats 800000 in
theorem fluidTotal_any (ao : Option Addr) (cap : Nat) (ps : List Pc) (w : World) (h : Fl w ao ps) (hr : fref ps = 0) :
  Calls Tryz.prog 47 #[.slice ao ps.length cap] w fun e w' => e = .returned (.int .i64 (tot ps)) ∧ w' = w := by
 have HF : Hid (Fl w ao ps) := h
 have HI : Hid (ps.length ≤ 100 ∧ Fine ps ∧ tot ps ≤ 1000000000) := fref_in hr
 have hl := HI.out.1
 clear h hr
 go_enter Tryz.func47, Tryz.ntmps47
 go_wp2
 go_loop [3, 4] (fun s i => ∃ m : Nat, m ≤ ps.length ∧ i = .int .i64 m ∧ s = .int .i64 (tot (ps.take m))) (fun _ i => ps.length - (intOf i).toNat)
 case atStart => exact ⟨0, Nat.zero_le _, rfl, rfl⟩
 case round =>
  obtain ⟨m, hm, rfl, rfl⟩ := hrel
  have hpi := part_in HI.out.2.1 hl m
  have hp0 := hpi.1
  have hp1 := hpi.2
  clear hpi
  by_cases hlt2 : m < ps.length
  ·obtain ⟨b2, off, rfl, hb2, c0, c1, _⟩ := HF.out.at hlt2
   have HT : Hid (tot (ps.take (m + 1)) = tot (ps.take m) + (ps[m]'hlt2).2) := take_get hlt2
   have hv0 := (HI.out.2.1 _ (List.getElem_mem hlt2)).2.1
   have hv1 := (HI.out.2.1 _ (List.getElem_mem hlt2)).2.2
   generalize (ps[m]'hlt2).1 = l at *
   generalize (ps[m]'hlt2).2 = v at *
   go_wp2
   go_round
   case rel => exact ⟨m + 1, by omega, by go_num, by rw [HT.out]⟩
   case measure => simp [intOf]; omega
  ·go_wp2
   go_ret
   exact ⟨ret_int (by rw [List.take_of_length_le (by omega)]), rfl⟩
theorem cells_one {ps : List Pc} : ∀ u ∈ cellsL ps, u.oneCell' = true := by
 intro u hu
 obtain ⟨p, _, hp⟩ := List.mem_flatMap.1 hu
 simp at hp
 rcases hp with rfl | rfl <;> rfl
theorem Fl.cells {w : World} {a : Addr} {ps : List Pc} (h : Fl w (some a) ps) : ∀ (j : Nat) (u : Value), (cellsL ps)[j]? = some u → w.cell? (a.add j) = some u := by
 intro j u hj
 have hlt : j < ps.length * 2 := by
  have := (List.getElem?_eq_some_iff.1 hj).1
  rw [cellsL_length] at this
  exact this
 rcases h.2 with rfl | ⟨b, off, e, _, hc⟩
 ·simp at hlt
 ·injection e with e
  subst e
  have hk : j / 2 < ps.length := by omega
  obtain ⟨c0, c1⟩ := hc (j / 2) hk
  obtain ⟨d0, d1⟩ := cellsL_at hk
  rw [Addr.add_lit]
  rcases (show j = j / 2 * 2 ∨ j = j / 2 * 2 + 1 by omega) with e | e
  ·rw [e, d0] at hj; rw [e, ← hj]; exact c0
  ·rw [e, d1] at hj; rw [e, ← hj]; exact c1
theorem wpList_append_fl (w : World) {ops : Array Oper} {rest : List Oper} {o : Oper} {a : Act} {Q : Exit → Act → World → Prop} (hgd : o.guard = none) (s x : Operand)
  (ho : o.op = .call { callee := .builtin .append, args := #[s, x], argTypes := #[24, 24] }) (base : Nat) (v : Value) (ps : List Pc) (hs : a.eval s = v) (hown : Own w base v ps)
  (ad : Addr) (c : Nat) (qs : List Pc) (hx : a.eval x = .slice (some ad) qs.length c) (hq : Fl w (some ad) qs)
  (hlen : (ps.length + qs.length) * 24 ≤ 140737488355328) (hbase : base ≤ w.heap.size)
  (h : ∀ v' w', Own w' base v' (ps ++ qs) → w.grownBy w' v.ownBlock → Loc w v v' → wpList Tryz.prog ops Q rest (a.put o.dst v') w') :
  wpList Tryz.prog ops Q (o :: rest) a w := by
 obtain ⟨i0, hi, hz0, hz1, hz2⟩ := info_parts Tryz.info64
 refine wpList_append_own_at w hgd s x 24 ho base 64 i0 (.agg #[.string ⟨#[]⟩, .int .i64 0]) 2 24 Tryz.underlying24 hi hz0 hz1 hz2 rfl (by decide) v ps.length (cellsL ps) hs hown ad qs.length c (cellsL qs) hx (cellsL_length qs) hq.cells cells_one ?_ hlen hbase ?_
 ·unfold maxLen; omega
 ·intro v' w' h1 h2 _ h4
  refine h v' w' ?_ h2 (h4.imp id fun e => ⟨_, e, Nat.le_refl _⟩)
  unfold Own
  rw [cellsL_append, List.length_append]
  exact h1
end Go.Proofs.YtfadmpnpgiceeaaGreat.F

/- workcellref: FluidPlain walked. -/
namespace Go.Proofs.YtfadmpnpgiceeaaGreat.F
open Go.RowKit
def Tame (ps : List Pc) : Prop := Nn ps ∧ tot ps ≤ 1000000000000 ∧ ps.length ≤ 1000
theorem Tame.take {ps : List Pc} (h : Tame ps) (m : Nat) : Tame (ps.take m) := ⟨h.1.take m, by have := tot_take_le h.1 m; have := h.2.1; omega, by have := h.2.2; rw [List.length_take]; omega⟩
theorem Tame.ask {ps : List Pc} (h : Tame ps) : (∀ q ∈ plainL ps, 0 ≤ q.2 ∧ q.2 ≤ 1000000000000) ∧ (plainL ps).length ≤ 1000 :=
 ⟨plain_bound h.1 h.2.1, by have := length_plainL ps; have := h.2.2; omega⟩
theorem new_cells (w : World) (u0 u1 : Value) (n : Nat) : ((w.drewN n).alloc (.cells #[u0, u1] 64)).cell? ⟨w.heap.size, 0, none⟩ = some u0 ∧ ((w.drewN n).alloc (.cells #[u0, u1] 64)).cell? ⟨w.heap.size, 1, none⟩ = some u1 := by
 have e : w.heap.size = (w.drewN n).heap.size := rfl
 rw [e]
 generalize w.drewN n = x
 exact ⟨by go_simp, by go_simp⟩
theorem Own.store {w : World} {base g cap : Nat} {A : List Pc} {l : ByteArray} {m k : Int} (h : Own w base (.slice (some ⟨g, 0, none⟩) (A.length + 1) cap) (A ++ [(l, m)])) :
  Own (w.setCell ⟨g, A.length * 2 + 1, none⟩ (.int .i64 k)) base (.slice (some ⟨g, 0, none⟩) (A.length + 1) cap) (A ++ [(l, k)]) := by
 unfold Own at h ⊢
 rw [List.length_append, List.length_singleton] at h
 have h1 := (World.ownsRow.stored h (A.length * 2 + 1) (.int .i64 k)).1
 rw [cellsL_append, cellsL_one, List.length_append, List.length_singleton]
 rw [cellsL_append, cellsL_one, List.set_append_right _ _ (by rw [cellsL_length]; omega), cellsL_length, show A.length * 2 + 1 - A.length * 2 = 1 by omega] at h1
 exact h1
set_option maxHeartbeats 1600000 in
theorem fluidPlain_any (ao : Option Addr) (cap : Nat) (ps : List Pc) (w : World) (h : Fl w ao ps) (ht : Tame ps) :
  Calls Tryz.prog 74 #[.slice ao ps.length cap] w fun e w' => ∃ v, e = .returned v ∧ Own w' w.heap.size v (plainL ps) ∧ Below w.heap.size w w' := by
 have HF : Hid (Fl w ao ps) := h
 have HT : Hid (Tame ps) := ht
 have hl := ht.2.2
 clear h ht
 go_enter Tryz.func74, Tryz.ntmps74
 go_wp2
 go_loopw [3, 4] (fun v i wr => ∃ m : Nat, m ≤ ps.length ∧ i = .int .i64 m ∧ Own wr w.heap.size v (plainL (ps.take m)) ∧ Below w.heap.size w wr) (fun _ i _ => ps.length - (intOf i).toNat)
 case atStart => exact ⟨0, Nat.zero_le _, rfl, Own.nil _ _, brf⟩
 case round =>
  obtain ⟨m, hm, rfl, hown, hb⟩ := hrel
  have HB : Hid (Below w.heap.size w wr) := hb
  clear hb
  by_cases hlt : m < ps.length
  ·obtain ⟨b, off, rfl, hbw, c0, c1, _⟩ := (HF.out.next HB.out).at hlt
   have hbw' : b < w.heap.size := by
    obtain ⟨b', off', e, hb', _⟩ := HF.out.at hlt
    injection e with e
    injection e with e _ _
    omega
   have HP : Hid (plainL (ps.take (m + 1)) = behind (plainL (ps.take m)) (ps[m]'hlt)) := by
    rw [List.take_succ_eq_append_getElem hlt, plainL_snoc]; rfl
   have hv0 := HT.out.1 _ (List.getElem_mem hlt)
   have hv1 := le_tot HT.out.1 _ (List.getElem_mem hlt)
   have hv2 : (ps[m]'hlt).2 ≤ 1000000000000 := by have := HT.out.2.1; omega
   clear hv1
   have HA : Hid ((∀ q ∈ plainL (ps.take m), 0 ≤ q.2 ∧ q.2 ≤ 1000000000000) ∧ (plainL (ps.take m)).length ≤ 1000) := (HT.out.take m).ask
   obtain ⟨p, hp⟩ : ∃ p, ps[m]'hlt = p := ⟨_, rfl⟩
   rw [hp] at c0 c1 HP hv0 hv2
   clear hp
   obtain ⟨l, n⟩ := p
   simp only at c0 c1 hv0 hv2
   have hsz := HB.out.size
   by_cases hn : n = 0
   ·subst hn
    have HP2 : Hid (plainL (ps.take (m + 1)) = plainL (ps.take m)) := by rw [HP.out, behind_zero rfl]; rfl
    obtain ⟨ao1, n1, cap1, rfl⟩ := hown.form
    have HO : Hid (Own wr w.heap.size (.slice ao1 n1 cap1) (plainL (ps.take m))) := hown
    clear hown
    go_wp2
    go_roundw
    case rel => exact ⟨m + 1, by omega, by go_num, by rw [HP2.out]; exact HO.out, HB.out⟩
    case measure => simp [intOf]; omega
   have hnz : (n == 0) = false := by simp [hn]
   rcases snoc_cases (plainL (ps.take m)) with he | ⟨A, q, he⟩
   ·rw [he] at hown HP HA
    clear he
    have HP2 : Hid (plainL (ps.take (m + 1)) = [(l, n)]) := by rw [HP.out, behind_nil hn]; rfl
    obtain ⟨ao1, cap1, rfl⟩ := hown.shape
    simp only [List.length_nil] at hown ⊢
    have HO : Hid (Own wr w.heap.size (.slice ao1 0 cap1) []) := hown
    clear hown
    go_wp2
    go_big_quiet (fail)
    go_wp2_with (at_builtin; refine wpList_append_pc _ rfl (.tmp 50) (.tmp 55) rfl w.heap.size (.slice ao1 0 cap1) [] rfl ((HO.out.drewN nq).alloc _) wr.heap.size l n rfl (new_cells _ _ _ _).1 (new_cells _ _ _ _).2 (by simp) (by simp; omega) ?_; intro v' w1 ho hg _)
    have HO3 : Hid (Own w1 w.heap.size v' (plainL (ps.take (m + 1)))) := by rw [HP2.out]; exact ho
    have HB3 : Hid (Below w.heap.size w w1) := below_grown (v := .slice ao1 0 cap1) (ps := []) ((below_drewN HB.out nq).alloc (by simp; omega) _) ((HO.out.drewN nq).alloc _) hg (by simp; omega)
    clear ho hg
    go_wp2
    go_roundw
    case rel => exact ⟨m + 1, by omega, by go_num, HO3.out, HB3.out⟩
    case measure => simp [intOf]; omega
   ·rw [he] at hown HP HA
    clear he
    obtain ⟨g, cap1, rfl, hg, d0, d1, f1, hbg⟩ := hown.last
    have HO : Hid (Own wr w.heap.size (.slice (some ⟨g, 0, none⟩) (A.length + 1) cap1) (A ++ [q])) := hown
    clear hown
    have hAl : A.length ≤ 1000 := by have := HA.out.2; simp at this; omega
    have hq := HA.out.1 q (by simp)
    have hq0 := hq.1
    have hq1 := hq.2
    clear hq
    have hgb : g ≠ b := by omega
    obtain ⟨ql, qn⟩ := q
    simp only at d0 d1 hq0 hq1
    by_cases hlab : ql = l
    ·subst hlab
     have HP2 : Hid (plainL (ps.take (m + 1)) = A ++ [(ql, qn + n)]) := by rw [HP.out, behind_same (q := (ql, qn)) (p := (ql, n)) hn rfl]; rfl
     go_wp2
     go_big_quiet (fail)
     go_wp2
     go_region
     go_wp2
     go_roundw
     case rel =>
      refine ⟨m + 1, by omega, by go_num, ?_, (below_drewN HB.out (nq + 1)).setCell (by simp; omega) _⟩
      rw [HP2.out]
      exact (HO.out.drewN (nq + 1)).store
     case measure => simp [intOf]; omega
    ·have HP2 : Hid (plainL (ps.take (m + 1)) = A ++ [(ql, qn)] ++ [(l, n)]) := by rw [HP.out, behind_other (q := (ql, qn)) (p := (l, n)) hn hlab]; rfl
     have hlb : (ql.toList == l.toList) = false := ba_ne hlab
     clear hlab
     go_wp2
     go_big_quiet (fail)
     go_wp2_with (at_builtin; refine wpList_append_pc _ rfl (.tmp 50) (.tmp 55) rfl w.heap.size (.slice (some ⟨g, 0, none⟩) (A.length + 1) cap1) (A ++ [(ql, qn)]) rfl ((HO.out.drewN nq).alloc _) wr.heap.size l n rfl (new_cells _ _ _ _).1 (new_cells _ _ _ _).2 (by simp; omega) (by simp; omega) ?_; intro v' w1 ho hg _)
     have HO3 : Hid (Own w1 w.heap.size v' (plainL (ps.take (m + 1)))) := by rw [HP2.out]; exact ho
     have HB3 : Hid (Below w.heap.size w w1) := below_grown (v := .slice (some ⟨g, 0, none⟩) (A.length + 1) cap1) (ps := A ++ [(ql, qn)]) ((below_drewN HB.out nq).alloc (by simp; omega) _) ((HO.out.drewN nq).alloc _) hg (by simp; omega)
     clear ho hg
     go_wp2
     go_roundw
     case rel => exact ⟨m + 1, by omega, by go_num, HO3.out, HB3.out⟩
     case measure => simp [intOf]; omega
  ·obtain ⟨ao1, n1, cap1, rfl⟩ := hown.form
   have HO : Hid (Own wr w.heap.size (.slice ao1 n1 cap1) (plainL (ps.take m))) := hown
   clear hown
   go_wp2
   go_ret
   exact ⟨.slice ao1 n1 cap1, rfl, by have := HO.out; rw [List.take_of_length_le (by omega)] at this; exact this, HB.out⟩
end Go.Proofs.YtfadmpnpgiceeaaGreat.F
