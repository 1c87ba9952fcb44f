import Derived.Test.YtfadmpnpgiceeaaGreatKt
import Derived.Deep.Cut
import Derived.Deep.CutRange

/- workcellref: StateMay walked. -/
namespace Go.Proofs.YtfadmpnpgiceeaaGreat
open Go.RowKit Go.Maps
structure SmB (m : Sm) : Prop where
 wells : m.wl.length ≤ 1000000000
 fl : ∀ x ∈ m.wl, x.2.2.2.length ≤ 1000000000
 held : m.held.length ≤ 1000000000
 touched : m.touched.length ≤ 1000000000
def TakeR (l : List Sit) (s : Sta) : Prop := mayHold s.held (tipM l) = true ∧ s.touched.length ≤ 100 ∧ (∀ x ∈ s.touched, lab x = true) ∧ RisT s.touched ∧ (∀ p ∈ s.held, p.1 ∈ s.touched) ∧ inR 0 (tipsL l).length s.used = true
theorem touch_iff {s : Sta} {m : Int} (h : mayHold s.held m = true) : mayTouch s.touched s.held = true ↔ s.touched.length ≤ 100 ∧ (∀ x ∈ s.touched, lab x = true) ∧ RisT s.touched ∧ (∀ p ∈ s.held, p.1 ∈ s.touched) := by
 obtain ⟨h1, h2, _⟩ := mayHold_iff.1 h
 have hp := (pl_of h1 h2).1
 rw [mayTouch_iff, withR_iff, wthn_iff (drops_nn _)]
 constructor
 ·rintro ⟨a, b, c, d, e⟩
  refine ⟨a, fun x hx => ((F.fref_in d).2.1 (x, 1) (mem_drops.2 ⟨hx, rfl⟩)).1, b, fun p hpm => ?_⟩
  obtain ⟨q, hq, e1, _⟩ := e p hpm (hp p hpm)
  rw [← e1]
  exact (mem_drops.1 hq).1
 ·rintro ⟨a, b, c, d⟩
  exact ⟨a, c, h1, fref_drops a b, fun p hpm _ => ⟨(p.1, 1), mem_drops.2 ⟨d p hpm, rfl⟩, rfl, Int.zero_lt_one⟩⟩
theorem take_yes {l : List Sit} {s : Sta} (ht : s.tip = true) (hu : s.used ≠ 0) : mayTake l s = true ↔ TakeR l s := by
 unfold mayTake TakeR
 rw [if_pos ht]
 simp only [Bool.and_eq_true]
 constructor
 ·rintro ⟨a, b, c⟩
  obtain ⟨c1, c2, c3, c4⟩ := (touch_iff b).1 c
  have := inR_iff.1 a
  exact ⟨b, c1, c2, c3, c4, inR_yes (by omega) this.2⟩
 ·rintro ⟨b, c1, c2, c3, c4, a⟩
  have := inR_iff.1 a
  exact ⟨inR_yes (by omega) this.2, b, (touch_iff b).2 ⟨c1, c2, c3, c4⟩⟩
theorem take_zero {l : List Sit} {s : Sta} (ht : s.tip = true) (hu : s.used = 0) : mayTake l s = false := by
 unfold mayTake
 rw [if_pos ht, inR_no (by omega)]
 rfl
theorem take_no {l : List Sit} (hd : dchk l = 0) {s : Sta} (ht : s.tip = false) (hh : s.held = []) (htt : s.touched = []) : mayTake l s = true ↔ TakeR l s := by
 unfold mayTake TakeR
 rw [if_neg (by rw [ht]; decide), hh, htt]
 simp only [Bool.and_eq_true]
 constructor
 ·rintro ⟨a, _⟩
  exact ⟨mayHold_nil (tipM_in hd).1, by simp, (fun x hx => by cases hx), List.Pairwise.nil, (fun x hx => by cases hx), a⟩
 ·rintro ⟨_, _, _, _, _, a⟩
  exact ⟨a, by simp⟩
theorem take_some {l : List Sit} {s : Sta} (ht : s.tip = false) (h : s.held ≠ [] ∨ s.touched ≠ []) : mayTake l s = false := by
 unfold mayTake
 rw [if_neg (by rw [ht]; decide)]
 rcases h with h | h
 ·rw [decide_eq_false h]; simp
 ·rw [decide_eq_false h]; simp
def badTip (m : Sm) : Bool := if m.tip = true then m.used == 0 else !(decide (m.held = []) && decide (m.touched = []))
theorem tip_bad {l : List Sit} {m : Sm} (h : badTip m = true) : mayTake l m.st = false := by
 unfold badTip at h
 split at h
 ·rename_i ht
  exact take_zero ht (show m.used = 0 by simpa using h)
 ·rename_i ht
  refine take_some (show m.tip = false by simpa using ht) ?_
  by_cases h1 : m.held = []
  ·right; intro h2
   rw [show m.st.touched = m.touched from rfl] at h2
   rw [decide_eq_true h1, decide_eq_true h2] at h
   cases h
  ·exact .inl h1
theorem tip_good {l : List Sit} (hd : dchk l = 0) {m : Sm} (h : badTip m = false) : mayTake l m.st = true ↔ TakeR l m.st := by
 unfold badTip at h
 split at h
 ·rename_i ht
  exact take_yes ht (show m.used ≠ 0 by simpa using h)
 ·rename_i ht
  simp only [Bool.not_eq_false', Bool.and_eq_true, decide_eq_true_eq] at h
  exact take_no hd (show m.tip = false by simpa using ht) h.1 h.2
theorem mayS_no {l : List Sit} {s : Sta} (h : ¬ (mayFill l s.wells = true ∧ mayTake l s = true)) : mayS l s = false := by
 cases e : mayS l s with
 | false => rfl
 | true =>
  unfold mayS mayB at e
  simp only [Bool.and_eq_true] at e
  exact absurd ⟨e.2.1, e.2.2.1⟩ h
theorem mayS_yes {l : List Sit} {s : Sta} (hd : dchk l = 0) (hf : mayFill l s.wells = true) (ht : mayTake l s = true) : mayS l s = (inR 0 1000000000 s.heat && inR 0 1000000000 s.clock) := by
 unfold mayS mayB
 rw [decide_eq_true hd, hf, ht]
 rfl
set_option linter.unusedVariables false in
def saV (S b off n cW J k : Nat) (x y : Plc) (d : Nat) (v : Value) (_ : World) : Prop :=
 match d with
 | 54 => v = .int .i64 (J : Int)
 | 55 => v = .bool true
 | 56 => v = .bool true
 | 57 => v = .pointer (some ⟨S, 0, none⟩)
 | 58 => v = .slice (some ⟨b, off, none⟩) n cW
 | 59 => v = .int .i64 (J : Int)
 | 60 => v = .int .i64 (k : Int)
 | 61 => v = .pointer (some ⟨b, off + k * 4, none⟩)
 | 62 => v = .pointer (some ⟨b, off + k * 4, none⟩)
 | 63 => v = .agg #[.int .i64 x.1, .int .i64 x.2.1, .int .i64 x.2.2]
 | 64 => v = .pointer (some ⟨S, 0, none⟩)
 | 65 => v = .slice (some ⟨b, off, none⟩) n cW
 | 66 => v = .int .i64 (J : Int)
 | 67 => v = .pointer (some ⟨b, off + J * 4, none⟩)
 | 68 => v = .pointer (some ⟨b, off + J * 4, none⟩)
 | 69 => v = .agg #[.int .i64 y.1, .int .i64 y.2.1, .int .i64 y.2.2]
 | 70 => v = .bool true
 | 71 => v = .bool false
 | 72 => v = .bool false
 | _ => True
set_option linter.unusedVariables false in
theorem saV_mono (S b off n cW J k : Nat) (x y : Plc) (d : Nat) (v : Value) (w w' : World) (h : saV S b off n cW J k x y d v w) (_ : Below w.heap.size w w') : saV S b off n cW J k x y d v w' := h
set_option linter.unusedVariables false in
def sbV (S b off n cW J k : Nat) (x y : Plc) (d : Nat) (v : Value) (_ : World) : Prop :=
 match d with
 | 54 => v = .int .i64 (J : Int)
 | 55 => v = .bool true
 | 56 => v = .bool true
 | 57 => v = .pointer (some ⟨S, 0, none⟩)
 | 58 => v = .slice (some ⟨b, off, none⟩) n cW
 | 59 => v = .int .i64 (J : Int)
 | 60 => v = .int .i64 (k : Int)
 | 61 => v = .pointer (some ⟨b, off + k * 4, none⟩)
 | 62 => v = .pointer (some ⟨b, off + k * 4, none⟩)
 | 63 => v = .agg #[.int .i64 x.1, .int .i64 x.2.1, .int .i64 x.2.2]
 | 64 => v = .pointer (some ⟨S, 0, none⟩)
 | 65 => v = .slice (some ⟨b, off, none⟩) n cW
 | 66 => v = .int .i64 (J : Int)
 | 67 => v = .pointer (some ⟨b, off + J * 4, none⟩)
 | 68 => v = .pointer (some ⟨b, off + J * 4, none⟩)
 | 69 => v = .agg #[.int .i64 y.1, .int .i64 y.2.1, .int .i64 y.2.2]
 | 70 => v = .bool false
 | 71 => v = .bool true
 | 72 => v = .bool true
 | _ => True
set_option linter.unusedVariables false in
theorem sbV_mono (S b off n cW J k : Nat) (x y : Plc) (d : Nat) (v : Value) (w w' : World) (h : sbV S b off n cW J k x y d v w) (_ : Below w.heap.size w w') : sbV S b off n cW J k x y d v w' := h
set_option linter.unusedVariables false in
def scV (S : Nat) (ao : Option Addr) (nl cap : Nat) (aoH : Option Addr) (nH cH : Nat) (aoT : Option Addr) (nT cT : Nat) (tm : Int) (d : Nat) (v : Value) (_ : World) : Prop :=
 match d with
 | 97 => v = .pointer (some ⟨S, 2, none⟩)
 | 98 => v = .slice aoH nH cH
 | 99 => v = .slice ao nl cap
 | 100 => v = .int .i64 tm
 | 101 => v = .bool false
 | 102 => v = .bool true
 | 103 => v = .bool true
 | 108 => v = .bool true
 | _ => True
set_option linter.unusedVariables false in
theorem scV_mono (S : Nat) (ao : Option Addr) (nl cap : Nat) (aoH : Option Addr) (nH cH : Nat) (aoT : Option Addr) (nT cT : Nat) (tm : Int) (d : Nat) (v : Value) (w w' : World) (h : scV S ao nl cap aoH nH cH aoT nT cT tm d v w) (_ : Below w.heap.size w w') : scV S ao nl cap aoH nH cH aoT nT cT tm d v w' := h
set_option linter.unusedVariables false in
def sdV (S : Nat) (ao : Option Addr) (nl cap : Nat) (aoH : Option Addr) (nH cH : Nat) (aoT : Option Addr) (nT cT : Nat) (tm : Int) (d : Nat) (v : Value) (_ : World) : Prop :=
 match d with
 | 97 => v = .pointer (some ⟨S, 2, none⟩)
 | 98 => v = .slice aoH nH cH
 | 99 => v = .slice ao nl cap
 | 100 => v = .int .i64 tm
 | 101 => v = .bool true
 | 102 => v = .bool false
 | 103 => v = .bool false
 | 104 => v = .pointer (some ⟨S, 3, none⟩)
 | 105 => v = .slice aoT nT cT
 | 106 => v = .int .i64 (nT : Int)
 | 107 => v = .bool true
 | 108 => v = .bool true
 | _ => True
set_option linter.unusedVariables false in
theorem sdV_mono (S : Nat) (ao : Option Addr) (nl cap : Nat) (aoH : Option Addr) (nH cH : Nat) (aoT : Option Addr) (nT cT : Nat) (tm : Int) (d : Nat) (v : Value) (w w' : World) (h : sdV S ao nl cap aoH nH cH aoT nT cT tm d v w) (_ : Below w.heap.size w w') : sdV S ao nl cap aoH nH cH aoT nT cT tm d v w' := h
set_option linter.unusedVariables false in
def seV (S : Nat) (ao : Option Addr) (nl cap : Nat) (aoH : Option Addr) (nH cH : Nat) (aoT : Option Addr) (nT cT : Nat) (tm : Int) (d : Nat) (v : Value) (_ : World) : Prop :=
 match d with
 | 97 => v = .pointer (some ⟨S, 2, none⟩)
 | 98 => v = .slice aoH nH cH
 | 99 => v = .slice ao nl cap
 | 100 => v = .int .i64 tm
 | 101 => v = .bool true
 | 102 => v = .bool false
 | 103 => v = .bool false
 | 104 => v = .pointer (some ⟨S, 3, none⟩)
 | 105 => v = .slice aoT nT cT
 | 106 => v = .int .i64 (nT : Int)
 | 107 => v = .bool false
 | 108 => v = .bool false
 | _ => True
set_option linter.unusedVariables false in
theorem seV_mono (S : Nat) (ao : Option Addr) (nl cap : Nat) (aoH : Option Addr) (nH cH : Nat) (aoT : Option Addr) (nT cT : Nat) (tm : Int) (d : Nat) (v : Value) (w w' : World) (h : seV S ao nl cap aoH nH cH aoT nT cT tm d v w) (_ : Below w.heap.size w w') : seV S ao nl cap aoH nH cH aoT nT cT tm d v w' := h
set_option linter.unusedVariables false in
def sfV (S b off n cT J : Nat) (y : ByteArray) (d : Nat) (v : Value) (_ : World) : Prop :=
 match d with
 | 116 => v = .pointer (some ⟨S, 3, none⟩)
 | 117 => v = .slice (some ⟨b, off, none⟩) n cT
 | 118 => v = .int .i64 (J : Int)
 | 119 => v = .pointer (some ⟨b, off + J, none⟩)
 | 120 => v = .string y
 | 121 => v = .bool false
 | 122 => v = .bool true
 | 123 => v = .bool true
 | 126 => v = undef
 | 140 => v = .bool true
 | _ => True
set_option linter.unusedVariables false in
theorem sfV_mono (S b off n cT J : Nat) (y : ByteArray) (d : Nat) (v : Value) (w w' : World) (h : sfV S b off n cT J y d v w) (_ : Below w.heap.size w w') : sfV S b off n cT J y d v w' := h
set_option linter.unusedVariables false in
def slV (S : Nat) (ao : Option Addr) (nl cap nt : Nat) (us he cl : Int) (c3 : Bool) (d : Nat) (v : Value) (_ : World) : Prop :=
 match d with
 | 158 => v = .pointer (some ⟨S, 4, none⟩)
 | 159 => v = .int .i64 us
 | 160 => v = .slice ao nl cap
 | 161 => ∃ aoV capV, v = .slice aoV nt capV
 | 162 => v = .int .i64 (nt : Int)
 | 163 => v = .bool false
 | 164 => v = .bool false
 | 168 => v = .bool false
 | 169 => v = .bool false
 | 173 => v = .bool false
 | 4 => v = .bool false
 | _ => True
set_option linter.unusedVariables false in
theorem slV_mono (S : Nat) (ao : Option Addr) (nl cap nt : Nat) (us he cl : Int) (c3 : Bool) (d : Nat) (v : Value) (w w' : World) (h : slV S ao nl cap nt us he cl c3 d v w) (_ : Below w.heap.size w w') : slV S ao nl cap nt us he cl c3 d v w' := h
set_option linter.unusedVariables false in
def snV (S : Nat) (ao : Option Addr) (nl cap nt : Nat) (us he cl : Int) (c3 : Bool) (d : Nat) (v : Value) (_ : World) : Prop :=
 match d with
 | 158 => v = .pointer (some ⟨S, 4, none⟩)
 | 159 => v = .int .i64 us
 | 160 => v = .slice ao nl cap
 | 161 => ∃ aoV capV, v = .slice aoV nt capV
 | 162 => v = .int .i64 (nt : Int)
 | 163 => v = .bool true
 | 164 => v = .bool true
 | 165 => v = .pointer (some ⟨S, 5, none⟩)
 | 166 => v = .int .i64 he
 | 167 => v = .bool false
 | 168 => v = .bool false
 | 169 => v = .bool false
 | 173 => v = .bool false
 | 4 => v = .bool false
 | _ => True
set_option linter.unusedVariables false in
theorem snV_mono (S : Nat) (ao : Option Addr) (nl cap nt : Nat) (us he cl : Int) (c3 : Bool) (d : Nat) (v : Value) (w w' : World) (h : snV S ao nl cap nt us he cl c3 d v w) (_ : Below w.heap.size w w') : snV S ao nl cap nt us he cl c3 d v w' := h
set_option linter.unusedVariables false in
def spV (S : Nat) (ao : Option Addr) (nl cap nt : Nat) (us he cl : Int) (c3 : Bool) (d : Nat) (v : Value) (_ : World) : Prop :=
 match d with
 | 158 => v = .pointer (some ⟨S, 4, none⟩)
 | 159 => v = .int .i64 us
 | 160 => v = .slice ao nl cap
 | 161 => ∃ aoV capV, v = .slice aoV nt capV
 | 162 => v = .int .i64 (nt : Int)
 | 163 => v = .bool true
 | 164 => v = .bool true
 | 165 => v = .pointer (some ⟨S, 5, none⟩)
 | 166 => v = .int .i64 he
 | 167 => v = .bool true
 | 168 => v = .bool true
 | 169 => v = .bool true
 | 170 => v = .pointer (some ⟨S, 6, none⟩)
 | 171 => v = .int .i64 cl
 | 172 => v = .bool c3
 | 173 => v = .bool c3
 | 4 => v = .bool c3
 | _ => True
set_option linter.unusedVariables false in
theorem spV_mono (S : Nat) (ao : Option Addr) (nl cap nt : Nat) (us he cl : Int) (c3 : Bool) (d : Nat) (v : Value) (w w' : World) (h : spV S ao nl cap nt us he cl c3 d v w) (_ : Below w.heap.size w w') : spV S ao nl cap nt us he cl c3 d v w' := h
set_option maxHeartbeats 12800000 in
set_option maxRecDepth 100000 in
theorem stateMay_any (ao : Option Addr) (cap : Nat) (l : List Sit) (m : Sm) (w : World) (hD : Dk w ao cap l) (hln : l.length ≤ 9223372036854775807) (hS : SmIn w m) (hl : SmB m) :
  Calls Tryz.prog 11 #[.slice ao l.length cap, smv m] w fun e w' => e = .returned (.bool (mayS l m.st)) ∧ Below w.heap.size w w' := by
 have HS : Hid (SmIn w m) := hS
 have HD : Hid (Dk w ao cap l) := hD
 have HL : Hid (SmB m) := hl
 have hwb := hl.wells
 clear hS hD hl
 obtain ⟨w0, hw0⟩ : ∃ w0, w0 = w.alloc (smo m) := ⟨_, rfl⟩
 have HB0 : Hid (Below w.heap.size w w0) := by show Below _ _ _; rw [hw0]; exact (brf).alloc (Nat.le_refl _) _
 have KS0 : Hid (Bk w.heap.size (sml m) w0) := by show Bk _ _ _; rw [hw0]; exact Bk.new w (sml m) 27 w.heap.size rfl
 have HW0 : Hid (w0 = w.alloc (smo m)) := hw0
 clear hw0
 go_enter Tryz.func11, Tryz.ntmps11
 go_wp2_with fail
 rw [← HW0.out]
 refine (deckMay_any ao cap l w0 (HD.out.next HB0.out) hln).mono ?_
 rintro e wa ⟨r, rfl, hr, hb1⟩
 have HBwa : Hid (Below w.heap.size w wa) := HB0.out.trans (hb1.mono HB0.out.size)
 have KSwa : Hid (Bk w.heap.size (sml m) wa) := KS0.out.later hb1
 clear hb1
 by_cases hd : dchk l = 0
 rotate_left
 ·have hr0 : r ≠ 0 := fun h => hd (hr.1 h)
  have HNO : Hid (mayS l m.st = false) := by show _ = _; unfold mayS; rw [decide_eq_false hd]; rfl
  have h2 : (r == 0) = false := by simp [hr0]
  have h3 : (r != 0) = true := by simp [hr0]
  clear hr hr0 hd
  go_wp2
  go_ret
  exact ⟨ret_bool HNO.out.symm, HBwa.out⟩
 obtain rfl : r = 0 := hr.2 hd
 have HDC : Hid (dchk l = 0) := hd
 clear hr hd
 obtain ⟨s0, s1, s2, s3, s4, s5, s6⟩ := (KSwa.out).c7
 go_wp2_with fail
 go_loopw [5] (fun i wr => ∃ k : Nat, k ≤ m.wl.length ∧ i = .int .i64 k ∧ ((whp m.wl).take k).all (wellOk l) = true ∧ Rising ((whp m.wl).take k) ∧ Bk w.heap.size (sml m) wr ∧ Below w.heap.size w wr) (fun i _ => m.wl.length - (intOf i).toNat)
 case atStart => exact ⟨0, Nat.zero_le _, rfl, rfl, List.Pairwise.nil, KSwa.out, HBwa.out⟩
 case round =>
  obtain ⟨J, hJ, rfl, hall, hris, hks, hb⟩ := hrel
  have HBwr : Hid (Below w.heap.size w wr) := hb
  have KSwr : Hid (Bk w.heap.size (sml m) wr) := hks
  have HA : Hid (((whp m.wl).take J).all (wellOk l) = true) := hall
  have HR : Hid (Rising ((whp m.wl).take J)) := hris
  clear hb hks hall hris s0 s1 s2 s3 s4 s5 s6
  obtain ⟨s0, s1, s2, s3, s4, s5, s6⟩ := (KSwr.out).c7
  by_cases hlt : J < m.wl.length
  ·have hJi : (J : Int) < (m.wl.length : Int) := by omega
   obtain ⟨b, off, hao, hx⟩ := (HS.out.next HBwr.out).wells.at hlt
   obtain ⟨y, hy⟩ : ∃ y, y = m.wl[J]'hlt := ⟨_, rfl⟩
   rw [← hy] at hx
   have HYW : Hid (WhAt wr b (off + J * 4) y) := hx
   have HYE : Hid (y = m.wl[J]'hlt) := hy
   have hfl9 : y.2.2.2.length ≤ 1000000000 := by rw [hy]; exact HL.out.fl _ (List.getElem_mem hlt)
   have HNo : Hid (wellOk l (y.1, y.2.2.2) = false → mayS l m.st = false) := fun h => mayS_no fun hh => by have := fill_no hlt (by rw [← hy]; exact h); rw [show m.st.wells = whp m.wl from rfl, this] at hh; cases hh.1
   have HOk : Hid (_) := wellOk_of (l := l) (p := y.1) (f := y.2.2.2)
   obtain ⟨_, c0, c1, c2, c3, _⟩ := hx
   rw [hao] at s0
   clear hy
   go_wp2_with fail
   refine (wellCap_any ao cap l y.1 wr (HD.out.next HBwr.out) HDC.out).mono ?_
   rintro e wb ⟨rfl, hb2⟩
   have HBwb : Hid (Below w.heap.size w wb) := HBwr.out.trans (hb2.mono HBwr.out.size)
   have KSwb0 : Hid (Bk w.heap.size (sml m) wb) := KSwr.out.later hb2
   have HYb : Hid (WhAt wb b (off + J * 4) y) := HYW.out.next hb2
   clear hb2 s0 s1 s2 s3 s4 s5 s6 c0 c1 c2 c3 HYW
   have KSwb : Hid (Bk w.heap.size [.slice (some ⟨b, off, none⟩) m.wl.length m.capW, .bool m.tip, .slice m.aoH m.held.length m.capH, .slice m.aoT m.touched.length m.capT, .int .i64 m.used, .int .i64 m.heat, .int .i64 m.clock] wb) := by show Bk _ _ _; rw [← hao]; exact KSwb0.out
   obtain ⟨s0, s1, s2, s3, s4, s5, s6⟩ := (KSwb.out).c7
   obtain ⟨_, c0, c1, c2, c3, _⟩ := HYb.out
   obtain ⟨⟨mo, e0⟩, hM⟩ : ∃ x, wellM l y.1 = x := ⟨_, rfl⟩
   rw [hM] at HOk ⊢
   simp only at HOk ⊢
   clear hM
   by_cases he : e0 = 0
   rotate_left
   ·have he2 : (e0 != 0) = true := by simp [he]
    have he3 : (e0 == 0) = false := by simp [he]
    have HNO : Hid (mayS l m.st = false) := HNo.out (by rw [HOk.out, decide_eq_false he]; rfl)
    clear he
    go_wp2
    go_ret
    exact ⟨ret_bool HNO.out.symm, HBwb.out⟩
   subst he
   by_cases hf : y.2.2.2 = []
   ·have hf2 := len0_true hf
    have HNO : Hid (mayS l m.st = false) := HNo.out (by rw [HOk.out, decide_eq_false (p := y.2.2.2 ≠ []) (fun h => h hf)]; simp)
    clear hf
    go_wp2
    go_ret
    exact ⟨ret_bool HNO.out.symm, HBwb.out⟩
   have hf2 := len0_false hf
   have HOk2 : Hid (wellOk l (y.1, y.2.2.2) = mayHold y.2.2.2 mo) := by show _ = _; rw [HOk.out, decide_eq_true (p := y.2.2.2 ≠ []) hf]; rfl
   clear hf HOk
   go_wp2_with fail
   refine (plainForm_any y.2.1 y.2.2.1 y.2.2.2 mo wb HYb.out.fl hfl9).mono ?_
   rintro e wc ⟨rfl, hb3⟩
   have HBwc : Hid (Below w.heap.size w wc) := HBwb.out.trans (hb3.mono HBwb.out.size)
   have KSwc0 : Hid (Bk w.heap.size (sml m) wc) := KSwb0.out.later hb3
   have KSwc : Hid (Bk w.heap.size (sml m) wc) := KSwc0
   have KS : Hid (Bk w.heap.size [.slice (some ⟨b, off, none⟩) m.wl.length m.capW, .bool m.tip, .slice m.aoH m.held.length m.capH, .slice m.aoT m.touched.length m.capT, .int .i64 m.used, .int .i64 m.heat, .int .i64 m.clock] wc) := KSwb.out.later hb3
   have HY : Hid (WhAt wc b (off + J * 4) y) := HYb.out.next hb3
   clear hb3 s0 s1 s2 s3 s4 s5 s6 c0 c1 c2 c3 HYb KSwb KSwb0
   cases hh : mayHold y.2.2.2 mo with
   | false =>
    have HNO : Hid (mayS l m.st = false) := HNo.out (by rw [HOk2.out, hh])
    clear hh
    go_wp2
    go_ret
    exact ⟨ret_bool HNO.out.symm, HBwc.out⟩
   | true =>
   have HOk3 : Hid (wellOk l (y.1, y.2.2.2) = true) := by show _ = _; rw [HOk2.out, hh]
   clear hh HOk2 HNo
   rcases (show J = 0 ∨ ∃ j, J = j + 1 from by cases J with | zero => exact .inl rfl | succ j => exact .inr ⟨j, rfl⟩) with h0 | ⟨k, hk⟩
   ·have HSS := (show Hid _ from fill_succ hlt HA.out HR.out (by rw [← HYE.out]; exact HOk3.out) (fun j e => by omega))
    have hJ0 : decide ((0 : Int) < (J : Int)) = false := by simp; omega
    have hJ1 : decide (0 < J) = false := by simp; omega
    clear HYE HA HR h0 hao
    go_wp2
    go_big_quiet (fail)
    go_wp2
    go_roundw
    case rel => exact ⟨J + 1, by omega, by go_num, HSS.out.1, HSS.out.2, KSwc.out.later (blw_drewN (brf) _), blw_drewN HBwc.out _⟩
    case measure => simp [intOf]; omega
   ·have hkl : k < m.wl.length := by omega
    have hJ0 : (0 : Int) < (J : Int) := by omega
    have hJ1 : 0 < J := by omega
    have hwk : IntKind.i64.wrap ((J : Int) - 1) = (k : Int) := by rw [wrap_in (by omega) (by omega)]; omega
    obtain ⟨b', off', hao', hx'⟩ := (HS.out.next HBwc.out).wells.at hkl
    rw [hao] at hao'
    simp only [Option.some.injEq, Addr.mk.injEq, and_true] at hao'
    obtain ⟨rfl, rfl⟩ := hao'
    obtain ⟨x, hx⟩ : ∃ x, x = m.wl[k]'hkl := ⟨_, rfl⟩
    rw [← hx] at hx'
    have HX : Hid (WhAt wc b (off + k * 4) x) := hx'
    have HSn : Hid (pltB x.1 y.1 = true → _) := fun h => fill_succ hlt HA.out HR.out (by rw [← HYE.out]; exact HOk3.out) (fun j e => by obtain rfl : k = j := (by omega); rw [← hx, ← HYE.out]; exact h)
    have HU : Hid (pltB x.1 y.1 = false → mayS l m.st = false) := fun h => by
     subst hk
     exact mayS_no fun hh => by have := fill_unord (l := l) hlt (by rw [← hx, ← HYE.out]; exact h); rw [show m.st.wells = whp m.wl from rfl, this] at hh; cases hh.1
    have HPL0 : Hid (∀ W, Calls Tryz.prog 33 #[plv x.1, plv y.1] W fun e w' => e = .returned (.bool (pltB x.1 y.1)) ∧ Below W.heap.size W w') := fun W => placeLess_any x.1 y.1 W
    clear hx' hx HYE HA HR HOk3 hao hk
    go_wp2_with fail
    rename_i KK hkk
    have HKK := (show Hid _ from hkk)
    clear hkk
    cases hpl : pltB x.1 y.1 with
    | true =>
     have HS2 := (show Hid _ from HSn.out hpl)
     have HPL := HPL0
     rw [hpl] at HPL
     clear hpl HSn HU HPL0
     refine region_inv [zf,zf,zf,zf,zf,zf,zf,zf,zf,zf,zf,zf,zf,zf,zf,zf,zf,zf,zf,zf,zf,zf,zf,zf,zf,zf,zf,zf,zf,zf,zf,zf,zf,zf,zf,zf,zf,zf,zf,zf,zf,zf,zf,zf,zf,zf,zf,zf,zf,zf,zf,zf,zf,zf,zt,zt,zt,zt,zt,zt,zt,zt,zt,zt,zt,zt,zt,zt,zt,zt,zt,zt,zt,zf,zf,zf,zf,zf,zf,zf,zf,zf,zf,zf,zf,zf,zf,zf,zf,zf,zf,zf,zf,zf,zf,zf,zf,zf,zf,zf,zf,zf,zf,zf,zf,zf,zf,zf,zf,zf,zf,zf,zf,zf,zf,zf,zf,zf,zf,zf,zf,zf,zf,zf,zf,zf,zf,zf,zf,zf,zf,zf,zf,zf,zf,zf,zf,zf,zf,zf,zf,zf,zf,zf,zf,zf,zf,zf,zf,zf,zf,zf,zf,zf,zf,zf,zf,zf,zf,zf,zf,zf,zf,zf,zf,zf,zf,zf,zf,zf,zf,zf,zf,zf]
      [(54, [], none), (55, [54], none), (56, [55], none), (57, [56], some (56, true)), (58, [56, 57], some (56, true)), (59, [56], some (56, true)), (60, [56, 59], some (56, true)), (61, [56, 58, 60], some (56, true)), (62, [56, 61], some (56, true)), (63, [56, 62], some (56, true)), (64, [56], some (56, true)), (65, [56, 64], some (56, true)), (66, [56], some (56, true)), (67, [56, 65, 66], some (56, true)), (68, [56, 67], some (56, true)), (69, [56, 68], some (56, true)), (70, [56, 63, 69], some (56, true)), (71, [56, 70], some (56, true)), (72, [56, 71], none)]
      (saV w.heap.size b off m.wl.length m.capW J k x.1 y.1) (by kernel_rfl) (by kernel_rfl) (saV_mono w.heap.size b off m.wl.length m.capW J k x.1 y.1) ?_ ?_
     ·refine ⟨?_, ?_, ?_, ?_, ?_, ?_, ?_, ?_, ?_, ?_, ?_, ?_, ?_, ?_, ?_, ?_, ?_, ?_, ?_, trivial⟩
      ·intro f w1 hb _ K hK
       simp only [over, overL, Nat.reduceAdd]
       go_simp
       exact hK _ _ ⟨_, rfl, by simp only [over, overL, Nat.reduceAdd]; rfl, brf⟩
      ·rintro f w1 hb ⟨(h54 : f 54 = _), _⟩ K hK
       simp only [over, overL, Nat.reduceAdd, h54]
       go_simp
       exact hK _ _ ⟨_, rfl, by simp only [over, overL, Nat.reduceAdd, h54]; rfl, brf⟩
      ·rintro f w1 hb ⟨(h55 : f 55 = _), _⟩ K hK
       simp only [over, overL, Nat.reduceAdd, h55]
       go_simp
       exact hK _ _ ⟨_, rfl, by simp only [over, overL, Nat.reduceAdd, h55]; rfl, brf⟩
      ·rintro f w1 hb ⟨(h56 : f 56 = _), _⟩
       refine ⟨fun _ => ?_, fun hg => absurd h56 hg⟩
       intro K hK
       simp only [over, overL, Nat.reduceAdd, h56]
       go_simp
       exact hK _ _ ⟨_, rfl, by simp only [over, overL, Nat.reduceAdd, h56]; rfl, brf⟩
      ·rintro f w1 hb ⟨(h56 : f 56 = _), (h57 : f 57 = _), _⟩
       refine ⟨fun _ => ?_, fun hg => absurd h56 hg⟩
       intro K hK
       have q0 := (KS.out.later hb).c 0 rfl
       simp only [over, overL, Nat.reduceAdd, h56, h57]
       go_simp
       exact hK _ _ ⟨_, rfl, by simp only [over, overL, Nat.reduceAdd, h56, h57]; rfl, brf⟩
      ·rintro f w1 hb ⟨(h56 : f 56 = _), _⟩
       refine ⟨fun _ => ?_, fun hg => absurd h56 hg⟩
       intro K hK
       simp only [over, overL, Nat.reduceAdd, h56]
       go_simp
       exact hK _ _ ⟨_, rfl, by simp only [over, overL, Nat.reduceAdd, h56]; rfl, brf⟩
      ·rintro f w1 hb ⟨(h56 : f 56 = _), (h59 : f 59 = _), _⟩
       refine ⟨fun _ => ?_, fun hg => absurd h56 hg⟩
       intro K hK
       simp only [over, overL, Nat.reduceAdd, h56, h59]
       go_simp
       exact hK _ _ ⟨_, rfl, by simp only [over, overL, Nat.reduceAdd, h56, h59]; rfl, brf⟩
      ·rintro f w1 hb ⟨(h56 : f 56 = _), (h58 : f 58 = _), (h60 : f 60 = _), _⟩
       refine ⟨fun _ => ?_, fun hg => absurd h56 hg⟩
       intro K hK
       simp only [over, overL, Nat.reduceAdd, h56, h58, h60]
       go_simp
       exact hK _ _ ⟨_, rfl, by simp only [over, overL, Nat.reduceAdd, h56, h58, h60]; rfl, brf⟩
      ·rintro f w1 hb ⟨(h56 : f 56 = _), (h61 : f 61 = _), _⟩
       refine ⟨fun _ => ?_, fun hg => absurd h56 hg⟩
       intro K hK
       simp only [over, overL, Nat.reduceAdd, h56, h61]
       go_simp
       exact hK _ _ ⟨_, rfl, by simp only [over, overL, Nat.reduceAdd, h56, h61]; rfl, brf⟩
      ·rintro f w1 hb ⟨(h56 : f 56 = _), (h62 : f 62 = _), _⟩
       refine ⟨fun _ => ?_, fun hg => absurd h56 hg⟩
       intro K hK
       obtain ⟨_, q0, q1, q2, q3, _⟩ := HX.out.next hb
       simp only [over, overL, Nat.reduceAdd, h56, h62]
       go_simp
       exact hK _ _ ⟨_, rfl, by simp only [over, overL, Nat.reduceAdd, h56, h62]; rfl, brf⟩
      ·rintro f w1 hb ⟨(h56 : f 56 = _), _⟩
       refine ⟨fun _ => ?_, fun hg => absurd h56 hg⟩
       intro K hK
       simp only [over, overL, Nat.reduceAdd, h56]
       go_simp
       exact hK _ _ ⟨_, rfl, by simp only [over, overL, Nat.reduceAdd, h56]; rfl, brf⟩
      ·rintro f w1 hb ⟨(h56 : f 56 = _), (h64 : f 64 = _), _⟩
       refine ⟨fun _ => ?_, fun hg => absurd h56 hg⟩
       intro K hK
       have q0 := (KS.out.later hb).c 0 rfl
       simp only [over, overL, Nat.reduceAdd, h56, h64]
       go_simp
       exact hK _ _ ⟨_, rfl, by simp only [over, overL, Nat.reduceAdd, h56, h64]; rfl, brf⟩
      ·rintro f w1 hb ⟨(h56 : f 56 = _), _⟩
       refine ⟨fun _ => ?_, fun hg => absurd h56 hg⟩
       intro K hK
       simp only [over, overL, Nat.reduceAdd, h56]
       go_simp
       exact hK _ _ ⟨_, rfl, by simp only [over, overL, Nat.reduceAdd, h56]; rfl, brf⟩
      ·rintro f w1 hb ⟨(h56 : f 56 = _), (h65 : f 65 = _), (h66 : f 66 = _), _⟩
       refine ⟨fun _ => ?_, fun hg => absurd h56 hg⟩
       intro K hK
       simp only [over, overL, Nat.reduceAdd, h56, h65, h66]
       go_simp
       exact hK _ _ ⟨_, rfl, by simp only [over, overL, Nat.reduceAdd, h56, h65, h66]; rfl, brf⟩
      ·rintro f w1 hb ⟨(h56 : f 56 = _), (h67 : f 67 = _), _⟩
       refine ⟨fun _ => ?_, fun hg => absurd h56 hg⟩
       intro K hK
       simp only [over, overL, Nat.reduceAdd, h56, h67]
       go_simp
       exact hK _ _ ⟨_, rfl, by simp only [over, overL, Nat.reduceAdd, h56, h67]; rfl, brf⟩
      ·rintro f w1 hb ⟨(h56 : f 56 = _), (h68 : f 68 = _), _⟩
       refine ⟨fun _ => ?_, fun hg => absurd h56 hg⟩
       intro K hK
       obtain ⟨_, q0, q1, q2, q3, _⟩ := HY.out.next hb
       simp only [over, overL, Nat.reduceAdd, h56, h68]
       go_simp
       exact hK _ _ ⟨_, rfl, by simp only [over, overL, Nat.reduceAdd, h56, h68]; rfl, brf⟩
      ·rintro f w1 hb ⟨(h56 : f 56 = _), (h63 : f 63 = _), (h69 : f 69 = _), _⟩
       refine ⟨fun _ => ?_, fun hg => absurd h56 hg⟩
       intro K hK
       simp only [over, overL, Nat.reduceAdd, h56, h63, h69]
       go_simp
       refine ((HPL.out w1).mono) ?_
       rintro e w2 ⟨rfl, hb2⟩
       exact hK _ _ ⟨_, rfl, by simp only [over, overL, Nat.reduceAdd, h56, h63, h69]; rfl, hb2⟩
      ·rintro f w1 hb ⟨(h56 : f 56 = _), (h70 : f 70 = _), _⟩
       refine ⟨fun _ => ?_, fun hg => absurd h56 hg⟩
       intro K hK
       simp only [over, overL, Nat.reduceAdd, h56, h70]
       go_simp
       exact hK _ _ ⟨_, rfl, by simp only [over, overL, Nat.reduceAdd, h56, h70]; rfl, brf⟩
      ·rintro f w1 hb ⟨(h56 : f 56 = _), (h71 : f 71 = _), _⟩ K hK
       simp only [over, overL, Nat.reduceAdd, h56, h71]
       go_simp
       exact hK _ _ ⟨_, rfl, by simp only [over, overL, Nat.reduceAdd, h56, h71]; rfl, brf⟩
     intro f wx hbn hv
     have h72 : f 72 = .bool false := hv.2.2.2.2.2.2.2.2.2.2.2.2.2.2.2.2.2.2.1
     have HBwx : Hid (Below w.heap.size w wx) := HBwc.out.trans (hbn.mono HBwc.out.size)
     have KSwx : Hid (Bk w.heap.size (sml m) wx) := KSwc.out.later hbn
     clear hbn hv
     simp only [over, overL, Nat.reduceAdd, h72]
     clear h72
     refine HKK.out _ _ ?_
     go_wp2
     go_roundw
     case rel => exact ⟨J + 1, by omega, by go_num, HS2.out.1, HS2.out.2, KSwx.out, HBwx.out⟩
     case measure => simp [intOf]; omega
    | false =>
     have HNO : Hid (mayS l m.st = false) := HU.out hpl
     have HPL := HPL0
     rw [hpl] at HPL
     clear hpl HSn HU HPL0
     refine region_inv [zf,zf,zf,zf,zf,zf,zf,zf,zf,zf,zf,zf,zf,zf,zf,zf,zf,zf,zf,zf,zf,zf,zf,zf,zf,zf,zf,zf,zf,zf,zf,zf,zf,zf,zf,zf,zf,zf,zf,zf,zf,zf,zf,zf,zf,zf,zf,zf,zf,zf,zf,zf,zf,zf,zt,zt,zt,zt,zt,zt,zt,zt,zt,zt,zt,zt,zt,zt,zt,zt,zt,zt,zt,zf,zf,zf,zf,zf,zf,zf,zf,zf,zf,zf,zf,zf,zf,zf,zf,zf,zf,zf,zf,zf,zf,zf,zf,zf,zf,zf,zf,zf,zf,zf,zf,zf,zf,zf,zf,zf,zf,zf,zf,zf,zf,zf,zf,zf,zf,zf,zf,zf,zf,zf,zf,zf,zf,zf,zf,zf,zf,zf,zf,zf,zf,zf,zf,zf,zf,zf,zf,zf,zf,zf,zf,zf,zf,zf,zf,zf,zf,zf,zf,zf,zf,zf,zf,zf,zf,zf,zf,zf,zf,zf,zf,zf,zf,zf,zf,zf,zf,zf,zf,zf]
      [(54, [], none), (55, [54], none), (56, [55], none), (57, [56], some (56, true)), (58, [56, 57], some (56, true)), (59, [56], some (56, true)), (60, [56, 59], some (56, true)), (61, [56, 58, 60], some (56, true)), (62, [56, 61], some (56, true)), (63, [56, 62], some (56, true)), (64, [56], some (56, true)), (65, [56, 64], some (56, true)), (66, [56], some (56, true)), (67, [56, 65, 66], some (56, true)), (68, [56, 67], some (56, true)), (69, [56, 68], some (56, true)), (70, [56, 63, 69], some (56, true)), (71, [56, 70], some (56, true)), (72, [56, 71], none)]
      (sbV w.heap.size b off m.wl.length m.capW J k x.1 y.1) (by kernel_rfl) (by kernel_rfl) (sbV_mono w.heap.size b off m.wl.length m.capW J k x.1 y.1) ?_ ?_
     ·refine ⟨?_, ?_, ?_, ?_, ?_, ?_, ?_, ?_, ?_, ?_, ?_, ?_, ?_, ?_, ?_, ?_, ?_, ?_, ?_, trivial⟩
      ·intro f w1 hb _ K hK
       simp only [over, overL, Nat.reduceAdd]
       go_simp
       exact hK _ _ ⟨_, rfl, by simp only [over, overL, Nat.reduceAdd]; rfl, brf⟩
      ·rintro f w1 hb ⟨(h54 : f 54 = _), _⟩ K hK
       simp only [over, overL, Nat.reduceAdd, h54]
       go_simp
       exact hK _ _ ⟨_, rfl, by simp only [over, overL, Nat.reduceAdd, h54]; rfl, brf⟩
      ·rintro f w1 hb ⟨(h55 : f 55 = _), _⟩ K hK
       simp only [over, overL, Nat.reduceAdd, h55]
       go_simp
       exact hK _ _ ⟨_, rfl, by simp only [over, overL, Nat.reduceAdd, h55]; rfl, brf⟩
      ·rintro f w1 hb ⟨(h56 : f 56 = _), _⟩
       refine ⟨fun _ => ?_, fun hg => absurd h56 hg⟩
       intro K hK
       simp only [over, overL, Nat.reduceAdd, h56]
       go_simp
       exact hK _ _ ⟨_, rfl, by simp only [over, overL, Nat.reduceAdd, h56]; rfl, brf⟩
      ·rintro f w1 hb ⟨(h56 : f 56 = _), (h57 : f 57 = _), _⟩
       refine ⟨fun _ => ?_, fun hg => absurd h56 hg⟩
       intro K hK
       have q0 := (KS.out.later hb).c 0 rfl
       simp only [over, overL, Nat.reduceAdd, h56, h57]
       go_simp
       exact hK _ _ ⟨_, rfl, by simp only [over, overL, Nat.reduceAdd, h56, h57]; rfl, brf⟩
      ·rintro f w1 hb ⟨(h56 : f 56 = _), _⟩
       refine ⟨fun _ => ?_, fun hg => absurd h56 hg⟩
       intro K hK
       simp only [over, overL, Nat.reduceAdd, h56]
       go_simp
       exact hK _ _ ⟨_, rfl, by simp only [over, overL, Nat.reduceAdd, h56]; rfl, brf⟩
      ·rintro f w1 hb ⟨(h56 : f 56 = _), (h59 : f 59 = _), _⟩
       refine ⟨fun _ => ?_, fun hg => absurd h56 hg⟩
       intro K hK
       simp only [over, overL, Nat.reduceAdd, h56, h59]
       go_simp
       exact hK _ _ ⟨_, rfl, by simp only [over, overL, Nat.reduceAdd, h56, h59]; rfl, brf⟩
      ·rintro f w1 hb ⟨(h56 : f 56 = _), (h58 : f 58 = _), (h60 : f 60 = _), _⟩
       refine ⟨fun _ => ?_, fun hg => absurd h56 hg⟩
       intro K hK
       simp only [over, overL, Nat.reduceAdd, h56, h58, h60]
       go_simp
       exact hK _ _ ⟨_, rfl, by simp only [over, overL, Nat.reduceAdd, h56, h58, h60]; rfl, brf⟩
      ·rintro f w1 hb ⟨(h56 : f 56 = _), (h61 : f 61 = _), _⟩
       refine ⟨fun _ => ?_, fun hg => absurd h56 hg⟩
       intro K hK
       simp only [over, overL, Nat.reduceAdd, h56, h61]
       go_simp
       exact hK _ _ ⟨_, rfl, by simp only [over, overL, Nat.reduceAdd, h56, h61]; rfl, brf⟩
      ·rintro f w1 hb ⟨(h56 : f 56 = _), (h62 : f 62 = _), _⟩
       refine ⟨fun _ => ?_, fun hg => absurd h56 hg⟩
       intro K hK
       obtain ⟨_, q0, q1, q2, q3, _⟩ := HX.out.next hb
       simp only [over, overL, Nat.reduceAdd, h56, h62]
       go_simp
       exact hK _ _ ⟨_, rfl, by simp only [over, overL, Nat.reduceAdd, h56, h62]; rfl, brf⟩
      ·rintro f w1 hb ⟨(h56 : f 56 = _), _⟩
       refine ⟨fun _ => ?_, fun hg => absurd h56 hg⟩
       intro K hK
       simp only [over, overL, Nat.reduceAdd, h56]
       go_simp
       exact hK _ _ ⟨_, rfl, by simp only [over, overL, Nat.reduceAdd, h56]; rfl, brf⟩
      ·rintro f w1 hb ⟨(h56 : f 56 = _), (h64 : f 64 = _), _⟩
       refine ⟨fun _ => ?_, fun hg => absurd h56 hg⟩
       intro K hK
       have q0 := (KS.out.later hb).c 0 rfl
       simp only [over, overL, Nat.reduceAdd, h56, h64]
       go_simp
       exact hK _ _ ⟨_, rfl, by simp only [over, overL, Nat.reduceAdd, h56, h64]; rfl, brf⟩
      ·rintro f w1 hb ⟨(h56 : f 56 = _), _⟩
       refine ⟨fun _ => ?_, fun hg => absurd h56 hg⟩
       intro K hK
       simp only [over, overL, Nat.reduceAdd, h56]
       go_simp
       exact hK _ _ ⟨_, rfl, by simp only [over, overL, Nat.reduceAdd, h56]; rfl, brf⟩
      ·rintro f w1 hb ⟨(h56 : f 56 = _), (h65 : f 65 = _), (h66 : f 66 = _), _⟩
       refine ⟨fun _ => ?_, fun hg => absurd h56 hg⟩
       intro K hK
       simp only [over, overL, Nat.reduceAdd, h56, h65, h66]
       go_simp
       exact hK _ _ ⟨_, rfl, by simp only [over, overL, Nat.reduceAdd, h56, h65, h66]; rfl, brf⟩
      ·rintro f w1 hb ⟨(h56 : f 56 = _), (h67 : f 67 = _), _⟩
       refine ⟨fun _ => ?_, fun hg => absurd h56 hg⟩
       intro K hK
       simp only [over, overL, Nat.reduceAdd, h56, h67]
       go_simp
       exact hK _ _ ⟨_, rfl, by simp only [over, overL, Nat.reduceAdd, h56, h67]; rfl, brf⟩
      ·rintro f w1 hb ⟨(h56 : f 56 = _), (h68 : f 68 = _), _⟩
       refine ⟨fun _ => ?_, fun hg => absurd h56 hg⟩
       intro K hK
       obtain ⟨_, q0, q1, q2, q3, _⟩ := HY.out.next hb
       simp only [over, overL, Nat.reduceAdd, h56, h68]
       go_simp
       exact hK _ _ ⟨_, rfl, by simp only [over, overL, Nat.reduceAdd, h56, h68]; rfl, brf⟩
      ·rintro f w1 hb ⟨(h56 : f 56 = _), (h63 : f 63 = _), (h69 : f 69 = _), _⟩
       refine ⟨fun _ => ?_, fun hg => absurd h56 hg⟩
       intro K hK
       simp only [over, overL, Nat.reduceAdd, h56, h63, h69]
       go_simp
       refine ((HPL.out w1).mono) ?_
       rintro e w2 ⟨rfl, hb2⟩
       exact hK _ _ ⟨_, rfl, by simp only [over, overL, Nat.reduceAdd, h56, h63, h69]; rfl, hb2⟩
      ·rintro f w1 hb ⟨(h56 : f 56 = _), (h70 : f 70 = _), _⟩
       refine ⟨fun _ => ?_, fun hg => absurd h56 hg⟩
       intro K hK
       simp only [over, overL, Nat.reduceAdd, h56, h70]
       go_simp
       exact hK _ _ ⟨_, rfl, by simp only [over, overL, Nat.reduceAdd, h56, h70]; rfl, brf⟩
      ·rintro f w1 hb ⟨(h56 : f 56 = _), (h71 : f 71 = _), _⟩ K hK
       simp only [over, overL, Nat.reduceAdd, h56, h71]
       go_simp
       exact hK _ _ ⟨_, rfl, by simp only [over, overL, Nat.reduceAdd, h56, h71]; rfl, brf⟩
     intro f wx hbn hv
     have h72 : f 72 = .bool true := hv.2.2.2.2.2.2.2.2.2.2.2.2.2.2.2.2.2.2.1
     have HBwx : Hid (Below w.heap.size w wx) := HBwc.out.trans (hbn.mono HBwc.out.size)
     have KSwx : Hid (Bk w.heap.size (sml m) wx) := KSwc.out.later hbn
     clear hbn hv
     simp only [over, overL, Nat.reduceAdd, h72]
     clear h72
     refine HKK.out _ _ ?_
     go_wp2
     go_ret
     exact ⟨ret_bool HNO.out.symm, HBwx.out⟩
  ·have HMF : Hid (mayFill l m.st.wells = true) := fill_all (by omega) HA.out HR.out
   have hJi : ¬ (J : Int) < (m.wl.length : Int) := by omega
   obtain ⟨wg, hwg⟩ : ∃ x, x = wr := ⟨_, rfl⟩
   subst hwg
   have HBwg : Hid (Below w.heap.size w wg) := HBwr
   have KSwg : Hid (Bk w.heap.size (sml m) wg) := KSwr
   clear HA HR
   have HBAD : Hid (badTip m = true → mayS l m.st = false) := fun h => mayS_no fun hh => by have := tip_bad (l := l) h; rw [this] at hh; cases hh.2
   have HT0 : Hid (badTip m = false → (mayTake l m.st = true ↔ TakeR l m.st)) := fun h => tip_good HDC.out h
   go_upto_region 11 with fail
   go_cut [96] from 73 to 96 (fun c wx => c = .bool (badTip m) ∧ wx = wg)
   case first =>
    cases htp : m.tip with
    | false =>
     rw [htp] at s1
     by_cases hh : m.held = []
     rotate_left
     ·have hh2 : (0 : Int) < (m.held.length : Int) := by have : m.held.length ≠ 0 := fun e => hh (List.eq_nil_of_length_eq_zero e); omega
      have hh4 : 0 < m.held.length := by omega
      have HE : Hid (badTip m = true) := by show _ = _; unfold badTip; rw [htp, decide_eq_false hh]; rfl
      clear hh htp
      go_wp2
      go_meet
      exact ⟨by rw [HE.out], rfl⟩
     by_cases ht2 : m.touched = []
     rotate_left
     ·have ht3 : (0 : Int) < (m.touched.length : Int) := by have : m.touched.length ≠ 0 := fun e => ht2 (List.eq_nil_of_length_eq_zero e); omega
      have hh3 : ¬ (0 : Int) < (m.held.length : Int) := by rw [hh]; simp
      have hh4 : ¬ 0 < m.held.length := by omega
      have ht4 : 0 < m.touched.length := by omega
      have HE : Hid (badTip m = true) := by show _ = _; unfold badTip; rw [htp, decide_eq_false ht2]; simp
      clear hh htp ht2
      go_wp2
      go_meet
      exact ⟨by rw [HE.out], rfl⟩
     have hh3 : ¬ (0 : Int) < (m.held.length : Int) := by rw [hh]; simp
     have ht3 : ¬ (0 : Int) < (m.touched.length : Int) := by rw [ht2]; simp
     have hh4 : ¬ 0 < m.held.length := by omega
     have ht4 : ¬ 0 < m.touched.length := by omega
     have HE : Hid (badTip m = false) := by show _ = _; unfold badTip; rw [htp, decide_eq_true hh, decide_eq_true ht2]; rfl
     clear hh ht2 htp
     go_wp2
     go_meet
     exact ⟨by rw [HE.out], rfl⟩
    | true =>
     rw [htp] at s1
     by_cases hu : m.used = 0
     ·have hu2 : (m.used == 0) = true := by simp [hu]
      have HE : Hid (badTip m = true) := by show _ = _; unfold badTip; rw [htp, hu2]; rfl
      clear hu htp
      go_wp2
      go_meet
      exact ⟨by rw [HE.out], rfl⟩
     have hu2 : (m.used == 0) = false := by simp [hu]
     have HE : Hid (badTip m = false) := by show _ = _; unfold badTip; rw [htp, hu2]; rfl
     clear hu htp
     go_wp2
     go_meet
     exact ⟨by rw [HE.out], rfl⟩
   case rest =>
    obtain ⟨hc1, hc2⟩ := hcut
    have hc3 := hc2.symm
    clear hc2
    subst hc3
    subst hc1
    cases hbt : badTip m with
    | true =>
     have HNO : Hid (mayS l m.st = false) := HBAD.out hbt
     clear hbt HT0 HBAD
     go_wp2
     go_ret
     exact ⟨ret_bool HNO.out.symm, HBwg.out⟩
    | false =>
    have HT : Hid (mayTake l m.st = true ↔ TakeR l m.st) := HT0.out hbt
    clear hbt HT0 HBAD
    go_wp2_with fail
    clear s0 s1 s2 s3 s4 s5 s6
    have HTC : Hid (∀ W, Below wg.heap.size wg W → Calls Tryz.prog 34 #[.slice ao l.length cap] W fun e w' => e = .returned (.int .i64 (tipM l)) ∧ Below W.heap.size W w') := fun W hW => tipCap_any ao cap l W ((HD.out.next HBwg.out).next hW) HDC.out
    have KS : Hid (Bk w.heap.size (sml m) wg) := KSwg
    have HPF0 : Hid (∀ W, Below wg.heap.size wg W → Calls Tryz.prog 32 #[.slice m.aoH m.held.length m.capH, .int .i64 (tipM l)] W fun e w' => e = .returned (.bool (mayHold m.held (tipM l))) ∧ Below W.heap.size W w') := fun W hW => plainForm_any m.aoH m.capH m.held (tipM l) W ((HS.out.next HBwg.out).next hW).held HL.out.held
    cases hmh : mayHold m.held (tipM l) with
    | false =>
     have HNO : Hid (mayS l m.st = false) := mayS_no fun h => by have := (HT.out.1 h.2).1; rw [show m.st.held = m.held from rfl, hmh] at this; cases this
     have HPF := HPF0
     rw [hmh] at HPF
     clear hmh HT HPF0
     rename_i KK hkk
     have HKK := (show Hid _ from hkk)
     clear hkk
     refine region_inv [zf,zf,zf,zf,zf,zf,zf,zf,zf,zf,zf,zf,zf,zf,zf,zf,zf,zf,zf,zf,zf,zf,zf,zf,zf,zf,zf,zf,zf,zf,zf,zf,zf,zf,zf,zf,zf,zf,zf,zf,zf,zf,zf,zf,zf,zf,zf,zf,zf,zf,zf,zf,zf,zf,zf,zf,zf,zf,zf,zf,zf,zf,zf,zf,zf,zf,zf,zf,zf,zf,zf,zf,zf,zf,zf,zf,zf,zf,zf,zf,zf,zf,zf,zf,zf,zf,zf,zf,zf,zf,zf,zf,zf,zf,zf,zf,zf,zt,zt,zt,zt,zt,zt,zt,zt,zt,zt,zt,zt,zf,zf,zf,zf,zf,zf,zf,zf,zf,zf,zf,zf,zf,zf,zf,zf,zf,zf,zf,zf,zf,zf,zf,zf,zf,zf,zf,zf,zf,zf,zf,zf,zf,zf,zf,zf,zf,zf,zf,zf,zf,zf,zf,zf,zf,zf,zf,zf,zf,zf,zf,zf,zf,zf,zf,zf,zf,zf,zf,zf,zf,zf,zf,zf,zf]
      [(97, [], none), (98, [97], none), (99, [], none), (100, [99], none), (101, [98, 100], none), (102, [101], none), (103, [102], none), (104, [103], some (103, false)), (105, [103, 104], some (103, false)), (106, [103, 105], some (103, false)), (107, [103, 106], some (103, false)), (108, [103, 107], none)]
      (scV w.heap.size ao l.length cap m.aoH m.held.length m.capH m.aoT m.touched.length m.capT (tipM l)) (by kernel_rfl) (by kernel_rfl) (scV_mono w.heap.size ao l.length cap m.aoH m.held.length m.capH m.aoT m.touched.length m.capT (tipM l)) ?_ ?_
     ·refine ⟨?_, ?_, ?_, ?_, ?_, ?_, ?_, ?_, ?_, ?_, ?_, ?_, trivial⟩
      ·intro f w1 hb _ K hK
       simp only [over, overL, Nat.reduceAdd]
       go_simp
       exact hK _ _ ⟨_, rfl, by simp only [over, overL, Nat.reduceAdd]; rfl, brf⟩
      ·rintro f w1 hb ⟨(h97 : f 97 = _), _⟩ K hK
       have q2 := (KS.out.later hb).c 2 rfl
       simp only [over, overL, Nat.reduceAdd, h97]
       go_simp
       exact hK _ _ ⟨_, rfl, by simp only [over, overL, Nat.reduceAdd, h97]; rfl, brf⟩
      ·intro f w1 hb _ K hK
       simp only [over, overL, Nat.reduceAdd]
       go_simp
       exact hK _ _ ⟨_, rfl, by simp only [over, overL, Nat.reduceAdd]; rfl, brf⟩
      ·rintro f w1 hb ⟨(h99 : f 99 = _), _⟩ K hK
       simp only [over, overL, Nat.reduceAdd, h99]
       go_simp
       refine ((HTC.out w1 hb).mono) ?_
       rintro e w2 ⟨rfl, hb2⟩
       exact hK _ _ ⟨_, rfl, by simp only [over, overL, Nat.reduceAdd, h99]; rfl, hb2⟩
      ·rintro f w1 hb ⟨(h98 : f 98 = _), (h100 : f 100 = _), _⟩ K hK
       simp only [over, overL, Nat.reduceAdd, h98, h100]
       go_simp
       refine ((HPF.out w1 hb).mono) ?_
       rintro e w2 ⟨rfl, hb2⟩
       exact hK _ _ ⟨_, rfl, by simp only [over, overL, Nat.reduceAdd, h98, h100]; rfl, hb2⟩
      ·rintro f w1 hb ⟨(h101 : f 101 = _), _⟩ K hK
       simp only [over, overL, Nat.reduceAdd, h101]
       go_simp
       exact hK _ _ ⟨_, rfl, by simp only [over, overL, Nat.reduceAdd, h101]; rfl, brf⟩
      ·rintro f w1 hb ⟨(h102 : f 102 = _), _⟩ K hK
       simp only [over, overL, Nat.reduceAdd, h102]
       go_simp
       exact hK _ _ ⟨_, rfl, by simp only [over, overL, Nat.reduceAdd, h102]; rfl, brf⟩
      ·rintro f w1 hb ⟨(h103 : f 103 = _), _⟩
       exact ⟨fun hg => absurd (h103.symm.trans hg) (by simp), fun _ => trivial⟩
      ·rintro f w1 hb ⟨(h103 : f 103 = _), h104, _⟩
       exact ⟨fun hg => absurd (h103.symm.trans hg) (by simp), fun _ => trivial⟩
      ·rintro f w1 hb ⟨(h103 : f 103 = _), h105, _⟩
       exact ⟨fun hg => absurd (h103.symm.trans hg) (by simp), fun _ => trivial⟩
      ·rintro f w1 hb ⟨(h103 : f 103 = _), h106, _⟩
       exact ⟨fun hg => absurd (h103.symm.trans hg) (by simp), fun _ => trivial⟩
      ·rintro f w1 hb ⟨(h103 : f 103 = _), h107, _⟩ K hK
       simp only [over, overL, Nat.reduceAdd, h103]
       go_simp
       exact hK _ _ ⟨_, rfl, by simp only [over, overL, Nat.reduceAdd, h103]; rfl, brf⟩
     intro f wx hbn hv
     have h108 : f 108 = .bool true := hv.2.2.2.2.2.2.2.2.2.2.2.1
     have HBwx : Hid (Below w.heap.size w wx) := HBwg.out.trans (hbn.mono HBwg.out.size)
     have KSwx : Hid (Bk w.heap.size (sml m) wx) := KSwg.out.later hbn
     clear hbn hv
     simp only [over, overL, Nat.reduceAdd, h108]
     clear h108
     refine HKK.out _ _ ?_
     go_wp2
     go_ret
     exact ⟨ret_bool HNO.out.symm, HBwx.out⟩
    | true =>
     have HMH : Hid (mayHold m.held (tipM l) = true) := hmh
     have HPF := HPF0
     rw [hmh] at HPF
     clear hmh HPF0
     by_cases h100 : 100 < m.touched.length
     ·have h100i : (100 : Int) < (m.touched.length : Int) := by omega
      have HNO : Hid (mayS l m.st = false) := mayS_no fun h => by have := (HT.out.1 h.2).2.1; rw [show m.st.touched = m.touched from rfl] at this; omega
      clear HT
      rename_i KK hkk
      have HKK := (show Hid _ from hkk)
      clear hkk
      refine region_inv [zf,zf,zf,zf,zf,zf,zf,zf,zf,zf,zf,zf,zf,zf,zf,zf,zf,zf,zf,zf,zf,zf,zf,zf,zf,zf,zf,zf,zf,zf,zf,zf,zf,zf,zf,zf,zf,zf,zf,zf,zf,zf,zf,zf,zf,zf,zf,zf,zf,zf,zf,zf,zf,zf,zf,zf,zf,zf,zf,zf,zf,zf,zf,zf,zf,zf,zf,zf,zf,zf,zf,zf,zf,zf,zf,zf,zf,zf,zf,zf,zf,zf,zf,zf,zf,zf,zf,zf,zf,zf,zf,zf,zf,zf,zf,zf,zf,zt,zt,zt,zt,zt,zt,zt,zt,zt,zt,zt,zt,zf,zf,zf,zf,zf,zf,zf,zf,zf,zf,zf,zf,zf,zf,zf,zf,zf,zf,zf,zf,zf,zf,zf,zf,zf,zf,zf,zf,zf,zf,zf,zf,zf,zf,zf,zf,zf,zf,zf,zf,zf,zf,zf,zf,zf,zf,zf,zf,zf,zf,zf,zf,zf,zf,zf,zf,zf,zf,zf,zf,zf,zf,zf,zf,zf]
       [(97, [], none), (98, [97], none), (99, [], none), (100, [99], none), (101, [98, 100], none), (102, [101], none), (103, [102], none), (104, [103], some (103, false)), (105, [103, 104], some (103, false)), (106, [103, 105], some (103, false)), (107, [103, 106], some (103, false)), (108, [103, 107], none)]
       (sdV w.heap.size ao l.length cap m.aoH m.held.length m.capH m.aoT m.touched.length m.capT (tipM l)) (by kernel_rfl) (by kernel_rfl) (sdV_mono w.heap.size ao l.length cap m.aoH m.held.length m.capH m.aoT m.touched.length m.capT (tipM l)) ?_ ?_
      ·refine ⟨?_, ?_, ?_, ?_, ?_, ?_, ?_, ?_, ?_, ?_, ?_, ?_, trivial⟩
       ·intro f w1 hb _ K hK
        simp only [over, overL, Nat.reduceAdd]
        go_simp
        exact hK _ _ ⟨_, rfl, by simp only [over, overL, Nat.reduceAdd]; rfl, brf⟩
       ·rintro f w1 hb ⟨(h97 : f 97 = _), _⟩ K hK
        have q2 := (KS.out.later hb).c 2 rfl
        simp only [over, overL, Nat.reduceAdd, h97]
        go_simp
        exact hK _ _ ⟨_, rfl, by simp only [over, overL, Nat.reduceAdd, h97]; rfl, brf⟩
       ·intro f w1 hb _ K hK
        simp only [over, overL, Nat.reduceAdd]
        go_simp
        exact hK _ _ ⟨_, rfl, by simp only [over, overL, Nat.reduceAdd]; rfl, brf⟩
       ·rintro f w1 hb ⟨(h99 : f 99 = _), _⟩ K hK
        simp only [over, overL, Nat.reduceAdd, h99]
        go_simp
        refine ((HTC.out w1 hb).mono) ?_
        rintro e w2 ⟨rfl, hb2⟩
        exact hK _ _ ⟨_, rfl, by simp only [over, overL, Nat.reduceAdd, h99]; rfl, hb2⟩
       ·rintro f w1 hb ⟨(h98 : f 98 = _), (h100 : f 100 = _), _⟩ K hK
        simp only [over, overL, Nat.reduceAdd, h98, h100]
        go_simp
        refine ((HPF.out w1 hb).mono) ?_
        rintro e w2 ⟨rfl, hb2⟩
        exact hK _ _ ⟨_, rfl, by simp only [over, overL, Nat.reduceAdd, h98, h100]; rfl, hb2⟩
       ·rintro f w1 hb ⟨(h101 : f 101 = _), _⟩ K hK
        simp only [over, overL, Nat.reduceAdd, h101]
        go_simp
        exact hK _ _ ⟨_, rfl, by simp only [over, overL, Nat.reduceAdd, h101]; rfl, brf⟩
       ·rintro f w1 hb ⟨(h102 : f 102 = _), _⟩ K hK
        simp only [over, overL, Nat.reduceAdd, h102]
        go_simp
        exact hK _ _ ⟨_, rfl, by simp only [over, overL, Nat.reduceAdd, h102]; rfl, brf⟩
       ·rintro f w1 hb ⟨(h103 : f 103 = _), _⟩
        refine ⟨fun _ => ?_, fun hg => absurd h103 hg⟩
        intro K hK
        simp only [over, overL, Nat.reduceAdd, h103]
        go_simp
        exact hK _ _ ⟨_, rfl, by simp only [over, overL, Nat.reduceAdd, h103]; rfl, brf⟩
       ·rintro f w1 hb ⟨(h103 : f 103 = _), (h104 : f 104 = _), _⟩
        refine ⟨fun _ => ?_, fun hg => absurd h103 hg⟩
        intro K hK
        have q3 := (KS.out.later hb).c 3 rfl
        simp only [over, overL, Nat.reduceAdd, h103, h104]
        go_simp
        exact hK _ _ ⟨_, rfl, by simp only [over, overL, Nat.reduceAdd, h103, h104]; rfl, brf⟩
       ·rintro f w1 hb ⟨(h103 : f 103 = _), (h105 : f 105 = _), _⟩
        refine ⟨fun _ => ?_, fun hg => absurd h103 hg⟩
        intro K hK
        simp only [over, overL, Nat.reduceAdd, h103, h105]
        go_simp
        exact hK _ _ ⟨_, rfl, by simp only [over, overL, Nat.reduceAdd, h103, h105]; rfl, brf⟩
       ·rintro f w1 hb ⟨(h103 : f 103 = _), (h106 : f 106 = _), _⟩
        refine ⟨fun _ => ?_, fun hg => absurd h103 hg⟩
        intro K hK
        simp only [over, overL, Nat.reduceAdd, h103, h106]
        go_simp
        exact hK _ _ ⟨_, rfl, by simp only [over, overL, Nat.reduceAdd, h103, h106]; rfl, brf⟩
       ·rintro f w1 hb ⟨(h103 : f 103 = _), (h107 : f 107 = _), _⟩ K hK
        simp only [over, overL, Nat.reduceAdd, h103, h107]
        go_simp
        exact hK _ _ ⟨_, rfl, by simp only [over, overL, Nat.reduceAdd, h103, h107]; rfl, brf⟩
      intro f wx hbn hv
      have h108 : f 108 = .bool true := hv.2.2.2.2.2.2.2.2.2.2.2.1
      have HBwx : Hid (Below w.heap.size w wx) := HBwg.out.trans (hbn.mono HBwg.out.size)
      have KSwx : Hid (Bk w.heap.size (sml m) wx) := KSwg.out.later hbn
      clear hbn hv
      simp only [over, overL, Nat.reduceAdd, h108]
      clear h108
      refine HKK.out _ _ ?_
      go_wp2
      go_ret
      exact ⟨ret_bool HNO.out.symm, HBwx.out⟩
     have h100i : ¬ (100 : Int) < (m.touched.length : Int) := by omega
     have h100' : m.touched.length ≤ 100 := by omega
     clear h100
     rename_i KK hkk
     have HKK := (show Hid _ from hkk)
     clear hkk
     refine region_inv [zf,zf,zf,zf,zf,zf,zf,zf,zf,zf,zf,zf,zf,zf,zf,zf,zf,zf,zf,zf,zf,zf,zf,zf,zf,zf,zf,zf,zf,zf,zf,zf,zf,zf,zf,zf,zf,zf,zf,zf,zf,zf,zf,zf,zf,zf,zf,zf,zf,zf,zf,zf,zf,zf,zf,zf,zf,zf,zf,zf,zf,zf,zf,zf,zf,zf,zf,zf,zf,zf,zf,zf,zf,zf,zf,zf,zf,zf,zf,zf,zf,zf,zf,zf,zf,zf,zf,zf,zf,zf,zf,zf,zf,zf,zf,zf,zf,zt,zt,zt,zt,zt,zt,zt,zt,zt,zt,zt,zt,zf,zf,zf,zf,zf,zf,zf,zf,zf,zf,zf,zf,zf,zf,zf,zf,zf,zf,zf,zf,zf,zf,zf,zf,zf,zf,zf,zf,zf,zf,zf,zf,zf,zf,zf,zf,zf,zf,zf,zf,zf,zf,zf,zf,zf,zf,zf,zf,zf,zf,zf,zf,zf,zf,zf,zf,zf,zf,zf,zf,zf,zf,zf,zf,zf]
      [(97, [], none), (98, [97], none), (99, [], none), (100, [99], none), (101, [98, 100], none), (102, [101], none), (103, [102], none), (104, [103], some (103, false)), (105, [103, 104], some (103, false)), (106, [103, 105], some (103, false)), (107, [103, 106], some (103, false)), (108, [103, 107], none)]
      (seV w.heap.size ao l.length cap m.aoH m.held.length m.capH m.aoT m.touched.length m.capT (tipM l)) (by kernel_rfl) (by kernel_rfl) (seV_mono w.heap.size ao l.length cap m.aoH m.held.length m.capH m.aoT m.touched.length m.capT (tipM l)) ?_ ?_
     ·refine ⟨?_, ?_, ?_, ?_, ?_, ?_, ?_, ?_, ?_, ?_, ?_, ?_, trivial⟩
      ·intro f w1 hb _ K hK
       simp only [over, overL, Nat.reduceAdd]
       go_simp
       exact hK _ _ ⟨_, rfl, by simp only [over, overL, Nat.reduceAdd]; rfl, brf⟩
      ·rintro f w1 hb ⟨(h97 : f 97 = _), _⟩ K hK
       have q2 := (KS.out.later hb).c 2 rfl
       simp only [over, overL, Nat.reduceAdd, h97]
       go_simp
       exact hK _ _ ⟨_, rfl, by simp only [over, overL, Nat.reduceAdd, h97]; rfl, brf⟩
      ·intro f w1 hb _ K hK
       simp only [over, overL, Nat.reduceAdd]
       go_simp
       exact hK _ _ ⟨_, rfl, by simp only [over, overL, Nat.reduceAdd]; rfl, brf⟩
      ·rintro f w1 hb ⟨(h99 : f 99 = _), _⟩ K hK
       simp only [over, overL, Nat.reduceAdd, h99]
       go_simp
       refine ((HTC.out w1 hb).mono) ?_
       rintro e w2 ⟨rfl, hb2⟩
       exact hK _ _ ⟨_, rfl, by simp only [over, overL, Nat.reduceAdd, h99]; rfl, hb2⟩
      ·rintro f w1 hb ⟨(h98 : f 98 = _), (h100 : f 100 = _), _⟩ K hK
       simp only [over, overL, Nat.reduceAdd, h98, h100]
       go_simp
       refine ((HPF.out w1 hb).mono) ?_
       rintro e w2 ⟨rfl, hb2⟩
       exact hK _ _ ⟨_, rfl, by simp only [over, overL, Nat.reduceAdd, h98, h100]; rfl, hb2⟩
      ·rintro f w1 hb ⟨(h101 : f 101 = _), _⟩ K hK
       simp only [over, overL, Nat.reduceAdd, h101]
       go_simp
       exact hK _ _ ⟨_, rfl, by simp only [over, overL, Nat.reduceAdd, h101]; rfl, brf⟩
      ·rintro f w1 hb ⟨(h102 : f 102 = _), _⟩ K hK
       simp only [over, overL, Nat.reduceAdd, h102]
       go_simp
       exact hK _ _ ⟨_, rfl, by simp only [over, overL, Nat.reduceAdd, h102]; rfl, brf⟩
      ·rintro f w1 hb ⟨(h103 : f 103 = _), _⟩
       refine ⟨fun _ => ?_, fun hg => absurd h103 hg⟩
       intro K hK
       simp only [over, overL, Nat.reduceAdd, h103]
       go_simp
       exact hK _ _ ⟨_, rfl, by simp only [over, overL, Nat.reduceAdd, h103]; rfl, brf⟩
      ·rintro f w1 hb ⟨(h103 : f 103 = _), (h104 : f 104 = _), _⟩
       refine ⟨fun _ => ?_, fun hg => absurd h103 hg⟩
       intro K hK
       have q3 := (KS.out.later hb).c 3 rfl
       simp only [over, overL, Nat.reduceAdd, h103, h104]
       go_simp
       exact hK _ _ ⟨_, rfl, by simp only [over, overL, Nat.reduceAdd, h103, h104]; rfl, brf⟩
      ·rintro f w1 hb ⟨(h103 : f 103 = _), (h105 : f 105 = _), _⟩
       refine ⟨fun _ => ?_, fun hg => absurd h103 hg⟩
       intro K hK
       simp only [over, overL, Nat.reduceAdd, h103, h105]
       go_simp
       exact hK _ _ ⟨_, rfl, by simp only [over, overL, Nat.reduceAdd, h103, h105]; rfl, brf⟩
      ·rintro f w1 hb ⟨(h103 : f 103 = _), (h106 : f 106 = _), _⟩
       refine ⟨fun _ => ?_, fun hg => absurd h103 hg⟩
       intro K hK
       simp only [over, overL, Nat.reduceAdd, h103, h106]
       go_simp
       exact hK _ _ ⟨_, rfl, by simp only [over, overL, Nat.reduceAdd, h103, h106]; rfl, brf⟩
      ·rintro f w1 hb ⟨(h103 : f 103 = _), (h107 : f 107 = _), _⟩ K hK
       simp only [over, overL, Nat.reduceAdd, h103, h107]
       go_simp
       exact hK _ _ ⟨_, rfl, by simp only [over, overL, Nat.reduceAdd, h103, h107]; rfl, brf⟩
     intro f wd hbn hv
     have h108 : f 108 = .bool false := hv.2.2.2.2.2.2.2.2.2.2.2.1
     have HBwd : Hid (Below w.heap.size w wd) := HBwg.out.trans (hbn.mono HBwg.out.size)
     have KSwd : Hid (Bk w.heap.size (sml m) wd) := KSwg.out.later hbn
     clear hbn hv
     simp only [over, overL, Nat.reduceAdd, h108]
     clear h108
     refine HKK.out _ _ ?_
     clear h100i
     obtain ⟨s0, s1, s2, s3, s4, s5, s6⟩ := (KSwd.out).c7
     go_wp2_with fail
     go_loopw [8] (fun i wr => ∃ k : Nat, k ≤ m.touched.length ∧ i = .int .i64 k ∧ RisT (m.touched.take k) ∧ (∀ x ∈ m.touched.take k, lab x = true) ∧ Bk w.heap.size (sml m) wr ∧ Below w.heap.size w wr) (fun i _ => m.touched.length - (intOf i).toNat)
     case atStart => exact ⟨0, Nat.zero_le _, rfl, List.Pairwise.nil, (fun x hx => by simp at hx), KSwd.out, HBwd.out⟩
     case round =>
      obtain ⟨J, hJ, rfl, hris, hlb, hks, hb⟩ := hrel
      have HBwr : Hid (Below w.heap.size w wr) := hb
      have HRis : Hid (RisT (m.touched.take J)) := hris
      have HLb : Hid (∀ x ∈ m.touched.take J, lab x = true) := hlb
      have KSwr : Hid (Bk w.heap.size (sml m) wr) := hks
      clear hb hks hris hlb s0 s1 s2 s3 s4 s5 s6
      obtain ⟨s0, s1, s2, s3, s4, s5, s6⟩ := (KSwr.out).c7
      by_cases hlt : J < m.touched.length
      ·have hJi : (J : Int) < (m.touched.length : Int) := by omega
       obtain ⟨b, off, hao, hbl, d0, hsz⟩ := (HS.out.next HBwr.out).touched.at hlt
       have KS : Hid (Bk w.heap.size [.slice m.aoW m.wl.length m.capW, .bool m.tip, .slice m.aoH m.held.length m.capH, .slice (some ⟨b, off, none⟩) m.touched.length m.capT, .int .i64 m.used, .int .i64 m.heat, .int .i64 m.clock] wr) := by show Bk _ _ _; rw [← hao]; exact KSwr.out
       have HLA : Hid (lab (m.touched[J]'hlt) = true → ∀ x ∈ m.touched.take (J + 1), lab x = true) := fun h x hx => by
        rw [List.take_succ_eq_append_getElem hlt] at hx
        rcases List.mem_append.1 hx with hx | hx
        ·exact HLb.out x hx
        ·rw [List.mem_singleton] at hx; rw [hx]; exact h
       have HLN : Hid (lab (m.touched[J]'hlt) = false → mayS l m.st = false) := fun h => mayS_no fun hh => by
        have := (HT.out.1 hh.2).2.2.1 _ (List.getElem_mem hlt)
        rw [h] at this
        cases this
       have HLM0 : Hid (∀ W, Calls Tryz.prog 35 #[.string (m.touched[J]'hlt)] W fun e w' => e = .returned (.bool (lab (m.touched[J]'hlt))) ∧ w' = W) := fun W => F.labelMay_any _ W hsz
       rw [hao] at s3
       cases hlab : lab (m.touched[J]'hlt) with
       | false =>
        have HNO : Hid (mayS l m.st = false) := HLN.out hlab
        have HLM := HLM0
        rw [hlab] at HLM
        clear hlab HLN HLA HLM0 HRis hao
        generalize m.touched[J]'hlt = y at *
        go_wp2_with fail
        rename_i KK hkk
        have HKK := (show Hid _ from hkk)
        clear hkk
        refine region_inv [zf,zf,zf,zf,zf,zf,zf,zf,zf,zf,zf,zf,zf,zf,zf,zf,zf,zf,zf,zf,zf,zf,zf,zf,zf,zf,zf,zf,zf,zf,zf,zf,zf,zf,zf,zf,zf,zf,zf,zf,zf,zf,zf,zf,zf,zf,zf,zf,zf,zf,zf,zf,zf,zf,zf,zf,zf,zf,zf,zf,zf,zf,zf,zf,zf,zf,zf,zf,zf,zf,zf,zf,zf,zf,zf,zf,zf,zf,zf,zf,zf,zf,zf,zf,zf,zf,zf,zf,zf,zf,zf,zf,zf,zf,zf,zf,zf,zf,zf,zf,zf,zf,zf,zf,zf,zf,zf,zf,zf,zf,zf,zf,zf,zf,zf,zf,zt,zt,zt,zt,zt,zt,zt,zt,zt,zt,zt,zt,zt,zt,zt,zt,zt,zt,zt,zt,zt,zt,zt,zt,zt,zf,zf,zf,zf,zf,zf,zf,zf,zf,zf,zf,zf,zf,zf,zf,zf,zf,zf,zf,zf,zf,zf,zf,zf,zf,zf,zf,zf,zf,zf,zf,zf,zf]
         [(116, [], none), (117, [116], none), (118, [], none), (119, [117, 118], none), (120, [119], none), (121, [120], none), (122, [121], none), (123, [122], none), (124, [123], some (123, false)), (125, [123, 124], some (123, false)), (126, [123, 125], some (123, false)), (127, [126], some (126, true)), (128, [126, 127], some (126, true)), (129, [126], some (126, true)), (130, [126, 129], some (126, true)), (131, [126, 128, 130], some (126, true)), (132, [126, 131], some (126, true)), (133, [126], some (126, true)), (134, [126, 133], some (126, true)), (135, [126], some (126, true)), (136, [126, 134, 135], some (126, true)), (137, [126, 136], some (126, true)), (138, [126, 132, 137], some (126, true)), (139, [123, 126, 138], some (123, false)), (140, [123, 139], none)]
         (sfV w.heap.size b off m.touched.length m.capT J y) (by kernel_rfl) (by kernel_rfl) (sfV_mono w.heap.size b off m.touched.length m.capT J y) ?_ ?_
        ·refine ⟨?_, ?_, ?_, ?_, ?_, ?_, ?_, ?_, ?_, ?_, ?_, ?_, ?_, ?_, ?_, ?_, ?_, ?_, ?_, ?_, ?_, ?_, ?_, ?_, ?_, trivial⟩
         ·intro f w1 hb _ K hK
          simp only [over, overL, Nat.reduceAdd]
          go_simp
          exact hK _ _ ⟨_, rfl, by simp only [over, overL, Nat.reduceAdd]; rfl, brf⟩
         ·rintro f w1 hb ⟨(h116 : f 116 = _), _⟩ K hK
          have q3 := (KS.out.later hb).c 3 rfl
          simp only [over, overL, Nat.reduceAdd, h116]
          go_simp
          exact hK _ _ ⟨_, rfl, by simp only [over, overL, Nat.reduceAdd, h116]; rfl, brf⟩
         ·intro f w1 hb _ K hK
          simp only [over, overL, Nat.reduceAdd]
          go_simp
          exact hK _ _ ⟨_, rfl, by simp only [over, overL, Nat.reduceAdd]; rfl, brf⟩
         ·rintro f w1 hb ⟨(h117 : f 117 = _), (h118 : f 118 = _), _⟩ K hK
          simp only [over, overL, Nat.reduceAdd, h117, h118]
          go_simp
          exact hK _ _ ⟨_, rfl, by simp only [over, overL, Nat.reduceAdd, h117, h118]; rfl, brf⟩
         ·rintro f w1 hb ⟨(h119 : f 119 = _), _⟩ K hK
          have q9 := cell_later hb d0
          simp only [over, overL, Nat.reduceAdd, h119]
          go_simp
          exact hK _ _ ⟨_, rfl, by simp only [over, overL, Nat.reduceAdd, h119]; rfl, brf⟩
         ·rintro f w1 hb ⟨(h120 : f 120 = _), _⟩ K hK
          simp only [over, overL, Nat.reduceAdd, h120]
          go_simp
          refine ((HLM.out w1).mono) ?_
          rintro e w2 ⟨rfl, hw⟩
          exact hK _ _ ⟨_, rfl, by simp only [over, overL, Nat.reduceAdd, h120]; rfl, (by rw [hw]; exact brf)⟩
         ·rintro f w1 hb ⟨(h121 : f 121 = _), _⟩ K hK
          simp only [over, overL, Nat.reduceAdd, h121]
          go_simp
          exact hK _ _ ⟨_, rfl, by simp only [over, overL, Nat.reduceAdd, h121]; rfl, brf⟩
         ·rintro f w1 hb ⟨(h122 : f 122 = _), _⟩ K hK
          simp only [over, overL, Nat.reduceAdd, h122]
          go_simp
          exact hK _ _ ⟨_, rfl, by simp only [over, overL, Nat.reduceAdd, h122]; rfl, brf⟩
         ·rintro f w1 hb ⟨(h123 : f 123 = _), _⟩
          exact ⟨fun hg => absurd (h123.symm.trans hg) (by simp), fun _ => trivial⟩
         ·rintro f w1 hb ⟨(h123 : f 123 = _), h124, _⟩
          exact ⟨fun hg => absurd (h123.symm.trans hg) (by simp), fun _ => trivial⟩
         ·rintro f w1 hb ⟨(h123 : f 123 = _), h125, _⟩
          exact ⟨fun hg => absurd (h123.symm.trans hg) (by simp), fun _ => rfl⟩
         ·rintro f w1 hb ⟨(h126 : f 126 = _), _⟩
          exact ⟨fun hg => absurd (h126.symm.trans hg) (by simp [undef]), fun _ => trivial⟩
         ·rintro f w1 hb ⟨(h126 : f 126 = _), h127, _⟩
          exact ⟨fun hg => absurd (h126.symm.trans hg) (by simp [undef]), fun _ => trivial⟩
         ·rintro f w1 hb ⟨(h126 : f 126 = _), _⟩
          exact ⟨fun hg => absurd (h126.symm.trans hg) (by simp [undef]), fun _ => trivial⟩
         ·rintro f w1 hb ⟨(h126 : f 126 = _), h129, _⟩
          exact ⟨fun hg => absurd (h126.symm.trans hg) (by simp [undef]), fun _ => trivial⟩
         ·rintro f w1 hb ⟨(h126 : f 126 = _), h128, h130, _⟩
          exact ⟨fun hg => absurd (h126.symm.trans hg) (by simp [undef]), fun _ => trivial⟩
         ·rintro f w1 hb ⟨(h126 : f 126 = _), h131, _⟩
          exact ⟨fun hg => absurd (h126.symm.trans hg) (by simp [undef]), fun _ => trivial⟩
         ·rintro f w1 hb ⟨(h126 : f 126 = _), _⟩
          exact ⟨fun hg => absurd (h126.symm.trans hg) (by simp [undef]), fun _ => trivial⟩
         ·rintro f w1 hb ⟨(h126 : f 126 = _), h133, _⟩
          exact ⟨fun hg => absurd (h126.symm.trans hg) (by simp [undef]), fun _ => trivial⟩
         ·rintro f w1 hb ⟨(h126 : f 126 = _), _⟩
          exact ⟨fun hg => absurd (h126.symm.trans hg) (by simp [undef]), fun _ => trivial⟩
         ·rintro f w1 hb ⟨(h126 : f 126 = _), h134, h135, _⟩
          exact ⟨fun hg => absurd (h126.symm.trans hg) (by simp [undef]), fun _ => trivial⟩
         ·rintro f w1 hb ⟨(h126 : f 126 = _), h136, _⟩
          exact ⟨fun hg => absurd (h126.symm.trans hg) (by simp [undef]), fun _ => trivial⟩
         ·rintro f w1 hb ⟨(h126 : f 126 = _), h132, h137, _⟩
          exact ⟨fun hg => absurd (h126.symm.trans hg) (by simp [undef]), fun _ => trivial⟩
         ·rintro f w1 hb ⟨(h123 : f 123 = _), h126, h138, _⟩
          exact ⟨fun hg => absurd (h123.symm.trans hg) (by simp), fun _ => trivial⟩
         ·rintro f w1 hb ⟨(h123 : f 123 = _), h139, _⟩ K hK
          simp only [over, overL, Nat.reduceAdd, h123]
          go_simp
          exact hK _ _ ⟨_, rfl, by simp only [over, overL, Nat.reduceAdd, h123]; rfl, brf⟩
        intro f wx hbn hv
        have h140 : f 140 = .bool true := hv.2.2.2.2.2.2.2.2.2.2.2.2.2.2.2.2.2.2.2.2.2.2.2.2.1
        have HBwx : Hid (Below w.heap.size w wx) := HBwr.out.trans (hbn.mono HBwr.out.size)
        have KSwx : Hid (Bk w.heap.size (sml m) wx) := KSwr.out.later hbn
        clear hbn hv
        simp only [over, overL, Nat.reduceAdd, h140]
        clear h140
        refine HKK.out _ _ ?_
        go_wp2
        go_ret
        exact ⟨ret_bool HNO.out.symm, HBwx.out⟩
       | true =>
        have HLA2 := (show Hid _ from HLA.out hlab)
        have HLM := HLM0
        rw [hlab] at HLM
        clear hlab HLN HLA HLM0
        rcases (show J = 0 ∨ ∃ j, J = j + 1 from by cases J with | zero => exact .inl rfl | succ j => exact .inr ⟨j, rfl⟩) with h0 | ⟨k, hk⟩
        ·have HR1 : Hid (RisT (m.touched.take (J + 1))) := by
          subst h0
          show RisT _
          rw [List.take_succ_eq_append_getElem hlt]
          simp [RisT]
         have hJ0 : decide ((0 : Int) < (J : Int)) = false := by simp; omega
         have hJ1 : decide (0 < J) = false := by simp; omega
         clear h0 hao
         generalize m.touched[J]'hlt = y at *
         go_wp2_with fail
         go_big_quiet (first | (go_at_call 35; exact Calls.mono (HLM.out _) fun _ _ ⟨he, hw⟩ => ⟨he, _, hw⟩))
         go_wp2
         go_roundw
         case rel => exact ⟨J + 1, by omega, by go_num, HR1.out, HLA2.out, KSwr.out.later (blw_drewN (brf) _), blw_drewN HBwr.out _⟩
         case measure => simp [intOf]; omega
        ·have hkl : k < m.touched.length := by omega
         have hJ0 : (0 : Int) < (J : Int) := by omega
         have hJ1 : 0 < J := by omega
         have hwk : IntKind.i64.wrap ((J : Int) - 1) = (k : Int) := by rw [wrap_in (by omega) (by omega)]; omega
         obtain ⟨b', off', hao', _, c0, _⟩ := (HS.out.next HBwr.out).touched.at hkl
         rw [hao] at hao'
         simp only [Option.some.injEq, Addr.mk.injEq, and_true] at hao'
         obtain ⟨rfl, rfl⟩ := hao'
         have HSn : Hid (ltT (m.touched[k]'hkl) (m.touched[J]'hlt) = true → RisT (m.touched.take (J + 1))) := by
          subst hk
          exact ris_snoc hlt HRis.out
         have HN : Hid (ltT (m.touched[k]'hkl) (m.touched[J]'hlt) = false → mayS l m.st = false) := by
          subst hk
          exact fun h => mayS_no fun hh => ris_not hlt h ((HT.out.1 hh.2).2.2.2.1)
         clear hao hk HRis
         generalize m.touched[k]'hkl = x at *
         generalize m.touched[J]'hlt = y at *
         have hbl2 := bl_lt x y
         cases hxy : ltT x y with
         | true =>
          have HR1 : Hid (RisT (m.touched.take (J + 1))) := HSn.out hxy
          rw [hxy] at hbl2
          clear hxy HSn HN
          go_wp2_with fail
          go_big_quiet (first | (go_at_call 35; exact Calls.mono (HLM.out _) fun _ _ ⟨he, hw⟩ => ⟨he, _, hw⟩))
          go_wp2
          go_roundw
          case rel => exact ⟨J + 1, by omega, by go_num, HR1.out, HLA2.out, KSwr.out.later (blw_drewN (brf) _), blw_drewN HBwr.out _⟩
          case measure => simp [intOf]; omega
         | false =>
          have HNO : Hid (mayS l m.st = false) := HN.out hxy
          rw [hxy] at hbl2
          clear hxy HSn HN
          go_wp2_with fail
          go_big_quiet (first | (go_at_call 35; exact Calls.mono (HLM.out _) fun _ _ ⟨he, hw⟩ => ⟨he, _, hw⟩))
          go_wp2
          go_ret
          exact ⟨ret_bool HNO.out.symm, blw_drewN HBwr.out _⟩
      ·have HRT : Hid (RisT m.touched) := by have := HRis.out; rw [List.take_of_length_le (by omega)] at this; exact this
       have HLT : Hid (∀ x ∈ m.touched, lab x = true) := by have := HLb.out; rw [List.take_of_length_le (by omega)] at this; exact this
       have hJi : ¬ (J : Int) < (m.touched.length : Int) := by omega
       obtain ⟨we, hwe⟩ : ∃ x, x = wr := ⟨_, rfl⟩
       subst hwe
       clear HRis HLb
       go_wp2_with fail
       go_loopw [9] (fun i wr => ∃ k : Nat, k ≤ m.held.length ∧ i = .int .i64 k ∧ (∀ p ∈ m.held.take k, p.1 ∈ m.touched) ∧ Bk w.heap.size (sml m) wr ∧ Below w.heap.size w wr) (fun i _ => m.held.length - (intOf i).toNat)
       case atStart => exact ⟨0, Nat.zero_le _, rfl, (fun x hx => by simp at hx), KSwr.out, HBwr.out⟩
       case round =>
        obtain ⟨k, hk, rfl, hin, hks, hb⟩ := hrel
        have HBwf : Hid (Below w.heap.size w wr) := hb
        have HIN : Hid (∀ p ∈ m.held.take k, p.1 ∈ m.touched) := hin
        have KSwf : Hid (Bk w.heap.size (sml m) wr) := hks
        clear hb hks hin s0 s1 s2 s3 s4 s5 s6
        obtain ⟨s0, s1, s2, s3, s4, s5, s6⟩ := (KSwf.out).c7
        have hh9 := HL.out.held
        by_cases hlh : k < m.held.length
        ·have hki : (k : Int) < (m.held.length : Int) := by omega
         obtain ⟨b, off, hao, hbl, c0, _, _⟩ := F.Fl.at (HS.out.next HBwf.out).held hlh
         have KS : Hid (Bk w.heap.size [.slice m.aoW m.wl.length m.capW, .bool m.tip, .slice (some ⟨b, off, none⟩) m.held.length m.capH, .slice m.aoT m.touched.length m.capT, .int .i64 m.used, .int .i64 m.heat, .int .i64 m.clock] wr) := by show Bk _ _ _; rw [← hao]; exact KSwf.out
         rw [hao] at s2
         have HTX : Hid (∀ n, Calls Tryz.prog 36 #[.slice m.aoT m.touched.length m.capT, .string (m.held[k]'hlh).1] (wr.drewN n) fun e w' => e = .returned (.int .i64 (txAt m.touched (m.held[k]'hlh).1)) ∧ w' = wr.drewN n) := fun n => textAt_any m.aoT m.capT m.touched _ _ ((HS.out.next HBwf.out).next (blw_drewN (brf) n)).touched HL.out.touched
         have HMM : Hid (¬ txAt m.touched (m.held[k]'hlh).1 < 0 → ∀ p ∈ m.held.take (k + 1), p.1 ∈ m.touched) := fun h p hp => by
          rw [List.take_succ_eq_append_getElem hlh] at hp
          rcases List.mem_append.1 hp with hp | hp
          ·exact HIN.out p hp
          ·rw [List.mem_singleton] at hp; rw [hp]; exact Classical.not_not.1 fun h2 => h (txAt_neg.2 h2)
         have HMN : Hid (txAt m.touched (m.held[k]'hlh).1 < 0 → mayS l m.st = false) := fun h => mayS_no fun hh => (txAt_neg.1 h) ((HT.out.1 hh.2).2.2.2.2.1 _ (List.getElem_mem hlh))
         clear hao HIN
         generalize txAt m.touched (m.held[k]'hlh).1 = r at *
         generalize (m.held[k]'hlh).1 = y at *
         by_cases hr : r < 0
         ·have HNO : Hid (mayS l m.st = false) := HMN.out hr
          clear HMM HMN
          go_wp2_with fail
          go_big_quiet (first | (go_at_call 36; exact Calls.mono (HTX.out _) fun _ _ ⟨he, hw⟩ => ⟨he, _, hw⟩))
          go_wp2
          go_ret
          exact ⟨ret_bool HNO.out.symm, blw_drewN HBwf.out _⟩
         ·have HIN2 := (show Hid _ from HMM.out hr)
          clear HMM HMN
          go_wp2_with fail
          go_big_quiet (first | (go_at_call 36; exact Calls.mono (HTX.out _) fun _ _ ⟨he, hw⟩ => ⟨he, _, hw⟩))
          go_wp2
          go_roundw
          case rel => exact ⟨k + 1, by omega, by go_num, HIN2.out, KSwf.out.later (blw_drewN (brf) _), blw_drewN HBwf.out _⟩
          case measure => simp [intOf]; omega
        ·have HAL : Hid (∀ p ∈ m.held, p.1 ∈ m.touched) := by have := HIN.out; rw [List.take_of_length_le (by omega)] at this; exact this
         have hki : ¬ (k : Int) < (m.held.length : Int) := by omega
         have HTT : Hid (mayTake l m.st = inR 0 (tipsL l).length m.used) := by
          show _ = _
          rw [Bool.eq_iff_iff, HT.out]
          exact ⟨fun h => h.2.2.2.2.2, fun h => ⟨HMH.out, h100', HLT.out, HRT.out, HAL.out, h⟩⟩
         have HTO : Hid (∀ W, Below wr.heap.size wr W → Calls Tryz.prog 38 #[.slice ao l.length cap] W fun e w' => ∃ v, e = .returned v ∧ (∃ aoV capV, v = .slice aoV (tipsL l).length capV) ∧ Below W.heap.size W w') := fun W hW => (tipsOf_any ao cap l W ((HD.out.next HBwf.out).next hW) HDC.out).mono fun e w' ⟨v, he, ho, hb⟩ => ⟨v, he, ho.shape, hb⟩
         have HW1 : Hid (∀ W, Calls Tryz.prog 37 #[.int .i64 m.used, .int .i64 0, .int .i64 ((tipsL l).length : Int)] W fun e w' => e = .returned (.bool (inR 0 (tipsL l).length m.used)) ∧ w' = W) := fun W => rwithin_any 0 m.used _ W
         have HW2 : Hid (∀ W, Calls Tryz.prog 37 #[.int .i64 m.heat, .int .i64 0, .int .i64 1000000000] W fun e w' => e = .returned (.bool (inR 0 1000000000 m.heat)) ∧ w' = W) := fun W => rwithin_any 0 m.heat _ W
         have HW3 : Hid (∀ W, Calls Tryz.prog 37 #[.int .i64 m.clock, .int .i64 0, .int .i64 1000000000] W fun e w' => e = .returned (.bool (inR 0 1000000000 m.clock)) ∧ w' = W) := fun W => rwithin_any 0 m.clock _ W
         have KS := KSwf
         clear HIN
         cases h1 : inR 0 (tipsL l).length m.used with
         | false =>
          have HNO : Hid (mayS l m.st = false) := mayS_no fun hh => by have := hh.2; rw [HTT.out, h1] at this; cases this
          rw [h1] at HW1
          clear h1
          go_wp2_with fail
          rename_i KK hkk
          have HKK := (show Hid _ from hkk)
          clear hkk
          refine region_inv [zf,zf,zf,zf,zt,zf,zf,zf,zf,zf,zf,zf,zf,zf,zf,zf,zf,zf,zf,zf,zf,zf,zf,zf,zf,zf,zf,zf,zf,zf,zf,zf,zf,zf,zf,zf,zf,zf,zf,zf,zf,zf,zf,zf,zf,zf,zf,zf,zf,zf,zf,zf,zf,zf,zf,zf,zf,zf,zf,zf,zf,zf,zf,zf,zf,zf,zf,zf,zf,zf,zf,zf,zf,zf,zf,zf,zf,zf,zf,zf,zf,zf,zf,zf,zf,zf,zf,zf,zf,zf,zf,zf,zf,zf,zf,zf,zf,zf,zf,zf,zf,zf,zf,zf,zf,zf,zf,zf,zf,zf,zf,zf,zf,zf,zf,zf,zf,zf,zf,zf,zf,zf,zf,zf,zf,zf,zf,zf,zf,zf,zf,zf,zf,zf,zf,zf,zf,zf,zf,zf,zf,zf,zf,zf,zf,zf,zf,zf,zf,zf,zf,zf,zf,zf,zf,zf,zf,zf,zt,zt,zt,zt,zt,zt,zt,zt,zt,zt,zt,zt,zt,zt,zt,zt]
           [(158, [], none), (159, [158], none), (160, [], none), (161, [160], none), (162, [161], none), (163, [159, 162], none), (164, [163], none), (165, [164], some (164, true)), (166, [164, 165], some (164, true)), (167, [164, 166], some (164, true)), (168, [164, 167], none), (169, [168], none), (170, [169], some (169, true)), (171, [169, 170], some (169, true)), (172, [169, 171], some (169, true)), (173, [169, 172], none), (4, [173], none)]
           (slV w.heap.size ao l.length cap (tipsL l).length m.used m.heat m.clock true) (by kernel_rfl) (by kernel_rfl) (slV_mono w.heap.size ao l.length cap (tipsL l).length m.used m.heat m.clock true) ?_ ?_
          ·refine ⟨?_, ?_, ?_, ?_, ?_, ?_, ?_, ?_, ?_, ?_, ?_, ?_, ?_, ?_, ?_, ?_, ?_, trivial⟩
           ·intro f w1 hb _ K hK
            simp only [over, overL, Nat.reduceAdd]
            go_simp
            exact hK _ _ ⟨_, rfl, by simp only [over, overL, Nat.reduceAdd]; rfl, brf⟩
           ·rintro f w1 hb ⟨(h158 : f 158 = _), _⟩ K hK
            have q4 := (KS.out.later hb).c 4 rfl
            simp only [over, overL, Nat.reduceAdd, h158]
            go_simp
            exact hK _ _ ⟨_, rfl, by simp only [over, overL, Nat.reduceAdd, h158]; rfl, brf⟩
           ·intro f w1 hb _ K hK
            simp only [over, overL, Nat.reduceAdd]
            go_simp
            exact hK _ _ ⟨_, rfl, by simp only [over, overL, Nat.reduceAdd]; rfl, brf⟩
           ·rintro f w1 hb ⟨(h160 : f 160 = _), _⟩ K hK
            simp only [over, overL, Nat.reduceAdd, h160]
            go_simp
            refine ((HTO.out w1 hb).mono) ?_
            rintro e w2 ⟨v, rfl, hsh, hb2⟩
            exact hK _ _ ⟨_, hsh, by simp only [over, overL, Nat.reduceAdd, h160]; rfl, hb2⟩
           ·intro f w1 hb ⟨h161, _⟩ K hK
            obtain ⟨aoV, capV, h161⟩ := h161
            simp only [over, overL, Nat.reduceAdd, h161]
            go_simp
            exact hK _ _ ⟨_, rfl, by simp only [over, overL, Nat.reduceAdd, h161]; rfl, brf⟩
           ·rintro f w1 hb ⟨(h159 : f 159 = _), (h162 : f 162 = _), _⟩ K hK
            simp only [over, overL, Nat.reduceAdd, h159, h162]
            go_simp
            refine ((HW1.out w1).mono) ?_
            rintro e w2 ⟨rfl, hw⟩
            exact hK _ _ ⟨_, rfl, by simp only [over, overL, Nat.reduceAdd, h159, h162]; rfl, (by rw [hw]; exact brf)⟩
           ·rintro f w1 hb ⟨(h163 : f 163 = _), _⟩ K hK
            simp only [over, overL, Nat.reduceAdd, h163]
            go_simp
            exact hK _ _ ⟨_, rfl, by simp only [over, overL, Nat.reduceAdd, h163]; rfl, brf⟩
           ·rintro f w1 hb ⟨(h164 : f 164 = _), _⟩
            exact ⟨fun hg => absurd (h164.symm.trans hg) (by simp), fun _ => trivial⟩
           ·rintro f w1 hb ⟨(h164 : f 164 = _), h165, _⟩
            exact ⟨fun hg => absurd (h164.symm.trans hg) (by simp), fun _ => trivial⟩
           ·rintro f w1 hb ⟨(h164 : f 164 = _), h166, _⟩
            exact ⟨fun hg => absurd (h164.symm.trans hg) (by simp), fun _ => trivial⟩
           ·rintro f w1 hb ⟨(h164 : f 164 = _), h167, _⟩ K hK
            simp only [over, overL, Nat.reduceAdd, h164]
            go_simp
            exact hK _ _ ⟨_, rfl, by simp only [over, overL, Nat.reduceAdd, h164]; rfl, brf⟩
           ·rintro f w1 hb ⟨(h168 : f 168 = _), _⟩ K hK
            simp only [over, overL, Nat.reduceAdd, h168]
            go_simp
            exact hK _ _ ⟨_, rfl, by simp only [over, overL, Nat.reduceAdd, h168]; rfl, brf⟩
           ·rintro f w1 hb ⟨(h169 : f 169 = _), _⟩
            exact ⟨fun hg => absurd (h169.symm.trans hg) (by simp), fun _ => trivial⟩
           ·rintro f w1 hb ⟨(h169 : f 169 = _), h170, _⟩
            exact ⟨fun hg => absurd (h169.symm.trans hg) (by simp), fun _ => trivial⟩
           ·rintro f w1 hb ⟨(h169 : f 169 = _), h171, _⟩
            exact ⟨fun hg => absurd (h169.symm.trans hg) (by simp), fun _ => trivial⟩
           ·rintro f w1 hb ⟨(h169 : f 169 = _), h172, _⟩ K hK
            simp only [over, overL, Nat.reduceAdd, h169]
            go_simp
            exact hK _ _ ⟨_, rfl, by simp only [over, overL, Nat.reduceAdd, h169]; rfl, brf⟩
           ·rintro f w1 hb ⟨(h173 : f 173 = _), _⟩ K hK
            simp only [over, overL, Nat.reduceAdd, h173]
            go_simp
            exact hK _ _ ⟨_, rfl, by simp only [over, overL, Nat.reduceAdd, h173]; rfl, brf⟩
          intro f wx hbn hv
          have h4 : f 4 = .bool false := hv.2.2.2.2.2.2.2.2.2.2.2.2.2.2.2.2.1
          have HBwx : Hid (Below w.heap.size w wx) := HBwf.out.trans (hbn.mono HBwf.out.size)
          have KSwx : Hid (Bk w.heap.size (sml m) wx) := KSwf.out.later hbn
          clear hbn hv
          simp only [over, overL, Nat.reduceAdd, h4]
          clear h4
          refine HKK.out _ _ ?_
          go_wp2
          go_ret
          exact ⟨ret_bool HNO.out.symm, HBwx.out⟩
         | true =>
          have HQ : Hid (mayS l m.st = (inR 0 1000000000 m.heat && inR 0 1000000000 m.clock)) := mayS_yes HDC.out HMF.out (by rw [HTT.out, h1])
          rw [h1] at HW1
          clear h1
          cases h2 : inR 0 1000000000 m.heat with
          | false =>
           rw [h2] at HW2 HQ
           clear h2
           go_wp2_with fail
           rename_i KK hkk
           have HKK := (show Hid _ from hkk)
           clear hkk
           refine region_inv [zf,zf,zf,zf,zt,zf,zf,zf,zf,zf,zf,zf,zf,zf,zf,zf,zf,zf,zf,zf,zf,zf,zf,zf,zf,zf,zf,zf,zf,zf,zf,zf,zf,zf,zf,zf,zf,zf,zf,zf,zf,zf,zf,zf,zf,zf,zf,zf,zf,zf,zf,zf,zf,zf,zf,zf,zf,zf,zf,zf,zf,zf,zf,zf,zf,zf,zf,zf,zf,zf,zf,zf,zf,zf,zf,zf,zf,zf,zf,zf,zf,zf,zf,zf,zf,zf,zf,zf,zf,zf,zf,zf,zf,zf,zf,zf,zf,zf,zf,zf,zf,zf,zf,zf,zf,zf,zf,zf,zf,zf,zf,zf,zf,zf,zf,zf,zf,zf,zf,zf,zf,zf,zf,zf,zf,zf,zf,zf,zf,zf,zf,zf,zf,zf,zf,zf,zf,zf,zf,zf,zf,zf,zf,zf,zf,zf,zf,zf,zf,zf,zf,zf,zf,zf,zf,zf,zf,zf,zt,zt,zt,zt,zt,zt,zt,zt,zt,zt,zt,zt,zt,zt,zt,zt]
            [(158, [], none), (159, [158], none), (160, [], none), (161, [160], none), (162, [161], none), (163, [159, 162], none), (164, [163], none), (165, [164], some (164, true)), (166, [164, 165], some (164, true)), (167, [164, 166], some (164, true)), (168, [164, 167], none), (169, [168], none), (170, [169], some (169, true)), (171, [169, 170], some (169, true)), (172, [169, 171], some (169, true)), (173, [169, 172], none), (4, [173], none)]
            (snV w.heap.size ao l.length cap (tipsL l).length m.used m.heat m.clock true) (by kernel_rfl) (by kernel_rfl) (snV_mono w.heap.size ao l.length cap (tipsL l).length m.used m.heat m.clock true) ?_ ?_
           ·refine ⟨?_, ?_, ?_, ?_, ?_, ?_, ?_, ?_, ?_, ?_, ?_, ?_, ?_, ?_, ?_, ?_, ?_, trivial⟩
            ·intro f w1 hb _ K hK
             simp only [over, overL, Nat.reduceAdd]
             go_simp
             exact hK _ _ ⟨_, rfl, by simp only [over, overL, Nat.reduceAdd]; rfl, brf⟩
            ·rintro f w1 hb ⟨(h158 : f 158 = _), _⟩ K hK
             have q4 := (KS.out.later hb).c 4 rfl
             simp only [over, overL, Nat.reduceAdd, h158]
             go_simp
             exact hK _ _ ⟨_, rfl, by simp only [over, overL, Nat.reduceAdd, h158]; rfl, brf⟩
            ·intro f w1 hb _ K hK
             simp only [over, overL, Nat.reduceAdd]
             go_simp
             exact hK _ _ ⟨_, rfl, by simp only [over, overL, Nat.reduceAdd]; rfl, brf⟩
            ·rintro f w1 hb ⟨(h160 : f 160 = _), _⟩ K hK
             simp only [over, overL, Nat.reduceAdd, h160]
             go_simp
             refine ((HTO.out w1 hb).mono) ?_
             rintro e w2 ⟨v, rfl, hsh, hb2⟩
             exact hK _ _ ⟨_, hsh, by simp only [over, overL, Nat.reduceAdd, h160]; rfl, hb2⟩
            ·intro f w1 hb ⟨h161, _⟩ K hK
             obtain ⟨aoV, capV, h161⟩ := h161
             simp only [over, overL, Nat.reduceAdd, h161]
             go_simp
             exact hK _ _ ⟨_, rfl, by simp only [over, overL, Nat.reduceAdd, h161]; rfl, brf⟩
            ·rintro f w1 hb ⟨(h159 : f 159 = _), (h162 : f 162 = _), _⟩ K hK
             simp only [over, overL, Nat.reduceAdd, h159, h162]
             go_simp
             refine ((HW1.out w1).mono) ?_
             rintro e w2 ⟨rfl, hw⟩
             exact hK _ _ ⟨_, rfl, by simp only [over, overL, Nat.reduceAdd, h159, h162]; rfl, (by rw [hw]; exact brf)⟩
            ·rintro f w1 hb ⟨(h163 : f 163 = _), _⟩ K hK
             simp only [over, overL, Nat.reduceAdd, h163]
             go_simp
             exact hK _ _ ⟨_, rfl, by simp only [over, overL, Nat.reduceAdd, h163]; rfl, brf⟩
            ·rintro f w1 hb ⟨(h164 : f 164 = _), _⟩
             refine ⟨fun _ => ?_, fun hg => absurd h164 hg⟩
             intro K hK
             simp only [over, overL, Nat.reduceAdd, h164]
             go_simp
             exact hK _ _ ⟨_, rfl, by simp only [over, overL, Nat.reduceAdd, h164]; rfl, brf⟩
            ·rintro f w1 hb ⟨(h164 : f 164 = _), (h165 : f 165 = _), _⟩
             refine ⟨fun _ => ?_, fun hg => absurd h164 hg⟩
             intro K hK
             have q5 := (KS.out.later hb).c 5 rfl
             simp only [over, overL, Nat.reduceAdd, h164, h165]
             go_simp
             exact hK _ _ ⟨_, rfl, by simp only [over, overL, Nat.reduceAdd, h164, h165]; rfl, brf⟩
            ·rintro f w1 hb ⟨(h164 : f 164 = _), (h166 : f 166 = _), _⟩
             refine ⟨fun _ => ?_, fun hg => absurd h164 hg⟩
             intro K hK
             simp only [over, overL, Nat.reduceAdd, h164, h166]
             go_simp
             refine ((HW2.out w1).mono) ?_
             rintro e w2 ⟨rfl, hw⟩
             exact hK _ _ ⟨_, rfl, by simp only [over, overL, Nat.reduceAdd, h164, h166]; rfl, (by rw [hw]; exact brf)⟩
            ·rintro f w1 hb ⟨(h164 : f 164 = _), (h167 : f 167 = _), _⟩ K hK
             simp only [over, overL, Nat.reduceAdd, h164, h167]
             go_simp
             exact hK _ _ ⟨_, rfl, by simp only [over, overL, Nat.reduceAdd, h164, h167]; rfl, brf⟩
            ·rintro f w1 hb ⟨(h168 : f 168 = _), _⟩ K hK
             simp only [over, overL, Nat.reduceAdd, h168]
             go_simp
             exact hK _ _ ⟨_, rfl, by simp only [over, overL, Nat.reduceAdd, h168]; rfl, brf⟩
            ·rintro f w1 hb ⟨(h169 : f 169 = _), _⟩
             exact ⟨fun hg => absurd (h169.symm.trans hg) (by simp), fun _ => trivial⟩
            ·rintro f w1 hb ⟨(h169 : f 169 = _), h170, _⟩
             exact ⟨fun hg => absurd (h169.symm.trans hg) (by simp), fun _ => trivial⟩
            ·rintro f w1 hb ⟨(h169 : f 169 = _), h171, _⟩
             exact ⟨fun hg => absurd (h169.symm.trans hg) (by simp), fun _ => trivial⟩
            ·rintro f w1 hb ⟨(h169 : f 169 = _), h172, _⟩ K hK
             simp only [over, overL, Nat.reduceAdd, h169]
             go_simp
             exact hK _ _ ⟨_, rfl, by simp only [over, overL, Nat.reduceAdd, h169]; rfl, brf⟩
            ·rintro f w1 hb ⟨(h173 : f 173 = _), _⟩ K hK
             simp only [over, overL, Nat.reduceAdd, h173]
             go_simp
             exact hK _ _ ⟨_, rfl, by simp only [over, overL, Nat.reduceAdd, h173]; rfl, brf⟩
           intro f wx hbn hv
           have h4 : f 4 = .bool false := hv.2.2.2.2.2.2.2.2.2.2.2.2.2.2.2.2.1
           have HBwx : Hid (Below w.heap.size w wx) := HBwf.out.trans (hbn.mono HBwf.out.size)
           have KSwx : Hid (Bk w.heap.size (sml m) wx) := KSwf.out.later hbn
           clear hbn hv
           simp only [over, overL, Nat.reduceAdd, h4]
           clear h4
           refine HKK.out _ _ ?_
           go_wp2
           go_ret
           exact ⟨ret_bool HQ.out.symm, HBwx.out⟩
          | true =>
           rw [h2] at HW2 HQ
           clear h2
           go_wp2_with fail
           rename_i KK hkk
           have HKK := (show Hid _ from hkk)
           clear hkk
           refine region_inv [zf,zf,zf,zf,zt,zf,zf,zf,zf,zf,zf,zf,zf,zf,zf,zf,zf,zf,zf,zf,zf,zf,zf,zf,zf,zf,zf,zf,zf,zf,zf,zf,zf,zf,zf,zf,zf,zf,zf,zf,zf,zf,zf,zf,zf,zf,zf,zf,zf,zf,zf,zf,zf,zf,zf,zf,zf,zf,zf,zf,zf,zf,zf,zf,zf,zf,zf,zf,zf,zf,zf,zf,zf,zf,zf,zf,zf,zf,zf,zf,zf,zf,zf,zf,zf,zf,zf,zf,zf,zf,zf,zf,zf,zf,zf,zf,zf,zf,zf,zf,zf,zf,zf,zf,zf,zf,zf,zf,zf,zf,zf,zf,zf,zf,zf,zf,zf,zf,zf,zf,zf,zf,zf,zf,zf,zf,zf,zf,zf,zf,zf,zf,zf,zf,zf,zf,zf,zf,zf,zf,zf,zf,zf,zf,zf,zf,zf,zf,zf,zf,zf,zf,zf,zf,zf,zf,zf,zf,zt,zt,zt,zt,zt,zt,zt,zt,zt,zt,zt,zt,zt,zt,zt,zt]
            [(158, [], none), (159, [158], none), (160, [], none), (161, [160], none), (162, [161], none), (163, [159, 162], none), (164, [163], none), (165, [164], some (164, true)), (166, [164, 165], some (164, true)), (167, [164, 166], some (164, true)), (168, [164, 167], none), (169, [168], none), (170, [169], some (169, true)), (171, [169, 170], some (169, true)), (172, [169, 171], some (169, true)), (173, [169, 172], none), (4, [173], none)]
            (spV w.heap.size ao l.length cap (tipsL l).length m.used m.heat m.clock (inR 0 1000000000 m.clock)) (by kernel_rfl) (by kernel_rfl) (spV_mono w.heap.size ao l.length cap (tipsL l).length m.used m.heat m.clock (inR 0 1000000000 m.clock)) ?_ ?_
           ·refine ⟨?_, ?_, ?_, ?_, ?_, ?_, ?_, ?_, ?_, ?_, ?_, ?_, ?_, ?_, ?_, ?_, ?_, trivial⟩
            ·intro f w1 hb _ K hK
             simp only [over, overL, Nat.reduceAdd]
             go_simp
             exact hK _ _ ⟨_, rfl, by simp only [over, overL, Nat.reduceAdd]; rfl, brf⟩
            ·rintro f w1 hb ⟨(h158 : f 158 = _), _⟩ K hK
             have q4 := (KS.out.later hb).c 4 rfl
             simp only [over, overL, Nat.reduceAdd, h158]
             go_simp
             exact hK _ _ ⟨_, rfl, by simp only [over, overL, Nat.reduceAdd, h158]; rfl, brf⟩
            ·intro f w1 hb _ K hK
             simp only [over, overL, Nat.reduceAdd]
             go_simp
             exact hK _ _ ⟨_, rfl, by simp only [over, overL, Nat.reduceAdd]; rfl, brf⟩
            ·rintro f w1 hb ⟨(h160 : f 160 = _), _⟩ K hK
             simp only [over, overL, Nat.reduceAdd, h160]
             go_simp
             refine ((HTO.out w1 hb).mono) ?_
             rintro e w2 ⟨v, rfl, hsh, hb2⟩
             exact hK _ _ ⟨_, hsh, by simp only [over, overL, Nat.reduceAdd, h160]; rfl, hb2⟩
            ·intro f w1 hb ⟨h161, _⟩ K hK
             obtain ⟨aoV, capV, h161⟩ := h161
             simp only [over, overL, Nat.reduceAdd, h161]
             go_simp
             exact hK _ _ ⟨_, rfl, by simp only [over, overL, Nat.reduceAdd, h161]; rfl, brf⟩
            ·rintro f w1 hb ⟨(h159 : f 159 = _), (h162 : f 162 = _), _⟩ K hK
             simp only [over, overL, Nat.reduceAdd, h159, h162]
             go_simp
             refine ((HW1.out w1).mono) ?_
             rintro e w2 ⟨rfl, hw⟩
             exact hK _ _ ⟨_, rfl, by simp only [over, overL, Nat.reduceAdd, h159, h162]; rfl, (by rw [hw]; exact brf)⟩
            ·rintro f w1 hb ⟨(h163 : f 163 = _), _⟩ K hK
             simp only [over, overL, Nat.reduceAdd, h163]
             go_simp
             exact hK _ _ ⟨_, rfl, by simp only [over, overL, Nat.reduceAdd, h163]; rfl, brf⟩
            ·rintro f w1 hb ⟨(h164 : f 164 = _), _⟩
             refine ⟨fun _ => ?_, fun hg => absurd h164 hg⟩
             intro K hK
             simp only [over, overL, Nat.reduceAdd, h164]
             go_simp
             exact hK _ _ ⟨_, rfl, by simp only [over, overL, Nat.reduceAdd, h164]; rfl, brf⟩
            ·rintro f w1 hb ⟨(h164 : f 164 = _), (h165 : f 165 = _), _⟩
             refine ⟨fun _ => ?_, fun hg => absurd h164 hg⟩
             intro K hK
             have q5 := (KS.out.later hb).c 5 rfl
             simp only [over, overL, Nat.reduceAdd, h164, h165]
             go_simp
             exact hK _ _ ⟨_, rfl, by simp only [over, overL, Nat.reduceAdd, h164, h165]; rfl, brf⟩
            ·rintro f w1 hb ⟨(h164 : f 164 = _), (h166 : f 166 = _), _⟩
             refine ⟨fun _ => ?_, fun hg => absurd h164 hg⟩
             intro K hK
             simp only [over, overL, Nat.reduceAdd, h164, h166]
             go_simp
             refine ((HW2.out w1).mono) ?_
             rintro e w2 ⟨rfl, hw⟩
             exact hK _ _ ⟨_, rfl, by simp only [over, overL, Nat.reduceAdd, h164, h166]; rfl, (by rw [hw]; exact brf)⟩
            ·rintro f w1 hb ⟨(h164 : f 164 = _), (h167 : f 167 = _), _⟩ K hK
             simp only [over, overL, Nat.reduceAdd, h164, h167]
             go_simp
             exact hK _ _ ⟨_, rfl, by simp only [over, overL, Nat.reduceAdd, h164, h167]; rfl, brf⟩
            ·rintro f w1 hb ⟨(h168 : f 168 = _), _⟩ K hK
             simp only [over, overL, Nat.reduceAdd, h168]
             go_simp
             exact hK _ _ ⟨_, rfl, by simp only [over, overL, Nat.reduceAdd, h168]; rfl, brf⟩
            ·rintro f w1 hb ⟨(h169 : f 169 = _), _⟩
             refine ⟨fun _ => ?_, fun hg => absurd h169 hg⟩
             intro K hK
             simp only [over, overL, Nat.reduceAdd, h169]
             go_simp
             exact hK _ _ ⟨_, rfl, by simp only [over, overL, Nat.reduceAdd, h169]; rfl, brf⟩
            ·rintro f w1 hb ⟨(h169 : f 169 = _), (h170 : f 170 = _), _⟩
             refine ⟨fun _ => ?_, fun hg => absurd h169 hg⟩
             intro K hK
             have q6 := (KS.out.later hb).c 6 rfl
             simp only [over, overL, Nat.reduceAdd, h169, h170]
             go_simp
             exact hK _ _ ⟨_, rfl, by simp only [over, overL, Nat.reduceAdd, h169, h170]; rfl, brf⟩
            ·rintro f w1 hb ⟨(h169 : f 169 = _), (h171 : f 171 = _), _⟩
             refine ⟨fun _ => ?_, fun hg => absurd h169 hg⟩
             intro K hK
             simp only [over, overL, Nat.reduceAdd, h169, h171]
             go_simp
             refine ((HW3.out w1).mono) ?_
             rintro e w2 ⟨rfl, hw⟩
             exact hK _ _ ⟨_, rfl, by simp only [over, overL, Nat.reduceAdd, h169, h171]; rfl, (by rw [hw]; exact brf)⟩
            ·rintro f w1 hb ⟨(h169 : f 169 = _), (h172 : f 172 = _), _⟩ K hK
             simp only [over, overL, Nat.reduceAdd, h169, h172]
             go_simp
             exact hK _ _ ⟨_, rfl, by simp only [over, overL, Nat.reduceAdd, h169, h172]; rfl, brf⟩
            ·rintro f w1 hb ⟨(h173 : f 173 = _), _⟩ K hK
             simp only [over, overL, Nat.reduceAdd, h173]
             go_simp
             exact hK _ _ ⟨_, rfl, by simp only [over, overL, Nat.reduceAdd, h173]; rfl, brf⟩
           intro f wx hbn hv
           have h4 : f 4 = .bool (inR 0 1000000000 m.clock) := hv.2.2.2.2.2.2.2.2.2.2.2.2.2.2.2.2.1
           have HBwx : Hid (Below w.heap.size w wx) := HBwf.out.trans (hbn.mono HBwf.out.size)
           have KSwx : Hid (Bk w.heap.size (sml m) wx) := KSwf.out.later hbn
           clear hbn hv
           simp only [over, overL, Nat.reduceAdd, h4]
           clear h4
           refine HKK.out _ _ ?_
           go_wp2
           go_ret
           exact ⟨ret_bool HQ.out.symm, HBwx.out⟩
end Go.Proofs.YtfadmpnpgiceeaaGreat
