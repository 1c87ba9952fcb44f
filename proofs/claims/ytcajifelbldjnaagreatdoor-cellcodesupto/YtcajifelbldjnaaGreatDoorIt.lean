import Derived.Test.YtcajifelbldjnaaGreatDoorIr
import Derived.Test.YtcajifelbldjnaaGreatDoorIs
import Derived.Shelf.Strings.SlTrimAscii
import Derived.Lib.AtoiTie
import Derived.Lib.AtoiErrMem
import Derived.Lib.SmallJoins
import Derived.Lib.AppendIntMem
import Derived.WalkSmall
import Derived.Shelf.Strings.Builder1
import Derived.Shelf.Strings.Trim
import Derived.Shelf.Small.Bits
import Derived.Shelf.Small.Strs
import Derived.Shelf.Small.Wraps
import Derived.Shelf.Strings.BuilderF
import Derived.Shelf.Strings.BuilderK
import Derived.Shelf.Strconv.Atoi
import Derived.Shelf.Strconv.Itoa0
import Derived.Shelf.Strconv.Itoa1
import Derived.Shelf.LaysM
import Derived.Shelf.Strconv.Itoa2
import Derived.Shelf.Strconv.Itoa3
import Derived.Shelf.Strconv.AtoiErrFast
import Derived.Shelf.Strconv.ParseIntEmpty
import Derived.Shelf.Strconv.AtoiFail
import Derived.Shelf.Strconv.Clone
import Derived.Shelf.Strconv.SyntaxError
import Derived.Shelf.LaysC
import Derived.Shelf.Strconv.ToError
import Derived.Shelf.Strconv.AtoiErr
import Derived.Shelf.Strconv.Lower
import Derived.Shelf.Strconv.ParseUint10
import Derived.Shelf.Strconv.ParseUint10Empty
import Derived.Shelf.Strconv.ParseUint10Any
import Derived.Shelf.Strconv.ParseInt10
import Derived.Shelf.Strconv.AtoiLong
import Derived.Shelf.Strconv.AtoiInnerAll
import Derived.Shelf.Strconv.RangeError
import Derived.Shelf.Strconv.ToErrorRange
import Derived.Shelf.Strconv.AtoiAll
import Derived.Shelf.Strings.Search1
import Derived.Shelf.Strings.Search2
import Derived.Shelf.Strings.Search3
import Derived.Shelf.Strings.Cut
import Derived.Shelf.Strings.Count
import Derived.Shelf.Strings.Shaped
import Derived.Shelf.Strings.Prefix
import Derived.Shelf.Strings.Split
import Derived.Shelf.Strings.Runes
import Derived.Shelf.Strings.AsciiSet
import Derived.Shelf.Unicode.DecodeSlow
import Derived.Shelf.Strings.BuilderCap
import Derived.Ground.SlgmProg
import Derived.Shelf.SortM.Plain
import Derived.Shelf.SortM.SortNone
import Derived.Test.YtcajifelbldjnaaGreatDoorProg
import Derived.OwnWalk
import Derived.Test.YtcajifelbldjnaaGreatDoorIq
set_option maxRecDepth 100000
set_option maxHeartbeats 25600000
set_option linter.unusedVariables false
namespace Go.Proofs.YtcajifelbldjnaaGreatDoor.C
open Go.RowKit Go.Shelf
structure Tabs (w : World) : Prop where
 pow : Lib.TabIs Tryz.prog w "internal/strconv.uint64pow10" .u64 Lib.pow10Tab
 words : WT w
 size : 17 ≤ w.heap.size
structure Tall (w : World) : Prop where
 tabs : Tabs w
 most : ∃ m, w.cell? ⟨9, 0, none⟩ = some (.int .i64 m)
 syn : ∃ ev, w.cell? ⟨13, 0, none⟩ = some ev ∧ (ev = .nilIface ∨ ∃ te pe, ev = .iface te pe)
theorem cell_low {w w' : World} {B b o : Nat} {v : Value} (hb : Below B w w') (hB : b < B) (h : w.cell? ⟨b, o, none⟩ = some v) : w'.cell? ⟨b, o, none⟩ = some v := (hb.cell (p := ⟨b, o, none⟩) hB).trans h
theorem Tabs.low {w w' : World} (h : Tabs w) (hb : Below 17 w w') : Tabs w' where
 pow := var?_below hb (g := 10) (by kernel_rfl) (by decide) h.pow
 words := ⟨fun k hk => cell_low hb (by decide) (h.words.first k hk), fun k i hk hi => cell_low hb (by decide) (h.words.letter k i hk hi)⟩
 size := Nat.le_trans h.size hb.size
theorem Tall.low {w w' : World} (h : Tall w) (hb : Below 17 w w') : Tall w' where
 tabs := h.tabs.low hb
 most := h.most.imp fun _ hm => cell_low hb (by decide) hm
 syn := h.syn.imp fun _ hm => ⟨cell_low hb (by decide) hm.1, hm.2⟩
theorem Tall.later {w w' : World} (h : Tall w) (hb : Below w.heap.size w w') : Tall w' := h.low (hb.mono h.tabs.size)
theorem Tall.kept {M : Nat → Prop} {w w' : World} (h : Tall w) (hk : Kpt M w w') (hM : ∀ k, M k → 17 ≤ k) : Tall w' := h.low (hk.below h.tabs.size hM)
theorem Tabs.later {w w' : World} (h : Tabs w) (hb : Below w.heap.size w w') : Tabs w' := h.low (hb.mono h.size)
theorem drewN_below (w : World) (n : Nat) : Below w.heap.size w (w.drewN n) := ⟨rfl, rfl, rfl, Nat.le_refl _, fun _ _ => rfl⟩
theorem itoaB (n : Int) (h0 : -9223372036854775808 ≤ n) (h1 : n ≤ 9223372036854775807) (w : World) (h : Tabs w) : Calls Tryz.prog 154 #[.int .i64 n] w fun e w' => e = .returned (sA (Lib.itoa n)) ∧ Below w.heap.size w w' :=
 (Tryz.strconv_Itoa n h0 h1 w h.pow).mono fun _ _ ⟨he, k, os, hw⟩ => ⟨he, by rw [hw]; exact Lib.below_grow _ _ (Nat.le_refl _) _ _⟩
theorem cutB (l t : List UInt8) (w : World) (hl : l.length < 4294967281) (h : Tall w) : Calls Tryz.prog 49 #[sA l, sA t] w fun e w' => e = .returned (.tuple #[sA (Lib.cut l t).1, sA (Lib.cut l t).2.1, .bool (Lib.cut l t).2.2]) ∧ Below w.heap.size w w' := by
 obtain ⟨m, hm⟩ := h.most
 refine (Tryz.strings_Cut ⟨l.toArray⟩ ⟨t.toArray⟩ m w (by simpa [ByteArray.size] using hl) hm).mono ?_
 rintro e w' ⟨he, n, hw⟩
 exact ⟨he, by rw [hw]; exact drewN_below w n⟩
theorem cutPrefixB (l t : List UInt8) (w : World) : Calls Tryz.prog 201 #[sA l, sA t] w fun e w' => e = .returned (.tuple #[sA (Lib.trimPrefix l t), .bool (Lib.hasPrefix l t)]) ∧ w' = w :=
 Tryz.strings_CutPrefix ⟨l.toArray⟩ ⟨t.toArray⟩ w
theorem unsgB (l : List UInt8) (w : World) : Calls Tryz.prog 202 #[sA l, .string ⟨#[45]⟩] w fun e w' => e = .returned (sA (unsg l)) ∧ w' = w :=
 Tryz.strings_TrimPrefix ⟨l.toArray⟩ ⟨#[45]⟩ w
theorem digitsB (l : List UInt8) (w : World) : Calls Tryz.prog 203 #[sA l, .string ⟨#[48, 49, 50, 51, 52, 53, 54, 55, 56, 57]⟩] w fun e w' => e = .returned (sA (l.dropWhile isDig)) ∧ Below w.heap.size w w' :=
 Any.strings_TrimLeft_laid Tryz.lays161 (by kernel_rfl) ⟨l.toArray⟩ ⟨#[48, 49, 50, 51, 52, 53, 54, 55, 56, 57]⟩ w (by decide) (ascii_of_all (by decide))
theorem atoi_yes (t : List UInt8) (v : Int) (w : World) (ht : t.length ≤ 18) (h : Lib.atoi t = some v) : Calls Tryz.prog 244 #[sA t] w fun e w' => e = .returned (.tuple #[.int .i64 v, .nilIface]) ∧ Below w.heap.size w w' := by
 have ha : Lib.atoiAll t = .ok v := by rw [Lib.atoiAll_short t ht, h]; rfl
 refine (Tryz.strconv_Atoi_ok ⟨t.toArray⟩ (by simp [ByteArray.size]; omega) v ha w).mono ?_
 rintro e w' ⟨he, hw | ⟨s, hw⟩⟩
 ·exact ⟨he, by rw [hw]; exact brf⟩
 ·exact ⟨he, by rw [hw]; exact Lib.bytesWorld_below w 5 s⟩
theorem atoi_no (t : List UInt8) (w : World) (ht : t.length ≤ 18) (h : Lib.atoi t = none) (hT : Tall w) : Calls Tryz.prog 244 #[sA t] w fun e w' => ∃ N, e = .returned (.tuple #[.int .i64 0, .iface 367 (.pointer (some ⟨N, 0, none⟩))]) ∧ Below w.heap.size w w' := by
 obtain ⟨ev, h1, h2⟩ := hT.syn
 refine (Tryz.strconv_Atoi_err ⟨t.toArray⟩ (by simpa [ByteArray.size] using ht) h ev w h1 h2).mono ?_
 rintro e w' ⟨N, he, _, _, hw⟩
 exact ⟨N, he, hw⟩
theorem atoi_in {t : List UInt8} {v : Int} (ht : t.length ≤ 18) (h : Lib.atoi t = some v) : -9223372036854775808 ≤ v ∧ v ≤ 9223372036854775807 := by
 have ha : Lib.atoiAll t = .ok v := by rw [Lib.atoiAll_short t ht, h]; rfl
 exact Lib.atoiAll_bounds ha
def ckV (k : Nat) (x y z u : Int) (U : Bool) (B : Nat) (d : Nat) (v : Value) (_ : World) : Prop :=
 match d with
 | 18 => v = .pointer (some ⟨B, 0, none⟩)
 | 19 => v = .int .i64 k
 | 20 => v = .pointer (some ⟨8, k * 5, none⟩)
 | 21 => v = .agg #[sA (firstW k), sA (letW k 0), sA (letW k 1), sA (letW k 2), sA (letW k 3)]
 | 22 => v = .agg #[.int .i64 k, .int .i64 x, .int .i64 y, .int .i64 z, .int .i64 u]
 | 23 => v = .agg #[.int .i64 x, .int .i64 y, .int .i64 z, .int .i64 u]
 | 24 => v = .bool U
 | 25 => v = .bool (!U)
 | 17 => v = .bool (!U)
 | _ => True
theorem ckV_mono (k : Nat) (x y z u : Int) (U : Bool) (B : Nat) (d : Nat) (v : Value) (w w' : World) (h : ckV k x y z u U B d v w) (_ : Below w.heap.size w w') : ckV k x y z u U B d v w' := h
theorem check_in (k : Nat) (x y z u : Int) (w : World) (h1 : 1 ≤ k) (h8 : k ≤ 8) (hr : inRg x y z u = true) (hT : WT w) : Calls Tryz.prog 88 #[cm k x y z u] w fun e w' => e = .returned (.int .i64 (if usedC k x y z u = true then 0 else 1)) ∧ Below w.heap.size w w' := by
 have HN : Hid (∀ W, Calls Tryz.prog 139 #[cm k x y z u] W fun e w' => e = .returned (n4 x y z u) ∧ Below W.heap.size W w') := fun W => numbersB k x y z u W
 have HI : Hid (∀ W, Calls Tryz.prog 138 #[n4 x y z u] W fun e w' => e = .returned (.bool true) ∧ Below W.heap.size W w') := fun W => by
  have := isInRange_any x y z u W
  rwa [hr] at this
 have HU : Hid (∀ W, Calls Tryz.prog 140 #[wd (firstW k) (letW k 0) (letW k 1) (letW k 2) (letW k 3), n4 x y z u] W fun e w' => e = .returned (.bool (usedC k x y z u)) ∧ Below W.heap.size W w') := fun W => isUsed_any (firstW k) (letW k 0) (letW k 1) (letW k 2) (letW k 3) x y z u W
 have HC0 : Hid (Bk w.heap.size (c5 k x y z u) (w.alloc (o5 k x y z u))) := Bk.new w (c5 k x y z u) 49 _ rfl
 have HB0 : Hid (Below w.heap.size w (w.alloc (o5 k x y z u))) := (brf).alloc (Nat.le_refl _) _
 have HW0 : Hid (WT (w.alloc (o5 k x y z u))) := hT.later HB0.out
 obtain ⟨U, hU⟩ : ∃ U, U = usedC k x y z u := ⟨_, rfl⟩
 rw [← hU] at HU
 rw [← hU]
 clear hT hr hU
 go_enter Tryz.func88, Tryz.ntmps88
 go_wp2_with fail
 refine (HN.out _).mono ?_
 rintro e w1 ⟨rfl, hb1⟩
 go_wp2_with fail
 refine (HI.out _).mono ?_
 rintro e w2 ⟨rfl, hb2⟩
 have HB : Hid (Below w.heap.size w w2) := HB0.out.trans (Below.mono (hb1.trans (hb2.mono hb1.size)) HB0.out.size)
 have HC : Hid (Bk w.heap.size (c5 k x y z u) w2) := HC0.out.later (hb1.trans (hb2.mono hb1.size))
 have HW : Hid (WT w2) := HW0.out.later (hb1.trans (hb2.mono hb1.size))
 obtain ⟨B, hB⟩ : ∃ B, B = w.heap.size := ⟨_, rfl⟩
 rw [← hB] at HC
 clear hb1 hb2 HC0 HB0 HW0
 go_wp2_with fail
 simp only [← hB]
 have hwB : w.heap.size ≤ B := by omega
 clear hB
 refine region_inv [zf,zf,zf,zf,zf,zf,zf,zf,zf,zf,zf,zf,zf,zf,zf,zf,zf,zt,zt,zt,zt,zt,zt,zt,zt,zt]
  [(18, [], none), (19, [18], none), (20, [19], none), (21, [20], none), (22, [], none), (23, [22], none), (24, [21, 23], none), (25, [24], none), (17, [25], none)]
  (ckV k x y z u U B) (by kernel_rfl) (by kernel_rfl) (ckV_mono k x y z u U B) ?_ ?_
 ·refine ⟨?_, ?_, ?_, ?_, ?_, ?_, ?_, ?_, ?_, trivial⟩
  ·intro f w1 hb _ K hK
   simp only [over, overL, Nat.reduceAdd]
   go_simp
   exact hK _ _ ⟨_, rfl, by simp only [over, overL, Nat.reduceAdd]; rfl, brf⟩
  ·rintro f w1 hb ⟨(h18 : f 18 = _), _⟩ K hK
   have q0 := (HC.out.later hb).c 0 rfl
   simp only [over, overL, Nat.reduceAdd, h18]
   go_simp
   exact hK _ _ ⟨_, rfl, by simp only [over, overL, Nat.reduceAdd, h18]; rfl, brf⟩
  ·rintro f w1 hb ⟨(h19 : f 19 = _), _⟩ K hK
   have k9 : (k : Int) < 9 := by omega
   simp only [over, overL, Nat.reduceAdd, h19]
   go_simp
   exact hK _ _ ⟨_, rfl, by simp only [over, overL, Nat.reduceAdd, h19]; rfl, brf⟩
  ·rintro f w1 hb ⟨(h20 : f 20 = _), _⟩ K hK
   have hW := HW.out.later hb
   have q0 := hW.first k (by omega)
   have q1 := hW.letter k 0 (by omega) (by decide)
   have q2 := hW.letter k 1 (by omega) (by decide)
   have q3 := hW.letter k 2 (by omega) (by decide)
   have q4 := hW.letter k 3 (by omega) (by decide)
   simp only [over, overL, Nat.reduceAdd, h20]
   go_simp
   exact hK _ _ ⟨_, rfl, by simp only [over, overL, Nat.reduceAdd, h20]; rfl, brf⟩
  ·intro f w1 hb _ K hK
   have q0 := (HC.out.later hb).c 0 rfl
   have q1 := (HC.out.later hb).c 1 rfl
   have q2 := (HC.out.later hb).c 2 rfl
   have q3 := (HC.out.later hb).c 3 rfl
   have q4 := (HC.out.later hb).c 4 rfl
   simp only [over, overL, Nat.reduceAdd]
   go_simp
   exact hK _ _ ⟨_, rfl, by simp only [over, overL, Nat.reduceAdd]; rfl, brf⟩
  ·rintro f w1 hb ⟨(h22 : f 22 = _), _⟩ K hK
   simp only [over, overL, Nat.reduceAdd, h22]
   go_simp
   refine (HN.out _).mono ?_
   rintro e w2 ⟨rfl, hb2⟩
   exact hK _ _ ⟨_, rfl, by simp only [over, overL, Nat.reduceAdd, h22]; rfl, hb2⟩
  ·rintro f w1 hb ⟨(h21 : f 21 = _), (h23 : f 23 = _), _⟩ K hK
   simp only [over, overL, Nat.reduceAdd, h21, h23]
   go_simp
   refine (HU.out _).mono ?_
   rintro e w2 ⟨rfl, hb2⟩
   exact hK _ _ ⟨_, rfl, by simp only [over, overL, Nat.reduceAdd, h21, h23]; rfl, hb2⟩
  ·rintro f w1 hb ⟨(h24 : f 24 = _), _⟩ K hK
   simp only [over, overL, Nat.reduceAdd, h24]
   go_simp
   exact hK _ _ ⟨_, rfl, by simp only [over, overL, Nat.reduceAdd, h24]; rfl, brf⟩
  ·rintro f w1 hb ⟨(h25 : f 25 = _), _⟩ K hK
   simp only [over, overL, Nat.reduceAdd, h25]
   go_simp
   exact hK _ _ ⟨_, rfl, by simp only [over, overL, Nat.reduceAdd, h25]; rfl, brf⟩
 ·intro f w3 hb3 hv
  have h17 : f 17 = .bool (!U) := hv.2.2.2.2.2.2.2.2.1
  have HBF : Hid (Below w.heap.size w w3) := HB.out.trans (hb3.mono HB.out.size)
  simp only [over_eq, overL, h17, Nat.reduceAdd]
  clear hv h17 hb3
  cases U
  all_goals
   go_wp2
   go_ret
   exact ⟨rfl, HBF.out⟩
theorem check_out (k x y z u : Int) (w : World) (h1 : 1 ≤ k) (h8 : k ≤ 8) (hr : inRg x y z u = false) : Calls Tryz.prog 88 #[cm k x y z u] w fun e w' => e = .returned (.int .i64 2) ∧ Below w.heap.size w w' := by
 have HN : Hid (∀ W, Calls Tryz.prog 139 #[cm k x y z u] W fun e w' => e = .returned (n4 x y z u) ∧ Below W.heap.size W w') := fun W => numbersB k x y z u W
 have HI : Hid (∀ W, Calls Tryz.prog 138 #[n4 x y z u] W fun e w' => e = .returned (.bool false) ∧ Below W.heap.size W w') := fun W => by
  have := isInRange_any x y z u W
  rwa [hr] at this
 have HB0 : Hid (Below w.heap.size w (w.alloc (o5 k x y z u))) := (brf).alloc (Nat.le_refl _) _
 clear hr
 go_enter Tryz.func88, Tryz.ntmps88
 go_wp2_with fail
 refine (HN.out _).mono ?_
 rintro e w1 ⟨rfl, hb1⟩
 go_wp2_with fail
 refine (HI.out _).mono ?_
 rintro e w2 ⟨rfl, hb2⟩
 have HB : Hid (Below w.heap.size w w2) := HB0.out.trans (Below.mono (hb1.trans (hb2.mono hb1.size)) HB0.out.size)
 clear hb1 hb2 HB0
 go_wp2
 go_ret
 exact ⟨rfl, HB.out⟩
theorem check_kind (k x y z u : Int) (w : World) (h : k < 1 ∨ 8 < k) : Calls Tryz.prog 88 #[cm k x y z u] w fun e w' => e = .returned (.int .i64 6) ∧ Below w.heap.size w w' := by
 have HB0 : Hid (Below w.heap.size w (w.alloc (o5 k x y z u))) := (brf).alloc (Nat.le_refl _) _
 rcases h with h | h
 ·go_enter Tryz.func88, Tryz.ntmps88
  go_wp2
  go_ret
  exact ⟨rfl, HB0.out⟩
 ·have h2 : ¬ k < 1 := by omega
  go_enter Tryz.func88, Tryz.ntmps88
  go_wp2
  go_ret
  exact ⟨rfl, HB0.out⟩
theorem check_any (k x y z u : Int) (w : World) (hT : WT w) : Calls Tryz.prog 88 #[cm k x y z u] w fun e w' => e = .returned (.int .i64 (chkC k x y z u)) ∧ Below w.heap.size w w' := by
 unfold chkC
 by_cases h : k < 1 ∨ 8 < k
 ·rw [if_pos h]; exact check_kind k x y z u w h
 ·rw [if_neg h]
  cases hr : inRg x y z u with
  | false => rw [if_pos rfl]; exact check_out k x y z u w (by omega) (by omega) hr
  | true =>
   rw [if_neg (by simp)]
   obtain ⟨m, rfl⟩ := Int.eq_ofNat_of_zero_le (show 0 ≤ k by omega)
   have hc := check_in m x y z u w (by omega) (by omega) hr hT
   rw [show (m : Int).toNat = m by omega]
   cases hu : usedC m x y z u with
   | false => rw [hu] at hc; exact hc
   | true => rw [hu] at hc; exact hc
theorem refusal_any (n k x y z u : Int) (w : World) (hT : WT w) : Calls Tryz.prog 96 #[.int .i64 n, cm k x y z u] w fun e w' => e = .returned (.int .i64 (refuC n k x y z u)) ∧ Below w.heap.size w w' := by
 have HB0 : Hid (Below w.heap.size w (w.alloc (o5 k x y z u))) := (brf).alloc (Nat.le_refl _) _
 by_cases h : n < 0 ∨ 100000 < n
 ·have e : refuC n k x y z u = 7 := by unfold refuC; rw [if_pos h]
  rw [e]; clear e
  rcases h with h | h
  ·go_enter Tryz.func96, Tryz.ntmps96
   go_wp2
   go_ret
   exact ⟨rfl, HB0.out⟩
  ·have h2 : ¬ n < 0 := by omega
   go_enter Tryz.func96, Tryz.ntmps96
   go_wp2
   go_ret
   exact ⟨rfl, HB0.out⟩
 ·have e : refuC n k x y z u = chkC k x y z u := by unfold refuC; rw [if_neg h]
  rw [e]; clear e
  have HK : Hid (Calls Tryz.prog 88 #[cm k x y z u] (w.alloc (o5 k x y z u)) fun e w' => e = .returned (.int .i64 (chkC k x y z u)) ∧ Below (w.alloc (o5 k x y z u)).heap.size (w.alloc (o5 k x y z u)) w') := check_any k x y z u _ (hT.later HB0.out)
  generalize chkC k x y z u = r at *
  have h1 : ¬ n < 0 := by omega
  have h2 : ¬ 100000 < n := by omega
  clear h hT
  go_enter Tryz.func96, Tryz.ntmps96
  go_wp2_with fail
  refine HK.out.mono ?_
  rintro e w1 ⟨rfl, hb⟩
  go_wp2
  go_ret
  exact ⟨rfl, HB0.out.trans (hb.mono HB0.out.size)⟩
abbrev cW (k : Nat) : List Value := [sA (firstW k), sA (letW k 0), sA (letW k 1), sA (letW k 2), sA (letW k 3)]
theorem cat_arr (a b : List UInt8) : (⟨a.toArray⟩ : ByteArray) ++ ⟨b.toArray⟩ = ⟨(a ++ b).toArray⟩ := by
 apply ByteArray.ext
 rw [ByteArray.data_append]
 simp
theorem up_len {n : Int} {k : Nat} {x y z u : Int} (h : Fit n x y z u) {j : Nat} (hj : j ≤ 4) : (upL n k (nm x y z u) j).length ≤ 80 := by
 have g : ∀ i, (upL n k (nm x y z u) i).length ≤ (upL n k (nm x y z u) (i + 1)).length := fun i => by
  show _ ≤ (upL n k (nm x y z u) i ++ partL k i (nm x y z u i)).length
  rw [List.length_append]; omega
 have b : (upL n k (nm x y z u) 4).length ≤ 80 := body_len (k := k) h
 have g0 : (upL n k (nm x y z u) 0).length ≤ (upL n k (nm x y z u) 1).length := g 0
 have g1 : (upL n k (nm x y z u) 1).length ≤ (upL n k (nm x y z u) 2).length := g 1
 have g2 : (upL n k (nm x y z u) 2).length ≤ (upL n k (nm x y z u) 3).length := g 2
 have g3 : (upL n k (nm x y z u) 3).length ≤ (upL n k (nm x y z u) 4).length := g 3
 rcases (show j = 0 ∨ j = 1 ∨ j = 2 ∨ j = 3 ∨ j = 4 by omega) with e | e | e | e | e
 all_goals (subst e; omega)
theorem sA_cat {a b c : List UInt8} (h : c = a ++ b) : Value.string ((⟨a.toArray⟩ : ByteArray) ++ ⟨b.toArray⟩) = sA c := by rw [cat_arr, h]
def lh2V (k : Nat) (n : Int) (B : Nat) (d : Nat) (v : Value) (_ : World) : Prop :=
 match d with
 | 13 => v = .int .i64 n
 | 14 => v = sA (Lib.itoa n)
 | 15 => v = sA ([78] ++ Lib.itoa n)
 | 16 => v = sA ([78] ++ Lib.itoa n ++ [32])
 | 17 => v = .pointer (some ⟨B, 0, none⟩)
 | 18 => v = sA (firstW k)
 | 19 => v = sA (headL n k)
 | 6 => v = sA (headL n k)
 | _ => True
theorem lh2V_mono (k : Nat) (n : Int) (B : Nat) (d : Nat) (v : Value) (w w' : World) (h : lh2V k n B d v w) (_ : Below w.heap.size w w') : lh2V k n B d v w' := h
def lp0V (k : Nat) (S : List UInt8) (m : Int) (B : Nat) (d : Nat) (v : Value) (_ : World) : Prop :=
 match d with
 | 31 => v = sA S
 | 32 => v = .int .i64 0
 | 33 => v = .pointer (some ⟨B, 1, none⟩)
 | 34 => v = .pointer (some ⟨B, 1, none⟩)
 | 35 => v = sA (letW k 0)
 | 36 => v = sA (32 :: letW k 0)
 | 37 => v = .int .i64 m
 | 38 => v = sA (Lib.itoa m)
 | 39 => v = sA ((32 :: letW k 0) ++ Lib.itoa m)
 | 40 => v = sA (S ++ ((32 :: letW k 0) ++ Lib.itoa m))
 | _ => True
theorem lp0V_mono (k : Nat) (S : List UInt8) (m : Int) (B : Nat) (d : Nat) (v : Value) (w w' : World) (h : lp0V k S m B d v w) (_ : Below w.heap.size w w') : lp0V k S m B d v w' := h
def lp1V (k : Nat) (S : List UInt8) (m : Int) (B : Nat) (d : Nat) (v : Value) (_ : World) : Prop :=
 match d with
 | 31 => v = sA S
 | 32 => v = .int .i64 1
 | 33 => v = .pointer (some ⟨B, 1, none⟩)
 | 34 => v = .pointer (some ⟨B, 2, none⟩)
 | 35 => v = sA (letW k 1)
 | 36 => v = sA (32 :: letW k 1)
 | 37 => v = .int .i64 m
 | 38 => v = sA (Lib.itoa m)
 | 39 => v = sA ((32 :: letW k 1) ++ Lib.itoa m)
 | 40 => v = sA (S ++ ((32 :: letW k 1) ++ Lib.itoa m))
 | _ => True
theorem lp1V_mono (k : Nat) (S : List UInt8) (m : Int) (B : Nat) (d : Nat) (v : Value) (w w' : World) (h : lp1V k S m B d v w) (_ : Below w.heap.size w w') : lp1V k S m B d v w' := h
def lp2V (k : Nat) (S : List UInt8) (m : Int) (B : Nat) (d : Nat) (v : Value) (_ : World) : Prop :=
 match d with
 | 31 => v = sA S
 | 32 => v = .int .i64 2
 | 33 => v = .pointer (some ⟨B, 1, none⟩)
 | 34 => v = .pointer (some ⟨B, 3, none⟩)
 | 35 => v = sA (letW k 2)
 | 36 => v = sA (32 :: letW k 2)
 | 37 => v = .int .i64 m
 | 38 => v = sA (Lib.itoa m)
 | 39 => v = sA ((32 :: letW k 2) ++ Lib.itoa m)
 | 40 => v = sA (S ++ ((32 :: letW k 2) ++ Lib.itoa m))
 | _ => True
theorem lp2V_mono (k : Nat) (S : List UInt8) (m : Int) (B : Nat) (d : Nat) (v : Value) (w w' : World) (h : lp2V k S m B d v w) (_ : Below w.heap.size w w') : lp2V k S m B d v w' := h
def lp3V (k : Nat) (S : List UInt8) (m : Int) (B : Nat) (d : Nat) (v : Value) (_ : World) : Prop :=
 match d with
 | 31 => v = sA S
 | 32 => v = .int .i64 3
 | 33 => v = .pointer (some ⟨B, 1, none⟩)
 | 34 => v = .pointer (some ⟨B, 4, none⟩)
 | 35 => v = sA (letW k 3)
 | 36 => v = sA (32 :: letW k 3)
 | 37 => v = .int .i64 m
 | 38 => v = sA (Lib.itoa m)
 | 39 => v = sA ((32 :: letW k 3) ++ Lib.itoa m)
 | 40 => v = sA (S ++ ((32 :: letW k 3) ++ Lib.itoa m))
 | _ => True
theorem lp3V_mono (k : Nat) (S : List UInt8) (m : Int) (B : Nat) (d : Nat) (v : Value) (w w' : World) (h : lp3V k S m B d v w) (_ : Below w.heap.size w w') : lp3V k S m B d v w' := h
theorem lineOf_any (n : Int) (k : Nat) (x y z u : Int) (w : World) (h1 : 1 ≤ k) (h8 : k ≤ 8) (hF : Fit n x y z u) (hT : Tabs w) : Calls Tryz.prog 97 #[.int .i64 n, cm k x y z u] w fun e w' => e = .returned (sA (lineL n k x y z u)) ∧ Below w.heap.size w w' := by
 obtain ⟨⟨n0, n1⟩, ⟨x0, x1⟩, ⟨y0, y1⟩, ⟨z0, z1⟩, ⟨u0, u1⟩⟩ := id hF
 have HN : Hid (∀ W, Calls Tryz.prog 139 #[cm k x y z u] W fun e w' => e = .returned (n4 x y z u) ∧ Below W.heap.size W w') := fun W => numbersB k x y z u W
 have HC0 : Hid (Bk w.heap.size (c5 k x y z u) (w.alloc (o5 k x y z u))) := Bk.new w (c5 k x y z u) 49 _ rfl
 have HB0 : Hid (Below w.heap.size w (w.alloc (o5 k x y z u))) := (brf).alloc (Nat.le_refl _) _
 have HT0 : Hid (Tabs (w.alloc (o5 k x y z u))) := hT.later HB0.out
 have k9 : (k : Int) < 9 := by omega
 have q0 := HT0.out.words.first k (by omega)
 have q1 := HT0.out.words.letter k 0 (by omega) (by decide)
 have q2 := HT0.out.words.letter k 1 (by omega) (by decide)
 have q3 := HT0.out.words.letter k 2 (by omega) (by decide)
 have q4 := HT0.out.words.letter k 3 (by omega) (by decide)
 have HCW0 : Hid (Bk (w.heap.size + 1) (cW k) ((w.alloc (o5 k x y z u)).alloc (.cells #[sA (firstW k), sA (letW k 0), sA (letW k 1), sA (letW k 2), sA (letW k 3)] 235))) := Bk.new (w.alloc (o5 k x y z u)) (cW k) 235 _ (by simp)
 have HBa : Hid (Below (w.alloc (o5 k x y z u)).heap.size (w.alloc (o5 k x y z u)) ((w.alloc (o5 k x y z u)).alloc (.cells #[sA (firstW k), sA (letW k 0), sA (letW k 1), sA (letW k 2), sA (letW k 3)] 235))) := (brf).alloc (Nat.le_refl _) _
 have HC1 : Hid (Bk w.heap.size (c5 k x y z u) ((w.alloc (o5 k x y z u)).alloc (.cells #[sA (firstW k), sA (letW k 0), sA (letW k 1), sA (letW k 2), sA (letW k 3)] 235))) := HC0.out.later HBa.out
 have HT1 : Hid (Tabs ((w.alloc (o5 k x y z u)).alloc (.cells #[sA (firstW k), sA (letW k 0), sA (letW k 1), sA (letW k 2), sA (letW k 3)] 235))) := HT0.out.later HBa.out
 have HB1 : Hid (Below w.heap.size w ((w.alloc (o5 k x y z u)).alloc (.cells #[sA (firstW k), sA (letW k 0), sA (letW k 1), sA (letW k 2), sA (letW k 3)] 235))) := HB0.out.trans (HBa.out.mono HB0.out.size)
 clear hT HC0 HT0 HBa HB0
 go_enter Tryz.func97, Tryz.ntmps97
 go_wp2_with fail
 clear q0 q1 q2 q3 q4
 generalize (w.alloc (o5 k x y z u)).alloc (.cells #[sA (firstW k), sA (letW k 0), sA (letW k 1), sA (letW k 2), sA (letW k 3)] 235) = w1 at *
 obtain ⟨B, hB⟩ : ∃ B, B = w.heap.size + 1 := ⟨_, rfl⟩
 obtain ⟨D, hD⟩ : ∃ D, D = w.heap.size := ⟨_, rfl⟩
 have HC : Hid (Bk B (cW k) w1) := by show Bk _ _ _; rw [hB]; exact HCW0.out
 have HD : Hid (Bk D (c5 k x y z u) w1) := by show Bk _ _ _; rw [hD]; exact HC1.out
 simp only [← hB]
 simp only [← hD]
 clear hB hD HCW0 HC1
 have HT : Hid (Tabs w1) := HT1.out
 refine region_inv [zf,zf,zf,zf,zf,zf,zt,zf,zf,zf,zf,zf,zf,zt,zt,zt,zt,zt,zt,zt,zf,zf,zf,zf,zf,zf,zf,zf,zf,zf,zf,zf,zf,zf,zf,zf,zf,zf,zf,zf,zf,zf,zf,zf,zf,zf,zf,zf]
  [(13, [], none), (14, [13], none), (15, [14], none), (16, [15], none), (17, [], none), (18, [17], none), (19, [16, 18], none), (6, [19], none)]
  (lh2V k n B) (by kernel_rfl) (by kernel_rfl) (lh2V_mono k n B) ?_ ?_
 ·refine ⟨?_, ?_, ?_, ?_, ?_, ?_, ?_, ?_, trivial⟩
  ·intro f w1 hb _ K hK
   simp only [over, overL, Nat.reduceAdd]
   go_simp
   exact hK _ _ ⟨_, rfl, by simp only [over, overL, Nat.reduceAdd] <;> rfl, brf⟩
  ·rintro f w1 hb ⟨(h13 : f 13 = _), _⟩ K hK
   simp only [over, overL, Nat.reduceAdd, h13]
   go_simp
   refine (itoaB n (by omega) (by omega) _ (HT.out.later hb)).mono ?_
   rintro e w2 ⟨rfl, hb2⟩
   exact hK _ _ ⟨_, rfl, by simp only [over, overL, Nat.reduceAdd, h13] <;> rfl, hb2⟩
  ·rintro f w1 hb ⟨(h14 : f 14 = _), _⟩ K hK
   have l1 := (itoa_len (n := n) (by omega) (by omega)).2
   have l2 := first_len k
   simp only [over, overL, Nat.reduceAdd, h14]
   go_simp
   rw [if_neg (by simp <;> omega)]
   exact hK _ _ ⟨_, sA_cat (a := [78]) rfl, by simp only [over, overL, Nat.reduceAdd, h14] <;> rfl, brf⟩
  ·rintro f w1 hb ⟨(h15 : f 15 = _), _⟩ K hK
   have l1 := (itoa_len (n := n) (by omega) (by omega)).2
   have l2 := first_len k
   simp only [over, overL, Nat.reduceAdd, h15]
   go_simp
   rw [if_neg (by simp <;> omega)]
   exact hK _ _ ⟨_, sA_cat (b := [32]) rfl, by simp only [over, overL, Nat.reduceAdd, h15] <;> rfl, brf⟩
  ·intro f w1 hb _ K hK
   simp only [over, overL, Nat.reduceAdd]
   go_simp
   exact hK _ _ ⟨_, rfl, by simp only [over, overL, Nat.reduceAdd] <;> rfl, brf⟩
  ·rintro f w1 hb ⟨(h17 : f 17 = _), _⟩ K hK
   have q0 := (HC.out.later hb).c 0 rfl
   simp only [over, overL, Nat.reduceAdd, h17]
   go_simp
   exact hK _ _ ⟨_, rfl, by simp only [over, overL, Nat.reduceAdd, h17] <;> rfl, brf⟩
  ·rintro f w1 hb ⟨(h16 : f 16 = _), (h18 : f 18 = _), _⟩ K hK
   have l1 := (itoa_len (n := n) (by omega) (by omega)).2
   have l2 := first_len k
   simp only [over, overL, Nat.reduceAdd, h16, h18]
   go_simp
   rw [if_neg (by simp <;> omega)]
   exact hK _ _ ⟨_, sA_cat rfl, by simp only [over, overL, Nat.reduceAdd, h16, h18] <;> rfl, brf⟩
  ·rintro f w1 hb ⟨(h19 : f 19 = _), _⟩ K hK
   simp only [over, overL, Nat.reduceAdd, h19]
   go_simp
   exact hK _ _ ⟨_, rfl, by simp only [over, overL, Nat.reduceAdd, h19] <;> rfl, brf⟩
 intro f w2 hb hv
 have h6 : f 6 = sA (headL n k) := hv.2.2.2.2.2.2.2.1
 have HT2 : Hid (Tabs w2) := HT.out.later hb
 have HC2 : Hid (Bk B (cW k) w2) := HC.out.later hb
 have HD2 : Hid (Bk D (c5 k x y z u) w2) := HD.out.later hb
 have HB2 : Hid (Below w.heap.size w w2) := HB1.out.trans (hb.mono HB1.out.size)
 simp only [over_eq, overL, h6, Nat.reduceAdd]
 clear hv h6 hb HT HT1 HC HD HB1
 have c0 := HD2.out.c 0 rfl
 have c1 := HD2.out.c 1 rfl
 have c2 := HD2.out.c 2 rfl
 have c3 := HD2.out.c 3 rfl
 have c4 := HD2.out.c 4 rfl
 go_wp2_with fail
 refine (HN.out _).mono ?_
 rintro e w3 ⟨rfl, hb⟩
 have HT3 : Hid (Tabs w3) := HT2.out.later hb
 have HC3 : Hid (Bk B (cW k) w3) := HC2.out.later hb
 have HB3 : Hid (Below w.heap.size w w3) := HB2.out.trans (hb.mono HB2.out.size)
 clear c0 c1 c2 c3 c4 hb HT2 HC2 HD2 HB2
 go_wp2_with fail
 go_loopw [6, 22] (fun s i wr => ∃ j : Nat, j ≤ 4 ∧ i = .int .i64 j ∧ s = sA (upL n k (nm x y z u) j) ∧ Hid (Below w.heap.size w wr ∧ Bk B (cW k) wr ∧ Tabs wr)) (fun _ i _ => 4 - (intOf i).toNat)
 case atStart => exact ⟨0, by omega, rfl, rfl, (show Hid _ from ⟨HB3.out, HC3.out, HT3.out⟩)⟩
 case round =>
  obtain ⟨j, hj4, rfl, rfl, HG⟩ := hrel
  have HT : Hid (Tabs wr) := HG.out.2.2
  have HC : Hid (Bk B (cW k) wr) := HG.out.2.1
  have HBr : Hid (Below w.heap.size w wr) := HG.out.1
  rcases (show j = 0 ∨ j = 1 ∨ j = 2 ∨ j = 3 ∨ j = 4 by omega) with e | e | e | e | e
  ·subst e
   have ix := ix0 x y z u
   have HS : Hid (upL n k (nm x y z u) 1 = upL n k (nm x y z u) 0 ++ partL k 0 x) := rfl
   have HSL : Hid ((upL n k (nm x y z u) 0).length ≤ 80) := up_len hF (by decide)
   obtain ⟨S, hS⟩ : ∃ S, S = upL n k (nm x y z u) 0 := ⟨_, rfl⟩
   rw [← hS] at HS HSL
   rw [← hS]
   clear hS
   by_cases hl : letW k 0 = []
   ·have HE : Hid (upL n k (nm x y z u) 1 = S) := by show _ = _; rw [HS.out]; unfold partL; rw [if_pos hl, List.append_nil]
    have c : wr.cell? ⟨B, 1, none⟩ = some (.string ⟨#[]⟩) := by
     have := HC.out.c 1 rfl
     rw [hl] at this
     exact this
    clear hl
    go_wp2
    go_roundw
    case rel => exact ⟨1, by omega, by go_num, by rw [HE.out], HG⟩
    case measure => simp [intOf]
   ·have HE : Hid (upL n k (nm x y z u) 1 = S ++ ((32 :: letW k 0) ++ Lib.itoa x)) := by show _ = _; rw [HS.out]; unfold partL; rw [if_neg hl]
    have c : wr.cell? ⟨B, 1, none⟩ = some (sA (letW k 0)) := HC.out.c 1 rfl
    have p1 : (([] : List UInt8) == letW k 0) = false := by rw [beq_eq_false_iff_ne]; exact fun h => hl h.symm
    have p2 : (letW k 0 == []) = false := by rw [beq_eq_false_iff_ne]; exact hl
    have p3 : (letW k 0).isEmpty = false := by simpa using hl
    clear hl
    go_wp2_with fail
    clear c p1 p2 p3
    refine region_seq 10 [zf,zf,zf,zf,zf,zf,zf,zf,zf,zf,zf,zf,zf,zf,zf,zf,zf,zf,zf,zf,zf,zf,zf,zf,zf,zf,zf,zf,zf,zf,zf,zt,zt,zt,zt,zt,zt,zt,zt,zt,zt,zf,zf,zf,zf,zf,zf,zf]
     [(31, [], none), (32, [], none), (33, [], none), (34, [33, 32], none), (35, [34], none), (36, [35], none), (37, [], none), (38, [37], none), (39, [36, 38], none), (40, [31, 39], none)]
     (lp0V k S x B) (by kernel_rfl) (by kernel_rfl) (by kernel_rfl) (by kernel_rfl) (by kernel_rfl) (by decide) (lp0V_mono k S x B) ?_ ?_
    ·refine ⟨?_, ?_, ?_, ?_, ?_, ?_, ?_, ?_, ?_, ?_, trivial⟩
     ·intro f w1 hb _ K hK
      simp only [over, overL, Nat.reduceAdd]
      go_simp
      exact hK _ _ ⟨_, rfl, by simp only [over, overL, Nat.reduceAdd]; rfl, brf⟩
     ·intro f w1 hb _ K hK
      simp only [over, overL, Nat.reduceAdd]
      go_simp
      exact hK _ _ ⟨_, rfl, by simp only [over, overL, Nat.reduceAdd]; rfl, brf⟩
     ·intro f w1 hb _ K hK
      simp only [over, overL, Nat.reduceAdd]
      go_simp
      exact hK _ _ ⟨_, rfl, by simp only [over, overL, Nat.reduceAdd]; rfl, brf⟩
     ·rintro f w1 hb ⟨(h33 : f 33 = _), (h32 : f 32 = _), _⟩ K hK
      simp only [over, overL, Nat.reduceAdd, h33, h32]
      go_simp
      exact hK _ _ ⟨_, rfl, by simp only [over, overL, Nat.reduceAdd, h33, h32]; rfl, brf⟩
     ·rintro f w1 hb ⟨(h34 : f 34 = _), _⟩ K hK
      have q1 := (HC.out.later hb).c 1 rfl
      simp only [over, overL, Nat.reduceAdd, h34]
      go_simp
      exact hK _ _ ⟨_, rfl, by simp only [over, overL, Nat.reduceAdd, h34]; rfl, brf⟩
     ·rintro f w1 hb ⟨(h35 : f 35 = _), _⟩ K hK
      have l1 := (itoa_len (n := x) (by omega) (by omega)).2
      have l2 := let_len k 0
      have l3 := HSL.out
      simp only [over, overL, Nat.reduceAdd, h35]
      go_simp
      rw [if_neg (by simp <;> omega)]
      exact hK _ _ ⟨_, sA_cat (a := [32]) rfl, by simp only [over, overL, Nat.reduceAdd, h35]; rfl, brf⟩
     ·intro f w1 hb _ K hK
      simp only [over, overL, Nat.reduceAdd]
      go_simp
      exact hK _ _ ⟨_, rfl, by simp only [over, overL, Nat.reduceAdd]; rfl, brf⟩
     ·rintro f w1 hb ⟨(h37 : f 37 = _), _⟩ K hK
      simp only [over, overL, Nat.reduceAdd, h37]
      go_simp
      refine (itoaB x (by omega) (by omega) _ (HT.out.later hb)).mono ?_
      rintro e w2 ⟨rfl, hb2⟩
      exact hK _ _ ⟨_, rfl, by simp only [over, overL, Nat.reduceAdd, h37]; rfl, hb2⟩
     ·rintro f w1 hb ⟨(h36 : f 36 = _), (h38 : f 38 = _), _⟩ K hK
      have l1 := (itoa_len (n := x) (by omega) (by omega)).2
      have l2 := let_len k 0
      have l3 := HSL.out
      simp only [over, overL, Nat.reduceAdd, h36, h38]
      go_simp
      rw [if_neg (by simp <;> omega)]
      exact hK _ _ ⟨_, sA_cat rfl, by simp only [over, overL, Nat.reduceAdd, h36, h38]; rfl, brf⟩
     ·rintro f w1 hb ⟨(h31 : f 31 = _), (h39 : f 39 = _), _⟩ K hK
      have l1 := (itoa_len (n := x) (by omega) (by omega)).2
      have l2 := let_len k 0
      have l3 := HSL.out
      simp only [over, overL, Nat.reduceAdd, h31, h39]
      go_simp
      rw [if_neg (by simp <;> omega)]
      exact hK _ _ ⟨_, sA_cat rfl, by simp only [over, overL, Nat.reduceAdd, h31, h39]; rfl, brf⟩
    intro f w4 hb hv
    have h40 : f 40 = sA (S ++ ((32 :: letW k 0) ++ Lib.itoa x)) := hv.2.2.2.2.2.2.2.2.2.1
    simp only [over_eq, overL, h40, Nat.reduceAdd, List.drop_succ_cons, List.drop_zero]
    have HG4 : Hid (Below w.heap.size w w4 ∧ Bk B (cW k) w4 ∧ Tabs w4) := (show Hid _ from ⟨HBr.out.trans (hb.mono HBr.out.size), HC.out.later hb, HT.out.later hb⟩)
    clear hv h40 hb
    go_wp2
    go_roundw
    case rel => exact ⟨1, by omega, by go_num, by rw [HE.out], HG4⟩
    case measure => simp [intOf]
  ·subst e
   have ix := ix1 x y z u
   have HS : Hid (upL n k (nm x y z u) 2 = upL n k (nm x y z u) 1 ++ partL k 1 y) := rfl
   have HSL : Hid ((upL n k (nm x y z u) 1).length ≤ 80) := up_len hF (by decide)
   obtain ⟨S, hS⟩ : ∃ S, S = upL n k (nm x y z u) 1 := ⟨_, rfl⟩
   rw [← hS] at HS HSL
   rw [← hS]
   clear hS
   by_cases hl : letW k 1 = []
   ·have HE : Hid (upL n k (nm x y z u) 2 = S) := by show _ = _; rw [HS.out]; unfold partL; rw [if_pos hl, List.append_nil]
    have c : wr.cell? ⟨B, 2, none⟩ = some (.string ⟨#[]⟩) := by
     have := HC.out.c 2 rfl
     rw [hl] at this
     exact this
    clear hl
    go_wp2
    go_roundw
    case rel => exact ⟨2, by omega, by go_num, by rw [HE.out], HG⟩
    case measure => simp [intOf]
   ·have HE : Hid (upL n k (nm x y z u) 2 = S ++ ((32 :: letW k 1) ++ Lib.itoa y)) := by show _ = _; rw [HS.out]; unfold partL; rw [if_neg hl]
    have c : wr.cell? ⟨B, 2, none⟩ = some (sA (letW k 1)) := HC.out.c 2 rfl
    have p1 : (([] : List UInt8) == letW k 1) = false := by rw [beq_eq_false_iff_ne]; exact fun h => hl h.symm
    have p2 : (letW k 1 == []) = false := by rw [beq_eq_false_iff_ne]; exact hl
    have p3 : (letW k 1).isEmpty = false := by simpa using hl
    clear hl
    go_wp2_with fail
    clear c p1 p2 p3
    refine region_seq 10 [zf,zf,zf,zf,zf,zf,zf,zf,zf,zf,zf,zf,zf,zf,zf,zf,zf,zf,zf,zf,zf,zf,zf,zf,zf,zf,zf,zf,zf,zf,zf,zt,zt,zt,zt,zt,zt,zt,zt,zt,zt,zf,zf,zf,zf,zf,zf,zf]
     [(31, [], none), (32, [], none), (33, [], none), (34, [33, 32], none), (35, [34], none), (36, [35], none), (37, [], none), (38, [37], none), (39, [36, 38], none), (40, [31, 39], none)]
     (lp1V k S y B) (by kernel_rfl) (by kernel_rfl) (by kernel_rfl) (by kernel_rfl) (by kernel_rfl) (by decide) (lp1V_mono k S y B) ?_ ?_
    ·refine ⟨?_, ?_, ?_, ?_, ?_, ?_, ?_, ?_, ?_, ?_, trivial⟩
     ·intro f w1 hb _ K hK
      simp only [over, overL, Nat.reduceAdd]
      go_simp
      exact hK _ _ ⟨_, rfl, by simp only [over, overL, Nat.reduceAdd]; rfl, brf⟩
     ·intro f w1 hb _ K hK
      simp only [over, overL, Nat.reduceAdd]
      go_simp
      exact hK _ _ ⟨_, rfl, by simp only [over, overL, Nat.reduceAdd]; rfl, brf⟩
     ·intro f w1 hb _ K hK
      simp only [over, overL, Nat.reduceAdd]
      go_simp
      exact hK _ _ ⟨_, rfl, by simp only [over, overL, Nat.reduceAdd]; rfl, brf⟩
     ·rintro f w1 hb ⟨(h33 : f 33 = _), (h32 : f 32 = _), _⟩ K hK
      simp only [over, overL, Nat.reduceAdd, h33, h32]
      go_simp
      exact hK _ _ ⟨_, rfl, by simp only [over, overL, Nat.reduceAdd, h33, h32]; rfl, brf⟩
     ·rintro f w1 hb ⟨(h34 : f 34 = _), _⟩ K hK
      have q2 := (HC.out.later hb).c 2 rfl
      simp only [over, overL, Nat.reduceAdd, h34]
      go_simp
      exact hK _ _ ⟨_, rfl, by simp only [over, overL, Nat.reduceAdd, h34]; rfl, brf⟩
     ·rintro f w1 hb ⟨(h35 : f 35 = _), _⟩ K hK
      have l1 := (itoa_len (n := y) (by omega) (by omega)).2
      have l2 := let_len k 1
      have l3 := HSL.out
      simp only [over, overL, Nat.reduceAdd, h35]
      go_simp
      rw [if_neg (by simp <;> omega)]
      exact hK _ _ ⟨_, sA_cat (a := [32]) rfl, by simp only [over, overL, Nat.reduceAdd, h35]; rfl, brf⟩
     ·intro f w1 hb _ K hK
      simp only [over, overL, Nat.reduceAdd]
      go_simp
      exact hK _ _ ⟨_, rfl, by simp only [over, overL, Nat.reduceAdd]; rfl, brf⟩
     ·rintro f w1 hb ⟨(h37 : f 37 = _), _⟩ K hK
      simp only [over, overL, Nat.reduceAdd, h37]
      go_simp
      refine (itoaB y (by omega) (by omega) _ (HT.out.later hb)).mono ?_
      rintro e w2 ⟨rfl, hb2⟩
      exact hK _ _ ⟨_, rfl, by simp only [over, overL, Nat.reduceAdd, h37]; rfl, hb2⟩
     ·rintro f w1 hb ⟨(h36 : f 36 = _), (h38 : f 38 = _), _⟩ K hK
      have l1 := (itoa_len (n := y) (by omega) (by omega)).2
      have l2 := let_len k 1
      have l3 := HSL.out
      simp only [over, overL, Nat.reduceAdd, h36, h38]
      go_simp
      rw [if_neg (by simp <;> omega)]
      exact hK _ _ ⟨_, sA_cat rfl, by simp only [over, overL, Nat.reduceAdd, h36, h38]; rfl, brf⟩
     ·rintro f w1 hb ⟨(h31 : f 31 = _), (h39 : f 39 = _), _⟩ K hK
      have l1 := (itoa_len (n := y) (by omega) (by omega)).2
      have l2 := let_len k 1
      have l3 := HSL.out
      simp only [over, overL, Nat.reduceAdd, h31, h39]
      go_simp
      rw [if_neg (by simp <;> omega)]
      exact hK _ _ ⟨_, sA_cat rfl, by simp only [over, overL, Nat.reduceAdd, h31, h39]; rfl, brf⟩
    intro f w4 hb hv
    have h40 : f 40 = sA (S ++ ((32 :: letW k 1) ++ Lib.itoa y)) := hv.2.2.2.2.2.2.2.2.2.1
    simp only [over_eq, overL, h40, Nat.reduceAdd, List.drop_succ_cons, List.drop_zero]
    have HG4 : Hid (Below w.heap.size w w4 ∧ Bk B (cW k) w4 ∧ Tabs w4) := (show Hid _ from ⟨HBr.out.trans (hb.mono HBr.out.size), HC.out.later hb, HT.out.later hb⟩)
    clear hv h40 hb
    go_wp2
    go_roundw
    case rel => exact ⟨2, by omega, by go_num, by rw [HE.out], HG4⟩
    case measure => simp [intOf]
  ·subst e
   have ix := ix2 x y z u
   have HS : Hid (upL n k (nm x y z u) 3 = upL n k (nm x y z u) 2 ++ partL k 2 z) := rfl
   have HSL : Hid ((upL n k (nm x y z u) 2).length ≤ 80) := up_len hF (by decide)
   obtain ⟨S, hS⟩ : ∃ S, S = upL n k (nm x y z u) 2 := ⟨_, rfl⟩
   rw [← hS] at HS HSL
   rw [← hS]
   clear hS
   by_cases hl : letW k 2 = []
   ·have HE : Hid (upL n k (nm x y z u) 3 = S) := by show _ = _; rw [HS.out]; unfold partL; rw [if_pos hl, List.append_nil]
    have c : wr.cell? ⟨B, 3, none⟩ = some (.string ⟨#[]⟩) := by
     have := HC.out.c 3 rfl
     rw [hl] at this
     exact this
    clear hl
    go_wp2
    go_roundw
    case rel => exact ⟨3, by omega, by go_num, by rw [HE.out], HG⟩
    case measure => simp [intOf]
   ·have HE : Hid (upL n k (nm x y z u) 3 = S ++ ((32 :: letW k 2) ++ Lib.itoa z)) := by show _ = _; rw [HS.out]; unfold partL; rw [if_neg hl]
    have c : wr.cell? ⟨B, 3, none⟩ = some (sA (letW k 2)) := HC.out.c 3 rfl
    have p1 : (([] : List UInt8) == letW k 2) = false := by rw [beq_eq_false_iff_ne]; exact fun h => hl h.symm
    have p2 : (letW k 2 == []) = false := by rw [beq_eq_false_iff_ne]; exact hl
    have p3 : (letW k 2).isEmpty = false := by simpa using hl
    clear hl
    go_wp2_with fail
    clear c p1 p2 p3
    refine region_seq 10 [zf,zf,zf,zf,zf,zf,zf,zf,zf,zf,zf,zf,zf,zf,zf,zf,zf,zf,zf,zf,zf,zf,zf,zf,zf,zf,zf,zf,zf,zf,zf,zt,zt,zt,zt,zt,zt,zt,zt,zt,zt,zf,zf,zf,zf,zf,zf,zf]
     [(31, [], none), (32, [], none), (33, [], none), (34, [33, 32], none), (35, [34], none), (36, [35], none), (37, [], none), (38, [37], none), (39, [36, 38], none), (40, [31, 39], none)]
     (lp2V k S z B) (by kernel_rfl) (by kernel_rfl) (by kernel_rfl) (by kernel_rfl) (by kernel_rfl) (by decide) (lp2V_mono k S z B) ?_ ?_
    ·refine ⟨?_, ?_, ?_, ?_, ?_, ?_, ?_, ?_, ?_, ?_, trivial⟩
     ·intro f w1 hb _ K hK
      simp only [over, overL, Nat.reduceAdd]
      go_simp
      exact hK _ _ ⟨_, rfl, by simp only [over, overL, Nat.reduceAdd]; rfl, brf⟩
     ·intro f w1 hb _ K hK
      simp only [over, overL, Nat.reduceAdd]
      go_simp
      exact hK _ _ ⟨_, rfl, by simp only [over, overL, Nat.reduceAdd]; rfl, brf⟩
     ·intro f w1 hb _ K hK
      simp only [over, overL, Nat.reduceAdd]
      go_simp
      exact hK _ _ ⟨_, rfl, by simp only [over, overL, Nat.reduceAdd]; rfl, brf⟩
     ·rintro f w1 hb ⟨(h33 : f 33 = _), (h32 : f 32 = _), _⟩ K hK
      simp only [over, overL, Nat.reduceAdd, h33, h32]
      go_simp
      exact hK _ _ ⟨_, rfl, by simp only [over, overL, Nat.reduceAdd, h33, h32]; rfl, brf⟩
     ·rintro f w1 hb ⟨(h34 : f 34 = _), _⟩ K hK
      have q3 := (HC.out.later hb).c 3 rfl
      simp only [over, overL, Nat.reduceAdd, h34]
      go_simp
      exact hK _ _ ⟨_, rfl, by simp only [over, overL, Nat.reduceAdd, h34]; rfl, brf⟩
     ·rintro f w1 hb ⟨(h35 : f 35 = _), _⟩ K hK
      have l1 := (itoa_len (n := z) (by omega) (by omega)).2
      have l2 := let_len k 2
      have l3 := HSL.out
      simp only [over, overL, Nat.reduceAdd, h35]
      go_simp
      rw [if_neg (by simp <;> omega)]
      exact hK _ _ ⟨_, sA_cat (a := [32]) rfl, by simp only [over, overL, Nat.reduceAdd, h35]; rfl, brf⟩
     ·intro f w1 hb _ K hK
      simp only [over, overL, Nat.reduceAdd]
      go_simp
      exact hK _ _ ⟨_, rfl, by simp only [over, overL, Nat.reduceAdd]; rfl, brf⟩
     ·rintro f w1 hb ⟨(h37 : f 37 = _), _⟩ K hK
      simp only [over, overL, Nat.reduceAdd, h37]
      go_simp
      refine (itoaB z (by omega) (by omega) _ (HT.out.later hb)).mono ?_
      rintro e w2 ⟨rfl, hb2⟩
      exact hK _ _ ⟨_, rfl, by simp only [over, overL, Nat.reduceAdd, h37]; rfl, hb2⟩
     ·rintro f w1 hb ⟨(h36 : f 36 = _), (h38 : f 38 = _), _⟩ K hK
      have l1 := (itoa_len (n := z) (by omega) (by omega)).2
      have l2 := let_len k 2
      have l3 := HSL.out
      simp only [over, overL, Nat.reduceAdd, h36, h38]
      go_simp
      rw [if_neg (by simp <;> omega)]
      exact hK _ _ ⟨_, sA_cat rfl, by simp only [over, overL, Nat.reduceAdd, h36, h38]; rfl, brf⟩
     ·rintro f w1 hb ⟨(h31 : f 31 = _), (h39 : f 39 = _), _⟩ K hK
      have l1 := (itoa_len (n := z) (by omega) (by omega)).2
      have l2 := let_len k 2
      have l3 := HSL.out
      simp only [over, overL, Nat.reduceAdd, h31, h39]
      go_simp
      rw [if_neg (by simp <;> omega)]
      exact hK _ _ ⟨_, sA_cat rfl, by simp only [over, overL, Nat.reduceAdd, h31, h39]; rfl, brf⟩
    intro f w4 hb hv
    have h40 : f 40 = sA (S ++ ((32 :: letW k 2) ++ Lib.itoa z)) := hv.2.2.2.2.2.2.2.2.2.1
    simp only [over_eq, overL, h40, Nat.reduceAdd, List.drop_succ_cons, List.drop_zero]
    have HG4 : Hid (Below w.heap.size w w4 ∧ Bk B (cW k) w4 ∧ Tabs w4) := (show Hid _ from ⟨HBr.out.trans (hb.mono HBr.out.size), HC.out.later hb, HT.out.later hb⟩)
    clear hv h40 hb
    go_wp2
    go_roundw
    case rel => exact ⟨3, by omega, by go_num, by rw [HE.out], HG4⟩
    case measure => simp [intOf]
  ·subst e
   have ix := ix3 x y z u
   have HS : Hid (upL n k (nm x y z u) 4 = upL n k (nm x y z u) 3 ++ partL k 3 u) := rfl
   have HSL : Hid ((upL n k (nm x y z u) 3).length ≤ 80) := up_len hF (by decide)
   obtain ⟨S, hS⟩ : ∃ S, S = upL n k (nm x y z u) 3 := ⟨_, rfl⟩
   rw [← hS] at HS HSL
   rw [← hS]
   clear hS
   by_cases hl : letW k 3 = []
   ·have HE : Hid (upL n k (nm x y z u) 4 = S) := by show _ = _; rw [HS.out]; unfold partL; rw [if_pos hl, List.append_nil]
    have c : wr.cell? ⟨B, 4, none⟩ = some (.string ⟨#[]⟩) := by
     have := HC.out.c 4 rfl
     rw [hl] at this
     exact this
    clear hl
    go_wp2
    go_roundw
    case rel => exact ⟨4, by omega, by go_num, by rw [HE.out], HG⟩
    case measure => simp [intOf]
   ·have HE : Hid (upL n k (nm x y z u) 4 = S ++ ((32 :: letW k 3) ++ Lib.itoa u)) := by show _ = _; rw [HS.out]; unfold partL; rw [if_neg hl]
    have c : wr.cell? ⟨B, 4, none⟩ = some (sA (letW k 3)) := HC.out.c 4 rfl
    have p1 : (([] : List UInt8) == letW k 3) = false := by rw [beq_eq_false_iff_ne]; exact fun h => hl h.symm
    have p2 : (letW k 3 == []) = false := by rw [beq_eq_false_iff_ne]; exact hl
    have p3 : (letW k 3).isEmpty = false := by simpa using hl
    clear hl
    go_wp2_with fail
    clear c p1 p2 p3
    refine region_seq 10 [zf,zf,zf,zf,zf,zf,zf,zf,zf,zf,zf,zf,zf,zf,zf,zf,zf,zf,zf,zf,zf,zf,zf,zf,zf,zf,zf,zf,zf,zf,zf,zt,zt,zt,zt,zt,zt,zt,zt,zt,zt,zf,zf,zf,zf,zf,zf,zf]
     [(31, [], none), (32, [], none), (33, [], none), (34, [33, 32], none), (35, [34], none), (36, [35], none), (37, [], none), (38, [37], none), (39, [36, 38], none), (40, [31, 39], none)]
     (lp3V k S u B) (by kernel_rfl) (by kernel_rfl) (by kernel_rfl) (by kernel_rfl) (by kernel_rfl) (by decide) (lp3V_mono k S u B) ?_ ?_
    ·refine ⟨?_, ?_, ?_, ?_, ?_, ?_, ?_, ?_, ?_, ?_, trivial⟩
     ·intro f w1 hb _ K hK
      simp only [over, overL, Nat.reduceAdd]
      go_simp
      exact hK _ _ ⟨_, rfl, by simp only [over, overL, Nat.reduceAdd]; rfl, brf⟩
     ·intro f w1 hb _ K hK
      simp only [over, overL, Nat.reduceAdd]
      go_simp
      exact hK _ _ ⟨_, rfl, by simp only [over, overL, Nat.reduceAdd]; rfl, brf⟩
     ·intro f w1 hb _ K hK
      simp only [over, overL, Nat.reduceAdd]
      go_simp
      exact hK _ _ ⟨_, rfl, by simp only [over, overL, Nat.reduceAdd]; rfl, brf⟩
     ·rintro f w1 hb ⟨(h33 : f 33 = _), (h32 : f 32 = _), _⟩ K hK
      simp only [over, overL, Nat.reduceAdd, h33, h32]
      go_simp
      exact hK _ _ ⟨_, rfl, by simp only [over, overL, Nat.reduceAdd, h33, h32]; rfl, brf⟩
     ·rintro f w1 hb ⟨(h34 : f 34 = _), _⟩ K hK
      have q4 := (HC.out.later hb).c 4 rfl
      simp only [over, overL, Nat.reduceAdd, h34]
      go_simp
      exact hK _ _ ⟨_, rfl, by simp only [over, overL, Nat.reduceAdd, h34]; rfl, brf⟩
     ·rintro f w1 hb ⟨(h35 : f 35 = _), _⟩ K hK
      have l1 := (itoa_len (n := u) (by omega) (by omega)).2
      have l2 := let_len k 3
      have l3 := HSL.out
      simp only [over, overL, Nat.reduceAdd, h35]
      go_simp
      rw [if_neg (by simp <;> omega)]
      exact hK _ _ ⟨_, sA_cat (a := [32]) rfl, by simp only [over, overL, Nat.reduceAdd, h35]; rfl, brf⟩
     ·intro f w1 hb _ K hK
      simp only [over, overL, Nat.reduceAdd]
      go_simp
      exact hK _ _ ⟨_, rfl, by simp only [over, overL, Nat.reduceAdd]; rfl, brf⟩
     ·rintro f w1 hb ⟨(h37 : f 37 = _), _⟩ K hK
      simp only [over, overL, Nat.reduceAdd, h37]
      go_simp
      refine (itoaB u (by omega) (by omega) _ (HT.out.later hb)).mono ?_
      rintro e w2 ⟨rfl, hb2⟩
      exact hK _ _ ⟨_, rfl, by simp only [over, overL, Nat.reduceAdd, h37]; rfl, hb2⟩
     ·rintro f w1 hb ⟨(h36 : f 36 = _), (h38 : f 38 = _), _⟩ K hK
      have l1 := (itoa_len (n := u) (by omega) (by omega)).2
      have l2 := let_len k 3
      have l3 := HSL.out
      simp only [over, overL, Nat.reduceAdd, h36, h38]
      go_simp
      rw [if_neg (by simp <;> omega)]
      exact hK _ _ ⟨_, sA_cat rfl, by simp only [over, overL, Nat.reduceAdd, h36, h38]; rfl, brf⟩
     ·rintro f w1 hb ⟨(h31 : f 31 = _), (h39 : f 39 = _), _⟩ K hK
      have l1 := (itoa_len (n := u) (by omega) (by omega)).2
      have l2 := let_len k 3
      have l3 := HSL.out
      simp only [over, overL, Nat.reduceAdd, h31, h39]
      go_simp
      rw [if_neg (by simp <;> omega)]
      exact hK _ _ ⟨_, sA_cat rfl, by simp only [over, overL, Nat.reduceAdd, h31, h39]; rfl, brf⟩
    intro f w4 hb hv
    have h40 : f 40 = sA (S ++ ((32 :: letW k 3) ++ Lib.itoa u)) := hv.2.2.2.2.2.2.2.2.2.1
    simp only [over_eq, overL, h40, Nat.reduceAdd, List.drop_succ_cons, List.drop_zero]
    have HG4 : Hid (Below w.heap.size w w4 ∧ Bk B (cW k) w4 ∧ Tabs w4) := (show Hid _ from ⟨HBr.out.trans (hb.mono HBr.out.size), HC.out.later hb, HT.out.later hb⟩)
    clear hv h40 hb
    go_wp2
    go_roundw
    case rel => exact ⟨4, by omega, by go_num, by rw [HE.out], HG4⟩
    case measure => simp [intOf]
  ·subst e
   have HL : Hid ((upL n k (nm x y z u) 4).length ≤ 80) := body_len (k := k) hF
   have HE : Hid (lineL n k x y z u = upL n k (nm x y z u) 4 ++ [42] ++ Lib.itoa (sumL (upL n k (nm x y z u) 4))) := rfl
   generalize upL n k (nm x y z u) 4 = S at *
   have HSum : Hid (∀ W, Calls Tryz.prog 104 #[sA S] W fun e w' => e = .returned (.int .i64 (sumL S)) ∧ w' = W) := fun W => sumOf_any ⟨S.toArray⟩ W (by have := HL.out; simp [ByteArray.size]; omega)
   have HIt : Hid (∀ W, Tabs W → Calls Tryz.prog 154 #[.int .i64 (sumL S)] W fun e w' => e = .returned (sA (Lib.itoa (sumL S))) ∧ Below W.heap.size W w') := fun W h => itoaB _ (by have := sum_in S; omega) (by have := sum_in S; omega) W h
   have HTl : Hid ((Lib.itoa (sumL S)).length ≤ 11) := (itoa_len (by have := sum_in S; omega) (by have := sum_in S; omega)).2
   generalize sumL S = t at *
   have hSl := HL.out
   have hTl := HTl.out
   go_wp2_with fail
   refine (HSum.out _).mono ?_
   rintro e w5 ⟨rfl, rfl⟩
   go_wp2_with fail
   refine (HIt.out _ HT.out).mono ?_
   rintro e w6 ⟨rfl, hb⟩
   go_wp2
   go_ret
   refine ⟨?_, HBr.out.trans (hb.mono HBr.out.size)⟩
   rw [HE.out]
   exact congrArg Ending.returned (show Value.string ((⟨S.toArray⟩ : ByteArray) ++ ⟨[42].toArray⟩ ++ ⟨(Lib.itoa t).toArray⟩) = _ by rw [cat_arr, cat_arr])
def prL (n k x y z u : Int) : List UInt8 := if refuC n k x y z u = 0 then lineL n k.toNat x y z u else []
theorem print_any (n k x y z u : Int) (w : World) (hT : Tabs w) : Calls Tryz.prog 45 #[.int .i64 n, cm k x y z u] w fun e w' => e = .returned (.tuple #[sA (prL n k x y z u), .int .i64 (refuC n k x y z u)]) ∧ Below w.heap.size w w' := by
 have HB0 : Hid (Below w.heap.size w (w.alloc (o5 k x y z u))) := (brf).alloc (Nat.le_refl _) _
 have HT0 : Hid (Tabs (w.alloc (o5 k x y z u))) := hT.later HB0.out
 have HC0 : Hid (Bk w.heap.size (c5 k x y z u) (w.alloc (o5 k x y z u))) := Bk.new w (c5 k x y z u) 49 _ rfl
 have HR : Hid (∀ W, Tabs W → Calls Tryz.prog 96 #[.int .i64 n, cm k x y z u] W fun e w' => e = .returned (.int .i64 (refuC n k x y z u)) ∧ Below W.heap.size W w') := fun W h => refusal_any n k x y z u W h.words
 by_cases hr : refuC n k x y z u = 0
 ·have HL : Hid (∀ W, Tabs W → Calls Tryz.prog 97 #[.int .i64 n, cm k x y z u] W fun e w' => e = .returned (sA (prL n k x y z u)) ∧ Below W.heap.size W w') := fun W h => by
   obtain ⟨hF, k1, k8⟩ := refu_fit hr
   have h2 := lineOf_any n k.toNat x y z u W (by omega) (by omega) hF h
   rw [show ((k.toNat : Nat) : Int) = k by omega] at h2
   unfold prL
   rw [if_pos hr]
   exact h2
  rw [hr] at HR
  rw [hr]
  generalize prL n k x y z u = L at *
  clear hr hT
  go_enter Tryz.func45, Tryz.ntmps45
  go_wp2_with fail
  refine (HR.out _ HT0.out).mono ?_
  rintro e w1 ⟨rfl, hb⟩
  have HT1 : Hid (Tabs w1) := HT0.out.later hb
  have HC1 : Hid (Bk w.heap.size (c5 k x y z u) w1) := HC0.out.later hb
  have HB1 : Hid (Below w.heap.size w w1) := HB0.out.trans (hb.mono HB0.out.size)
  have c0 := HC1.out.c 0 rfl
  have c1 := HC1.out.c 1 rfl
  have c2 := HC1.out.c 2 rfl
  have c3 := HC1.out.c 3 rfl
  have c4 := HC1.out.c 4 rfl
  clear hb
  go_wp2_with fail
  refine (HL.out _ HT1.out).mono ?_
  rintro e w2 ⟨rfl, hb⟩
  go_wp2
  go_ret2
  exact ⟨rfl, HB1.out.trans (hb.mono HB1.out.size)⟩
 ·have e : prL n k x y z u = [] := by unfold prL; rw [if_neg hr]
  rw [e]
  have q1 : (refuC n k x y z u == 0) = false := by simp [hr]
  have q2 : (refuC n k x y z u != 0) = true := by simp [hr]
  generalize refuC n k x y z u = r at *
  clear hr hT e
  go_enter Tryz.func45, Tryz.ntmps45
  go_wp2_with fail
  refine (HR.out _ HT0.out).mono ?_
  rintro e w1 ⟨rfl, hb⟩
  have HB1 : Hid (Below w.heap.size w w1) := HB0.out.trans (hb.mono HB0.out.size)
  clear hb
  go_wp2
  go_ret2
  exact ⟨rfl, HB1.out⟩
abbrev Kr (r : Nat) (w w' : World) : Prop := Kpt (fun k => k = r) w w'
theorem take_any (r : Nat) (s : Rd) (t : List UInt8) (w : World) (h : Rb r s w) : Calls Tryz.prog 161 #[ptr r, sA t] w fun e w' => e = .returned (.tuple #[]) ∧ Rb r (takeR t s) w' ∧ Kr r w w' := by
 obtain ⟨l, g⟩ := s
 have HP : Hid (∀ W, Calls Tryz.prog 201 #[sA l, sA t] W fun e w' => e = .returned (.tuple #[sA (Lib.trimPrefix l t), .bool (Lib.hasPrefix l t)]) ∧ w' = W) := fun W => cutPrefixB l t W
 have HE : Hid (takeR t (l, g) = (Lib.trimPrefix l t, g || !Lib.hasPrefix l t)) := rfl
 have HF : Hid (∀ b : Bool, Rb r (Lib.trimPrefix l t, b) ((w.setCell ⟨r, 0, none⟩ (sA (Lib.trimPrefix l t))).setCell ⟨r, 1, none⟩ (.bool b)) ∧ Kr r w ((w.setCell ⟨r, 0, none⟩ (sA (Lib.trimPrefix l t))).setCell ⟨r, 1, none⟩ (.bool b))) := fun b => ⟨(h.put 0 _).put 1 _, (Kpt.set (M := fun k => k = r) rfl 0 _).trans (Kpt.set (M := fun k => k = r) rfl 1 _)⟩
 have c0 := h.c 0 rfl
 have c1 := h.c 1 rfl
 have f0 := h.f 0 rfl
 have f1 := h.f 1 rfl
 simp only at c0 c1
 rw [HE.out]
 generalize Lib.trimPrefix l t = T at *
 generalize Lib.hasPrefix l t = P at *
 clear h HE
 cases g
 all_goals
  go_enter Tryz.func161, Tryz.ntmps161
  go_wp2_with fail
  refine (HP.out _).mono ?_
  rintro e w1 ⟨rfl, hw⟩
  subst hw
  go_wp2
  refine bodyPost_end (v := .tuple #[]) (by simp [results, Tryz.results161, go_sem]) rfl ⟨rfl, ?_⟩
  exact HF.out _
theorem ext_take (l : List UInt8) (n : Nat) : (⟨l.toArray⟩ : ByteArray).extract 0 n = ⟨(l.take n).toArray⟩ := by
 rw [Lib.extract_eq]; simp
theorem ext_drop (l : List UInt8) (n : Nat) : (⟨l.toArray⟩ : ByteArray).extract n l.length = ⟨(l.drop n).toArray⟩ := by
 rw [Lib.extract_eq]
 congr 2
 rw [List.take_of_length_le]
 simp
theorem word_le (s : Rd) : (wordR s).length ≤ s.1.length := by
 have := congrArg List.length (word_parts s)
 rw [List.length_append] at this
 omega
theorem word_any (r : Nat) (s : Rd) (w : World) (h : Rb r s w) (hl : s.1.length < 4294967281) (hT : Tall w) : Calls Tryz.prog 164 #[ptr r] w fun e w' => e = .returned (sA (wordR s)) ∧ Rb r (restR s) w' ∧ Kr r w w' := by
 obtain ⟨l, g⟩ := s
 have HP : Hid (Calls Tryz.prog 49 #[sA l, sA [32]] w fun e w' => e = .returned (.tuple #[sA (wordR (l, g)), sA (Lib.cut l [32]).2.1, .bool (Lib.cut l [32]).2.2]) ∧ Below w.heap.size w w') := cutB l [32] w hl hT
 have HE : Hid (restR (l, g) = (l.drop (wordR (l, g)).length, g)) := rfl
 have hwl : (wordR (l, g)).length ≤ l.length := word_le (l, g)
 have HR : Hid (Rb r (l, g) w) := h
 have hl2 : l.length < 4294967281 := hl
 rw [HE.out]
 generalize wordR (l, g) = wd at *
 generalize (Lib.cut l [32]).2.1 = X at *
 generalize (Lib.cut l [32]).2.2 = Y at *
 clear h HE hl hT
 go_enter Tryz.func164, Tryz.ntmps164
 have c0 := HR.out.c 0 rfl
 simp only at c0
 go_wp2_with fail
 refine HP.out.mono ?_
 rintro e w1 ⟨rfl, hb⟩
 have HR1 : Hid (Rb r (l, g) w1) := HR.out.later hb
 have HK1 : Hid (Kr r w w1) := Kpt.of_below hb
 clear c0 HP HR hb
 have c0 := HR1.out.c 0 rfl
 have f0 := HR1.out.f 0 rfl
 simp only at c0
 go_wp2
 go_ret
 rw [ext_drop]
 exact ⟨rfl, HR1.out.put 0 _, HK1.out.trans (Kpt.set (M := fun k => k = r) rfl 0 _)⟩
theorem plain_yes {t : List UInt8} {v : Int} (h : Lib.atoi t = some v) : plainR t = (v, decide (Lib.itoa v = t)) := by unfold plainR; rw [h]
theorem plain_no {t : List UInt8} (h : Lib.atoi t = none) : plainR t = (0, false) := by unfold plainR; rw [h]
theorem plainNumber_any (t : List UInt8) (w : World) (ht : t.length ≤ 18) (hT : Tall w) : Calls Tryz.prog 204 #[sA t] w fun e w' => e = .returned (.tuple #[.int .i64 (plainR t).1, .bool (plainR t).2]) ∧ Below w.heap.size w w' := by
 cases h : Lib.atoi t with
 | none =>
  have HP : Hid (Calls Tryz.prog 244 #[sA t] w fun e w' => ∃ N, e = .returned (.tuple #[.int .i64 0, .iface 367 (.pointer (some ⟨N, 0, none⟩))]) ∧ Below w.heap.size w w') := atoi_no t w ht h hT
  rw [plain_no h]
  clear h hT ht
  go_enter Tryz.func204, Tryz.ntmps204
  go_wp2_with fail
  refine HP.out.mono ?_
  rintro e w1 ⟨N, rfl, hb⟩
  go_wp2
  go_ret2
  exact ⟨rfl, hb⟩
 | some v =>
  have HP : Hid (Calls Tryz.prog 244 #[sA t] w fun e w' => e = .returned (.tuple #[.int .i64 v, .nilIface]) ∧ Below w.heap.size w w') := atoi_yes t v w ht h
  have HI : Hid (∀ W, Tabs W → Calls Tryz.prog 154 #[.int .i64 v] W fun e w' => e = .returned (sA (Lib.itoa v)) ∧ Below W.heap.size W w') := fun W hW => itoaB v (atoi_in ht h).1 (atoi_in ht h).2 W hW
  rw [plain_yes h]
  have HD : Hid ((Lib.itoa v == t) = decide (Lib.itoa v = t)) := by
   show _ = _
   by_cases e : Lib.itoa v = t
   ·simp [e]
   ·simp [e]
  have HT : Hid (Tall w) := hT
  generalize decide (Lib.itoa v = t) = D at *
  generalize Lib.itoa v = V at *
  clear h hT ht
  go_enter Tryz.func204, Tryz.ntmps204
  go_wp2_with fail
  refine HP.out.mono ?_
  rintro e w1 ⟨rfl, hb⟩
  have HT1 : Hid (Tall w1) := HT.out.later hb
  go_wp2_with fail
  refine (HI.out _ HT1.out.tabs).mono ?_
  rintro e w2 ⟨rfl, hb2⟩
  have hE := HD.out
  go_wp2
  go_ret2
  exact ⟨rfl, hb.trans (hb2.mono hb.size)⟩
theorem wsub {a b : Nat} (h1 : a < 4294967281) (h2 : b ≤ a) : Value.int .i64 (IntKind.i64.wrap ((a : Int) - (b : Int))) = .int .i64 ((a - b : Nat) : Int) := by
 rw [wrap_in (by omega) (by omega)]
 congr 1
 omega
theorem numT_len (l : List UInt8) : (numT l).length + (leftN l).length = l.length := by
 have := congrArg List.length (num_parts l)
 rw [List.length_append] at this
 omega
theorem unsg_one (l : List UInt8) : l.length ≤ (unsg l).length + 1 := by
 unfold unsg Lib.trimPrefix
 split
 ·rw [List.length_drop]; simp; omega
 ·omega
theorem numV_yes {m : Nat} {l : List UInt8} (h : (unsg l).length - (leftN l).length ≤ m) : numV m l = plainR (numT l) := by unfold numV; rw [if_pos h]
theorem numV_no {m : Nat} {l : List UInt8} (h : ¬ (unsg l).length - (leftN l).length ≤ m) : numV m l = (0, false) := by unfold numV; rw [if_neg h]
def nb3V (l Z : List UInt8) (g : Bool) (r : Nat) (d : Nat) (v : Value) (_ : World) : Prop :=
 match d with
 | 17 => v = .pointer (some ⟨r, 0, none⟩)
 | 18 => v = .pointer (some ⟨r, 0, none⟩)
 | 19 => v = .pointer (some ⟨r, 0, none⟩)
 | 20 => v = sA l
 | 21 => v = .pointer (some ⟨r, 0, none⟩)
 | 22 => v = .pointer (some ⟨r, 0, none⟩)
 | 23 => v = .pointer (some ⟨r, 0, none⟩)
 | 24 => v = sA l
 | 25 => v = .int .i64 l.length
 | 26 => v = sA Z
 | 27 => v = .int .i64 Z.length
 | 28 => v = .int .i64 ((l.length - Z.length : Nat) : Int)
 | 29 => v = sA (l.take (l.length - Z.length))
 | 7 => v = sA (l.take (l.length - Z.length))
 | _ => True
theorem nb3V_mono (l Z : List UInt8) (g : Bool) (r : Nat) (d : Nat) (v : Value) (w w' : World) (h : nb3V l Z g r d v w) (_ : Below w.heap.size w w') : nb3V l Z g r d v w' := h
theorem number_any (r m : Nat) (s : Rd) (w : World) (h : Rb r s w) (hl : s.1.length < 4294967281) (hm : m ≤ 10) (h9 : 17 ≤ r) (hT : Tall w) : Calls Tryz.prog 162 #[ptr r, .int .i64 m] w fun e w' => e = .returned (.int .i64 (numV m s.1).1) ∧ Rb r (numR m s) w' ∧ Kr r w w' := by
 obtain ⟨l, g⟩ := s
 have HU : Hid (∀ W, Calls Tryz.prog 202 #[sA l, .string ⟨#[45]⟩] W fun e w' => e = .returned (sA (unsg l)) ∧ w' = W) := fun W => unsgB l W
 have HD : Hid (∀ W, Calls Tryz.prog 203 #[sA (unsg l), .string ⟨#[48, 49, 50, 51, 52, 53, 54, 55, 56, 57]⟩] W fun e w' => e = .returned (sA (leftN l)) ∧ Below W.heap.size W w') := fun W => digitsB (unsg l) W
 have HN : Hid (∀ W, Tall W → (unsg l).length - (leftN l).length ≤ m → Calls Tryz.prog 204 #[sA (numT l)] W fun e w' => e = .returned (.tuple #[.int .i64 (numV m l).1, .bool (numV m l).2]) ∧ Below W.heap.size W w') := fun W hW hc => by
  rw [numV_yes hc]
  refine plainNumber_any (numT l) W ?_ hW
  have := numT_len l
  have := unsg_one l
  omega
 have HO : Hid (¬ (unsg l).length - (leftN l).length ≤ m → numV m l = (0, false)) := numV_no
 have HT0 : Hid (numT l = l.take (l.length - (leftN l).length)) := rfl
 have HE : Hid (numR m (l, g) = (leftN l, g || !(numV m l).2)) := rfl
 have HL : Hid (l.length < 4294967281) := hl
 have HZ : Hid ((leftN l).length ≤ l.length) := Nat.le_trans (leftN_le l) (unsg_le l)
 have HY : Hid ((leftN l).length ≤ (unsg l).length ∧ (unsg l).length ≤ l.length) := ⟨leftN_le l, unsg_le l⟩
 have HR0 : Hid (Rb r (l, g) w) := h
 have HT : Hid (Tall w) := hT
 rw [HE.out]
 simp only
 rw [HT0.out] at HN
 generalize leftN l = Z at *
 generalize unsg l = U at *
 generalize numV m l = X at *
 obtain ⟨v, ok⟩ := X
 simp only at *
 clear h hl hT HE HT0
 go_enter Tryz.func162, Tryz.ntmps162
 have c0 := HR0.out.c 0 rfl
 simp only at c0
 go_wp2_with fail
 refine (HU.out _).mono ?_
 rintro e w1 ⟨rfl, hw⟩
 subst hw
 go_wp2_with fail
 refine (HD.out _).mono ?_
 rintro e w2 ⟨rfl, hb⟩
 have HR : Hid (Rb r (l, g) w2) := HR0.out.later hb
 have HT2 : Hid (Tall w2) := HT.out.later hb
 have HK2 : Hid (Kr r w1 w2) := Kpt.of_below hb
 clear c0 hb HR0 HT HU HD
 go_wp2_with fail
 refine region_inv [zf,zf,zf,zf,zf,zf,zf,zt,zf,zf,zf,zf,zf,zf,zf,zf,zf,zt,zt,zt,zt,zt,zt,zt,zt,zt,zt,zt,zt,zt,zf,zf,zf,zf,zf,zf,zf,zf,zf,zf,zf,zf,zf,zf,zf,zf,zf,zf,zf,zf,zf,zf,zf,zf,zf,zf,zf,zf,zf]
  [(17, [], none), (18, [17], none), (19, [18], none), (20, [19], none), (21, [], none), (22, [21], none), (23, [22], none), (24, [23], none), (25, [24], none), (26, [], none), (27, [26], none), (28, [25, 27], none), (29, [20, 28], none), (7, [29], none)]
  (nb3V l Z g r) (by kernel_rfl) (by kernel_rfl) (nb3V_mono l Z g r) ?_ ?_
 ·refine ⟨?_, ?_, ?_, ?_, ?_, ?_, ?_, ?_, ?_, ?_, ?_, ?_, ?_, ?_, trivial⟩
  ·intro f w1 hb _ K hK
   simp only [over, overL, Nat.reduceAdd]
   go_simp
   exact hK _ _ ⟨_, rfl, by simp only [over, overL, Nat.reduceAdd]; rfl, brf⟩
  ·rintro f w1 hb ⟨(h17 : f 17 = _), _⟩ K hK
   simp only [over, overL, Nat.reduceAdd, h17]
   go_simp
   exact hK _ _ ⟨_, rfl, by simp only [over, overL, Nat.reduceAdd, h17]; rfl, brf⟩
  ·rintro f w1 hb ⟨(h18 : f 18 = _), _⟩ K hK
   simp only [over, overL, Nat.reduceAdd, h18]
   go_simp
   exact hK _ _ ⟨_, rfl, by simp only [over, overL, Nat.reduceAdd, h18]; rfl, brf⟩
  ·rintro f w1 hb ⟨(h19 : f 19 = _), _⟩ K hK
   have q0 := (HR.out.later hb).c 0 rfl
   simp only [over, overL, Nat.reduceAdd, h19]
   go_simp
   exact hK _ _ ⟨_, rfl, by simp only [over, overL, Nat.reduceAdd, h19]; rfl, brf⟩
  ·intro f w1 hb _ K hK
   simp only [over, overL, Nat.reduceAdd]
   go_simp
   exact hK _ _ ⟨_, rfl, by simp only [over, overL, Nat.reduceAdd]; rfl, brf⟩
  ·rintro f w1 hb ⟨(h21 : f 21 = _), _⟩ K hK
   simp only [over, overL, Nat.reduceAdd, h21]
   go_simp
   exact hK _ _ ⟨_, rfl, by simp only [over, overL, Nat.reduceAdd, h21]; rfl, brf⟩
  ·rintro f w1 hb ⟨(h22 : f 22 = _), _⟩ K hK
   simp only [over, overL, Nat.reduceAdd, h22]
   go_simp
   exact hK _ _ ⟨_, rfl, by simp only [over, overL, Nat.reduceAdd, h22]; rfl, brf⟩
  ·rintro f w1 hb ⟨(h23 : f 23 = _), _⟩ K hK
   have q0 := (HR.out.later hb).c 0 rfl
   simp only [over, overL, Nat.reduceAdd, h23]
   go_simp
   exact hK _ _ ⟨_, rfl, by simp only [over, overL, Nat.reduceAdd, h23]; rfl, brf⟩
  ·rintro f w1 hb ⟨(h24 : f 24 = _), _⟩ K hK
   have q9 := HL.out
   simp only [over, overL, Nat.reduceAdd, h24]
   go_simp
   exact hK _ _ ⟨_, rfl, by simp only [over, overL, Nat.reduceAdd, h24]; rfl, brf⟩
  ·intro f w1 hb _ K hK
   simp only [over, overL, Nat.reduceAdd]
   go_simp
   exact hK _ _ ⟨_, rfl, by simp only [over, overL, Nat.reduceAdd]; rfl, brf⟩
  ·rintro f w1 hb ⟨(h26 : f 26 = _), _⟩ K hK
   have q9 := HL.out
   have q8 := HZ.out
   simp only [over, overL, Nat.reduceAdd, h26]
   go_simp
   exact hK _ _ ⟨_, rfl, by simp only [over, overL, Nat.reduceAdd, h26]; rfl, brf⟩
  ·rintro f w1 hb ⟨(h25 : f 25 = _), (h27 : f 27 = _), _⟩ K hK
   have q9 := HL.out
   have q8 := HZ.out
   simp only [over, overL, Nat.reduceAdd, h25, h27]
   go_simp
   exact hK _ _ ⟨_, wsub HL.out HZ.out, by simp only [over, overL, Nat.reduceAdd, h25, h27]; rfl, brf⟩
  ·rintro f w1 hb ⟨(h20 : f 20 = _), (h28 : f 28 = _), _⟩ K hK
   have q9 := HL.out
   have q8 := HZ.out
   simp only [over, overL, Nat.reduceAdd, h20, h28]
   go_simp
   exact hK _ _ ⟨_, congrArg Value.string (ext_take _ _), by simp only [over, overL, Nat.reduceAdd, h20, h28]; rfl, brf⟩
  ·rintro f w1 hb ⟨(h29 : f 29 = _), _⟩ K hK
   simp only [over, overL, Nat.reduceAdd, h29]
   go_simp
   exact hK _ _ ⟨_, rfl, by simp only [over, overL, Nat.reduceAdd, h29]; rfl, brf⟩
 intro f w3 hb hv
 have h7 : f 7 = sA (l.take (l.length - Z.length)) := hv.2.2.2.2.2.2.2.2.2.2.2.2.2.1
 have HR3 : Hid (Rb r (l, g) w3) := HR.out.later hb
 have HT3 : Hid (Tall w3) := HT2.out.later hb
 have HK3 : Hid (Kr r w1 w3) := HK2.out.trans (Kpt.of_below hb)
 simp only [over_eq, overL, h7, Nat.reduceAdd]
 clear hv h7 hb HR HT2 HK2
 have c0 := HR3.out.c 0 rfl
 have f0 := HR3.out.f 0 rfl
 simp only at c0
 generalize l.take (l.length - Z.length) = T at *
 have q1 := HY.out.1
 have q2 := HY.out.2
 have q3 := HL.out
 have HR4 : Hid (Rb r (Z, g) (w3.setCell ⟨r, 0, none⟩ (sA Z))) := HR3.out.put 0 _
 have HT4 : Hid (Tall (w3.setCell ⟨r, 0, none⟩ (sA Z))) := HT3.out.kept (Kpt.set (M := fun k => k = r) rfl 0 _) (fun k hk => by omega)
 have HK4 : Hid (Kr r w1 (w3.setCell ⟨r, 0, none⟩ (sA Z))) := HK3.out.trans (Kpt.set (M := fun k => k = r) rfl 0 _)
 by_cases hc : U.length - Z.length ≤ m
 ·have p1 : decide ((U.length : Int) - Z.length ≤ m) = true := decide_eq_true (by omega)
  have HNc : Hid (∀ W, Tall W → Calls Tryz.prog 204 #[sA T] W fun e w' => e = .returned (.tuple #[.int .i64 v, .bool ok]) ∧ Below W.heap.size W w') := fun W hW => HN.out W hW hc
  have hci : (U.length : Int) - Z.length ≤ m := by omega
  go_wp2_with fail
  refine (HNc.out _ HT4.out).mono ?_
  rintro e w5 ⟨rfl, hb⟩
  have HR5 : Hid (Rb r (Z, g) w5) := HR4.out.later hb
  have HK5 : Hid (Kr r w1 w5) := HK4.out.trans (Kpt.of_below hb)
  clear hb c0 f0 p1 hci hc
  have c1 := HR5.out.c 1 rfl
  have f1 := HR5.out.f 1 rfl
  simp only at c1
  cases g
  all_goals
   go_wp2
   go_ret
   exact ⟨rfl, HR5.out.put 1 _, HK5.out.trans (Kpt.set (M := fun k => k = r) rfl 1 _)⟩
 ·have p1 : decide ((U.length : Int) - Z.length ≤ m) = false := decide_eq_false (by omega)
  have hci : ¬ ((U.length : Int) - Z.length ≤ m) := by omega
  obtain ⟨rfl, rfl⟩ : v = 0 ∧ ok = false := by simpa using HO.out hc
  clear hc
  have c1 := HR3.out.c 1 rfl
  have f1 := HR3.out.f 1 rfl
  simp only at c1
  cases g
  all_goals
   go_wp2
   go_ret
   exact ⟨rfl, (HR3.out.put 0 (sA Z)).put 1 _, HK4.out.trans (Kpt.set (M := fun k => k = r) rfl 1 _)⟩
theorem readSum_any (l : List UInt8) (w : World) (hl : l.length < 4294967281) (hT : Tall w) : Calls Tryz.prog 103 #[sA l] w fun e w' => e = .returned (.tuple #[.int .i64 (sV l), .bool (sOk l)]) ∧ Below w.heap.size w w' := by
 have HR0 : Hid (Rb w.heap.size (l, false) (w.alloc (.cells #[sA l, .bool false] 253))) := Bk.new w [sA l, .bool false] 253 _ rfl
 have HB0 : Hid (Below w.heap.size w (w.alloc (.cells #[sA l, .bool false] 253))) := (brf).alloc (Nat.le_refl _) _
 have HT0 : Hid (Tall (w.alloc (.cells #[sA l, .bool false] 253))) := hT.later HB0.out
 have HN : Hid (∀ W, Rb w.heap.size (l, false) W → Tall W → Calls Tryz.prog 162 #[ptr w.heap.size, .int .i64 3] W fun e w' => e = .returned (.int .i64 (sV l)) ∧ Rb w.heap.size (numR 3 (l, false)) w' ∧ Kr w.heap.size W w') := fun W h1 h2 => number_any w.heap.size 3 (l, false) W h1 hl (by decide) hT.tabs.size h2
 have HE : Hid (sOk l = (doneR (numR 3 (l, false)) && decide (0 ≤ sV l))) := rfl
 have HD : Hid (∀ W, Rb w.heap.size (numR 3 (l, false)) W → Calls Tryz.prog 166 #[ptr w.heap.size] W fun e w' => e = .returned (.bool (doneR (numR 3 (l, false)))) ∧ w' = W) := fun W h => isDone_any _ _ W h
 rw [HE.out]
 generalize numR 3 (l, false) = s at *
 generalize doneR s = d at *
 generalize sV l = v at *
 clear hT HE hl
 go_enter Tryz.func103, Tryz.ntmps103
 go_wp2_with fail
 generalize w.alloc (.cells #[sA l, .bool false] 253) = w0 at *
 refine (HN.out _ HR0.out HT0.out).mono ?_
 rintro e w1 ⟨rfl, hR, hK⟩
 have HR1 : Hid (Rb w.heap.size s w1) := hR
 have HB1 : Hid (Below w.heap.size w w1) := HB0.out.trans (hK.below HB0.out.size fun k hk => by omega)
 clear hR hK
 go_wp2_with fail
 refine (HD.out _ HR1.out).mono ?_
 rintro e w2 ⟨rfl, hw⟩
 subst hw
 cases d
 all_goals
  go_wp2
  go_ret2
  exact ⟨rfl, HB1.out⟩
theorem len_take (t : List UInt8) (s : Rd) : (takeR t s).1.length ≤ s.1.length := Lib.trimPrefix_le _ _
theorem len_num (m : Nat) (s : Rd) : (numR m s).1.length ≤ s.1.length := Nat.le_trans (leftN_le s.1) (unsg_le s.1)
theorem len_rest (s : Rd) : (restR s).1.length ≤ s.1.length := by unfold restR; simp
theorem len_pR (k i : Nat) (s : Rd) : (pR k i s).1.length ≤ s.1.length := by
 unfold pR
 split
 ·exact Nat.le_refl _
 ·exact Nat.le_trans (len_num _ _) (len_take _ _)
theorem len_sR (k : Nat) (s : Rd) : ∀ i, (sR k s i).1.length ≤ s.1.length
 | 0 => Nat.le_refl _
 | i + 1 => Nat.le_trans (len_pR k i _) (len_sR k s i)
def nmL (f : Nat → Int) (j : Nat) : List Value := [.int .i64 (if 0 < j then f 0 else 0), .int .i64 (if 1 < j then f 1 else 0), .int .i64 (if 2 < j then f 2 else 0), .int .i64 (if 3 < j then f 3 else 0)]
theorem jx0 (a b c d : List UInt8) (w : World) : (Instr.index 233 (.agg #[sA a, sA b, sA c, sA d]) (.int .i64 0)).run Tryz.prog w = .ok (sA a) w := by kernel_rfl
theorem jx1 (a b c d : List UInt8) (w : World) : (Instr.index 233 (.agg #[sA a, sA b, sA c, sA d]) (.int .i64 1)).run Tryz.prog w = .ok (sA b) w := by kernel_rfl
theorem jx2 (a b c d : List UInt8) (w : World) : (Instr.index 233 (.agg #[sA a, sA b, sA c, sA d]) (.int .i64 2)).run Tryz.prog w = .ok (sA c) w := by kernel_rfl
theorem jx3 (a b c d : List UInt8) (w : World) : (Instr.index 233 (.agg #[sA a, sA b, sA c, sA d]) (.int .i64 3)).run Tryz.prog w = .ok (sA d) w := by kernel_rfl
abbrev z5 : List Value := c5 0 0 0 0 0
theorem take_raw (r : Nat) (s : Rd) (t : List UInt8) (w : World) (h : Rb r s w) : Calls Tryz.prog 161 #[ptr r, .string ((⟨#[32]⟩ : ByteArray) ++ ⟨t.toArray⟩)] w fun e w' => e = .returned (.tuple #[]) ∧ Rb r (takeR (32 :: t) s) w' ∧ Kr r w w' := by
 rw [show (⟨#[32]⟩ : ByteArray) ++ ⟨t.toArray⟩ = ⟨(32 :: t).toArray⟩ from cat_arr [32] t]
 exact take_any r s (32 :: t) w h
structure Bd (w : World) (A r : Nat) (s : Rd) (W : World) : Prop where
 rd : Rb r s W
 res : Bk A z5 W
 tall : Tall W
 low : Below w.heap.size w W
theorem Bd.kept {w : World} {A r : Nat} {s s' : Rd} {W W' : World} (h : Bd w A r s W) (hR : Rb r s' W') (hK : Kr r W W') (h9 : 17 ≤ r) (hA : A ≠ r) (hw : w.heap.size ≤ r) : Bd w A r s' W' :=
 ⟨hR, bk_kpt h.res hK hA, h.tall.kept hK (fun k hk => by omega), h.low.trans (hK.below h.low.size fun k hk => by omega)⟩
theorem Bd.later {w : World} {A r : Nat} {s : Rd} {W W' : World} (h : Bd w A r s W) (hb : Below W.heap.size W W') : Bd w A r s W' :=
 ⟨h.rd.later hb, h.res.later hb, h.tall.later hb, h.low.trans (hb.mono h.low.size)⟩
theorem Bd.put {w : World} {A r q : Nat} {s : Rd} {W : World} (h : Bd w A r s W) (hr : q ≠ r) (hA : q ≠ A) (hw : w.heap.size ≤ q) (h9 : 17 ≤ q) (j : Nat) (v : Value) : Bd w A r s (W.setCell ⟨q, j, none⟩ v) :=
 ⟨h.rd.other (fun e => hr e.symm) j v, h.res.other (fun e => hA e.symm) j v, h.tall.kept (Kpt.set (M := fun k => k = q) rfl j v) (fun k hk => by omega), h.low.setCell hw v⟩
theorem readBody_any (l : List UInt8) (w : World) (hl : l.length < 4294967281) (hT : Tall w) : Calls Tryz.prog 102 #[sA l] w fun e w' => e = .returned (.tuple #[.int .i64 (bN l), cm (bK l) (bX l 0) (bX l 1) (bX l 2) (bX l 3), .bool (bOk l)]) ∧ Below w.heap.size w w' := by
 have HB0 : Hid (Below w.heap.size w ((w.alloc (o5 0 0 0 0 0)).alloc (.cells #[sA l, .bool false] 253))) := ((brf).alloc (Nat.le_refl _) _).alloc (by simp) _
 have HD0 : Hid (Bd w w.heap.size (w.heap.size + 1) (l, false) ((w.alloc (o5 0 0 0 0 0)).alloc (.cells #[sA l, .bool false] 253))) :=
  ⟨Bk.new (w.alloc (o5 0 0 0 0 0)) [sA l, .bool false] 253 _ (by simp), (Bk.new w z5 49 _ rfl).later ((brf).alloc (Nat.le_refl _) _), hT.later HB0.out, HB0.out⟩
 have h90 := hT.tabs.size
 have HL1 : Hid ((takeR [78] (l, false)).1.length < 4294967281) := Nat.lt_of_le_of_lt (len_take [78] (l, false)) hl
 have HLa : Hid ((aheadR l).1.length < 4294967281) := Nat.lt_of_le_of_lt (Nat.le_trans (len_take _ _) (Nat.le_trans (len_num _ _) (len_take _ _))) hl
 have HLb : Hid (∀ i, (sR (bK l) (bR l) i).1.length < 4294967281) := fun i => Nat.lt_of_le_of_lt (Nat.le_trans (len_sR _ _ i) (len_rest _)) HLa.out
 have HeA : Hid (aheadR l = takeR [32] (numR 10 (takeR [78] (l, false)))) := rfl
 have HeN : Hid (bN l = (numV 10 (takeR [78] (l, false)).1).1) := rfl
 have HeK : Hid (bK l = kindR (wordR (aheadR l))) := rfl
 have HeR : Hid (bR l = restR (aheadR l)) := rfl
 have HeX : Hid (∀ i, bX l i = sN (bK l) (bR l) i) := fun _ => rfl
 have HeO : Hid (bOk l = (doneR (sR (bK l) (bR l) 4) && decide (bK l ≠ 0))) := rfl
 have HK8 : Hid (bK l ≤ 8) := kind_le _
 rw [HeN.out, HeO.out, HeX.out, HeX.out, HeX.out, HeX.out]
 generalize bK l = k at *
 generalize bR l = s0 at *
 clear hT hl HB0 HeN HeX HeO
 go_enter Tryz.func102, Tryz.ntmps102
 go_wp2_with fail
 generalize (w.alloc (o5 0 0 0 0 0)).alloc (.cells #[sA l, .bool false] 253) = w0 at *
 obtain ⟨r, hr⟩ : ∃ r, r = w.heap.size + 1 := ⟨_, rfl⟩
 obtain ⟨A, hA⟩ : ∃ A, A = w.heap.size := ⟨_, rfl⟩
 have HD : Hid (Bd w A r (l, false) w0) := by show Bd _ _ _ _ _; rw [hr, hA]; exact HD0.out
 simp only [← hr]
 simp only [← hA]
 have h9 : 17 ≤ r := by omega
 have hAr : A ≠ r := by omega
 have hwr : w.heap.size ≤ r := by omega
 have hwA : w.heap.size ≤ A := by omega
 clear hr hA HD0 h90
 refine (take_any r (l, false) [78] _ HD.out.rd).mono ?_
 rintro e w1 ⟨rfl, hR, hK⟩
 have HD1 : Hid (Bd w A r (takeR [78] (l, false)) w1) := HD.out.kept hR hK h9 hAr hwr
 clear hR hK HD
 generalize h1 : takeR [78] (l, false) = s1 at *
 have HE1 : Hid (takeR [78] (l, false) = s1) := h1
 clear h1
 go_wp2_with fail
 refine (number_any r 10 s1 _ HD1.out.rd HL1.out (by decide) h9 HD1.out.tall).mono ?_
 rintro e w2 ⟨rfl, hR, hK⟩
 have HD2 : Hid (Bd w A r (numR 10 s1) w2) := HD1.out.kept hR hK h9 hAr hwr
 clear hR hK HD1 HL1
 generalize numR 10 s1 = s2 at *
 generalize hn : (numV 10 s1.1).1 = n at *
 have HEn : Hid ((numV 10 s1.1).1 = n) := hn
 clear hn
 go_wp2_with fail
 refine (take_any r s2 [32] _ HD2.out.rd).mono ?_
 rintro e w3 ⟨rfl, hR, hK⟩
 have HD3 : Hid (Bd w A r (takeR [32] s2) w3) := HD2.out.kept hR hK h9 hAr hwr
 clear hR hK HD2
 rw [← HeA.out] at HD3
 clear HeA
 generalize aheadR l = s3 at *
 go_wp2_with fail
 refine (word_any r s3 _ HD3.out.rd HLa.out HD3.out.tall).mono ?_
 rintro e w4 ⟨rfl, hR, hK⟩
 have HD4 : Hid (Bd w A r (restR s3) w4) := HD3.out.kept hR hK h9 hAr hwr
 clear hR hK HD3
 rw [← HeR.out] at HD4
 clear HeR HLa
 generalize wordR s3 = wo at *
 go_wp2_with fail
 refine (kindOf_any wo _ HD4.out.tall.tabs.words).mono ?_
 rintro e w5 ⟨rfl, hw⟩
 subst hw
 rw [← HeK.out]
 clear HeK
 have k9 : (k : Int) < 9 := by have := HK8.out; omega
 have q1 : w5.cell? ⟨8, k * 5 + 1, none⟩ = some (sA (letW k 0)) := HD4.out.tall.tabs.words.letter k 0 (by have := HK8.out; omega) (by decide)
 have q2 : w5.cell? ⟨8, k * 5 + 1 + 1, none⟩ = some (sA (letW k 1)) := HD4.out.tall.tabs.words.letter k 1 (by have := HK8.out; omega) (by decide)
 have q3 : w5.cell? ⟨8, k * 5 + 1 + 2, none⟩ = some (sA (letW k 2)) := HD4.out.tall.tabs.words.letter k 2 (by have := HK8.out; omega) (by decide)
 have q4 : w5.cell? ⟨8, k * 5 + 1 + 3, none⟩ = some (sA (letW k 3)) := HD4.out.tall.tabs.words.letter k 3 (by have := HK8.out; omega) (by decide)
 have hz : 8 < w5.heap.size := by have := HD4.out.tall.tabs.size; omega
 have HQ0 : Hid (Bk w5.heap.size (nmL (sN k s0) 0) (w5.alloc (o4 0 0 0 0))) := Bk.new w5 (nmL (sN k s0) 0) 230 _ rfl
 have HD5 : Hid (Bd w A r s0 (w5.alloc (o4 0 0 0 0))) := HD4.out.later ((brf).alloc (Nat.le_refl _) _)
 have hq9 : r < w5.heap.size := HD4.out.rd.1
 have hqA : A < w5.heap.size := HD4.out.res.1
 go_wp2_with fail
 clear q1 q2 q3 q4 hz
 generalize w5.alloc (o4 0 0 0 0) = w6 at *
 obtain ⟨q, hq⟩ : ∃ q, q = w5.heap.size := ⟨_, rfl⟩
 rw [← hq] at HQ0
 simp only [← hq]
 have hqr : q ≠ r := by omega
 have hqA2 : q ≠ A := by omega
 have hwq : w.heap.size ≤ q := by omega
 have hq0 : 17 ≤ q := by omega
 clear hq hq9 hqA HD4
 have i0 := jx0 (letW k 0) (letW k 1) (letW k 2) (letW k 3)
 have i1 := jx1 (letW k 0) (letW k 1) (letW k 2) (letW k 3)
 have i2 := jx2 (letW k 0) (letW k 1) (letW k 2) (letW k 3)
 have i3 := jx3 (letW k 0) (letW k 1) (letW k 2) (letW k 3)
 go_loopw [22] (fun i wr => ∃ j : Nat, j ≤ 4 ∧ i = .int .i64 j ∧ Hid (Bd w A r (sR k s0 j) wr ∧ Bk q (nmL (sN k s0) j) wr)) (fun i _ => 4 - (intOf i).toNat)
 case atStart => exact ⟨0, by omega, rfl, (show Hid _ from ⟨HD5.out, HQ0.out⟩)⟩
 case round =>
  obtain ⟨j, hj4, rfl, HG⟩ := hrel
  have HDr : Hid (Bd w A r (sR k s0 j) wr) := HG.out.1
  have HQr : Hid (Bk q (nmL (sN k s0) j) wr) := HG.out.2
  rcases (show j = 0 ∨ j = 1 ∨ j = 2 ∨ j = 3 ∨ j = 4 by omega) with e | e | e | e | e
  ·subst e
   have HS : Hid (sR k s0 1 = pR k 0 (sR k s0 0)) := rfl
   have HNj : Hid (sN k s0 0 = pN k 0 (sR k s0 0)) := rfl
   have HLj : Hid ((sR k s0 0).1.length < 4294967281) := HLb.out 0
   have HX : Hid ((nmL (sN k s0) 0).set 0 (.int .i64 (sN k s0 0)) = nmL (sN k s0) 1) := rfl
   by_cases hl : letW k 0 = []
   ·have HE : Hid (sR k s0 1 = sR k s0 0) := by show _ = _; rw [HS.out]; unfold pR; rw [if_pos hl]
    have HZ : Hid (nmL (sN k s0) 1 = nmL (sN k s0) 0) := by
     have h0 : sN k s0 0 = 0 := by rw [HNj.out]; unfold pN; rw [if_pos hl]
     show _ = _
     rw [← HX.out, h0]; rfl
    have i9 : ∀ W : World, (Instr.index 233 (.agg #[sA (letW k 0), sA (letW k 1), sA (letW k 2), sA (letW k 3)]) (.int .i64 0)).run Tryz.prog W = .ok (.string ⟨#[]⟩) W := fun W => by rw [i0 W, hl]
    clear hl i0
    go_wp2
    go_roundw
    case rel => exact ⟨1, by omega, by go_num, (show Hid _ from ⟨by rw [HE.out]; exact HDr.out, by rw [HZ.out]; exact HQr.out⟩)⟩
    case measure => simp [intOf]
   ·have HE : Hid (sR k s0 1 = numR 10 (takeR (32 :: letW k 0) (sR k s0 0))) := by show _ = _; rw [HS.out]; unfold pR; rw [if_neg hl]
    have HZ : Hid (sN k s0 0 = (numV 10 (takeR (32 :: letW k 0) (sR k s0 0)).1).1) := by show _ = _; rw [HNj.out]; unfold pN; rw [if_neg hl]
    have p1 : (([] : List UInt8) == letW k 0) = false := by rw [beq_eq_false_iff_ne]; exact fun h => hl h.symm
    have p2 : (letW k 0 == []) = false := by rw [beq_eq_false_iff_ne]; exact hl
    have p3 : (letW k 0).isEmpty = false := by simpa using hl
    have p4 : (letW k 0).length ≤ 1 := let_len k 0
    clear hl
    go_wp2_with fail
    refine (take_raw r (sR k s0 0) (letW k 0) _ HDr.out.rd).mono ?_
    rintro e w7 ⟨rfl, hR, hK⟩
    have HD7 : Hid (Bd w A r (takeR (32 :: letW k 0) (sR k s0 0)) w7) := HDr.out.kept hR hK h9 hAr hwr
    have HQ7 : Hid (Bk q (nmL (sN k s0) 0) w7) := bk_kpt HQr.out hK hqr
    have HL7 : Hid ((takeR (32 :: letW k 0) (sR k s0 0)).1.length < 4294967281) := Nat.lt_of_le_of_lt (len_take _ _) HLj.out
    clear hR hK p1 p2 p3 p4
    generalize takeR (32 :: letW k 0) (sR k s0 0) = s7 at *
    go_wp2_with fail
    refine (number_any r 10 s7 _ HD7.out.rd HL7.out (by decide) h9 HD7.out.tall).mono ?_
    rintro e w8 ⟨rfl, hR, hK⟩
    have HD8 : Hid (Bd w A r (numR 10 s7) w8) := HD7.out.kept hR hK h9 hAr hwr
    have HQ8 : Hid (Bk q (nmL (sN k s0) 0) w8) := bk_kpt HQ7.out hK hqr
    clear hR hK
    rw [← HE.out] at HD8
    rw [← HZ.out]
    have c := HQ8.out.c 0 rfl
    have f := HQ8.out.f 0 rfl
    have HD9 : Hid (Bd w A r (sR k s0 1) (w8.setCell ⟨q, 0, none⟩ (.int .i64 (sN k s0 0)))) := HD8.out.put hqr hqA2 hwq hq0 0 _
    have HQ9 : Hid (Bk q (nmL (sN k s0) 1) (w8.setCell ⟨q, 0, none⟩ (.int .i64 (sN k s0 0)))) := by
     show Bk _ _ _
     rw [← HX.out]; exact HQ8.out.put 0 _
    go_wp2
    go_roundw
    case rel => exact ⟨1, by omega, by go_num, (show Hid _ from ⟨HD9.out, HQ9.out⟩)⟩
    case measure => simp [intOf]
  ·subst e
   have HS : Hid (sR k s0 2 = pR k 1 (sR k s0 1)) := rfl
   have HNj : Hid (sN k s0 1 = pN k 1 (sR k s0 1)) := rfl
   have HLj : Hid ((sR k s0 1).1.length < 4294967281) := HLb.out 1
   have HX : Hid ((nmL (sN k s0) 1).set 1 (.int .i64 (sN k s0 1)) = nmL (sN k s0) 2) := rfl
   by_cases hl : letW k 1 = []
   ·have HE : Hid (sR k s0 2 = sR k s0 1) := by show _ = _; rw [HS.out]; unfold pR; rw [if_pos hl]
    have HZ : Hid (nmL (sN k s0) 2 = nmL (sN k s0) 1) := by
     have h0 : sN k s0 1 = 0 := by rw [HNj.out]; unfold pN; rw [if_pos hl]
     show _ = _
     rw [← HX.out, h0]; rfl
    have i9 : ∀ W : World, (Instr.index 233 (.agg #[sA (letW k 0), sA (letW k 1), sA (letW k 2), sA (letW k 3)]) (.int .i64 1)).run Tryz.prog W = .ok (.string ⟨#[]⟩) W := fun W => by rw [i1 W, hl]
    clear hl i1
    go_wp2
    go_roundw
    case rel => exact ⟨2, by omega, by go_num, (show Hid _ from ⟨by rw [HE.out]; exact HDr.out, by rw [HZ.out]; exact HQr.out⟩)⟩
    case measure => simp [intOf]
   ·have HE : Hid (sR k s0 2 = numR 10 (takeR (32 :: letW k 1) (sR k s0 1))) := by show _ = _; rw [HS.out]; unfold pR; rw [if_neg hl]
    have HZ : Hid (sN k s0 1 = (numV 10 (takeR (32 :: letW k 1) (sR k s0 1)).1).1) := by show _ = _; rw [HNj.out]; unfold pN; rw [if_neg hl]
    have p1 : (([] : List UInt8) == letW k 1) = false := by rw [beq_eq_false_iff_ne]; exact fun h => hl h.symm
    have p2 : (letW k 1 == []) = false := by rw [beq_eq_false_iff_ne]; exact hl
    have p3 : (letW k 1).isEmpty = false := by simpa using hl
    have p4 : (letW k 1).length ≤ 1 := let_len k 1
    clear hl
    go_wp2_with fail
    refine (take_raw r (sR k s0 1) (letW k 1) _ HDr.out.rd).mono ?_
    rintro e w7 ⟨rfl, hR, hK⟩
    have HD7 : Hid (Bd w A r (takeR (32 :: letW k 1) (sR k s0 1)) w7) := HDr.out.kept hR hK h9 hAr hwr
    have HQ7 : Hid (Bk q (nmL (sN k s0) 1) w7) := bk_kpt HQr.out hK hqr
    have HL7 : Hid ((takeR (32 :: letW k 1) (sR k s0 1)).1.length < 4294967281) := Nat.lt_of_le_of_lt (len_take _ _) HLj.out
    clear hR hK p1 p2 p3 p4
    generalize takeR (32 :: letW k 1) (sR k s0 1) = s7 at *
    go_wp2_with fail
    refine (number_any r 10 s7 _ HD7.out.rd HL7.out (by decide) h9 HD7.out.tall).mono ?_
    rintro e w8 ⟨rfl, hR, hK⟩
    have HD8 : Hid (Bd w A r (numR 10 s7) w8) := HD7.out.kept hR hK h9 hAr hwr
    have HQ8 : Hid (Bk q (nmL (sN k s0) 1) w8) := bk_kpt HQ7.out hK hqr
    clear hR hK
    rw [← HE.out] at HD8
    rw [← HZ.out]
    have c := HQ8.out.c 1 rfl
    have f := HQ8.out.f 1 rfl
    have HD9 : Hid (Bd w A r (sR k s0 2) (w8.setCell ⟨q, 1, none⟩ (.int .i64 (sN k s0 1)))) := HD8.out.put hqr hqA2 hwq hq0 1 _
    have HQ9 : Hid (Bk q (nmL (sN k s0) 2) (w8.setCell ⟨q, 1, none⟩ (.int .i64 (sN k s0 1)))) := by
     show Bk _ _ _
     rw [← HX.out]; exact HQ8.out.put 1 _
    go_wp2
    go_roundw
    case rel => exact ⟨2, by omega, by go_num, (show Hid _ from ⟨HD9.out, HQ9.out⟩)⟩
    case measure => simp [intOf]
  ·subst e
   have HS : Hid (sR k s0 3 = pR k 2 (sR k s0 2)) := rfl
   have HNj : Hid (sN k s0 2 = pN k 2 (sR k s0 2)) := rfl
   have HLj : Hid ((sR k s0 2).1.length < 4294967281) := HLb.out 2
   have HX : Hid ((nmL (sN k s0) 2).set 2 (.int .i64 (sN k s0 2)) = nmL (sN k s0) 3) := rfl
   by_cases hl : letW k 2 = []
   ·have HE : Hid (sR k s0 3 = sR k s0 2) := by show _ = _; rw [HS.out]; unfold pR; rw [if_pos hl]
    have HZ : Hid (nmL (sN k s0) 3 = nmL (sN k s0) 2) := by
     have h0 : sN k s0 2 = 0 := by rw [HNj.out]; unfold pN; rw [if_pos hl]
     show _ = _
     rw [← HX.out, h0]; rfl
    have i9 : ∀ W : World, (Instr.index 233 (.agg #[sA (letW k 0), sA (letW k 1), sA (letW k 2), sA (letW k 3)]) (.int .i64 2)).run Tryz.prog W = .ok (.string ⟨#[]⟩) W := fun W => by rw [i2 W, hl]
    clear hl i2
    go_wp2
    go_roundw
    case rel => exact ⟨3, by omega, by go_num, (show Hid _ from ⟨by rw [HE.out]; exact HDr.out, by rw [HZ.out]; exact HQr.out⟩)⟩
    case measure => simp [intOf]
   ·have HE : Hid (sR k s0 3 = numR 10 (takeR (32 :: letW k 2) (sR k s0 2))) := by show _ = _; rw [HS.out]; unfold pR; rw [if_neg hl]
    have HZ : Hid (sN k s0 2 = (numV 10 (takeR (32 :: letW k 2) (sR k s0 2)).1).1) := by show _ = _; rw [HNj.out]; unfold pN; rw [if_neg hl]
    have p1 : (([] : List UInt8) == letW k 2) = false := by rw [beq_eq_false_iff_ne]; exact fun h => hl h.symm
    have p2 : (letW k 2 == []) = false := by rw [beq_eq_false_iff_ne]; exact hl
    have p3 : (letW k 2).isEmpty = false := by simpa using hl
    have p4 : (letW k 2).length ≤ 1 := let_len k 2
    clear hl
    go_wp2_with fail
    refine (take_raw r (sR k s0 2) (letW k 2) _ HDr.out.rd).mono ?_
    rintro e w7 ⟨rfl, hR, hK⟩
    have HD7 : Hid (Bd w A r (takeR (32 :: letW k 2) (sR k s0 2)) w7) := HDr.out.kept hR hK h9 hAr hwr
    have HQ7 : Hid (Bk q (nmL (sN k s0) 2) w7) := bk_kpt HQr.out hK hqr
    have HL7 : Hid ((takeR (32 :: letW k 2) (sR k s0 2)).1.length < 4294967281) := Nat.lt_of_le_of_lt (len_take _ _) HLj.out
    clear hR hK p1 p2 p3 p4
    generalize takeR (32 :: letW k 2) (sR k s0 2) = s7 at *
    go_wp2_with fail
    refine (number_any r 10 s7 _ HD7.out.rd HL7.out (by decide) h9 HD7.out.tall).mono ?_
    rintro e w8 ⟨rfl, hR, hK⟩
    have HD8 : Hid (Bd w A r (numR 10 s7) w8) := HD7.out.kept hR hK h9 hAr hwr
    have HQ8 : Hid (Bk q (nmL (sN k s0) 2) w8) := bk_kpt HQ7.out hK hqr
    clear hR hK
    rw [← HE.out] at HD8
    rw [← HZ.out]
    have c := HQ8.out.c 2 rfl
    have f := HQ8.out.f 2 rfl
    have HD9 : Hid (Bd w A r (sR k s0 3) (w8.setCell ⟨q, 2, none⟩ (.int .i64 (sN k s0 2)))) := HD8.out.put hqr hqA2 hwq hq0 2 _
    have HQ9 : Hid (Bk q (nmL (sN k s0) 3) (w8.setCell ⟨q, 2, none⟩ (.int .i64 (sN k s0 2)))) := by
     show Bk _ _ _
     rw [← HX.out]; exact HQ8.out.put 2 _
    go_wp2
    go_roundw
    case rel => exact ⟨3, by omega, by go_num, (show Hid _ from ⟨HD9.out, HQ9.out⟩)⟩
    case measure => simp [intOf]
  ·subst e
   have HS : Hid (sR k s0 4 = pR k 3 (sR k s0 3)) := rfl
   have HNj : Hid (sN k s0 3 = pN k 3 (sR k s0 3)) := rfl
   have HLj : Hid ((sR k s0 3).1.length < 4294967281) := HLb.out 3
   have HX : Hid ((nmL (sN k s0) 3).set 3 (.int .i64 (sN k s0 3)) = nmL (sN k s0) 4) := rfl
   by_cases hl : letW k 3 = []
   ·have HE : Hid (sR k s0 4 = sR k s0 3) := by show _ = _; rw [HS.out]; unfold pR; rw [if_pos hl]
    have HZ : Hid (nmL (sN k s0) 4 = nmL (sN k s0) 3) := by
     have h0 : sN k s0 3 = 0 := by rw [HNj.out]; unfold pN; rw [if_pos hl]
     show _ = _
     rw [← HX.out, h0]; rfl
    have i9 : ∀ W : World, (Instr.index 233 (.agg #[sA (letW k 0), sA (letW k 1), sA (letW k 2), sA (letW k 3)]) (.int .i64 3)).run Tryz.prog W = .ok (.string ⟨#[]⟩) W := fun W => by rw [i3 W, hl]
    clear hl i3
    go_wp2
    go_roundw
    case rel => exact ⟨4, by omega, by go_num, (show Hid _ from ⟨by rw [HE.out]; exact HDr.out, by rw [HZ.out]; exact HQr.out⟩)⟩
    case measure => simp [intOf]
   ·have HE : Hid (sR k s0 4 = numR 10 (takeR (32 :: letW k 3) (sR k s0 3))) := by show _ = _; rw [HS.out]; unfold pR; rw [if_neg hl]
    have HZ : Hid (sN k s0 3 = (numV 10 (takeR (32 :: letW k 3) (sR k s0 3)).1).1) := by show _ = _; rw [HNj.out]; unfold pN; rw [if_neg hl]
    have p1 : (([] : List UInt8) == letW k 3) = false := by rw [beq_eq_false_iff_ne]; exact fun h => hl h.symm
    have p2 : (letW k 3 == []) = false := by rw [beq_eq_false_iff_ne]; exact hl
    have p3 : (letW k 3).isEmpty = false := by simpa using hl
    have p4 : (letW k 3).length ≤ 1 := let_len k 3
    clear hl
    go_wp2_with fail
    refine (take_raw r (sR k s0 3) (letW k 3) _ HDr.out.rd).mono ?_
    rintro e w7 ⟨rfl, hR, hK⟩
    have HD7 : Hid (Bd w A r (takeR (32 :: letW k 3) (sR k s0 3)) w7) := HDr.out.kept hR hK h9 hAr hwr
    have HQ7 : Hid (Bk q (nmL (sN k s0) 3) w7) := bk_kpt HQr.out hK hqr
    have HL7 : Hid ((takeR (32 :: letW k 3) (sR k s0 3)).1.length < 4294967281) := Nat.lt_of_le_of_lt (len_take _ _) HLj.out
    clear hR hK p1 p2 p3 p4
    generalize takeR (32 :: letW k 3) (sR k s0 3) = s7 at *
    go_wp2_with fail
    refine (number_any r 10 s7 _ HD7.out.rd HL7.out (by decide) h9 HD7.out.tall).mono ?_
    rintro e w8 ⟨rfl, hR, hK⟩
    have HD8 : Hid (Bd w A r (numR 10 s7) w8) := HD7.out.kept hR hK h9 hAr hwr
    have HQ8 : Hid (Bk q (nmL (sN k s0) 3) w8) := bk_kpt HQ7.out hK hqr
    clear hR hK
    rw [← HE.out] at HD8
    rw [← HZ.out]
    have c := HQ8.out.c 3 rfl
    have f := HQ8.out.f 3 rfl
    have HD9 : Hid (Bd w A r (sR k s0 4) (w8.setCell ⟨q, 3, none⟩ (.int .i64 (sN k s0 3)))) := HD8.out.put hqr hqA2 hwq hq0 3 _
    have HQ9 : Hid (Bk q (nmL (sN k s0) 4) (w8.setCell ⟨q, 3, none⟩ (.int .i64 (sN k s0 3)))) := by
     show Bk _ _ _
     rw [← HX.out]; exact HQ8.out.put 3 _
    go_wp2
    go_roundw
    case rel => exact ⟨4, by omega, by go_num, (show Hid _ from ⟨HD9.out, HQ9.out⟩)⟩
    case measure => simp [intOf]
  ·subst e
   have HC : Hid (∀ W, Calls Tryz.prog 165 #[.int .i64 k, n4 (sN k s0 0) (sN k s0 1) (sN k s0 2) (sN k s0 3)] W fun e w' => e = .returned (cm k (sN k s0 0) (sN k s0 1) (sN k s0 2) (sN k s0 3)) ∧ Below W.heap.size W w') := fun W => (commandOf_any k (sN k s0 0) (sN k s0 1) (sN k s0 2) (sN k s0 3) W).mono fun _ _ ⟨he, hw⟩ => ⟨he, by rw [hw]; exact ((brf).alloc (Nat.le_refl _) _).alloc (by simp) _⟩
   have c0 : wr.cell? ⟨q, 0, none⟩ = some (.int .i64 (sN k s0 0)) := HQr.out.c 0 rfl
   have c1 : wr.cell? ⟨q, 1, none⟩ = some (.int .i64 (sN k s0 1)) := HQr.out.c 1 rfl
   have c2 : wr.cell? ⟨q, 2, none⟩ = some (.int .i64 (sN k s0 2)) := HQr.out.c 2 rfl
   have c3 : wr.cell? ⟨q, 3, none⟩ = some (.int .i64 (sN k s0 3)) := HQr.out.c 3 rfl
   have HDn : Hid (∀ W, Rb r (sR k s0 4) W → Calls Tryz.prog 166 #[ptr r] W fun e w' => e = .returned (.bool (doneR (sR k s0 4))) ∧ w' = W) := fun W h => isDone_any r _ W h
   generalize hE : sN k s0 0 = X at *
   have HEX : Hid (sN k s0 0 = X) := hE
   clear hE
   generalize hE : sN k s0 1 = Y at *
   have HEY : Hid (sN k s0 1 = Y) := hE
   clear hE
   generalize hE : sN k s0 2 = Z at *
   have HEZ : Hid (sN k s0 2 = Z) := hE
   clear hE
   generalize hE : sN k s0 3 = U at *
   have HEU : Hid (sN k s0 3 = U) := hE
   clear hE
   generalize hE : doneR (sR k s0 4) = d at *
   have HEd : Hid (doneR (sR k s0 4) = d) := hE
   clear hE
   go_wp2_with fail
   refine (HC.out _).mono ?_
   rintro e w7 ⟨rfl, hb⟩
   have HD7 : Hid (Bd w A r (sR k s0 4) w7) := HDr.out.later hb
   clear hb c0 c1 c2 c3 HC
   go_wp2_with fail
   refine (HDn.out _ HD7.out.rd).mono ?_
   rintro e w8 ⟨rfl, hw⟩
   subst hw
   have HF := ((((HD7.out.res.put 0 (.int .i64 k)).put 1 (.int .i64 X)).put 2 (.int .i64 Y)).put 3 (.int .i64 Z)).put 4 (.int .i64 U)
   have HFB : Hid (Below w.heap.size w (((((w8.setCell ⟨A, 0, none⟩ (.int .i64 k)).setCell ⟨A, 1, none⟩ (.int .i64 X)).setCell ⟨A, 2, none⟩ (.int .i64 Y)).setCell ⟨A, 3, none⟩ (.int .i64 Z)).setCell ⟨A, 4, none⟩ (.int .i64 U))) := ((((HD7.out.low.setCell hwA _).setCell hwA _).setCell hwA _).setCell hwA _).setCell hwA _
   have HFH : Hid (Bk A (c5 k X Y Z U) (((((w8.setCell ⟨A, 0, none⟩ (.int .i64 k)).setCell ⟨A, 1, none⟩ (.int .i64 X)).setCell ⟨A, 2, none⟩ (.int .i64 Y)).setCell ⟨A, 3, none⟩ (.int .i64 Z)).setCell ⟨A, 4, none⟩ (.int .i64 U))) := HF
   clear HF
   have c0 := HD7.out.res.c 0 rfl
   have g0 := HD7.out.res.f 0 rfl
   have c1 := HD7.out.res.c 1 rfl
   have g1 := HD7.out.res.f 1 rfl
   have c2 := HD7.out.res.c 2 rfl
   have g2 := HD7.out.res.f 2 rfl
   have c3 := HD7.out.res.c 3 rfl
   have g3 := HD7.out.res.f 3 rfl
   have c4 := HD7.out.res.c 4 rfl
   have g4 := HD7.out.res.f 4 rfl
   cases d
   ·skip
    go_wp2
    clear c0 c1 c2 c3 c4 g0 g1 g2 g3 g4
    generalize (((((w8.setCell ⟨A, 0, none⟩ (.int .i64 k)).setCell ⟨A, 1, none⟩ (.int .i64 X)).setCell ⟨A, 2, none⟩ (.int .i64 Y)).setCell ⟨A, 3, none⟩ (.int .i64 Z)).setCell ⟨A, 4, none⟩ (.int .i64 U)) = w9 at *
    have r0 := HFH.out.c 0 rfl
    have r1 := HFH.out.c 1 rfl
    have r2 := HFH.out.c 2 rfl
    have r3 := HFH.out.c 3 rfl
    have r4 := HFH.out.c 4 rfl
    refine bodyPost_ret (v := .tuple #[.int .i64 n, cm k X Y Z U, .bool false]) (by simp [results, Tryz.results102, go_sem, r0, r1, r2, r3, r4]) rfl ⟨?_, HFB.out⟩
    rw [HE1.out, HEn.out, HEX.out, HEY.out, HEZ.out, HEU.out, HEd.out]
    rfl
   ·by_cases hk : k = 0
    ·have hk2 : Hid (k = 0) := hk
     have p0 : ((k : Int) == 0) = true := by rw [hk]; rfl
     have p1 : ((k : Int) != 0) = false := by rw [hk]; rfl
     have p2 : (k == 0) = true := by rw [hk]; rfl
     have p4 : decide ((k : Int) = 0) = true := by rw [hk]; rfl
     clear hk
     go_wp2
     clear c0 c1 c2 c3 c4 g0 g1 g2 g3 g4
     generalize (((((w8.setCell ⟨A, 0, none⟩ (.int .i64 k)).setCell ⟨A, 1, none⟩ (.int .i64 X)).setCell ⟨A, 2, none⟩ (.int .i64 Y)).setCell ⟨A, 3, none⟩ (.int .i64 Z)).setCell ⟨A, 4, none⟩ (.int .i64 U)) = w9 at *
     have r0 := HFH.out.c 0 rfl
     have r1 := HFH.out.c 1 rfl
     have r2 := HFH.out.c 2 rfl
     have r3 := HFH.out.c 3 rfl
     have r4 := HFH.out.c 4 rfl
     refine bodyPost_ret (v := .tuple #[.int .i64 n, cm k X Y Z U, .bool false]) (by simp [results, Tryz.results102, go_sem, r0, r1, r2, r3, r4]) rfl ⟨?_, HFB.out⟩
     rw [HE1.out, HEn.out, HEX.out, HEY.out, HEZ.out, HEU.out, HEd.out]
     simp [hk2.out]
    ·have hk2 : Hid (k ≠ 0) := hk
     have p0 : ((k : Int) == 0) = false := by rw [beq_eq_false_iff_ne]; omega
     have p1 : ((k : Int) != 0) = true := by rw [bne_iff_ne]; omega
     have p2 : (k == 0) = false := by rw [beq_eq_false_iff_ne]; exact hk
     have p3 : ¬ ((k : Int) = 0) := by omega
     clear hk
     go_wp2
     clear c0 c1 c2 c3 c4 g0 g1 g2 g3 g4
     generalize (((((w8.setCell ⟨A, 0, none⟩ (.int .i64 k)).setCell ⟨A, 1, none⟩ (.int .i64 X)).setCell ⟨A, 2, none⟩ (.int .i64 Y)).setCell ⟨A, 3, none⟩ (.int .i64 Z)).setCell ⟨A, 4, none⟩ (.int .i64 U)) = w9 at *
     have r0 := HFH.out.c 0 rfl
     have r1 := HFH.out.c 1 rfl
     have r2 := HFH.out.c 2 rfl
     have r3 := HFH.out.c 3 rfl
     have r4 := HFH.out.c 4 rfl
     refine bodyPost_ret (v := .tuple #[.int .i64 n, cm k X Y Z U, .bool true]) (by simp [results, Tryz.results102, go_sem, r0, r1, r2, r3, r4]) rfl ⟨?_, HFB.out⟩
     rw [HE1.out, HEn.out, HEX.out, HEY.out, HEZ.out, HEU.out, HEd.out]
     simp [hk2.out]
abbrev pv (n k x y z u e : Int) : Value := .tuple #[.int .i64 n, cm k x y z u, .int .i64 e]
structure Ps (l a b c : List UInt8) (n k x y z u : Int) (ok : Bool) (sv : Int) (sok : Bool) (sm re : Int) : Prop where
 cut : ∀ W, Tall W → ∃ fl : Bool, Calls Tryz.prog 49 #[sA l, .string ⟨#[42]⟩] W fun e w' => e = .returned (.tuple #[sA a, sA b, .bool fl]) ∧ Below W.heap.size W w'
 body : ∀ W, Tall W → Calls Tryz.prog 102 #[sA a] W fun e w' => e = .returned (.tuple #[.int .i64 n, cm k x y z u, .bool ok]) ∧ Below W.heap.size W w'
 sum : ∀ W, Tall W → Calls Tryz.prog 103 #[sA b] W fun e w' => e = .returned (.tuple #[.int .i64 sv, .bool sok]) ∧ Below W.heap.size W w'
 add : ∀ W, Calls Tryz.prog 104 #[sA a] W fun e w' => e = .returned (.int .i64 sm) ∧ w' = W
 ref : ∀ W, Tall W → Calls Tryz.prog 96 #[.int .i64 n, cm k x y z u] W fun e w' => e = .returned (.int .i64 re) ∧ Below W.heap.size W w'
theorem parse_nobody {l a b c : List UInt8} {n k x y z u : Int} {ok : Bool} {sv : Int} {sok : Bool} {sm re : Int} (h : Ps l a b c n k x y z u ok sv sok sm re) (hk : ok = false) (w : World) (hT : Tall w) : Calls Tryz.prog 50 #[sA l] w fun e w' => e = .returned (pv 0 0 0 0 0 0 1) ∧ Below w.heap.size w w' := by
 subst hk
 have HA0 : Hid (Bk w.heap.size z5 (w.alloc (o5 0 0 0 0 0))) := Bk.new w z5 49 _ rfl
 have HB0 : Hid (Below w.heap.size w (w.alloc (o5 0 0 0 0 0))) := (brf).alloc (Nat.le_refl _) _
 have HT0 : Hid (Tall (w.alloc (o5 0 0 0 0 0))) := hT.later HB0.out
 obtain ⟨fl, hcut⟩ := h.cut _ HT0.out
 have HCut : Hid (Calls Tryz.prog 49 #[sA l, .string ⟨#[42]⟩] (w.alloc (o5 0 0 0 0 0)) fun e w' => e = .returned (.tuple #[sA a, sA b, .bool fl]) ∧ Below (w.alloc (o5 0 0 0 0 0)).heap.size (w.alloc (o5 0 0 0 0 0)) w') := hcut
 have H : Hid (Ps l a b c n k x y z u false sv sok sm re) := h
 clear h hT hcut
 go_enter Tryz.func50, Tryz.ntmps50
 go_wp2_with fail
 generalize w.alloc (o5 0 0 0 0 0) = w0 at *
 obtain ⟨A, hA⟩ : ∃ A, A = w.heap.size := ⟨_, rfl⟩
 have HA : Hid (Bk A z5 w0) := by show Bk _ _ _; rw [hA]; exact HA0.out
 simp only [← hA]
 have hwA : w.heap.size ≤ A := by omega
 clear hA HA0
 refine HCut.out.mono ?_
 rintro e w1 ⟨rfl, hb⟩
 have HT1 : Hid (Tall w1) := HT0.out.later hb
 have HA1 : Hid (Bk A z5 w1) := HA.out.later hb
 have HB1 : Hid (Below w.heap.size w w1) := HB0.out.trans (hb.mono HB0.out.size)
 clear hb HCut HT0 HA HB0
 go_wp2_with fail
 refine (H.out.body _ HT1.out).mono ?_
 rintro e w2 ⟨rfl, hb⟩
 have HT2 : Hid (Tall (w2.alloc (o5 k x y z u))) := (HT1.out.later hb).later ((brf).alloc (Nat.le_refl _) _)
 have HA2 : Hid (Bk A z5 (w2.alloc (o5 k x y z u))) := (HA1.out.later hb).later ((brf).alloc (Nat.le_refl _) _)
 have HB2 : Hid (Below w.heap.size w (w2.alloc (o5 k x y z u))) := (HB1.out.trans (hb.mono HB1.out.size)).alloc (Nat.le_trans HB1.out.size hb.size) _
 have HC2 : Hid (Bk w2.heap.size (c5 k x y z u) (w2.alloc (o5 k x y z u))) := Bk.new w2 (c5 k x y z u) 49 _ rfl
 have hCA : A < w2.heap.size := Nat.lt_of_lt_of_le HA1.out.1 hb.size
 clear hb HT1 HA1 HB1
 go_wp2_with fail
 generalize w2.alloc (o5 k x y z u) = w3 at *
 obtain ⟨C, hC⟩ : ∃ C, C = w2.heap.size := ⟨_, rfl⟩
 rw [← hC] at HC2
 simp only [← hC]
 have hAC : A ≠ C := by omega
 clear hC hCA
 refine (H.out.sum _ HT2.out).mono ?_
 rintro e w4 ⟨rfl, hb⟩
 have HT4 : Hid (Tall w4) := HT2.out.later hb
 have HA4 : Hid (Bk A z5 w4) := HA2.out.later hb
 have HC4 : Hid (Bk C (c5 k x y z u) w4) := HC2.out.later hb
 have HB4 : Hid (Below w.heap.size w w4) := HB2.out.trans (hb.mono HB2.out.size)
 clear hb HT2 HA2 HC2 HB2
 have a0 := HA4.out.c 0 rfl
 have g0 := HA4.out.f 0 rfl
 have a1 := HA4.out.c 1 rfl
 have g1 := HA4.out.f 1 rfl
 have a2 := HA4.out.c 2 rfl
 have g2 := HA4.out.f 2 rfl
 have a3 := HA4.out.c 3 rfl
 have g3 := HA4.out.f 3 rfl
 have a4 := HA4.out.c 4 rfl
 have g4 := HA4.out.f 4 rfl
 have HFB : Hid (Below w.heap.size w (((((w4.setCell ⟨A, 0, none⟩ (.int .i64 0)).setCell ⟨A, 1, none⟩ (.int .i64 0)).setCell ⟨A, 2, none⟩ (.int .i64 0)).setCell ⟨A, 3, none⟩ (.int .i64 0)).setCell ⟨A, 4, none⟩ (.int .i64 0))) := ((((HB4.out.setCell hwA _).setCell hwA _).setCell hwA _).setCell hwA _).setCell hwA _
 have HFH : Hid (Bk A (c5 0 0 0 0 0) (((((w4.setCell ⟨A, 0, none⟩ (.int .i64 0)).setCell ⟨A, 1, none⟩ (.int .i64 0)).setCell ⟨A, 2, none⟩ (.int .i64 0)).setCell ⟨A, 3, none⟩ (.int .i64 0)).setCell ⟨A, 4, none⟩ (.int .i64 0))) := ((((HA4.out.put 0 _).put 1 _).put 2 _).put 3 _).put 4 _
 go_wp2
 clear a0 g0 a1 g1 a2 g2 a3 g3 a4 g4
 generalize (((((w4.setCell ⟨A, 0, none⟩ (.int .i64 0)).setCell ⟨A, 1, none⟩ (.int .i64 0)).setCell ⟨A, 2, none⟩ (.int .i64 0)).setCell ⟨A, 3, none⟩ (.int .i64 0)).setCell ⟨A, 4, none⟩ (.int .i64 0)) = w9 at *
 have r0 := HFH.out.c 0 rfl
 have r1 := HFH.out.c 1 rfl
 have r2 := HFH.out.c 2 rfl
 have r3 := HFH.out.c 3 rfl
 have r4 := HFH.out.c 4 rfl
 exact bodyPost_ret (v := pv 0 0 0 0 0 0 1) (by simp [results, Tryz.results50, go_sem, r0, r1, r2, r3, r4]) rfl ⟨rfl, HFB.out⟩
theorem parse_nosum {l a b c : List UInt8} {n k x y z u : Int} {ok : Bool} {sv : Int} {sok : Bool} {sm re : Int} (h : Ps l a b c n k x y z u ok sv sok sm re) (hk : ok = true) (hs : sok = false) (w : World) (hT : Tall w) : Calls Tryz.prog 50 #[sA l] w fun e w' => e = .returned (pv 0 0 0 0 0 0 1) ∧ Below w.heap.size w w' := by
 subst hk hs
 have HA0 : Hid (Bk w.heap.size z5 (w.alloc (o5 0 0 0 0 0))) := Bk.new w z5 49 _ rfl
 have HB0 : Hid (Below w.heap.size w (w.alloc (o5 0 0 0 0 0))) := (brf).alloc (Nat.le_refl _) _
 have HT0 : Hid (Tall (w.alloc (o5 0 0 0 0 0))) := hT.later HB0.out
 obtain ⟨fl, hcut⟩ := h.cut _ HT0.out
 have HCut : Hid (Calls Tryz.prog 49 #[sA l, .string ⟨#[42]⟩] (w.alloc (o5 0 0 0 0 0)) fun e w' => e = .returned (.tuple #[sA a, sA b, .bool fl]) ∧ Below (w.alloc (o5 0 0 0 0 0)).heap.size (w.alloc (o5 0 0 0 0 0)) w') := hcut
 have H : Hid (Ps l a b c n k x y z u true sv false sm re) := h
 clear h hT hcut
 go_enter Tryz.func50, Tryz.ntmps50
 go_wp2_with fail
 generalize w.alloc (o5 0 0 0 0 0) = w0 at *
 obtain ⟨A, hA⟩ : ∃ A, A = w.heap.size := ⟨_, rfl⟩
 have HA : Hid (Bk A z5 w0) := by show Bk _ _ _; rw [hA]; exact HA0.out
 simp only [← hA]
 have hwA : w.heap.size ≤ A := by omega
 clear hA HA0
 refine HCut.out.mono ?_
 rintro e w1 ⟨rfl, hb⟩
 have HT1 : Hid (Tall w1) := HT0.out.later hb
 have HA1 : Hid (Bk A z5 w1) := HA.out.later hb
 have HB1 : Hid (Below w.heap.size w w1) := HB0.out.trans (hb.mono HB0.out.size)
 clear hb HCut HT0 HA HB0
 go_wp2_with fail
 refine (H.out.body _ HT1.out).mono ?_
 rintro e w2 ⟨rfl, hb⟩
 have HT2 : Hid (Tall (w2.alloc (o5 k x y z u))) := (HT1.out.later hb).later ((brf).alloc (Nat.le_refl _) _)
 have HA2 : Hid (Bk A z5 (w2.alloc (o5 k x y z u))) := (HA1.out.later hb).later ((brf).alloc (Nat.le_refl _) _)
 have HB2 : Hid (Below w.heap.size w (w2.alloc (o5 k x y z u))) := (HB1.out.trans (hb.mono HB1.out.size)).alloc (Nat.le_trans HB1.out.size hb.size) _
 have HC2 : Hid (Bk w2.heap.size (c5 k x y z u) (w2.alloc (o5 k x y z u))) := Bk.new w2 (c5 k x y z u) 49 _ rfl
 have hCA : A < w2.heap.size := Nat.lt_of_lt_of_le HA1.out.1 hb.size
 clear hb HT1 HA1 HB1
 go_wp2_with fail
 generalize w2.alloc (o5 k x y z u) = w3 at *
 obtain ⟨C, hC⟩ : ∃ C, C = w2.heap.size := ⟨_, rfl⟩
 rw [← hC] at HC2
 simp only [← hC]
 have hAC : A ≠ C := by omega
 clear hC hCA
 refine (H.out.sum _ HT2.out).mono ?_
 rintro e w4 ⟨rfl, hb⟩
 have HT4 : Hid (Tall w4) := HT2.out.later hb
 have HA4 : Hid (Bk A z5 w4) := HA2.out.later hb
 have HC4 : Hid (Bk C (c5 k x y z u) w4) := HC2.out.later hb
 have HB4 : Hid (Below w.heap.size w w4) := HB2.out.trans (hb.mono HB2.out.size)
 clear hb HT2 HA2 HC2 HB2
 have a0 := HA4.out.c 0 rfl
 have g0 := HA4.out.f 0 rfl
 have a1 := HA4.out.c 1 rfl
 have g1 := HA4.out.f 1 rfl
 have a2 := HA4.out.c 2 rfl
 have g2 := HA4.out.f 2 rfl
 have a3 := HA4.out.c 3 rfl
 have g3 := HA4.out.f 3 rfl
 have a4 := HA4.out.c 4 rfl
 have g4 := HA4.out.f 4 rfl
 have HFB : Hid (Below w.heap.size w (((((w4.setCell ⟨A, 0, none⟩ (.int .i64 0)).setCell ⟨A, 1, none⟩ (.int .i64 0)).setCell ⟨A, 2, none⟩ (.int .i64 0)).setCell ⟨A, 3, none⟩ (.int .i64 0)).setCell ⟨A, 4, none⟩ (.int .i64 0))) := ((((HB4.out.setCell hwA _).setCell hwA _).setCell hwA _).setCell hwA _).setCell hwA _
 have HFH : Hid (Bk A (c5 0 0 0 0 0) (((((w4.setCell ⟨A, 0, none⟩ (.int .i64 0)).setCell ⟨A, 1, none⟩ (.int .i64 0)).setCell ⟨A, 2, none⟩ (.int .i64 0)).setCell ⟨A, 3, none⟩ (.int .i64 0)).setCell ⟨A, 4, none⟩ (.int .i64 0))) := ((((HA4.out.put 0 _).put 1 _).put 2 _).put 3 _).put 4 _
 go_wp2
 clear a0 g0 a1 g1 a2 g2 a3 g3 a4 g4
 generalize (((((w4.setCell ⟨A, 0, none⟩ (.int .i64 0)).setCell ⟨A, 1, none⟩ (.int .i64 0)).setCell ⟨A, 2, none⟩ (.int .i64 0)).setCell ⟨A, 3, none⟩ (.int .i64 0)).setCell ⟨A, 4, none⟩ (.int .i64 0)) = w9 at *
 have r0 := HFH.out.c 0 rfl
 have r1 := HFH.out.c 1 rfl
 have r2 := HFH.out.c 2 rfl
 have r3 := HFH.out.c 3 rfl
 have r4 := HFH.out.c 4 rfl
 exact bodyPost_ret (v := pv 0 0 0 0 0 0 1) (by simp [results, Tryz.results50, go_sem, r0, r1, r2, r3, r4]) rfl ⟨rfl, HFB.out⟩
theorem parse_othersum {l a b c : List UInt8} {n k x y z u : Int} {ok : Bool} {sv : Int} {sok : Bool} {sm re : Int} (h : Ps l a b c n k x y z u ok sv sok sm re) (hk : ok = true) (hs : sok = true) (hm : sv ≠ sm) (w : World) (hT : Tall w) : Calls Tryz.prog 50 #[sA l] w fun e w' => e = .returned (pv 0 0 0 0 0 0 14) ∧ Below w.heap.size w w' := by
 subst hk hs
 have p1 : (sv == sm) = false := by rw [beq_eq_false_iff_ne]; exact hm
 have p2 : (sv != sm) = true := by rw [bne_iff_ne]; exact hm
 clear hm
 have HA0 : Hid (Bk w.heap.size z5 (w.alloc (o5 0 0 0 0 0))) := Bk.new w z5 49 _ rfl
 have HB0 : Hid (Below w.heap.size w (w.alloc (o5 0 0 0 0 0))) := (brf).alloc (Nat.le_refl _) _
 have HT0 : Hid (Tall (w.alloc (o5 0 0 0 0 0))) := hT.later HB0.out
 obtain ⟨fl, hcut⟩ := h.cut _ HT0.out
 have HCut : Hid (Calls Tryz.prog 49 #[sA l, .string ⟨#[42]⟩] (w.alloc (o5 0 0 0 0 0)) fun e w' => e = .returned (.tuple #[sA a, sA b, .bool fl]) ∧ Below (w.alloc (o5 0 0 0 0 0)).heap.size (w.alloc (o5 0 0 0 0 0)) w') := hcut
 have H : Hid (Ps l a b c n k x y z u true sv true sm re) := h
 clear h hT hcut
 go_enter Tryz.func50, Tryz.ntmps50
 go_wp2_with fail
 generalize w.alloc (o5 0 0 0 0 0) = w0 at *
 obtain ⟨A, hA⟩ : ∃ A, A = w.heap.size := ⟨_, rfl⟩
 have HA : Hid (Bk A z5 w0) := by show Bk _ _ _; rw [hA]; exact HA0.out
 simp only [← hA]
 have hwA : w.heap.size ≤ A := by omega
 clear hA HA0
 refine HCut.out.mono ?_
 rintro e w1 ⟨rfl, hb⟩
 have HT1 : Hid (Tall w1) := HT0.out.later hb
 have HA1 : Hid (Bk A z5 w1) := HA.out.later hb
 have HB1 : Hid (Below w.heap.size w w1) := HB0.out.trans (hb.mono HB0.out.size)
 clear hb HCut HT0 HA HB0
 go_wp2_with fail
 refine (H.out.body _ HT1.out).mono ?_
 rintro e w2 ⟨rfl, hb⟩
 have HT2 : Hid (Tall (w2.alloc (o5 k x y z u))) := (HT1.out.later hb).later ((brf).alloc (Nat.le_refl _) _)
 have HA2 : Hid (Bk A z5 (w2.alloc (o5 k x y z u))) := (HA1.out.later hb).later ((brf).alloc (Nat.le_refl _) _)
 have HB2 : Hid (Below w.heap.size w (w2.alloc (o5 k x y z u))) := (HB1.out.trans (hb.mono HB1.out.size)).alloc (Nat.le_trans HB1.out.size hb.size) _
 have HC2 : Hid (Bk w2.heap.size (c5 k x y z u) (w2.alloc (o5 k x y z u))) := Bk.new w2 (c5 k x y z u) 49 _ rfl
 have hCA : A < w2.heap.size := Nat.lt_of_lt_of_le HA1.out.1 hb.size
 clear hb HT1 HA1 HB1
 go_wp2_with fail
 generalize w2.alloc (o5 k x y z u) = w3 at *
 obtain ⟨C, hC⟩ : ∃ C, C = w2.heap.size := ⟨_, rfl⟩
 rw [← hC] at HC2
 simp only [← hC]
 have hAC : A ≠ C := by omega
 clear hC hCA
 refine (H.out.sum _ HT2.out).mono ?_
 rintro e w4 ⟨rfl, hb⟩
 have HT4 : Hid (Tall w4) := HT2.out.later hb
 have HA4 : Hid (Bk A z5 w4) := HA2.out.later hb
 have HC4 : Hid (Bk C (c5 k x y z u) w4) := HC2.out.later hb
 have HB4 : Hid (Below w.heap.size w w4) := HB2.out.trans (hb.mono HB2.out.size)
 clear hb HT2 HA2 HC2 HB2
 go_wp2_with fail
 refine (H.out.add _).mono ?_
 rintro e w5 ⟨rfl, hw⟩
 subst hw
 have a0 := HA4.out.c 0 rfl
 have g0 := HA4.out.f 0 rfl
 have a1 := HA4.out.c 1 rfl
 have g1 := HA4.out.f 1 rfl
 have a2 := HA4.out.c 2 rfl
 have g2 := HA4.out.f 2 rfl
 have a3 := HA4.out.c 3 rfl
 have g3 := HA4.out.f 3 rfl
 have a4 := HA4.out.c 4 rfl
 have g4 := HA4.out.f 4 rfl
 have HFB : Hid (Below w.heap.size w (((((w5.setCell ⟨A, 0, none⟩ (.int .i64 0)).setCell ⟨A, 1, none⟩ (.int .i64 0)).setCell ⟨A, 2, none⟩ (.int .i64 0)).setCell ⟨A, 3, none⟩ (.int .i64 0)).setCell ⟨A, 4, none⟩ (.int .i64 0))) := ((((HB4.out.setCell hwA _).setCell hwA _).setCell hwA _).setCell hwA _).setCell hwA _
 have HFH : Hid (Bk A (c5 0 0 0 0 0) (((((w5.setCell ⟨A, 0, none⟩ (.int .i64 0)).setCell ⟨A, 1, none⟩ (.int .i64 0)).setCell ⟨A, 2, none⟩ (.int .i64 0)).setCell ⟨A, 3, none⟩ (.int .i64 0)).setCell ⟨A, 4, none⟩ (.int .i64 0))) := ((((HA4.out.put 0 _).put 1 _).put 2 _).put 3 _).put 4 _
 go_wp2
 clear a0 g0 a1 g1 a2 g2 a3 g3 a4 g4
 generalize (((((w5.setCell ⟨A, 0, none⟩ (.int .i64 0)).setCell ⟨A, 1, none⟩ (.int .i64 0)).setCell ⟨A, 2, none⟩ (.int .i64 0)).setCell ⟨A, 3, none⟩ (.int .i64 0)).setCell ⟨A, 4, none⟩ (.int .i64 0)) = w9 at *
 have r0 := HFH.out.c 0 rfl
 have r1 := HFH.out.c 1 rfl
 have r2 := HFH.out.c 2 rfl
 have r3 := HFH.out.c 3 rfl
 have r4 := HFH.out.c 4 rfl
 exact bodyPost_ret (v := pv 0 0 0 0 0 0 14) (by simp [results, Tryz.results50, go_sem, r0, r1, r2, r3, r4]) rfl ⟨rfl, HFB.out⟩
theorem parse_refused {l a b c : List UInt8} {n k x y z u : Int} {ok : Bool} {sv : Int} {sok : Bool} {sm re : Int} (h : Ps l a b c n k x y z u ok sv sok sm re) (hk : ok = true) (hs : sok = true) (hm : sv = sm) (hr : re ≠ 0) (w : World) (hT : Tall w) : Calls Tryz.prog 50 #[sA l] w fun e w' => e = .returned (pv 0 0 0 0 0 0 re) ∧ Below w.heap.size w w' := by
 subst hk hs hm
 have p1 : (re == 0) = false := by rw [beq_eq_false_iff_ne]; exact hr
 have p2 : (re != 0) = true := by rw [bne_iff_ne]; exact hr
 clear hr
 have HA0 : Hid (Bk w.heap.size z5 (w.alloc (o5 0 0 0 0 0))) := Bk.new w z5 49 _ rfl
 have HB0 : Hid (Below w.heap.size w (w.alloc (o5 0 0 0 0 0))) := (brf).alloc (Nat.le_refl _) _
 have HT0 : Hid (Tall (w.alloc (o5 0 0 0 0 0))) := hT.later HB0.out
 obtain ⟨fl, hcut⟩ := h.cut _ HT0.out
 have HCut : Hid (Calls Tryz.prog 49 #[sA l, .string ⟨#[42]⟩] (w.alloc (o5 0 0 0 0 0)) fun e w' => e = .returned (.tuple #[sA a, sA b, .bool fl]) ∧ Below (w.alloc (o5 0 0 0 0 0)).heap.size (w.alloc (o5 0 0 0 0 0)) w') := hcut
 have H : Hid (Ps l a b c n k x y z u true sv true sv re) := h
 clear h hT hcut
 go_enter Tryz.func50, Tryz.ntmps50
 go_wp2_with fail
 generalize w.alloc (o5 0 0 0 0 0) = w0 at *
 obtain ⟨A, hA⟩ : ∃ A, A = w.heap.size := ⟨_, rfl⟩
 have HA : Hid (Bk A z5 w0) := by show Bk _ _ _; rw [hA]; exact HA0.out
 simp only [← hA]
 have hwA : w.heap.size ≤ A := by omega
 clear hA HA0
 refine HCut.out.mono ?_
 rintro e w1 ⟨rfl, hb⟩
 have HT1 : Hid (Tall w1) := HT0.out.later hb
 have HA1 : Hid (Bk A z5 w1) := HA.out.later hb
 have HB1 : Hid (Below w.heap.size w w1) := HB0.out.trans (hb.mono HB0.out.size)
 clear hb HCut HT0 HA HB0
 go_wp2_with fail
 refine (H.out.body _ HT1.out).mono ?_
 rintro e w2 ⟨rfl, hb⟩
 have HT2 : Hid (Tall (w2.alloc (o5 k x y z u))) := (HT1.out.later hb).later ((brf).alloc (Nat.le_refl _) _)
 have HA2 : Hid (Bk A z5 (w2.alloc (o5 k x y z u))) := (HA1.out.later hb).later ((brf).alloc (Nat.le_refl _) _)
 have HB2 : Hid (Below w.heap.size w (w2.alloc (o5 k x y z u))) := (HB1.out.trans (hb.mono HB1.out.size)).alloc (Nat.le_trans HB1.out.size hb.size) _
 have HC2 : Hid (Bk w2.heap.size (c5 k x y z u) (w2.alloc (o5 k x y z u))) := Bk.new w2 (c5 k x y z u) 49 _ rfl
 have hCA : A < w2.heap.size := Nat.lt_of_lt_of_le HA1.out.1 hb.size
 clear hb HT1 HA1 HB1
 go_wp2_with fail
 generalize w2.alloc (o5 k x y z u) = w3 at *
 obtain ⟨C, hC⟩ : ∃ C, C = w2.heap.size := ⟨_, rfl⟩
 rw [← hC] at HC2
 simp only [← hC]
 have hAC : A ≠ C := by omega
 clear hC hCA
 refine (H.out.sum _ HT2.out).mono ?_
 rintro e w4 ⟨rfl, hb⟩
 have HT4 : Hid (Tall w4) := HT2.out.later hb
 have HA4 : Hid (Bk A z5 w4) := HA2.out.later hb
 have HC4 : Hid (Bk C (c5 k x y z u) w4) := HC2.out.later hb
 have HB4 : Hid (Below w.heap.size w w4) := HB2.out.trans (hb.mono HB2.out.size)
 clear hb HT2 HA2 HC2 HB2
 go_wp2_with fail
 refine (H.out.add _).mono ?_
 rintro e w5 ⟨rfl, hw⟩
 subst hw
 have d0 := HC4.out.c 0 rfl
 have d1 := HC4.out.c 1 rfl
 have d2 := HC4.out.c 2 rfl
 have d3 := HC4.out.c 3 rfl
 have d4 := HC4.out.c 4 rfl
 go_wp2_with fail
 refine (H.out.ref _ HT4.out).mono ?_
 rintro e w6 ⟨rfl, hb⟩
 have HA6 : Hid (Bk A z5 w6) := HA4.out.later hb
 have HC6 : Hid (Bk C (c5 k x y z u) w6) := HC4.out.later hb
 have HB6 : Hid (Below w.heap.size w w6) := HB4.out.trans (hb.mono HB4.out.size)
 clear hb HA4 HC4 HB4 HT4
 clear d0 d1 d2 d3 d4
 have a0 := HA6.out.c 0 rfl
 have g0 := HA6.out.f 0 rfl
 have a1 := HA6.out.c 1 rfl
 have g1 := HA6.out.f 1 rfl
 have a2 := HA6.out.c 2 rfl
 have g2 := HA6.out.f 2 rfl
 have a3 := HA6.out.c 3 rfl
 have g3 := HA6.out.f 3 rfl
 have a4 := HA6.out.c 4 rfl
 have g4 := HA6.out.f 4 rfl
 have HFB : Hid (Below w.heap.size w (((((w6.setCell ⟨A, 0, none⟩ (.int .i64 0)).setCell ⟨A, 1, none⟩ (.int .i64 0)).setCell ⟨A, 2, none⟩ (.int .i64 0)).setCell ⟨A, 3, none⟩ (.int .i64 0)).setCell ⟨A, 4, none⟩ (.int .i64 0))) := ((((HB6.out.setCell hwA _).setCell hwA _).setCell hwA _).setCell hwA _).setCell hwA _
 have HFH : Hid (Bk A (c5 0 0 0 0 0) (((((w6.setCell ⟨A, 0, none⟩ (.int .i64 0)).setCell ⟨A, 1, none⟩ (.int .i64 0)).setCell ⟨A, 2, none⟩ (.int .i64 0)).setCell ⟨A, 3, none⟩ (.int .i64 0)).setCell ⟨A, 4, none⟩ (.int .i64 0))) := ((((HA6.out.put 0 _).put 1 _).put 2 _).put 3 _).put 4 _
 go_wp2
 clear a0 g0 a1 g1 a2 g2 a3 g3 a4 g4
 generalize (((((w6.setCell ⟨A, 0, none⟩ (.int .i64 0)).setCell ⟨A, 1, none⟩ (.int .i64 0)).setCell ⟨A, 2, none⟩ (.int .i64 0)).setCell ⟨A, 3, none⟩ (.int .i64 0)).setCell ⟨A, 4, none⟩ (.int .i64 0)) = w9 at *
 have r0 := HFH.out.c 0 rfl
 have r1 := HFH.out.c 1 rfl
 have r2 := HFH.out.c 2 rfl
 have r3 := HFH.out.c 3 rfl
 have r4 := HFH.out.c 4 rfl
 exact bodyPost_ret (v := pv 0 0 0 0 0 0 re) (by simp [results, Tryz.results50, go_sem, r0, r1, r2, r3, r4]) rfl ⟨rfl, HFB.out⟩
theorem parse_told {l a b c : List UInt8} {n k x y z u : Int} {ok : Bool} {sv : Int} {sok : Bool} {sm re : Int} (h : Ps l a b c n k x y z u ok sv sok sm re) (hk : ok = true) (hs : sok = true) (hm : sv = sm) (hr : re = 0) (w : World) (hT : Tall w) : Calls Tryz.prog 50 #[sA l] w fun e w' => e = .returned (pv n k x y z u 0) ∧ Below w.heap.size w w' := by
 subst hk hs hm hr
 have HA0 : Hid (Bk w.heap.size z5 (w.alloc (o5 0 0 0 0 0))) := Bk.new w z5 49 _ rfl
 have HB0 : Hid (Below w.heap.size w (w.alloc (o5 0 0 0 0 0))) := (brf).alloc (Nat.le_refl _) _
 have HT0 : Hid (Tall (w.alloc (o5 0 0 0 0 0))) := hT.later HB0.out
 obtain ⟨fl, hcut⟩ := h.cut _ HT0.out
 have HCut : Hid (Calls Tryz.prog 49 #[sA l, .string ⟨#[42]⟩] (w.alloc (o5 0 0 0 0 0)) fun e w' => e = .returned (.tuple #[sA a, sA b, .bool fl]) ∧ Below (w.alloc (o5 0 0 0 0 0)).heap.size (w.alloc (o5 0 0 0 0 0)) w') := hcut
 have H : Hid (Ps l a b c n k x y z u true sv true sv 0) := h
 clear h hT hcut
 go_enter Tryz.func50, Tryz.ntmps50
 go_wp2_with fail
 generalize w.alloc (o5 0 0 0 0 0) = w0 at *
 obtain ⟨A, hA⟩ : ∃ A, A = w.heap.size := ⟨_, rfl⟩
 have HA : Hid (Bk A z5 w0) := by show Bk _ _ _; rw [hA]; exact HA0.out
 simp only [← hA]
 have hwA : w.heap.size ≤ A := by omega
 clear hA HA0
 refine HCut.out.mono ?_
 rintro e w1 ⟨rfl, hb⟩
 have HT1 : Hid (Tall w1) := HT0.out.later hb
 have HA1 : Hid (Bk A z5 w1) := HA.out.later hb
 have HB1 : Hid (Below w.heap.size w w1) := HB0.out.trans (hb.mono HB0.out.size)
 clear hb HCut HT0 HA HB0
 go_wp2_with fail
 refine (H.out.body _ HT1.out).mono ?_
 rintro e w2 ⟨rfl, hb⟩
 have HT2 : Hid (Tall (w2.alloc (o5 k x y z u))) := (HT1.out.later hb).later ((brf).alloc (Nat.le_refl _) _)
 have HA2 : Hid (Bk A z5 (w2.alloc (o5 k x y z u))) := (HA1.out.later hb).later ((brf).alloc (Nat.le_refl _) _)
 have HB2 : Hid (Below w.heap.size w (w2.alloc (o5 k x y z u))) := (HB1.out.trans (hb.mono HB1.out.size)).alloc (Nat.le_trans HB1.out.size hb.size) _
 have HC2 : Hid (Bk w2.heap.size (c5 k x y z u) (w2.alloc (o5 k x y z u))) := Bk.new w2 (c5 k x y z u) 49 _ rfl
 have hCA : A < w2.heap.size := Nat.lt_of_lt_of_le HA1.out.1 hb.size
 clear hb HT1 HA1 HB1
 go_wp2_with fail
 generalize w2.alloc (o5 k x y z u) = w3 at *
 obtain ⟨C, hC⟩ : ∃ C, C = w2.heap.size := ⟨_, rfl⟩
 rw [← hC] at HC2
 simp only [← hC]
 have hAC : A ≠ C := by omega
 clear hC hCA
 refine (H.out.sum _ HT2.out).mono ?_
 rintro e w4 ⟨rfl, hb⟩
 have HT4 : Hid (Tall w4) := HT2.out.later hb
 have HA4 : Hid (Bk A z5 w4) := HA2.out.later hb
 have HC4 : Hid (Bk C (c5 k x y z u) w4) := HC2.out.later hb
 have HB4 : Hid (Below w.heap.size w w4) := HB2.out.trans (hb.mono HB2.out.size)
 clear hb HT2 HA2 HC2 HB2
 go_wp2_with fail
 refine (H.out.add _).mono ?_
 rintro e w5 ⟨rfl, hw⟩
 subst hw
 have d0 := HC4.out.c 0 rfl
 have d1 := HC4.out.c 1 rfl
 have d2 := HC4.out.c 2 rfl
 have d3 := HC4.out.c 3 rfl
 have d4 := HC4.out.c 4 rfl
 go_wp2_with fail
 refine (H.out.ref _ HT4.out).mono ?_
 rintro e w6 ⟨rfl, hb⟩
 have HA6 : Hid (Bk A z5 w6) := HA4.out.later hb
 have HC6 : Hid (Bk C (c5 k x y z u) w6) := HC4.out.later hb
 have HB6 : Hid (Below w.heap.size w w6) := HB4.out.trans (hb.mono HB4.out.size)
 clear hb HA4 HC4 HB4 HT4
 clear d0 d1 d2 d3 d4
 go_wp2_with fail
 have a0 := HA6.out.c 0 rfl
 have g0 := HA6.out.f 0 rfl
 have a1 := HA6.out.c 1 rfl
 have g1 := HA6.out.f 1 rfl
 have a2 := HA6.out.c 2 rfl
 have g2 := HA6.out.f 2 rfl
 have a3 := HA6.out.c 3 rfl
 have g3 := HA6.out.f 3 rfl
 have a4 := HA6.out.c 4 rfl
 have g4 := HA6.out.f 4 rfl
 have d0 := HC6.out.c 0 rfl
 have d1 := HC6.out.c 1 rfl
 have d2 := HC6.out.c 2 rfl
 have d3 := HC6.out.c 3 rfl
 have d4 := HC6.out.c 4 rfl
 have HFB : Hid (Below w.heap.size w (((((w6.setCell ⟨A, 0, none⟩ (.int .i64 k)).setCell ⟨A, 1, none⟩ (.int .i64 x)).setCell ⟨A, 2, none⟩ (.int .i64 y)).setCell ⟨A, 3, none⟩ (.int .i64 z)).setCell ⟨A, 4, none⟩ (.int .i64 u))) := ((((HB6.out.setCell hwA _).setCell hwA _).setCell hwA _).setCell hwA _).setCell hwA _
 have HFH : Hid (Bk A (c5 k x y z u) (((((w6.setCell ⟨A, 0, none⟩ (.int .i64 k)).setCell ⟨A, 1, none⟩ (.int .i64 x)).setCell ⟨A, 2, none⟩ (.int .i64 y)).setCell ⟨A, 3, none⟩ (.int .i64 z)).setCell ⟨A, 4, none⟩ (.int .i64 u))) := ((((HA6.out.put 0 _).put 1 _).put 2 _).put 3 _).put 4 _
 go_region
 go_wp2
 clear a0 g0 a1 g1 a2 g2 a3 g3 a4 g4
 clear d0 d1 d2 d3 d4
 generalize (((((w6.setCell ⟨A, 0, none⟩ (.int .i64 k)).setCell ⟨A, 1, none⟩ (.int .i64 x)).setCell ⟨A, 2, none⟩ (.int .i64 y)).setCell ⟨A, 3, none⟩ (.int .i64 z)).setCell ⟨A, 4, none⟩ (.int .i64 u)) = w8 at *
 have HFB2 : Hid (Below w.heap.size w w8.drew) := HFB.out.drew
 have HFH2 : Hid (Bk A (c5 k x y z u) w8.drew) := HFH.out.later ((brf).drew)
 generalize w8.drew = w9 at *
 have r0 := HFH2.out.c 0 rfl
 have r1 := HFH2.out.c 1 rfl
 have r2 := HFH2.out.c 2 rfl
 have r3 := HFH2.out.c 3 rfl
 have r4 := HFH2.out.c 4 rfl
 exact bodyPost_ret (v := pv n k x y z u 0) (by simp [results, Tryz.results50, go_sem, r0, r1, r2, r3, r4]) rfl ⟨rfl, HFB2.out⟩
theorem ps_of (l : List UInt8) (hl : l.length < 4294967281) : Ps l (pA l) (pB l) [] (bN (pA l)) (bK (pA l)) (bX (pA l) 0) (bX (pA l) 1) (bX (pA l) 2) (bX (pA l) 3) (bOk (pA l)) (sV (pB l)) (sOk (pB l)) (sumL (pA l)) (refuC (bN (pA l)) (bK (pA l)) (bX (pA l) 0) (bX (pA l) 1) (bX (pA l) 2) (bX (pA l) 3)) := by
 have hp : (pA l).length ≤ l.length ∧ (pB l).length ≤ l.length := by
  unfold pA pB
  rcases cut_parts (c := 42) l with ⟨_, hc⟩ | ⟨a, r, hl, _, hc⟩
  ·rw [hc]; simp
  ·rw [hc, hl]; simp; omega
 refine ⟨fun W h => ⟨(Lib.cut l [42]).2.2, cutB l [42] W hl h⟩, fun W h => readBody_any (pA l) W (by omega) h, fun W h => readSum_any (pB l) W (by omega) h, fun W => ?_, fun W h => refusal_any _ _ _ _ _ _ W h.tabs.words⟩
 exact sumOf_any ⟨(pA l).toArray⟩ W (by simp [ByteArray.size]; omega)
def ifz (e a : Int) : Int := if e = 0 then a else 0
theorem parse_any (l : List UInt8) (w : World) (hl : l.length < 4294967281) (hT : Tall w) : Calls Tryz.prog 50 #[sA l] w fun e w' => e = .returned (pv (ifz (parE l) (bN (pA l))) (ifz (parE l) (bK (pA l))) (ifz (parE l) (bX (pA l) 0)) (ifz (parE l) (bX (pA l) 1)) (ifz (parE l) (bX (pA l) 2)) (ifz (parE l) (bX (pA l) 3)) (parE l)) ∧ Below w.heap.size w w' := by
 have h := ps_of l hl
 have hE : parE l = if (bOk (pA l) && sOk (pB l)) = false then 1 else if sV (pB l) ≠ sumL (pA l) then 14 else refuC (bN (pA l)) (bK (pA l)) (bX (pA l) 0) (bX (pA l) 1) (bX (pA l) 2) (bX (pA l) 3) := rfl
 generalize parE l = e at *
 generalize refuC (bN (pA l)) (bK (pA l)) (bX (pA l) 0) (bX (pA l) 1) (bX (pA l) 2) (bX (pA l) 3) = re at *
 have hz : e ≠ 0 → ∀ a, ifz e a = 0 := fun hr a => by unfold ifz; rw [if_neg hr]
 have ho : e = 0 → ∀ a, ifz e a = a := fun hr a => by unfold ifz; rw [if_pos hr]
 cases hb : bOk (pA l) with
 | false =>
  rw [hb] at hE h
  have e1 : e = 1 := by simpa using hE
  simp only [hz (by omega)]
  rw [e1]
  exact parse_nobody h rfl w hT
 | true =>
  cases hs : sOk (pB l) with
  | false =>
   rw [hb, hs] at hE h
   have e1 : e = 1 := by simpa using hE
   simp only [hz (by omega)]
   rw [e1]
   exact parse_nosum h rfl rfl w hT
  | true =>
   rw [hb, hs, if_neg (by simp)] at hE
   rw [hb, hs] at h
   by_cases hm : sV (pB l) = sumL (pA l)
   ·rw [if_neg (fun q => q hm)] at hE
    by_cases hr : e = 0
    ·simp only [ho hr]
     rw [hr]
     exact parse_told h rfl rfl hm (hE.symm.trans hr) w hT
    ·simp only [hz hr]
     rw [hE]
     exact parse_refused h rfl rfl hm (fun q => hr (hE.trans q)) w hT
   ·rw [if_pos hm] at hE
    simp only [hz (by omega)]
    rw [hE]
    exact parse_othersum h rfl rfl hm w hT
end Go.Proofs.YtcajifelbldjnaaGreatDoor.C
namespace Go.Proofs
open Go.Shelf
def Tryz.lays169_ren : Go.Shelf.Ren := ⟨fun | 169 => 47 | n => n, fun | 70 => 110 | 9 => 9 | 0 => 0 | 72 => 113 | 37 => 111 | 127 => 172 | 3 => 3 | 5 => 5 | n => n, fun | n => n⟩
theorem Tryz.lays169 : Go.Proofs.Lays.n169 Tryz.prog Tryz.lays169_ren := {
 mixed := by kernel_rfl
 f169 := Tryz.func47.trans (congrArg some (by kernel_rfl))
 t0 := Tryz.underlying0
 a0 := Tryz.isAgg0
 z0 := Tryz.sizeOf0
 v0 := Tryz.zeroValue0
 t3 := Tryz.underlying3
 a3 := Tryz.isAgg3
 z3 := Tryz.sizeOf3
 v3 := Tryz.zeroValue3
 t9 := Tryz.underlying9
 a9 := Tryz.isAgg9
 z9 := Tryz.sizeOf9
 v9 := Tryz.zeroValue9
 t37 := Tryz.underlying111
 a37 := Tryz.isAgg111
 z37 := Tryz.sizeOf111
 v37 := Tryz.zeroValue111
 t70 := Tryz.underlying110
 a70 := Tryz.isAgg110
 z70 := Tryz.sizeOf110
 v70 := Tryz.zeroValue110
 t72 := Tryz.underlying113
 a72 := Tryz.isAgg113
 z72 := Tryz.sizeOf113
 v72 := Tryz.zeroValue113
 t127 := Tryz.underlying172
 a127 := Tryz.isAgg172
 z127 := Tryz.sizeOf172
 v127 := Tryz.zeroValue172 }
theorem Tryz.Builder_Extra_169 : Builder.Extra Tryz.prog Tryz.lays169_ren := {
 sizeBuilder := by kernel_rfl
 liesBuilder := by kernel_rfl
 t5 := Tryz.underlying5
 a5 := Tryz.isAgg5
 z5 := Tryz.sizeOf5
 v5 := Tryz.zeroValue5
 infoByte := by kernel_rfl
 cellsByte := by kernel_rfl
 sizeByte := by kernel_rfl
 neB5 := by decide }
open Go.RowKit in
theorem Tryz.Builder_String_any (B b : Nat) (l : List UInt8) (w : World) (h : Lib.IsBuilder 113 5 B b (Lib.byteCells l) w) (hBw : B ≤ w.heap.size) :
  Calls Tryz.prog 47 #[.pointer (some ⟨b, 0, none⟩)] w fun e w' => e = .returned (.string ⟨l.toArray⟩) ∧ Below B w w' := Any.Builder_String_any Tryz.lays169 Tryz.Builder_Extra_169 B b l w h hBw
def Tryz.lays166_ren : Go.Shelf.Ren := ⟨fun | 166 => 46 | 240 => 98 | 276 => 155 | n => n, fun | 37 => 111 | 70 => 110 | 72 => 113 | 75 => 106 | 164 => 249 | 76 => 115 | 127 => 172 | 80 => 117 | n => n, fun | n => n⟩
theorem Tryz.lays166 : Go.Proofs.Lays.n166 Tryz.prog Tryz.lays166_ren := {
 mixed := by kernel_rfl
 f166 := Tryz.func46.trans (congrArg some (by kernel_rfl))
 f240 := Tryz.func98.trans (congrArg some (by kernel_rfl))
 f276 := Tryz.func155.trans (congrArg some (by kernel_rfl))
 t0 := Tryz.underlying0
 a0 := Tryz.isAgg0
 z0 := Tryz.sizeOf0
 v0 := Tryz.zeroValue0
 t3 := Tryz.underlying3
 a3 := Tryz.isAgg3
 z3 := Tryz.sizeOf3
 v3 := Tryz.zeroValue3
 t4 := Tryz.underlying4
 a4 := Tryz.isAgg4
 z4 := Tryz.sizeOf4
 v4 := Tryz.zeroValue4
 t9 := Tryz.underlying9
 a9 := Tryz.isAgg9
 z9 := Tryz.sizeOf9
 v9 := Tryz.zeroValue9
 t20 := Tryz.underlying20
 a20 := Tryz.isAgg20
 z20 := Tryz.sizeOf20
 v20 := Tryz.zeroValue20
 t37 := Tryz.underlying111
 a37 := Tryz.isAgg111
 z37 := Tryz.sizeOf111
 v37 := Tryz.zeroValue111
 t70 := Tryz.underlying110
 a70 := Tryz.isAgg110
 z70 := Tryz.sizeOf110
 v70 := Tryz.zeroValue110
 t72 := Tryz.underlying113
 a72 := Tryz.isAgg113
 z72 := Tryz.sizeOf113
 v72 := Tryz.zeroValue113
 t75 := Tryz.underlying106
 a75 := Tryz.isAgg106
 z75 := Tryz.sizeOf106
 v75 := Tryz.zeroValue106
 t164 := Tryz.underlying249
 a164 := Tryz.isAgg249
 z164 := Tryz.sizeOf249
 v164 := Tryz.zeroValue249 }
theorem Tryz.Builder_Extra_166 : Builder.Extra Tryz.prog Tryz.lays166_ren := {
 sizeBuilder := by kernel_rfl
 liesBuilder := by kernel_rfl
 t5 := Tryz.underlying5
 a5 := Tryz.isAgg5
 z5 := Tryz.sizeOf5
 v5 := Tryz.zeroValue5
 infoByte := by kernel_rfl
 cellsByte := by kernel_rfl
 sizeByte := by kernel_rfl
 neB5 := by decide }
end Go.Proofs
namespace Go.Proofs.YtcajifelbldjnaaGreatDoor.C
open Go.RowKit Go.Shelf
def Bl (w : World) (B b : Nat) (a : List UInt8) : Prop := Lib.IsBuilder 113 5 B b (Lib.byteCells a) w
theorem Bl.new (w : World) (B : Nat) (hB : B ≤ w.heap.size) : Bl (w.alloc (.cells #[.pointer none, .slice none 0 0] 113)) B w.heap.size [] :=
 .inl ⟨hB, .slice none 0 0, by show (w.heap.push _)[w.heap.size]? = _; simp, World.ownsRow_nil _ _ _ _, by simp [Value.ownBlock]⟩
theorem owns_later {w w' : World} {base e k n : Nat} {v : Value} {cs : List Value} (h : w.ownsRow base e k v n cs) (hb : Below w.heap.size w w') : w'.ownsRow base e k v n cs := by
 refine ⟨h.1, h.2.elim .inl fun ⟨g, cap, cur, h1, h2, h3, h4⟩ => .inr ⟨g, cap, cur, h1, h2, ?_, h4⟩⟩
 rw [hb.block g (Array.getElem?_eq_some_iff.1 h3).1]; exact h3
theorem bAt_later {T e B b : Nat} {p : Value} {bs : List Value} {w w' : World} (h : Lib.BuilderAt T e B b p bs w) (hb : Below w.heap.size w w') : Lib.BuilderAt T e B b p bs w' := by
 obtain ⟨h1, v, h2, h3, h4⟩ := h
 exact ⟨h1, v, by rw [hb.block b (Array.getElem?_eq_some_iff.1 h2).1]; exact h2, owns_later h3 hb, h4⟩
theorem Bl.later {w w' : World} {B b : Nat} {a : List UInt8} (h : Bl w B b a) (hb : Below w.heap.size w w') : Bl w' B b a :=
 h.elim (fun h => .inl (bAt_later h hb)) (fun h => .inr (bAt_later h hb))
theorem Bl.size {w : World} {B b : Nat} {a : List UInt8} (h : Bl w B b a) : B ≤ b ∧ b < w.heap.size := by
 rcases h with ⟨h1, v, h2, _⟩ | ⟨h1, v, h2, _⟩ <;> exact ⟨h1, (Array.getElem?_eq_some_iff.1 h2).1⟩
theorem write_any (B b : Nat) (a x : List UInt8) (w : World) (h : Bl w B b a) (hl : a.length + x.length ≤ 140737488355328) : Calls Tryz.prog 46 #[ptr b, sA x] w fun e w' => ∃ n : Int, e = .returned (.tuple #[.int .i64 n, .nilIface]) ∧ Bl w' B b (a ++ x) ∧ Below B w w' := by
 refine (Any.Builder_WriteString Tryz.lays166 Tryz.Builder_Extra_166 B b (Lib.byteCells a) ⟨x.toArray⟩ w h (by rw [Lib.byteCells_length]; simpa [ByteArray.size] using hl) (by have := h.size; omega)).mono ?_
 rintro e w' ⟨he, h1, h2⟩
 refine ⟨_, he, .inr ?_, h2⟩
 rw [Lib.byteCells_append]
 exact h1
theorem string_any (B b : Nat) (a : List UInt8) (w : World) (h : Bl w B b a) : Calls Tryz.prog 47 #[ptr b] w fun e w' => e = .returned (sA a) ∧ Below B w w' :=
 Tryz.Builder_String_any B b a w h (by have := h.size; omega)
theorem suffix_feed (a : List UInt8) : Lib.hasSuffix (a ++ [10]) [10] = true := by
 unfold Lib.hasSuffix
 rw [List.isSuffixOf_iff_suffix]
 exact List.suffix_append _ _
theorem countB (l : List UInt8) (w : World) : Calls Tryz.prog 99 #[sA l, .string ⟨#[10]⟩] w fun e w' => e = .returned (.int .i64 (Lib.countByte l 10)) ∧ w' = w := Tryz.strings_Count_one ⟨l.toArray⟩ 10 w
theorem suffixB (l : List UInt8) (w : World) (h : l.length ≤ 9223372036854775807) : Calls Tryz.prog 100 #[sA l, .string ⟨#[10]⟩] w fun e w' => e = .returned (.bool (Lib.hasSuffix l [10])) ∧ w' = w := Tryz.strings_HasSuffix ⟨l.toArray⟩ ⟨#[10]⟩ w (by simpa [ByteArray.size] using h)
theorem parse_line {n : Int} {k : Nat} {x y z u : Int} (h : refuC n k x y z u = 0) (W : World) (hW : Tall W) : Calls Tryz.prog 50 #[sA (lineL n k x y z u)] W fun e w' => e = .returned (pv n k x y z u 0) ∧ Below W.heap.size W w' := by
 obtain ⟨a, b, c, d, e, f, g, hE⟩ := parse_back h
 have hl := line_len (k := k) (refu_fit h).1
 have := parse_any (lineL n k x y z u) W (by omega) hW
 rw [hE, a, b, c, d, e, f, g] at this
 exact this
end Go.Proofs.YtcajifelbldjnaaGreatDoor.C
namespace Go.Proofs.YtcajifelbldjnaaGreatDoor
open Go.RowKit
theorem chk_same (k x y z v : Int) : K.chkC k x y z v = C.chkC k x y z v := by
 unfold K.chkC C.chkC
 rfl
def lnD (n : Int) (c : Cd) : List UInt8 := C.lineL n c.k.toNat c.x c.y c.z c.v
def progL : Int → List Cd → List UInt8
 | _, [] => []
 | n, c :: r => lnD n c ++ 10 :: progL (n + 1) r
theorem prog_snoc : ∀ (l : List Cd) (n : Int) (c : Cd), progL n (l ++ [c]) = progL n l ++ (lnD (n + (l.length : Int)) c ++ [10])
 | [], n, c => by simp [progL]
 | a :: r, n, c => by
  rw [List.cons_append]
  simp only [progL]
  rw [prog_snoc r (n + 1) c, show n + 1 + (r.length : Int) = n + ((a :: r).length : Int) by simp; omega]
  simp
theorem prog_take {cs : List Cd} {k : Nat} (hk : k < cs.length) : progL 1 (cs.take (k + 1)) = (progL 1 (cs.take k) ++ lnD ((k : Int) + 1) (cs[k]'hk)) ++ [10] := by
 rw [List.take_succ_eq_append_getElem hk, prog_snoc, List.length_take, Nat.min_eq_left (by omega), show (1 : Int) + (k : Int) = (k : Int) + 1 by omega, List.append_assoc]
theorem prog_drop {cs : List Cd} {k : Nat} (hk : k < cs.length) : progL ((k : Int) + 1) (cs.drop k) = lnD ((k : Int) + 1) (cs[k]'hk) ++ 10 :: progL (((k + 1 : Nat) : Int) + 1) (cs.drop (k + 1)) := by
 rw [List.drop_eq_getElem_cons hk]
 simp only [progL]
 rw [show (((k + 1 : Nat) : Int) + 1) = (k : Int) + 1 + 1 by omega]
theorem refu_of {n : Int} {c : Cd} (h0 : 0 ≤ n) (h1 : n ≤ 100000) (h : chkD c = 0) : C.refuC n (c.k.toNat : Nat) c.x c.y c.z c.v = 0 := by
 have hk := (chkD_in h).1
 unfold C.refuC
 rw [if_neg (by omega), ← chk_same, show ((c.k.toNat : Nat) : Int) = c.k by omega]
 exact h
theorem ln_len {n : Int} {c : Cd} (h0 : 0 ≤ n) (h1 : n ≤ 100000) (h : chkD c = 0) : (lnD n c).length ≤ 100 := C.line_len (C.refu_fit (refu_of h0 h1 h)).1
theorem prog_len : ∀ {cs : List Cd} {n : Int}, 0 ≤ n → n + (cs.length : Int) ≤ 100001 → (∀ c ∈ cs, chkD c = 0) → (progL n cs).length ≤ 101 * cs.length
 | [], _, _, _, _ => Nat.le_refl _
 | c :: r, n, h0, h1, h => by
  rw [List.length_cons] at h1
  have e1 := ln_len h0 (by omega) (h c (List.mem_cons_self ..))
  have e2 := prog_len (cs := r) (n := n + 1) (by omega) (by omega) (fun x hx => h x (List.mem_cons_of_mem _ hx))
  simp only [progL, List.length_append, List.length_cons]
  omega
theorem prog_small {cs : List Cd} {k : Nat} (h1 : cs.length ≤ 100000) (h : ∀ c ∈ cs, chkD c = 0) : (progL 1 (cs.take k)).length ≤ 10100000 := by
 have := prog_len (cs := cs.take k) (n := 1) (by decide) (by rw [List.length_take]; omega) (fun c hc => h c (List.mem_of_mem_take hc))
 rw [List.length_take] at this
 omega
theorem prog_rest {cs : List Cd} {k : Nat} (h1 : cs.length ≤ 100000) (h : ∀ c ∈ cs, chkD c = 0) (hk : k ≤ cs.length) : (progL ((k : Int) + 1) (cs.drop k)).length ≤ 10100000 := by
 have := prog_len (cs := cs.drop k) (n := (k : Int) + 1) (by omega) (by rw [List.length_drop]; omega) (fun c hc => h c (List.mem_of_mem_drop hc))
 rw [List.length_drop] at this
 omega
theorem count_prog : ∀ (cs : List Cd) (n : Int), Lib.countByte (progL n cs) 10 = cs.length
 | [], _ => rfl
 | c :: r, n => by
  have ih := count_prog r (n + 1)
  unfold Lib.countByte at ih ⊢
  simp only [progL]
  rw [List.count_append, List.count_cons_self, show List.count 10 (lnD n c) = 0 from List.count_eq_zero.2 (C.feed_line n _ _ _ _ _), List.length_cons]
  omega
theorem prog_suffix {cs : List Cd} (h : cs ≠ []) (n : Int) : ∃ a, progL n cs = a ++ [10] := by
 obtain ⟨l, c, rfl⟩ : ∃ l c, cs = l ++ [c] := ⟨cs.dropLast, cs.getLast h, (List.dropLast_concat_getLast h).symm⟩
 exact ⟨progL n l ++ lnD (n + (l.length : Int)) c, by rw [prog_snoc, List.append_assoc]⟩
theorem prog_ne {cs : List Cd} (h : cs ≠ []) (n : Int) : progL n cs ≠ [] := by
 obtain ⟨a, e⟩ := prog_suffix h n
 rw [e]
 simp
end Go.Proofs.YtcajifelbldjnaaGreatDoor
namespace Go.Proofs.YtcajifelbldjnaaGreatDoor.C
open Go.RowKit Go.Shelf
abbrev d5 (c : Cd) : Obj := .cells #[.int .i64 c.k, .int .i64 c.x, .int .i64 c.y, .int .i64 c.z, .int .i64 c.v] 49
theorem print_cd {n : Int} {c : Cd} (h0 : 0 ≤ n) (h1 : n ≤ 100000) (h : chkD c = 0) (W : World) (hT : Tabs W) :
  Calls Tryz.prog 45 #[.int .i64 n, .agg #[.int .i64 c.k, .int .i64 c.x, .int .i64 c.y, .int .i64 c.z, .int .i64 c.v]] W fun e w' => e = .returned (.tuple #[sA (lnD n c), .int .i64 0]) ∧ Below W.heap.size W w' := by
 have hr := refu_of h0 h1 h
 have hk := (chkD_in h).1
 rw [show ((c.k.toNat : Nat) : Int) = c.k by omega] at hr
 have := print_any n c.k c.x c.y c.z c.v W hT
 rw [show prL n c.k c.x c.y c.z c.v = lnD n c from if_pos hr, hr] at this
 exact this
theorem program_any (ao : Option Addr) (cap : Nat) (cs : List Cd) (w : World) (hR : RdR encK w ao cs) (hl : cs.length ≤ 100000) (hc : ∀ c ∈ cs, chkD c = 0) (hT : Tall w) :
  Calls Tryz.prog 20 #[.slice ao cs.length cap] w fun e w' => e = .returned (.tuple #[sA (progL 1 cs), .int .i64 0]) ∧ Below w.heap.size w w' := by
 have HR : Hid (RdR encK w ao cs) := hR
 have HC : Hid (∀ c ∈ cs, chkD c = 0) := hc
 have HT : Hid (Tall w) := hT
 have HL : Hid (cs.length ≤ 100000) := hl
 obtain ⟨w0, hw0⟩ : ∃ w0, w0 = w.alloc (.cells #[.pointer none, .slice none 0 0] 113) := ⟨_, rfl⟩
 obtain ⟨Z, hZ⟩ : ∃ Z, Z = w.heap.size := ⟨_, rfl⟩
 have HB0 : Hid (Below w.heap.size w w0) := by show Below _ _ _; rw [hw0]; exact (brf).alloc (Nat.le_refl _) _
 have HBl0 : Hid (Bl w0 w.heap.size Z []) := by show Bl _ _ _ _; rw [hw0, hZ]; exact Bl.new w _ (Nat.le_refl _)
 have HW0 : Hid (w0 = _) := hw0
 have HZ : Hid (Z = w.heap.size) := hZ
 clear hR hc hT hw0 hZ
 go_enter Tryz.func20, Tryz.ntmps20
 go_wp2_with fail
 rw [← HW0.out, ← HZ.out]
 go_loopw [14] (fun i wr => ∃ k : Nat, k ≤ cs.length ∧ i = .int .i64 (k : Int) ∧ Bl wr w.heap.size Z (progL 1 (cs.take k)) ∧ Below w.heap.size w wr) (fun i _ => cs.length - (intOf i).toNat)
 case atStart => exact ⟨0, Nat.zero_le _, rfl, HBl0.out, HB0.out⟩
 case round =>
  obtain ⟨k, hk, rfl, hbl, hb⟩ := hrel
  have HBL : Hid (Bl wr w.heap.size Z (progL 1 (cs.take k))) := hbl
  have HBR : Hid (Below w.heap.size w wr) := hb
  have hl := HL.out
  clear hbl hb HB0 HBl0 HW0
  by_cases hlt : k < cs.length
  ·obtain ⟨g, off, rfl, hg, e0, e1, e2, e3, e4⟩ := rdK5 (HR.out.next goodK HBR.out) hlt
   have hck := HC.out _ (List.getElem_mem hlt)
   have HPT : Hid (progL 1 (cs.take (k + 1)) = (progL 1 (cs.take k) ++ lnD ((k : Int) + 1) (cs[k]'hlt)) ++ [10]) := prog_take hlt
   have HLL : Hid ((lnD ((k : Int) + 1) (cs[k]'hlt)).length ≤ 100) := ln_len (by omega) (by omega) hck
   have HPR : Hid (∀ W, Tabs W → Calls Tryz.prog 45 #[.int .i64 ((k : Int) + 1), .agg #[.int .i64 (cs[k]'hlt).k, .int .i64 (cs[k]'hlt).x, .int .i64 (cs[k]'hlt).y, .int .i64 (cs[k]'hlt).z, .int .i64 (cs[k]'hlt).v]] W fun e w' => e = .returned (.tuple #[sA (lnD ((k : Int) + 1) (cs[k]'hlt)), .int .i64 0]) ∧ Below W.heap.size W w') := fun W h => print_cd (by omega) (by omega) hck W h
   have HSM : Hid ((progL 1 (cs.take k)).length ≤ 10100000) := prog_small hl HC.out
   clear hck hg
   generalize cs[k]'hlt = c at *
   generalize lnD ((k : Int) + 1) c = L at *
   generalize hP : progL 1 (cs.take k) = P at *
   clear hP
   have hki : (k : Int) < (cs.length : Int) := by omega
   obtain ⟨w1, hw1⟩ : ∃ x, x = wr.alloc (d5 c) := ⟨_, rfl⟩
   have HB1 : Hid (Below wr.heap.size wr w1) := by show Below _ _ _; rw [hw1]; exact (brf).alloc (Nat.le_refl _) _
   have HW1 : Hid (w1 = _) := hw1
   clear hw1
   go_wp2_with fail
   rw [← HW1.out]
   refine Calls.mono (HPR.out w1 ((HT.out.later (HBR.out.trans (HB1.out.mono HBR.out.size))).tabs)) ?_
   rintro e w2 ⟨rfl, hb2⟩
   have HBL2 : Hid (Bl w2 w.heap.size Z P) := (HBL.out.later HB1.out).later hb2
   have HB2 : Hid (Below w.heap.size w w2) := (HBR.out.trans (HB1.out.mono HBR.out.size)).trans (hb2.mono (Nat.le_trans HBR.out.size HB1.out.size))
   clear hb2 e0 e1 e2 e3 e4 HW1 HBL HBR HB1 HPR
   go_wp2_with fail
   refine (write_any w.heap.size Z P L _ HBL2.out (by have := HLL.out; have := HSM.out; omega)).mono ?_
   rintro e w3 ⟨m3, rfl, hbl3, hb3⟩
   have HBL3 : Hid (Bl w3 w.heap.size Z (P ++ L)) := hbl3
   have HB3 : Hid (Below w.heap.size w w3) := HB2.out.trans hb3
   clear hbl3 hb3 HBL2 HB2
   go_wp2_with fail
   refine (write_any w.heap.size Z (P ++ L) [10] _ HBL3.out (by have := HLL.out; have := HSM.out; simp; omega)).mono ?_
   rintro e w4 ⟨m4, rfl, hbl4, hb4⟩
   have HBL4 : Hid (Bl w4 w.heap.size Z ((P ++ L) ++ [10])) := hbl4
   have HB4 : Hid (Below w.heap.size w w4) := HB3.out.trans hb4
   clear hbl4 hb4 HBL3 HB3
   go_wp2
   go_roundw
   case rel => exact ⟨k + 1, by omega, by go_num, by rw [HPT.out]; exact HBL4.out, HB4.out⟩
   case measure => simp [intOf]; omega
  ·have HE : Hid (cs.take k = cs) := List.take_of_length_le (by omega)
   go_wp2_with fail
   refine (string_any w.heap.size Z _ _ HBL.out).mono ?_
   rintro e w9 ⟨rfl, hb⟩
   rw [HE.out]
   go_wp2
   go_ret2
   exact ⟨rfl, HBR.out.trans hb⟩
theorem program_big (ao : Option Addr) (cap n : Nat) (w : World) (h : 100000 < n) :
  Calls Tryz.prog 20 #[.slice ao n cap] w fun e w' => e = .returned (.tuple #[sA [], .int .i64 8]) ∧ Below w.heap.size w w' := by
 have h1 : (100000 : Int) < (n : Int) := by omega
 go_enter Tryz.func20, Tryz.ntmps20
 go_wp2
 go_ret2
 exact ⟨rfl, brf⟩
theorem countLines_T (T : List UInt8) (m : Nat) (w : World) (hne : T ≠ []) (hm : Lib.countByte T 10 = m) (hs : ∃ a, T = a ++ [10]) (hl : T.length ≤ 100000000) : Calls Tryz.prog 48 #[sA T] w fun e w' => e = .returned (.int .i64 (m : Int)) ∧ w' = w := by
 have HC : Hid (∀ W, Calls Tryz.prog 99 #[sA T, .string ⟨#[10]⟩] W fun e w' => e = .returned (.int .i64 (m : Int)) ∧ w' = W) := fun W => by
  have h := countB T W
  rw [hm] at h
  exact h
 have HS : Hid (∀ W, Calls Tryz.prog 100 #[sA T, .string ⟨#[10]⟩] W fun e w' => e = .returned (.bool true) ∧ w' = W) := fun W => by
  obtain ⟨a, e⟩ := hs
  have h := suffixB T W (by omega)
  rw [e, suffix_feed] at h
  rw [e]
  exact h
 have p1 : (([] : List UInt8) == T) = false := by rw [beq_eq_false_iff_ne]; exact fun h => hne h.symm
 have p2 : (T == []) = false := by rw [beq_eq_false_iff_ne]; exact hne
 have p3 : T.isEmpty = false := by simpa using hne
 clear hne hm hs hl
 go_enter Tryz.func48, Tryz.ntmps48
 go_wp2_with fail
 refine (HC.out _).mono ?_
 rintro e w1 ⟨rfl, hw⟩
 subst hw
 go_wp2_with fail
 refine (HS.out _).mono ?_
 rintro e w2 ⟨rfl, hw⟩
 subst hw
 go_wp2
 go_ret
 exact ⟨rfl, rfl⟩
theorem parse_cd {n : Int} {c : Cd} (h0 : 0 ≤ n) (h1 : n ≤ 100000) (h : chkD c = 0) (W : World) (hT : Tall W) :
  Calls Tryz.prog 50 #[sA (lnD n c)] W fun e w' => e = .returned (.tuple #[.int .i64 n, .agg #[.int .i64 c.k, .int .i64 c.x, .int .i64 c.y, .int .i64 c.z, .int .i64 c.v], .int .i64 0]) ∧ Below W.heap.size W w' := by
 have hr := refu_of h0 h1 h
 have hk := (chkD_in h).1
 have := parse_line hr W hT
 rw [show ((c.k.toNat : Nat) : Int) = c.k by omega] at this
 exact this
theorem read_any (cs : List Cd) (w : World) (hne : cs ≠ []) (hl : cs.length ≤ 100000) (hc : ∀ c ∈ cs, chkD c = 0) (hT : Tall w) :
  Calls Tryz.prog 21 #[sA (progL 1 cs)] w fun e w' => ∃ ao n cap, e = .returned (.tuple #[.slice ao n cap, .int .i64 0, .int .i64 0]) ∧ OwnR encK w' w.heap.size (.slice ao n cap) cs ∧ Below w.heap.size w w' := by
 have HCn : Hid (∀ W, Calls Tryz.prog 48 #[sA (progL 1 cs)] W fun e w' => e = .returned (.int .i64 (cs.length : Int)) ∧ w' = W) := fun W => countLines_T _ _ W (prog_ne hne 1) (count_prog cs 1) (prog_suffix hne 1) (by have := prog_small (k := cs.length) hl hc; rw [List.take_length] at this; omega)
 have HC : Hid (∀ c ∈ cs, chkD c = 0) := hc
 have HT : Hid (Tall w) := hT
 have HL : Hid (cs.length ≤ 100000) := hl
 have HP0 : Hid (progL (((0 : Nat) : Int) + 1) (cs.drop 0) = progL 1 cs) := rfl
 have HD0 : Hid (sA (progL 1 cs) = sA (progL (((0 : Nat) : Int) + 1) (cs.drop 0))) := rfl
 generalize progL 1 cs = T at *
 clear hne hc hT
 go_enter Tryz.func21, Tryz.ntmps21
 go_wp2_with fail
 refine (HCn.out _).mono ?_
 rintro e w0 ⟨rfl, hw⟩
 subst hw
 go_wp2_with fail
 go_loopw [0, 6, 19] (fun t v i wr => ∃ (k : Nat) (ao : Option Addr) (n cap : Nat), k ≤ cs.length ∧ i = .int .i64 (k : Int) ∧ t = sA (progL ((k : Int) + 1) (cs.drop k)) ∧ v = .slice ao n cap ∧ OwnR encK wr w0.heap.size (.slice ao n cap) (cs.take k) ∧ Below w0.heap.size w0 wr) (fun _ _ i _ => cs.length - (intOf i).toNat)
 case atStart => exact ⟨0, none, 0, 0, Nat.zero_le _, rfl, HD0.out, rfl, OwnR.nil _ _ _, brf⟩
 case round =>
  obtain ⟨k, ao, n, cap, hk, rfl, rfl, rfl, ho, hb⟩ := hrel
  have HO : Hid (OwnR encK wr w0.heap.size (.slice ao n cap) (cs.take k)) := ho
  have HBR : Hid (Below w0.heap.size w0 wr) := hb
  have hl := HL.out
  clear ho hb HP0 HD0 HCn
  by_cases hlt : k < cs.length
  ·have hck := HC.out _ (List.getElem_mem hlt)
   have HTK : Hid (cs.take (k + 1) = cs.take k ++ [cs[k]'hlt]) := List.take_succ_eq_append_getElem hlt
   have HPA : Hid (∀ W, Tall W → Calls Tryz.prog 50 #[sA (lnD ((k : Int) + 1) (cs[k]'hlt))] W fun e w' => e = .returned (.tuple #[.int .i64 ((k : Int) + 1), .agg #[.int .i64 (cs[k]'hlt).k, .int .i64 (cs[k]'hlt).x, .int .i64 (cs[k]'hlt).y, .int .i64 (cs[k]'hlt).z, .int .i64 (cs[k]'hlt).v], .int .i64 0]) ∧ Below W.heap.size W w') := fun W h => parse_cd (by omega) (by omega) hck W h
   have HCU : Hid (∀ W, Tall W → Calls Tryz.prog 49 #[sA (progL ((k : Int) + 1) (cs.drop k)), .string ⟨#[10]⟩] W fun e w' => e = .returned (.tuple #[sA (lnD ((k : Int) + 1) (cs[k]'hlt)), sA (progL (((k + 1 : Nat) : Int) + 1) (cs.drop (k + 1))), .bool true]) ∧ Below W.heap.size W w') := fun W h => by
    have h1 := cutB (progL ((k : Int) + 1) (cs.drop k)) [10] W (by have := prog_rest hl HC.out hk; omega) h
    rw [show Lib.cut (progL ((k : Int) + 1) (cs.drop k)) [10] = (lnD ((k : Int) + 1) (cs[k]'hlt), progL (((k + 1 : Nat) : Int) + 1) (cs.drop (k + 1)), true) by rw [prog_drop hlt]; exact cut_some (feed_line _ _ _ _ _ _)] at h1
    exact h1
   clear hck
   generalize cs[k]'hlt = c at *
   generalize lnD ((k : Int) + 1) c = L at *
   generalize progL ((k : Int) + 1) (cs.drop k) = P at *
   obtain ⟨P2, hP2⟩ : ∃ P2, P2 = progL (((k + 1 : Nat) : Int) + 1) (cs.drop (k + 1)) := ⟨_, rfl⟩
   have HP2 : Hid (P2 = _) := hP2
   rw [← hP2] at HCU
   clear hP2
   have hki : (k : Int) < (cs.length : Int) := by omega
   go_wp2_with fail
   refine (HCU.out _ (HT.out.later HBR.out)).mono ?_
   rintro e w1 ⟨rfl, hb1⟩
   have HB1 : Hid (Below w0.heap.size w0 w1) := HBR.out.trans (hb1.mono HBR.out.size)
   have HO1 : Hid (OwnR encK w1 w0.heap.size (.slice ao n cap) (cs.take k)) := HO.out.later hb1
   clear hb1 HBR HO HCU
   go_wp2_with fail
   refine (HPA.out _ (HT.out.later HB1.out)).mono ?_
   rintro e w2 ⟨rfl, hb2⟩
   have HB2 : Hid (Below w0.heap.size w0 w2) := HB1.out.trans (hb2.mono HB1.out.size)
   have HO2 : Hid (OwnR encK w2 w0.heap.size (.slice ao n cap) (cs.take k)) := HO1.out.later hb2
   have HLN : Hid ((cs.take k).length ≤ 1000000000) := by show _ ≤ _; rw [List.length_take]; omega
   have HBB : Hid (Below w0.heap.size w0 ((w2.alloc (d5 c)).alloc (d5 c))) := (HB2.out.alloc HB2.out.size _).alloc (by have := HB2.out.size; simp; omega) _
   have HZB : Hid (w0.heap.size ≤ ((w2.alloc (d5 c)).alloc (d5 c)).heap.size) := HBB.out.size
   clear hb2 HB1 HO1 HPA
   go_wp2_with (at_builtin; refine wpList_append_row goodK Tryz.underlying24 infoK rfl (by decide) (by decide) _ rfl (.tmp 47) (.tmp 49) rfl w0.heap.size (.slice ao n cap) (cs.take k) rfl ((HO2.out.alloc _).alloc _) (w2.heap.size + 1) c rfl (fun j q hq => (Bk.new (w2.alloc (d5 c)) (cdl c) 49 (w2.heap.size + 1) (by simp)).c j hq) HLN.out HZB.out ?_; intro v5 w5 ho hg hloc)
   obtain ⟨ao5, n5, cap5, rfl⟩ := ho.form
   have HB5 : Hid (Below w0.heap.size w0 w5) := below_row HBB.out ((HO2.out.alloc (d5 c)).alloc (d5 c)) hg HZB.out
   have HO5 : Hid (OwnR encK w5 w0.heap.size (.slice ao5 n5 cap5) (cs.take k ++ [c])) := ho
   clear ho hg hloc HBB HZB HB2 HO2
   go_roundw
   case rel => exact ⟨k + 1, ao5, n5, cap5, by omega, by go_num, by rw [← HP2.out], rfl, by rw [HTK.out]; exact HO5.out, HB5.out⟩
   case measure => simp [intOf]; omega
  ·have HE : Hid (cs.take k = cs) := List.take_of_length_le (by omega)
   go_wp2
   refine bodyPost_ret (v := .tuple #[.slice ao n cap, .int .i64 0, .int .i64 0]) (by simp [results, Tryz.results21, go_sem]) rfl ⟨ao, n, cap, rfl, by have := HO.out; rw [HE.out] at this; exact this, HBR.out⟩
end Go.Proofs.YtcajifelbldjnaaGreatDoor.C
