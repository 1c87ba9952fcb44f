import Derived.Test.YtcajifelbldjnaaGreatDoorHn
import Derived.OwnWalk
import Derived.Laws.MakeOwn
import Derived.Test.YtcajifelbldjnaaGreatDoorHg
import Derived.Shelf.Abstract
set_option maxRecDepth 100000
set_option maxHeartbeats 25600000
set_option linter.unusedVariables false
namespace Go.Proofs.YtcajifelbldjnaaGreatDoor.K
open Go.RowKit
theorem refR_ne {r : Rp} {n : Int} (h : refR r n ≠ 0) : refR r n = 2 ∨ refR r n = 7 := by
 unfold refR at h ⊢
 split
 ·split
  ·rename_i h1 h2; rw [if_pos h1, if_pos h2] at h; exact absurd rfl h
  ·exact .inr rfl
 ·exact .inl rfl
theorem refR_range {r : Rp} {n : Int} (hr : rpOk r = false) : refR r n = 2 := by unfold refR; rw [hr]; rfl
theorem total_no (r : Rp) (n : Int) (w : World) (h : refR r n ≠ 0) :
  CR 193 #[rv r, .int .i64 n] w (.tuple #[.int .i64 0, .int .i64 (refR r n)]) := by
 have HF : Hid (∀ W, CR 230 #[rv r, .int .i64 n] W (.int .i64 (refR r n))) := fun W => refusal_any r n W;have HB : Hid (bw w (w.alloc (ro r))) := (brf).alloc (Nat.le_refl _) _;have hc := refR_ne h;clear h;generalize refR r n = e at *
 go_enter Tryz.func193, Tryz.ntmps193
 go_wp2_with fail
 refine Calls.mono (HF.out _) ?_;rintro e w1 ⟨rfl, hb1⟩;have HB1 := hdd (HB.out.trans (hb1.mono HB.out.size));clear hb1
 rcases hc with rfl | rfl
 ·go_wp2
  exact bodyPost_ret (v := .tuple #[.int .i64 0, .int .i64 2]) (by simp [results, Tryz.results193, go_sem]) rfl ⟨rfl, HB1.out⟩
 ·go_wp2
  exact bodyPost_ret (v := .tuple #[.int .i64 0, .int .i64 7]) (by simp [results, Tryz.results193, go_sem]) rfl ⟨rfl, HB1.out⟩
attribute [local go_sem] Oper.semAt_some
theorem speedsL_more (r : Rp) (n : Nat) : speedsL r (n + 1) = (speedsL r n).take (n / 2) ++ spA r (n / 2) :: (speedsL r n).drop (n / 2) := by
 refine List.ext_getElem ?_ fun k h1 h2 => ?_
 ·simp only [speedsL_length, List.length_append, List.length_take, List.length_cons, List.length_drop]; omega
 ·rw [speedsL_length] at h1
  rw [speedsL_at]
  by_cases hk : k < n / 2
  ·rw [List.getElem_append_left (by rw [List.length_take, speedsL_length]; omega), List.getElem_take, speedsL_at]
   congr 1
   omega
  ·rw [List.getElem_append_right (by rw [List.length_take, speedsL_length]; omega)]
   have hl : (List.take (n / 2) (speedsL r n)).length = n / 2 := by rw [List.length_take, speedsL_length]; omega
   by_cases hk2 : k = n / 2
   ·subst hk2
    simp only [hl, Nat.sub_self, List.getElem_cons_zero]
    congr 1
    omega
   ·obtain ⟨j, rfl⟩ : ∃ j, k = n / 2 + (j + 1) := ⟨k - n / 2 - 1, by omega⟩
    simp only [hl, Nat.add_sub_cancel_left, List.getElem_cons_succ, List.getElem_drop, speedsL_at]
    congr 1
    omega
theorem totR_more (r : Rp) (n : Nat) : totR r (n + 1) = totR r n + Int.tdiv r.c (spA r (n / 2)) := by
 unfold totR timesL;rw [speedsL_more, List.map_append, List.map_cons, List.sum_append, List.sum_cons]
 have : ((speedsL r n).map fun x => Int.tdiv r.c x).sum = (((speedsL r n).take (n / 2)).map fun x => Int.tdiv r.c x).sum + (((speedsL r n).drop (n / 2)).map fun x => Int.tdiv r.c x).sum := by
  rw [← List.sum_append, ← List.map_append, List.take_append_drop]
 rw [this];omega
theorem totR_bd {r : Rp} (hr : rpOk r = true) {n : Nat} (hn : n ≤ 20000) : 0 ≤ totR r n ∧ totR r n ≤ 2000000000000 := by
 have := sum_bd (timesL_bd hr (speedsL_pos hr hn));rw [timesL_length, speedsL_length] at this;unfold totR;omega
def firstW : Nat → List UInt8
 | 1 => [71, 50, 56]
 | 2 => [71, 49]
 | 3 => [77, 49]
 | 4 => [77, 50]
 | 5 => [77, 51]
 | 6 => [77, 49, 48, 52]
 | 7 => [71, 52]
 | 8 => [77, 49, 48, 54]
 | _ => []
def letW : Nat → Nat → List UInt8
 | 2, 0 => [88]
 | 2, 1 => [89]
 | 2, 2 => [90]
 | 3, 3 => [83]
 | 6, 3 => [83]
 | 7, 3 => [80]
 | 8, 3 => [83]
 | _, _ => []
def nm (x y z v : Int) : Nat → Int
 | 0 => x
 | 1 => y
 | 2 => z
 | _ => v
def inP (n : Int) : Bool := decide (-10000000 ≤ n) && decide (n ≤ 10000000)
def inRg (x y z v : Int) : Bool := inP x && inP y && inP z && (decide (0 ≤ v) && decide (v ≤ 1000000000))
def usedC (k : Nat) (x y z v : Int) : Bool := (x == 0 || letW k 0 != []) && (y == 0 || letW k 1 != []) && (z == 0 || letW k 2 != []) && (v == 0 || letW k 3 != [])
def chkC (k x y z v : Int) : Int := if k < 1 ∨ 8 < k then 6 else if inRg x y z v = false then 2 else if usedC k.toNat x y z v = false then 1 else 0
theorem inP_iff {n : Int} : inP n = true ↔ -10000000 ≤ n ∧ n ≤ 10000000 := by simp [inP]
theorem inRg_iff {x y z v : Int} : inRg x y z v = true ↔ (-10000000 ≤ x ∧ x ≤ 10000000) ∧ (-10000000 ≤ y ∧ y ≤ 10000000) ∧ (-10000000 ≤ z ∧ z ≤ 10000000) ∧ (0 ≤ v ∧ v ≤ 1000000000) := by
 simp [inRg, inP_iff, and_assoc]
abbrev cm (k x y z v : Int) : Value := .agg #[.int .i64 k, .int .i64 x, .int .i64 y, .int .i64 z, .int .i64 v]
abbrev o5 (k x y z v : Int) : Obj := .cells #[.int .i64 k, .int .i64 x, .int .i64 y, .int .i64 z, .int .i64 v] 49
abbrev c5 (k x y z v : Int) : List Value := [.int .i64 k, .int .i64 x, .int .i64 y, .int .i64 z, .int .i64 v]
abbrev n4 (x y z v : Int) : Value := .agg #[.int .i64 x, .int .i64 y, .int .i64 z, .int .i64 v]
abbrev o4 (x y z v : Int) : Obj := .cells #[.int .i64 x, .int .i64 y, .int .i64 z, .int .i64 v] 230
abbrev sA (l : List UInt8) : Value := .string ⟨l.toArray⟩
abbrev wd (f a b c d : List UInt8) : Value := .agg #[sA f, sA a, sA b, sA c, sA d]
theorem numbers_any (k x y z v : Int) (w : World) : Calls Tryz.prog 139 #[cm k x y z v] w fun e w' => e = .returned (n4 x y z v) ∧ w' = (w.alloc (o5 k x y z v)).alloc (o4 x y z v) := by
 go_enter Tryz.func139, Tryz.ntmps139
 go_wp2;refine bodyPost_ret (v := n4 x y z v) (by simp [results, Tryz.results139, go_sem]) rfl ⟨rfl, rfl⟩
theorem numbersB (k x y z v : Int) (w : World) : CR 139 #[cm k x y z v] w (n4 x y z v) :=
 (numbers_any k x y z v w).mono fun _ _ ⟨he, hw⟩ => ⟨he, by rw [hw]; exact ((brf).alloc (Nat.le_refl _) _).alloc (by simp) _⟩
theorem ix0 (x y z v : Int) (w : World) : (Instr.index 230 (n4 x y z v) (.int .i64 0)).run Tryz.prog w = .ok (.int .i64 x) w := by kernel_rfl
theorem ix1 (x y z v : Int) (w : World) : (Instr.index 230 (n4 x y z v) (.int .i64 1)).run Tryz.prog w = .ok (.int .i64 y) w := by kernel_rfl
theorem ix2 (x y z v : Int) (w : World) : (Instr.index 230 (n4 x y z v) (.int .i64 2)).run Tryz.prog w = .ok (.int .i64 z) w := by kernel_rfl
theorem ix3 (x y z v : Int) (w : World) : (Instr.index 230 (n4 x y z v) (.int .i64 3)).run Tryz.prog w = .ok (.int .i64 v) w := by kernel_rfl
theorem inRg_no {x y z v : Int} (h : ¬ ((-10000000 ≤ x ∧ x ≤ 10000000) ∧ (-10000000 ≤ y ∧ y ≤ 10000000) ∧ (-10000000 ≤ z ∧ z ≤ 10000000) ∧ (0 ≤ v ∧ v ≤ 1000000000))) : inRg x y z v = false := by
 cases e : inRg x y z v with
 | false => rfl
 | true => exact absurd (inRg_iff.1 e) h
theorem isInRange_any (x y z v : Int) (w : World) : CR 138 #[n4 x y z v] w (.bool (inRg x y z v)) := by
 have HB : Hid (bw w (w.alloc (o4 x y z v))) := (brf).alloc (Nat.le_refl _) _
 go_enter Tryz.func138, Tryz.ntmps138
 go_wp2_with fail
 refine wp_loop_rounds 4 ?_;rw [rounds_succ];go_wp2
 ·go_ret
  exact ⟨ret_bool (inRg_no (by omega)).symm, HB.out⟩
 ·rw [rounds_succ]
  go_wp2
  ·go_ret
   exact ⟨ret_bool (inRg_no (by omega)).symm, HB.out⟩
  ·rw [rounds_succ]
   go_wp2
   ·go_ret
    exact ⟨ret_bool (inRg_no (by omega)).symm, HB.out⟩
   ·rw [rounds_succ]
    go_wp2
    ·go_ret
     refine ⟨ret_bool ?_, HB.out⟩
     by_cases hv : v ≤ 1000000000
     ·rw [decide_eq_true hv]; exact (inRg_iff.2 (by omega)).symm
     ·rw [decide_eq_false hv]; exact (inRg_no (by omega)).symm
    ·go_ret
     exact ⟨ret_bool (inRg_no (by omega)).symm, HB.out⟩
   ·go_ret
    exact ⟨ret_bool (inRg_no (by omega)).symm, HB.out⟩
  ·go_ret
   exact ⟨ret_bool (inRg_no (by omega)).symm, HB.out⟩
 ·go_ret
  exact ⟨ret_bool (inRg_no (by omega)).symm, HB.out⟩
def usedL (a b c d : List UInt8) (x y z v : Int) : Bool := (x == 0 || a != []) && (y == 0 || b != []) && (z == 0 || c != []) && (v == 0 || d != [])
theorem usedL_iff {a b c d : List UInt8} {x y z v : Int} : usedL a b c d x y z v = true ↔ (a = [] → x = 0) ∧ (b = [] → y = 0) ∧ (c = [] → z = 0) ∧ (d = [] → v = 0) := by
 have g : ∀ (n : Int) (l : List UInt8), (n = 0 ∨ ¬ l = []) ↔ (l = [] → n = 0) := fun n l => ⟨fun h e => h.elim id fun q => absurd e q, fun h => (Classical.em (l = [])).elim (fun e => .inl (h e)) .inr⟩;simp only [usedL, Bool.and_eq_true, Bool.or_eq_true, beq_iff_eq, bne_iff_ne, ne_eq, g, and_assoc]
theorem usedL_no {a b c d : List UInt8} {x y z v : Int} (h : ¬ ((a = [] → x = 0) ∧ (b = [] → y = 0) ∧ (c = [] → z = 0) ∧ (d = [] → v = 0))) : usedL a b c d x y z v = false := by
 cases e : usedL a b c d x y z v with
 | false => rfl
 | true => exact absurd (usedL_iff.1 e) h
def okN (l : List UInt8) (n : Int) : Prop := l = [] → n = 0
theorem isUsed_any (f a b c d : List UInt8) (x y z v : Int) (w : World) : CR 140 #[wd f a b c d, n4 x y z v] w (.bool (usedL a b c d x y z v)) := by
 have HB : Hid (bw w ((w.alloc (.cells #[sA f, sA a, sA b, sA c, sA d] 235)).alloc (o4 x y z v))) := ((brf).alloc (Nat.le_refl _) _).alloc (by simp) _;have i0 := ix0 x y z v;have i1 := ix1 x y z v;have i2 := ix2 x y z v;have i3 := ix3 x y z v;have HS : Hid (okN a x ∧ okN b y ∧ okN c z ∧ okN d v → usedL a b c d x y z v = true) := usedL_iff.2;have HN : Hid (¬ (okN a x ∧ okN b y ∧ okN c z ∧ okN d v) → usedL a b c d x y z v = false) := usedL_no;generalize usedL a b c d x y z v = U at *
 go_enter Tryz.func140, Tryz.ntmps140
 go_wp2
 go_loop [8] (fun i => ∃ j : Nat, j ≤ 4 ∧ i = .int .i64 j ∧ Hid ((0 < j → okN a x) ∧ (1 < j → okN b y) ∧ (2 < j → okN c z) ∧ (3 < j → okN d v))) (fun i => 4 - (intOf i).toNat)
 case atStart => exact ⟨0, by omega, rfl, (show Hid _ from ⟨by omega, by omega, by omega, by omega⟩)⟩
 case round =>
  obtain ⟨j, hj4, rfl, HG⟩ := hrel
  rcases (show j = 0 ∨ j = 1 ∨ j = 2 ∨ j = 3 ∨ j = 4 by omega) with e | e | e | e | e
  ·subst e
   by_cases hn : x = 0
   ·have HO : Hid (okN a x) := fun _ => hn
    subst hn;go_wp2
    go_round
    case rel => exact ⟨1, by omega, by go_num, (show Hid _ from ⟨fun _ => HO.out, by omega, by omega, by omega⟩)⟩
    case measure => simp [intOf]
   ·have q0 : (x == 0) = false := by simp [hn]
    have q1 : (x != 0) = true := by simp [hn]
    by_cases hl : a = []
    ·have HO : Hid (U = false) := HN.out (fun h => hn (h.1 hl))
     clear hn;subst hl;go_wp2;go_ret;exact ⟨ret_bool HO.out.symm, HB.out⟩
    ·have HO : Hid (okN a x) := fun h => absurd h hl
     have p1 : (([] : List UInt8) == a) = false := by rw [beq_eq_false_iff_ne]; exact fun h => hl h.symm
     have p2 : (a == []) = false := by rw [beq_eq_false_iff_ne]; exact hl
     have p3 : a.isEmpty = false := by simpa using hl
     clear hn hl;go_wp2
     go_round
     case rel => exact ⟨1, by omega, by go_num, (show Hid _ from ⟨fun _ => HO.out, by omega, by omega, by omega⟩)⟩
     case measure => simp [intOf]
  ·subst e
   by_cases hn : y = 0
   ·have HO : Hid (okN b y) := fun _ => hn
    subst hn;go_wp2
    go_round
    case rel => exact ⟨2, by omega, by go_num, (show Hid _ from ⟨fun _ => HG.out.1 (by omega), fun _ => HO.out, by omega, by omega⟩)⟩
    case measure => simp [intOf]
   ·have q0 : (y == 0) = false := by simp [hn]
    have q1 : (y != 0) = true := by simp [hn]
    by_cases hl : b = []
    ·have HO : Hid (U = false) := HN.out (fun h => hn (h.2.1 hl))
     clear hn;subst hl;go_wp2;go_ret;exact ⟨ret_bool HO.out.symm, HB.out⟩
    ·have HO : Hid (okN b y) := fun h => absurd h hl
     have p1 : (([] : List UInt8) == b) = false := by rw [beq_eq_false_iff_ne]; exact fun h => hl h.symm
     have p2 : (b == []) = false := by rw [beq_eq_false_iff_ne]; exact hl
     have p3 : b.isEmpty = false := by simpa using hl
     clear hn hl;go_wp2
     go_round
     case rel => exact ⟨2, by omega, by go_num, (show Hid _ from ⟨fun _ => HG.out.1 (by omega), fun _ => HO.out, by omega, by omega⟩)⟩
     case measure => simp [intOf]
  ·subst e
   by_cases hn : z = 0
   ·have HO : Hid (okN c z) := fun _ => hn
    subst hn;go_wp2
    go_round
    case rel => exact ⟨3, by omega, by go_num, (show Hid _ from ⟨fun _ => HG.out.1 (by omega), fun _ => HG.out.2.1 (by omega), fun _ => HO.out, by omega⟩)⟩
    case measure => simp [intOf]
   ·have q0 : (z == 0) = false := by simp [hn]
    have q1 : (z != 0) = true := by simp [hn]
    by_cases hl : c = []
    ·have HO : Hid (U = false) := HN.out (fun h => hn (h.2.2.1 hl))
     clear hn;subst hl;go_wp2;go_ret;exact ⟨ret_bool HO.out.symm, HB.out⟩
    ·have HO : Hid (okN c z) := fun h => absurd h hl
     have p1 : (([] : List UInt8) == c) = false := by rw [beq_eq_false_iff_ne]; exact fun h => hl h.symm
     have p2 : (c == []) = false := by rw [beq_eq_false_iff_ne]; exact hl
     have p3 : c.isEmpty = false := by simpa using hl
     clear hn hl;go_wp2
     go_round
     case rel => exact ⟨3, by omega, by go_num, (show Hid _ from ⟨fun _ => HG.out.1 (by omega), fun _ => HG.out.2.1 (by omega), fun _ => HO.out, by omega⟩)⟩
     case measure => simp [intOf]
  ·subst e
   by_cases hn : v = 0
   ·have HO : Hid (okN d v) := fun _ => hn
    subst hn;go_wp2
    go_round
    case rel => exact ⟨4, by omega, by go_num, (show Hid _ from ⟨fun _ => HG.out.1 (by omega), fun _ => HG.out.2.1 (by omega), fun _ => HG.out.2.2.1 (by omega), fun _ => HO.out⟩)⟩
    case measure => simp [intOf]
   ·have q0 : (v == 0) = false := by simp [hn]
    have q1 : (v != 0) = true := by simp [hn]
    by_cases hl : d = []
    ·have HO : Hid (U = false) := HN.out (fun h => hn (h.2.2.2 hl))
     clear hn;subst hl;go_wp2;go_ret;exact ⟨ret_bool HO.out.symm, HB.out⟩
    ·have HO : Hid (okN d v) := fun h => absurd h hl
     have p1 : (([] : List UInt8) == d) = false := by rw [beq_eq_false_iff_ne]; exact fun h => hl h.symm
     have p2 : (d == []) = false := by rw [beq_eq_false_iff_ne]; exact hl
     have p3 : d.isEmpty = false := by simpa using hl
     clear hn hl;go_wp2
     go_round
     case rel => exact ⟨4, by omega, by go_num, (show Hid _ from ⟨fun _ => HG.out.1 (by omega), fun _ => HG.out.2.1 (by omega), fun _ => HG.out.2.2.1 (by omega), fun _ => HO.out⟩)⟩
     case measure => simp [intOf]
  ·subst e
   have HO := hdd (HS.out ⟨HG.out.1 (by omega), HG.out.2.1 (by omega), HG.out.2.2.1 (by omega), HG.out.2.2.2 (by omega)⟩);go_wp2;go_ret;exact ⟨ret_bool HO.out.symm, HB.out⟩
structure WT (w : World) : Prop where
 first : ∀ k, k < 9 → w.cell? ⟨8, k * 5, none⟩ = some (sA (firstW k))
 letter : ∀ k i, k < 9 → i < 4 → w.cell? ⟨8, k * 5 + 1 + i, none⟩ = some (sA (letW k i))
theorem WT.later {w w' : World} (h : WT w) (hb : bw w w') : WT w' := ⟨fun k hk => cell_later hb (h.first k hk), fun k i hk hi => cell_later hb (h.letter k i hk hi)⟩
def ckV (k : Nat) (x y z u : Int) (U : Bool) (B : Nat) (d : Nat) (v : Value) (_ : World) : Prop :=
 match d with
 | 18 => v = .pointer (some ⟨B, 0, none⟩)
 | 19 => v = .int .i64 k
 | 20 => v = .pointer (some ⟨8, k * 5, none⟩)
 | 21 => v = .agg #[sA (firstW k), sA (letW k 0), sA (letW k 1), sA (letW k 2), sA (letW k 3)]
 | 22 => v = .agg #[.int .i64 k, .int .i64 x, .int .i64 y, .int .i64 z, .int .i64 u]
 | 23 => v = .agg #[.int .i64 x, .int .i64 y, .int .i64 z, .int .i64 u]
 | 24 => v = .bool U
 | 25 | 17 => v = .bool (!U)
 | _ => True
theorem ckV_mono (k : Nat) (x y z u : Int) (U : Bool) (B : Nat) (d : Nat) (v : Value) (w w' : World) (h : ckV k x y z u U B d v w) (_ : bw w w') : ckV k x y z u U B d v w' := h
theorem check_in (k : Nat) (x y z u : Int) (w : World) (h1 : 1 ≤ k) (h8 : k ≤ 8) (hr : inRg x y z u = true) (hT : WT w) : CR 88 #[cm k x y z u] w (.int .i64 (if usedC k x y z u = true then 0 else 1)) := by
 have HN : Hid (∀ W, CR 139 #[cm k x y z u] W (n4 x y z u)) := fun W => numbersB k x y z u W
 have HI : Hid (∀ W, CR 138 #[n4 x y z u] W (.bool true)) := fun W => by
  have := isInRange_any x y z u W;rwa [hr] at this
 have HU : Hid (∀ W, CR 140 #[wd (firstW k) (letW k 0) (letW k 1) (letW k 2) (letW k 3), n4 x y z u] W (.bool (usedC k x y z u))) := fun W => isUsed_any (firstW k) (letW k 0) (letW k 1) (letW k 2) (letW k 3) x y z u W;have HC0 : Hid (Bk w.heap.size (c5 k x y z u) (w.alloc (o5 k x y z u))) := Bk.new w (c5 k x y z u) 49 _ rfl;have HB0 : Hid (bw w (w.alloc (o5 k x y z u))) := (brf).alloc (Nat.le_refl _) _;have HW0 : Hid (WT (w.alloc (o5 k x y z u))) := hT.later HB0.out;obtain ⟨U, hU⟩ : ∃ U, U = usedC k x y z u := ⟨_, rfl⟩;rw [← hU] at HU;rw [← hU];clear hT hr hU
 go_enter Tryz.func88, Tryz.ntmps88
 go_wp2_with fail
 refine (HN.out _).mono ?_;rintro e w1 ⟨rfl, hb1⟩
 go_wp2_with fail
 refine (HI.out _).mono ?_;rintro e w2 ⟨rfl, hb2⟩;have HB := hdd (HB0.out.trans (Below.mono (hb1.trans (hb2.mono hb1.size)) HB0.out.size));have HC := hdd (HC0.out.later (hb1.trans (hb2.mono hb1.size)));have HW := hdd (HW0.out.later (hb1.trans (hb2.mono hb1.size)));obtain ⟨B, hB⟩ : ∃ B, B = w.heap.size := ⟨_, rfl⟩;rw [← hB] at HC;clear hb1 hb2 HC0 HB0 HW0
 go_wp2_with fail
 simp only [← hB];have hwB : w.heap.size ≤ B := by omega
 clear hB
 refine region_inv [zf,zf,zf,zf,zf,zf,zf,zf,zf,zf,zf,zf,zf,zf,zf,zf,zf,zt,zt,zt,zt,zt,zt,zt,zt,zt]
  [(18, [], none), (19, [18], none), (20, [19], none), (21, [20], none), (22, [], none), (23, [22], none), (24, [21, 23], none), (25, [24], none), (17, [25], none)]
  (ckV k x y z u U B) (by kernel_rfl) (by kernel_rfl) (ckV_mono k x y z u U B) ?_ ?_
 ·refine ⟨?_, ?_, ?_, ?_, ?_, ?_, ?_, ?_, ?_, trivial⟩
  ·intro f w1 hb _ K hK
   simp only [ov, oL];go_simp;exact hK _ _ ⟨_, rfl, by simp only [ov, oL]; rfl, brf⟩
  ·rintro f w1 hb ⟨(h18 : f 18 = _), _⟩ K hK
   have q0 := (HC.out.later hb).c 0 rfl;simp only [ov, oL, h18];go_simp;exact hK _ _ ⟨_, rfl, by simp only [ov, oL, h18]; rfl, brf⟩
  ·rintro f w1 hb ⟨(h19 : f 19 = _), _⟩ K hK
   have k9 : (k : Int) < 9 := by omega
   simp only [ov, oL, h19];go_simp;exact hK _ _ ⟨_, rfl, by simp only [ov, oL, h19]; rfl, brf⟩
  ·rintro f w1 hb ⟨(h20 : f 20 = _), _⟩ K hK
   have hW := HW.out.later hb
   have q0 := hW.first k (by omega)
   have q1 := hW.letter k 0 (by omega) (by decide);have q2 := hW.letter k 1 (by omega) (by decide);have q3 := hW.letter k 2 (by omega) (by decide);have q4 := hW.letter k 3 (by omega) (by decide);simp only [ov, oL, h20];go_simp;exact hK _ _ ⟨_, rfl, by simp only [ov, oL, h20]; rfl, brf⟩
  ·intro f w1 hb _ K hK
   have q0 := (HC.out.later hb).c 0 rfl;have q1 := (HC.out.later hb).c 1 rfl;have q2 := (HC.out.later hb).c 2 rfl;have q3 := (HC.out.later hb).c 3 rfl;have q4 := (HC.out.later hb).c 4 rfl;simp only [ov, oL];go_simp;exact hK _ _ ⟨_, rfl, by simp only [ov, oL]; rfl, brf⟩
  ·rintro f w1 hb ⟨(h22 : f 22 = _), _⟩ K hK
   simp only [ov, oL, h22];go_simp;refine (HN.out _).mono ?_;rintro e w2 ⟨rfl, hb2⟩;exact hK _ _ ⟨_, rfl, by simp only [ov, oL, h22]; rfl, hb2⟩
  ·rintro f w1 hb ⟨(h21 : f 21 = _), (h23 : f 23 = _), _⟩ K hK
   simp only [ov, oL, h21, h23];go_simp;refine (HU.out _).mono ?_;rintro e w2 ⟨rfl, hb2⟩;exact hK _ _ ⟨_, rfl, by simp only [ov, oL, h21, h23]; rfl, hb2⟩
  ·rintro f w1 hb ⟨(h24 : f 24 = _), _⟩ K hK
   simp only [ov, oL, h24];go_simp;exact hK _ _ ⟨_, rfl, by simp only [ov, oL, h24]; rfl, brf⟩
  ·rintro f w1 hb ⟨(h25 : f 25 = _), _⟩ K hK
   simp only [ov, oL, h25];go_simp;exact hK _ _ ⟨_, rfl, by simp only [ov, oL, h25]; rfl, brf⟩
 ·intro f w3 hb3 hv
  have h17 : f 17 = .bool (!U) := hv.2.2.2.2.2.2.2.2.1;have HBF := hdd (HB.out.trans (hb3.mono HB.out.size));simp only [oeq, oL, h17, Nat.reduceAdd];clear hv h17 hb3
  cases U
  all_goals
   go_wp2;go_ret;exact ⟨rfl, HBF.out⟩
theorem check_out (k x y z u : Int) (w : World) (h1 : 1 ≤ k) (h8 : k ≤ 8) (hr : inRg x y z u = false) : CR 88 #[cm k x y z u] w (.int .i64 2) := by
 have HN : Hid (∀ W, CR 139 #[cm k x y z u] W (n4 x y z u)) := fun W => numbersB k x y z u W
 have HI : Hid (∀ W, CR 138 #[n4 x y z u] W (.bool false)) := fun W => by
  have := isInRange_any x y z u W;rwa [hr] at this
 have HB0 : Hid (bw w (w.alloc (o5 k x y z u))) := (brf).alloc (Nat.le_refl _) _;clear hr
 go_enter Tryz.func88, Tryz.ntmps88
 go_wp2_with fail
 refine (HN.out _).mono ?_;rintro e w1 ⟨rfl, hb1⟩
 go_wp2_with fail
 refine (HI.out _).mono ?_;rintro e w2 ⟨rfl, hb2⟩;have HB := hdd (HB0.out.trans (Below.mono (hb1.trans (hb2.mono hb1.size)) HB0.out.size));clear hb1 hb2 HB0;go_wp2;go_ret;exact ⟨rfl, HB.out⟩
theorem check_kind (k x y z u : Int) (w : World) (h : k < 1 ∨ 8 < k) : CR 88 #[cm k x y z u] w (.int .i64 6) := by
 have HB0 : Hid (bw w (w.alloc (o5 k x y z u))) := (brf).alloc (Nat.le_refl _) _
 rcases h with h | h
 ·go_enter Tryz.func88, Tryz.ntmps88
  go_wp2;go_ret;exact ⟨rfl, HB0.out⟩
 ·have h2 : ¬ k < 1 := by omega
  go_enter Tryz.func88, Tryz.ntmps88
  go_wp2;go_ret;exact ⟨rfl, HB0.out⟩
theorem check_any (k x y z u : Int) (w : World) (hT : WT w) : CR 88 #[cm k x y z u] w (.int .i64 (chkC k x y z u)) := by
 unfold chkC
 by_cases h : k < 1 ∨ 8 < k
 ·rw [if_pos h]; exact check_kind k x y z u w h
 ·rw [if_neg h]
  cases hr : inRg x y z u with
  | false => rw [if_pos rfl]; exact check_out k x y z u w (by omega) (by omega) hr
  | true =>
   rw [if_neg (by simp)];obtain ⟨m, rfl⟩ := Int.eq_ofNat_of_zero_le (show 0 ≤ k by omega);have hc := check_in m x y z u w (by omega) (by omega) hr hT;rw [show (m : Int).toNat = m by omega]
   cases hu : usedC m x y z u with
   | false => rw [hu] at hc; exact hc
   | true => rw [hu] at hc; exact hc
end Go.Proofs.YtcajifelbldjnaaGreatDoor.K
