import Derived.Test.YtcajifelbldjnaaGreatDoorIm
import Derived.OwnWalk
import Derived.Laws.MakeOwn
set_option maxRecDepth 100000
set_option maxHeartbeats 25600000
set_option linter.unusedVariables false
namespace Go.Proofs.YtcajifelbldjnaaGreatDoor.K
open Go.RowKit
attribute [local go_sem] Oper.semAt_some
theorem speedsL_more (r : Rp) (n : Nat) : speedsL r (n + 1) = (speedsL r n).take (n / 2) ++ spA r (n / 2) :: (speedsL r n).drop (n / 2) := by
 refine List.ext_getElem ?_ fun k h1 h2 => ?_
 ·simp only [speedsL_length, List.length_append, List.length_take, List.length_cons, List.length_drop]; omega
 ·rw [speedsL_length] at h1
  rw [speedsL_at]
  by_cases hk : k < n / 2
  ·rw [List.getElem_append_left (by rw [List.length_take, speedsL_length]; omega), List.getElem_take, speedsL_at]
   congr 1
   omega
  ·rw [List.getElem_append_right (by rw [List.length_take, speedsL_length]; omega)]
   have hl : (List.take (n / 2) (speedsL r n)).length = n / 2 := by rw [List.length_take, speedsL_length]; omega
   by_cases hk2 : k = n / 2
   ·subst hk2
    simp only [hl, Nat.sub_self, List.getElem_cons_zero]
    congr 1
    omega
   ·obtain ⟨j, rfl⟩ : ∃ j, k = n / 2 + (j + 1) := ⟨k - n / 2 - 1, by omega⟩
    simp only [hl, Nat.add_sub_cancel_left, List.getElem_cons_succ, List.getElem_drop, speedsL_at]
    congr 1
    omega
theorem totR_more (r : Rp) (n : Nat) : totR r (n + 1) = totR r n + Int.tdiv r.c (spA r (n / 2)) := by
 unfold totR timesL;rw [speedsL_more, List.map_append, List.map_cons, List.sum_append, List.sum_cons]
 have : ((speedsL r n).map fun x => Int.tdiv r.c x).sum = (((speedsL r n).take (n / 2)).map fun x => Int.tdiv r.c x).sum + (((speedsL r n).drop (n / 2)).map fun x => Int.tdiv r.c x).sum := by
  rw [← List.sum_append, ← List.map_append, List.take_append_drop]
 rw [this];omega
theorem totR_bd {r : Rp} (hr : rpOk r = true) {n : Nat} (hn : n ≤ 20000) : 0 ≤ totR r n ∧ totR r n ≤ 2000000000000 := by
 have := sum_bd (timesL_bd hr (speedsL_pos hr hn));rw [timesL_length, speedsL_length] at this;unfold totR;omega
structure Pt where
 x : Int
 y : Int
 z : Int
structure Rg where
 lo : Pt
 hi : Pt
 rp : Rp
 ps : Int
 mo : Int
structure Fm where
 hm : Bool
 pt : Pt
 pl : Int
 tp : Bool
 ht : Int
 tu : Int
 tk : Int
structure Cm where
 k : Int
 x : Int
 y : Int
 z : Int
 v : Int
def p0 : Pt := ⟨0, 0, 0⟩
def f0 : Fm := ⟨false, p0, 0, false, 0, 0, 0⟩
def inS (r : Rg) (p : Pt) : Bool := inR r.lo.x r.hi.x p.x && (inR r.lo.y r.hi.y p.y && inR r.lo.z r.hi.z p.z)
theorem inS_iff {r : Rg} {p : Pt} : inS r p = true ↔ (r.lo.x ≤ p.x ∧ p.x ≤ r.hi.x) ∧ (r.lo.y ≤ p.y ∧ p.y ≤ r.hi.y) ∧ (r.lo.z ≤ p.z ∧ p.z ≤ r.hi.z) := by
 simp only [inS, Bool.and_eq_true, inR_iff]
structure RgOk (r : Rg) : Prop where
 x : -10000000 ≤ r.lo.x ∧ r.lo.x ≤ 0 ∧ 0 ≤ r.hi.x ∧ r.hi.x ≤ 10000000
 y : -10000000 ≤ r.lo.y ∧ r.lo.y ≤ 0 ∧ 0 ≤ r.hi.y ∧ r.hi.y ≤ 10000000
 z : -10000000 ≤ r.lo.z ∧ r.lo.z ≤ 0 ∧ 0 ≤ r.hi.z ∧ r.hi.z ≤ 10000000
 rp : rpOk r.rp = true
 ps : 1 ≤ r.ps ∧ r.ps ≤ 100000
 mo : 1 ≤ r.mo ∧ r.mo ≤ 1000000000
theorem in_zero {r : Rg} (h : RgOk r) : inS r p0 = true := by
 have h1 := h.x; have h2 := h.y; have h3 := h.z;exact inS_iff.2 ⟨⟨h1.2.1, h1.2.2.1⟩, ⟨h2.2.1, h2.2.2.1⟩, ⟨h3.2.1, h3.2.2.1⟩⟩
theorem in_lo {r : Rg} (h : RgOk r) : inS r r.lo = true := by
 have h1 := h.x; have h2 := h.y; have h3 := h.z;exact inS_iff.2 ⟨⟨Int.le_refl _, by omega⟩, ⟨Int.le_refl _, by omega⟩, ⟨Int.le_refl _, by omega⟩⟩
theorem in_hi {r : Rg} (h : RgOk r) : inS r r.hi = true := by
 have h1 := h.x; have h2 := h.y; have h3 := h.z;exact inS_iff.2 ⟨⟨by omega, Int.le_refl _⟩, ⟨by omega, Int.le_refl _⟩, ⟨by omega, Int.le_refl _⟩⟩
def chg (a b : Int) : Int := max (a - b) (b - a)
def gch (p q : Pt) : Int := max (chg p.x q.x) (max (chg p.y q.y) (chg p.z q.z))
def upB (n b : Int) : Int := (n + b - 1) / b
def runT (r : Rp) (n : Nat) : Int := (n / 20000 : Nat) * totR r 20000 + totR r (n % 20000)
def stepsN (r : Rg) (p q : Pt) : Nat := (upB (gch p q) r.ps).toNat
def tick (r : Rg) (p q : Pt) : Int := runT r.rp (stepsN r p q)
theorem totR_zero (r : Rp) : totR r 0 = 0 := rfl
theorem runT_bd {r : Rp} (hr : rpOk r = true) {n : Nat} (h : n ≤ 20000000) : 0 ≤ runT r n ∧ runT r n ≤ 2002000000000000 := by
 have h1 := totR_bd hr (n := 20000) (Nat.le_refl _);have h2 := totR_bd hr (n := n % 20000) (by omega);have h3 : n / 20000 ≤ 1000 := by omega
 have h4 : (0 : Int) ≤ (n / 20000 : Nat) * totR r 20000 := Int.mul_nonneg (by omega) h1.1;have h5 : ((n / 20000 : Nat) : Int) * totR r 20000 ≤ 1000 * 2000000000000 := Int.le_trans (Int.mul_le_mul_of_nonneg_right (show ((n / 20000 : Nat) : Int) ≤ 1000 by omega) h1.1) (by omega);unfold runT;omega
theorem upB_bd {n b : Int} (hn : 0 ≤ n) (hb : 1 ≤ b) : 0 ≤ upB n b ∧ upB n b ≤ n := by
 unfold upB;refine ⟨Int.ediv_nonneg (by omega) (by omega), ?_⟩
 have : (n + b - 1) / b ≤ n := by
  apply Int.le_of_lt_add_one
  apply (Int.ediv_lt_iff_lt_mul (by omega)).2
  have h1 : n * 1 ≤ n * b := Int.mul_le_mul_of_nonneg_left hb hn;rw [Int.add_mul];omega
 exact this
theorem gch_bd {r : Rg} (h : RgOk r) {p q : Pt} (hp : inS r p = true) (hq : inS r q = true) : 0 ≤ gch p q ∧ gch p q ≤ 20000000 := by
 have h1 := h.x; have h2 := h.y; have h3 := h.z;have a := inS_iff.1 hp;have b := inS_iff.1 hq;unfold gch chg;omega
theorem steps_bd {r : Rg} (h : RgOk r) {p q : Pt} (hp : inS r p = true) (hq : inS r q = true) : stepsN r p q ≤ 20000000 ∧ ((stepsN r p q : Nat) : Int) = upB (gch p q) r.ps := by
 have h1 := gch_bd h hp hq;have h2 := upB_bd h1.1 h.ps.1;unfold stepsN;omega
theorem tick_bd {r : Rg} (h : RgOk r) {p q : Pt} (hp : inS r p = true) (hq : inS r q = true) : 0 ≤ tick r p q ∧ tick r p q ≤ 2002000000000000 := runT_bd h.rp (steps_bd h hp hq).1
def toP (c : Cm) : Pt := ⟨c.x, c.y, c.z⟩
def homeT (r : Rg) (f : Fm) : Int := if f.hm then tick r f.pt p0 else tick r r.hi r.lo
def durC (r : Rg) (f : Fm) (c : Cm) : Int :=
 if c.k = 1 then homeT r f else if c.k = 2 then tick r f.pt (toP c) else if c.k = 3 then upB (chg f.pl c.v) 1000 else if c.k = 7 then upB (c.v * r.rp.c) 1000 else 0
def errC (r : Rg) (f : Fm) (c : Cm) : Option Nat :=
 if c.k = 2 then if f.hm = false then some 3 else if inS r (toP c) = false then some 0 else none
 else if c.k = 3 then if f.hm = false then some 3 else if f.tp = false then some 4 else if r.mo < c.v then some 6 else none
 else if c.k = 4 then if f.hm = false then some 3 else if f.tp = true then some 5 else none
 else if c.k = 5 then if f.hm = false then some 3 else if f.tp = false then some 4 else none
 else none
def obE (r : Rg) (f : Fm) (c : Cm) : Option Nat := match errC r f c with
 | some i => some i
 | none => if 1000000000000000 < f.tk + durC r f c then some 7 else none
def obF (r : Rg) (f : Fm) (c : Cm) : Fm :=
 if c.k = 1 then { f with hm := true, pt := p0, tk := f.tk + durC r f c }
 else if c.k = 2 then { f with pt := toP c, tk := f.tk + durC r f c }
 else if c.k = 3 then { f with pl := c.v, tk := f.tk + durC r f c }
 else if c.k = 4 then { f with tp := true, pl := 0 }
 else if c.k = 5 then { f with tp := false, pl := 0 }
 else if c.k = 6 then { f with ht := c.v }
 else if c.k = 7 then { f with tk := f.tk + durC r f c }
 else if c.k = 8 then { f with tu := c.v }
 else f
def numE : Option Nat → Int
 | none => 0
 | some 0 => 13
 | some 1 => 2
 | some 2 => 17
 | some 3 => 15
 | some 4 => 12
 | some 5 => 12
 | some 6 => 9
 | some _ => 8
def chkM (c : Cm) : Int := chkC c.k c.x c.y c.z c.v
def doN (r : Rg) (f : Fm) (c : Cm) : Int := if chkM c = 0 then numE (obE r f c) else chkM c
def doF (r : Rg) (f : Fm) (c : Cm) : Fm := if doN r f c = 0 then obF r f c else f
end Go.Proofs.YtcajifelbldjnaaGreatDoor.K
