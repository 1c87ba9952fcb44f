/- Rigs and states of the machine, plainly: what may be, how long a move takes, what a command does. No Go in sight. -/
import Derived.Test.YtgahlhfgpkklaaaDoorRMH
import Derived.Test.YtgahlhfgpkklaaaDoorCCH
namespace Go.Proofs.YtgahlhfgpkklaaaDoor
open Go.RowKit

/-- A point. -/
structure Pt where
  x : Int
  y : Int
  z : Int
/-- A rig: where it may go, its ramp, how far a step is, the plunger's greatest value. -/
structure Rg where
  lo : Pt
  hi : Pt
  rp : Rp
  ps : Int
  mo : Int
/-- A state: homed, where, the plunger, the tip, heat, turns, ticks. -/
structure Fm where
  hm : Bool
  pt : Pt
  pl : Int
  tp : Bool
  ht : Int
  tu : Int
  tk : Int
/-- A command. -/
structure Cm where
  k : Int
  x : Int
  y : Int
  z : Int
  v : Int
def p0 : Pt := ⟨0, 0, 0⟩
def f0 : Fm := ⟨false, p0, 0, false, 0, 0, 0⟩
theorem Pt.ext' {p q : Pt} (h1 : p.x = q.x) (h2 : p.y = q.y) (h3 : p.z = q.z) : p = q := by cases p; cases q; simp_all
/-- Are two points one? -/
def ptE (p q : Pt) : Bool := decide (p.x = q.x) && (decide (p.y = q.y) && decide (p.z = q.z))
theorem ptE_iff {p q : Pt} : ptE p q = true ↔ p = q := by
  constructor
  · intro h
    simp only [ptE, Bool.and_eq_true, decide_eq_true_eq] at h
    exact Pt.ext' h.1 h.2.1 h.2.2
  · rintro rfl
    simp [ptE]
/-- Is a point within a rig? -/
def inS (r : Rg) (p : Pt) : Bool := inR r.lo.x r.hi.x p.x && (inR r.lo.y r.hi.y p.y && inR r.lo.z r.hi.z p.z)
theorem inS_iff {r : Rg} {p : Pt} : inS r p = true ↔ (r.lo.x ≤ p.x ∧ p.x ≤ r.hi.x) ∧ (r.lo.y ≤ p.y ∧ p.y ≤ r.hi.y) ∧ (r.lo.z ≤ p.z ∧ p.z ≤ r.hi.z) := by
  simp only [inS, Bool.and_eq_true, inR_iff]
/-- Two numbers of the rig's ends. -/
def endB (l h : Int) : Bool := inR (-10000000) 0 l && inR 0 10000000 h
def endsB (r : Rg) : Bool := endB r.lo.x r.hi.x && (endB r.lo.y r.hi.y && endB r.lo.z r.hi.z)
/-- May there be such a rig? -/
def rgOk (r : Rg) : Bool := endsB r && (rpOk r.rp && (inR 1 100000 r.ps && inR 1 1000000000 r.mo))
theorem endB_iff {l h : Int} : endB l h = true ↔ -10000000 ≤ l ∧ l ≤ 0 ∧ 0 ≤ h ∧ h ≤ 10000000 := by
  simp only [endB, Bool.and_eq_true, inR_iff]; omega
structure RgOk (r : Rg) : Prop where
  x : -10000000 ≤ r.lo.x ∧ r.lo.x ≤ 0 ∧ 0 ≤ r.hi.x ∧ r.hi.x ≤ 10000000
  y : -10000000 ≤ r.lo.y ∧ r.lo.y ≤ 0 ∧ 0 ≤ r.hi.y ∧ r.hi.y ≤ 10000000
  z : -10000000 ≤ r.lo.z ∧ r.lo.z ≤ 0 ∧ 0 ≤ r.hi.z ∧ r.hi.z ≤ 10000000
  rp : rpOk r.rp = true
  ps : 1 ≤ r.ps ∧ r.ps ≤ 100000
  mo : 1 ≤ r.mo ∧ r.mo ≤ 1000000000
theorem rgOk_iff {r : Rg} : rgOk r = true ↔ RgOk r := by
  simp only [rgOk, endsB, Bool.and_eq_true, endB_iff, inR_iff]
  constructor
  · rintro ⟨⟨h1, h2, h3⟩, h4, h5, h6⟩
    exact ⟨h1, h2, h3, h4, h5, h6⟩
  · rintro ⟨h1, h2, h3, h4, h5, h6⟩
    exact ⟨⟨h1, h2, h3⟩, h4, h5, h6⟩
/-- Is it where it may be; are its other numbers in their ranges? -/
def hereB (r : Rg) (f : Fm) : Bool := inS r f.pt && (f.hm || ptE f.pt p0)
def onB (r : Rg) (f : Fm) : Bool := inR 0 r.mo f.pl && (inR 0 1000000000 f.ht && inR 0 1000000000 f.tu)
def fmOk (r : Rg) (f : Fm) : Bool := hereB r f && (onB r f && inR 0 1000000000000000 f.tk)
structure FmOk (r : Rg) (f : Fm) : Prop where
  at' : inS r f.pt = true
  hm : f.hm = true ∨ f.pt = p0
  pl : 0 ≤ f.pl ∧ f.pl ≤ r.mo
  ht : 0 ≤ f.ht ∧ f.ht ≤ 1000000000
  tu : 0 ≤ f.tu ∧ f.tu ≤ 1000000000
  tk : 0 ≤ f.tk ∧ f.tk ≤ 1000000000000000
theorem fmOk_iff {r : Rg} {f : Fm} : fmOk r f = true ↔ FmOk r f := by
  simp only [fmOk, hereB, onB, Bool.and_eq_true, Bool.or_eq_true, inR_iff, ptE_iff]
  constructor
  · rintro ⟨⟨h1, h2⟩, ⟨h3, h4, h5⟩, h6⟩
    exact ⟨h1, h2, h3, h4, h5, h6⟩
  · rintro ⟨h1, h2, h3, h4, h5, h6⟩
    exact ⟨⟨h1, h2⟩, ⟨h3, h4, h5⟩, h6⟩
theorem in_zero {r : Rg} (h : RgOk r) : inS r p0 = true := by
  have h1 := h.x; have h2 := h.y; have h3 := h.z
  exact inS_iff.2 ⟨⟨h1.2.1, h1.2.2.1⟩, ⟨h2.2.1, h2.2.2.1⟩, ⟨h3.2.1, h3.2.2.1⟩⟩
theorem in_lo {r : Rg} (h : RgOk r) : inS r r.lo = true := by
  have h1 := h.x; have h2 := h.y; have h3 := h.z
  exact inS_iff.2 ⟨⟨Int.le_refl _, by omega⟩, ⟨Int.le_refl _, by omega⟩, ⟨Int.le_refl _, by omega⟩⟩
theorem in_hi {r : Rg} (h : RgOk r) : inS r r.hi = true := by
  have h1 := h.x; have h2 := h.y; have h3 := h.z
  exact inS_iff.2 ⟨⟨by omega, Int.le_refl _⟩, ⟨by omega, Int.le_refl _⟩, ⟨by omega, Int.le_refl _⟩⟩
theorem f0_ok {r : Rg} (h : RgOk r) : FmOk r f0 := ⟨in_zero h, .inr rfl, ⟨Int.le_refl _, by have := h.mo; show (0 : Int) ≤ r.mo; omega⟩, by decide, by decide, by decide⟩
/-- A change of a number; the greatest one of three. -/
def chg (a b : Int) : Int := max (a - b) (b - a)
def gch (p q : Pt) : Int := max (chg p.x q.x) (max (chg p.y q.y) (chg p.z q.z))
/-- By a number, rounded up. -/
def upB (n b : Int) : Int := (n + b - 1) / b
/-- Ticks of so many steps, in runs. -/
def runT (r : Rp) (n : Nat) : Int := (n / 20000 : Nat) * totR r 20000 + totR r (n % 20000)
def stepsN (r : Rg) (p q : Pt) : Nat := (upB (gch p q) r.ps).toNat
def tick (r : Rg) (p q : Pt) : Int := runT r.rp (stepsN r p q)
theorem chg_sym (a b : Int) : chg a b = chg b a := by unfold chg; omega
theorem gch_sym (p q : Pt) : gch p q = gch q p := by unfold gch; rw [chg_sym p.x, chg_sym p.y, chg_sym p.z]
theorem tick_sym (r : Rg) (p q : Pt) : tick r p q = tick r q p := by unfold tick stepsN; rw [gch_sym]
theorem totR_zero (r : Rp) : totR r 0 = 0 := rfl
theorem runT_zero (r : Rp) : runT r 0 = 0 := by unfold runT; simp [totR_zero]
theorem runT_less {r : Rp} {n : Nat} (h : n ≤ 20000) : runT r n = totR r n := by
  unfold runT
  by_cases e : n = 20000
  · subst e; simp [totR_zero]
  · rw [Nat.div_eq_of_lt (by omega), Nat.mod_eq_of_lt (by omega)]; simp
theorem runT_more {r : Rp} {n : Nat} (h : 20000 ≤ n) : runT r n = totR r 20000 + runT r (n - 20000) := by
  unfold runT
  rw [Nat.mod_eq_sub_mod h, show n / 20000 = (n - 20000) / 20000 + 1 by omega, Int.natCast_add, Int.add_mul]
  omega
theorem runT_step {r : Rp} {n : Nat} : runT r n = totR r (min n 20000) + runT r (n - 20000) := by
  by_cases h : 20000 ≤ n
  · rw [Nat.min_eq_right h, runT_more h]
  · rw [Nat.min_eq_left (by omega), runT_less (by omega), show n - 20000 = 0 by omega, runT_zero]; omega
theorem runT_bd {r : Rp} (hr : rpOk r = true) {n : Nat} (h : n ≤ 20000000) : 0 ≤ runT r n ∧ runT r n ≤ 2002000000000000 := by
  have h1 := totR_bd hr (n := 20000) (Nat.le_refl _)
  have h2 := totR_bd hr (n := n % 20000) (by omega)
  have h3 : n / 20000 ≤ 1000 := by omega
  have h4 : (0 : Int) ≤ (n / 20000 : Nat) * totR r 20000 := Int.mul_nonneg (by omega) h1.1
  have h5 : ((n / 20000 : Nat) : Int) * totR r 20000 ≤ 1000 * 2000000000000 := Int.le_trans (Int.mul_le_mul_of_nonneg_right (show ((n / 20000 : Nat) : Int) ≤ 1000 by omega) h1.1) (by omega)
  unfold runT
  omega
theorem runT_pos {r : Rp} (hr : rpOk r = true) {n : Nat} (h : 0 < n) : 1 ≤ runT r n := by
  have h1 := totR_bd hr (n := 20000) (Nat.le_refl _)
  have h2 := totR_bd hr (n := n % 20000) (by omega)
  have h4 : (0 : Int) ≤ (n / 20000 : Nat) * totR r 20000 := Int.mul_nonneg (by omega) h1.1
  unfold runT
  by_cases e : n % 20000 = 0
  · have h6 := tot_pos hr (n := 20000) (Nat.le_refl _) (by omega)
    have h7 : (1 : Int) * totR r 20000 ≤ (n / 20000 : Nat) * totR r 20000 := Int.mul_le_mul_of_nonneg_right (by omega) h1.1
    omega
  · have h6 := tot_pos hr (n := n % 20000) (by omega) (by omega)
    omega
theorem upB_bd {n b : Int} (hn : 0 ≤ n) (hb : 1 ≤ b) : 0 ≤ upB n b ∧ upB n b ≤ n := by
  unfold upB
  refine ⟨Int.ediv_nonneg (by omega) (by omega), ?_⟩
  have : (n + b - 1) / b ≤ n := by
    apply Int.le_of_lt_add_one
    apply (Int.ediv_lt_iff_lt_mul (by omega)).2
    have h1 : n * 1 ≤ n * b := Int.mul_le_mul_of_nonneg_left hb hn
    rw [Int.add_mul]
    omega
  exact this
theorem upB_zero {n b : Int} (hn : 0 ≤ n) (hb : 1 ≤ b) : upB n b = 0 ↔ n = 0 := by
  unfold upB
  constructor
  · intro h
    have h1 : n + b - 1 < 1 * b := (Int.ediv_lt_iff_lt_mul (by omega : 0 < b)).1 (by omega)
    omega
  · rintro rfl
    exact Int.ediv_eq_zero_of_lt (by omega) (by omega)
theorem upB_ref {n b : Int} (hb : 1 ≤ b) : upB n b = if n % b = 0 then n / b else n / b + 1 := by
  unfold upB
  have h0 := Int.emod_nonneg n (by omega : b ≠ 0)
  have h1 := Int.emod_lt_of_pos n (by omega : 0 < b)
  have h2 := Int.mul_ediv_add_emod n b
  split
  · rename_i h
    have e : n + b - 1 = (b - 1) + b * (n / b) := by omega
    rw [e, Int.add_mul_ediv_left _ _ (by omega), Int.ediv_eq_zero_of_lt (by omega) (by omega)]
    omega
  · rename_i h
    have e : n + b - 1 = (n % b - 1) + b * (n / b + 1) := by rw [Int.mul_add]; omega
    rw [e, Int.add_mul_ediv_left _ _ (by omega), Int.ediv_eq_zero_of_lt (by omega) (by omega)]
    omega
theorem gch_bd {r : Rg} (h : RgOk r) {p q : Pt} (hp : inS r p = true) (hq : inS r q = true) : 0 ≤ gch p q ∧ gch p q ≤ 20000000 := by
  have h1 := h.x; have h2 := h.y; have h3 := h.z
  have a := inS_iff.1 hp
  have b := inS_iff.1 hq
  unfold gch chg
  omega
theorem gch_zero {p q : Pt} : gch p q = 0 ↔ p = q := by
  constructor
  · intro h
    unfold gch chg at h
    exact Pt.ext' (by omega) (by omega) (by omega)
  · rintro rfl
    unfold gch chg
    omega
theorem steps_bd {r : Rg} (h : RgOk r) {p q : Pt} (hp : inS r p = true) (hq : inS r q = true) : stepsN r p q ≤ 20000000 ∧ ((stepsN r p q : Nat) : Int) = upB (gch p q) r.ps := by
  have h1 := gch_bd h hp hq
  have h2 := upB_bd h1.1 h.ps.1
  unfold stepsN
  omega
theorem tick_bd {r : Rg} (h : RgOk r) {p q : Pt} (hp : inS r p = true) (hq : inS r q = true) : 0 ≤ tick r p q ∧ tick r p q ≤ 2002000000000000 := runT_bd h.rp (steps_bd h hp hq).1
theorem tick_zero {r : Rg} (h : RgOk r) {p q : Pt} (hp : inS r p = true) (hq : inS r q = true) : tick r p q = 0 ↔ p = q := by
  have h1 := gch_bd h hp hq
  have h2 := steps_bd h hp hq
  rw [← gch_zero, ← upB_zero h1.1 h.ps.1, ← h2.2]
  unfold tick
  constructor
  · intro e
    by_cases hz : stepsN r p q = 0
    · omega
    · have := runT_pos h.rp (n := stepsN r p q) (by omega)
      omega
  · intro e
    rw [show stepsN r p q = 0 by omega, runT_zero]

/-- Where a command goes. -/
def toP (c : Cm) : Pt := ⟨c.x, c.y, c.z⟩
/-- Ticks of Home. -/
def homeT (r : Rg) (f : Fm) : Int := if f.hm then tick r f.pt p0 else tick r r.hi r.lo
/-- How long a command takes. -/
def durC (r : Rg) (f : Fm) (c : Cm) : Int :=
  if c.k = 1 then homeT r f else if c.k = 2 then tick r f.pt (toP c) else if c.k = 3 then upB (chg f.pl c.v) 1000 else if c.k = 7 then upB (c.v * r.rp.c) 1000 else 0
/-- What stands against a command that has its form, but for its time: the number of the variable. -/
def errC (r : Rg) (f : Fm) (c : Cm) : Option Nat :=
  if c.k = 2 then if f.hm = false then some 3 else if inS r (toP c) = false then some 0 else none
  else if c.k = 3 then if f.hm = false then some 3 else if f.tp = false then some 4 else if r.mo < c.v then some 6 else none
  else if c.k = 4 then if f.hm = false then some 3 else if f.tp = true then some 5 else none
  else if c.k = 5 then if f.hm = false then some 3 else if f.tp = false then some 4 else none
  else none
/-- .. and with it. -/
def obE (r : Rg) (f : Fm) (c : Cm) : Option Nat := match errC r f c with
  | some i => some i
  | none => if 1000000000000000 < f.tk + durC r f c then some 7 else none
/-- What the command makes of the state. -/
def obF (r : Rg) (f : Fm) (c : Cm) : Fm :=
  if c.k = 1 then { f with hm := true, pt := p0, tk := f.tk + durC r f c }
  else if c.k = 2 then { f with pt := toP c, tk := f.tk + durC r f c }
  else if c.k = 3 then { f with pl := c.v, tk := f.tk + durC r f c }
  else if c.k = 4 then { f with tp := true, pl := 0 }
  else if c.k = 5 then { f with tp := false, pl := 0 }
  else if c.k = 6 then { f with ht := c.v }
  else if c.k = 7 then { f with tk := f.tk + durC r f c }
  else if c.k = 8 then { f with tu := c.v }
  else f
/-- The number of an error. -/
def numE : Option Nat → Int
  | none => 0
  | some 0 => 13
  | some 1 => 2
  | some 2 => 17
  | some 3 => 15
  | some 4 => 12
  | some 5 => 12
  | some 6 => 9
  | some _ => 8
def chkM (c : Cm) : Int := chkC c.k c.x c.y c.z c.v
/-- What Do says, and leaves. -/
def doN (r : Rg) (f : Fm) (c : Cm) : Int := if chkM c = 0 then numE (obE r f c) else chkM c
def doF (r : Rg) (f : Fm) (c : Cm) : Fm := if doN r f c = 0 then obF r f c else f
theorem errC_lt {r : Rg} {f : Fm} {c : Cm} {i : Nat} (h : errC r f c = some i) : i < 7 := by
  unfold errC at h
  split at h
  · split at h
    · cases h; decide
    · split at h <;> cases h; decide
  · split at h
    · split at h
      · cases h; decide
      · split at h
        · cases h; decide
        · split at h <;> cases h; decide
    · split at h
      · split at h
        · cases h; decide
        · split at h <;> cases h; decide
      · split at h
        · split at h
          · cases h; decide
          · split at h <;> cases h; decide
        · cases h
theorem obE_lt {r : Rg} {f : Fm} {c : Cm} {i : Nat} (h : obE r f c = some i) : i < 8 := by
  unfold obE at h
  cases e : errC r f c with
  | some j =>
    rw [e] at h
    injection h with h
    have := errC_lt e
    omega
  | none =>
    rw [e] at h
    simp only at h
    split at h
    · injection h with h; omega
    · cases h
theorem numE_zero {o : Option Nat} (ho : ∀ i, o = some i → i < 8) : numE o = 0 ↔ o = none := by
  cases o with
  | none => simp [numE]
  | some i =>
    have := ho i rfl
    match i, this with
    | 0, _ => simp [numE]
    | 1, _ => simp [numE]
    | 2, _ => simp [numE]
    | 3, _ => simp [numE]
    | 4, _ => simp [numE]
    | 5, _ => simp [numE]
    | 6, _ => simp [numE]
    | 7, _ => simp [numE]
end Go.Proofs.YtgahlhfgpkklaaaDoor
