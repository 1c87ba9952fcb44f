import Derived.Test.YtcajifelbldjnaaGreatDoorHo
import Derived.WalkKit
import Derived.LaidEql
import Derived.Stop.Asserts
import Derived.RowKitTokens
import Derived.Laws.StructEq
set_option maxRecDepth 100000
set_option maxHeartbeats 25600000
set_option linter.unusedVariables false
namespace Go.Proofs.YtcajifelbldjnaaGreatDoor.K
open Go.RowKit Go.Extern.Stop Go.Stop Go.Extern
theorem Tryz.isTypeOf (v : Value) (w : World) : (Extern.ReflectliteType.typeOf #[.iface 387 v]).run Tryz.prog w = .ok (.iface 270 (.agg #[.pointer (some ⟨17,387,none⟩)])) w := by kernel_rfl
theorem Tryz.isComparable (w : World) : ((Extern.ReflectliteType.method fun t => do Go.Extern.Rtype.noPackHeld "Comparable" t; Functor.map (fun a => Value.bool a.comparable) (typeInfo t)) #[.agg #[.pointer (some ⟨17,387,none⟩)]]).run Tryz.prog w = .ok (.bool true) w := by kernel_rfl
theorem Tryz.isMethodComparable (v : Value) (w : World) : (Go.method 529 270 v "Comparable").run Tryz.prog w = .ok (349,v) w := by kernel_rfl
theorem Tryz.isComp : (Tryz.prog.info? 387).map (·.comparable) = some true := by kernel_rfl
theorem Tryz.isSize : (Tryz.prog.info? 389).map (·.size) = some 1 := by kernel_rfl
theorem Tryz.noIsE (v : Value) (xT : TypeId) (w : World) : (Instr.typeAssert (.iface 387 v) xT 272 true).run Tryz.prog w = .ok (.tuple #[.nilIface,.bool false]) w := run_typeAssert_lacksB Tryz.underlying272 (by kernel_rfl) (by kernel_rfl) v xT w
theorem Tryz.noUnwrapE (v : Value) (xT : TypeId) (w : World) : (Instr.typeAssert (.iface 387 v) xT 275 true).run Tryz.prog w = .ok (.tuple #[.nilIface,.bool false]) w := run_typeAssert_lacksB Tryz.underlying275 (by kernel_rfl) (by kernel_rfl) v xT w
theorem Tryz.noUnwrapsE (v : Value) (xT : TypeId) (w : World) : (Instr.typeAssert (.iface 387 v) xT 276 true).run Tryz.prog w = .ok (.tuple #[.nilIface,.bool false]) w := run_typeAssert_lacksB Tryz.underlying276 (by kernel_rfl) (by kernel_rfl) v xT w
theorem is_same (a : Addr) (w : World) :
  Calls Tryz.prog 94 #[.iface 387 (.pointer (some a)),.iface 387 (.pointer (some a))] w fun e w' => e = .returned (.bool true) ∧ w' = w := by
 obtain ⟨i,hi,hcmp⟩ := Option.map_eq_some_iff.1 Tryz.isComp;obtain ⟨j,hj,hjs⟩ := Option.map_eq_some_iff.1 Tryz.isSize;have h8 := @run_callFunc_extern Tryz.prog 145 _ Extern.ReflectliteType.typeOf Tryz.func145 (by kernel_rfl) (by kernel_rfl) (by kernel_rfl) (by kernel_rfl)
 have h32 := @run_callFunc_extern Tryz.prog 349 _ (Extern.ReflectliteType.method fun t => do Go.Extern.Rtype.noPackHeld "Comparable" t; pure (.bool (← typeInfo t).comparable)) Tryz.func349 (by kernel_rfl) (by kernel_rfl) (by kernel_rfl) (by kernel_rfl)
 have tT := Tryz.isTypeOf;have cT := Tryz.isComparable;have mR := Tryz.isMethodComparable;have heq := run_eql_iface_ptr_same (P := Tryz.prog) w a Tryz.underlying106 Tryz.underlying387 hi hcmp hj
 go_enter Tryz.func94,Tryz.ntmps94
 go_wp2;refine wp_loop_rounds 1 ?_;rw [rounds_succ];go_wp2;go_ret;exact ⟨rfl,rfl⟩
theorem is_nil (b : Addr) (w : World) :
  Calls Tryz.prog 94 #[.nilIface,.iface 387 (.pointer (some b))] w fun e w' => e = .returned (.bool false) ∧ w' = w := by
 have hn := run_eql_iface_nil_left (P := Tryz.prog) w 387 (.pointer (some b)) Tryz.underlying106
 go_enter Tryz.func94,Tryz.ntmps94
 go_wp2;go_ret;exact ⟨rfl,rfl⟩
theorem is_other (a b : Addr) (ca cb : Array Value) (ta tb : TypeId) (w : World) (hne : a ≠ b) (ha : w.heap[a.block]? = some (.cells ca ta (0,0))) (hb : w.heap[b.block]? = some (.cells cb tb (0,0))) :
  Calls Tryz.prog 94 #[.iface 387 (.pointer (some a)),.iface 387 (.pointer (some b))] w fun e w' => e = .returned (.bool false) ∧ w' = w := by
 obtain ⟨i,hi,hcmp⟩ := Option.map_eq_some_iff.1 Tryz.isComp;obtain ⟨j,hj,hjs⟩ := Option.map_eq_some_iff.1 Tryz.isSize;have h8 := @run_callFunc_extern Tryz.prog 145 _ Extern.ReflectliteType.typeOf Tryz.func145 (by kernel_rfl) (by kernel_rfl) (by kernel_rfl) (by kernel_rfl)
 have h32 := @run_callFunc_extern Tryz.prog 349 _ (Extern.ReflectliteType.method fun t => do Go.Extern.Rtype.noPackHeld "Comparable" t; pure (.bool (← typeInfo t).comparable)) Tryz.func349 (by kernel_rfl) (by kernel_rfl) (by kernel_rfl) (by kernel_rfl)
 have tT := Tryz.isTypeOf;have cT := Tryz.isComparable;have mR := Tryz.isMethodComparable;have nE := Tryz.noIsE;have uE := Tryz.noUnwrapE;have vE := Tryz.noUnwrapsE;have heq := run_eql_iface_ptr_other (P := Tryz.prog) w Tryz.underlying106 Tryz.underlying387 hi hcmp hj (by rw [hjs]; decide) hne ha hb
 go_enter Tryz.func94,Tryz.ntmps94
 go_wp2;refine wp_loop_rounds 1 ?_;rw [rounds_succ];go_wp2;go_ret;exact ⟨rfl,rfl⟩
def er (a : Nat → Addr) : Option Nat → Value
 | none => .nilIface
 | some i => .iface 387 (.pointer (some (a i)))
def gi : Nat → Nat
 | 0 => 3
 | 1 => 0
 | 2 => 1
 | 3 => 2
 | 4 => 4
 | 5 => 5
 | 6 => 6
 | 7 => 7
 | k => k
theorem gi_lt {i : Nat} (h : i < 8) : gi i < 8 := by
 match i,h with
 | 0,_ => exact (by decide)
 | 1,_ => exact (by decide)
 | 2,_ => exact (by decide)
 | 3,_ => exact (by decide)
 | 4,_ => exact (by decide)
 | 5,_ => exact (by decide)
 | 6,_ => exact (by decide)
 | 7,_ => exact (by decide)
structure Gl (a : Nat → Addr) (n : Nat) (w : World) : Prop where
 cell : ∀ i,i < 8 → w.cell? ⟨gi i,0,none⟩ = some (er a (some i))
 row : ∀ i,i < 8 → ∃ c t,w.heap[(a i).block]? = some (.cells c t (0,0))
 ne : ∀ i j,i < 8 → j < 8 → i ≠ j → a i ≠ a j
 low : ∀ i,i < 8 → (a i).block < n
 nine : 9 ≤ n
 size : n ≤ w.heap.size
 wt : WT w
theorem Gl.below {a : Nat → Addr} {n : Nat} {w w' : World} (h : Gl a n w) (hb : Below n w w') : Gl a n w' := by
 have hc : ∀ b o v,b < n → w.cell? ⟨b,o,none⟩ = some v → w'.cell? ⟨b,o,none⟩ = some v := fun b o v hl hv => (World.cell?_of_block (hb.block b hl)).trans hv;have h9 := h.nine
 refine ⟨fun i hi => hc (gi i) 0 _ (by have := gi_lt hi; omega) (h.cell i hi),fun i hi => ?_,h.ne,h.low,h.nine,Nat.le_trans h.size hb.size,⟨fun k hk => hc 8 _ _ (by omega) (h.wt.first k hk),fun k i hk hi => hc 8 _ _ (by omega) (h.wt.letter k i hk hi)⟩⟩
 obtain ⟨c,t,hr⟩ := h.row i hi;exact ⟨c,t,(hb.block _ (h.low i hi)).trans hr⟩
theorem Gl.later {a : Nat → Addr} {n : Nat} {w w' : World} (h : Gl a n w) (hb : bw w w') : Gl a n w' := h.below (hb.mono h.size)
theorem Gl.kept {a : Nat → Addr} {n : Nat} {M : Nat → Prop} {w w' : World} (h : Gl a n w) (hk : Kpt M w w') (hM : ∀ k,M k → n ≤ k) : Gl a n w' := h.below (hk.below h.size hM)
theorem is_any (a : Nat → Addr) (n : Nat) (o : Option Nat) (i : Nat) (w : World) (h : Gl a n w) (hi : i < 8) (ho : ∀ j,o = some j → j < 8) :
  Calls Tryz.prog 94 #[er a o,er a (some i)] w fun e w' => e = .returned (.bool (decide (o = some i))) ∧ w' = w := by
 cases o with
 | none => exact is_nil (a i) w
 | some j =>
  have hj := ho j rfl
  by_cases e : j = i
  ·subst e
   have := is_same (a j) w
   simpa [er] using this
  ·obtain ⟨c1,t1,r1⟩ := h.row j hj
   obtain ⟨c2,t2,r2⟩ := h.row i hi;have := is_other (a j) (a i) c1 c2 t1 t2 w (h.ne j i hj hi e) r1 r2;have hd : decide (some j = some i) = false := by simpa using e
   rw [hd];exact this
end Go.Proofs.YtcajifelbldjnaaGreatDoor.K
namespace Go.Proofs.YtcajifelbldjnaaGreatDoor.K
open Go.RowKit
structure Pt where
 x : Int
 y : Int
 z : Int
structure Rg where
 lo : Pt
 hi : Pt
 rp : Rp
 ps : Int
 mo : Int
structure Fm where
 hm : Bool
 pt : Pt
 pl : Int
 tp : Bool
 ht : Int
 tu : Int
 tk : Int
structure Cm where
 k : Int
 x : Int
 y : Int
 z : Int
 v : Int
def p0 : Pt := ⟨0,0,0⟩
def f0 : Fm := ⟨false,p0,0,false,0,0,0⟩
theorem Pt.ext' {p q : Pt} (h1 : p.x = q.x) (h2 : p.y = q.y) (h3 : p.z = q.z) : p = q := by cases p; cases q; simp_all
def ptE (p q : Pt) : Bool := decide (p.x = q.x) && (decide (p.y = q.y) && decide (p.z = q.z))
theorem ptE_iff {p q : Pt} : ptE p q = true ↔ p = q := by
 constructor
 ·intro h
  simp only [ptE,Bool.and_eq_true,decide_eq_true_eq] at h;exact Pt.ext' h.1 h.2.1 h.2.2
 ·rintro rfl
  simp [ptE]
def inS (r : Rg) (p : Pt) : Bool := inR r.lo.x r.hi.x p.x && (inR r.lo.y r.hi.y p.y && inR r.lo.z r.hi.z p.z)
theorem inS_iff {r : Rg} {p : Pt} : inS r p = true ↔ (r.lo.x ≤ p.x ∧ p.x ≤ r.hi.x) ∧ (r.lo.y ≤ p.y ∧ p.y ≤ r.hi.y) ∧ (r.lo.z ≤ p.z ∧ p.z ≤ r.hi.z) := by
 simp only [inS,Bool.and_eq_true,inR_iff]
def endB (l h : Int) : Bool := inR (-10000000) 0 l && inR 0 10000000 h
def endsB (r : Rg) : Bool := endB r.lo.x r.hi.x && (endB r.lo.y r.hi.y && endB r.lo.z r.hi.z)
def rgOk (r : Rg) : Bool := endsB r && (rpOk r.rp && (inR 1 100000 r.ps && inR 1 1000000000 r.mo))
theorem endB_iff {l h : Int} : endB l h = true ↔ -10000000 ≤ l ∧ l ≤ 0 ∧ 0 ≤ h ∧ h ≤ 10000000 := by
 simp only [endB,Bool.and_eq_true,inR_iff]; omega
structure RgOk (r : Rg) : Prop where
 x : -10000000 ≤ r.lo.x ∧ r.lo.x ≤ 0 ∧ 0 ≤ r.hi.x ∧ r.hi.x ≤ 10000000
 y : -10000000 ≤ r.lo.y ∧ r.lo.y ≤ 0 ∧ 0 ≤ r.hi.y ∧ r.hi.y ≤ 10000000
 z : -10000000 ≤ r.lo.z ∧ r.lo.z ≤ 0 ∧ 0 ≤ r.hi.z ∧ r.hi.z ≤ 10000000
 rp : rpOk r.rp = true
 ps : 1 ≤ r.ps ∧ r.ps ≤ 100000
 mo : 1 ≤ r.mo ∧ r.mo ≤ 1000000000
theorem rgOk_iff {r : Rg} : rgOk r = true ↔ RgOk r := by
 simp only [rgOk,endsB,Bool.and_eq_true,endB_iff,inR_iff];constructor
 ·rintro ⟨⟨h1,h2,h3⟩,h4,h5,h6⟩
  exact ⟨h1,h2,h3,h4,h5,h6⟩
 ·rintro ⟨h1,h2,h3,h4,h5,h6⟩
  exact ⟨⟨h1,h2,h3⟩,h4,h5,h6⟩
def hereB (r : Rg) (f : Fm) : Bool := inS r f.pt && (f.hm || ptE f.pt p0)
def onB (r : Rg) (f : Fm) : Bool := inR 0 r.mo f.pl && (inR 0 1000000000 f.ht && inR 0 1000000000 f.tu)
def fmOk (r : Rg) (f : Fm) : Bool := hereB r f && (onB r f && inR 0 1000000000000000 f.tk)
structure FmOk (r : Rg) (f : Fm) : Prop where
 at' : inS r f.pt = true
 hm : f.hm = true ∨ f.pt = p0
 pl : 0 ≤ f.pl ∧ f.pl ≤ r.mo
 ht : 0 ≤ f.ht ∧ f.ht ≤ 1000000000
 tu : 0 ≤ f.tu ∧ f.tu ≤ 1000000000
 tk : 0 ≤ f.tk ∧ f.tk ≤ 1000000000000000
theorem fmOk_iff {r : Rg} {f : Fm} : fmOk r f = true ↔ FmOk r f := by
 simp only [fmOk,hereB,onB,Bool.and_eq_true,Bool.or_eq_true,inR_iff,ptE_iff];constructor
 ·rintro ⟨⟨h1,h2⟩,⟨h3,h4,h5⟩,h6⟩
  exact ⟨h1,h2,h3,h4,h5,h6⟩
 ·rintro ⟨h1,h2,h3,h4,h5,h6⟩
  exact ⟨⟨h1,h2⟩,⟨h3,h4,h5⟩,h6⟩
theorem in_zero {r : Rg} (h : RgOk r) : inS r p0 = true := by
 have h1 := h.x; have h2 := h.y; have h3 := h.z;exact inS_iff.2 ⟨⟨h1.2.1,h1.2.2.1⟩,⟨h2.2.1,h2.2.2.1⟩,⟨h3.2.1,h3.2.2.1⟩⟩
theorem in_lo {r : Rg} (h : RgOk r) : inS r r.lo = true := by
 have h1 := h.x; have h2 := h.y; have h3 := h.z;exact inS_iff.2 ⟨⟨Int.le_refl _,by omega⟩,⟨Int.le_refl _,by omega⟩,⟨Int.le_refl _,by omega⟩⟩
theorem in_hi {r : Rg} (h : RgOk r) : inS r r.hi = true := by
 have h1 := h.x; have h2 := h.y; have h3 := h.z;exact inS_iff.2 ⟨⟨by omega,Int.le_refl _⟩,⟨by omega,Int.le_refl _⟩,⟨by omega,Int.le_refl _⟩⟩
theorem f0_ok {r : Rg} (h : RgOk r) : FmOk r f0 := ⟨in_zero h,.inr rfl,⟨Int.le_refl _,by have := h.mo; show (0 : Int) ≤ r.mo; omega⟩,by decide,by decide,by decide⟩
def chg (a b : Int) : Int := max (a - b) (b - a)
def gch (p q : Pt) : Int := max (chg p.x q.x) (max (chg p.y q.y) (chg p.z q.z))
def upB (n b : Int) : Int := (n + b - 1) / b
def runT (r : Rp) (n : Nat) : Int := (n / 20000 : Nat) * totR r 20000 + totR r (n % 20000)
def stepsN (r : Rg) (p q : Pt) : Nat := (upB (gch p q) r.ps).toNat
def tick (r : Rg) (p q : Pt) : Int := runT r.rp (stepsN r p q)
theorem totR_zero (r : Rp) : totR r 0 = 0 := rfl
theorem runT_zero (r : Rp) : runT r 0 = 0 := by unfold runT; simp [totR_zero]
theorem runT_less {r : Rp} {n : Nat} (h : n ≤ 20000) : runT r n = totR r n := by
 unfold runT
 by_cases e : n = 20000
 ·subst e; simp [totR_zero]
 ·rw [Nat.div_eq_of_lt (by omega),Nat.mod_eq_of_lt (by omega)]; simp
theorem runT_more {r : Rp} {n : Nat} (h : 20000 ≤ n) : runT r n = totR r 20000 + runT r (n - 20000) := by
 unfold runT;rw [Nat.mod_eq_sub_mod h,show n / 20000 = (n - 20000) / 20000 + 1 by omega,Int.natCast_add,Int.add_mul];omega
theorem runT_step {r : Rp} {n : Nat} : runT r n = totR r (min n 20000) + runT r (n - 20000) := by
 by_cases h : 20000 ≤ n
 ·rw [Nat.min_eq_right h,runT_more h]
 ·rw [Nat.min_eq_left (by omega),runT_less (by omega),show n - 20000 = 0 by omega,runT_zero]; omega
theorem runT_bd {r : Rp} (hr : rpOk r = true) {n : Nat} (h : n ≤ 20000000) : 0 ≤ runT r n ∧ runT r n ≤ 2002000000000000 := by
 have h1 := totR_bd hr (n := 20000) (Nat.le_refl _);have h2 := totR_bd hr (n := n % 20000) (by omega);have h3 : n / 20000 ≤ 1000 := by omega
 have h4 : (0 : Int) ≤ (n / 20000 : Nat) * totR r 20000 := Int.mul_nonneg (by omega) h1.1;have h5 : ((n / 20000 : Nat) : Int) * totR r 20000 ≤ 1000 * 2000000000000 := Int.le_trans (Int.mul_le_mul_of_nonneg_right (show ((n / 20000 : Nat) : Int) ≤ 1000 by omega) h1.1) (by omega);unfold runT;omega
theorem upB_bd {n b : Int} (hn : 0 ≤ n) (hb : 1 ≤ b) : 0 ≤ upB n b ∧ upB n b ≤ n := by
 unfold upB;refine ⟨Int.ediv_nonneg (by omega) (by omega),?_⟩
 have : (n + b - 1) / b ≤ n := by
  apply Int.le_of_lt_add_one
  apply (Int.ediv_lt_iff_lt_mul (by omega)).2
  have h1 : n * 1 ≤ n * b := Int.mul_le_mul_of_nonneg_left hb hn;rw [Int.add_mul];omega
 exact this
theorem gch_bd {r : Rg} (h : RgOk r) {p q : Pt} (hp : inS r p = true) (hq : inS r q = true) : 0 ≤ gch p q ∧ gch p q ≤ 20000000 := by
 have h1 := h.x; have h2 := h.y; have h3 := h.z;have a := inS_iff.1 hp;have b := inS_iff.1 hq;unfold gch chg;omega
theorem steps_bd {r : Rg} (h : RgOk r) {p q : Pt} (hp : inS r p = true) (hq : inS r q = true) : stepsN r p q ≤ 20000000 ∧ ((stepsN r p q : Nat) : Int) = upB (gch p q) r.ps := by
 have h1 := gch_bd h hp hq;have h2 := upB_bd h1.1 h.ps.1;unfold stepsN;omega
theorem tick_bd {r : Rg} (h : RgOk r) {p q : Pt} (hp : inS r p = true) (hq : inS r q = true) : 0 ≤ tick r p q ∧ tick r p q ≤ 2002000000000000 := runT_bd h.rp (steps_bd h hp hq).1
def toP (c : Cm) : Pt := ⟨c.x,c.y,c.z⟩
def homeT (r : Rg) (f : Fm) : Int := if f.hm then tick r f.pt p0 else tick r r.hi r.lo
def durC (r : Rg) (f : Fm) (c : Cm) : Int :=
 if c.k = 1 then homeT r f else if c.k = 2 then tick r f.pt (toP c) else if c.k = 3 then upB (chg f.pl c.v) 1000 else if c.k = 7 then upB (c.v * r.rp.c) 1000 else 0
def errC (r : Rg) (f : Fm) (c : Cm) : Option Nat :=
 if c.k = 2 then if f.hm = false then some 3 else if inS r (toP c) = false then some 0 else none
 else if c.k = 3 then if f.hm = false then some 3 else if f.tp = false then some 4 else if r.mo < c.v then some 6 else none
 else if c.k = 4 then if f.hm = false then some 3 else if f.tp = true then some 5 else none
 else if c.k = 5 then if f.hm = false then some 3 else if f.tp = false then some 4 else none
 else none
def obE (r : Rg) (f : Fm) (c : Cm) : Option Nat := match errC r f c with
 | some i => some i
 | none => if 1000000000000000 < f.tk + durC r f c then some 7 else none
def obF (r : Rg) (f : Fm) (c : Cm) : Fm :=
 if c.k = 1 then { f with hm := true,pt := p0,tk := f.tk + durC r f c }
 else if c.k = 2 then { f with pt := toP c,tk := f.tk + durC r f c }
 else if c.k = 3 then { f with pl := c.v,tk := f.tk + durC r f c }
 else if c.k = 4 then { f with tp := true,pl := 0 }
 else if c.k = 5 then { f with tp := false,pl := 0 }
 else if c.k = 6 then { f with ht := c.v }
 else if c.k = 7 then { f with tk := f.tk + durC r f c }
 else if c.k = 8 then { f with tu := c.v }
 else f
def numE : Option Nat → Int
 | none => 0
 | some 0 => 13
 | some 1 => 2
 | some 2 => 17
 | some 3 => 15
 | some 4 => 12
 | some 5 => 12
 | some 6 => 9
 | some _ => 8
def chkM (c : Cm) : Int := chkC c.k c.x c.y c.z c.v
def doN (r : Rg) (f : Fm) (c : Cm) : Int := if chkM c = 0 then numE (obE r f c) else chkM c
def doF (r : Rg) (f : Fm) (c : Cm) : Fm := if doN r f c = 0 then obF r f c else f
theorem errC_lt {r : Rg} {f : Fm} {c : Cm} {i : Nat} (h : errC r f c = some i) : i < 7 := by
 unfold errC at h
 split at h
 ·split at h
  ·cases h; decide
  ·split at h <;> cases h; decide
 ·split at h
  ·split at h
   ·cases h; decide
   ·split at h
    ·cases h; decide
    ·split at h <;> cases h; decide
  ·split at h
   ·split at h
    ·cases h; decide
    ·split at h <;> cases h; decide
   ·split at h
    ·split at h
     ·cases h; decide
     ·split at h <;> cases h; decide
    ·cases h
theorem obE_lt {r : Rg} {f : Fm} {c : Cm} {i : Nat} (h : obE r f c = some i) : i < 8 := by
 unfold obE at h
 cases e : errC r f c with
 | some j =>
  rw [e] at h;injection h with h;have := errC_lt e;omega
 | none =>
  rw [e] at h;simp only at h
  split at h
  ·injection h with h; omega
  ·cases h
theorem numE_zero {o : Option Nat} (ho : ∀ i,o = some i → i < 8) : numE o = 0 ↔ o = none := by
 cases o with
 | none => simp [numE]
 | some i =>
  have := ho i rfl
  match i,this with
  | 0,_ => simp [numE]
  | 1,_ => simp [numE]
  | 2,_ => simp [numE]
  | 3,_ => simp [numE]
  | 4,_ => simp [numE]
  | 5,_ => simp [numE]
  | 6,_ => simp [numE]
  | 7,_ => simp [numE]
abbrev v3 (p : Pt) : Value := .agg #[.int .i64 p.x,.int .i64 p.y,.int .i64 p.z]
abbrev c3 (p : Pt) : List Value := [.int .i64 p.x,.int .i64 p.y,.int .i64 p.z]
abbrev o3 (p : Pt) (t : TypeId) : Obj := .cells #[.int .i64 p.x,.int .i64 p.y,.int .i64 p.z] t
abbrev rgv (r : Rg) : Value := .agg #[.int .i64 r.lo.x,.int .i64 r.lo.y,.int .i64 r.lo.z,.int .i64 r.hi.x,.int .i64 r.hi.y,.int .i64 r.hi.z,.int .i64 r.rp.c,.int .i64 r.rp.f,.int .i64 r.rp.m,.int .i64 r.rp.r,.int .i64 r.ps,.int .i64 r.mo]
abbrev rgc (r : Rg) : List Value := [.int .i64 r.lo.x,.int .i64 r.lo.y,.int .i64 r.lo.z,.int .i64 r.hi.x,.int .i64 r.hi.y,.int .i64 r.hi.z,.int .i64 r.rp.c,.int .i64 r.rp.f,.int .i64 r.rp.m,.int .i64 r.rp.r,.int .i64 r.ps,.int .i64 r.mo]
abbrev rgo (r : Rg) : Obj := .cells #[.int .i64 r.lo.x,.int .i64 r.lo.y,.int .i64 r.lo.z,.int .i64 r.hi.x,.int .i64 r.hi.y,.int .i64 r.hi.z,.int .i64 r.rp.c,.int .i64 r.rp.f,.int .i64 r.rp.m,.int .i64 r.rp.r,.int .i64 r.ps,.int .i64 r.mo] 35
abbrev fv (f : Fm) : Value := .agg #[.bool f.hm,.int .i64 f.pt.x,.int .i64 f.pt.y,.int .i64 f.pt.z,.int .i64 f.pl,.bool f.tp,.int .i64 f.ht,.int .i64 f.tu,.int .i64 f.tk]
abbrev fc (f : Fm) : List Value := [.bool f.hm,.int .i64 f.pt.x,.int .i64 f.pt.y,.int .i64 f.pt.z,.int .i64 f.pl,.bool f.tp,.int .i64 f.ht,.int .i64 f.tu,.int .i64 f.tk]
abbrev fo (f : Fm) : Obj := .cells #[.bool f.hm,.int .i64 f.pt.x,.int .i64 f.pt.y,.int .i64 f.pt.z,.int .i64 f.pl,.bool f.tp,.int .i64 f.ht,.int .i64 f.tu,.int .i64 f.tk] 44
theorem one_new (w : World) (a : Obj) : bw w (w.alloc a) := (brf).alloc (Nat.le_refl _) _
theorem two_new (w : World) (a b : Obj) : bw w ((w.alloc a).alloc b) := ((brf).alloc (Nat.le_refl _) _).alloc (by simp) _
theorem three_new (w : World) (a b c : Obj) : bw w (((w.alloc a).alloc b).alloc c) := (((brf).alloc (Nat.le_refl _) _).alloc (by simp) _).alloc (by simp; omega) _
theorem below_on {w w1 w2 : World} (h : bw w w1) (h2 : bw w1 w2) : bw w w2 := h.trans (h2.mono h.size)
theorem isFrom_any (lo x hi : Int) (w : World) :
  Calls Tryz.prog 142 #[.int .i64 lo,.int .i64 x,.int .i64 hi] w fun e w' => e = .returned (.bool (inR lo hi x)) ∧ w' = w := by
 by_cases h1 : lo ≤ x
 ·by_cases h2 : x ≤ hi
  ·go_enter Tryz.func142,Tryz.ntmps142
   go_wp2;go_ret;exact ⟨ret_bool (inR_yes h1 h2).symm,rfl⟩
  ·go_enter Tryz.func142,Tryz.ntmps142
   go_wp2;go_ret;exact ⟨ret_bool (inR_no (by omega)).symm,rfl⟩
 ·go_enter Tryz.func142,Tryz.ntmps142
  go_wp2;go_ret;exact ⟨ret_bool (inR_no (by omega)).symm,rfl⟩
theorem change_any (a b : Int) (w : World) (ha : -1000000000 ≤ a) (ha2 : a ≤ 1000000000) (hb : -1000000000 ≤ b) (hb2 : b ≤ 1000000000) :
  Calls Tryz.prog 195 #[.int .i64 a,.int .i64 b] w fun e w' => e = .returned (.int .i64 (chg a b)) ∧ w' = w := by
 go_enter Tryz.func195,Tryz.ntmps195
 go_wp2
 all_goals (go_ret; exact ⟨ret_int (by unfold chg; omega),rfl⟩)
theorem upBy_any (n b : Int) (w : World) (h0 : 0 ≤ n) (h1 : n ≤ 1000000000000000000) (hb : 1 ≤ b) (hb2 : b ≤ 100000) :
  Calls Tryz.prog 153 #[.int .i64 n,.int .i64 b] w fun e w' => e = .returned (.int .i64 (upB n b)) ∧ w' = w := by
 go_enter Tryz.func153,Tryz.ntmps153
 go_wp2;go_ret
 exact ⟨ret_int (by unfold upB; first | rfl | (rw [Int.tdiv_eq_ediv_of_nonneg (by omega)])),rfl⟩
theorem numbersP_any (p : Pt) (w : World) : CR 141 #[v3 p] w (v3 p) := by
 have HB : Hid (bw w ((w.alloc (o3 p 31)).alloc (o3 p 238))) := two_new _ _ _
 go_enter Tryz.func141,Tryz.ntmps141
 go_wp2;refine bodyPost_ret (v := v3 p) (by simp [results,Tryz.results141,go_sem]) rfl ⟨rfl,HB.out⟩
theorem ix30 (p : Pt) (w : World) : (Instr.index 238 (v3 p) (.int .i64 0)).run Tryz.prog w = .ok (.int .i64 p.x) w := by kernel_rfl
theorem ix31 (p : Pt) (w : World) : (Instr.index 238 (v3 p) (.int .i64 1)).run Tryz.prog w = .ok (.int .i64 p.y) w := by kernel_rfl
theorem ix32 (p : Pt) (w : World) : (Instr.index 238 (v3 p) (.int .i64 2)).run Tryz.prog w = .ok (.int .i64 p.z) w := by kernel_rfl
theorem isRampF_any (r : Rp) (w : World) : CR 143 #[rv r] w (.bool (rpOk r)) := by
 have HB : Hid (bw w (w.alloc (ro r))) := one_new _ _
 cases h : rpOk r with
 | true =>
  have HT : Hid (∀ W,CR 193 #[rv r,.int .i64 0] W (.tuple #[.int .i64 (totR r 0),.int .i64 0])) := fun W => total_yes r 0 W h (by decide)
  go_enter Tryz.func143,Tryz.ntmps143
  go_wp2_with fail
  refine (HT.out _).mono ?_;rintro e w1 ⟨rfl,hb1⟩;have HB1 : Hid (bw w w1) := below_on HB.out hb1;go_wp2;go_ret;exact ⟨rfl,HB1.out⟩
 | false =>
  have HT : Hid (∀ W,CR 193 #[rv r,.int .i64 0] W (.tuple #[.int .i64 0,.int .i64 2])) := fun W => (total_no r 0 W (by rw [refR_range h]; decide)).mono fun e w' ⟨h1,h2⟩ => ⟨by rw [h1,refR_range h],h2⟩
  go_enter Tryz.func143,Tryz.ntmps143
  go_wp2_with fail
  refine (HT.out _).mono ?_;rintro e w1 ⟨rfl,hb1⟩;have HB1 : Hid (bw w w1) := below_on HB.out hb1;go_wp2;go_ret;exact ⟨rfl,HB1.out⟩
def Near (p : Pt) : Prop := (-10000000 ≤ p.x ∧ p.x ≤ 10000000) ∧ (-10000000 ≤ p.y ∧ p.y ≤ 10000000) ∧ (-10000000 ≤ p.z ∧ p.z ≤ 10000000)
theorem near_of {r : Rg} (h : RgOk r) {p : Pt} (hp : inS r p = true) : Near p := by
 have h1 := h.x; have h2 := h.y; have h3 := h.z;have a := inS_iff.1 hp;unfold Near;omega
theorem greatest_any (p q : Pt) (w : World) (hp : Near p) (hq : Near q) : CR 233 #[v3 p,v3 q] w (.int .i64 (gch p q)) := by
 obtain ⟨a1,a2,a3⟩ := hp;obtain ⟨b1,b2,b3⟩ := hq;have HN : Hid (∀ x W,CR 141 #[v3 x] W (v3 x)) := numbersP_any;have HX : Hid (∀ W,Calls Tryz.prog 195 #[.int .i64 p.x,.int .i64 q.x] W fun e w' => e = .returned (.int .i64 (chg p.x q.x)) ∧ w' = W) := fun W => change_any _ _ W (by omega) (by omega) (by omega) (by omega);have HY : Hid (∀ W,Calls Tryz.prog 195 #[.int .i64 p.y,.int .i64 q.y] W fun e w' => e = .returned (.int .i64 (chg p.y q.y)) ∧ w' = W) := fun W => change_any _ _ W (by omega) (by omega) (by omega) (by omega);have HZ : Hid (∀ W,Calls Tryz.prog 195 #[.int .i64 p.z,.int .i64 q.z] W fun e w' => e = .returned (.int .i64 (chg p.z q.z)) ∧ w' = W) := fun W => change_any _ _ W (by omega) (by omega) (by omega) (by omega);have HG : Hid (max (max (max 0 (chg p.x q.x)) (chg p.y q.y)) (chg p.z q.z) = gch p q) := by show _ = _; unfold gch chg; omega
 have HB0 : Hid (bw w ((w.alloc (o3 p 31)).alloc (o3 q 31))) := two_new _ _ _;have KQ0 : Hid (Bk (w.heap.size + 1) (c3 q) ((w.alloc (o3 p 31)).alloc (o3 q 31))) := Bk.new (w.alloc (o3 p 31)) (c3 q) 31 (w.heap.size + 1) (by simp);obtain ⟨dx,hdx⟩ : ∃ d,d = chg p.x q.x := ⟨_,rfl⟩;obtain ⟨dy,hdy⟩ : ∃ d,d = chg p.y q.y := ⟨_,rfl⟩;obtain ⟨dz,hdz⟩ : ∃ d,d = chg p.z q.z := ⟨_,rfl⟩;rw [← hdx] at HX HG;rw [← hdy] at HY HG;rw [← hdz] at HZ HG;clear hdx hdy hdz a1 a2 a3 b1 b2 b3
 go_enter Tryz.func233,Tryz.ntmps233
 go_wp2_with fail
 refine (HN.out _ _).mono ?_;rintro e w1 ⟨rfl,hb1⟩;have HB1 : Hid (bw w w1) := below_on HB0.out hb1;have KQ1 := hdd (KQ0.out.later hb1);obtain ⟨B,hB⟩ : ∃ b,b = w.heap.size + 1 := ⟨_,rfl⟩;rw [← hB] at KQ1;simp only [← hB];clear hb1 HB0 KQ0 hB;obtain ⟨S,hS⟩ : ∃ b,b = w1.heap.size := ⟨_,rfl⟩;obtain ⟨w2,hw2⟩ : ∃ x,x = w1.alloc (o3 p 238) := ⟨_,rfl⟩;have HB2 : Hid (bw w w2) := by show Below _ _ _; rw [hw2]; exact below_on HB1.out (one_new _ _)
 have KQ2 : Hid (Bk B (c3 q) w2) := by show Bk _ _ _; rw [hw2]; exact KQ1.out.later (one_new _ _)
 have KS2 : Hid (Bk S (c3 p) w2) := by show Bk _ _ _; rw [hw2,hS]; exact Bk.new w1 (c3 p) 238 w1.heap.size rfl
 have q0 := KQ1.out.c 0 rfl;have q1 := KQ1.out.c 1 rfl;have q2 := KQ1.out.c 2 rfl;have hBs : B < w1.heap.size := KQ1.out.1
 go_wp2_with fail
 simp only [← hw2,← hS];refine (HN.out _ _).mono ?_;rintro e w3 ⟨rfl,hb3⟩;have HB3 : Hid (bw w w3) := below_on HB2.out hb3;have s0 := (KS2.out.later hb3).c 0 rfl;have s1 := (KS2.out.later hb3).c 1 rfl;have s2 := (KS2.out.later hb3).c 2 rfl;have i0 := ix30 q;have i1 := ix31 q;have i2 := ix32 q;clear hb3 HB2 KQ2 KS2 hw2 hS q0 q1 q2 hBs KQ1 HB1
 go_wp2_with fail
 refine wp_loop_rounds 4 ?_;rw [rounds_succ]
 go_wp2_with fail
 refine (HX.out _).mono ?_;rintro e w4 ⟨rfl,rfl⟩
 go_wp2_with fail
 all_goals (rw [rounds_succ]; go_wp2_with fail; refine (HY.out _).mono ?_; rintro e w5 ⟨rfl,rfl⟩; go_wp2_with fail)
 all_goals (rw [rounds_succ]; go_wp2_with fail; refine (HZ.out _).mono ?_; rintro e w6 ⟨rfl,rfl⟩; go_wp2_with fail)
 all_goals (rw [rounds_succ]; go_wp2; go_ret; exact ⟨ret_int (by have := HG.out; omega),HB3.out⟩)
abbrev P3 (w : World) (B : Nat) (p : Pt) : World := ((w.setCell ⟨B,0,none⟩ (.int .i64 p.x)).setCell ⟨B,1,none⟩ (.int .i64 p.y)).setCell ⟨B,2,none⟩ (.int .i64 p.z)
theorem _root_.Go.Proofs.YtcajifelbldjnaaGreatDoor.Bk.put3K {B : Nat} {u0 u1 u2 : Value} {w : World} (h : Bk B [u0,u1,u2] w) (p : Pt) : Bk B (c3 p) (P3 w B p) := ((h.put 0 (.int .i64 p.x)).put 1 (.int .i64 p.y)).put 2 (.int .i64 p.z)
theorem drewN_low (b : Nat) (w : World) (n : Nat) : Below b w (w.drewN n) := ⟨rfl,rfl,rfl,Nat.le_refl _,fun _ _ => rfl⟩
theorem _root_.Go.Proofs.YtcajifelbldjnaaGreatDoor.Bk.oth3K {b B : Nat} {cs : List Value} {w : World} (h : Bk b cs w) (hn : b ≠ B) (p : Pt) : Bk b cs (P3 w B p) := ((h.other hn 0 _).other hn 1 _).other hn 2 _
def Apart (s t : Nat) (f : Nat → Value) (w : World) : Prop :=
 (∀ b,f s = ptr b → b < w.heap.size) ∧ (∀ b,f t = ptr b → b < w.heap.size) ∧ (∀ b,f s = ptr b → f t = ptr b → False)
theorem Apart.same {s t : Nat} {f : Nat → Value} {w w' : World} (h : Apart s t f w) (hs : w'.heap.size = w.heap.size) : Apart s t f w' := by
 unfold Apart;rw [hs];exact h
theorem Apart.other {s t d : Nat} {f : Nat → Value} {w w' : World} {v : Value} (h : Apart s t f w) (hs : s ≠ d) (ht : t ≠ d) (hb : bw w w') : Apart s t (upd f d v) w' := by
 unfold Apart;rw [upd_other hs,upd_other ht];exact ⟨fun b e => Nat.lt_of_lt_of_le (h.1 b e) hb.size,fun b e => Nat.lt_of_lt_of_le (h.2.1 b e) hb.size,h.2.2⟩
theorem Apart.left {s t : Nat} {f : Nat → Value} {w : World} {o : Obj} (h : Apart s t f w) (hst : t ≠ s) : Apart s t (upd f s (ptr w.heap.size)) (w.alloc o) := by
 unfold Apart;rw [upd_same,upd_other hst];refine ⟨fun b e => ?_,fun b e => ?_,fun b e e2 => ?_⟩
 ·simp at e; subst e; simp
 ·have := h.2.1 b e; simp; omega
 ·simp at e; subst e; have := h.2.1 _ e2; omega
theorem Apart.right {s t : Nat} {f : Nat → Value} {w : World} {o : Obj} (h : Apart s t f w) (hst : s ≠ t) : Apart s t (upd f t (ptr w.heap.size)) (w.alloc o) := by
 unfold Apart;rw [upd_same,upd_other hst];refine ⟨fun b e => ?_,fun b e => ?_,fun b e e2 => ?_⟩
 ·have := h.1 b e; simp; omega
 ·simp at e; subst e; simp
 ·simp at e2; subst e2; have := h.1 _ e; omega
def iwV (R m : Nat) (p q : Pt) (i : Nat) (l : List Value) (w : World) : Prop :=
 match i,l with
 | 0,[v] => v = .pointer (some ⟨R,0,none⟩)
 | 1,[v] => v = v3 p
 | 2,[v] => v = v3 p
 | 3,[v] => v = .pointer (some ⟨R,3,none⟩)
 | 4,[v] => v = v3 q
 | 5,[v] => v = v3 q
 | 6,[v] => ∃ b,v = ptr b ∧ m ≤ b ∧ ∃ u0 u1 u2,Bk b [u0,u1,u2] w
 | 7,[v] => ∃ b,v = ptr b ∧ m ≤ b ∧ ∃ u0 u1 u2,Bk b [u0,u1,u2] w
 | 8,[v] => ∃ b,v = ptr b ∧ Bk b (c3 p) w
 | 9,[v] => ∃ b,v = ptr b ∧ Bk b (c3 q) w
 | _,_ => True
theorem iwV_mono (R m : Nat) (p q : Pt) (i : Nat) (l : List Value) (w w' : World) (h : iwV R m p q i l w) (hb : bw w w') : iwV R m p q i l w' := by
 unfold iwV at h ⊢
 split <;> simp only [] at h <;> first | exact h | (obtain ⟨b,h1,h2,u0,u1,u2,h3⟩ := h; exact ⟨b,h1,h2,u0,u1,u2,h3.later hb⟩) | (obtain ⟨b,h1,h3⟩ := h; exact ⟨b,h1,h3.later hb⟩)
def iwP : GPlan := [([],[9],none),([0],[10],none),([1],[11],none),([],[12],none),([3],[13],none),([4],[14],none),([],[5],none),([],[6],none),([6,2],[5],none),([7,5],[6],none)]
theorem iw_low {R m : Nat} {p q : Pt} {f : Nat → Value} {w : World} {b : Nat} {u0 u1 u2 : Value} (hJ : Apart 5 6 f w) (hs : f 5 = ptr b) (AB : Bk b [u0,u1,u2] w) :
  ∀ j,iwV R m p q j ((menOf iwP j).map f) w → iwV R m p q j ((menOf iwP j).map f) (P3 w b p)
 | 0,h => h
 | 1,h => h
 | 2,h => h
 | 3,h => h
 | 4,h => h
 | 5,h => h
 | 6,⟨b2,h2,h3,_⟩ => by
  obtain rfl : b2 = b := by have := (show f 5 = ptr b2 from h2).symm.trans hs; simpa using this
  exact ⟨b2,h2,h3,_,_,_,AB.put3K p⟩
 | 7,⟨b2,h2,h3,v0,v1,v2,h4⟩ => ⟨b2,h2,h3,v0,v1,v2,h4.oth3K (fun e => hJ.2.2 b (by exact hs) (by rw [← e]; exact h2)) p⟩
 | 8,_ => ⟨b,hs,AB.put3K p⟩
 | 9,⟨b2,h2,h4⟩ => ⟨b2,h2,h4.oth3K (fun e => hJ.2.2 b (by exact hs) (by rw [← e]; exact h2)) p⟩
 | j + 10,_ => by simp [menOf,iwP,iwV]
theorem iw_high {R m : Nat} {p q : Pt} {f : Nat → Value} {w : World} {b : Nat} {u0 u1 u2 : Value} (hJ : Apart 5 6 f w) (hs : f 6 = ptr b) (AB : Bk b [u0,u1,u2] w) :
  ∀ j,iwV R m p q j ((menOf iwP j).map f) w → iwV R m p q j ((menOf iwP j).map f) (P3 w b q)
 | 0,h => h
 | 1,h => h
 | 2,h => h
 | 3,h => h
 | 4,h => h
 | 5,h => h
 | 6,⟨b2,h2,h3,v0,v1,v2,h4⟩ => ⟨b2,h2,h3,v0,v1,v2,h4.oth3K (fun e => hJ.2.2 b (by rw [← e]; exact h2) (by exact hs)) q⟩
 | 7,⟨b2,h2,h3,_⟩ => by
  obtain rfl : b2 = b := by have := (show f 6 = ptr b2 from h2).symm.trans hs; simpa using this
  exact ⟨b2,h2,h3,_,_,_,AB.put3K q⟩
 | 8,⟨b2,h2,h4⟩ => ⟨b2,h2,h4.oth3K (fun e => hJ.2.2 b (by rw [← e]; exact h2) (by exact hs)) q⟩
 | 9,_ => ⟨b,hs,AB.put3K q⟩
 | j + 10,_ => by simp [menOf,iwP,iwV]
def igV (R m : Nat) (p q : Pt) (i : Nat) (l : List Value) (w : World) : Prop :=
 match i,l with
 | 0,[v] => v = .pointer (some ⟨R,0,none⟩)
 | 1,[v] => v = v3 p
 | 2,[v] => v = v3 p
 | 3,[v] => v = .pointer (some ⟨R,3,none⟩)
 | 4,[v] => v = v3 q
 | 5,[v] => v = v3 q
 | 6,[v] => ∃ b,v = ptr b ∧ m ≤ b ∧ ∃ u0 u1 u2,Bk b [u0,u1,u2] w
 | 7,[v] => ∃ b,v = ptr b ∧ m ≤ b ∧ ∃ u0 u1 u2,Bk b [u0,u1,u2] w
 | 8,[v] => ∃ b,v = ptr b ∧ Bk b (c3 p) w
 | 9,[v] => ∃ b,v = ptr b ∧ Bk b (c3 q) w
 | _,_ => True
theorem igV_mono (R m : Nat) (p q : Pt) (i : Nat) (l : List Value) (w w' : World) (h : igV R m p q i l w) (hb : bw w w') : igV R m p q i l w' := by
 unfold igV at h ⊢
 split <;> simp only [] at h <;> first | exact h | (obtain ⟨b,h1,h2,u0,u1,u2,h3⟩ := h; exact ⟨b,h1,h2,u0,u1,u2,h3.later hb⟩) | (obtain ⟨b,h1,h3⟩ := h; exact ⟨b,h1,h3.later hb⟩)
def igP : GPlan := [([],[6],none),([0],[7],none),([1],[8],none),([],[9],none),([3],[10],none),([4],[11],none),([],[3],none),([],[4],none),([6,2],[3],none),([7,5],[4],none)]
theorem ig_low {R m : Nat} {p q : Pt} {f : Nat → Value} {w : World} {b : Nat} {u0 u1 u2 : Value} (hJ : Apart 3 4 f w) (hs : f 3 = ptr b) (AB : Bk b [u0,u1,u2] w) :
  ∀ j,igV R m p q j ((menOf igP j).map f) w → igV R m p q j ((menOf igP j).map f) (P3 w b p)
 | 0,h => h
 | 1,h => h
 | 2,h => h
 | 3,h => h
 | 4,h => h
 | 5,h => h
 | 6,⟨b2,h2,h3,_⟩ => by
  obtain rfl : b2 = b := by have := (show f 3 = ptr b2 from h2).symm.trans hs; simpa using this
  exact ⟨b2,h2,h3,_,_,_,AB.put3K p⟩
 | 7,⟨b2,h2,h3,v0,v1,v2,h4⟩ => ⟨b2,h2,h3,v0,v1,v2,h4.oth3K (fun e => hJ.2.2 b (by exact hs) (by rw [← e]; exact h2)) p⟩
 | 8,_ => ⟨b,hs,AB.put3K p⟩
 | 9,⟨b2,h2,h4⟩ => ⟨b2,h2,h4.oth3K (fun e => hJ.2.2 b (by exact hs) (by rw [← e]; exact h2)) p⟩
 | j + 10,_ => by simp [menOf,igP,igV]
theorem ig_high {R m : Nat} {p q : Pt} {f : Nat → Value} {w : World} {b : Nat} {u0 u1 u2 : Value} (hJ : Apart 3 4 f w) (hs : f 4 = ptr b) (AB : Bk b [u0,u1,u2] w) :
  ∀ j,igV R m p q j ((menOf igP j).map f) w → igV R m p q j ((menOf igP j).map f) (P3 w b q)
 | 0,h => h
 | 1,h => h
 | 2,h => h
 | 3,h => h
 | 4,h => h
 | 5,h => h
 | 6,⟨b2,h2,h3,v0,v1,v2,h4⟩ => ⟨b2,h2,h3,v0,v1,v2,h4.oth3K (fun e => hJ.2.2 b (by rw [← e]; exact h2) (by exact hs)) q⟩
 | 7,⟨b2,h2,h3,_⟩ => by
  obtain rfl : b2 = b := by have := (show f 4 = ptr b2 from h2).symm.trans hs; simpa using this
  exact ⟨b2,h2,h3,_,_,_,AB.put3K q⟩
 | 8,⟨b2,h2,h4⟩ => ⟨b2,h2,h4.oth3K (fun e => hJ.2.2 b (by rw [← e]; exact h2) (by exact hs)) q⟩
 | 9,_ => ⟨b,hs,AB.put3K q⟩
 | j + 10,_ => by simp [menOf,igP,igV]
theorem isWithin_any (r : Rg) (p : Pt) (w : World) : CR 144 #[rgv r,v3 p] w (.bool (inS r p)) := by
 have HN : Hid (∀ x W,CR 141 #[v3 x] W (v3 x)) := numbersP_any;have HI : Hid (∀ lo x hi W,Calls Tryz.prog 142 #[.int .i64 lo,.int .i64 x,.int .i64 hi] W fun e w' => e = .returned (.bool (inR lo hi x)) ∧ w' = W) := isFrom_any;obtain ⟨w0,hw0⟩ : ∃ x,x = (w.alloc (rgo r)).alloc (o3 p 31) := ⟨_,rfl⟩;have HB0 : Hid (bw w w0) := by show Below _ _ _; rw [hw0]; exact two_new _ _ _
 have KR0 : Hid (Bk w.heap.size (rgc r) w0) := by show Bk _ _ _; rw [hw0]; exact (Bk.new w (rgc r) 35 w.heap.size rfl).later (one_new _ _)
 have KP0 : Hid (Bk (w.heap.size + 1) (c3 p) w0) := by show Bk _ _ _; rw [hw0]; exact Bk.new (w.alloc (rgo r)) (c3 p) 31 (w.heap.size + 1) (by simp)
 obtain ⟨R,hR⟩ : ∃ b,b = w.heap.size := ⟨_,rfl⟩;obtain ⟨Q,hQ⟩ : ∃ b,b = w.heap.size + 1 := ⟨_,rfl⟩
 go_enter Tryz.func144,Tryz.ntmps144
 go_wp2_with fail
 rename_i KK hkk;have HKK := (show Hid _ from hkk);clear hkk;simp only [← hw0,← hQ];simp only [← hR];have KR : Hid (Bk R (rgc r) w0) := by rw [hR]; exact KR0
 have KP : Hid (Bk Q (c3 p) w0) := by rw [hQ]; exact KP0
 clear KR0 KP0 hw0 hR hQ
 refine region_all [zf,zf,zf,zf,zf,zt,zt,zf,zf,zt,zt,zt,zt,zt,zt,zf,zf,zf,zf,zf,zf,zf,zf,zf,zf,zf,zf,zf,zf,zf,zf]
  iwP (iwV R w0.heap.size r.lo r.hi) (Apart 5 6) (by kernel_rfl) (by kernel_rfl) ?_ ?_ ?_
 ·refine fun w _ => ⟨fun b e => ?_,fun b e => ?_,fun b e _ => ?_⟩
  all_goals (simp [undef] at e)
 ·refine ⟨?_,?_,?_,?_,?_,?_,?_,?_,?_,?_,trivial⟩
  ·intro f w1 hb hJ _ K hK
   simp only [ov,oL];go_simp;exact hK _ _ ⟨_,by simp only [ov,oL]; rfl,rfl,hb,hJ.other (by decide) (by decide) (brf),fun _ h => h⟩
  ·intro f w1 hb hJ ⟨h9,_⟩ K hK
   replace h9 : f 9 = _ := h9;have q0 := (KR.out.later hb).c 0 rfl;have q1 := (KR.out.later hb).c 1 rfl;have q2 := (KR.out.later hb).c 2 rfl;simp only [ov,oL,h9];go_simp;exact hK _ _ ⟨_,by simp only [ov,oL,h9]; rfl,rfl,hb,hJ.other (by decide) (by decide) (brf),fun _ h => h⟩
  ·intro f w1 hb hJ ⟨h10,_⟩ K hK
   replace h10 : f 10 = _ := h10;simp only [ov,oL,h10];go_simp;refine (HN.out _ _).mono ?_;rintro e w2 ⟨rfl,hb2⟩;exact hK _ _ ⟨_,by simp only [ov,oL,h10]; rfl,rfl,below_on hb hb2,hJ.other (by decide) (by decide) hb2,fun j h => iwV_mono R w0.heap.size r.lo r.hi j _ _ _ h hb2⟩
  ·intro f w1 hb hJ _ K hK
   simp only [ov,oL];go_simp;exact hK _ _ ⟨_,by simp only [ov,oL]; rfl,rfl,hb,hJ.other (by decide) (by decide) (brf),fun _ h => h⟩
  ·intro f w1 hb hJ ⟨h12,_⟩ K hK
   replace h12 : f 12 = _ := h12;have q3 := (KR.out.later hb).c 3 rfl;have q4 := (KR.out.later hb).c 4 rfl;have q5 := (KR.out.later hb).c 5 rfl;simp only [ov,oL,h12];go_simp;exact hK _ _ ⟨_,by simp only [ov,oL,h12]; rfl,rfl,hb,hJ.other (by decide) (by decide) (brf),fun _ h => h⟩
  ·intro f w1 hb hJ ⟨h13,_⟩ K hK
   replace h13 : f 13 = _ := h13;simp only [ov,oL,h13];go_simp;refine (HN.out _ _).mono ?_;rintro e w2 ⟨rfl,hb2⟩;exact hK _ _ ⟨_,by simp only [ov,oL,h13]; rfl,rfl,below_on hb hb2,hJ.other (by decide) (by decide) hb2,fun j h => iwV_mono R w0.heap.size r.lo r.hi j _ _ _ h hb2⟩
  ·intro f w1 hb hJ _ K hK
   simp only [ov,oL];go_simp;exact hK _ _ ⟨_,by simp only [ov,oL]; rfl,⟨w1.heap.size,rfl,hb.size,_,_,_,Bk.new w1 [.int .i64 0,.int .i64 0,.int .i64 0] 238 w1.heap.size rfl⟩,below_on hb (one_new _ _),hJ.left (by decide),fun j h => iwV_mono R w0.heap.size r.lo r.hi j _ _ _ h (one_new _ _)⟩
  ·intro f w1 hb hJ _ K hK
   simp only [ov,oL];go_simp;exact hK _ _ ⟨_,by simp only [ov,oL]; rfl,⟨w1.heap.size,rfl,hb.size,_,_,_,Bk.new w1 [.int .i64 0,.int .i64 0,.int .i64 0] 238 w1.heap.size rfl⟩,below_on hb (one_new _ _),hJ.right (by decide),fun j h => iwV_mono R w0.heap.size r.lo r.hi j _ _ _ h (one_new _ _)⟩
  ·intro f w1 hb hJ ⟨h5,h11,_⟩ K hK
   replace h11 : f 11 = _ := h11;obtain ⟨B,h5,nB,u0,u1,u2,AB⟩ := (show ∃ B,f 5 = ptr B ∧ w0.heap.size ≤ B ∧ ∃ u0 u1 u2,Bk B [u0,u1,u2] w1 from h5);obtain ⟨q0,q1,q2⟩ := (AB).c3;obtain ⟨qf0,qf1,qf2⟩ := (AB).f3;simp only [ov,oL,h5,h11];go_simp;refine hK _ _ ⟨undef,by simp only [ov,oL,h5,h11]; rfl,?_,((hb.setCell nB _).setCell nB _).setCell nB _,hJ.same (by simp),?_⟩
   ·exact ⟨B,h5,AB.put3K r.lo⟩
   ·exact iw_low hJ h5 AB
  ·intro f w1 hb hJ ⟨h6,h14,_⟩ K hK
   replace h14 : f 14 = _ := h14;obtain ⟨B,h6,nB,u0,u1,u2,AB⟩ := (show ∃ B,f 6 = ptr B ∧ w0.heap.size ≤ B ∧ ∃ u0 u1 u2,Bk B [u0,u1,u2] w1 from h6);obtain ⟨q0,q1,q2⟩ := (AB).c3;obtain ⟨qf0,qf1,qf2⟩ := (AB).f3;simp only [ov,oL,h6,h14];go_simp;refine hK _ _ ⟨undef,by simp only [ov,oL,h6,h14]; rfl,?_,((hb.setCell nB _).setCell nB _).setCell nB _,hJ.same (by simp),?_⟩
   ·exact ⟨B,h6,AB.put3K r.hi⟩
   ·exact iw_high hJ h6 AB
 intro f w1 hb1 hJ h;have h9 : f 9 = _ := h.1;have h10 : f 10 = _ := h.2.1;have h11 : f 11 = _ := h.2.2.1;have h12 : f 12 = _ := h.2.2.2.1;have h13 : f 13 = _ := h.2.2.2.2.1;have h14 : f 14 = _ := h.2.2.2.2.2.1;obtain ⟨S,h5,A5⟩ := (show ∃ b,f 5 = ptr b ∧ Bk b (c3 r.lo) w1 from h.2.2.2.2.2.2.2.2.1);obtain ⟨T,h6,A6⟩ := (show ∃ b,f 6 = ptr b ∧ Bk b (c3 r.hi) w1 from h.2.2.2.2.2.2.2.2.2.1);simp only [ov,oL,h9,h10,h11,h12,h13,h14,h5,h6];have KS : Hid (Bk S (c3 r.lo) w1) := A5;have KT : Hid (Bk T (c3 r.hi) w1) := A6;have HB1 := hdd hb1;clear h h9 h10 h11 h12 h13 h14 h5 h6 A5 A6 hJ hb1;refine HKK.out _ _ ?_;have HB2 : Hid (bw w w1) := below_on HB0.out HB1.out;have KQ := KP.out.later HB1.out;have q0 := KQ.c 0 rfl;have q1 := KQ.c 1 rfl;have q2 := KQ.c 2 rfl;clear KQ
 go_wp2_with fail
 refine (HN.out _ _).mono ?_;rintro e w3 ⟨rfl,hb3⟩;have HB3 : Hid (bw w w3) := below_on HB2.out hb3;have KS3 := hdd (KS.out.later hb3);have KT3 := hdd (KT.out.later hb3);have i0 := ix30 p;have i1 := ix31 p;have i2 := ix32 p;clear q0 q1 q2 HB0 HB1 HB2 KS KT KP KR hb3 HKK
 go_wp2_with fail
 refine wp_loop_rounds 4 ?_;rw [rounds_succ]
 go_wp2_with fail
 cases hx : inR r.lo.x r.hi.x p.x with
 | false =>
  have HX : Hid (∀ W,Calls Tryz.prog 142 #[.int .i64 r.lo.x,.int .i64 p.x,.int .i64 r.hi.x] W fun e w' => e = .returned (.bool false) ∧ w' = W) := fun W => by have := HI.out r.lo.x p.x r.hi.x W; rwa [hx] at this
  have s0 := KS3.out.c 0 rfl;have t0 := KT3.out.c 0 rfl
  go_quiet ((go_at_call 142; exact Calls.quiet_of_same (HX.out _)))
  go_wp2;go_ret;exact ⟨ret_bool (by simp [inS,hx]),HB3.out.trans (drewN_low _ _ _)⟩
 | true =>
  have HX : Hid (∀ W,Calls Tryz.prog 142 #[.int .i64 r.lo.x,.int .i64 p.x,.int .i64 r.hi.x] W fun e w' => e = .returned (.bool true) ∧ w' = W) := fun W => by have := HI.out r.lo.x p.x r.hi.x W; rwa [hx] at this
  have s0 := KS3.out.c 0 rfl;have t0 := KT3.out.c 0 rfl
  go_quiet ((go_at_call 142; exact Calls.quiet_of_same (HX.out _)))
  go_wp2_with fail
  clear s0 t0 HX;obtain ⟨w4,hw4⟩ : ∃ x,x = w3.drewN nq := ⟨_,rfl⟩;have HB4 : Hid (bw w w4) := by show Below _ _ _; rw [hw4]; exact HB3.out.trans (drewN_low _ _ _)
  have KS4 : Hid (Bk S (c3 r.lo) w4) := by show Bk _ _ _; rw [hw4]; exact KS3.out.later (drewN_low _ _ _)
  have KT4 : Hid (Bk T (c3 r.hi) w4) := by show Bk _ _ _; rw [hw4]; exact KT3.out.later (drewN_low _ _ _)
  rw [← hw4];clear hw4 HB3 KS3 KT3;rw [rounds_succ]
  go_wp2_with fail
  cases hy : inR r.lo.y r.hi.y p.y with
  | false =>
   have HX : Hid (∀ W,Calls Tryz.prog 142 #[.int .i64 r.lo.y,.int .i64 p.y,.int .i64 r.hi.y] W fun e w' => e = .returned (.bool false) ∧ w' = W) := fun W => by have := HI.out r.lo.y p.y r.hi.y W; rwa [hy] at this
   have s0 := KS4.out.c 1 rfl;have t0 := KT4.out.c 1 rfl
   go_quiet ((go_at_call 142; exact Calls.quiet_of_same (HX.out _)))
   go_wp2;go_ret;exact ⟨ret_bool (by simp [inS,hy]),HB4.out.trans (drewN_low _ _ _)⟩
  | true =>
   have HX : Hid (∀ W,Calls Tryz.prog 142 #[.int .i64 r.lo.y,.int .i64 p.y,.int .i64 r.hi.y] W fun e w' => e = .returned (.bool true) ∧ w' = W) := fun W => by have := HI.out r.lo.y p.y r.hi.y W; rwa [hy] at this
   have s0 := KS4.out.c 1 rfl;have t0 := KT4.out.c 1 rfl
   go_quiet ((go_at_call 142; exact Calls.quiet_of_same (HX.out _)))
   go_wp2_with fail
   clear s0 t0 HX;obtain ⟨w5,hw5⟩ : ∃ x,x = w4.drewN nq := ⟨_,rfl⟩;have HB5 : Hid (bw w w5) := by show Below _ _ _; rw [hw5]; exact HB4.out.trans (drewN_low _ _ _)
   have KS5 : Hid (Bk S (c3 r.lo) w5) := by show Bk _ _ _; rw [hw5]; exact KS4.out.later (drewN_low _ _ _)
   have KT5 : Hid (Bk T (c3 r.hi) w5) := by show Bk _ _ _; rw [hw5]; exact KT4.out.later (drewN_low _ _ _)
   rw [← hw5];clear hw5 HB4 KS4 KT4;rw [rounds_succ]
   go_wp2_with fail
   cases hz : inR r.lo.z r.hi.z p.z with
   | false =>
    have HX : Hid (∀ W,Calls Tryz.prog 142 #[.int .i64 r.lo.z,.int .i64 p.z,.int .i64 r.hi.z] W fun e w' => e = .returned (.bool false) ∧ w' = W) := fun W => by have := HI.out r.lo.z p.z r.hi.z W; rwa [hz] at this
    have s0 := KS5.out.c 2 rfl;have t0 := KT5.out.c 2 rfl
    go_quiet ((go_at_call 142; exact Calls.quiet_of_same (HX.out _)))
    go_wp2;go_ret;exact ⟨ret_bool (by simp [inS,hz]),HB5.out.trans (drewN_low _ _ _)⟩
   | true =>
    have HX : Hid (∀ W,Calls Tryz.prog 142 #[.int .i64 r.lo.z,.int .i64 p.z,.int .i64 r.hi.z] W fun e w' => e = .returned (.bool true) ∧ w' = W) := fun W => by have := HI.out r.lo.z p.z r.hi.z W; rwa [hz] at this
    have s0 := KS5.out.c 2 rfl;have t0 := KT5.out.c 2 rfl
    go_quiet ((go_at_call 142; exact Calls.quiet_of_same (HX.out _)))
    go_wp2_with fail
    clear s0 t0 HX;rw [rounds_succ];go_wp2;go_ret;exact ⟨ret_bool (by simp [inS,hx,hy,hz]),HB5.out.trans (drewN_low _ _ _)⟩
theorem isRig_any (r : Rg) (w : World) : CR 92 #[rgv r] w (.bool (rgOk r)) := by
 have HN : Hid (∀ x W,CR 141 #[v3 x] W (v3 x)) := numbersP_any;have HI : Hid (∀ lo x hi W,Calls Tryz.prog 142 #[.int .i64 lo,.int .i64 x,.int .i64 hi] W fun e w' => e = .returned (.bool (inR lo hi x)) ∧ w' = W) := isFrom_any;have HR : Hid (∀ x W,CR 143 #[rv x] W (.bool (rpOk x))) := isRampF_any;obtain ⟨w0,hw0⟩ : ∃ x,x = w.alloc (rgo r) := ⟨_,rfl⟩;have HB0 : Hid (bw w w0) := by show Below _ _ _; rw [hw0]; exact one_new _ _
 have KR0 : Hid (Bk w.heap.size (rgc r) w0) := by show Bk _ _ _; rw [hw0]; exact Bk.new w (rgc r) 35 w.heap.size rfl
 obtain ⟨R,hR⟩ : ∃ b,b = w.heap.size := ⟨_,rfl⟩
 go_enter Tryz.func92,Tryz.ntmps92
 go_wp2_with fail
 rename_i KK hkk;have HKK := (show Hid _ from hkk);clear hkk;simp only [← hw0,← hR];have KR : Hid (Bk R (rgc r) w0) := by rw [hR]; exact KR0
 clear KR0 hw0 hR
 refine region_all [zf,zf,zf,zt,zt,zf,zt,zt,zt,zt,zt,zt,zf,zf,zf,zf,zf,zf,zf,zf,zf,zf,zf,zf,zf,zf,zf,zf,zf,zf,zf,zf,zf,zf,zf,zf,zf,zf,zf,zf,zf]
  igP (igV R w0.heap.size r.lo r.hi) (Apart 3 4) (by kernel_rfl) (by kernel_rfl) ?_ ?_ ?_
 ·refine fun w _ => ⟨fun b e => ?_,fun b e => ?_,fun b e _ => ?_⟩
  all_goals (simp [undef] at e)
 ·refine ⟨?_,?_,?_,?_,?_,?_,?_,?_,?_,?_,trivial⟩
  ·intro f w1 hb hJ _ K hK
   simp only [ov,oL];go_simp;exact hK _ _ ⟨_,by simp only [ov,oL]; rfl,rfl,hb,hJ.other (by decide) (by decide) (brf),fun _ h => h⟩
  ·intro f w1 hb hJ ⟨h6,_⟩ K hK
   replace h6 : f 6 = _ := h6;have q0 := (KR.out.later hb).c 0 rfl;have q1 := (KR.out.later hb).c 1 rfl;have q2 := (KR.out.later hb).c 2 rfl;simp only [ov,oL,h6];go_simp;exact hK _ _ ⟨_,by simp only [ov,oL,h6]; rfl,rfl,hb,hJ.other (by decide) (by decide) (brf),fun _ h => h⟩
  ·intro f w1 hb hJ ⟨h7,_⟩ K hK
   replace h7 : f 7 = _ := h7;simp only [ov,oL,h7];go_simp;refine (HN.out _ _).mono ?_;rintro e w2 ⟨rfl,hb2⟩;exact hK _ _ ⟨_,by simp only [ov,oL,h7]; rfl,rfl,below_on hb hb2,hJ.other (by decide) (by decide) hb2,fun j h => igV_mono R w0.heap.size r.lo r.hi j _ _ _ h hb2⟩
  ·intro f w1 hb hJ _ K hK
   simp only [ov,oL];go_simp;exact hK _ _ ⟨_,by simp only [ov,oL]; rfl,rfl,hb,hJ.other (by decide) (by decide) (brf),fun _ h => h⟩
  ·intro f w1 hb hJ ⟨h9,_⟩ K hK
   replace h9 : f 9 = _ := h9;have q3 := (KR.out.later hb).c 3 rfl;have q4 := (KR.out.later hb).c 4 rfl;have q5 := (KR.out.later hb).c 5 rfl;simp only [ov,oL,h9];go_simp;exact hK _ _ ⟨_,by simp only [ov,oL,h9]; rfl,rfl,hb,hJ.other (by decide) (by decide) (brf),fun _ h => h⟩
  ·intro f w1 hb hJ ⟨h10,_⟩ K hK
   replace h10 : f 10 = _ := h10;simp only [ov,oL,h10];go_simp;refine (HN.out _ _).mono ?_;rintro e w2 ⟨rfl,hb2⟩;exact hK _ _ ⟨_,by simp only [ov,oL,h10]; rfl,rfl,below_on hb hb2,hJ.other (by decide) (by decide) hb2,fun j h => igV_mono R w0.heap.size r.lo r.hi j _ _ _ h hb2⟩
  ·intro f w1 hb hJ _ K hK
   simp only [ov,oL];go_simp;exact hK _ _ ⟨_,by simp only [ov,oL]; rfl,⟨w1.heap.size,rfl,hb.size,_,_,_,Bk.new w1 [.int .i64 0,.int .i64 0,.int .i64 0] 238 w1.heap.size rfl⟩,below_on hb (one_new _ _),hJ.left (by decide),fun j h => igV_mono R w0.heap.size r.lo r.hi j _ _ _ h (one_new _ _)⟩
  ·intro f w1 hb hJ _ K hK
   simp only [ov,oL];go_simp;exact hK _ _ ⟨_,by simp only [ov,oL]; rfl,⟨w1.heap.size,rfl,hb.size,_,_,_,Bk.new w1 [.int .i64 0,.int .i64 0,.int .i64 0] 238 w1.heap.size rfl⟩,below_on hb (one_new _ _),hJ.right (by decide),fun j h => igV_mono R w0.heap.size r.lo r.hi j _ _ _ h (one_new _ _)⟩
  ·intro f w1 hb hJ ⟨h3,h8,_⟩ K hK
   replace h8 : f 8 = _ := h8;obtain ⟨B,h3,nB,u0,u1,u2,AB⟩ := (show ∃ B,f 3 = ptr B ∧ w0.heap.size ≤ B ∧ ∃ u0 u1 u2,Bk B [u0,u1,u2] w1 from h3);obtain ⟨q0,q1,q2⟩ := (AB).c3;obtain ⟨qf0,qf1,qf2⟩ := (AB).f3;simp only [ov,oL,h3,h8];go_simp;refine hK _ _ ⟨undef,by simp only [ov,oL,h3,h8]; rfl,?_,((hb.setCell nB _).setCell nB _).setCell nB _,hJ.same (by simp),?_⟩
   ·exact ⟨B,h3,AB.put3K r.lo⟩
   ·exact ig_low hJ h3 AB
  ·intro f w1 hb hJ ⟨h4,h11,_⟩ K hK
   replace h11 : f 11 = _ := h11;obtain ⟨B,h4,nB,u0,u1,u2,AB⟩ := (show ∃ B,f 4 = ptr B ∧ w0.heap.size ≤ B ∧ ∃ u0 u1 u2,Bk B [u0,u1,u2] w1 from h4);obtain ⟨q0,q1,q2⟩ := (AB).c3;obtain ⟨qf0,qf1,qf2⟩ := (AB).f3;simp only [ov,oL,h4,h11];go_simp;refine hK _ _ ⟨undef,by simp only [ov,oL,h4,h11]; rfl,?_,((hb.setCell nB _).setCell nB _).setCell nB _,hJ.same (by simp),?_⟩
   ·exact ⟨B,h4,AB.put3K r.hi⟩
   ·exact ig_high hJ h4 AB
 intro f w1 hb1 hJ h;have h6 : f 6 = _ := h.1;have h7 : f 7 = _ := h.2.1;have h8 : f 8 = _ := h.2.2.1;have h9 : f 9 = _ := h.2.2.2.1;have h10 : f 10 = _ := h.2.2.2.2.1;have h11 : f 11 = _ := h.2.2.2.2.2.1;obtain ⟨S,h3,A5⟩ := (show ∃ b,f 3 = ptr b ∧ Bk b (c3 r.lo) w1 from h.2.2.2.2.2.2.2.2.1);obtain ⟨T,h4,A6⟩ := (show ∃ b,f 4 = ptr b ∧ Bk b (c3 r.hi) w1 from h.2.2.2.2.2.2.2.2.2.1);simp only [ov,oL,h6,h7,h8,h9,h10,h11,h3,h4];have KS : Hid (Bk S (c3 r.lo) w1) := A5;have KT : Hid (Bk T (c3 r.hi) w1) := A6;have HB1 := hdd hb1;clear h h6 h7 h8 h9 h10 h11 h3 h4 A5 A6 hJ hb1;refine HKK.out _ _ ?_;have HB2 : Hid (bw w w1) := below_on HB0.out HB1.out;have KR2 := hdd (KR.out.later HB1.out);clear HB0 HB1 HN KR HKK
 go_wp2_with fail
 refine wp_loop_rounds 4 ?_;rw [rounds_succ]
 cases hx : inR (-10000000) 0 r.lo.x with
 | false =>
  have s0 := KS.out.c 0 rfl
  go_wp2_with fail
  refine (HI.out _ _ _ _).mono ?_;rintro e w3 ⟨rfl,rfl⟩;rw [hx];go_wp2;go_ret;exact ⟨ret_bool (by simp [rgOk,endsB,endB,hx]),HB2.out⟩
 | true =>
  have s0 := KS.out.c 0 rfl;have t0 := KT.out.c 0 rfl
  go_wp2_with fail
  refine (HI.out _ _ _ _).mono ?_;rintro e w3 ⟨rfl,rfl⟩;rw [hx]
  go_wp2_with fail
  refine (HI.out _ _ _ _).mono ?_;rintro e w4 ⟨rfl,rfl⟩
  cases gx : inR 0 10000000 r.hi.x with
  | false =>
   go_wp2;go_ret;exact ⟨ret_bool (by simp [rgOk,endsB,endB,gx]),HB2.out⟩
  | true =>
   go_wp2_with fail
   clear s0 t0;rw [rounds_succ]
   cases hy : inR (-10000000) 0 r.lo.y with
   | false =>
    have s0 := KS.out.c 1 rfl
    go_wp2_with fail
    refine (HI.out _ _ _ _).mono ?_;rintro e w3 ⟨rfl,rfl⟩;rw [hy];go_wp2;go_ret;exact ⟨ret_bool (by simp [rgOk,endsB,endB,hy]),HB2.out⟩
   | true =>
    have s0 := KS.out.c 1 rfl;have t0 := KT.out.c 1 rfl
    go_wp2_with fail
    refine (HI.out _ _ _ _).mono ?_;rintro e w3 ⟨rfl,rfl⟩;rw [hy]
    go_wp2_with fail
    refine (HI.out _ _ _ _).mono ?_;rintro e w4 ⟨rfl,rfl⟩
    cases gy : inR 0 10000000 r.hi.y with
    | false =>
     go_wp2;go_ret;exact ⟨ret_bool (by simp [rgOk,endsB,endB,gy]),HB2.out⟩
    | true =>
     go_wp2_with fail
     clear s0 t0;rw [rounds_succ]
     cases hz : inR (-10000000) 0 r.lo.z with
     | false =>
      have s0 := KS.out.c 2 rfl
      go_wp2_with fail
      refine (HI.out _ _ _ _).mono ?_;rintro e w3 ⟨rfl,rfl⟩;rw [hz];go_wp2;go_ret;exact ⟨ret_bool (by simp [rgOk,endsB,endB,hz]),HB2.out⟩
     | true =>
      have s0 := KS.out.c 2 rfl;have t0 := KT.out.c 2 rfl
      go_wp2_with fail
      refine (HI.out _ _ _ _).mono ?_;rintro e w3 ⟨rfl,rfl⟩;rw [hz]
      go_wp2_with fail
      refine (HI.out _ _ _ _).mono ?_;rintro e w4 ⟨rfl,rfl⟩
      cases gz : inR 0 10000000 r.hi.z with
      | false =>
       go_wp2;go_ret;exact ⟨ret_bool (by simp [rgOk,endsB,endB,gz]),HB2.out⟩
      | true =>
       go_wp2_with fail
       clear s0 t0;rw [rounds_succ];have HE : Hid (endsB r = true) := by show _ = _; simp [endsB,endB,hx,gx,hy,gy,hz,gz]
       have q6 := KR2.out.c 6 rfl;have q7 := KR2.out.c 7 rfl;have q8 := KR2.out.c 8 rfl;have q9 := KR2.out.c 9 rfl;have q10 := KR2.out.c 10 rfl;have q11 := KR2.out.c 11 rfl
       go_wp2_with fail
       refine (HR.out _ _).mono ?_;rintro e w5 ⟨rfl,hb5⟩;have HB5 : Hid (bw w w5) := below_on HB2.out hb5;have KR5 := KR2.out.later hb5;clear q6 q7 q8 q9 q10 q11;have q10 := KR5.c 10 rfl;have q11 := KR5.c 11 rfl;clear KR5 hb5
       cases h1 : rpOk r.rp with
       | false =>
        go_wp2;go_ret;exact ⟨ret_bool (by simp [rgOk,h1]),HB5.out⟩
       | true =>
        go_wp2_with fail
        refine (HI.out _ _ _ _).mono ?_;rintro e w6 ⟨rfl,rfl⟩
        cases h2 : inR 1 100000 r.ps with
        | false =>
         go_wp2;go_ret;exact ⟨ret_bool (by simp [rgOk,h2]),HB5.out⟩
        | true =>
         go_wp2_with fail
         refine (HI.out _ _ _ _).mono ?_;rintro e w7 ⟨rfl,rfl⟩;go_wp2;go_ret;exact ⟨ret_bool (by simp [rgOk,HE.out,h1,h2]),HB5.out⟩
end Go.Proofs.YtcajifelbldjnaaGreatDoor.K
