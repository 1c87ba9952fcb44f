import Derived.Test.YtcajifelbldjnaaGreatDoorProg
import Derived.WalkKit
import Derived.WalkSpells
import Derived.WalkLawsBesides
import Derived.Deep.QuietTactic
import Derived.BigQuiet
set_option maxRecDepth 100000
set_option maxHeartbeats 25600000
set_option linter.unusedVariables false
namespace Go.Proofs.YtcajifelbldjnaaGreatDoor
open Go.RowKit
theorem brf {n : Nat} {w : World} : Below n w w := Below.refl n w
abbrev zf : Bool := false
abbrev zt : Bool := true
abbrev bw (a b : World) : Prop := Below a.heap.size a b
theorem hdd {p : Prop} (h : p) : Hid p := h
abbrev CR (f : FuncId) (a : Array Value) (w : World) (v : Value) : Prop := Calls Tryz.prog f a w fun e w' => e = .returned v ∧ Below w.heap.size w w'
theorem bcell {W w1 : World} (hb : bw W w1) : (∀ b o, b < W.heap.size → w1.cell? ⟨b, o, none⟩ = W.cell? ⟨b, o, none⟩) ∧ (∀ b o, b < W.heap.size → w1.frozen? ⟨b, o, none⟩ = W.frozen? ⟨b, o, none⟩) :=
 ⟨fun b o h => hb.cell (p := ⟨b, o, none⟩) h, fun b o h => hb.frozen (p := ⟨b, o, none⟩) h⟩
theorem ret_bool {a b : Bool} (h : a = b) : Ending.returned (.bool a) = .returned (.bool b) := by rw [h]
theorem ret_int {k : IntKind} {a b : Int} (h : a = b) : Ending.returned (.int k a) = .returned (.int k b) := by rw [h]
def inR (lo hi x : Int) : Bool := decide (lo ≤ x) && decide (x ≤ hi)
theorem inR_yes {lo hi x : Int} (h : lo ≤ x) (h2 : x ≤ hi) : inR lo hi x = true := by simp [inR, h, h2]
theorem inR_no {lo hi x : Int} (h : x < lo ∨ hi < x) : inR lo hi x = false := by
 simp only [inR, Bool.and_eq_false_iff, decide_eq_false_iff_not]; omega
theorem inR_iff {lo hi x : Int} : inR lo hi x = true ↔ lo ≤ x ∧ x ≤ hi := by simp [inR]
abbrev clo (p q : Nat) : Value := .func (.func 189) #[] #[.pointer (some ⟨p, 0, none⟩), .pointer (some ⟨q, 0, none⟩)]
abbrev clo32 (p q : Nat) : Value := .func (.func 228) #[] #[.pointer (some ⟨p, 0, none⟩), .pointer (some ⟨q, 0, none⟩)]
theorem within_int (lo hi : Int) (w : World) :
  Calls Tryz.prog 123 #[.int .i64 lo, .int .i64 hi] w fun e w' => e = .returned (clo w.heap.size (w.heap.size + 1)) ∧ w' = (w.alloc (.cells #[.int .i64 lo] 3)).alloc (.cells #[.int .i64 hi] 3) := by
 go_enter Tryz.func123, Tryz.ntmps123
 go_wp2;go_ret;exact ⟨by simp, rfl⟩
theorem within_rune (lo hi : Int) (w : World) :
  Calls Tryz.prog 188 #[.int .i32 lo, .int .i32 hi] w fun e w' => e = .returned (clo32 w.heap.size (w.heap.size + 1)) ∧ w' = (w.alloc (.cells #[.int .i32 lo] 21)).alloc (.cells #[.int .i32 hi] 21) := by
 go_enter Tryz.func188, Tryz.ntmps188
 go_wp2;go_ret;exact ⟨by simp, rfl⟩
theorem in_int (x lo hi : Int) (p q : Nat) (w : World) (hp : w.cell? ⟨p, 0, none⟩ = some (.int .i64 lo)) (hq : w.cell? ⟨q, 0, none⟩ = some (.int .i64 hi)) :
  Calls Tryz.prog 189 #[.int .i64 x, .pointer (some ⟨p, 0, none⟩), .pointer (some ⟨q, 0, none⟩)] w fun e w' => e = .returned (.bool (inR lo hi x)) ∧ w' = w := by
 unfold inR
 by_cases h : lo ≤ x
 ·go_enter Tryz.func189, Tryz.ntmps189
  go_wp2;go_ret;exact ⟨by simp [h], rfl⟩
 ·go_enter Tryz.func189, Tryz.ntmps189
  go_wp2;go_ret;exact ⟨by simp; omega, rfl⟩
theorem in_rune (x lo hi : Int) (p q : Nat) (w : World) (hp : w.cell? ⟨p, 0, none⟩ = some (.int .i32 lo)) (hq : w.cell? ⟨q, 0, none⟩ = some (.int .i32 hi)) :
  Calls Tryz.prog 228 #[.int .i32 x, .pointer (some ⟨p, 0, none⟩), .pointer (some ⟨q, 0, none⟩)] w fun e w' => e = .returned (.bool (inR lo hi x)) ∧ w' = w := by
 unfold inR
 by_cases h : lo ≤ x
 ·go_enter Tryz.func228, Tryz.ntmps228
  go_wp2;go_ret;exact ⟨by simp [h], rfl⟩
 ·go_enter Tryz.func228, Tryz.ntmps228
  go_wp2;go_ret;exact ⟨by simp; omega, rfl⟩
theorem every_any (xs : List Int) (lo hi : Int) (p q b : Nat) (cap : Nat) (w : World) (hn : xs.length ≤ 100) (hp : w.cell? ⟨p, 0, none⟩ = some (.int .i64 lo)) (hq : w.cell? ⟨q, 0, none⟩ = some (.int .i64 hi))
  (hc : ∀ k, k < xs.length → w.cell? ⟨b, k, none⟩ = some (.int .i64 (xs.getD k 0))) :
  Calls Tryz.prog 122 #[clo p q, .slice (some ⟨b, 0, none⟩) xs.length cap] w fun e w' => e = .returned (.bool (xs.all (inR lo hi))) ∧ w' = w := by
 obtain ⟨n, hxn⟩ : ∃ n, n = xs.length := ⟨_, rfl⟩;have HN := hdd hxn;rw [← hxn] at hc hn ⊢;clear hxn
 go_enter Tryz.func122, Tryz.ntmps122
 go_wp2
 go_loopw [9] (fun i wr => ∃ k : Nat, k ≤ n ∧ i = .int .i64 k ∧ wr = w ∧ ∀ j, j < k → inR lo hi (xs.getD j 0) = true) (fun i _ => n - (intOf i).toNat)
 case atStart => exact ⟨0, Nat.zero_le _, rfl, rfl, fun j h => absurd h (Nat.not_lt_zero _)⟩
 case round =>
  obtain ⟨k, hk, rfl, rfl, hall⟩ := hrel;have HA := hdd hall;clear hall
  by_cases hlt : k < n
  ·have hx := hc k hlt
   obtain ⟨x, hxe⟩ : ∃ x, x = xs.getD k 0 := ⟨_, rfl⟩;have HX := hdd hxe;rw [← hxe] at hx;clear hxe hc
   cases hb : inR lo hi x with
   | true =>
    go_wp2_with (go_at_call 189; refine (in_int x lo hi p q _ hp hq).mono ?_; rintro e w1 ⟨rfl, rfl⟩)
    go_roundw
    case rel => exact ⟨k + 1, by omega, by simp, by trivial, fun j hj => (Nat.lt_succ_iff_lt_or_eq.1 hj).elim (HA.out j) fun e => by rw [e, ← HX.out]; exact hb⟩
    case measure => simp [intOf]; omega
   | false =>
    go_wp2_with (go_at_call 189; refine (in_int x lo hi p q _ hp hq).mono ?_; rintro e w1 ⟨rfl, rfl⟩)
    go_ret;refine ⟨ret_bool ?_, rfl⟩;symm;rw [List.all_eq_false];refine ⟨x, ?_, by simp [hb]⟩;have hl := hlt;rw [HN.out] at hl;rw [HX.out, List.getD_eq_getElem?_getD, List.getElem?_eq_getElem hl];exact List.getElem_mem hl
  ·go_wp2
   go_ret;refine ⟨ret_bool ?_, rfl⟩;symm;rw [List.all_eq_true];intro x hx;obtain ⟨j, hj, rfl⟩ := List.getElem_of_mem hx;have := HA.out j (by rw [HN.out] at hlt; omega);rwa [List.getD_eq_getElem?_getD, List.getElem?_eq_getElem hj] at this
def overL (f : Nat → Value) : List Bool → Nat → List Value → List Value
 | [], _, l => l
 | _ :: _, _, [] => []
 | true :: m, k, _ :: l => f k :: overL f m (k + 1) l
 | false :: m, k, v :: l => v :: overL f m (k + 1) l
def over (a : Act) (m : List Bool) (f : Nat → Value) : Act := { tmps := ⟨overL f m 0 a.tmps.toList⟩, defers := a.defers }
def upd (f : Nat → Value) (d : Nat) (v : Value) : Nat → Value := fun k => if k = d then v else f k
theorem upd_same (f : Nat → Value) (d : Nat) (v : Value) : upd f d v d = v := if_pos rfl
theorem upd_other {f : Nat → Value} {d k : Nat} {v : Value} (h : k ≠ d) : upd f d v k = f k := if_neg h
theorem overL_at (f : Nat → Value) : ∀ (m : List Bool) (k j : Nat) (l : List Value), m[j]? = some true → j < l.length → (overL f m k l)[j]? = some (f (k + j))
 | [], _, _, _, h, _ => by simp at h
 | _ :: _, _, _, [], _, h => by simp at h
 | true :: m, k, 0, _ :: l, _, _ => by simp [overL]
 | false :: m, k, 0, _ :: l, h, _ => by simp at h
 | true :: m, k, j + 1, _ :: l, h, hl => by
  have := overL_at f m (k + 1) j l (by simpa using h) (by simpa using hl);simp only [overL, List.getElem?_cons_succ, this]
  congr 2; omega
 | false :: m, k, j + 1, _ :: l, h, hl => by
  have := overL_at f m (k + 1) j l (by simpa using h) (by simpa using hl);simp only [overL, List.getElem?_cons_succ, this]
  congr 2; omega
theorem overL_congr {f g : Nat → Value} : ∀ (m : List Bool) (k : Nat) (l : List Value), (∀ i, k ≤ i → f i = g i) → overL f m k l = overL g m k l
 | [], _, _, _ => rfl
 | _ :: _, _, [], _ => rfl
 | true :: m, k, _ :: l, h => by simp only [overL]; rw [h k (Nat.le_refl _), overL_congr m (k + 1) l fun i hi => h i (by omega)]
 | false :: m, k, _ :: l, h => by simp only [overL]; rw [overL_congr m (k + 1) l fun i hi => h i (by omega)]
theorem overL_set (f : Nat → Value) (v : Value) : ∀ (m : List Bool) (k j : Nat) (l : List Value), m[j]? = some true → (overL f m k l).set j v = overL (upd f (k + j) v) m k l
 | [], _, _, _, h => by simp at h
 | _ :: _, _, _, [], _ => by simp [overL]
 | true :: m, k, 0, _ :: l, _ => by
  simp only [overL, List.set_cons_zero, Nat.add_zero, upd_same];rw [overL_congr (f := f) (g := upd f k v) m (k + 1) l fun i hi => (upd_other (by omega)).symm]
 | false :: m, k, 0, _ :: l, h => by simp at h
 | true :: m, k, j + 1, _ :: l, h => by
  simp only [overL, List.set_cons_succ];rw [overL_set f v m (k + 1) j l (by simpa using h), upd_other (by omega)]
  congr 3; omega
 | false :: m, k, j + 1, _ :: l, h => by
  simp only [overL, List.set_cons_succ];rw [overL_set f v m (k + 1) j l (by simpa using h)]
  congr 3; omega
theorem over_put (a : Act) (m : List Bool) (f : Nat → Value) (d : Nat) (v : Value) (h : m[d]? = some true) : (over a m f).put (some d) v = over a m (upd f d v) := by
 simp only [over, Act.put]
 congr 1
 apply Array.ext'
 simp only [Array.toList_setIfInBounds];rw [overL_set f v m 0 d _ h, Nat.zero_add]
theorem overL_start (l' : List Value) : ∀ (l : List Value) (m : List Bool) (k : Nat), l'.drop k = l → overL (fun k => (l'[k]?).getD undef) m k l = l
 | [], m, k, _ => by cases m <;> simp [overL]
 | v :: l, [], k, _ => rfl
 | v :: l, b :: m, k, h => by
  have hk : l'[k]? = some v := by have := congrArg (·[0]?) h; simpa using this
  have hd : l'.drop (k + 1) = l := by have := congrArg (·.tail) h; simpa using this
  have ih := overL_start l' l m (k + 1) hd
  cases b
  ·simp only [overL]; rw [ih]
  ·simp only [overL]; rw [ih, hk]; rfl
theorem over_start (a : Act) (m : List Bool) : over a m (fun k => (a.tmps.toList[k]?).getD undef) = a := by
 cases a
 simp only [over]
 congr 1
 apply Array.ext'
 exact overL_start _ _ m 0 rfl
abbrev Plan := List (Nat × List Nat × Option (Nat × Bool))
def planOne (ops : Array Oper) (m : List Bool) (n : Nat) (o : Oper) (p : Nat × List Nat × Option (Nat × Bool)) : Bool :=
 (o.dst == some p.1) && (m.getD p.1 false) && decide (p.1 < n) && p.2.1.all (fun d => o.after.any fun e => Region.binds .any e && (((ops[e.on]?).bind (·.dst)) == some d)) &&
 (match o.guard, p.2.2 with
  | none, none => true
  | some (j, b), some (s, b') => (((ops[j]?).bind (·.dst)) == some s) && (b == b') && (m.getD s false) && decide (s < n)
  | _, _ => false)
def nodupB : List Nat → Bool
 | [] => true
 | d :: l => !l.contains d && nodupB l
def planAll (ops : Array Oper) (m : List Bool) (n : Nat) : List Oper → Plan → Bool
 | [], [] => true
 | o :: l, p :: q => planOne ops m n o p && planAll ops m n l q
 | _, _ => false
def backB : Nat → List Oper → Bool
 | _, [] => true
 | k, o :: l => o.after.all (fun e => decide (e.on < k)) && backB (k + 1) l
def planOk (ops : Array Oper) (plan : Plan) (m : List Bool) (n : Nat) : Bool := backB 0 ops.toList && nodupB (plan.map (·.1)) && planAll ops m n ops.toList plan
def AllP (V : Nat → Value → World → Prop) (f : Nat → Value) (w : World) : Plan → Prop
 | [] => True
 | p :: q => V p.1 (f p.1) w ∧ AllP V f w q
section
variable (P : Program) (Q : Exit → Act → World → Prop) (a : Act) (m : List Bool) (V : Nat → Value → World → Prop) (w0 : World)
def AllV (f : Nat → Value) (w : World) : List Nat → Prop
 | [] => True
 | d :: l => V d (f d) w ∧ AllV f w l
def Does (o : Oper) (d : Nat) (f : Nat → Value) (w : World) : Prop :=
 ∀ K : Act → World → Prop, (∀ a' w', (∃ v, V d v w' ∧ a' = (over a m f).put (some d) v ∧ bw w w') → K a' w') → o.wp P (over a m f) w K Q
def Obl (o : Oper) (p : Nat × List Nat × Option (Nat × Bool)) : Prop :=
 ∀ f w, bw w0 w → AllV V f w p.2.1 → match p.2.2 with
  | none => Does P Q a m V o p.1 f w
  | some (s, b) => (f s = .bool b → Does P Q a m V o p.1 f w) ∧ (f s ≠ .bool b → V p.1 undef w)
def Obls : List Oper → Plan → Prop
 | o :: l, p :: q => Obl P Q a m V w0 o p ∧ Obls l q
 | _, _ => True
end
theorem planAll_at {ops : Array Oper} {m : List Bool} {n : Nat} : ∀ {l : List Oper} {q : Plan}, planAll ops m n l q = true → ∀ {i : Nat} {o : Oper}, l[i]? = some o → ∃ p, q[i]? = some p ∧ planOne ops m n o p = true
 | [], _, _, _, _, h => by simp at h
 | _ :: _, [], h, _, _, _ => by simp [planAll] at h
 | o :: l, p :: q, h, 0, o', ho => by
  simp only [planAll, Bool.and_eq_true] at h;simp at ho; subst ho;exact ⟨p, by simp, h.1⟩
 | o :: l, p :: q, h, i + 1, o', ho => by
  simp only [planAll, Bool.and_eq_true] at h;obtain ⟨p', hp, h'⟩ := planAll_at h.2 (i := i) (by simpa using ho);exact ⟨p', by simpa using hp, h'⟩
theorem obls_at {P : Program} {Q : Exit → Act → World → Prop} {a : Act} {m : List Bool} {V : Nat → Value → World → Prop} {w0 : World} : ∀ {l : List Oper} {q : Plan}, Obls P Q a m V w0 l q → ∀ {i : Nat} {o : Oper} {p}, l[i]? = some o → q[i]? = some p → Obl P Q a m V w0 o p
 | [], _, _, _, _, _, h, _ => by simp at h
 | _ :: _, [], _, _, _, _, _, h => by simp at h
 | o :: l, p :: q, h, 0, _, _, ho, hp => by simp at ho hp; subst ho; subst hp; exact h.1
 | o :: l, p :: q, h, i + 1, _, _, ho, hp => obls_at h.2 (i := i) (by simpa using ho) (by simpa using hp)
theorem nodup_at : ∀ {l : List Nat}, nodupB l = true → ∀ {i j d : Nat}, l[i]? = some d → l[j]? = some d → i = j
 | [], _, _, _, _, h, _ => by simp at h
 | x :: l, h, 0, 0, d, _, _ => rfl
 | x :: l, h, 0, j + 1, d, hi, hj => by
  simp only [nodupB, Bool.and_eq_true, Bool.not_eq_true', List.contains_eq_mem, decide_eq_false_iff_not] at h;simp at hi; subst hi;exact absurd (List.mem_of_getElem? (by simpa using hj)) h.1
 | x :: l, h, i + 1, 0, d, hi, hj => by
  simp only [nodupB, Bool.and_eq_true, Bool.not_eq_true', List.contains_eq_mem, decide_eq_false_iff_not] at h;simp at hj; subst hj;exact absurd (List.mem_of_getElem? (by simpa using hi)) h.1
 | x :: l, h, i + 1, j + 1, d, hi, hj => by
  simp only [nodupB, Bool.and_eq_true] at h;rw [nodup_at h.2 (i := i) (j := j) (by simpa using hi) (by simpa using hj)]
theorem getD_true {m : List Bool} {d : Nat} (h : m.getD d false = true) : m[d]? = some true := by
 rw [List.getD_eq_getElem?_getD] at h
 cases e : m[d]? with
 | none => rw [e] at h; simp at h
 | some b => rw [e] at h; simp at h; rw [h]
section
variable {P : Program} {Q : Exit → Act → World → Prop} {a : Act} {m : List Bool} {V : Nat → Value → World → Prop} {w0 : World} {ops : Array Oper} {plan : Plan}
def Inv (a : Act) (m : List Bool) (V : Nat → Value → World → Prop) (w0 : World) (ops : Array Oper) (listed : Array Bool) (a' : Act) (w : World) : Prop :=
 ∃ f, a' = over a m f ∧ bw w0 w ∧ ∀ (i : Nat) (o : Oper) (d : Nat), ops[i]? = some o → o.dst = some d → listed[i]? = some true → V d (f d) w
theorem inv_step (hmono : ∀ d v w w', V d v w → bw w w' → V d v w') (hok : planOk ops plan m a.tmps.size = true) (hob : Obls P Q a m V w0 ops.toList plan)
  {listed : Array Bool} {i : Nat} (hi : i ∈ Region.ready .any ops listed) {a' : Act} {w : World} (h : Inv a m V w0 ops listed a' w) :
  wpOp P ops Q i (fun a2 w2 => Inv a m V w0 ops (listed.setIfInBounds i true) a2 w2) a' w := by
 simp only [planOk, Bool.and_eq_true] at hok;obtain ⟨⟨_, hnd⟩, hall⟩ := hok;simp only [Region.ready, List.mem_filter, List.mem_range, Bool.and_eq_true] at hi;obtain ⟨hlt, hun, hpre⟩ := hi;obtain ⟨o, ho⟩ : ∃ o, ops[i]? = some o := ⟨ops[i], by simp [hlt]⟩;rw [ho] at hpre;simp only [Option.map_some, Option.getD_some] at hpre;have hoL : ops.toList[i]? = some o := by simpa using ho
 obtain ⟨p, hp, h1⟩ := planAll_at hall hoL;have hO := obls_at hob hoL hp;simp only [planOne, Bool.and_eq_true] at h1;obtain ⟨⟨⟨⟨hd, hm⟩, hdn⟩, hps⟩, hg⟩ := h1;have hd' : o.dst = some p.1 := by simpa using hd
 have hm' := getD_true hm;obtain ⟨f, rfl, hb, hV⟩ := h
 have hav : ∀ l : List Nat, (∀ d ∈ l, d ∈ p.2.1) → AllV V f w l := by
  intro l
  induction l with
  | nil => intro _; trivial
  | cons d l ih =>
   intro hl;refine ⟨?_, ih fun x hx => hl x (by simp [hx])⟩;have h2 := List.all_eq_true.1 hps d (hl d (by simp));obtain ⟨e, he, h3⟩ := Array.any_eq_true'.1 h2;simp only [Bool.and_eq_true] at h3;have h4 := Array.all_eq_true'.1 hpre e he;rw [h3.1] at h4;simp only [Bool.not_true, Bool.false_or] at h4;have h5 : (ops[e.on]?).bind (·.dst) = some d := by simpa using h3.2
   obtain ⟨oe, hoe, hde⟩ := Option.bind_eq_some_iff.1 h5;refine hV e.on oe d hoe hde ?_;simp only [Array.getD_eq_getD_getElem?] at h4
   cases e6 : listed[e.on]? with
   | none => rw [e6] at h4; simp at h4
   | some b => rw [e6] at h4; simp at h4; rw [h4]
 have hav := hav p.2.1 fun _ h => h
 have hfin : ∀ v w2, V p.1 v w2 → bw w w2 → Inv a m V w0 ops (listed.setIfInBounds i true) ((over a m f).put (some p.1) v) w2 := by
  intro v w2 hv hb2;refine ⟨upd f p.1 v, over_put a m f p.1 v hm', hb.trans (hb2.mono hb.size), ?_⟩;intro j oj d hj hdj hlj
  by_cases e : j = i
  ·subst e
   rw [ho] at hj; cases hj;rw [hd'] at hdj; cases hdj;rw [upd_same]; exact hv
  ·have hne : d ≠ p.1 := by
    intro e2; subst e2;obtain ⟨pj, hpj, h1j⟩ := planAll_at hall (i := j) (by simpa using hj);simp only [planOne, Bool.and_eq_true] at h1j;have hdj2 : oj.dst = some pj.1 := by simpa using h1j.1.1.1.1
    rw [hdj] at hdj2;refine e (nodup_at hnd (i := j) (j := i) (d := p.1) ?_ ?_)
    ·simp only [List.getElem?_map, hpj, Option.map_some, Option.some.injEq]; exact (Option.some.inj hdj2).symm
    ·simp only [List.getElem?_map, hp, Option.map_some]
   rw [upd_other hne];refine hmono _ _ _ _ (hV j oj d hj hdj ?_) hb2
   simpa [Array.getElem?_setIfInBounds, Ne.symm e] using hlj
 have hDoes : Does P Q a m V o p.1 f w → o.wp P (over a m f) w (fun a2 w2 => Inv a m V w0 ops (listed.setIfInBounds i true) a2 w2) Q := fun hD =>
  hD _ fun a2 w2 ⟨v, hv, ha, hb2⟩ => by subst ha; exact hfin v w2 hv hb2
 have hO := hO f w hb hav;unfold wpOp;rw [ho];simp only
 cases hgo : o.guard with
 | none =>
  rw [hgo] at hg;have hw : Region.wanted o (yielded ops (over a m f).tmps) = true := by simp [Region.wanted, hgo]
  rw [if_pos hw]
  cases hp2 : p.2.2 with
  | none => rw [hp2] at hO; exact .inl (hDoes hO)
  | some x => rw [hp2] at hg; simp at hg
 | some jb =>
  obtain ⟨j, b⟩ := jb;rw [hgo] at hg
  cases hp2 : p.2.2 with
  | none => rw [hp2] at hg; simp at hg
  | some sb =>
   obtain ⟨s, b'⟩ := sb;rw [hp2] at hg hO;simp only [Bool.and_eq_true] at hg;obtain ⟨⟨⟨hs, hbb⟩, hms⟩, hsn⟩ := hg;have hbb : b = b' := by simpa using hbb
   subst hbb;have hs : (ops[j]?).bind (·.dst) = some s := by simpa using hs
   have hgs : (over a m f).tmps[s]? = some (f s) := by
    have := overL_at f m 0 s a.tmps.toList (getD_true hms) (by simpa using hsn)
    simpa [over] using this
   have hy : yielded ops (over a m f).tmps j = match f s with | .bool x => some x | _ => none := by
    unfold yielded;rw [hs];simp only [Option.bind_some, hgs]
    cases f s <;> rfl
   by_cases hw : f s = .bool b
   ·have : Region.wanted o (yielded ops (over a m f).tmps) = true := by simp [Region.wanted, hgo, hy, hw]
    rw [if_pos this];exact .inl (hDoes (hO.1 hw))
   ·have : ¬ Region.wanted o (yielded ops (over a m f).tmps) = true := by
     simp only [Region.wanted, hgo, hy, beq_iff_eq]
     cases e : f s <;> simp
     rename_i x;intro e2; subst e2; exact hw e
    rw [if_neg this, hd'];exact hfin _ _ (hO.2 hw) (brf)
theorem back_at : ∀ {l : List Oper} {k : Nat}, backB k l = true → ∀ {i : Nat} {o : Oper}, l[i]? = some o → ∀ e ∈ o.after, e.on < k + i
 | [], _, _, _, _, h => by simp at h
 | o :: l, k, h, 0, o', ho => by
  simp only [backB, Bool.and_eq_true] at h;simp at ho; subst ho;intro e he;have := Array.all_eq_true'.1 h.1 e he
  simpa using this
 | o :: l, k, h, i + 1, o', ho => by
  simp only [backB, Bool.and_eq_true] at h;intro e he;have := back_at h.2 (i := i) (by simpa using ho) e he;omega
theorem all_listed {listed : Array Bool} (hback : backB 0 ops.toList = true) (hsz : listed.size = ops.size) (hr : Region.ready .any ops listed = []) : ∀ i, i < ops.size → listed[i]? = some true := by
 intro i
 induction i using Nat.strongRecOn with
 | ind i ih =>
  intro hi
  cases hl : listed[i]? with
  | none => rw [Array.getElem?_eq_none_iff] at hl; omega
  | some b =>
   cases b with
   | true => rfl
   | false =>
    exfalso
    have hm : i ∈ Region.ready .any ops listed := by
     simp only [Region.ready, List.mem_filter, List.mem_range, Bool.and_eq_true];refine ⟨hi, by simp [Array.getD_eq_getD_getElem?, hl], ?_⟩;have ho : ops[i]? = some ops[i] := by simp [hi]
     rw [ho];simp only [Option.map_some, Option.getD_some];rw [Array.all_eq_true'];intro e he;have h1 := back_at hback (i := i) (o := ops[i]) (by simp) e he;have h2 := ih e.on (by omega) (by omega);simp [Array.getD_eq_getD_getElem?, h2]
    rw [hr] at hm;simp at hm
theorem allP_of {f : Nat → Value} {w : World} : ∀ {l : List Oper} {q : Plan} {n : Nat}, planAll ops m n l q = true → (∀ (i : Nat) (o : Oper) (d : Nat), l[i]? = some o → o.dst = some d → V d (f d) w) → AllP V f w q
 | [], [], _, _, _ => trivial
 | [], _ :: _, _, h, _ => by simp [planAll] at h
 | _ :: _, [], _, h, _ => by simp [planAll] at h
 | o :: l, p :: q, n, h, hV => by
  simp only [planAll, Bool.and_eq_true] at h
  have hd : o.dst = some p.1 := by
   have := h.1;simp only [planOne, Bool.and_eq_true] at this
   simpa using this.1.1.1.1
  exact ⟨hV 0 o p.1 (by simp) hd, allP_of h.2 fun i o' d ho hd => hV (i + 1) o' d (by simpa using ho) hd⟩
theorem any_inv (hmono : ∀ d v w w', V d v w → bw w w' → V d v w') (hok : planOk ops plan m a.tmps.size = true) (hob : Obls P Q a m V w0 ops.toList plan)
  (hdone : ∀ f w, bw w0 w → AllP V f w plan → Q .normal (over a m f) w) :
  ∀ (fuel : Nat) (listed : Array Bool) (a' : Act) (w : World), listed.size = ops.size → listed.toList.count false ≤ fuel → Inv a m V w0 ops listed a' w → wpAny P .any ops Q fuel listed a' w := by
 have hok2 := hok;simp only [planOk, Bool.and_eq_true] at hok2;obtain ⟨⟨hback, _⟩, hall⟩ := hok2
 have hend : ∀ (listed : Array Bool) (a' : Act) (w : World), listed.size = ops.size → Inv a m V w0 ops listed a' w → Region.ready .any ops listed = [] → Q .normal a' w := by
  rintro listed a' w hsz ⟨f, rfl, hb, hV⟩ hr;refine hdone f w hb (allP_of hall fun i o d ho hd => hV i o d (by simpa using ho) hd (all_listed hback hsz hr i ?_))
  by_cases h : i < ops.size
  ·exact h
  ·have : ops.toList[i]? = none := by simp; omega
   rw [this] at ho; simp at ho
 intro fuel
 induction fuel with
 | zero =>
  intro listed a' w hsz hc hI
  have hr : Region.ready .any ops listed = [] := by
   rw [List.eq_nil_iff_forall_not_mem];intro i hi;simp only [Region.ready, List.mem_filter, List.mem_range, Bool.and_eq_true] at hi;have h0 : listed.toList.count false = 0 := by omega
   rw [List.count_eq_zero] at h0;have hlt : i < listed.size := by omega
   have h1 := hi.2.1;simp only [Array.getD_eq_getD_getElem?, Array.getElem?_eq_getElem hlt, Option.getD_some, Bool.not_eq_true'] at h1;exact h0 (by rw [← h1]; simp)
  exact ⟨hr, hend listed a' w hsz hI hr⟩
 | succ fuel ih =>
  intro listed a' w hsz hc hI;refine ⟨hend listed a' w hsz hI, fun i hi => wpOp_mono (fun a2 w2 h2 => ih _ _ _ (by simpa using hsz) ?_ h2) (inv_step hmono hok hob hi hI)⟩;simp only [Region.ready, List.mem_filter, List.mem_range, Bool.and_eq_true] at hi;have hlt : i < listed.size := by omega
  have h1 := hi.2.1;simp only [Array.getD_eq_getD_getElem?, Array.getElem?_eq_getElem hlt, Option.getD_some, Bool.not_eq_true'] at h1;have hl : i < listed.toList.length := by simpa using hlt
  have h2 : listed.toList[i] = false := by simpa using h1
  rw [Array.toList_setIfInBounds, List.count_set hl, h2];have hp : 0 < listed.toList.count false := List.count_pos_iff.2 (by rw [← h2]; exact List.getElem_mem _);rw [if_pos (by rfl), if_neg (by decide)];omega
theorem region_inv {id : Nat} (m : List Bool) (plan : Plan) (V : Nat → Value → World → Prop) (hmix : P.follows .mixedOrders = true) (hok : planOk ops plan m a.tmps.size = true)
  (hmono : ∀ d v w w', V d v w → bw w w' → V d v w') (hob : Obls P Q a m V w0 ops.toList plan)
  (hdone : ∀ f w, bw w0 w → AllP V f w plan → Q .normal (over a m f) w) : (Code.region id ops true).wp P Q a w0 := by
 refine wp_region_any hmix (any_inv hmono hok hob hdone _ _ _ _ (by simp) (by simp) ⟨fun k => (a.tmps.toList[k]?).getD undef, (over_start a m).symm, ⟨rfl, rfl, rfl, Nat.le_refl _, fun _ _ => rfl⟩, ?_⟩);intro i o d _ _ h;simp [Array.getElem?_replicate] at h
end
theorem cell_later {w w' : World} (hb : bw w w') {b o : Nat} {v : Value} (h : w.cell? ⟨b, o, none⟩ = some v) : w'.cell? ⟨b, o, none⟩ = some v := by
 rw [← h];refine hb.cell (p := ⟨b, o, none⟩) ?_;show b < w.heap.size
 by_cases e : b < w.heap.size
 ·exact e
 ·have : w.heap[b]? = none := by simp; omega
  simp [World.cell?, this] at h
def IsClo (lo hi : Int) (v : Value) (w : World) : Prop := ∃ p q, v = clo p q ∧ w.cell? ⟨p, 0, none⟩ = some (.int .i64 lo) ∧ w.cell? ⟨q, 0, none⟩ = some (.int .i64 hi)
def IsInts (xs : List Int) (v : Value) (w : World) : Prop := ∃ b, v = .slice (some ⟨b, 0, none⟩) xs.length xs.length ∧ ∀ k, k < xs.length → w.cell? ⟨b, k, none⟩ = some (.int .i64 (xs.getD k 0))
theorem IsClo.later {lo hi : Int} {v : Value} {w w' : World} (h : IsClo lo hi v w) (hb : bw w w') : IsClo lo hi v w' := by
 obtain ⟨p, q, rfl, hp, hq⟩ := h;exact ⟨p, q, rfl, cell_later hb hp, cell_later hb hq⟩
theorem IsInts.later {xs : List Int} {v : Value} {w w' : World} (h : IsInts xs v w) (hb : bw w w') : IsInts xs v w' := by
 obtain ⟨b, rfl, hc⟩ := h;exact ⟨b, rfl, fun k hk => cell_later hb (hc k hk)⟩
theorem within_is (lo hi : Int) (w : World) :
  Calls Tryz.prog 123 #[.int .i64 lo, .int .i64 hi] w fun e w' => ∃ v, e = .returned v ∧ IsClo lo hi v w' ∧ bw w w' := by
 refine (within_int lo hi w).mono ?_;rintro e w1 ⟨rfl, rfl⟩;exact ⟨_, rfl, ⟨_, _, rfl, by simp [go_sem], by simp [go_sem]⟩, ((brf).alloc (Nat.le_refl _) _).alloc (by simp) _⟩
theorem every_is (xs : List Int) (lo hi : Int) (v c : Value) (w : World) (hn : xs.length ≤ 100) (hc : IsClo lo hi c w) (hv : IsInts xs v w) :
  Calls Tryz.prog 122 #[c, v] w fun e w' => e = .returned (.bool (xs.all (inR lo hi))) ∧ w' = w := by
 obtain ⟨p, q, rfl, hp, hq⟩ := hc;obtain ⟨b, rfl, hx⟩ := hv;exact every_any xs lo hi p q b _ w hn hp hq hx
theorem new_one (x : Int) (w : World) (t : Nat) : IsInts [x] (.slice (some ⟨w.heap.size, 0, none⟩) 1 1) (w.alloc (.cells #[.int .i64 x] t)) :=
 ⟨_, rfl, fun k hk => by
  have : k = 0 := by simpa using hk
  subst this; simp [go_sem]⟩
theorem every_one (x lo hi : Int) (v c : Value) (w : World) (hc : IsClo lo hi c w) (hv : IsInts [x] v w) :
  Calls Tryz.prog 122 #[c, v] w fun e w' => e = .returned (.bool (inR lo hi x)) ∧ w' = w := by
 have h := every_is [x] lo hi v c w (by simp) hc hv
 simpa using h
def spotOk (r c R C : Int) : Bool := inR 0 (R - 1) r && inR 0 (C - 1) c
theorem spotOk_iff {r c R C : Int} : spotOk r c R C = true ↔ (0 ≤ r ∧ r < R) ∧ 0 ≤ c ∧ c < C := by
 simp only [spotOk, Bool.and_eq_true, inR_iff]; omega
theorem wrap_in {x : Int} (h : -9223372036854775808 ≤ x) (h2 : x ≤ 9223372036854775807) : IntKind.i64.wrap x = x := by
 rw [IntWalk.i64_left]; exact IntWalk.wrap64_in _ ⟨h, h2⟩
def spotV (r c R C : Int) (B : Nat) (d : Nat) (v : Value) (w : World) : Prop :=
 match d with
 | 7 => v = .int .i64 R
 | 8 => v = .int .i64 (R - 1)
 | 9 => IsClo 0 (R - 1) v w
 | 10 => v = .pointer (some ⟨B, 0, none⟩)
 | 11 => v = .int .i64 r
 | 12 => IsInts [r] v w
 | 13 | 14 => v = .bool (inR 0 (R - 1) r)
 | 15 => inR 0 (R - 1) r = true → v = .int .i64 C
 | 16 => inR 0 (R - 1) r = true → v = .int .i64 (C - 1)
 | 17 => inR 0 (R - 1) r = true → IsClo 0 (C - 1) v w
 | 18 => inR 0 (R - 1) r = true → v = .pointer (some ⟨B, 1, none⟩)
 | 19 => inR 0 (R - 1) r = true → v = .int .i64 c
 | 20 => inR 0 (R - 1) r = true → IsInts [c] v w
 | 21 => inR 0 (R - 1) r = true → v = .bool (inR 0 (C - 1) c)
 | 22 | 6 => v = .bool (spotOk r c R C)
 | _ => True
theorem spotV_mono (r c R C : Int) (B : Nat) (d : Nat) (v : Value) (w w' : World) (h : spotV r c R C B d v w) (hb : bw w w') : spotV r c R C B d v w' := by
 unfold spotV at h ⊢
 split <;> simp only [] at h <;> first | exact h | exact h.later hb | exact fun g => (h g).later hb
theorem isSpot_any (r c R C : Int) (w : World) (hR : 1 ≤ R) (hR2 : R ≤ 100) (hC : 1 ≤ C) (hC2 : C ≤ 100) :
  CR 207 #[.agg #[.int .i64 r, .int .i64 c], .int .i64 R, .int .i64 C] w (.bool (spotOk r c R C)) := by
 have hw1 : IntKind.i64.wrap (R - 1) = R - 1 := wrap_in (by omega) (by omega);have hw2 : IntKind.i64.wrap (C - 1) = C - 1 := wrap_in (by omega) (by omega)
 go_enter Tryz.func207, Tryz.ntmps207
 go_wp2_with fail
 refine region_inv [zf,zf,zf,zf,zf,zf,zt,zt,zt,zt,zt,zt,zt,zt,zt,zt,zt,zt,zt,zt,zt,zt,zt]
  [(7, [], none), (8, [7], none), (9, [8], none), (10, [], none), (11, [10], none), (12, [11], none), (13, [9, 12], none), (14, [13], none), (15, [14], some (14, true)), (16, [14, 15], some (14, true)), (17, [14, 16], some (14, true)), (18, [14], some (14, true)), (19, [14, 18], some (14, true)), (20, [14, 19], some (14, true)), (21, [14, 17, 20], some (14, true)), (22, [14, 21], none), (6, [22], none)]
  (spotV r c R C w.heap.size) (by kernel_rfl) (by kernel_rfl) (spotV_mono r c R C w.heap.size) ?_ ?_
 ·refine ⟨?_, ?_, ?_, ?_, ?_, ?_, ?_, ?_, ?_, ?_, ?_, ?_, ?_, ?_, ?_, ?_, ?_, trivial⟩
  any_goals first | (intro f w1 hb _ K hK; simp only [over, overL]; go_simp; exact hK _ _ ⟨_, rfl, by simp only [over, overL]; rfl, brf⟩) | fail
  any_goals first | (intro f w1 hb hh K hK; simp only [AllV, spotV] at hh; simp only [over, overL, hh]; go_simp; exact hK _ _ ⟨_, rfl, by simp only [over, overL, hh]; rfl, brf⟩) | fail
  ·rintro f w1 hb ⟨(h8 : f 8 = _), _⟩ K hK
   simp only [over, overL, h8];go_simp;refine (within_is _ _ _).mono ?_;rintro e w2 ⟨v, rfl, hv, hb2⟩;exact hK _ _ ⟨_, hv, by simp only [over, overL, h8]; rfl, hb2⟩
  ·rintro f w1 hb ⟨(h10 : f 10 = _), _⟩ K hK
   have c0 : w1.cell? ⟨w.heap.size, 0, none⟩ = some (.int .i64 r) := cell_later hb (by go_simp);simp only [over, overL, h10];go_simp;exact hK _ _ ⟨_, rfl, by simp only [over, overL, h10]; rfl, brf⟩
  ·rintro f w1 hb ⟨(h11 : f 11 = _), _⟩ K hK
   simp only [over, overL, h11];go_simp;exact hK _ _ ⟨_, new_one _ _ _, by simp only [over, overL, h11]; rfl, (brf).alloc (Nat.le_refl _) _⟩
  ·intro f w1 hb ⟨h9, h12, _⟩ K hK
   simp only [over, overL];go_simp;refine (every_one r 0 (R - 1) _ _ _ h9 h12).mono ?_;rintro e w2 ⟨rfl, hw⟩;exact hK _ _ ⟨_, rfl, by simp only [over, overL]; rfl, hw ▸ brf⟩
  ·rintro f w1 hb ⟨(h14 : f 14 = _), _⟩
   refine ⟨fun hg => ?_, fun hg => ?_⟩
   rotate_left
   ·intro hG; exact absurd (h14.trans (by rw [hG])) hg
   have hG := Value.bool.inj (h14.symm.trans hg);intro K hK;simp only [over, overL, h14, hG];go_simp;exact hK _ _ ⟨_, (fun _ => rfl), by simp only [over, overL, h14, hG]; rfl, brf⟩
  ·rintro f w1 hb ⟨(h14 : f 14 = _), h15, _⟩
   refine ⟨fun hg => ?_, fun hg => ?_⟩
   rotate_left
   ·intro hG; exact absurd (h14.trans (by rw [hG])) hg
   have hG := Value.bool.inj (h14.symm.trans hg);intro K hK;have h15 : f 15 = _ := h15 hG;simp only [over, overL, h14, h15, hG];go_simp;exact hK _ _ ⟨_, (fun _ => rfl), by simp only [over, overL, h14, h15, hG]; rfl, brf⟩
  ·rintro f w1 hb ⟨(h14 : f 14 = _), h16, _⟩
   refine ⟨fun hg => ?_, fun hg => ?_⟩
   rotate_left
   ·intro hG; exact absurd (h14.trans (by rw [hG])) hg
   have hG := Value.bool.inj (h14.symm.trans hg);intro K hK;have h16 : f 16 = _ := h16 hG;simp only [over, overL, h14, h16, hG];go_simp;refine (within_is _ _ _).mono ?_;rintro e w2 ⟨v, rfl, hv, hb2⟩;exact hK _ _ ⟨_, (fun _ => hv), by simp only [over, overL, h14, h16, hG]; rfl, hb2⟩
  ·rintro f w1 hb ⟨(h14 : f 14 = _), _⟩
   refine ⟨fun hg => ?_, fun hg => ?_⟩
   rotate_left
   ·intro hG; exact absurd (h14.trans (by rw [hG])) hg
   have hG := Value.bool.inj (h14.symm.trans hg);intro K hK;simp only [over, overL, h14, hG];go_simp;exact hK _ _ ⟨_, (fun _ => rfl), by simp only [over, overL, h14, hG]; rfl, brf⟩
  ·rintro f w1 hb ⟨(h14 : f 14 = _), h18, _⟩
   refine ⟨fun hg => ?_, fun hg => ?_⟩
   rotate_left
   ·intro hG; exact absurd (h14.trans (by rw [hG])) hg
   have hG := Value.bool.inj (h14.symm.trans hg);intro K hK;have h18 : f 18 = _ := h18 hG;have c0 : w1.cell? ⟨w.heap.size, 1, none⟩ = some (.int .i64 c) := cell_later hb (by go_simp);simp only [over, overL, h14, h18, hG];go_simp;exact hK _ _ ⟨_, (fun _ => rfl), by simp only [over, overL, h14, h18, hG]; rfl, brf⟩
  ·rintro f w1 hb ⟨(h14 : f 14 = _), h19, _⟩
   refine ⟨fun hg => ?_, fun hg => ?_⟩
   rotate_left
   ·intro hG; exact absurd (h14.trans (by rw [hG])) hg
   have hG := Value.bool.inj (h14.symm.trans hg);intro K hK;have h19 : f 19 = _ := h19 hG;simp only [over, overL, h14, h19, hG];go_simp;exact hK _ _ ⟨_, (fun _ => new_one _ _ _), by simp only [over, overL, h14, h19, hG]; rfl, (brf).alloc (Nat.le_refl _) _⟩
  ·rintro f w1 hb ⟨(h14 : f 14 = _), h17, h20, _⟩
   refine ⟨fun hg => ?_, fun hg => ?_⟩
   rotate_left
   ·intro hG; exact absurd (h14.trans (by rw [hG])) hg
   have hG := Value.bool.inj (h14.symm.trans hg);intro K hK;replace h17 := h17 hG;replace h20 := h20 hG;simp only [over, overL, h14, hG];go_simp;refine (every_one c 0 (C - 1) _ _ _ h17 h20).mono ?_;rintro e w2 ⟨rfl, hw⟩;exact hK _ _ ⟨_, (fun _ => rfl), by simp only [over, overL, h14, hG]; rfl, hw ▸ brf⟩
  ·rintro f w1 hb ⟨(h14 : f 14 = _), h21, _⟩ K hK
   have h21 : inR 0 (R - 1) r = true → f 21 = _ := h21
   cases hG : inR 0 (R - 1) r
   ·rw [hG] at h14
    simp only [over, overL, h14];go_simp;exact hK _ _ ⟨.bool false, by simp [spotV, spotOk, hG], by simp only [over, overL, h14]; rfl, brf⟩
   ·have h21 := h21 hG
    rw [hG] at h14;simp only [over, overL, h14, h21];go_simp;exact hK _ _ ⟨.bool (inR 0 (C - 1) c), by simp [spotV, spotOk, hG], by simp only [over, overL, h14, h21]; rfl, brf⟩
 ·intro f w1 hb h
  have h6 : f 6 = .bool (spotOk r c R C) := by simpa [AllP, spotV] using h.2.2.2.2.2.2.2.2.2.2.2.2.2.2.2.2.1
  simp only [over, overL, h6, Nat.reduceAdd];go_wp2;go_ret;exact ⟨rfl, ((brf).alloc (Nat.le_refl _) _).trans (hb.mono (by simp))⟩
theorem in_rune' (x lo hi : Int) (v : Bool) (hv : inR lo hi x = v) (p q : Nat) (w : World) (hp : w.cell? ⟨p, 0, none⟩ = some (.int .i32 lo)) (hq : w.cell? ⟨q, 0, none⟩ = some (.int .i32 hi)) :
  Calls Tryz.prog 228 #[.int .i32 x, .pointer (some ⟨p, 0, none⟩), .pointer (some ⟨q, 0, none⟩)] w fun e w' => e = .returned (.bool v) ∧ w' = w := by
 subst hv; exact in_rune x lo hi p q w hp hq
end Go.Proofs.YtcajifelbldjnaaGreatDoor
