import Derived.Test.YtjappkfhballhaaGreatKh
import Derived.Test.YtjappkfhballhaaGreatKi

/- Regions that draw their order, stores among the operations wherever they stand: one obligation an operation, whatever the order; a word on all slots together. -/
namespace Go.Proofs.YtjappkfhballhaaGreat
open Go.RowKit
abbrev GPlan := List (List Nat × List Nat × Option (Nat × Bool))
def updO (f : Nat → Value) (d : Option Nat) (v : Value) : Nat → Value := match d with
 | some d => upd f d v
 | none => f
theorem updO_other {f : Nat → Value} {d : Option Nat} {k : Nat} {v : Value} (h : d ≠ some k) : updO f d v k = f k := by
 cases d with
 | none => rfl
 | some d => exact upd_other fun e => h (by rw [e])
def menOf (plan : GPlan) (i : Nat) : List Nat := ((plan[i]?).map (·.2.1)).getD []
def gOne (ops : Array Oper) (m : List Bool) (n : Nat) (o : Oper) (p : List Nat × List Nat × Option (Nat × Bool)) : Bool :=
 (match o.dst with
  | some d => m.getD d false && decide (d < n)
  | none => true) &&
 p.1.all (fun j => o.after.any fun e => Region.binds .any e && e.on == j) &&
 (match o.guard, p.2.2 with
  | none, none => true
  | some (j, b), some (s, b') => (((ops[j]?).bind (·.dst)) == some s) && (b == b') && (m.getD s false) && decide (s < n)
  | _, _ => false)
def gAll (ops : Array Oper) (m : List Bool) (n : Nat) : List Oper → GPlan → Bool
 | [], [] => true
 | o :: l, p :: q => gOne ops m n o p && gAll ops m n l q
 | _, _ => false
def menB (ops : Array Oper) (plan : GPlan) : Bool :=
 (List.range ops.size).all fun i => (List.range ops.size).all fun j => i == j || coversB ops ops.size i j || (menOf plan i).all fun s => ((ops[j]?).bind (·.dst)) != some s
def gOk (ops : Array Oper) (plan : GPlan) (m : List Bool) (n : Nat) : Bool := backE 0 ops.toList && gAll ops m n ops.toList plan && menB ops plan
section
variable (P : Program) (Q : Exit → Act → World → Prop) (a : Act) (m : List Bool) (plan : GPlan) (V : Nat → List Value → World → Prop) (J : (Nat → Value) → World → Prop) (w0 : World)
def AllJ (f : Nat → Value) (w : World) : List Nat → Prop
 | [] => True
 | j :: l => V j ((menOf plan j).map f) w ∧ AllJ f w l
def AllG (f : Nat → Value) (w : World) : Nat → GPlan → Prop
 | _, [] => True
 | i, p :: q => V i (p.2.1.map f) w ∧ AllG f w (i + 1) q
def DoesG (i : Nat) (o : Oper) (f : Nat → Value) (w : World) : Prop :=
 ∀ K : Act → World → Prop, (∀ a' w', (∃ v, a' = (over a m f).put o.dst v ∧ V i ((menOf plan i).map (updO f o.dst v)) w' ∧ Below w0.heap.size w0 w' ∧ J (updO f o.dst v) w' ∧ (∀ j, V j ((menOf plan j).map f) w → V j ((menOf plan j).map f) w')) → K a' w') → o.wp P (over a m f) w K Q
def OblG (i : Nat) (o : Oper) (p : List Nat × List Nat × Option (Nat × Bool)) : Prop :=
 ∀ f w, Below w0.heap.size w0 w → J f w → AllJ plan V f w p.1 → match p.2.2 with
  | none => DoesG P Q a m plan V J w0 i o f w
  | some (s, b) => (f s = .bool b → DoesG P Q a m plan V J w0 i o f w) ∧ (f s ≠ .bool b → V i ((menOf plan i).map (updO f o.dst undef)) w ∧ J (updO f o.dst undef) w)
def OblsG : Nat → List Oper → GPlan → Prop
 | i, o :: l, p :: q => OblG P Q a m plan V J w0 i o p ∧ OblsG (i + 1) l q
 | _, _, _ => True
end
theorem gAll_at {ops : Array Oper} {m : List Bool} {n : Nat} : ∀ {l : List Oper} {q : GPlan}, gAll ops m n l q = true → ∀ {i : Nat} {o : Oper}, l[i]? = some o → ∃ p, q[i]? = some p ∧ gOne ops m n o p = true
 | [], _, _, _, _, h => by simp at h
 | _ :: _, [], h, _, _, _ => by simp [gAll] at h
 | o :: l, p :: q, h, 0, o', ho => by
  simp only [gAll, Bool.and_eq_true] at h
  simp at ho; subst ho
  exact ⟨p, by simp, h.1⟩
 | o :: l, p :: q, h, i + 1, o', ho => by
  simp only [gAll, Bool.and_eq_true] at h
  obtain ⟨p', hp, h'⟩ := gAll_at h.2 (i := i) (by simpa using ho)
  exact ⟨p', by simpa using hp, h'⟩
theorem gAll_length {ops : Array Oper} {m : List Bool} {n : Nat} : ∀ {l : List Oper} {q : GPlan}, gAll ops m n l q = true → q.length = l.length
 | [], [], _ => rfl
 | [], _ :: _, h => by simp [gAll] at h
 | _ :: _, [], h => by simp [gAll] at h
 | o :: l, p :: q, h => by
  simp only [gAll, Bool.and_eq_true] at h
  simp [gAll_length h.2]
section
variable {P : Program} {Q : Exit → Act → World → Prop} {a : Act} {m : List Bool} {plan : GPlan} {V : Nat → List Value → World → Prop} {J : (Nat → Value) → World → Prop} {w0 : World} {ops : Array Oper}
theorem oblsG_at : ∀ {l : List Oper} {q : GPlan} {s : Nat}, OblsG P Q a m plan V J w0 s l q → ∀ {i : Nat} {o : Oper} {p}, l[i]? = some o → q[i]? = some p → OblG P Q a m plan V J w0 (s + i) o p
 | [], _, _, _, _, _, _, h, _ => by simp at h
 | _ :: _, [], _, _, _, _, _, _, h => by simp at h
 | o :: l, p :: q, s, h, 0, _, _, ho, hp => by simp at ho hp; subst ho; subst hp; exact h.1
 | o :: l, p :: q, s, h, i + 1, _, _, ho, hp => by
  have := oblsG_at h.2 (i := i) (by simpa using ho) (by simpa using hp)
  rw [show s + 1 + i = s + (i + 1) by omega] at this
  exact this
def InvG (a : Act) (m : List Bool) (plan : GPlan) (V : Nat → List Value → World → Prop) (J : (Nat → Value) → World → Prop) (w0 : World) (ops : Array Oper) (listed : Array Bool) (a' : Act) (w : World) : Prop :=
 Closed ops listed ∧ ∃ f, a' = over a m f ∧ Below w0.heap.size w0 w ∧ J f w ∧ ∀ i, listed[i]? = some true → V i ((menOf plan i).map f) w
theorem invG_step (hok : gOk ops plan m a.tmps.size = true) (hob : OblsG P Q a m plan V J w0 0 ops.toList plan)
  {listed : Array Bool} (hsz : listed.size = ops.size) {i : Nat} (hi : i ∈ Region.ready .any ops listed) {a' : Act} {w : World} (h : InvG a m plan V J w0 ops listed a' w) :
  wpOp P ops Q i (fun a2 w2 => InvG a m plan V J w0 ops (listed.setIfInBounds i true) a2 w2) a' w := by
 simp only [gOk, Bool.and_eq_true] at hok
 obtain ⟨⟨_, hall⟩, hmen⟩ := hok
 obtain ⟨hlt, hun, hpre⟩ := ready_pre hi
 obtain ⟨o, ho⟩ : ∃ o, ops[i]? = some o := ⟨ops[i], by simp [hlt]⟩
 have hpre := hpre o ho
 have hoL : ops.toList[i]? = some o := by simpa using ho
 obtain ⟨p, hp, h1⟩ := gAll_at hall hoL
 have hO := oblsG_at hob hoL hp
 rw [Nat.zero_add] at hO
 simp only [gOne, Bool.and_eq_true] at h1
 obtain ⟨⟨hd, hps⟩, hg⟩ := h1
 obtain ⟨hcl, f, rfl, hb, hJ, hV⟩ := h
 have hav : ∀ l : List Nat, (∀ j ∈ l, j ∈ p.1) → AllJ plan V f w l := by
  intro l
  induction l with
  | nil => intro _; trivial
  | cons j l ih =>
   intro hl
   refine ⟨?_, ih fun x hx => hl x (by simp [hx])⟩
   have h2 := List.all_eq_true.1 hps j (hl j (by simp))
   obtain ⟨e, he, h3⟩ := Array.any_eq_true'.1 h2
   simp only [Bool.and_eq_true, beq_iff_eq] at h3
   have := hpre e he h3.1
   rw [h3.2] at this
   exact hV j this
 have hav := hav p.1 fun _ h => h
 have hnl : listed[i]? ≠ some true := by
  intro e
  rw [Array.getD_eq_getD_getElem?, e] at hun
  simp at hun
 have hput : ∀ v, (over a m f).put o.dst v = over a m (updO f o.dst v) := by
  intro v
  cases e : o.dst with
  | none => rfl
  | some d =>
   rw [e] at hd
   simp only [Bool.and_eq_true] at hd
   exact over_put a m f d v (getD_true hd.1)
 have hsame : ∀ (j : Nat) (v : Value), listed[j]? = some true → (menOf plan j).map (updO f o.dst v) = (menOf plan j).map f := by
  intro j v hj
  apply List.map_congr_left
  intro s hs
  apply updO_other
  intro e
  have hjs : j < ops.size := by
   by_cases h : j < ops.size
   ·exact h
   ·rw [Array.getElem?_eq_none (by omega)] at hj; cases hj
  unfold menB at hmen
  have h1 := List.all_eq_true.1 (List.all_eq_true.1 hmen j (by simpa using hjs)) i (by simpa using hlt)
  simp only [Bool.or_eq_true, beq_iff_eq] at h1
  rcases h1 with (h1 | h1) | h1
  ·subst h1; exact hnl hj
  ·exact hnl (covers_listed hcl _ j i (fun o' ho' => hcl j o' ho' hj) h1)
  ·have := List.all_eq_true.1 h1 s hs
   rw [ho] at this
   simp [e] at this
 have hcl2 := closed_next hcl hi
 have hfin : ∀ v w2, V i ((menOf plan i).map (updO f o.dst v)) w2 → Below w0.heap.size w0 w2 → J (updO f o.dst v) w2 → (∀ j, V j ((menOf plan j).map f) w → V j ((menOf plan j).map f) w2) → InvG a m plan V J w0 ops (listed.setIfInBounds i true) ((over a m f).put o.dst v) w2 := by
  intro v w2 hv hb2 hj2 hk
  refine ⟨hcl2, updO f o.dst v, hput v, hb2, hj2, fun j hlj => ?_⟩
  by_cases e : j = i
  ·subst e; exact hv
  ·have hlj2 : listed[j]? = some true := by simpa [Array.getElem?_setIfInBounds, Ne.symm e] using hlj
   rw [hsame j v hlj2]
   exact hk j (hV j hlj2)
 have hDoes : DoesG P Q a m plan V J w0 i o f w → o.wp P (over a m f) w (fun a2 w2 => InvG a m plan V J w0 ops (listed.setIfInBounds i true) a2 w2) Q := fun hD =>
  hD _ fun a2 w2 ⟨v, ha, hv, hb2, hj2, hk⟩ => by subst ha; exact hfin v w2 hv hb2 hj2 hk
 have hO := hO f w hb hJ hav
 unfold wpOp
 rw [ho]
 simp only
 cases hgo : o.guard with
 | none =>
  rw [hgo] at hg
  have hw : Region.wanted o (yielded ops (over a m f).tmps) = true := by simp [Region.wanted, hgo]
  rw [if_pos hw]
  cases hp2 : p.2.2 with
  | none => rw [hp2] at hO; exact .inl (hDoes hO)
  | some x => rw [hp2] at hg; simp at hg
 | some jb =>
  obtain ⟨j, b⟩ := jb
  rw [hgo] at hg
  cases hp2 : p.2.2 with
  | none => rw [hp2] at hg; simp at hg
  | some sb =>
   obtain ⟨s, b'⟩ := sb
   rw [hp2] at hg hO
   simp only [Bool.and_eq_true] at hg
   obtain ⟨⟨⟨hs, hbb⟩, hms⟩, hsn⟩ := hg
   have hbb : b = b' := by simpa using hbb
   subst hbb
   have hs : (ops[j]?).bind (·.dst) = some s := by simpa using hs
   have hgs : (over a m f).tmps[s]? = some (f s) := by
    have := overL_at f m 0 s a.tmps.toList (getD_true hms) (by simpa using hsn)
    simpa [over] using this
   have hy : yielded ops (over a m f).tmps j = match f s with | .bool x => some x | _ => none := by
    unfold yielded
    rw [hs]
    simp only [Option.bind_some, hgs]
    cases f s <;> rfl
   by_cases hw : f s = .bool b
   ·have : Region.wanted o (yielded ops (over a m f).tmps) = true := by simp [Region.wanted, hgo, hy, hw]
    rw [if_pos this]
    exact .inl (hDoes (hO.1 hw))
   ·have : ¬ Region.wanted o (yielded ops (over a m f).tmps) = true := by
     simp only [Region.wanted, hgo, hy, beq_iff_eq]
     cases e : f s <;> simp
     rename_i x
     intro e2; subst e2; exact hw e
    rw [if_neg this]
    exact hfin _ _ (hO.2 hw).1 hb (hO.2 hw).2 fun _ h => h
theorem allG_of {f : Nat → Value} {w : World} : ∀ {q : GPlan} {s : Nat}, (∀ i p, q[i]? = some p → V (s + i) (p.2.1.map f) w) → AllG V f w s q
 | [], _, _ => trivial
 | p :: q, s, h => ⟨by simpa using h 0 p (by simp), allG_of fun i p' hp => by
   have := h (i + 1) p' (by simpa using hp)
   rw [show s + (i + 1) = s + 1 + i by omega] at this
   exact this⟩
theorem anyG (hok : gOk ops plan m a.tmps.size = true) (hob : OblsG P Q a m plan V J w0 0 ops.toList plan)
  (hdone : ∀ f w, Below w0.heap.size w0 w → J f w → AllG V f w 0 plan → Q .normal (over a m f) w) :
  ∀ (fuel : Nat) (listed : Array Bool) (a' : Act) (w : World), listed.size = ops.size → listed.toList.count false ≤ fuel → InvG a m plan V J w0 ops listed a' w → wpAny P .any ops Q fuel listed a' w := by
 have hok2 := hok
 simp only [gOk, Bool.and_eq_true] at hok2
 obtain ⟨⟨hback, hall⟩, _⟩ := hok2
 have hlen := gAll_length hall
 have hend : ∀ (listed : Array Bool) (a' : Act) (w : World), listed.size = ops.size → InvG a m plan V J w0 ops listed a' w → Region.ready .any ops listed = [] → Q .normal a' w := by
  rintro listed a' w hsz ⟨_, f, rfl, hb, hJ, hV⟩ hr
  refine hdone f w hb hJ (allG_of fun i p hp => ?_)
  have hi : i < plan.length := (List.getElem?_eq_some_iff.1 hp).1
  have := hV i (all_listedE hback hsz hr i (by simp at hlen; omega))
  rw [Nat.zero_add]
  unfold menOf at this
  rw [hp] at this
  exact this
 intro fuel
 induction fuel with
 | zero =>
  intro listed a' w hsz hc hI
  have hr : Region.ready .any ops listed = [] := by
   rw [List.eq_nil_iff_forall_not_mem]
   intro i hi
   obtain ⟨hlt, h1, _⟩ := ready_pre hi
   have h0 : listed.toList.count false = 0 := by omega
   rw [List.count_eq_zero] at h0
   have hlt2 : i < listed.size := by omega
   simp only [Array.getD_eq_getD_getElem?, Array.getElem?_eq_getElem hlt2, Option.getD_some] at h1
   exact h0 (by rw [← h1]; simp)
  exact ⟨hr, hend listed a' w hsz hI hr⟩
 | succ fuel ih =>
  intro listed a' w hsz hc hI
  refine ⟨hend listed a' w hsz hI, fun i hi => wpOp_mono (fun a2 w2 h2 => ih _ _ _ (by simpa using hsz) ?_ h2) (invG_step hok hob hsz hi hI)⟩
  obtain ⟨hlt, h1, _⟩ := ready_pre hi
  have hlt2 : i < listed.size := by omega
  simp only [Array.getD_eq_getD_getElem?, Array.getElem?_eq_getElem hlt2, Option.getD_some] at h1
  have hl : i < listed.toList.length := by simpa using hlt2
  have h2 : listed.toList[i] = false := by simpa using h1
  rw [Array.toList_setIfInBounds, List.count_set hl, h2]
  have hp : 0 < listed.toList.count false := List.count_pos_iff.2 (by rw [← h2]; exact List.getElem_mem _)
  rw [if_pos (by rfl), if_neg (by decide)]
  omega
theorem region_allD {id : Nat} (m : List Bool) (plan : GPlan) (V : Nat → List Value → World → Prop) (J : (Nat → Value) → World → Prop) (hmix : P.follows .mixedOrders = true) (hok : gOk ops plan m a.tmps.size = true)
  (hJ0 : J (fun k => (a.tmps.toList[k]?).getD undef) w0.drew) (hob : OblsG P Q a m plan V J w0 0 ops.toList plan)
  (hdone : ∀ f w, Below w0.heap.size w0 w → J f w → AllG V f w 0 plan → Q .normal (over a m f) w) : (Code.region id ops true).wp P Q a w0 := by
 refine wp_region_any hmix (anyG hok hob hdone _ _ _ _ (by simp) (by simp) ⟨?_, fun k => (a.tmps.toList[k]?).getD undef, (over_start a m).symm, ⟨rfl, rfl, rfl, Nat.le_refl _, fun _ _ => rfl⟩, hJ0, ?_⟩)
 ·intro i o _ h
  simp [Array.getElem?_replicate] at h
 ·intro i h
  simp [Array.getElem?_replicate] at h
end
end Go.Proofs.YtjappkfhballhaaGreat

/- cmp.Compare, cmp.Or, byPlace walked. -/
namespace Go.Proofs.YtjappkfhballhaaGreat
open Go.RowKit
def Apart (s t : Nat) (f : Nat → Value) (w : World) : Prop :=
 (∀ b, f s = ptr b → b < w.heap.size) ∧ (∀ b, f t = ptr b → b < w.heap.size) ∧ (∀ b, f s = ptr b → f t = ptr b → False)
theorem Apart.same {s t : Nat} {f : Nat → Value} {w w' : World} (h : Apart s t f w) (hs : w'.heap.size = w.heap.size) : Apart s t f w' := by
 unfold Apart
 rw [hs]
 exact h
theorem Apart.other {s t d : Nat} {f : Nat → Value} {w w' : World} {v : Value} (h : Apart s t f w) (hs : s ≠ d) (ht : t ≠ d) (hb : Below w.heap.size w w') : Apart s t (upd f d v) w' := by
 unfold Apart
 rw [upd_other hs, upd_other ht]
 exact ⟨fun b e => Nat.lt_of_lt_of_le (h.1 b e) hb.size, fun b e => Nat.lt_of_lt_of_le (h.2.1 b e) hb.size, h.2.2⟩
theorem Apart.left {s t : Nat} {f : Nat → Value} {w : World} {o : Obj} (h : Apart s t f w) (hst : t ≠ s) : Apart s t (upd f s (ptr w.heap.size)) (w.alloc o) := by
 unfold Apart
 rw [upd_same, upd_other hst]
 refine ⟨fun b e => ?_, fun b e => ?_, fun b e e2 => ?_⟩
 ·simp at e; subst e; simp
 ·have := h.2.1 b e; simp; omega
 ·simp at e; subst e; have := h.2.1 _ e2; omega
theorem Apart.right {s t : Nat} {f : Nat → Value} {w : World} {o : Obj} (h : Apart s t f w) (hst : s ≠ t) : Apart s t (upd f t (ptr w.heap.size)) (w.alloc o) := by
 unfold Apart
 rw [upd_same, upd_other hst]
 refine ⟨fun b e => ?_, fun b e => ?_, fun b e e2 => ?_⟩
 ·have := h.1 b e; simp; omega
 ·simp at e; subst e; simp
 ·simp at e2; subst e2; have := h.1 _ e; omega
theorem below_on {w w1 w2 : World} (h : Below w.heap.size w w1) (h2 : Below w1.heap.size w1 w2) : Below w.heap.size w w2 := h.trans (h2.mono h.size)
def cmpI (x y : Int) : Int := if x < y then -1 else if y < x then 1 else 0
theorem isNaN_any (x : Int) (w : World) : Calls Tryz.prog 134 #[.int .i64 x] w fun e w' => e = .returned (.bool false) ∧ w' = w := by
 go_enter Tryz.func134, Tryz.ntmps134
 go_wp2
 go_ret
 exact ⟨rfl, rfl⟩
set_option maxHeartbeats 1600000 in
theorem compare_any (x y : Int) (w : World) : Calls Tryz.prog 108 #[.int .i64 x, .int .i64 y] w fun e w' => e = .returned (.int .i64 (cmpI x y)) ∧ w' = w := by
 by_cases h : x < y
 ·have HR : Hid (cmpI x y = -1) := if_pos h
  go_enter Tryz.func108, Tryz.ntmps108
  go_wp2_with fail
  refine (isNaN_any x _).mono ?_
  rintro e w1 ⟨rfl, rfl⟩
  go_wp2_with fail
  refine (isNaN_any y _).mono ?_
  rintro e w1 ⟨rfl, rfl⟩
  go_wp2
  go_ret
  exact ⟨ret_int HR.out.symm, rfl⟩
 ·by_cases h2 : y < x
  ·have HR : Hid (cmpI x y = 1) := by show cmpI x y = 1; rw [cmpI, if_neg h, if_pos h2]
   go_enter Tryz.func108, Tryz.ntmps108
   go_wp2_with fail
   refine (isNaN_any x _).mono ?_
   rintro e w1 ⟨rfl, rfl⟩
   go_wp2_with fail
   refine (isNaN_any y _).mono ?_
   rintro e w1 ⟨rfl, rfl⟩
   go_wp2
   go_ret
   exact ⟨ret_int HR.out.symm, rfl⟩
  ·have HR : Hid (cmpI x y = 0) := by show cmpI x y = 0; rw [cmpI, if_neg h, if_neg h2]
   go_enter Tryz.func108, Tryz.ntmps108
   go_wp2_with fail
   refine (isNaN_any x _).mono ?_
   rintro e w1 ⟨rfl, rfl⟩
   go_wp2_with fail
   refine (isNaN_any y _).mono ?_
   rintro e w1 ⟨rfl, rfl⟩
   go_wp2
   go_ret
   exact ⟨ret_int HR.out.symm, rfl⟩
theorem compare_r (x y r : Int) (h : cmpI x y = r) (w : World) : Calls Tryz.prog 108 #[.int .i64 x, .int .i64 y] w fun e w' => e = .returned (.int .i64 r) ∧ w' = w := by
 rw [← h]; exact compare_any x y w
set_option maxHeartbeats 1600000 in
theorem cmpOrI_any (b cap : Nat) (xs : List Int) (w : World) (hl : xs.length ≤ 100) (hc : ∀ k (h : k < xs.length), w.cell? ⟨b, k, none⟩ = some (.int .i64 (xs[k]'h))) :
  Calls Tryz.prog 107 #[.slice (some ⟨b, 0, none⟩) xs.length cap] w fun e w' => e = .returned (.int .i64 (orL xs)) ∧ w' = w := by
 have HC : Hid (∀ k (h : k < xs.length), w.cell? ⟨b, k, none⟩ = some (.int .i64 (xs[k]'h))) := hc
 clear hc
 go_enter Tryz.func107, Tryz.ntmps107
 go_wp2
 go_loopw [5, 8] (fun _ i wr => ∃ k : Nat, k ≤ xs.length ∧ i = .int .i64 k ∧ (∀ n ∈ xs.take k, n = 0) ∧ wr = w) (fun _ i _ => xs.length - (intOf i).toNat)
 case atStart => exact ⟨0, Nat.zero_le _, rfl, (fun f hf => by simp at hf), rfl⟩
 case round =>
  obtain ⟨k, hk, rfl, hok, rfl⟩ := hrel
  have HO : Hid (∀ n ∈ xs.take k, n = 0) := hok
  clear hok
  by_cases hlt : k < xs.length
  ·have c0 := HC.out k hlt
   have HHit : Hid (xs[k]'hlt ≠ 0 → orL xs = xs[k]'hlt) := orL_at hlt HO.out
   have HMiss : Hid (xs[k]'hlt = 0 → ∀ n ∈ xs.take (k + 1), n = 0) := fun h n hn => by
    rw [List.take_succ_eq_append_getElem hlt] at hn
    rcases List.mem_append.1 hn with hn | hn
    ·exact HO.out n hn
    ·simp at hn; rw [hn]; exact h
   generalize xs[k]'hlt = a at *
   by_cases ha : a = 0
   ·have hne : (a != 0) = false := by simp [ha]
    have HM := (show Hid _ from HMiss.out ha)
    clear ha
    go_wp2
    go_roundw
    case rel => exact ⟨k + 1, by omega, by go_num, HM.out, by trivial⟩
    case measure => simp [intOf]; omega
   ·have hne : (a != 0) = true := by simp [ha]
    have HM := (show Hid _ from HHit.out ha)
    clear ha
    go_wp2
    go_ret
    exact ⟨ret_int HM.out.symm, rfl⟩
  ·go_wp2
   go_ret
   exact ⟨ret_int (orL_zero fun n hn => HO.out n (by rw [List.take_of_length_le (by omega)]; exact hn)).symm, rfl⟩
theorem cmpOrI_is (xs : List Int) (r : Int) (hr : orL xs = r) (v : Value) (w : World) (hl : xs.length ≤ 100) (h : IsInts xs v w) :
  Calls Tryz.prog 107 #[v] w fun e w' => e = .returned (.int .i64 r) ∧ w' = w := by
 subst hr
 obtain ⟨b, rfl, hc⟩ := h
 refine cmpOrI_any b xs.length xs w hl fun k hk => ?_
 rw [hc k hk, List.getD_eq_getElem?_getD, List.getElem?_eq_getElem hk]; rfl
def cmpP (p q : Plc) : Int := orL [cmpI p.1 q.1, cmpI p.2.2 q.2.2, cmpI p.2.1 q.2.1]
theorem cmpI_lt {x y : Int} (h : x < y) : cmpI x y = -1 := if_pos h
theorem cmpI_eq (x : Int) : cmpI x x = 0 := by simp [cmpI]
theorem cmpI_gt {x y : Int} (h : y < x) : cmpI x y = 1 := by rw [cmpI, if_neg (by omega), if_pos h]
theorem cmpP_lt (p q : Plc) : decide (cmpP p q < 0) = pltB p q := by
 rw [Bool.eq_iff_iff, plt_iff, decide_eq_true_eq]
 unfold cmpP
 rcases Int.lt_trichotomy p.1 q.1 with h | h | h
 ·rw [cmpI_lt h]; simp [orL]; omega
 ·rw [h, cmpI_eq]
  rcases Int.lt_trichotomy p.2.2 q.2.2 with h2 | h2 | h2
  ·rw [cmpI_lt h2]; simp [orL]; omega
  ·rw [h2, cmpI_eq]
   rcases Int.lt_trichotomy p.2.1 q.2.1 with h3 | h3 | h3
   ·rw [cmpI_lt h3]; simp [orL]; omega
   ·rw [h3, cmpI_eq]; simp [orL]
   ·rw [cmpI_gt h3]; simp [orL]; omega
  ·rw [cmpI_gt h2]; simp [orL]; omega
 ·rw [cmpI_gt h]; simp [orL]; omega
abbrev pcl (p : Plc) : List Value := [.int .i64 p.1, .int .i64 p.2.1, .int .i64 p.2.2]
abbrev P3 (w : World) (B : Nat) (p : Plc) : World := ((w.setCell ⟨B, 0, none⟩ (.int .i64 p.1)).setCell ⟨B, 1, none⟩ (.int .i64 p.2.1)).setCell ⟨B, 2, none⟩ (.int .i64 p.2.2)
theorem Bk.put3 {B : Nat} {u0 u1 u2 : Value} {w : World} (h : Bk B [u0, u1, u2] w) (p : Plc) : Bk B (pcl p) (P3 w B p) := ((h.put 0 (.int .i64 p.1)).put 1 (.int .i64 p.2.1)).put 2 (.int .i64 p.2.2)
theorem Bk.oth3 {b B : Nat} {cs : List Value} {w : World} (h : Bk b cs w) (hn : b ≠ B) (p : Plc) : Bk b cs (P3 w B p) := ((h.other hn 0 _).other hn 1 _).other hn 2 _
def bpV (A B m : Nat) (p q : Plc) (i : Nat) (l : List Value) (w : World) : Prop :=
 match i, l with
 | 0, [v] => v = .pointer (some ⟨A, 0, none⟩)
 | 1, [v] => v = plv p
 | 2, [v] => v = .pointer (some ⟨B, 0, none⟩)
 | 3, [v] => v = plv q
 | 4, [v] => ∃ b, v = ptr b ∧ m ≤ b ∧ ∃ u0 u1 u2, Bk b [u0, u1, u2] w
 | 5, [v] => ∃ b, v = ptr b ∧ m ≤ b ∧ ∃ u0 u1 u2, Bk b [u0, u1, u2] w
 | 6, [v] => ∃ b, v = ptr b ∧ Bk b (pcl p) w
 | 7, [v] => ∃ b, v = ptr b ∧ Bk b (pcl q) w
 | _, _ => True
theorem bpV_mono (A B m : Nat) (p q : Plc) (i : Nat) (l : List Value) (w w' : World) (h : bpV A B m p q i l w) (hb : Below w.heap.size w w') : bpV A B m p q i l w' := by
 unfold bpV at h ⊢
 split <;> simp only [] at h <;> first | exact h | (obtain ⟨b, h1, h2, u0, u1, u2, h3⟩ := h; exact ⟨b, h1, h2, u0, u1, u2, h3.later hb⟩) | (obtain ⟨b, h1, h3⟩ := h; exact ⟨b, h1, h3.later hb⟩)
def bpP : GPlan := [([], [7], none), ([0], [8], none), ([], [9], none), ([2], [10], none), ([], [5], none), ([], [6], none), ([4, 1], [5], none), ([5, 3], [6], none)]
theorem bp_store5 {A B m : Nat} {p q : Plc} {f : Nat → Value} {w : World} {b : Nat} {u0 u1 u2 : Value} (hJ : Apart 5 6 f w) (hs : f 5 = ptr b) (AB : Bk b [u0, u1, u2] w) :
  ∀ j, bpV A B m p q j ((menOf bpP j).map f) w → bpV A B m p q j ((menOf bpP j).map f) (P3 w b p)
 | 0, h => h
 | 1, h => h
 | 2, h => h
 | 3, h => h
 | 4, ⟨b2, h2, h3, _⟩ => by
  obtain rfl : b2 = b := by have := (show f 5 = ptr b2 from h2).symm.trans hs; simpa using this
  exact ⟨b2, h2, h3, _, _, _, AB.put3 p⟩
 | 5, ⟨b2, h2, h3, v0, v1, v2, h4⟩ => ⟨b2, h2, h3, v0, v1, v2, h4.oth3 (fun e => hJ.2.2 b (by exact hs) (by rw [← e]; exact h2)) p⟩
 | 6, _ => ⟨b, hs, AB.put3 p⟩
 | 7, ⟨b2, h2, h4⟩ => ⟨b2, h2, h4.oth3 (fun e => hJ.2.2 b (by exact hs) (by rw [← e]; exact h2)) p⟩
 | j + 8, _ => by simp [menOf, bpP, bpV]
theorem bp_store6 {A B m : Nat} {p q : Plc} {f : Nat → Value} {w : World} {b : Nat} {u0 u1 u2 : Value} (hJ : Apart 5 6 f w) (hs : f 6 = ptr b) (AB : Bk b [u0, u1, u2] w) :
  ∀ j, bpV A B m p q j ((menOf bpP j).map f) w → bpV A B m p q j ((menOf bpP j).map f) (P3 w b q)
 | 0, h => h
 | 1, h => h
 | 2, h => h
 | 3, h => h
 | 4, ⟨b2, h2, h3, v0, v1, v2, h4⟩ => ⟨b2, h2, h3, v0, v1, v2, h4.oth3 (fun e => hJ.2.2 b (by rw [← e]; exact h2) (by exact hs)) q⟩
 | 5, ⟨b2, h2, h3, _⟩ => by
  obtain rfl : b2 = b := by have := (show f 6 = ptr b2 from h2).symm.trans hs; simpa using this
  exact ⟨b2, h2, h3, _, _, _, AB.put3 q⟩
 | 6, ⟨b2, h2, h4⟩ => ⟨b2, h2, h4.oth3 (fun e => hJ.2.2 b (by rw [← e]; exact h2) (by exact hs)) q⟩
 | 7, _ => ⟨b, hs, AB.put3 q⟩
 | j + 8, _ => by simp [menOf, bpP, bpV]
def bqV (P Q : Nat) (xp yp : Plc) (a b c r : Int) (i : Nat) (l : List Value) (w : World) : Prop :=
 match i, l with
 | 0, [v] => v = .pointer (some ⟨P, 0, none⟩)
 | 1, [v] => v = .int .i64 xp.1
 | 2, [v] => v = .pointer (some ⟨Q, 0, none⟩)
 | 3, [v] => v = .int .i64 yp.1
 | 4, [v] => v = .int .i64 a
 | 5, [v] => v = .pointer (some ⟨P, 1, none⟩)
 | 6, [v] => v = .pointer (some ⟨P, 2, none⟩)
 | 7, [v] => v = .int .i64 xp.2.2
 | 8, [v] => v = .pointer (some ⟨Q, 1, none⟩)
 | 9, [v] => v = .pointer (some ⟨Q, 2, none⟩)
 | 10, [v] => v = .int .i64 yp.2.2
 | 11, [v] => v = .int .i64 b
 | 12, [v] => v = .pointer (some ⟨P, 1, none⟩)
 | 13, [v] => v = .pointer (some ⟨P, 1, none⟩)
 | 14, [v] => v = .int .i64 xp.2.1
 | 15, [v] => v = .pointer (some ⟨Q, 1, none⟩)
 | 16, [v] => v = .pointer (some ⟨Q, 1, none⟩)
 | 17, [v] => v = .int .i64 yp.2.1
 | 18, [v] => v = .int .i64 c
 | 19, [v] => IsInts [a, b, c] v w
 | 20, [v] => v = .int .i64 r
 | 21, [v] => v = .int .i64 r
 | _, _ => True
theorem bqV_mono (P Q : Nat) (xp yp : Plc) (a b c r : Int) (i : Nat) (l : List Value) (w w' : World) (h : bqV P Q xp yp a b c r i l w) (hb : Below w.heap.size w w') : bqV P Q xp yp a b c r i l w' := by
 unfold bqV at h ⊢
 split <;> simp only [] at h <;> first | exact h | exact h.later hb
set_option maxHeartbeats 6400000 in
set_option maxRecDepth 100000 in
theorem byPlace_any (x y : Wh) (W : World) : Calls Tryz.prog 73 #[whv x, whv y] W fun e w' => e = .returned (.int .i64 (cmpP x.1 y.1)) ∧ Below W.heap.size W w' ∧ W.drawn ≤ w'.drawn := by
 obtain ⟨p, hp⟩ : ∃ p, x.1 = p := ⟨_, rfl⟩
 obtain ⟨q, hq⟩ : ∃ q, y.1 = q := ⟨_, rfl⟩
 obtain ⟨a, ha⟩ : ∃ a, cmpI p.1 q.1 = a := ⟨_, rfl⟩
 obtain ⟨b, hbb⟩ : ∃ b, cmpI p.2.2 q.2.2 = b := ⟨_, rfl⟩
 obtain ⟨c, hc⟩ : ∃ c, cmpI p.2.1 q.2.1 = c := ⟨_, rfl⟩
 obtain ⟨r, hr⟩ : ∃ r, orL [a, b, c] = r := ⟨_, rfl⟩
 have HA : Hid (cmpI p.1 q.1 = a) := ha
 have HB : Hid (cmpI p.2.2 q.2.2 = b) := hbb
 have HC : Hid (cmpI p.2.1 q.2.1 = c) := hc
 have HR : Hid (orL [a, b, c] = r) := hr
 have HQ : Hid (cmpP x.1 y.1 = r) := by show _ = _; rw [hp, hq, cmpP, ha, hbb, hc, hr]
 obtain ⟨xp, xf⟩ := x
 obtain ⟨yp, yf⟩ := y
 simp only at hp hq HQ
 subst hp hq
 clear ha hbb hc hr
 obtain ⟨w0, hw0⟩ : ∃ w0, w0 = (W.alloc (who (xp, xf))).alloc (who (yp, yf)) := ⟨_, rfl⟩
 have HW0 : Hid (w0 = (W.alloc (who (xp, xf))).alloc (who (yp, yf))) := hw0
 have HB0 : Hid (Below W.heap.size W w0) := by show Below _ _ _; rw [hw0]; exact ((brf).alloc (Nat.le_refl _) _).alloc (by simp) _
 have HD0 : Hid (W.drawn = w0.drawn) := by show _ = _; rw [hw0]; rfl
 have KX : Hid (Bk W.heap.size [.int .i64 xp.1, .int .i64 xp.2.1, .int .i64 xp.2.2, .slice xf.1 xf.2.2.length xf.2.1] w0) := by
  show Bk _ _ _; rw [hw0]; exact (Bk.new W _ 59 W.heap.size rfl).later ((brf).alloc (Nat.le_refl _) _)
 have KY : Hid (Bk (W.heap.size + 1) [.int .i64 yp.1, .int .i64 yp.2.1, .int .i64 yp.2.2, .slice yf.1 yf.2.2.length yf.2.1] w0) := by
  show Bk _ _ _; rw [hw0]; exact Bk.new (W.alloc _) _ 59 (W.heap.size + 1) (by simp)
 clear hw0
 go_enter Tryz.func73, Tryz.ntmps73
 go_wp2_with fail
 rename_i KK hkk
 have HKK := (show Hid _ from hkk)
 clear hkk
 rw [← HW0.out]
 refine region_allD [zf,zf,zf,zf,zf,zt,zt,zt,zt,zt,zt,zf,zf,zf,zf,zf,zf,zf,zf,zf,zf,zf,zf,zf,zf,zf,zf,zf,zf,zf,zf,zf]
  bpP (bpV W.heap.size (W.heap.size + 1) w0.heap.size xp yp) (fun f w => w0.drawn ≤ w.drawn ∧ Apart 5 6 f w) (by kernel_rfl) (by kernel_rfl) ?_ ?_ ?_
 ·refine ⟨Nat.le_succ _, fun b e => ?_, fun b e => ?_, fun b e _ => ?_⟩
  all_goals (simp [undef] at e)
 ·refine ⟨?_, ?_, ?_, ?_, ?_, ?_, ?_, ?_, trivial⟩
  ·intro f w1 hb hJ _ K hK
   simp only [over, overL, Nat.reduceAdd]
   go_simp
   exact hK _ _ ⟨_, by simp only [over, overL, Nat.reduceAdd]; rfl, rfl, hb, ⟨hJ.1, hJ.2.other (by decide) (by decide) (brf)⟩, fun _ h => h⟩
  ·intro f w1 hb hJ ⟨h7, _⟩ K hK
   replace h7 : f 7 = _ := h7
   have q0 := (KX.out.later hb).c 0 rfl
   have q1 := (KX.out.later hb).c 1 rfl
   have q2 := (KX.out.later hb).c 2 rfl
   simp only [over, overL, Nat.reduceAdd, h7]
   go_simp
   exact hK _ _ ⟨_, by simp only [over, overL, Nat.reduceAdd, h7]; rfl, rfl, hb, ⟨hJ.1, hJ.2.other (by decide) (by decide) (brf)⟩, fun _ h => h⟩
  ·intro f w1 hb hJ _ K hK
   simp only [over, overL, Nat.reduceAdd]
   go_simp
   exact hK _ _ ⟨_, by simp only [over, overL, Nat.reduceAdd]; rfl, rfl, hb, ⟨hJ.1, hJ.2.other (by decide) (by decide) (brf)⟩, fun _ h => h⟩
  ·intro f w1 hb hJ ⟨h9, _⟩ K hK
   replace h9 : f 9 = _ := h9
   have q0 := (KY.out.later hb).c 0 rfl
   have q1 := (KY.out.later hb).c 1 rfl
   have q2 := (KY.out.later hb).c 2 rfl
   simp only [over, overL, Nat.reduceAdd, h9]
   go_simp
   exact hK _ _ ⟨_, by simp only [over, overL, Nat.reduceAdd, h9]; rfl, rfl, hb, ⟨hJ.1, hJ.2.other (by decide) (by decide) (brf)⟩, fun _ h => h⟩
  ·intro f w1 hb hJ _ K hK
   simp only [over, overL, Nat.reduceAdd]
   go_simp
   exact hK _ _ ⟨_, by simp only [over, overL, Nat.reduceAdd]; rfl, ⟨w1.heap.size, rfl, hb.size, _, _, _, Bk.new w1 [.int .i64 0, .int .i64 0, .int .i64 0] 31 w1.heap.size rfl⟩, below_on hb ((brf).alloc (Nat.le_refl _) _), ⟨hJ.1, hJ.2.left (by decide)⟩, fun j h => bpV_mono W.heap.size (W.heap.size + 1) w0.heap.size xp yp j _ _ _ h ((brf).alloc (Nat.le_refl _) _)⟩
  ·intro f w1 hb hJ _ K hK
   simp only [over, overL, Nat.reduceAdd]
   go_simp
   exact hK _ _ ⟨_, by simp only [over, overL, Nat.reduceAdd]; rfl, ⟨w1.heap.size, rfl, hb.size, _, _, _, Bk.new w1 [.int .i64 0, .int .i64 0, .int .i64 0] 31 w1.heap.size rfl⟩, below_on hb ((brf).alloc (Nat.le_refl _) _), ⟨hJ.1, hJ.2.right (by decide)⟩, fun j h => bpV_mono W.heap.size (W.heap.size + 1) w0.heap.size xp yp j _ _ _ h ((brf).alloc (Nat.le_refl _) _)⟩
  ·intro f w1 hb hJ ⟨h5, h8, _⟩ K hK
   replace h8 : f 8 = _ := h8
   obtain ⟨B, h5, nB, u0, u1, u2, AB⟩ := (show ∃ B, f 5 = ptr B ∧ w0.heap.size ≤ B ∧ ∃ u0 u1 u2, Bk B [u0, u1, u2] w1 from h5)
   obtain ⟨q0, q1, q2⟩ := (AB).c3
   obtain ⟨qf0, qf1, qf2⟩ := (AB).f3
   simp only [over, overL, Nat.reduceAdd, h5, h8]
   go_simp
   refine hK _ _ ⟨undef, by simp only [over, overL, Nat.reduceAdd, h5, h8]; rfl, ?_, ((hb.setCell nB _).setCell nB _).setCell nB _, ⟨hJ.1, hJ.2.same (by simp)⟩, ?_⟩
   ·exact ⟨B, h5, AB.put3 xp⟩
   ·exact bp_store5 hJ.2 h5 AB
  ·intro f w1 hb hJ ⟨h6, h10, _⟩ K hK
   replace h10 : f 10 = _ := h10
   obtain ⟨B, h6, nB, u0, u1, u2, AB⟩ := (show ∃ B, f 6 = ptr B ∧ w0.heap.size ≤ B ∧ ∃ u0 u1 u2, Bk B [u0, u1, u2] w1 from h6)
   obtain ⟨q0, q1, q2⟩ := (AB).c3
   obtain ⟨qf0, qf1, qf2⟩ := (AB).f3
   simp only [over, overL, Nat.reduceAdd, h6, h10]
   go_simp
   refine hK _ _ ⟨undef, by simp only [over, overL, Nat.reduceAdd, h6, h10]; rfl, ?_, ((hb.setCell nB _).setCell nB _).setCell nB _, ⟨hJ.1, hJ.2.same (by simp)⟩, ?_⟩
   ·exact ⟨B, h6, AB.put3 yp⟩
   ·exact bp_store6 hJ.2 h6 AB
 intro f w1 hb1 hJ h
 have h7 : f 7 = _ := h.1
 have h8 : f 8 = _ := h.2.1
 have h9 : f 9 = _ := h.2.2.1
 have h10 : f 10 = _ := h.2.2.2.1
 obtain ⟨P, h5, A5⟩ := (show ∃ b, f 5 = ptr b ∧ Bk b (pcl xp) w1 from h.2.2.2.2.2.2.1)
 obtain ⟨Q, h6, A6⟩ := (show ∃ b, f 6 = ptr b ∧ Bk b (pcl yp) w1 from h.2.2.2.2.2.2.2.1)
 have hd1 : w0.drawn ≤ w1.drawn := hJ.1
 simp only [over, overL, Nat.reduceAdd, h5, h6, h7, h8, h9, h10]
 have KP : Hid (Bk P (pcl xp) w1) := A5
 have KQ : Hid (Bk Q (pcl yp) w1) := A6
 have HB1 : Hid (Below W.heap.size W w1) := below_on HB0.out hb1
 have HD1 : Hid (W.drawn ≤ w1.drawn) := by show _ ≤ _; rw [HD0.out]; exact hd1
 clear h h5 h6 h7 h8 h9 h10 A5 A6 hJ hb1 hd1 KX KY HW0
 refine HKK.out _ _ ?_
 go_wp2_with fail
 refine region_allD [zf,zf,zf,zf,zt,zf,zf,zf,zf,zf,zf,zt,zt,zt,zt,zt,zt,zt,zt,zt,zt,zt,zt,zt,zt,zt,zt,zt,zt,zt,zt,zt]
  [([], [11], none), ([0], [12], none), ([], [13], none), ([2], [14], none), ([1, 3], [15], none), ([], [16], none), ([5], [17], none), ([6], [18], none), ([], [19], none), ([8], [20], none), ([9], [21], none), ([7, 10], [22], none), ([], [23], none), ([12], [24], none), ([13], [25], none), ([], [26], none), ([15], [27], none), ([16], [28], none), ([14, 17], [29], none), ([4, 11, 18], [30], none), ([19], [31], none), ([20], [4], none)]
  (bqV P Q xp yp a b c r) (fun _ w => w1.drawn ≤ w.drawn) (by kernel_rfl) (by kernel_rfl) (Nat.le_succ _) ?_ ?_
 ·refine ⟨?_, ?_, ?_, ?_, ?_, ?_, ?_, ?_, ?_, ?_, ?_, ?_, ?_, ?_, ?_, ?_, ?_, ?_, ?_, ?_, ?_, ?_, trivial⟩
  ·intro f w1 hb hJ _ K hK
   simp only [over, overL, Nat.reduceAdd]
   go_simp
   exact hK _ _ ⟨_, by simp only [over, overL, Nat.reduceAdd]; rfl, rfl, hb, hJ, fun _ h => h⟩
  ·intro f w1 hb hJ ⟨h11, _⟩ K hK
   replace h11 : f 11 = _ := h11
   have q0 := (KP.out.later hb).c 0 rfl
   simp only [over, overL, Nat.reduceAdd, h11]
   go_simp
   exact hK _ _ ⟨_, by simp only [over, overL, Nat.reduceAdd, h11]; rfl, rfl, hb, hJ, fun _ h => h⟩
  ·intro f w1 hb hJ _ K hK
   simp only [over, overL, Nat.reduceAdd]
   go_simp
   exact hK _ _ ⟨_, by simp only [over, overL, Nat.reduceAdd]; rfl, rfl, hb, hJ, fun _ h => h⟩
  ·intro f w1 hb hJ ⟨h13, _⟩ K hK
   replace h13 : f 13 = _ := h13
   have q0 := (KQ.out.later hb).c 0 rfl
   simp only [over, overL, Nat.reduceAdd, h13]
   go_simp
   exact hK _ _ ⟨_, by simp only [over, overL, Nat.reduceAdd, h13]; rfl, rfl, hb, hJ, fun _ h => h⟩
  ·intro f w1 hb hJ ⟨h12, h14, _⟩ K hK
   replace h12 : f 12 = _ := h12
   replace h14 : f 14 = _ := h14
   simp only [over, overL, Nat.reduceAdd, h12, h14]
   go_simp
   refine (compare_r xp.1 yp.1 a (by exact HA.out) w1).mono ?_
   rintro e w2 ⟨rfl, rfl⟩
   exact hK _ _ ⟨_, by simp only [over, overL, Nat.reduceAdd, h12, h14]; rfl, rfl, hb, hJ, fun _ h => h⟩
  ·intro f w1 hb hJ _ K hK
   simp only [over, overL, Nat.reduceAdd]
   go_simp
   exact hK _ _ ⟨_, by simp only [over, overL, Nat.reduceAdd]; rfl, rfl, hb, hJ, fun _ h => h⟩
  ·intro f w1 hb hJ ⟨h16, _⟩ K hK
   replace h16 : f 16 = _ := h16
   simp only [over, overL, Nat.reduceAdd, h16]
   go_simp
   exact hK _ _ ⟨_, by simp only [over, overL, Nat.reduceAdd, h16]; rfl, rfl, hb, hJ, fun _ h => h⟩
  ·intro f w1 hb hJ ⟨h17, _⟩ K hK
   replace h17 : f 17 = _ := h17
   have q2 := (KP.out.later hb).c 2 rfl
   simp only [over, overL, Nat.reduceAdd, h17]
   go_simp
   exact hK _ _ ⟨_, by simp only [over, overL, Nat.reduceAdd, h17]; rfl, rfl, hb, hJ, fun _ h => h⟩
  ·intro f w1 hb hJ _ K hK
   simp only [over, overL, Nat.reduceAdd]
   go_simp
   exact hK _ _ ⟨_, by simp only [over, overL, Nat.reduceAdd]; rfl, rfl, hb, hJ, fun _ h => h⟩
  ·intro f w1 hb hJ ⟨h19, _⟩ K hK
   replace h19 : f 19 = _ := h19
   simp only [over, overL, Nat.reduceAdd, h19]
   go_simp
   exact hK _ _ ⟨_, by simp only [over, overL, Nat.reduceAdd, h19]; rfl, rfl, hb, hJ, fun _ h => h⟩
  ·intro f w1 hb hJ ⟨h20, _⟩ K hK
   replace h20 : f 20 = _ := h20
   have q2 := (KQ.out.later hb).c 2 rfl
   simp only [over, overL, Nat.reduceAdd, h20]
   go_simp
   exact hK _ _ ⟨_, by simp only [over, overL, Nat.reduceAdd, h20]; rfl, rfl, hb, hJ, fun _ h => h⟩
  ·intro f w1 hb hJ ⟨h18, h21, _⟩ K hK
   replace h18 : f 18 = _ := h18
   replace h21 : f 21 = _ := h21
   simp only [over, overL, Nat.reduceAdd, h18, h21]
   go_simp
   refine (compare_r xp.2.2 yp.2.2 b (by exact HB.out) w1).mono ?_
   rintro e w2 ⟨rfl, rfl⟩
   exact hK _ _ ⟨_, by simp only [over, overL, Nat.reduceAdd, h18, h21]; rfl, rfl, hb, hJ, fun _ h => h⟩
  ·intro f w1 hb hJ _ K hK
   simp only [over, overL, Nat.reduceAdd]
   go_simp
   exact hK _ _ ⟨_, by simp only [over, overL, Nat.reduceAdd]; rfl, rfl, hb, hJ, fun _ h => h⟩
  ·intro f w1 hb hJ ⟨h23, _⟩ K hK
   replace h23 : f 23 = _ := h23
   simp only [over, overL, Nat.reduceAdd, h23]
   go_simp
   exact hK _ _ ⟨_, by simp only [over, overL, Nat.reduceAdd, h23]; rfl, rfl, hb, hJ, fun _ h => h⟩
  ·intro f w1 hb hJ ⟨h24, _⟩ K hK
   replace h24 : f 24 = _ := h24
   have q1 := (KP.out.later hb).c 1 rfl
   simp only [over, overL, Nat.reduceAdd, h24]
   go_simp
   exact hK _ _ ⟨_, by simp only [over, overL, Nat.reduceAdd, h24]; rfl, rfl, hb, hJ, fun _ h => h⟩
  ·intro f w1 hb hJ _ K hK
   simp only [over, overL, Nat.reduceAdd]
   go_simp
   exact hK _ _ ⟨_, by simp only [over, overL, Nat.reduceAdd]; rfl, rfl, hb, hJ, fun _ h => h⟩
  ·intro f w1 hb hJ ⟨h26, _⟩ K hK
   replace h26 : f 26 = _ := h26
   simp only [over, overL, Nat.reduceAdd, h26]
   go_simp
   exact hK _ _ ⟨_, by simp only [over, overL, Nat.reduceAdd, h26]; rfl, rfl, hb, hJ, fun _ h => h⟩
  ·intro f w1 hb hJ ⟨h27, _⟩ K hK
   replace h27 : f 27 = _ := h27
   have q1 := (KQ.out.later hb).c 1 rfl
   simp only [over, overL, Nat.reduceAdd, h27]
   go_simp
   exact hK _ _ ⟨_, by simp only [over, overL, Nat.reduceAdd, h27]; rfl, rfl, hb, hJ, fun _ h => h⟩
  ·intro f w1 hb hJ ⟨h25, h28, _⟩ K hK
   replace h25 : f 25 = _ := h25
   replace h28 : f 28 = _ := h28
   simp only [over, overL, Nat.reduceAdd, h25, h28]
   go_simp
   refine (compare_r xp.2.1 yp.2.1 c (by exact HC.out) w1).mono ?_
   rintro e w2 ⟨rfl, rfl⟩
   exact hK _ _ ⟨_, by simp only [over, overL, Nat.reduceAdd, h25, h28]; rfl, rfl, hb, hJ, fun _ h => h⟩
  ·intro f w1 hb hJ ⟨h15, h22, h29, _⟩ K hK
   replace h15 : f 15 = _ := h15
   replace h22 : f 22 = _ := h22
   replace h29 : f 29 = _ := h29
   simp only [over, overL, Nat.reduceAdd, h15, h22, h29]
   go_simp
   exact hK _ _ ⟨_, by simp only [over, overL, Nat.reduceAdd, h15, h22, h29]; rfl, new_three _ _ _ _ _, below_on hb ((brf).alloc (Nat.le_refl _) _), hJ, fun j h => bqV_mono P Q xp yp a b c r j _ _ _ h ((brf).alloc (Nat.le_refl _) _)⟩
  ·intro f w1 hb hJ ⟨h30, _⟩ K hK
   replace h30 : IsInts [a, b, c] (f 30) w1 := h30
   simp only [over, overL, Nat.reduceAdd]
   go_simp
   refine (cmpOrI_is [a, b, c] r HR.out _ w1 (by simp) h30).mono ?_
   rintro e w2 ⟨rfl, rfl⟩
   exact hK _ _ ⟨_, by simp only [over, overL, Nat.reduceAdd]; rfl, rfl, hb, hJ, fun _ h => h⟩
  ·intro f w1 hb hJ ⟨h31, _⟩ K hK
   replace h31 : f 31 = _ := h31
   simp only [over, overL, Nat.reduceAdd, h31]
   go_simp
   exact hK _ _ ⟨_, by simp only [over, overL, Nat.reduceAdd, h31]; rfl, rfl, hb, hJ, fun _ h => h⟩
 intro f w2 hb2 hJ h
 have h4 : f 4 = .int .i64 r := h.2.2.2.2.2.2.2.2.2.2.2.2.2.2.2.2.2.2.2.2.2.1
 simp only [over, overL, Nat.reduceAdd, h4]
 clear h h4
 go_wp2
 go_ret
 exact ⟨ret_int HQ.out.symm, below_on HB1.out hb2, Nat.le_trans HD1.out hJ⟩
end Go.Proofs.YtjappkfhballhaaGreat

/- newLayout walked. -/
namespace Go.Proofs.YtjappkfhballhaaGreat
open Go.RowKit
def nlV (g n cp M : Nat) (ao : Option Addr) (cap : Nat) (l : List Sit) (t : Int) (p : Plc) (a : Wr) (e0 : Int) (d : Nat) (v : Value) (w : World) : Prop :=
 match d with
 | 21 => v = .agg #[.slice ao l.length cap, .int .i64 t, .int .i64 0]
 | 22 => v = .slice (some ⟨g, 0, none⟩) n cp
 | 23 => v = .pointer (some ⟨g, 0, none⟩)
 | 24 => v = .agg #[.int .i64 p.1, .int .i64 p.2.1, .int .i64 p.2.2]
 | 25 => v = .tuple #[wv a, .int .i64 e0]
 | 20 => v = .tuple #[wv a, .int .i64 e0]
 | 26 => v = wv a
 | 27 => v = .int .i64 e0
 | 6 => ∃ b, v = ptr b ∧ M ≤ b ∧ Bk b (wcl zWr) w
 | _ => True
theorem nlV_mono (g n cp M : Nat) (ao : Option Addr) (cap : Nat) (l : List Sit) (t : Int) (p : Plc) (a : Wr) (e0 : Int) (d : Nat) (v : Value) (w w' : World) (h : nlV g n cp M ao cap l t p a e0 d v w) (hb : Below w.heap.size w w') : nlV g n cp M ao cap l t p a e0 d v w' := by
 unfold nlV at h ⊢
 split <;> simp only [] at h <;> first | exact h | (obtain ⟨b, h1, h2, h3⟩ := h; exact ⟨b, h1, h2, h3.later hb⟩)
theorem bk_put12 {B : Nat} {z : Wr} {w : World} (h : Bk B (wcl z) w) (a : Wr) : Bk B (wcl a) (put12 w B a) :=
 (((((((((((h.put 0 (.string a.name)).put 1 (.int .i64 a.kind)).put 2 (.int .i64 a.rows)).put 3 (.int .i64 a.cols)).put 4 (.int .i64 a.x)).put 5 (.int .i64 a.y)).put 6 (.int .i64 a.pitch)).put 7 (.int .i64 a.wid)).put 8 (.int .i64 a.len)).put 9 (.int .i64 a.hei)).put 10 (.int .i64 a.deep)).put 11 (.int .i64 a.cap)
theorem bk_oth12 {b B : Nat} {cs : List Value} {w : World} (h : Bk b cs w) (hn : b ≠ B) (a : Wr) : Bk b cs (put12 w B a) :=
 (((((((((((h.other hn 0 _).other hn 1 _).other hn 2 _).other hn 3 _).other hn 4 _).other hn 5 _).other hn 6 _).other hn 7 _).other hn 8 _).other hn 9 _).other hn 10 _).other hn 11 _
theorem tipM_ware {l : List Sit} {p : Plc} {r : List Plc} (h : tipsL l = p :: r) : tipM l = (wareV l p).1.cap := by
 unfold tipM
 rw [h]
 simp only [wareV]
 cases h2 : wareOf l p <;> rfl
set_option maxHeartbeats 3200000 in
set_option maxRecDepth 100000 in
theorem newLayout_any (ao : Option Addr) (cap : Nat) (l : List Sit) (w : World) (hD : Dk w ao cap l) (hd : dchk l = 0) :
  Calls Tryz.prog 28 #[.slice ao l.length cap] w fun e w' => e = .returned (layv ao cap l) ∧ Below w.heap.size w w' := by
 have HD : Hid (Dk w ao cap l) := hD
 have HDC : Hid (dchk l = 0) := hd
 have al : Below w.heap.size w (w.alloc (.cells #[.slice none 0 0, .int .i64 0, .int .i64 0] 67)) := (brf).alloc (Nat.le_refl _) _
 have HT := (show Hid _ from tips_any ao cap l _ (hD.next al) hd)
 clear hD hd
 cases hts : tipsL l with
 | nil =>
  have HN : Hid (layv ao cap l = .agg #[.slice ao l.length cap, .int .i64 0, .int .i64 0]) := by show _ = _; simp [layv, tipM, hts]
  rw [hts] at HT
  clear hts
  go_enter Tryz.func28, Tryz.ntmps28
  go_wp2_with fail
  refine Calls.mono HT.out ?_
  rintro e w1 ⟨v, rfl, ho, hb⟩
  obtain ⟨aoV, capV, rfl⟩ := ho.shape
  have K := (Bk.new w [.slice none 0 0, .int .i64 0, .int .i64 0] 67 w.heap.size rfl).later hb
  have HB : Hid (Below w.heap.size w w1) := al.trans (hb.mono (by simp))
  have lt := K.1
  clear hb al ho HT
  obtain ⟨a0, a1, a2⟩ := (K).c3
  obtain ⟨af0, af1, af2⟩ := (K).f3
  clear K
  simp only [List.length_nil]
  go_wp2
  refine bodyPost_ret (v := .agg #[.slice ao l.length cap, .int .i64 0, .int .i64 0]) (by simp [results, Tryz.results28, go_sem, a0, a1, a2, lt]) rfl ⟨by rw [HN.out], ?_⟩
  exact (((HB.out.setCell (Nat.le_refl _) _).setCell (Nat.le_refl _) _).setCell (Nat.le_refl _) _).alloc (by have := HB.out.size; simp [World.setCell]; omega) _
 | cons p r =>
  have HN : Hid (tipM l = (wareV l p).1.cap) := tipM_ware hts
  have HTL : Hid ((tipsL l).length = r.length + 1) := by show _ = _; rw [hts]; rfl
  have HWC : Hid (∀ W, Dk W ao cap l → Calls Tryz.prog 67 #[lay3 ao cap l ((tipsL l).length : Int) 0, plv p] W fun e w' => e = .returned (.tuple #[wv (wareV l p).1, .int .i64 (wareV l p).2]) ∧ Below W.heap.size W w') := fun W hW => wareAt_any ao cap l p _ 0 W hW HDC.out
  rw [hts] at HT
  clear hts
  obtain ⟨⟨a, e0⟩, hV⟩ : ∃ x, wareV l p = x := ⟨_, rfl⟩
  rw [hV] at HN HWC
  simp only at HN HWC
  clear hV
  go_enter Tryz.func28, Tryz.ntmps28
  go_wp2_with fail
  refine Calls.mono HT.out ?_
  rintro e w1 ⟨v, rfl, ho, hb⟩
  obtain ⟨g, cp, rfl, _, _, hg, hc⟩ := (ho.read goodP).resolve_left (by simp)
  have c0 := hc 0 (by simp) 0 (by decide)
  have c1 := hc 0 (by simp) 1 (by decide)
  have c2 := hc 0 (by simp) 2 (by decide)
  simp only [List.getElem_cons_zero, List.getElem?_cons_zero, List.getElem?_cons_succ, Nat.zero_mul, Nat.zero_add] at c0 c1 c2
  have K : Hid (Bk w.heap.size [.slice none 0 0, .int .i64 0, .int .i64 0] w1) := (Bk.new w [.slice none 0 0, .int .i64 0, .int .i64 0] 67 w.heap.size rfl).later hb
  have HB : Hid (Below w.heap.size w w1) := al.trans (hb.mono (by simp))
  have lt := K.out.1
  clear hb al ho hc HT
  have hE : (p :: r).length = (tipsL l).length := by rw [HTL.out]; rfl
  have hpos : 0 < (tipsL l).length := by rw [HTL.out]; omega
  rw [hE]
  clear hE HTL
  obtain ⟨w2, hw2⟩ : ∃ w2, w2 = w1.alloc (lao3 ao cap l ((tipsL l).length : Int) 0) := ⟨_, rfl⟩
  have HW2 : Hid (w2 = w1.alloc (lao3 ao cap l ((tipsL l).length : Int) 0)) := hw2
  have b12 : Below w1.heap.size w1 w2 := by rw [hw2]; exact (brf).alloc (Nat.le_refl _) _
  have KY : Hid (Bk w1.heap.size [.slice ao l.length cap, .int .i64 ((tipsL l).length : Int), .int .i64 0] w2) := by show Bk _ _ _; rw [hw2]; exact Bk.new w1 _ 67 w1.heap.size rfl
  have K2 : Hid (Bk w.heap.size [.slice none 0 0, .int .i64 0, .int .i64 0] w2) := K.out.later b12
  have HB2 : Hid (Below w.heap.size w w2) := HB.out.trans (b12.mono HB.out.size)
  replace c0 := cell_later b12 c0
  replace c1 := cell_later b12 c1
  replace c2 := cell_later b12 c2
  have HC : Hid (∀ W, Below w2.heap.size w2 W → Calls Tryz.prog 67 #[lay3 ao cap l ((tipsL l).length : Int) 0, plv p] W fun e w' => e = .returned (.tuple #[wv a, .int .i64 e0]) ∧ Below W.heap.size W w') := fun W hW => HWC.out W ((HD.out.next HB2.out).next hW)
  clear hw2 b12 HWC
  go_wp2_with fail
  rename_i KK hkk
  have HKK := (show Hid _ from hkk)
  clear hkk
  rw [← HW2.out]
  have hz1 : (0 : Int) < ((tipsL l).length : Int) := by omega
  refine region_seqL 9 7 [zf,zf,zf,zf,zf,zf,zt,zf,zf,zf,zf,zf,zf,zf,zf,zf,zf,zf,zf,zf,zt,zt,zt,zt,zt,zt,zt,zt,zf,zf,zf,zf]
   [(21, [], none), (22, [], none), (23, [22], none), (24, [23], none), (25, [21, 24], none), (20, [25], none), (26, [20], none), (27, [20], none), (6, [], none)]
   (nlV g (tipsL l).length cp w2.heap.size ao cap l ((tipsL l).length : Int) p a e0) (by kernel_rfl) (by kernel_rfl) (by kernel_rfl) (by kernel_rfl) (by kernel_rfl) (by decide) (by decide) (nlV_mono g (tipsL l).length cp w2.heap.size ao cap l ((tipsL l).length : Int) p a e0) ?_ ?_ ?_
  ·refine ⟨?_, ?_, ?_, ?_, ?_, ?_, ?_, ?_, ?_, trivial⟩
   ·intro f w1 hb _ K hK
    have q0 := (KY.out.later hb).c 0 rfl
    have q1 := (KY.out.later hb).c 1 rfl
    have q2 := (KY.out.later hb).c 2 rfl
    simp only [over, overL, Nat.reduceAdd]
    go_simp
    exact hK _ _ ⟨_, rfl, by simp only [over, overL, Nat.reduceAdd]; rfl, brf⟩
   ·intro f w1 hb _ K hK
    simp only [over, overL, Nat.reduceAdd]
    go_simp
    exact hK _ _ ⟨_, rfl, by simp only [over, overL, Nat.reduceAdd]; rfl, brf⟩
   ·rintro f w1 hb ⟨(h22 : f 22 = _), _⟩ K hK
    simp only [over, overL, Nat.reduceAdd, h22]
    go_simp
    exact hK _ _ ⟨_, rfl, by simp only [over, overL, Nat.reduceAdd, h22]; rfl, brf⟩
   ·rintro f w1 hb ⟨(h23 : f 23 = _), _⟩ K hK
    have q0 := cell_later hb c0
    have q1 := cell_later hb c1
    have q2 := cell_later hb c2
    simp only [over, overL, Nat.reduceAdd, h23]
    go_simp
    exact hK _ _ ⟨_, rfl, by simp only [over, overL, Nat.reduceAdd, h23]; rfl, brf⟩
   ·rintro f w1 hb ⟨(h21 : f 21 = _), (h24 : f 24 = _), _⟩ K hK
    simp only [over, overL, Nat.reduceAdd, h21, h24]
    go_simp
    refine (HC.out w1 hb).mono ?_
    rintro e w2 ⟨rfl, hb2⟩
    exact hK _ _ ⟨_, rfl, by simp only [over, overL, Nat.reduceAdd, h21, h24]; rfl, hb2⟩
   ·rintro f w1 hb ⟨(h25 : f 25 = _), _⟩ K hK
    simp only [over, overL, Nat.reduceAdd, h25]
    go_simp
    exact hK _ _ ⟨_, rfl, by simp only [over, overL, Nat.reduceAdd, h25]; rfl, brf⟩
   ·rintro f w1 hb ⟨(h20 : f 20 = _), _⟩ K hK
    simp only [over, overL, Nat.reduceAdd, h20]
    go_simp
    exact hK _ _ ⟨_, rfl, by simp only [over, overL, Nat.reduceAdd, h20]; rfl, brf⟩
   ·rintro f w1 hb ⟨(h20 : f 20 = _), _⟩ K hK
    simp only [over, overL, Nat.reduceAdd, h20]
    go_simp
    exact hK _ _ ⟨_, rfl, by simp only [over, overL, Nat.reduceAdd, h20]; rfl, brf⟩
   ·intro f w1 hb _ K hK
    simp only [over, overL, Nat.reduceAdd]
    go_simp
    exact hK _ _ ⟨_, ⟨w1.heap.size, rfl, hb.size, Bk.new w1 (wcl zWr) 61 w1.heap.size rfl⟩, by simp only [over, overL, Nat.reduceAdd]; rfl, (brf).alloc (Nat.le_refl _) _⟩
  ·intro f w3 hb3 hv
   have h26 : f 26 = wv a := hv.2.2.2.2.2.2.1
   have h20 : f 20 = .tuple #[wv a, .int .i64 e0] := hv.2.2.2.2.2.1
   obtain ⟨b, h6, hbb, K6⟩ := (show ∃ b, f 6 = ptr b ∧ w2.heap.size ≤ b ∧ Bk b (wcl zWr) w3 from hv.2.2.2.2.2.2.2.2.1)
   have h27 : f 27 = .int .i64 e0 := hv.2.2.2.2.2.2.2.1
   have KY3 : Hid (Bk w1.heap.size [.slice ao l.length cap, .int .i64 ((tipsL l).length : Int), .int .i64 0] w3) := KY.out.later hb3
   have K3 : Hid (Bk w.heap.size [.slice none 0 0, .int .i64 0, .int .i64 0] w3) := K2.out.later hb3
   have HB3 : Hid (Below w.heap.size w w3) := HB2.out.trans (hb3.mono HB2.out.size)
   have hyb : w1.heap.size ≠ b := by have := KY.out.1; omega
   have hrb : w.heap.size ≠ b := by have := K2.out.1; omega
   have hwb : w.heap.size ≤ b := by have := HB2.out.size; omega
   obtain ⟨q0, q1, q2, q3, q4, q5, q6, q7, q8, q9, q10, q11⟩ := (K6).c12
   obtain ⟨qf0, qf1, qf2, qf3, qf4, qf5, qf6, qf7, qf8, qf9, qf10, qf11⟩ := (K6).f12
   clear hv hb3 c0 c1 c2 hbb
   simp only [List.drop, over, overL, Nat.reduceAdd, h26, h6, h27, h20]
   go_wp2
   refine HKK.out _ _ ?_
   obtain ⟨w4, hw4⟩ : ∃ w4, w4 = put12 w3 b a := ⟨_, rfl⟩
   have K64 : Hid (Bk b (wcl a) w4) := by show Bk _ _ _; rw [hw4]; exact bk_put12 K6 a
   have KY4 : Hid (Bk w1.heap.size [.slice ao l.length cap, .int .i64 ((tipsL l).length : Int), .int .i64 0] w4) := by show Bk _ _ _; rw [hw4]; exact bk_oth12 KY3.out hyb a
   have KR4 : Hid (Bk w.heap.size [.slice none 0 0, .int .i64 0, .int .i64 0] w4) := by show Bk _ _ _; rw [hw4]; exact bk_oth12 K3.out hrb a
   have HB4 : Hid (Below w.heap.size w w4) := by show Below _ _ _; rw [hw4]; exact below_put12 HB3.out hwb
   have hyr : w1.heap.size ≠ w.heap.size := by omega
   have hrw : w.heap.size ≠ w1.heap.size := by omega
   have hby : b ≠ w1.heap.size := fun e => hyb e.symm
   clear q0 q1 q2 q3 q4 q5 q6 q7 q8 q9 q10 q11 qf0 qf1 qf2 qf3 qf4 qf5 qf6 qf7 qf8 qf9 qf10 qf11 K6 KY3 K3 HB3 h26 h20 h6 h27
   rw [show ((((((((((((w3.setCell ⟨b, 0, none⟩ (.string a.name)).setCell ⟨b, 1, none⟩ (.int .i64 a.kind)).setCell ⟨b, 2, none⟩ (.int .i64 a.rows)).setCell ⟨b, 3, none⟩ (.int .i64 a.cols)).setCell ⟨b, 4, none⟩ (.int .i64 a.x)).setCell ⟨b, 5, none⟩ (.int .i64 a.y)).setCell ⟨b, 6, none⟩ (.int .i64 a.pitch)).setCell ⟨b, 7, none⟩ (.int .i64 a.wid)).setCell ⟨b, 8, none⟩ (.int .i64 a.len)).setCell ⟨b, 9, none⟩ (.int .i64 a.hei)).setCell ⟨b, 10, none⟩ (.int .i64 a.deep)).setCell ⟨b, 11, none⟩ (.int .i64 a.cap)) = w4 from hw4.symm]
   clear hw4
   have k11 := (K64.out).c 11 rfl
   obtain ⟨y0, y1, y2⟩ := (KY4.out).c3
   obtain ⟨yf0, yf1, yf2⟩ := (KY4.out).f3
   obtain ⟨r0, r1, r2⟩ := (KR4.out).c3
   obtain ⟨rf0, rf1, rf2⟩ := (KR4.out).f3
   go_wp2
   refine bodyPost_ret (v := layv ao cap l) (by simp [results, Tryz.results28, go_sem, r0, r1, r2, HN.out]) rfl ⟨rfl, ?_⟩
   exact (((HB4.out.setCell (p := ⟨w1.heap.size, 2, none⟩) (Nat.le_of_lt lt) _).setCell (Nat.le_refl _) _).setCell (Nat.le_refl _) _).setCell (Nat.le_refl _) _
  ·intro f w3 ok ol hok hol hb3 hv
   cases hok
   cases hol
   have h26 : f 26 = wv a := hv.2.2.2.2.2.2.1 (by decide)
   have h20 : f 20 = .tuple #[wv a, .int .i64 e0] := hv.2.2.2.2.2.1 (by decide)
   obtain ⟨b, h6, hbb, K6⟩ := (show ∃ b, f 6 = ptr b ∧ w2.heap.size ≤ b ∧ Bk b (wcl zWr) w3 from hv.2.2.2.2.2.2.2.2.1 (by decide))
   have KY3 : Hid (Bk w1.heap.size [.slice ao l.length cap, .int .i64 ((tipsL l).length : Int), .int .i64 0] w3) := KY.out.later hb3
   have K3 : Hid (Bk w.heap.size [.slice none 0 0, .int .i64 0, .int .i64 0] w3) := K2.out.later hb3
   have HB3 : Hid (Below w.heap.size w w3) := HB2.out.trans (hb3.mono HB2.out.size)
   have hyb : w1.heap.size ≠ b := by have := KY.out.1; omega
   have hrb : w.heap.size ≠ b := by have := K2.out.1; omega
   have hwb : w.heap.size ≤ b := by have := HB2.out.size; omega
   obtain ⟨q0, q1, q2, q3, q4, q5, q6, q7, q8, q9, q10, q11⟩ := (K6).c12
   obtain ⟨qf0, qf1, qf2, qf3, qf4, qf5, qf6, qf7, qf8, qf9, qf10, qf11⟩ := (K6).f12
   clear hv hb3 c0 c1 c2 hbb
   simp only [List.drop, over, overL, Nat.reduceAdd, h26, h6, h20]
   go_wp2
   refine HKK.out _ _ ?_
   obtain ⟨w4, hw4⟩ : ∃ w4, w4 = put12 w3 b a := ⟨_, rfl⟩
   have K64 : Hid (Bk b (wcl a) w4) := by show Bk _ _ _; rw [hw4]; exact bk_put12 K6 a
   have KY4 : Hid (Bk w1.heap.size [.slice ao l.length cap, .int .i64 ((tipsL l).length : Int), .int .i64 0] w4) := by show Bk _ _ _; rw [hw4]; exact bk_oth12 KY3.out hyb a
   have KR4 : Hid (Bk w.heap.size [.slice none 0 0, .int .i64 0, .int .i64 0] w4) := by show Bk _ _ _; rw [hw4]; exact bk_oth12 K3.out hrb a
   have HB4 : Hid (Below w.heap.size w w4) := by show Below _ _ _; rw [hw4]; exact below_put12 HB3.out hwb
   have hyr : w1.heap.size ≠ w.heap.size := by omega
   have hrw : w.heap.size ≠ w1.heap.size := by omega
   have hby : b ≠ w1.heap.size := fun e => hyb e.symm
   clear q0 q1 q2 q3 q4 q5 q6 q7 q8 q9 q10 q11 qf0 qf1 qf2 qf3 qf4 qf5 qf6 qf7 qf8 qf9 qf10 qf11 K6 KY3 K3 HB3 h26 h20 h6
   rw [show ((((((((((((w3.setCell ⟨b, 0, none⟩ (.string a.name)).setCell ⟨b, 1, none⟩ (.int .i64 a.kind)).setCell ⟨b, 2, none⟩ (.int .i64 a.rows)).setCell ⟨b, 3, none⟩ (.int .i64 a.cols)).setCell ⟨b, 4, none⟩ (.int .i64 a.x)).setCell ⟨b, 5, none⟩ (.int .i64 a.y)).setCell ⟨b, 6, none⟩ (.int .i64 a.pitch)).setCell ⟨b, 7, none⟩ (.int .i64 a.wid)).setCell ⟨b, 8, none⟩ (.int .i64 a.len)).setCell ⟨b, 9, none⟩ (.int .i64 a.hei)).setCell ⟨b, 10, none⟩ (.int .i64 a.deep)).setCell ⟨b, 11, none⟩ (.int .i64 a.cap)) = w4 from hw4.symm]
   clear hw4
   have k11 := (K64.out).c 11 rfl
   obtain ⟨y0, y1, y2⟩ := (KY4.out).c3
   obtain ⟨yf0, yf1, yf2⟩ := (KY4.out).f3
   obtain ⟨r0, r1, r2⟩ := (KR4.out).c3
   obtain ⟨rf0, rf1, rf2⟩ := (KR4.out).f3
   go_wp2
   refine bodyPost_ret (v := layv ao cap l) (by simp [results, Tryz.results28, go_sem, r0, r1, r2, HN.out]) rfl ⟨rfl, ?_⟩
   exact (((HB4.out.setCell (p := ⟨w1.heap.size, 2, none⟩) (Nat.le_of_lt lt) _).setCell (Nat.le_refl _) _).setCell (Nat.le_refl _) _).setCell (Nat.le_refl _) _
end Go.Proofs.YtjappkfhballhaaGreat

/- mayTake, mayFill, may, May walked. -/
namespace Go.Proofs.YtjappkfhballhaaGreat
open Go.RowKit
abbrev sml (m : Sm) : List Value := [.slice m.aoW m.wl.length m.capW, .bool m.tip, .slice m.aoH m.held.length m.capH, .slice m.aoT m.touched.length m.capT, .int .i64 m.used, .int .i64 m.heat, .int .i64 m.clock]
abbrev lal (ao : Option Addr) (cap : Nat) (l : List Sit) : List Value := [.slice ao l.length cap, .int .i64 ((tipsL l).length : Int), .int .i64 (tipM l)]
theorem len0_true {α : Type} {l : List α} (h : l = []) : ((l.length : Int) == 0) = true := by simp [h]
theorem len0_false {α : Type} {l : List α} (h : l ≠ []) : ((l.length : Int) == 0) = false := by
 have : l.length ≠ 0 := fun e => h (List.eq_nil_of_length_eq_zero e)
 simp; omega
set_option maxHeartbeats 3200000 in
theorem mayTake_any (ao : Option Addr) (cap : Nat) (l : List Sit) (m : Sm) (w : World) (hS : SmIn w m) (hlt : m.touched.length ≤ 9223372036854775807) :
  Calls Tryz.prog 69 #[layv ao cap l, smv m] w fun e w' => e = .returned (.bool (mayTake l m.st)) ∧ Below w.heap.size w w' := by
 have HS : Hid (SmIn w m) := hS
 clear hS
 obtain ⟨w0, hw0⟩ : ∃ w0, w0 = (w.alloc (layo ao cap l)).alloc (smo m) := ⟨_, rfl⟩
 have al : Below w.heap.size w w0 := by rw [hw0]; exact ((brf).alloc (Nat.le_refl _) _).alloc (by simp) _
 have HB : Hid (Below w.heap.size w w0) := al
 have KL : Hid (Bk w.heap.size (lal ao cap l) w0) := by show Bk _ _ _; rw [hw0]; exact (Bk.new w (lal ao cap l) 67 w.heap.size rfl).later ((brf).alloc (Nat.le_refl _) _)
 have KS : Hid (Bk (w.heap.size + 1) (sml m) w0) := by show Bk _ _ _; rw [hw0]; exact Bk.new (w.alloc _) (sml m) 27 (w.heap.size + 1) (by simp)
 have HW0 : Hid (w0 = (w.alloc (layo ao cap l)).alloc (smo m)) := hw0
 have HQ : Hid (mayTake l m.st = if m.tip = true then inR 1 (tipsL l).length m.used && (mayHold m.held (tipM l) && mayTouch m.touched m.held) else inR 0 (tipsL l).length m.used && (decide (m.held = []) && decide (m.touched = []))) := rfl
 clear al hw0
 cases ht : m.tip with
 | false =>
  rw [ht] at HQ
  go_enter Tryz.func69, Tryz.ntmps69
  go_wp2_with fail
  refine (mwithin_any 0 m.used (tipsL l).length _).mono ?_
  rintro e w1 ⟨rfl, rfl⟩
  rw [← HW0.out]
  obtain ⟨s0, s1, s2, s3, s4, s5, s6⟩ := (KS.out).c7
  cases h1 : inR 0 (tipsL l).length m.used with
  | false =>
   rw [h1] at HQ
   go_wp2
   go_ret
   exact ⟨ret_bool HQ.out.symm, HB.out⟩
  | true =>
   rw [h1] at HQ
   by_cases hh : m.held = []
   ·have hh2 := len0_true hh
    rw [decide_eq_true hh] at HQ
    clear hh
    by_cases htt : m.touched = []
    ·have htt2 := len0_true htt
     rw [decide_eq_true htt] at HQ
     clear htt
     go_wp2
     go_ret
     exact ⟨ret_bool HQ.out.symm, HB.out⟩
    ·have htt2 := len0_false htt
     rw [decide_eq_false htt] at HQ
     clear htt
     go_wp2
     go_ret
     exact ⟨ret_bool HQ.out.symm, HB.out⟩
   ·have hh2 := len0_false hh
    rw [decide_eq_false hh] at HQ
    clear hh
    go_wp2
    go_ret
    exact ⟨ret_bool HQ.out.symm, HB.out⟩
 | true =>
  rw [ht] at HQ
  go_enter Tryz.func69, Tryz.ntmps69
  go_wp2_with fail
  refine (mwithin_any 1 m.used (tipsL l).length _).mono ?_
  rintro e w1 ⟨rfl, rfl⟩
  rw [← HW0.out]
  obtain ⟨s0, s1, s2, s3, s4, s5, s6⟩ := (KS.out).c7
  obtain ⟨y0, y1, y2⟩ := (KL.out).c3
  cases h1 : inR 1 (tipsL l).length m.used with
  | false =>
   rw [h1] at HQ
   go_wp2
   go_ret
   exact ⟨ret_bool HQ.out.symm, HB.out⟩
  | true =>
   rw [h1] at HQ
   go_wp2_with fail
   refine (mayHold_any m.aoH m.capH m.held (tipM l) w0 (HS.out.next HB.out).held).mono ?_
   rintro e w2 ⟨rfl, hb2⟩
   have HB2 : Hid (Below w.heap.size w w2) := HB.out.trans (hb2.mono HB.out.size)
   have KS2 : Hid (Bk (w.heap.size + 1) (sml m) w2) := KS.out.later hb2
   clear hb2 s0 s1 s2 s3 s4 s5 s6 y0 y1 y2
   obtain ⟨s0, s1, s2, s3, s4, s5, s6⟩ := (KS2.out).c7
   cases h2 : mayHold m.held (tipM l) with
   | false =>
    rw [h2] at HQ
    go_wp2
    go_ret
    exact ⟨ret_bool HQ.out.symm, HB2.out⟩
   | true =>
    rw [h2] at HQ
    go_wp2_with fail
    refine (mayTouch_any m.aoT m.aoH m.capT m.capH m.touched m.held w2 (HS.out.next HB2.out).touched (HS.out.next HB2.out).held hlt).mono ?_
    rintro e w3 ⟨rfl, hb3⟩
    have HB3 : Hid (Below w.heap.size w w3) := HB2.out.trans (hb3.mono HB2.out.size)
    clear hb3
    go_wp2
    go_ret
    exact ⟨ret_bool HQ.out.symm, HB3.out⟩
def mfV (b off n cap k : Nat) (x y : Wh) (r : Bool) (d : Nat) (v : Value) (_ : World) : Prop :=
 match d with
 | 38 => v = .int .i64 ((k : Int) + 1)
 | 39 => v = .bool true
 | 40 => v = .bool true
 | 41 => v = .slice (some ⟨b, off, none⟩) n cap
 | 42 => v = .int .i64 ((k : Int) + 1)
 | 43 => v = .int .i64 (k : Int)
 | 44 => v = .pointer (some ⟨b, off + k * 4, none⟩)
 | 45 => v = .agg #[.int .i64 x.1.1, .int .i64 x.1.2.1, .int .i64 x.1.2.2, .slice x.2.1 x.2.2.2.length x.2.2.1]
 | 46 => v = .agg #[.int .i64 y.1.1, .int .i64 y.1.2.1, .int .i64 y.1.2.2, .slice y.2.1 y.2.2.2.length y.2.2.1]
 | 47 => v = .int .i64 (cmpP x.1 y.1)
 | 48 => v = .bool r
 | 49 => v = .bool r
 | _ => True
theorem mfV_mono (b off n cap k : Nat) (x y : Wh) (r : Bool) (d : Nat) (v : Value) (w w' : World) (h : mfV b off n cap k x y r d v w) (_ : Below w.heap.size w w') : mfV b off n cap k x y r d v w' := h
theorem wellOk_of {l : List Sit} {p : Plc} {f : List F.Pc} : wellOk l (p, f) = (decide ((wellM l p).2 = 0) && (decide (f ≠ []) && mayHold f (wellM l p).1)) := by
 unfold wellOk
 rw [Bool.and_assoc]
theorem fill_no {l : List Sit} {wl : List Wh} {k : Nat} (h : k < wl.length) (hn : wellOk l ((wl[k]'h).1, (wl[k]'h).2.2.2) = false) : mayFill l (whp wl) = false := by
 have : (whp wl).all (wellOk l) = false := by
  rw [List.all_eq_false]
  refine ⟨_, List.getElem_mem (show k < (whp wl).length by rw [whp_length]; exact h), ?_⟩
  rw [whp_at h, hn]
  decide
 unfold mayFill
 rw [this]
 rfl
theorem fill_unord {l : List Sit} {wl : List Wh} {k : Nat} (h : k + 1 < wl.length) (hn : pltB (wl[k]'(by omega)).1 (wl[k + 1]'h).1 = false) : mayFill l (whp wl) = false := by
 have : ¬ (whp wl).Pairwise (fun x y => pltB x.1 y.1 = true) := by
  intro hp
  have := List.pairwise_iff_getElem.1 hp k (k + 1) (by rw [whp_length]; omega) (by rw [whp_length]; omega) (by omega)
  rw [whp_at (by omega), whp_at h] at this
  simp only at this
  rw [hn] at this
  cases this
 unfold mayFill
 rw [decide_eq_false this]
 simp
theorem fill_succ {l : List Sit} {wl : List Wh} {k : Nat} (h : k < wl.length) (ha : ((whp wl).take k).all (wellOk l) = true) (hr : Rising ((whp wl).take k)) (hw : wellOk l ((wl[k]'h).1, (wl[k]'h).2.2.2) = true) (hp : ∀ (j : Nat) (e : k = j + 1), pltB (wl[j]'(by omega)).1 (wl[k]'h).1 = true) :
  ((whp wl).take (k + 1)).all (wellOk l) = true ∧ Rising ((whp wl).take (k + 1)) := by
 have hk : k < (whp wl).length := by rw [whp_length]; exact h
 rw [List.take_succ_eq_append_getElem hk, whp_at h]
 constructor
 ·rw [List.all_append, ha]
  simp [hw]
 ·refine List.pairwise_append.2 ⟨hr, List.pairwise_singleton _ _, fun a hma b hb => ?_⟩
  simp only [List.mem_singleton] at hb
  subst hb
  cases k with
  | zero => simp at hma
  | succ j =>
   have hj := hp j rfl
   rw [List.take_succ_eq_append_getElem (show j < (whp wl).length by rw [whp_length]; omega), whp_at (by omega)] at hma hr
   rcases List.mem_append.1 hma with hma | hma
   ·exact plt_trans ((List.pairwise_append.1 hr).2.2 a hma _ (List.mem_singleton.2 rfl)) hj
   ·simp only [List.mem_singleton] at hma
    subst hma
    exact hj
theorem fill_all {l : List Sit} {wl : List Wh} {k : Nat} (h : wl.length ≤ k) (ha : ((whp wl).take k).all (wellOk l) = true) (hr : Rising ((whp wl).take k)) : mayFill l (whp wl) = true := by
 rw [List.take_of_length_le (by rw [whp_length]; exact h)] at ha hr
 have hr' : (whp wl).Pairwise (fun x y => pltB x.1 y.1 = true) := hr
 unfold mayFill
 rw [ha, decide_eq_true hr']
 rfl
theorem cmpP_geq (p q : Plc) : decide (0 ≤ cmpP p q) = !pltB p q := by
 rw [← cmpP_lt]
 by_cases h : cmpP p q < 0
 ·rw [decide_eq_true h, decide_eq_false (by omega)]; rfl
 ·rw [decide_eq_false h, decide_eq_true (by omega)]; rfl
set_option maxHeartbeats 6400000 in
set_option maxRecDepth 100000 in
theorem mayFill_any (ao : Option Addr) (cap : Nat) (l : List Sit) (aoW : Option Addr) (capW : Nat) (wl : List Wh) (w : World) (hD : Dk w ao cap l) (hd : dchk l = 0) (hW : Whs w aoW wl) (hln : wl.length ≤ 9223372036854775807) :
  Calls Tryz.prog 68 #[layv ao cap l, .slice aoW wl.length capW] w fun e w' => e = .returned (.bool (mayFill l (whp wl))) ∧ Below w.heap.size w w' := by
 have HD : Hid (Dk w ao cap l) := hD
 have HDC : Hid (dchk l = 0) := hd
 have HW : Hid (Whs w aoW wl) := hW
 obtain ⟨w0, hw0⟩ : ∃ w0, w0 = w.alloc (layo ao cap l) := ⟨_, rfl⟩
 have HB0 : Hid (Below w.heap.size w w0) := by show Below _ _ _; rw [hw0]; exact (brf).alloc (Nat.le_refl _) _
 have KL : Hid (Bk w.heap.size (lal ao cap l) w0) := by show Bk _ _ _; rw [hw0]; exact Bk.new w (lal ao cap l) 67 w.heap.size rfl
 have HW0 : Hid (w0 = w.alloc (layo ao cap l)) := hw0
 clear hD hd hW hw0
 go_enter Tryz.func68, Tryz.ntmps68
 go_wp2_with fail
 rw [← HW0.out]
 go_loopw [11] (fun i wr => ∃ k : Nat, k ≤ wl.length ∧ i = .int .i64 k ∧ ((whp wl).take k).all (wellOk l) = true ∧ Rising ((whp wl).take k) ∧ Below w0.heap.size w0 wr) (fun i _ => wl.length - (intOf i).toNat)
 case atStart => exact ⟨0, Nat.zero_le _, rfl, rfl, List.Pairwise.nil, brf⟩
 case round =>
  obtain ⟨k, hk, rfl, hall, hris, hb⟩ := hrel
  have HB : Hid (Below w0.heap.size w0 wr) := hb
  have HA : Hid (((whp wl).take k).all (wellOk l) = true) := hall
  have HR : Hid (Rising ((whp wl).take k)) := hris
  clear hb hall hris
  by_cases hlt : k < wl.length
  rotate_left
  ·have HQ : Hid (mayFill l (whp wl) = true) := fill_all (by omega) HA.out HR.out
   go_wp2
   go_ret
   exact ⟨ret_bool HQ.out.symm, HB0.out.trans (HB.out.mono HB0.out.size)⟩
  ·have HBW : Hid (Below w.heap.size w wr) := HB0.out.trans (HB.out.mono HB0.out.size)
   obtain ⟨b, off, rfl, hx⟩ := (HW.out.next HBW.out).at hlt
   obtain ⟨y, hy⟩ : ∃ y, y = wl[k]'hlt := ⟨_, rfl⟩
   rw [← hy] at hx
   have HX : Hid (WhAt wr b (off + k * 4) y) := hx
   have HY : Hid (y = wl[k]'hlt) := hy
   obtain ⟨_, c0, c1, c2, c3, _⟩ := hx
   obtain ⟨w2, hw2⟩ : ∃ w2, w2 = wr.alloc (who y) := ⟨_, rfl⟩
   have b2 : Below wr.heap.size wr w2 := by rw [hw2]; exact (brf).alloc (Nat.le_refl _) _
   have KX : Hid (Bk wr.heap.size [.int .i64 y.1.1, .int .i64 y.1.2.1, .int .i64 y.1.2.2, .slice y.2.1 y.2.2.2.length y.2.2.1] w2) := by show Bk _ _ _; rw [hw2]; exact Bk.new wr _ 59 wr.heap.size rfl
   have KL2 : Hid (Bk w.heap.size (lal ao cap l) w2) := (KL.out.later HB.out).later b2
   have HB2 : Hid (Below w0.heap.size w0 w2) := below_on HB.out b2
   have HW2 : Hid (w2 = wr.alloc (who y)) := hw2
   have HNo : Hid (wellOk l (y.1, y.2.2.2) = false → mayFill l (whp wl) = false) := fun h => fill_no hlt (by rw [← hy]; exact h)
   have hki : (k : Int) < (wl.length : Int) := by omega
   have lt0 : w.heap.size < wr.heap.size := by have := KL.out.1; have := HB.out.size; omega
   have n0 : w.heap.size ≠ wr.heap.size := by omega
   obtain ⟨l0, l1, l2⟩ := (KL.out.later HB.out).c3
   clear hy hw2 b2
   go_wp2_with fail
   rw [← HW2.out]
   refine (wellMost_any ao cap l y.1 w2 (HD.out.next (HB0.out.trans (HB2.out.mono HB0.out.size))) HDC.out).mono ?_
   rintro e w3 ⟨rfl, hb3⟩
   have HB3 : Hid (Below w0.heap.size w0 w3) := below_on HB2.out hb3
   have HF3 : Hid (F.Fl w3 y.2.1 y.2.2.2) := (HX.out.fl.next (by rw [HW2.out]; exact (brf).alloc (Nat.le_refl _) _)).next hb3
   have KX3 : Hid (Bk wr.heap.size [.int .i64 y.1.1, .int .i64 y.1.2.1, .int .i64 y.1.2.2, .slice y.2.1 y.2.2.2.length y.2.2.1] w3) := KX.out.later hb3
   have HX3 : Hid (WhAt w3 b (off + k * 4) y) := (HX.out.next (by rw [HW2.out]; exact (brf).alloc (Nat.le_refl _) _)).next hb3
   have HOk : Hid (_) := wellOk_of (l := l) (p := y.1) (f := y.2.2.2)
   clear hb3 c0 c1 c2 c3 l0 l1 l2 KL2 HX
   obtain ⟨x0, x1, x2, x3⟩ := (KX3.out).c4
   obtain ⟨⟨mo, e0⟩, hM⟩ : ∃ x, wellM l y.1 = x := ⟨_, rfl⟩
   rw [hM] at HOk ⊢
   simp only at HOk ⊢
   clear hM
   by_cases he : e0 = 0
   rotate_left
   ·have he2 : (e0 != 0) = true := by simp [he]
    have HQ : Hid (mayFill l (whp wl) = false) := HNo.out (by rw [HOk.out, decide_eq_false he]; rfl)
    clear he
    go_wp2
    go_ret
    exact ⟨ret_bool HQ.out.symm, HB0.out.trans (HB3.out.mono HB0.out.size)⟩
   subst he
   by_cases hf : y.2.2.2 = []
   ·have hf2 := len0_true hf
    have HQ : Hid (mayFill l (whp wl) = false) := HNo.out (by rw [HOk.out, decide_eq_false (p := y.2.2.2 ≠ []) (fun h => h hf)]; simp)
    clear hf
    go_wp2
    go_ret
    exact ⟨ret_bool HQ.out.symm, HB0.out.trans (HB3.out.mono HB0.out.size)⟩
   have hf2 := len0_false hf
   have HOk2 : Hid (wellOk l (y.1, y.2.2.2) = mayHold y.2.2.2 mo) := by show _ = _; rw [HOk.out, decide_eq_true (p := y.2.2.2 ≠ []) hf]; rfl
   clear hf HOk
   go_wp2_with fail
   refine (mayHold_any y.2.1 y.2.2.1 y.2.2.2 mo w3 HF3.out).mono ?_
   rintro e w4 ⟨rfl, hb4⟩
   have HB4 : Hid (Below w0.heap.size w0 w4) := below_on HB3.out hb4
   have KX4 : Hid (Bk wr.heap.size [.int .i64 y.1.1, .int .i64 y.1.2.1, .int .i64 y.1.2.2, .slice y.2.1 y.2.2.2.length y.2.2.1] w4) := KX3.out.later hb4
   clear hb4 x0 x1 x2 x3 KX KX3 HF3
   obtain ⟨x0, x1, x2, x3⟩ := (KX4.out).c4
   cases hh : mayHold y.2.2.2 mo with
   | false =>
    have HQ : Hid (mayFill l (whp wl) = false) := HNo.out (by rw [HOk2.out, hh])
    clear hh
    go_wp2
    go_ret
    exact ⟨ret_bool HQ.out.symm, HB0.out.trans (HB4.out.mono HB0.out.size)⟩
   | true =>
   have HOk3 : Hid (wellOk l (y.1, y.2.2.2) = true) := by show _ = _; rw [HOk2.out, hh]
   clear hh HOk2 HNo
   rcases (show k = 0 ∨ ∃ j, k = j + 1 from by cases k with | zero => exact .inl rfl | succ j => exact .inr ⟨j, rfl⟩) with rfl | ⟨k, rfl⟩
   ·have HS := (show Hid _ from fill_succ hlt HA.out HR.out (by rw [← HY.out]; exact HOk3.out) (fun j e => by omega))
    clear HX3 HY HA HR
    go_wp2
    go_big_quiet (fail)
    go_wp2
    go_roundw
    case rel => exact ⟨1, by omega, by go_num, HS.out.1, HS.out.2, blw_drewN HB4.out _⟩
    case measure => simp [intOf]; omega
   ·have hkl : k < wl.length := by omega
    have hwr : IntKind.i64.wrap (k : Int) = (k : Int) := wrap_in (by omega) (by omega)
    obtain ⟨b', off', e1, hx'⟩ := (HW.out.next (HB0.out.trans (HB4.out.mono HB0.out.size))).at (show k < wl.length by omega)
    injection e1 with e1
    injection e1 with e2 e3 _
    subst e2 e3
    obtain ⟨x, hx⟩ : ∃ x, x = wl[k]'(by omega) := ⟨_, rfl⟩
    rw [← hx] at hx'
    have HX : Hid (WhAt w4 b (off + k * 4) x) := hx'
    have HS : Hid (pltB x.1 y.1 = true → _) := fun h => fill_succ hlt HA.out HR.out (by rw [← HY.out]; exact HOk3.out) (fun j e => by obtain rfl : k = j := (by omega); rw [← hx, ← HY.out]; exact h)
    have HU : Hid (pltB x.1 y.1 = false → mayFill l (whp wl) = false) := fun h => fill_unord hlt (by rw [← hx, ← HY.out]; exact h)
    have hge := cmpP_geq x.1 y.1
    have hkk1 : (0 : Int) < (k : Int) + 1 := by omega
    clear HX3 hx' hx HY HA HR x0 x1 x2 x3 HOk3
    have KX : Hid (Bk wr.heap.size [.int .i64 y.1.1, .int .i64 y.1.2.1, .int .i64 y.1.2.2, .slice y.2.1 y.2.2.2.length y.2.2.1] w4) := KX4.out
    go_wp2_with fail
    rename_i KK hkk
    have HKK := (show Hid _ from hkk)
    clear hkk
    cases hpl : pltB x.1 y.1 with
    | true =>
     have HS2 := (show Hid _ from HS.out hpl)
     rw [hpl] at hge
     clear hpl HS HU
     refine region_inv [zf,zf,zf,zf,zf,zf,zf,zf,zf,zf,zf,zf,zf,zf,zf,zf,zf,zf,zf,zf,zf,zf,zf,zf,zf,zf,zf,zf,zf,zf,zf,zf,zf,zf,zf,zf,zf,zf,zt,zt,zt,zt,zt,zt,zt,zt,zt,zt,zt,zt,zf]
      [(38, [], none), (39, [38], none), (40, [39], none), (41, [40], some (40, true)), (42, [40], some (40, true)), (43, [40, 42], some (40, true)), (44, [40, 41, 43], some (40, true)), (45, [40, 44], some (40, true)), (46, [40], some (40, true)), (47, [40, 45, 46], some (40, true)), (48, [40, 47], some (40, true)), (49, [40, 48], none)]
      (mfV b off wl.length capW k x y false) (by kernel_rfl) (by kernel_rfl) (mfV_mono b off wl.length capW k x y false) ?_ ?_
     ·refine ⟨?_, ?_, ?_, ?_, ?_, ?_, ?_, ?_, ?_, ?_, ?_, ?_, trivial⟩
      ·intro f w1 hb _ K hK
       simp only [over, overL, Nat.reduceAdd]
       go_simp
       exact hK _ _ ⟨_, rfl, by simp only [over, overL, Nat.reduceAdd]; rfl, brf⟩
      ·rintro f w1 hb ⟨(h38 : f 38 = _), _⟩ K hK
       simp only [over, overL, Nat.reduceAdd, h38]
       go_simp
       exact hK _ _ ⟨_, rfl, by simp only [over, overL, Nat.reduceAdd, h38]; rfl, brf⟩
      ·rintro f w1 hb ⟨(h39 : f 39 = _), _⟩ K hK
       simp only [over, overL, Nat.reduceAdd, h39]
       go_simp
       exact hK _ _ ⟨_, rfl, by simp only [over, overL, Nat.reduceAdd, h39]; rfl, brf⟩
      ·rintro f w1 hb ⟨(h40 : f 40 = _), _⟩
       refine ⟨fun _ => ?_, fun hg => absurd h40 hg⟩
       intro K hK
       simp only [over, overL, Nat.reduceAdd, h40]
       go_simp
       exact hK _ _ ⟨_, rfl, by simp only [over, overL, Nat.reduceAdd, h40]; rfl, brf⟩
      ·rintro f w1 hb ⟨(h40 : f 40 = _), _⟩
       refine ⟨fun _ => ?_, fun hg => absurd h40 hg⟩
       intro K hK
       simp only [over, overL, Nat.reduceAdd, h40]
       go_simp
       exact hK _ _ ⟨_, rfl, by simp only [over, overL, Nat.reduceAdd, h40]; rfl, brf⟩
      ·rintro f w1 hb ⟨(h40 : f 40 = _), (h42 : f 42 = _), _⟩
       refine ⟨fun _ => ?_, fun hg => absurd h40 hg⟩
       intro K hK
       simp only [over, overL, Nat.reduceAdd, h40, h42]
       go_simp
       exact hK _ _ ⟨_, rfl, by simp only [over, overL, Nat.reduceAdd, h40, h42]; rfl, brf⟩
      ·rintro f w1 hb ⟨(h40 : f 40 = _), (h41 : f 41 = _), (h43 : f 43 = _), _⟩
       refine ⟨fun _ => ?_, fun hg => absurd h40 hg⟩
       intro K hK
       simp only [over, overL, Nat.reduceAdd, h40, h41, h43]
       go_simp
       exact hK _ _ ⟨_, rfl, by simp only [over, overL, Nat.reduceAdd, h40, h41, h43]; rfl, brf⟩
      ·rintro f w1 hb ⟨(h40 : f 40 = _), (h44 : f 44 = _), _⟩
       refine ⟨fun _ => ?_, fun hg => absurd h40 hg⟩
       intro K hK
       obtain ⟨_, q0, q1, q2, q3, _⟩ := HX.out.next hb
       simp only [over, overL, Nat.reduceAdd, h40, h44]
       go_simp
       exact hK _ _ ⟨_, rfl, by simp only [over, overL, Nat.reduceAdd, h40, h44]; rfl, brf⟩
      ·rintro f w1 hb ⟨(h40 : f 40 = _), _⟩
       refine ⟨fun _ => ?_, fun hg => absurd h40 hg⟩
       intro K hK
       have q0 := (KX.out.later hb).c 0 rfl
       have q1 := (KX.out.later hb).c 1 rfl
       have q2 := (KX.out.later hb).c 2 rfl
       have q3 := (KX.out.later hb).c 3 rfl
       simp only [over, overL, Nat.reduceAdd, h40]
       go_simp
       exact hK _ _ ⟨_, rfl, by simp only [over, overL, Nat.reduceAdd, h40]; rfl, brf⟩
      ·rintro f w1 hb ⟨(h40 : f 40 = _), (h45 : f 45 = _), (h46 : f 46 = _), _⟩
       refine ⟨fun _ => ?_, fun hg => absurd h40 hg⟩
       intro K hK
       simp only [over, overL, Nat.reduceAdd, h40, h45, h46]
       go_simp
       refine (byPlace_any x y w1).mono ?_
       rintro e w2 ⟨rfl, hb2, _⟩
       exact hK _ _ ⟨_, rfl, by simp only [over, overL, Nat.reduceAdd, h40, h45, h46]; rfl, hb2⟩
      ·rintro f w1 hb ⟨(h40 : f 40 = _), (h47 : f 47 = _), _⟩
       refine ⟨fun _ => ?_, fun hg => absurd h40 hg⟩
       intro K hK
       simp only [over, overL, Nat.reduceAdd, h40, h47]
       go_simp
       exact hK _ _ ⟨_, rfl, by simp only [over, overL, Nat.reduceAdd, h40, h47]; rfl, brf⟩
      ·rintro f w1 hb ⟨(h40 : f 40 = _), (h48 : f 48 = _), _⟩ K hK
       simp only [over, overL, Nat.reduceAdd, h40, h48]
       go_simp
       exact hK _ _ ⟨_, rfl, by simp only [over, overL, Nat.reduceAdd, h40, h48]; rfl, brf⟩
     intro f w5 hb5 hv
     have h49 : f 49 = .bool false := hv.2.2.2.2.2.2.2.2.2.2.2.1
     have HB5 : Hid (Below w0.heap.size w0 w5) := below_on HB4.out hb5
     clear hb5 hv
     simp only [over, overL, Nat.reduceAdd, h49]
     clear h49 hge
     refine HKK.out _ _ ?_
     go_wp2
     go_roundw
     case rel => exact ⟨k + 1 + 1, by omega, by go_num, HS2.out.1, HS2.out.2, HB5.out⟩
     case measure => simp [intOf]; omega
    | false =>
     have HQ : Hid (mayFill l (whp wl) = false) := HU.out hpl
     rw [hpl] at hge
     clear hpl HS HU
     refine region_inv [zf,zf,zf,zf,zf,zf,zf,zf,zf,zf,zf,zf,zf,zf,zf,zf,zf,zf,zf,zf,zf,zf,zf,zf,zf,zf,zf,zf,zf,zf,zf,zf,zf,zf,zf,zf,zf,zf,zt,zt,zt,zt,zt,zt,zt,zt,zt,zt,zt,zt,zf]
      [(38, [], none), (39, [38], none), (40, [39], none), (41, [40], some (40, true)), (42, [40], some (40, true)), (43, [40, 42], some (40, true)), (44, [40, 41, 43], some (40, true)), (45, [40, 44], some (40, true)), (46, [40], some (40, true)), (47, [40, 45, 46], some (40, true)), (48, [40, 47], some (40, true)), (49, [40, 48], none)]
      (mfV b off wl.length capW k x y true) (by kernel_rfl) (by kernel_rfl) (mfV_mono b off wl.length capW k x y true) ?_ ?_
     ·refine ⟨?_, ?_, ?_, ?_, ?_, ?_, ?_, ?_, ?_, ?_, ?_, ?_, trivial⟩
      ·intro f w1 hb _ K hK
       simp only [over, overL, Nat.reduceAdd]
       go_simp
       exact hK _ _ ⟨_, rfl, by simp only [over, overL, Nat.reduceAdd]; rfl, brf⟩
      ·rintro f w1 hb ⟨(h38 : f 38 = _), _⟩ K hK
       simp only [over, overL, Nat.reduceAdd, h38]
       go_simp
       exact hK _ _ ⟨_, rfl, by simp only [over, overL, Nat.reduceAdd, h38]; rfl, brf⟩
      ·rintro f w1 hb ⟨(h39 : f 39 = _), _⟩ K hK
       simp only [over, overL, Nat.reduceAdd, h39]
       go_simp
       exact hK _ _ ⟨_, rfl, by simp only [over, overL, Nat.reduceAdd, h39]; rfl, brf⟩
      ·rintro f w1 hb ⟨(h40 : f 40 = _), _⟩
       refine ⟨fun _ => ?_, fun hg => absurd h40 hg⟩
       intro K hK
       simp only [over, overL, Nat.reduceAdd, h40]
       go_simp
       exact hK _ _ ⟨_, rfl, by simp only [over, overL, Nat.reduceAdd, h40]; rfl, brf⟩
      ·rintro f w1 hb ⟨(h40 : f 40 = _), _⟩
       refine ⟨fun _ => ?_, fun hg => absurd h40 hg⟩
       intro K hK
       simp only [over, overL, Nat.reduceAdd, h40]
       go_simp
       exact hK _ _ ⟨_, rfl, by simp only [over, overL, Nat.reduceAdd, h40]; rfl, brf⟩
      ·rintro f w1 hb ⟨(h40 : f 40 = _), (h42 : f 42 = _), _⟩
       refine ⟨fun _ => ?_, fun hg => absurd h40 hg⟩
       intro K hK
       simp only [over, overL, Nat.reduceAdd, h40, h42]
       go_simp
       exact hK _ _ ⟨_, rfl, by simp only [over, overL, Nat.reduceAdd, h40, h42]; rfl, brf⟩
      ·rintro f w1 hb ⟨(h40 : f 40 = _), (h41 : f 41 = _), (h43 : f 43 = _), _⟩
       refine ⟨fun _ => ?_, fun hg => absurd h40 hg⟩
       intro K hK
       simp only [over, overL, Nat.reduceAdd, h40, h41, h43]
       go_simp
       exact hK _ _ ⟨_, rfl, by simp only [over, overL, Nat.reduceAdd, h40, h41, h43]; rfl, brf⟩
      ·rintro f w1 hb ⟨(h40 : f 40 = _), (h44 : f 44 = _), _⟩
       refine ⟨fun _ => ?_, fun hg => absurd h40 hg⟩
       intro K hK
       obtain ⟨_, q0, q1, q2, q3, _⟩ := HX.out.next hb
       simp only [over, overL, Nat.reduceAdd, h40, h44]
       go_simp
       exact hK _ _ ⟨_, rfl, by simp only [over, overL, Nat.reduceAdd, h40, h44]; rfl, brf⟩
      ·rintro f w1 hb ⟨(h40 : f 40 = _), _⟩
       refine ⟨fun _ => ?_, fun hg => absurd h40 hg⟩
       intro K hK
       have q0 := (KX.out.later hb).c 0 rfl
       have q1 := (KX.out.later hb).c 1 rfl
       have q2 := (KX.out.later hb).c 2 rfl
       have q3 := (KX.out.later hb).c 3 rfl
       simp only [over, overL, Nat.reduceAdd, h40]
       go_simp
       exact hK _ _ ⟨_, rfl, by simp only [over, overL, Nat.reduceAdd, h40]; rfl, brf⟩
      ·rintro f w1 hb ⟨(h40 : f 40 = _), (h45 : f 45 = _), (h46 : f 46 = _), _⟩
       refine ⟨fun _ => ?_, fun hg => absurd h40 hg⟩
       intro K hK
       simp only [over, overL, Nat.reduceAdd, h40, h45, h46]
       go_simp
       refine (byPlace_any x y w1).mono ?_
       rintro e w2 ⟨rfl, hb2, _⟩
       exact hK _ _ ⟨_, rfl, by simp only [over, overL, Nat.reduceAdd, h40, h45, h46]; rfl, hb2⟩
      ·rintro f w1 hb ⟨(h40 : f 40 = _), (h47 : f 47 = _), _⟩
       refine ⟨fun _ => ?_, fun hg => absurd h40 hg⟩
       intro K hK
       simp only [over, overL, Nat.reduceAdd, h40, h47]
       go_simp
       exact hK _ _ ⟨_, rfl, by simp only [over, overL, Nat.reduceAdd, h40, h47]; rfl, brf⟩
      ·rintro f w1 hb ⟨(h40 : f 40 = _), (h48 : f 48 = _), _⟩ K hK
       simp only [over, overL, Nat.reduceAdd, h40, h48]
       go_simp
       exact hK _ _ ⟨_, rfl, by simp only [over, overL, Nat.reduceAdd, h40, h48]; rfl, brf⟩
     intro f w5 hb5 hv
     have h49 : f 49 = .bool true := hv.2.2.2.2.2.2.2.2.2.2.2.1
     have HB5 : Hid (Below w0.heap.size w0 w5) := below_on HB4.out hb5
     clear hb5 hv
     simp only [over, overL, Nat.reduceAdd, h49]
     clear h49 hge
     refine HKK.out _ _ ?_
     go_wp2
     go_ret
     exact ⟨ret_bool HQ.out.symm, HB0.out.trans (HB5.out.mono HB0.out.size)⟩
end Go.Proofs.YtjappkfhballhaaGreat
