import Derived.Test.YtgahlhfgpkklaaaDoorRows
import Derived.Test.YtgahlhfgpkklaaaDoorProg
import Derived.WalkKit
import Derived.WalkSpells
import Derived.WalkLawsBesides
import Derived.Deep.QuietTactic
import Derived.BigQuiet

/- What all texts share. -/
namespace Go.Proofs.YtgahlhfgpkklaaaDoor
open Go.RowKit
theorem bcell {W w1 : World} (hb : Below W.heap.size W w1) : (∀ b o, b < W.heap.size → w1.cell? ⟨b, o, none⟩ = W.cell? ⟨b, o, none⟩) ∧ (∀ b o, b < W.heap.size → w1.frozen? ⟨b, o, none⟩ = W.frozen? ⟨b, o, none⟩) :=
  ⟨fun b o h => hb.cell (p := ⟨b, o, none⟩) h, fun b o h => hb.frozen (p := ⟨b, o, none⟩) h⟩
theorem ret_bool {a b : Bool} (h : a = b) : Ending.returned (.bool a) = .returned (.bool b) := by rw [h]
theorem ret_int {k : IntKind} {a b : Int} (h : a = b) : Ending.returned (.int k a) = .returned (.int k b) := by rw [h]

/-- Is a number from low to high? -/
def inR (lo hi x : Int) : Bool := decide (lo ≤ x) && decide (x ≤ hi)
theorem inR_yes {lo hi x : Int} (h : lo ≤ x) (h2 : x ≤ hi) : inR lo hi x = true := by simp [inR, h, h2]
theorem inR_no {lo hi x : Int} (h : x < lo ∨ hi < x) : inR lo hi x = false := by
  simp only [inR, Bool.and_eq_false_iff, decide_eq_false_iff_not]; omega
theorem inR_iff {lo hi x : Int} : inR lo hi x = true ↔ lo ≤ x ∧ x ≤ hi := by simp [inR]

end Go.Proofs.YtgahlhfgpkklaaaDoor

/- Regions that draw their order. -/
namespace Go.Proofs.YtgahlhfgpkklaaaDoor
open Go.RowKit
/-- The frame, with those slots that a mask names read off a function. -/
def overL (f : Nat → Value) : List Bool → Nat → List Value → List Value
  | [], _, l => l
  | _ :: _, _, [] => []
  | true :: m, k, _ :: l => f k :: overL f m (k + 1) l
  | false :: m, k, v :: l => v :: overL f m (k + 1) l
def over (a : Act) (m : List Bool) (f : Nat → Value) : Act := { tmps := ⟨overL f m 0 a.tmps.toList⟩, defers := a.defers }
def upd (f : Nat → Value) (d : Nat) (v : Value) : Nat → Value := fun k => if k = d then v else f k
theorem upd_same (f : Nat → Value) (d : Nat) (v : Value) : upd f d v d = v := if_pos rfl
theorem upd_other {f : Nat → Value} {d k : Nat} {v : Value} (h : k ≠ d) : upd f d v k = f k := if_neg h

theorem overL_length (f : Nat → Value) : ∀ (m : List Bool) (k : Nat) (l : List Value), (overL f m k l).length = l.length
  | [], _, _ => rfl
  | _ :: _, _, [] => rfl
  | true :: m, k, _ :: l => by simp [overL, overL_length f m (k + 1) l]
  | false :: m, k, _ :: l => by simp [overL, overL_length f m (k + 1) l]
theorem overL_at (f : Nat → Value) : ∀ (m : List Bool) (k j : Nat) (l : List Value), m[j]? = some true → j < l.length → (overL f m k l)[j]? = some (f (k + j))
  | [], _, _, _, h, _ => by simp at h
  | _ :: _, _, _, [], _, h => by simp at h
  | true :: m, k, 0, _ :: l, _, _ => by simp [overL]
  | false :: m, k, 0, _ :: l, h, _ => by simp at h
  | true :: m, k, j + 1, _ :: l, h, hl => by
    have := overL_at f m (k + 1) j l (by simpa using h) (by simpa using hl)
    simp only [overL, List.getElem?_cons_succ, this]
    congr 2; omega
  | false :: m, k, j + 1, _ :: l, h, hl => by
    have := overL_at f m (k + 1) j l (by simpa using h) (by simpa using hl)
    simp only [overL, List.getElem?_cons_succ, this]
    congr 2; omega
theorem overL_congr {f g : Nat → Value} : ∀ (m : List Bool) (k : Nat) (l : List Value), (∀ i, k ≤ i → f i = g i) → overL f m k l = overL g m k l
  | [], _, _, _ => rfl
  | _ :: _, _, [], _ => rfl
  | true :: m, k, _ :: l, h => by simp only [overL]; rw [h k (Nat.le_refl _), overL_congr m (k + 1) l fun i hi => h i (by omega)]
  | false :: m, k, _ :: l, h => by simp only [overL]; rw [overL_congr m (k + 1) l fun i hi => h i (by omega)]
theorem overL_set (f : Nat → Value) (v : Value) : ∀ (m : List Bool) (k j : Nat) (l : List Value), m[j]? = some true → (overL f m k l).set j v = overL (upd f (k + j) v) m k l
  | [], _, _, _, h => by simp at h
  | _ :: _, _, _, [], _ => by simp [overL]
  | true :: m, k, 0, _ :: l, _ => by
    simp only [overL, List.set_cons_zero, Nat.add_zero, upd_same]
    rw [overL_congr (f := f) (g := upd f k v) m (k + 1) l fun i hi => (upd_other (by omega)).symm]
  | false :: m, k, 0, _ :: l, h => by simp at h
  | true :: m, k, j + 1, _ :: l, h => by
    simp only [overL, List.set_cons_succ]
    rw [overL_set f v m (k + 1) j l (by simpa using h), upd_other (by omega)]
    congr 3; omega
  | false :: m, k, j + 1, _ :: l, h => by
    simp only [overL, List.set_cons_succ]
    rw [overL_set f v m (k + 1) j l (by simpa using h)]
    congr 3; omega
theorem over_put (a : Act) (m : List Bool) (f : Nat → Value) (d : Nat) (v : Value) (h : m[d]? = some true) : (over a m f).put (some d) v = over a m (upd f d v) := by
  simp only [over, Act.put]
  congr 1
  apply Array.ext'
  simp only [Array.toList_setIfInBounds]
  rw [overL_set f v m 0 d _ h, Nat.zero_add]
theorem overL_start (l' : List Value) : ∀ (l : List Value) (m : List Bool) (k : Nat), l'.drop k = l → overL (fun k => (l'[k]?).getD undef) m k l = l
  | [], m, k, _ => by cases m <;> simp [overL]
  | v :: l, [], k, _ => rfl
  | v :: l, b :: m, k, h => by
    have hk : l'[k]? = some v := by have := congrArg (·[0]?) h; simpa using this
    have hd : l'.drop (k + 1) = l := by have := congrArg (·.tail) h; simpa using this
    have ih := overL_start l' l m (k + 1) hd
    cases b
    · simp only [overL]; rw [ih]
    · simp only [overL]; rw [ih, hk]; rfl
theorem over_start (a : Act) (m : List Bool) : over a m (fun k => (a.tmps.toList[k]?).getD undef) = a := by
  cases a
  simp only [over]
  congr 1
  apply Array.ext'
  exact overL_start _ _ m 0 rfl

abbrev Plan := List (Nat × List Nat × Option (Nat × Bool))
def planOne (ops : Array Oper) (m : List Bool) (n : Nat) (o : Oper) (p : Nat × List Nat × Option (Nat × Bool)) : Bool :=
  (o.dst == some p.1) && (m.getD p.1 false) && decide (p.1 < n) && p.2.1.all (fun d => o.after.any fun e => Region.binds .any e && (((ops[e.on]?).bind (·.dst)) == some d)) &&
  (match o.guard, p.2.2 with
    | none, none => true
    | some (j, b), some (s, b') => (((ops[j]?).bind (·.dst)) == some s) && (b == b') && (m.getD s false) && decide (s < n)
    | _, _ => false)
def nodupB : List Nat → Bool
  | [] => true
  | d :: l => !l.contains d && nodupB l
def planAll (ops : Array Oper) (m : List Bool) (n : Nat) : List Oper → Plan → Bool
  | [], [] => true
  | o :: l, p :: q => planOne ops m n o p && planAll ops m n l q
  | _, _ => false
def backB : Nat → List Oper → Bool
  | _, [] => true
  | k, o :: l => o.after.all (fun e => decide (e.on < k)) && backB (k + 1) l
def planOk (ops : Array Oper) (plan : Plan) (m : List Bool) (n : Nat) : Bool := backB 0 ops.toList && nodupB (plan.map (·.1)) && planAll ops m n ops.toList plan
/-- The slots that a plan fills. -/
def AllP (V : Nat → Value → World → Prop) (f : Nat → Value) (w : World) : Plan → Prop
  | [] => True
  | p :: q => V p.1 (f p.1) w ∧ AllP V f w q

section
variable (P : Program) (Q : Exit → Act → World → Prop) (a : Act) (m : List Bool) (V : Nat → Value → World → Prop) (w0 : World)
def AllV (f : Nat → Value) (w : World) : List Nat → Prop
  | [] => True
  | d :: l => V d (f d) w ∧ AllV f w l
/-- What an operation must do, in whatever world it comes up. -/
def Does (o : Oper) (d : Nat) (f : Nat → Value) (w : World) : Prop :=
  ∀ K : Act → World → Prop, (∀ a' w', (∃ v, V d v w' ∧ a' = (over a m f).put (some d) v ∧ Below w.heap.size w w') → K a' w') → o.wp P (over a m f) w K Q
def Obl (o : Oper) (p : Nat × List Nat × Option (Nat × Bool)) : Prop :=
  ∀ f w, Below w0.heap.size w0 w → AllV V f w p.2.1 → match p.2.2 with
    | none => Does P Q a m V o p.1 f w
    | some (s, b) => (f s = .bool b → Does P Q a m V o p.1 f w) ∧ (f s ≠ .bool b → V p.1 undef w)
def Obls : List Oper → Plan → Prop
  | o :: l, p :: q => Obl P Q a m V w0 o p ∧ Obls l q
  | _, _ => True
end
theorem planAll_at {ops : Array Oper} {m : List Bool} {n : Nat} : ∀ {l : List Oper} {q : Plan}, planAll ops m n l q = true → ∀ {i : Nat} {o : Oper}, l[i]? = some o → ∃ p, q[i]? = some p ∧ planOne ops m n o p = true
  | [], _, _, _, _, h => by simp at h
  | _ :: _, [], h, _, _, _ => by simp [planAll] at h
  | o :: l, p :: q, h, 0, o', ho => by
    simp only [planAll, Bool.and_eq_true] at h
    simp at ho; subst ho
    exact ⟨p, by simp, h.1⟩
  | o :: l, p :: q, h, i + 1, o', ho => by
    simp only [planAll, Bool.and_eq_true] at h
    obtain ⟨p', hp, h'⟩ := planAll_at h.2 (i := i) (by simpa using ho)
    exact ⟨p', by simpa using hp, h'⟩
theorem obls_at {P : Program} {Q : Exit → Act → World → Prop} {a : Act} {m : List Bool} {V : Nat → Value → World → Prop} {w0 : World} : ∀ {l : List Oper} {q : Plan}, Obls P Q a m V w0 l q → ∀ {i : Nat} {o : Oper} {p}, l[i]? = some o → q[i]? = some p → Obl P Q a m V w0 o p
  | [], _, _, _, _, _, h, _ => by simp at h
  | _ :: _, [], _, _, _, _, _, h => by simp at h
  | o :: l, p :: q, h, 0, _, _, ho, hp => by simp at ho hp; subst ho; subst hp; exact h.1
  | o :: l, p :: q, h, i + 1, _, _, ho, hp => obls_at h.2 (i := i) (by simpa using ho) (by simpa using hp)
theorem nodup_at : ∀ {l : List Nat}, nodupB l = true → ∀ {i j d : Nat}, l[i]? = some d → l[j]? = some d → i = j
  | [], _, _, _, _, h, _ => by simp at h
  | x :: l, h, 0, 0, d, _, _ => rfl
  | x :: l, h, 0, j + 1, d, hi, hj => by
    simp only [nodupB, Bool.and_eq_true, Bool.not_eq_true', List.contains_eq_mem, decide_eq_false_iff_not] at h
    simp at hi; subst hi
    exact absurd (List.mem_of_getElem? (by simpa using hj)) h.1
  | x :: l, h, i + 1, 0, d, hi, hj => by
    simp only [nodupB, Bool.and_eq_true, Bool.not_eq_true', List.contains_eq_mem, decide_eq_false_iff_not] at h
    simp at hj; subst hj
    exact absurd (List.mem_of_getElem? (by simpa using hi)) h.1
  | x :: l, h, i + 1, j + 1, d, hi, hj => by
    simp only [nodupB, Bool.and_eq_true] at h
    rw [nodup_at h.2 (i := i) (j := j) (by simpa using hi) (by simpa using hj)]

theorem getD_true {m : List Bool} {d : Nat} (h : m.getD d false = true) : m[d]? = some true := by
  rw [List.getD_eq_getElem?_getD] at h
  cases e : m[d]? with
  | none => rw [e] at h; simp at h
  | some b => rw [e] at h; simp at h; rw [h]

section
variable {P : Program} {Q : Exit → Act → World → Prop} {a : Act} {m : List Bool} {V : Nat → Value → World → Prop} {w0 : World} {ops : Array Oper} {plan : Plan}
/-- What holds while the region goes on. -/
def Inv (a : Act) (m : List Bool) (V : Nat → Value → World → Prop) (w0 : World) (ops : Array Oper) (listed : Array Bool) (a' : Act) (w : World) : Prop :=
  ∃ f, a' = over a m f ∧ Below w0.heap.size w0 w ∧ ∀ (i : Nat) (o : Oper) (d : Nat), ops[i]? = some o → o.dst = some d → listed[i]? = some true → V d (f d) w

theorem inv_step (hmono : ∀ d v w w', V d v w → Below w.heap.size w w' → V d v w') (hok : planOk ops plan m a.tmps.size = true) (hob : Obls P Q a m V w0 ops.toList plan)
    {listed : Array Bool} {i : Nat} (hi : i ∈ Region.ready .any ops listed) {a' : Act} {w : World} (h : Inv a m V w0 ops listed a' w) :
    wpOp P ops Q i (fun a2 w2 => Inv a m V w0 ops (listed.setIfInBounds i true) a2 w2) a' w := by
  simp only [planOk, Bool.and_eq_true] at hok
  obtain ⟨⟨_, hnd⟩, hall⟩ := hok
  simp only [Region.ready, List.mem_filter, List.mem_range, Bool.and_eq_true] at hi
  obtain ⟨hlt, hun, hpre⟩ := hi
  obtain ⟨o, ho⟩ : ∃ o, ops[i]? = some o := ⟨ops[i], by simp [hlt]⟩
  rw [ho] at hpre
  simp only [Option.map_some, Option.getD_some] at hpre
  have hoL : ops.toList[i]? = some o := by simpa using ho
  obtain ⟨p, hp, h1⟩ := planAll_at hall hoL
  have hO := obls_at hob hoL hp
  simp only [planOne, Bool.and_eq_true] at h1
  obtain ⟨⟨⟨⟨hd, hm⟩, hdn⟩, hps⟩, hg⟩ := h1
  have hd' : o.dst = some p.1 := by simpa using hd
  have hm' := getD_true hm
  obtain ⟨f, rfl, hb, hV⟩ := h
  have hav : ∀ l : List Nat, (∀ d ∈ l, d ∈ p.2.1) → AllV V f w l := by
    intro l
    induction l with
    | nil => intro _; trivial
    | cons d l ih =>
      intro hl
      refine ⟨?_, ih fun x hx => hl x (by simp [hx])⟩
      have h2 := List.all_eq_true.1 hps d (hl d (by simp))
      obtain ⟨e, he, h3⟩ := Array.any_eq_true'.1 h2
      simp only [Bool.and_eq_true] at h3
      have h4 := Array.all_eq_true'.1 hpre e he
      rw [h3.1] at h4
      simp only [Bool.not_true, Bool.false_or] at h4
      have h5 : (ops[e.on]?).bind (·.dst) = some d := by simpa using h3.2
      obtain ⟨oe, hoe, hde⟩ := Option.bind_eq_some_iff.1 h5
      refine hV e.on oe d hoe hde ?_
      simp only [Array.getD_eq_getD_getElem?] at h4
      cases e6 : listed[e.on]? with
      | none => rw [e6] at h4; simp at h4
      | some b => rw [e6] at h4; simp at h4; rw [h4]
  have hav := hav p.2.1 fun _ h => h
  have hfin : ∀ v w2, V p.1 v w2 → Below w.heap.size w w2 → Inv a m V w0 ops (listed.setIfInBounds i true) ((over a m f).put (some p.1) v) w2 := by
    intro v w2 hv hb2
    refine ⟨upd f p.1 v, over_put a m f p.1 v hm', hb.trans (hb2.mono hb.size), ?_⟩
    intro j oj d hj hdj hlj
    by_cases e : j = i
    · subst e
      rw [ho] at hj; cases hj
      rw [hd'] at hdj; cases hdj
      rw [upd_same]; exact hv
    · have hne : d ≠ p.1 := by
        intro e2; subst e2
        obtain ⟨pj, hpj, h1j⟩ := planAll_at hall (i := j) (by simpa using hj)
        simp only [planOne, Bool.and_eq_true] at h1j
        have hdj2 : oj.dst = some pj.1 := by simpa using h1j.1.1.1.1
        rw [hdj] at hdj2
        refine e (nodup_at hnd (i := j) (j := i) (d := p.1) ?_ ?_)
        · simp only [List.getElem?_map, hpj, Option.map_some, Option.some.injEq]; exact (Option.some.inj hdj2).symm
        · simp only [List.getElem?_map, hp, Option.map_some]
      rw [upd_other hne]
      refine hmono _ _ _ _ (hV j oj d hj hdj ?_) hb2
      simpa [Array.getElem?_setIfInBounds, Ne.symm e] using hlj
  have hDoes : Does P Q a m V o p.1 f w → o.wp P (over a m f) w (fun a2 w2 => Inv a m V w0 ops (listed.setIfInBounds i true) a2 w2) Q := fun hD =>
    hD _ fun a2 w2 ⟨v, hv, ha, hb2⟩ => by subst ha; exact hfin v w2 hv hb2
  have hO := hO f w hb hav
  unfold wpOp
  rw [ho]
  simp only
  cases hgo : o.guard with
  | none =>
    rw [hgo] at hg
    have hw : Region.wanted o (yielded ops (over a m f).tmps) = true := by simp [Region.wanted, hgo]
    rw [if_pos hw]
    cases hp2 : p.2.2 with
    | none => rw [hp2] at hO; exact .inl (hDoes hO)
    | some x => rw [hp2] at hg; simp at hg
  | some jb =>
    obtain ⟨j, b⟩ := jb
    rw [hgo] at hg
    cases hp2 : p.2.2 with
    | none => rw [hp2] at hg; simp at hg
    | some sb =>
      obtain ⟨s, b'⟩ := sb
      rw [hp2] at hg hO
      simp only [Bool.and_eq_true] at hg
      obtain ⟨⟨⟨hs, hbb⟩, hms⟩, hsn⟩ := hg
      have hbb : b = b' := by simpa using hbb
      subst hbb
      have hs : (ops[j]?).bind (·.dst) = some s := by simpa using hs
      have hgs : (over a m f).tmps[s]? = some (f s) := by
        have := overL_at f m 0 s a.tmps.toList (getD_true hms) (by simpa using hsn)
        simpa [over] using this
      have hy : yielded ops (over a m f).tmps j = match f s with | .bool x => some x | _ => none := by
        unfold yielded
        rw [hs]
        simp only [Option.bind_some, hgs]
        cases f s <;> rfl
      by_cases hw : f s = .bool b
      · have : Region.wanted o (yielded ops (over a m f).tmps) = true := by simp [Region.wanted, hgo, hy, hw]
        rw [if_pos this]
        exact .inl (hDoes (hO.1 hw))
      · have : ¬ Region.wanted o (yielded ops (over a m f).tmps) = true := by
          simp only [Region.wanted, hgo, hy, beq_iff_eq]
          cases e : f s <;> simp
          rename_i x
          intro e2; subst e2; exact hw e
        rw [if_neg this, hd']
        exact hfin _ _ (hO.2 hw) (Below.refl _ _)

theorem back_at : ∀ {l : List Oper} {k : Nat}, backB k l = true → ∀ {i : Nat} {o : Oper}, l[i]? = some o → ∀ e ∈ o.after, e.on < k + i
  | [], _, _, _, _, h => by simp at h
  | o :: l, k, h, 0, o', ho => by
    simp only [backB, Bool.and_eq_true] at h
    simp at ho; subst ho
    intro e he
    have := Array.all_eq_true'.1 h.1 e he
    simpa using this
  | o :: l, k, h, i + 1, o', ho => by
    simp only [backB, Bool.and_eq_true] at h
    intro e he
    have := back_at h.2 (i := i) (by simpa using ho) e he
    omega
theorem all_listed {listed : Array Bool} (hback : backB 0 ops.toList = true) (hsz : listed.size = ops.size) (hr : Region.ready .any ops listed = []) : ∀ i, i < ops.size → listed[i]? = some true := by
  intro i
  induction i using Nat.strongRecOn with
  | ind i ih =>
    intro hi
    cases hl : listed[i]? with
    | none => rw [Array.getElem?_eq_none_iff] at hl; omega
    | some b =>
      cases b with
      | true => rfl
      | false =>
        exfalso
        have hm : i ∈ Region.ready .any ops listed := by
          simp only [Region.ready, List.mem_filter, List.mem_range, Bool.and_eq_true]
          refine ⟨hi, by simp [Array.getD_eq_getD_getElem?, hl], ?_⟩
          have ho : ops[i]? = some ops[i] := by simp [hi]
          rw [ho]
          simp only [Option.map_some, Option.getD_some]
          rw [Array.all_eq_true']
          intro e he
          have h1 := back_at hback (i := i) (o := ops[i]) (by simp) e he
          have h2 := ih e.on (by omega) (by omega)
          simp [Array.getD_eq_getD_getElem?, h2]
        rw [hr] at hm
        simp at hm
theorem allP_of {f : Nat → Value} {w : World} : ∀ {l : List Oper} {q : Plan} {n : Nat}, planAll ops m n l q = true → (∀ (i : Nat) (o : Oper) (d : Nat), l[i]? = some o → o.dst = some d → V d (f d) w) → AllP V f w q
  | [], [], _, _, _ => trivial
  | [], _ :: _, _, h, _ => by simp [planAll] at h
  | _ :: _, [], _, h, _ => by simp [planAll] at h
  | o :: l, p :: q, n, h, hV => by
    simp only [planAll, Bool.and_eq_true] at h
    have hd : o.dst = some p.1 := by
      have := h.1
      simp only [planOne, Bool.and_eq_true] at this
      simpa using this.1.1.1.1
    exact ⟨hV 0 o p.1 (by simp) hd, allP_of h.2 fun i o' d ho hd => hV (i + 1) o' d (by simpa using ho) hd⟩

theorem any_inv (hmono : ∀ d v w w', V d v w → Below w.heap.size w w' → V d v w') (hok : planOk ops plan m a.tmps.size = true) (hob : Obls P Q a m V w0 ops.toList plan)
    (hdone : ∀ f w, Below w0.heap.size w0 w → AllP V f w plan → Q .normal (over a m f) w) :
    ∀ (fuel : Nat) (listed : Array Bool) (a' : Act) (w : World), listed.size = ops.size → listed.toList.count false ≤ fuel → Inv a m V w0 ops listed a' w → wpAny P .any ops Q fuel listed a' w := by
  have hok2 := hok
  simp only [planOk, Bool.and_eq_true] at hok2
  obtain ⟨⟨hback, _⟩, hall⟩ := hok2
  have hend : ∀ (listed : Array Bool) (a' : Act) (w : World), listed.size = ops.size → Inv a m V w0 ops listed a' w → Region.ready .any ops listed = [] → Q .normal a' w := by
    rintro listed a' w hsz ⟨f, rfl, hb, hV⟩ hr
    refine hdone f w hb (allP_of hall fun i o d ho hd => hV i o d (by simpa using ho) hd (all_listed hback hsz hr i ?_))
    by_cases h : i < ops.size
    · exact h
    · have : ops.toList[i]? = none := by simp; omega
      rw [this] at ho; simp at ho
  intro fuel
  induction fuel with
  | zero =>
    intro listed a' w hsz hc hI
    have hr : Region.ready .any ops listed = [] := by
      rw [List.eq_nil_iff_forall_not_mem]
      intro i hi
      simp only [Region.ready, List.mem_filter, List.mem_range, Bool.and_eq_true] at hi
      have h0 : listed.toList.count false = 0 := by omega
      rw [List.count_eq_zero] at h0
      have hlt : i < listed.size := by omega
      have h1 := hi.2.1
      simp only [Array.getD_eq_getD_getElem?, Array.getElem?_eq_getElem hlt, Option.getD_some, Bool.not_eq_true'] at h1
      exact h0 (by rw [← h1]; simp)
    exact ⟨hr, hend listed a' w hsz hI hr⟩
  | succ fuel ih =>
    intro listed a' w hsz hc hI
    refine ⟨hend listed a' w hsz hI, fun i hi => wpOp_mono (fun a2 w2 h2 => ih _ _ _ (by simpa using hsz) ?_ h2) (inv_step hmono hok hob hi hI)⟩
    simp only [Region.ready, List.mem_filter, List.mem_range, Bool.and_eq_true] at hi
    have hlt : i < listed.size := by omega
    have h1 := hi.2.1
    simp only [Array.getD_eq_getD_getElem?, Array.getElem?_eq_getElem hlt, Option.getD_some, Bool.not_eq_true'] at h1
    have hl : i < listed.toList.length := by simpa using hlt
    have h2 : listed.toList[i] = false := by simpa using h1
    rw [Array.toList_setIfInBounds, List.count_set hl, h2]
    have hp : 0 < listed.toList.count false := List.count_pos_iff.2 (by rw [← h2]; exact List.getElem_mem _)
    rw [if_pos (by rfl), if_neg (by decide)]
    omega

/-- A region that draws its order: whatever it is, each operation does what it must. -/
theorem region_inv {id : Nat} (m : List Bool) (plan : Plan) (V : Nat → Value → World → Prop) (hmix : P.follows .mixedOrders = true) (hok : planOk ops plan m a.tmps.size = true)
    (hmono : ∀ d v w w', V d v w → Below w.heap.size w w' → V d v w') (hob : Obls P Q a m V w0 ops.toList plan)
    (hdone : ∀ f w, Below w0.heap.size w0 w → AllP V f w plan → Q .normal (over a m f) w) : (Code.region id ops true).wp P Q a w0 := by
  refine wp_region_any hmix (any_inv hmono hok hob hdone _ _ _ _ (by simp) (by simp) ⟨fun k => (a.tmps.toList[k]?).getD undef, (over_start a m).symm, ⟨rfl, rfl, rfl, Nat.le_refl _, fun _ _ => rfl⟩, ?_⟩)
  intro i o d _ _ h
  simp [Array.getElem?_replicate] at h
end
end Go.Proofs.YtgahlhfgpkklaaaDoor

/- Regions that draw their order, with stores. -/
namespace Go.Proofs.YtgahlhfgpkklaaaDoor
open Go.RowKit
def coversB (ops : Array Oper) : Nat → Nat → Nat → Bool
  | 0, _, _ => false
  | n + 1, i, j => match ops[i]? with
    | none => false
    | some o => o.after.any fun e => Region.binds .any e && (e.on == j || coversB ops n e.on j)
/-- Each operation from k on waits for all ahead of it. -/
def seqB (ops : Array Oper) (k : Nat) : Bool := (List.range ops.size).all fun i => decide (i < k) || (List.range i).all fun j => coversB ops ops.size i j
def Closed (ops : Array Oper) (listed : Array Bool) : Prop := ∀ (i : Nat) (o : Oper), ops[i]? = some o → listed[i]? = some true → ∀ e ∈ o.after, Region.binds .any e = true → listed[e.on]? = some true
theorem getD_listed {listed : Array Bool} {i : Nat} (h : listed.getD i false = true) : listed[i]? = some true := by
  rw [Array.getD_eq_getD_getElem?] at h
  cases e : listed[i]? with
  | none => rw [e] at h; simp at h
  | some b => rw [e] at h; simp at h; rw [h]
theorem covers_listed {ops : Array Oper} {listed : Array Bool} (hc : Closed ops listed) : ∀ (n i j : Nat), (∀ o, ops[i]? = some o → ∀ e ∈ o.after, Region.binds .any e = true → listed[e.on]? = some true) → coversB ops n i j = true → listed[j]? = some true := by
  intro n
  induction n with
  | zero => intro i j _ h; simp [coversB] at h
  | succ n ih =>
    intro i j hp h
    unfold coversB at h
    cases ho : ops[i]? with
    | none => rw [ho] at h; simp at h
    | some o =>
      rw [ho] at h
      obtain ⟨e, he, h2⟩ := Array.any_eq_true'.1 h
      simp only [Bool.and_eq_true, Bool.or_eq_true, beq_iff_eq] at h2
      have hl := hp o ho e he h2.1
      rcases h2.2 with e2 | h3
      · rw [← e2]; exact hl
      · exact ih e.on j (fun o' ho' => hc e.on o' ho' hl) h3

section
variable {P : Program} {Q : Exit → Act → World → Prop} {a : Act} {m : List Bool} {V : Nat → Value → World → Prop} {w0 : World} {ops : Array Oper} {plan : Plan} {k : Nat}
theorem ready_pre {listed : Array Bool} {i : Nat} (hi : i ∈ Region.ready .any ops listed) : i < ops.size ∧ listed.getD i true = false ∧ ∀ o, ops[i]? = some o → ∀ e ∈ o.after, Region.binds .any e = true → listed[e.on]? = some true := by
  simp only [Region.ready, List.mem_filter, List.mem_range, Bool.and_eq_true] at hi
  obtain ⟨hlt, hun, hpre⟩ := hi
  refine ⟨hlt, by simpa using hun, fun o ho e he hb => ?_⟩
  rw [ho] at hpre
  simp only [Option.map_some, Option.getD_some] at hpre
  have h4 := Array.all_eq_true'.1 hpre e he
  rw [hb] at h4
  simp only [Bool.not_true, Bool.false_or] at h4
  exact getD_listed h4
theorem closed_next {listed : Array Bool} (hc : Closed ops listed) {i : Nat} (hi : i ∈ Region.ready .any ops listed) : Closed ops (listed.setIfInBounds i true) := by
  obtain ⟨_, _, hp⟩ := ready_pre hi
  have key : ∀ j, listed[j]? = some true → (listed.setIfInBounds i true)[j]? = some true := fun j h => by
    rw [Array.getElem?_setIfInBounds]
    split
    · split
      · rfl
      · rename_i h1 h2; subst h1; rw [Array.getElem?_eq_none (by omega)] at h; cases h
    · exact h
  intro j o ho hl e he hb
  by_cases h : i = j
  · subst h; exact key _ (hp o ho e he hb)
  · rw [Array.getElem?_setIfInBounds, if_neg h] at hl
    exact key _ (hc j o ho hl e he hb)

/-- The step of an operation ahead of the stores. -/
theorem seq_step (hmono : ∀ d v w w', V d v w → Below w.heap.size w w' → V d v w') (hnd : nodupB (plan.map (·.1)) = true) (hall : planAll ops m a.tmps.size (ops.toList.take k) plan = true) (hob : Obls P Q a m V w0 (ops.toList.take k) plan)
    {listed : Array Bool} {i : Nat} (hik : i < k) (hsu : ∀ j, k ≤ j → listed[j]? ≠ some true) (hi : i ∈ Region.ready .any ops listed) {a' : Act} {w : World} (h : Inv a m V w0 ops listed a' w) :
    wpOp P ops Q i (fun a2 w2 => Inv a m V w0 ops (listed.setIfInBounds i true) a2 w2) a' w := by
  obtain ⟨hlt, hun, hpre⟩ := ready_pre hi
  obtain ⟨o, ho⟩ : ∃ o, ops[i]? = some o := ⟨ops[i], by simp [hlt]⟩
  have hpre := hpre o ho
  have hoL : (ops.toList.take k)[i]? = some o := by rw [List.getElem?_take, if_pos hik]; simpa using ho
  obtain ⟨p, hp, h1⟩ := planAll_at hall hoL
  have hO := obls_at hob hoL hp
  simp only [planOne, Bool.and_eq_true] at h1
  obtain ⟨⟨⟨⟨hd, hm⟩, hdn⟩, hps⟩, hg⟩ := h1
  have hd' : o.dst = some p.1 := by simpa using hd
  have hm' := getD_true hm
  obtain ⟨f, rfl, hb, hV⟩ := h
  have hav : ∀ l : List Nat, (∀ d ∈ l, d ∈ p.2.1) → AllV V f w l := by
    intro l
    induction l with
    | nil => intro _; trivial
    | cons d l ih =>
      intro hl
      refine ⟨?_, ih fun x hx => hl x (by simp [hx])⟩
      have h2 := List.all_eq_true.1 hps d (hl d (by simp))
      obtain ⟨e, he, h3⟩ := Array.any_eq_true'.1 h2
      simp only [Bool.and_eq_true] at h3
      have h5 : (ops[e.on]?).bind (·.dst) = some d := by simpa using h3.2
      obtain ⟨oe, hoe, hde⟩ := Option.bind_eq_some_iff.1 h5
      exact hV e.on oe d hoe hde (hpre e he h3.1)
  have hav := hav p.2.1 fun _ h => h
  have hfin : ∀ v w2, V p.1 v w2 → Below w.heap.size w w2 → Inv a m V w0 ops (listed.setIfInBounds i true) ((over a m f).put (some p.1) v) w2 := by
    intro v w2 hv hb2
    refine ⟨upd f p.1 v, over_put a m f p.1 v hm', hb.trans (hb2.mono hb.size), ?_⟩
    intro j oj d hj hdj hlj
    by_cases e : j = i
    · subst e
      rw [ho] at hj; cases hj
      rw [hd'] at hdj; cases hdj
      rw [upd_same]; exact hv
    · have hlj2 : listed[j]? = some true := by simpa [Array.getElem?_setIfInBounds, Ne.symm e] using hlj
      have hjk : j < k := by
        by_cases h : j < k
        · exact h
        · exact absurd hlj2 (hsu j (by omega))
      have hne : d ≠ p.1 := by
        intro e2; subst e2
        obtain ⟨pj, hpj, h1j⟩ := planAll_at hall (i := j) (o := oj) (by rw [List.getElem?_take, if_pos hjk]; simpa using hj)
        simp only [planOne, Bool.and_eq_true] at h1j
        have hdj2 : oj.dst = some pj.1 := by simpa using h1j.1.1.1.1
        rw [hdj] at hdj2
        refine e (nodup_at hnd (i := j) (j := i) (d := p.1) ?_ ?_)
        · simp only [List.getElem?_map, hpj, Option.map_some, Option.some.injEq]; exact (Option.some.inj hdj2).symm
        · simp only [List.getElem?_map, hp, Option.map_some]
      rw [upd_other hne]
      exact hmono _ _ _ _ (hV j oj d hj hdj hlj2) hb2
  have hDoes : Does P Q a m V o p.1 f w → o.wp P (over a m f) w (fun a2 w2 => Inv a m V w0 ops (listed.setIfInBounds i true) a2 w2) Q := fun hD =>
    hD _ fun a2 w2 ⟨v, hv, ha, hb2⟩ => by subst ha; exact hfin v w2 hv hb2
  have hO := hO f w hb hav
  unfold wpOp
  rw [ho]
  simp only
  cases hgo : o.guard with
  | none =>
    rw [hgo] at hg
    have hw : Region.wanted o (yielded ops (over a m f).tmps) = true := by simp [Region.wanted, hgo]
    rw [if_pos hw]
    cases hp2 : p.2.2 with
    | none => rw [hp2] at hO; exact .inl (hDoes hO)
    | some x => rw [hp2] at hg; simp at hg
  | some jb =>
    obtain ⟨j, b⟩ := jb
    rw [hgo] at hg
    cases hp2 : p.2.2 with
    | none => rw [hp2] at hg; simp at hg
    | some sb =>
      obtain ⟨s, b'⟩ := sb
      rw [hp2] at hg hO
      simp only [Bool.and_eq_true] at hg
      obtain ⟨⟨⟨hs, hbb⟩, hms⟩, hsn⟩ := hg
      have hbb : b = b' := by simpa using hbb
      subst hbb
      have hs : (ops[j]?).bind (·.dst) = some s := by simpa using hs
      have hgs : (over a m f).tmps[s]? = some (f s) := by
        have := overL_at f m 0 s a.tmps.toList (getD_true hms) (by simpa using hsn)
        simpa [over] using this
      have hy : yielded ops (over a m f).tmps j = match f s with | .bool x => some x | _ => none := by
        unfold yielded
        rw [hs]
        simp only [Option.bind_some, hgs]
        cases f s <;> rfl
      by_cases hw : f s = .bool b
      · have : Region.wanted o (yielded ops (over a m f).tmps) = true := by simp [Region.wanted, hgo, hy, hw]
        rw [if_pos this]
        exact .inl (hDoes (hO.1 hw))
      · have : ¬ Region.wanted o (yielded ops (over a m f).tmps) = true := by
          simp only [Region.wanted, hgo, hy, beq_iff_eq]
          cases e : f s <;> simp
          rename_i x
          intro e2; subst e2; exact hw e
        rw [if_neg this, hd']
        exact hfin _ _ (hO.2 hw) (Below.refl _ _)

/-- Where the region stands. -/
def St (P : Program) (Q : Exit → Act → World → Prop) (a : Act) (m : List Bool) (V : Nat → Value → World → Prop) (w0 : World) (ops : Array Oper) (k : Nat) (listed : Array Bool) (a' : Act) (w : World) : Prop :=
  Closed ops listed ∧ (((∀ j, k ≤ j → listed[j]? ≠ some true) ∧ Inv a m V w0 ops listed a' w) ∨ ∃ i, k ≤ i ∧ (∀ j, j < ops.size → (listed[j]? = some true ↔ j < i)) ∧ wpList P ops Q (ops.toList.drop i) a' w)

theorem seq_any (hmono : ∀ d v w w', V d v w → Below w.heap.size w w' → V d v w') (hback : backB 0 ops.toList = true) (hnd : nodupB (plan.map (·.1)) = true) (hall : planAll ops m a.tmps.size (ops.toList.take k) plan = true) (hseq : seqB ops k = true) (hk : k ≤ ops.size)
    (hob : Obls P Q a m V w0 (ops.toList.take k) plan) (hsuf : ∀ f w, Below w0.heap.size w0 w → AllP V f w plan → wpList P ops Q (ops.toList.drop k) (over a m f) w) :
    ∀ (fuel : Nat) (listed : Array Bool) (a' : Act) (w : World), listed.size = ops.size → listed.toList.count false ≤ fuel → St P Q a m V w0 ops k listed a' w → wpAny P .any ops Q fuel listed a' w := by
  have hcov : ∀ {listed : Array Bool}, Closed ops listed → ∀ {i : Nat}, i ∈ Region.ready .any ops listed → k ≤ i → ∀ j, j < i → listed[j]? = some true := by
    intro listed hc i hi hki j hj
    obtain ⟨hlt, _, hp⟩ := ready_pre hi
    unfold seqB at hseq
    have h1 := List.all_eq_true.1 hseq i (by simpa using hlt)
    rw [Bool.or_eq_true] at h1
    rcases h1 with h1 | h1
    · simp at h1; omega
    · exact covers_listed hc _ i j hp (List.all_eq_true.1 h1 j (by simpa using hj))
  have htoSuf : ∀ {listed : Array Bool} {a' : Act} {w : World}, Inv a m V w0 ops listed a' w → (∀ j, j < k → listed[j]? = some true) → wpList P ops Q (ops.toList.drop k) a' w := by
    rintro listed a' w ⟨f, rfl, hb, hV⟩ hl
    refine hsuf f w hb (allP_of hall fun i o d ho hd => ?_)
    have hik : i < k := by
      by_cases h : i < k
      · exact h
      · rw [List.getElem?_take, if_neg h] at ho; cases ho
    rw [List.getElem?_take, if_pos hik] at ho
    exact hV i o d (by simpa using ho) hd (hl i hik)
  have hend : ∀ (listed : Array Bool) (a' : Act) (w : World), listed.size = ops.size → St P Q a m V w0 ops k listed a' w → Region.ready .any ops listed = [] → Q .normal a' w := by
    rintro listed a' w hsz ⟨_, h⟩ hr
    have hal := all_listed hback hsz hr
    rcases h with ⟨hs, hI⟩ | ⟨i, hki, hl, hw⟩
    · have hks : k = ops.size := by
        by_cases h : k < ops.size
        · exact absurd (hal k h) (hs k (Nat.le_refl _))
        · omega
      have := htoSuf hI fun j hj => hal j (by omega)
      rw [List.drop_eq_nil_of_le (by simp; omega)] at this
      exact this
    · have : ops.size ≤ i := by
        by_cases h : i < ops.size
        · have := (hl i h).1 (hal i h); omega
        · omega
      rw [List.drop_eq_nil_of_le (by simpa using this)] at hw
      exact hw
  have hstepL : ∀ {listed : Array Bool} {a' : Act} {w : World} {i : Nat}, i < ops.size → k ≤ i → (∀ j, j < ops.size → (listed[j]? = some true ↔ j < i)) → Closed ops (listed.setIfInBounds i true) → listed.size = ops.size → wpList P ops Q (ops.toList.drop i) a' w →
      wpOp P ops Q i (fun a2 w2 => St P Q a m V w0 ops k (listed.setIfInBounds i true) a2 w2) a' w := by
    intro listed a' w i hi hki hl hc hsz hw
    have hd : ops.toList.drop i = ops[i] :: ops.toList.drop (i + 1) := by
      rw [List.drop_eq_getElem_cons (by simpa using hi)]; simp
    have hnext : ∀ a2 w2, wpList P ops Q (ops.toList.drop (i + 1)) a2 w2 → St P Q a m V w0 ops k (listed.setIfInBounds i true) a2 w2 := fun a2 w2 h =>
      ⟨hc, .inr ⟨i + 1, by omega, fun j hj => by
        rw [Array.getElem?_setIfInBounds]
        by_cases e : i = j
        · subst e; rw [if_pos rfl, if_pos (by omega)]; simp
        · rw [if_neg e, hl j hj]; omega, h⟩⟩
    rw [hd] at hw
    unfold wpList at hw
    unfold wpOp
    rw [show ops[i]? = some ops[i] by simp [hi]]
    simp only
    split
    · rename_i hwn
      rw [if_pos hwn] at hw
      exact hw.imp (Oper.wp_mono hnext) id
    · rename_i hwn
      rw [if_neg hwn] at hw
      exact hnext _ _ hw
  intro fuel
  induction fuel with
  | zero =>
    intro listed a' w hsz hc hI
    have hr : Region.ready .any ops listed = [] := by
      rw [List.eq_nil_iff_forall_not_mem]
      intro i hi
      obtain ⟨hlt, h1, _⟩ := ready_pre hi
      have h0 : listed.toList.count false = 0 := by omega
      rw [List.count_eq_zero] at h0
      have hlt2 : i < listed.size := by omega
      simp only [Array.getD_eq_getD_getElem?, Array.getElem?_eq_getElem hlt2, Option.getD_some] at h1
      exact h0 (by rw [← h1]; simp)
    exact ⟨hr, hend listed a' w hsz hI hr⟩
  | succ fuel ih =>
    intro listed a' w hsz hc hI
    refine ⟨hend listed a' w hsz hI, fun i hi => ?_⟩
    have hrp := ready_pre hi
    have hlt2 : i < listed.size := by omega
    have h1 := hrp.2.1
    simp only [Array.getD_eq_getD_getElem?, Array.getElem?_eq_getElem hlt2, Option.getD_some] at h1
    have hcount : (listed.setIfInBounds i true).toList.count false ≤ fuel := by
      have hl : i < listed.toList.length := by simpa using hlt2
      have h2 : listed.toList[i] = false := by simpa using h1
      rw [Array.toList_setIfInBounds, List.count_set hl, h2]
      have hp : 0 < listed.toList.count false := List.count_pos_iff.2 (by rw [← h2]; exact List.getElem_mem _)
      rw [if_pos (by rfl), if_neg (by decide)]
      omega
    have hnl : listed[i]? ≠ some true := by rw [Array.getElem?_eq_getElem hlt2, h1]; simp
    refine wpOp_mono (K := fun a2 w2 => St P Q a m V w0 ops k (listed.setIfInBounds i true) a2 w2) (fun a2 w2 h2 => ih _ _ _ (by simpa using hsz) hcount h2) ?_
    obtain ⟨hcl, hS⟩ := hI
    have hcl2 := closed_next hcl hi
    rcases hS with ⟨hsu, hI⟩ | ⟨i0, hki, hl, hw⟩
    · by_cases hik : i < k
      · refine wpOp_mono (fun a2 w2 h2 => ⟨hcl2, .inl ⟨fun j hj => ?_, h2⟩⟩) (seq_step hmono hnd hall hob hik hsu hi hI)
        rw [Array.getElem?_setIfInBounds, if_neg (by omega)]
        exact hsu j hj
      · have hlow := hcov hcl hi (by omega)
        have he : i = k := by
          by_cases h : i = k
          · exact h
          · exact absurd (hlow k (by omega)) (hsu k (Nat.le_refl _))
        subst he
        refine hstepL hrp.1 (Nat.le_refl _) (fun j hj => ⟨fun h => ?_, fun h => hlow j h⟩) hcl2 hsz (htoSuf hI hlow)
        by_cases h2 : j < i
        · exact h2
        · exact absurd h (hsu j (by omega))
    · have hge : i0 ≤ i := by
        by_cases h : i < i0
        · exact absurd ((hl i hrp.1).2 h) hnl
        · omega
      have hlow := hcov hcl hi (by omega)
      have he : i = i0 := by
        by_cases h : i = i0
        · exact h
        · have := (hl i0 (by omega)).1 (hlow i0 (by omega)); omega
      subst he
      exact hstepL hrp.1 hki hl hcl2 hsz hw

/-- A region that draws its order and ends in stores. -/
theorem region_seq {id : Nat} (k : Nat) (m : List Bool) (plan : Plan) (V : Nat → Value → World → Prop) (hmix : P.follows .mixedOrders = true) (hback : backB 0 ops.toList = true) (hnd : nodupB (plan.map (·.1)) = true) (hall : planAll ops m a.tmps.size (ops.toList.take k) plan = true)
    (hseq : seqB ops k = true) (hk : k ≤ ops.size) (hmono : ∀ d v w w', V d v w → Below w.heap.size w w' → V d v w') (hob : Obls P Q a m V w0 (ops.toList.take k) plan)
    (hsuf : ∀ f w, Below w0.heap.size w0 w → AllP V f w plan → wpList P ops Q (ops.toList.drop k) (over a m f) w) : (Code.region id ops true).wp P Q a w0 := by
  refine wp_region_any hmix (seq_any hmono hback hnd hall hseq hk hob hsuf _ _ _ _ (by simp) (by simp) ⟨?_, .inl ⟨?_, fun k => (a.tmps.toList[k]?).getD undef, (over_start a m).symm, ⟨rfl, rfl, rfl, Nat.le_refl _, fun _ _ => rfl⟩, ?_⟩⟩)
  · intro i o _ h
    simp [Array.getElem?_replicate] at h
  · intro j _ h
    simp [Array.getElem?_replicate] at h
  · intro i o d _ _ h
    simp [Array.getElem?_replicate] at h
end
end Go.Proofs.YtgahlhfgpkklaaaDoor

/- Regions that draw their order, with stores. -/
namespace Go.Proofs.YtgahlhfgpkklaaaDoor
open Go.RowKit
def seqLB (ops : Array Oper) (k late : Nat) : Bool := (List.range ops.size).all fun i => decide (i < k) || (List.range i).all fun j => (decide (i = k) && decide (j = late)) || coversB ops ops.size i j
/-- The slots that a plan fills, but for one row. -/
def AllPB (V : Nat → Value → World → Prop) (f : Nat → Value) (w : World) (late : Nat) : Nat → Plan → Prop
  | _, [] => True
  | n, p :: q => (n ≠ late → V p.1 (f p.1) w) ∧ AllPB V f w late (n + 1) q

def backE : Nat → List Oper → Bool
  | _, [] => true
  | k, o :: l => o.after.all (fun e => !Region.binds .any e || decide (e.on < k)) && backE (k + 1) l
theorem backE_at : ∀ {l : List Oper} {k : Nat}, backE k l = true → ∀ {i : Nat} {o : Oper}, l[i]? = some o → ∀ e ∈ o.after, Region.binds .any e = true → e.on < k + i
  | [], _, _, _, _, h => by simp at h
  | o :: l, k, h, 0, o', ho => by
    simp only [backE, Bool.and_eq_true] at h
    simp at ho; subst ho
    intro e he hbi
    have := Array.all_eq_true'.1 h.1 e he
    rw [hbi] at this
    simpa using this
  | o :: l, k, h, i + 1, o', ho => by
    simp only [backE, Bool.and_eq_true] at h
    intro e he hbi
    have := backE_at h.2 (i := i) (by simpa using ho) e he hbi
    omega
theorem all_listedE {ops : Array Oper} {listed : Array Bool} (hback : backE 0 ops.toList = true) (hsz : listed.size = ops.size) (hr : Region.ready .any ops listed = []) : ∀ i, i < ops.size → listed[i]? = some true := by
  intro i
  induction i using Nat.strongRecOn with
  | ind i ih =>
    intro hi
    cases hl : listed[i]? with
    | none => rw [Array.getElem?_eq_none_iff] at hl; omega
    | some b =>
      cases b with
      | true => rfl
      | false =>
        exfalso
        have hm : i ∈ Region.ready .any ops listed := by
          simp only [Region.ready, List.mem_filter, List.mem_range, Bool.and_eq_true]
          refine ⟨hi, by simp [Array.getD_eq_getD_getElem?, hl], ?_⟩
          have ho : ops[i]? = some ops[i] := by simp [hi]
          rw [ho]
          simp only [Option.map_some, Option.getD_some]
          rw [Array.all_eq_true']
          intro e he
          cases hbi : Region.binds .any e with
          | false => simp
          | true =>
            have h1 := backE_at hback (i := i) (o := ops[i]) (by simp) e he hbi
            have h2 := ih e.on (by omega) (by omega)
            simp [Array.getD_eq_getD_getElem?, h2]
        rw [hr] at hm
        simp at hm

section
variable {P : Program} {Q : Exit → Act → World → Prop} {a : Act} {m : List Bool} {V : Nat → Value → World → Prop} {w0 : World} {ops : Array Oper} {plan : Plan} {k late : Nat}
theorem allPB_of {f : Nat → Value} {w : World} : ∀ {l : List Oper} {q : Plan} {n s : Nat}, planAll ops m n l q = true → (∀ (i : Nat) (o : Oper) (d : Nat), s + i ≠ late → l[i]? = some o → o.dst = some d → V d (f d) w) → AllPB V f w late s q
  | [], [], _, _, _, _ => trivial
  | [], _ :: _, _, _, h, _ => by simp [planAll] at h
  | _ :: _, [], _, _, h, _ => by simp [planAll] at h
  | o :: l, p :: q, n, s, h, hV => by
    simp only [planAll, Bool.and_eq_true] at h
    have hd : o.dst = some p.1 := by
      have := h.1
      simp only [planOne, Bool.and_eq_true] at this
      simpa using this.1.1.1.1
    exact ⟨fun hs => hV 0 o p.1 (by simpa using hs) (by simp) hd, allPB_of h.2 fun i o' d hs ho hd => hV (i + 1) o' d (by omega) (by simpa using ho) hd⟩

/-- Where the region stands. -/
def StL (P : Program) (Q : Exit → Act → World → Prop) (a : Act) (m : List Bool) (V : Nat → Value → World → Prop) (w0 : World) (ops : Array Oper) (k late : Nat) (listed : Array Bool) (a' : Act) (w : World) : Prop :=
  Closed ops listed ∧ (((∀ j, k ≤ j → listed[j]? ≠ some true) ∧ Inv a m V w0 ops listed a' w) ∨ (∃ i, k ≤ i ∧ (∀ j, j < ops.size → (listed[j]? = some true ↔ j < i)) ∧ wpList P ops Q (ops.toList.drop i) a' w) ∨
    ((∀ j, j < ops.size → (listed[j]? = some true ↔ j < k + 1 ∧ j ≠ late)) ∧ ∃ o, ops[late]? = some o ∧ wpList P ops Q (o :: ops.toList.drop (k + 1)) a' w))

theorem wpList_op {o : Oper} {i : Nat} {rest : List Oper} {K : Act → World → Prop} {a' : Act} {w : World} (ho : ops[i]? = some o) (hw : wpList P ops Q (o :: rest) a' w) (h : ∀ a2 w2, wpList P ops Q rest a2 w2 → K a2 w2) : wpOp P ops Q i K a' w := by
  unfold wpList at hw
  unfold wpOp
  rw [ho]
  simp only
  split
  · rename_i hwn
    rw [if_pos hwn] at hw
    exact hw.imp (Oper.wp_mono h) id
  · rename_i hwn
    rw [if_neg hwn] at hw
    exact h _ _ hw

theorem seqL_any (hmono : ∀ d v w w', V d v w → Below w.heap.size w w' → V d v w') (hback : backE 0 ops.toList = true) (hnd : nodupB (plan.map (·.1)) = true) (hall : planAll ops m a.tmps.size (ops.toList.take k) plan = true) (hseq : seqLB ops k late = true) (hk : k < ops.size) (hlk : late < k)
    (hob : Obls P Q a m V w0 (ops.toList.take k) plan) (hsuf : ∀ f w, Below w0.heap.size w0 w → AllP V f w plan → wpList P ops Q (ops.toList.drop k) (over a m f) w)
    (hsufL : ∀ f w ok ol, ops[k]? = some ok → ops[late]? = some ol → Below w0.heap.size w0 w → AllPB V f w late 0 plan → wpList P ops Q (ok :: ol :: ops.toList.drop (k + 1)) (over a m f) w) :
    ∀ (fuel : Nat) (listed : Array Bool) (a' : Act) (w : World), listed.size = ops.size → listed.toList.count false ≤ fuel → StL P Q a m V w0 ops k late listed a' w → wpAny P .any ops Q fuel listed a' w := by
  have hcov : ∀ {listed : Array Bool}, Closed ops listed → ∀ {i : Nat}, i ∈ Region.ready .any ops listed → k ≤ i → ∀ j, j < i → (i = k → j ≠ late) → listed[j]? = some true := by
    intro listed hc i hi hki j hj hnl
    obtain ⟨hlt, _, hp⟩ := ready_pre hi
    unfold seqLB at hseq
    have h1 := List.all_eq_true.1 hseq i (by simpa using hlt)
    rw [Bool.or_eq_true] at h1
    rcases h1 with h1 | h1
    · simp at h1; omega
    · have h2 := List.all_eq_true.1 h1 j (by simpa using hj)
      rw [Bool.or_eq_true] at h2
      rcases h2 with h2 | h2
      · simp at h2; exact absurd h2.2 (hnl h2.1)
      · exact covers_listed hc _ i j hp h2
  have hpre : ∀ {listed : Array Bool} {a' : Act} {w : World}, Inv a m V w0 ops listed a' w → ∃ f, a' = over a m f ∧ Below w0.heap.size w0 w ∧ ((∀ j, j < k → listed[j]? = some true) → AllP V f w plan) ∧ ((∀ j, j < k → j ≠ late → listed[j]? = some true) → AllPB V f w late 0 plan) := by
    rintro listed a' w ⟨f, rfl, hb, hV⟩
    have key : ∀ (i : Nat) (o : Oper) (d : Nat), (ops.toList.take k)[i]? = some o → o.dst = some d → listed[i]? = some true → V d (f d) w := fun i o d ho hd hl => by
      have hik : i < k := by
        by_cases h : i < k
        · exact h
        · rw [List.getElem?_take, if_neg h] at ho; cases ho
      rw [List.getElem?_take, if_pos hik] at ho
      exact hV i o d (by simpa using ho) hd hl
    have klt : ∀ (i : Nat) (o : Oper), (ops.toList.take k)[i]? = some o → i < k := fun i o ho => by
      by_cases h : i < k
      · exact h
      · rw [List.getElem?_take, if_neg h] at ho; cases ho
    exact ⟨f, rfl, hb, fun hl => allP_of hall fun i o d ho hd => key i o d ho hd (hl i (klt i o ho)), fun hl => allPB_of (s := 0) hall fun i o d hs ho hd => key i o d ho hd (hl i (klt i o ho) (by omega))⟩
  have hend : ∀ (listed : Array Bool) (a' : Act) (w : World), listed.size = ops.size → StL P Q a m V w0 ops k late listed a' w → Region.ready .any ops listed = [] → Q .normal a' w := by
    rintro listed a' w hsz ⟨_, h⟩ hr
    have hal := all_listedE hback hsz hr
    rcases h with ⟨hs, _⟩ | ⟨i, hki, hl, hw⟩ | ⟨hl, _⟩
    · exact absurd (hal k hk) (hs k (Nat.le_refl _))
    · have : ops.size ≤ i := by
        by_cases h : i < ops.size
        · have := (hl i h).1 (hal i h); omega
        · omega
      rw [List.drop_eq_nil_of_le (by simpa using this)] at hw
      exact hw
    · exact absurd rfl ((hl late (by omega)).1 (hal late (by omega))).2
  have hd : ∀ i (hi : i < ops.size), ops.toList.drop i = ops[i] :: ops.toList.drop (i + 1) := fun i hi => by
    rw [List.drop_eq_getElem_cons (by simpa using hi)]; simp
  have hset : ∀ {listed : Array Bool} {i j : Nat}, listed.size = ops.size → i < ops.size → ((listed.setIfInBounds i true)[j]? = some true ↔ i = j ∨ listed[j]? = some true) := by
    intro listed i j hsz hi
    rw [Array.getElem?_setIfInBounds]
    by_cases e : i = j
    · subst e; rw [if_pos rfl, if_pos (by omega)]; simp
    · rw [if_neg e]; simp [e]
  intro fuel
  induction fuel with
  | zero =>
    intro listed a' w hsz hc hI
    have hr : Region.ready .any ops listed = [] := by
      rw [List.eq_nil_iff_forall_not_mem]
      intro i hi
      obtain ⟨hlt, h1, _⟩ := ready_pre hi
      have h0 : listed.toList.count false = 0 := by omega
      rw [List.count_eq_zero] at h0
      have hlt2 : i < listed.size := by omega
      simp only [Array.getD_eq_getD_getElem?, Array.getElem?_eq_getElem hlt2, Option.getD_some] at h1
      exact h0 (by rw [← h1]; simp)
    exact ⟨hr, hend listed a' w hsz hI hr⟩
  | succ fuel ih =>
    intro listed a' w hsz hc hI
    refine ⟨hend listed a' w hsz hI, fun i hi => ?_⟩
    have hrp := ready_pre hi
    have hlt2 : i < listed.size := by omega
    have h1 := hrp.2.1
    simp only [Array.getD_eq_getD_getElem?, Array.getElem?_eq_getElem hlt2, Option.getD_some] at h1
    have hcount : (listed.setIfInBounds i true).toList.count false ≤ fuel := by
      have hl : i < listed.toList.length := by simpa using hlt2
      have h2 : listed.toList[i] = false := by simpa using h1
      rw [Array.toList_setIfInBounds, List.count_set hl, h2]
      have hp : 0 < listed.toList.count false := List.count_pos_iff.2 (by rw [← h2]; exact List.getElem_mem _)
      rw [if_pos (by rfl), if_neg (by decide)]
      omega
    have hnl : listed[i]? ≠ some true := by rw [Array.getElem?_eq_getElem hlt2, h1]; simp
    refine wpOp_mono (K := fun a2 w2 => StL P Q a m V w0 ops k late (listed.setIfInBounds i true) a2 w2) (fun a2 w2 h2 => ih _ _ _ (by simpa using hsz) hcount h2) ?_
    obtain ⟨hcl, hS⟩ := hI
    have hcl2 := closed_next hcl hi
    have hoi : ops[i]? = some ops[i] := by simp [hrp.1]
    rcases hS with ⟨hsu, hI⟩ | ⟨i0, hki, hl, hw⟩ | ⟨hl, o, ho, hw⟩
    · by_cases hik : i < k
      · refine wpOp_mono (fun a2 w2 h2 => ⟨hcl2, .inl ⟨fun j hj => ?_, h2⟩⟩) (seq_step hmono hnd hall hob hik hsu hi hI)
        rw [Array.getElem?_setIfInBounds, if_neg (by omega)]
        exact hsu j hj
      · have he : i = k := by
          by_cases h : i = k
          · exact h
          · exact absurd (hcov hcl hi (by omega) k (by omega) (fun e => absurd e h)) (hsu k (Nat.le_refl _))
        subst he
        have hlow : ∀ j, j < i → j ≠ late → listed[j]? = some true := fun j hj hn => hcov hcl hi (Nat.le_refl _) j hj (fun _ => hn)
        obtain ⟨f, rfl, hb, hA, hB⟩ := hpre hI
        have hsu2 : ∀ j, listed[j]? = some true → j < i := fun j h => by
          by_cases h2 : j < i
          · exact h2
          · exact absurd h (hsu j (by omega))
        by_cases hla : listed[late]? = some true
        · have hall2 : ∀ j, j < i → listed[j]? = some true := fun j hj => by
            by_cases e : j = late
            · rw [e]; exact hla
            · exact hlow j hj e
          have hw := hsuf f w hb (hA hall2)
          rw [hd i hrp.1] at hw
          refine wpList_op hoi hw fun a2 w2 h2 => ⟨hcl2, .inr (.inl ⟨i + 1, by omega, fun j hj => ?_, h2⟩)⟩
          rw [hset hsz hrp.1]
          constructor
          · rintro (h | h)
            · omega
            · have := hsu2 j h; omega
          · intro h
            by_cases e : i = j
            · exact .inl e
            · exact .inr (hall2 j (by omega))
        · obtain ⟨ol, hol⟩ : ∃ ol, ops[late]? = some ol := ⟨ops[late]'(by omega), by simp⟩
          have hw := hsufL f w _ ol hoi hol hb (hB hlow)
          refine wpList_op hoi hw fun a2 w2 h2 => ⟨hcl2, .inr (.inr ⟨fun j hj => ?_, ol, hol, h2⟩)⟩
          rw [hset hsz hrp.1]
          constructor
          · rintro (h | h)
            · exact ⟨by omega, by omega⟩
            · refine ⟨by have := hsu2 j h; omega, fun e => hla (by rw [← e]; exact h)⟩
          · rintro ⟨h, hn⟩
            by_cases e : i = j
            · exact .inl e
            · exact .inr (hlow j (by omega) hn)
    · have hge : i0 ≤ i := by
        by_cases h : i < i0
        · exact absurd ((hl i hrp.1).2 h) hnl
        · omega
      have he : i = i0 := by
        by_cases h : i = i0
        · exact h
        · have h3 := hcov hcl hi (by omega) i0 (by omega) (fun e => by omega)
          have := (hl i0 (by omega)).1 h3
          omega
      subst he
      rw [hd i hrp.1] at hw
      refine wpList_op hoi hw fun a2 w2 h2 => ⟨hcl2, .inr (.inl ⟨i + 1, by omega, fun j hj => ?_, h2⟩)⟩
      rw [hset hsz hrp.1, hl j hj]
      omega
    · have he : i = late := by
        by_cases h : i = late
        · exact h
        · have hgt : k < i := by
            by_cases h2 : i < k + 1
            · exact absurd ((hl i hrp.1).2 ⟨h2, h⟩) hnl
            · omega
          have h3 := hcov hcl hi (by omega) late (by omega) (fun e => by omega)
          exact absurd rfl ((hl late (by omega)).1 h3).2
      subst he
      refine wpList_op ho hw fun a2 w2 h2 => ⟨hcl2, .inr (.inl ⟨k + 1, by omega, fun j hj => ?_, h2⟩)⟩
      rw [hset hsz hrp.1, hl j hj]
      constructor
      · rintro (h | h)
        · omega
        · exact h.1
      · intro h
        by_cases e : i = j
        · exact .inl e
        · exact .inr ⟨h, fun e2 => e e2.symm⟩

theorem region_seqL {id : Nat} (k late : Nat) (m : List Bool) (plan : Plan) (V : Nat → Value → World → Prop) (hmix : P.follows .mixedOrders = true) (hback : backE 0 ops.toList = true) (hnd : nodupB (plan.map (·.1)) = true) (hall : planAll ops m a.tmps.size (ops.toList.take k) plan = true)
    (hseq : seqLB ops k late = true) (hk : k < ops.size) (hlk : late < k) (hmono : ∀ d v w w', V d v w → Below w.heap.size w w' → V d v w') (hob : Obls P Q a m V w0 (ops.toList.take k) plan)
    (hsuf : ∀ f w, Below w0.heap.size w0 w → AllP V f w plan → wpList P ops Q (ops.toList.drop k) (over a m f) w)
    (hsufL : ∀ f w ok ol, ops[k]? = some ok → ops[late]? = some ol → Below w0.heap.size w0 w → AllPB V f w late 0 plan → wpList P ops Q (ok :: ol :: ops.toList.drop (k + 1)) (over a m f) w) : (Code.region id ops true).wp P Q a w0 := by
  refine wp_region_any hmix (seqL_any hmono hback hnd hall hseq hk hlk hob hsuf hsufL _ _ _ _ (by simp) (by simp) ⟨?_, .inl ⟨?_, fun k => (a.tmps.toList[k]?).getD undef, (over_start a m).symm, ⟨rfl, rfl, rfl, Nat.le_refl _, fun _ _ => rfl⟩, ?_⟩⟩)
  · intro i o _ h
    simp [Array.getElem?_replicate] at h
  · intro j _ h
    simp [Array.getElem?_replicate] at h
  · intro i o d _ _ h
    simp [Array.getElem?_replicate] at h
end
end Go.Proofs.YtgahlhfgpkklaaaDoor

/- Regions in any order, one obligation an operation. -/
namespace Go.Proofs.YtgahlhfgpkklaaaDoor
open Go.RowKit
/-- Of each operation: those that it waits for, the slots that its word names, its guard's slot. -/
abbrev GPlan := List (List Nat × List Nat × Option (Nat × Bool))
def updO (f : Nat → Value) (d : Option Nat) (v : Value) : Nat → Value := match d with
  | some d => upd f d v
  | none => f
theorem updO_other {f : Nat → Value} {d : Option Nat} {k : Nat} {v : Value} (h : d ≠ some k) : updO f d v k = f k := by
  cases d with
  | none => rfl
  | some d => exact upd_other fun e => h (by rw [e])
def menOf (plan : GPlan) (i : Nat) : List Nat := ((plan[i]?).map (·.2.1)).getD []
def gOne (ops : Array Oper) (m : List Bool) (n : Nat) (o : Oper) (p : List Nat × List Nat × Option (Nat × Bool)) : Bool :=
  (match o.dst with
    | some d => m.getD d false && decide (d < n)
    | none => true) &&
  p.1.all (fun j => o.after.any fun e => Region.binds .any e && e.on == j) &&
  (match o.guard, p.2.2 with
    | none, none => true
    | some (j, b), some (s, b') => (((ops[j]?).bind (·.dst)) == some s) && (b == b') && (m.getD s false) && decide (s < n)
    | _, _ => false)
def gAll (ops : Array Oper) (m : List Bool) (n : Nat) : List Oper → GPlan → Bool
  | [], [] => true
  | o :: l, p :: q => gOne ops m n o p && gAll ops m n l q
  | _, _ => false
/-- A slot that a word names is written by the operation itself, or by one that it waits for. -/
def menB (ops : Array Oper) (plan : GPlan) : Bool :=
  (List.range ops.size).all fun i => (List.range ops.size).all fun j => i == j || coversB ops ops.size i j || (menOf plan i).all fun s => ((ops[j]?).bind (·.dst)) != some s
def gOk (ops : Array Oper) (plan : GPlan) (m : List Bool) (n : Nat) : Bool := backE 0 ops.toList && gAll ops m n ops.toList plan && menB ops plan

section
variable (P : Program) (Q : Exit → Act → World → Prop) (a : Act) (m : List Bool) (plan : GPlan) (V : Nat → List Value → World → Prop) (J : (Nat → Value) → World → Prop) (w0 : World)
/-- The words of the operations that are waited for. -/
def AllJ (f : Nat → Value) (w : World) : List Nat → Prop
  | [] => True
  | j :: l => V j ((menOf plan j).map f) w ∧ AllJ f w l
/-- All words. -/
def AllG (f : Nat → Value) (w : World) : Nat → GPlan → Prop
  | _, [] => True
  | i, p :: q => V i (p.2.1.map f) w ∧ AllG f w (i + 1) q
/-- What an operation must do, in whatever world it comes up. -/
def DoesG (i : Nat) (o : Oper) (f : Nat → Value) (w : World) : Prop :=
  ∀ K : Act → World → Prop, (∀ a' w', (∃ v, a' = (over a m f).put o.dst v ∧ V i ((menOf plan i).map (updO f o.dst v)) w' ∧ Below w0.heap.size w0 w' ∧ J (updO f o.dst v) w' ∧ (∀ j, V j ((menOf plan j).map f) w → V j ((menOf plan j).map f) w')) → K a' w') → o.wp P (over a m f) w K Q
def OblG (i : Nat) (o : Oper) (p : List Nat × List Nat × Option (Nat × Bool)) : Prop :=
  ∀ f w, Below w0.heap.size w0 w → J f w → AllJ plan V f w p.1 → match p.2.2 with
    | none => DoesG P Q a m plan V J w0 i o f w
    | some (s, b) => (f s = .bool b → DoesG P Q a m plan V J w0 i o f w) ∧ (f s ≠ .bool b → V i ((menOf plan i).map (updO f o.dst undef)) w ∧ J (updO f o.dst undef) w)
def OblsG : Nat → List Oper → GPlan → Prop
  | i, o :: l, p :: q => OblG P Q a m plan V J w0 i o p ∧ OblsG (i + 1) l q
  | _, _, _ => True
end
theorem gAll_at {ops : Array Oper} {m : List Bool} {n : Nat} : ∀ {l : List Oper} {q : GPlan}, gAll ops m n l q = true → ∀ {i : Nat} {o : Oper}, l[i]? = some o → ∃ p, q[i]? = some p ∧ gOne ops m n o p = true
  | [], _, _, _, _, h => by simp at h
  | _ :: _, [], h, _, _, _ => by simp [gAll] at h
  | o :: l, p :: q, h, 0, o', ho => by
    simp only [gAll, Bool.and_eq_true] at h
    simp at ho; subst ho
    exact ⟨p, by simp, h.1⟩
  | o :: l, p :: q, h, i + 1, o', ho => by
    simp only [gAll, Bool.and_eq_true] at h
    obtain ⟨p', hp, h'⟩ := gAll_at h.2 (i := i) (by simpa using ho)
    exact ⟨p', by simpa using hp, h'⟩
theorem gAll_length {ops : Array Oper} {m : List Bool} {n : Nat} : ∀ {l : List Oper} {q : GPlan}, gAll ops m n l q = true → q.length = l.length
  | [], [], _ => rfl
  | [], _ :: _, h => by simp [gAll] at h
  | _ :: _, [], h => by simp [gAll] at h
  | o :: l, p :: q, h => by
    simp only [gAll, Bool.and_eq_true] at h
    simp [gAll_length h.2]

section
variable {P : Program} {Q : Exit → Act → World → Prop} {a : Act} {m : List Bool} {plan : GPlan} {V : Nat → List Value → World → Prop} {J : (Nat → Value) → World → Prop} {w0 : World} {ops : Array Oper}
theorem oblsG_at : ∀ {l : List Oper} {q : GPlan} {s : Nat}, OblsG P Q a m plan V J w0 s l q → ∀ {i : Nat} {o : Oper} {p}, l[i]? = some o → q[i]? = some p → OblG P Q a m plan V J w0 (s + i) o p
  | [], _, _, _, _, _, _, h, _ => by simp at h
  | _ :: _, [], _, _, _, _, _, _, h => by simp at h
  | o :: l, p :: q, s, h, 0, _, _, ho, hp => by simp at ho hp; subst ho; subst hp; exact h.1
  | o :: l, p :: q, s, h, i + 1, _, _, ho, hp => by
    have := oblsG_at h.2 (i := i) (by simpa using ho) (by simpa using hp)
    rw [show s + 1 + i = s + (i + 1) by omega] at this
    exact this
/-- What holds while the region goes on. -/
def InvG (a : Act) (m : List Bool) (plan : GPlan) (V : Nat → List Value → World → Prop) (J : (Nat → Value) → World → Prop) (w0 : World) (ops : Array Oper) (listed : Array Bool) (a' : Act) (w : World) : Prop :=
  Closed ops listed ∧ ∃ f, a' = over a m f ∧ Below w0.heap.size w0 w ∧ J f w ∧ ∀ i, listed[i]? = some true → V i ((menOf plan i).map f) w

theorem invG_step (hok : gOk ops plan m a.tmps.size = true) (hob : OblsG P Q a m plan V J w0 0 ops.toList plan)
    {listed : Array Bool} (hsz : listed.size = ops.size) {i : Nat} (hi : i ∈ Region.ready .any ops listed) {a' : Act} {w : World} (h : InvG a m plan V J w0 ops listed a' w) :
    wpOp P ops Q i (fun a2 w2 => InvG a m plan V J w0 ops (listed.setIfInBounds i true) a2 w2) a' w := by
  simp only [gOk, Bool.and_eq_true] at hok
  obtain ⟨⟨_, hall⟩, hmen⟩ := hok
  obtain ⟨hlt, hun, hpre⟩ := ready_pre hi
  obtain ⟨o, ho⟩ : ∃ o, ops[i]? = some o := ⟨ops[i], by simp [hlt]⟩
  have hpre := hpre o ho
  have hoL : ops.toList[i]? = some o := by simpa using ho
  obtain ⟨p, hp, h1⟩ := gAll_at hall hoL
  have hO := oblsG_at hob hoL hp
  rw [Nat.zero_add] at hO
  simp only [gOne, Bool.and_eq_true] at h1
  obtain ⟨⟨hd, hps⟩, hg⟩ := h1
  obtain ⟨hcl, f, rfl, hb, hJ, hV⟩ := h
  have hav : ∀ l : List Nat, (∀ j ∈ l, j ∈ p.1) → AllJ plan V f w l := by
    intro l
    induction l with
    | nil => intro _; trivial
    | cons j l ih =>
      intro hl
      refine ⟨?_, ih fun x hx => hl x (by simp [hx])⟩
      have h2 := List.all_eq_true.1 hps j (hl j (by simp))
      obtain ⟨e, he, h3⟩ := Array.any_eq_true'.1 h2
      simp only [Bool.and_eq_true, beq_iff_eq] at h3
      have := hpre e he h3.1
      rw [h3.2] at this
      exact hV j this
  have hav := hav p.1 fun _ h => h
  have hnl : listed[i]? ≠ some true := by
    intro e
    rw [Array.getD_eq_getD_getElem?, e] at hun
    simp at hun
  have hput : ∀ v, (over a m f).put o.dst v = over a m (updO f o.dst v) := by
    intro v
    cases e : o.dst with
    | none => rfl
    | some d =>
      rw [e] at hd
      simp only [Bool.and_eq_true] at hd
      exact over_put a m f d v (getD_true hd.1)
  have hsame : ∀ (j : Nat) (v : Value), listed[j]? = some true → (menOf plan j).map (updO f o.dst v) = (menOf plan j).map f := by
    intro j v hj
    apply List.map_congr_left
    intro s hs
    apply updO_other
    intro e
    have hjs : j < ops.size := by
      by_cases h : j < ops.size
      · exact h
      · rw [Array.getElem?_eq_none (by omega)] at hj; cases hj
    unfold menB at hmen
    have h1 := List.all_eq_true.1 (List.all_eq_true.1 hmen j (by simpa using hjs)) i (by simpa using hlt)
    simp only [Bool.or_eq_true, beq_iff_eq] at h1
    rcases h1 with (h1 | h1) | h1
    · subst h1; exact hnl hj
    · exact hnl (covers_listed hcl _ j i (fun o' ho' => hcl j o' ho' hj) h1)
    · have := List.all_eq_true.1 h1 s hs
      rw [ho] at this
      simp [e] at this
  have hcl2 := closed_next hcl hi
  have hfin : ∀ v w2, V i ((menOf plan i).map (updO f o.dst v)) w2 → Below w0.heap.size w0 w2 → J (updO f o.dst v) w2 → (∀ j, V j ((menOf plan j).map f) w → V j ((menOf plan j).map f) w2) → InvG a m plan V J w0 ops (listed.setIfInBounds i true) ((over a m f).put o.dst v) w2 := by
    intro v w2 hv hb2 hj2 hk
    refine ⟨hcl2, updO f o.dst v, hput v, hb2, hj2, fun j hlj => ?_⟩
    by_cases e : j = i
    · subst e; exact hv
    · have hlj2 : listed[j]? = some true := by simpa [Array.getElem?_setIfInBounds, Ne.symm e] using hlj
      rw [hsame j v hlj2]
      exact hk j (hV j hlj2)
  have hDoes : DoesG P Q a m plan V J w0 i o f w → o.wp P (over a m f) w (fun a2 w2 => InvG a m plan V J w0 ops (listed.setIfInBounds i true) a2 w2) Q := fun hD =>
    hD _ fun a2 w2 ⟨v, ha, hv, hb2, hj2, hk⟩ => by subst ha; exact hfin v w2 hv hb2 hj2 hk
  have hO := hO f w hb hJ hav
  unfold wpOp
  rw [ho]
  simp only
  cases hgo : o.guard with
  | none =>
    rw [hgo] at hg
    have hw : Region.wanted o (yielded ops (over a m f).tmps) = true := by simp [Region.wanted, hgo]
    rw [if_pos hw]
    cases hp2 : p.2.2 with
    | none => rw [hp2] at hO; exact .inl (hDoes hO)
    | some x => rw [hp2] at hg; simp at hg
  | some jb =>
    obtain ⟨j, b⟩ := jb
    rw [hgo] at hg
    cases hp2 : p.2.2 with
    | none => rw [hp2] at hg; simp at hg
    | some sb =>
      obtain ⟨s, b'⟩ := sb
      rw [hp2] at hg hO
      simp only [Bool.and_eq_true] at hg
      obtain ⟨⟨⟨hs, hbb⟩, hms⟩, hsn⟩ := hg
      have hbb : b = b' := by simpa using hbb
      subst hbb
      have hs : (ops[j]?).bind (·.dst) = some s := by simpa using hs
      have hgs : (over a m f).tmps[s]? = some (f s) := by
        have := overL_at f m 0 s a.tmps.toList (getD_true hms) (by simpa using hsn)
        simpa [over] using this
      have hy : yielded ops (over a m f).tmps j = match f s with | .bool x => some x | _ => none := by
        unfold yielded
        rw [hs]
        simp only [Option.bind_some, hgs]
        cases f s <;> rfl
      by_cases hw : f s = .bool b
      · have : Region.wanted o (yielded ops (over a m f).tmps) = true := by simp [Region.wanted, hgo, hy, hw]
        rw [if_pos this]
        exact .inl (hDoes (hO.1 hw))
      · have : ¬ Region.wanted o (yielded ops (over a m f).tmps) = true := by
          simp only [Region.wanted, hgo, hy, beq_iff_eq]
          cases e : f s <;> simp
          rename_i x
          intro e2; subst e2; exact hw e
        rw [if_neg this]
        exact hfin _ _ (hO.2 hw).1 hb (hO.2 hw).2 fun _ h => h

theorem allG_of {f : Nat → Value} {w : World} : ∀ {q : GPlan} {s : Nat}, (∀ i p, q[i]? = some p → V (s + i) (p.2.1.map f) w) → AllG V f w s q
  | [], _, _ => trivial
  | p :: q, s, h => ⟨by simpa using h 0 p (by simp), allG_of fun i p' hp => by
      have := h (i + 1) p' (by simpa using hp)
      rw [show s + (i + 1) = s + 1 + i by omega] at this
      exact this⟩

theorem anyG (hok : gOk ops plan m a.tmps.size = true) (hob : OblsG P Q a m plan V J w0 0 ops.toList plan)
    (hdone : ∀ f w, Below w0.heap.size w0 w → J f w → AllG V f w 0 plan → Q .normal (over a m f) w) :
    ∀ (fuel : Nat) (listed : Array Bool) (a' : Act) (w : World), listed.size = ops.size → listed.toList.count false ≤ fuel → InvG a m plan V J w0 ops listed a' w → wpAny P .any ops Q fuel listed a' w := by
  have hok2 := hok
  simp only [gOk, Bool.and_eq_true] at hok2
  obtain ⟨⟨hback, hall⟩, _⟩ := hok2
  have hlen := gAll_length hall
  have hend : ∀ (listed : Array Bool) (a' : Act) (w : World), listed.size = ops.size → InvG a m plan V J w0 ops listed a' w → Region.ready .any ops listed = [] → Q .normal a' w := by
    rintro listed a' w hsz ⟨_, f, rfl, hb, hJ, hV⟩ hr
    refine hdone f w hb hJ (allG_of fun i p hp => ?_)
    have hi : i < plan.length := (List.getElem?_eq_some_iff.1 hp).1
    have := hV i (all_listedE hback hsz hr i (by simp at hlen; omega))
    rw [Nat.zero_add]
    unfold menOf at this
    rw [hp] at this
    exact this
  intro fuel
  induction fuel with
  | zero =>
    intro listed a' w hsz hc hI
    have hr : Region.ready .any ops listed = [] := by
      rw [List.eq_nil_iff_forall_not_mem]
      intro i hi
      obtain ⟨hlt, h1, _⟩ := ready_pre hi
      have h0 : listed.toList.count false = 0 := by omega
      rw [List.count_eq_zero] at h0
      have hlt2 : i < listed.size := by omega
      simp only [Array.getD_eq_getD_getElem?, Array.getElem?_eq_getElem hlt2, Option.getD_some] at h1
      exact h0 (by rw [← h1]; simp)
    exact ⟨hr, hend listed a' w hsz hI hr⟩
  | succ fuel ih =>
    intro listed a' w hsz hc hI
    refine ⟨hend listed a' w hsz hI, fun i hi => wpOp_mono (fun a2 w2 h2 => ih _ _ _ (by simpa using hsz) ?_ h2) (invG_step hok hob hsz hi hI)⟩
    obtain ⟨hlt, h1, _⟩ := ready_pre hi
    have hlt2 : i < listed.size := by omega
    simp only [Array.getD_eq_getD_getElem?, Array.getElem?_eq_getElem hlt2, Option.getD_some] at h1
    have hl : i < listed.toList.length := by simpa using hlt2
    have h2 : listed.toList[i] = false := by simpa using h1
    rw [Array.toList_setIfInBounds, List.count_set hl, h2]
    have hp : 0 < listed.toList.count false := List.count_pos_iff.2 (by rw [← h2]; exact List.getElem_mem _)
    rw [if_pos (by rfl), if_neg (by decide)]
    omega

/-- A region that draws its order, stores wherever they stand: whatever the order is, each operation does what it must. -/
theorem region_all {id : Nat} (m : List Bool) (plan : GPlan) (V : Nat → List Value → World → Prop) (J : (Nat → Value) → World → Prop) (hmix : P.follows .mixedOrders = true) (hok : gOk ops plan m a.tmps.size = true)
    (hJ0 : ∀ w, Below w0.heap.size w0 w → J (fun k => (a.tmps.toList[k]?).getD undef) w) (hob : OblsG P Q a m plan V J w0 0 ops.toList plan)
    (hdone : ∀ f w, Below w0.heap.size w0 w → J f w → AllG V f w 0 plan → Q .normal (over a m f) w) : (Code.region id ops true).wp P Q a w0 := by
  refine wp_region_any hmix (anyG hok hob hdone _ _ _ _ (by simp) (by simp) ⟨?_, fun k => (a.tmps.toList[k]?).getD undef, (over_start a m).symm, ⟨rfl, rfl, rfl, Nat.le_refl _, fun _ _ => rfl⟩, hJ0 _ ⟨rfl, rfl, rfl, Nat.le_refl _, fun _ _ => rfl⟩, ?_⟩)
  · intro i o _ h
    simp [Array.getElem?_replicate] at h
  · intro i h
    simp [Array.getElem?_replicate] at h
/-- The like, where the word on all slots holds behind one draw. -/
theorem region_allD {id : Nat} (m : List Bool) (plan : GPlan) (V : Nat → List Value → World → Prop) (J : (Nat → Value) → World → Prop) (hmix : P.follows .mixedOrders = true) (hok : gOk ops plan m a.tmps.size = true)
    (hJ0 : J (fun k => (a.tmps.toList[k]?).getD undef) w0.drew) (hob : OblsG P Q a m plan V J w0 0 ops.toList plan)
    (hdone : ∀ f w, Below w0.heap.size w0 w → J f w → AllG V f w 0 plan → Q .normal (over a m f) w) : (Code.region id ops true).wp P Q a w0 := by
  refine wp_region_any hmix (anyG hok hob hdone _ _ _ _ (by simp) (by simp) ⟨?_, fun k => (a.tmps.toList[k]?).getD undef, (over_start a m).symm, ⟨rfl, rfl, rfl, Nat.le_refl _, fun _ _ => rfl⟩, hJ0, ?_⟩)
  · intro i o _ h
    simp [Array.getElem?_replicate] at h
  · intro i h
    simp [Array.getElem?_replicate] at h
end
end Go.Proofs.YtgahlhfgpkklaaaDoor

/- Small lemmas. -/
namespace Go.Proofs.YtgahlhfgpkklaaaDoor
open Go.RowKit
theorem cell_later {w w' : World} (hb : Below w.heap.size w w') {b o : Nat} {v : Value} (h : w.cell? ⟨b, o, none⟩ = some v) : w'.cell? ⟨b, o, none⟩ = some v := by
  rw [← h]
  refine hb.cell (p := ⟨b, o, none⟩) ?_
  show b < w.heap.size
  by_cases e : b < w.heap.size
  · exact e
  · have : w.heap[b]? = none := by simp; omega
    simp [World.cell?, this] at h

theorem wrap_in {x : Int} (h : -9223372036854775808 ≤ x) (h2 : x ≤ 9223372036854775807) : IntKind.i64.wrap x = x := by
  rw [IntWalk.i64_left]; exact IntWalk.wrap64_in _ ⟨h, h2⟩

end Go.Proofs.YtgahlhfgpkklaaaDoor
