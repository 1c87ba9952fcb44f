/- Regions in any order, one obligation an operation, with a word on the world of one's own. -/
import Derived.Test.YtjpjkkjklghpgaaSeqG
import Derived.Test.YtjpjkkjklghpgaaLC
namespace Go.Proofs.Ytjpjkkjklghpgaa
open Go.RowKit

section
variable (P : Program) (Q : Exit → Act → World → Prop) (a : Act) (m : List Bool) (plan : GPlan) (V : Nat → List Value → World → Prop) (J : (Nat → Value) → World → Prop) (E : World → Prop)
/-- What an operation must do, in whatever world it comes up. -/
def DoesX (i : Nat) (o : Oper) (f : Nat → Value) (w : World) : Prop :=
  ∀ K : Act → World → Prop, (∀ a' w', (∃ v, a' = (over a m f).put o.dst v ∧ V i ((menOf plan i).map (updO f o.dst v)) w' ∧ E w' ∧ J (updO f o.dst v) w' ∧ (∀ j, V j ((menOf plan j).map f) w → V j ((menOf plan j).map f) w')) → K a' w') → o.wp P (over a m f) w K Q
def OblX (i : Nat) (o : Oper) (p : List Nat × List Nat × Option (Nat × Bool)) : Prop :=
  ∀ f w, E w → J f w → AllJ plan V f w p.1 → match p.2.2 with
    | none => DoesX P Q a m plan V J E i o f w
    | some (s, b) => (f s = .bool b → DoesX P Q a m plan V J E i o f w) ∧ (f s ≠ .bool b → V i ((menOf plan i).map (updO f o.dst undef)) w ∧ J (updO f o.dst undef) w)
def OblsX : Nat → List Oper → GPlan → Prop
  | i, o :: l, p :: q => OblX P Q a m plan V J E i o p ∧ OblsX (i + 1) l q
  | _, _, _ => True
end
section
variable {P : Program} {Q : Exit → Act → World → Prop} {a : Act} {m : List Bool} {plan : GPlan} {V : Nat → List Value → World → Prop} {J : (Nat → Value) → World → Prop} {E : World → Prop} {ops : Array Oper}
theorem oblsX_at : ∀ {l : List Oper} {q : GPlan} {s : Nat}, OblsX P Q a m plan V J E s l q → ∀ {i : Nat} {o : Oper} {p}, l[i]? = some o → q[i]? = some p → OblX P Q a m plan V J E (s + i) o p
  | [], _, _, _, _, _, _, h, _ => by simp at h
  | _ :: _, [], _, _, _, _, _, _, h => by simp at h
  | o :: l, p :: q, s, h, 0, _, _, ho, hp => by simp at ho hp; subst ho; subst hp; exact h.1
  | o :: l, p :: q, s, h, i + 1, _, _, ho, hp => by
    have := oblsX_at h.2 (i := i) (by simpa using ho) (by simpa using hp)
    rw [show s + 1 + i = s + (i + 1) by omega] at this
    exact this
/-- What holds while the region goes on. -/
def InvX (a : Act) (m : List Bool) (plan : GPlan) (V : Nat → List Value → World → Prop) (J : (Nat → Value) → World → Prop) (E : World → Prop) (ops : Array Oper) (listed : Array Bool) (a' : Act) (w : World) : Prop :=
  Closed ops listed ∧ ∃ f, a' = over a m f ∧ E w ∧ J f w ∧ ∀ i, listed[i]? = some true → V i ((menOf plan i).map f) w
theorem invX_step (hok : gOk ops plan m a.tmps.size = true) (hob : OblsX P Q a m plan V J E 0 ops.toList plan)
    {listed : Array Bool} (hsz : listed.size = ops.size) {i : Nat} (hi : i ∈ Region.ready .any ops listed) {a' : Act} {w : World} (h : InvX a m plan V J E ops listed a' w) :
    wpOp P ops Q i (fun a2 w2 => InvX a m plan V J E ops (listed.setIfInBounds i true) a2 w2) a' w := by
  simp only [gOk, Bool.and_eq_true] at hok
  obtain ⟨⟨_, hall⟩, hmen⟩ := hok
  obtain ⟨hlt, hun, hpre⟩ := ready_pre hi
  obtain ⟨o, ho⟩ : ∃ o, ops[i]? = some o := ⟨ops[i], by simp [hlt]⟩
  have hpre := hpre o ho
  have hoL : ops.toList[i]? = some o := by simpa using ho
  obtain ⟨p, hp, h1⟩ := gAll_at hall hoL
  have hO := oblsX_at hob hoL hp
  rw [Nat.zero_add] at hO
  simp only [gOne, Bool.and_eq_true] at h1
  obtain ⟨⟨hd, hps⟩, hg⟩ := h1
  obtain ⟨hcl, f, rfl, hb, hJ, hV⟩ := h
  have hav : ∀ l : List Nat, (∀ j ∈ l, j ∈ p.1) → AllJ plan V f w l := by
    intro l
    induction l with
    | nil => intro _; trivial
    | cons j l ih =>
      intro hl
      refine ⟨?_, ih fun x hx => hl x (by simp [hx])⟩
      have h2 := List.all_eq_true.1 hps j (hl j (by simp))
      obtain ⟨e, he, h3⟩ := Array.any_eq_true'.1 h2
      simp only [Bool.and_eq_true, beq_iff_eq] at h3
      have := hpre e he h3.1
      rw [h3.2] at this
      exact hV j this
  have hav := hav p.1 fun _ h => h
  have hnl : listed[i]? ≠ some true := by
    intro e
    rw [Array.getD_eq_getD_getElem?, e] at hun
    simp at hun
  have hput : ∀ v, (over a m f).put o.dst v = over a m (updO f o.dst v) := by
    intro v
    cases e : o.dst with
    | none => rfl
    | some d =>
      rw [e] at hd
      simp only [Bool.and_eq_true] at hd
      exact over_put a m f d v (getD_true hd.1)
  have hsame : ∀ (j : Nat) (v : Value), listed[j]? = some true → (menOf plan j).map (updO f o.dst v) = (menOf plan j).map f := by
    intro j v hj
    apply List.map_congr_left
    intro s hs
    apply updO_other
    intro e
    have hjs : j < ops.size := by
      by_cases h : j < ops.size
      · exact h
      · rw [Array.getElem?_eq_none (by omega)] at hj; cases hj
    unfold menB at hmen
    have h1 := List.all_eq_true.1 (List.all_eq_true.1 hmen j (by simpa using hjs)) i (by simpa using hlt)
    simp only [Bool.or_eq_true, beq_iff_eq] at h1
    rcases h1 with (h1 | h1) | h1
    · subst h1; exact hnl hj
    · exact hnl (covers_listed hcl _ j i (fun o' ho' => hcl j o' ho' hj) h1)
    · have := List.all_eq_true.1 h1 s hs
      rw [ho] at this
      simp [e] at this
  have hcl2 := closed_next hcl hi
  have hfin : ∀ v w2, V i ((menOf plan i).map (updO f o.dst v)) w2 → E w2 → J (updO f o.dst v) w2 → (∀ j, V j ((menOf plan j).map f) w → V j ((menOf plan j).map f) w2) → InvX a m plan V J E ops (listed.setIfInBounds i true) ((over a m f).put o.dst v) w2 := by
    intro v w2 hv hb2 hj2 hk
    refine ⟨hcl2, updO f o.dst v, hput v, hb2, hj2, fun j hlj => ?_⟩
    by_cases e : j = i
    · subst e; exact hv
    · have hlj2 : listed[j]? = some true := by simpa [Array.getElem?_setIfInBounds, Ne.symm e] using hlj
      rw [hsame j v hlj2]
      exact hk j (hV j hlj2)
  have hDoes : DoesX P Q a m plan V J E i o f w → o.wp P (over a m f) w (fun a2 w2 => InvX a m plan V J E ops (listed.setIfInBounds i true) a2 w2) Q := fun hD =>
    hD _ fun a2 w2 ⟨v, ha, hv, hb2, hj2, hk⟩ => by subst ha; exact hfin v w2 hv hb2 hj2 hk
  have hO := hO f w hb hJ hav
  unfold wpOp
  rw [ho]
  simp only
  cases hgo : o.guard with
  | none =>
    rw [hgo] at hg
    have hw : Region.wanted o (yielded ops (over a m f).tmps) = true := by simp [Region.wanted, hgo]
    rw [if_pos hw]
    cases hp2 : p.2.2 with
    | none => rw [hp2] at hO; exact .inl (hDoes hO)
    | some x => rw [hp2] at hg; simp at hg
  | some jb =>
    obtain ⟨j, b⟩ := jb
    rw [hgo] at hg
    cases hp2 : p.2.2 with
    | none => rw [hp2] at hg; simp at hg
    | some sb =>
      obtain ⟨s, b'⟩ := sb
      rw [hp2] at hg hO
      simp only [Bool.and_eq_true] at hg
      obtain ⟨⟨⟨hs, hbb⟩, hms⟩, hsn⟩ := hg
      have hbb : b = b' := by simpa using hbb
      subst hbb
      have hs : (ops[j]?).bind (·.dst) = some s := by simpa using hs
      have hgs : (over a m f).tmps[s]? = some (f s) := by
        have := overL_at f m 0 s a.tmps.toList (getD_true hms) (by simpa using hsn)
        simpa [over] using this
      have hy : yielded ops (over a m f).tmps j = match f s with | .bool x => some x | _ => none := by
        unfold yielded
        rw [hs]
        simp only [Option.bind_some, hgs]
        cases f s <;> rfl
      by_cases hw : f s = .bool b
      · have : Region.wanted o (yielded ops (over a m f).tmps) = true := by simp [Region.wanted, hgo, hy, hw]
        rw [if_pos this]
        exact .inl (hDoes (hO.1 hw))
      · have : ¬ Region.wanted o (yielded ops (over a m f).tmps) = true := by
          simp only [Region.wanted, hgo, hy, beq_iff_eq]
          cases e : f s <;> simp
          rename_i x
          intro e2; subst e2; exact hw e
        rw [if_neg this]
        exact hfin _ _ (hO.2 hw).1 hb (hO.2 hw).2 fun _ h => h
theorem anyX (hok : gOk ops plan m a.tmps.size = true) (hob : OblsX P Q a m plan V J E 0 ops.toList plan)
    (hdone : ∀ f w, E w → J f w → AllG V f w 0 plan → Q .normal (over a m f) w) :
    ∀ (fuel : Nat) (listed : Array Bool) (a' : Act) (w : World), listed.size = ops.size → listed.toList.count false ≤ fuel → InvX a m plan V J E ops listed a' w → wpAny P .any ops Q fuel listed a' w := by
  have hok2 := hok
  simp only [gOk, Bool.and_eq_true] at hok2
  obtain ⟨⟨hback, hall⟩, _⟩ := hok2
  have hlen := gAll_length hall
  have hend : ∀ (listed : Array Bool) (a' : Act) (w : World), listed.size = ops.size → InvX a m plan V J E ops listed a' w → Region.ready .any ops listed = [] → Q .normal a' w := by
    rintro listed a' w hsz ⟨_, f, rfl, hb, hJ, hV⟩ hr
    refine hdone f w hb hJ (allG_of fun i p hp => ?_)
    have hi : i < plan.length := (List.getElem?_eq_some_iff.1 hp).1
    have := hV i (all_listedE hback hsz hr i (by simp at hlen; omega))
    rw [Nat.zero_add]
    unfold menOf at this
    rw [hp] at this
    exact this
  intro fuel
  induction fuel with
  | zero =>
    intro listed a' w hsz hc hI
    have hr : Region.ready .any ops listed = [] := by
      rw [List.eq_nil_iff_forall_not_mem]
      intro i hi
      obtain ⟨hlt, h1, _⟩ := ready_pre hi
      have h0 : listed.toList.count false = 0 := by omega
      rw [List.count_eq_zero] at h0
      have hlt2 : i < listed.size := by omega
      simp only [Array.getD_eq_getD_getElem?, Array.getElem?_eq_getElem hlt2, Option.getD_some] at h1
      exact h0 (by rw [← h1]; simp)
    exact ⟨hr, hend listed a' w hsz hI hr⟩
  | succ fuel ih =>
    intro listed a' w hsz hc hI
    refine ⟨hend listed a' w hsz hI, fun i hi => wpOp_mono (fun a2 w2 h2 => ih _ _ _ (by simpa using hsz) ?_ h2) (invX_step hok hob hsz hi hI)⟩
    obtain ⟨hlt, h1, _⟩ := ready_pre hi
    have hlt2 : i < listed.size := by omega
    simp only [Array.getD_eq_getD_getElem?, Array.getElem?_eq_getElem hlt2, Option.getD_some] at h1
    have hl : i < listed.toList.length := by simpa using hlt2
    have h2 : listed.toList[i] = false := by simpa using h1
    rw [Array.toList_setIfInBounds, List.count_set hl, h2]
    have hp : 0 < listed.toList.count false := List.count_pos_iff.2 (by rw [← h2]; exact List.getElem_mem _)
    rw [if_pos (by rfl), if_neg (by decide)]
    omega
/-- A region that draws its order, stores wherever they stand: whatever the order is, each operation does what it must. -/
theorem region_ev {w0 : World} {id : Nat} (m : List Bool) (plan : GPlan) (V : Nat → List Value → World → Prop) (J : (Nat → Value) → World → Prop) (E : World → Prop) (hmix : P.follows .mixedOrders = true) (hok : gOk ops plan m a.tmps.size = true)
    (hE0 : E w0.drew) (hJ0 : J (fun k => (a.tmps.toList[k]?).getD undef) w0.drew) (hob : OblsX P Q a m plan V J E 0 ops.toList plan)
    (hdone : ∀ f w, E w → J f w → AllG V f w 0 plan → Q .normal (over a m f) w) : (Code.region id ops true).wp P Q a w0 := by
  refine wp_region_any hmix (anyX hok hob hdone _ _ _ _ (by simp) (by simp) ⟨?_, fun k => (a.tmps.toList[k]?).getD undef, (over_start a m).symm, hE0, hJ0, ?_⟩)
  · intro i o _ h
    simp [Array.getElem?_replicate] at h
  · intro i h
    simp [Array.getElem?_replicate] at h
/-- The like inside a round of a range over a function. -/
theorem ev_r {w0 : World} {id : Nat} (l n : Nat) (hd : noDefer ops = true) (hl : ¬ LetsOut Q) (m : List Bool) (plan : GPlan) (V : Nat → List Value → World → Prop) (J : (Nat → Value) → World → Prop) (E : World → Prop) (hmix : P.follows .mixedOrders = true) (hok : gOk ops plan m a.tmps.size = true)
    (hE0 : E w0.drew) (hJ0 : J (fun k => (a.tmps.toList[k]?).getD undef) w0.drew) (hob : OblsX P Q a m plan V J E 0 ops.toList plan)
    (hdone : ∀ f w, E w → J f w → AllG V f w 0 plan → Q .normal (over a m f) w) : (Code.region id ops true).wpIn (Fence.wide.inRound l) n P Q a w0 := by
  refine wpIn_region_any hmix (any_round l n hd hl _ _ _ _ (anyX hok hob hdone _ _ _ _ (by simp) (by simp) ⟨?_, fun k => (a.tmps.toList[k]?).getD undef, (over_start a m).symm, hE0, hJ0, ?_⟩))
  · intro i o _ h
    simp [Array.getElem?_replicate] at h
  · intro i h
    simp [Array.getElem?_replicate] at h
end
end Go.Proofs.Ytjpjkkjklghpgaa
