/- Regions that draw their order, with stores. -/
import Derived.Test.YtjpjkkjklghpgaaAny
namespace Go.Proofs.Ytjpjkkjklghpgaa
open Go.RowKit


def coversB (ops : Array Oper) : Nat → Nat → Nat → Bool
  | 0, _, _ => false
  | n + 1, i, j => match ops[i]? with
    | none => false
    | some o => o.after.any fun e => Region.binds .any e && (e.on == j || coversB ops n e.on j)
/-- Each operation from k on waits for all ahead of it. -/
def seqB (ops : Array Oper) (k : Nat) : Bool := (List.range ops.size).all fun i => decide (i < k) || (List.range i).all fun j => coversB ops ops.size i j
def Closed (ops : Array Oper) (listed : Array Bool) : Prop := ∀ (i : Nat) (o : Oper), ops[i]? = some o → listed[i]? = some true → ∀ e ∈ o.after, Region.binds .any e = true → listed[e.on]? = some true
theorem getD_listed {listed : Array Bool} {i : Nat} (h : listed.getD i false = true) : listed[i]? = some true := by
  rw [Array.getD_eq_getD_getElem?] at h
  cases e : listed[i]? with
  | none => rw [e] at h; simp at h
  | some b => rw [e] at h; simp at h; rw [h]
theorem covers_listed {ops : Array Oper} {listed : Array Bool} (hc : Closed ops listed) : ∀ (n i j : Nat), (∀ o, ops[i]? = some o → ∀ e ∈ o.after, Region.binds .any e = true → listed[e.on]? = some true) → coversB ops n i j = true → listed[j]? = some true := by
  intro n
  induction n with
  | zero => intro i j _ h; simp [coversB] at h
  | succ n ih =>
    intro i j hp h
    unfold coversB at h
    cases ho : ops[i]? with
    | none => rw [ho] at h; simp at h
    | some o =>
      rw [ho] at h
      obtain ⟨e, he, h2⟩ := Array.any_eq_true'.1 h
      simp only [Bool.and_eq_true, Bool.or_eq_true, beq_iff_eq] at h2
      have hl := hp o ho e he h2.1
      rcases h2.2 with e2 | h3
      · rw [← e2]; exact hl
      · exact ih e.on j (fun o' ho' => hc e.on o' ho' hl) h3

section
variable {P : Program} {Q : Exit → Act → World → Prop} {a : Act} {m : List Bool} {V : Nat → Value → World → Prop} {w0 : World} {ops : Array Oper} {plan : Plan} {k : Nat}

theorem ready_pre {listed : Array Bool} {i : Nat} (hi : i ∈ Region.ready .any ops listed) : i < ops.size ∧ listed.getD i true = false ∧ ∀ o, ops[i]? = some o → ∀ e ∈ o.after, Region.binds .any e = true → listed[e.on]? = some true := by
  simp only [Region.ready, List.mem_filter, List.mem_range, Bool.and_eq_true] at hi
  obtain ⟨hlt, hun, hpre⟩ := hi
  refine ⟨hlt, by simpa using hun, fun o ho e he hb => ?_⟩
  rw [ho] at hpre
  simp only [Option.map_some, Option.getD_some] at hpre
  have h4 := Array.all_eq_true'.1 hpre e he
  rw [hb] at h4
  simp only [Bool.not_true, Bool.false_or] at h4
  exact getD_listed h4
theorem closed_next {listed : Array Bool} (hc : Closed ops listed) {i : Nat} (hi : i ∈ Region.ready .any ops listed) : Closed ops (listed.setIfInBounds i true) := by
  obtain ⟨_, _, hp⟩ := ready_pre hi
  have key : ∀ j, listed[j]? = some true → (listed.setIfInBounds i true)[j]? = some true := fun j h => by
    rw [Array.getElem?_setIfInBounds]
    split
    · split
      · rfl
      · rename_i h1 h2; subst h1; rw [Array.getElem?_eq_none (by omega)] at h; cases h
    · exact h
  intro j o ho hl e he hb
  by_cases h : i = j
  · subst h; exact key _ (hp o ho e he hb)
  · rw [Array.getElem?_setIfInBounds, if_neg h] at hl
    exact key _ (hc j o ho hl e he hb)

/-- The step of an operation ahead of the stores. -/
theorem seq_step (hmono : ∀ d v w w', V d v w → Below w.heap.size w w' → V d v w') (hnd : nodupB (plan.map (·.1)) = true) (hall : planAll ops m a.tmps.size (ops.toList.take k) plan = true) (hob : Obls P Q a m V w0 (ops.toList.take k) plan)
    {listed : Array Bool} {i : Nat} (hik : i < k) (hsu : ∀ j, k ≤ j → listed[j]? ≠ some true) (hi : i ∈ Region.ready .any ops listed) {a' : Act} {w : World} (h : Inv a m V w0 ops listed a' w) :
    wpOp P ops Q i (fun a2 w2 => Inv a m V w0 ops (listed.setIfInBounds i true) a2 w2) a' w := by
  obtain ⟨hlt, hun, hpre⟩ := ready_pre hi
  obtain ⟨o, ho⟩ : ∃ o, ops[i]? = some o := ⟨ops[i], by simp [hlt]⟩
  have hpre := hpre o ho
  have hoL : (ops.toList.take k)[i]? = some o := by rw [List.getElem?_take, if_pos hik]; simpa using ho
  obtain ⟨p, hp, h1⟩ := planAll_at hall hoL
  have hO := obls_at hob hoL hp
  simp only [planOne, Bool.and_eq_true] at h1
  obtain ⟨⟨⟨⟨hd, hm⟩, hdn⟩, hps⟩, hg⟩ := h1
  have hd' : o.dst = some p.1 := by simpa using hd
  have hm' := getD_true hm
  obtain ⟨f, rfl, hb, hV⟩ := h
  have hav : ∀ l : List Nat, (∀ d ∈ l, d ∈ p.2.1) → AllV V f w l := by
    intro l
    induction l with
    | nil => intro _; trivial
    | cons d l ih =>
      intro hl
      refine ⟨?_, ih fun x hx => hl x (by simp [hx])⟩
      have h2 := List.all_eq_true.1 hps d (hl d (by simp))
      obtain ⟨e, he, h3⟩ := Array.any_eq_true'.1 h2
      simp only [Bool.and_eq_true] at h3
      have h5 : (ops[e.on]?).bind (·.dst) = some d := by simpa using h3.2
      obtain ⟨oe, hoe, hde⟩ := Option.bind_eq_some_iff.1 h5
      exact hV e.on oe d hoe hde (hpre e he h3.1)
  have hav := hav p.2.1 fun _ h => h
  have hfin : ∀ v w2, V p.1 v w2 → Below w.heap.size w w2 → Inv a m V w0 ops (listed.setIfInBounds i true) ((over a m f).put (some p.1) v) w2 := by
    intro v w2 hv hb2
    refine ⟨upd f p.1 v, over_put a m f p.1 v hm', hb.trans (hb2.mono hb.size), ?_⟩
    intro j oj d hj hdj hlj
    by_cases e : j = i
    · subst e
      rw [ho] at hj; cases hj
      rw [hd'] at hdj; cases hdj
      rw [upd_same]; exact hv
    · have hlj2 : listed[j]? = some true := by simpa [Array.getElem?_setIfInBounds, Ne.symm e] using hlj
      have hjk : j < k := by
        by_cases h : j < k
        · exact h
        · exact absurd hlj2 (hsu j (by omega))
      have hne : d ≠ p.1 := by
        intro e2; subst e2
        obtain ⟨pj, hpj, h1j⟩ := planAll_at hall (i := j) (o := oj) (by rw [List.getElem?_take, if_pos hjk]; simpa using hj)
        simp only [planOne, Bool.and_eq_true] at h1j
        have hdj2 : oj.dst = some pj.1 := by simpa using h1j.1.1.1.1
        rw [hdj] at hdj2
        refine e (nodup_at hnd (i := j) (j := i) (d := p.1) ?_ ?_)
        · simp only [List.getElem?_map, hpj, Option.map_some, Option.some.injEq]; exact (Option.some.inj hdj2).symm
        · simp only [List.getElem?_map, hp, Option.map_some]
      rw [upd_other hne]
      exact hmono _ _ _ _ (hV j oj d hj hdj hlj2) hb2
  have hDoes : Does P Q a m V o p.1 f w → o.wp P (over a m f) w (fun a2 w2 => Inv a m V w0 ops (listed.setIfInBounds i true) a2 w2) Q := fun hD =>
    hD _ fun a2 w2 ⟨v, hv, ha, hb2⟩ => by subst ha; exact hfin v w2 hv hb2
  have hO := hO f w hb hav
  unfold wpOp
  rw [ho]
  simp only
  cases hgo : o.guard with
  | none =>
    rw [hgo] at hg
    have hw : Region.wanted o (yielded ops (over a m f).tmps) = true := by simp [Region.wanted, hgo]
    rw [if_pos hw]
    cases hp2 : p.2.2 with
    | none => rw [hp2] at hO; exact .inl (hDoes hO)
    | some x => rw [hp2] at hg; simp at hg
  | some jb =>
    obtain ⟨j, b⟩ := jb
    rw [hgo] at hg
    cases hp2 : p.2.2 with
    | none => rw [hp2] at hg; simp at hg
    | some sb =>
      obtain ⟨s, b'⟩ := sb
      rw [hp2] at hg hO
      simp only [Bool.and_eq_true] at hg
      obtain ⟨⟨⟨hs, hbb⟩, hms⟩, hsn⟩ := hg
      have hbb : b = b' := by simpa using hbb
      subst hbb
      have hs : (ops[j]?).bind (·.dst) = some s := by simpa using hs
      have hgs : (over a m f).tmps[s]? = some (f s) := by
        have := overL_at f m 0 s a.tmps.toList (getD_true hms) (by simpa using hsn)
        simpa [over] using this
      have hy : yielded ops (over a m f).tmps j = match f s with | .bool x => some x | _ => none := by
        unfold yielded
        rw [hs]
        simp only [Option.bind_some, hgs]
        cases f s <;> rfl
      by_cases hw : f s = .bool b
      · have : Region.wanted o (yielded ops (over a m f).tmps) = true := by simp [Region.wanted, hgo, hy, hw]
        rw [if_pos this]
        exact .inl (hDoes (hO.1 hw))
      · have : ¬ Region.wanted o (yielded ops (over a m f).tmps) = true := by
          simp only [Region.wanted, hgo, hy, beq_iff_eq]
          cases e : f s <;> simp
          rename_i x
          intro e2; subst e2; exact hw e
        rw [if_neg this, hd']
        exact hfin _ _ (hO.2 hw) (Below.refl _ _)

/-- Where the region stands. -/
def St (P : Program) (Q : Exit → Act → World → Prop) (a : Act) (m : List Bool) (V : Nat → Value → World → Prop) (w0 : World) (ops : Array Oper) (k : Nat) (listed : Array Bool) (a' : Act) (w : World) : Prop :=
  Closed ops listed ∧ (((∀ j, k ≤ j → listed[j]? ≠ some true) ∧ Inv a m V w0 ops listed a' w) ∨ ∃ i, k ≤ i ∧ (∀ j, j < ops.size → (listed[j]? = some true ↔ j < i)) ∧ wpList P ops Q (ops.toList.drop i) a' w)

theorem seq_any (hmono : ∀ d v w w', V d v w → Below w.heap.size w w' → V d v w') (hback : backB 0 ops.toList = true) (hnd : nodupB (plan.map (·.1)) = true) (hall : planAll ops m a.tmps.size (ops.toList.take k) plan = true) (hseq : seqB ops k = true) (hk : k ≤ ops.size)
    (hob : Obls P Q a m V w0 (ops.toList.take k) plan) (hsuf : ∀ f w, Below w0.heap.size w0 w → AllP V f w plan → wpList P ops Q (ops.toList.drop k) (over a m f) w) :
    ∀ (fuel : Nat) (listed : Array Bool) (a' : Act) (w : World), listed.size = ops.size → listed.toList.count false ≤ fuel → St P Q a m V w0 ops k listed a' w → wpAny P .any ops Q fuel listed a' w := by
  have hcov : ∀ {listed : Array Bool}, Closed ops listed → ∀ {i : Nat}, i ∈ Region.ready .any ops listed → k ≤ i → ∀ j, j < i → listed[j]? = some true := by
    intro listed hc i hi hki j hj
    obtain ⟨hlt, _, hp⟩ := ready_pre hi
    unfold seqB at hseq
    have h1 := List.all_eq_true.1 hseq i (by simpa using hlt)
    rw [Bool.or_eq_true] at h1
    rcases h1 with h1 | h1
    · simp at h1; omega
    · exact covers_listed hc _ i j hp (List.all_eq_true.1 h1 j (by simpa using hj))
  have htoSuf : ∀ {listed : Array Bool} {a' : Act} {w : World}, Inv a m V w0 ops listed a' w → (∀ j, j < k → listed[j]? = some true) → wpList P ops Q (ops.toList.drop k) a' w := by
    rintro listed a' w ⟨f, rfl, hb, hV⟩ hl
    refine hsuf f w hb (allP_of hall fun i o d ho hd => ?_)
    have hik : i < k := by
      by_cases h : i < k
      · exact h
      · rw [List.getElem?_take, if_neg h] at ho; cases ho
    rw [List.getElem?_take, if_pos hik] at ho
    exact hV i o d (by simpa using ho) hd (hl i hik)
  have hend : ∀ (listed : Array Bool) (a' : Act) (w : World), listed.size = ops.size → St P Q a m V w0 ops k listed a' w → Region.ready .any ops listed = [] → Q .normal a' w := by
    rintro listed a' w hsz ⟨_, h⟩ hr
    have hal := all_listed hback hsz hr
    rcases h with ⟨hs, hI⟩ | ⟨i, hki, hl, hw⟩
    · have hks : k = ops.size := by
        by_cases h : k < ops.size
        · exact absurd (hal k h) (hs k (Nat.le_refl _))
        · omega
      have := htoSuf hI fun j hj => hal j (by omega)
      rw [List.drop_eq_nil_of_le (by simp; omega)] at this
      exact this
    · have : ops.size ≤ i := by
        by_cases h : i < ops.size
        · have := (hl i h).1 (hal i h); omega
        · omega
      rw [List.drop_eq_nil_of_le (by simpa using this)] at hw
      exact hw
  have hstepL : ∀ {listed : Array Bool} {a' : Act} {w : World} {i : Nat}, i < ops.size → k ≤ i → (∀ j, j < ops.size → (listed[j]? = some true ↔ j < i)) → Closed ops (listed.setIfInBounds i true) → listed.size = ops.size → wpList P ops Q (ops.toList.drop i) a' w →
      wpOp P ops Q i (fun a2 w2 => St P Q a m V w0 ops k (listed.setIfInBounds i true) a2 w2) a' w := by
    intro listed a' w i hi hki hl hc hsz hw
    have hd : ops.toList.drop i = ops[i] :: ops.toList.drop (i + 1) := by
      rw [List.drop_eq_getElem_cons (by simpa using hi)]; simp
    have hnext : ∀ a2 w2, wpList P ops Q (ops.toList.drop (i + 1)) a2 w2 → St P Q a m V w0 ops k (listed.setIfInBounds i true) a2 w2 := fun a2 w2 h =>
      ⟨hc, .inr ⟨i + 1, by omega, fun j hj => by
        rw [Array.getElem?_setIfInBounds]
        by_cases e : i = j
        · subst e; rw [if_pos rfl, if_pos (by omega)]; simp
        · rw [if_neg e, hl j hj]; omega, h⟩⟩
    rw [hd] at hw
    unfold wpList at hw
    unfold wpOp
    rw [show ops[i]? = some ops[i] by simp [hi]]
    simp only
    split
    · rename_i hwn
      rw [if_pos hwn] at hw
      exact hw.imp (Oper.wp_mono hnext) id
    · rename_i hwn
      rw [if_neg hwn] at hw
      exact hnext _ _ hw
  intro fuel
  induction fuel with
  | zero =>
    intro listed a' w hsz hc hI
    have hr : Region.ready .any ops listed = [] := by
      rw [List.eq_nil_iff_forall_not_mem]
      intro i hi
      obtain ⟨hlt, h1, _⟩ := ready_pre hi
      have h0 : listed.toList.count false = 0 := by omega
      rw [List.count_eq_zero] at h0
      have hlt2 : i < listed.size := by omega
      simp only [Array.getD_eq_getD_getElem?, Array.getElem?_eq_getElem hlt2, Option.getD_some] at h1
      exact h0 (by rw [← h1]; simp)
    exact ⟨hr, hend listed a' w hsz hI hr⟩
  | succ fuel ih =>
    intro listed a' w hsz hc hI
    refine ⟨hend listed a' w hsz hI, fun i hi => ?_⟩
    have hrp := ready_pre hi
    have hlt2 : i < listed.size := by omega
    have h1 := hrp.2.1
    simp only [Array.getD_eq_getD_getElem?, Array.getElem?_eq_getElem hlt2, Option.getD_some] at h1
    have hcount : (listed.setIfInBounds i true).toList.count false ≤ fuel := by
      have hl : i < listed.toList.length := by simpa using hlt2
      have h2 : listed.toList[i] = false := by simpa using h1
      rw [Array.toList_setIfInBounds, List.count_set hl, h2]
      have hp : 0 < listed.toList.count false := List.count_pos_iff.2 (by rw [← h2]; exact List.getElem_mem _)
      rw [if_pos (by rfl), if_neg (by decide)]
      omega
    have hnl : listed[i]? ≠ some true := by rw [Array.getElem?_eq_getElem hlt2, h1]; simp
    refine wpOp_mono (K := fun a2 w2 => St P Q a m V w0 ops k (listed.setIfInBounds i true) a2 w2) (fun a2 w2 h2 => ih _ _ _ (by simpa using hsz) hcount h2) ?_
    obtain ⟨hcl, hS⟩ := hI
    have hcl2 := closed_next hcl hi
    rcases hS with ⟨hsu, hI⟩ | ⟨i0, hki, hl, hw⟩
    · by_cases hik : i < k
      · refine wpOp_mono (fun a2 w2 h2 => ⟨hcl2, .inl ⟨fun j hj => ?_, h2⟩⟩) (seq_step hmono hnd hall hob hik hsu hi hI)
        rw [Array.getElem?_setIfInBounds, if_neg (by omega)]
        exact hsu j hj
      · have hlow := hcov hcl hi (by omega)
        have he : i = k := by
          by_cases h : i = k
          · exact h
          · exact absurd (hlow k (by omega)) (hsu k (Nat.le_refl _))
        subst he
        refine hstepL hrp.1 (Nat.le_refl _) (fun j hj => ⟨fun h => ?_, fun h => hlow j h⟩) hcl2 hsz (htoSuf hI hlow)
        by_cases h2 : j < i
        · exact h2
        · exact absurd h (hsu j (by omega))
    · have hge : i0 ≤ i := by
        by_cases h : i < i0
        · exact absurd ((hl i hrp.1).2 h) hnl
        · omega
      have hlow := hcov hcl hi (by omega)
      have he : i = i0 := by
        by_cases h : i = i0
        · exact h
        · have := (hl i0 (by omega)).1 (hlow i0 (by omega)); omega
      subst he
      exact hstepL hrp.1 hki hl hcl2 hsz hw

/-- A region that draws its order and ends in stores. -/
theorem region_seq {id : Nat} (k : Nat) (m : List Bool) (plan : Plan) (V : Nat → Value → World → Prop) (hmix : P.follows .mixedOrders = true) (hback : backB 0 ops.toList = true) (hnd : nodupB (plan.map (·.1)) = true) (hall : planAll ops m a.tmps.size (ops.toList.take k) plan = true)
    (hseq : seqB ops k = true) (hk : k ≤ ops.size) (hmono : ∀ d v w w', V d v w → Below w.heap.size w w' → V d v w') (hob : Obls P Q a m V w0 (ops.toList.take k) plan)
    (hsuf : ∀ f w, Below w0.heap.size w0 w → AllP V f w plan → wpList P ops Q (ops.toList.drop k) (over a m f) w) : (Code.region id ops true).wp P Q a w0 := by
  refine wp_region_any hmix (seq_any hmono hback hnd hall hseq hk hob hsuf _ _ _ _ (by simp) (by simp) ⟨?_, .inl ⟨?_, fun k => (a.tmps.toList[k]?).getD undef, (over_start a m).symm, ⟨rfl, rfl, rfl, Nat.le_refl _, fun _ _ => rfl⟩, ?_⟩⟩)
  · intro i o _ h
    simp [Array.getElem?_replicate] at h
  · intro j _ h
    simp [Array.getElem?_replicate] at h
  · intro i o d _ _ h
    simp [Array.getElem?_replicate] at h
end

end Go.Proofs.Ytjpjkkjklghpgaa
