import Derived.Test.YtgbnjgenopdmfaaGreatGa
import Derived.Test.YtgbnjgenopdmfaaGreatGh

/- Regions that draw their order, with stores. -/
namespace Go.Proofs.YtgbnjgenopdmfaaGreat
open Go.RowKit
def coversB (ops : Array Oper) : Nat → Nat → Nat → Bool
  | 0, _, _ => false
  | n + 1, i, j => match ops[i]? with
    | none => false
    | some o => o.after.any fun e => Region.binds .any e && (e.on == j || coversB ops n e.on j)
/-- Each operation from k on waits for all ahead of it. -/
def seqB (ops : Array Oper) (k : Nat) : Bool := (List.range ops.size).all fun i => decide (i < k) || (List.range i).all fun j => coversB ops ops.size i j
def Closed (ops : Array Oper) (listed : Array Bool) : Prop := ∀ (i : Nat) (o : Oper), ops[i]? = some o → listed[i]? = some true → ∀ e ∈ o.after, Region.binds .any e = true → listed[e.on]? = some true
theorem getD_listed {listed : Array Bool} {i : Nat} (h : listed.getD i false = true) : listed[i]? = some true := by
  rw [Array.getD_eq_getD_getElem?] at h
  cases e : listed[i]? with
  | none => rw [e] at h; simp at h
  | some b => rw [e] at h; simp at h; rw [h]
theorem covers_listed {ops : Array Oper} {listed : Array Bool} (hc : Closed ops listed) : ∀ (n i j : Nat), (∀ o, ops[i]? = some o → ∀ e ∈ o.after, Region.binds .any e = true → listed[e.on]? = some true) → coversB ops n i j = true → listed[j]? = some true := by
  intro n
  induction n with
  | zero => intro i j _ h; simp [coversB] at h
  | succ n ih =>
    intro i j hp h
    unfold coversB at h
    cases ho : ops[i]? with
    | none => rw [ho] at h; simp at h
    | some o =>
      rw [ho] at h
      obtain ⟨e, he, h2⟩ := Array.any_eq_true'.1 h
      simp only [Bool.and_eq_true, Bool.or_eq_true, beq_iff_eq] at h2
      have hl := hp o ho e he h2.1
      rcases h2.2 with e2 | h3
      · rw [← e2]; exact hl
      · exact ih e.on j (fun o' ho' => hc e.on o' ho' hl) h3

section
variable {P : Program} {Q : Exit → Act → World → Prop} {a : Act} {m : List Bool} {V : Nat → Value → World → Prop} {w0 : World} {ops : Array Oper} {plan : Plan} {k : Nat}
theorem ready_pre {listed : Array Bool} {i : Nat} (hi : i ∈ Region.ready .any ops listed) : i < ops.size ∧ listed.getD i true = false ∧ ∀ o, ops[i]? = some o → ∀ e ∈ o.after, Region.binds .any e = true → listed[e.on]? = some true := by
  simp only [Region.ready, List.mem_filter, List.mem_range, Bool.and_eq_true] at hi
  obtain ⟨hlt, hun, hpre⟩ := hi
  refine ⟨hlt, by simpa using hun, fun o ho e he hb => ?_⟩
  rw [ho] at hpre
  simp only [Option.map_some, Option.getD_some] at hpre
  have h4 := Array.all_eq_true'.1 hpre e he
  rw [hb] at h4
  simp only [Bool.not_true, Bool.false_or] at h4
  exact getD_listed h4
theorem closed_next {listed : Array Bool} (hc : Closed ops listed) {i : Nat} (hi : i ∈ Region.ready .any ops listed) : Closed ops (listed.setIfInBounds i true) := by
  obtain ⟨_, _, hp⟩ := ready_pre hi
  have key : ∀ j, listed[j]? = some true → (listed.setIfInBounds i true)[j]? = some true := fun j h => by
    rw [Array.getElem?_setIfInBounds]
    split
    · split
      · rfl
      · rename_i h1 h2; subst h1; rw [Array.getElem?_eq_none (by omega)] at h; cases h
    · exact h
  intro j o ho hl e he hb
  by_cases h : i = j
  · subst h; exact key _ (hp o ho e he hb)
  · rw [Array.getElem?_setIfInBounds, if_neg h] at hl
    exact key _ (hc j o ho hl e he hb)

/-- The step of an operation ahead of the stores. -/
theorem seq_step (hmono : ∀ d v w w', V d v w → Below w.heap.size w w' → V d v w') (hnd : nodupB (plan.map (·.1)) = true) (hall : planAll ops m a.tmps.size (ops.toList.take k) plan = true) (hob : Obls P Q a m V w0 (ops.toList.take k) plan)
    {listed : Array Bool} {i : Nat} (hik : i < k) (hsu : ∀ j, k ≤ j → listed[j]? ≠ some true) (hi : i ∈ Region.ready .any ops listed) {a' : Act} {w : World} (h : Inv a m V w0 ops listed a' w) :
    wpOp P ops Q i (fun a2 w2 => Inv a m V w0 ops (listed.setIfInBounds i true) a2 w2) a' w := by
  obtain ⟨hlt, hun, hpre⟩ := ready_pre hi
  obtain ⟨o, ho⟩ : ∃ o, ops[i]? = some o := ⟨ops[i], by simp [hlt]⟩
  have hpre := hpre o ho
  have hoL : (ops.toList.take k)[i]? = some o := by rw [List.getElem?_take, if_pos hik]; simpa using ho
  obtain ⟨p, hp, h1⟩ := planAll_at hall hoL
  have hO := obls_at hob hoL hp
  simp only [planOne, Bool.and_eq_true] at h1
  obtain ⟨⟨⟨⟨hd, hm⟩, hdn⟩, hps⟩, hg⟩ := h1
  have hd' : o.dst = some p.1 := by simpa using hd
  have hm' := getD_true hm
  obtain ⟨f, rfl, hb, hV⟩ := h
  have hav : ∀ l : List Nat, (∀ d ∈ l, d ∈ p.2.1) → AllV V f w l := by
    intro l
    induction l with
    | nil => intro _; trivial
    | cons d l ih =>
      intro hl
      refine ⟨?_, ih fun x hx => hl x (by simp [hx])⟩
      have h2 := List.all_eq_true.1 hps d (hl d (by simp))
      obtain ⟨e, he, h3⟩ := Array.any_eq_true'.1 h2
      simp only [Bool.and_eq_true] at h3
      have h5 : (ops[e.on]?).bind (·.dst) = some d := by simpa using h3.2
      obtain ⟨oe, hoe, hde⟩ := Option.bind_eq_some_iff.1 h5
      exact hV e.on oe d hoe hde (hpre e he h3.1)
  have hav := hav p.2.1 fun _ h => h
  have hfin : ∀ v w2, V p.1 v w2 → Below w.heap.size w w2 → Inv a m V w0 ops (listed.setIfInBounds i true) ((over a m f).put (some p.1) v) w2 := by
    intro v w2 hv hb2
    refine ⟨upd f p.1 v, over_put a m f p.1 v hm', hb.trans (hb2.mono hb.size), ?_⟩
    intro j oj d hj hdj hlj
    by_cases e : j = i
    · subst e
      rw [ho] at hj; cases hj
      rw [hd'] at hdj; cases hdj
      rw [upd_same]; exact hv
    · have hlj2 : listed[j]? = some true := by simpa [Array.getElem?_setIfInBounds, Ne.symm e] using hlj
      have hjk : j < k := by
        by_cases h : j < k
        · exact h
        · exact absurd hlj2 (hsu j (by omega))
      have hne : d ≠ p.1 := by
        intro e2; subst e2
        obtain ⟨pj, hpj, h1j⟩ := planAll_at hall (i := j) (o := oj) (by rw [List.getElem?_take, if_pos hjk]; simpa using hj)
        simp only [planOne, Bool.and_eq_true] at h1j
        have hdj2 : oj.dst = some pj.1 := by simpa using h1j.1.1.1.1
        rw [hdj] at hdj2
        refine e (nodup_at hnd (i := j) (j := i) (d := p.1) ?_ ?_)
        · simp only [List.getElem?_map, hpj, Option.map_some, Option.some.injEq]; exact (Option.some.inj hdj2).symm
        · simp only [List.getElem?_map, hp, Option.map_some]
      rw [upd_other hne]
      exact hmono _ _ _ _ (hV j oj d hj hdj hlj2) hb2
  have hDoes : Does P Q a m V o p.1 f w → o.wp P (over a m f) w (fun a2 w2 => Inv a m V w0 ops (listed.setIfInBounds i true) a2 w2) Q := fun hD =>
    hD _ fun a2 w2 ⟨v, hv, ha, hb2⟩ => by subst ha; exact hfin v w2 hv hb2
  have hO := hO f w hb hav
  unfold wpOp
  rw [ho]
  simp only
  cases hgo : o.guard with
  | none =>
    rw [hgo] at hg
    have hw : Region.wanted o (yielded ops (over a m f).tmps) = true := by simp [Region.wanted, hgo]
    rw [if_pos hw]
    cases hp2 : p.2.2 with
    | none => rw [hp2] at hO; exact .inl (hDoes hO)
    | some x => rw [hp2] at hg; simp at hg
  | some jb =>
    obtain ⟨j, b⟩ := jb
    rw [hgo] at hg
    cases hp2 : p.2.2 with
    | none => rw [hp2] at hg; simp at hg
    | some sb =>
      obtain ⟨s, b'⟩ := sb
      rw [hp2] at hg hO
      simp only [Bool.and_eq_true] at hg
      obtain ⟨⟨⟨hs, hbb⟩, hms⟩, hsn⟩ := hg
      have hbb : b = b' := by simpa using hbb
      subst hbb
      have hs : (ops[j]?).bind (·.dst) = some s := by simpa using hs
      have hgs : (over a m f).tmps[s]? = some (f s) := by
        have := overL_at f m 0 s a.tmps.toList (getD_true hms) (by simpa using hsn)
        simpa [over] using this
      have hy : yielded ops (over a m f).tmps j = match f s with | .bool x => some x | _ => none := by
        unfold yielded
        rw [hs]
        simp only [Option.bind_some, hgs]
        cases f s <;> rfl
      by_cases hw : f s = .bool b
      · have : Region.wanted o (yielded ops (over a m f).tmps) = true := by simp [Region.wanted, hgo, hy, hw]
        rw [if_pos this]
        exact .inl (hDoes (hO.1 hw))
      · have : ¬ Region.wanted o (yielded ops (over a m f).tmps) = true := by
          simp only [Region.wanted, hgo, hy, beq_iff_eq]
          cases e : f s <;> simp
          rename_i x
          intro e2; subst e2; exact hw e
        rw [if_neg this, hd']
        exact hfin _ _ (hO.2 hw) (Below.refl _ _)

/-- Where the region stands. -/
def St (P : Program) (Q : Exit → Act → World → Prop) (a : Act) (m : List Bool) (V : Nat → Value → World → Prop) (w0 : World) (ops : Array Oper) (k : Nat) (listed : Array Bool) (a' : Act) (w : World) : Prop :=
  Closed ops listed ∧ (((∀ j, k ≤ j → listed[j]? ≠ some true) ∧ Inv a m V w0 ops listed a' w) ∨ ∃ i, k ≤ i ∧ (∀ j, j < ops.size → (listed[j]? = some true ↔ j < i)) ∧ wpList P ops Q (ops.toList.drop i) a' w)

theorem seq_any (hmono : ∀ d v w w', V d v w → Below w.heap.size w w' → V d v w') (hback : backB 0 ops.toList = true) (hnd : nodupB (plan.map (·.1)) = true) (hall : planAll ops m a.tmps.size (ops.toList.take k) plan = true) (hseq : seqB ops k = true) (hk : k ≤ ops.size)
    (hob : Obls P Q a m V w0 (ops.toList.take k) plan) (hsuf : ∀ f w, Below w0.heap.size w0 w → AllP V f w plan → wpList P ops Q (ops.toList.drop k) (over a m f) w) :
    ∀ (fuel : Nat) (listed : Array Bool) (a' : Act) (w : World), listed.size = ops.size → listed.toList.count false ≤ fuel → St P Q a m V w0 ops k listed a' w → wpAny P .any ops Q fuel listed a' w := by
  have hcov : ∀ {listed : Array Bool}, Closed ops listed → ∀ {i : Nat}, i ∈ Region.ready .any ops listed → k ≤ i → ∀ j, j < i → listed[j]? = some true := by
    intro listed hc i hi hki j hj
    obtain ⟨hlt, _, hp⟩ := ready_pre hi
    unfold seqB at hseq
    have h1 := List.all_eq_true.1 hseq i (by simpa using hlt)
    rw [Bool.or_eq_true] at h1
    rcases h1 with h1 | h1
    · simp at h1; omega
    · exact covers_listed hc _ i j hp (List.all_eq_true.1 h1 j (by simpa using hj))
  have htoSuf : ∀ {listed : Array Bool} {a' : Act} {w : World}, Inv a m V w0 ops listed a' w → (∀ j, j < k → listed[j]? = some true) → wpList P ops Q (ops.toList.drop k) a' w := by
    rintro listed a' w ⟨f, rfl, hb, hV⟩ hl
    refine hsuf f w hb (allP_of hall fun i o d ho hd => ?_)
    have hik : i < k := by
      by_cases h : i < k
      · exact h
      · rw [List.getElem?_take, if_neg h] at ho; cases ho
    rw [List.getElem?_take, if_pos hik] at ho
    exact hV i o d (by simpa using ho) hd (hl i hik)
  have hend : ∀ (listed : Array Bool) (a' : Act) (w : World), listed.size = ops.size → St P Q a m V w0 ops k listed a' w → Region.ready .any ops listed = [] → Q .normal a' w := by
    rintro listed a' w hsz ⟨_, h⟩ hr
    have hal := all_listed hback hsz hr
    rcases h with ⟨hs, hI⟩ | ⟨i, hki, hl, hw⟩
    · have hks : k = ops.size := by
        by_cases h : k < ops.size
        · exact absurd (hal k h) (hs k (Nat.le_refl _))
        · omega
      have := htoSuf hI fun j hj => hal j (by omega)
      rw [List.drop_eq_nil_of_le (by simp; omega)] at this
      exact this
    · have : ops.size ≤ i := by
        by_cases h : i < ops.size
        · have := (hl i h).1 (hal i h); omega
        · omega
      rw [List.drop_eq_nil_of_le (by simpa using this)] at hw
      exact hw
  have hstepL : ∀ {listed : Array Bool} {a' : Act} {w : World} {i : Nat}, i < ops.size → k ≤ i → (∀ j, j < ops.size → (listed[j]? = some true ↔ j < i)) → Closed ops (listed.setIfInBounds i true) → listed.size = ops.size → wpList P ops Q (ops.toList.drop i) a' w →
      wpOp P ops Q i (fun a2 w2 => St P Q a m V w0 ops k (listed.setIfInBounds i true) a2 w2) a' w := by
    intro listed a' w i hi hki hl hc hsz hw
    have hd : ops.toList.drop i = ops[i] :: ops.toList.drop (i + 1) := by
      rw [List.drop_eq_getElem_cons (by simpa using hi)]; simp
    have hnext : ∀ a2 w2, wpList P ops Q (ops.toList.drop (i + 1)) a2 w2 → St P Q a m V w0 ops k (listed.setIfInBounds i true) a2 w2 := fun a2 w2 h =>
      ⟨hc, .inr ⟨i + 1, by omega, fun j hj => by
        rw [Array.getElem?_setIfInBounds]
        by_cases e : i = j
        · subst e; rw [if_pos rfl, if_pos (by omega)]; simp
        · rw [if_neg e, hl j hj]; omega, h⟩⟩
    rw [hd] at hw
    unfold wpList at hw
    unfold wpOp
    rw [show ops[i]? = some ops[i] by simp [hi]]
    simp only
    split
    · rename_i hwn
      rw [if_pos hwn] at hw
      exact hw.imp (Oper.wp_mono hnext) id
    · rename_i hwn
      rw [if_neg hwn] at hw
      exact hnext _ _ hw
  intro fuel
  induction fuel with
  | zero =>
    intro listed a' w hsz hc hI
    have hr : Region.ready .any ops listed = [] := by
      rw [List.eq_nil_iff_forall_not_mem]
      intro i hi
      obtain ⟨hlt, h1, _⟩ := ready_pre hi
      have h0 : listed.toList.count false = 0 := by omega
      rw [List.count_eq_zero] at h0
      have hlt2 : i < listed.size := by omega
      simp only [Array.getD_eq_getD_getElem?, Array.getElem?_eq_getElem hlt2, Option.getD_some] at h1
      exact h0 (by rw [← h1]; simp)
    exact ⟨hr, hend listed a' w hsz hI hr⟩
  | succ fuel ih =>
    intro listed a' w hsz hc hI
    refine ⟨hend listed a' w hsz hI, fun i hi => ?_⟩
    have hrp := ready_pre hi
    have hlt2 : i < listed.size := by omega
    have h1 := hrp.2.1
    simp only [Array.getD_eq_getD_getElem?, Array.getElem?_eq_getElem hlt2, Option.getD_some] at h1
    have hcount : (listed.setIfInBounds i true).toList.count false ≤ fuel := by
      have hl : i < listed.toList.length := by simpa using hlt2
      have h2 : listed.toList[i] = false := by simpa using h1
      rw [Array.toList_setIfInBounds, List.count_set hl, h2]
      have hp : 0 < listed.toList.count false := List.count_pos_iff.2 (by rw [← h2]; exact List.getElem_mem _)
      rw [if_pos (by rfl), if_neg (by decide)]
      omega
    have hnl : listed[i]? ≠ some true := by rw [Array.getElem?_eq_getElem hlt2, h1]; simp
    refine wpOp_mono (K := fun a2 w2 => St P Q a m V w0 ops k (listed.setIfInBounds i true) a2 w2) (fun a2 w2 h2 => ih _ _ _ (by simpa using hsz) hcount h2) ?_
    obtain ⟨hcl, hS⟩ := hI
    have hcl2 := closed_next hcl hi
    rcases hS with ⟨hsu, hI⟩ | ⟨i0, hki, hl, hw⟩
    · by_cases hik : i < k
      · refine wpOp_mono (fun a2 w2 h2 => ⟨hcl2, .inl ⟨fun j hj => ?_, h2⟩⟩) (seq_step hmono hnd hall hob hik hsu hi hI)
        rw [Array.getElem?_setIfInBounds, if_neg (by omega)]
        exact hsu j hj
      · have hlow := hcov hcl hi (by omega)
        have he : i = k := by
          by_cases h : i = k
          · exact h
          · exact absurd (hlow k (by omega)) (hsu k (Nat.le_refl _))
        subst he
        refine hstepL hrp.1 (Nat.le_refl _) (fun j hj => ⟨fun h => ?_, fun h => hlow j h⟩) hcl2 hsz (htoSuf hI hlow)
        by_cases h2 : j < i
        · exact h2
        · exact absurd h (hsu j (by omega))
    · have hge : i0 ≤ i := by
        by_cases h : i < i0
        · exact absurd ((hl i hrp.1).2 h) hnl
        · omega
      have hlow := hcov hcl hi (by omega)
      have he : i = i0 := by
        by_cases h : i = i0
        · exact h
        · have := (hl i0 (by omega)).1 (hlow i0 (by omega)); omega
      subst he
      exact hstepL hrp.1 hki hl hcl2 hsz hw

/-- A region that draws its order and ends in stores. -/
theorem region_seq {id : Nat} (k : Nat) (m : List Bool) (plan : Plan) (V : Nat → Value → World → Prop) (hmix : P.follows .mixedOrders = true) (hback : backB 0 ops.toList = true) (hnd : nodupB (plan.map (·.1)) = true) (hall : planAll ops m a.tmps.size (ops.toList.take k) plan = true)
    (hseq : seqB ops k = true) (hk : k ≤ ops.size) (hmono : ∀ d v w w', V d v w → Below w.heap.size w w' → V d v w') (hob : Obls P Q a m V w0 (ops.toList.take k) plan)
    (hsuf : ∀ f w, Below w0.heap.size w0 w → AllP V f w plan → wpList P ops Q (ops.toList.drop k) (over a m f) w) : (Code.region id ops true).wp P Q a w0 := by
  refine wp_region_any hmix (seq_any hmono hback hnd hall hseq hk hob hsuf _ _ _ _ (by simp) (by simp) ⟨?_, .inl ⟨?_, fun k => (a.tmps.toList[k]?).getD undef, (over_start a m).symm, ⟨rfl, rfl, rfl, Nat.le_refl _, fun _ _ => rfl⟩, ?_⟩⟩)
  · intro i o _ h
    simp [Array.getElem?_replicate] at h
  · intro j _ h
    simp [Array.getElem?_replicate] at h
  · intro i o d _ _ h
    simp [Array.getElem?_replicate] at h
end
end Go.Proofs.YtgbnjgenopdmfaaGreat

/- find walked; what a deck is that may be. -/
namespace Go.Proofs.YtgbnjgenopdmfaaGreat
open Go.RowKit
abbrev zWr : Wr := ⟨⟨#[]⟩, 0, 0, 0, 0, 0, 0, 0, 0, 0, 0, 0⟩
abbrev zSt : Sit := ⟨0, zWr, ⟨#[]⟩⟩
/-- A seat put over another. -/
abbrev put14 (w : World) (b : Nat) (s : Sit) : World := (((((((((((((w.setCell ⟨b, 0, none⟩ (.int .i64 s.slot)).setCell ⟨b, 1, none⟩ (.string s.ware.name)).setCell ⟨b, 2, none⟩ (.int .i64 s.ware.kind)).setCell ⟨b, 3, none⟩ (.int .i64 s.ware.rows)).setCell ⟨b, 4, none⟩ (.int .i64 s.ware.cols)).setCell ⟨b, 5, none⟩ (.int .i64 s.ware.x)).setCell ⟨b, 6, none⟩ (.int .i64 s.ware.y)).setCell ⟨b, 7, none⟩ (.int .i64 s.ware.pitch)).setCell ⟨b, 8, none⟩ (.int .i64 s.ware.wid)).setCell ⟨b, 9, none⟩ (.int .i64 s.ware.len)).setCell ⟨b, 10, none⟩ (.int .i64 s.ware.hei)).setCell ⟨b, 11, none⟩ (.int .i64 s.ware.deep)).setCell ⟨b, 12, none⟩ (.int .i64 s.ware.cap)).setCell ⟨b, 13, none⟩ (.string s.name)
theorem below_put14 {n b : Nat} {w w' : World} {s : Sit} (h : Below n w w') (hn : n ≤ b) : Below n w (put14 w' b s) :=
  (((((((((((((h.setCell hn _).setCell hn _).setCell hn _).setCell hn _).setCell hn _).setCell hn _).setCell hn _).setCell hn _).setCell hn _).setCell hn _).setCell hn _).setCell hn _).setCell hn _).setCell hn _
/-- Three numbers in a block of their own, not frozen. -/
structure T3 (b : Nat) (x y z : Int) (w : World) : Prop where
  lt : b < w.heap.size
  c0 : w.cell? ⟨b, 0, none⟩ = some (.int .i64 x)
  c1 : w.cell? ⟨b, 1, none⟩ = some (.int .i64 y)
  c2 : w.cell? ⟨b, 2, none⟩ = some (.int .i64 z)
  f0 : w.frozen? ⟨b, 0, none⟩ = false
  f1 : w.frozen? ⟨b, 1, none⟩ = false
  f2 : w.frozen? ⟨b, 2, none⟩ = false
theorem T3.later {b : Nat} {x y z : Int} {w w1 : World} (h : T3 b x y z w) (hb : Below w.heap.size w w1) : T3 b x y z w1 :=
  ⟨Nat.lt_of_lt_of_le h.lt hb.size, cell_later hb h.c0, cell_later hb h.c1, cell_later hb h.c2, (hb.frozen (p := ⟨b, 0, none⟩) h.lt).trans h.f0, (hb.frozen (p := ⟨b, 1, none⟩) h.lt).trans h.f1, (hb.frozen (p := ⟨b, 2, none⟩) h.lt).trans h.f2⟩
theorem T3.new (w : World) (x y z : Int) (t : Nat) (n : Nat) (hn : n = w.heap.size) : T3 n x y z (w.alloc (.cells #[.int .i64 x, .int .i64 y, .int .i64 z] t)) := by
  subst hn
  exact ⟨by simp, by go_simp, by go_simp, by go_simp, by go_simp, by go_simp, by go_simp⟩
abbrev plo (n r c : Int) : Obj := .cells #[.int .i64 n, .int .i64 r, .int .i64 c] 53
theorem orL_three {p c q : Int} (h : orL [p, c, q] = 0) : p = 0 ∧ c = 0 ∧ q = 0 := by
  simp only [orL] at h
  split at h
  · split at h
    · split at h
      · exact ⟨by assumption, by assumption, by assumption⟩
      · omega
    · omega
  · omega
theorem orL_all : ∀ {l : List Int}, orL l = 0 → ∀ n ∈ l, n = 0
  | [], _, n, hn => by simp at hn
  | m :: l, h, n, hn => by
    simp only [orL] at h
    split at h
    · rename_i h0
      rcases List.mem_cons.1 hn with e | e
      · rw [e]; exact h0
      · exact orL_all h n e
    · omega
/-- What a deck is that may be. -/
theorem dchk_in {l : List Sit} (h : dchk l = 0) : l.length ≤ 12 ∧ ∀ k (hk : k < l.length), plc (l[k]'hk) = 0 ∧ chk (l[k]'hk).ware = 0 ∧ fit (l.take k) (l[k]'hk) = 0 := by
  unfold dchk at h
  split at h
  · omega
  · refine ⟨by omega, fun k hk => ?_⟩
    have := orL_all h (errAt l k) (List.mem_map.2 ⟨k, List.mem_range.2 hk, rfl⟩)
    rw [errAt_lt hk] at this
    exact orL_three this
theorem plc_in {s : Sit} (h : plc s = 0) : 1 ≤ s.slot ∧ s.slot ≤ 12 ∧ lab s.name = true := by
  unfold plc at h
  split at h
  · rename_i h1
    split at h
    · exact ⟨(inR_iff.1 h1).1, (inR_iff.1 h1).2, by assumption⟩
    · omega
  · omega


end Go.Proofs.YtgbnjgenopdmfaaGreat

/- What mean does, plainly: what may be stays so, and nothing is lost. -/
namespace Go.Proofs.YtgbnjgenopdmfaaGreat
open Go.RowKit F
theorem pl_same {f : List Pc} (h : F.Pl f) : plainL f = f := pl_unique _ _ (pl_plainL h.nn) h (ex_plainL h.nn)
theorem mayHold_iff {f : List Pc} {m : Int} : mayHold f m = true ↔ fref f = 0 ∧ plainL f = f ∧ tot f ≤ m := by simp [mayHold, and_assoc]
theorem pl_of {f : List Pc} (hr : fref f = 0) (h : plainL f = f) : F.Pl f := by rw [← h]; exact pl_plainL (fref_in hr).2.1.nn
theorem pl_pos {f : List Pc} (h : F.Pl f) (hne : f ≠ []) : 1 ≤ tot f := by
  cases f with
  | nil => exact absurd rfl hne
  | cons p r =>
    have h1 := h.1 p (by simp)
    have h2 := tot_nonneg (ps := r) (fun q hq => Int.le_of_lt (h.1 q (by simp [hq])))
    simp only [tot]
    omega
theorem ne_of_tot {f : List Pc} (h : 1 ≤ tot f) : f ≠ [] := by rintro rfl; simp [tot] at h

/-! ### put together -/
theorem togR_ok {f g : List Pc} {m : Int} (h : (togR f g m).2 = 0) :
    fref f = 0 ∧ fref g = 0 ∧ tot f + tot g ≤ m ∧ (togR f g m).1 = plainL (f ++ g) ∧ (plainL (f ++ g)).length ≤ 100 ∧ tot f + tot g ≤ 1000000000 := by
  unfold togR at h ⊢
  split at h
  · simp at h
  · rename_i hm
    rw [if_neg hm]
    unfold putR at h ⊢
    split at h
    · rename_i hf
      split at h
      · rename_i hg
        split at h
        · simp at h
        · rename_i ht
          split at h
          · simp at h
          · rename_i hl
            rw [if_pos hf, if_pos hg, if_neg ht, if_neg hl]
            simp only [totR, if_pos hf, if_pos hg] at hm
            exact ⟨hf, hg, by omega, rfl, by omega, by omega⟩
      · rename_i hg; exact absurd h hg
    · rename_i hf; exact absurd h hf
theorem fref_plain {f g : List Pc} (hf : fref f = 0) (hg : fref g = 0) (hl : (plainL (f ++ g)).length ≤ 100) (ht : tot f + tot g ≤ 1000000000) : fref (plainL (f ++ g)) = 0 := by
  have h1 := fine_append (fref_in hf).2.1 (fref_in hg).2.1
  have e : tot (f ++ g) ≤ 1000000000 := by rw [tot_append]; exact ht
  exact of_fref hl (fine_plainL h1 e) (by rw [tot_plainL]; exact e)
theorem mayHold_tog {f g : List Pc} {m : Int} (h : (togR f g m).2 = 0) : mayHold (togR f g m).1 m = true := by
  obtain ⟨hf, hg, hm, e, hl, ht⟩ := togR_ok h
  rw [e, mayHold_iff]
  have h1 := fine_append (fref_in hf).2.1 (fref_in hg).2.1
  exact ⟨fref_plain hf hg hl ht, pl_same (pl_plainL h1.nn), by rw [tot_plainL, tot_append]; exact hm⟩
theorem tot_tog {f g : List Pc} {m : Int} (h : (togR f g m).2 = 0) : tot (togR f g m).1 = tot f + tot g := by
  obtain ⟨_, _, _, e, _, _⟩ := togR_ok h
  rw [e, tot_plainL, tot_append]

/-! ### drawn -/
theorem drawF_ok {v : Int} {f : List Pc} (h : (drawF v f).2.2 = 0) : fref f = 0 ∧ 0 ≤ v ∧ v ≤ tot f ∧ (drawF v f).1 = (drawS v f).1 ∧ (drawF v f).2.1 = (drawS v f).2.1 := by
  unfold drawF at h ⊢
  split at h
  · rename_i hf
    split at h
    · simp at h
    · rename_i hv
      split at h
      · simp at h
      · rename_i ht
        rw [if_pos hf, if_neg hv, if_neg ht]
        exact ⟨hf, by omega, by omega, rfl, rfl⟩
  · rename_i hf; exact absurd h hf
theorem tot_drawF {v : Int} {f : List Pc} (h : (drawF v f).2.2 = 0) : tot (drawF v f).1 = v ∧ tot (drawF v f).2.1 = tot f - v := by
  obtain ⟨hf, h0, h1, e1, e2⟩ := drawF_ok h
  rw [e1, e2]
  have h2 := tot_drawS v f
  have h3 := drawS_enough h0 (fref_in hf).2.1.nn h1
  omega
theorem mayHold_left {v m : Int} {f : List Pc} (h : (drawF v f).2.2 = 0) (hm : mayHold f m = true) : mayHold (drawF v f).2.1 m = true := by
  have ht := tot_drawF h
  obtain ⟨hf, h0, h1, e1, e2⟩ := drawF_ok h
  rw [mayHold_iff] at hm
  rw [mayHold_iff, ht.2, e2]
  exact ⟨(draw_fine h0 hf).2, pl_same (ex_drawS h0 (fref_in hf).2.1.nn).1.2, by omega⟩

/-! ### labels -/
theorem ba_ext {a b : ByteArray} (h : a.data.toList = b.data.toList) : a = b := ByteArray.ext (Array.ext' h)
theorem ltT_iff {a b : ByteArray} : ltT a b = true ↔ a.data.toList < b.data.toList := by simp [ltT]
theorem ltT_trans {a b c : ByteArray} (h : ltT a b = true) (h2 : ltT b c = true) : ltT a c = true := by
  rw [ltT_iff] at *
  exact List.lt_trans h h2
theorem ltT_ne {a b : ByteArray} (h : ltT a b = true) : a ≠ b := by
  rintro rfl
  rw [ltT_iff] at h
  exact List.lt_irrefl _ h
theorem ltT_total {a b : ByteArray} (hne : a ≠ b) (h : ¬ ltT a b = true) : ltT b a = true := by
  rw [ltT_iff] at *
  exact Decidable.byContradiction fun hn => hne (ba_ext (List.le_antisymm (List.not_lt.1 hn) (List.not_lt.1 h)))
theorem mem_insT {x y : ByteArray} {l : List ByteArray} : x ∈ insT y l ↔ x = y ∨ x ∈ l := by
  induction l with
  | nil => simp [insT]
  | cons z r ih =>
    unfold insT
    split
    · simp
    · split
      · rename_i e
        subst e
        simp
      · rw [List.mem_cons, ih, List.mem_cons]
        constructor
        · rintro (h | h | h)
          · exact .inr (.inl h)
          · exact .inl h
          · exact .inr (.inr h)
        · rintro (h | h | h)
          · exact .inr (.inl h)
          · exact .inl h
          · exact .inr (.inr h)
def RisT (t : List ByteArray) : Prop := t.Pairwise fun a b => ltT a b = true
theorem risT_insT {x : ByteArray} {l : List ByteArray} (h : RisT l) : RisT (insT x l) := by
  induction l with
  | nil => simp [insT, RisT]
  | cons z r ih =>
    obtain ⟨h1, h2⟩ := List.pairwise_cons.1 h
    unfold insT
    split
    · rename_i hlt
      refine List.pairwise_cons.2 ⟨fun y hy => ?_, h⟩
      rcases List.mem_cons.1 hy with rfl | hy
      · exact hlt
      · exact ltT_trans hlt (h1 y hy)
    · rename_i hlt
      split
      · exact h
      · rename_i hne
        refine List.pairwise_cons.2 ⟨fun y hy => ?_, ih h2⟩
        rcases mem_insT.1 hy with rfl | hy
        · exact ltT_total hne hlt
        · exact h1 y hy
theorem length_insT (x : ByteArray) (l : List ByteArray) : (insT x l).length ≤ l.length + 1 := by
  induction l with
  | nil => simp [insT]
  | cons z r ih =>
    unfold insT
    split
    · simp
    · split
      · simp
      · simp; omega
theorem mem_labsR {x : ByteArray} {f : List Pc} : x ∈ labsR f ↔ ∃ p ∈ f, p.1 = x ∧ 0 < p.2 := by
  induction f with
  | nil => simp [labsR]
  | cons p r ih =>
    unfold labsR
    split
    · rename_i h
      rw [mem_insT, ih]
      constructor
      · rintro (rfl | ⟨q, hq, e⟩)
        · exact ⟨p, by simp, rfl, h⟩
        · exact ⟨q, by simp [hq], e⟩
      · rintro ⟨q, hq, e, h2⟩
        rcases List.mem_cons.1 hq with rfl | hq
        · exact .inl e.symm
        · exact .inr ⟨q, hq, e, h2⟩
    · rename_i h
      rw [ih]
      constructor
      · rintro ⟨q, hq, e⟩
        exact ⟨q, by simp [hq], e⟩
      · rintro ⟨q, hq, e, h2⟩
        rcases List.mem_cons.1 hq with rfl | hq
        · exact absurd h2 h
        · exact ⟨q, hq, e, h2⟩
theorem risT_labsR (f : List Pc) : RisT (labsR f) := by
  induction f with
  | nil => simp [labsR, RisT]
  | cons p r ih =>
    unfold labsR
    split
    · exact risT_insT ih
    · exact ih
theorem length_labsR (f : List Pc) : (labsR f).length ≤ f.length := by
  induction f with
  | nil => simp [labsR]
  | cons p r ih =>
    unfold labsR
    split
    · have := length_insT p.1 (labsR r)
      simp; omega
    · simp; omega
theorem risT_unique {a b : List ByteArray} (ha : RisT a) (hb : RisT b) (h : ∀ x, x ∈ a ↔ x ∈ b) : a = b := by
  have nd : ∀ {T : List ByteArray}, RisT T → T.Nodup := fun hT => List.Pairwise.imp (fun {x y} hxy => ltT_ne hxy) hT
  have hp : a.Perm b := (List.perm_ext_iff_of_nodup (nd ha) (nd hb)).2 h
  exact List.Perm.eq_of_pairwise (fun x y _ _ h1 h2 => absurd rfl (ltT_ne (ltT_trans h1 h2))) ha hb hp
/-- What is sorted by labels tells them. -/
theorem srt_labs {f S : List Pc} (hn : F.Nn f) (h : Srt f S) : S.map (·.1) = labsR f := by
  refine risT_unique ?_ (risT_labsR f) fun x => ?_
  · exact List.pairwise_map.2 (h.1.imp fun {a b} hab => ltT_iff.2 hab)
  · rw [mem_labsR, List.mem_map]
    constructor
    · rintro ⟨p, hp, rfl⟩
      obtain ⟨h0, h1⟩ := (h.2 p).1 hp
      obtain ⟨q, hq, e, h2⟩ := (sumL_pos hn (lb p)).1 (by omega)
      exact ⟨q, hq, ba_ext e, h2⟩
    · rintro ⟨p, hp, rfl, h0⟩
      have h1 := (sumL_pos hn (lb p)).2 ⟨p, hp, rfl, h0⟩
      exact ⟨(p.1, sumL f (lb p)), (h.2 _).2 ⟨h1, rfl⟩, rfl⟩
theorem wthn_iff {f g : List Pc} (hg : F.Nn g) : wthn f g = true ↔ ∀ p ∈ f, 0 < p.2 → ∃ q ∈ g, q.1 = p.1 ∧ 0 < q.2 := by
  unfold wthn
  rw [List.all_eq_true]
  constructor
  · intro h p hp h0
    have := h p hp
    simp only [Bool.or_eq_true, decide_eq_true_eq] at this
    obtain ⟨q, hq, e, h2⟩ := (sumL_pos hg p.1.data.toList).1 (by omega)
    exact ⟨q, hq, ba_ext e, h2⟩
  · intro h p hp
    simp only [Bool.or_eq_true, decide_eq_true_eq]
    by_cases h0 : 0 < p.2
    · obtain ⟨q, hq, e, h2⟩ := h p hp h0
      exact .inr ((sumL_pos hg p.1.data.toList).2 ⟨q, hq, by rw [e], h2⟩)
    · exact .inl (by omega)
theorem drops_nn (t : List ByteArray) : F.Nn (drops t) := fun p hp => by
  obtain ⟨x, _, rfl⟩ := List.mem_map.1 hp
  simp
theorem tot_drops (t : List ByteArray) : tot (drops t) = t.length := by
  induction t with
  | nil => rfl
  | cons x t ih =>
    have : drops (x :: t) = (x, 1) :: drops t := rfl
    rw [this]
    simp only [tot, ih, List.length_cons]
    omega
theorem fref_drops {t : List ByteArray} (hl : t.length ≤ 100) (h : ∀ x ∈ t, lab x = true) : fref (drops t) = 0 := by
  refine of_fref (by simpa [drops] using hl) (fun p hp => ?_) (by rw [tot_drops]; omega)
  obtain ⟨x, hx, rfl⟩ := List.mem_map.1 hp
  exact ⟨h x hx, by simp, by simp⟩
theorem withR_iff {f g : List Pc} : (withR f g).1 = true ↔ fref f = 0 ∧ fref g = 0 ∧ wthn f g = true := by
  unfold withR
  split
  · rename_i h1
    split
    · rename_i h2; simp [h1, h2]
    · rename_i h2; simp [h1, h2]
  · rename_i h1; simp [h1]
theorem mem_drops {t : List ByteArray} {p : Pc} : p ∈ drops t ↔ p.1 ∈ t ∧ p.2 = 1 := by
  unfold drops
  rw [List.mem_map]
  constructor
  · rintro ⟨x, hx, rfl⟩; exact ⟨hx, rfl⟩
  · rintro ⟨hx, e⟩; exact ⟨p.1, hx, by rw [← e]⟩
theorem mayTouch_iff {t : List ByteArray} {h : List Pc} : mayTouch t h = true ↔ t.length ≤ 100 ∧ RisT t ∧ (withR h (drops t)).1 = true := by
  simp [mayTouch, and_assoc, RisT]

/-! ### what may be -/
structure May (l : List Sit) (s : Sta) : Prop where
  wells : ∀ x ∈ s.wells, (wellM l x.1).2 = 0 ∧ x.2 ≠ [] ∧ mayHold x.2 (wellM l x.1).1 = true
  rising : Rising s.wells
  take : mayTake l s = true
  heat : 0 ≤ s.heat ∧ s.heat ≤ 1000000000
  clock : 0 ≤ s.clock ∧ s.clock ≤ 1000000000
theorem mayB_iff {l : List Sit} {s : Sta} : mayB l s = true ↔ May l s := by
  unfold mayB mayFill
  simp only [Bool.and_eq_true, List.all_eq_true, decide_eq_true_eq, inR_iff]
  constructor
  · rintro ⟨⟨h1, h2⟩, h3, h4, h5⟩
    refine ⟨fun x hx => ?_, h2, h3, h4, h5⟩
    have := h1 x hx
    simp only [wellOk, Bool.and_eq_true, decide_eq_true_eq, and_assoc] at this
    exact this
  · rintro ⟨h1, h2, h3, h4, h5⟩
    refine ⟨⟨fun x hx => ?_, h2⟩, h3, h4, h5⟩
    simp only [wellOk, Bool.and_eq_true, decide_eq_true_eq, and_assoc]
    exact h1 x hx
theorem May.well {l : List Sit} {s : Sta} (h : May l s) (p : Plc) (h0 : 0 ≤ (wellM l p).1) : mayHold (wellF s.wells p) (wellM l p).1 = true := by
  rcases wellF_cases s.wells p with ⟨_, e⟩ | ⟨f, hf, e⟩
  · rw [e, mayHold_iff]
    exact ⟨by decide, rfl, h0⟩
  · rw [e]
    exact (h.wells _ hf).2.2
/-- A well set: the others as they were. -/
theorem wells_wset {l : List Sit} {ws : Wls} {p : Plc} {f : List Pc} (h : ∀ x ∈ ws, (wellM l x.1).2 = 0 ∧ x.2 ≠ [] ∧ mayHold x.2 (wellM l x.1).1 = true)
    (hm : (wellM l p).2 = 0) (hf : mayHold f (wellM l p).1 = true) : ∀ x ∈ wset ws p f, (wellM l x.1).2 = 0 ∧ x.2 ≠ [] ∧ mayHold x.2 (wellM l x.1).1 = true := by
  intro x hx
  rcases mem_wset.1 hx with ⟨rfl, hne⟩ | ⟨hx, _⟩
  · exact ⟨hm, hne, hf⟩
  · exact h x hx
theorem aimR_ok {l : List Sit} {a : Acn} (h : (aimR l a).2 = 0) : (wellM l a.pl).2 = 0 ∧ (aimR l a).1 = (wellM l a.pl).1 ∧ 1 ≤ a.vol ∧ a.vol ≤ 1000000000 := by
  unfold aimR at h ⊢
  split at h
  · rename_i h1
    split at h
    · rename_i h2
      rw [if_pos h1, if_pos h2]
      exact ⟨h1, rfl, (inR_iff.1 h2).1, (inR_iff.1 h2).2⟩
    · simp at h
  · rename_i h1; exact absurd h h1
theorem seatOf_in {l : List Sit} {n : Int} {s : Sit} (h : seatOf l n = some s) : s ∈ l ∧ s.slot = n :=
  ⟨List.mem_of_find?_eq_some h, by simpa using List.find?_some h⟩
theorem chk_cap {a : Wr} (h : chk a = 0) : 0 ≤ a.cap ∧ a.cap ≤ 1000000000 := by
  have h1 := (chk_in h).2.2.2.2.1
  simp only [rangeOk, Bool.and_eq_true] at h1
  have h2 := h1.2
  simp only [List.all_cons, List.all_nil, Bool.and_true, inR_iff] at h2
  have h3 : 0 ≤ loC a := by unfold loC; split <;> decide
  have h4 : hiC a ≤ 1000000000 := by unfold hiC; split <;> decide
  omega
theorem dchk_ware {l : List Sit} (hd : dchk l = 0) {s : Sit} (hs : s ∈ l) : chk s.ware = 0 ∧ 1 ≤ s.slot ∧ s.slot ≤ 12 := by
  obtain ⟨k, hk, rfl⟩ := List.mem_iff_getElem.1 hs
  obtain ⟨h1, h2, _⟩ := (dchk_in hd).2 k hk
  exact ⟨h2, (plc_in h1).1, (plc_in h1).2.1⟩
theorem wareOf_in {l : List Sit} {p : Plc} {a : Wr} (h : wareOf l p = some a) : ∃ s ∈ l, s.slot = p.1 ∧ s.ware = a ∧ spotOk p.2.1 p.2.2 a.rows a.cols = true := by
  unfold wareOf at h
  split at h
  · rename_i s hs
    split at h
    · rename_i hsp
      injection h with h
      subst h
      exact ⟨s, (seatOf_in hs).1, (seatOf_in hs).2, rfl, hsp⟩
    · cases h
  · cases h
theorem wellM_in {l : List Sit} (hd : dchk l = 0) (p : Plc) : 0 ≤ (wellM l p).1 ∧ (wellM l p).1 ≤ 1000000000 := by
  unfold wellM
  split
  · rename_i a ha
    split
    · obtain ⟨s, hs, _, rfl, _⟩ := wareOf_in ha
      exact chk_cap (dchk_ware hd hs).1
    · simp
  · simp
theorem tipM_in {l : List Sit} (hd : dchk l = 0) : 0 ≤ tipM l ∧ tipM l ≤ 1000000000 := by
  unfold tipM
  split
  · simp
  · split
    · rename_i a ha
      obtain ⟨s, hs, _, rfl, _⟩ := wareOf_in ha
      exact chk_cap (dchk_ware hd hs).1
    · simp
theorem mayHold_nil {m : Int} (h : 0 ≤ m) : mayHold [] m = true := by
  rw [mayHold_iff]
  exact ⟨by decide, rfl, h⟩
theorem mayTouch_nil : mayTouch [] [] = true := by decide

/-! ### an action leaves what may be -/
theorem may_fill {l : List Sit} {s : Sta} {a : Acn} (h : May l s) (h0 : (fillA l s a).2 = 0) :
    May l (fillA l s a).1 ∧ liq (fillA l s a).1.wells = liq s.wells + a.vol ∧ (fillA l s a).1.held = s.held ∧ (fillA l s a).1.used = s.used ∧ (fillA l s a).1.clock = s.clock := by
  unfold fillA at h0 ⊢
  split at h0
  · rename_i h1; exact absurd h0 h1
  · rename_i h1
    split at h0
    · rename_i h2; exact absurd h0 h2
    · rename_i h2
      split at h0
      · rename_i h3; exact absurd h0 h3
      · rename_i h3
        rw [if_neg h1, if_neg h2, if_neg h3]
        have h3' := Decidable.not_not.1 h3
        obtain ⟨a1, a2, _, _⟩ := aimR_ok (Decidable.not_not.1 h1)
        have hh := mayHold_tog h3'
        refine ⟨⟨wells_wset h.wells a1 (by rw [← a2]; exact hh), rising_wset h.rising _ _, h.take, h.heat, h.clock⟩, ?_, rfl, rfl, rfl⟩
        rw [liq_wset h.rising, tot_tog h3']
        simp only [tot]
        omega
theorem may_tip {l : List Sit} {s : Sta} (hd : dchk l = 0) (h : May l s) (h0 : (tipA l s).2 = 0) :
    May l (tipA l s).1 ∧ (tipA l s).1.wells = s.wells ∧ (tipA l s).1.held = s.held ∧ (tipA l s).1.used = s.used + 1 ∧ (tipA l s).1.clock = s.clock := by
  unfold tipA at h0 ⊢
  split at h0
  · simp at h0
  · rename_i h1
    split at h0
    · simp at h0
    · rename_i h2
      rw [if_neg h1, if_neg h2]
      have ht := h.take
      unfold mayTake at ht
      rw [if_neg h1] at ht
      simp only [Bool.and_eq_true, decide_eq_true_eq, inR_iff] at ht
      obtain ⟨⟨u0, u1⟩, e1, e2⟩ := ht
      refine ⟨⟨h.wells, h.rising, ?_, h.heat, h.clock⟩, rfl, rfl, rfl, rfl⟩
      unfold mayTake
      simp only [if_true, Bool.and_eq_true, inR_iff]
      refine ⟨⟨by omega, by omega⟩, ?_, ?_⟩
      · rw [e1]; exact mayHold_nil (tipM_in hd).1
      · rw [e1, e2]; exact mayTouch_nil
theorem may_drop {l : List Sit} {s : Sta} (h : May l s) (h0 : (dropA s).2 = 0) :
    May l (dropA s).1 ∧ (dropA s).1.wells = s.wells ∧ (dropA s).1.held = [] ∧ (dropA s).1.used = s.used ∧ (dropA s).1.clock = s.clock ∧ (dropA s).1.tip = false := by
  unfold dropA at h0 ⊢
  split at h0
  · rename_i h1
    rw [if_pos h1]
    have ht := h.take
    unfold mayTake at ht
    rw [if_pos h1] at ht
    simp only [Bool.and_eq_true, inR_iff] at ht
    refine ⟨⟨h.wells, h.rising, ?_, h.heat, h.clock⟩, rfl, rfl, rfl, rfl, rfl⟩
    unfold mayTake
    simp only [Bool.false_eq_true, if_false, Bool.and_eq_true, decide_eq_true_eq, inR_iff]
    exact ⟨⟨by omega, by omega⟩, trivial, trivial⟩
  · simp at h0
theorem tip_parts {l : List Sit} {s : Sta} (h : May l s) (ht : s.tip = true) : 1 ≤ s.used ∧ s.used ≤ (tipsL l).length ∧ mayHold s.held (tipM l) = true ∧ mayTouch s.touched s.held = true := by
  have := h.take
  unfold mayTake at this
  rw [if_pos ht] at this
  simp only [Bool.and_eq_true, inR_iff] at this
  exact ⟨this.1.1, this.1.2, this.2.1, this.2.2⟩
theorem take_of {l : List Sit} {s : Sta} (ht : s.tip = true) (h1 : 1 ≤ s.used) (h2 : s.used ≤ (tipsL l).length) (h3 : mayHold s.held (tipM l) = true) (h4 : mayTouch s.touched s.held = true) : mayTake l s = true := by
  unfold mayTake
  rw [if_pos ht]
  simp only [Bool.and_eq_true, inR_iff]
  exact ⟨⟨h1, h2⟩, h3, h4⟩
theorem may_draw {l : List Sit} {s : Sta} {a : Acn} (hd : dchk l = 0) (h : May l s) (h0 : (drawA l s a).2 = 0) :
    May l (drawA l s a).1 ∧ liq (drawA l s a).1.wells + tot (drawA l s a).1.held = liq s.wells + tot s.held ∧ (drawA l s a).1.used = s.used ∧ (drawA l s a).1.clock = s.clock := by
  unfold drawA at h0 ⊢
  split at h0
  · rename_i h1; exact absurd h0 h1
  · rename_i h1
    split at h0
    · simp at h0
    · rename_i h2
      split at h0
      · rename_i h3; exact absurd h0 h3
      · rename_i h3
        split at h0
        · simp at h0
        · rename_i h4
          split at h0
          · rename_i h5; exact absurd h0 h5
          · rename_i h5
            rw [if_neg h1, if_neg h2, if_neg h3, if_neg h4, if_neg h5]
            have h3' := Decidable.not_not.1 h3
            have h4' : (withR (drops s.touched) (wellF s.wells a.pl)).1 = true := by simpa using h4
            have h5' := Decidable.not_not.1 h5
            have ht : s.tip = true := by simpa using h2
            obtain ⟨a1, a2, _, _⟩ := aimR_ok (Decidable.not_not.1 h1)
            have hw := h.well a.pl (wellM_in hd a.pl).1
            obtain ⟨u1, u2, u3, u4⟩ := tip_parts h ht
            obtain ⟨d1, d2, d3, d4, d5⟩ := drawF_ok h3'
            have td := tot_drawF h3'
            obtain ⟨t1, t2, t3, t4, t5, t6⟩ := togR_ok h5'
            obtain ⟨m1, m2, m3⟩ := mayTouch_iff.1 u4
            obtain ⟨n1, n2, n3⟩ := withR_iff.1 m3
            obtain ⟨k1, k2, k3⟩ := withR_iff.1 h4'
            have hpl := pl_of (mayHold_iff.1 hw).1 (mayHold_iff.1 hw).2.1
            refine ⟨⟨wells_wset h.wells a1 (mayHold_left h3' hw), rising_wset h.rising _ _, ?_, h.heat, h.clock⟩, ?_, rfl, rfl⟩
            · refine take_of ht u1 u2 (mayHold_tog h5') (mayTouch_iff.2 ⟨?_, risT_labsR _, withR_iff.2 ⟨?_, ?_, ?_⟩⟩)
              · have := length_labsR (wellF s.wells a.pl)
                have := (fref_in d1).1
                simp only
                omega
              · exact (mayHold_iff.1 (mayHold_tog h5')).1
              · refine fref_drops (by have := length_labsR (wellF s.wells a.pl); have := (fref_in d1).1; simp only; omega) fun x hx => ?_
                obtain ⟨p, hp, rfl, _⟩ := mem_labsR.1 hx
                exact ((fref_in d1).2.1 p hp).1
              · rw [wthn_iff (drops_nn _)]
                intro p hp hp0
                have hall : ∀ q ∈ s.held ++ (drawF a.vol (wellF s.wells a.pl)).1, (∃ r ∈ wellF s.wells a.pl, r.1 = q.1 ∧ 0 < r.2) ∧ 0 ≤ q.2 := by
                  intro q hq
                  rcases List.mem_append.1 hq with hq | hq
                  · have hp1 := pl_of (mayHold_iff.1 u3).1 (mayHold_iff.1 u3).2.1
                    have q0 := hp1.1 q hq
                    obtain ⟨r, hr, e, _⟩ := (wthn_iff (drops_nn _)).1 n3 q hq q0
                    obtain ⟨r', hr', e', h'⟩ := (wthn_iff hpl.nn).1 k3 r hr (by rw [(mem_drops.1 hr).2]; decide)
                    exact ⟨⟨r', hr', by rw [e', e], h'⟩, Int.le_of_lt q0⟩
                  · rw [d4] at hq
                    exact (drawS_all (C := fun x => ∃ r ∈ wellF s.wells a.pl, r.1 = x ∧ 0 < r.2) d2 (ps := wellF s.wells a.pl) fun q hq => ⟨⟨q, hq, rfl, hpl.1 q hq⟩, Int.le_of_lt (hpl.1 q hq)⟩).1 q hq
                simp only at hp
                rw [t4] at hp
                obtain ⟨r, hr, e, hr0⟩ := (plainL_all (C := fun x => ∃ r ∈ wellF s.wells a.pl, r.1 = x ∧ 0 < r.2) hall p hp).1
                exact ⟨(p.1, 1), mem_drops.2 ⟨mem_labsR.2 ⟨r, hr, e, hr0⟩, rfl⟩, rfl, Int.one_pos⟩
            · simp only
              rw [liq_wset h.rising, tot_tog h5', td.1, td.2]
              omega
theorem may_put {l : List Sit} {s : Sta} {a : Acn} (h : May l s) (h0 : (putA l s a).2 = 0) :
    May l (putA l s a).1 ∧ liq (putA l s a).1.wells + tot (putA l s a).1.held = liq s.wells + tot s.held ∧ (putA l s a).1.used = s.used ∧ (putA l s a).1.clock = s.clock := by
  unfold putA at h0 ⊢
  split at h0
  · rename_i h1; exact absurd h0 h1
  · rename_i h1
    split at h0
    · simp at h0
    · rename_i h2
      split at h0
      · rename_i h3; exact absurd h0 h3
      · rename_i h3
        split at h0
        · rename_i h5; exact absurd h0 h5
        · rename_i h5
          rw [if_neg h1, if_neg h2, if_neg h3, if_neg h5]
          have h3' := Decidable.not_not.1 h3
          have h5' := Decidable.not_not.1 h5
          have ht : s.tip = true := by simpa using h2
          obtain ⟨a1, a2, _, _⟩ := aimR_ok (Decidable.not_not.1 h1)
          obtain ⟨u1, u2, u3, u4⟩ := tip_parts h ht
          obtain ⟨d1, d2, d3, d4, d5⟩ := drawF_ok h3'
          have td := tot_drawF h3'
          obtain ⟨m1, m2, m3⟩ := mayTouch_iff.1 u4
          obtain ⟨n1, n2, n3⟩ := withR_iff.1 m3
          have hh := mayHold_tog h5'
          refine ⟨⟨wells_wset h.wells a1 (by rw [← a2]; exact hh), rising_wset h.rising _ _, ?_, h.heat, h.clock⟩, ?_, rfl, rfl⟩
          · refine take_of ht u1 u2 (mayHold_left h3' u3) (mayTouch_iff.2 ⟨m1, m2, withR_iff.2 ⟨(mayHold_iff.1 (mayHold_left h3' u3)).1, n2, ?_⟩⟩)
            rw [wthn_iff (drops_nn _)]
            intro p hp hp0
            have hp1 := pl_of (mayHold_iff.1 u3).1 (mayHold_iff.1 u3).2.1
            simp only at hp
            rw [d5] at hp
            obtain ⟨r, hr, e, hr0⟩ := ((drawS_all (C := fun x => ∃ r ∈ s.held, r.1 = x ∧ 0 < r.2) d2 (ps := s.held) fun q hq => ⟨⟨q, hq, rfl, hp1.1 q hq⟩, Int.le_of_lt (hp1.1 q hq)⟩).2 p hp).1
            obtain ⟨r', hr', e', h'⟩ := (wthn_iff (drops_nn _)).1 n3 r hr hr0
            exact ⟨r', hr', by rw [e', e], h'⟩
          · simp only
            rw [liq_wset h.rising, tot_tog h5', td.1, td.2]
            omega
theorem may_warm {l : List Sit} {s : Sta} {a : Acn} (h : May l s) (h0 : (warmA s a).2 = 0) :
    May l (warmA s a).1 ∧ (warmA s a).1.wells = s.wells ∧ (warmA s a).1.held = s.held ∧ (warmA s a).1.used = s.used ∧ (warmA s a).1.clock = s.clock := by
  unfold warmA at h0 ⊢
  split at h0
  · rename_i h1
    rw [if_pos h1]
    exact ⟨⟨h.wells, h.rising, h.take, ⟨(inR_iff.1 h1).1, (inR_iff.1 h1).2⟩, h.clock⟩, rfl, rfl, rfl, rfl⟩
  · simp at h0
theorem may_pass {l : List Sit} {s : Sta} {a : Acn} (h : May l s) (h0 : (passA s a).2 = 0) :
    May l (passA s a).1 ∧ (passA s a).1.wells = s.wells ∧ (passA s a).1.held = s.held ∧ (passA s a).1.used = s.used ∧ s.clock ≤ (passA s a).1.clock := by
  unfold passA at h0 ⊢
  split at h0
  · rename_i h1
    split at h0
    · simp at h0
    · rename_i h2
      rw [if_pos h1, if_neg h2]
      have := inR_iff.1 h1
      have := h.clock
      exact ⟨⟨h.wells, h.rising, h.take, h.heat, ⟨by simp only; omega, by simp only; omega⟩⟩, rfl, rfl, rfl, by simp only; omega⟩
  · simp at h0
theorem may_shake {l : List Sit} {s : Sta} {a : Acn} (h : May l s) (h0 : (shakeA s a).2 = 0) :
    May l (shakeA s a).1 ∧ (shakeA s a).1.wells = s.wells ∧ (shakeA s a).1.held = s.held ∧ (shakeA s a).1.used = s.used ∧ s.clock ≤ (shakeA s a).1.clock := by
  unfold shakeA at h0 ⊢
  split at h0
  · rename_i h1
    rw [if_pos h1]
    exact may_pass h h0
  · simp at h0

/-- All liquid of a state. -/
def liqS (s : Sta) : Int := liq s.wells + tot s.held
/-- What an action leaves, if it has no error. -/
structure Left (l : List Sit) (s : Sta) (a : Acn) (t : Sta) : Prop where
  may : May l t
  fill : a.kind = 5 → liqS t = liqS s + a.vol
  drop : a.kind = 7 → liqS t = liqS s - tot s.held ∧ t.tip = false
  rest : a.kind ≠ 5 → a.kind ≠ 7 → liqS t = liqS s
  used : s.used ≤ t.used
  clock : s.clock ≤ t.clock
theorem left_do {l : List Sit} {s : Sta} {a : Acn} (hd : dchk l = 0) (h : May l s) (h0 : (doA l s a).2 = 0) : Left l s a (doA l s a).1 := by
  unfold doA at h0 ⊢
  split at h0
  · rename_i k
    rw [if_pos k]
    obtain ⟨x1, x2, x3, x4, x5⟩ := may_fill h h0
    exact ⟨x1, fun _ => by rw [liqS, liqS, x2, x3]; omega, fun e => by omega, fun e => absurd k e, by omega, by omega⟩
  · rename_i k5
    rw [if_neg k5]
    split at h0
    · rename_i k
      rw [if_pos k]
      obtain ⟨x1, x2, x3, x4, x5⟩ := may_tip hd h h0
      exact ⟨x1, fun e => absurd e k5, fun e => by omega, fun _ _ => by rw [liqS, liqS, x2, x3], by omega, by omega⟩
    · rename_i k6
      rw [if_neg k6]
      split at h0
      · rename_i k
        rw [if_pos k]
        obtain ⟨x1, x2, x3, x4, x5, x6⟩ := may_drop h h0
        exact ⟨x1, fun e => absurd e k5, fun _ => ⟨by rw [liqS, liqS, x2, x3]; simp only [tot]; omega, x6⟩, fun _ e => absurd k e, by omega, by omega⟩
      · rename_i k7
        rw [if_neg k7]
        split at h0
        · rename_i k
          rw [if_pos k]
          obtain ⟨x1, x2, x4, x5⟩ := may_draw hd h h0
          exact ⟨x1, fun e => absurd e k5, fun e => absurd e k7, fun _ _ => x2, by omega, by omega⟩
        · rename_i k8
          rw [if_neg k8]
          split at h0
          · rename_i k
            rw [if_pos k]
            obtain ⟨x1, x2, x4, x5⟩ := may_put h h0
            exact ⟨x1, fun e => absurd e k5, fun e => absurd e k7, fun _ _ => x2, by omega, by omega⟩
          · rename_i k9
            rw [if_neg k9]
            split at h0
            · rename_i k
              rw [if_pos k]
              obtain ⟨x1, x2, x3, x4, x5⟩ := may_warm h h0
              exact ⟨x1, fun e => absurd e k5, fun e => absurd e k7, fun _ _ => by rw [liqS, liqS, x2, x3], by omega, by omega⟩
            · rename_i k11
              rw [if_neg k11]
              split at h0
              · rename_i k
                rw [if_pos k]
                obtain ⟨x1, x2, x3, x4, x5⟩ := may_pass h h0
                exact ⟨x1, fun e => absurd e k5, fun e => absurd e k7, fun _ _ => by rw [liqS, liqS, x2, x3], by omega, by omega⟩
              · rename_i k12
                rw [if_neg k12]
                split at h0
                · rename_i k
                  rw [if_pos k]
                  obtain ⟨x1, x2, x3, x4, x5⟩ := may_shake h h0
                  exact ⟨x1, fun e => absurd e k5, fun e => absurd e k7, fun _ _ => by rw [liqS, liqS, x2, x3], by omega, by omega⟩
                · rename_i k13
                  rw [if_neg k13]
                  split at h0
                  · rename_i k
                    rw [if_pos k]
                    obtain ⟨x1, x2, x3, x4, x5⟩ := may_pass h h0
                    exact ⟨x1, fun e => absurd e k5, fun e => absurd e k7, fun _ _ => by rw [liqS, liqS, x2, x3], by omega, by omega⟩
                  · simp at h0
theorem may_sta0 (l : List Sit) : May l sta0 := by
  refine ⟨fun x hx => (by simp at hx), List.Pairwise.nil, ?_, by simp, by simp⟩
  unfold mayTake
  simp [inR]
/-! ### how many wells there are -/
def keyP (p : Plc) : Int := (p.1 - 1) * 384 + p.2.2 * 16 + p.2.1
theorem rising_length {l : List Int} (h : l.Pairwise (· < ·)) {m n : Int} (hm : ∀ x ∈ l, m ≤ x ∧ x < n) (hmn : m ≤ n) : (l.length : Int) + m ≤ n := by
  induction l generalizing m with
  | nil => simpa using hmn
  | cons x r ih =>
    obtain ⟨h1, h2⟩ := List.pairwise_cons.1 h
    have hx := hm x (by simp)
    have := ih h2 (m := x + 1) (fun y hy => ⟨by have := h1 y hy; omega, (hm y (by simp [hy])).2⟩) (by omega)
    simp only [List.length_cons]
    omega
theorem wellM_place {l : List Sit} (hd : dchk l = 0) {p : Plc} (h : (wellM l p).2 = 0) : (1 ≤ p.1 ∧ p.1 ≤ 12) ∧ (0 ≤ p.2.1 ∧ p.2.1 < 16) ∧ 0 ≤ p.2.2 ∧ p.2.2 < 24 := by
  unfold wellM at h
  split at h
  · rename_i a ha
    obtain ⟨s, hs, e, rfl, hsp⟩ := wareOf_in ha
    obtain ⟨hc, h1, h2⟩ := dchk_ware hd hs
    have hr := inR_iff.1 (chk_in hc).2.2.1
    have hcl := inR_iff.1 (chk_in hc).2.2.2.1
    have := spotOk_iff.1 hsp
    omega
  · simp at h
theorem wells_few {l : List Sit} (hd : dchk l = 0) {s : Sta} (h : May l s) : s.wells.length ≤ 4608 := by
  have hp : (s.wells.map fun x => keyP x.1).Pairwise (· < ·) := by
    rw [List.pairwise_map]
    refine List.Pairwise.imp_of_mem ?_ h.rising
    intro x y hx hy hlt
    have h1 := wellM_place hd (h.wells x hx).1
    have h2 := wellM_place hd (h.wells y hy).1
    rw [plt_iff] at hlt
    unfold keyP
    omega
  have := rising_length hp (m := 0) (n := 4608) (fun k hk => by
    obtain ⟨x, hx, rfl⟩ := List.mem_map.1 hk
    have h1 := wellM_place hd (h.wells x hx).1
    unfold keyP
    omega) (by decide)
  simp only [List.length_map] at this
  omega
theorem liq_in {l : List Sit} {ws : Wls} (h : ∀ x ∈ ws, (wellM l x.1).2 = 0 ∧ x.2 ≠ [] ∧ mayHold x.2 (wellM l x.1).1 = true) : 0 ≤ liq ws ∧ liq ws ≤ 1000000000 * ws.length := by
  induction ws with
  | nil => simp [liq]
  | cons x r ih =>
    have i := ih fun y hy => h y (by simp [hy])
    obtain ⟨h1, _, h3⟩ := h x (by simp)
    obtain ⟨h4, h5, h6⟩ := mayHold_iff.1 h3
    have := tot_nonneg (fref_in h4).2.1.nn
    have := (fref_in h4).2.2
    simp only [liq, List.length_cons]
    omega
end Go.Proofs.YtgbnjgenopdmfaaGreat

/- Regions that draw their order, with stores. -/
namespace Go.Proofs.YtgbnjgenopdmfaaGreat
open Go.RowKit
def seqLB (ops : Array Oper) (k late : Nat) : Bool := (List.range ops.size).all fun i => decide (i < k) || (List.range i).all fun j => (decide (i = k) && decide (j = late)) || coversB ops ops.size i j
/-- The slots that a plan fills, but for one row. -/
def AllPB (V : Nat → Value → World → Prop) (f : Nat → Value) (w : World) (late : Nat) : Nat → Plan → Prop
  | _, [] => True
  | n, p :: q => (n ≠ late → V p.1 (f p.1) w) ∧ AllPB V f w late (n + 1) q

def backE : Nat → List Oper → Bool
  | _, [] => true
  | k, o :: l => o.after.all (fun e => !Region.binds .any e || decide (e.on < k)) && backE (k + 1) l
theorem backE_at : ∀ {l : List Oper} {k : Nat}, backE k l = true → ∀ {i : Nat} {o : Oper}, l[i]? = some o → ∀ e ∈ o.after, Region.binds .any e = true → e.on < k + i
  | [], _, _, _, _, h => by simp at h
  | o :: l, k, h, 0, o', ho => by
    simp only [backE, Bool.and_eq_true] at h
    simp at ho; subst ho
    intro e he hbi
    have := Array.all_eq_true'.1 h.1 e he
    rw [hbi] at this
    simpa using this
  | o :: l, k, h, i + 1, o', ho => by
    simp only [backE, Bool.and_eq_true] at h
    intro e he hbi
    have := backE_at h.2 (i := i) (by simpa using ho) e he hbi
    omega
theorem all_listedE {ops : Array Oper} {listed : Array Bool} (hback : backE 0 ops.toList = true) (hsz : listed.size = ops.size) (hr : Region.ready .any ops listed = []) : ∀ i, i < ops.size → listed[i]? = some true := by
  intro i
  induction i using Nat.strongRecOn with
  | ind i ih =>
    intro hi
    cases hl : listed[i]? with
    | none => rw [Array.getElem?_eq_none_iff] at hl; omega
    | some b =>
      cases b with
      | true => rfl
      | false =>
        exfalso
        have hm : i ∈ Region.ready .any ops listed := by
          simp only [Region.ready, List.mem_filter, List.mem_range, Bool.and_eq_true]
          refine ⟨hi, by simp [Array.getD_eq_getD_getElem?, hl], ?_⟩
          have ho : ops[i]? = some ops[i] := by simp [hi]
          rw [ho]
          simp only [Option.map_some, Option.getD_some]
          rw [Array.all_eq_true']
          intro e he
          cases hbi : Region.binds .any e with
          | false => simp
          | true =>
            have h1 := backE_at hback (i := i) (o := ops[i]) (by simp) e he hbi
            have h2 := ih e.on (by omega) (by omega)
            simp [Array.getD_eq_getD_getElem?, h2]
        rw [hr] at hm
        simp at hm

section
variable {P : Program} {Q : Exit → Act → World → Prop} {a : Act} {m : List Bool} {V : Nat → Value → World → Prop} {w0 : World} {ops : Array Oper} {plan : Plan} {k late : Nat}
theorem allPB_of {f : Nat → Value} {w : World} : ∀ {l : List Oper} {q : Plan} {n s : Nat}, planAll ops m n l q = true → (∀ (i : Nat) (o : Oper) (d : Nat), s + i ≠ late → l[i]? = some o → o.dst = some d → V d (f d) w) → AllPB V f w late s q
  | [], [], _, _, _, _ => trivial
  | [], _ :: _, _, _, h, _ => by simp [planAll] at h
  | _ :: _, [], _, _, h, _ => by simp [planAll] at h
  | o :: l, p :: q, n, s, h, hV => by
    simp only [planAll, Bool.and_eq_true] at h
    have hd : o.dst = some p.1 := by
      have := h.1
      simp only [planOne, Bool.and_eq_true] at this
      simpa using this.1.1.1.1
    exact ⟨fun hs => hV 0 o p.1 (by simpa using hs) (by simp) hd, allPB_of h.2 fun i o' d hs ho hd => hV (i + 1) o' d (by omega) (by simpa using ho) hd⟩

/-- Where the region stands. -/
def StL (P : Program) (Q : Exit → Act → World → Prop) (a : Act) (m : List Bool) (V : Nat → Value → World → Prop) (w0 : World) (ops : Array Oper) (k late : Nat) (listed : Array Bool) (a' : Act) (w : World) : Prop :=
  Closed ops listed ∧ (((∀ j, k ≤ j → listed[j]? ≠ some true) ∧ Inv a m V w0 ops listed a' w) ∨ (∃ i, k ≤ i ∧ (∀ j, j < ops.size → (listed[j]? = some true ↔ j < i)) ∧ wpList P ops Q (ops.toList.drop i) a' w) ∨
    ((∀ j, j < ops.size → (listed[j]? = some true ↔ j < k + 1 ∧ j ≠ late)) ∧ ∃ o, ops[late]? = some o ∧ wpList P ops Q (o :: ops.toList.drop (k + 1)) a' w))

theorem wpList_op {o : Oper} {i : Nat} {rest : List Oper} {K : Act → World → Prop} {a' : Act} {w : World} (ho : ops[i]? = some o) (hw : wpList P ops Q (o :: rest) a' w) (h : ∀ a2 w2, wpList P ops Q rest a2 w2 → K a2 w2) : wpOp P ops Q i K a' w := by
  unfold wpList at hw
  unfold wpOp
  rw [ho]
  simp only
  split
  · rename_i hwn
    rw [if_pos hwn] at hw
    exact hw.imp (Oper.wp_mono h) id
  · rename_i hwn
    rw [if_neg hwn] at hw
    exact h _ _ hw

theorem seqL_any (hmono : ∀ d v w w', V d v w → Below w.heap.size w w' → V d v w') (hback : backE 0 ops.toList = true) (hnd : nodupB (plan.map (·.1)) = true) (hall : planAll ops m a.tmps.size (ops.toList.take k) plan = true) (hseq : seqLB ops k late = true) (hk : k < ops.size) (hlk : late < k)
    (hob : Obls P Q a m V w0 (ops.toList.take k) plan) (hsuf : ∀ f w, Below w0.heap.size w0 w → AllP V f w plan → wpList P ops Q (ops.toList.drop k) (over a m f) w)
    (hsufL : ∀ f w ok ol, ops[k]? = some ok → ops[late]? = some ol → Below w0.heap.size w0 w → AllPB V f w late 0 plan → wpList P ops Q (ok :: ol :: ops.toList.drop (k + 1)) (over a m f) w) :
    ∀ (fuel : Nat) (listed : Array Bool) (a' : Act) (w : World), listed.size = ops.size → listed.toList.count false ≤ fuel → StL P Q a m V w0 ops k late listed a' w → wpAny P .any ops Q fuel listed a' w := by
  have hcov : ∀ {listed : Array Bool}, Closed ops listed → ∀ {i : Nat}, i ∈ Region.ready .any ops listed → k ≤ i → ∀ j, j < i → (i = k → j ≠ late) → listed[j]? = some true := by
    intro listed hc i hi hki j hj hnl
    obtain ⟨hlt, _, hp⟩ := ready_pre hi
    unfold seqLB at hseq
    have h1 := List.all_eq_true.1 hseq i (by simpa using hlt)
    rw [Bool.or_eq_true] at h1
    rcases h1 with h1 | h1
    · simp at h1; omega
    · have h2 := List.all_eq_true.1 h1 j (by simpa using hj)
      rw [Bool.or_eq_true] at h2
      rcases h2 with h2 | h2
      · simp at h2; exact absurd h2.2 (hnl h2.1)
      · exact covers_listed hc _ i j hp h2
  have hpre : ∀ {listed : Array Bool} {a' : Act} {w : World}, Inv a m V w0 ops listed a' w → ∃ f, a' = over a m f ∧ Below w0.heap.size w0 w ∧ ((∀ j, j < k → listed[j]? = some true) → AllP V f w plan) ∧ ((∀ j, j < k → j ≠ late → listed[j]? = some true) → AllPB V f w late 0 plan) := by
    rintro listed a' w ⟨f, rfl, hb, hV⟩
    have key : ∀ (i : Nat) (o : Oper) (d : Nat), (ops.toList.take k)[i]? = some o → o.dst = some d → listed[i]? = some true → V d (f d) w := fun i o d ho hd hl => by
      have hik : i < k := by
        by_cases h : i < k
        · exact h
        · rw [List.getElem?_take, if_neg h] at ho; cases ho
      rw [List.getElem?_take, if_pos hik] at ho
      exact hV i o d (by simpa using ho) hd hl
    have klt : ∀ (i : Nat) (o : Oper), (ops.toList.take k)[i]? = some o → i < k := fun i o ho => by
      by_cases h : i < k
      · exact h
      · rw [List.getElem?_take, if_neg h] at ho; cases ho
    exact ⟨f, rfl, hb, fun hl => allP_of hall fun i o d ho hd => key i o d ho hd (hl i (klt i o ho)), fun hl => allPB_of (s := 0) hall fun i o d hs ho hd => key i o d ho hd (hl i (klt i o ho) (by omega))⟩
  have hend : ∀ (listed : Array Bool) (a' : Act) (w : World), listed.size = ops.size → StL P Q a m V w0 ops k late listed a' w → Region.ready .any ops listed = [] → Q .normal a' w := by
    rintro listed a' w hsz ⟨_, h⟩ hr
    have hal := all_listedE hback hsz hr
    rcases h with ⟨hs, _⟩ | ⟨i, hki, hl, hw⟩ | ⟨hl, _⟩
    · exact absurd (hal k hk) (hs k (Nat.le_refl _))
    · have : ops.size ≤ i := by
        by_cases h : i < ops.size
        · have := (hl i h).1 (hal i h); omega
        · omega
      rw [List.drop_eq_nil_of_le (by simpa using this)] at hw
      exact hw
    · exact absurd rfl ((hl late (by omega)).1 (hal late (by omega))).2
  have hd : ∀ i (hi : i < ops.size), ops.toList.drop i = ops[i] :: ops.toList.drop (i + 1) := fun i hi => by
    rw [List.drop_eq_getElem_cons (by simpa using hi)]; simp
  have hset : ∀ {listed : Array Bool} {i j : Nat}, listed.size = ops.size → i < ops.size → ((listed.setIfInBounds i true)[j]? = some true ↔ i = j ∨ listed[j]? = some true) := by
    intro listed i j hsz hi
    rw [Array.getElem?_setIfInBounds]
    by_cases e : i = j
    · subst e; rw [if_pos rfl, if_pos (by omega)]; simp
    · rw [if_neg e]; simp [e]
  intro fuel
  induction fuel with
  | zero =>
    intro listed a' w hsz hc hI
    have hr : Region.ready .any ops listed = [] := by
      rw [List.eq_nil_iff_forall_not_mem]
      intro i hi
      obtain ⟨hlt, h1, _⟩ := ready_pre hi
      have h0 : listed.toList.count false = 0 := by omega
      rw [List.count_eq_zero] at h0
      have hlt2 : i < listed.size := by omega
      simp only [Array.getD_eq_getD_getElem?, Array.getElem?_eq_getElem hlt2, Option.getD_some] at h1
      exact h0 (by rw [← h1]; simp)
    exact ⟨hr, hend listed a' w hsz hI hr⟩
  | succ fuel ih =>
    intro listed a' w hsz hc hI
    refine ⟨hend listed a' w hsz hI, fun i hi => ?_⟩
    have hrp := ready_pre hi
    have hlt2 : i < listed.size := by omega
    have h1 := hrp.2.1
    simp only [Array.getD_eq_getD_getElem?, Array.getElem?_eq_getElem hlt2, Option.getD_some] at h1
    have hcount : (listed.setIfInBounds i true).toList.count false ≤ fuel := by
      have hl : i < listed.toList.length := by simpa using hlt2
      have h2 : listed.toList[i] = false := by simpa using h1
      rw [Array.toList_setIfInBounds, List.count_set hl, h2]
      have hp : 0 < listed.toList.count false := List.count_pos_iff.2 (by rw [← h2]; exact List.getElem_mem _)
      rw [if_pos (by rfl), if_neg (by decide)]
      omega
    have hnl : listed[i]? ≠ some true := by rw [Array.getElem?_eq_getElem hlt2, h1]; simp
    refine wpOp_mono (K := fun a2 w2 => StL P Q a m V w0 ops k late (listed.setIfInBounds i true) a2 w2) (fun a2 w2 h2 => ih _ _ _ (by simpa using hsz) hcount h2) ?_
    obtain ⟨hcl, hS⟩ := hI
    have hcl2 := closed_next hcl hi
    have hoi : ops[i]? = some ops[i] := by simp [hrp.1]
    rcases hS with ⟨hsu, hI⟩ | ⟨i0, hki, hl, hw⟩ | ⟨hl, o, ho, hw⟩
    · by_cases hik : i < k
      · refine wpOp_mono (fun a2 w2 h2 => ⟨hcl2, .inl ⟨fun j hj => ?_, h2⟩⟩) (seq_step hmono hnd hall hob hik hsu hi hI)
        rw [Array.getElem?_setIfInBounds, if_neg (by omega)]
        exact hsu j hj
      · have he : i = k := by
          by_cases h : i = k
          · exact h
          · exact absurd (hcov hcl hi (by omega) k (by omega) (fun e => absurd e h)) (hsu k (Nat.le_refl _))
        subst he
        have hlow : ∀ j, j < i → j ≠ late → listed[j]? = some true := fun j hj hn => hcov hcl hi (Nat.le_refl _) j hj (fun _ => hn)
        obtain ⟨f, rfl, hb, hA, hB⟩ := hpre hI
        have hsu2 : ∀ j, listed[j]? = some true → j < i := fun j h => by
          by_cases h2 : j < i
          · exact h2
          · exact absurd h (hsu j (by omega))
        by_cases hla : listed[late]? = some true
        · have hall2 : ∀ j, j < i → listed[j]? = some true := fun j hj => by
            by_cases e : j = late
            · rw [e]; exact hla
            · exact hlow j hj e
          have hw := hsuf f w hb (hA hall2)
          rw [hd i hrp.1] at hw
          refine wpList_op hoi hw fun a2 w2 h2 => ⟨hcl2, .inr (.inl ⟨i + 1, by omega, fun j hj => ?_, h2⟩)⟩
          rw [hset hsz hrp.1]
          constructor
          · rintro (h | h)
            · omega
            · have := hsu2 j h; omega
          · intro h
            by_cases e : i = j
            · exact .inl e
            · exact .inr (hall2 j (by omega))
        · obtain ⟨ol, hol⟩ : ∃ ol, ops[late]? = some ol := ⟨ops[late]'(by omega), by simp⟩
          have hw := hsufL f w _ ol hoi hol hb (hB hlow)
          refine wpList_op hoi hw fun a2 w2 h2 => ⟨hcl2, .inr (.inr ⟨fun j hj => ?_, ol, hol, h2⟩)⟩
          rw [hset hsz hrp.1]
          constructor
          · rintro (h | h)
            · exact ⟨by omega, by omega⟩
            · refine ⟨by have := hsu2 j h; omega, fun e => hla (by rw [← e]; exact h)⟩
          · rintro ⟨h, hn⟩
            by_cases e : i = j
            · exact .inl e
            · exact .inr (hlow j (by omega) hn)
    · have hge : i0 ≤ i := by
        by_cases h : i < i0
        · exact absurd ((hl i hrp.1).2 h) hnl
        · omega
      have he : i = i0 := by
        by_cases h : i = i0
        · exact h
        · have h3 := hcov hcl hi (by omega) i0 (by omega) (fun e => by omega)
          have := (hl i0 (by omega)).1 h3
          omega
      subst he
      rw [hd i hrp.1] at hw
      refine wpList_op hoi hw fun a2 w2 h2 => ⟨hcl2, .inr (.inl ⟨i + 1, by omega, fun j hj => ?_, h2⟩)⟩
      rw [hset hsz hrp.1, hl j hj]
      omega
    · have he : i = late := by
        by_cases h : i = late
        · exact h
        · have hgt : k < i := by
            by_cases h2 : i < k + 1
            · exact absurd ((hl i hrp.1).2 ⟨h2, h⟩) hnl
            · omega
          have h3 := hcov hcl hi (by omega) late (by omega) (fun e => by omega)
          exact absurd rfl ((hl late (by omega)).1 h3).2
      subst he
      refine wpList_op ho hw fun a2 w2 h2 => ⟨hcl2, .inr (.inl ⟨k + 1, by omega, fun j hj => ?_, h2⟩)⟩
      rw [hset hsz hrp.1, hl j hj]
      constructor
      · rintro (h | h)
        · omega
        · exact h.1
      · intro h
        by_cases e : i = j
        · exact .inl e
        · exact .inr ⟨h, fun e2 => e e2.symm⟩

theorem region_seqL {id : Nat} (k late : Nat) (m : List Bool) (plan : Plan) (V : Nat → Value → World → Prop) (hmix : P.follows .mixedOrders = true) (hback : backE 0 ops.toList = true) (hnd : nodupB (plan.map (·.1)) = true) (hall : planAll ops m a.tmps.size (ops.toList.take k) plan = true)
    (hseq : seqLB ops k late = true) (hk : k < ops.size) (hlk : late < k) (hmono : ∀ d v w w', V d v w → Below w.heap.size w w' → V d v w') (hob : Obls P Q a m V w0 (ops.toList.take k) plan)
    (hsuf : ∀ f w, Below w0.heap.size w0 w → AllP V f w plan → wpList P ops Q (ops.toList.drop k) (over a m f) w)
    (hsufL : ∀ f w ok ol, ops[k]? = some ok → ops[late]? = some ol → Below w0.heap.size w0 w → AllPB V f w late 0 plan → wpList P ops Q (ok :: ol :: ops.toList.drop (k + 1)) (over a m f) w) : (Code.region id ops true).wp P Q a w0 := by
  refine wp_region_any hmix (seqL_any hmono hback hnd hall hseq hk hlk hob hsuf hsufL _ _ _ _ (by simp) (by simp) ⟨?_, .inl ⟨?_, fun k => (a.tmps.toList[k]?).getD undef, (over_start a m).symm, ⟨rfl, rfl, rfl, Nat.le_refl _, fun _ _ => rfl⟩, ?_⟩⟩)
  · intro i o _ h
    simp [Array.getElem?_replicate] at h
  · intro j _ h
    simp [Array.getElem?_replicate] at h
  · intro i o d _ _ h
    simp [Array.getElem?_replicate] at h
end
end Go.Proofs.YtgbnjgenopdmfaaGreat
