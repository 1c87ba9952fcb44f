/- Regions that draw their order, with stores. -/
import Derived.Test.YtjpjkkjklghpgaaSeq
namespace Go.Proofs.Ytjpjkkjklghpgaa
open Go.RowKit


def seqLB (ops : Array Oper) (k late : Nat) : Bool := (List.range ops.size).all fun i => decide (i < k) || (List.range i).all fun j => (decide (i = k) && decide (j = late)) || coversB ops ops.size i j
/-- The slots that a plan fills, but for one row. -/
def AllPB (V : Nat → Value → World → Prop) (f : Nat → Value) (w : World) (late : Nat) : Nat → Plan → Prop
  | _, [] => True
  | n, p :: q => (n ≠ late → V p.1 (f p.1) w) ∧ AllPB V f w late (n + 1) q

def backE : Nat → List Oper → Bool
  | _, [] => true
  | k, o :: l => o.after.all (fun e => !Region.binds .any e || decide (e.on < k)) && backE (k + 1) l
theorem backE_at : ∀ {l : List Oper} {k : Nat}, backE k l = true → ∀ {i : Nat} {o : Oper}, l[i]? = some o → ∀ e ∈ o.after, Region.binds .any e = true → e.on < k + i
  | [], _, _, _, _, h => by simp at h
  | o :: l, k, h, 0, o', ho => by
    simp only [backE, Bool.and_eq_true] at h
    simp at ho; subst ho
    intro e he hbi
    have := Array.all_eq_true'.1 h.1 e he
    rw [hbi] at this
    simpa using this
  | o :: l, k, h, i + 1, o', ho => by
    simp only [backE, Bool.and_eq_true] at h
    intro e he hbi
    have := backE_at h.2 (i := i) (by simpa using ho) e he hbi
    omega
theorem all_listedE {ops : Array Oper} {listed : Array Bool} (hback : backE 0 ops.toList = true) (hsz : listed.size = ops.size) (hr : Region.ready .any ops listed = []) : ∀ i, i < ops.size → listed[i]? = some true := by
  intro i
  induction i using Nat.strongRecOn with
  | ind i ih =>
    intro hi
    cases hl : listed[i]? with
    | none => rw [Array.getElem?_eq_none_iff] at hl; omega
    | some b =>
      cases b with
      | true => rfl
      | false =>
        exfalso
        have hm : i ∈ Region.ready .any ops listed := by
          simp only [Region.ready, List.mem_filter, List.mem_range, Bool.and_eq_true]
          refine ⟨hi, by simp [Array.getD_eq_getD_getElem?, hl], ?_⟩
          have ho : ops[i]? = some ops[i] := by simp [hi]
          rw [ho]
          simp only [Option.map_some, Option.getD_some]
          rw [Array.all_eq_true']
          intro e he
          cases hbi : Region.binds .any e with
          | false => simp
          | true =>
            have h1 := backE_at hback (i := i) (o := ops[i]) (by simp) e he hbi
            have h2 := ih e.on (by omega) (by omega)
            simp [Array.getD_eq_getD_getElem?, h2]
        rw [hr] at hm
        simp at hm

section
variable {P : Program} {Q : Exit → Act → World → Prop} {a : Act} {m : List Bool} {V : Nat → Value → World → Prop} {w0 : World} {ops : Array Oper} {plan : Plan} {k late : Nat}

theorem allPB_of {f : Nat → Value} {w : World} : ∀ {l : List Oper} {q : Plan} {n s : Nat}, planAll ops m n l q = true → (∀ (i : Nat) (o : Oper) (d : Nat), s + i ≠ late → l[i]? = some o → o.dst = some d → V d (f d) w) → AllPB V f w late s q
  | [], [], _, _, _, _ => trivial
  | [], _ :: _, _, _, h, _ => by simp [planAll] at h
  | _ :: _, [], _, _, h, _ => by simp [planAll] at h
  | o :: l, p :: q, n, s, h, hV => by
    simp only [planAll, Bool.and_eq_true] at h
    have hd : o.dst = some p.1 := by
      have := h.1
      simp only [planOne, Bool.and_eq_true] at this
      simpa using this.1.1.1.1
    exact ⟨fun hs => hV 0 o p.1 (by simpa using hs) (by simp) hd, allPB_of h.2 fun i o' d hs ho hd => hV (i + 1) o' d (by omega) (by simpa using ho) hd⟩

/-- Where the region stands. -/
def StL (P : Program) (Q : Exit → Act → World → Prop) (a : Act) (m : List Bool) (V : Nat → Value → World → Prop) (w0 : World) (ops : Array Oper) (k late : Nat) (listed : Array Bool) (a' : Act) (w : World) : Prop :=
  Closed ops listed ∧ (((∀ j, k ≤ j → listed[j]? ≠ some true) ∧ Inv a m V w0 ops listed a' w) ∨ (∃ i, k ≤ i ∧ (∀ j, j < ops.size → (listed[j]? = some true ↔ j < i)) ∧ wpList P ops Q (ops.toList.drop i) a' w) ∨
    ((∀ j, j < ops.size → (listed[j]? = some true ↔ j < k + 1 ∧ j ≠ late)) ∧ ∃ o, ops[late]? = some o ∧ wpList P ops Q (o :: ops.toList.drop (k + 1)) a' w))

theorem wpList_op {o : Oper} {i : Nat} {rest : List Oper} {K : Act → World → Prop} {a' : Act} {w : World} (ho : ops[i]? = some o) (hw : wpList P ops Q (o :: rest) a' w) (h : ∀ a2 w2, wpList P ops Q rest a2 w2 → K a2 w2) : wpOp P ops Q i K a' w := by
  unfold wpList at hw
  unfold wpOp
  rw [ho]
  simp only
  split
  · rename_i hwn
    rw [if_pos hwn] at hw
    exact hw.imp (Oper.wp_mono h) id
  · rename_i hwn
    rw [if_neg hwn] at hw
    exact h _ _ hw

theorem seqL_any (hmono : ∀ d v w w', V d v w → Below w.heap.size w w' → V d v w') (hback : backE 0 ops.toList = true) (hnd : nodupB (plan.map (·.1)) = true) (hall : planAll ops m a.tmps.size (ops.toList.take k) plan = true) (hseq : seqLB ops k late = true) (hk : k < ops.size) (hlk : late < k)
    (hob : Obls P Q a m V w0 (ops.toList.take k) plan) (hsuf : ∀ f w, Below w0.heap.size w0 w → AllP V f w plan → wpList P ops Q (ops.toList.drop k) (over a m f) w)
    (hsufL : ∀ f w ok ol, ops[k]? = some ok → ops[late]? = some ol → Below w0.heap.size w0 w → AllPB V f w late 0 plan → wpList P ops Q (ok :: ol :: ops.toList.drop (k + 1)) (over a m f) w) :
    ∀ (fuel : Nat) (listed : Array Bool) (a' : Act) (w : World), listed.size = ops.size → listed.toList.count false ≤ fuel → StL P Q a m V w0 ops k late listed a' w → wpAny P .any ops Q fuel listed a' w := by
  have hcov : ∀ {listed : Array Bool}, Closed ops listed → ∀ {i : Nat}, i ∈ Region.ready .any ops listed → k ≤ i → ∀ j, j < i → (i = k → j ≠ late) → listed[j]? = some true := by
    intro listed hc i hi hki j hj hnl
    obtain ⟨hlt, _, hp⟩ := ready_pre hi
    unfold seqLB at hseq
    have h1 := List.all_eq_true.1 hseq i (by simpa using hlt)
    rw [Bool.or_eq_true] at h1
    rcases h1 with h1 | h1
    · simp at h1; omega
    · have h2 := List.all_eq_true.1 h1 j (by simpa using hj)
      rw [Bool.or_eq_true] at h2
      rcases h2 with h2 | h2
      · simp at h2; exact absurd h2.2 (hnl h2.1)
      · exact covers_listed hc _ i j hp h2
  have hpre : ∀ {listed : Array Bool} {a' : Act} {w : World}, Inv a m V w0 ops listed a' w → ∃ f, a' = over a m f ∧ Below w0.heap.size w0 w ∧ ((∀ j, j < k → listed[j]? = some true) → AllP V f w plan) ∧ ((∀ j, j < k → j ≠ late → listed[j]? = some true) → AllPB V f w late 0 plan) := by
    rintro listed a' w ⟨f, rfl, hb, hV⟩
    have key : ∀ (i : Nat) (o : Oper) (d : Nat), (ops.toList.take k)[i]? = some o → o.dst = some d → listed[i]? = some true → V d (f d) w := fun i o d ho hd hl => by
      have hik : i < k := by
        by_cases h : i < k
        · exact h
        · rw [List.getElem?_take, if_neg h] at ho; cases ho
      rw [List.getElem?_take, if_pos hik] at ho
      exact hV i o d (by simpa using ho) hd hl
    have klt : ∀ (i : Nat) (o : Oper), (ops.toList.take k)[i]? = some o → i < k := fun i o ho => by
      by_cases h : i < k
      · exact h
      · rw [List.getElem?_take, if_neg h] at ho; cases ho
    exact ⟨f, rfl, hb, fun hl => allP_of hall fun i o d ho hd => key i o d ho hd (hl i (klt i o ho)), fun hl => allPB_of (s := 0) hall fun i o d hs ho hd => key i o d ho hd (hl i (klt i o ho) (by omega))⟩
  have hend : ∀ (listed : Array Bool) (a' : Act) (w : World), listed.size = ops.size → StL P Q a m V w0 ops k late listed a' w → Region.ready .any ops listed = [] → Q .normal a' w := by
    rintro listed a' w hsz ⟨_, h⟩ hr
    have hal := all_listedE hback hsz hr
    rcases h with ⟨hs, _⟩ | ⟨i, hki, hl, hw⟩ | ⟨hl, _⟩
    · exact absurd (hal k hk) (hs k (Nat.le_refl _))
    · have : ops.size ≤ i := by
        by_cases h : i < ops.size
        · have := (hl i h).1 (hal i h); omega
        · omega
      rw [List.drop_eq_nil_of_le (by simpa using this)] at hw
      exact hw
    · exact absurd rfl ((hl late (by omega)).1 (hal late (by omega))).2
  have hd : ∀ i (hi : i < ops.size), ops.toList.drop i = ops[i] :: ops.toList.drop (i + 1) := fun i hi => by
    rw [List.drop_eq_getElem_cons (by simpa using hi)]; simp
  have hset : ∀ {listed : Array Bool} {i j : Nat}, listed.size = ops.size → i < ops.size → ((listed.setIfInBounds i true)[j]? = some true ↔ i = j ∨ listed[j]? = some true) := by
    intro listed i j hsz hi
    rw [Array.getElem?_setIfInBounds]
    by_cases e : i = j
    · subst e; rw [if_pos rfl, if_pos (by omega)]; simp
    · rw [if_neg e]; simp [e]
  intro fuel
  induction fuel with
  | zero =>
    intro listed a' w hsz hc hI
    have hr : Region.ready .any ops listed = [] := by
      rw [List.eq_nil_iff_forall_not_mem]
      intro i hi
      obtain ⟨hlt, h1, _⟩ := ready_pre hi
      have h0 : listed.toList.count false = 0 := by omega
      rw [List.count_eq_zero] at h0
      have hlt2 : i < listed.size := by omega
      simp only [Array.getD_eq_getD_getElem?, Array.getElem?_eq_getElem hlt2, Option.getD_some] at h1
      exact h0 (by rw [← h1]; simp)
    exact ⟨hr, hend listed a' w hsz hI hr⟩
  | succ fuel ih =>
    intro listed a' w hsz hc hI
    refine ⟨hend listed a' w hsz hI, fun i hi => ?_⟩
    have hrp := ready_pre hi
    have hlt2 : i < listed.size := by omega
    have h1 := hrp.2.1
    simp only [Array.getD_eq_getD_getElem?, Array.getElem?_eq_getElem hlt2, Option.getD_some] at h1
    have hcount : (listed.setIfInBounds i true).toList.count false ≤ fuel := by
      have hl : i < listed.toList.length := by simpa using hlt2
      have h2 : listed.toList[i] = false := by simpa using h1
      rw [Array.toList_setIfInBounds, List.count_set hl, h2]
      have hp : 0 < listed.toList.count false := List.count_pos_iff.2 (by rw [← h2]; exact List.getElem_mem _)
      rw [if_pos (by rfl), if_neg (by decide)]
      omega
    have hnl : listed[i]? ≠ some true := by rw [Array.getElem?_eq_getElem hlt2, h1]; simp
    refine wpOp_mono (K := fun a2 w2 => StL P Q a m V w0 ops k late (listed.setIfInBounds i true) a2 w2) (fun a2 w2 h2 => ih _ _ _ (by simpa using hsz) hcount h2) ?_
    obtain ⟨hcl, hS⟩ := hI
    have hcl2 := closed_next hcl hi
    have hoi : ops[i]? = some ops[i] := by simp [hrp.1]
    rcases hS with ⟨hsu, hI⟩ | ⟨i0, hki, hl, hw⟩ | ⟨hl, o, ho, hw⟩
    · by_cases hik : i < k
      · refine wpOp_mono (fun a2 w2 h2 => ⟨hcl2, .inl ⟨fun j hj => ?_, h2⟩⟩) (seq_step hmono hnd hall hob hik hsu hi hI)
        rw [Array.getElem?_setIfInBounds, if_neg (by omega)]
        exact hsu j hj
      · have he : i = k := by
          by_cases h : i = k
          · exact h
          · exact absurd (hcov hcl hi (by omega) k (by omega) (fun e => absurd e h)) (hsu k (Nat.le_refl _))
        subst he
        have hlow : ∀ j, j < i → j ≠ late → listed[j]? = some true := fun j hj hn => hcov hcl hi (Nat.le_refl _) j hj (fun _ => hn)
        obtain ⟨f, rfl, hb, hA, hB⟩ := hpre hI
        have hsu2 : ∀ j, listed[j]? = some true → j < i := fun j h => by
          by_cases h2 : j < i
          · exact h2
          · exact absurd h (hsu j (by omega))
        by_cases hla : listed[late]? = some true
        · have hall2 : ∀ j, j < i → listed[j]? = some true := fun j hj => by
            by_cases e : j = late
            · rw [e]; exact hla
            · exact hlow j hj e
          have hw := hsuf f w hb (hA hall2)
          rw [hd i hrp.1] at hw
          refine wpList_op hoi hw fun a2 w2 h2 => ⟨hcl2, .inr (.inl ⟨i + 1, by omega, fun j hj => ?_, h2⟩)⟩
          rw [hset hsz hrp.1]
          constructor
          · rintro (h | h)
            · omega
            · have := hsu2 j h; omega
          · intro h
            by_cases e : i = j
            · exact .inl e
            · exact .inr (hall2 j (by omega))
        · obtain ⟨ol, hol⟩ : ∃ ol, ops[late]? = some ol := ⟨ops[late]'(by omega), by simp⟩
          have hw := hsufL f w _ ol hoi hol hb (hB hlow)
          refine wpList_op hoi hw fun a2 w2 h2 => ⟨hcl2, .inr (.inr ⟨fun j hj => ?_, ol, hol, h2⟩)⟩
          rw [hset hsz hrp.1]
          constructor
          · rintro (h | h)
            · exact ⟨by omega, by omega⟩
            · refine ⟨by have := hsu2 j h; omega, fun e => hla (by rw [← e]; exact h)⟩
          · rintro ⟨h, hn⟩
            by_cases e : i = j
            · exact .inl e
            · exact .inr (hlow j (by omega) hn)
    · have hge : i0 ≤ i := by
        by_cases h : i < i0
        · exact absurd ((hl i hrp.1).2 h) hnl
        · omega
      have he : i = i0 := by
        by_cases h : i = i0
        · exact h
        · have h3 := hcov hcl hi (by omega) i0 (by omega) (fun e => by omega)
          have := (hl i0 (by omega)).1 h3
          omega
      subst he
      rw [hd i hrp.1] at hw
      refine wpList_op hoi hw fun a2 w2 h2 => ⟨hcl2, .inr (.inl ⟨i + 1, by omega, fun j hj => ?_, h2⟩)⟩
      rw [hset hsz hrp.1, hl j hj]
      omega
    · have he : i = late := by
        by_cases h : i = late
        · exact h
        · have hgt : k < i := by
            by_cases h2 : i < k + 1
            · exact absurd ((hl i hrp.1).2 ⟨h2, h⟩) hnl
            · omega
          have h3 := hcov hcl hi (by omega) late (by omega) (fun e => by omega)
          exact absurd rfl ((hl late (by omega)).1 h3).2
      subst he
      refine wpList_op ho hw fun a2 w2 h2 => ⟨hcl2, .inr (.inl ⟨k + 1, by omega, fun j hj => ?_, h2⟩)⟩
      rw [hset hsz hrp.1, hl j hj]
      constructor
      · rintro (h | h)
        · omega
        · exact h.1
      · intro h
        by_cases e : i = j
        · exact .inl e
        · exact .inr ⟨h, fun e2 => e e2.symm⟩

theorem region_seqL {id : Nat} (k late : Nat) (m : List Bool) (plan : Plan) (V : Nat → Value → World → Prop) (hmix : P.follows .mixedOrders = true) (hback : backE 0 ops.toList = true) (hnd : nodupB (plan.map (·.1)) = true) (hall : planAll ops m a.tmps.size (ops.toList.take k) plan = true)
    (hseq : seqLB ops k late = true) (hk : k < ops.size) (hlk : late < k) (hmono : ∀ d v w w', V d v w → Below w.heap.size w w' → V d v w') (hob : Obls P Q a m V w0 (ops.toList.take k) plan)
    (hsuf : ∀ f w, Below w0.heap.size w0 w → AllP V f w plan → wpList P ops Q (ops.toList.drop k) (over a m f) w)
    (hsufL : ∀ f w ok ol, ops[k]? = some ok → ops[late]? = some ol → Below w0.heap.size w0 w → AllPB V f w late 0 plan → wpList P ops Q (ok :: ol :: ops.toList.drop (k + 1)) (over a m f) w) : (Code.region id ops true).wp P Q a w0 := by
  refine wp_region_any hmix (seqL_any hmono hback hnd hall hseq hk hlk hob hsuf hsufL _ _ _ _ (by simp) (by simp) ⟨?_, .inl ⟨?_, fun k => (a.tmps.toList[k]?).getD undef, (over_start a m).symm, ⟨rfl, rfl, rfl, Nat.le_refl _, fun _ _ => rfl⟩, ?_⟩⟩)
  · intro i o _ h
    simp [Array.getElem?_replicate] at h
  · intro j _ h
    simp [Array.getElem?_replicate] at h
  · intro i o d _ _ h
    simp [Array.getElem?_replicate] at h
end

end Go.Proofs.Ytjpjkkjklghpgaa
