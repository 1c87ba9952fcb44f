import Derived.Test.YtgbnjgenopdmfaaGreatKh
import Derived.Test.YtgbnjgenopdmfaaGreatKg

/- newLayout walked: what a deck that may be has. -/
namespace Go.Proofs.YtgbnjgenopdmfaaGreat
open Go.RowKit F
def rkN (s : Sit) : Nat := if s.ware.kind = 2 then s.ware.rows.toNat * s.ware.cols.toNat else 0
def rkSum : List Sit → Nat
  | [] => 0
  | s :: l => rkN s + rkSum l
theorem rkSum_append (a b : List Sit) : rkSum (a ++ b) = rkSum a + rkSum b := by
  induction a with
  | nil => simp [rkSum]
  | cons x r ih => simp only [List.cons_append, rkSum, ih]; omega
theorem sum_one (f g : Nat → Nat) (m r : Nat) (h : ∀ k, g k = if k = m then f k + r else f k) : ∀ n, ((List.range n).map g).sum = ((List.range n).map f).sum + if m < n then r else 0
  | 0 => by simp
  | n + 1 => by
    have ih := sum_one f g m r h n
    rw [List.range_succ, List.map_append, List.map_append, List.sum_append, List.sum_append, ih]
    simp only [List.map_cons, List.map_nil, List.sum_cons, List.sum_nil, h n]
    by_cases h1 : n = m
    · subst h1; simp; omega
    · by_cases h2 : m < n
      · rw [if_pos h2, if_neg h1, if_pos (by omega)]; omega
      · rw [if_neg h2, if_neg h1, if_neg (by omega)]; omega
/-- Slots in their range, none twice. -/
def Slots (l : List Sit) : Prop := l.Pairwise (fun a b => a.slot ≠ b.slot) ∧ ∀ s ∈ l, 1 ≤ s.slot ∧ s.slot ≤ 12
theorem slots_of {l : List Sit} (hd : dchk l = 0) : Slots l := by
  refine ⟨List.pairwise_iff_getElem.2 fun i j hi hj hij e => ?_, fun s hs => (dchk_ware hd hs).2⟩
  obtain ⟨_, _, h3⟩ := (dchk_in hd).2 j hj
  unfold fit at h3
  split at h3
  · cases h3
  · split at h3
    · cases h3
    · rename_i h
      refine h (.inl (List.any_eq_true.2 ⟨l[i]'hi, ?_, by simp [e]⟩))
      rw [List.mem_take_iff_getElem]
      exact ⟨i, by omega, rfl⟩
theorem seatOf_cons (s : Sit) (l : List Sit) (n : Int) : seatOf (s :: l) n = if s.slot = n then some s else seatOf l n := by
  unfold seatOf
  rw [List.find?_cons]
  by_cases h : s.slot = n
  · simp [h]
  · have hb : (s.slot == n) = false := beq_false_of_ne h
    rw [hb, if_neg h]
theorem seatOf_none {l : List Sit} {n : Int} (h : ∀ s ∈ l, s.slot ≠ n) : seatOf l n = none := by
  unfold seatOf
  rw [List.find?_eq_none]
  intro s hs
  simpa using h s hs
theorem seatOf_self {l : List Sit} (h : Slots l) {s : Sit} (hs : s ∈ l) : seatOf l s.slot = some s := by
  induction l with
  | nil => cases hs
  | cons x r ih =>
    obtain ⟨h1, h2⟩ := List.pairwise_cons.1 h.1
    rw [seatOf_cons]
    rcases List.mem_cons.1 hs with rfl | hs
    · rw [if_pos rfl]
    · rw [if_neg (h1 s hs)]
      exact ih ⟨h2, fun t ht => h.2 t (by simp [ht])⟩ hs
theorem rackIn_self {l : List Sit} {n : Int} {s : Sit} (h : seatOf l n = some s) : (rackIn l n).length = rkN s := by
  unfold rackIn rkN
  rw [h]
  simp only
  split
  · rw [List.length_map, spots_length]
  · rfl
theorem tips_sum : ∀ {l : List Sit}, Slots l → (tipsL l).length = rkSum l
  | [], _ => by
    have : ∀ k : Nat, rackIn [] ((k : Int) + 1) = [] := fun k => rackIn_no rfl
    simp [tipsL, this, rkSum]
    rfl
  | s :: l, h => by
    obtain ⟨h1, h2⟩ := List.pairwise_cons.1 h.1
    have ih := tips_sum (l := l) ⟨h2, fun t ht => h.2 t (by simp [ht])⟩
    have hs := h.2 s (by simp)
    unfold tipsL at ih ⊢
    rw [List.length_flatMap] at ih ⊢
    have hm : ((s.slot.toNat - 1 : Nat) : Int) + 1 = s.slot := by omega
    rw [sum_one (fun k => (rackIn l ((k : Int) + 1)).length) (fun k => (rackIn (s :: l) ((k : Int) + 1)).length) (s.slot.toNat - 1) (rkN s) ?_ 12, ih, if_pos (by omega)]
    · simp only [rkSum]; omega
    · intro k
      by_cases e : k = s.slot.toNat - 1
      · subst e
        rw [if_pos rfl, hm, rackIn_self (by rw [seatOf_cons, if_pos rfl]), rackIn_no (seatOf_none fun t ht => fun e => h1 t ht e.symm)]
        simp
      · rw [if_neg e]
        have hne : ¬ s.slot = (k : Int) + 1 := by omega
        unfold rackIn
        rw [seatOf_cons, if_neg hne]
/-- The least slot of a rack, and what a tip of it holds. -/
def layS (p : Int × Int) (s : Sit) : Int × Int := if s.ware.kind = 2 then (if s.slot < p.1 then (s.slot, s.ware.cap) else p) else p
def layL (l : List Sit) : Int × Int := l.foldl layS (13, 0)
theorem layL_snoc (l : List Sit) (s : Sit) : layL (l ++ [s]) = layS (layL l) s := by simp [layL]
theorem layL_is (l : List Sit) (h : ∀ s ∈ l, s.slot ≤ 12) : (layL l = (13, 0) ∧ ∀ s ∈ l, s.ware.kind ≠ 2) ∨ ∃ s ∈ l, s.ware.kind = 2 ∧ layL l = (s.slot, s.ware.cap) ∧ ∀ t ∈ l, t.ware.kind = 2 → s.slot ≤ t.slot := by
  have key : ∀ n, n ≤ l.length → (layL (l.take n) = (13, 0) ∧ ∀ s ∈ l.take n, s.ware.kind ≠ 2) ∨ ∃ s ∈ l.take n, s.ware.kind = 2 ∧ layL (l.take n) = (s.slot, s.ware.cap) ∧ ∀ t ∈ l.take n, t.ware.kind = 2 → s.slot ≤ t.slot := by
    intro n
    induction n with
    | zero => intro _; left; exact ⟨rfl, fun s hs => by simp at hs⟩
    | succ n ih =>
      intro hn
      have e : l.take (n + 1) = l.take n ++ [l[n]'(by omega)] := by rw [List.take_succ_eq_append_getElem]
      have hx := h (l[n]'(by omega)) (List.getElem_mem _)
      rw [e, layL_snoc]
      generalize l[n]'(by omega) = x at *
      unfold layS
      by_cases hk : x.ware.kind = 2
      · rw [if_pos hk]
        rcases ih (by omega) with ⟨h1, h2⟩ | ⟨s, h1, h2, h3, h4⟩
        · rw [h1, if_pos (by show x.slot < 13; omega)]
          refine .inr ⟨x, by simp, hk, rfl, fun t ht hkt => ?_⟩
          rcases List.mem_append.1 ht with ht | ht
          · exact absurd hkt (h2 t ht)
          · simp at ht; subst ht; exact Int.le_refl _
        · rw [h3]
          by_cases hlt : x.slot < s.slot
          · rw [if_pos hlt]
            refine .inr ⟨x, by simp, hk, rfl, fun t ht hkt => ?_⟩
            rcases List.mem_append.1 ht with ht | ht
            · have := h4 t ht hkt; omega
            · simp at ht; subst ht; exact Int.le_refl _
          · rw [if_neg hlt]
            refine .inr ⟨s, by simp [h1], h2, rfl, fun t ht hkt => ?_⟩
            rcases List.mem_append.1 ht with ht | ht
            · exact h4 t ht hkt
            · simp at ht; subst ht; omega
      · rw [if_neg hk]
        rcases ih (by omega) with ⟨h1, h2⟩ | ⟨s, h1, h2, h3, h4⟩
        · refine .inl ⟨h1, fun t ht => ?_⟩
          rcases List.mem_append.1 ht with ht | ht
          · exact h2 t ht
          · simp at ht; subst ht; exact hk
        · refine .inr ⟨s, by simp [h1], h2, h3, fun t ht hkt => ?_⟩
          rcases List.mem_append.1 ht with ht | ht
          · exact h4 t ht hkt
          · simp at ht; subst ht; exact absurd hkt hk
  have := key l.length (Nat.le_refl _)
  rwa [List.take_length] at this
theorem layL_tipM {l : List Sit} (hd : dchk l = 0) : (layL l).2 = tipM l := by
  have hsl := slots_of hd
  have hno : ∀ n : Int, (∀ s ∈ l, s.ware.kind = 2 → s.slot ≠ n) → rackIn l n = [] := by
    intro n h
    cases hs : seatOf l n with
    | none => exact rackIn_no hs
    | some s =>
      refine rackIn_kind hs fun hk => ?_
      obtain ⟨h1, h2⟩ := seatOf_in hs
      exact h s h1 hk h2
  rcases layL_is l fun s hs => (hsl.2 s hs).2 with ⟨h1, h2⟩ | ⟨s, h1, h2, h3, h4⟩
  · rw [h1]
    have : ∀ k : Nat, rackIn l ((k : Int) + 1) = [] := fun k => hno _ fun s hs hk => absurd hk (h2 s hs)
    have e : tipsL l = [] := by simp [tipsL, this]
    unfold tipM
    rw [e]
  · rw [h3]
    have hr := hsl.2 s h1
    have hself := seatOf_self hsl h1
    have hc := (dchk_ware hd h1).1
    have hR := inR_iff.1 (chk_in hc).2.2.1
    have hC := inR_iff.1 (chk_in hc).2.2.2.1
    have hto : ∀ n : Nat, ((n : Int) < s.slot → tipsTo l n = []) ∧ (s.slot ≤ (n : Int) → ∃ q, tipsTo l n = rackIn l s.slot ++ q) := by
      intro n
      induction n with
      | zero => exact ⟨fun _ => rfl, fun h => by omega⟩
      | succ n ih =>
        refine ⟨fun h => ?_, fun h => ?_⟩
        · rw [tipsTo_succ, ih.1 (by omega), hno _ fun t ht hk e => by have := h4 t ht hk; omega]
          rfl
        · rw [tipsTo_succ]
          by_cases e : ((n : Int) + 1) = s.slot
          · rw [ih.1 (by omega), e]
            exact ⟨[], by simp⟩
          · obtain ⟨q, hq⟩ := ih.2 (by omega)
            exact ⟨q ++ rackIn l ((n : Int) + 1), by rw [hq, List.append_assoc]⟩
    obtain ⟨q, hq⟩ := (hto 12).2 (by omega)
    rw [tipsTo_all] at hq
    have hra : rackIn l s.slot = (spots s.ware.rows.toNat (s.ware.cols.toNat * s.ware.rows.toNat)).map (spotP s.slot) := rackIn_yes hself h2 (by omega) (by omega)
    obtain ⟨m, hm⟩ : ∃ m, s.ware.cols.toNat * s.ware.rows.toNat = m + 1 := ⟨s.ware.cols.toNat * s.ware.rows.toNat - 1, by
      have : 1 * 1 ≤ s.ware.cols.toNat * s.ware.rows.toNat := Nat.mul_le_mul (by omega) (by omega)
      omega⟩
    obtain ⟨r, hrr⟩ : ∃ r, spots s.ware.rows.toNat (m + 1) = (0, 0) :: r := by
      refine ⟨((List.range m).map Nat.succ).map fun i => (i % s.ware.rows.toNat, i / s.ware.rows.toNat), ?_⟩
      unfold spots
      rw [List.range_succ_eq_map, List.map_cons]
      simp
    rw [hra, hm, hrr] at hq
    unfold tipM
    rw [hq]
    simp only [List.map_cons, List.cons_append]
    have hw : wareOf l (spotP s.slot (0, 0)) = some s.ware := by
      unfold wareOf
      show (match seatOf l s.slot with | some s => _ | none => none) = _
      rw [hself]
      simp only
      rw [if_pos (spotOk_iff.2 ⟨⟨by simp [spotP], by simp [spotP]; omega⟩, by simp [spotP], by simp [spotP]; omega⟩)]
    rw [hw]
end Go.Proofs.YtgbnjgenopdmfaaGreat

/- Regions that draw their order and end in stores, where an edge that does not bind may point forward. -/
namespace Go.Proofs.YtgbnjgenopdmfaaGreat
open Go.RowKit
section
variable {P : Program} {Q : Exit → Act → World → Prop} {a : Act} {m : List Bool} {V : Nat → Value → World → Prop} {w0 : World} {ops : Array Oper} {plan : Plan} {k : Nat}
theorem seqE_any (hmono : ∀ d v w w', V d v w → Below w.heap.size w w' → V d v w') (hback : backE 0 ops.toList = true) (hnd : nodupB (plan.map (·.1)) = true) (hall : planAll ops m a.tmps.size (ops.toList.take k) plan = true) (hseq : seqB ops k = true) (hk : k ≤ ops.size)
    (hob : Obls P Q a m V w0 (ops.toList.take k) plan) (hsuf : ∀ f w, Below w0.heap.size w0 w → AllP V f w plan → wpList P ops Q (ops.toList.drop k) (over a m f) w) :
    ∀ (fuel : Nat) (listed : Array Bool) (a' : Act) (w : World), listed.size = ops.size → listed.toList.count false ≤ fuel → St P Q a m V w0 ops k listed a' w → wpAny P .any ops Q fuel listed a' w := by
  have hcov : ∀ {listed : Array Bool}, Closed ops listed → ∀ {i : Nat}, i ∈ Region.ready .any ops listed → k ≤ i → ∀ j, j < i → listed[j]? = some true := by
    intro listed hc i hi hki j hj
    obtain ⟨hlt, _, hp⟩ := ready_pre hi
    unfold seqB at hseq
    have h1 := List.all_eq_true.1 hseq i (by simpa using hlt)
    rw [Bool.or_eq_true] at h1
    rcases h1 with h1 | h1
    · simp at h1; omega
    · exact covers_listed hc _ i j hp (List.all_eq_true.1 h1 j (by simpa using hj))
  have htoSuf : ∀ {listed : Array Bool} {a' : Act} {w : World}, Inv a m V w0 ops listed a' w → (∀ j, j < k → listed[j]? = some true) → wpList P ops Q (ops.toList.drop k) a' w := by
    rintro listed a' w ⟨f, rfl, hb, hV⟩ hl
    refine hsuf f w hb (allP_of hall fun i o d ho hd => ?_)
    have hik : i < k := by
      by_cases h : i < k
      · exact h
      · rw [List.getElem?_take, if_neg h] at ho; cases ho
    rw [List.getElem?_take, if_pos hik] at ho
    exact hV i o d (by simpa using ho) hd (hl i hik)
  have hend : ∀ (listed : Array Bool) (a' : Act) (w : World), listed.size = ops.size → St P Q a m V w0 ops k listed a' w → Region.ready .any ops listed = [] → Q .normal a' w := by
    rintro listed a' w hsz ⟨_, h⟩ hr
    have hal := all_listedE hback hsz hr
    rcases h with ⟨hs, hI⟩ | ⟨i, hki, hl, hw⟩
    · have hks : k = ops.size := by
        by_cases h : k < ops.size
        · exact absurd (hal k h) (hs k (Nat.le_refl _))
        · omega
      have := htoSuf hI fun j hj => hal j (by omega)
      rw [List.drop_eq_nil_of_le (by simp; omega)] at this
      exact this
    · have : ops.size ≤ i := by
        by_cases h : i < ops.size
        · have := (hl i h).1 (hal i h); omega
        · omega
      rw [List.drop_eq_nil_of_le (by simpa using this)] at hw
      exact hw
  have hstepL : ∀ {listed : Array Bool} {a' : Act} {w : World} {i : Nat}, i < ops.size → k ≤ i → (∀ j, j < ops.size → (listed[j]? = some true ↔ j < i)) → Closed ops (listed.setIfInBounds i true) → listed.size = ops.size → wpList P ops Q (ops.toList.drop i) a' w →
      wpOp P ops Q i (fun a2 w2 => St P Q a m V w0 ops k (listed.setIfInBounds i true) a2 w2) a' w := by
    intro listed a' w i hi hki hl hc hsz hw
    have hd : ops.toList.drop i = ops[i] :: ops.toList.drop (i + 1) := by
      rw [List.drop_eq_getElem_cons (by simpa using hi)]; simp
    have hnext : ∀ a2 w2, wpList P ops Q (ops.toList.drop (i + 1)) a2 w2 → St P Q a m V w0 ops k (listed.setIfInBounds i true) a2 w2 := fun a2 w2 h =>
      ⟨hc, .inr ⟨i + 1, by omega, fun j hj => by
        rw [Array.getElem?_setIfInBounds]
        by_cases e : i = j
        · subst e; rw [if_pos rfl, if_pos (by omega)]; simp
        · rw [if_neg e, hl j hj]; omega, h⟩⟩
    rw [hd] at hw
    unfold wpList at hw
    unfold wpOp
    rw [show ops[i]? = some ops[i] by simp [hi]]
    simp only
    split
    · rename_i hwn
      rw [if_pos hwn] at hw
      exact hw.imp (Oper.wp_mono hnext) id
    · rename_i hwn
      rw [if_neg hwn] at hw
      exact hnext _ _ hw
  intro fuel
  induction fuel with
  | zero =>
    intro listed a' w hsz hc hI
    have hr : Region.ready .any ops listed = [] := by
      rw [List.eq_nil_iff_forall_not_mem]
      intro i hi
      obtain ⟨hlt, h1, _⟩ := ready_pre hi
      have h0 : listed.toList.count false = 0 := by omega
      rw [List.count_eq_zero] at h0
      have hlt2 : i < listed.size := by omega
      simp only [Array.getD_eq_getD_getElem?, Array.getElem?_eq_getElem hlt2, Option.getD_some] at h1
      exact h0 (by rw [← h1]; simp)
    exact ⟨hr, hend listed a' w hsz hI hr⟩
  | succ fuel ih =>
    intro listed a' w hsz hc hI
    refine ⟨hend listed a' w hsz hI, fun i hi => ?_⟩
    have hrp := ready_pre hi
    have hlt2 : i < listed.size := by omega
    have h1 := hrp.2.1
    simp only [Array.getD_eq_getD_getElem?, Array.getElem?_eq_getElem hlt2, Option.getD_some] at h1
    have hcount : (listed.setIfInBounds i true).toList.count false ≤ fuel := by
      have hl : i < listed.toList.length := by simpa using hlt2
      have h2 : listed.toList[i] = false := by simpa using h1
      rw [Array.toList_setIfInBounds, List.count_set hl, h2]
      have hp : 0 < listed.toList.count false := List.count_pos_iff.2 (by rw [← h2]; exact List.getElem_mem _)
      rw [if_pos (by rfl), if_neg (by decide)]
      omega
    have hnl : listed[i]? ≠ some true := by rw [Array.getElem?_eq_getElem hlt2, h1]; simp
    refine wpOp_mono (K := fun a2 w2 => St P Q a m V w0 ops k (listed.setIfInBounds i true) a2 w2) (fun a2 w2 h2 => ih _ _ _ (by simpa using hsz) hcount h2) ?_
    obtain ⟨hcl, hS⟩ := hI
    have hcl2 := closed_next hcl hi
    rcases hS with ⟨hsu, hI⟩ | ⟨i0, hki, hl, hw⟩
    · by_cases hik : i < k
      · refine wpOp_mono (fun a2 w2 h2 => ⟨hcl2, .inl ⟨fun j hj => ?_, h2⟩⟩) (seq_step hmono hnd hall hob hik hsu hi hI)
        rw [Array.getElem?_setIfInBounds, if_neg (by omega)]
        exact hsu j hj
      · have hlow := hcov hcl hi (by omega)
        have he : i = k := by
          by_cases h : i = k
          · exact h
          · exact absurd (hlow k (by omega)) (hsu k (Nat.le_refl _))
        subst he
        refine hstepL hrp.1 (Nat.le_refl _) (fun j hj => ⟨fun h => ?_, fun h => hlow j h⟩) hcl2 hsz (htoSuf hI hlow)
        by_cases h2 : j < i
        · exact h2
        · exact absurd h (hsu j (by omega))
    · have hge : i0 ≤ i := by
        by_cases h : i < i0
        · exact absurd ((hl i hrp.1).2 h) hnl
        · omega
      have hlow := hcov hcl hi (by omega)
      have he : i = i0 := by
        by_cases h : i = i0
        · exact h
        · have := (hl i0 (by omega)).1 (hlow i0 (by omega)); omega
      subst he
      exact hstepL hrp.1 hki hl hcl2 hsz hw

/-- A region that draws its order and ends in stores. -/
theorem region_seqE {id : Nat} (k : Nat) (m : List Bool) (plan : Plan) (V : Nat → Value → World → Prop) (hmix : P.follows .mixedOrders = true) (hback : backE 0 ops.toList = true) (hnd : nodupB (plan.map (·.1)) = true) (hall : planAll ops m a.tmps.size (ops.toList.take k) plan = true)
    (hseq : seqB ops k = true) (hk : k ≤ ops.size) (hmono : ∀ d v w w', V d v w → Below w.heap.size w w' → V d v w') (hob : Obls P Q a m V w0 (ops.toList.take k) plan)
    (hsuf : ∀ f w, Below w0.heap.size w0 w → AllP V f w plan → wpList P ops Q (ops.toList.drop k) (over a m f) w) : (Code.region id ops true).wp P Q a w0 := by
  refine wp_region_any hmix (seqE_any hmono hback hnd hall hseq hk hob hsuf _ _ _ _ (by simp) (by simp) ⟨?_, .inl ⟨?_, fun k => (a.tmps.toList[k]?).getD undef, (over_start a m).symm, ⟨rfl, rfl, rfl, Nat.le_refl _, fun _ _ => rfl⟩, ?_⟩⟩)
  · intro i o _ h
    simp [Array.getElem?_replicate] at h
  · intro j _ h
    simp [Array.getElem?_replicate] at h
  · intro i o d _ _ h
    simp [Array.getElem?_replicate] at h
end
end Go.Proofs.YtgbnjgenopdmfaaGreat

/- newLayout walked. -/
namespace Go.Proofs.YtgbnjgenopdmfaaGreat
open Go.RowKit F
set_option linter.unusedVariables false in
def nlV (S : Nat) (s : Sit) (d : Nat) (v : Value) (_ : World) : Prop :=
  match d with
  | 34 => v = .pointer (some ⟨S, 0, none⟩)
  | 35 => v = .int .i64 s.slot
  | 36 => v = .pointer (some ⟨S, 1, none⟩)
  | 37 => v = .pointer (some ⟨S, 12, none⟩)
  | 38 => v = .int .i64 s.ware.cap
  | 4 => v = .int .i64 s.slot
  | _ => True
set_option linter.unusedVariables false in
theorem nlV_mono (S : Nat) (s : Sit) (d : Nat) (v : Value) (w w' : World) (h : nlV S s d v w) (_ : Below w.heap.size w w') : nlV S s d v w' := h
abbrev sl14 (s : Sit) : List Value := [.int .i64 s.slot, .string s.ware.name, .int .i64 s.ware.kind, .int .i64 s.ware.rows, .int .i64 s.ware.cols, .int .i64 s.ware.x, .int .i64 s.ware.y, .int .i64 s.ware.pitch, .int .i64 s.ware.wid, .int .i64 s.ware.len, .int .i64 s.ware.hei, .int .i64 s.ware.deep, .int .i64 s.ware.cap, .string s.name]
set_option maxHeartbeats 6400000 in
set_option maxRecDepth 100000 in
theorem newLayout_any (ao : Option Addr) (cap : Nat) (l : List Sit) (w : World) (hD : Dk w ao cap l) (hd : dchk l = 0) :
    Calls Tryz.prog 35 #[.slice ao l.length cap] w fun e w' => e = .returned (layv ao cap l) ∧ Below w.heap.size w w' := by
  have HD : Hid (Dk w ao cap l) := hD
  have hl12 : l.length ≤ 12 := dk_len hd
  have HV : Hid (layv ao cap l = .agg #[.slice ao l.length cap, .int .i64 (rkSum l : Nat), .int .i64 (layL l).2]) := by
    show _ = _
    rw [layv, tips_sum (slots_of hd), layL_tipM hd]
  have HDC : Hid (dchk l = 0) := hd
  clear hD hd
  obtain ⟨w0, hw0⟩ : ∃ w0, w0 = (w.alloc (.cells #[.slice none 0 0, .int .i64 0, .int .i64 0] 78)).alloc (.cells #[.slice ao l.length cap, .int .i64 0, .int .i64 0] 78) := ⟨_, rfl⟩
  have KR0 : Hid (Bk w.heap.size [.slice none 0 0, .int .i64 0, .int .i64 0] w0) := by
    show Bk _ _ _
    rw [hw0]
    exact (Bk.new w [.slice none 0 0, .int .i64 0, .int .i64 0] 78 w.heap.size rfl).later ((Below.refl _ _).alloc (Nat.le_refl _) _)
  have KY0 : Hid (Bk (w.heap.size + 1) [.slice ao l.length cap, .int .i64 0, .int .i64 0] w0) := by
    show Bk _ _ _
    rw [hw0]
    exact Bk.new _ [.slice ao l.length cap, .int .i64 0, .int .i64 0] 78 (w.heap.size + 1) (by simp)
  have HB0 : Hid (Below w.heap.size w w0) := by show Below _ _ _; rw [hw0]; exact ((Below.refl _ _).alloc (Nat.le_refl _) _).alloc (by simp) _
  go_enter Tryz.func35, Tryz.ntmps35
  go_wp2
  try rw [← hw0]
  clear hw0
  go_loopw [4, 11] (fun a i wr => ∃ k : Nat, k ≤ l.length ∧ i = .int .i64 k ∧ a = .int .i64 (layL (l.take k)).1 ∧ Bk w.heap.size [.slice none 0 0, .int .i64 0, .int .i64 0] wr ∧ Bk (w.heap.size + 1) [.slice ao l.length cap, .int .i64 (rkSum (l.take k) : Nat), .int .i64 (layL (l.take k)).2] wr ∧ Below w.heap.size w wr) (fun _ i _ => l.length - (intOf i).toNat)
  case atStart => exact ⟨0, Nat.zero_le _, rfl, rfl, KR0.out, KY0.out, HB0.out⟩
  case round =>
    obtain ⟨k, hk, rfl, rfl, hR, hY, hB⟩ := hrel
    have HR : Hid (Bk w.heap.size [.slice none 0 0, .int .i64 0, .int .i64 0] wr) := hR
    have HY : Hid (Bk (w.heap.size + 1) [.slice ao l.length cap, .int .i64 (rkSum (l.take k) : Nat), .int .i64 (layL (l.take k)).2] wr) := hY
    have HB : Hid (Below w.heap.size w wr) := hB
    clear hR hY hB
    by_cases hlt : k < l.length
    · obtain ⟨b, off, rfl, hbx⟩ := (HD.out.next HB.out).sts.at hlt
      have hmem := List.getElem_mem hlt
      have hw := dchk_ware HDC.out hmem
      have hR := inR_iff.1 (chk_in hw.1).2.2.1
      have hC := inR_iff.1 (chk_in hw.1).2.2.2.1
      have HT : Hid (l.take (k + 1) = l.take k ++ [l[k]'hlt]) := by show _ = _; rw [List.take_succ_eq_append_getElem]
      have HSM : Hid (rkSum (l.take k) ≤ 384 * k) := by
        show _ ≤ _
        have : ∀ j, j ≤ k → rkSum (l.take j) ≤ 384 * j := by
          intro j
          induction j with
          | zero => intro _; simp [rkSum]
          | succ j ih =>
            intro hj
            have e : l.take (j + 1) = l.take j ++ [l[j]'(by omega)] := by rw [List.take_succ_eq_append_getElem]
            have hw2 := dchk_ware HDC.out (List.getElem_mem (show j < l.length by omega))
            have h1 := inR_iff.1 (chk_in hw2.1).2.2.1
            have h2 := inR_iff.1 (chk_in hw2.1).2.2.2.1
            rw [e, rkSum_append]
            have h3 : rkN (l[j]'(by omega)) ≤ 384 := by
              unfold rkN
              split
              · have := Nat.mul_le_mul (show (l[j]'(by omega)).ware.rows.toNat ≤ 16 by omega) (show (l[j]'(by omega)).ware.cols.toNat ≤ 24 by omega)
                omega
              · omega
            have := ih (by omega)
            simp only [rkSum]
            omega
        exact this k (Nat.le_refl _)
      generalize l[k]'hlt = s at *
      have HCap := (show Hid _ from chk_cap hw.1)
      obtain ⟨_, c0, c1, c2, c3, c4, c5, c6, c7, c8, c9, c10, c11, c12, c13⟩ := hbx
      have hsz : w.heap.size + 1 < wr.heap.size := HY.out.1
      have hki : (k : Int) < (l.length : Int) := by omega
      have y1 := HY.out.c 1 rfl
      have yf1 := HY.out.f 1 rfl
      have yf2 := HY.out.f 2 rfl
      have y2 := HY.out.c 2 rfl
      have hsum := HSM.out
      have hne1 : w.heap.size + 1 ≠ wr.heap.size := by omega
      by_cases hkd : s.ware.kind = 2
      · have hkd2 : (s.ware.kind != 2) = false := by simp [hkd]
        have hmle : s.ware.rows.toNat * s.ware.cols.toNat ≤ 384 := by
          have := Nat.mul_le_mul (show s.ware.rows.toNat ≤ 16 by omega) (show s.ware.cols.toNat ≤ 24 by omega)
          omega
        have hmul : s.ware.rows * s.ware.cols = ((s.ware.rows.toNat * s.ware.cols.toNat : Nat) : Int) := by
          rw [Int.natCast_mul, Int.toNat_of_nonneg (by omega), Int.toNat_of_nonneg (by omega)]
        obtain ⟨M, hM⟩ : ∃ M : Int, M = ((s.ware.rows.toNat * s.ware.cols.toNat : Nat) : Int) := ⟨_, rfl⟩
        have hA : wrap64 (s.ware.rows * s.ware.cols) = M := by
          rw [hmul, hM]
          unfold wrap64
          omega
        obtain ⟨N, hN⟩ : ∃ N : Int, N = ((rkSum (l.take k) + s.ware.rows.toNat * s.ware.cols.toNat : Nat) : Int) := ⟨_, rfl⟩
        have hA2 : wrap64 ((rkSum (l.take k) : Int) + M) = N := by
          rw [hN, hM]
          unfold wrap64
          omega
        have HNN : Hid (N = ((rkSum (l.take k) + s.ware.rows.toNat * s.ware.cols.toNat : Nat) : Int)) := hN
        clear hN hM hmul hmle
        have HRK : Hid (rkN s = s.ware.rows.toNat * s.ware.cols.toNat) := if_pos hkd
        have HLS : Hid (layS (layL (l.take k)) s = if s.slot < (layL (l.take k)).1 then (s.slot, s.ware.cap) else layL (l.take k)) := if_pos hkd
        clear hkd
        by_cases hsl : s.slot < (layL (l.take k)).1
        · go_wp2_with fail
          try rw [hA]
          try rw [hA2]
          clear hA hA2
          obtain ⟨w2, hw2⟩ : ∃ w2, w2 = (wr.setCell ⟨w.heap.size + 1, 1, none⟩ (.int .i64 N)).alloc (sobj s) := ⟨_, rfl⟩
          have hz : (wr.setCell ⟨w.heap.size + 1, 1, none⟩ (.int .i64 N)).heap.size = wr.heap.size := by simp [World.setCell]
          have al := (Below.refl (wr.setCell ⟨w.heap.size + 1, 1, none⟩ (.int .i64 N)).heap.size (wr.setCell ⟨w.heap.size + 1, 1, none⟩ (.int .i64 N))).alloc (Nat.le_refl _) (sobj s)
          have KS : Hid (Bk wr.heap.size (sl14 s) w2) := by show Bk _ _ _; rw [hw2]; exact Bk.new _ (sl14 s) 72 wr.heap.size hz.symm
          have KR2 : Hid (Bk w.heap.size [.slice none 0 0, .int .i64 0, .int .i64 0] w2) := by show Bk _ _ _; rw [hw2]; exact (HR.out.other (by simp) 1 _).later al
          have KY2 : Hid (Bk (w.heap.size + 1) [.slice (some ⟨b, off, none⟩) l.length cap, .int .i64 N, .int .i64 (layL (l.take k)).2] w2) := by show Bk _ _ _; rw [hw2]; exact (HY.out.put 1 (.int .i64 N)).later al
          have HB2 : Hid (Below w.heap.size w w2) := by show Below _ _ _; rw [hw2]; exact (HB.out.setCell (by simp) _).alloc (by have := HB.out.size; simp [World.setCell]; omega) _
          rw [← hw2]
          clear hw2 al hz
          refine region_seqE 6 [false, false, false, false, true, false, false, false, false, false, false, false, false, false, false, false, false, false, false, false, false, false, false, false, false, false, false, false, false, false, false, false, false, false, true, true, true, true, true, false, false, false]
            [(34, [], none), (35, [34], none), (36, [], none), (37, [36], none), (38, [37], none), (4, [35], none)]
            (nlV wr.heap.size s) (by kernel_rfl) (by kernel_rfl) (by kernel_rfl) (by kernel_rfl) (by kernel_rfl) (by decide) (nlV_mono wr.heap.size s) ?_ ?_
          · refine ⟨?_, ?_, ?_, ?_, ?_, ?_, trivial⟩
            · intro f w1 hb _ K hK
              simp only [over, overL, Nat.reduceAdd]
              go_simp
              exact hK _ _ ⟨_, rfl, by simp only [over, overL, Nat.reduceAdd]; rfl, Below.refl _ _⟩
            · intro f w1 hb ⟨h34, _⟩ K hK
              replace h34 : f 34 = _ := h34
              have q0 := (KS.out.later hb).c 0 rfl
              simp only [over, overL, Nat.reduceAdd, h34]
              go_simp
              exact hK _ _ ⟨_, rfl, by simp only [over, overL, Nat.reduceAdd, h34]; rfl, Below.refl _ _⟩
            · intro f w1 hb _ K hK
              simp only [over, overL, Nat.reduceAdd]
              go_simp
              exact hK _ _ ⟨_, rfl, by simp only [over, overL, Nat.reduceAdd]; rfl, Below.refl _ _⟩
            · intro f w1 hb ⟨h36, _⟩ K hK
              replace h36 : f 36 = _ := h36
              simp only [over, overL, Nat.reduceAdd, h36]
              go_simp
              exact hK _ _ ⟨_, rfl, by simp only [over, overL, Nat.reduceAdd, h36]; rfl, Below.refl _ _⟩
            · intro f w1 hb ⟨h37, _⟩ K hK
              replace h37 : f 37 = _ := h37
              have q12 := (KS.out.later hb).c 12 rfl
              simp only [over, overL, Nat.reduceAdd, h37]
              go_simp
              exact hK _ _ ⟨_, rfl, by simp only [over, overL, Nat.reduceAdd, h37]; rfl, Below.refl _ _⟩
            · intro f w1 hb ⟨h35, _⟩ K hK
              replace h35 : f 35 = _ := h35
              simp only [over, overL, Nat.reduceAdd, h35]
              go_simp
              exact hK _ _ ⟨_, rfl, by simp only [over, overL, Nat.reduceAdd, h35]; rfl, Below.refl _ _⟩
          · intro f w3 hb3 hv
            have h38 : f 38 = .int .i64 s.ware.cap := hv.2.2.2.2.1
            have h4 : f 4 = .int .i64 s.slot := hv.2.2.2.2.2.1
            have KY3 := KY2.out.later hb3
            have q2 := KY3.c 2 rfl
            have qf2 := KY3.f 2 rfl
            simp only [over, overL, Nat.reduceAdd, h38, h4]
            go_wp2
            go_roundw
            case rel =>
              refine ⟨k + 1, by omega, by go_num, ?_, (KR2.out.later hb3).other (by simp) _ _, ?_, (below_on HB2.out hb3).setCell (by simp) _⟩
              · rw [HT.out, layL_snoc, HLS.out, if_pos hsl]
              · rw [HT.out, layL_snoc, HLS.out, if_pos hsl, rkSum_append]
                have hh := KY3.put 2 (.int .i64 s.ware.cap)
                simp only [rkSum, HRK.out, Nat.add_zero]
                rw [HNN.out] at hh
                exact hh
            case measure => simp [intOf]; omega
        · go_wp2
          go_roundw
          case rel =>
            have b2 : Below w.heap.size w ((wr.setCell ⟨w.heap.size + 1, 1, none⟩ (.int .i64 N)).alloc (sobj s)) := (HB.out.setCell (by simp) _).alloc (by have := HB.out.size; simp [World.setCell]; omega) _
            refine ⟨k + 1, by omega, by go_num, ?_, (HR.out.other (by simp) 1 _).later ((Below.refl _ _).alloc (Nat.le_refl _) _), ?_, b2⟩
            · rw [HT.out, layL_snoc, HLS.out, if_neg hsl]
            · rw [HT.out, layL_snoc, HLS.out, if_neg hsl, rkSum_append]
              have hh := (HY.out.put 1 (.int .i64 N)).later ((Below.refl _ _).alloc (Nat.le_refl _) (sobj s))
              rw [HNN.out] at hh
              simp only [rkSum, HRK.out, Nat.add_zero]
              rw [HNN.out]
              exact hh
          case measure => simp [intOf]; omega
      · have hkd2 : (s.ware.kind != 2) = true := by simp [hkd]
        have HRK : Hid (rkN s = 0) := if_neg hkd
        have HLS : Hid (layS (layL (l.take k)) s = layL (l.take k)) := if_neg hkd
        clear hkd
        go_wp2
        go_roundw
        case rel =>
          have b2 : Below wr.heap.size wr (wr.alloc (sobj s)) := (Below.refl _ _).alloc (Nat.le_refl _) _
          refine ⟨k + 1, by omega, by go_num, ?_, HR.out.later b2, ?_, below_on HB.out b2⟩
          · rw [HT.out, layL_snoc, HLS.out]
          · rw [HT.out, layL_snoc, HLS.out, rkSum_append]
            simp only [rkSum, HRK.out, Nat.add_zero]
            exact HY.out.later b2
        case measure => simp [intOf]; omega
    · have e : k = l.length := by omega
      have y0 := HY.out.c 0 rfl
      have y1 := HY.out.c 1 rfl
      have y2 := HY.out.c 2 rfl
      have r0 := HR.out.c 0 rfl
      have rf0 := HR.out.f 0 rfl
      have r1 := HR.out.c 1 rfl
      have rf1 := HR.out.f 1 rfl
      have r2 := HR.out.c 2 rfl
      have rf2 := HR.out.f 2 rfl
      have lt := HR.out.1
      have HE : Hid (l.take k = l) := List.take_of_length_le (by omega)
      rw [HE.out] at y1 y2
      go_wp2
      refine bodyPost_ret (v := .agg #[.slice ao l.length cap, .int .i64 (rkSum l : Nat), .int .i64 (layL l).2]) (by simp [results, Tryz.results35, go_sem, r0, r1, r2]) rfl ⟨by rw [HV.out], ?_⟩
      exact ((HB.out.setCell (Nat.le_refl _) _).setCell (Nat.le_refl _) _).setCell (Nat.le_refl _) _
end Go.Proofs.YtgbnjgenopdmfaaGreat

/- mayTake, mayFill, may, May walked. -/
namespace Go.Proofs.YtgbnjgenopdmfaaGreat
open Go.RowKit
abbrev sml (m : Sm) : List Value := [.slice m.aoW m.wl.length m.capW, .bool m.tip, .slice m.aoH m.held.length m.capH, .slice m.aoT m.touched.length m.capT, .int .i64 m.used, .int .i64 m.heat, .int .i64 m.clock]
abbrev lal (ao : Option Addr) (cap : Nat) (l : List Sit) : List Value := [.slice ao l.length cap, .int .i64 ((tipsL l).length : Int), .int .i64 (tipM l)]
theorem len0_true {α : Type} {l : List α} (h : l = []) : ((l.length : Int) == 0) = true := by simp [h]
theorem len0_false {α : Type} {l : List α} (h : l ≠ []) : ((l.length : Int) == 0) = false := by
  have : l.length ≠ 0 := fun e => h (List.eq_nil_of_length_eq_zero e)
  simp; omega
set_option maxHeartbeats 3200000 in
theorem mayTake_any (ao : Option Addr) (cap : Nat) (l : List Sit) (m : Sm) (w : World) (hS : SmIn w m) (hlt : m.touched.length ≤ 9223372036854775807) :
    Calls Tryz.prog 73 #[layv ao cap l, smv m] w fun e w' => e = .returned (.bool (mayTake l m.st)) ∧ Below w.heap.size w w' := by
  have HS : Hid (SmIn w m) := hS
  clear hS
  obtain ⟨w0, hw0⟩ : ∃ w0, w0 = (w.alloc (layo ao cap l)).alloc (smo m) := ⟨_, rfl⟩
  have al : Below w.heap.size w w0 := by rw [hw0]; exact ((Below.refl _ _).alloc (Nat.le_refl _) _).alloc (by simp) _
  have HB : Hid (Below w.heap.size w w0) := al
  have KL : Hid (Bk w.heap.size (lal ao cap l) w0) := by show Bk _ _ _; rw [hw0]; exact (Bk.new w (lal ao cap l) 78 w.heap.size rfl).later ((Below.refl _ _).alloc (Nat.le_refl _) _)
  have KS : Hid (Bk (w.heap.size + 1) (sml m) w0) := by show Bk _ _ _; rw [hw0]; exact Bk.new (w.alloc _) (sml m) 40 (w.heap.size + 1) (by simp)
  have HW0 : Hid (w0 = (w.alloc (layo ao cap l)).alloc (smo m)) := hw0
  have HQ : Hid (mayTake l m.st = if m.tip = true then inR 1 (tipsL l).length m.used && (mayHold m.held (tipM l) && mayTouch m.touched m.held) else inR 0 (tipsL l).length m.used && (decide (m.held = []) && decide (m.touched = []))) := rfl
  clear al hw0
  cases ht : m.tip with
  | false =>
    rw [ht] at HQ
    go_enter Tryz.func73, Tryz.ntmps73
    go_wp2_with fail
    refine (mwithin_any 0 m.used (tipsL l).length _).mono ?_
    rintro e w1 ⟨rfl, rfl⟩
    rw [← HW0.out]
    have s0 := (KS.out).c 0 rfl
    have s1 := (KS.out).c 1 rfl
    have s2 := (KS.out).c 2 rfl
    have s3 := (KS.out).c 3 rfl
    have s4 := (KS.out).c 4 rfl
    have s5 := (KS.out).c 5 rfl
    have s6 := (KS.out).c 6 rfl
    cases h1 : inR 0 (tipsL l).length m.used with
    | false =>
      rw [h1] at HQ
      go_wp2
      go_ret
      exact ⟨ret_bool HQ.out.symm, HB.out⟩
    | true =>
      rw [h1] at HQ
      by_cases hh : m.held = []
      · have hh2 := len0_true hh
        rw [decide_eq_true hh] at HQ
        clear hh
        by_cases htt : m.touched = []
        · have htt2 := len0_true htt
          rw [decide_eq_true htt] at HQ
          clear htt
          go_wp2
          go_ret
          exact ⟨ret_bool HQ.out.symm, HB.out⟩
        · have htt2 := len0_false htt
          rw [decide_eq_false htt] at HQ
          clear htt
          go_wp2
          go_ret
          exact ⟨ret_bool HQ.out.symm, HB.out⟩
      · have hh2 := len0_false hh
        rw [decide_eq_false hh] at HQ
        clear hh
        go_wp2
        go_ret
        exact ⟨ret_bool HQ.out.symm, HB.out⟩
  | true =>
    rw [ht] at HQ
    go_enter Tryz.func73, Tryz.ntmps73
    go_wp2_with fail
    refine (mwithin_any 1 m.used (tipsL l).length _).mono ?_
    rintro e w1 ⟨rfl, rfl⟩
    rw [← HW0.out]
    have s0 := (KS.out).c 0 rfl
    have s1 := (KS.out).c 1 rfl
    have s2 := (KS.out).c 2 rfl
    have s3 := (KS.out).c 3 rfl
    have s4 := (KS.out).c 4 rfl
    have s5 := (KS.out).c 5 rfl
    have s6 := (KS.out).c 6 rfl
    have y0 := (KL.out).c 0 rfl
    have y1 := (KL.out).c 1 rfl
    have y2 := (KL.out).c 2 rfl
    cases h1 : inR 1 (tipsL l).length m.used with
    | false =>
      rw [h1] at HQ
      go_wp2
      go_ret
      exact ⟨ret_bool HQ.out.symm, HB.out⟩
    | true =>
      rw [h1] at HQ
      go_wp2_with fail
      refine (mayHold_any m.aoH m.capH m.held (tipM l) w0 (HS.out.next HB.out).held).mono ?_
      rintro e w2 ⟨rfl, hb2⟩
      have HB2 : Hid (Below w.heap.size w w2) := HB.out.trans (hb2.mono HB.out.size)
      have KS2 : Hid (Bk (w.heap.size + 1) (sml m) w2) := KS.out.later hb2
      clear hb2 s0 s1 s2 s3 s4 s5 s6 y0 y1 y2
      have s0 := (KS2.out).c 0 rfl
      have s1 := (KS2.out).c 1 rfl
      have s2 := (KS2.out).c 2 rfl
      have s3 := (KS2.out).c 3 rfl
      have s4 := (KS2.out).c 4 rfl
      have s5 := (KS2.out).c 5 rfl
      have s6 := (KS2.out).c 6 rfl
      cases h2 : mayHold m.held (tipM l) with
      | false =>
        rw [h2] at HQ
        go_wp2
        go_ret
        exact ⟨ret_bool HQ.out.symm, HB2.out⟩
      | true =>
        rw [h2] at HQ
        go_wp2_with fail
        refine (mayTouch_any m.aoT m.aoH m.capT m.capH m.touched m.held w2 (HS.out.next HB2.out).touched (HS.out.next HB2.out).held hlt).mono ?_
        rintro e w3 ⟨rfl, hb3⟩
        have HB3 : Hid (Below w.heap.size w w3) := HB2.out.trans (hb3.mono HB2.out.size)
        clear hb3
        go_wp2
        go_ret
        exact ⟨ret_bool HQ.out.symm, HB3.out⟩
def mfV (b off n cap k : Nat) (x y : Wh) (r : Bool) (d : Nat) (v : Value) (_ : World) : Prop :=
  match d with
  | 38 => v = .int .i64 ((k : Int) + 1)
  | 39 => v = .bool true
  | 40 => v = .bool true
  | 41 => v = .slice (some ⟨b, off, none⟩) n cap
  | 42 => v = .int .i64 ((k : Int) + 1)
  | 43 => v = .int .i64 (k : Int)
  | 44 => v = .pointer (some ⟨b, off + k * 4, none⟩)
  | 45 => v = .agg #[.int .i64 x.1.1, .int .i64 x.1.2.1, .int .i64 x.1.2.2, .slice x.2.1 x.2.2.2.length x.2.2.1]
  | 46 => v = .agg #[.int .i64 y.1.1, .int .i64 y.1.2.1, .int .i64 y.1.2.2, .slice y.2.1 y.2.2.2.length y.2.2.1]
  | 47 => v = .int .i64 (cmpP x.1 y.1)
  | 48 => v = .bool r
  | 49 => v = .bool r
  | _ => True
theorem mfV_mono (b off n cap k : Nat) (x y : Wh) (r : Bool) (d : Nat) (v : Value) (w w' : World) (h : mfV b off n cap k x y r d v w) (_ : Below w.heap.size w w') : mfV b off n cap k x y r d v w' := h
theorem wellOk_of {l : List Sit} {p : Plc} {f : List F.Pc} : wellOk l (p, f) = (decide ((wellM l p).2 = 0) && (decide (f ≠ []) && mayHold f (wellM l p).1)) := by
  unfold wellOk
  rw [Bool.and_assoc]
theorem fill_no {l : List Sit} {wl : List Wh} {k : Nat} (h : k < wl.length) (hn : wellOk l ((wl[k]'h).1, (wl[k]'h).2.2.2) = false) : mayFill l (whp wl) = false := by
  have : (whp wl).all (wellOk l) = false := by
    rw [List.all_eq_false]
    refine ⟨_, List.getElem_mem (show k < (whp wl).length by rw [whp_length]; exact h), ?_⟩
    rw [whp_at h, hn]
    decide
  unfold mayFill
  rw [this]
  rfl
theorem fill_unord {l : List Sit} {wl : List Wh} {k : Nat} (h : k + 1 < wl.length) (hn : pltB (wl[k]'(by omega)).1 (wl[k + 1]'h).1 = false) : mayFill l (whp wl) = false := by
  have : ¬ (whp wl).Pairwise (fun x y => pltB x.1 y.1 = true) := by
    intro hp
    have := List.pairwise_iff_getElem.1 hp k (k + 1) (by rw [whp_length]; omega) (by rw [whp_length]; omega) (by omega)
    rw [whp_at (by omega), whp_at h] at this
    simp only at this
    rw [hn] at this
    cases this
  unfold mayFill
  rw [decide_eq_false this]
  simp
theorem fill_succ {l : List Sit} {wl : List Wh} {k : Nat} (h : k < wl.length) (ha : ((whp wl).take k).all (wellOk l) = true) (hr : Rising ((whp wl).take k)) (hw : wellOk l ((wl[k]'h).1, (wl[k]'h).2.2.2) = true) (hp : ∀ (j : Nat) (e : k = j + 1), pltB (wl[j]'(by omega)).1 (wl[k]'h).1 = true) :
    ((whp wl).take (k + 1)).all (wellOk l) = true ∧ Rising ((whp wl).take (k + 1)) := by
  have hk : k < (whp wl).length := by rw [whp_length]; exact h
  rw [List.take_succ_eq_append_getElem hk, whp_at h]
  constructor
  · rw [List.all_append, ha]
    simp [hw]
  · refine List.pairwise_append.2 ⟨hr, List.pairwise_singleton _ _, fun a hma b hb => ?_⟩
    simp only [List.mem_singleton] at hb
    subst hb
    cases k with
    | zero => simp at hma
    | succ j =>
      have hj := hp j rfl
      rw [List.take_succ_eq_append_getElem (show j < (whp wl).length by rw [whp_length]; omega), whp_at (by omega)] at hma hr
      rcases List.mem_append.1 hma with hma | hma
      · exact plt_trans ((List.pairwise_append.1 hr).2.2 a hma _ (List.mem_singleton.2 rfl)) hj
      · simp only [List.mem_singleton] at hma
        subst hma
        exact hj
theorem fill_all {l : List Sit} {wl : List Wh} {k : Nat} (h : wl.length ≤ k) (ha : ((whp wl).take k).all (wellOk l) = true) (hr : Rising ((whp wl).take k)) : mayFill l (whp wl) = true := by
  rw [List.take_of_length_le (by rw [whp_length]; exact h)] at ha hr
  have hr' : (whp wl).Pairwise (fun x y => pltB x.1 y.1 = true) := hr
  unfold mayFill
  rw [ha, decide_eq_true hr']
  rfl
theorem cmpP_geq (p q : Plc) : decide (0 ≤ cmpP p q) = !pltB p q := by
  rw [← cmpP_lt]
  by_cases h : cmpP p q < 0
  · rw [decide_eq_true h, decide_eq_false (by omega)]; rfl
  · rw [decide_eq_false h, decide_eq_true (by omega)]; rfl

set_option maxHeartbeats 6400000 in
set_option maxRecDepth 100000 in
theorem mayFill_any (ao : Option Addr) (cap : Nat) (l : List Sit) (aoW : Option Addr) (capW : Nat) (wl : List Wh) (w : World) (hD : Dk w ao cap l) (hd : dchk l = 0) (hW : Whs w aoW wl) (hln : wl.length ≤ 9223372036854775807) :
    Calls Tryz.prog 72 #[layv ao cap l, .slice aoW wl.length capW] w fun e w' => e = .returned (.bool (mayFill l (whp wl))) ∧ Below w.heap.size w w' := by
  have HD : Hid (Dk w ao cap l) := hD
  have HDC : Hid (dchk l = 0) := hd
  have HW : Hid (Whs w aoW wl) := hW
  obtain ⟨w0, hw0⟩ : ∃ w0, w0 = w.alloc (layo ao cap l) := ⟨_, rfl⟩
  have HB0 : Hid (Below w.heap.size w w0) := by show Below _ _ _; rw [hw0]; exact (Below.refl _ _).alloc (Nat.le_refl _) _
  have KL : Hid (Bk w.heap.size (lal ao cap l) w0) := by show Bk _ _ _; rw [hw0]; exact Bk.new w (lal ao cap l) 78 w.heap.size rfl
  have HW0 : Hid (w0 = w.alloc (layo ao cap l)) := hw0
  clear hD hd hW hw0
  go_enter Tryz.func72, Tryz.ntmps72
  go_wp2_with fail
  rw [← HW0.out]
  go_loopw [11] (fun i wr => ∃ k : Nat, k ≤ wl.length ∧ i = .int .i64 k ∧ ((whp wl).take k).all (wellOk l) = true ∧ Rising ((whp wl).take k) ∧ Below w0.heap.size w0 wr) (fun i _ => wl.length - (intOf i).toNat)
  case atStart => exact ⟨0, Nat.zero_le _, rfl, rfl, List.Pairwise.nil, Below.refl _ _⟩
  case round =>
    obtain ⟨k, hk, rfl, hall, hris, hb⟩ := hrel
    have HB : Hid (Below w0.heap.size w0 wr) := hb
    have HA : Hid (((whp wl).take k).all (wellOk l) = true) := hall
    have HR : Hid (Rising ((whp wl).take k)) := hris
    clear hb hall hris
    by_cases hlt : k < wl.length
    rotate_left
    · have HQ : Hid (mayFill l (whp wl) = true) := fill_all (by omega) HA.out HR.out
      go_wp2
      go_ret
      exact ⟨ret_bool HQ.out.symm, HB0.out.trans (HB.out.mono HB0.out.size)⟩
    · have HBW : Hid (Below w.heap.size w wr) := HB0.out.trans (HB.out.mono HB0.out.size)
      obtain ⟨b, off, rfl, hx⟩ := (HW.out.next HBW.out).at hlt
      obtain ⟨y, hy⟩ : ∃ y, y = wl[k]'hlt := ⟨_, rfl⟩
      rw [← hy] at hx
      have HX : Hid (WhAt wr b (off + k * 4) y) := hx
      have HY : Hid (y = wl[k]'hlt) := hy
      obtain ⟨_, c0, c1, c2, c3, _⟩ := hx
      obtain ⟨w2, hw2⟩ : ∃ w2, w2 = wr.alloc (who y) := ⟨_, rfl⟩
      have b2 : Below wr.heap.size wr w2 := by rw [hw2]; exact (Below.refl _ _).alloc (Nat.le_refl _) _
      have KX : Hid (Bk wr.heap.size [.int .i64 y.1.1, .int .i64 y.1.2.1, .int .i64 y.1.2.2, .slice y.2.1 y.2.2.2.length y.2.2.1] w2) := by show Bk _ _ _; rw [hw2]; exact Bk.new wr _ 91 wr.heap.size rfl
      have KL2 : Hid (Bk w.heap.size (lal ao cap l) w2) := (KL.out.later HB.out).later b2
      have HB2 : Hid (Below w0.heap.size w0 w2) := below_on HB.out b2
      have HW2 : Hid (w2 = wr.alloc (who y)) := hw2
      have HNo : Hid (wellOk l (y.1, y.2.2.2) = false → mayFill l (whp wl) = false) := fun h => fill_no hlt (by rw [← hy]; exact h)
      have hki : (k : Int) < (wl.length : Int) := by omega
      have lt0 : w.heap.size < wr.heap.size := by have := KL.out.1; have := HB.out.size; omega
      have n0 : w.heap.size ≠ wr.heap.size := by omega
      have l0 := (KL.out.later HB.out).c 0 rfl
      have l1 := (KL.out.later HB.out).c 1 rfl
      have l2 := (KL.out.later HB.out).c 2 rfl
      clear hy hw2 b2
      go_wp2_with fail
      rw [← HW2.out]
      refine (wellMost_any ao cap l y.1 w2 (HD.out.next (HB0.out.trans (HB2.out.mono HB0.out.size))) HDC.out).mono ?_
      rintro e w3 ⟨rfl, hb3⟩
      have HB3 : Hid (Below w0.heap.size w0 w3) := below_on HB2.out hb3
      have HF3 : Hid (F.Fl w3 y.2.1 y.2.2.2) := (HX.out.fl.next (by rw [HW2.out]; exact (Below.refl _ _).alloc (Nat.le_refl _) _)).next hb3
      have KX3 : Hid (Bk wr.heap.size [.int .i64 y.1.1, .int .i64 y.1.2.1, .int .i64 y.1.2.2, .slice y.2.1 y.2.2.2.length y.2.2.1] w3) := KX.out.later hb3
      have HX3 : Hid (WhAt w3 b (off + k * 4) y) := (HX.out.next (by rw [HW2.out]; exact (Below.refl _ _).alloc (Nat.le_refl _) _)).next hb3
      have HOk : Hid (_) := wellOk_of (l := l) (p := y.1) (f := y.2.2.2)
      clear hb3 c0 c1 c2 c3 l0 l1 l2 KL2 HX
      have x0 := (KX3.out).c 0 rfl
      have x1 := (KX3.out).c 1 rfl
      have x2 := (KX3.out).c 2 rfl
      have x3 := (KX3.out).c 3 rfl
      obtain ⟨⟨mo, e0⟩, hM⟩ : ∃ x, wellM l y.1 = x := ⟨_, rfl⟩
      rw [hM] at HOk ⊢
      simp only at HOk ⊢
      clear hM
      by_cases he : e0 = 0
      rotate_left
      · have he2 : (e0 != 0) = true := by simp [he]
        have HQ : Hid (mayFill l (whp wl) = false) := HNo.out (by rw [HOk.out, decide_eq_false he]; rfl)
        clear he
        go_wp2
        go_ret
        exact ⟨ret_bool HQ.out.symm, HB0.out.trans (HB3.out.mono HB0.out.size)⟩
      subst he
      by_cases hf : y.2.2.2 = []
      · have hf2 := len0_true hf
        have HQ : Hid (mayFill l (whp wl) = false) := HNo.out (by rw [HOk.out, decide_eq_false (p := y.2.2.2 ≠ []) (fun h => h hf)]; simp)
        clear hf
        go_wp2
        go_ret
        exact ⟨ret_bool HQ.out.symm, HB0.out.trans (HB3.out.mono HB0.out.size)⟩
      have hf2 := len0_false hf
      have HOk2 : Hid (wellOk l (y.1, y.2.2.2) = mayHold y.2.2.2 mo) := by show _ = _; rw [HOk.out, decide_eq_true (p := y.2.2.2 ≠ []) hf]; rfl
      clear hf HOk
      go_wp2_with fail
      refine (mayHold_any y.2.1 y.2.2.1 y.2.2.2 mo w3 HF3.out).mono ?_
      rintro e w4 ⟨rfl, hb4⟩
      have HB4 : Hid (Below w0.heap.size w0 w4) := below_on HB3.out hb4
      have KX4 : Hid (Bk wr.heap.size [.int .i64 y.1.1, .int .i64 y.1.2.1, .int .i64 y.1.2.2, .slice y.2.1 y.2.2.2.length y.2.2.1] w4) := KX3.out.later hb4
      clear hb4 x0 x1 x2 x3 KX KX3 HF3
      have x0 := (KX4.out).c 0 rfl
      have x1 := (KX4.out).c 1 rfl
      have x2 := (KX4.out).c 2 rfl
      have x3 := (KX4.out).c 3 rfl
      cases hh : mayHold y.2.2.2 mo with
      | false =>
        have HQ : Hid (mayFill l (whp wl) = false) := HNo.out (by rw [HOk2.out, hh])
        clear hh
        go_wp2
        go_ret
        exact ⟨ret_bool HQ.out.symm, HB0.out.trans (HB4.out.mono HB0.out.size)⟩
      | true =>
      have HOk3 : Hid (wellOk l (y.1, y.2.2.2) = true) := by show _ = _; rw [HOk2.out, hh]
      clear hh HOk2 HNo
      rcases (show k = 0 ∨ ∃ j, k = j + 1 from by cases k with | zero => exact .inl rfl | succ j => exact .inr ⟨j, rfl⟩) with rfl | ⟨k, rfl⟩
      · have HS := (show Hid _ from fill_succ hlt HA.out HR.out (by rw [← HY.out]; exact HOk3.out) (fun j e => by omega))
        clear HX3 HY HA HR
        go_wp2
        go_big_quiet (fail)
        go_wp2
        go_roundw
        case rel => exact ⟨1, by omega, by go_num, HS.out.1, HS.out.2, blw_drewN HB4.out _⟩
        case measure => simp [intOf]; omega
      · have hkl : k < wl.length := by omega
        have hwr : IntKind.i64.wrap (k : Int) = (k : Int) := wrap_in (by omega) (by omega)
        obtain ⟨b', off', e1, hx'⟩ := (HW.out.next (HB0.out.trans (HB4.out.mono HB0.out.size))).at (show k < wl.length by omega)
        injection e1 with e1
        injection e1 with e2 e3 _
        subst e2 e3
        obtain ⟨x, hx⟩ : ∃ x, x = wl[k]'(by omega) := ⟨_, rfl⟩
        rw [← hx] at hx'
        have HX : Hid (WhAt w4 b (off + k * 4) x) := hx'
        have HS : Hid (pltB x.1 y.1 = true → _) := fun h => fill_succ hlt HA.out HR.out (by rw [← HY.out]; exact HOk3.out) (fun j e => by obtain rfl : k = j := (by omega); rw [← hx, ← HY.out]; exact h)
        have HU : Hid (pltB x.1 y.1 = false → mayFill l (whp wl) = false) := fun h => fill_unord hlt (by rw [← hx, ← HY.out]; exact h)
        have hge := cmpP_geq x.1 y.1
        have hkk1 : (0 : Int) < (k : Int) + 1 := by omega
        clear HX3 hx' hx HY HA HR x0 x1 x2 x3 HOk3
        have KX : Hid (Bk wr.heap.size [.int .i64 y.1.1, .int .i64 y.1.2.1, .int .i64 y.1.2.2, .slice y.2.1 y.2.2.2.length y.2.2.1] w4) := KX4.out
        go_wp2_with fail
        rename_i KK hkk
        have HKK := (show Hid _ from hkk)
        clear hkk
        cases hpl : pltB x.1 y.1 with
        | true =>
          have HS2 := (show Hid _ from HS.out hpl)
          rw [hpl] at hge
          clear hpl HS HU
          refine region_inv [false, false, false, false, false, false, false, false, false, false, false, false, false, false, false, false, false, false, false, false, false, false, false, false, false, false, false, false, false, false, false, false, false, false, false, false, false, false, true, true, true, true, true, true, true, true, true, true, true, true, false]
            [(38, [], none), (39, [38], none), (40, [39], none), (41, [40], some (40, true)), (42, [40], some (40, true)), (43, [40, 42], some (40, true)), (44, [40, 41, 43], some (40, true)), (45, [40, 44], some (40, true)), (46, [40], some (40, true)), (47, [40, 45, 46], some (40, true)), (48, [40, 47], some (40, true)), (49, [40, 48], none)]
            (mfV b off wl.length capW k x y false) (by kernel_rfl) (by kernel_rfl) (mfV_mono b off wl.length capW k x y false) ?_ ?_
          · refine ⟨?_, ?_, ?_, ?_, ?_, ?_, ?_, ?_, ?_, ?_, ?_, ?_, trivial⟩
            · intro f w1 hb _ K hK
              simp only [over, overL, Nat.reduceAdd]
              go_simp
              exact hK _ _ ⟨_, rfl, by simp only [over, overL, Nat.reduceAdd]; rfl, Below.refl _ _⟩
            · intro f w1 hb ⟨h38, _⟩ K hK
              replace h38 : f 38 = _ := h38
              simp only [over, overL, Nat.reduceAdd, h38]
              go_simp
              exact hK _ _ ⟨_, rfl, by simp only [over, overL, Nat.reduceAdd, h38]; rfl, Below.refl _ _⟩
            · intro f w1 hb ⟨h39, _⟩ K hK
              replace h39 : f 39 = _ := h39
              simp only [over, overL, Nat.reduceAdd, h39]
              go_simp
              exact hK _ _ ⟨_, rfl, by simp only [over, overL, Nat.reduceAdd, h39]; rfl, Below.refl _ _⟩
            · intro f w1 hb ⟨h40, _⟩
              replace h40 : f 40 = _ := h40
              refine ⟨fun _ => ?_, fun hg => absurd h40 hg⟩
              intro K hK
              simp only [over, overL, Nat.reduceAdd, h40]
              go_simp
              exact hK _ _ ⟨_, rfl, by simp only [over, overL, Nat.reduceAdd, h40]; rfl, Below.refl _ _⟩
            · intro f w1 hb ⟨h40, _⟩
              replace h40 : f 40 = _ := h40
              refine ⟨fun _ => ?_, fun hg => absurd h40 hg⟩
              intro K hK
              simp only [over, overL, Nat.reduceAdd, h40]
              go_simp
              exact hK _ _ ⟨_, rfl, by simp only [over, overL, Nat.reduceAdd, h40]; rfl, Below.refl _ _⟩
            · intro f w1 hb ⟨h40, h42, _⟩
              replace h40 : f 40 = _ := h40
              replace h42 : f 42 = _ := h42
              refine ⟨fun _ => ?_, fun hg => absurd h40 hg⟩
              intro K hK
              simp only [over, overL, Nat.reduceAdd, h40, h42]
              go_simp
              exact hK _ _ ⟨_, rfl, by simp only [over, overL, Nat.reduceAdd, h40, h42]; rfl, Below.refl _ _⟩
            · intro f w1 hb ⟨h40, h41, h43, _⟩
              replace h40 : f 40 = _ := h40
              replace h41 : f 41 = _ := h41
              replace h43 : f 43 = _ := h43
              refine ⟨fun _ => ?_, fun hg => absurd h40 hg⟩
              intro K hK
              simp only [over, overL, Nat.reduceAdd, h40, h41, h43]
              go_simp
              exact hK _ _ ⟨_, rfl, by simp only [over, overL, Nat.reduceAdd, h40, h41, h43]; rfl, Below.refl _ _⟩
            · intro f w1 hb ⟨h40, h44, _⟩
              replace h40 : f 40 = _ := h40
              replace h44 : f 44 = _ := h44
              refine ⟨fun _ => ?_, fun hg => absurd h40 hg⟩
              intro K hK
              obtain ⟨_, q0, q1, q2, q3, _⟩ := HX.out.next hb
              simp only [over, overL, Nat.reduceAdd, h40, h44]
              go_simp
              exact hK _ _ ⟨_, rfl, by simp only [over, overL, Nat.reduceAdd, h40, h44]; rfl, Below.refl _ _⟩
            · intro f w1 hb ⟨h40, _⟩
              replace h40 : f 40 = _ := h40
              refine ⟨fun _ => ?_, fun hg => absurd h40 hg⟩
              intro K hK
              have q0 := (KX.out.later hb).c 0 rfl
              have q1 := (KX.out.later hb).c 1 rfl
              have q2 := (KX.out.later hb).c 2 rfl
              have q3 := (KX.out.later hb).c 3 rfl
              simp only [over, overL, Nat.reduceAdd, h40]
              go_simp
              exact hK _ _ ⟨_, rfl, by simp only [over, overL, Nat.reduceAdd, h40]; rfl, Below.refl _ _⟩
            · intro f w1 hb ⟨h40, h45, h46, _⟩
              replace h40 : f 40 = _ := h40
              replace h45 : f 45 = _ := h45
              replace h46 : f 46 = _ := h46
              refine ⟨fun _ => ?_, fun hg => absurd h40 hg⟩
              intro K hK
              simp only [over, overL, Nat.reduceAdd, h40, h45, h46]
              go_simp
              refine (byPlace_any x y w1).mono ?_
              rintro e w2 ⟨rfl, hb2, _⟩
              exact hK _ _ ⟨_, rfl, by simp only [over, overL, Nat.reduceAdd, h40, h45, h46]; rfl, hb2⟩
            · intro f w1 hb ⟨h40, h47, _⟩
              replace h40 : f 40 = _ := h40
              replace h47 : f 47 = _ := h47
              refine ⟨fun _ => ?_, fun hg => absurd h40 hg⟩
              intro K hK
              simp only [over, overL, Nat.reduceAdd, h40, h47]
              go_simp
              exact hK _ _ ⟨_, rfl, by simp only [over, overL, Nat.reduceAdd, h40, h47]; rfl, Below.refl _ _⟩
            · intro f w1 hb ⟨h40, h48, _⟩ K hK
              replace h40 : f 40 = _ := h40
              replace h48 : f 48 = _ := h48
              simp only [over, overL, Nat.reduceAdd, h40, h48]
              go_simp
              exact hK _ _ ⟨_, rfl, by simp only [over, overL, Nat.reduceAdd, h40, h48]; rfl, Below.refl _ _⟩
          intro f w5 hb5 hv
          have h49 : f 49 = .bool false := hv.2.2.2.2.2.2.2.2.2.2.2.1
          have HB5 : Hid (Below w0.heap.size w0 w5) := below_on HB4.out hb5
          clear hb5 hv
          simp only [over, overL, Nat.reduceAdd, h49]
          clear h49 hge
          refine HKK.out _ _ ?_
          go_wp2
          go_roundw
          case rel => exact ⟨k + 1 + 1, by omega, by go_num, HS2.out.1, HS2.out.2, HB5.out⟩
          case measure => simp [intOf]; omega
        | false =>
          have HQ : Hid (mayFill l (whp wl) = false) := HU.out hpl
          rw [hpl] at hge
          clear hpl HS HU
          refine region_inv [false, false, false, false, false, false, false, false, false, false, false, false, false, false, false, false, false, false, false, false, false, false, false, false, false, false, false, false, false, false, false, false, false, false, false, false, false, false, true, true, true, true, true, true, true, true, true, true, true, true, false]
            [(38, [], none), (39, [38], none), (40, [39], none), (41, [40], some (40, true)), (42, [40], some (40, true)), (43, [40, 42], some (40, true)), (44, [40, 41, 43], some (40, true)), (45, [40, 44], some (40, true)), (46, [40], some (40, true)), (47, [40, 45, 46], some (40, true)), (48, [40, 47], some (40, true)), (49, [40, 48], none)]
            (mfV b off wl.length capW k x y true) (by kernel_rfl) (by kernel_rfl) (mfV_mono b off wl.length capW k x y true) ?_ ?_
          · refine ⟨?_, ?_, ?_, ?_, ?_, ?_, ?_, ?_, ?_, ?_, ?_, ?_, trivial⟩
            · intro f w1 hb _ K hK
              simp only [over, overL, Nat.reduceAdd]
              go_simp
              exact hK _ _ ⟨_, rfl, by simp only [over, overL, Nat.reduceAdd]; rfl, Below.refl _ _⟩
            · intro f w1 hb ⟨h38, _⟩ K hK
              replace h38 : f 38 = _ := h38
              simp only [over, overL, Nat.reduceAdd, h38]
              go_simp
              exact hK _ _ ⟨_, rfl, by simp only [over, overL, Nat.reduceAdd, h38]; rfl, Below.refl _ _⟩
            · intro f w1 hb ⟨h39, _⟩ K hK
              replace h39 : f 39 = _ := h39
              simp only [over, overL, Nat.reduceAdd, h39]
              go_simp
              exact hK _ _ ⟨_, rfl, by simp only [over, overL, Nat.reduceAdd, h39]; rfl, Below.refl _ _⟩
            · intro f w1 hb ⟨h40, _⟩
              replace h40 : f 40 = _ := h40
              refine ⟨fun _ => ?_, fun hg => absurd h40 hg⟩
              intro K hK
              simp only [over, overL, Nat.reduceAdd, h40]
              go_simp
              exact hK _ _ ⟨_, rfl, by simp only [over, overL, Nat.reduceAdd, h40]; rfl, Below.refl _ _⟩
            · intro f w1 hb ⟨h40, _⟩
              replace h40 : f 40 = _ := h40
              refine ⟨fun _ => ?_, fun hg => absurd h40 hg⟩
              intro K hK
              simp only [over, overL, Nat.reduceAdd, h40]
              go_simp
              exact hK _ _ ⟨_, rfl, by simp only [over, overL, Nat.reduceAdd, h40]; rfl, Below.refl _ _⟩
            · intro f w1 hb ⟨h40, h42, _⟩
              replace h40 : f 40 = _ := h40
              replace h42 : f 42 = _ := h42
              refine ⟨fun _ => ?_, fun hg => absurd h40 hg⟩
              intro K hK
              simp only [over, overL, Nat.reduceAdd, h40, h42]
              go_simp
              exact hK _ _ ⟨_, rfl, by simp only [over, overL, Nat.reduceAdd, h40, h42]; rfl, Below.refl _ _⟩
            · intro f w1 hb ⟨h40, h41, h43, _⟩
              replace h40 : f 40 = _ := h40
              replace h41 : f 41 = _ := h41
              replace h43 : f 43 = _ := h43
              refine ⟨fun _ => ?_, fun hg => absurd h40 hg⟩
              intro K hK
              simp only [over, overL, Nat.reduceAdd, h40, h41, h43]
              go_simp
              exact hK _ _ ⟨_, rfl, by simp only [over, overL, Nat.reduceAdd, h40, h41, h43]; rfl, Below.refl _ _⟩
            · intro f w1 hb ⟨h40, h44, _⟩
              replace h40 : f 40 = _ := h40
              replace h44 : f 44 = _ := h44
              refine ⟨fun _ => ?_, fun hg => absurd h40 hg⟩
              intro K hK
              obtain ⟨_, q0, q1, q2, q3, _⟩ := HX.out.next hb
              simp only [over, overL, Nat.reduceAdd, h40, h44]
              go_simp
              exact hK _ _ ⟨_, rfl, by simp only [over, overL, Nat.reduceAdd, h40, h44]; rfl, Below.refl _ _⟩
            · intro f w1 hb ⟨h40, _⟩
              replace h40 : f 40 = _ := h40
              refine ⟨fun _ => ?_, fun hg => absurd h40 hg⟩
              intro K hK
              have q0 := (KX.out.later hb).c 0 rfl
              have q1 := (KX.out.later hb).c 1 rfl
              have q2 := (KX.out.later hb).c 2 rfl
              have q3 := (KX.out.later hb).c 3 rfl
              simp only [over, overL, Nat.reduceAdd, h40]
              go_simp
              exact hK _ _ ⟨_, rfl, by simp only [over, overL, Nat.reduceAdd, h40]; rfl, Below.refl _ _⟩
            · intro f w1 hb ⟨h40, h45, h46, _⟩
              replace h40 : f 40 = _ := h40
              replace h45 : f 45 = _ := h45
              replace h46 : f 46 = _ := h46
              refine ⟨fun _ => ?_, fun hg => absurd h40 hg⟩
              intro K hK
              simp only [over, overL, Nat.reduceAdd, h40, h45, h46]
              go_simp
              refine (byPlace_any x y w1).mono ?_
              rintro e w2 ⟨rfl, hb2, _⟩
              exact hK _ _ ⟨_, rfl, by simp only [over, overL, Nat.reduceAdd, h40, h45, h46]; rfl, hb2⟩
            · intro f w1 hb ⟨h40, h47, _⟩
              replace h40 : f 40 = _ := h40
              replace h47 : f 47 = _ := h47
              refine ⟨fun _ => ?_, fun hg => absurd h40 hg⟩
              intro K hK
              simp only [over, overL, Nat.reduceAdd, h40, h47]
              go_simp
              exact hK _ _ ⟨_, rfl, by simp only [over, overL, Nat.reduceAdd, h40, h47]; rfl, Below.refl _ _⟩
            · intro f w1 hb ⟨h40, h48, _⟩ K hK
              replace h40 : f 40 = _ := h40
              replace h48 : f 48 = _ := h48
              simp only [over, overL, Nat.reduceAdd, h40, h48]
              go_simp
              exact hK _ _ ⟨_, rfl, by simp only [over, overL, Nat.reduceAdd, h40, h48]; rfl, Below.refl _ _⟩
          intro f w5 hb5 hv
          have h49 : f 49 = .bool true := hv.2.2.2.2.2.2.2.2.2.2.2.1
          have HB5 : Hid (Below w0.heap.size w0 w5) := below_on HB4.out hb5
          clear hb5 hv
          simp only [over, overL, Nat.reduceAdd, h49]
          clear h49 hge
          refine HKK.out _ _ ?_
          go_wp2
          go_ret
          exact ⟨ret_bool HQ.out.symm, HB0.out.trans (HB5.out.mono HB0.out.size)⟩
end Go.Proofs.YtgbnjgenopdmfaaGreat

/- may, May walked. -/
namespace Go.Proofs.YtgbnjgenopdmfaaGreat
open Go.RowKit
/-- The bounds of lengths that a state handed in keeps to. -/
structure SmLen (m : Sm) : Prop where
  wells : m.wl.length ≤ 9223372036854775807
  touched : m.touched.length ≤ 9223372036854775807
set_option maxHeartbeats 3200000 in
theorem may_any (ao : Option Addr) (cap : Nat) (l : List Sit) (m : Sm) (w : World) (hD : Dk w ao cap l) (hd : dchk l = 0) (hS : SmIn w m) (hl : SmLen m) :
    Calls Tryz.prog 36 #[layv ao cap l, smv m] w fun e w' => e = .returned (.bool (mayB l m.st)) ∧ Below w.heap.size w w' := by
  have HS : Hid (SmIn w m) := hS
  have HD : Hid (Dk w ao cap l) := hD
  have HDC : Hid (dchk l = 0) := hd
  have HL : Hid (SmLen m) := hl
  clear hS hD hd hl
  obtain ⟨w0, hw0⟩ : ∃ w0, w0 = (w.alloc (layo ao cap l)).alloc (smo m) := ⟨_, rfl⟩
  have HB : Hid (Below w.heap.size w w0) := by show Below _ _ _; rw [hw0]; exact ((Below.refl _ _).alloc (Nat.le_refl _) _).alloc (by simp) _
  have KL : Hid (Bk w.heap.size (lal ao cap l) w0) := by show Bk _ _ _; rw [hw0]; exact (Bk.new w (lal ao cap l) 78 w.heap.size rfl).later ((Below.refl _ _).alloc (Nat.le_refl _) _)
  have KS : Hid (Bk (w.heap.size + 1) (sml m) w0) := by show Bk _ _ _; rw [hw0]; exact Bk.new (w.alloc _) (sml m) 40 (w.heap.size + 1) (by simp)
  have HW0 : Hid (w0 = (w.alloc (layo ao cap l)).alloc (smo m)) := hw0
  have HQ : Hid (mayB l m.st = (mayFill l (whp m.wl) && (mayTake l m.st && (inR 0 1000000000 m.heat && inR 0 1000000000 m.clock)))) := rfl
  clear hw0
  go_enter Tryz.func36, Tryz.ntmps36
  go_wp2_with fail
  rw [← HW0.out]
  refine (mayFill_any ao cap l m.aoW m.capW m.wl w0 (HD.out.next HB.out) HDC.out (HS.out.next HB.out).wells HL.out.wells).mono ?_
  rintro e w1 ⟨rfl, hb1⟩
  have HB1 : Hid (Below w.heap.size w w1) := HB.out.trans (hb1.mono HB.out.size)
  have KL1 : Hid (Bk w.heap.size (lal ao cap l) w1) := KL.out.later hb1
  have KS1 : Hid (Bk (w.heap.size + 1) (sml m) w1) := KS.out.later hb1
  clear hb1 KL KS HW0
  cases h1 : mayFill l (whp m.wl) with
  | false =>
    rw [h1] at HQ
    go_wp2
    go_ret
    exact ⟨ret_bool HQ.out.symm, HB1.out⟩
  | true =>
    rw [h1] at HQ
    clear h1
    have y0 := (KL1.out).c 0 rfl
    have y1 := (KL1.out).c 1 rfl
    have y2 := (KL1.out).c 2 rfl
    have s0 := (KS1.out).c 0 rfl
    have s1 := (KS1.out).c 1 rfl
    have s2 := (KS1.out).c 2 rfl
    have s3 := (KS1.out).c 3 rfl
    have s4 := (KS1.out).c 4 rfl
    have s5 := (KS1.out).c 5 rfl
    have s6 := (KS1.out).c 6 rfl
    go_wp2_with fail
    refine (mayTake_any ao cap l m w1 (HS.out.next HB1.out) HL.out.touched).mono ?_
    rintro e w2 ⟨rfl, hb2⟩
    have HB2 : Hid (Below w.heap.size w w2) := HB1.out.trans (hb2.mono HB1.out.size)
    have KS2 : Hid (Bk (w.heap.size + 1) (sml m) w2) := KS1.out.later hb2
    clear hb2 KL1 KS1 y0 y1 y2 s0 s1 s2 s3 s4 s5 s6
    have s0 := (KS2.out).c 0 rfl
    have s1 := (KS2.out).c 1 rfl
    have s2 := (KS2.out).c 2 rfl
    have s3 := (KS2.out).c 3 rfl
    have s4 := (KS2.out).c 4 rfl
    have s5 := (KS2.out).c 5 rfl
    have s6 := (KS2.out).c 6 rfl
    cases h2 : mayTake l m.st with
    | false =>
      rw [h2] at HQ
      go_wp2
      go_ret
      exact ⟨ret_bool HQ.out.symm, HB2.out⟩
    | true =>
      rw [h2] at HQ
      clear h2
      go_wp2_with fail
      refine (mwithin_any 0 m.heat 1000000000 w2).mono ?_
      rintro e w3 ⟨rfl, rfl⟩
      cases h3 : inR 0 1000000000 m.heat with
      | false =>
        rw [h3] at HQ
        go_wp2
        go_ret
        exact ⟨ret_bool HQ.out.symm, HB2.out⟩
      | true =>
        rw [h3] at HQ
        clear h3
        go_wp2_with fail
        refine (mwithin_any 0 m.clock 1000000000 _).mono ?_
        rintro e w3 ⟨rfl, rfl⟩
        go_wp2
        go_ret
        exact ⟨ret_bool HQ.out.symm, HB2.out⟩
def myV (ao : Option Addr) (cap : Nat) (l : List Sit) (m : Sm) (d : Nat) (v : Value) (_ : World) : Prop :=
  match d with
  | 5 => v = .slice ao l.length cap
  | 6 => v = .int .i64 (dchk l)
  | 7 => v = .bool true
  | 8 => v = .bool true
  | 9 => v = .slice ao l.length cap
  | 10 => v = layv ao cap l
  | 11 => v = .agg #[.slice m.aoW m.wl.length m.capW, .bool m.tip, .slice m.aoH m.held.length m.capH, .slice m.aoT m.touched.length m.capT, .int .i64 m.used, .int .i64 m.heat, .int .i64 m.clock]
  | 12 => v = .bool (mayB l m.st)
  | 13 => v = .bool (mayB l m.st)
  | 4 => v = .bool (mayB l m.st)
  | _ => True
theorem myV_mono (ao : Option Addr) (cap : Nat) (l : List Sit) (m : Sm) (d : Nat) (v : Value) (w w' : World) (h : myV ao cap l m d v w) (_ : Below w.heap.size w w') : myV ao cap l m d v w' := h
def mzV (ao : Option Addr) (cap : Nat) (l : List Sit) (d : Nat) (v : Value) (_ : World) : Prop :=
  match d with
  | 5 => v = .slice ao l.length cap
  | 6 => v = .int .i64 (dchk l)
  | 7 => v = .bool false
  | 8 => v = .bool false
  | 13 => v = .bool false
  | 4 => v = .bool false
  | _ => True
theorem mzV_mono (ao : Option Addr) (cap : Nat) (l : List Sit) (d : Nat) (v : Value) (w w' : World) (h : mzV ao cap l d v w) (_ : Below w.heap.size w w') : mzV ao cap l d v w' := h
set_option maxHeartbeats 3200000 in
set_option maxRecDepth 100000 in
theorem mayF_any (ao : Option Addr) (cap : Nat) (l : List Sit) (m : Sm) (w : World) (hD : Dk w ao cap l) (hln : l.length ≤ 9223372036854775807) (hS : SmIn w m) (hl : SmLen m) :
    Calls Tryz.prog 16 #[.slice ao l.length cap, smv m] w fun e w' => e = .returned (.bool (mayS l m.st)) ∧ Below w.heap.size w w' := by
  have HS : Hid (SmIn w m) := hS
  have HD : Hid (Dk w ao cap l) := hD
  have HL : Hid (SmLen m) := hl
  clear hS hD hl
  obtain ⟨w0, hw0⟩ : ∃ w0, w0 = w.alloc (smo m) := ⟨_, rfl⟩
  have HB : Hid (Below w.heap.size w w0) := by show Below _ _ _; rw [hw0]; exact (Below.refl _ _).alloc (Nat.le_refl _) _
  have KS : Hid (Bk w.heap.size (sml m) w0) := by show Bk _ _ _; rw [hw0]; exact Bk.new w (sml m) 40 w.heap.size rfl
  have HW0 : Hid (w0 = w.alloc (smo m)) := hw0
  clear hw0
  by_cases hd : dchk l = 0
  · have HDC : Hid (dchk l = 0) := hd
    have HQ : Hid (mayS l m.st = mayB l m.st) := by show _ = _; unfold mayS; rw [decide_eq_true hd]; rfl
    have hde : (dchk l == 0) = true := by simp [hd]
    clear hd
    go_enter Tryz.func16, Tryz.ntmps16
    go_wp2_with fail
    rename_i KK hkk
    have HKK := (show Hid _ from hkk)
    clear hkk
    rw [← HW0.out]
    refine region_inv [false, false, false, false, true, true, true, true, true, true, true, true, true, true]
      [(5, [], none), (6, [5], none), (7, [6], none), (8, [7], none), (9, [8], some (8, true)), (10, [8, 9], some (8, true)), (11, [8], some (8, true)), (12, [8, 10, 11], some (8, true)), (13, [8, 12], none), (4, [13], none)]
      (myV ao cap l m) (by kernel_rfl) (by kernel_rfl) (myV_mono ao cap l m) ?_ ?_
    · refine ⟨?_, ?_, ?_, ?_, ?_, ?_, ?_, ?_, ?_, ?_, trivial⟩
      · intro f w1 hb _ K hK
        simp only [over, overL, Nat.reduceAdd]
        go_simp
        exact hK _ _ ⟨_, rfl, by simp only [over, overL, Nat.reduceAdd]; rfl, Below.refl _ _⟩
      · intro f w1 hb ⟨h5, _⟩ K hK
        replace h5 : f 5 = _ := h5
        simp only [over, overL, Nat.reduceAdd, h5]
        go_simp
        refine (dk_check ao cap l w1 (HD.out.next (HB.out.trans (hb.mono HB.out.size))) (by omega)).mono ?_
        rintro e w2 ⟨rfl, hb2⟩
        exact hK _ _ ⟨_, rfl, by simp only [over, overL, Nat.reduceAdd, h5]; rfl, hb2⟩
      · intro f w1 hb ⟨h6, _⟩ K hK
        replace h6 : f 6 = _ := h6
        simp only [over, overL, Nat.reduceAdd, h6]
        go_simp
        exact hK _ _ ⟨_, rfl, by simp only [over, overL, Nat.reduceAdd, h6]; rfl, Below.refl _ _⟩
      · intro f w1 hb ⟨h7, _⟩ K hK
        replace h7 : f 7 = _ := h7
        simp only [over, overL, Nat.reduceAdd, h7]
        go_simp
        exact hK _ _ ⟨_, rfl, by simp only [over, overL, Nat.reduceAdd, h7]; rfl, Below.refl _ _⟩
      · intro f w1 hb ⟨h8, _⟩
        replace h8 : f 8 = _ := h8
        refine ⟨fun _ => ?_, fun hg => absurd h8 hg⟩
        intro K hK
        simp only [over, overL, Nat.reduceAdd, h8]
        go_simp
        exact hK _ _ ⟨_, rfl, by simp only [over, overL, Nat.reduceAdd, h8]; rfl, Below.refl _ _⟩
      · intro f w1 hb ⟨h8, h9, _⟩
        replace h8 : f 8 = _ := h8
        replace h9 : f 9 = _ := h9
        refine ⟨fun _ => ?_, fun hg => absurd h8 hg⟩
        intro K hK
        simp only [over, overL, Nat.reduceAdd, h8, h9]
        go_simp
        refine (newLayout_any ao cap l w1 (HD.out.next (HB.out.trans (hb.mono HB.out.size))) HDC.out).mono ?_
        rintro e w2 ⟨rfl, hb2⟩
        exact hK _ _ ⟨_, rfl, by simp only [over, overL, Nat.reduceAdd, h8, h9]; rfl, hb2⟩
      · intro f w1 hb ⟨h8, _⟩
        replace h8 : f 8 = _ := h8
        refine ⟨fun _ => ?_, fun hg => absurd h8 hg⟩
        intro K hK
        have q0 := (KS.out.later hb).c 0 rfl
        have q1 := (KS.out.later hb).c 1 rfl
        have q2 := (KS.out.later hb).c 2 rfl
        have q3 := (KS.out.later hb).c 3 rfl
        have q4 := (KS.out.later hb).c 4 rfl
        have q5 := (KS.out.later hb).c 5 rfl
        have q6 := (KS.out.later hb).c 6 rfl
        simp only [over, overL, Nat.reduceAdd, h8]
        go_simp
        exact hK _ _ ⟨_, rfl, by simp only [over, overL, Nat.reduceAdd, h8]; rfl, Below.refl _ _⟩
      · intro f w1 hb ⟨h8, h10, h11, _⟩
        replace h8 : f 8 = _ := h8
        replace h10 : f 10 = _ := h10
        replace h11 : f 11 = _ := h11
        refine ⟨fun _ => ?_, fun hg => absurd h8 hg⟩
        intro K hK
        simp only [over, overL, Nat.reduceAdd, h8, h10, h11]
        go_simp
        refine (may_any ao cap l m w1 (HD.out.next (HB.out.trans (hb.mono HB.out.size))) HDC.out (HS.out.next (HB.out.trans (hb.mono HB.out.size))) HL.out).mono ?_
        rintro e w2 ⟨rfl, hb2⟩
        exact hK _ _ ⟨_, rfl, by simp only [over, overL, Nat.reduceAdd, h8, h10, h11]; rfl, hb2⟩
      · intro f w1 hb ⟨h8, h12, _⟩ K hK
        replace h8 : f 8 = _ := h8
        replace h12 : f 12 = _ := h12
        simp only [over, overL, Nat.reduceAdd, h8, h12]
        go_simp
        exact hK _ _ ⟨_, rfl, by simp only [over, overL, Nat.reduceAdd, h8, h12]; rfl, Below.refl _ _⟩
      · intro f w1 hb ⟨h13, _⟩ K hK
        replace h13 : f 13 = _ := h13
        simp only [over, overL, Nat.reduceAdd, h13]
        go_simp
        exact hK _ _ ⟨_, rfl, by simp only [over, overL, Nat.reduceAdd, h13]; rfl, Below.refl _ _⟩
    intro f w5 hb5 hv
    have h4 : f 4 = .bool (mayB l m.st) := hv.2.2.2.2.2.2.2.2.2.1
    have HB5 : Hid (Below w.heap.size w w5) := HB.out.trans (hb5.mono HB.out.size)
    clear hb5 hv
    simp only [over, overL, Nat.reduceAdd, h4]
    clear h4
    refine HKK.out _ _ ?_
    go_wp2
    go_ret
    exact ⟨ret_bool HQ.out.symm, HB5.out⟩
  · have HQ : Hid (mayS l m.st = false) := by show _ = _; unfold mayS; rw [decide_eq_false hd]; rfl
    have hde : (dchk l == 0) = false := by simp [hd]
    clear hd
    go_enter Tryz.func16, Tryz.ntmps16
    go_wp2_with fail
    rename_i KK hkk
    have HKK := (show Hid _ from hkk)
    clear hkk
    rw [← HW0.out]
    refine region_inv [false, false, false, false, true, true, true, true, true, true, true, true, true, true]
      [(5, [], none), (6, [5], none), (7, [6], none), (8, [7], none), (9, [8], some (8, true)), (10, [8, 9], some (8, true)), (11, [8], some (8, true)), (12, [8, 10, 11], some (8, true)), (13, [8, 12], none), (4, [13], none)]
      (mzV ao cap l) (by kernel_rfl) (by kernel_rfl) (mzV_mono ao cap l) ?_ ?_
    · refine ⟨?_, ?_, ?_, ?_, ?_, ?_, ?_, ?_, ?_, ?_, trivial⟩
      · intro f w1 hb _ K hK
        simp only [over, overL, Nat.reduceAdd]
        go_simp
        exact hK _ _ ⟨_, rfl, by simp only [over, overL, Nat.reduceAdd]; rfl, Below.refl _ _⟩
      · intro f w1 hb ⟨h5, _⟩ K hK
        replace h5 : f 5 = _ := h5
        simp only [over, overL, Nat.reduceAdd, h5]
        go_simp
        refine (dk_check ao cap l w1 (HD.out.next (HB.out.trans (hb.mono HB.out.size))) (by omega)).mono ?_
        rintro e w2 ⟨rfl, hb2⟩
        exact hK _ _ ⟨_, rfl, by simp only [over, overL, Nat.reduceAdd, h5]; rfl, hb2⟩
      · intro f w1 hb ⟨h6, _⟩ K hK
        replace h6 : f 6 = _ := h6
        simp only [over, overL, Nat.reduceAdd, h6]
        go_simp
        exact hK _ _ ⟨_, rfl, by simp only [over, overL, Nat.reduceAdd, h6]; rfl, Below.refl _ _⟩
      · intro f w1 hb ⟨h7, _⟩ K hK
        replace h7 : f 7 = _ := h7
        simp only [over, overL, Nat.reduceAdd, h7]
        go_simp
        exact hK _ _ ⟨_, rfl, by simp only [over, overL, Nat.reduceAdd, h7]; rfl, Below.refl _ _⟩
      · intro f w1 hb ⟨h8, _⟩
        replace h8 : f 8 = _ := h8
        exact ⟨fun hg => absurd (h8.symm.trans hg) (by simp), fun _ => trivial⟩
      · intro f w1 hb ⟨h8, h9, _⟩
        replace h8 : f 8 = _ := h8
        exact ⟨fun hg => absurd (h8.symm.trans hg) (by simp), fun _ => trivial⟩
      · intro f w1 hb ⟨h8, _⟩
        replace h8 : f 8 = _ := h8
        exact ⟨fun hg => absurd (h8.symm.trans hg) (by simp), fun _ => trivial⟩
      · intro f w1 hb ⟨h8, h10, h11, _⟩
        replace h8 : f 8 = _ := h8
        exact ⟨fun hg => absurd (h8.symm.trans hg) (by simp), fun _ => trivial⟩
      · intro f w1 hb ⟨h8, h12, _⟩ K hK
        replace h8 : f 8 = _ := h8
        simp only [over, overL, Nat.reduceAdd, h8]
        go_simp
        exact hK _ _ ⟨_, rfl, by simp only [over, overL, Nat.reduceAdd, h8]; rfl, Below.refl _ _⟩
      · intro f w1 hb ⟨h13, _⟩ K hK
        replace h13 : f 13 = _ := h13
        simp only [over, overL, Nat.reduceAdd, h13]
        go_simp
        exact hK _ _ ⟨_, rfl, by simp only [over, overL, Nat.reduceAdd, h13]; rfl, Below.refl _ _⟩
    intro f w5 hb5 hv
    have h4 : f 4 = .bool false := hv.2.2.2.2.2.2.2.2.2.1
    have HB5 : Hid (Below w.heap.size w w5) := HB.out.trans (hb5.mono HB.out.size)
    clear hb5 hv
    simp only [over, overL, Nat.reduceAdd, h4]
    clear h4
    refine HKK.out _ _ ?_
    go_wp2
    go_ret
    exact ⟨ret_bool HQ.out.symm, HB5.out⟩
end Go.Proofs.YtgbnjgenopdmfaaGreat
