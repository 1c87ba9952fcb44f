/- Parcels, plainly: labels, refusals, totals, plain forms, drawing; no Go in sight. -/
namespace Go.Proofs.Ythfchkclojnfmaa

/-- A parcel: its label and its volume. -/
abbrev Pc := ByteArray × Int

/-- May this byte stand at place k of a label? -/
def okAt (b : UInt8) (k : Nat) : Bool :=
  decide (97 ≤ b.toNat ∧ b.toNat ≤ 122) || (decide (0 < k) && decide (48 ≤ b.toNat ∧ b.toNat ≤ 57))
/-- May a text be a label? -/
def lab (s : ByteArray) : Bool := decide (1 ≤ s.size) && decide (s.size ≤ 16) && decide (∀ k (h : k < s.size), okAt (s[k]'h) k = true)

theorem lab_short {s : ByteArray} (h : s.size < 1) : lab s = false := by
  unfold lab; rw [decide_eq_false (by omega : ¬ 1 ≤ s.size)]; simp
theorem lab_long {s : ByteArray} (h : 16 < s.size) : lab s = false := by
  unfold lab; rw [decide_eq_false (by omega : ¬ s.size ≤ 16)]; simp
theorem lab_bad {s : ByteArray} {k : Nat} (h : k < s.size) (hb : okAt (s[k]'h) k = false) : lab s = false := by
  unfold lab
  rw [decide_eq_false (p := ∀ k (h : k < s.size), okAt (s[k]'h) k = true) (fun hh => by rw [hh k h] at hb; cases hb)]; simp
theorem lab_good {s : ByteArray} (h1 : 1 ≤ s.size) (h2 : s.size ≤ 16) (h : ∀ k (h : k < s.size), okAt (s[k]'h) k = true) : lab s = true := by
  unfold lab; rw [decide_eq_true h1, decide_eq_true h2, decide_eq_true h]; rfl
theorem lab_in {s : ByteArray} (h : lab s = true) : 1 ≤ s.size ∧ s.size ≤ 16 := by
  unfold lab at h
  simp only [Bool.and_eq_true, decide_eq_true_eq] at h
  exact h.1

/-- What is wrong with a parcel. -/
def bad1 (p : Pc) : Int := if lab p.1 = true then (if 0 ≤ p.2 ∧ p.2 ≤ 1000000000 then 0 else 2) else 3
/-- What is wrong with the first parcel that may not be. -/
def badL : List Pc → Int
  | [] => 0
  | p :: r => if bad1 p = 0 then badL r else bad1 p
/-- All volumes together. -/
def tot : List Pc → Int
  | [] => 0
  | p :: r => p.2 + tot r
/-- What is wrong with a fluid. -/
def fref (ps : List Pc) : Int := if 100 < ps.length then 7 else if badL ps = 0 then (if 1000000000 < tot ps then 8 else 0) else badL ps
/-- What is wrong with the first fluid that may not be. -/
def frefs : List (List Pc) → Int
  | [] => 0
  | f :: r => if fref f = 0 then frefs r else fref f

theorem bad1_name {p : Pc} (h : lab p.1 = false) : bad1 p = 3 := by unfold bad1; rw [h]; rfl
theorem bad1_range {p : Pc} (h : lab p.1 = true) (h2 : p.2 < 0 ∨ 1000000000 < p.2) : bad1 p = 2 := by unfold bad1; rw [if_pos h, if_neg (by omega)]
theorem bad1_ok {p : Pc} (h : lab p.1 = true) (h2 : 0 ≤ p.2) (h3 : p.2 ≤ 1000000000) : bad1 p = 0 := by unfold bad1; rw [if_pos h, if_pos ⟨h2, h3⟩]
theorem bad1_in {p : Pc} (h : bad1 p = 0) : lab p.1 = true ∧ 0 ≤ p.2 ∧ p.2 ≤ 1000000000 := by
  unfold bad1 at h
  split at h
  · split at h
    · refine ⟨by assumption, ?_⟩; assumption
    · omega
  · omega

theorem tot_append (a b : List Pc) : tot (a ++ b) = tot a + tot b := by
  induction a with
  | nil => simp [tot]
  | cons p a ih => simp only [List.cons_append, tot, ih]; omega
theorem tot_snoc (a : List Pc) (p : Pc) : tot (a ++ [p]) = tot a + p.2 := by rw [tot_append]; simp [tot]

theorem badL_append_ok {a b : List Pc} (h : badL a = 0) : badL (a ++ b) = badL b := by
  induction a with
  | nil => rfl
  | cons p a ih =>
    simp only [badL] at h
    split at h
    · rename_i hp; simp only [List.cons_append, badL]; rw [if_pos hp]; exact ih h
    · rename_i hp; exact absurd h hp
theorem badL_first {a b : List Pc} {p : Pc} (h : badL a = 0) (hp : bad1 p ≠ 0) : badL (a ++ p :: b) = bad1 p := by
  rw [badL_append_ok h]; simp only [badL]; rw [if_neg hp]
theorem badL_snoc {a : List Pc} {p : Pc} (h : badL a = 0) (hp : bad1 p = 0) : badL (a ++ [p]) = 0 := by
  rw [badL_append_ok h]; simp only [badL]; rw [if_pos hp]
theorem badL_in {a : List Pc} (h : badL a = 0) : ∀ p ∈ a, bad1 p = 0 := by
  induction a with
  | nil => intro p hp; cases hp
  | cons q a ih =>
    simp only [badL] at h
    split at h
    · intro p hp
      rcases List.mem_cons.1 hp with rfl | hp
      · assumption
      · exact ih h p hp
    · rename_i hp; exact absurd h hp
theorem badL_of {a : List Pc} (h : ∀ p ∈ a, bad1 p = 0) : badL a = 0 := by
  induction a with
  | nil => rfl
  | cons q a ih =>
    simp only [badL]; rw [if_pos (h q (by simp))]; exact ih (fun p hp => h p (by simp [hp]))

/-- All volumes from 0 on. -/
def Nn (ps : List Pc) : Prop := ∀ p ∈ ps, 0 ≤ p.2
/-- All labels may be, all volumes from 0 to the greatest. -/
def Fine (ps : List Pc) : Prop := ∀ p ∈ ps, lab p.1 = true ∧ 0 ≤ p.2 ∧ p.2 ≤ 1000000000
theorem Fine.nn {ps : List Pc} (h : Fine ps) : Nn ps := fun p hp => (h p hp).2.1
theorem fine_of {ps : List Pc} (h : badL ps = 0) : Fine ps := fun p hp => bad1_in (badL_in h p hp)
theorem of_fine {ps : List Pc} (h : Fine ps) : badL ps = 0 := badL_of fun p hp => bad1_ok (h p hp).1 (h p hp).2.1 (h p hp).2.2

theorem tot_nonneg {ps : List Pc} (h : Nn ps) : 0 ≤ tot ps := by
  induction ps with
  | nil => simp [tot]
  | cons p ps ih =>
    have := h p (by simp)
    have := ih (fun q hq => h q (by simp [hq]))
    simp only [tot]; omega
theorem tot_le {ps : List Pc} (h : Fine ps) : tot ps ≤ 1000000000 * ps.length := by
  induction ps with
  | nil => simp [tot]
  | cons p ps ih =>
    have := h p (by simp)
    have := ih (fun q hq => h q (by simp [hq]))
    simp only [tot, List.length_cons]; omega
theorem tot_take_le {ps : List Pc} (h : Nn ps) (k : Nat) : tot (ps.take k) ≤ tot ps := by
  have e := tot_append (ps.take k) (ps.drop k)
  rw [List.take_append_drop] at e
  have := tot_nonneg (ps := ps.drop k) (fun p hp => h p (List.mem_of_mem_drop hp))
  omega
theorem Nn.take {ps : List Pc} (h : Nn ps) (k : Nat) : Nn (ps.take k) := fun p hp => h p (List.mem_of_mem_take hp)
theorem Nn.append {a b : List Pc} (ha : Nn a) (hb : Nn b) : Nn (a ++ b) := fun p hp => (List.mem_append.1 hp).elim (ha p) (hb p)
theorem Nn.snoc {a : List Pc} {p : Pc} (ha : Nn a) (hp : 0 ≤ p.2) : Nn (a ++ [p]) := ha.append (fun q hq => by simp at hq; subst hq; exact hp)

theorem fref_many {ps : List Pc} (h : 100 < ps.length) : fref ps = 7 := if_pos h
theorem fref_bad {ps : List Pc} (h : ps.length ≤ 100) (hb : badL ps ≠ 0) : fref ps = badL ps := by unfold fref; rw [if_neg (by omega), if_neg hb]
theorem fref_size {ps : List Pc} (h : ps.length ≤ 100) (hb : badL ps = 0) (ht : 1000000000 < tot ps) : fref ps = 8 := by unfold fref; rw [if_neg (by omega), if_pos hb, if_pos ht]
theorem fref_ok {ps : List Pc} (h : ps.length ≤ 100) (hb : badL ps = 0) (ht : tot ps ≤ 1000000000) : fref ps = 0 := by unfold fref; rw [if_neg (by omega), if_pos hb, if_neg (by omega)]
theorem badL_ne {ps : List Pc} : badL ps = 0 ∨ badL ps = 2 ∨ badL ps = 3 := by
  induction ps with
  | nil => exact .inl rfl
  | cons p ps ih =>
    simp only [badL]
    split
    · exact ih
    · unfold bad1; split
      · split <;> simp
      · simp
theorem fref_in {ps : List Pc} (h : fref ps = 0) : ps.length ≤ 100 ∧ Fine ps ∧ tot ps ≤ 1000000000 := by
  unfold fref at h
  split at h
  · omega
  · split at h
    · split at h
      · omega
      · exact ⟨by omega, fine_of (by assumption), by omega⟩
    · exact absurd h (by assumption)
theorem of_fref {ps : List Pc} (h1 : ps.length ≤ 100) (h2 : Fine ps) (h3 : tot ps ≤ 1000000000) : fref ps = 0 := fref_ok h1 (of_fine h2) h3

theorem frefs_one (f : List Pc) : frefs [f] = fref f := by
  simp only [frefs]; split
  · rename_i h; exact h.symm
  · rfl
theorem frefs_two (f g : List Pc) : frefs [f, g] = if fref f = 0 then fref g else fref f := by
  have := frefs_one g
  simp only [frefs] at this ⊢
  rw [this]

theorem frefs_append_ok {a b : List (List Pc)} (h : ∀ f ∈ a, fref f = 0) : frefs (a ++ b) = frefs b := by
  induction a with
  | nil => rfl
  | cons p a ih =>
    simp only [List.cons_append, frefs]; rw [if_pos (h p (by simp))]; exact ih (fun q hq => h q (by simp [hq]))
theorem frefs_ok {a : List (List Pc)} (h : ∀ f ∈ a, fref f = 0) : frefs a = 0 := by
  have := frefs_append_ok (b := []) h
  rwa [List.append_nil] at this

/-! ### the plain form -/
/-- One parcel behind a plain form. -/
def behind (acc : List Pc) (p : Pc) : List Pc :=
  if p.2 = 0 then acc else
  match acc.getLast? with
  | some q => if q.1 = p.1 then acc.dropLast ++ [(q.1, q.2 + p.2)] else acc ++ [p]
  | none => [p]
def plainL (ps : List Pc) : List Pc := ps.foldl behind []

theorem behind_zero {acc : List Pc} {p : Pc} (h : p.2 = 0) : behind acc p = acc := if_pos h
theorem behind_nil {p : Pc} (h : p.2 ≠ 0) : behind [] p = [p] := by unfold behind; rw [if_neg h]; rfl
theorem behind_same {a : List Pc} {q p : Pc} (h : p.2 ≠ 0) (e : q.1 = p.1) : behind (a ++ [q]) p = a ++ [(q.1, q.2 + p.2)] := by
  unfold behind; rw [if_neg h]; simp [e]
theorem behind_other {a : List Pc} {q p : Pc} (h : p.2 ≠ 0) (e : q.1 ≠ p.1) : behind (a ++ [q]) p = a ++ [q] ++ [p] := by
  unfold behind; rw [if_neg h]; simp [e]
theorem snoc_cases (l : List Pc) : l = [] ∨ ∃ a q, l = a ++ [q] := by
  rcases List.eq_nil_or_concat l with h | ⟨a, q, h⟩
  · exact .inl h
  · exact .inr ⟨a, q, by simpa using h⟩
theorem tot_behind (acc : List Pc) (p : Pc) : tot (behind acc p) = tot acc + p.2 := by
  by_cases h : p.2 = 0
  · rw [behind_zero h]; omega
  · rcases snoc_cases acc with rfl | ⟨a, q, rfl⟩
    · rw [behind_nil h]; simp [tot]
    · by_cases e : q.1 = p.1
      · rw [behind_same h e, tot_snoc, tot_snoc]; simp only; omega
      · rw [behind_other h e, tot_snoc]
theorem length_behind (acc : List Pc) (p : Pc) : (behind acc p).length ≤ acc.length + 1 := by
  by_cases h : p.2 = 0
  · rw [behind_zero h]; omega
  · rcases snoc_cases acc with rfl | ⟨a, q, rfl⟩
    · rw [behind_nil h]; simp
    · by_cases e : q.1 = p.1
      · rw [behind_same h e]; simp
      · rw [behind_other h e]; simp
theorem plainL_snoc (a : List Pc) (p : Pc) : plainL (a ++ [p]) = behind (plainL a) p := by unfold plainL; rw [List.foldl_append]; rfl
theorem snoc_ind {α : Type} {C : List α → Prop} (h0 : C []) (h1 : ∀ a x, C a → C (a ++ [x])) (l : List α) : C l := by
  have : ∀ l : List α, C l.reverse := by
    intro l
    induction l with
    | nil => exact h0
    | cons x l ih => rw [List.reverse_cons]; exact h1 _ _ ih
  have h := this l.reverse
  rwa [List.reverse_reverse] at h
theorem tot_plainL (ps : List Pc) : tot (plainL ps) = tot ps := by
  induction ps using snoc_ind with
  | h0 => rfl
  | h1 a p ih => rw [plainL_snoc, tot_behind, ih, tot_snoc]
theorem length_plainL (ps : List Pc) : (plainL ps).length ≤ ps.length := by
  induction ps using snoc_ind with
  | h0 => simp [plainL]
  | h1 a p ih => have := length_behind (plainL a) p; rw [plainL_snoc]; simp; omega

/-- A property of labels that holds of all parcels. -/
theorem behind_all {C : ByteArray → Prop} {acc : List Pc} {p : Pc} (ha : ∀ q ∈ acc, C q.1 ∧ 0 ≤ q.2) (hp : C p.1 ∧ 0 ≤ p.2) : ∀ q ∈ behind acc p, C q.1 ∧ 0 ≤ q.2 := by
  by_cases h : p.2 = 0
  · rw [behind_zero h]; exact ha
  · rcases snoc_cases acc with rfl | ⟨a, q, rfl⟩
    · rw [behind_nil h]; intro r hr; simp at hr; subst hr; exact hp
    · have hq := ha q (by simp)
      by_cases e : q.1 = p.1
      · rw [behind_same h e]; intro r hr
        rcases List.mem_append.1 hr with hr | hr
        · exact ha r (by simp [hr])
        · simp at hr; subst hr; exact ⟨hq.1, by simp only; omega⟩
      · rw [behind_other h e]; intro r hr
        rcases List.mem_append.1 hr with hr | hr
        · exact ha r hr
        · simp at hr; subst hr; exact hp
theorem plainL_all {C : ByteArray → Prop} {ps : List Pc} (h : ∀ q ∈ ps, C q.1 ∧ 0 ≤ q.2) : ∀ q ∈ plainL ps, C q.1 ∧ 0 ≤ q.2 := by
  induction ps using snoc_ind with
  | h0 => intro q hq; cases hq
  | h1 a p ih =>
    rw [plainL_snoc]
    exact behind_all (ih (fun q hq => h q (by simp [hq]))) (h p (by simp))
theorem le_tot {ps : List Pc} (h : Nn ps) : ∀ p ∈ ps, p.2 ≤ tot ps := by
  induction ps with
  | nil => intro p hp; cases hp
  | cons q ps ih =>
    intro p hp
    have h1 := h q (by simp)
    have h2 : Nn ps := fun r hr => h r (by simp [hr])
    have h3 := tot_nonneg h2
    simp only [tot]
    rcases List.mem_cons.1 hp with rfl | hp
    · omega
    · have := ih h2 p hp; omega
/-- A list with labels that may be and volumes from 0 on, all together within the greatest. -/
theorem fine_mk {ps : List Pc} (h : ∀ q ∈ ps, lab q.1 = true ∧ 0 ≤ q.2) (ht : tot ps ≤ 1000000000) : Fine ps := fun p hp =>
  ⟨(h p hp).1, (h p hp).2, by have := le_tot (fun q hq => (h q hq).2) p hp; omega⟩
theorem Fine.weak {ps : List Pc} (h : Fine ps) : ∀ q ∈ ps, lab q.1 = true ∧ 0 ≤ q.2 := fun q hq => ⟨(h q hq).1, (h q hq).2.1⟩
theorem fine_plainL {ps : List Pc} (h : Fine ps) (ht : tot ps ≤ 1000000000) : Fine (plainL ps) := fine_mk (plainL_all (C := fun s => lab s = true) h.weak) (by rw [tot_plainL]; exact ht)
theorem nn_plainL {ps : List Pc} (h : Nn ps) : Nn (plainL ps) := fun p hp => (plainL_all (C := fun _ => True) (fun q hq => ⟨trivial, h q hq⟩) p hp).2

/-! ### drawing -/
/-- One parcel more drawn from: taken, left, and how much is still to be taken. -/
def step (s : List Pc × List Pc × Int) (p : Pc) : List Pc × List Pc × Int :=
  (behind s.1 (p.1, min p.2 s.2.2), behind s.2.1 (p.1, p.2 - min p.2 s.2.2), s.2.2 - min p.2 s.2.2)
def drawS (v : Int) (ps : List Pc) : List Pc × List Pc × Int := ps.foldl step ([], [], v)
/-- The same, the document's way. -/
def rstep (s : List Pc × List Pc × Int) (p : Pc) : List Pc × List Pc × Int :=
  if p.2 ≤ s.2.2 then (s.1 ++ [p], s.2.1, s.2.2 - p.2) else (s.1 ++ [(p.1, s.2.2)], s.2.1 ++ [(p.1, p.2 - s.2.2)], 0)
def drawR (v : Int) (ps : List Pc) : List Pc × List Pc × Int := ps.foldl rstep ([], [], v)

theorem drawS_snoc (v : Int) (a : List Pc) (p : Pc) : drawS v (a ++ [p]) = step (drawS v a) p := by unfold drawS; rw [List.foldl_append]; rfl
theorem drawR_snoc (v : Int) (a : List Pc) (p : Pc) : drawR v (a ++ [p]) = rstep (drawR v a) p := by unfold drawR; rw [List.foldl_append]; rfl
theorem drawS_v {v : Int} (h : 0 ≤ v) {ps : List Pc} (hn : Nn ps) : 0 ≤ (drawS v ps).2.2 ∧ (drawS v ps).2.2 ≤ v := by
  induction ps using snoc_ind with
  | h0 => exact ⟨h, Int.le_refl _⟩
  | h1 a p ih =>
    have := ih (fun q hq => hn q (by simp [hq]))
    have hp := hn p (by simp)
    rw [drawS_snoc]
    simp only [step]; omega
theorem draw_same {v : Int} (h : 0 ≤ v) {ps : List Pc} (hn : Nn ps) : drawS v ps = (plainL (drawR v ps).1, plainL (drawR v ps).2.1, (drawR v ps).2.2) ∧ Nn (drawR v ps).1 ∧ Nn (drawR v ps).2.1 := by
  induction ps using snoc_ind with
  | h0 => exact ⟨rfl, (fun _ h => by cases h), (fun _ h => by cases h)⟩
  | h1 a p ih =>
    have hna : Nn a := fun q hq => hn q (by simp [hq])
    obtain ⟨i1, i2, i3⟩ := ih hna
    have hv := drawS_v h hna
    have hp := hn p (by simp)
    rw [drawS_snoc, drawR_snoc]
    rw [i1] at hv ⊢
    simp only at hv
    generalize drawR v a = s at *
    unfold rstep
    split
    · rename_i hc
      refine ⟨?_, i2.snoc hp, i3⟩
      simp only [step, Int.min_eq_left hc, plainL_snoc, Int.sub_self]
      rw [behind_zero (acc := plainL s.2.1) rfl]
    · rename_i hc
      refine ⟨?_, i2.snoc (by simp only; omega), i3.snoc (by simp only; omega)⟩
      simp only [step, Int.min_eq_right (by omega : s.2.2 ≤ p.2), plainL_snoc, Int.sub_self]
theorem length_drawS (v : Int) (ps : List Pc) : (drawS v ps).1.length ≤ ps.length ∧ (drawS v ps).2.1.length ≤ ps.length := by
  induction ps using snoc_ind with
  | h0 => simp [drawS]
  | h1 a p ih =>
    rw [drawS_snoc]
    have h1 := length_behind (drawS v a).1 (p.1, min p.2 (drawS v a).2.2)
    have h2 := length_behind (drawS v a).2.1 (p.1, p.2 - min p.2 (drawS v a).2.2)
    simp only [step, List.length_append, List.length_singleton]
    omega
theorem tot_drawS (v : Int) (ps : List Pc) : tot (drawS v ps).1 + tot (drawS v ps).2.1 = tot ps ∧ tot (drawS v ps).1 + (drawS v ps).2.2 = v := by
  induction ps using snoc_ind with
  | h0 => simp [drawS, tot]
  | h1 a p ih =>
    rw [drawS_snoc, tot_snoc]
    simp only [step, tot_behind]
    omega
theorem drawS_all {C : ByteArray → Prop} {v : Int} (h : 0 ≤ v) {ps : List Pc} (hn : ∀ q ∈ ps, C q.1 ∧ 0 ≤ q.2) : (∀ q ∈ (drawS v ps).1, C q.1 ∧ 0 ≤ q.2) ∧ (∀ q ∈ (drawS v ps).2.1, C q.1 ∧ 0 ≤ q.2) := by
  induction ps using snoc_ind with
  | h0 => exact ⟨(fun q hq => by cases hq), (fun q hq => by cases hq)⟩
  | h1 a p ih =>
    have hna : ∀ q ∈ a, C q.1 ∧ 0 ≤ q.2 := fun q hq => hn q (by simp [hq])
    obtain ⟨i1, i2⟩ := ih hna
    have hv := drawS_v h (ps := a) (fun q hq => (hna q hq).2)
    have hp := hn p (by simp)
    rw [drawS_snoc]
    simp only [step]
    exact ⟨behind_all i1 ⟨hp.1, by simp only; omega⟩, behind_all i2 ⟨hp.1, by simp only; omega⟩⟩
/-- What is left to be taken: nothing, where there is enough. -/
theorem drawS_enough {v : Int} (h : 0 ≤ v) {ps : List Pc} (hn : Nn ps) (hv : v ≤ tot ps) : (drawS v ps).2.2 = 0 := by
  have key : ∀ ps : List Pc, Nn ps → (drawS v ps).2.2 = max (v - tot ps) 0 := by
    intro ps
    induction ps using snoc_ind with
    | h0 => intro _; simp only [drawS, List.foldl_nil, tot]; omega
    | h1 a p ih =>
      intro hn
      have := ih (fun q hq => hn q (by simp [hq]))
      have hp := hn p (by simp)
      have ha := tot_nonneg (ps := a) (fun q hq => hn q (by simp [hq]))
      rw [drawS_snoc, tot_snoc]
      simp only [step]; omega
  rw [key ps hn]; omega

end Go.Proofs.Ythfchkclojnfmaa
