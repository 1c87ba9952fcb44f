/- What flow does, plainly: shares of what was drawn, pairs, what is reached. -/
import Derived.Test.YtgbnjgenopdmfaaLA0
namespace Go.Proofs.Ytgbnjgenopdmfaa

/-- How much of what one Draw drew a Put puts: both by their numbers. -/
structure Shr where
  draw : Nat
  put : Nat
  vol : Int
/-- The first of what is held, at most all of it. -/
def ptR (i : Nat) : Int → List (Nat × Int) → List Shr × List (Nat × Int)
  | _, [] => ([], [])
  | v, (d, x) :: r => if 0 < v then (if v < x then ([⟨d, i, v⟩], (d, x - v) :: r) else (⟨d, i, x⟩ :: (ptR i (v - x) r).1, (ptR i (v - x) r).2)) else ([], (d, x) :: r)
/-- Whether there is a tip, and what is left in it of which Draws. -/
structure Tp where
  on : Bool
  held : List (Nat × Int)
abbrev tp0 : Tp := ⟨false, []⟩
def folR (i : Nat) (a : Acn) (t : Tp) : List Shr × Tp :=
  if a.kind = 6 then ([], ⟨true, []⟩) else if a.kind = 7 then ([], tp0)
  else if t.on = true ∧ 1 ≤ a.vol ∧ a.vol ≤ 1000000000 then
    (if a.kind = 8 then ([], ⟨true, t.held ++ [(i, a.vol)]⟩) else if a.kind = 9 then ((ptR i a.vol t.held).1, ⟨true, (ptR i a.vol t.held).2⟩) else ([], t))
  else ([], t)
def shrR : Nat → Tp → List Acn → List Shr
  | _, _, [] => []
  | i, t, a :: r => (folR i a t).1 ++ shrR (i + 1) (folR i a t).2 r
def tipR : Nat → Tp → List Acn → Tp
  | _, t, [] => t
  | i, t, a :: r => tipR (i + 1) (folR i a t).2 r
abbrev shares (l : List Acn) : List Shr := shrR 0 tp0 l
theorem shrR_append (i : Nat) (t : Tp) (a b : List Acn) : shrR i t (a ++ b) = shrR i t a ++ shrR (i + a.length) (tipR i t a) b := by
  induction a generalizing i t with
  | nil => simp [shrR, tipR]
  | cons x r ih => simp only [List.cons_append, shrR, tipR, ih, List.append_assoc, List.length_cons]; rw [show i + 1 + r.length = i + (r.length + 1) from by omega]
theorem tipR_append (i : Nat) (t : Tp) (a b : List Acn) : tipR i t (a ++ b) = tipR (i + a.length) (tipR i t a) b := by
  induction a generalizing i t with
  | nil => simp [tipR]
  | cons x r ih => simp only [List.cons_append, tipR, ih, List.length_cons]; rw [show i + 1 + r.length = i + (r.length + 1) from by omega]
theorem shares_snoc (l : List Acn) (a : Acn) : shares (l ++ [a]) = shares l ++ (folR l.length a (tipR 0 tp0 l)).1 := by
  rw [shares, shrR_append]; simp [shrR]
theorem tip_snoc (l : List Acn) (a : Acn) : tipR 0 tp0 (l ++ [a]) = (folR l.length a (tipR 0 tp0 l)).2 := by
  rw [tipR_append]; simp [tipR]
/-- What is held was drawn by those numbers, each with something left. -/
def HOk (n : Nat) (h : List (Nat × Int)) : Prop := ∀ x ∈ h, x.1 < n ∧ 1 ≤ x.2 ∧ x.2 ≤ 1000000000
theorem HOk.mono {n m : Nat} {h : List (Nat × Int)} (hh : HOk n h) (hn : n ≤ m) : HOk m h := fun x hx => ⟨Nat.lt_of_lt_of_le (hh x hx).1 hn, (hh x hx).2⟩
theorem ptR_ok {n i : Nat} {v : Int} {h : List (Nat × Int)} (hh : HOk n h) (hv : v ≤ 1000000000) :
    HOk n (ptR i v h).2 ∧ ∀ s ∈ (ptR i v h).1, s.draw < n ∧ s.put = i ∧ 1 ≤ s.vol ∧ s.vol ≤ 1000000000 := by
  induction h generalizing v with
  | nil => simp [ptR, HOk]
  | cons x r ih =>
    obtain ⟨d, y⟩ := x
    have h1 := hh (d, y) (by simp)
    have h2 : HOk n r := fun z hz => hh z (by simp [hz])
    simp only at h1
    unfold ptR
    split
    · rename_i hp
      split
      · rename_i hlt
        refine ⟨?_, ?_⟩
        · intro z hz
          rcases List.mem_cons.1 hz with rfl | hz
          · simp only; omega
          · exact h2 z hz
        · intro s hs
          simp only [List.mem_singleton] at hs
          subst hs
          exact ⟨h1.1, rfl, by show (1 : Int) ≤ v; omega, hv⟩
      · rename_i hge
        have h3 := ih (v := v - y) h2 (by omega)
        refine ⟨h3.1, ?_⟩
        intro s hs
        rcases List.mem_cons.1 hs with rfl | hs
        · exact ⟨h1.1, rfl, h1.2⟩
        · exact h3.2 s hs
    · refine ⟨hh, ?_⟩
      intro s hs
      cases hs
theorem folR_ok {i : Nat} {a : Acn} {t : Tp} (h : HOk i t.held) : HOk (i + 1) (folR i a t).2.held ∧ ∀ s ∈ (folR i a t).1, s.draw < i + 1 ∧ s.put = i ∧ 1 ≤ s.vol ∧ s.vol ≤ 1000000000 := by
  unfold folR
  split
  · exact ⟨fun x hx => by simp at hx, fun s hs => by simp at hs⟩
  · split
    · exact ⟨fun x hx => by simp at hx, fun s hs => by simp at hs⟩
    · split
      · rename_i hv
        split
        · refine ⟨fun x hx => ?_, fun s hs => by simp at hs⟩
          rcases List.mem_append.1 hx with hx | hx
          · exact h.mono (Nat.le_succ _) x hx
          · simp only [List.mem_singleton] at hx
            subst hx
            simp only; omega
        · split
          · have := ptR_ok (i := i) (h.mono (Nat.le_succ i)) hv.2.2
            exact this
          · exact ⟨h.mono (Nat.le_succ _), fun s hs => by simp at hs⟩
      · exact ⟨h.mono (Nat.le_succ _), fun s hs => by simp at hs⟩
theorem tip_ok (l : List Acn) : HOk l.length (tipR 0 tp0 l).held := by
  have : ∀ n, ∀ m, m = n → m ≤ l.length → HOk m (tipR 0 tp0 (l.take m)).held := by
    intro n
    induction n with
    | zero => rintro m rfl _; intro x hx; simp [tipR] at hx
    | succ n ih =>
      rintro m rfl hm
      have e : l.take (n + 1) = l.take n ++ [l[n]'(by omega)] := by rw [List.take_succ_eq_append_getElem]
      rw [e, tip_snoc]
      have h1 := ih n rfl (by omega)
      have h2 := (folR_ok (a := l[n]'(by omega)) h1).1
      have e2 : (l.take n).length = n := by rw [List.length_take]; omega
      rw [e2]
      exact h2
  have h := this l.length l.length rfl (Nat.le_refl _)
  rwa [List.take_length] at h
/-- What a share is. -/
def ShOk (n : Nat) (s : Shr) : Prop := s.draw < n ∧ s.put < n ∧ s.draw ≤ s.put ∧ 1 ≤ s.vol ∧ s.vol ≤ 1000000000
theorem shares_ok (l : List Acn) : ∀ s ∈ shares l, ShOk l.length s := by
  have : ∀ n, n ≤ l.length → ∀ s ∈ shares (l.take n), ShOk n s := by
    intro n
    induction n with
    | zero => intro _ s hs; simp [shares, shrR] at hs
    | succ n ih =>
      intro hm s hs
      have e : l.take (n + 1) = l.take n ++ [l[n]'(by omega)] := by rw [List.take_succ_eq_append_getElem]
      rw [e, shares_snoc] at hs
      have e2 : (l.take n).length = n := by rw [List.length_take]; omega
      rcases List.mem_append.1 hs with hs | hs
      · obtain ⟨h1, h2, h3, h4⟩ := ih (by omega) s hs
        exact ⟨by omega, by omega, h3, h4⟩
      · rw [e2] at hs
        have h0 := tip_ok (l.take n)
        rw [e2] at h0
        obtain ⟨h1, h2, h3⟩ := (folR_ok (a := l[n]'(by omega)) h0).2 s hs
        exact ⟨h1, by omega, by omega, h3⟩
  have h := this l.length (Nat.le_refl _)
  rwa [List.take_length] at h
theorem shares_take {l : List Acn} {n : Nat} : shares (l.take n) <+: shares l := by
  have e : l = l.take n ++ l.drop n := (List.take_append_drop n l).symm
  conv => rhs; rw [e, shares, shrR_append]
  exact ⟨_, rfl⟩

/-! ### sums -/
def volsR : List Shr → Int
  | [] => 0
  | s :: r => s.vol + volsR r
theorem volsR_append (a b : List Shr) : volsR (a ++ b) = volsR a + volsR b := by
  induction a with
  | nil => simp [volsR]
  | cons x r ih => simp only [List.cons_append, volsR, ih]; omega
/-- From, into. -/
abbrev Rt := Plc × Plc
def rltB (a b : Rt) : Bool := pltB a.1 b.1 || (decide (a.1 = b.1) && pltB a.2 b.2)
theorem rlt_iff {a b : Rt} : rltB a b = true ↔ pltB a.1 b.1 = true ∨ (a.1 = b.1 ∧ pltB a.2 b.2 = true) := by simp [rltB]
theorem rlt_trans {a b c : Rt} (h : rltB a b = true) (h2 : rltB b c = true) : rltB a c = true := by
  rw [rlt_iff] at *
  rcases h with h | ⟨h, h'⟩
  · rcases h2 with h2 | ⟨h2, _⟩
    · exact .inl (plt_trans h h2)
    · exact .inl (h2 ▸ h)
  · rcases h2 with h2 | ⟨h2, h2'⟩
    · exact .inl (h.symm ▸ h2)
    · exact .inr ⟨h.trans h2, plt_trans h' h2'⟩
theorem rlt_ne {a b : Rt} (h : rltB a b = true) : a ≠ b := by
  rintro rfl
  rw [rlt_iff] at h
  rcases h with h | ⟨_, h⟩ <;> exact plt_ne h rfl
theorem rlt_not {a b : Rt} (h : rltB a b = true) : rltB b a = false := by
  cases h2 : rltB b a with
  | false => rfl
  | true => exact absurd rfl (rlt_ne (rlt_trans h h2))
theorem rlt_total {a b : Rt} (h : a ≠ b) : rltB a b = true ∨ rltB b a = true := by
  rw [rlt_iff, rlt_iff]
  by_cases h1 : a.1 = b.1
  · have h2 : a.2 ≠ b.2 := fun e => h (Prod.ext h1 e)
    rcases plt_total h2 with h3 | h3
    · exact .inl (.inr ⟨h1, h3⟩)
    · exact .inr (.inr ⟨h1.symm, h3⟩)
  · rcases plt_total h1 with h3 | h3
    · exact .inl (.inl h3)
    · exact .inr (.inl h3)
abbrev Prs := List (Rt × Int)
def RRising (l : Prs) : Prop := l.Pairwise fun x y => rltB x.1 y.1 = true
def addP (r : Rt) (v : Int) : Prs → Prs
  | [] => [(r, v)]
  | x :: q => if rltB x.1 r = true then x :: addP r v q else if x.1 = r then (x.1, x.2 + v) :: q else (r, v) :: x :: q
theorem mem_addP {r : Rt} {v : Int} {l : Prs} {x : Rt × Int} (h : x ∈ addP r v l) : x.1 = r ∨ x ∈ l := by
  induction l with
  | nil => simp [addP] at h; exact .inl (by rw [h])
  | cons y q ih =>
    unfold addP at h
    split at h
    · rcases List.mem_cons.1 h with h | h
      · exact .inr (by simp [h])
      · exact (ih h).imp id fun h => by simp [h]
    · split at h
      · rename_i e
        rcases List.mem_cons.1 h with h | h
        · exact .inl (by rw [h]; exact e)
        · exact .inr (by simp [h])
      · rcases List.mem_cons.1 h with h | h
        · exact .inl (by rw [h])
        · exact .inr h
theorem rising_addP {r : Rt} {v : Int} {l : Prs} (h : RRising l) : RRising (addP r v l) := by
  induction l with
  | nil => simp [addP, RRising]
  | cons y q ih =>
    obtain ⟨h1, h2⟩ := List.pairwise_cons.1 h
    unfold addP
    split
    · rename_i hlt
      refine List.pairwise_cons.2 ⟨fun x hx => ?_, ih h2⟩
      rcases mem_addP hx with e | hx
      · rw [e]; exact hlt
      · exact h1 x hx
    · split
      · rename_i e
        exact List.pairwise_cons.2 ⟨fun x hx => h1 x hx, h2⟩
      · rename_i hlt hne
        refine List.pairwise_cons.2 ⟨fun x hx => ?_, h⟩
        have h3 : rltB r y.1 = true := (rlt_total (fun e => hne e.symm)).resolve_right hlt
        rcases List.mem_cons.1 hx with e | hx
        · rw [e]; exact h3
        · exact rlt_trans h3 (h1 x hx)
/-- What a route has. -/
def atP (l : Prs) (r : Rt) : Option Int := (l.find? fun x => decide (x.1 = r)).map (·.2)
theorem atP_mem {l : Prs} (h : RRising l) {r : Rt} {v : Int} : (r, v) ∈ l ↔ atP l r = some v := by
  induction l with
  | nil => simp [atP]
  | cons y q ih =>
    obtain ⟨h1, h2⟩ := List.pairwise_cons.1 h
    by_cases e : y.1 = r
    · have e1 : atP (y :: q) r = some y.2 := by simp [atP, e]
      rw [e1, List.mem_cons]
      constructor
      · rintro (h3 | h3)
        · rw [← h3]
        · exact absurd e (rlt_ne (h1 _ h3))
      · intro h3
        injection h3 with h3
        exact .inl (by rw [← h3, ← e])
    · have e1 : atP (y :: q) r = atP q r := by simp [atP, e]
      rw [e1, ← ih h2, List.mem_cons]
      constructor
      · rintro (h3 | h3)
        · exact absurd (by rw [← h3]) e
        · exact h3
      · exact .inr
theorem atP_add {l : Prs} (h : RRising l) (r : Rt) (v : Int) (q : Rt) : atP (addP r v l) q = if q = r then some ((atP l r).getD 0 + v) else atP l q := by
  induction l with
  | nil =>
    by_cases e : q = r
    · subst e; simp [addP, atP]
    · rw [if_neg e]; simp [addP, atP]; exact fun h => e h.symm
  | cons y l ih =>
    obtain ⟨h1, h2⟩ := List.pairwise_cons.1 h
    unfold addP
    split
    · rename_i hlt
      have hne : y.1 ≠ r := rlt_ne hlt
      by_cases e : y.1 = q
      · have hq : q ≠ r := fun e2 => hne (e.trans e2)
        rw [if_neg hq]; simp [atP, e]
      · have e1 : ∀ z, atP (y :: z) q = atP z q := fun z => by simp [atP, e]
        have e2 : atP (y :: l) r = atP l r := by simp [atP, hne]
        rw [e1, e1, e2]; exact ih h2
    · split
      · rename_i e
        by_cases e3 : q = r
        · subst e3; simp [atP, e]
        · rw [if_neg e3]
          have : ¬ (y.1 = q) := fun h => e3 (h.symm.trans e)
          simp [atP, this]
      · rename_i hlt hne
        by_cases e3 : q = r
        · subst e3
          have h3 : rltB q y.1 = true := (rlt_total (fun e => hne e.symm)).resolve_right hlt
          have e4 : atP (y :: l) q = none := by
            cases h5 : atP (y :: l) q with
            | none => rfl
            | some u =>
              have := (atP_mem h).2 h5
              rcases List.mem_cons.1 this with h6 | h6
              · exact absurd (by rw [← h6]) hne
              · exact absurd rfl (rlt_ne (rlt_trans h3 (h1 _ h6)))
          rw [e4, if_pos rfl]; simp [atP]
        · rw [if_neg e3]
          have : ¬ (r = q) := fun h => e3 h.symm
          simp [atP, this]
theorem prs_unique {a b : Prs} (ha : RRising a) (hb : RRising b) (h : ∀ r, atP a r = atP b r) : a = b := by
  have nd : ∀ {T : Prs}, RRising T → T.Nodup := fun hT => List.Pairwise.imp (fun {x y} hxy (e : x = y) => rlt_ne hxy (by rw [e])) hT
  have hp : a.Perm b := (List.perm_ext_iff_of_nodup (nd ha) (nd hb)).2 fun x => by
    obtain ⟨r, v⟩ := x
    rw [atP_mem ha, atP_mem hb, h]
  exact List.Perm.eq_of_pairwise (fun x y _ _ h1 h2 => absurd h2 (by rw [rlt_not h1]; decide)) ha hb hp
def sumP : Prs → Int
  | [] => 0
  | x :: r => x.2 + sumP r
theorem sumP_add (r : Rt) (v : Int) (l : Prs) : sumP (addP r v l) = sumP l + v := by
  induction l with
  | nil => simp [addP, sumP]
  | cons y q ih =>
    unfold addP
    split
    · simp only [sumP, ih]; omega
    · split
      · simp only [sumP]; omega
      · simp only [sumP]; omega
/-- The place of an action. -/
def plA (l : List Acn) (k : Nat) : Plc := match l[k]? with
  | some a => a.pl
  | none => (0, 0, 0)
theorem plA_at {l : List Acn} {k : Nat} (h : k < l.length) : plA l k = (l[k]'h).pl := by simp [plA, List.getElem?_eq_getElem h]
def rtA (l : List Acn) (s : Shr) : Rt := (plA l s.draw, plA l s.put)
def pairsF (l : List Acn) (ss : List Shr) : Prs := ss.foldl (fun q s => addP (rtA l s) s.vol q) []
def pairsR (l : List Acn) : Prs := pairsF l (shares l)
theorem pairsF_snoc (l : List Acn) (ss : List Shr) (s : Shr) : pairsF l (ss ++ [s]) = addP (rtA l s) s.vol (pairsF l ss) := by simp [pairsF]
theorem snocInd {α : Type} {p : List α → Prop} (h0 : p []) (h1 : ∀ l a, p l → p (l ++ [a])) : ∀ l, p l := by
  have : ∀ n, ∀ l : List α, l.length = n → p l := by
    intro n
    induction n with
    | zero => intro l hl; rw [List.eq_nil_of_length_eq_zero hl]; exact h0
    | succ n ih =>
      intro l hl
      have hne : l ≠ [] := by intro e; rw [e] at hl; cases hl
      rw [← List.dropLast_concat_getLast hne]
      exact h1 _ _ (ih _ (by rw [List.length_dropLast]; omega))
  exact fun l => this _ l rfl
theorem pairsF_rising (l : List Acn) (ss : List Shr) : RRising (pairsF l ss) := by
  induction ss using snocInd with
  | h0 => simp [pairsF, RRising]
  | h1 ss s ih => rw [pairsF_snoc]; exact rising_addP ih
theorem pairsF_sum (l : List Acn) (ss : List Shr) : sumP (pairsF l ss) = volsR ss := by
  induction ss using snocInd with
  | h0 => simp [pairsF, sumP, volsR]
  | h1 ss s ih => rw [pairsF_snoc, sumP_add, ih, volsR_append]; simp [volsR]
theorem pairsF_mem (l : List Acn) (ss : List Shr) (hok : ∀ s ∈ ss, 1 ≤ s.vol) (x : Rt × Int) (h : x ∈ pairsF l ss) : 1 ≤ x.2 ∧ ∃ s ∈ ss, rtA l s = x.1 := by
  have key : ∀ ss : List Shr, (∀ s ∈ ss, 1 ≤ s.vol) → ∀ r v, atP (pairsF l ss) r = some v → 1 ≤ v ∧ ∃ s ∈ ss, rtA l s = r := by
    intro ss
    induction ss using snocInd with
    | h0 => intro _ r v h; simp [pairsF, atP] at h
    | h1 ss s ih =>
      intro hok r v h
      have ih' := ih fun s hs => hok s (by simp [hs])
      rw [pairsF_snoc, atP_add (pairsF_rising l ss)] at h
      split at h
      · rename_i e
        injection h with h
        have h1 := hok s (by simp)
        refine ⟨?_, s, by simp, e.symm⟩
        cases h2 : atP (pairsF l ss) (rtA l s) with
        | none => rw [h2] at h; simp at h; omega
        | some u => rw [h2] at h; have := (ih' _ _ h2).1; simp at h; omega
      · obtain ⟨h1, s', h2, h3⟩ := ih' _ _ h
        exact ⟨h1, s', by simp [h2], h3⟩
  obtain ⟨r, v⟩ := x
  exact key ss hok r v ((atP_mem (pairsF_rising l ss)).1 h)
theorem pairsF_has (l : List Acn) (ss : List Shr) (r : Rt) : (atP (pairsF l ss) r).isSome = true ↔ ∃ s ∈ ss, rtA l s = r := by
  induction ss using snocInd with
  | h0 => simp [pairsF, atP]
  | h1 ss s ih =>
    rw [pairsF_snoc, atP_add (pairsF_rising l ss)]
    split
    · rename_i e; simp only [Option.isSome_some, true_iff]; exact ⟨s, by simp, e.symm⟩
    · rename_i e
      rw [ih]
      constructor
      · rintro ⟨s', h1, h2⟩; exact ⟨s', by simp [h1], h2⟩
      · rintro ⟨s', h1, h2⟩
        rcases List.mem_append.1 h1 with h1 | h1
        · exact ⟨s', h1, h2⟩
        · simp at h1; subst h1; exact absurd h2.symm e

/-! ### what is reached -/
abbrev Snc := List (Plc × Int)
def atS (m : Snc) (p : Plc) : Option Int := (m.find? fun x => decide (x.1 = p)).map (·.2)
def rchS (l : List Acn) (m : Snc) (s : Shr) : Snc := match atS m (plA l s.draw) with
  | none => m
  | some came => if (s.draw : Int) < came then m else match atS m (plA l s.put) with
    | none => m ++ [(plA l s.put, (s.put : Int))]
    | some _ => m
def rchF (l : List Acn) (p : Plc) (ss : List Shr) : Snc := ss.foldl (rchS l) [(p, -1)]
theorem rchF_snoc (l : List Acn) (p : Plc) (ss : List Shr) (s : Shr) : rchF l p (ss ++ [s]) = rchS l (rchF l p ss) s := by simp [rchF]
def reachM (l : List Acn) (p : Plc) : Snc := rchF l p (shares l)
theorem atS_none {m : Snc} {p : Plc} : atS m p = none ↔ ∀ x ∈ m, x.1 ≠ p := by
  unfold atS
  rw [Option.map_eq_none_iff, List.find?_eq_none]
  simp
theorem rchS_keys (l : List Acn) (m : Snc) (s : Shr) : ∃ t, rchS l m s = m ++ t := by
  unfold rchS
  split
  · exact ⟨[], by simp⟩
  · split
    · exact ⟨[], by simp⟩
    · split
      · exact ⟨_, rfl⟩
      · exact ⟨[], by simp⟩
def NoTwice (m : Snc) : Prop := (m.map (·.1)).Nodup
theorem rchS_nd {l : List Acn} {m : Snc} {s : Shr} (h : NoTwice m) : NoTwice (rchS l m s) := by
  unfold rchS
  split
  · exact h
  · split
    · exact h
    · split
      · rename_i hn
        have h2 := atS_none.1 hn
        unfold NoTwice
        rw [List.map_append, List.nodup_append]
        refine ⟨h, by simp, ?_⟩
        intro a ha b hb e
        obtain ⟨x, hx, rfl⟩ := List.mem_map.1 ha
        simp at hb
        exact h2 x hx (by rw [e, hb])
      · exact h
theorem rchF_nd (l : List Acn) (p : Plc) (ss : List Shr) : NoTwice (rchF l p ss) := by
  induction ss using snocInd with
  | h0 => simp [rchF, NoTwice]
  | h1 ss s ih => rw [rchF_snoc]; exact rchS_nd ih
theorem rchF_prefix (l : List Acn) (p : Plc) (a b : List Shr) : ∃ t, rchF l p (a ++ b) = rchF l p a ++ t := by
  induction b using snocInd with
  | h0 => exact ⟨[], by simp⟩
  | h1 b s ih =>
    obtain ⟨t, ht⟩ := ih
    rw [← List.append_assoc, rchF_snoc]
    obtain ⟨u, hu⟩ := rchS_keys l (rchF l p (a ++ b)) s
    exact ⟨t ++ u, by rw [hu, ht, List.append_assoc]⟩
theorem rchF_first (l : List Acn) (p : Plc) (ss : List Shr) : ∃ t, rchF l p ss = (p, -1) :: t := by
  obtain ⟨t, ht⟩ := rchF_prefix l p [] ss
  exact ⟨t, by simpa [rchF] using ht⟩
end Go.Proofs.Ytgbnjgenopdmfaa
