/- What the reference says of flows, plainly, and that it is what flow says. -/
import Derived.Test.YtgbnjgenopdmfaaLA
namespace Go.Proofs.Ytgbnjgenopdmfaa

/-- What a Put put: by which action, from where, how much, marked or not. -/
structure Mvd where
  num : Nat
  fr : Plc
  vol : Int
  mkd : Bool
/-- Drawn: from where, how much there is yet, marked or not. -/
structure Drn where
  fr : Plc
  vol : Int
  mkd : Bool
def addM (b : Bool) (p : Plc) (ms : List Plc) : List Plc := if b = true ∧ p ∉ ms then ms ++ [p] else ms
def mvP (i : Nat) (p : Plc) : Int → List Drn → List Plc → List Mvd × List Drn × List Plc
  | _, [], ms => ([], [], ms)
  | v, d :: r, ms => if 0 < v then
      (if v < d.vol then ([⟨i, d.fr, v, d.mkd⟩], ⟨d.fr, d.vol - v, d.mkd⟩ :: r, addM d.mkd p ms)
       else (⟨i, d.fr, d.vol, d.mkd⟩ :: (mvP i p (v - d.vol) r (addM d.mkd p ms)).1, (mvP i p (v - d.vol) r (addM d.mkd p ms)).2))
    else ([], d :: r, ms)
structure MvS where
  out : List Mvd
  tip : Bool
  held : List Drn
  marks : List Plc
def mvS (i : Nat) (a : Acn) (s : MvS) : MvS :=
  if a.kind = 6 then ⟨s.out, true, [], s.marks⟩ else if a.kind = 7 then ⟨s.out, false, [], s.marks⟩
  else if s.tip = true ∧ 1 ≤ a.vol ∧ a.vol ≤ 1000000000 then
    (if a.kind = 8 then ⟨s.out, true, s.held ++ [⟨a.pl, a.vol, decide (a.pl ∈ s.marks)⟩], s.marks⟩
     else if a.kind = 9 then ⟨s.out ++ (mvP i a.pl a.vol s.held s.marks).1, true, (mvP i a.pl a.vol s.held s.marks).2.1, (mvP i a.pl a.vol s.held s.marks).2.2⟩ else s)
  else s
def mvF : Nat → List Acn → MvS → MvS
  | _, [], s => s
  | i, a :: r, s => mvF (i + 1) r (mvS i a s)
abbrev moves (l : List Acn) (ms : List Plc) : MvS := mvF 0 l ⟨[], false, [], ms⟩
theorem mvF_append (i : Nat) (a b : List Acn) (s : MvS) : mvF i (a ++ b) s = mvF (i + a.length) b (mvF i a s) := by
  induction a generalizing i s with
  | nil => simp [mvF]
  | cons x r ih => simp only [List.cons_append, mvF, ih, List.length_cons]; rw [show i + 1 + r.length = i + (r.length + 1) from by omega]
theorem moves_next (l : List Acn) (ms : List Plc) {k : Nat} (h : k < l.length) : moves (l.take (k + 1)) ms = mvS k (l[k]'h) (moves (l.take k) ms) := by
  rw [List.take_succ_eq_append_getElem h, moves, mvF_append, List.length_take, Nat.min_eq_left (by omega), Nat.zero_add]
  rfl

abbrev keysM (m : Snc) : List Plc := m.map (·.1)
def mkA (l : List Acn) (m : Snc) (d : Nat) : Bool := match atS m (plA l d) with
  | none => false
  | some c => decide (c ≤ (d : Int))
theorem keys_none {m : Snc} {p : Plc} : atS m p = none ↔ p ∉ keysM m := by
  rw [atS_none]
  constructor
  · intro h hp
    obtain ⟨x, hx, e⟩ := List.mem_map.1 hp
    exact h x hx e
  · intro h x hx e
    exact h (List.mem_map.2 ⟨x, hx, e⟩)
theorem rchS_keysM (l : List Acn) (m : Snc) (s : Shr) : keysM (rchS l m s) = addM (mkA l m s.draw) (plA l s.put) (keysM m) := by
  unfold rchS addM mkA
  cases h1 : atS m (plA l s.draw) with
  | none => simp
  | some c =>
    simp only
    by_cases h2 : (s.draw : Int) < c
    · rw [if_pos h2, if_neg]
      rintro ⟨h, _⟩
      have := of_decide_eq_true h
      omega
    · rw [if_neg h2]
      cases h3 : atS m (plA l s.put) with
      | none =>
        rw [if_pos ⟨by simp; omega, keys_none.1 h3⟩]
        simp
      | some u =>
        rw [if_neg]
        rintro ⟨_, h⟩
        rw [keys_none.2 h] at h3
        cases h3
theorem atS_append_some {m t : Snc} {p : Plc} {c : Int} (h : atS m p = some c) : atS (m ++ t) p = some c := by
  unfold atS at h ⊢
  rw [List.find?_append]
  cases h2 : m.find? fun x => decide (x.1 = p) with
  | none => rw [h2] at h; cases h
  | some x => rw [h2] at h; simpa using h
/-- What was drawn ahead of a Put stays marked or not. -/
theorem mkA_stays (l : List Acn) (m : Snc) (s : Shr) {d : Nat} (hd : d < s.put) : mkA l (rchS l m s) d = mkA l m d := by
  unfold mkA
  cases h : atS m (plA l d) with
  | some c =>
    obtain ⟨t, ht⟩ := rchS_keys l m s
    rw [ht, atS_append_some h]
  | none =>
    have key : atS (rchS l m s) (plA l d) = none ∨ atS (rchS l m s) (plA l d) = some (s.put : Int) := by
      unfold rchS
      split
      · exact .inl h
      · split
        · exact .inl h
        · split
          · unfold atS at h ⊢
            rw [List.find?_append]
            cases h2 : m.find? fun x => decide (x.1 = plA l d) with
            | some x => rw [h2] at h; cases h
            | none =>
              by_cases e : plA l s.put = plA l d
              · right; simp [e]
              · left; simp [e]
          · exact .inl h
    rcases key with h2 | h2
    · rw [h2]
    · rw [h2]
      simp only [decide_eq_false_iff_not]
      omega
abbrev toD (l : List Acn) (m : Snc) (x : Nat × Int) : Drn := ⟨plA l x.1, x.2, mkA l m x.1⟩
theorem toD_stays (l : List Acn) (m : Snc) (s : Shr) {hs : List (Nat × Int)} (h : ∀ x ∈ hs, x.1 < s.put) : hs.map (toD l (rchS l m s)) = hs.map (toD l m) :=
  List.map_congr_left fun x hx => by simp only [toD]; rw [mkA_stays l m s (h x hx)]
abbrev bare (o : Mvd) : Nat × Plc × Int := (o.num, o.fr, o.vol)
abbrev bareS (l : List Acn) (s : Shr) : Nat × Plc × Int := (s.put, plA l s.draw, s.vol)
theorem ptR_step (i : Nat) (v : Int) (d : Nat) (x : Int) (r : List (Nat × Int)) : ptR i v ((d, x) :: r) = if 0 < v then (if v < x then ([⟨d, i, v⟩], (d, x - v) :: r) else (⟨d, i, x⟩ :: (ptR i (v - x) r).1, (ptR i (v - x) r).2)) else ([], (d, x) :: r) := by
  conv => lhs; unfold ptR
theorem mvP_eq (l : List Acn) (i : Nat) : ∀ (hs : List (Nat × Int)) (v : Int) (m : Snc), (∀ x ∈ hs, x.1 < i) →
    (mvP i (plA l i) v (hs.map (toD l m)) (keysM m)).1.map bare = (ptR i v hs).1.map (bareS l) ∧
    (mvP i (plA l i) v (hs.map (toD l m)) (keysM m)).2.1 = (ptR i v hs).2.map (toD l ((ptR i v hs).1.foldl (rchS l) m)) ∧
    (mvP i (plA l i) v (hs.map (toD l m)) (keysM m)).2.2 = keysM ((ptR i v hs).1.foldl (rchS l) m)
  | [], v, m, _ => by simp [mvP, ptR]
  | (d, x) :: r, v, m, h => by
    have hr : ∀ y ∈ r, y.1 < i := fun y hy => h y (by simp [hy])
    have hd : d < i := h (d, x) (by simp)
    rw [ptR_step, List.map_cons, mvP]
    by_cases hv : 0 < v
    · rw [if_pos hv, if_pos hv]
      by_cases hx : v < x
      · rw [if_pos hx, if_pos (show v < (toD l m (d, x)).vol from hx)]
        have e := rchS_keysM l m ⟨d, i, v⟩
        refine ⟨rfl, ?_, e.symm⟩
        simp only [List.foldl_cons, List.foldl_nil, List.map_cons]
        rw [toD_stays l m ⟨d, i, v⟩ hr]
        congr 1
        simp only [toD]
        rw [mkA_stays l m ⟨d, i, v⟩ hd]
      · rw [if_neg hx, if_neg (show ¬ v < (toD l m (d, x)).vol from hx)]
        have ih := mvP_eq l i r (v - x) (rchS l m ⟨d, i, x⟩) hr
        rw [toD_stays l m ⟨d, i, x⟩ hr, rchS_keysM l m ⟨d, i, x⟩] at ih
        obtain ⟨h1, h2, h3⟩ := ih
        refine ⟨?_, h2, h3⟩
        simp only [List.map_cons]
        rw [h1]
    · rw [if_neg hv, if_neg hv]
      exact ⟨rfl, rfl, rfl⟩
/-- The reference's state is the tip's, the shares' and what is reached. -/
structure MvR (l : List Acn) (m0 : Snc) (i : Nat) (s : MvS) : Prop where
  out : s.out.map bare = (shares (l.take i)).map (bareS l)
  tip : s.tip = (tipR 0 tp0 (l.take i)).on
  held : s.held = (tipR 0 tp0 (l.take i)).held.map (toD l ((shares (l.take i)).foldl (rchS l) m0))
  marks : s.marks = keysM ((shares (l.take i)).foldl (rchS l) m0)
  old : ∀ x ∈ (shares (l.take i)).foldl (rchS l) m0, x.2 < i
theorem rchS_old (l : List Acn) (m : Snc) (s : Shr) (n : Int) (h : ∀ x ∈ m, x.2 < n) (hs : (s.put : Int) < n) : ∀ x ∈ rchS l m s, x.2 < n := by
  unfold rchS
  split
  · exact h
  · split
    · exact h
    · split
      · intro x hx
        rcases List.mem_append.1 hx with hx | hx
        · exact h x hx
        · simp at hx; rw [hx]; exact hs
      · exact h
theorem rchL_old (l : List Acn) (n : Int) : ∀ (ss : List Shr) (m : Snc), (∀ x ∈ m, x.2 < n) → (∀ s ∈ ss, (s.put : Int) < n) → ∀ x ∈ ss.foldl (rchS l) m, x.2 < n
  | [], _, h, _ => h
  | s :: r, m, h, hs => rchL_old l n r (rchS l m s) (rchS_old l m s n h (hs s (by simp))) fun y hy => hs y (by simp [hy])
theorem mvR_next {l : List Acn} {m0 : Snc} {i : Nat} {s : MvS} (h : MvR l m0 i s) (hi : i < l.length) : MvR l m0 (i + 1) (mvS i (l[i]'hi) s) := by
  have hl : (l.take i).length = i := by rw [List.length_take]; omega
  have eS : shares (l.take (i + 1)) = shares (l.take i) ++ (folR i (l[i]'hi) (tipR 0 tp0 (l.take i))).1 := by
    rw [List.take_succ_eq_append_getElem hi, shares_snoc, hl]
  have eT : tipR 0 tp0 (l.take (i + 1)) = (folR i (l[i]'hi) (tipR 0 tp0 (l.take i))).2 := by
    rw [List.take_succ_eq_append_getElem hi, tip_snoc, hl]
  have hok : HOk i (tipR 0 tp0 (l.take i)).held := by have := tip_ok (l.take i); rwa [hl] at this
  have hpl : plA l i = (l[i]'hi).pl := plA_at hi
  obtain ⟨h1, h2, h3, h4, h5⟩ := h
  have hold : ∀ x ∈ (shares (l.take (i + 1))).foldl (rchS l) m0, x.2 < ((i + 1 : Nat) : Int) := by
    rw [eS, List.foldl_append]
    refine rchL_old l _ _ _ (fun x hx => by have := h5 x hx; omega) fun y hy => ?_
    have := ((folR_ok (a := l[i]'hi) hok).2 y hy).2.1
    omega
  have key : ∀ ss t', folR i (l[i]'hi) (tipR 0 tp0 (l.take i)) = (ss, t') → (mvS i (l[i]'hi) s).out.map bare = (shares (l.take i)).map (bareS l) ++ ss.map (bareS l) → (mvS i (l[i]'hi) s).tip = t'.on →
      (mvS i (l[i]'hi) s).held = t'.held.map (toD l (ss.foldl (rchS l) ((shares (l.take i)).foldl (rchS l) m0))) → (mvS i (l[i]'hi) s).marks = keysM (ss.foldl (rchS l) ((shares (l.take i)).foldl (rchS l) m0)) → MvR l m0 (i + 1) (mvS i (l[i]'hi) s) := by
    intro ss t' e g1 g2 g3 g4
    refine ⟨?_, ?_, ?_, ?_, hold⟩
    · rw [eS, e, g1, List.map_append]
    · rw [eT, e, g2]
    · rw [eT, eS, e, List.foldl_append, g3]
    · rw [eS, e, List.foldl_append, g4]
  clear hold eS eT
  generalize l[i]'hi = a at *
  generalize hm : (shares (l.take i)).foldl (rchS l) m0 = m at *
  generalize tipR 0 tp0 (l.take i) = t at *
  generalize (shares (l.take i)).map (bareS l) = B at *
  clear hm hl
  unfold folR at key
  unfold mvS at key ⊢
  by_cases h6 : a.kind = 6
  · simp only [if_pos h6] at key ⊢
    exact key _ _ rfl (by simpa using h1) rfl rfl (by simpa using h4)
  · simp only [if_neg h6] at key ⊢
    by_cases h7 : a.kind = 7
    · simp only [if_pos h7] at key ⊢
      exact key _ _ rfl (by simpa using h1) rfl rfl (by simpa using h4)
    · simp only [if_neg h7] at key ⊢
      rw [h2] at key ⊢
      by_cases hc : t.on = true ∧ 1 ≤ a.vol ∧ a.vol ≤ 1000000000
      · simp only [if_pos hc] at key ⊢
        by_cases h8 : a.kind = 8
        · simp only [if_pos h8] at key ⊢
          refine key _ _ rfl (by simpa using h1) rfl ?_ (by simpa using h4)
          simp only [List.foldl_nil, List.map_append, List.map_cons, List.map_nil]
          rw [h3]
          congr 2
          simp only [toD]
          rw [hpl, h4]
          congr 1
          unfold mkA
          rw [hpl]
          cases h9 : atS m a.pl with
          | none => simp only [decide_eq_false_iff_not]; exact keys_none.1 h9
          | some c =>
            simp only [decide_eq_decide]
            have : a.pl ∈ keysM m := by
              refine Decidable.by_contra fun hn => ?_
              rw [keys_none.2 hn] at h9
              cases h9
            refine ⟨fun _ => ?_, fun _ => this⟩
            unfold atS at h9
            obtain ⟨x, hx, e⟩ := Option.map_eq_some_iff.1 h9
            have := h5 x (List.mem_of_find?_eq_some hx)
            omega
        · simp only [if_neg h8] at key ⊢
          by_cases h9 : a.kind = 9
          · simp only [if_pos h9] at key ⊢
            obtain ⟨g1, g2, g3⟩ := mvP_eq l i t.held a.vol m fun x hx => (hok x hx).1
            rw [hpl, ← h3, ← h4] at g1 g2 g3
            refine key _ _ rfl ?_ rfl ?_ ?_
            · rw [List.map_append, h1, g1]
            · exact g2
            · exact g3
          · simp only [if_neg h9] at key ⊢
            exact key _ _ rfl (by simpa using h1) h2 (by simpa using h3) (by simpa using h4)
      · simp only [if_neg hc] at key ⊢
        exact key _ _ rfl (by simpa using h1) h2 (by simpa using h3) (by simpa using h4)
theorem mvR_all (l : List Acn) (m0 : Snc) (h0 : ∀ x ∈ m0, x.2 < 0) : MvR l m0 l.length (moves l (keysM m0)) := by
  have : ∀ n, n ≤ l.length → MvR l m0 n (moves (l.take n) (keysM m0)) := by
    intro n
    induction n with
    | zero => intro _; exact ⟨by simp [shares, shrR, mvF], by simp [tipR, mvF], by simp [shares, shrR, tipR, mvF], by simp [shares, shrR, mvF], by simpa [shares, shrR] using h0⟩
    | succ n ih =>
      intro hn
      rw [moves_next l _ (show n < l.length by omega)]
      exact mvR_next (ih (by omega)) (by omega)
  have h := this l.length (Nat.le_refl _)
  rwa [List.take_length] at h
/-- The pairs by what Puts put. -/
def pairsM (l : List Acn) (os : List Mvd) : Prs := os.foldl (fun q o => addP (o.fr, plA l o.num) o.vol q) []
theorem pairsM_snoc (l : List Acn) (os : List Mvd) (o : Mvd) : pairsM l (os ++ [o]) = addP (o.fr, plA l o.num) o.vol (pairsM l os) := by simp [pairsM]
theorem pairsM_eq (l : List Acn) : pairsM l (moves l []).out = pairsR l := by
  have h := (mvR_all l [] (by simp)).out
  rw [List.take_length] at h
  have e1 : ∀ (os : List Mvd) (q : Prs), os.foldl (fun q o => addP (o.fr, plA l o.num) o.vol q) q = (os.map bare).foldl (fun q x => addP (x.2.1, plA l x.1) x.2.2 q) q := by
    intro os
    induction os with
    | nil => intro q; rfl
    | cons o r ih => intro q; simp only [List.map_cons, List.foldl_cons]; exact ih _
  have e2 : ∀ (ss : List Shr) (q : Prs), ss.foldl (fun q s => addP (rtA l s) s.vol q) q = (ss.map (bareS l)).foldl (fun q x => addP (x.2.1, plA l x.1) x.2.2 q) q := by
    intro os
    induction os with
    | nil => intro q; rfl
    | cons o r ih => intro q; simp only [List.map_cons, List.foldl_cons]; exact ih _
  unfold pairsM pairsR pairsF
  rw [e1, e2]
  rw [show keysM ([] : Snc) = [] from rfl] at h
  rw [h]
def volsM : List Mvd → Int
  | [] => 0
  | o :: r => o.vol + volsM r
theorem volsM_append (a b : List Mvd) : volsM (a ++ b) = volsM a + volsM b := by
  induction a with
  | nil => simp [volsM]
  | cons x r ih => simp only [List.cons_append, volsM, ih]; omega
theorem volsM_eq (l : List Acn) : volsM (moves l []).out = volsR (shares l) := by
  have h := (mvR_all l [] (by simp)).out
  rw [List.take_length, show keysM ([] : Snc) = [] from rfl] at h
  have e1 : ∀ os : List Mvd, volsM os = ((os.map bare).map fun x => x.2.2).sum := by
    intro os
    induction os with
    | nil => rfl
    | cons o r ih => simp only [volsM, List.map_cons, List.sum_cons, ih]
  have e2 : ∀ ss : List Shr, volsR ss = ((ss.map (bareS l)).map fun x => x.2.2).sum := by
    intro os
    induction os with
    | nil => rfl
    | cons o r ih => simp only [volsR, List.map_cons, List.sum_cons, ih]
  rw [e1, e2, h]
theorem moves_fewer (l : List Acn) : (moves l []).out.length = (shares l).length := by
  have h := (mvR_all l [] (by simp)).out
  rw [List.take_length, show keysM ([] : Snc) = [] from rfl] at h
  have := congrArg List.length h
  simpa using this
theorem moves_reach (l : List Acn) (p : Plc) : (moves l [p]).marks = keysM (reachM l p) := by
  have h := (mvR_all l [(p, -1)] (by simp)).marks
  rw [List.take_length, show keysM ([(p, -1)] : Snc) = [p] from rfl] at h
  exact h
theorem moves_out_ok (l : List Acn) (m0 : Snc) (h0 : ∀ x ∈ m0, x.2 < 0) : ∀ o ∈ (moves l (keysM m0)).out, o.num < l.length ∧ 1 ≤ o.vol ∧ o.vol ≤ 1000000000 := by
  intro o ho
  have h := (mvR_all l m0 h0).out
  rw [List.take_length] at h
  have h1 : bare o ∈ (shares l).map (bareS l) := by rw [← h]; exact List.mem_map.2 ⟨o, ho, rfl⟩
  obtain ⟨s, hs, e⟩ := List.mem_map.1 h1
  have h2 := shares_ok l s hs
  simp only [bare, bareS, Prod.mk.injEq] at e
  obtain ⟨e1, _, e3⟩ := e
  rw [← e1, ← e3]
  exact ⟨h2.2.1, h2.2.2.2⟩
/-- A place laid at its place. -/
def insP (p : Plc) : List Plc → List Plc
  | [] => [p]
  | x :: r => if pltB x p = true then x :: insP p r else p :: x :: r
def insL (ms : List Plc) : List Plc := ms.foldl (fun q p => insP p q) []
theorem insL_snoc (ms : List Plc) (p : Plc) : insL (ms ++ [p]) = insP p (insL ms) := by simp [insL]
theorem insP_perm (p : Plc) (l : List Plc) : (insP p l).Perm (p :: l) := by
  induction l with
  | nil => exact .refl _
  | cons x r ih =>
    unfold insP
    split
    · exact (ih.cons x).trans (.swap p x r)
    · exact .refl _
theorem insL_perm (ms : List Plc) : (insL ms).Perm ms := by
  induction ms using snocInd with
  | h0 => exact .refl _
  | h1 l p ih => rw [insL_snoc]; exact ((insP_perm p _).trans (ih.cons p)).trans (List.perm_append_comm (l₁ := [p]))
theorem insP_rising {p : Plc} {l : List Plc} (h : l.Pairwise fun x y => pltB x y = true) (hp : p ∉ l) : (insP p l).Pairwise fun x y => pltB x y = true := by
  induction l with
  | nil => simp [insP]
  | cons x r ih =>
    obtain ⟨h1, h2⟩ := List.pairwise_cons.1 h
    have hne : x ≠ p := fun e => hp (by simp [e])
    unfold insP
    split
    · rename_i hlt
      refine List.pairwise_cons.2 ⟨fun y hy => ?_, ih h2 (fun h => hp (by simp [h]))⟩
      rcases List.mem_cons.1 ((insP_perm p r).mem_iff.1 hy) with rfl | hy
      · exact hlt
      · exact h1 y hy
    · rename_i hlt
      have h3 : pltB p x = true := (plt_total hne).resolve_left hlt
      refine List.pairwise_cons.2 ⟨fun y hy => ?_, h⟩
      rcases List.mem_cons.1 hy with rfl | hy
      · exact h3
      · exact plt_trans h3 (h1 y hy)
theorem insL_rising (ms : List Plc) (h : ms.Nodup) : (insL ms).Pairwise fun x y => pltB x y = true := by
  induction ms using snocInd with
  | h0 => exact List.Pairwise.nil
  | h1 l p ih =>
    rw [insL_snoc]
    have hn := List.nodup_append.1 h
    exact insP_rising (ih hn.1) fun hp => hn.2.2 p ((insL_perm l).mem_iff.1 hp) p (by simp) rfl
theorem insL_unique {ms all : List Plc} (h : ms.Nodup) (hp : all.Perm ms) (hs : all.Pairwise fun x y => pltB y x = false) : insL ms = all :=
  List.Perm.eq_of_pairwise (le := fun x y => pltB y x = false) (fun x y _ _ h1 h2 => Decidable.by_contra fun hn => by
    rcases plt_total hn with h3 | h3
    · rw [h3] at h2; cases h2
    · rw [h3] at h1; cases h1) ((insL_rising ms h).imp fun h => plt_not h) hs ((insL_perm ms).trans hp.symm)
end Go.Proofs.Ytgbnjgenopdmfaa
