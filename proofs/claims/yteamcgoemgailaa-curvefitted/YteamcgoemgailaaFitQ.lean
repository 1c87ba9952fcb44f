/- What Fit answers, plainly; no Go in sight. -/
import Derived.Test.YteamcgoemgailaaFitM
namespace Go.Proofs.Yteamcgoemgailaa

theorem asc_one : ∀ {R R' : List Kn}, (R.Pairwise fun a b => a.v < b.v) → (R'.Pairwise fun a b => a.v < b.v) → (∀ k, k ∈ R ↔ k ∈ R') → R = R'
  | [], R', _, _, h => (List.eq_nil_iff_forall_not_mem.2 fun k hk => by have := (h k).2 hk; simp at this).symm
  | a :: R, [], _, _, h => by have := (h a).1 (by simp); simp at this
  | a :: R, b :: R', h1, h2, h => by
    have g1 := List.pairwise_cons.1 h1
    have g2 := List.pairwise_cons.1 h2
    have ea : a = b := by
      rcases List.mem_cons.1 ((h a).1 (by simp)) with e | e
      · exact e
      · rcases List.mem_cons.1 ((h b).2 (by simp)) with e2 | e2
        · exact e2.symm
        · have := g1.1 b e2
          have := g2.1 a e
          omega
    subst ea
    rw [asc_one g1.2 g2.2 fun k => ⟨fun hk => ?_, fun hk => ?_⟩]
    · rcases List.mem_cons.1 ((h k).1 (by simp [hk])) with e | e
      · subst e; have := g1.1 k hk; omega
      · exact e
    · rcases List.mem_cons.1 ((h k).2 (by simp [hk])) with e | e
      · subst e; have := g2.1 k hk; omega
      · exact e
theorem PMeans.sub {l R R' : List Kn} (h : PMeans l R) (h' : PMeans l R') : ∀ k, k ∈ R → k ∈ R' := by
  intro k hk
  obtain ⟨p, hp, e⟩ := cntV_mem (h.mem k hk).1
  have h0 := h.pos k hk
  obtain ⟨j, hj, e2⟩ := h'.all p hp (by omega)
  have e3 : j.v = k.v := e2.trans e
  have e4 : j.s = k.s := by rw [(h'.mem j hj).2, (h.mem k hk).2, e3]
  obtain ⟨a, b⟩ := j
  obtain ⟨c, d⟩ := k
  simp only at e3 e4
  subst e3 e4
  exact hj
theorem PMeans.one {l R R' : List Kn} (h : PMeans l R) (h' : PMeans l R') : R = R' := asc_one h.asc h'.asc fun k => ⟨h.sub h' k, h'.sub h k⟩
/-- What Fit answers: an error, and the curve. -/
def FitIs (l : List Kn) (r : Int) (C : List Kn) : Prop :=
  (50 < l.length ∧ r = 7 ∧ C = []) ∨ (l.length ≤ 50 ∧ l.any outK = true ∧ r = 2 ∧ C = []) ∨
  (l.length ≤ 50 ∧ l.any outK = false ∧ ∃ R, PMeans l R ∧ R.length ≤ 50 ∧ r = chk (climb [z0] R) ∧ C = if r = 0 then climb [z0] R else [])
theorem FitIs.one {l : List Kn} {r r' : Int} {C C' : List Kn} (h : FitIs l r C) (h' : FitIs l r' C') : r = r' ∧ C = C' := by
  rcases h with ⟨h1, rfl, rfl⟩ | ⟨h1, h2, rfl, rfl⟩ | ⟨h1, h2, R, h3, _, rfl, rfl⟩
  · rcases h' with ⟨_, rfl, rfl⟩ | ⟨g1, _⟩ | ⟨g1, _⟩
    · exact ⟨rfl, rfl⟩
    · omega
    · omega
  · rcases h' with ⟨g1, _⟩ | ⟨_, _, rfl, rfl⟩ | ⟨_, g2, _⟩
    · omega
    · exact ⟨rfl, rfl⟩
    · rw [h2] at g2; cases g2
  · rcases h' with ⟨g1, _⟩ | ⟨_, g2, _⟩ | ⟨_, _, R', g3, _, rfl, rfl⟩
    · omega
    · rw [h2] at g2; cases g2
    · rw [h3.one g3]; exact ⟨rfl, rfl⟩
theorem out_mem {l : List Kn} (h : l.any outK = false) : ∀ k ∈ l, outK k = false := by
  intro k hk
  rw [List.any_eq_false] at h
  simpa using h k hk

/-- A curve's own knots climb. -/
theorem climb_own {c : List Kn} (hc : Rises c) : ∀ k, k + 1 ≤ c.length → climb [c.getD 0 z0] ((c.drop 1).take k) = c.take (k + 1) := by
  intro k
  induction k with
  | zero =>
    intro h
    cases c with
    | nil => simp at h
    | cons a l => simp [climb]
  | succ k ih =>
    intro h
    have hk : k < (c.drop 1).length := by simp; omega
    rw [climb_succ hk, ih (by omega)]
    have hr := hc k (by omega)
    have e : (c.drop 1)[k]'hk = c[k + 1]'(by omega) := by rw [List.getElem_drop]; congr 1; omega
    have hlt : cs (c.take (k + 1)) ((c.take (k + 1)).length - 1) < (c[k + 1]'(by omega)).s := by
      have hl : (c.take (k + 1)).length = k + 1 := by rw [List.length_take]; omega
      rw [hl, Nat.add_sub_cancel, cs_at (by omega : k < (c.take (k + 1)).length), List.getElem_take, ← cs_at, ← cs_at]
      exact hr.2
    rw [e, clim1, if_pos (.inr hlt), List.take_succ_eq_append_getElem (by omega : k + 1 < c.length)]
theorem Curve.pairwise {c : List Kn} (hc : Curve c) : c.Pairwise fun a b => a.v < b.v := by
  rw [List.pairwise_iff_getElem]
  intro i j hi hj hij
  have h1 := hc.rises i (by omega)
  have h2 := (hc.up (i := i + 1) (j := j) (by omega) hj).1
  rw [← cv_at, ← cv_at]
  omega
theorem cnt_one : ∀ {c : List Kn}, (c.Pairwise fun a b => a.v < b.v) → ∀ k ∈ c, cntV c k.v = 1 ∧ sumV c k.v = k.s
  | [], _, _, h => by simp at h
  | a :: l, hp, k, hk => by
    have g := List.pairwise_cons.1 hp
    rcases List.mem_cons.1 hk with rfl | hk
    · have hne : ∀ j ∈ l, j.v ≠ k.v := fun j hj => by have := g.1 j hj; omega
      simp only [cntV, sumV, if_pos]
      rw [cntV_none hne, sumV_none hne]; exact ⟨rfl, by omega⟩
    · have h1 := g.1 k hk
      have h2 := cnt_one g.2 k hk
      simp only [cntV, sumV]
      rw [if_neg (by omega), if_neg (by omega), h2.1, h2.2]; exact ⟨rfl, by omega⟩
/-- A curve's own knots, in whatever order, fit to it. -/
theorem fit_own {c t : List Kn} (hc : Curve c) (hp : t.Perm c) : FitIs t 0 c := by
  have h2 := hc.two
  have hl := hp.length_eq
  refine .inr (.inr ⟨by rw [hl]; exact hc.most, ?_, c.drop 1, ?_, by have := hc.most; simp; omega, ?_⟩)
  · rw [List.any_eq_false]
    intro k hk
    have := any_out.2 hc.near
    rw [List.any_eq_false] at this
    exact this k (hp.mem_iff.1 hk)
  · have hpw := hc.pairwise
    obtain ⟨a, R, e⟩ : ∃ a R, c = a :: R := by
      cases c with
      | nil => simp at h2
      | cons a R => exact ⟨a, R, rfl⟩
    have h0 : a.v = 0 := by have := hc.v0; rw [e] at this; simpa [cv] using this
    have hd : c.drop 1 = R := by rw [e]; rfl
    rw [hd]
    have hpw2 := hpw
    rw [e] at hpw2
    have g := List.pairwise_cons.1 hpw2
    refine ⟨g.2, fun k hk => by have := g.1 k hk; omega, fun k hk => ?_, fun p hp' hpos => ?_⟩
    · have := cnt_one hpw k (by rw [e]; simp [hk])
      unfold meanV
      rw [cntV_perm hp, sumV_perm hp, this.1, this.2]
      exact ⟨by decide, by simp⟩
    · have := hp.mem_iff.1 hp'
      rw [e] at this
      rcases List.mem_cons.1 this with rfl | h
      · omega
      · exact ⟨p, h, rfl⟩
  · have e0 : c.getD 0 z0 = z0 := by
      have h1 := hc.v0
      have h3 := hc.s0
      unfold cv at h1
      unfold cs at h3
      generalize c.getD 0 z0 = x at *
      obtain ⟨v, s⟩ := x
      simp only at h1 h3
      subst h1 h3
      rfl
    have := climb_own hc.rises (c.length - 1) (by omega)
    rw [e0, List.take_of_length_le (by simp), show c.length - 1 + 1 = c.length by omega, List.take_length] at this
    rw [this]
    exact ⟨(chk_ok.2 hc).symm, by rw [if_pos rfl]⟩
end Go.Proofs.Yteamcgoemgailaa
