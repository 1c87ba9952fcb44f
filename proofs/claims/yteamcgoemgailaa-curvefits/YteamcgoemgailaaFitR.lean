/- How the document finds the next volume, plainly; no Go in sight. -/
import Derived.Test.YteamcgoemgailaaFitQ
namespace Go.Proofs.Yteamcgoemgailaa

/-- The volume ahead of the knot at a place. -/
def lastV (R : List Kn) (k : Nat) : Int := if k = 0 then 0 else cv R (k - 1)
/-- The least volume above another one; -1: there is none. -/
def LeastV (A : List Kn) (last next : Int) : Prop :=
  (next = -1 ∧ ∀ p ∈ A, p.v ≤ last) ∨ (last < next ∧ (∃ p ∈ A, p.v = next) ∧ ∀ p ∈ A, last < p.v → next ≤ p.v)
theorem LeastV.nil (last : Int) : LeastV [] last (-1) := .inl ⟨rfl, fun _ h => by simp at h⟩
theorem LeastV.skip {A : List Kn} {last next : Int} {p : Kn} (h : LeastV A last next) (hp : p.v ≤ last ∨ (0 ≤ next ∧ next ≤ p.v)) : LeastV (A ++ [p]) last next := by
  rcases h with ⟨h1, h2⟩ | ⟨h1, ⟨q, hq, e⟩, h3⟩
  · refine .inl ⟨h1, fun j hj => ?_⟩
    rcases List.mem_append.1 hj with hj | hj
    · exact h2 j hj
    · simp at hj; subst hj; omega
  · refine .inr ⟨h1, ⟨q, by simp [hq], e⟩, fun j hj hl => ?_⟩
    rcases List.mem_append.1 hj with hj | hj
    · exact h3 j hj hl
    · simp at hj; subst hj; omega
theorem LeastV.take {A : List Kn} {last next : Int} {p : Kn} (h : LeastV A last next) (hp : last < p.v) (hn : next < 0 ∨ p.v < next) (h0 : 0 ≤ last) : LeastV (A ++ [p]) last p.v := by
  refine .inr ⟨hp, ⟨p, by simp, rfl⟩, fun j hj hl => ?_⟩
  rcases List.mem_append.1 hj with hj | hj
  · rcases h with ⟨h1, h2⟩ | ⟨h1, _, h3⟩
    · have := h2 j hj; omega
    · have := h3 j hj hl; omega
  · simp at hj; subst hj; exact Int.le_refl _
theorem PMeans.lt {l R : List Kn} (h : PMeans l R) {i j : Nat} (hij : i < j) (hj : j < R.length) : cv R i < cv R j := by
  have := List.pairwise_iff_getElem.1 h.asc i j (by omega) hj hij
  rw [cv_at (by omega), cv_at hj]; exact this
theorem PMeans.pos_at {l R : List Kn} (h : PMeans l R) {i : Nat} (hi : i < R.length) : 0 < cv R i := by
  rw [cv_at hi]; exact h.pos _ (List.getElem_mem hi)
theorem PMeans.last_nonneg {l R : List Kn} (h : PMeans l R) {k : Nat} (hk : k ≤ R.length) : 0 ≤ lastV R k := by
  unfold lastV
  split
  · exact Int.le_refl _
  · have := h.pos_at (i := k - 1) (by omega); omega
theorem PMeans.last_lt {l R : List Kn} (h : PMeans l R) {k i : Nat} (hk : k ≤ i) (hi : i < R.length) : lastV R k < cv R i := by
  unfold lastV
  split
  · exact h.pos_at hi
  · exact h.lt (by omega) hi
theorem PMeans.last_ge {l R : List Kn} (h : PMeans l R) {k i : Nat} (hk : i < k) (hkr : k ≤ R.length) : cv R i ≤ lastV R k := by
  unfold lastV
  rw [if_neg (by omega)]
  by_cases e : i = k - 1
  · subst e; exact Int.le_refl _
  · have := h.lt (i := i) (j := k - 1) (by omega) (by omega); omega
theorem PMeans.vol {l R : List Kn} (h : PMeans l R) {i : Nat} (hi : i < R.length) : ∃ p ∈ l, p.v = cv R i := by
  rw [cv_at hi]; exact cntV_mem (h.mem _ (List.getElem_mem hi)).1
theorem PMeans.none {l R : List Kn} (h : PMeans l R) {k : Nat} (hk : k ≤ R.length) (hn : LeastV l (lastV R k) (-1)) : k = R.length := by
  rcases hn with ⟨_, h2⟩ | ⟨h1, _⟩
  · by_cases e : k = R.length
    · exact e
    · obtain ⟨p, hp, e2⟩ := h.vol (i := k) (by omega)
      have := h2 p hp
      have := h.last_lt (Nat.le_refl k) (by omega : k < R.length)
      omega
  · have := h.last_nonneg hk; omega
theorem PMeans.some {l R : List Kn} (h : PMeans l R) {k : Nat} (hk : k ≤ R.length) {x : Int} (hx : 0 ≤ x) (hn : LeastV l (lastV R k) x) : ∃ hlt : k < R.length, (R[k]'hlt) = ⟨x, sumV l x / (cntV l x : Int)⟩ ∧ lastV R (k + 1) = x ∧ 0 < cntV l x := by
  rcases hn with ⟨h1, _⟩ | ⟨h1, ⟨p, hp, e⟩, h3⟩
  · omega
  · have h0 := h.last_nonneg hk
    obtain ⟨r, hr, e2⟩ := h.all p hp (by omega)
    obtain ⟨i, hi, e3⟩ := List.mem_iff_getElem.1 hr
    have hcv : cv R i = x := by rw [cv_at hi, e3, e2, e]
    have hki : k ≤ i := by
      by_cases e4 : k ≤ i
      · exact e4
      · have := h.last_ge (i := i) (k := k) (by omega) hk; omega
    have hlt : k < R.length := by omega
    have hkx : cv R k = x := by
      obtain ⟨q, hq, e5⟩ := h.vol hlt
      have h5 := h3 q hq (by have := h.last_lt (Nat.le_refl k) hlt; omega)
      by_cases e6 : k = i
      · subst e6; exact hcv
      · have := h.lt (i := k) (j := i) (by omega) hi; omega
    have hm := h.mem _ (List.getElem_mem hlt)
    rw [cv_at hlt] at hkx
    rw [hkx] at hm
    refine ⟨hlt, ?_, ?_, hm.1⟩
    · have h7 := hm.2
      unfold meanV at h7
      generalize R[k]'hlt = y at *
      obtain ⟨a, b⟩ := y
      simp only at hkx h7
      subst hkx h7
      rfl
    · unfold lastV
      rw [if_neg (by omega), Nat.add_sub_cancel, cv_at hlt]; exact hkx
theorem sumV_succ {l : List Kn} {j : Nat} (h : j < l.length) (x : Int) : sumV (l.take (j + 1)) x = sumV (l.take j) x + (if (l[j]'h).v = x then (l[j]'h).s else 0) := by
  rw [List.take_succ_eq_append_getElem h, sumV_append]; simp [sumV]
theorem cntV_succ {l : List Kn} {j : Nat} (h : j < l.length) (x : Int) : cntV (l.take (j + 1)) x = cntV (l.take j) x + (if (l[j]'h).v = x then 1 else 0) := by
  rw [List.take_succ_eq_append_getElem h, cntV_append]; simp [cntV]
end Go.Proofs.Yteamcgoemgailaa
