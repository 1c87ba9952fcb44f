/- Curves, plainly: knots, faults, steps for a volume, volumes for steps; no Go in sight. -/
namespace Go.Proofs.Yteamcgoemgailaa

/-- A knot: a volume and its steps. -/
structure Kn where
  (v s : Int)
abbrev z0 : Kn := ⟨0, 0⟩
/-- The volume, the steps of the knot at a place. -/
def cv (c : List Kn) (i : Nat) : Int := (c.getD i z0).v
def cs (c : List Kn) (i : Nat) : Int := (c.getD i z0).s
theorem cv_at {c : List Kn} {i : Nat} (h : i < c.length) : cv c i = (c[i]'h).v := by simp [cv, h]
theorem cs_at {c : List Kn} {i : Nat} (h : i < c.length) : cs c i = (c[i]'h).s := by simp [cs, h]

/-- Is a number of the knot out of range? -/
def outK (k : Kn) : Bool := decide (k.v < 0) || decide (1000000000 < k.v) || decide (k.s < 0) || decide (1000000000 < k.s)
theorem outK_no {k : Kn} : outK k = false ↔ (0 ≤ k.v ∧ k.v ≤ 1000000000) ∧ 0 ≤ k.s ∧ k.s ≤ 1000000000 := by
  simp only [outK, Bool.or_eq_false_iff, decide_eq_false_iff_not]; omega
/-- Do volumes and steps both rise, from knot to knot? -/
abbrev Rises (c : List Kn) : Prop := ∀ i, i < c.length - 1 → cv c i < cv c (i + 1) ∧ cs c i < cs c (i + 1)
/-- What is wrong with a curve; 0: nothing. -/
def chk (c : List Kn) : Int :=
  if c.length < 2 ∨ 50 < c.length then 7 else if c.any outK = true then 2 else if Rises c then (if cv c 0 = 0 ∧ cs c 0 = 0 then 0 else 1) else 15
/-- A curve. -/
structure Curve (c : List Kn) : Prop where
  two : 2 ≤ c.length
  most : c.length ≤ 50
  near : ∀ i, i < c.length → (0 ≤ cv c i ∧ cv c i ≤ 1000000000) ∧ 0 ≤ cs c i ∧ cs c i ≤ 1000000000
  rises : Rises c
  v0 : cv c 0 = 0
  s0 : cs c 0 = 0
theorem any_out {c : List Kn} : c.any outK = false ↔ ∀ i, i < c.length → (0 ≤ cv c i ∧ cv c i ≤ 1000000000) ∧ 0 ≤ cs c i ∧ cs c i ≤ 1000000000 := by
  rw [List.any_eq_false]
  constructor
  · intro h i hi
    rw [cv_at hi, cs_at hi]
    exact outK_no.1 (by simpa using h _ (List.getElem_mem hi))
  · intro h k hk
    obtain ⟨i, hi, rfl⟩ := List.mem_iff_getElem.1 hk
    have := h i hi
    rw [cv_at hi, cs_at hi] at this
    simpa using outK_no.2 this
theorem chk_ok {c : List Kn} : chk c = 0 ↔ Curve c := by
  unfold chk
  constructor
  · intro h
    split at h
    · simp at h
    · split at h
      · simp at h
      · split at h
        · split at h
          · rename_i h1 h2 h3 h4
            exact ⟨by omega, by omega, any_out.1 (by simpa using h2), h3, h4.1, h4.2⟩
          · simp at h
        · simp at h
  · intro h
    rw [if_neg (by have := h.two; have := h.most; omega), if_neg (by simp [any_out.2 h.near]), if_pos h.rises, if_pos ⟨h.v0, h.s0⟩]
theorem chk_cases (c : List Kn) : chk c = 0 ∨ chk c = 7 ∨ chk c = 2 ∨ chk c = 15 ∨ chk c = 1 := by
  unfold chk
  repeat (first | (split) | omega)

theorem Curve.up {c : List Kn} (hc : Curve c) : ∀ {i j : Nat}, i ≤ j → j < c.length → cv c i ≤ cv c j ∧ cs c i ≤ cs c j := by
  intro i j hij
  induction j with
  | zero => intro _; obtain rfl : i = 0 := by omega
            exact ⟨Int.le_refl _, Int.le_refl _⟩
  | succ j ih =>
    intro hj
    by_cases e : i = j + 1
    · subst e; exact ⟨Int.le_refl _, Int.le_refl _⟩
    · have h1 := ih (by omega) (by omega)
      have h2 := hc.rises j (by omega)
      omega

/-- The place of the straight piece that a volume lies on. -/
def SegAt (c : List Kn) (v : Int) (a : Nat) : Prop := a + 1 < c.length ∧ v ≤ cv c (a + 1) ∧ (a = 0 ∨ cv c a < v)
/-- Steps on a piece. -/
def stepAt (c : List Kn) (a : Nat) (v : Int) : Int :=
  cs c a + (2 * (v - cv c a) * (cs c (a + 1) - cs c a) + (cv c (a + 1) - cv c a)) / (2 * (cv c (a + 1) - cv c a))
def seg (c : List Kn) (v : Int) : Nat := (c.drop 1).findIdx fun k => decide (v ≤ k.v)
/-- Steps for a volume. -/
def stp (c : List Kn) (v : Int) : Int := stepAt c (seg c v) v
abbrev mostV (c : List Kn) : Int := cv c (c.length - 1)
abbrev mostS (c : List Kn) : Int := cs c (c.length - 1)

theorem segAt_seg {c : List Kn} (hc : Curve c) {v : Int} (h : v ≤ mostV c) : SegAt c v (seg c v) := by
  have h2 := hc.two
  have hlt : seg c v < (c.drop 1).length := by
    unfold seg
    rw [List.findIdx_lt_length]
    refine ⟨c[c.length - 1]'(by omega), ?_, ?_⟩
    · rw [List.mem_drop_iff_getElem]
      exact ⟨c.length - 2, by omega, by congr 1; omega⟩
    · have := cv_at (c := c) (i := c.length - 1) (by omega)
      simp only [decide_eq_true_eq]; rw [← this]; exact h
  have hlt2 : seg c v + 1 < c.length := by simp at hlt; omega
  refine ⟨hlt2, ?_, ?_⟩
  · have this : decide (v ≤ ((c.drop 1)[seg c v]'hlt).v) = true := List.findIdx_getElem (w := hlt)
    simp only [List.getElem_drop, decide_eq_true_eq] at this
    rw [cv_at hlt2]
    have e : (c[1 + seg c v]'(by omega)).v = (c[seg c v + 1]'hlt2).v := by congr 2; omega
    rw [← e]; exact this
  · by_cases e : seg c v = 0
    · exact .inl e
    · right
      have := List.not_of_lt_findIdx (p := fun k => decide (v ≤ Kn.v k)) (xs := c.drop 1) (i := seg c v - 1) (by show _ < seg c v; omega)
      simp only [List.getElem_drop, decide_eq_false_iff_not] at this
      rw [cv_at (by omega)]
      have e2 : (c[1 + (seg c v - 1)]'(by omega)).v = (c[seg c v]'(by omega)).v := by congr 2; omega
      rw [← e2]; simpa using this
theorem segAt_le {c : List Kn} (hc : Curve c) {v w : Int} {a b : Nat} (ha : SegAt c v a) (hb : SegAt c w b) (h : v ≤ w) : a ≤ b := by
  by_cases e : a ≤ b
  · exact e
  · obtain ⟨_, _, h3⟩ := ha
    obtain ⟨_, h5, _⟩ := hb
    have := (hc.up (i := b + 1) (j := a) (by omega) (by omega)).1
    omega
theorem segAt_one {c : List Kn} (hc : Curve c) {v : Int} {a b : Nat} (ha : SegAt c v a) (hb : SegAt c v b) : a = b :=
  Nat.le_antisymm (segAt_le hc ha hb (Int.le_refl _)) (segAt_le hc hb ha (Int.le_refl _))
theorem stp_at {c : List Kn} (hc : Curve c) {v : Int} {a : Nat} (ha : SegAt c v a) : stp c v = stepAt c a v := by
  have hv : v ≤ mostV c := Int.le_trans ha.2.1 (hc.up (by have := ha.1; omega) (by have := ha.1; omega)).1
  rw [stp, segAt_one hc (segAt_seg hc hv) ha]

theorem half_mono {w a b : Int} (hw : 0 < w) (h : a ≤ b) : (2 * a + w) / (2 * w) ≤ (2 * b + w) / (2 * w) := Int.ediv_le_ediv (by omega) (by omega)
theorem half_end (w r : Int) (hw : 0 < w) : (2 * w * r + w) / (2 * w) = r := by
  rw [Int.add_comm, Int.add_mul_ediv_left _ _ (by omega), Int.ediv_eq_zero_of_lt (by omega) (by omega)]; omega
theorem half_start (w r : Int) (hw : 0 < w) : (2 * 0 * r + w) / (2 * w) = 0 := by
  rw [Int.mul_zero, Int.zero_mul, Int.zero_add, Int.ediv_eq_zero_of_lt (by omega) (by omega)]
/-- Halves up, by the remainder. -/
theorem half_rem (u w : Int) (hw : 0 < w) : (2 * u + w) / (2 * w) = u / w + (if w ≤ 2 * (u % w) then 1 else 0) := by
  have e := Int.mul_ediv_add_emod u w
  have h1 := Int.emod_nonneg u (show w ≠ 0 by omega)
  have h2 := Int.emod_lt_of_pos u hw
  generalize u / w = q at *
  generalize u % w = r at *
  have e2 : 2 * u + w = (2 * r + w) + 2 * w * q := by
    have : 2 * w * q = 2 * (w * q) := Int.mul_assoc _ _ _
    omega
  rw [e2, Int.add_mul_ediv_left _ _ (by omega)]
  split
  · rw [show (2 * r + w) / (2 * w) = 1 from ?_]
    · omega
    · have := Int.add_mul_ediv_left (2 * r + w - 2 * w) 1 (show (2 * w) ≠ 0 by omega)
      rw [show 2 * r + w - 2 * w + 2 * w * 1 = 2 * r + w by omega] at this
      rw [this, Int.ediv_eq_zero_of_lt (by omega) (by omega)]; omega
  · rw [Int.ediv_eq_zero_of_lt (by omega) (by omega)]; omega

theorem stepAt_mono {c : List Kn} (hc : Curve c) {a : Nat} (ha : a + 1 < c.length) {v w : Int} (h : v ≤ w) : stepAt c a v ≤ stepAt c a w := by
  have h1 := hc.rises a (by omega)
  unfold stepAt
  have : 2 * (v - cv c a) * (cs c (a + 1) - cs c a) ≤ 2 * (w - cv c a) * (cs c (a + 1) - cs c a) := Int.mul_le_mul_of_nonneg_right (by omega) (by omega)
  have := Int.ediv_le_ediv (a := 2 * (v - cv c a) * (cs c (a + 1) - cs c a) + (cv c (a + 1) - cv c a)) (b := 2 * (w - cv c a) * (cs c (a + 1) - cs c a) + (cv c (a + 1) - cv c a)) (c := 2 * (cv c (a + 1) - cv c a)) (by omega) (by omega)
  omega
theorem stepAt_end {c : List Kn} (hc : Curve c) {a : Nat} (ha : a + 1 < c.length) : stepAt c a (cv c (a + 1)) = cs c (a + 1) := by
  have h1 := hc.rises a (by omega)
  unfold stepAt
  rw [half_end _ _ (by omega)]; omega
theorem stepAt_start {c : List Kn} (hc : Curve c) {a : Nat} (ha : a + 1 < c.length) : stepAt c a (cv c a) = cs c a := by
  have h1 := hc.rises a (by omega)
  unfold stepAt
  rw [show cv c a - cv c a = 0 by omega, half_start _ _ (by omega)]; omega
theorem segAt_low {c : List Kn} (hc : Curve c) {v : Int} (hv : 0 ≤ v) {a : Nat} (ha : SegAt c v a) : cv c a ≤ v := by
  rcases ha.2.2 with e | e
  · subst e; rw [hc.v0]; exact hv
  · omega
theorem stp_mono {c : List Kn} (hc : Curve c) {v w : Int} (hv : 0 ≤ v) (h : v ≤ w) (hw : w ≤ mostV c) : stp c v ≤ stp c w := by
  have sa := segAt_seg hc (v := v) (by omega)
  have sb := segAt_seg hc hw
  rw [stp_at hc sa, stp_at hc sb]
  have hab := segAt_le hc sa sb h
  generalize seg c v = a at *
  generalize seg c w = b at *
  by_cases e : a = b
  · subst e; exact stepAt_mono hc sa.1 h
  · have h1 := stepAt_mono hc sa.1 sa.2.1
    rw [stepAt_end hc sa.1] at h1
    have h2 := stepAt_mono hc sb.1 (segAt_low hc (by omega) sb)
    rw [stepAt_start hc sb.1] at h2
    have := (hc.up (i := a + 1) (j := b) (by omega) (by have := sb.1; omega)).2
    omega
theorem stp_zero {c : List Kn} (hc : Curve c) : stp c 0 = 0 := by
  have h2 := hc.two
  have h1 := hc.rises 0 (by omega)
  rw [stp_at hc (a := 0) ⟨by omega, by have := hc.v0; omega, .inl rfl⟩]
  have := stepAt_start hc (a := 0) (by omega)
  rw [hc.v0, hc.s0] at this; exact this
theorem stp_most {c : List Kn} (hc : Curve c) : stp c (mostV c) = mostS c := by
  have h2 := hc.two
  have e : c.length - 2 + 1 = c.length - 1 := by omega
  have h1 := hc.rises (c.length - 2) (by omega)
  rw [e] at h1
  rw [stp_at hc (a := c.length - 2) ⟨by omega, by rw [e]; exact Int.le_refl _, .inr h1.1⟩]
  have := stepAt_end hc (a := c.length - 2) (by omega)
  rw [e] at this; exact this
theorem mostV_pos {c : List Kn} (hc : Curve c) : 0 < mostV c := by
  have h2 := hc.two
  have h1 : cv c 0 < cv c 1 := (hc.rises 0 (by omega)).1
  have := (hc.up (i := 1) (j := c.length - 1) (by omega) (by omega)).1
  have := hc.v0
  unfold mostV; omega
theorem stp_in {c : List Kn} (hc : Curve c) {v : Int} (hv : 0 ≤ v) (hw : v ≤ mostV c) : 0 ≤ stp c v ∧ stp c v ≤ mostS c := by
  have h1 := stp_mono hc (Int.le_refl 0) hv hw
  have h2 := stp_mono hc hv hw (Int.le_refl _)
  rw [stp_zero hc] at h1
  rw [stp_most hc] at h2
  exact ⟨h1, h2⟩

/-- The greatest volume that needs at most so many steps. -/
def VolAt (c : List Kn) (n r : Int) : Prop := (0 ≤ r ∧ r ≤ mostV c) ∧ stp c r ≤ n ∧ (r = mostV c ∨ n < stp c (r + 1))
theorem volAt_le {c : List Kn} (hc : Curve c) {n r v : Int} (h : VolAt c n r) (hv : v ≤ mostV c) (hs : stp c v ≤ n) : v ≤ r := by
  obtain ⟨⟨h1, h2⟩, h3, h4⟩ := h
  by_cases e : v ≤ r
  · exact e
  · rcases h4 with h4 | h4
    · omega
    · have := stp_mono hc (v := r + 1) (w := v) (by omega) (by omega) hv
      omega
theorem volAt_one {c : List Kn} (hc : Curve c) {n r q : Int} (h : VolAt c n r) (h' : VolAt c n q) : r = q :=
  Int.le_antisymm (volAt_le hc h' h.1.2 h.2.1) (volAt_le hc h h'.1.2 h'.2.1)
end Go.Proofs.Yteamcgoemgailaa
