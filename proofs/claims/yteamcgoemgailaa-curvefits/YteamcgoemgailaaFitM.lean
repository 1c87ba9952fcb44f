/- Points and their means, plainly; no Go in sight. -/
import Derived.Test.YteamcgoemgailaaMath
namespace Go.Proofs.Yteamcgoemgailaa

/-- The steps of the points of a volume together; how many they are; their mean, cut off. -/
def sumV : List Kn → Int → Int
  | [], _ => 0
  | k :: l, x => (if k.v = x then k.s else 0) + sumV l x
def cntV : List Kn → Int → Nat
  | [], _ => 0
  | k :: l, x => (if k.v = x then 1 else 0) + cntV l x
def meanV (l : List Kn) (x : Int) : Int := sumV l x / (cntV l x : Int)
theorem sumV_append : ∀ (a b : List Kn) (x : Int), sumV (a ++ b) x = sumV a x + sumV b x
  | [], b, x => by simp [sumV]
  | k :: a, b, x => by simp only [List.cons_append, sumV, sumV_append a b x]; omega
theorem cntV_append : ∀ (a b : List Kn) (x : Int), cntV (a ++ b) x = cntV a x + cntV b x
  | [], b, x => by simp [cntV]
  | k :: a, b, x => by simp only [List.cons_append, cntV, cntV_append a b x]; omega
theorem sumV_perm {a b : List Kn} (h : a.Perm b) (x : Int) : sumV a x = sumV b x := by
  induction h with
  | nil => rfl
  | cons k _ ih => simp only [sumV, ih]
  | swap k j l => simp only [sumV]; omega
  | trans _ _ h1 h2 => exact h1.trans h2
theorem cntV_perm {a b : List Kn} (h : a.Perm b) (x : Int) : cntV a x = cntV b x := by
  induction h with
  | nil => rfl
  | cons k _ ih => simp only [cntV, ih]
  | swap k j l => simp only [cntV]; omega
  | trans _ _ h1 h2 => exact h1.trans h2
theorem sumV_none : ∀ {l : List Kn} {x : Int}, (∀ k ∈ l, k.v ≠ x) → sumV l x = 0
  | [], _, _ => rfl
  | k :: l, x, h => by
    simp only [sumV]
    rw [if_neg (h k (by simp)), sumV_none fun j hj => h j (by simp [hj])]; omega
theorem cntV_none : ∀ {l : List Kn} {x : Int}, (∀ k ∈ l, k.v ≠ x) → cntV l x = 0
  | [], _, _ => rfl
  | k :: l, x, h => by
    simp only [cntV]
    rw [if_neg (h k (by simp)), cntV_none fun j hj => h j (by simp [hj])]
theorem cntV_all : ∀ {l : List Kn} {x : Int}, (∀ k ∈ l, k.v = x) → cntV l x = l.length
  | [], _, _ => rfl
  | k :: l, x, h => by
    simp only [cntV, List.length_cons]
    rw [if_pos (h k (by simp)), cntV_all fun j hj => h j (by simp [hj])]; omega
theorem cntV_pos {l : List Kn} {k : Kn} (h : k ∈ l) : 0 < cntV l k.v := by
  obtain ⟨a, b, rfl⟩ := List.append_of_mem h
  rw [cntV_append]
  simp only [cntV, if_pos]; omega
theorem cntV_mem : ∀ {l : List Kn} {x : Int}, 0 < cntV l x → ∃ k ∈ l, k.v = x
  | [], _, h => by simp [cntV] at h
  | k :: l, x, h => by
    by_cases e : k.v = x
    · exact ⟨k, by simp, e⟩
    · simp only [cntV, if_neg e, Nat.zero_add] at h
      obtain ⟨j, hj, e⟩ := cntV_mem h
      exact ⟨j, by simp [hj], e⟩
theorem sumV_in : ∀ {l : List Kn} (x : Int), (∀ k ∈ l, outK k = false) → 0 ≤ sumV l x ∧ sumV l x ≤ 1000000000 * (cntV l x : Int)
  | [], x, _ => by simp [sumV, cntV]
  | k :: l, x, h => by
    have h1 := sumV_in (l := l) x fun j hj => h j (by simp [hj])
    have h2 := (outK_no.1 (h k (by simp))).2
    simp only [sumV, cntV]
    split
    · rw [Nat.add_comm]; simp only [Int.natCast_add]; omega
    · simpa using h1
theorem cntV_le : ∀ (l : List Kn) (x : Int), cntV l x ≤ l.length
  | [], _ => Nat.le_refl _
  | k :: l, x => by
    have := cntV_le l x
    simp only [cntV, List.length_cons]
    split <;> omega

/-- The means of points, a knot a volume, rising. -/
structure Means (l M : List Kn) : Prop where
  asc : M.Pairwise fun a b => a.v < b.v
  mem : ∀ k ∈ M, 0 < cntV l k.v ∧ k.s = meanV l k.v
  all : ∀ p ∈ l, ∃ k ∈ M, k.v = p.v
theorem Means.nil : Means [] [] := ⟨List.Pairwise.nil, fun _ h => by simp at h, fun _ h => by simp at h⟩
theorem Means.perm {l l' M : List Kn} (h : Means l M) (hp : l.Perm l') : Means l' M :=
  ⟨h.asc, fun k hk => by
    have := h.mem k hk
    unfold meanV at this ⊢
    rw [← cntV_perm hp, ← sumV_perm hp]; exact this, fun p hp' => h.all p (hp.mem_iff.2 hp')⟩
theorem Means.step {A M G : List Kn} {x : Int} (h : Means A M) (hA : ∀ a ∈ A, a.v < x) (hG : ∀ g ∈ G, g.v = x) (h0 : G ≠ []) : Means (A ++ G) (M ++ [⟨x, sumV G x / (G.length : Int)⟩]) := by
  have hM : ∀ k ∈ M, k.v < x := fun k hk => by
    obtain ⟨j, hj, e⟩ := cntV_mem (h.mem k hk).1
    have := hA j hj
    omega
  refine ⟨?_, fun k hk => ?_, fun p hp => ?_⟩
  · rw [List.pairwise_append]
    refine ⟨h.asc, by simp, fun a ha b hb => ?_⟩
    simp at hb; subst hb; exact hM a ha
  · rcases List.mem_append.1 hk with hk | hk
    · have h1 := h.mem k hk
      have hne : ∀ g ∈ G, g.v ≠ k.v := fun g hg => by have := hG g hg; have := hM k hk; omega
      unfold meanV at h1 ⊢
      rw [cntV_append, sumV_append, cntV_none hne, sumV_none hne, Nat.add_zero, Int.add_zero]; exact h1
    · simp at hk; subst hk
      have hne : ∀ a ∈ A, a.v ≠ x := fun a ha => by have := hA a ha; omega
      simp only
      unfold meanV
      rw [cntV_append, sumV_append, cntV_none hne, sumV_none hne, cntV_all hG, Nat.zero_add, Int.zero_add]
      refine ⟨?_, rfl⟩
      cases G with
      | nil => exact absurd rfl h0
      | cons _ _ => simp
  · rcases List.mem_append.1 hp with hp | hp
    · obtain ⟨k, hk, e⟩ := h.all p hp
      exact ⟨k, by simp [hk], e⟩
    · exact ⟨_, List.mem_append_right _ (by simp; rfl), (hG p hp).symm⟩
/-- The means of the points that have some volume. -/
structure PMeans (l R : List Kn) : Prop where
  asc : R.Pairwise fun a b => a.v < b.v
  pos : ∀ k ∈ R, 0 < k.v
  mem : ∀ k ∈ R, 0 < cntV l k.v ∧ k.s = meanV l k.v
  all : ∀ p ∈ l, 0 < p.v → ∃ k ∈ R, k.v = p.v
/-- Knots without one at no volume. -/
def beg : List Kn → List Kn
  | [] => []
  | k :: R => if k.v = 0 then R else k :: R
theorem beg_length (M : List Kn) : (beg M).length ≤ M.length := by
  cases M with
  | nil => exact Nat.le_refl _
  | cons k R => simp only [beg]; split <;> simp
theorem Means.pos {l M : List Kn} (h : Means l M) (h0 : ∀ p ∈ l, 0 ≤ p.v) : PMeans l (beg M) := by
  have hM : ∀ k ∈ M, 0 ≤ k.v := fun k hk => by
    obtain ⟨j, hj, e⟩ := cntV_mem (h.mem k hk).1
    rw [← e]; exact h0 j hj
  cases M with
  | nil => exact ⟨List.Pairwise.nil, fun _ h => by simp [beg] at h, fun _ h => by simp [beg] at h, fun p hp _ => by obtain ⟨k, hk, _⟩ := h.all p hp; simp at hk⟩
  | cons k R =>
    have ha := List.pairwise_cons.1 h.asc
    simp only [beg]
    split
    · rename_i e
      refine ⟨ha.2, fun j hj => by have := ha.1 j hj; omega, fun j hj => h.mem j (by simp [hj]), fun p hp hpp => ?_⟩
      obtain ⟨j, hj, e2⟩ := h.all p hp
      rcases List.mem_cons.1 hj with rfl | hj
      · omega
      · exact ⟨j, hj, e2⟩
    · rename_i e
      have hk := hM k (by simp)
      refine ⟨h.asc, fun j hj => ?_, h.mem, fun p hp _ => h.all p hp⟩
      rcases List.mem_cons.1 hj with rfl | hj
      · omega
      · have := ha.1 j hj; omega

/-- One more knot, if it climbs. -/
def clim1 (acc : List Kn) (p : Kn) : List Kn := if acc.length = 0 ∨ cs acc (acc.length - 1) < p.s then acc ++ [p] else acc
def climb (acc : List Kn) (R : List Kn) : List Kn := R.foldl clim1 acc
theorem climb_succ {acc R : List Kn} {k : Nat} (h : k < R.length) : climb acc (R.take (k + 1)) = clim1 (climb acc (R.take k)) (R[k]'h) := by
  unfold climb
  rw [List.take_succ_eq_append_getElem h, List.foldl_append]; rfl
theorem climb_length (R : List Kn) : ∀ acc : List Kn, (climb acc R).length ≤ acc.length + R.length := by
  induction R with
  | nil => intro acc; exact Nat.le_refl _
  | cons p R ih =>
    intro acc
    have := ih (clim1 acc p)
    have h2 : (clim1 acc p).length ≤ acc.length + 1 := by unfold clim1; split <;> simp
    simp only [climb, List.foldl_cons, List.length_cons] at *
    omega
theorem climb_begun (R : List Kn) : climb [] (z0 :: R) = climb [z0] R := rfl
theorem climb_pos (R : List Kn) : ∀ {acc : List Kn}, 0 < acc.length → 0 < (climb acc R).length := by
  induction R with
  | nil => intro acc h; exact h
  | cons p R ih =>
    intro acc h
    exact ih (by unfold clim1; split <;> simp_all)
end Go.Proofs.Yteamcgoemgailaa
