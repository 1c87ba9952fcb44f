/- Boxes, plainly: near, ordered, meeting, hulls, moves, the first of a list; no Go in sight. -/
namespace Go.Proofs.Ytiafcgbohckmmaa

/-- A point. -/
structure Pt where
  (x y z : Int)
/-- A box: its low and its high end. -/
structure Bx where
  (lx ly lz hx hy hz : Int)

abbrev Bx.lo (b : Bx) : Pt := ⟨b.lx, b.ly, b.lz⟩
abbrev Bx.hi (b : Bx) : Pt := ⟨b.hx, b.hy, b.hz⟩
/-- Is a number not too far? -/
def nr (n : Int) : Bool := decide (-10000000 ≤ n) && decide (n ≤ 10000000)
def nearP (p : Pt) : Bool := nr p.x && nr p.y && nr p.z
def nearB (b : Bx) : Bool := nearP b.lo && nearP b.hi
/-- Is each number of the one below the other's? -/
def below (p q : Pt) : Bool := decide (p.x < q.x) && decide (p.y < q.y) && decide (p.z < q.z)
def atMost (p q : Pt) : Bool := decide (p.x ≤ q.x) && decide (p.y ≤ q.y) && decide (p.z ≤ q.z)
def meet (a b : Bx) : Bool := below a.lo b.hi && below b.lo a.hi
/-- What is wrong with a box. -/
def bad1 (b : Bx) : Int := if nearB b = true then (if atMost b.lo b.hi = true then 0 else 1) else 2
/-- What is wrong with the first box that is none. -/
def badL : List Bx → Int
  | [] => 0
  | b :: l => if bad1 b = 0 then badL l else bad1 b
def hullB (a b : Bx) : Bx := ⟨min a.lx b.lx, min a.ly b.ly, min a.lz b.lz, max a.hx b.hx, max a.hy b.hy, max a.hz b.hz⟩
def movB (a : Bx) (p : Pt) : Bx := ⟨a.lx + p.x, a.ly + p.y, a.lz + p.z, a.hx + p.x, a.hy + p.y, a.hz + p.z⟩
def one (n : Int) : Int := if n = 0 then 0 else 1
def straight (p : Pt) : Bool := decide (one p.x + one p.y + one p.z ≤ 1)
/-- The number of the first box that is so; -1: none is. -/
def idx (f : Bx → Bool) (l : List Bx) : Int := match l.findIdx? f with
  | some k => (k : Int)
  | none => -1

theorem nr_yes {n : Int} (h : -10000000 ≤ n) (h2 : n ≤ 10000000) : nr n = true := by simp [nr, h, h2]
theorem nr_no {n : Int} (h : n < -10000000 ∨ 10000000 < n) : nr n = false := by
  simp only [nr, Bool.and_eq_false_iff, decide_eq_false_iff_not]; omega
theorem nr_iff {n : Int} : nr n = true ↔ -10000000 ≤ n ∧ n ≤ 10000000 := by simp [nr]
theorem nr_out {n : Int} (h : nr n = false) : n < -10000000 ∨ 10000000 < n := by
  simp only [nr, Bool.and_eq_false_iff, decide_eq_false_iff_not] at h; omega
theorem nearB_iff {b : Bx} : nearB b = true ↔ (-10000000 ≤ b.lx ∧ b.lx ≤ 10000000) ∧ (-10000000 ≤ b.ly ∧ b.ly ≤ 10000000) ∧ (-10000000 ≤ b.lz ∧ b.lz ≤ 10000000) ∧ (-10000000 ≤ b.hx ∧ b.hx ≤ 10000000) ∧ (-10000000 ≤ b.hy ∧ b.hy ≤ 10000000) ∧ (-10000000 ≤ b.hz ∧ b.hz ≤ 10000000) := by
  simp only [nearB, nearP, Bool.and_eq_true, nr_iff]; constructor
  · rintro ⟨⟨⟨a, b⟩, c⟩, ⟨d, e⟩, f⟩; exact ⟨a, b, c, d, e, f⟩
  · rintro ⟨a, b, c, d, e, f⟩; exact ⟨⟨⟨a, b⟩, c⟩, ⟨d, e⟩, f⟩
theorem nearP_iff {p : Pt} : nearP p = true ↔ (-10000000 ≤ p.x ∧ p.x ≤ 10000000) ∧ (-10000000 ≤ p.y ∧ p.y ≤ 10000000) ∧ (-10000000 ≤ p.z ∧ p.z ≤ 10000000) := by
  simp only [nearP, Bool.and_eq_true, nr_iff, and_assoc]
theorem atMost_iff {p q : Pt} : atMost p q = true ↔ p.x ≤ q.x ∧ p.y ≤ q.y ∧ p.z ≤ q.z := by simp [atMost, and_assoc]
theorem below_iff {p q : Pt} : below p q = true ↔ p.x < q.x ∧ p.y < q.y ∧ p.z < q.z := by simp [below, and_assoc]
theorem meet_iff {a b : Bx} : meet a b = true ↔ (a.lx < b.hx ∧ a.ly < b.hy ∧ a.lz < b.hz) ∧ (b.lx < a.hx ∧ b.ly < a.hy ∧ b.lz < a.hz) := by
  simp only [meet, Bool.and_eq_true, below_iff]
theorem meet_comm (a b : Bx) : meet a b = meet b a := by rw [Bool.eq_iff_iff, meet_iff, meet_iff]; exact And.comm
theorem below_yes {p q : Pt} (h : p.x < q.x) (h1 : p.y < q.y) (h2 : p.z < q.z) : true = below p q := (below_iff.2 ⟨h, h1, h2⟩).symm
theorem below_no {p q : Pt} (h : q.x ≤ p.x ∨ q.y ≤ p.y ∨ q.z ≤ p.z) : false = below p q := by
  cases e : below p q with
  | false => rfl
  | true => have := below_iff.1 e; omega
theorem atMost_yes {p q : Pt} (h : p.x ≤ q.x) (h1 : p.y ≤ q.y) (h2 : p.z ≤ q.z) : true = atMost p q := (atMost_iff.2 ⟨h, h1, h2⟩).symm
theorem atMost_no {p q : Pt} (h : q.x < p.x ∨ q.y < p.y ∨ q.z < p.z) : false = atMost p q := by
  cases e : atMost p q with
  | false => rfl
  | true => have := atMost_iff.1 e; omega
theorem nearP_no {p : Pt} (h : nr p.x = false ∨ nr p.y = false ∨ nr p.z = false) : nearP p = false := by
  simp only [nearP]; rcases h with h | h | h <;> simp [h]
theorem one_zero : one 0 = 0 := rfl
theorem one_of {n : Int} (h : n ≠ 0) : one n = 1 := if_neg h
theorem bad1_ok {b : Bx} : bad1 b = 0 ↔ nearB b = true ∧ atMost b.lo b.hi = true := by
  unfold bad1
  split
  · split
    · simp_all
    · simp_all
  · simp_all
theorem bad1_far {b : Bx} (h : nearB b = false) : bad1 b = 2 := by simp [bad1, h]
theorem bad1_form {b : Bx} (h : nearB b = true) (h2 : atMost b.lo b.hi = false) : bad1 b = 1 := by simp [bad1, h, h2]
theorem badL_one (a : Bx) : badL [a] = bad1 a := by simp only [badL]; split <;> simp_all
theorem badL_two (a b : Bx) : badL [a, b] = if bad1 a = 0 then bad1 b else bad1 a := by
  rw [show badL [a, b] = if bad1 a = 0 then badL [b] else bad1 a from rfl, badL_one]
theorem badL_zero : ∀ {l : List Bx}, badL l = 0 ↔ ∀ b ∈ l, bad1 b = 0
  | [] => by simp [badL]
  | b :: l => by
    simp only [badL]
    split
    · rename_i h; rw [badL_zero]; simp [h]
    · rename_i h; simp [h]
theorem badL_skip : ∀ {a l : List Bx}, (∀ b ∈ a, bad1 b = 0) → badL (a ++ l) = badL l
  | [], _, _ => rfl
  | b :: a, l, h => by
    simp only [List.cons_append, badL]
    rw [if_pos (h b (by simp)), badL_skip fun c hc => h c (by simp [hc])]
theorem badL_at {l : List Bx} {k : Nat} (h : k < l.length) (ha : ∀ b ∈ l.take k, bad1 b = 0) (hb : bad1 (l[k]'h) ≠ 0) : badL l = bad1 (l[k]'h) := by
  have e : l = l.take k ++ l[k]'h :: l.drop (k + 1) := by rw [← List.drop_eq_getElem_cons h, List.take_append_drop]
  conv => lhs; rw [e]
  rw [badL_skip ha]
  simp only [badL]; rw [if_neg hb]
theorem take_succ_all {l : List Bx} {k : Nat} {p : Bx → Prop} (h : k < l.length) (ha : ∀ b ∈ l.take k, p b) (hb : p (l[k]'h)) : ∀ b ∈ l.take (k + 1), p b := by
  rw [List.take_succ_eq_append_getElem h]
  intro f hf
  rcases List.mem_append.1 hf with hf | hf
  · exact ha f hf
  · simp at hf; subst hf; exact hb

theorem idx_hit {f : Bx → Bool} {l : List Bx} {k : Nat} (h : k < l.length) (ha : ∀ b ∈ l.take k, f b = false) (hb : f (l[k]'h) = true) : idx f l = k := by
  unfold idx
  rw [show l.findIdx? f = some k from ?_]
  rw [List.findIdx?_eq_some_iff_getElem]
  refine ⟨h, hb, fun j hj => ?_⟩
  have := ha (l[j]'(by omega)) (by rw [List.mem_take_iff_getElem]; exact ⟨j, by omega, rfl⟩)
  simp [this]
theorem idx_miss {f : Bx → Bool} {l : List Bx} (ha : ∀ b ∈ l, f b = false) : idx f l = -1 := by
  unfold idx
  rw [show l.findIdx? f = none from ?_]
  rw [List.findIdx?_eq_none_iff]
  exact ha
theorem idx_cases (f : Bx → Bool) (l : List Bx) : (idx f l = -1 ∧ ∀ b ∈ l, f b = false) ∨ ∃ k, ∃ h : k < l.length, idx f l = (k : Int) ∧ f (l[k]'h) = true ∧ ∀ j (hj : j < k), f (l[j]'(by omega)) = false := by
  unfold idx
  cases e : l.findIdx? f with
  | none => exact .inl ⟨rfl, List.findIdx?_eq_none_iff.1 e⟩
  | some k =>
    obtain ⟨h, hb, ha⟩ := List.findIdx?_eq_some_iff_getElem.1 e
    exact .inr ⟨k, h, rfl, hb, fun j hj => by simpa using ha j hj⟩
theorem idx_any (f : Bx → Bool) (l : List Bx) : decide (0 ≤ idx f l) = l.any f := by
  rcases idx_cases f l with ⟨h, ha⟩ | ⟨k, hk, h, hb, _⟩
  · rw [h, show l.any f = false by rw [List.any_eq_false]; intro b hb; simp [ha b hb]]; rfl
  · rw [h, show l.any f = true by rw [List.any_eq_true]; exact ⟨_, List.getElem_mem hk, hb⟩]; simp
end Go.Proofs.Ytiafcgbohckmmaa
