/- Boxes, their numbers; isBelow, isOrdered, isNear walked. -/
import Derived.Test.YtmmpaaaifdikdaaGreatDoorAny
import Derived.Test.YtmmpaaaifdikdaaGreatDoorSpotA
namespace Go.Proofs.YtmmpaaaifdikdaaGreatDoor.S
open Go.RowKit


/-- A point. -/
structure Pt where
  (x y z : Int)
/-- A box: its low and its high end. -/
structure Bx where
  (lx ly lz hx hy hz : Int)

abbrev Bx.lo (b : Bx) : Pt := ⟨b.lx, b.ly, b.lz⟩
abbrev Bx.hi (b : Bx) : Pt := ⟨b.hx, b.hy, b.hz⟩
/-- Is a number not too far? -/
def nr (n : Int) : Bool := decide (-10000000 ≤ n) && decide (n ≤ 10000000)
def nearP (p : Pt) : Bool := nr p.x && nr p.y && nr p.z
def nearB (b : Bx) : Bool := nearP b.lo && nearP b.hi
/-- Is each number of the one below the other's? -/
def below (p q : Pt) : Bool := decide (p.x < q.x) && decide (p.y < q.y) && decide (p.z < q.z)
def atMost (p q : Pt) : Bool := decide (p.x ≤ q.x) && decide (p.y ≤ q.y) && decide (p.z ≤ q.z)
def meet (a b : Bx) : Bool := below a.lo b.hi && below b.lo a.hi
/-- What is wrong with a box. -/
def bad1 (b : Bx) : Int := if nearB b = true then (if atMost b.lo b.hi = true then 0 else 1) else 2
/-- What is wrong with the first box that is none. -/
def badL : List Bx → Int
  | [] => 0
  | b :: l => if bad1 b = 0 then badL l else bad1 b
def hullB (a b : Bx) : Bx := ⟨min a.lx b.lx, min a.ly b.ly, min a.lz b.lz, max a.hx b.hx, max a.hy b.hy, max a.hz b.hz⟩
def movB (a : Bx) (p : Pt) : Bx := ⟨a.lx + p.x, a.ly + p.y, a.lz + p.z, a.hx + p.x, a.hy + p.y, a.hz + p.z⟩
def one (n : Int) : Int := if n = 0 then 0 else 1
def straight (p : Pt) : Bool := decide (one p.x + one p.y + one p.z ≤ 1)
/-- The number of the first box that is so; -1: none is. -/
def idx (f : Bx → Bool) (l : List Bx) : Int := match l.findIdx? f with
  | some k => (k : Int)
  | none => -1

theorem nr_yes {n : Int} (h : -10000000 ≤ n) (h2 : n ≤ 10000000) : nr n = true := by simp [nr, h, h2]
theorem nr_no {n : Int} (h : n < -10000000 ∨ 10000000 < n) : nr n = false := by
  simp only [nr, Bool.and_eq_false_iff, decide_eq_false_iff_not]; omega
theorem nr_iff {n : Int} : nr n = true ↔ -10000000 ≤ n ∧ n ≤ 10000000 := by simp [nr]
theorem nr_out {n : Int} (h : nr n = false) : n < -10000000 ∨ 10000000 < n := by
  simp only [nr, Bool.and_eq_false_iff, decide_eq_false_iff_not] at h; omega
theorem nearB_iff {b : Bx} : nearB b = true ↔ (-10000000 ≤ b.lx ∧ b.lx ≤ 10000000) ∧ (-10000000 ≤ b.ly ∧ b.ly ≤ 10000000) ∧ (-10000000 ≤ b.lz ∧ b.lz ≤ 10000000) ∧ (-10000000 ≤ b.hx ∧ b.hx ≤ 10000000) ∧ (-10000000 ≤ b.hy ∧ b.hy ≤ 10000000) ∧ (-10000000 ≤ b.hz ∧ b.hz ≤ 10000000) := by
  simp only [nearB, nearP, Bool.and_eq_true, nr_iff]; constructor
  · rintro ⟨⟨⟨a, b⟩, c⟩, ⟨d, e⟩, f⟩; exact ⟨a, b, c, d, e, f⟩
  · rintro ⟨a, b, c, d, e, f⟩; exact ⟨⟨⟨a, b⟩, c⟩, ⟨d, e⟩, f⟩
theorem nearP_iff {p : Pt} : nearP p = true ↔ (-10000000 ≤ p.x ∧ p.x ≤ 10000000) ∧ (-10000000 ≤ p.y ∧ p.y ≤ 10000000) ∧ (-10000000 ≤ p.z ∧ p.z ≤ 10000000) := by
  simp only [nearP, Bool.and_eq_true, nr_iff, and_assoc]
theorem atMost_iff {p q : Pt} : atMost p q = true ↔ p.x ≤ q.x ∧ p.y ≤ q.y ∧ p.z ≤ q.z := by simp [atMost, and_assoc]
theorem below_iff {p q : Pt} : below p q = true ↔ p.x < q.x ∧ p.y < q.y ∧ p.z < q.z := by simp [below, and_assoc]
theorem meet_iff {a b : Bx} : meet a b = true ↔ (a.lx < b.hx ∧ a.ly < b.hy ∧ a.lz < b.hz) ∧ (b.lx < a.hx ∧ b.ly < a.hy ∧ b.lz < a.hz) := by
  simp only [meet, Bool.and_eq_true, below_iff]
theorem meet_comm (a b : Bx) : meet a b = meet b a := by rw [Bool.eq_iff_iff, meet_iff, meet_iff]; exact And.comm
theorem below_yes {p q : Pt} (h : p.x < q.x) (h1 : p.y < q.y) (h2 : p.z < q.z) : true = below p q := (below_iff.2 ⟨h, h1, h2⟩).symm
theorem below_no {p q : Pt} (h : q.x ≤ p.x ∨ q.y ≤ p.y ∨ q.z ≤ p.z) : false = below p q := by
  cases e : below p q with
  | false => rfl
  | true => have := below_iff.1 e; omega
theorem atMost_yes {p q : Pt} (h : p.x ≤ q.x) (h1 : p.y ≤ q.y) (h2 : p.z ≤ q.z) : true = atMost p q := (atMost_iff.2 ⟨h, h1, h2⟩).symm
theorem atMost_no {p q : Pt} (h : q.x < p.x ∨ q.y < p.y ∨ q.z < p.z) : false = atMost p q := by
  cases e : atMost p q with
  | false => rfl
  | true => have := atMost_iff.1 e; omega
theorem nearP_no {p : Pt} (h : nr p.x = false ∨ nr p.y = false ∨ nr p.z = false) : nearP p = false := by
  simp only [nearP]; rcases h with h | h | h <;> simp [h]
theorem one_zero : one 0 = 0 := rfl
theorem one_of {n : Int} (h : n ≠ 0) : one n = 1 := if_neg h
theorem bad1_ok {b : Bx} : bad1 b = 0 ↔ nearB b = true ∧ atMost b.lo b.hi = true := by
  unfold bad1
  split
  · split
    · simp_all
    · simp_all
  · simp_all
theorem bad1_far {b : Bx} (h : nearB b = false) : bad1 b = 2 := by simp [bad1, h]
theorem bad1_form {b : Bx} (h : nearB b = true) (h2 : atMost b.lo b.hi = false) : bad1 b = 1 := by simp [bad1, h, h2]
theorem badL_one (a : Bx) : badL [a] = bad1 a := by simp only [badL]; split <;> simp_all
theorem badL_two (a b : Bx) : badL [a, b] = if bad1 a = 0 then bad1 b else bad1 a := by
  rw [show badL [a, b] = if bad1 a = 0 then badL [b] else bad1 a from rfl, badL_one]
theorem badL_zero : ∀ {l : List Bx}, badL l = 0 ↔ ∀ b ∈ l, bad1 b = 0
  | [] => by simp [badL]
  | b :: l => by
    simp only [badL]
    split
    · rename_i h; rw [badL_zero]; simp [h]
    · rename_i h; simp [h]
theorem badL_skip : ∀ {a l : List Bx}, (∀ b ∈ a, bad1 b = 0) → badL (a ++ l) = badL l
  | [], _, _ => rfl
  | b :: a, l, h => by
    simp only [List.cons_append, badL]
    rw [if_pos (h b (by simp)), badL_skip fun c hc => h c (by simp [hc])]
theorem badL_at {l : List Bx} {k : Nat} (h : k < l.length) (ha : ∀ b ∈ l.take k, bad1 b = 0) (hb : bad1 (l[k]'h) ≠ 0) : badL l = bad1 (l[k]'h) := by
  have e : l = l.take k ++ l[k]'h :: l.drop (k + 1) := by rw [← List.drop_eq_getElem_cons h, List.take_append_drop]
  conv => lhs; rw [e]
  rw [badL_skip ha]
  simp only [badL]; rw [if_neg hb]
theorem take_succ_all {l : List Bx} {k : Nat} {p : Bx → Prop} (h : k < l.length) (ha : ∀ b ∈ l.take k, p b) (hb : p (l[k]'h)) : ∀ b ∈ l.take (k + 1), p b := by
  rw [List.take_succ_eq_append_getElem h]
  intro f hf
  rcases List.mem_append.1 hf with hf | hf
  · exact ha f hf
  · simp at hf; subst hf; exact hb

theorem idx_hit {f : Bx → Bool} {l : List Bx} {k : Nat} (h : k < l.length) (ha : ∀ b ∈ l.take k, f b = false) (hb : f (l[k]'h) = true) : idx f l = k := by
  unfold idx
  rw [show l.findIdx? f = some k from ?_]
  rw [List.findIdx?_eq_some_iff_getElem]
  refine ⟨h, hb, fun j hj => ?_⟩
  have := ha (l[j]'(by omega)) (by rw [List.mem_take_iff_getElem]; exact ⟨j, by omega, rfl⟩)
  simp [this]
theorem idx_miss {f : Bx → Bool} {l : List Bx} (ha : ∀ b ∈ l, f b = false) : idx f l = -1 := by
  unfold idx
  rw [show l.findIdx? f = none from ?_]
  rw [List.findIdx?_eq_none_iff]
  exact ha
theorem idx_cases (f : Bx → Bool) (l : List Bx) : (idx f l = -1 ∧ ∀ b ∈ l, f b = false) ∨ ∃ k, ∃ h : k < l.length, idx f l = (k : Int) ∧ f (l[k]'h) = true ∧ ∀ j (hj : j < k), f (l[j]'(by omega)) = false := by
  unfold idx
  cases e : l.findIdx? f with
  | none => exact .inl ⟨rfl, List.findIdx?_eq_none_iff.1 e⟩
  | some k =>
    obtain ⟨h, hb, ha⟩ := List.findIdx?_eq_some_iff_getElem.1 e
    exact .inr ⟨k, h, rfl, hb, fun j hj => by simpa using ha j hj⟩
theorem idx_any (f : Bx → Bool) (l : List Bx) : decide (0 ≤ idx f l) = l.any f := by
  rcases idx_cases f l with ⟨h, ha⟩ | ⟨k, hk, h, hb, _⟩
  · rw [h, show l.any f = false by rw [List.any_eq_false]; intro b hb; simp [ha b hb]]; rfl
  · rw [h, show l.any f = true by rw [List.any_eq_true]; exact ⟨_, List.getElem_mem hk, hb⟩]; simp

theorem bcell {W w1 : World} (hb : Below W.heap.size W w1) : (∀ b o, b < W.heap.size → w1.cell? ⟨b, o, none⟩ = W.cell? ⟨b, o, none⟩) ∧ (∀ b o, b < W.heap.size → w1.frozen? ⟨b, o, none⟩ = W.frozen? ⟨b, o, none⟩) :=
  ⟨fun b o h => hb.cell (p := ⟨b, o, none⟩) h, fun b o h => hb.frozen (p := ⟨b, o, none⟩) h⟩
theorem ret_bool {a b : Bool} (h : a = b) : Ending.returned (.bool a) = .returned (.bool b) := by rw [h]
theorem ret_int {k : IntKind} {a b : Int} (h : a = b) : Ending.returned (.int k a) = .returned (.int k b) := by rw [h]
theorem cell_later {w w' : World} (hb : Below w.heap.size w w') {b o : Nat} {v : Value} (h : w.cell? ⟨b, o, none⟩ = some v) : w'.cell? ⟨b, o, none⟩ = some v := by
  rw [← h]
  refine hb.cell (p := ⟨b, o, none⟩) ?_
  show b < w.heap.size
  by_cases e : b < w.heap.size
  · exact e
  · have : w.heap[b]? = none := by simp; omega
    simp [World.cell?, this] at h

/-- Values. -/
abbrev pv (p : Pt) : Value := .agg #[.int .i64 p.x, .int .i64 p.y, .int .i64 p.z]
abbrev bv (b : Bx) : Value := .agg #[.int .i64 b.lx, .int .i64 b.ly, .int .i64 b.lz, .int .i64 b.hx, .int .i64 b.hy, .int .i64 b.hz]

/-- A box at a place of a block. -/
def BxAt (w : World) (b o : Nat) (a : Bx) : Prop :=
  b < w.heap.size ∧ w.cell? ⟨b, o, none⟩ = some (.int .i64 a.lx) ∧ w.cell? ⟨b, o + 1, none⟩ = some (.int .i64 a.ly) ∧ w.cell? ⟨b, o + 2, none⟩ = some (.int .i64 a.lz) ∧
    w.cell? ⟨b, o + 3, none⟩ = some (.int .i64 a.hx) ∧ w.cell? ⟨b, o + 4, none⟩ = some (.int .i64 a.hy) ∧ w.cell? ⟨b, o + 5, none⟩ = some (.int .i64 a.hz)
theorem BxAt.next {w w1 : World} {b o : Nat} {a : Bx} (h : BxAt w b o a) (hb : Below w.heap.size w w1) : BxAt w1 b o a :=
  ⟨Nat.lt_of_lt_of_le h.1 hb.size, cell_later hb h.2.1, cell_later hb h.2.2.1, cell_later hb h.2.2.2.1, cell_later hb h.2.2.2.2.1, cell_later hb h.2.2.2.2.2.1, cell_later hb h.2.2.2.2.2.2⟩
/-- A slice's memory holds these boxes. -/
def Bxs (w : World) (ao : Option Addr) (l : List Bx) : Prop :=
  l = [] ∨ ∃ b off, ao = some ⟨b, off, none⟩ ∧ ∀ k (h : k < l.length), BxAt w b (off + k * 6) (l[k]'h)
theorem Bxs.next {w w1 : World} {ao : Option Addr} {l : List Bx} (h : Bxs w ao l) (hb : Below w.heap.size w w1) : Bxs w1 ao l :=
  h.imp id fun ⟨b, off, h1, h2⟩ => ⟨b, off, h1, fun k hk => (h2 k hk).next hb⟩
theorem Bxs.at {w : World} {ao : Option Addr} {l : List Bx} (h : Bxs w ao l) {k : Nat} (hk : k < l.length) : ∃ b off, ao = some ⟨b, off, none⟩ ∧ BxAt w b (off + k * 6) (l[k]'hk) := by
  rcases h with rfl | ⟨b, off, h1, h2⟩
  · exact absurd hk (Nat.not_lt_zero _)
  · exact ⟨b, off, h1, h2 k hk⟩
theorem Bxs.nil (w : World) (ao : Option Addr) : Bxs w ao [] := .inl rfl
theorem Bxs.one (w : World) (a : Bx) : Bxs (w.alloc (.cells #[.int .i64 a.lx, .int .i64 a.ly, .int .i64 a.lz, .int .i64 a.hx, .int .i64 a.hy, .int .i64 a.hz] 55)) (some ⟨w.heap.size, 0, none⟩) [a] := by
  refine .inr ⟨w.heap.size, 0, rfl, fun k hk => ?_⟩
  match k, hk with
  | 0, _ => exact ⟨by simp, by go_simp, by go_simp, by go_simp, by go_simp, by go_simp, by go_simp⟩
theorem Bxs.two (w : World) (a c : Bx) : Bxs (w.alloc (.cells #[.int .i64 a.lx, .int .i64 a.ly, .int .i64 a.lz, .int .i64 a.hx, .int .i64 a.hy, .int .i64 a.hz, .int .i64 c.lx, .int .i64 c.ly, .int .i64 c.lz, .int .i64 c.hx, .int .i64 c.hy, .int .i64 c.hz] 55)) (some ⟨w.heap.size, 0, none⟩) [a, c] := by
  refine .inr ⟨w.heap.size, 0, rfl, fun k hk => ?_⟩
  match k, hk with
  | 0, _ => exact ⟨by simp, by go_simp, by go_simp, by go_simp, by go_simp, by go_simp, by go_simp⟩
  | 1, _ => exact ⟨by simp, by go_simp, by go_simp, by go_simp, by go_simp, by go_simp, by go_simp⟩
/-- A slice of points at the head of a block. -/
def Pts (w : World) (b : Nat) (l : List Pt) : Prop :=
  ∀ k (h : k < l.length), w.cell? ⟨b, k * 3, none⟩ = some (.int .i64 (l[k]'h).x) ∧ w.cell? ⟨b, k * 3 + 1, none⟩ = some (.int .i64 (l[k]'h).y) ∧ w.cell? ⟨b, k * 3 + 2, none⟩ = some (.int .i64 (l[k]'h).z)
theorem Pts.next {w w1 : World} {b : Nat} {l : List Pt} (h : Pts w b l) (hb : Below w.heap.size w w1) : Pts w1 b l :=
  fun k hk => ⟨cell_later hb (h k hk).1, cell_later hb (h k hk).2.1, cell_later hb (h k hk).2.2⟩
theorem Pts.one (w : World) (p : Pt) : Pts (w.alloc (.cells #[.int .i64 p.x, .int .i64 p.y, .int .i64 p.z] 46)) w.heap.size [p] := by
  intro k hk
  match k, hk with
  | 0, _ => exact ⟨by go_simp, by go_simp, by go_simp⟩
theorem Pts.two (w : World) (p q : Pt) : Pts (w.alloc (.cells #[.int .i64 p.x, .int .i64 p.y, .int .i64 p.z, .int .i64 q.x, .int .i64 q.y, .int .i64 q.z] 46)) w.heap.size [p, q] := by
  intro k hk
  match k, hk with
  | 0, _ => exact ⟨by go_simp, by go_simp, by go_simp⟩
  | 1, _ => exact ⟨by go_simp, by go_simp, by go_simp⟩

theorem box3 {w : World} {b : Nat} {u0 u1 u2 : Value} (c0 : w.cell? ⟨b, 0, none⟩ = some u0) (c1 : w.cell? ⟨b, 1, none⟩ = some u1) (c2 : w.cell? ⟨b, 2, none⟩ = some u2) (x y z : Value) :
    (((w.setCell ⟨b, 0, none⟩ x).setCell ⟨b, 1, none⟩ y).setCell ⟨b, 2, none⟩ z).cell? ⟨b, 0, none⟩ = some x ∧
    (((w.setCell ⟨b, 0, none⟩ x).setCell ⟨b, 1, none⟩ y).setCell ⟨b, 2, none⟩ z).cell? ⟨b, 1, none⟩ = some y ∧
    (((w.setCell ⟨b, 0, none⟩ x).setCell ⟨b, 1, none⟩ y).setCell ⟨b, 2, none⟩ z).cell? ⟨b, 2, none⟩ = some z := by
  refine ⟨?_, ?_, ?_⟩
  all_goals simp [go_sem, c0, c1, c2]

/-- An array of three, indexed. -/
theorem ix0 (x y z : Int) (w : World) : (Instr.index 144 (.agg #[.int .i64 x, .int .i64 y, .int .i64 z]) (.int .i64 0)).run Tryz.prog w = .ok (.int .i64 x) w := by kernel_rfl
theorem ix1 (x y z : Int) (w : World) : (Instr.index 144 (.agg #[.int .i64 x, .int .i64 y, .int .i64 z]) (.int .i64 1)).run Tryz.prog w = .ok (.int .i64 y) w := by kernel_rfl
theorem ix2 (x y z : Int) (w : World) : (Instr.index 144 (.agg #[.int .i64 x, .int .i64 y, .int .i64 z]) (.int .i64 2)).run Tryz.prog w = .ok (.int .i64 z) w := by kernel_rfl

/-- The numbers of a point. -/
theorem numbers_any (p : Pt) (w : World) :
    Calls Tryz.prog 86 #[pv p] w fun e w' => e = .returned (pv p) ∧ w' = (w.alloc (.cells #[.int .i64 p.x, .int .i64 p.y, .int .i64 p.z] 46)).alloc (.cells #[.int .i64 p.x, .int .i64 p.y, .int .i64 p.z] 144) := by
  go_enter Tryz.func86, Tryz.ntmps86
  go_wp2
  refine bodyPost_ret (v := pv p) (by simp [results, Tryz.results86, go_sem]) rfl ⟨rfl, rfl⟩
theorem below_grow {w w' : World} (n : Nat) (hn : n ≤ w.heap.size) (h : Below n w w') (o : Obj) : Below n w (w'.alloc o) := h.alloc (Nat.le_trans hn h.size) o

set_option maxHeartbeats 3200000 in
theorem isBelow_any (p q : Pt) (w : World) :
    Calls Tryz.prog 67 #[pv p, pv q] w fun e w' => e = .returned (.bool (below p q)) ∧ Below w.heap.size w w' := by
  obtain ⟨px, py, pz⟩ := p
  obtain ⟨qx, qy, qz⟩ := q
  have hx := ix0 px py pz
  have hy := ix1 px py pz
  have hz := ix2 px py pz
  go_enter Tryz.func67, Tryz.ntmps67
  go_wp2_with fail
  refine (numbers_any ⟨qx, qy, qz⟩ _).mono ?_
  rintro e w1 ⟨rfl, rfl⟩
  go_wp2_with fail
  refine (numbers_any ⟨px, py, pz⟩ _).mono ?_
  rintro e w1 ⟨rfl, rfl⟩
  go_wp2_with fail
  by_cases h0 : px < qx
  · by_cases h1 : py < qy
    · by_cases h2 : pz < qz
      · refine wp_loop_rounds 4 ?_
        rw [rounds_succ]
        go_wp2
        rw [rounds_succ]
        go_wp2
        rw [rounds_succ]
        go_wp2
        rw [rounds_succ]
        go_wp2
        go_ret
        refine ⟨ret_bool (below_yes h0 h1 h2), ?_⟩
        repeat (first | exact Below.refl _ _ | refine below_grow _ (Nat.le_refl _) ?_ _)
      · refine wp_loop_rounds 4 ?_
        rw [rounds_succ]
        go_wp2
        rw [rounds_succ]
        go_wp2
        rw [rounds_succ]
        go_wp2
        go_ret
        refine ⟨ret_bool (below_no (.inr (.inr (by simp only; omega)))), ?_⟩
        repeat (first | exact Below.refl _ _ | refine below_grow _ (Nat.le_refl _) ?_ _)
    · refine wp_loop_rounds 4 ?_
      rw [rounds_succ]
      go_wp2
      rw [rounds_succ]
      go_wp2
      go_ret
      refine ⟨ret_bool (below_no (.inr (.inl (by simp only; omega)))), ?_⟩
      repeat (first | exact Below.refl _ _ | refine below_grow _ (Nat.le_refl _) ?_ _)
  · refine wp_loop_rounds 4 ?_
    rw [rounds_succ]
    go_wp2
    go_ret
    refine ⟨ret_bool (below_no (.inl (by simp only; omega))), ?_⟩
    repeat (first | exact Below.refl _ _ | refine below_grow _ (Nat.le_refl _) ?_ _)

set_option maxHeartbeats 3200000 in
theorem isOrdered_any (a : Bx) (w : World) :
    Calls Tryz.prog 85 #[bv a] w fun e w' => e = .returned (.bool (atMost a.lo a.hi)) ∧ Below w.heap.size w w' := by
  obtain ⟨px, py, pz, qx, qy, qz⟩ := a
  have hx := ix0 px py pz
  have hy := ix1 px py pz
  have hz := ix2 px py pz
  go_enter Tryz.func85, Tryz.ntmps85
  go_wp2_with fail
  refine (numbers_any ⟨qx, qy, qz⟩ _).mono ?_
  rintro e w1 ⟨rfl, rfl⟩
  go_wp2_with fail
  refine (numbers_any ⟨px, py, pz⟩ _).mono ?_
  rintro e w1 ⟨rfl, rfl⟩
  go_wp2_with fail
  by_cases h0 : px ≤ qx
  · by_cases h1 : py ≤ qy
    · by_cases h2 : pz ≤ qz
      · refine wp_loop_rounds 4 ?_
        rw [rounds_succ]
        go_wp2
        rw [rounds_succ]
        go_wp2
        rw [rounds_succ]
        go_wp2
        rw [rounds_succ]
        go_wp2
        go_ret
        refine ⟨ret_bool (atMost_yes h0 h1 h2), ?_⟩
        repeat (first | exact Below.refl _ _ | refine below_grow _ (Nat.le_refl _) ?_ _)
      · refine wp_loop_rounds 4 ?_
        rw [rounds_succ]
        go_wp2
        rw [rounds_succ]
        go_wp2
        rw [rounds_succ]
        go_wp2
        go_ret
        refine ⟨ret_bool (atMost_no (.inr (.inr (by simp only; omega)))), ?_⟩
        repeat (first | exact Below.refl _ _ | refine below_grow _ (Nat.le_refl _) ?_ _)
    · refine wp_loop_rounds 4 ?_
      rw [rounds_succ]
      go_wp2
      rw [rounds_succ]
      go_wp2
      go_ret
      refine ⟨ret_bool (atMost_no (.inr (.inl (by simp only; omega)))), ?_⟩
      repeat (first | exact Below.refl _ _ | refine below_grow _ (Nat.le_refl _) ?_ _)
  · refine wp_loop_rounds 4 ?_
    rw [rounds_succ]
    go_wp2
    go_ret
    refine ⟨ret_bool (atMost_no (.inl (by simp only; omega))), ?_⟩
    repeat (first | exact Below.refl _ _ | refine below_grow _ (Nat.le_refl _) ?_ _)

set_option maxHeartbeats 6400000 in
theorem isNear_any (b c : Nat) (ps : List Pt) (w : World) (hP : Pts w b ps) (hl : ps.length ≤ 100) :
    Calls Tryz.prog 84 #[.slice (some ⟨b, 0, none⟩) ps.length c] w fun e w' => e = .returned (.bool (ps.all nearP)) ∧ Below w.heap.size w w' := by
  have HP : Hid (Pts w b ps) := hP
  clear hP
  go_enter Tryz.func84, Tryz.ntmps84
  go_wp2
  go_loopw [9] (fun i wr => ∃ k : Nat, k ≤ ps.length ∧ i = .int .i64 k ∧ (∀ p ∈ ps.take k, nearP p = true) ∧ Below w.heap.size w wr) (fun i _ => ps.length - (intOf i).toNat)
  case atStart => exact ⟨0, Nat.zero_le _, rfl, (fun f hf => by simp at hf), Below.refl _ _⟩
  case round =>
    obtain ⟨k, hk, rfl, hok, hb⟩ := hrel
    obtain ⟨w1, rfl⟩ : ∃ w1, w1 = wr := ⟨_, rfl⟩
    have HB : Hid (Below w.heap.size w w1) := hb
    have HO : Hid (∀ p ∈ ps.take k, nearP p = true) := hok
    clear hb hok
    by_cases hlt : k < ps.length
    · obtain ⟨c0, c1, c2⟩ := HP.out.next HB.out k hlt
      have HX : Hid (∀ p, nearP (ps[k]'hlt) = p → (p = false → ps.all nearP = false) ∧ (p = true → ∀ q ∈ ps.take (k + 1), nearP q = true)) := by
        show ∀ p, _
        rintro p rfl
        refine ⟨fun h => ?_, fun h => ?_⟩
        · rw [List.all_eq_false]; exact ⟨_, List.getElem_mem hlt, by simp [h]⟩
        · rw [List.take_succ_eq_append_getElem hlt]
          intro f hf
          rcases List.mem_append.1 hf with hf | hf
          · exact HO.out f hf
          · simp at hf; subst hf; exact h
      generalize ps[k]'hlt = p at *
      obtain ⟨px, py, pz⟩ := p
      simp only at c0 c1 c2
      have hx := ix0 px py pz
      have hy := ix1 px py pz
      have hz := ix2 px py pz
      go_wp2_with fail
      refine (numbers_any ⟨px, py, pz⟩ _).mono ?_
      rintro e w2 ⟨rfl, rfl⟩
      have HB2 : Hid (Below w.heap.size w (((w1.alloc (.cells #[.int .i64 px, .int .i64 py, .int .i64 pz] 46)).alloc (.cells #[.int .i64 px, .int .i64 py, .int .i64 pz] 46)).alloc (.cells #[.int .i64 px, .int .i64 py, .int .i64 pz] 144))) := by
        refine below_grow _ (Nat.le_refl _) (below_grow _ (Nat.le_refl _) (below_grow _ (Nat.le_refl _) HB.out _) _) _
      go_wp2_with fail
      by_cases lpx : px < -10000000
      · have Hn : Hid (nr px = false) := nr_no (.inl lpx)
        have tpx : decide (px < -10000000) = true := decide_eq_true lpx
        refine wp_loop_rounds 4 ?_
        rw [rounds_succ]
        go_wp2
        go_ret
        exact ⟨ret_bool ((HX.out _ rfl).1 (nearP_no (.inl Hn.out))).symm, HB2.out⟩
      by_cases gpx : 10000000 < px
      · have Hn : Hid (nr px = false) := nr_no (.inr gpx)
        have tpx : decide (px < -10000000) = false := decide_eq_false lpx
        have spx : decide (10000000 < px) = true := decide_eq_true gpx
        refine wp_loop_rounds 4 ?_
        rw [rounds_succ]
        go_wp2
        go_ret
        exact ⟨ret_bool ((HX.out _ rfl).1 (nearP_no (.inl Hn.out))).symm, HB2.out⟩
      have Hpx : Hid (nr px = true) := nr_yes (by omega) (by omega)
      have tpx : decide (px < -10000000) = false := decide_eq_false lpx
      have spx : decide (10000000 < px) = false := decide_eq_false gpx
      by_cases lpy : py < -10000000
      · have Hn : Hid (nr py = false) := nr_no (.inl lpy)
        have tpy : decide (py < -10000000) = true := decide_eq_true lpy
        refine wp_loop_rounds 4 ?_
        rw [rounds_succ]
        go_wp2
        rw [rounds_succ]
        go_wp2
        go_ret
        exact ⟨ret_bool ((HX.out _ rfl).1 (nearP_no (.inr (.inl Hn.out)))).symm, HB2.out⟩
      by_cases gpy : 10000000 < py
      · have Hn : Hid (nr py = false) := nr_no (.inr gpy)
        have tpy : decide (py < -10000000) = false := decide_eq_false lpy
        have spy : decide (10000000 < py) = true := decide_eq_true gpy
        refine wp_loop_rounds 4 ?_
        rw [rounds_succ]
        go_wp2
        rw [rounds_succ]
        go_wp2
        go_ret
        exact ⟨ret_bool ((HX.out _ rfl).1 (nearP_no (.inr (.inl Hn.out)))).symm, HB2.out⟩
      have Hpy : Hid (nr py = true) := nr_yes (by omega) (by omega)
      have tpy : decide (py < -10000000) = false := decide_eq_false lpy
      have spy : decide (10000000 < py) = false := decide_eq_false gpy
      by_cases lpz : pz < -10000000
      · have Hn : Hid (nr pz = false) := nr_no (.inl lpz)
        have tpz : decide (pz < -10000000) = true := decide_eq_true lpz
        refine wp_loop_rounds 4 ?_
        rw [rounds_succ]
        go_wp2
        rw [rounds_succ]
        go_wp2
        rw [rounds_succ]
        go_wp2
        go_ret
        exact ⟨ret_bool ((HX.out _ rfl).1 (nearP_no (.inr (.inr Hn.out)))).symm, HB2.out⟩
      by_cases gpz : 10000000 < pz
      · have Hn : Hid (nr pz = false) := nr_no (.inr gpz)
        have tpz : decide (pz < -10000000) = false := decide_eq_false lpz
        have spz : decide (10000000 < pz) = true := decide_eq_true gpz
        refine wp_loop_rounds 4 ?_
        rw [rounds_succ]
        go_wp2
        rw [rounds_succ]
        go_wp2
        rw [rounds_succ]
        go_wp2
        go_ret
        exact ⟨ret_bool ((HX.out _ rfl).1 (nearP_no (.inr (.inr Hn.out)))).symm, HB2.out⟩
      have Hpz : Hid (nr pz = true) := nr_yes (by omega) (by omega)
      have tpz : decide (pz < -10000000) = false := decide_eq_false lpz
      have spz : decide (10000000 < pz) = false := decide_eq_false gpz
      refine wp_loop_rounds 4 ?_
      rw [rounds_succ]
      go_wp2
      rw [rounds_succ]
      go_wp2
      rw [rounds_succ]
      go_wp2
      rw [rounds_succ]
      go_wp2
      go_roundw
      case rel => exact ⟨k + 1, by omega, by go_num, (HX.out _ rfl).2 (by simp [nearP, Hpx.out, Hpy.out, Hpz.out]), HB2.out⟩
      case measure => simp [intOf]; omega
    · go_wp2
      go_ret
      exact ⟨ret_bool (by symm; rw [List.all_eq_true]; intro p hp; exact HO.out p (by rw [List.take_of_length_le (by omega)]; exact hp)), HB.out⟩

end Go.Proofs.YtmmpaaaifdikdaaGreatDoor.S
