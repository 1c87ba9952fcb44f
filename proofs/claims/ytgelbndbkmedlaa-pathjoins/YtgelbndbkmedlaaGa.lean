import Derived.Test.YtgelbndbkmedlaaRows
import Derived.Test.YtgelbndbkmedlaaProg
import Derived.WalkKit
import Derived.WalkSpells
import Derived.WalkLawsBesides
import Derived.Deep.QuietTactic
import Derived.BigQuiet

/- within, every walked. -/
namespace Go.Proofs.Ytgelbndbkmedlaa
open Go.RowKit
theorem bcell {W w1 : World} (hb : Below W.heap.size W w1) : (∀ b o, b < W.heap.size → w1.cell? ⟨b, o, none⟩ = W.cell? ⟨b, o, none⟩) ∧ (∀ b o, b < W.heap.size → w1.frozen? ⟨b, o, none⟩ = W.frozen? ⟨b, o, none⟩) :=
  ⟨fun b o h => hb.cell (p := ⟨b, o, none⟩) h, fun b o h => hb.frozen (p := ⟨b, o, none⟩) h⟩
theorem ret_bool {a b : Bool} (h : a = b) : Ending.returned (.bool a) = .returned (.bool b) := by rw [h]
theorem ret_int {k : IntKind} {a b : Int} (h : a = b) : Ending.returned (.int k a) = .returned (.int k b) := by rw [h]

/-- Is a number from low to high? -/
def inR (lo hi x : Int) : Bool := decide (lo ≤ x) && decide (x ≤ hi)
theorem inR_yes {lo hi x : Int} (h : lo ≤ x) (h2 : x ≤ hi) : inR lo hi x = true := by simp [inR, h, h2]
theorem inR_no {lo hi x : Int} (h : x < lo ∨ hi < x) : inR lo hi x = false := by
  simp only [inR, Bool.and_eq_false_iff, decide_eq_false_iff_not]; omega
theorem inR_iff {lo hi x : Int} : inR lo hi x = true ↔ lo ≤ x ∧ x ≤ hi := by simp [inR]

/-- The closure over two numbers in memory. -/
abbrev clo (p q : Nat) : Value := .func (.func 100) #[] #[.pointer (some ⟨p, 0, none⟩), .pointer (some ⟨q, 0, none⟩)]
abbrev clo32 (p q : Nat) : Value := .func (.func 114) #[] #[.pointer (some ⟨p, 0, none⟩), .pointer (some ⟨q, 0, none⟩)]

theorem within_int (lo hi : Int) (w : World) :
    Calls Try.prog 80 #[.int .i64 lo, .int .i64 hi] w fun e w' => e = .returned (clo w.heap.size (w.heap.size + 1)) ∧ w' = (w.alloc (.cells #[.int .i64 lo] 3)).alloc (.cells #[.int .i64 hi] 3) := by
  go_enter Try.func80, Try.ntmps80
  go_wp2
  go_ret
  exact ⟨by simp, rfl⟩
theorem within_rune (lo hi : Int) (w : World) :
    Calls Try.prog 99 #[.int .i32 lo, .int .i32 hi] w fun e w' => e = .returned (clo32 w.heap.size (w.heap.size + 1)) ∧ w' = (w.alloc (.cells #[.int .i32 lo] 21)).alloc (.cells #[.int .i32 hi] 21) := by
  go_enter Try.func99, Try.ntmps99
  go_wp2
  go_ret
  exact ⟨by simp, rfl⟩

theorem in_int (x lo hi : Int) (p q : Nat) (w : World) (hp : w.cell? ⟨p, 0, none⟩ = some (.int .i64 lo)) (hq : w.cell? ⟨q, 0, none⟩ = some (.int .i64 hi)) :
    Calls Try.prog 100 #[.int .i64 x, .pointer (some ⟨p, 0, none⟩), .pointer (some ⟨q, 0, none⟩)] w fun e w' => e = .returned (.bool (inR lo hi x)) ∧ w' = w := by
  unfold inR
  by_cases h : lo ≤ x
  · go_enter Try.func100, Try.ntmps100
    go_wp2
    go_ret
    exact ⟨by simp [h], rfl⟩
  · go_enter Try.func100, Try.ntmps100
    go_wp2
    go_ret
    exact ⟨by simp; omega, rfl⟩
theorem in_rune (x lo hi : Int) (p q : Nat) (w : World) (hp : w.cell? ⟨p, 0, none⟩ = some (.int .i32 lo)) (hq : w.cell? ⟨q, 0, none⟩ = some (.int .i32 hi)) :
    Calls Try.prog 114 #[.int .i32 x, .pointer (some ⟨p, 0, none⟩), .pointer (some ⟨q, 0, none⟩)] w fun e w' => e = .returned (.bool (inR lo hi x)) ∧ w' = w := by
  unfold inR
  by_cases h : lo ≤ x
  · go_enter Try.func114, Try.ntmps114
    go_wp2
    go_ret
    exact ⟨by simp [h], rfl⟩
  · go_enter Try.func114, Try.ntmps114
    go_wp2
    go_ret
    exact ⟨by simp; omega, rfl⟩

set_option maxHeartbeats 800000 in
/-- Every one of some numbers. -/
theorem every_any (xs : List Int) (lo hi : Int) (p q b : Nat) (cap : Nat) (w : World) (hn : xs.length ≤ 100) (hp : w.cell? ⟨p, 0, none⟩ = some (.int .i64 lo)) (hq : w.cell? ⟨q, 0, none⟩ = some (.int .i64 hi))
    (hc : ∀ k, k < xs.length → w.cell? ⟨b, k, none⟩ = some (.int .i64 (xs.getD k 0))) :
    Calls Try.prog 79 #[clo p q, .slice (some ⟨b, 0, none⟩) xs.length cap] w fun e w' => e = .returned (.bool (xs.all (inR lo hi))) ∧ w' = w := by
  obtain ⟨n, hxn⟩ : ∃ n, n = xs.length := ⟨_, rfl⟩
  have HN : Hid (n = xs.length) := hxn
  rw [← hxn] at hc hn ⊢
  clear hxn
  go_enter Try.func79, Try.ntmps79
  go_wp2
  go_loopw [9] (fun i wr => ∃ k : Nat, k ≤ n ∧ i = .int .i64 k ∧ wr = w ∧ ∀ j, j < k → inR lo hi (xs.getD j 0) = true) (fun i _ => n - (intOf i).toNat)
  case atStart => exact ⟨0, Nat.zero_le _, rfl, rfl, fun j h => absurd h (Nat.not_lt_zero _)⟩
  case round =>
    obtain ⟨k, hk, rfl, rfl, hall⟩ := hrel
    have HA : Hid (∀ j, j < k → inR lo hi (xs.getD j 0) = true) := hall
    clear hall
    by_cases hlt : k < n
    · have hx := hc k hlt
      obtain ⟨x, hxe⟩ : ∃ x, x = xs.getD k 0 := ⟨_, rfl⟩
      have HX : Hid (x = xs.getD k 0) := hxe
      rw [← hxe] at hx
      clear hxe hc
      cases hb : inR lo hi x with
      | true =>
        go_wp2_with (go_at_call 100; refine (in_int x lo hi p q _ hp hq).mono ?_; rintro e w1 ⟨rfl, rfl⟩)
        go_roundw
        case rel => exact ⟨k + 1, by omega, by simp, by trivial, fun j hj => (Nat.lt_succ_iff_lt_or_eq.1 hj).elim (HA.out j) fun e => by rw [e, ← HX.out]; exact hb⟩
        case measure => simp [intOf]; omega
      | false =>
        go_wp2_with (go_at_call 100; refine (in_int x lo hi p q _ hp hq).mono ?_; rintro e w1 ⟨rfl, rfl⟩)
        go_ret
        refine ⟨ret_bool ?_, rfl⟩
        symm
        rw [List.all_eq_false]
        refine ⟨x, ?_, by simp [hb]⟩
        have hl := hlt
        rw [HN.out] at hl
        rw [HX.out, List.getD_eq_getElem?_getD, List.getElem?_eq_getElem hl]
        exact List.getElem_mem hl
    · go_wp2
      go_ret
      refine ⟨ret_bool ?_, rfl⟩
      symm
      rw [List.all_eq_true]
      intro x hx
      obtain ⟨j, hj, rfl⟩ := List.getElem_of_mem hx
      have := HA.out j (by rw [HN.out] at hlt; omega)
      rwa [List.getD_eq_getElem?_getD, List.getElem?_eq_getElem hj] at this

end Go.Proofs.Ytgelbndbkmedlaa

/- Boxes, plainly: near, ordered, meeting, hulls, moves, the first of a list; no Go in sight. -/
namespace Go.Proofs.Ytgelbndbkmedlaa.S
open Go.RowKit
/-- A point. -/
structure Pt where
  (x y z : Int)
/-- A box: its low and its high end. -/
structure Bx where
  (lx ly lz hx hy hz : Int)

abbrev Bx.lo (b : Bx) : Pt := ⟨b.lx, b.ly, b.lz⟩
abbrev Bx.hi (b : Bx) : Pt := ⟨b.hx, b.hy, b.hz⟩
/-- Is a number not too far? -/
def nr (n : Int) : Bool := decide (-10000000 ≤ n) && decide (n ≤ 10000000)
def nearP (p : Pt) : Bool := nr p.x && nr p.y && nr p.z
def nearB (b : Bx) : Bool := nearP b.lo && nearP b.hi
/-- Is each number of the one below the other's? -/
def below (p q : Pt) : Bool := decide (p.x < q.x) && decide (p.y < q.y) && decide (p.z < q.z)
def atMost (p q : Pt) : Bool := decide (p.x ≤ q.x) && decide (p.y ≤ q.y) && decide (p.z ≤ q.z)
def meet (a b : Bx) : Bool := below a.lo b.hi && below b.lo a.hi
/-- What is wrong with a box. -/
def bad1 (b : Bx) : Int := if nearB b = true then (if atMost b.lo b.hi = true then 0 else 1) else 2
/-- What is wrong with the first box that is none. -/
def badL : List Bx → Int
  | [] => 0
  | b :: l => if bad1 b = 0 then badL l else bad1 b
def hullB (a b : Bx) : Bx := ⟨min a.lx b.lx, min a.ly b.ly, min a.lz b.lz, max a.hx b.hx, max a.hy b.hy, max a.hz b.hz⟩
def movB (a : Bx) (p : Pt) : Bx := ⟨a.lx + p.x, a.ly + p.y, a.lz + p.z, a.hx + p.x, a.hy + p.y, a.hz + p.z⟩
def one (n : Int) : Int := if n = 0 then 0 else 1
def straight (p : Pt) : Bool := decide (one p.x + one p.y + one p.z ≤ 1)
/-- The number of the first box that is so; -1: none is. -/
def idx (f : Bx → Bool) (l : List Bx) : Int := match l.findIdx? f with
  | some k => (k : Int)
  | none => -1

theorem nr_yes {n : Int} (h : -10000000 ≤ n) (h2 : n ≤ 10000000) : nr n = true := by simp [nr, h, h2]
theorem nr_no {n : Int} (h : n < -10000000 ∨ 10000000 < n) : nr n = false := by
  simp only [nr, Bool.and_eq_false_iff, decide_eq_false_iff_not]; omega
theorem nr_iff {n : Int} : nr n = true ↔ -10000000 ≤ n ∧ n ≤ 10000000 := by simp [nr]
theorem nr_out {n : Int} (h : nr n = false) : n < -10000000 ∨ 10000000 < n := by
  simp only [nr, Bool.and_eq_false_iff, decide_eq_false_iff_not] at h; omega
theorem nearB_iff {b : Bx} : nearB b = true ↔ (-10000000 ≤ b.lx ∧ b.lx ≤ 10000000) ∧ (-10000000 ≤ b.ly ∧ b.ly ≤ 10000000) ∧ (-10000000 ≤ b.lz ∧ b.lz ≤ 10000000) ∧ (-10000000 ≤ b.hx ∧ b.hx ≤ 10000000) ∧ (-10000000 ≤ b.hy ∧ b.hy ≤ 10000000) ∧ (-10000000 ≤ b.hz ∧ b.hz ≤ 10000000) := by
  simp only [nearB, nearP, Bool.and_eq_true, nr_iff]; constructor
  · rintro ⟨⟨⟨a, b⟩, c⟩, ⟨d, e⟩, f⟩; exact ⟨a, b, c, d, e, f⟩
  · rintro ⟨a, b, c, d, e, f⟩; exact ⟨⟨⟨a, b⟩, c⟩, ⟨d, e⟩, f⟩
theorem nearP_iff {p : Pt} : nearP p = true ↔ (-10000000 ≤ p.x ∧ p.x ≤ 10000000) ∧ (-10000000 ≤ p.y ∧ p.y ≤ 10000000) ∧ (-10000000 ≤ p.z ∧ p.z ≤ 10000000) := by
  simp only [nearP, Bool.and_eq_true, nr_iff, and_assoc]
theorem atMost_iff {p q : Pt} : atMost p q = true ↔ p.x ≤ q.x ∧ p.y ≤ q.y ∧ p.z ≤ q.z := by simp [atMost, and_assoc]
theorem below_iff {p q : Pt} : below p q = true ↔ p.x < q.x ∧ p.y < q.y ∧ p.z < q.z := by simp [below, and_assoc]
theorem meet_iff {a b : Bx} : meet a b = true ↔ (a.lx < b.hx ∧ a.ly < b.hy ∧ a.lz < b.hz) ∧ (b.lx < a.hx ∧ b.ly < a.hy ∧ b.lz < a.hz) := by
  simp only [meet, Bool.and_eq_true, below_iff]
theorem meet_comm (a b : Bx) : meet a b = meet b a := by rw [Bool.eq_iff_iff, meet_iff, meet_iff]; exact And.comm
theorem below_yes {p q : Pt} (h : p.x < q.x) (h1 : p.y < q.y) (h2 : p.z < q.z) : true = below p q := (below_iff.2 ⟨h, h1, h2⟩).symm
theorem below_no {p q : Pt} (h : q.x ≤ p.x ∨ q.y ≤ p.y ∨ q.z ≤ p.z) : false = below p q := by
  cases e : below p q with
  | false => rfl
  | true => have := below_iff.1 e; omega
theorem atMost_yes {p q : Pt} (h : p.x ≤ q.x) (h1 : p.y ≤ q.y) (h2 : p.z ≤ q.z) : true = atMost p q := (atMost_iff.2 ⟨h, h1, h2⟩).symm
theorem atMost_no {p q : Pt} (h : q.x < p.x ∨ q.y < p.y ∨ q.z < p.z) : false = atMost p q := by
  cases e : atMost p q with
  | false => rfl
  | true => have := atMost_iff.1 e; omega
theorem nearP_no {p : Pt} (h : nr p.x = false ∨ nr p.y = false ∨ nr p.z = false) : nearP p = false := by
  simp only [nearP]; rcases h with h | h | h <;> simp [h]
theorem one_zero : one 0 = 0 := rfl
theorem one_of {n : Int} (h : n ≠ 0) : one n = 1 := if_neg h
theorem bad1_ok {b : Bx} : bad1 b = 0 ↔ nearB b = true ∧ atMost b.lo b.hi = true := by
  unfold bad1
  split
  · split
    · simp_all
    · simp_all
  · simp_all
theorem bad1_far {b : Bx} (h : nearB b = false) : bad1 b = 2 := by simp [bad1, h]
theorem bad1_form {b : Bx} (h : nearB b = true) (h2 : atMost b.lo b.hi = false) : bad1 b = 1 := by simp [bad1, h, h2]
theorem badL_one (a : Bx) : badL [a] = bad1 a := by simp only [badL]; split <;> simp_all
theorem badL_two (a b : Bx) : badL [a, b] = if bad1 a = 0 then bad1 b else bad1 a := by
  rw [show badL [a, b] = if bad1 a = 0 then badL [b] else bad1 a from rfl, badL_one]
theorem badL_zero : ∀ {l : List Bx}, badL l = 0 ↔ ∀ b ∈ l, bad1 b = 0
  | [] => by simp [badL]
  | b :: l => by
    simp only [badL]
    split
    · rename_i h; rw [badL_zero]; simp [h]
    · rename_i h; simp [h]
theorem badL_skip : ∀ {a l : List Bx}, (∀ b ∈ a, bad1 b = 0) → badL (a ++ l) = badL l
  | [], _, _ => rfl
  | b :: a, l, h => by
    simp only [List.cons_append, badL]
    rw [if_pos (h b (by simp)), badL_skip fun c hc => h c (by simp [hc])]
theorem badL_at {l : List Bx} {k : Nat} (h : k < l.length) (ha : ∀ b ∈ l.take k, bad1 b = 0) (hb : bad1 (l[k]'h) ≠ 0) : badL l = bad1 (l[k]'h) := by
  have e : l = l.take k ++ l[k]'h :: l.drop (k + 1) := by rw [← List.drop_eq_getElem_cons h, List.take_append_drop]
  conv => lhs; rw [e]
  rw [badL_skip ha]
  simp only [badL]; rw [if_neg hb]
theorem take_succ_all {l : List Bx} {k : Nat} {p : Bx → Prop} (h : k < l.length) (ha : ∀ b ∈ l.take k, p b) (hb : p (l[k]'h)) : ∀ b ∈ l.take (k + 1), p b := by
  rw [List.take_succ_eq_append_getElem h]
  intro f hf
  rcases List.mem_append.1 hf with hf | hf
  · exact ha f hf
  · simp at hf; subst hf; exact hb

theorem idx_hit {f : Bx → Bool} {l : List Bx} {k : Nat} (h : k < l.length) (ha : ∀ b ∈ l.take k, f b = false) (hb : f (l[k]'h) = true) : idx f l = k := by
  unfold idx
  rw [show l.findIdx? f = some k from ?_]
  rw [List.findIdx?_eq_some_iff_getElem]
  refine ⟨h, hb, fun j hj => ?_⟩
  have := ha (l[j]'(by omega)) (by rw [List.mem_take_iff_getElem]; exact ⟨j, by omega, rfl⟩)
  simp [this]
theorem idx_miss {f : Bx → Bool} {l : List Bx} (ha : ∀ b ∈ l, f b = false) : idx f l = -1 := by
  unfold idx
  rw [show l.findIdx? f = none from ?_]
  rw [List.findIdx?_eq_none_iff]
  exact ha
theorem idx_cases (f : Bx → Bool) (l : List Bx) : (idx f l = -1 ∧ ∀ b ∈ l, f b = false) ∨ ∃ k, ∃ h : k < l.length, idx f l = (k : Int) ∧ f (l[k]'h) = true ∧ ∀ j (hj : j < k), f (l[j]'(by omega)) = false := by
  unfold idx
  cases e : l.findIdx? f with
  | none => exact .inl ⟨rfl, List.findIdx?_eq_none_iff.1 e⟩
  | some k =>
    obtain ⟨h, hb, ha⟩ := List.findIdx?_eq_some_iff_getElem.1 e
    exact .inr ⟨k, h, rfl, hb, fun j hj => by simpa using ha j hj⟩
theorem idx_any (f : Bx → Bool) (l : List Bx) : decide (0 ≤ idx f l) = l.any f := by
  rcases idx_cases f l with ⟨h, ha⟩ | ⟨k, hk, h, hb, _⟩
  · rw [h, show l.any f = false by rw [List.any_eq_false]; intro b hb; simp [ha b hb]]; rfl
  · rw [h, show l.any f = true by rw [List.any_eq_true]; exact ⟨_, List.getElem_mem hk, hb⟩]; simp

end Go.Proofs.Ytgelbndbkmedlaa.S

/- Regions that draw their order. -/
namespace Go.Proofs.Ytgelbndbkmedlaa
open Go.RowKit
/-- The frame, with those slots that a mask names read off a function. -/
def overL (f : Nat → Value) : List Bool → Nat → List Value → List Value
  | [], _, l => l
  | _ :: _, _, [] => []
  | true :: m, k, _ :: l => f k :: overL f m (k + 1) l
  | false :: m, k, v :: l => v :: overL f m (k + 1) l
def over (a : Act) (m : List Bool) (f : Nat → Value) : Act := { tmps := ⟨overL f m 0 a.tmps.toList⟩, defers := a.defers }
def upd (f : Nat → Value) (d : Nat) (v : Value) : Nat → Value := fun k => if k = d then v else f k
theorem upd_same (f : Nat → Value) (d : Nat) (v : Value) : upd f d v d = v := if_pos rfl
theorem upd_other {f : Nat → Value} {d k : Nat} {v : Value} (h : k ≠ d) : upd f d v k = f k := if_neg h

theorem overL_length (f : Nat → Value) : ∀ (m : List Bool) (k : Nat) (l : List Value), (overL f m k l).length = l.length
  | [], _, _ => rfl
  | _ :: _, _, [] => rfl
  | true :: m, k, _ :: l => by simp [overL, overL_length f m (k + 1) l]
  | false :: m, k, _ :: l => by simp [overL, overL_length f m (k + 1) l]
theorem overL_at (f : Nat → Value) : ∀ (m : List Bool) (k j : Nat) (l : List Value), m[j]? = some true → j < l.length → (overL f m k l)[j]? = some (f (k + j))
  | [], _, _, _, h, _ => by simp at h
  | _ :: _, _, _, [], _, h => by simp at h
  | true :: m, k, 0, _ :: l, _, _ => by simp [overL]
  | false :: m, k, 0, _ :: l, h, _ => by simp at h
  | true :: m, k, j + 1, _ :: l, h, hl => by
    have := overL_at f m (k + 1) j l (by simpa using h) (by simpa using hl)
    simp only [overL, List.getElem?_cons_succ, this]
    congr 2; omega
  | false :: m, k, j + 1, _ :: l, h, hl => by
    have := overL_at f m (k + 1) j l (by simpa using h) (by simpa using hl)
    simp only [overL, List.getElem?_cons_succ, this]
    congr 2; omega
theorem overL_congr {f g : Nat → Value} : ∀ (m : List Bool) (k : Nat) (l : List Value), (∀ i, k ≤ i → f i = g i) → overL f m k l = overL g m k l
  | [], _, _, _ => rfl
  | _ :: _, _, [], _ => rfl
  | true :: m, k, _ :: l, h => by simp only [overL]; rw [h k (Nat.le_refl _), overL_congr m (k + 1) l fun i hi => h i (by omega)]
  | false :: m, k, _ :: l, h => by simp only [overL]; rw [overL_congr m (k + 1) l fun i hi => h i (by omega)]
theorem overL_set (f : Nat → Value) (v : Value) : ∀ (m : List Bool) (k j : Nat) (l : List Value), m[j]? = some true → (overL f m k l).set j v = overL (upd f (k + j) v) m k l
  | [], _, _, _, h => by simp at h
  | _ :: _, _, _, [], _ => by simp [overL]
  | true :: m, k, 0, _ :: l, _ => by
    simp only [overL, List.set_cons_zero, Nat.add_zero, upd_same]
    rw [overL_congr (f := f) (g := upd f k v) m (k + 1) l fun i hi => (upd_other (by omega)).symm]
  | false :: m, k, 0, _ :: l, h => by simp at h
  | true :: m, k, j + 1, _ :: l, h => by
    simp only [overL, List.set_cons_succ]
    rw [overL_set f v m (k + 1) j l (by simpa using h), upd_other (by omega)]
    congr 3; omega
  | false :: m, k, j + 1, _ :: l, h => by
    simp only [overL, List.set_cons_succ]
    rw [overL_set f v m (k + 1) j l (by simpa using h)]
    congr 3; omega
theorem over_put (a : Act) (m : List Bool) (f : Nat → Value) (d : Nat) (v : Value) (h : m[d]? = some true) : (over a m f).put (some d) v = over a m (upd f d v) := by
  simp only [over, Act.put]
  congr 1
  apply Array.ext'
  simp only [Array.toList_setIfInBounds]
  rw [overL_set f v m 0 d _ h, Nat.zero_add]
theorem overL_start (l' : List Value) : ∀ (l : List Value) (m : List Bool) (k : Nat), l'.drop k = l → overL (fun k => (l'[k]?).getD undef) m k l = l
  | [], m, k, _ => by cases m <;> simp [overL]
  | v :: l, [], k, _ => rfl
  | v :: l, b :: m, k, h => by
    have hk : l'[k]? = some v := by have := congrArg (·[0]?) h; simpa using this
    have hd : l'.drop (k + 1) = l := by have := congrArg (·.tail) h; simpa using this
    have ih := overL_start l' l m (k + 1) hd
    cases b
    · simp only [overL]; rw [ih]
    · simp only [overL]; rw [ih, hk]; rfl
theorem over_start (a : Act) (m : List Bool) : over a m (fun k => (a.tmps.toList[k]?).getD undef) = a := by
  cases a
  simp only [over]
  congr 1
  apply Array.ext'
  exact overL_start _ _ m 0 rfl

abbrev Plan := List (Nat × List Nat × Option (Nat × Bool))
def planOne (ops : Array Oper) (m : List Bool) (n : Nat) (o : Oper) (p : Nat × List Nat × Option (Nat × Bool)) : Bool :=
  (o.dst == some p.1) && (m.getD p.1 false) && decide (p.1 < n) && p.2.1.all (fun d => o.after.any fun e => Region.binds .any e && (((ops[e.on]?).bind (·.dst)) == some d)) &&
  (match o.guard, p.2.2 with
    | none, none => true
    | some (j, b), some (s, b') => (((ops[j]?).bind (·.dst)) == some s) && (b == b') && (m.getD s false) && decide (s < n)
    | _, _ => false)
def nodupB : List Nat → Bool
  | [] => true
  | d :: l => !l.contains d && nodupB l
def planAll (ops : Array Oper) (m : List Bool) (n : Nat) : List Oper → Plan → Bool
  | [], [] => true
  | o :: l, p :: q => planOne ops m n o p && planAll ops m n l q
  | _, _ => false
def backB : Nat → List Oper → Bool
  | _, [] => true
  | k, o :: l => o.after.all (fun e => decide (e.on < k)) && backB (k + 1) l
def planOk (ops : Array Oper) (plan : Plan) (m : List Bool) (n : Nat) : Bool := backB 0 ops.toList && nodupB (plan.map (·.1)) && planAll ops m n ops.toList plan
/-- The slots that a plan fills. -/
def AllP (V : Nat → Value → World → Prop) (f : Nat → Value) (w : World) : Plan → Prop
  | [] => True
  | p :: q => V p.1 (f p.1) w ∧ AllP V f w q

section
variable (P : Program) (Q : Exit → Act → World → Prop) (a : Act) (m : List Bool) (V : Nat → Value → World → Prop) (w0 : World)
def AllV (f : Nat → Value) (w : World) : List Nat → Prop
  | [] => True
  | d :: l => V d (f d) w ∧ AllV f w l
/-- What an operation must do, in whatever world it comes up. -/
def Does (o : Oper) (d : Nat) (f : Nat → Value) (w : World) : Prop :=
  ∀ K : Act → World → Prop, (∀ a' w', (∃ v, V d v w' ∧ a' = (over a m f).put (some d) v ∧ Below w.heap.size w w') → K a' w') → o.wp P (over a m f) w K Q
def Obl (o : Oper) (p : Nat × List Nat × Option (Nat × Bool)) : Prop :=
  ∀ f w, Below w0.heap.size w0 w → AllV V f w p.2.1 → match p.2.2 with
    | none => Does P Q a m V o p.1 f w
    | some (s, b) => (f s = .bool b → Does P Q a m V o p.1 f w) ∧ (f s ≠ .bool b → V p.1 undef w)
def Obls : List Oper → Plan → Prop
  | o :: l, p :: q => Obl P Q a m V w0 o p ∧ Obls l q
  | _, _ => True
end
theorem planAll_at {ops : Array Oper} {m : List Bool} {n : Nat} : ∀ {l : List Oper} {q : Plan}, planAll ops m n l q = true → ∀ {i : Nat} {o : Oper}, l[i]? = some o → ∃ p, q[i]? = some p ∧ planOne ops m n o p = true
  | [], _, _, _, _, h => by simp at h
  | _ :: _, [], h, _, _, _ => by simp [planAll] at h
  | o :: l, p :: q, h, 0, o', ho => by
    simp only [planAll, Bool.and_eq_true] at h
    simp at ho; subst ho
    exact ⟨p, by simp, h.1⟩
  | o :: l, p :: q, h, i + 1, o', ho => by
    simp only [planAll, Bool.and_eq_true] at h
    obtain ⟨p', hp, h'⟩ := planAll_at h.2 (i := i) (by simpa using ho)
    exact ⟨p', by simpa using hp, h'⟩
theorem obls_at {P : Program} {Q : Exit → Act → World → Prop} {a : Act} {m : List Bool} {V : Nat → Value → World → Prop} {w0 : World} : ∀ {l : List Oper} {q : Plan}, Obls P Q a m V w0 l q → ∀ {i : Nat} {o : Oper} {p}, l[i]? = some o → q[i]? = some p → Obl P Q a m V w0 o p
  | [], _, _, _, _, _, h, _ => by simp at h
  | _ :: _, [], _, _, _, _, _, h => by simp at h
  | o :: l, p :: q, h, 0, _, _, ho, hp => by simp at ho hp; subst ho; subst hp; exact h.1
  | o :: l, p :: q, h, i + 1, _, _, ho, hp => obls_at h.2 (i := i) (by simpa using ho) (by simpa using hp)
theorem nodup_at : ∀ {l : List Nat}, nodupB l = true → ∀ {i j d : Nat}, l[i]? = some d → l[j]? = some d → i = j
  | [], _, _, _, _, h, _ => by simp at h
  | x :: l, h, 0, 0, d, _, _ => rfl
  | x :: l, h, 0, j + 1, d, hi, hj => by
    simp only [nodupB, Bool.and_eq_true, Bool.not_eq_true', List.contains_eq_mem, decide_eq_false_iff_not] at h
    simp at hi; subst hi
    exact absurd (List.mem_of_getElem? (by simpa using hj)) h.1
  | x :: l, h, i + 1, 0, d, hi, hj => by
    simp only [nodupB, Bool.and_eq_true, Bool.not_eq_true', List.contains_eq_mem, decide_eq_false_iff_not] at h
    simp at hj; subst hj
    exact absurd (List.mem_of_getElem? (by simpa using hi)) h.1
  | x :: l, h, i + 1, j + 1, d, hi, hj => by
    simp only [nodupB, Bool.and_eq_true] at h
    rw [nodup_at h.2 (i := i) (j := j) (by simpa using hi) (by simpa using hj)]

theorem getD_true {m : List Bool} {d : Nat} (h : m.getD d false = true) : m[d]? = some true := by
  rw [List.getD_eq_getElem?_getD] at h
  cases e : m[d]? with
  | none => rw [e] at h; simp at h
  | some b => rw [e] at h; simp at h; rw [h]

section
variable {P : Program} {Q : Exit → Act → World → Prop} {a : Act} {m : List Bool} {V : Nat → Value → World → Prop} {w0 : World} {ops : Array Oper} {plan : Plan}
/-- What holds while the region goes on. -/
def Inv (a : Act) (m : List Bool) (V : Nat → Value → World → Prop) (w0 : World) (ops : Array Oper) (listed : Array Bool) (a' : Act) (w : World) : Prop :=
  ∃ f, a' = over a m f ∧ Below w0.heap.size w0 w ∧ ∀ (i : Nat) (o : Oper) (d : Nat), ops[i]? = some o → o.dst = some d → listed[i]? = some true → V d (f d) w

theorem inv_step (hmono : ∀ d v w w', V d v w → Below w.heap.size w w' → V d v w') (hok : planOk ops plan m a.tmps.size = true) (hob : Obls P Q a m V w0 ops.toList plan)
    {listed : Array Bool} {i : Nat} (hi : i ∈ Region.ready .any ops listed) {a' : Act} {w : World} (h : Inv a m V w0 ops listed a' w) :
    wpOp P ops Q i (fun a2 w2 => Inv a m V w0 ops (listed.setIfInBounds i true) a2 w2) a' w := by
  simp only [planOk, Bool.and_eq_true] at hok
  obtain ⟨⟨_, hnd⟩, hall⟩ := hok
  simp only [Region.ready, List.mem_filter, List.mem_range, Bool.and_eq_true] at hi
  obtain ⟨hlt, hun, hpre⟩ := hi
  obtain ⟨o, ho⟩ : ∃ o, ops[i]? = some o := ⟨ops[i], by simp [hlt]⟩
  rw [ho] at hpre
  simp only [Option.map_some, Option.getD_some] at hpre
  have hoL : ops.toList[i]? = some o := by simpa using ho
  obtain ⟨p, hp, h1⟩ := planAll_at hall hoL
  have hO := obls_at hob hoL hp
  simp only [planOne, Bool.and_eq_true] at h1
  obtain ⟨⟨⟨⟨hd, hm⟩, hdn⟩, hps⟩, hg⟩ := h1
  have hd' : o.dst = some p.1 := by simpa using hd
  have hm' := getD_true hm
  obtain ⟨f, rfl, hb, hV⟩ := h
  have hav : ∀ l : List Nat, (∀ d ∈ l, d ∈ p.2.1) → AllV V f w l := by
    intro l
    induction l with
    | nil => intro _; trivial
    | cons d l ih =>
      intro hl
      refine ⟨?_, ih fun x hx => hl x (by simp [hx])⟩
      have h2 := List.all_eq_true.1 hps d (hl d (by simp))
      obtain ⟨e, he, h3⟩ := Array.any_eq_true'.1 h2
      simp only [Bool.and_eq_true] at h3
      have h4 := Array.all_eq_true'.1 hpre e he
      rw [h3.1] at h4
      simp only [Bool.not_true, Bool.false_or] at h4
      have h5 : (ops[e.on]?).bind (·.dst) = some d := by simpa using h3.2
      obtain ⟨oe, hoe, hde⟩ := Option.bind_eq_some_iff.1 h5
      refine hV e.on oe d hoe hde ?_
      simp only [Array.getD_eq_getD_getElem?] at h4
      cases e6 : listed[e.on]? with
      | none => rw [e6] at h4; simp at h4
      | some b => rw [e6] at h4; simp at h4; rw [h4]
  have hav := hav p.2.1 fun _ h => h
  have hfin : ∀ v w2, V p.1 v w2 → Below w.heap.size w w2 → Inv a m V w0 ops (listed.setIfInBounds i true) ((over a m f).put (some p.1) v) w2 := by
    intro v w2 hv hb2
    refine ⟨upd f p.1 v, over_put a m f p.1 v hm', hb.trans (hb2.mono hb.size), ?_⟩
    intro j oj d hj hdj hlj
    by_cases e : j = i
    · subst e
      rw [ho] at hj; cases hj
      rw [hd'] at hdj; cases hdj
      rw [upd_same]; exact hv
    · have hne : d ≠ p.1 := by
        intro e2; subst e2
        obtain ⟨pj, hpj, h1j⟩ := planAll_at hall (i := j) (by simpa using hj)
        simp only [planOne, Bool.and_eq_true] at h1j
        have hdj2 : oj.dst = some pj.1 := by simpa using h1j.1.1.1.1
        rw [hdj] at hdj2
        refine e (nodup_at hnd (i := j) (j := i) (d := p.1) ?_ ?_)
        · simp only [List.getElem?_map, hpj, Option.map_some, Option.some.injEq]; exact (Option.some.inj hdj2).symm
        · simp only [List.getElem?_map, hp, Option.map_some]
      rw [upd_other hne]
      refine hmono _ _ _ _ (hV j oj d hj hdj ?_) hb2
      simpa [Array.getElem?_setIfInBounds, Ne.symm e] using hlj
  have hDoes : Does P Q a m V o p.1 f w → o.wp P (over a m f) w (fun a2 w2 => Inv a m V w0 ops (listed.setIfInBounds i true) a2 w2) Q := fun hD =>
    hD _ fun a2 w2 ⟨v, hv, ha, hb2⟩ => by subst ha; exact hfin v w2 hv hb2
  have hO := hO f w hb hav
  unfold wpOp
  rw [ho]
  simp only
  cases hgo : o.guard with
  | none =>
    rw [hgo] at hg
    have hw : Region.wanted o (yielded ops (over a m f).tmps) = true := by simp [Region.wanted, hgo]
    rw [if_pos hw]
    cases hp2 : p.2.2 with
    | none => rw [hp2] at hO; exact .inl (hDoes hO)
    | some x => rw [hp2] at hg; simp at hg
  | some jb =>
    obtain ⟨j, b⟩ := jb
    rw [hgo] at hg
    cases hp2 : p.2.2 with
    | none => rw [hp2] at hg; simp at hg
    | some sb =>
      obtain ⟨s, b'⟩ := sb
      rw [hp2] at hg hO
      simp only [Bool.and_eq_true] at hg
      obtain ⟨⟨⟨hs, hbb⟩, hms⟩, hsn⟩ := hg
      have hbb : b = b' := by simpa using hbb
      subst hbb
      have hs : (ops[j]?).bind (·.dst) = some s := by simpa using hs
      have hgs : (over a m f).tmps[s]? = some (f s) := by
        have := overL_at f m 0 s a.tmps.toList (getD_true hms) (by simpa using hsn)
        simpa [over] using this
      have hy : yielded ops (over a m f).tmps j = match f s with | .bool x => some x | _ => none := by
        unfold yielded
        rw [hs]
        simp only [Option.bind_some, hgs]
        cases f s <;> rfl
      by_cases hw : f s = .bool b
      · have : Region.wanted o (yielded ops (over a m f).tmps) = true := by simp [Region.wanted, hgo, hy, hw]
        rw [if_pos this]
        exact .inl (hDoes (hO.1 hw))
      · have : ¬ Region.wanted o (yielded ops (over a m f).tmps) = true := by
          simp only [Region.wanted, hgo, hy, beq_iff_eq]
          cases e : f s <;> simp
          rename_i x
          intro e2; subst e2; exact hw e
        rw [if_neg this, hd']
        exact hfin _ _ (hO.2 hw) (Below.refl _ _)

theorem back_at : ∀ {l : List Oper} {k : Nat}, backB k l = true → ∀ {i : Nat} {o : Oper}, l[i]? = some o → ∀ e ∈ o.after, e.on < k + i
  | [], _, _, _, _, h => by simp at h
  | o :: l, k, h, 0, o', ho => by
    simp only [backB, Bool.and_eq_true] at h
    simp at ho; subst ho
    intro e he
    have := Array.all_eq_true'.1 h.1 e he
    simpa using this
  | o :: l, k, h, i + 1, o', ho => by
    simp only [backB, Bool.and_eq_true] at h
    intro e he
    have := back_at h.2 (i := i) (by simpa using ho) e he
    omega
theorem all_listed {listed : Array Bool} (hback : backB 0 ops.toList = true) (hsz : listed.size = ops.size) (hr : Region.ready .any ops listed = []) : ∀ i, i < ops.size → listed[i]? = some true := by
  intro i
  induction i using Nat.strongRecOn with
  | ind i ih =>
    intro hi
    cases hl : listed[i]? with
    | none => rw [Array.getElem?_eq_none_iff] at hl; omega
    | some b =>
      cases b with
      | true => rfl
      | false =>
        exfalso
        have hm : i ∈ Region.ready .any ops listed := by
          simp only [Region.ready, List.mem_filter, List.mem_range, Bool.and_eq_true]
          refine ⟨hi, by simp [Array.getD_eq_getD_getElem?, hl], ?_⟩
          have ho : ops[i]? = some ops[i] := by simp [hi]
          rw [ho]
          simp only [Option.map_some, Option.getD_some]
          rw [Array.all_eq_true']
          intro e he
          have h1 := back_at hback (i := i) (o := ops[i]) (by simp) e he
          have h2 := ih e.on (by omega) (by omega)
          simp [Array.getD_eq_getD_getElem?, h2]
        rw [hr] at hm
        simp at hm
theorem allP_of {f : Nat → Value} {w : World} : ∀ {l : List Oper} {q : Plan} {n : Nat}, planAll ops m n l q = true → (∀ (i : Nat) (o : Oper) (d : Nat), l[i]? = some o → o.dst = some d → V d (f d) w) → AllP V f w q
  | [], [], _, _, _ => trivial
  | [], _ :: _, _, h, _ => by simp [planAll] at h
  | _ :: _, [], _, h, _ => by simp [planAll] at h
  | o :: l, p :: q, n, h, hV => by
    simp only [planAll, Bool.and_eq_true] at h
    have hd : o.dst = some p.1 := by
      have := h.1
      simp only [planOne, Bool.and_eq_true] at this
      simpa using this.1.1.1.1
    exact ⟨hV 0 o p.1 (by simp) hd, allP_of h.2 fun i o' d ho hd => hV (i + 1) o' d (by simpa using ho) hd⟩

theorem any_inv (hmono : ∀ d v w w', V d v w → Below w.heap.size w w' → V d v w') (hok : planOk ops plan m a.tmps.size = true) (hob : Obls P Q a m V w0 ops.toList plan)
    (hdone : ∀ f w, Below w0.heap.size w0 w → AllP V f w plan → Q .normal (over a m f) w) :
    ∀ (fuel : Nat) (listed : Array Bool) (a' : Act) (w : World), listed.size = ops.size → listed.toList.count false ≤ fuel → Inv a m V w0 ops listed a' w → wpAny P .any ops Q fuel listed a' w := by
  have hok2 := hok
  simp only [planOk, Bool.and_eq_true] at hok2
  obtain ⟨⟨hback, _⟩, hall⟩ := hok2
  have hend : ∀ (listed : Array Bool) (a' : Act) (w : World), listed.size = ops.size → Inv a m V w0 ops listed a' w → Region.ready .any ops listed = [] → Q .normal a' w := by
    rintro listed a' w hsz ⟨f, rfl, hb, hV⟩ hr
    refine hdone f w hb (allP_of hall fun i o d ho hd => hV i o d (by simpa using ho) hd (all_listed hback hsz hr i ?_))
    by_cases h : i < ops.size
    · exact h
    · have : ops.toList[i]? = none := by simp; omega
      rw [this] at ho; simp at ho
  intro fuel
  induction fuel with
  | zero =>
    intro listed a' w hsz hc hI
    have hr : Region.ready .any ops listed = [] := by
      rw [List.eq_nil_iff_forall_not_mem]
      intro i hi
      simp only [Region.ready, List.mem_filter, List.mem_range, Bool.and_eq_true] at hi
      have h0 : listed.toList.count false = 0 := by omega
      rw [List.count_eq_zero] at h0
      have hlt : i < listed.size := by omega
      have h1 := hi.2.1
      simp only [Array.getD_eq_getD_getElem?, Array.getElem?_eq_getElem hlt, Option.getD_some, Bool.not_eq_true'] at h1
      exact h0 (by rw [← h1]; simp)
    exact ⟨hr, hend listed a' w hsz hI hr⟩
  | succ fuel ih =>
    intro listed a' w hsz hc hI
    refine ⟨hend listed a' w hsz hI, fun i hi => wpOp_mono (fun a2 w2 h2 => ih _ _ _ (by simpa using hsz) ?_ h2) (inv_step hmono hok hob hi hI)⟩
    simp only [Region.ready, List.mem_filter, List.mem_range, Bool.and_eq_true] at hi
    have hlt : i < listed.size := by omega
    have h1 := hi.2.1
    simp only [Array.getD_eq_getD_getElem?, Array.getElem?_eq_getElem hlt, Option.getD_some, Bool.not_eq_true'] at h1
    have hl : i < listed.toList.length := by simpa using hlt
    have h2 : listed.toList[i] = false := by simpa using h1
    rw [Array.toList_setIfInBounds, List.count_set hl, h2]
    have hp : 0 < listed.toList.count false := List.count_pos_iff.2 (by rw [← h2]; exact List.getElem_mem _)
    rw [if_pos (by rfl), if_neg (by decide)]
    omega

/-- A region that draws its order: whatever it is, each operation does what it must. -/
theorem region_inv {id : Nat} (m : List Bool) (plan : Plan) (V : Nat → Value → World → Prop) (hmix : P.follows .mixedOrders = true) (hok : planOk ops plan m a.tmps.size = true)
    (hmono : ∀ d v w w', V d v w → Below w.heap.size w w' → V d v w') (hob : Obls P Q a m V w0 ops.toList plan)
    (hdone : ∀ f w, Below w0.heap.size w0 w → AllP V f w plan → Q .normal (over a m f) w) : (Code.region id ops true).wp P Q a w0 := by
  refine wp_region_any hmix (any_inv hmono hok hob hdone _ _ _ _ (by simp) (by simp) ⟨fun k => (a.tmps.toList[k]?).getD undef, (over_start a m).symm, ⟨rfl, rfl, rfl, Nat.le_refl _, fun _ _ => rfl⟩, ?_⟩)
  intro i o d _ _ h
  simp [Array.getElem?_replicate] at h
end
end Go.Proofs.Ytgelbndbkmedlaa

/- Small lemmas. -/
namespace Go.Proofs.Ytgelbndbkmedlaa
open Go.RowKit
theorem cell_later {w w' : World} (hb : Below w.heap.size w w') {b o : Nat} {v : Value} (h : w.cell? ⟨b, o, none⟩ = some v) : w'.cell? ⟨b, o, none⟩ = some v := by
  rw [← h]
  refine hb.cell (p := ⟨b, o, none⟩) ?_
  show b < w.heap.size
  by_cases e : b < w.heap.size
  · exact e
  · have : w.heap[b]? = none := by simp; omega
    simp [World.cell?, this] at h

/-- A closure over a range. -/
def IsClo (lo hi : Int) (v : Value) (w : World) : Prop := ∃ p q, v = clo p q ∧ w.cell? ⟨p, 0, none⟩ = some (.int .i64 lo) ∧ w.cell? ⟨q, 0, none⟩ = some (.int .i64 hi)
/-- A slice of some numbers. -/
def IsInts (xs : List Int) (v : Value) (w : World) : Prop := ∃ b, v = .slice (some ⟨b, 0, none⟩) xs.length xs.length ∧ ∀ k, k < xs.length → w.cell? ⟨b, k, none⟩ = some (.int .i64 (xs.getD k 0))
theorem IsClo.later {lo hi : Int} {v : Value} {w w' : World} (h : IsClo lo hi v w) (hb : Below w.heap.size w w') : IsClo lo hi v w' := by
  obtain ⟨p, q, rfl, hp, hq⟩ := h
  exact ⟨p, q, rfl, cell_later hb hp, cell_later hb hq⟩
theorem IsInts.later {xs : List Int} {v : Value} {w w' : World} (h : IsInts xs v w) (hb : Below w.heap.size w w') : IsInts xs v w' := by
  obtain ⟨b, rfl, hc⟩ := h
  exact ⟨b, rfl, fun k hk => cell_later hb (hc k hk)⟩
theorem within_is (lo hi : Int) (w : World) :
    Calls Try.prog 80 #[.int .i64 lo, .int .i64 hi] w fun e w' => ∃ v, e = .returned v ∧ IsClo lo hi v w' ∧ Below w.heap.size w w' := by
  refine (within_int lo hi w).mono ?_
  rintro e w1 ⟨rfl, rfl⟩
  exact ⟨_, rfl, ⟨_, _, rfl, by simp [go_sem], by simp [go_sem]⟩, ((Below.refl _ _).alloc (Nat.le_refl _) _).alloc (by simp) _⟩
theorem every_is (xs : List Int) (lo hi : Int) (v c : Value) (w : World) (hn : xs.length ≤ 100) (hc : IsClo lo hi c w) (hv : IsInts xs v w) :
    Calls Try.prog 79 #[c, v] w fun e w' => e = .returned (.bool (xs.all (inR lo hi))) ∧ w' = w := by
  obtain ⟨p, q, rfl, hp, hq⟩ := hc
  obtain ⟨b, rfl, hx⟩ := hv
  exact every_any xs lo hi p q b _ w hn hp hq hx

theorem new_one (x : Int) (w : World) (t : Nat) : IsInts [x] (.slice (some ⟨w.heap.size, 0, none⟩) 1 1) (w.alloc (.cells #[.int .i64 x] t)) :=
  ⟨_, rfl, fun k hk => by
    have : k = 0 := by simpa using hk
    subst this; simp [go_sem]⟩
theorem every_one (x lo hi : Int) (v c : Value) (w : World) (hc : IsClo lo hi c w) (hv : IsInts [x] v w) :
    Calls Try.prog 79 #[c, v] w fun e w' => e = .returned (.bool (inR lo hi x)) ∧ w' = w := by
  have h := every_is [x] lo hi v c w (by simp) hc hv
  simpa using h

/-- Is there such a spot in so many rows and columns? -/
def spotOk (r c R C : Int) : Bool := inR 0 (R - 1) r && inR 0 (C - 1) c
theorem spotOk_iff {r c R C : Int} : spotOk r c R C = true ↔ (0 ≤ r ∧ r < R) ∧ 0 ≤ c ∧ c < C := by
  simp only [spotOk, Bool.and_eq_true, inR_iff]; omega
theorem wrap_in {x : Int} (h : -9223372036854775808 ≤ x) (h2 : x ≤ 9223372036854775807) : IntKind.i64.wrap x = x := by
  rw [IntWalk.i64_left]; exact IntWalk.wrap64_in _ ⟨h, h2⟩

def spotV (r c R C : Int) (B : Nat) (d : Nat) (v : Value) (w : World) : Prop :=
  match d with
  | 7 => v = .int .i64 R
  | 8 => v = .int .i64 (R - 1)
  | 9 => IsClo 0 (R - 1) v w
  | 10 => v = .pointer (some ⟨B, 0, none⟩)
  | 11 => v = .int .i64 r
  | 12 => IsInts [r] v w
  | 13 => v = .bool (inR 0 (R - 1) r)
  | 14 => v = .bool (inR 0 (R - 1) r)
  | 15 => inR 0 (R - 1) r = true → v = .int .i64 C
  | 16 => inR 0 (R - 1) r = true → v = .int .i64 (C - 1)
  | 17 => inR 0 (R - 1) r = true → IsClo 0 (C - 1) v w
  | 18 => inR 0 (R - 1) r = true → v = .pointer (some ⟨B, 1, none⟩)
  | 19 => inR 0 (R - 1) r = true → v = .int .i64 c
  | 20 => inR 0 (R - 1) r = true → IsInts [c] v w
  | 21 => inR 0 (R - 1) r = true → v = .bool (inR 0 (C - 1) c)
  | 22 => v = .bool (spotOk r c R C)
  | 6 => v = .bool (spotOk r c R C)
  | _ => True
theorem spotV_mono (r c R C : Int) (B : Nat) (d : Nat) (v : Value) (w w' : World) (h : spotV r c R C B d v w) (hb : Below w.heap.size w w') : spotV r c R C B d v w' := by
  unfold spotV at h ⊢
  split <;> simp only [] at h <;> first | exact h | exact h.later hb | exact fun g => (h g).later hb


end Go.Proofs.Ytgelbndbkmedlaa

/- Values of boxes and points, boxes in memory. -/
namespace Go.Proofs.Ytgelbndbkmedlaa.S
open Go.RowKit
theorem bcell {W w1 : World} (hb : Below W.heap.size W w1) : (∀ b o, b < W.heap.size → w1.cell? ⟨b, o, none⟩ = W.cell? ⟨b, o, none⟩) ∧ (∀ b o, b < W.heap.size → w1.frozen? ⟨b, o, none⟩ = W.frozen? ⟨b, o, none⟩) :=
  ⟨fun b o h => hb.cell (p := ⟨b, o, none⟩) h, fun b o h => hb.frozen (p := ⟨b, o, none⟩) h⟩
theorem ret_bool {a b : Bool} (h : a = b) : Ending.returned (.bool a) = .returned (.bool b) := by rw [h]
theorem ret_int {k : IntKind} {a b : Int} (h : a = b) : Ending.returned (.int k a) = .returned (.int k b) := by rw [h]
theorem cell_later {w w' : World} (hb : Below w.heap.size w w') {b o : Nat} {v : Value} (h : w.cell? ⟨b, o, none⟩ = some v) : w'.cell? ⟨b, o, none⟩ = some v := by
  rw [← h]
  refine hb.cell (p := ⟨b, o, none⟩) ?_
  show b < w.heap.size
  by_cases e : b < w.heap.size
  · exact e
  · have : w.heap[b]? = none := by simp; omega
    simp [World.cell?, this] at h

/-- Values. -/
abbrev pv (p : Pt) : Value := .agg #[.int .i64 p.x, .int .i64 p.y, .int .i64 p.z]
abbrev bv (b : Bx) : Value := .agg #[.int .i64 b.lx, .int .i64 b.ly, .int .i64 b.lz, .int .i64 b.hx, .int .i64 b.hy, .int .i64 b.hz]

/-- A box at a place of a block. -/
def BxAt (w : World) (b o : Nat) (a : Bx) : Prop :=
  b < w.heap.size ∧ w.cell? ⟨b, o, none⟩ = some (.int .i64 a.lx) ∧ w.cell? ⟨b, o + 1, none⟩ = some (.int .i64 a.ly) ∧ w.cell? ⟨b, o + 2, none⟩ = some (.int .i64 a.lz) ∧
    w.cell? ⟨b, o + 3, none⟩ = some (.int .i64 a.hx) ∧ w.cell? ⟨b, o + 4, none⟩ = some (.int .i64 a.hy) ∧ w.cell? ⟨b, o + 5, none⟩ = some (.int .i64 a.hz)
theorem BxAt.next {w w1 : World} {b o : Nat} {a : Bx} (h : BxAt w b o a) (hb : Below w.heap.size w w1) : BxAt w1 b o a :=
  ⟨Nat.lt_of_lt_of_le h.1 hb.size, cell_later hb h.2.1, cell_later hb h.2.2.1, cell_later hb h.2.2.2.1, cell_later hb h.2.2.2.2.1, cell_later hb h.2.2.2.2.2.1, cell_later hb h.2.2.2.2.2.2⟩
/-- A slice's memory holds these boxes. -/
def Bxs (w : World) (ao : Option Addr) (l : List Bx) : Prop :=
  l = [] ∨ ∃ b off, ao = some ⟨b, off, none⟩ ∧ ∀ k (h : k < l.length), BxAt w b (off + k * 6) (l[k]'h)
theorem Bxs.next {w w1 : World} {ao : Option Addr} {l : List Bx} (h : Bxs w ao l) (hb : Below w.heap.size w w1) : Bxs w1 ao l :=
  h.imp id fun ⟨b, off, h1, h2⟩ => ⟨b, off, h1, fun k hk => (h2 k hk).next hb⟩
theorem Bxs.at {w : World} {ao : Option Addr} {l : List Bx} (h : Bxs w ao l) {k : Nat} (hk : k < l.length) : ∃ b off, ao = some ⟨b, off, none⟩ ∧ BxAt w b (off + k * 6) (l[k]'hk) := by
  rcases h with rfl | ⟨b, off, h1, h2⟩
  · exact absurd hk (Nat.not_lt_zero _)
  · exact ⟨b, off, h1, h2 k hk⟩
theorem Bxs.nil (w : World) (ao : Option Addr) : Bxs w ao [] := .inl rfl
theorem Bxs.one (w : World) (a : Bx) : Bxs (w.alloc (.cells #[.int .i64 a.lx, .int .i64 a.ly, .int .i64 a.lz, .int .i64 a.hx, .int .i64 a.hy, .int .i64 a.hz] 26)) (some ⟨w.heap.size, 0, none⟩) [a] := by
  refine .inr ⟨w.heap.size, 0, rfl, fun k hk => ?_⟩
  match k, hk with
  | 0, _ => exact ⟨by simp, by go_simp, by go_simp, by go_simp, by go_simp, by go_simp, by go_simp⟩
theorem Bxs.two (w : World) (a c : Bx) : Bxs (w.alloc (.cells #[.int .i64 a.lx, .int .i64 a.ly, .int .i64 a.lz, .int .i64 a.hx, .int .i64 a.hy, .int .i64 a.hz, .int .i64 c.lx, .int .i64 c.ly, .int .i64 c.lz, .int .i64 c.hx, .int .i64 c.hy, .int .i64 c.hz] 26)) (some ⟨w.heap.size, 0, none⟩) [a, c] := by
  refine .inr ⟨w.heap.size, 0, rfl, fun k hk => ?_⟩
  match k, hk with
  | 0, _ => exact ⟨by simp, by go_simp, by go_simp, by go_simp, by go_simp, by go_simp, by go_simp⟩
  | 1, _ => exact ⟨by simp, by go_simp, by go_simp, by go_simp, by go_simp, by go_simp, by go_simp⟩
/-- A slice of points at the head of a block. -/
def Pts (w : World) (b : Nat) (l : List Pt) : Prop :=
  ∀ k (h : k < l.length), w.cell? ⟨b, k * 3, none⟩ = some (.int .i64 (l[k]'h).x) ∧ w.cell? ⟨b, k * 3 + 1, none⟩ = some (.int .i64 (l[k]'h).y) ∧ w.cell? ⟨b, k * 3 + 2, none⟩ = some (.int .i64 (l[k]'h).z)
theorem Pts.next {w w1 : World} {b : Nat} {l : List Pt} (h : Pts w b l) (hb : Below w.heap.size w w1) : Pts w1 b l :=
  fun k hk => ⟨cell_later hb (h k hk).1, cell_later hb (h k hk).2.1, cell_later hb (h k hk).2.2⟩
theorem Pts.one (w : World) (p : Pt) : Pts (w.alloc (.cells #[.int .i64 p.x, .int .i64 p.y, .int .i64 p.z] 24)) w.heap.size [p] := by
  intro k hk
  match k, hk with
  | 0, _ => exact ⟨by go_simp, by go_simp, by go_simp⟩
theorem Pts.two (w : World) (p q : Pt) : Pts (w.alloc (.cells #[.int .i64 p.x, .int .i64 p.y, .int .i64 p.z, .int .i64 q.x, .int .i64 q.y, .int .i64 q.z] 24)) w.heap.size [p, q] := by
  intro k hk
  match k, hk with
  | 0, _ => exact ⟨by go_simp, by go_simp, by go_simp⟩
  | 1, _ => exact ⟨by go_simp, by go_simp, by go_simp⟩

theorem box3 {w : World} {b : Nat} {u0 u1 u2 : Value} (c0 : w.cell? ⟨b, 0, none⟩ = some u0) (c1 : w.cell? ⟨b, 1, none⟩ = some u1) (c2 : w.cell? ⟨b, 2, none⟩ = some u2) (x y z : Value) :
    (((w.setCell ⟨b, 0, none⟩ x).setCell ⟨b, 1, none⟩ y).setCell ⟨b, 2, none⟩ z).cell? ⟨b, 0, none⟩ = some x ∧
    (((w.setCell ⟨b, 0, none⟩ x).setCell ⟨b, 1, none⟩ y).setCell ⟨b, 2, none⟩ z).cell? ⟨b, 1, none⟩ = some y ∧
    (((w.setCell ⟨b, 0, none⟩ x).setCell ⟨b, 1, none⟩ y).setCell ⟨b, 2, none⟩ z).cell? ⟨b, 2, none⟩ = some z := by
  refine ⟨?_, ?_, ?_⟩
  all_goals simp [go_sem, c0, c1, c2]

/-- An array of three, indexed. -/
theorem ix0 (x y z : Int) (w : World) : (Instr.index 67 (.agg #[.int .i64 x, .int .i64 y, .int .i64 z]) (.int .i64 0)).run Try.prog w = .ok (.int .i64 x) w := by kernel_rfl
theorem ix1 (x y z : Int) (w : World) : (Instr.index 67 (.agg #[.int .i64 x, .int .i64 y, .int .i64 z]) (.int .i64 1)).run Try.prog w = .ok (.int .i64 y) w := by kernel_rfl
theorem ix2 (x y z : Int) (w : World) : (Instr.index 67 (.agg #[.int .i64 x, .int .i64 y, .int .i64 z]) (.int .i64 2)).run Try.prog w = .ok (.int .i64 z) w := by kernel_rfl

/-- The numbers of a point. -/
theorem numbers_any (p : Pt) (w : World) :
    Calls Try.prog 91 #[pv p] w fun e w' => e = .returned (pv p) ∧ w' = (w.alloc (.cells #[.int .i64 p.x, .int .i64 p.y, .int .i64 p.z] 24)).alloc (.cells #[.int .i64 p.x, .int .i64 p.y, .int .i64 p.z] 67) := by
  go_enter Try.func91, Try.ntmps91
  go_wp2
  refine bodyPost_ret (v := pv p) (by simp [results, Try.results91, go_sem]) rfl ⟨rfl, rfl⟩

end Go.Proofs.Ytgelbndbkmedlaa.S

/- isBelow, isOrdered, isNear walked. -/
namespace Go.Proofs.Ytgelbndbkmedlaa.S
open Go.RowKit
theorem min_any (x y : Int) (w : World) : Calls Try.prog 105 #[.int .i64 x, .int .i64 y] w fun e w' => e = .returned (.int .i64 (min x y)) ∧ w' = w := by
  go_enter Try.func105, Try.ntmps105
  go_wp2
  all_goals
    go_ret
    exact ⟨ret_int (by omega), rfl⟩
theorem max_any (x y : Int) (w : World) : Calls Try.prog 106 #[.int .i64 x, .int .i64 y] w fun e w' => e = .returned (.int .i64 (max x y)) ∧ w' = w := by
  go_enter Try.func106, Try.ntmps106
  go_wp2
  all_goals
    go_ret
    exact ⟨ret_int (by omega), rfl⟩
theorem add_any (x y : Int) (w : World) (h : -9223372036854775808 ≤ x + y) (h2 : x + y ≤ 9223372036854775807) : Calls Try.prog 92 #[.int .i64 x, .int .i64 y] w fun e w' => e = .returned (.int .i64 (x + y)) ∧ w' = w := by
  go_enter Try.func92, Try.ntmps92
  go_wp2
  go_ret
  exact ⟨rfl, rfl⟩

theorem below_grow {w w' : World} (n : Nat) (hn : n ≤ w.heap.size) (h : Below n w w') (o : Obj) : Below n w (w'.alloc o) := h.alloc (Nat.le_trans hn h.size) o

set_option maxHeartbeats 3200000 in
theorem isBelow_any (p q : Pt) (w : World) :
    Calls Try.prog 110 #[pv p, pv q] w fun e w' => e = .returned (.bool (below p q)) ∧ Below w.heap.size w w' := by
  obtain ⟨px, py, pz⟩ := p
  obtain ⟨qx, qy, qz⟩ := q
  have hx := ix0 px py pz
  have hy := ix1 px py pz
  have hz := ix2 px py pz
  go_enter Try.func110, Try.ntmps110
  go_wp2_with fail
  refine (numbers_any ⟨qx, qy, qz⟩ _).mono ?_
  rintro e w1 ⟨rfl, rfl⟩
  go_wp2_with fail
  refine (numbers_any ⟨px, py, pz⟩ _).mono ?_
  rintro e w1 ⟨rfl, rfl⟩
  go_wp2_with fail
  by_cases h0 : px < qx
  · by_cases h1 : py < qy
    · by_cases h2 : pz < qz
      · refine wp_loop_rounds 4 ?_
        rw [rounds_succ]
        go_wp2
        rw [rounds_succ]
        go_wp2
        rw [rounds_succ]
        go_wp2
        rw [rounds_succ]
        go_wp2
        go_ret
        refine ⟨ret_bool (below_yes h0 h1 h2), ?_⟩
        repeat (first | exact Below.refl _ _ | refine below_grow _ (Nat.le_refl _) ?_ _)
      · refine wp_loop_rounds 4 ?_
        rw [rounds_succ]
        go_wp2
        rw [rounds_succ]
        go_wp2
        rw [rounds_succ]
        go_wp2
        go_ret
        refine ⟨ret_bool (below_no (.inr (.inr (by simp only; omega)))), ?_⟩
        repeat (first | exact Below.refl _ _ | refine below_grow _ (Nat.le_refl _) ?_ _)
    · refine wp_loop_rounds 4 ?_
      rw [rounds_succ]
      go_wp2
      rw [rounds_succ]
      go_wp2
      go_ret
      refine ⟨ret_bool (below_no (.inr (.inl (by simp only; omega)))), ?_⟩
      repeat (first | exact Below.refl _ _ | refine below_grow _ (Nat.le_refl _) ?_ _)
  · refine wp_loop_rounds 4 ?_
    rw [rounds_succ]
    go_wp2
    go_ret
    refine ⟨ret_bool (below_no (.inl (by simp only; omega))), ?_⟩
    repeat (first | exact Below.refl _ _ | refine below_grow _ (Nat.le_refl _) ?_ _)

set_option maxHeartbeats 3200000 in
theorem isOrdered_any (a : Bx) (w : World) :
    Calls Try.prog 90 #[bv a] w fun e w' => e = .returned (.bool (atMost a.lo a.hi)) ∧ Below w.heap.size w w' := by
  obtain ⟨px, py, pz, qx, qy, qz⟩ := a
  have hx := ix0 px py pz
  have hy := ix1 px py pz
  have hz := ix2 px py pz
  go_enter Try.func90, Try.ntmps90
  go_wp2_with fail
  refine (numbers_any ⟨qx, qy, qz⟩ _).mono ?_
  rintro e w1 ⟨rfl, rfl⟩
  go_wp2_with fail
  refine (numbers_any ⟨px, py, pz⟩ _).mono ?_
  rintro e w1 ⟨rfl, rfl⟩
  go_wp2_with fail
  by_cases h0 : px ≤ qx
  · by_cases h1 : py ≤ qy
    · by_cases h2 : pz ≤ qz
      · refine wp_loop_rounds 4 ?_
        rw [rounds_succ]
        go_wp2
        rw [rounds_succ]
        go_wp2
        rw [rounds_succ]
        go_wp2
        rw [rounds_succ]
        go_wp2
        go_ret
        refine ⟨ret_bool (atMost_yes h0 h1 h2), ?_⟩
        repeat (first | exact Below.refl _ _ | refine below_grow _ (Nat.le_refl _) ?_ _)
      · refine wp_loop_rounds 4 ?_
        rw [rounds_succ]
        go_wp2
        rw [rounds_succ]
        go_wp2
        rw [rounds_succ]
        go_wp2
        go_ret
        refine ⟨ret_bool (atMost_no (.inr (.inr (by simp only; omega)))), ?_⟩
        repeat (first | exact Below.refl _ _ | refine below_grow _ (Nat.le_refl _) ?_ _)
    · refine wp_loop_rounds 4 ?_
      rw [rounds_succ]
      go_wp2
      rw [rounds_succ]
      go_wp2
      go_ret
      refine ⟨ret_bool (atMost_no (.inr (.inl (by simp only; omega)))), ?_⟩
      repeat (first | exact Below.refl _ _ | refine below_grow _ (Nat.le_refl _) ?_ _)
  · refine wp_loop_rounds 4 ?_
    rw [rounds_succ]
    go_wp2
    go_ret
    refine ⟨ret_bool (atMost_no (.inl (by simp only; omega))), ?_⟩
    repeat (first | exact Below.refl _ _ | refine below_grow _ (Nat.le_refl _) ?_ _)

set_option maxHeartbeats 6400000 in
theorem isNear_any (b c : Nat) (ps : List Pt) (w : World) (hP : Pts w b ps) (hl : ps.length ≤ 100) :
    Calls Try.prog 73 #[.slice (some ⟨b, 0, none⟩) ps.length c] w fun e w' => e = .returned (.bool (ps.all nearP)) ∧ Below w.heap.size w w' := by
  have HP : Hid (Pts w b ps) := hP
  clear hP
  go_enter Try.func73, Try.ntmps73
  go_wp2
  go_loopw [9] (fun i wr => ∃ k : Nat, k ≤ ps.length ∧ i = .int .i64 k ∧ (∀ p ∈ ps.take k, nearP p = true) ∧ Below w.heap.size w wr) (fun i _ => ps.length - (intOf i).toNat)
  case atStart => exact ⟨0, Nat.zero_le _, rfl, (fun f hf => by simp at hf), Below.refl _ _⟩
  case round =>
    obtain ⟨k, hk, rfl, hok, hb⟩ := hrel
    obtain ⟨w1, rfl⟩ : ∃ w1, w1 = wr := ⟨_, rfl⟩
    have HB : Hid (Below w.heap.size w w1) := hb
    have HO : Hid (∀ p ∈ ps.take k, nearP p = true) := hok
    clear hb hok
    by_cases hlt : k < ps.length
    · obtain ⟨c0, c1, c2⟩ := HP.out.next HB.out k hlt
      have HX : Hid (∀ p, nearP (ps[k]'hlt) = p → (p = false → ps.all nearP = false) ∧ (p = true → ∀ q ∈ ps.take (k + 1), nearP q = true)) := by
        show ∀ p, _
        rintro p rfl
        refine ⟨fun h => ?_, fun h => ?_⟩
        · rw [List.all_eq_false]; exact ⟨_, List.getElem_mem hlt, by simp [h]⟩
        · rw [List.take_succ_eq_append_getElem hlt]
          intro f hf
          rcases List.mem_append.1 hf with hf | hf
          · exact HO.out f hf
          · simp at hf; subst hf; exact h
      generalize ps[k]'hlt = p at *
      obtain ⟨px, py, pz⟩ := p
      simp only at c0 c1 c2
      have hx := ix0 px py pz
      have hy := ix1 px py pz
      have hz := ix2 px py pz
      go_wp2_with fail
      refine (numbers_any ⟨px, py, pz⟩ _).mono ?_
      rintro e w2 ⟨rfl, rfl⟩
      have HB2 : Hid (Below w.heap.size w (((w1.alloc (.cells #[.int .i64 px, .int .i64 py, .int .i64 pz] 24)).alloc (.cells #[.int .i64 px, .int .i64 py, .int .i64 pz] 24)).alloc (.cells #[.int .i64 px, .int .i64 py, .int .i64 pz] 67))) := by
        refine below_grow _ (Nat.le_refl _) (below_grow _ (Nat.le_refl _) (below_grow _ (Nat.le_refl _) HB.out _) _) _
      go_wp2_with fail
      by_cases lpx : px < -10000000
      · have Hn : Hid (nr px = false) := nr_no (.inl lpx)
        have tpx : decide (px < -10000000) = true := decide_eq_true lpx
        refine wp_loop_rounds 4 ?_
        rw [rounds_succ]
        go_wp2
        go_ret
        exact ⟨ret_bool ((HX.out _ rfl).1 (nearP_no (.inl Hn.out))).symm, HB2.out⟩
      by_cases gpx : 10000000 < px
      · have Hn : Hid (nr px = false) := nr_no (.inr gpx)
        have tpx : decide (px < -10000000) = false := decide_eq_false lpx
        have spx : decide (10000000 < px) = true := decide_eq_true gpx
        refine wp_loop_rounds 4 ?_
        rw [rounds_succ]
        go_wp2
        go_ret
        exact ⟨ret_bool ((HX.out _ rfl).1 (nearP_no (.inl Hn.out))).symm, HB2.out⟩
      have Hpx : Hid (nr px = true) := nr_yes (by omega) (by omega)
      have tpx : decide (px < -10000000) = false := decide_eq_false lpx
      have spx : decide (10000000 < px) = false := decide_eq_false gpx
      by_cases lpy : py < -10000000
      · have Hn : Hid (nr py = false) := nr_no (.inl lpy)
        have tpy : decide (py < -10000000) = true := decide_eq_true lpy
        refine wp_loop_rounds 4 ?_
        rw [rounds_succ]
        go_wp2
        rw [rounds_succ]
        go_wp2
        go_ret
        exact ⟨ret_bool ((HX.out _ rfl).1 (nearP_no (.inr (.inl Hn.out)))).symm, HB2.out⟩
      by_cases gpy : 10000000 < py
      · have Hn : Hid (nr py = false) := nr_no (.inr gpy)
        have tpy : decide (py < -10000000) = false := decide_eq_false lpy
        have spy : decide (10000000 < py) = true := decide_eq_true gpy
        refine wp_loop_rounds 4 ?_
        rw [rounds_succ]
        go_wp2
        rw [rounds_succ]
        go_wp2
        go_ret
        exact ⟨ret_bool ((HX.out _ rfl).1 (nearP_no (.inr (.inl Hn.out)))).symm, HB2.out⟩
      have Hpy : Hid (nr py = true) := nr_yes (by omega) (by omega)
      have tpy : decide (py < -10000000) = false := decide_eq_false lpy
      have spy : decide (10000000 < py) = false := decide_eq_false gpy
      by_cases lpz : pz < -10000000
      · have Hn : Hid (nr pz = false) := nr_no (.inl lpz)
        have tpz : decide (pz < -10000000) = true := decide_eq_true lpz
        refine wp_loop_rounds 4 ?_
        rw [rounds_succ]
        go_wp2
        rw [rounds_succ]
        go_wp2
        rw [rounds_succ]
        go_wp2
        go_ret
        exact ⟨ret_bool ((HX.out _ rfl).1 (nearP_no (.inr (.inr Hn.out)))).symm, HB2.out⟩
      by_cases gpz : 10000000 < pz
      · have Hn : Hid (nr pz = false) := nr_no (.inr gpz)
        have tpz : decide (pz < -10000000) = false := decide_eq_false lpz
        have spz : decide (10000000 < pz) = true := decide_eq_true gpz
        refine wp_loop_rounds 4 ?_
        rw [rounds_succ]
        go_wp2
        rw [rounds_succ]
        go_wp2
        rw [rounds_succ]
        go_wp2
        go_ret
        exact ⟨ret_bool ((HX.out _ rfl).1 (nearP_no (.inr (.inr Hn.out)))).symm, HB2.out⟩
      have Hpz : Hid (nr pz = true) := nr_yes (by omega) (by omega)
      have tpz : decide (pz < -10000000) = false := decide_eq_false lpz
      have spz : decide (10000000 < pz) = false := decide_eq_false gpz
      refine wp_loop_rounds 4 ?_
      rw [rounds_succ]
      go_wp2
      rw [rounds_succ]
      go_wp2
      rw [rounds_succ]
      go_wp2
      rw [rounds_succ]
      go_wp2
      go_roundw
      case rel => exact ⟨k + 1, by omega, by go_num, (HX.out _ rfl).2 (by simp [nearP, Hpx.out, Hpy.out, Hpz.out]), HB2.out⟩
      case measure => simp [intOf]; omega
    · go_wp2
      go_ret
      exact ⟨ret_bool (by symm; rw [List.all_eq_true]; intro p hp; exact HO.out p (by rw [List.take_of_length_le (by omega)]; exact hp)), HB.out⟩

end Go.Proofs.Ytgelbndbkmedlaa.S

/- refusal walked. -/
namespace Go.Proofs.Ytgelbndbkmedlaa.S
open Go.RowKit
abbrev bo (a : Bx) : Obj := .cells #[.int .i64 a.lx, .int .i64 a.ly, .int .i64 a.lz, .int .i64 a.hx, .int .i64 a.hy, .int .i64 a.hz] 26
abbrev bp (a : Bx) : Obj := .cells #[.int .i64 a.lx, .int .i64 a.ly, .int .i64 a.lz, .int .i64 a.hx, .int .i64 a.hy, .int .i64 a.hz] 24
abbrev po (p : Pt) : Obj := .cells #[.int .i64 p.x, .int .i64 p.y, .int .i64 p.z] 24
/-- Both ends of a box. -/
theorem near2 (a : Bx) (W : World) (n : Nat) (hn : n = W.heap.size) : Calls Try.prog 73 #[.slice (some ⟨n, 0, none⟩) 2 2] (W.alloc (bp a)) fun e w' => e = .returned (.bool (nearB a)) ∧ Below (W.alloc (bp a)).heap.size (W.alloc (bp a)) w' := by
  subst hn
  exact (isNear_any W.heap.size 2 [a.lo, a.hi] _ (Pts.two W a.lo a.hi) (by simp)).mono fun e w' ⟨he, hb⟩ => ⟨by rw [he]; exact ret_bool (by simp [nearB]), hb⟩
/-- A point. -/
theorem near1 (p : Pt) (W : World) (n : Nat) (hn : n = W.heap.size) : Calls Try.prog 73 #[.slice (some ⟨n, 0, none⟩) 1 1] (W.alloc (po p)) fun e w' => e = .returned (.bool (nearP p)) ∧ Below (W.alloc (po p)).heap.size (W.alloc (po p)) w' := by
  subst hn
  exact (isNear_any W.heap.size 1 [p] _ (Pts.one W p) (by simp)).mono fun e w' ⟨he, hb⟩ => ⟨by rw [he]; exact ret_bool (by simp), hb⟩

set_option maxHeartbeats 3200000 in
theorem refusal_any (ao : Option Addr) (cap : Nat) (l : List Bx) (w : World) (hL : Bxs w ao l) (hl : l.length ≤ 100) :
    Calls Try.prog 72 #[.slice ao l.length cap] w fun e w' => e = .returned (.int .i64 (badL l)) ∧ Below w.heap.size w w' := by
  have HL : Hid (Bxs w ao l) := hL
  clear hL
  go_enter Try.func72, Try.ntmps72
  go_wp2
  go_loopw [7] (fun i wr => ∃ k : Nat, k ≤ l.length ∧ i = .int .i64 k ∧ (∀ b ∈ l.take k, bad1 b = 0) ∧ Below w.heap.size w wr) (fun i _ => l.length - (intOf i).toNat)
  case atStart => exact ⟨0, Nat.zero_le _, rfl, (fun f hf => by simp at hf), Below.refl _ _⟩
  case round =>
    obtain ⟨k, hk, rfl, hok, hb⟩ := hrel
    obtain ⟨w1, rfl⟩ : ∃ w1, w1 = wr := ⟨_, rfl⟩
    have HB : Hid (Below w.heap.size w w1) := hb
    have HO : Hid (∀ b ∈ l.take k, bad1 b = 0) := hok
    clear hb hok
    by_cases hlt : k < l.length
    · obtain ⟨b, off, rfl, hbx⟩ := (HL.out.next HB.out).at hlt
      have HHit : Hid (bad1 (l[k]'hlt) ≠ 0 → badL l = bad1 (l[k]'hlt)) := badL_at hlt HO.out
      have HMiss : Hid (bad1 (l[k]'hlt) = 0 → ∀ b ∈ l.take (k + 1), bad1 b = 0) := take_succ_all hlt HO.out
      generalize l[k]'hlt = a at *
      obtain ⟨_, c0, c1, c2, c3, c4, c5⟩ := hbx
      have HB2 : Hid (Below w.heap.size w ((w1.alloc (bo a)).alloc (bp a))) :=
        below_grow _ (Nat.le_refl _) (below_grow _ (Nat.le_refl _) HB.out _) _
      cases hn : nearB a with
      | false =>
        have HBad : Hid (bad1 a = 2) := bad1_far hn
        go_wp2_with fail
        refine (near2 a (w1.alloc (bo a)) (w1.heap.size + 1) (by simp)).mono ?_
        rintro e w2 ⟨rfl, hb2⟩
        rw [hn]
        go_wp2
        go_ret
        exact ⟨ret_int (by rw [HHit.out (by rw [HBad.out]; decide), HBad.out]), HB2.out.trans (hb2.mono HB2.out.size)⟩
      | true =>
        go_wp2_with fail
        refine (near2 a (w1.alloc (bo a)) (w1.heap.size + 1) (by simp)).mono ?_
        rintro e w2 ⟨rfl, hb2⟩
        rw [hn]
        have HB3 : Hid (Below w.heap.size w w2) := HB2.out.trans (hb2.mono HB2.out.size)
        have e0 : w2.cell? ⟨w1.heap.size, 0, none⟩ = some (.int .i64 a.lx) := cell_later hb2 (by go_simp)
        have e1 : w2.cell? ⟨w1.heap.size, 1, none⟩ = some (.int .i64 a.ly) := cell_later hb2 (by go_simp)
        have e2 : w2.cell? ⟨w1.heap.size, 2, none⟩ = some (.int .i64 a.lz) := cell_later hb2 (by go_simp)
        have e3 : w2.cell? ⟨w1.heap.size, 3, none⟩ = some (.int .i64 a.hx) := cell_later hb2 (by go_simp)
        have e4 : w2.cell? ⟨w1.heap.size, 4, none⟩ = some (.int .i64 a.hy) := cell_later hb2 (by go_simp)
        have e5 : w2.cell? ⟨w1.heap.size, 5, none⟩ = some (.int .i64 a.hz) := cell_later hb2 (by go_simp)
        clear hb2 c0 c1 c2 c3 c4 c5
        cases ho : atMost a.lo a.hi with
        | false =>
          have HBad : Hid (bad1 a = 1) := bad1_form hn ho
          go_wp2_with fail
          refine (isOrdered_any a _).mono ?_
          rintro e w3 ⟨rfl, hb3⟩
          rw [ho]
          go_wp2
          go_ret
          exact ⟨ret_int (by rw [HHit.out (by rw [HBad.out]; decide), HBad.out]), HB3.out.trans (hb3.mono HB3.out.size)⟩
        | true =>
          have HBad : Hid (bad1 a = 0) := bad1_ok.2 ⟨hn, ho⟩
          go_wp2_with fail
          refine (isOrdered_any a _).mono ?_
          rintro e w3 ⟨rfl, hb3⟩
          rw [ho]
          go_wp2
          go_roundw
          case rel => exact ⟨k + 1, by omega, by go_num, HMiss.out HBad.out, HB3.out.trans (hb3.mono HB3.out.size)⟩
          case measure => simp [intOf]; omega
    · go_wp2
      go_ret
      exact ⟨ret_int (badL_zero.2 fun b hb => HO.out b (by rw [List.take_of_length_le (by omega)]; exact hb)).symm, HB.out⟩
/-- One box, or two, in a slice of the call's own. -/
theorem refusal1 (a : Bx) (W : World) (n : Nat) (hn : n = W.heap.size) : Calls Try.prog 72 #[.slice (some ⟨n, 0, none⟩) 1 1] (W.alloc (bo a)) fun e w' => e = .returned (.int .i64 (bad1 a)) ∧ Below (W.alloc (bo a)).heap.size (W.alloc (bo a)) w' := by
  subst hn
  exact (refusal_any _ 1 [a] _ (Bxs.one W a) (by simp)).mono fun e w' ⟨he, hb⟩ => ⟨by rw [he, badL_one], hb⟩
abbrev bo2 (a b : Bx) : Obj := .cells #[.int .i64 a.lx, .int .i64 a.ly, .int .i64 a.lz, .int .i64 a.hx, .int .i64 a.hy, .int .i64 a.hz, .int .i64 b.lx, .int .i64 b.ly, .int .i64 b.lz, .int .i64 b.hx, .int .i64 b.hy, .int .i64 b.hz] 26
theorem refusal2 (a b : Bx) (W : World) (n : Nat) (hn : n = W.heap.size) : Calls Try.prog 72 #[.slice (some ⟨n, 0, none⟩) 2 2] (W.alloc (bo2 a b)) fun e w' => e = .returned (.int .i64 (badL [a, b])) ∧ Below (W.alloc (bo2 a b)).heap.size (W.alloc (bo2 a b)) w' := by
  subst hn
  exact refusal_any _ 2 [a, b] _ (Bxs.two W a b) (by simp)

end Go.Proofs.Ytgelbndbkmedlaa.S

/- Regions that draw their order, with stores. -/
namespace Go.Proofs.Ytgelbndbkmedlaa
open Go.RowKit
def coversB (ops : Array Oper) : Nat → Nat → Nat → Bool
  | 0, _, _ => false
  | n + 1, i, j => match ops[i]? with
    | none => false
    | some o => o.after.any fun e => Region.binds .any e && (e.on == j || coversB ops n e.on j)
/-- Each operation from k on waits for all ahead of it. -/
def seqB (ops : Array Oper) (k : Nat) : Bool := (List.range ops.size).all fun i => decide (i < k) || (List.range i).all fun j => coversB ops ops.size i j
def Closed (ops : Array Oper) (listed : Array Bool) : Prop := ∀ (i : Nat) (o : Oper), ops[i]? = some o → listed[i]? = some true → ∀ e ∈ o.after, Region.binds .any e = true → listed[e.on]? = some true
theorem getD_listed {listed : Array Bool} {i : Nat} (h : listed.getD i false = true) : listed[i]? = some true := by
  rw [Array.getD_eq_getD_getElem?] at h
  cases e : listed[i]? with
  | none => rw [e] at h; simp at h
  | some b => rw [e] at h; simp at h; rw [h]
theorem covers_listed {ops : Array Oper} {listed : Array Bool} (hc : Closed ops listed) : ∀ (n i j : Nat), (∀ o, ops[i]? = some o → ∀ e ∈ o.after, Region.binds .any e = true → listed[e.on]? = some true) → coversB ops n i j = true → listed[j]? = some true := by
  intro n
  induction n with
  | zero => intro i j _ h; simp [coversB] at h
  | succ n ih =>
    intro i j hp h
    unfold coversB at h
    cases ho : ops[i]? with
    | none => rw [ho] at h; simp at h
    | some o =>
      rw [ho] at h
      obtain ⟨e, he, h2⟩ := Array.any_eq_true'.1 h
      simp only [Bool.and_eq_true, Bool.or_eq_true, beq_iff_eq] at h2
      have hl := hp o ho e he h2.1
      rcases h2.2 with e2 | h3
      · rw [← e2]; exact hl
      · exact ih e.on j (fun o' ho' => hc e.on o' ho' hl) h3

section
variable {P : Program} {Q : Exit → Act → World → Prop} {a : Act} {m : List Bool} {V : Nat → Value → World → Prop} {w0 : World} {ops : Array Oper} {plan : Plan} {k : Nat}
theorem ready_pre {listed : Array Bool} {i : Nat} (hi : i ∈ Region.ready .any ops listed) : i < ops.size ∧ listed.getD i true = false ∧ ∀ o, ops[i]? = some o → ∀ e ∈ o.after, Region.binds .any e = true → listed[e.on]? = some true := by
  simp only [Region.ready, List.mem_filter, List.mem_range, Bool.and_eq_true] at hi
  obtain ⟨hlt, hun, hpre⟩ := hi
  refine ⟨hlt, by simpa using hun, fun o ho e he hb => ?_⟩
  rw [ho] at hpre
  simp only [Option.map_some, Option.getD_some] at hpre
  have h4 := Array.all_eq_true'.1 hpre e he
  rw [hb] at h4
  simp only [Bool.not_true, Bool.false_or] at h4
  exact getD_listed h4
theorem closed_next {listed : Array Bool} (hc : Closed ops listed) {i : Nat} (hi : i ∈ Region.ready .any ops listed) : Closed ops (listed.setIfInBounds i true) := by
  obtain ⟨_, _, hp⟩ := ready_pre hi
  have key : ∀ j, listed[j]? = some true → (listed.setIfInBounds i true)[j]? = some true := fun j h => by
    rw [Array.getElem?_setIfInBounds]
    split
    · split
      · rfl
      · rename_i h1 h2; subst h1; rw [Array.getElem?_eq_none (by omega)] at h; cases h
    · exact h
  intro j o ho hl e he hb
  by_cases h : i = j
  · subst h; exact key _ (hp o ho e he hb)
  · rw [Array.getElem?_setIfInBounds, if_neg h] at hl
    exact key _ (hc j o ho hl e he hb)

/-- The step of an operation ahead of the stores. -/
theorem seq_step (hmono : ∀ d v w w', V d v w → Below w.heap.size w w' → V d v w') (hnd : nodupB (plan.map (·.1)) = true) (hall : planAll ops m a.tmps.size (ops.toList.take k) plan = true) (hob : Obls P Q a m V w0 (ops.toList.take k) plan)
    {listed : Array Bool} {i : Nat} (hik : i < k) (hsu : ∀ j, k ≤ j → listed[j]? ≠ some true) (hi : i ∈ Region.ready .any ops listed) {a' : Act} {w : World} (h : Inv a m V w0 ops listed a' w) :
    wpOp P ops Q i (fun a2 w2 => Inv a m V w0 ops (listed.setIfInBounds i true) a2 w2) a' w := by
  obtain ⟨hlt, hun, hpre⟩ := ready_pre hi
  obtain ⟨o, ho⟩ : ∃ o, ops[i]? = some o := ⟨ops[i], by simp [hlt]⟩
  have hpre := hpre o ho
  have hoL : (ops.toList.take k)[i]? = some o := by rw [List.getElem?_take, if_pos hik]; simpa using ho
  obtain ⟨p, hp, h1⟩ := planAll_at hall hoL
  have hO := obls_at hob hoL hp
  simp only [planOne, Bool.and_eq_true] at h1
  obtain ⟨⟨⟨⟨hd, hm⟩, hdn⟩, hps⟩, hg⟩ := h1
  have hd' : o.dst = some p.1 := by simpa using hd
  have hm' := getD_true hm
  obtain ⟨f, rfl, hb, hV⟩ := h
  have hav : ∀ l : List Nat, (∀ d ∈ l, d ∈ p.2.1) → AllV V f w l := by
    intro l
    induction l with
    | nil => intro _; trivial
    | cons d l ih =>
      intro hl
      refine ⟨?_, ih fun x hx => hl x (by simp [hx])⟩
      have h2 := List.all_eq_true.1 hps d (hl d (by simp))
      obtain ⟨e, he, h3⟩ := Array.any_eq_true'.1 h2
      simp only [Bool.and_eq_true] at h3
      have h5 : (ops[e.on]?).bind (·.dst) = some d := by simpa using h3.2
      obtain ⟨oe, hoe, hde⟩ := Option.bind_eq_some_iff.1 h5
      exact hV e.on oe d hoe hde (hpre e he h3.1)
  have hav := hav p.2.1 fun _ h => h
  have hfin : ∀ v w2, V p.1 v w2 → Below w.heap.size w w2 → Inv a m V w0 ops (listed.setIfInBounds i true) ((over a m f).put (some p.1) v) w2 := by
    intro v w2 hv hb2
    refine ⟨upd f p.1 v, over_put a m f p.1 v hm', hb.trans (hb2.mono hb.size), ?_⟩
    intro j oj d hj hdj hlj
    by_cases e : j = i
    · subst e
      rw [ho] at hj; cases hj
      rw [hd'] at hdj; cases hdj
      rw [upd_same]; exact hv
    · have hlj2 : listed[j]? = some true := by simpa [Array.getElem?_setIfInBounds, Ne.symm e] using hlj
      have hjk : j < k := by
        by_cases h : j < k
        · exact h
        · exact absurd hlj2 (hsu j (by omega))
      have hne : d ≠ p.1 := by
        intro e2; subst e2
        obtain ⟨pj, hpj, h1j⟩ := planAll_at hall (i := j) (o := oj) (by rw [List.getElem?_take, if_pos hjk]; simpa using hj)
        simp only [planOne, Bool.and_eq_true] at h1j
        have hdj2 : oj.dst = some pj.1 := by simpa using h1j.1.1.1.1
        rw [hdj] at hdj2
        refine e (nodup_at hnd (i := j) (j := i) (d := p.1) ?_ ?_)
        · simp only [List.getElem?_map, hpj, Option.map_some, Option.some.injEq]; exact (Option.some.inj hdj2).symm
        · simp only [List.getElem?_map, hp, Option.map_some]
      rw [upd_other hne]
      exact hmono _ _ _ _ (hV j oj d hj hdj hlj2) hb2
  have hDoes : Does P Q a m V o p.1 f w → o.wp P (over a m f) w (fun a2 w2 => Inv a m V w0 ops (listed.setIfInBounds i true) a2 w2) Q := fun hD =>
    hD _ fun a2 w2 ⟨v, hv, ha, hb2⟩ => by subst ha; exact hfin v w2 hv hb2
  have hO := hO f w hb hav
  unfold wpOp
  rw [ho]
  simp only
  cases hgo : o.guard with
  | none =>
    rw [hgo] at hg
    have hw : Region.wanted o (yielded ops (over a m f).tmps) = true := by simp [Region.wanted, hgo]
    rw [if_pos hw]
    cases hp2 : p.2.2 with
    | none => rw [hp2] at hO; exact .inl (hDoes hO)
    | some x => rw [hp2] at hg; simp at hg
  | some jb =>
    obtain ⟨j, b⟩ := jb
    rw [hgo] at hg
    cases hp2 : p.2.2 with
    | none => rw [hp2] at hg; simp at hg
    | some sb =>
      obtain ⟨s, b'⟩ := sb
      rw [hp2] at hg hO
      simp only [Bool.and_eq_true] at hg
      obtain ⟨⟨⟨hs, hbb⟩, hms⟩, hsn⟩ := hg
      have hbb : b = b' := by simpa using hbb
      subst hbb
      have hs : (ops[j]?).bind (·.dst) = some s := by simpa using hs
      have hgs : (over a m f).tmps[s]? = some (f s) := by
        have := overL_at f m 0 s a.tmps.toList (getD_true hms) (by simpa using hsn)
        simpa [over] using this
      have hy : yielded ops (over a m f).tmps j = match f s with | .bool x => some x | _ => none := by
        unfold yielded
        rw [hs]
        simp only [Option.bind_some, hgs]
        cases f s <;> rfl
      by_cases hw : f s = .bool b
      · have : Region.wanted o (yielded ops (over a m f).tmps) = true := by simp [Region.wanted, hgo, hy, hw]
        rw [if_pos this]
        exact .inl (hDoes (hO.1 hw))
      · have : ¬ Region.wanted o (yielded ops (over a m f).tmps) = true := by
          simp only [Region.wanted, hgo, hy, beq_iff_eq]
          cases e : f s <;> simp
          rename_i x
          intro e2; subst e2; exact hw e
        rw [if_neg this, hd']
        exact hfin _ _ (hO.2 hw) (Below.refl _ _)

/-- Where the region stands. -/
def St (P : Program) (Q : Exit → Act → World → Prop) (a : Act) (m : List Bool) (V : Nat → Value → World → Prop) (w0 : World) (ops : Array Oper) (k : Nat) (listed : Array Bool) (a' : Act) (w : World) : Prop :=
  Closed ops listed ∧ (((∀ j, k ≤ j → listed[j]? ≠ some true) ∧ Inv a m V w0 ops listed a' w) ∨ ∃ i, k ≤ i ∧ (∀ j, j < ops.size → (listed[j]? = some true ↔ j < i)) ∧ wpList P ops Q (ops.toList.drop i) a' w)

theorem seq_any (hmono : ∀ d v w w', V d v w → Below w.heap.size w w' → V d v w') (hback : backB 0 ops.toList = true) (hnd : nodupB (plan.map (·.1)) = true) (hall : planAll ops m a.tmps.size (ops.toList.take k) plan = true) (hseq : seqB ops k = true) (hk : k ≤ ops.size)
    (hob : Obls P Q a m V w0 (ops.toList.take k) plan) (hsuf : ∀ f w, Below w0.heap.size w0 w → AllP V f w plan → wpList P ops Q (ops.toList.drop k) (over a m f) w) :
    ∀ (fuel : Nat) (listed : Array Bool) (a' : Act) (w : World), listed.size = ops.size → listed.toList.count false ≤ fuel → St P Q a m V w0 ops k listed a' w → wpAny P .any ops Q fuel listed a' w := by
  have hcov : ∀ {listed : Array Bool}, Closed ops listed → ∀ {i : Nat}, i ∈ Region.ready .any ops listed → k ≤ i → ∀ j, j < i → listed[j]? = some true := by
    intro listed hc i hi hki j hj
    obtain ⟨hlt, _, hp⟩ := ready_pre hi
    unfold seqB at hseq
    have h1 := List.all_eq_true.1 hseq i (by simpa using hlt)
    rw [Bool.or_eq_true] at h1
    rcases h1 with h1 | h1
    · simp at h1; omega
    · exact covers_listed hc _ i j hp (List.all_eq_true.1 h1 j (by simpa using hj))
  have htoSuf : ∀ {listed : Array Bool} {a' : Act} {w : World}, Inv a m V w0 ops listed a' w → (∀ j, j < k → listed[j]? = some true) → wpList P ops Q (ops.toList.drop k) a' w := by
    rintro listed a' w ⟨f, rfl, hb, hV⟩ hl
    refine hsuf f w hb (allP_of hall fun i o d ho hd => ?_)
    have hik : i < k := by
      by_cases h : i < k
      · exact h
      · rw [List.getElem?_take, if_neg h] at ho; cases ho
    rw [List.getElem?_take, if_pos hik] at ho
    exact hV i o d (by simpa using ho) hd (hl i hik)
  have hend : ∀ (listed : Array Bool) (a' : Act) (w : World), listed.size = ops.size → St P Q a m V w0 ops k listed a' w → Region.ready .any ops listed = [] → Q .normal a' w := by
    rintro listed a' w hsz ⟨_, h⟩ hr
    have hal := all_listed hback hsz hr
    rcases h with ⟨hs, hI⟩ | ⟨i, hki, hl, hw⟩
    · have hks : k = ops.size := by
        by_cases h : k < ops.size
        · exact absurd (hal k h) (hs k (Nat.le_refl _))
        · omega
      have := htoSuf hI fun j hj => hal j (by omega)
      rw [List.drop_eq_nil_of_le (by simp; omega)] at this
      exact this
    · have : ops.size ≤ i := by
        by_cases h : i < ops.size
        · have := (hl i h).1 (hal i h); omega
        · omega
      rw [List.drop_eq_nil_of_le (by simpa using this)] at hw
      exact hw
  have hstepL : ∀ {listed : Array Bool} {a' : Act} {w : World} {i : Nat}, i < ops.size → k ≤ i → (∀ j, j < ops.size → (listed[j]? = some true ↔ j < i)) → Closed ops (listed.setIfInBounds i true) → listed.size = ops.size → wpList P ops Q (ops.toList.drop i) a' w →
      wpOp P ops Q i (fun a2 w2 => St P Q a m V w0 ops k (listed.setIfInBounds i true) a2 w2) a' w := by
    intro listed a' w i hi hki hl hc hsz hw
    have hd : ops.toList.drop i = ops[i] :: ops.toList.drop (i + 1) := by
      rw [List.drop_eq_getElem_cons (by simpa using hi)]; simp
    have hnext : ∀ a2 w2, wpList P ops Q (ops.toList.drop (i + 1)) a2 w2 → St P Q a m V w0 ops k (listed.setIfInBounds i true) a2 w2 := fun a2 w2 h =>
      ⟨hc, .inr ⟨i + 1, by omega, fun j hj => by
        rw [Array.getElem?_setIfInBounds]
        by_cases e : i = j
        · subst e; rw [if_pos rfl, if_pos (by omega)]; simp
        · rw [if_neg e, hl j hj]; omega, h⟩⟩
    rw [hd] at hw
    unfold wpList at hw
    unfold wpOp
    rw [show ops[i]? = some ops[i] by simp [hi]]
    simp only
    split
    · rename_i hwn
      rw [if_pos hwn] at hw
      exact hw.imp (Oper.wp_mono hnext) id
    · rename_i hwn
      rw [if_neg hwn] at hw
      exact hnext _ _ hw
  intro fuel
  induction fuel with
  | zero =>
    intro listed a' w hsz hc hI
    have hr : Region.ready .any ops listed = [] := by
      rw [List.eq_nil_iff_forall_not_mem]
      intro i hi
      obtain ⟨hlt, h1, _⟩ := ready_pre hi
      have h0 : listed.toList.count false = 0 := by omega
      rw [List.count_eq_zero] at h0
      have hlt2 : i < listed.size := by omega
      simp only [Array.getD_eq_getD_getElem?, Array.getElem?_eq_getElem hlt2, Option.getD_some] at h1
      exact h0 (by rw [← h1]; simp)
    exact ⟨hr, hend listed a' w hsz hI hr⟩
  | succ fuel ih =>
    intro listed a' w hsz hc hI
    refine ⟨hend listed a' w hsz hI, fun i hi => ?_⟩
    have hrp := ready_pre hi
    have hlt2 : i < listed.size := by omega
    have h1 := hrp.2.1
    simp only [Array.getD_eq_getD_getElem?, Array.getElem?_eq_getElem hlt2, Option.getD_some] at h1
    have hcount : (listed.setIfInBounds i true).toList.count false ≤ fuel := by
      have hl : i < listed.toList.length := by simpa using hlt2
      have h2 : listed.toList[i] = false := by simpa using h1
      rw [Array.toList_setIfInBounds, List.count_set hl, h2]
      have hp : 0 < listed.toList.count false := List.count_pos_iff.2 (by rw [← h2]; exact List.getElem_mem _)
      rw [if_pos (by rfl), if_neg (by decide)]
      omega
    have hnl : listed[i]? ≠ some true := by rw [Array.getElem?_eq_getElem hlt2, h1]; simp
    refine wpOp_mono (K := fun a2 w2 => St P Q a m V w0 ops k (listed.setIfInBounds i true) a2 w2) (fun a2 w2 h2 => ih _ _ _ (by simpa using hsz) hcount h2) ?_
    obtain ⟨hcl, hS⟩ := hI
    have hcl2 := closed_next hcl hi
    rcases hS with ⟨hsu, hI⟩ | ⟨i0, hki, hl, hw⟩
    · by_cases hik : i < k
      · refine wpOp_mono (fun a2 w2 h2 => ⟨hcl2, .inl ⟨fun j hj => ?_, h2⟩⟩) (seq_step hmono hnd hall hob hik hsu hi hI)
        rw [Array.getElem?_setIfInBounds, if_neg (by omega)]
        exact hsu j hj
      · have hlow := hcov hcl hi (by omega)
        have he : i = k := by
          by_cases h : i = k
          · exact h
          · exact absurd (hlow k (by omega)) (hsu k (Nat.le_refl _))
        subst he
        refine hstepL hrp.1 (Nat.le_refl _) (fun j hj => ⟨fun h => ?_, fun h => hlow j h⟩) hcl2 hsz (htoSuf hI hlow)
        by_cases h2 : j < i
        · exact h2
        · exact absurd h (hsu j (by omega))
    · have hge : i0 ≤ i := by
        by_cases h : i < i0
        · exact absurd ((hl i hrp.1).2 h) hnl
        · omega
      have hlow := hcov hcl hi (by omega)
      have he : i = i0 := by
        by_cases h : i = i0
        · exact h
        · have := (hl i0 (by omega)).1 (hlow i0 (by omega)); omega
      subst he
      exact hstepL hrp.1 hki hl hcl2 hsz hw

/-- A region that draws its order and ends in stores. -/
theorem region_seq {id : Nat} (k : Nat) (m : List Bool) (plan : Plan) (V : Nat → Value → World → Prop) (hmix : P.follows .mixedOrders = true) (hback : backB 0 ops.toList = true) (hnd : nodupB (plan.map (·.1)) = true) (hall : planAll ops m a.tmps.size (ops.toList.take k) plan = true)
    (hseq : seqB ops k = true) (hk : k ≤ ops.size) (hmono : ∀ d v w w', V d v w → Below w.heap.size w w' → V d v w') (hob : Obls P Q a m V w0 (ops.toList.take k) plan)
    (hsuf : ∀ f w, Below w0.heap.size w0 w → AllP V f w plan → wpList P ops Q (ops.toList.drop k) (over a m f) w) : (Code.region id ops true).wp P Q a w0 := by
  refine wp_region_any hmix (seq_any hmono hback hnd hall hseq hk hob hsuf _ _ _ _ (by simp) (by simp) ⟨?_, .inl ⟨?_, fun k => (a.tmps.toList[k]?).getD undef, (over_start a m).symm, ⟨rfl, rfl, rfl, Nat.le_refl _, fun _ _ => rfl⟩, ?_⟩⟩)
  · intro i o _ h
    simp [Array.getElem?_replicate] at h
  · intro j _ h
    simp [Array.getElem?_replicate] at h
  · intro i o d _ _ h
    simp [Array.getElem?_replicate] at h
end
end Go.Proofs.Ytgelbndbkmedlaa

/- Regions that draw their order, with a word on all slots. -/
namespace Go.Proofs.Ytgelbndbkmedlaa.S
open Go.RowKit
section
variable (P : Program) (Q : Exit → Act → World → Prop) (a : Act) (m : List Bool) (V : Nat → Value → World → Prop) (J : (Nat → Value) → World → Prop) (w0 : World)
/-- What an operation must do, in whatever world it comes up. -/
def DoesJ (o : Oper) (d : Nat) (f : Nat → Value) (w : World) : Prop :=
  ∀ K : Act → World → Prop, (∀ a' w', (∃ v, V d v w' ∧ a' = (over a m f).put (some d) v ∧ Below w.heap.size w w' ∧ J (upd f d v) w') → K a' w') → o.wp P (over a m f) w K Q
def OblJ (o : Oper) (p : Nat × List Nat × Option (Nat × Bool)) : Prop :=
  ∀ f w, Below w0.heap.size w0 w → J f w → AllV V f w p.2.1 → match p.2.2 with
    | none => DoesJ P Q a m V J o p.1 f w
    | some (s, b) => (f s = .bool b → DoesJ P Q a m V J o p.1 f w) ∧ (f s ≠ .bool b → V p.1 undef w ∧ J (upd f p.1 undef) w)
def OblsJ : List Oper → Plan → Prop
  | o :: l, p :: q => OblJ P Q a m V J w0 o p ∧ OblsJ l q
  | _, _ => True
end
theorem oblsJ_at {P : Program} {Q : Exit → Act → World → Prop} {a : Act} {m : List Bool} {V : Nat → Value → World → Prop} {J : (Nat → Value) → World → Prop} {w0 : World} : ∀ {l : List Oper} {q : Plan}, OblsJ P Q a m V J w0 l q → ∀ {i : Nat} {o : Oper} {p}, l[i]? = some o → q[i]? = some p → OblJ P Q a m V J w0 o p
  | [], _, _, _, _, _, h, _ => by simp at h
  | _ :: _, [], _, _, _, _, _, h => by simp at h
  | o :: l, p :: q, h, 0, _, _, ho, hp => by simp at ho hp; subst ho; subst hp; exact h.1
  | o :: l, p :: q, h, i + 1, _, _, ho, hp => oblsJ_at h.2 (i := i) (by simpa using ho) (by simpa using hp)
/-- What holds while the region goes on. -/
def InvJ (a : Act) (m : List Bool) (V : Nat → Value → World → Prop) (J : (Nat → Value) → World → Prop) (w0 : World) (ops : Array Oper) (listed : Array Bool) (a' : Act) (w : World) : Prop :=
  ∃ f, a' = over a m f ∧ Below w0.heap.size w0 w ∧ J f w ∧ ∀ (i : Nat) (o : Oper) (d : Nat), ops[i]? = some o → o.dst = some d → listed[i]? = some true → V d (f d) w

section
variable {P : Program} {Q : Exit → Act → World → Prop} {a : Act} {m : List Bool} {V : Nat → Value → World → Prop} {J : (Nat → Value) → World → Prop} {w0 : World} {ops : Array Oper} {plan : Plan} {k : Nat}
/-- The step of an operation ahead of the stores. -/
theorem seqJ_step (hmono : ∀ d v w w', V d v w → Below w.heap.size w w' → V d v w') (hnd : nodupB (plan.map (·.1)) = true) (hall : planAll ops m a.tmps.size (ops.toList.take k) plan = true) (hob : OblsJ P Q a m V J w0 (ops.toList.take k) plan)
    {listed : Array Bool} {i : Nat} (hik : i < k) (hsu : ∀ j, k ≤ j → listed[j]? ≠ some true) (hi : i ∈ Region.ready .any ops listed) {a' : Act} {w : World} (h : InvJ a m V J w0 ops listed a' w) :
    wpOp P ops Q i (fun a2 w2 => InvJ a m V J w0 ops (listed.setIfInBounds i true) a2 w2) a' w := by
  obtain ⟨hlt, hun, hpre⟩ := ready_pre hi
  obtain ⟨o, ho⟩ : ∃ o, ops[i]? = some o := ⟨ops[i], by simp [hlt]⟩
  have hpre := hpre o ho
  have hoL : (ops.toList.take k)[i]? = some o := by rw [List.getElem?_take, if_pos hik]; simpa using ho
  obtain ⟨p, hp, h1⟩ := planAll_at hall hoL
  have hO := oblsJ_at hob hoL hp
  simp only [planOne, Bool.and_eq_true] at h1
  obtain ⟨⟨⟨⟨hd, hm⟩, hdn⟩, hps⟩, hg⟩ := h1
  have hd' : o.dst = some p.1 := by simpa using hd
  have hm' := getD_true hm
  obtain ⟨f, rfl, hb, hJ, hV⟩ := h
  have hav : ∀ l : List Nat, (∀ d ∈ l, d ∈ p.2.1) → AllV V f w l := by
    intro l
    induction l with
    | nil => intro _; trivial
    | cons d l ih =>
      intro hl
      refine ⟨?_, ih fun x hx => hl x (by simp [hx])⟩
      have h2 := List.all_eq_true.1 hps d (hl d (by simp))
      obtain ⟨e, he, h3⟩ := Array.any_eq_true'.1 h2
      simp only [Bool.and_eq_true] at h3
      have h5 : (ops[e.on]?).bind (·.dst) = some d := by simpa using h3.2
      obtain ⟨oe, hoe, hde⟩ := Option.bind_eq_some_iff.1 h5
      exact hV e.on oe d hoe hde (hpre e he h3.1)
  have hav := hav p.2.1 fun _ h => h
  have hfin : ∀ v w2, V p.1 v w2 → Below w.heap.size w w2 → J (upd f p.1 v) w2 → InvJ a m V J w0 ops (listed.setIfInBounds i true) ((over a m f).put (some p.1) v) w2 := by
    intro v w2 hv hb2 hj2
    refine ⟨upd f p.1 v, over_put a m f p.1 v hm', hb.trans (hb2.mono hb.size), hj2, ?_⟩
    intro j oj d hj hdj hlj
    by_cases e : j = i
    · subst e
      rw [ho] at hj; cases hj
      rw [hd'] at hdj; cases hdj
      rw [upd_same]; exact hv
    · have hlj2 : listed[j]? = some true := by simpa [Array.getElem?_setIfInBounds, Ne.symm e] using hlj
      have hjk : j < k := by
        by_cases h : j < k
        · exact h
        · exact absurd hlj2 (hsu j (by omega))
      have hne : d ≠ p.1 := by
        intro e2; subst e2
        obtain ⟨pj, hpj, h1j⟩ := planAll_at hall (i := j) (o := oj) (by rw [List.getElem?_take, if_pos hjk]; simpa using hj)
        simp only [planOne, Bool.and_eq_true] at h1j
        have hdj2 : oj.dst = some pj.1 := by simpa using h1j.1.1.1.1
        rw [hdj] at hdj2
        refine e (nodup_at hnd (i := j) (j := i) (d := p.1) ?_ ?_)
        · simp only [List.getElem?_map, hpj, Option.map_some, Option.some.injEq]; exact (Option.some.inj hdj2).symm
        · simp only [List.getElem?_map, hp, Option.map_some]
      rw [upd_other hne]
      exact hmono _ _ _ _ (hV j oj d hj hdj hlj2) hb2
  have hDoes : DoesJ P Q a m V J o p.1 f w → o.wp P (over a m f) w (fun a2 w2 => InvJ a m V J w0 ops (listed.setIfInBounds i true) a2 w2) Q := fun hD =>
    hD _ fun a2 w2 ⟨v, hv, ha, hb2, hj2⟩ => by subst ha; exact hfin v w2 hv hb2 hj2
  have hO := hO f w hb hJ hav
  unfold wpOp
  rw [ho]
  simp only
  cases hgo : o.guard with
  | none =>
    rw [hgo] at hg
    have hw : Region.wanted o (yielded ops (over a m f).tmps) = true := by simp [Region.wanted, hgo]
    rw [if_pos hw]
    cases hp2 : p.2.2 with
    | none => rw [hp2] at hO; exact .inl (hDoes hO)
    | some x => rw [hp2] at hg; simp at hg
  | some jb =>
    obtain ⟨j, b⟩ := jb
    rw [hgo] at hg
    cases hp2 : p.2.2 with
    | none => rw [hp2] at hg; simp at hg
    | some sb =>
      obtain ⟨s, b'⟩ := sb
      rw [hp2] at hg hO
      simp only [Bool.and_eq_true] at hg
      obtain ⟨⟨⟨hs, hbb⟩, hms⟩, hsn⟩ := hg
      have hbb : b = b' := by simpa using hbb
      subst hbb
      have hs : (ops[j]?).bind (·.dst) = some s := by simpa using hs
      have hgs : (over a m f).tmps[s]? = some (f s) := by
        have := overL_at f m 0 s a.tmps.toList (getD_true hms) (by simpa using hsn)
        simpa [over] using this
      have hy : yielded ops (over a m f).tmps j = match f s with | .bool x => some x | _ => none := by
        unfold yielded
        rw [hs]
        simp only [Option.bind_some, hgs]
        cases f s <;> rfl
      by_cases hw : f s = .bool b
      · have : Region.wanted o (yielded ops (over a m f).tmps) = true := by simp [Region.wanted, hgo, hy, hw]
        rw [if_pos this]
        exact .inl (hDoes (hO.1 hw))
      · have : ¬ Region.wanted o (yielded ops (over a m f).tmps) = true := by
          simp only [Region.wanted, hgo, hy, beq_iff_eq]
          cases e : f s <;> simp
          rename_i x
          intro e2; subst e2; exact hw e
        rw [if_neg this, hd']
        exact hfin _ _ (hO.2 hw).1 (Below.refl _ _) (hO.2 hw).2

/-- Where the region stands. -/
def StJ (P : Program) (Q : Exit → Act → World → Prop) (a : Act) (m : List Bool) (V : Nat → Value → World → Prop) (J : (Nat → Value) → World → Prop) (w0 : World) (ops : Array Oper) (k : Nat) (listed : Array Bool) (a' : Act) (w : World) : Prop :=
  Closed ops listed ∧ (((∀ j, k ≤ j → listed[j]? ≠ some true) ∧ InvJ a m V J w0 ops listed a' w) ∨ ∃ i, k ≤ i ∧ (∀ j, j < ops.size → (listed[j]? = some true ↔ j < i)) ∧ wpList P ops Q (ops.toList.drop i) a' w)

theorem seqJ_any (hmono : ∀ d v w w', V d v w → Below w.heap.size w w' → V d v w') (hback : backB 0 ops.toList = true) (hnd : nodupB (plan.map (·.1)) = true) (hall : planAll ops m a.tmps.size (ops.toList.take k) plan = true) (hseq : seqB ops k = true) (hk : k ≤ ops.size)
    (hob : OblsJ P Q a m V J w0 (ops.toList.take k) plan) (hsuf : ∀ f w, Below w0.heap.size w0 w → J f w → AllP V f w plan → wpList P ops Q (ops.toList.drop k) (over a m f) w) :
    ∀ (fuel : Nat) (listed : Array Bool) (a' : Act) (w : World), listed.size = ops.size → listed.toList.count false ≤ fuel → StJ P Q a m V J w0 ops k listed a' w → wpAny P .any ops Q fuel listed a' w := by
  have hcov : ∀ {listed : Array Bool}, Closed ops listed → ∀ {i : Nat}, i ∈ Region.ready .any ops listed → k ≤ i → ∀ j, j < i → listed[j]? = some true := by
    intro listed hc i hi hki j hj
    obtain ⟨hlt, _, hp⟩ := ready_pre hi
    unfold seqB at hseq
    have h1 := List.all_eq_true.1 hseq i (by simpa using hlt)
    rw [Bool.or_eq_true] at h1
    rcases h1 with h1 | h1
    · simp at h1; omega
    · exact covers_listed hc _ i j hp (List.all_eq_true.1 h1 j (by simpa using hj))
  have htoSuf : ∀ {listed : Array Bool} {a' : Act} {w : World}, InvJ a m V J w0 ops listed a' w → (∀ j, j < k → listed[j]? = some true) → wpList P ops Q (ops.toList.drop k) a' w := by
    rintro listed a' w ⟨f, rfl, hb, hJ, hV⟩ hl
    refine hsuf f w hb hJ (allP_of hall fun i o d ho hd => ?_)
    have hik : i < k := by
      by_cases h : i < k
      · exact h
      · rw [List.getElem?_take, if_neg h] at ho; cases ho
    rw [List.getElem?_take, if_pos hik] at ho
    exact hV i o d (by simpa using ho) hd (hl i hik)
  have hend : ∀ (listed : Array Bool) (a' : Act) (w : World), listed.size = ops.size → StJ P Q a m V J w0 ops k listed a' w → Region.ready .any ops listed = [] → Q .normal a' w := by
    rintro listed a' w hsz ⟨_, h⟩ hr
    have hal := all_listed hback hsz hr
    rcases h with ⟨hs, hI⟩ | ⟨i, hki, hl, hw⟩
    · have hks : k = ops.size := by
        by_cases h : k < ops.size
        · exact absurd (hal k h) (hs k (Nat.le_refl _))
        · omega
      have := htoSuf hI fun j hj => hal j (by omega)
      rw [List.drop_eq_nil_of_le (by simp; omega)] at this
      exact this
    · have : ops.size ≤ i := by
        by_cases h : i < ops.size
        · have := (hl i h).1 (hal i h); omega
        · omega
      rw [List.drop_eq_nil_of_le (by simpa using this)] at hw
      exact hw
  have hstepL : ∀ {listed : Array Bool} {a' : Act} {w : World} {i : Nat}, i < ops.size → k ≤ i → (∀ j, j < ops.size → (listed[j]? = some true ↔ j < i)) → Closed ops (listed.setIfInBounds i true) → listed.size = ops.size → wpList P ops Q (ops.toList.drop i) a' w →
      wpOp P ops Q i (fun a2 w2 => StJ P Q a m V J w0 ops k (listed.setIfInBounds i true) a2 w2) a' w := by
    intro listed a' w i hi hki hl hc hsz hw
    have hd : ops.toList.drop i = ops[i] :: ops.toList.drop (i + 1) := by
      rw [List.drop_eq_getElem_cons (by simpa using hi)]; simp
    have hnext : ∀ a2 w2, wpList P ops Q (ops.toList.drop (i + 1)) a2 w2 → StJ P Q a m V J w0 ops k (listed.setIfInBounds i true) a2 w2 := fun a2 w2 h =>
      ⟨hc, .inr ⟨i + 1, by omega, fun j hj => by
        rw [Array.getElem?_setIfInBounds]
        by_cases e : i = j
        · subst e; rw [if_pos rfl, if_pos (by omega)]; simp
        · rw [if_neg e, hl j hj]; omega, h⟩⟩
    rw [hd] at hw
    unfold wpList at hw
    unfold wpOp
    rw [show ops[i]? = some ops[i] by simp [hi]]
    simp only
    split
    · rename_i hwn
      rw [if_pos hwn] at hw
      exact hw.imp (Oper.wp_mono hnext) id
    · rename_i hwn
      rw [if_neg hwn] at hw
      exact hnext _ _ hw
  intro fuel
  induction fuel with
  | zero =>
    intro listed a' w hsz hc hI
    have hr : Region.ready .any ops listed = [] := by
      rw [List.eq_nil_iff_forall_not_mem]
      intro i hi
      obtain ⟨hlt, h1, _⟩ := ready_pre hi
      have h0 : listed.toList.count false = 0 := by omega
      rw [List.count_eq_zero] at h0
      have hlt2 : i < listed.size := by omega
      simp only [Array.getD_eq_getD_getElem?, Array.getElem?_eq_getElem hlt2, Option.getD_some] at h1
      exact h0 (by rw [← h1]; simp)
    exact ⟨hr, hend listed a' w hsz hI hr⟩
  | succ fuel ih =>
    intro listed a' w hsz hc hI
    refine ⟨hend listed a' w hsz hI, fun i hi => ?_⟩
    have hrp := ready_pre hi
    have hlt2 : i < listed.size := by omega
    have h1 := hrp.2.1
    simp only [Array.getD_eq_getD_getElem?, Array.getElem?_eq_getElem hlt2, Option.getD_some] at h1
    have hcount : (listed.setIfInBounds i true).toList.count false ≤ fuel := by
      have hl : i < listed.toList.length := by simpa using hlt2
      have h2 : listed.toList[i] = false := by simpa using h1
      rw [Array.toList_setIfInBounds, List.count_set hl, h2]
      have hp : 0 < listed.toList.count false := List.count_pos_iff.2 (by rw [← h2]; exact List.getElem_mem _)
      rw [if_pos (by rfl), if_neg (by decide)]
      omega
    have hnl : listed[i]? ≠ some true := by rw [Array.getElem?_eq_getElem hlt2, h1]; simp
    refine wpOp_mono (K := fun a2 w2 => StJ P Q a m V J w0 ops k (listed.setIfInBounds i true) a2 w2) (fun a2 w2 h2 => ih _ _ _ (by simpa using hsz) hcount h2) ?_
    obtain ⟨hcl, hS⟩ := hI
    have hcl2 := closed_next hcl hi
    rcases hS with ⟨hsu, hI⟩ | ⟨i0, hki, hl, hw⟩
    · by_cases hik : i < k
      · refine wpOp_mono (fun a2 w2 h2 => ⟨hcl2, .inl ⟨fun j hj => ?_, h2⟩⟩) (seqJ_step hmono hnd hall hob hik hsu hi hI)
        rw [Array.getElem?_setIfInBounds, if_neg (by omega)]
        exact hsu j hj
      · have hlow := hcov hcl hi (by omega)
        have he : i = k := by
          by_cases h : i = k
          · exact h
          · exact absurd (hlow k (by omega)) (hsu k (Nat.le_refl _))
        subst he
        refine hstepL hrp.1 (Nat.le_refl _) (fun j hj => ⟨fun h => ?_, fun h => hlow j h⟩) hcl2 hsz (htoSuf hI hlow)
        by_cases h2 : j < i
        · exact h2
        · exact absurd h (hsu j (by omega))
    · have hge : i0 ≤ i := by
        by_cases h : i < i0
        · exact absurd ((hl i hrp.1).2 h) hnl
        · omega
      have hlow := hcov hcl hi (by omega)
      have he : i = i0 := by
        by_cases h : i = i0
        · exact h
        · have := (hl i0 (by omega)).1 (hlow i0 (by omega)); omega
      subst he
      exact hstepL hrp.1 hki hl hcl2 hsz hw

/-- A region that draws its order and ends in stores. -/
theorem region_seqJ {id : Nat} (k : Nat) (m : List Bool) (plan : Plan) (V : Nat → Value → World → Prop) (J : (Nat → Value) → World → Prop) (hJ0 : ∀ w, Below w0.heap.size w0 w → J (fun k => (a.tmps.toList[k]?).getD undef) w) (hmix : P.follows .mixedOrders = true) (hback : backB 0 ops.toList = true) (hnd : nodupB (plan.map (·.1)) = true) (hall : planAll ops m a.tmps.size (ops.toList.take k) plan = true)
    (hseq : seqB ops k = true) (hk : k ≤ ops.size) (hmono : ∀ d v w w', V d v w → Below w.heap.size w w' → V d v w') (hob : OblsJ P Q a m V J w0 (ops.toList.take k) plan)
    (hsuf : ∀ f w, Below w0.heap.size w0 w → J f w → AllP V f w plan → wpList P ops Q (ops.toList.drop k) (over a m f) w) : (Code.region id ops true).wp P Q a w0 := by
  refine wp_region_any hmix (seqJ_any hmono hback hnd hall hseq hk hob hsuf _ _ _ _ (by simp) (by simp) ⟨?_, .inl ⟨?_, fun k => (a.tmps.toList[k]?).getD undef, (over_start a m).symm, ⟨rfl, rfl, rfl, Nat.le_refl _, fun _ _ => rfl⟩, hJ0 _ ⟨rfl, rfl, rfl, Nat.le_refl _, fun _ _ => rfl⟩, ?_⟩⟩)
  · intro i o _ h
    simp [Array.getElem?_replicate] at h
  · intro j _ h
    simp [Array.getElem?_replicate] at h
  · intro i o d _ _ h
    simp [Array.getElem?_replicate] at h
end
end Go.Proofs.Ytgelbndbkmedlaa.S
