/- refusalOfList, Apart walked. -/
import Derived.Test.YtmmpaaaifdikdaaGreatDoorSB
import Derived.Test.YtmmpaaaifdikdaaGreatDoorRsp
namespace Go.Proofs.YtmmpaaaifdikdaaGreatDoor.S
open Go.RowKit

abbrev ptr (b : Nat) : Value := .pointer (some ⟨b, 0, none⟩)
/-- A box in a block, not frozen. -/
structure Bf (b : Nat) (a : Bx) (w : World) : Prop where
  bx : BxAt w b 0 a
  f0 : w.frozen? ⟨b, 0, none⟩ = false
  f1 : w.frozen? ⟨b, 1, none⟩ = false
  f2 : w.frozen? ⟨b, 2, none⟩ = false
  f3 : w.frozen? ⟨b, 3, none⟩ = false
  f4 : w.frozen? ⟨b, 4, none⟩ = false
  f5 : w.frozen? ⟨b, 5, none⟩ = false
theorem Bf.later {b : Nat} {a : Bx} {w w' : World} (h : Bf b a w) (hb : Below w.heap.size w w') : Bf b a w' :=
  ⟨h.bx.next hb, (hb.frozen (p := ⟨b, 0, none⟩) h.bx.1).trans h.f0, (hb.frozen (p := ⟨b, 1, none⟩) h.bx.1).trans h.f1, (hb.frozen (p := ⟨b, 2, none⟩) h.bx.1).trans h.f2,
    (hb.frozen (p := ⟨b, 3, none⟩) h.bx.1).trans h.f3, (hb.frozen (p := ⟨b, 4, none⟩) h.bx.1).trans h.f4, (hb.frozen (p := ⟨b, 5, none⟩) h.bx.1).trans h.f5⟩
theorem Bf.new (w : World) (a : Bx) : Bf w.heap.size a (w.alloc (bo a)) :=
  ⟨⟨by simp, by go_simp, by go_simp, by go_simp, by go_simp, by go_simp, by go_simp⟩, by go_simp, by go_simp, by go_simp, by go_simp, by go_simp, by go_simp⟩
abbrev zB : Bx := ⟨0, 0, 0, 0, 0, 0⟩
/-- What is wrong with a list, then with boxes behind it. -/
def rlist (l more : List Bx) : Int := if 40 < l.length then 7 else if badL l = 0 then badL more else badL l
theorem rlist_many {l more : List Bx} (h : 40 < l.length) : rlist l more = 7 := if_pos h
theorem rlist_bad {l more : List Bx} (h : l.length ≤ 40) (hb : badL l ≠ 0) : rlist l more = badL l := by unfold rlist; rw [if_neg (by omega), if_neg hb]
theorem rlist_more {l more : List Bx} (h : l.length ≤ 40) (hb : badL l = 0) : rlist l more = badL more := by unfold rlist; rw [if_neg (by omega), if_pos hb]
theorem rlist_zero {l more : List Bx} : rlist l more = 0 ↔ l.length ≤ 40 ∧ badL l = 0 ∧ badL more = 0 := by
  unfold rlist
  by_cases h : 40 < l.length
  · rw [if_pos h]
    constructor
    · intro e; omega
    · rintro ⟨e, _⟩; omega
  · rw [if_neg h]
    by_cases hb : badL l = 0
    · rw [if_pos hb]; constructor
      · intro e; exact ⟨by omega, hb, e⟩
      · rintro ⟨_, _, e⟩; exact e
    · rw [if_neg hb]; constructor
      · intro e; exact absurd e hb
      · rintro ⟨_, e, _⟩; exact absurd e hb
/-- The number of the first box that meets a box. -/
def firstI (l : List Bx) (a : Bx) : Int := idx (fun b => meet b a) l
def firstR (l : List Bx) (a : Bx) : Int × Int := if rlist l [a] = 0 then (firstI l a, 0) else (0, rlist l [a])
theorem any_one (a : Bx) : (fun b => [a].any (meet b)) = (fun b => meet b a) := by funext b; simp

/-- The first two that meet. -/
def Apt (l : List Bx) (i j : Int) : Prop :=
  (i = -1 ∧ j = -1 ∧ ∀ p q (hp : p < q) (hq : q < l.length), meet (l[p]'(by omega)) (l[q]'hq) = false) ∨
  ∃ p q : Nat, ∃ (hp : p < q) (hq : q < l.length), i = p ∧ j = q ∧ meet (l[p]'(by omega)) (l[q]'hq) = true ∧ (∀ p' q' (hp' : p' < q') (hq' : q' < l.length), p' < p → meet (l[p']'(by omega)) (l[q']'hq') = false) ∧ (∀ q' (hq' : q' < q), p < q' → meet (l[p]'(by omega)) (l[q']'(by omega)) = false)
theorem Apt.unique {l : List Bx} {i j i' j' : Int} (a : Apt l i j) (b : Apt l i' j') : i = i' ∧ j = j' := by
  rcases a with ⟨rfl, rfl, a⟩ | ⟨p, q, hp, hq, rfl, rfl, am, a1, a2⟩
  · rcases b with ⟨rfl, rfl, _⟩ | ⟨p', q', hp', hq', rfl, rfl, bm, _⟩
    · exact ⟨rfl, rfl⟩
    · rw [a p' q' hp' hq'] at bm; cases bm
  · rcases b with ⟨rfl, rfl, b⟩ | ⟨p', q', hp', hq', rfl, rfl, bm, b1, b2⟩
    · rw [b p q hp hq] at am; cases am
    · by_cases e1 : p < p'
      · rw [b1 p q hp hq e1] at am; cases am
      · by_cases e2 : p' < p
        · rw [a1 p' q' hp' hq' e2] at bm; cases bm
        · have e : p = p' := by omega
          subst e
          by_cases e3 : q < q'
          · rw [b2 q e3 hp] at am; cases am
          · by_cases e4 : q' < q
            · rw [a2 q' e4 hp'] at bm; cases bm
            · exact ⟨rfl, by omega⟩
/-- A slice of boxes. -/
def IsSl (l : List Bx) (v : Value) (w : World) : Prop := ∃ ao cap, v = .slice ao l.length cap ∧ Bxs w ao l
/-- The closure over boxes. -/
def IsMeets (l : List Bx) (v : Value) (w : World) : Prop := ∃ B, v = .func (.func 64) #[] #[ptr B] ∧ B < w.heap.size ∧ ∃ ao cap, w.cell? ⟨B, 0, none⟩ = some (.slice ao l.length cap) ∧ Bxs w ao l
theorem IsSl.later {l : List Bx} {v : Value} {w w' : World} (h : IsSl l v w) (hb : Below w.heap.size w w') : IsSl l v w' := by
  obtain ⟨ao, cap, h1, h2⟩ := h
  exact ⟨ao, cap, h1, h2.next hb⟩
theorem IsMeets.later {l : List Bx} {v : Value} {w w' : World} (h : IsMeets l v w) (hb : Below w.heap.size w w') : IsMeets l v w' := by
  obtain ⟨B, h1, h2, ao, cap, h3, h4⟩ := h
  exact ⟨B, h1, Nat.lt_of_lt_of_le h2 hb.size, ao, cap, cell_later hb h3, h4.next hb⟩
theorem meets_is (l : List Bx) (v : Value) (w : World) (h : IsSl l v w) : Calls Tryz.prog 43 #[v] w fun e w' => ∃ u, e = .returned u ∧ IsMeets l u w' ∧ Below w.heap.size w w' := by
  obtain ⟨ao, cap, rfl, h2⟩ := h
  refine (meets_any ao l.length cap w).mono ?_
  rintro e w' ⟨rfl, rfl⟩
  exact ⟨_, rfl, ⟨_, rfl, by simp, ao, cap, by go_simp, h2.next ((Below.refl _ _).alloc (Nat.le_refl _) _)⟩, (Below.refl _ _).alloc (Nat.le_refl _) _⟩
theorem IsMeets.tests {l : List Bx} {B : Nat} {w : World} (hl : l.length ≤ 9223372036854775807) (h : IsMeets l (.func (.func 64) #[] #[ptr B]) w) : Tests 64 #[ptr B] (fun b => l.any (meet b)) w := by
  intro a W hW
  obtain ⟨B', e, h2, ao, cap, h3, h4⟩ := h.later hW
  simp at e
  subst e
  exact outer_any a B ao cap l W h3 h2 h4 hl
theorem new1 (a : Bx) (w : World) : IsSl [a] (.slice (some ⟨w.heap.size, 0, none⟩) 1 1) (w.alloc (bo a)) := ⟨_, _, rfl, Bxs.one w a⟩
theorem new2 (a b : Bx) (w : World) : IsSl [a, b] (.slice (some ⟨w.heap.size, 0, none⟩) 2 2) (w.alloc (bo2 a b)) := ⟨_, _, rfl, Bxs.two w a b⟩

theorem refusal_r (ao : Option Addr) (cap : Nat) (l : List Bx) (r : Int) (hr : badL l = r) (w : World) (hL : Bxs w ao l) (hl : l.length ≤ 100) :
    Calls Tryz.prog 63 #[.slice ao l.length cap] w fun e w' => e = .returned (.int .i64 r) ∧ Below w.heap.size w w' := by
  rw [← hr]; exact refusal_any ao cap l w hL hl
set_option maxHeartbeats 1600000 in
theorem refList_any (ao ao' : Option Addr) (cap cap' : Nat) (l more : List Bx) (w : World) (hL : Bxs w ao l) (hM : Bxs w ao' more) (hm : more.length ≤ 100) (hll : l.length ≤ 9223372036854775807) :
    Calls Tryz.prog 41 #[.slice ao l.length cap, .slice ao' more.length cap'] w fun e w' => e = .returned (.int .i64 (rlist l more)) ∧ Below w.heap.size w w' := by
  have HL : Hid (Bxs w ao l) := hL
  have HM : Hid (Bxs w ao' more) := hM
  clear hL hM
  by_cases h : 40 < l.length
  · have HR : Hid (rlist l more = 7) := rlist_many h
    go_enter Tryz.func41, Tryz.ntmps41
    go_wp2
    go_ret
    exact ⟨ret_int HR.out.symm, Below.refl _ _⟩
  · have h' : l.length ≤ 40 := by omega
    clear h
    by_cases hb : badL l = 0
    · have HB : Hid (badL l = 0) := hb
      have HR : Hid (rlist l more = badL more) := rlist_more h' hb
      clear hb
      go_enter Tryz.func41, Tryz.ntmps41
      go_wp2_with fail
      refine (refusal_r ao cap l 0 HB.out w HL.out (by omega)).mono ?_
      rintro e w1 ⟨rfl, hb1⟩
      have HB1 : Hid (Below w.heap.size w w1) := hb1
      clear hb1
      go_wp2_with fail
      refine (refusal_any ao' cap' more w1 (HM.out.next HB1.out) hm).mono ?_
      rintro e w2 ⟨rfl, hb2⟩
      go_wp2
      go_ret
      exact ⟨ret_int HR.out.symm, HB1.out.trans (hb2.mono HB1.out.size)⟩
    · have HB : Hid (badL l ≠ 0) := hb
      have hne : (badL l != 0) = true := by simp [hb]
      have HR : Hid (rlist l more = badL l) := rlist_bad h' hb
      clear hb
      go_enter Tryz.func41, Tryz.ntmps41
      go_wp2_with fail
      refine (refusal_any ao cap l w HL.out (by omega)).mono ?_
      rintro e w1 ⟨rfl, hb1⟩
      go_wp2
      go_ret
      exact ⟨ret_int HR.out.symm, hb1⟩

def ap8V (l : List Bx) (a : Bx) (k : Nat) (ao : Option Addr) (cap : Nat) (d : Nat) (v : Value) (w : World) : Prop :=
  match d with
  | 24 => v = .slice ao l.length cap
  | 25 => v = .int .i64 ((k : Int) + 1)
  | 26 => IsSl (l.drop (k + 1)) v w
  | 27 => v = bv a
  | 28 => IsSl [a] v w
  | 29 => IsMeets [a] v w
  | 30 => v = .int .i64 (firstI (l.drop (k + 1)) a)
  | 9 => v = .int .i64 (firstI (l.drop (k + 1)) a)
  | _ => True
theorem ap8V_mono (l : List Bx) (a : Bx) (k : Nat) (ao : Option Addr) (cap : Nat) (d : Nat) (v : Value) (w w' : World) (hv : ap8V l a k ao cap d v w) (hb : Below w.heap.size w w') : ap8V l a k ao cap d v w' := by
  unfold ap8V at hv ⊢
  split <;> simp only [] at hv <;> first | exact hv | exact hv.later hb
theorem Bxs.drop {w : World} {b off : Nat} {l : List Bx} (h : Bxs w (some ⟨b, off, none⟩) l) (k : Nat) : Bxs w (some ⟨b, off + k * 6, none⟩) (l.drop k) := by
  rcases h with rfl | ⟨b', off', e, h⟩
  · exact .inl (by simp)
  · simp only [Option.some.injEq, Addr.mk.injEq, and_true] at e
    obtain ⟨rfl, rfl⟩ := e
    refine .inr ⟨b, off + k * 6, rfl, fun j hj => ?_⟩
    rw [List.length_drop] at hj
    have := h (k + j) (by omega)
    rw [List.getElem_drop]
    rw [show off + k * 6 + j * 6 = off + (k + j) * 6 by omega]
    exact this
/-- No partner for the first ones. -/
def NoPair (l : List Bx) (k : Nat) : Prop := ∀ p q (hp : p < q) (hq : q < l.length), p < k → meet (l[p]'(by omega)) (l[q]'hq) = false
theorem pair_none {l : List Bx} {k : Nat} (hk : k < l.length) (h : NoPair l k) (hn : ∀ b ∈ l.drop (k + 1), meet b (l[k]'hk) = false) : NoPair l (k + 1) := by
  intro p q hp hq hpk
  by_cases e : p = k
  · subst e
    rw [meet_comm]
    refine hn _ ?_
    rw [List.mem_iff_getElem]
    refine ⟨q - (p + 1), by rw [List.length_drop]; omega, ?_⟩
    rw [List.getElem_drop]
    congr 1
    omega
  · exact h p q hp hq (by omega)
theorem pair_some {l : List Bx} {k j : Nat} (hk : k < l.length) (h : NoPair l k) (hj : j < (l.drop (k + 1)).length) (hm : meet ((l.drop (k + 1))[j]'hj) (l[k]'hk) = true) (hn : ∀ i (hi : i < j), meet ((l.drop (k + 1))[i]'(by omega)) (l[k]'hk) = false) : Apt l k ((k : Int) + 1 + j) := by
  have hj' : k + 1 + j < l.length := by rw [List.length_drop] at hj; omega
  refine .inr ⟨k, k + 1 + j, by omega, hj', rfl, by omega, ?_, fun p' q' hp' hq' hlt => h p' q' hp' hq' hlt, fun q' hq' hlt => ?_⟩
  · rw [meet_comm]
    rw [List.getElem_drop] at hm
    exact hm
  · have := hn (q' - (k + 1)) (by omega)
    rw [List.getElem_drop] at this
    rw [meet_comm]
    simpa [show k + 1 + (q' - (k + 1)) = q' by omega] using this
theorem pair_end {l : List Bx} (h : NoPair l l.length) : Apt l (-1) (-1) := .inl ⟨rfl, rfl, fun p q hp hq => h p q hp hq (by omega)⟩
theorem apart_bad (ao : Option Addr) (cap : Nat) (l : List Bx) (w : World) (hL : Bxs w ao l) (hll : l.length ≤ 9223372036854775807) (hr : rlist l [] ≠ 0) :
    Calls Tryz.prog 15 #[.slice ao l.length cap] w fun e w' => e = .returned (.tuple #[.int .i64 0, .int .i64 0, .int .i64 (rlist l [])]) ∧ Below w.heap.size w w' := by
  have HL : Hid (Bxs w ao l) := hL
  have hne : (rlist l [] != 0) = true := by simp [hr]
  clear hL hr
  go_enter Tryz.func15, Tryz.ntmps15
  go_wp2_with fail
  refine (refList_any ao none cap 0 l [] w HL.out (Bxs.nil _ _) (by simp) hll).mono ?_
  rintro e w1 ⟨rfl, hb1⟩
  go_wp2
  refine bodyPost_ret (v := .tuple #[.int .i64 0, .int .i64 0, .int .i64 (rlist l [])]) (by simp [results, Tryz.results15, go_sem]) rfl ⟨rfl, hb1⟩
set_option maxHeartbeats 6400000 in
set_option maxRecDepth 100000 in
theorem apart_ok (ao : Option Addr) (cap : Nat) (l : List Bx) (i j : Int) (w : World) (hL : Bxs w ao l) (hcap : l.length ≤ cap) (hr : rlist l [] = 0) (hA : Apt l i j) :
    Calls Tryz.prog 15 #[.slice ao l.length cap] w fun e w' => e = .returned (.tuple #[.int .i64 i, .int .i64 j, .int .i64 0]) ∧ Below w.heap.size w w' := by
  have HL : Hid (Bxs w ao l) := hL
  have HR : Hid (rlist l [] = 0) := hr
  have HA : Hid (Apt l i j) := hA
  have h40 : l.length ≤ 40 := (rlist_zero.1 hr).1
  clear hL hr hA
  go_enter Tryz.func15, Tryz.ntmps15
  go_wp2_with fail
  refine (refList_any ao none cap 0 l [] w HL.out (Bxs.nil _ _) (by simp) (by omega)).mono ?_
  rintro e w1 ⟨rfl, hb1⟩
  rw [HR.out]
  have HB1 : Hid (Below w.heap.size w w1) := hb1
  clear hb1
  go_wp2_with fail
  go_loopw [17] (fun i wr => ∃ k : Nat, k ≤ l.length ∧ i = .int .i64 k ∧ NoPair l k ∧ Below w.heap.size w wr) (fun i _ => l.length - (intOf i).toNat)
  case atStart => exact ⟨0, Nat.zero_le _, rfl, fun p q hp hq h => absurd h (Nat.not_lt_zero _), HB1.out⟩
  case round =>
    obtain ⟨k, hk, rfl, hno, hb⟩ := hrel
    have HB : Hid (Below w.heap.size w wr) := hb
    have HNO : Hid (NoPair l k) := hno
    clear hb hno
    by_cases hlt : k < l.length
    · obtain ⟨b, off, rfl, hbx⟩ := (HL.out.next HB.out).at hlt
      have HSome : Hid (∀ jj (hj : jj < (l.drop (k + 1)).length), meet ((l.drop (k + 1))[jj]'hj) (l[k]'hlt) = true → (∀ i (hi : i < jj), meet ((l.drop (k + 1))[i]'(by omega)) (l[k]'hlt) = false) → Apt l k ((k : Int) + 1 + jj)) := fun jj hj hm hn => pair_some hlt HNO.out hj hm hn
      have HNone : Hid ((∀ b ∈ l.drop (k + 1), meet b (l[k]'hlt) = false) → NoPair l (k + 1)) := pair_none hlt HNO.out
      generalize l[k]'hlt = a at *
      obtain ⟨_, c0, c1, c2, c3, c4, c5⟩ := hbx
      have hki : (k : Int) < (l.length : Int) := by omega
      have hw : IntKind.i64.wrap ((k : Int) + 1) = (k : Int) + 1 := by rw [IntWalk.i64_left]; exact IntWalk.wrap64_in _ ⟨by omega, by omega⟩
      go_wp2_with fail
      rename_i KK hkk
      have HKK := (show Hid _ from hkk)
      clear hkk c0 c1 c2 c3 c4 c5
      obtain ⟨w2, hw2⟩ : ∃ w2, w2 = wr.alloc (bo a) := ⟨_, rfl⟩
      have HB2 : Hid (Below w.heap.size w w2) := by show Below _ _ _; rw [hw2]; exact below_grow _ (Nat.le_refl _) HB.out _
      have KA : Hid (Bf wr.heap.size a w2) := by show Bf _ _ _; rw [hw2]; exact Bf.new wr a
      rw [← hw2]
      clear hw2
      obtain ⟨⟨al, a0, a1, a2, a3, a4, a5⟩, _⟩ := KA.out
      simp only [Nat.zero_add] at a1 a2 a3 a4 a5
      try rw [show decide ((k : Int) < (l.length : Int)) = true by simp; omega]
      refine region_inv [false, false, false, false, false, false, false, false, false, true, false, false, false, false, false, false, false, false, false, false, false, false, false, false, true, true, true, true, true, true, true, false, false, false, false, false, false, false]
        [(24, [], none), (25, [], none), (26, [24, 25], none), (27, [], none), (28, [27], none), (29, [28], none), (30, [26, 29], none), (9, [30], none)]
        (ap8V l a k (some ⟨b, off, none⟩) cap) (by kernel_rfl) (by kernel_rfl) (ap8V_mono l a k (some ⟨b, off, none⟩) cap) ?_ ?_
      · refine ⟨?_, ?_, ?_, ?_, ?_, ?_, ?_, ?_, trivial⟩
        · intro f wr2 hb _ K hK
          simp only [over, overL, Nat.reduceAdd]
          go_simp
          exact hK _ _ ⟨_, rfl, by simp only [over, overL, Nat.reduceAdd]; rfl, Below.refl _ _⟩
        · intro f wr2 hb _ K hK
          simp only [over, overL, Nat.reduceAdd]
          go_simp
          exact hK _ _ ⟨_, rfl, by simp only [over, overL, Nat.reduceAdd]; rfl, Below.refl _ _⟩
        · intro f wr2 hb ⟨h24, h25, _⟩ K hK
          have h24 : f 24 = _ := h24
          have h25 : f 25 = _ := h25
          have hd := (((HL.out.next HB2.out).next hb).drop (k + 1))
          simp only [over, overL, Nat.reduceAdd, h24, h25]
          go_simp
          have hc1 : 0 ≤ (k : Int) + 1 ∧ (k : Int) + 1 ≤ (l.length : Int) := ⟨by omega, by omega⟩
          rw [if_pos hc1]
          by_cases hcp : cap = k + 1
          · have hsl : IsSl (l.drop (k + 1)) (.slice (some ⟨b, off, none⟩) (l.length - (k + 1)) (cap - (k + 1))) wr2 := ⟨_, _, by rw [List.length_drop], .inl (List.drop_eq_nil_of_le (by omega))⟩
            rw [if_pos hcp]
            exact hK _ _ ⟨_, hsl, by simp only [over, overL, Nat.reduceAdd, h24, h25], Below.refl _ _⟩
          · have hsl : IsSl (l.drop (k + 1)) (.slice (some ⟨b, off + (k + 1) * 6, none⟩) (l.length - (k + 1)) (cap - (k + 1))) wr2 := ⟨_, _, by rw [List.length_drop], hd⟩
            rw [if_neg hcp]
            exact hK _ _ ⟨_, hsl, by simp only [over, overL, Nat.reduceAdd, h24, h25], Below.refl _ _⟩
        · intro f wr2 hb _ K hK
          have ca0 := cell_later hb a0
          have ca1 := cell_later hb a1
          have ca2 := cell_later hb a2
          have ca3 := cell_later hb a3
          have ca4 := cell_later hb a4
          have ca5 := cell_later hb a5
          simp only [over, overL, Nat.reduceAdd]
          go_simp
          exact hK _ _ ⟨_, rfl, by simp only [over, overL, Nat.reduceAdd]; rfl, Below.refl _ _⟩
        · intro f wr2 hb ⟨h27, _⟩ K hK
          have h27 : f 27 = _ := h27
          simp only [over, overL, Nat.reduceAdd, h27]
          go_simp
          exact hK _ _ ⟨_, new1 a wr2, by simp only [over, overL, Nat.reduceAdd, h27]; rfl, (Below.refl _ _).alloc (Nat.le_refl _) _⟩
        · intro f wr2 hb ⟨h28, _⟩ K hK
          simp only [over, overL, Nat.reduceAdd]
          go_simp
          refine (meets_is [a] _ wr2 h28).mono ?_
          rintro e w9 ⟨u, rfl, hu, hbn⟩
          exact hK _ _ ⟨_, hu, by simp only [over, overL, Nat.reduceAdd]; rfl, hbn⟩
        · intro f wr2 hb ⟨h26, h29, _⟩ K hK
          obtain ⟨ao2, cap2, e26, hbx⟩ := (show IsSl (l.drop (k + 1)) (f 26) wr2 from h26)
          obtain ⟨B, e29, _⟩ := id h29
          have h29 : IsMeets [a] (f 29) wr2 := h29
          rw [e29] at h29
          have ht := IsMeets.tests (by simp) h29
          rw [any_one] at ht
          have hdl : (l.drop (k + 1)).length ≤ 9223372036854775807 := by rw [List.length_drop]; omega
          have hcall := indexFunc_any 64 #[ptr B] (fun b => meet b a) ao2 cap2 (l.drop (k + 1)) wr2 en64 ht hbx hdl
          clear HSome HNone
          generalize (l.drop (k + 1)).length = nn at *
          simp only [over, overL, Nat.reduceAdd, e26, e29]
          go_simp
          refine hcall.mono ?_
          rintro e w9 ⟨rfl, hbn⟩
          exact hK _ _ ⟨_, rfl, by simp only [over, overL, Nat.reduceAdd, e26, e29]; rfl, hbn⟩
        · intro f wr2 hb ⟨h30, _⟩ K hK
          have h30 : f 30 = _ := h30
          simp only [over, overL, Nat.reduceAdd, h30]
          go_simp
          exact hK _ _ ⟨_, rfl, by simp only [over, overL, Nat.reduceAdd, h30]; rfl, Below.refl _ _⟩
      intro f w3 hb3 hv
      have h9 : f 9 = .int .i64 (firstI (l.drop (k + 1)) a) := hv.2.2.2.2.2.2.2.1
      have HB3 : Hid (Below w.heap.size w w3) := HB2.out.trans (hb3.mono HB2.out.size)
      clear al a0 a1 a2 a3 a4 a5 hb3 hv
      simp only [over_eq, overL, Nat.reduceAdd, h9]
      clear h9
      unfold firstI
      rcases idx_cases (fun b => meet b a) (l.drop (k + 1)) with ⟨e, hfree⟩ | ⟨jj, hjl, e, hhit, hfst⟩
      · rw [e]
        have HN2 : Hid (NoPair l (k + 1)) := HNone.out hfree
        clear e hfree
        refine HKK.out _ _ ?_
        go_wp2
        go_roundw
        case rel => exact ⟨k + 1, by omega, by go_num, HN2.out, HB3.out⟩
        case measure => simp [intOf]; omega
      · rw [e]
        have HQ : Hid (i = (k : Int) ∧ j = (k : Int) + 1 + jj) := HA.out.unique (HSome.out jj hjl hhit hfst)
        have hjj : jj < 40 := by rw [List.length_drop] at hjl; omega
        have hw2 : IntKind.i64.wrap ((k : Int) + 1 + (jj : Int)) = (k : Int) + 1 + (jj : Int) := by rw [IntWalk.i64_left]; exact IntWalk.wrap64_in _ ⟨by omega, by omega⟩
        clear e hhit hfst hjl
        refine HKK.out _ _ ?_
        go_wp2
        refine bodyPost_ret (v := .tuple #[.int .i64 (k : Int), .int .i64 ((k : Int) + 1 + (jj : Int)), .int .i64 0]) (by simp [results, Tryz.results15, go_sem]) rfl ⟨by rw [HQ.out.1, HQ.out.2], HB3.out⟩
    · have HE : Hid (i = -1 ∧ j = -1) := HA.out.unique (pair_end (by rw [show l.length = k by omega]; exact HNO.out))
      go_wp2
      refine bodyPost_ret (v := .tuple #[.int .i64 (-1), .int .i64 (-1), .int .i64 0]) (by simp [results, Tryz.results15, go_sem]) rfl ⟨by rw [HE.out.1, HE.out.2], HB.out⟩

end Go.Proofs.YtmmpaaaifdikdaaGreatDoor.S
