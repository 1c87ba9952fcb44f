/- The law SpaceLists: regions, answers. -/
import Derived.Test.YtiafcgbohckmmaaBs
import Derived.Test.YtiafcgbohckmmaaAp
import Derived.Test.YtiafcgbohckmmaaCpy
import Derived.Test.YtiafcgbohckmmaaSeqE
namespace Go.Proofs.Ytiafcgbohckmmaa
open Go.RowKit

theorem first_r (ao : Option Addr) (cap : Nat) (l : List Bx) (a : Bx) (i r : Int) (h : firstR l a = (i, r)) (hll : l.length ≤ 9223372036854775807) (w : World) (hL : Bxs w ao l) :
    Calls Try.prog 18 #[.slice ao l.length cap, bv a] w fun e w' => e = .returned (.tuple #[.int .i64 i, .int .i64 r]) ∧ Below w.heap.size w w' := by
  have := first_any ao cap l a w hL hll
  rw [h] at this
  exact this
/-- What Safe comes to. -/
def SafeIs (l : List Bx) (a : Bx) (p : Pt) (h r : Int) : Prop :=
  (rlist l [a] ≠ 0 ∧ h = 0 ∧ r = rlist l [a]) ∨ (rlist l [a] = 0 ∧ nearP p = false ∧ h = 0 ∧ r = 2) ∨
  (rlist l [a] = 0 ∧ nearP p = true ∧ ∃ H, Least l (wayX a p) (wayY a p) H ∧ ((nearB (movB (endB a p) ⟨0, 0, H⟩) = false ∧ h = 0 ∧ r = 2) ∨ (nearB (movB (endB a p) ⟨0, 0, H⟩) = true ∧ h = H ∧ r = 0)))
theorem safe_r (ao : Option Addr) (cap : Nat) (l : List Bx) (a : Bx) (p : Pt) (h r : Int) (hs : SafeIs l a p h r) (hll : l.length ≤ 9223372036854775807) (w : World) (hL : Bxs w ao l) :
    Calls Try.prog 21 #[.slice ao l.length cap, bv a, pv p] w fun e w' => e = .returned (.tuple #[.int .i64 h, .int .i64 r]) ∧ Below w.heap.size w w' := by
  rcases hs with ⟨h1, rfl, rfl⟩ | ⟨h1, h2, rfl, rfl⟩ | ⟨h1, h2, H, hH, ⟨h3, rfl, rfl⟩ | ⟨h3, rfl, rfl⟩⟩
  · exact safe_bad ao cap l a p w hL hll h1
  · exact safe_far ao cap l a p w hL hll h1 h2
  · exact safe_out ao cap l a p w hL hll H h1 h2 hH h3
  · exact safe_ok ao cap l a p w hL hll h h1 h2 hH h3
/-- What Apart comes to. -/
def ApartIs (l : List Bx) (i j r : Int) : Prop := (rlist l [] ≠ 0 ∧ i = 0 ∧ j = 0 ∧ r = rlist l []) ∨ (rlist l [] = 0 ∧ Apt l i j ∧ r = 0)
theorem apart_r (ao : Option Addr) (cap : Nat) (l : List Bx) (i j r : Int) (h : ApartIs l i j r) (hll : l.length ≤ 9223372036854775807) (w : World) (hL : Bxs w ao l) (hcap : l.length ≤ cap) :
    Calls Try.prog 20 #[.slice ao l.length cap] w fun e w' => e = .returned (.tuple #[.int .i64 i, .int .i64 j, .int .i64 r]) ∧ Below w.heap.size w w' := by
  rcases h with ⟨h1, rfl, rfl, rfl⟩ | ⟨h1, h2, rfl⟩
  · exact apart_bad ao cap l w hL hll h1
  · exact apart_ok ao cap l i j w hL hcap h1 h2
theorem apt_exists (l : List Bx) : ∃ i j, Apt l i j := by
  have key : ∀ k, k ≤ l.length → (∃ i j, Apt l i j) ∨ NoPair l k := by
    intro k
    induction k with
    | zero => exact fun _ => .inr fun p q hp hq h => absurd h (Nat.not_lt_zero _)
    | succ k ih =>
      intro hk
      rcases ih (by omega) with h | h
      · exact .inl h
      · have hk' : k < l.length := by omega
        rcases idx_cases (fun b => meet b (l[k]'hk')) (l.drop (k + 1)) with ⟨_, hf⟩ | ⟨j, hj, _, hm, hn⟩
        · exact .inr (pair_none hk' h hf)
        · exact .inl ⟨_, _, pair_some hk' h hj hm hn⟩
  rcases key l.length (Nat.le_refl _) with h | h
  · exact h
  · exact ⟨_, _, pair_end h⟩
theorem rlist_same {l : List Bx} (h : rlist l [] ≠ 0) (a : Bx) : rlist l [a] = rlist l [] := by
  unfold rlist at *
  by_cases h1 : 40 < l.length
  · rw [if_pos h1, if_pos h1]
  · rw [if_neg h1] at h
    rw [if_neg h1, if_neg h1]
    by_cases h2 : badL l = 0
    · rw [if_pos h2] at h; exact absurd rfl h
    · rw [if_neg h2, if_neg h2]
theorem rlist_one {l : List Bx} (h : rlist l [] = 0) (a : Bx) : rlist l [a] = bad1 a := by
  have := rlist_zero.1 h
  rw [rlist_more this.1 this.2.1, badL_one]
theorem pair_found {l : List Bx} {p q : Nat} (hp : p < q) (hq : q < l.length) (h : NoPair l p) (hn : ∀ q' (_ : q' < q), p < q' → meet (l[p]'(by omega)) (l[q']'(by omega)) = false) (hm : meet (l[p]'(by omega)) (l[q]'hq) = true) : Apt l p q :=
  .inr ⟨p, q, hp, hq, rfl, rfl, hm, fun p' q' hp' hq' hlt => h p' q' hp' hq' hlt, fun q' hq' hlt => hn q' hq' hlt⟩
theorem pair_next {l : List Bx} {p : Nat} (hp : p < l.length) (h : NoPair l p) (hn : ∀ q' (_ : q' < l.length), p < q' → meet (l[p]'hp) (l[q']'(by omega)) = false) : NoPair l (p + 1) := by
  intro p' q' hp' hq' hlt
  by_cases e : p' = p
  · subst e; exact hn q' hq' hp'
  · exact h p' q' hp' hq' (by omega)
def ls1V (l : List Bx) (a : Bx) (i r : Int) (ao : Option Addr) (cap : Nat) (d : Nat) (v : Value) (w : World) : Prop :=
  match d with
  | 22 => v = .slice ao l.length cap
  | 23 => IsCopy l v w
  | 24 => v = bv a
  | 25 => v = .tuple #[.int .i64 i, .int .i64 r]
  | 21 => v = .tuple #[.int .i64 i, .int .i64 r]
  | 26 => v = .int .i64 i
  | 27 => v = .int .i64 r
  | 7 => v = .int .i64 i
  | 8 => v = .int .i64 r
  | _ => True
theorem ls1V_mono (l : List Bx) (a : Bx) (i r : Int) (ao : Option Addr) (cap : Nat) (d : Nat) (v : Value) (w w' : World) (hv : ls1V l a i r ao cap d v w) (hb : Below w.heap.size w w') : ls1V l a i r ao cap d v w' := by
  unfold ls1V at hv ⊢
  split <;> simp only [] at hv <;> first | exact hv | exact hv.later hb
def ls3V (l : List Bx) (a : Bx) (p : Pt) (i r : Int) (ao : Option Addr) (cap : Nat) (d : Nat) (v : Value) (w : World) : Prop :=
  match d with
  | 36 => v = .slice ao l.length cap
  | 37 => IsCopy l v w
  | 38 => v = bv a
  | 39 => v = pv p
  | 40 => v = .tuple #[.int .i64 i, .int .i64 r]
  | 35 => v = .tuple #[.int .i64 i, .int .i64 r]
  | 41 => v = .int .i64 i
  | 42 => v = .int .i64 r
  | 12 => v = .int .i64 i
  | 13 => v = .int .i64 r
  | _ => True
theorem ls3V_mono (l : List Bx) (a : Bx) (p : Pt) (i r : Int) (ao : Option Addr) (cap : Nat) (d : Nat) (v : Value) (w w' : World) (hv : ls3V l a p i r ao cap d v w) (hb : Below w.heap.size w w') : ls3V l a p i r ao cap d v w' := by
  unfold ls3V at hv ⊢
  split <;> simp only [] at hv <;> first | exact hv | exact hv.later hb
def ls14V (n cap b off p q : Nat) (c d' : Bx) (d : Nat) (v : Value) (_w : World) : Prop :=
  match d with
  | 98 => v = .slice (some ⟨b, off, none⟩) n cap
  | 99 => v = .int .i64 (p : Int)
  | 100 => v = .pointer (some ⟨b, off + p * 6, none⟩)
  | 101 => v = bv c
  | 102 => v = .slice (some ⟨b, off, none⟩) n cap
  | 103 => v = .int .i64 (q : Int)
  | 104 => v = .pointer (some ⟨b, off + q * 6, none⟩)
  | 105 => v = bv d'
  | 106 => v = .bool (meet c d')
  | _ => True
theorem BoxesMay_r (ao : Option Addr) (cap : Nat) (l : List Bx) (r : Int) (hr : rlist l [] = r) (w : World) (hL : Bxs w ao l) (hll : l.length ≤ 9223372036854775807) :
    Calls Try.prog 22 #[.slice ao l.length cap] w fun e w' => e = .returned (.int .i64 r) ∧ Below w.heap.size w w' := by
  rw [← hr]; exact BoxesMay_any ao cap l w hL hll
def LsI (l : List Bx) (I J : Int) (n : Nat) (X Y : Int) : Prop := (X = -1 ∧ Y = -1 ∧ NoPair l n) ∨ (X = I ∧ Y = J ∧ 0 ≤ I)
def LsJ (l : List Bx) (I J : Int) (n : Nat) (hn : n < l.length) (q : Nat) (X Y : Int) : Prop := (X = -1 ∧ Y = -1 ∧ ∀ q' (h : q' < l.length), q' < q → n < q' → meet (l[n]'hn) (l[q']'h) = false) ∨ (X = I ∧ Y = J ∧ 0 ≤ I)
theorem bsafe_r (ao : Option Addr) (cap : Nat) (l : List Bx) (a : Bx) (p : Pt) (H : Int) (b : Bool) (w : World) (hL : Bxs w ao l) (hll : l.length ≤ 40) (hg : badL l = 0) (ha : bad1 a = 0) (hp : nearP p = true) (hH : Least l (wayX a p) (wayY a p) H) (hb : nearB (movB (endB a p) ⟨0, 0, H⟩) = b) :
    Calls Try.prog 24 #[.slice ao l.length cap, bv a, pv p] w fun e w' => e = .returned (.tuple #[.int .i64 H, .bool b]) ∧ Below w.heap.size w w' := by
  rw [← hb]; exact BoxSafe_any ao cap l a p H w hL hll hg ha hp hH
end Go.Proofs.Ytiafcgbohckmmaa
