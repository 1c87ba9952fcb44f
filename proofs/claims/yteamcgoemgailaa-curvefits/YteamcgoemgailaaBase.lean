/- Worlds, knots in memory. -/
import Derived.Test.YteamcgoemgailaaRows
import Derived.Test.YteamcgoemgailaaMath
import Derived.WalkKit
import Derived.WalkSpells
import Derived.WalkLawsBesides
import Derived.Deep.QuietTactic
import Derived.BigQuiet
namespace Go.Proofs.Yteamcgoemgailaa
open Go.RowKit

theorem bcell {W w1 : World} (hb : Below W.heap.size W w1) : (∀ b o, b < W.heap.size → w1.cell? ⟨b, o, none⟩ = W.cell? ⟨b, o, none⟩) ∧ (∀ b o, b < W.heap.size → w1.frozen? ⟨b, o, none⟩ = W.frozen? ⟨b, o, none⟩) :=
  ⟨fun b o h => hb.cell (p := ⟨b, o, none⟩) h, fun b o h => hb.frozen (p := ⟨b, o, none⟩) h⟩
theorem ret_bool {a b : Bool} (h : a = b) : Ending.returned (.bool a) = .returned (.bool b) := by rw [h]
theorem ret_int {k : IntKind} {a b : Int} (h : a = b) : Ending.returned (.int k a) = .returned (.int k b) := by rw [h]
theorem cell_later {w w' : World} (hb : Below w.heap.size w w') {b o : Nat} {v : Value} (h : w.cell? ⟨b, o, none⟩ = some v) : w'.cell? ⟨b, o, none⟩ = some v := by
  rw [← h]
  refine hb.cell (p := ⟨b, o, none⟩) ?_
  show b < w.heap.size
  by_cases e : b < w.heap.size
  · exact e
  · have : w.heap[b]? = none := by simp; omega
    simp [World.cell?, this] at h
theorem below_grow {w w' : World} (n : Nat) (hn : n ≤ w.heap.size) (h : Below n w w') (o : Obj) : Below n w (w'.alloc o) := h.alloc (Nat.le_trans hn h.size) o
theorem below_drewN {B : Nat} {a w : World} (h : Below B a w) (n : Nat) : Below B a (w.drewN n) := ⟨h.os, h.tape, h.output, h.size, h.block⟩
theorem below_on {w w1 w2 : World} (h : Below w.heap.size w w1) (h2 : Below w1.heap.size w1 w2) : Below w.heap.size w w2 := h.trans (h2.mono h.size)

/-- Values. -/
abbrev kv (k : Kn) : Value := .agg #[.int .i64 k.v, .int .i64 k.s]
abbrev ptr (b : Nat) : Value := .pointer (some ⟨b, 0, none⟩)
abbrev ko (k : Kn) : Obj := .cells #[.int .i64 k.v, .int .i64 k.s] 31

/-- A knot at a place of a block. -/
def KnAt (w : World) (b o : Nat) (k : Kn) : Prop := b < w.heap.size ∧ w.cell? ⟨b, o, none⟩ = some (.int .i64 k.v) ∧ w.cell? ⟨b, o + 1, none⟩ = some (.int .i64 k.s)
theorem KnAt.next {w w1 : World} {b o : Nat} {k : Kn} (h : KnAt w b o k) (hb : Below w.heap.size w w1) : KnAt w1 b o k :=
  ⟨Nat.lt_of_lt_of_le h.1 hb.size, cell_later hb h.2.1, cell_later hb h.2.2⟩
/-- A slice's memory holds these knots. -/
def Kns (w : World) (ao : Option Addr) (l : List Kn) : Prop :=
  l = [] ∨ ∃ b off, ao = some ⟨b, off, none⟩ ∧ ∀ k (h : k < l.length), KnAt w b (off + k * 2) (l[k]'h)
theorem Kns.next {w w1 : World} {ao : Option Addr} {l : List Kn} (h : Kns w ao l) (hb : Below w.heap.size w w1) : Kns w1 ao l :=
  h.imp id fun ⟨b, off, h1, h2⟩ => ⟨b, off, h1, fun k hk => (h2 k hk).next hb⟩
theorem Kns.at {w : World} {ao : Option Addr} {l : List Kn} (h : Kns w ao l) {k : Nat} (hk : k < l.length) : ∃ b off, ao = some ⟨b, off, none⟩ ∧ KnAt w b (off + k * 2) (l[k]'hk) := by
  rcases h with rfl | ⟨b, off, h1, h2⟩
  · exact absurd hk (Nat.not_lt_zero _)
  · exact ⟨b, off, h1, h2 k hk⟩
theorem Kns.nil (w : World) (ao : Option Addr) : Kns w ao [] := .inl rfl
theorem Kns.two (w : World) (a c : Kn) : Kns (w.alloc (.cells #[.int .i64 a.v, .int .i64 a.s, .int .i64 c.v, .int .i64 c.s] 31)) (some ⟨w.heap.size, 0, none⟩) [a, c] := by
  refine .inr ⟨w.heap.size, 0, rfl, fun k hk => ?_⟩
  match k, hk with
  | 0, _ => exact ⟨by simp, by go_simp, by go_simp⟩
  | 1, _ => exact ⟨by simp, by go_simp, by go_simp⟩

/-- A knot in a block, not frozen. -/
structure Kf (b : Nat) (k : Kn) (w : World) : Prop where
  lt : b < w.heap.size
  c0 : w.cell? ⟨b, 0, none⟩ = some (.int .i64 k.v)
  c1 : w.cell? ⟨b, 1, none⟩ = some (.int .i64 k.s)
  f0 : w.frozen? ⟨b, 0, none⟩ = false
  f1 : w.frozen? ⟨b, 1, none⟩ = false
theorem Kf.later {b : Nat} {k : Kn} {w w' : World} (h : Kf b k w) (hb : Below w.heap.size w w') : Kf b k w' :=
  ⟨Nat.lt_of_lt_of_le h.lt hb.size, cell_later hb h.c0, cell_later hb h.c1, (hb.frozen (p := ⟨b, 0, none⟩) h.lt).trans h.f0, (hb.frozen (p := ⟨b, 1, none⟩) h.lt).trans h.f1⟩
theorem Kf.new (w : World) (k : Kn) : Kf w.heap.size k (w.alloc (ko k)) := ⟨by simp, by go_simp, by go_simp, by go_simp, by go_simp⟩
end Go.Proofs.Yteamcgoemgailaa
