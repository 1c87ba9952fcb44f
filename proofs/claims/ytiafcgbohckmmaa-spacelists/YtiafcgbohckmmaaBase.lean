/- Worlds, values of boxes and points, boxes in memory. -/
import Derived.Test.YtiafcgbohckmmaaRows
import Derived.Test.YtiafcgbohckmmaaMath
import Derived.WalkKit
import Derived.WalkSpells
import Derived.WalkLawsBesides
import Derived.Deep.QuietTactic
import Derived.BigQuiet
namespace Go.Proofs.Ytiafcgbohckmmaa
open Go.RowKit

theorem bcell {W w1 : World} (hb : Below W.heap.size W w1) : (∀ b o, b < W.heap.size → w1.cell? ⟨b, o, none⟩ = W.cell? ⟨b, o, none⟩) ∧ (∀ b o, b < W.heap.size → w1.frozen? ⟨b, o, none⟩ = W.frozen? ⟨b, o, none⟩) :=
  ⟨fun b o h => hb.cell (p := ⟨b, o, none⟩) h, fun b o h => hb.frozen (p := ⟨b, o, none⟩) h⟩
theorem ret_bool {a b : Bool} (h : a = b) : Ending.returned (.bool a) = .returned (.bool b) := by rw [h]
theorem ret_int {k : IntKind} {a b : Int} (h : a = b) : Ending.returned (.int k a) = .returned (.int k b) := by rw [h]
theorem cell_later {w w' : World} (hb : Below w.heap.size w w') {b o : Nat} {v : Value} (h : w.cell? ⟨b, o, none⟩ = some v) : w'.cell? ⟨b, o, none⟩ = some v := by
  rw [← h]
  refine hb.cell (p := ⟨b, o, none⟩) ?_
  show b < w.heap.size
  by_cases e : b < w.heap.size
  · exact e
  · have : w.heap[b]? = none := by simp; omega
    simp [World.cell?, this] at h

/-- Values. -/
abbrev pv (p : Pt) : Value := .agg #[.int .i64 p.x, .int .i64 p.y, .int .i64 p.z]
abbrev bv (b : Bx) : Value := .agg #[.int .i64 b.lx, .int .i64 b.ly, .int .i64 b.lz, .int .i64 b.hx, .int .i64 b.hy, .int .i64 b.hz]

/-- A box at a place of a block. -/
def BxAt (w : World) (b o : Nat) (a : Bx) : Prop :=
  b < w.heap.size ∧ w.cell? ⟨b, o, none⟩ = some (.int .i64 a.lx) ∧ w.cell? ⟨b, o + 1, none⟩ = some (.int .i64 a.ly) ∧ w.cell? ⟨b, o + 2, none⟩ = some (.int .i64 a.lz) ∧
    w.cell? ⟨b, o + 3, none⟩ = some (.int .i64 a.hx) ∧ w.cell? ⟨b, o + 4, none⟩ = some (.int .i64 a.hy) ∧ w.cell? ⟨b, o + 5, none⟩ = some (.int .i64 a.hz)
theorem BxAt.next {w w1 : World} {b o : Nat} {a : Bx} (h : BxAt w b o a) (hb : Below w.heap.size w w1) : BxAt w1 b o a :=
  ⟨Nat.lt_of_lt_of_le h.1 hb.size, cell_later hb h.2.1, cell_later hb h.2.2.1, cell_later hb h.2.2.2.1, cell_later hb h.2.2.2.2.1, cell_later hb h.2.2.2.2.2.1, cell_later hb h.2.2.2.2.2.2⟩
/-- A slice's memory holds these boxes. -/
def Bxs (w : World) (ao : Option Addr) (l : List Bx) : Prop :=
  l = [] ∨ ∃ b off, ao = some ⟨b, off, none⟩ ∧ ∀ k (h : k < l.length), BxAt w b (off + k * 6) (l[k]'h)
theorem Bxs.next {w w1 : World} {ao : Option Addr} {l : List Bx} (h : Bxs w ao l) (hb : Below w.heap.size w w1) : Bxs w1 ao l :=
  h.imp id fun ⟨b, off, h1, h2⟩ => ⟨b, off, h1, fun k hk => (h2 k hk).next hb⟩
theorem Bxs.at {w : World} {ao : Option Addr} {l : List Bx} (h : Bxs w ao l) {k : Nat} (hk : k < l.length) : ∃ b off, ao = some ⟨b, off, none⟩ ∧ BxAt w b (off + k * 6) (l[k]'hk) := by
  rcases h with rfl | ⟨b, off, h1, h2⟩
  · exact absurd hk (Nat.not_lt_zero _)
  · exact ⟨b, off, h1, h2 k hk⟩
theorem Bxs.nil (w : World) (ao : Option Addr) : Bxs w ao [] := .inl rfl
theorem Bxs.one (w : World) (a : Bx) : Bxs (w.alloc (.cells #[.int .i64 a.lx, .int .i64 a.ly, .int .i64 a.lz, .int .i64 a.hx, .int .i64 a.hy, .int .i64 a.hz] 25)) (some ⟨w.heap.size, 0, none⟩) [a] := by
  refine .inr ⟨w.heap.size, 0, rfl, fun k hk => ?_⟩
  match k, hk with
  | 0, _ => exact ⟨by simp, by go_simp, by go_simp, by go_simp, by go_simp, by go_simp, by go_simp⟩
theorem Bxs.two (w : World) (a c : Bx) : Bxs (w.alloc (.cells #[.int .i64 a.lx, .int .i64 a.ly, .int .i64 a.lz, .int .i64 a.hx, .int .i64 a.hy, .int .i64 a.hz, .int .i64 c.lx, .int .i64 c.ly, .int .i64 c.lz, .int .i64 c.hx, .int .i64 c.hy, .int .i64 c.hz] 25)) (some ⟨w.heap.size, 0, none⟩) [a, c] := by
  refine .inr ⟨w.heap.size, 0, rfl, fun k hk => ?_⟩
  match k, hk with
  | 0, _ => exact ⟨by simp, by go_simp, by go_simp, by go_simp, by go_simp, by go_simp, by go_simp⟩
  | 1, _ => exact ⟨by simp, by go_simp, by go_simp, by go_simp, by go_simp, by go_simp, by go_simp⟩
/-- A slice of points at the head of a block. -/
def Pts (w : World) (b : Nat) (l : List Pt) : Prop :=
  ∀ k (h : k < l.length), w.cell? ⟨b, k * 3, none⟩ = some (.int .i64 (l[k]'h).x) ∧ w.cell? ⟨b, k * 3 + 1, none⟩ = some (.int .i64 (l[k]'h).y) ∧ w.cell? ⟨b, k * 3 + 2, none⟩ = some (.int .i64 (l[k]'h).z)
theorem Pts.next {w w1 : World} {b : Nat} {l : List Pt} (h : Pts w b l) (hb : Below w.heap.size w w1) : Pts w1 b l :=
  fun k hk => ⟨cell_later hb (h k hk).1, cell_later hb (h k hk).2.1, cell_later hb (h k hk).2.2⟩
theorem Pts.one (w : World) (p : Pt) : Pts (w.alloc (.cells #[.int .i64 p.x, .int .i64 p.y, .int .i64 p.z] 23)) w.heap.size [p] := by
  intro k hk
  match k, hk with
  | 0, _ => exact ⟨by go_simp, by go_simp, by go_simp⟩
theorem Pts.two (w : World) (p q : Pt) : Pts (w.alloc (.cells #[.int .i64 p.x, .int .i64 p.y, .int .i64 p.z, .int .i64 q.x, .int .i64 q.y, .int .i64 q.z] 23)) w.heap.size [p, q] := by
  intro k hk
  match k, hk with
  | 0, _ => exact ⟨by go_simp, by go_simp, by go_simp⟩
  | 1, _ => exact ⟨by go_simp, by go_simp, by go_simp⟩

theorem box3 {w : World} {b : Nat} {u0 u1 u2 : Value} (c0 : w.cell? ⟨b, 0, none⟩ = some u0) (c1 : w.cell? ⟨b, 1, none⟩ = some u1) (c2 : w.cell? ⟨b, 2, none⟩ = some u2) (x y z : Value) :
    (((w.setCell ⟨b, 0, none⟩ x).setCell ⟨b, 1, none⟩ y).setCell ⟨b, 2, none⟩ z).cell? ⟨b, 0, none⟩ = some x ∧
    (((w.setCell ⟨b, 0, none⟩ x).setCell ⟨b, 1, none⟩ y).setCell ⟨b, 2, none⟩ z).cell? ⟨b, 1, none⟩ = some y ∧
    (((w.setCell ⟨b, 0, none⟩ x).setCell ⟨b, 1, none⟩ y).setCell ⟨b, 2, none⟩ z).cell? ⟨b, 2, none⟩ = some z := by
  refine ⟨?_, ?_, ?_⟩
  all_goals simp [go_sem, c0, c1, c2]

/-- An array of three, indexed. -/
theorem ix0 (x y z : Int) (w : World) : (Instr.index 67 (.agg #[.int .i64 x, .int .i64 y, .int .i64 z]) (.int .i64 0)).run Try.prog w = .ok (.int .i64 x) w := by kernel_rfl
theorem ix1 (x y z : Int) (w : World) : (Instr.index 67 (.agg #[.int .i64 x, .int .i64 y, .int .i64 z]) (.int .i64 1)).run Try.prog w = .ok (.int .i64 y) w := by kernel_rfl
theorem ix2 (x y z : Int) (w : World) : (Instr.index 67 (.agg #[.int .i64 x, .int .i64 y, .int .i64 z]) (.int .i64 2)).run Try.prog w = .ok (.int .i64 z) w := by kernel_rfl

/-- The numbers of a point. -/
theorem numbers_any (p : Pt) (w : World) :
    Calls Try.prog 49 #[pv p] w fun e w' => e = .returned (pv p) ∧ w' = (w.alloc (.cells #[.int .i64 p.x, .int .i64 p.y, .int .i64 p.z] 23)).alloc (.cells #[.int .i64 p.x, .int .i64 p.y, .int .i64 p.z] 67) := by
  go_enter Try.func49, Try.ntmps49
  go_wp2
  refine bodyPost_ret (v := pv p) (by simp [results, Try.results49, go_sem]) rfl ⟨rfl, rfl⟩
end Go.Proofs.Ytiafcgbohckmmaa
