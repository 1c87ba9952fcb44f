/- A ware out of a text, the document's way: the region that builds it. -/
import Derived.Test.YtefjeohhdmmboaaDoorRWare
namespace Go.Proofs.YtefjeohhdmmboaaDoor
open Go.RowKit Go.Shelf
def rwV (A : Wr) (kd : Int) (g cap g6 cap6 base : Nat) (d : Nat) (v : Value) (w : World) : Prop :=
  match d with
  | 53 => v = .slice (some ⟨g, 0, none⟩) 12 cap
  | 54 => v = .pointer (some ⟨g, 0, none⟩)
  | 55 => v = .string A.name
  | 56 => v = .int .i64 kd
  | 57 => v = .slice (some ⟨g6, 0, none⟩) 10 cap6
  | 58 => v = .pointer (some ⟨g6, 0, none⟩)
  | 59 => v = .int .i64 A.rows
  | 60 => v = .slice (some ⟨g6, 0, none⟩) 10 cap6
  | 61 => v = .pointer (some ⟨g6, 1, none⟩)
  | 62 => v = .int .i64 A.cols
  | 63 => v = .slice (some ⟨g6, 0, none⟩) 10 cap6
  | 64 => v = .pointer (some ⟨g6, 2, none⟩)
  | 65 => v = .int .i64 A.x
  | 66 => v = .slice (some ⟨g6, 0, none⟩) 10 cap6
  | 67 => v = .pointer (some ⟨g6, 3, none⟩)
  | 68 => v = .int .i64 A.y
  | 69 => v = .slice (some ⟨g6, 0, none⟩) 10 cap6
  | 70 => v = .pointer (some ⟨g6, 4, none⟩)
  | 71 => v = .int .i64 A.pitch
  | 72 => v = .slice (some ⟨g6, 0, none⟩) 10 cap6
  | 73 => v = .pointer (some ⟨g6, 5, none⟩)
  | 74 => v = .int .i64 A.wid
  | 75 => v = .slice (some ⟨g6, 0, none⟩) 10 cap6
  | 76 => v = .pointer (some ⟨g6, 6, none⟩)
  | 77 => v = .int .i64 A.len
  | 78 => v = .slice (some ⟨g6, 0, none⟩) 10 cap6
  | 79 => v = .pointer (some ⟨g6, 7, none⟩)
  | 80 => v = .int .i64 A.hei
  | 81 => v = .slice (some ⟨g6, 0, none⟩) 10 cap6
  | 82 => v = .pointer (some ⟨g6, 8, none⟩)
  | 83 => v = .int .i64 A.deep
  | 84 => v = .slice (some ⟨g6, 0, none⟩) 10 cap6
  | 85 => v = .pointer (some ⟨g6, 9, none⟩)
  | 86 => v = .int .i64 A.cap
  | 87 => v = .agg #[.string A.name, .int .i64 kd, .int .i64 A.rows, .int .i64 A.cols, .int .i64 A.x, .int .i64 A.y, .int .i64 A.pitch, .int .i64 A.wid, .int .i64 A.len, .int .i64 A.hei, .int .i64 A.deep, .int .i64 A.cap]
  | 9 => NewW base v w
  | _ => True
theorem rwV_mono (A : Wr) (kd : Int) (g cap g6 cap6 base : Nat) (d : Nat) (v : Value) (w w' : World) (h : rwV A kd g cap g6 cap6 base d v w) (hb : Below w.heap.size w w') : rwV A kd g cap g6 cap6 base d v w' := by
  unfold rwV at h ⊢
  split <;> simp only [] at h <;> first | exact h | exact h.later hb
theorem rwV_87 (A : Wr) (kd : Int) (g cap g6 cap6 base : Nat) (v : Value) (w : World) (hk : A.kind = kd) (h : rwV A kd g cap g6 cap6 base 87 v w) : v = wv A := by subst hk; exact h
theorem rwV_9 (A : Wr) (kd : Int) (g cap g6 cap6 base : Nat) (v : Value) (w : World) (h : rwV A kd g cap g6 cap6 base 9 v w) : NewW base v w := h
end Go.Proofs.YtefjeohhdmmboaaDoor
