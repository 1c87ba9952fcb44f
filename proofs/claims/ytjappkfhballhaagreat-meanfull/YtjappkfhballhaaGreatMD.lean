/- Blocks of cells; within, wareAt, wellMost walked. -/
import Derived.Test.YtjappkfhballhaaGreatMC
namespace Go.Proofs.YtjappkfhballhaaGreat
open Go.RowKit F

/-- A block holds these cells, none of them frozen. -/
def Bk (b : Nat) (cs : List Value) (w : World) : Prop := b < w.heap.size ∧ ∀ k v, cs[k]? = some v → w.cell? ⟨b, k, none⟩ = some v ∧ w.frozen? ⟨b, k, none⟩ = false
theorem Bk.c {b : Nat} {cs : List Value} {w : World} (h : Bk b cs w) (k : Nat) {v : Value} (hv : cs[k]? = some v) : w.cell? ⟨b, k, none⟩ = some v := (h.2 k v hv).1
theorem Bk.f {b : Nat} {cs : List Value} {w : World} (h : Bk b cs w) (k : Nat) {v : Value} (hv : cs[k]? = some v) : w.frozen? ⟨b, k, none⟩ = false := (h.2 k v hv).2
theorem Bk.later {b : Nat} {cs : List Value} {w w1 : World} (h : Bk b cs w) (hb : Below w.heap.size w w1) : Bk b cs w1 :=
  ⟨Nat.lt_of_lt_of_le h.1 hb.size, fun k v hv => ⟨cell_later hb (h.2 k v hv).1, (hb.frozen (p := ⟨b, k, none⟩) h.1).trans (h.2 k v hv).2⟩⟩
theorem Bk.new (w : World) (cs : List Value) (t : TypeId) (n : Nat) (hn : n = w.heap.size) : Bk n cs (w.alloc (.cells cs.toArray t)) := by
  subst hn
  refine ⟨by simp, fun k v hv => ?_⟩
  have hlt : k < cs.length := (List.getElem?_eq_some_iff.1 hv).1
  constructor
  · go_simp
    exact (List.getElem?_eq_some_iff.1 hv).2
  · go_simp
theorem Bk.put {b : Nat} {cs : List Value} {w : World} (h : Bk b cs w) (k : Nat) (v : Value) : Bk b (cs.set k v) (w.setCell ⟨b, k, none⟩ v) := by
  refine ⟨by simpa [World.setCell] using h.1, fun j u hu => ?_⟩
  rw [List.getElem?_set] at hu
  by_cases e : k = j
  · subst e
    rw [if_pos rfl] at hu
    split at hu
    · rename_i hlt
      injection hu with hu
      subst hu
      have hc := h.2 k (cs[k]'hlt) (List.getElem?_eq_getElem hlt)
      refine ⟨?_, by rw [World.frozen?_setCell]; exact hc.2⟩
      exact World.cell?_setCell_same' w _ v (by rw [hc.1]; rfl)
    · cases hu
  · rw [if_neg e] at hu
    have hc := h.2 j u hu
    refine ⟨?_, by rw [World.frozen?_setCell]; exact hc.2⟩
    simp [go_sem, hc.1]
theorem Bk.other {b b' : Nat} {cs : List Value} {w : World} (h : Bk b cs w) (hne : b ≠ b') (k : Nat) (v : Value) : Bk b cs (w.setCell ⟨b', k, none⟩ v) := by
  refine ⟨by simpa [World.setCell] using h.1, fun j u hu => ?_⟩
  have hc := h.2 j u hu
  exact ⟨(World.cell?_of_block (Below.heap_setCell w ⟨b', k, none⟩ v b hne)).trans hc.1, by rw [World.frozen?_setCell]; exact hc.2⟩
/-- Cells of a block that nothing has turned. -/
theorem Bk.same {b : Nat} {cs : List Value} {w w1 : World} (h : Bk b cs w) (hs : w.heap.size ≤ w1.heap.size) (hb : w1.heap[b]? = w.heap[b]?) : Bk b cs w1 :=
  ⟨Nat.lt_of_lt_of_le h.1 hs, fun k v hv => ⟨(World.cell?_of_block hb).trans (h.2 k v hv).1, (World.frozen?_of_block hb).trans (h.2 k v hv).2⟩⟩

theorem mwithin_any (lo x hi : Int) (w : World) :
    Calls Tryz.prog 70 #[.int .i64 lo, .int .i64 x, .int .i64 hi] w fun e w' => e = .returned (.bool (inR lo hi x)) ∧ w' = w := by
  unfold inR
  by_cases h : lo ≤ x
  · go_enter Tryz.func70, Tryz.ntmps70
    go_wp2
    go_ret
    exact ⟨by simp [h], rfl⟩
  · go_enter Tryz.func70, Tryz.ntmps70
    go_wp2
    go_ret
    exact ⟨by simp; omega, rfl⟩

theorem enW : ∀ args w, (callFunc 92 args).run Tryz.prog w = .ok (.enter 92 args) w := enters_of Tryz.func92 (by kernel_rfl) rfl
set_option maxHeartbeats 1600000 in
theorem ware_test (a : Sit) (n : Int) (B : Nat) (w : World) (hB : B < w.heap.size) (hc : w.cell? ⟨B, 0, none⟩ = some (.int .i64 n)) :
    Calls Tryz.prog 92 #[sv a, ptr B] w fun e w' => e = .returned (.bool (a.slot == n)) ∧ Below w.heap.size w w' := by
  have hne : B ≠ w.heap.size := by omega
  go_enter Tryz.func92, Tryz.ntmps92
  go_wp2
  go_ret
  exact ⟨rfl, (Below.refl _ _).alloc (Nat.le_refl _) _⟩

abbrev wcl (a : Wr) : List Value := [.string a.name, .int .i64 a.kind, .int .i64 a.rows, .int .i64 a.cols, .int .i64 a.x, .int .i64 a.y, .int .i64 a.pitch, .int .i64 a.wid, .int .i64 a.len, .int .i64 a.hei, .int .i64 a.deep, .int .i64 a.cap]
abbrev wbo (a : Wr) : Obj := .cells #[.string a.name, .int .i64 a.kind, .int .i64 a.rows, .int .i64 a.cols, .int .i64 a.x, .int .i64 a.y, .int .i64 a.pitch, .int .i64 a.wid, .int .i64 a.len, .int .i64 a.hei, .int .i64 a.deep, .int .i64 a.cap] 61
/-- A ware put over another. -/
abbrev put12 (w : World) (b : Nat) (s : Wr) : World := (((((((((((w.setCell ⟨b, 0, none⟩ (.string s.name)).setCell ⟨b, 1, none⟩ (.int .i64 s.kind)).setCell ⟨b, 2, none⟩ (.int .i64 s.rows)).setCell ⟨b, 3, none⟩ (.int .i64 s.cols)).setCell ⟨b, 4, none⟩ (.int .i64 s.x)).setCell ⟨b, 5, none⟩ (.int .i64 s.y)).setCell ⟨b, 6, none⟩ (.int .i64 s.pitch)).setCell ⟨b, 7, none⟩ (.int .i64 s.wid)).setCell ⟨b, 8, none⟩ (.int .i64 s.len)).setCell ⟨b, 9, none⟩ (.int .i64 s.hei)).setCell ⟨b, 10, none⟩ (.int .i64 s.deep)).setCell ⟨b, 11, none⟩ (.int .i64 s.cap)
theorem below_put12 {n b : Nat} {w w' : World} {s : Wr} (h : Below n w w') (hn : n ≤ b) : Below n w (put12 w' b s) :=
  (((((((((((h.setCell hn _).setCell hn _).setCell hn _).setCell hn _).setCell hn _).setCell hn _).setCell hn _).setCell hn _).setCell hn _).setCell hn _).setCell hn _).setCell hn _
def wareV (l : List Sit) (p : Plc) : Wr × Int := match wareOf l p with
  | some a => (a, 0)
  | none => (zWr, 5)
end Go.Proofs.YtjappkfhballhaaGreat
