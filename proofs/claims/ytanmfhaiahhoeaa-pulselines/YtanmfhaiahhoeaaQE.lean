/- The axes of a move. -/
import Derived.Test.YtanmfhaiahhoeaaQC
namespace Go.Proofs.Ytanmfhaiahhoeaa
open Go.RowKit

/-- Three axes. -/
abbrev a6 (x l0 y l1 z l2 : Int) : Value := .agg #[.int .i64 x, .int .i64 l0, .int .i64 y, .int .i64 l1, .int .i64 z, .int .i64 l2]
set_option maxHeartbeats 6400000 in
set_option maxRecDepth 100000 in
theorem axesOf_any (x y z p : Int) (w : World) : Calls Try.prog 39 #[v3 x y z, .int .i64 p] w fun e w' => e = .returned (a6 x p y p z p) ∧ Below w.heap.size w w' := by
  have HN : Hid (∀ W, Calls Try.prog 38 #[v3 x y z] W fun e w' => e = .returned (v3 x y z) ∧ w' = (W.alloc (o3 x y z 23)).alloc (o3 x y z 49)) := numbers_any x y z
  have i0 := ix0 x y z
  have i1 := ix1 x y z
  have i2 := ix2 x y z
  go_enter Try.func39, Try.ntmps39
  go_wp2_with fail
  refine (HN.out _).mono ?_
  rintro e w1 ⟨rfl, hw1⟩
  have HB : Hid (Below w.heap.size w w1) := by show Below _ _ _; rw [hw1]; exact (three_new _ _ _ _).trans ((two_new _ _ _).mono (three_new _ _ _ _).size)
  have HA : Hid (Bk (w.heap.size + 1) [.int .i64 0, .int .i64 0, .int .i64 0, .int .i64 0, .int .i64 0, .int .i64 0] w1) := by
    show Bk _ _ _
    rw [hw1]
    exact ((Bk.new (w.alloc _) [.int .i64 0, .int .i64 0, .int .i64 0, .int .i64 0, .int .i64 0, .int .i64 0] 60 (w.heap.size + 1) (by simp)).later ((Below.refl _ _).alloc (Nat.le_refl _) _)).later (two_new _ _ _)
  have HC : Hid (Bk (w.heap.size + 1 + 1) [.int .i64 0, .int .i64 0, .int .i64 0, .int .i64 0, .int .i64 0, .int .i64 0] w1) := by
    show Bk _ _ _
    rw [hw1]
    exact (Bk.new ((w.alloc _).alloc _) [.int .i64 0, .int .i64 0, .int .i64 0, .int .i64 0, .int .i64 0, .int .i64 0] 60 (w.heap.size + 1 + 1) (by simp)).later (two_new _ _ _)
  clear hw1
  have c0 := HC.out.c 0 rfl
  have c1 := HC.out.c 1 rfl
  have c2 := HC.out.c 2 rfl
  have c3 := HC.out.c 3 rfl
  have c4 := HC.out.c 4 rfl
  have c5 := HC.out.c 5 rfl
  have f0 := HC.out.f 0 rfl
  have f1 := HC.out.f 1 rfl
  have f2 := HC.out.f 2 rfl
  have f3 := HC.out.f 3 rfl
  have f4 := HC.out.f 4 rfl
  have f5 := HC.out.f 5 rfl
  go_wp2_with fail
  refine wp_loop_rounds 4 ?_
  rw [rounds_succ]
  go_wp2
  rw [rounds_succ]
  go_wp2
  rw [rounds_succ]
  go_wp2
  rw [rounds_succ]
  obtain ⟨W, hW⟩ : ∃ W, W = ((((((w1.setCell ⟨w.heap.size + 1 + 1, 0, none⟩ (.int .i64 x)).setCell ⟨w.heap.size + 1 + 1, 1, none⟩ (.int .i64 p)).setCell ⟨w.heap.size + 1 + 1, 2, none⟩ (.int .i64 y)).setCell ⟨w.heap.size + 1 + 1, 3, none⟩ (.int .i64 p)).setCell ⟨w.heap.size + 1 + 1, 4, none⟩ (.int .i64 z)).setCell ⟨w.heap.size + 1 + 1, 5, none⟩ (.int .i64 p)) := ⟨_, rfl⟩
  rw [← hW]
  have HC2 : Hid (Bk (w.heap.size + 1 + 1) [.int .i64 x, .int .i64 p, .int .i64 y, .int .i64 p, .int .i64 z, .int .i64 p] W) := by
    show Bk _ _ _
    rw [hW]
    exact (((((HC.out.put 0 (.int .i64 x)).put 1 (.int .i64 p)).put 2 (.int .i64 y)).put 3 (.int .i64 p)).put 4 (.int .i64 z)).put 5 (.int .i64 p)
  have HA2 : Hid (Bk (w.heap.size + 1) [.int .i64 0, .int .i64 0, .int .i64 0, .int .i64 0, .int .i64 0, .int .i64 0] W) := by
    show Bk _ _ _
    rw [hW]
    exact (((((HA.out.other (by omega) 0 _).other (by omega) 1 _).other (by omega) 2 _).other (by omega) 3 _).other (by omega) 4 _).other (by omega) 5 _
  have HB2 : Hid (Below w.heap.size w W) := by
    show Below _ _ _
    rw [hW]
    iterate 6 refine Below.setCell ?_ (by show w.heap.size ≤ w.heap.size + 1 + 1; omega) _
    exact HB.out
  clear c0 c1 c2 c3 c4 c5 f0 f1 f2 f3 f4 f5 hW
  have c0 := HC2.out.c 0 rfl
  have c1 := HC2.out.c 1 rfl
  have c2 := HC2.out.c 2 rfl
  have c3 := HC2.out.c 3 rfl
  have c4 := HC2.out.c 4 rfl
  have c5 := HC2.out.c 5 rfl
  have a0 := HA2.out.c 0 rfl
  have g0 := HA2.out.f 0 rfl
  have a1 := HA2.out.c 1 rfl
  have g1 := HA2.out.f 1 rfl
  have a2 := HA2.out.c 2 rfl
  have g2 := HA2.out.f 2 rfl
  have a3 := HA2.out.c 3 rfl
  have g3 := HA2.out.f 3 rfl
  have a4 := HA2.out.c 4 rfl
  have g4 := HA2.out.f 4 rfl
  have a5 := HA2.out.c 5 rfl
  have g5 := HA2.out.f 5 rfl
  go_wp2
  have HR := (((((HA2.out.put 0 (.int .i64 x)).put 1 (.int .i64 p)).put 2 (.int .i64 y)).put 3 (.int .i64 p)).put 4 (.int .i64 z)).put 5 (.int .i64 p)
  have HRB : Below w.heap.size w ((((((W.setCell ⟨w.heap.size + 1, 0, none⟩ (.int .i64 x)).setCell ⟨w.heap.size + 1, 1, none⟩ (.int .i64 p)).setCell ⟨w.heap.size + 1, 2, none⟩ (.int .i64 y)).setCell ⟨w.heap.size + 1, 3, none⟩ (.int .i64 p)).setCell ⟨w.heap.size + 1, 4, none⟩ (.int .i64 z)).setCell ⟨w.heap.size + 1, 5, none⟩ (.int .i64 p)) := by
    iterate 6 refine Below.setCell ?_ (by show w.heap.size ≤ w.heap.size + 1; omega) _
    exact HB2.out
  clear c0 c1 c2 c3 c4 c5 a0 a1 a2 a3 a4 a5 g0 g1 g2 g3 g4 g5
  generalize ((((((W.setCell ⟨w.heap.size + 1, 0, none⟩ (.int .i64 x)).setCell ⟨w.heap.size + 1, 1, none⟩ (.int .i64 p)).setCell ⟨w.heap.size + 1, 2, none⟩ (.int .i64 y)).setCell ⟨w.heap.size + 1, 3, none⟩ (.int .i64 p)).setCell ⟨w.heap.size + 1, 4, none⟩ (.int .i64 z)).setCell ⟨w.heap.size + 1, 5, none⟩ (.int .i64 p)) = W2 at *
  have r0 := HR.c 0 rfl
  have r1 := HR.c 1 rfl
  have r2 := HR.c 2 rfl
  have r3 := HR.c 3 rfl
  have r4 := HR.c 4 rfl
  have r5 := HR.c 5 rfl
  refine bodyPost_ret (v := a6 x p y p z p) (by simp [results, Try.results39, go_sem, r0, r1, r2, r3, r4, r5]) rfl ⟨rfl, HRB⟩
theorem rm_zero' (a p : Nat) : rm a p 0 = p := by
  by_cases h : p = 0
  · subst h; simp [rm]
  · exact rm_zero (by omega)
/-- What an axis's list of cells is behind k parts. -/
def axs (x y z : Int) (p k : Nat) : List Value := [.int .i64 x, .int .i64 (rm x.natAbs p k : Nat), .int .i64 y, .int .i64 (rm y.natAbs p k : Nat), .int .i64 z, .int .i64 (rm z.natAbs p k : Nat)]
end Go.Proofs.Ytanmfhaiahhoeaa
