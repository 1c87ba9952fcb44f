/- The document's QuantityText, walked. -/
import Derived.Test.YtjlbheeipchpkaaDoorRefDec
namespace Go.Proofs.YtjlbheeipchpkaaDoor
open Go.RowKit Go.Shelf

theorem slice_at {j : Nat} {u : List UInt8} (hj : leastL[j]? = some u) (W : World) : (W.alloc (.cells #[.string ⟨#[]⟩, .string ⟨#[110, 108]⟩, .string ⟨#[117, 109]⟩, .string ⟨#[109, 75]⟩, .string ⟨#[109, 115]⟩, .string ⟨#[114, 112, 109]⟩] 9)).cell? ⟨W.heap.size, j, none⟩ = some (.string ⟨u.toArray⟩) := by
  rw [World.cell?_alloc_at _ _ _ _ (by simp)]
  have e : (#[.string ⟨#[]⟩, .string ⟨#[110, 108]⟩, .string ⟨#[117, 109]⟩, .string ⟨#[109, 75]⟩, .string ⟨#[109, 115]⟩, .string ⟨#[114, 112, 109]⟩] : Array Value) = (leastL.map fun l => Value.string ⟨l.toArray⟩).toArray := rfl
  rw [e]
  simp [hj]
theorem slice_in {j : Nat} {u : List UInt8} (hj : leastL[j]? = some u) (w : World) (v : Int) : ((w.alloc (.cells #[.int .i64 j, .int .i64 v] 23)).alloc (.cells #[.string ⟨#[]⟩, .string ⟨#[110, 108]⟩, .string ⟨#[117, 109]⟩, .string ⟨#[109, 75]⟩, .string ⟨#[109, 115]⟩, .string ⟨#[114, 112, 109]⟩] 9)).cell? ⟨w.heap.size + 1, j, none⟩ = some (.string ⟨u.toArray⟩) := by
  have h := slice_at hj (w.alloc (.cells #[.int .i64 j, .int .i64 v] 23))
  rw [show (w.alloc (.cells #[.int .i64 j, .int .i64 v] 23)).heap.size = w.heap.size + 1 by simp] at h
  exact h
theorem kept_in {j : Nat} {u : List UInt8} {w w4 : World} {v : Int} (hj : leastL[j]? = some u) (hb4 : Below ((w.alloc (.cells #[.int .i64 j, .int .i64 v] 23)).alloc (.cells #[.string ⟨#[]⟩, .string ⟨#[110, 108]⟩, .string ⟨#[117, 109]⟩, .string ⟨#[109, 75]⟩, .string ⟨#[109, 115]⟩, .string ⟨#[114, 112, 109]⟩] 9)).drew.heap.size ((w.alloc (.cells #[.int .i64 j, .int .i64 v] 23)).alloc (.cells #[.string ⟨#[]⟩, .string ⟨#[110, 108]⟩, .string ⟨#[117, 109]⟩, .string ⟨#[109, 75]⟩, .string ⟨#[109, 115]⟩, .string ⟨#[114, 112, 109]⟩] 9)).drew w4) : w4.cell? ⟨w.heap.size + 1, j, none⟩ = some (.string ⟨u.toArray⟩) :=
  (hb4.cell (p := ⟨w.heap.size + 1, j, none⟩) (by simp)).trans (slice_in hj w v)
theorem below_one {w w4 : World} {o : Obj} (h : Below (w.alloc o).drew.heap.size (w.alloc o).drew w4) : Below w.heap.size w w4 :=
  ((Below.refl _ _).alloc (Nat.le_refl _) _).trans ((below_undrew h).mono (by simp))
theorem below_two {w w4 : World} {o p : Obj} (h : Below ((w.alloc o).alloc p).drew.heap.size ((w.alloc o).alloc p).drew w4) : Below w.heap.size w w4 :=
  (((Below.refl _ _).alloc (Nat.le_refl _) _).alloc (by simp) _).trans ((below_undrew h).mono (by simp; omega))

set_option maxHeartbeats 3200000 in
set_option maxRecDepth 20000 in
theorem text_ok (j : Nat) (u : List UInt8) (v : Int) (w : World) (hj : leastL[j]? = some u) (hv0 : -1000000000 ≤ v) (hv1 : v ≤ 1000000000) :
    Calls Tryd.prog 10 #[.agg #[.int .i64 j, .int .i64 v]] w fun e w' => e = .returned (.string ⟨(Lib.itoa v ++ u).toArray⟩) ∧ Below w.heap.size w w' := by
  have hj6 : j < 6 := by
    have := (List.getElem?_eq_some_iff.1 hj).1
    simpa [leastL] using this
  have HJ : Hid (leastL[j]? = some u) := hj
  have hul : u.length ≤ 3 := by
    have hm := List.mem_of_getElem? hj
    have : ∀ x ∈ leastL, x.length ≤ 3 := by decide
    exact this u hm
  have hil := itoa_len v hv0 hv1
  have s1 := slice_at hj
  have s2 := slice_in hj w v
  clear hj
  rw [← cat_arr]
  go_enter Tryd.func10, Tryd.ntmps10
  go_wp2
  go_region_with (go_at_call 24; refine (decAny v _ hv0 hv1).mono ?_; rintro e w4 ⟨rfl, hb4⟩; have hz4 : w.heap.size < w4.heap.size := (by have h := hb4.size; simp at h; omega); have a0 : w4.cell? ⟨w.heap.size, 0, none⟩ = some (.int .i64 j) := (hb4.cell (p := ⟨w.heap.size, 0, none⟩) (by simp; try omega)).trans (by go_simp); try (have a1 := kept_in HJ.out hb4))
  all_goals (try go_wp2)
  all_goals
    go_ret
    refine ⟨rfl, ?_⟩
    first
      | exact below_one hb4
      | exact below_two hb4
      | exact (below_one hb4).alloc (Nat.le_of_lt hz4) _
end Go.Proofs.YtjlbheeipchpkaaDoor
