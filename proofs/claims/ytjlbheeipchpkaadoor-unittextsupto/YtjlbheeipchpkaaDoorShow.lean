/- unit.Show, unit.May and workcellkeep.picked, walked. -/
import Derived.Test.YtjlbheeipchpkaaDoorRead5
import Derived.Lib.AppendIntMem
import Derived.WalkSmall
namespace Go.Proofs.YtjlbheeipchpkaaDoor
open Go.RowKit Go.Shelf

/-- How each kind's least unit is called. -/
def leastL : List (List UInt8) := [[], [110, 108], [117, 109], [109, 75], [109, 115], [114, 112, 109]]
/-- The package-level variables that are read, as they are laid. -/
structure Tabs (w : World) : Prop where
  utf8 : Lib.Utf8Tabs 2 3 w
  pow : Lib.TabIs Tryd.prog w "internal/strconv.uint64pow10" .u64 Lib.pow10Tab
  least : ∀ j (l : List UInt8), leastL[j]? = some l → w.cell? ⟨0, j, none⟩ = some (.string ⟨l.toArray⟩)
  size : 1 < w.heap.size
theorem Tabs.next {w w1 : World} (h : Tabs w) (hb : Below w.heap.size w w1) : Tabs w1 :=
  ⟨tabs_next h.utf8 hb, var?_below hb (g := 1) (by kernel_rfl) h.size h.pow, fun j l hj => cell_later hb (h.least j l hj), Nat.lt_of_lt_of_le h.size hb.size⟩

theorem itoaB (n : Int) (h0 : -9223372036854775808 ≤ n) (h1 : n ≤ 9223372036854775807) (w : World) (htab : Lib.TabIs Tryd.prog w "internal/strconv.uint64pow10" .u64 Lib.pow10Tab) :
    Calls Tryd.prog 13 #[.int .i64 n] w fun e w' => e = .returned (.string ⟨(Lib.itoa n).toArray⟩) ∧ Below w.heap.size w w' :=
  (Any.strconv_Itoa Tryd.laysM171 n h0 h1 w htab).mono fun _ _ ⟨he, k, os, hw⟩ => ⟨he, by rw [hw]; exact Lib.below_grow _ _ (Nat.le_refl _) _ _⟩

set_option maxHeartbeats 400000 in
theorem may_any (k v : Int) (w : World) :
    Calls Tryd.prog 9 #[.agg #[.int .i64 k, .int .i64 v]] w fun e w' => e = .returned (.bool (ref1 k v == 0)) ∧ Below w.heap.size w w' := by
  go_enter Tryd.func9, Tryd.ntmps9
  go_wp2_with fail
  refine (refusal1 _ k v _ (by go_simp) (by go_simp)).mono ?_
  rintro e w1 ⟨rfl, hb⟩
  go_wp2
  go_ret
  refine ⟨rfl, Below.trans ?_ (hb.mono (by simp; omega))⟩
  exact ((Below.refl _ _).alloc (Nat.le_refl _) _).alloc (by simp) _

/-- Which of n things a raw number speaks of. -/
def pick (n of : Int) : Int := (if n < 0 then -(n + 1) else n) % of
set_option maxHeartbeats 400000 in
theorem picked (n m : Int) (w : World) (h0 : -9223372036854775808 ≤ n) (h1 : n ≤ 9223372036854775807) (hm : 0 < m) :
    Calls Tryd.prog 11 #[.int .i64 n, .int .i64 m] w fun e w' => e = .returned (.int .i64 (pick n m)) ∧ w' = w := by
  have hmz : (m == 0) = false := by simp; omega
  by_cases hn : n < 0
  · have e : pick n m = -(n + 1) % m := by unfold pick; rw [if_pos hn]
    rw [e]; clear e
    have hp : 0 ≤ -(n + 1) := by omega
    go_enter Tryd.func11, Tryd.ntmps11
    go_wp2
    go_ret
    exact ⟨ret_int (by rw [← Int.tmod_eq_emod_of_nonneg hp, Int.neg_tmod]), rfl⟩
  · have e : pick n m = n % m := by unfold pick; rw [if_neg hn]
    rw [e]; clear e
    go_enter Tryd.func11, Tryd.ntmps11
    go_wp2
    go_ret
    exact ⟨rfl, rfl⟩

set_option maxHeartbeats 800000 in
theorem show_no (k v : Int) (w : World) (h : ref1 k v ≠ 0) :
    Calls Tryd.prog 5 #[.agg #[.int .i64 k, .int .i64 v]] w fun e w' => e = .returned (.tuple #[.string ⟨#[]⟩, .int .i64 (ref1 k v)]) ∧ Below w.heap.size w w' := by
  have hne : (ref1 k v == 0) = false := by simp [h]
  have hne2 : (ref1 k v != 0) = true := by simp [h]
  clear h
  go_enter Tryd.func5, Tryd.ntmps5
  go_wp2_with fail
  refine (refusal1 _ k v _ (by go_simp) (by go_simp)).mono ?_
  rintro e w1 ⟨rfl, hb⟩
  go_wp2
  go_ret2
  refine ⟨rfl, Below.trans ?_ (hb.mono (by simp; omega))⟩
  exact ((Below.refl _ _).alloc (Nat.le_refl _) _).alloc (by simp) _

theorem cat_arr (a b : List UInt8) : (⟨a.toArray⟩ : ByteArray) ++ ⟨b.toArray⟩ = ⟨(a ++ b).toArray⟩ := by
  apply ByteArray.ext
  rw [ByteArray.data_append]
  simp

theorem dec_len (u : Nat) : (Lib.decDigits u).length ≤ u + 1 := by
  induction u using Nat.strongRecOn with
  | _ u ih =>
    rw [Lib.decDigits]
    split
    · simp
    · have := ih (u / 10) (by omega)
      rw [List.length_append, List.length_singleton]; omega
theorem itoa_len (v : Int) (h0 : -1000000000 ≤ v) (h1 : v ≤ 1000000000) : (Lib.itoa v).length ≤ 1000000002 := by
  unfold Lib.itoa
  split
  · have := dec_len v.natAbs; rw [List.length_cons]; omega
  · have := dec_len v.toNat; omega

set_option maxHeartbeats 800000 in
theorem show_ok (j : Nat) (u : List UInt8) (v : Int) (w : World) (hj : leastL[j]? = some u) (hv0 : -1000000000 ≤ v) (hv1 : v ≤ 1000000000) (hT : Tabs w) :
    Calls Tryd.prog 5 #[.agg #[.int .i64 j, .int .i64 v]] w fun e w' => e = .returned (.tuple #[.string ⟨(Lib.itoa v ++ u).toArray⟩, .int .i64 0]) ∧ Below w.heap.size w w' := by
  have hj6 : j < 6 := by
    have := (List.getElem?_eq_some_iff.1 hj).1
    simpa [leastL] using this
  have h0 : ref1 j v = 0 := ref1_ok (by omega) (by omega) hv0 hv1
  have HJ : Hid (leastL[j]? = some u) := hj
  have hul : u.length ≤ 3 := by
    have hm := List.mem_of_getElem? hj
    have : ∀ x ∈ leastL, x.length ≤ 3 := by decide
    exact this u hm
  have hil := itoa_len v hv0 hv1
  clear hj
  go_enter Tryd.func5, Tryd.ntmps5
  go_wp2_with fail
  refine (refusal1 _ j v _ (by go_simp) (by go_simp)).mono ?_
  rintro e w1 ⟨rfl, hb⟩
  have hB : Below w.heap.size w w1 := (((Below.refl _ _).alloc (Nat.le_refl _) _).alloc (by simp) _).trans (hb.mono (by simp; omega))
  have hT1 := hT.next hB
  have hl1 := hT1.least j u HJ.out
  have e0 : w1.cell? ⟨w.heap.size, 0, none⟩ = some (.int .i64 j) := (hb.cell (p := ⟨w.heap.size, 0, none⟩) (by simp; omega)).trans (by go_simp)
  have e1 : w1.cell? ⟨w.heap.size, 1, none⟩ = some (.int .i64 v) := (hb.cell (p := ⟨w.heap.size, 1, none⟩) (by simp; omega)).trans (by go_simp)
  have hz : w.heap.size < w1.heap.size := by have := hb.size; simp at this; omega
  clear hb hT
  rw [h0]
  go_wp2
  go_region_with (go_at_call 13; refine (itoaB v (by omega) (by omega) _ (by exact hT1.pow)).mono ?_; rintro e w4 ⟨rfl, hb4⟩; replace hb4 := below_undrew hb4; have a0 : w4.cell? ⟨w.heap.size, 0, none⟩ = some (.int .i64 j) := (hb4.cell (p := ⟨w.heap.size, 0, none⟩) hz).trans e0; have a1 := (hT1.next hb4).least j u HJ.out)
  all_goals (try go_wp2)
  all_goals
    go_ret2
    refine ⟨?_, hB.trans (hb4.mono hB.size)⟩
    rw [← cat_arr]
    rfl
end Go.Proofs.YtjlbheeipchpkaaDoor
