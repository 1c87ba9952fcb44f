/- A faster ramp takes no longer. -/
import Derived.Test.YtfoikaneigmlcaaRG
namespace Go.Proofs.Ytfoikaneigmlcaa
open Go.RowKit

theorem tmod_nat {x of : Int} (h0 : 0 ≤ x) (h1 : 1 ≤ of) : ∃ p : Nat, Int.tmod x of = (p : Int) ∧ (p : Int) < of := by
  refine ⟨(Int.tmod x of).toNat, ?_, ?_⟩
  · rw [Int.toNat_of_nonneg (Int.tmod_nonneg _ h0)]
  · rw [Int.toNat_of_nonneg (Int.tmod_nonneg _ h0), Int.tmod_eq_emod_of_nonneg h0]
    exact Int.emod_lt_of_pos x (by omega)
theorem five_tot : totR ⟨1000, 100, 300, 100⟩ 5 = 33 := by decide
/-- Faster. -/
theorem spA_le {r q : Rp} (h1 : q.f = r.f) (h2 : r.m ≤ q.m) (h3 : r.r ≤ q.r) (k : Nat) : spA r k ≤ spA q k := by
  unfold spA
  have : r.r * (k : Int) ≤ q.r * (k : Int) := Int.mul_le_mul_of_nonneg_right h3 (by omega)
  rw [h1]
  omega
theorem tdiv_le {c x y : Int} (hc : 0 ≤ c) (hx : 1 ≤ x) (hxy : x ≤ y) : Int.tdiv c y ≤ Int.tdiv c x := by
  rw [Int.tdiv_eq_ediv_of_nonneg hc, Int.tdiv_eq_ediv_of_nonneg hc]
  refine Int.le_ediv_of_mul_le (by omega) ?_
  have h1 := Int.ediv_nonneg hc (by omega : 0 ≤ y)
  have h2 : c / y * y ≤ c := Int.ediv_mul_le c (by omega)
  have h3 : c / y * x ≤ c / y * y := Int.mul_le_mul_of_nonneg_left hxy h1
  omega
theorem sum_map_le {α : Type} {l : List α} {f g : α → Int} (h : ∀ x ∈ l, f x ≤ g x) : (l.map f).sum ≤ (l.map g).sum := by
  induction l with
  | nil => simp
  | cons x l ih =>
    have h1 := h x (by simp)
    have h2 := ih fun y hy => h y (by simp [hy])
    simp only [List.map_cons, List.sum_cons]
    omega
theorem tot_le {r q : Rp} (hr : rpOk r = true) (h0 : q.c = r.c) (h1 : q.f = r.f) (h2 : r.m ≤ q.m) (h3 : r.r ≤ q.r) {n : Nat} (hn : n ≤ 20000) : totR q n ≤ totR r n := by
  unfold totR timesL speedsL
  simp only [List.map_map]
  refine sum_map_le fun i hi => ?_
  have := List.mem_range.1 hi
  have hc := rpOk_iff.1 hr
  show Int.tdiv q.c (spA q _) ≤ Int.tdiv r.c (spA r _)
  rw [h0]
  exact tdiv_le (by omega) (spA_pos hr (by omega)) (spA_le h1 h2 h3 _)
end Go.Proofs.Ytfoikaneigmlcaa
