/- Total refused; what a ramp takes, plainly. -/
import Derived.Test.YtgahlhfgpkklaaaDoorRFH
import Derived.OwnWalk
import Derived.Laws.MakeOwn
namespace Go.Proofs.YtgahlhfgpkklaaaDoor
open Go.RowKit

theorem refR_ne {r : Rp} {n : Int} (h : refR r n ≠ 0) : refR r n = 2 ∨ refR r n = 7 := by
  unfold refR at h ⊢
  split
  · split
    · rename_i h1 h2; rw [if_pos h1, if_pos h2] at h; exact absurd rfl h
    · exact .inr rfl
  · exact .inl rfl
theorem refR_ok {r : Rp} {n : Int} (hr : rpOk r = true) (h0 : 0 ≤ n) (h1 : n ≤ 20000) : refR r n = 0 := by unfold refR; rw [if_pos hr, if_pos ⟨h0, h1⟩]
theorem refR_range {r : Rp} {n : Int} (hr : rpOk r = false) : refR r n = 2 := by unfold refR; rw [hr]; rfl
theorem refR_count {r : Rp} {n : Int} (hr : rpOk r = true) (h : n < 0 ∨ 20000 < n) : refR r n = 7 := by unfold refR; rw [if_pos hr, if_neg (by omega)]
set_option maxHeartbeats 1600000 in
theorem total_no (r : Rp) (n : Int) (w : World) (h : refR r n ≠ 0) :
    Calls Tryd.prog 57 #[rv r, .int .i64 n] w fun e w' => e = .returned (.tuple #[.int .i64 0, .int .i64 (refR r n)]) ∧ Below w.heap.size w w' := by
  have HF : Hid (∀ W, Calls Tryd.prog 59 #[rv r, .int .i64 n] W fun e w' => e = .returned (.int .i64 (refR r n)) ∧ Below W.heap.size W w') := fun W => refusal_any r n W
  have HB : Hid (Below w.heap.size w (w.alloc (ro r))) := (Below.refl _ _).alloc (Nat.le_refl _) _
  have hc := refR_ne h
  clear h
  generalize refR r n = e at *
  go_enter Tryd.func57, Tryd.ntmps57
  go_wp2_with fail
  refine Calls.mono (HF.out _) ?_
  rintro e w1 ⟨rfl, hb1⟩
  have HB1 : Hid (Below w.heap.size w w1) := HB.out.trans (hb1.mono HB.out.size)
  clear hb1
  rcases hc with rfl | rfl
  · go_wp2
    exact bodyPost_ret (v := .tuple #[.int .i64 0, .int .i64 2]) (by simp [results, Tryd.results57, go_sem]) rfl ⟨rfl, HB1.out⟩
  · go_wp2
    exact bodyPost_ret (v := .tuple #[.int .i64 0, .int .i64 7]) (by simp [results, Tryd.results57, go_sem]) rfl ⟨rfl, HB1.out⟩

attribute [local go_sem] Oper.semAt_some
/-- Numbers as elements. -/
def encI : Enc Int := ⟨3, 1, fun x => [.int .i64 x]⟩
theorem goodI : Good encI := ⟨fun _ => rfl, fun x u hu => by simp [encI] at hu; subst hu; rfl⟩
theorem infoI : (Tryd.prog.info? 3).map (fun i => (i.zero, i.size, i.bytes)) = some (some (.int .i64 0), 1, 8) := by kernel_rfl
/-- The numbers can be read. -/
def Ints (xs : List Int) (G : Nat) (w : World) : Prop := G < w.heap.size ∧ ∀ k (h : k < xs.length), w.cell? ⟨G, k, none⟩ = some (.int .i64 (xs[k]'h))
theorem Ints.later {xs : List Int} {G : Nat} {w w1 : World} (h : Ints xs G w) (hb : Below w.heap.size w w1) : Ints xs G w1 := ⟨Nat.lt_of_lt_of_le h.1 hb.size, fun k hk => cell_later hb (h.2 k hk)⟩
theorem tmod_nat {x of : Int} (h0 : 0 ≤ x) (h1 : 1 ≤ of) : ∃ p : Nat, Int.tmod x of = (p : Int) ∧ (p : Int) < of := by
  refine ⟨(Int.tmod x of).toNat, ?_, ?_⟩
  · rw [Int.toNat_of_nonneg (Int.tmod_nonneg _ h0)]
  · rw [Int.toNat_of_nonneg (Int.tmod_nonneg _ h0), Int.tmod_eq_emod_of_nonneg h0]
    exact Int.emod_lt_of_pos x (by omega)
theorem five_tot : totR ⟨1000, 100, 300, 100⟩ 5 = 33 := by decide
/-- Faster. -/
theorem spA_le {r q : Rp} (h1 : q.f = r.f) (h2 : r.m ≤ q.m) (h3 : r.r ≤ q.r) (k : Nat) : spA r k ≤ spA q k := by
  unfold spA
  have : r.r * (k : Int) ≤ q.r * (k : Int) := Int.mul_le_mul_of_nonneg_right h3 (by omega)
  rw [h1]
  omega
theorem tdiv_le {c x y : Int} (hc : 0 ≤ c) (hx : 1 ≤ x) (hxy : x ≤ y) : Int.tdiv c y ≤ Int.tdiv c x := by
  rw [Int.tdiv_eq_ediv_of_nonneg hc, Int.tdiv_eq_ediv_of_nonneg hc]
  refine Int.le_ediv_of_mul_le (by omega) ?_
  have h1 := Int.ediv_nonneg hc (by omega : 0 ≤ y)
  have h2 : c / y * y ≤ c := Int.ediv_mul_le c (by omega)
  have h3 : c / y * x ≤ c / y * y := Int.mul_le_mul_of_nonneg_left hxy h1
  omega
theorem sum_map_le {α : Type} {l : List α} {f g : α → Int} (h : ∀ x ∈ l, f x ≤ g x) : (l.map f).sum ≤ (l.map g).sum := by
  induction l with
  | nil => simp
  | cons x l ih =>
    have h1 := h x (by simp)
    have h2 := ih fun y hy => h y (by simp [hy])
    simp only [List.map_cons, List.sum_cons]
    omega
theorem tot_le {r q : Rp} (hr : rpOk r = true) (h0 : q.c = r.c) (h1 : q.f = r.f) (h2 : r.m ≤ q.m) (h3 : r.r ≤ q.r) {n : Nat} (hn : n ≤ 20000) : totR q n ≤ totR r n := by
  unfold totR timesL speedsL
  simp only [List.map_map]
  refine sum_map_le fun i hi => ?_
  have := List.mem_range.1 hi
  have hc := rpOk_iff.1 hr
  show Int.tdiv q.c (spA q _) ≤ Int.tdiv r.c (spA r _)
  rw [h0]
  exact tdiv_le (by omega) (spA_pos hr (by omega)) (spA_le h1 h2 h3 _)
/-- From its end. -/
theorem speedsL_back (r : Rp) (n : Nat) {k : Nat} (h : k < n) : (speedsL r n)[n - 1 - k]'(by rw [speedsL_length]; omega) = (speedsL r n)[k]'(by rw [speedsL_length]; exact h) := by
  rw [speedsL_at, speedsL_at]
  congr 1
  omega
theorem speedsL_bd {r : Rp} {n : Nat} (hr : rpOk r = true) (hn : n ≤ 20000) {k : Nat} (h : k < (speedsL r n).length) : r.f ≤ (speedsL r n)[k]'h ∧ (speedsL r n)[k]'h ≤ r.m := by
  rw [speedsL_length] at h
  rw [speedsL_at]
  exact spA_bd hr (by omega)
/-- One step more is one more in the middle. -/
theorem speedsL_more (r : Rp) (n : Nat) : speedsL r (n + 1) = (speedsL r n).take (n / 2) ++ spA r (n / 2) :: (speedsL r n).drop (n / 2) := by
  refine List.ext_getElem ?_ fun k h1 h2 => ?_
  · simp only [speedsL_length, List.length_append, List.length_take, List.length_cons, List.length_drop]; omega
  · rw [speedsL_length] at h1
    rw [speedsL_at]
    by_cases hk : k < n / 2
    · rw [List.getElem_append_left (by rw [List.length_take, speedsL_length]; omega), List.getElem_take, speedsL_at]
      congr 1
      omega
    · rw [List.getElem_append_right (by rw [List.length_take, speedsL_length]; omega)]
      have hl : (List.take (n / 2) (speedsL r n)).length = n / 2 := by rw [List.length_take, speedsL_length]; omega
      by_cases hk2 : k = n / 2
      · subst hk2
        simp only [hl, Nat.sub_self, List.getElem_cons_zero]
        congr 1
        omega
      · obtain ⟨j, rfl⟩ : ∃ j, k = n / 2 + (j + 1) := ⟨k - n / 2 - 1, by omega⟩
        simp only [hl, Nat.add_sub_cancel_left, List.getElem_cons_succ, List.getElem_drop, speedsL_at]
        congr 1
        omega
theorem addedL_more (r : Rp) (n : Nat) : addedL r (n + 1) = addedL r n ++ [spA r (n / 2)] := by simp [addedL, List.range_succ]
theorem totR_more (r : Rp) (n : Nat) : totR r (n + 1) = totR r n + Int.tdiv r.c (spA r (n / 2)) := by
  unfold totR timesL
  rw [speedsL_more, List.map_append, List.map_cons, List.sum_append, List.sum_cons]
  have : ((speedsL r n).map fun x => Int.tdiv r.c x).sum = (((speedsL r n).take (n / 2)).map fun x => Int.tdiv r.c x).sum + (((speedsL r n).drop (n / 2)).map fun x => Int.tdiv r.c x).sum := by
    rw [← List.sum_append, ← List.map_append, List.take_append_drop]
  rw [this]
  omega
theorem totR_added (r : Rp) (n : Nat) : (timesL r (addedL r n)).sum = totR r n := by
  induction n with
  | zero => rfl
  | succ n ih =>
    rw [totR_more, ← ih]
    unfold timesL
    rw [addedL_more, List.map_append, List.sum_append]
    simp
theorem addedL_take (r : Rp) {n m : Nat} (h : n ≤ m) : (addedL r m).take n = addedL r n := by
  unfold addedL
  rw [← List.map_take, List.take_range, Nat.min_eq_left h]
theorem time_pos {r : Rp} (hr : rpOk r = true) {x : Int} (h0 : 1 ≤ x) (h : x ≤ r.m) : 1 ≤ Int.tdiv r.c x := by
  have := rpOk_iff.1 hr
  rw [Int.tdiv_eq_ediv_of_nonneg (by omega)]
  exact Int.le_ediv_of_mul_le (by omega) (by omega)
theorem step_pos {r : Rp} (hr : rpOk r = true) {k : Nat} (hk : k ≤ 20000) : 1 ≤ Int.tdiv r.c (spA r k) := time_pos hr (spA_pos hr hk) (spA_bd hr hk).2
theorem totR_lt {r : Rp} (hr : rpOk r = true) {n : Nat} (hn : n ≤ 20000) : totR r n < totR r (n + 1) := by
  rw [totR_more]
  have := step_pos hr (k := n / 2) (by omega)
  omega
theorem tot_pos {r : Rp} (hr : rpOk r = true) {n : Nat} (hn : n ≤ 20000) (h0 : 0 < n) : 1 ≤ totR r n := by
  obtain ⟨m, rfl⟩ : ∃ m, n = m + 1 := ⟨n - 1, by omega⟩
  have h1 := totR_lt hr (n := m) (by omega)
  have h2 := sum_bd (timesL_bd hr (speedsL_pos hr (n := m) (by omega)))
  unfold totR at *
  omega
theorem totR_bd {r : Rp} (hr : rpOk r = true) {n : Nat} (hn : n ≤ 20000) : 0 ≤ totR r n ∧ totR r n ≤ 2000000000000 := by
  have := sum_bd (timesL_bd hr (speedsL_pos hr hn))
  rw [timesL_length, speedsL_length] at this
  unfold totR
  omega
theorem sum_nonneg {xs : List Int} (h : ∀ x ∈ xs, 0 ≤ x) : 0 ≤ xs.sum := by
  induction xs with
  | nil => simp
  | cons y ys ih => have := h y (by simp); have := ih fun z hz => h z (by simp [hz]); simp only [List.sum_cons]; omega
end Go.Proofs.YtgahlhfgpkklaaaDoor
