/- Running commands, plainly: how many, where it stops, what stands between. -/
import Derived.Test.YtgahlhfgpkklaaaDoorFU
namespace Go.Proofs.YtgahlhfgpkklaaaDoor
open Go.RowKit

theorem run_err {r : Rg} : ∀ {l : List Cm} {f : Fm} {k : Nat}, (runC r f k l).2.2 ≠ 0 → (runC r f k l).2.1 < k + l.length
  | [], f, k, h => by simp [runC] at h
  | c :: l, f, k, h => by
    unfold runC at h ⊢
    split
    · rename_i h0
      rw [if_pos h0] at h
      have := run_err h
      simp only [List.length_cons]
      omega
    · simp only [List.length_cons]
      omega
theorem run_len {r : Rg} : ∀ {l : List Cm} {f : Fm} {k : Nat}, (runC r f k l).2.2 = 0 → (runC r f k l).2.1 = k + l.length
  | [], f, k, _ => by simp [runC]
  | c :: l, f, k, h => by
    unfold runC at h ⊢
    split
    · rename_i h0
      rw [if_pos h0] at h
      have := run_len h
      simp only [List.length_cons]
      omega
    · rename_i h0
      rw [if_neg h0] at h
      exact absurd h h0
/-- The state behind so many commands, where all can be done. -/
def stF (r : Rg) (f : Fm) : List Cm → Fm
  | [] => f
  | c :: l => stF r (doF r f c) l
theorem run_st {r : Rg} : ∀ {l : List Cm} {f : Fm} {k : Nat}, (runC r f k l).2.2 = 0 → (runC r f k l).1 = stF r f l
  | [], f, k, _ => rfl
  | c :: l, f, k, h => by
    unfold runC at h ⊢
    split
    · rename_i h0
      rw [if_pos h0] at h
      exact run_st h
    · rename_i h0
      rw [if_neg h0] at h
      exact absurd h h0
theorem run_take {r : Rg} : ∀ {l : List Cm} {f : Fm} {k : Nat} (i : Nat), (runC r f k l).2.2 = 0 → (runC r f k (l.take i)).2.2 = 0
  | [], f, k, i, _ => by simp [runC]
  | c :: l, f, k, 0, _ => by simp [runC]
  | c :: l, f, k, i + 1, h => by
    unfold runC at h
    rw [List.take_succ_cons]
    unfold runC
    split
    · rename_i h0
      rw [if_pos h0] at h
      exact run_take i h
    · rename_i h0
      rw [if_neg h0] at h
      exact absurd h h0
theorem st_next {r : Rg} : ∀ {l : List Cm} {f : Fm} {k : Nat} {i : Nat} (hi : i < l.length), (runC r f k l).2.2 = 0 → doN r (stF r f (l.take i)) (l[i]'hi) = 0 ∧ stF r f (l.take (i + 1)) = doF r (stF r f (l.take i)) (l[i]'hi)
  | [], _, _, i, hi, _ => by simp at hi
  | c :: l, f, k, i, hi, h => by
    unfold runC at h
    split at h
    · rename_i h0
      cases i with
      | zero => exact ⟨h0, rfl⟩
      | succ i =>
        have hi2 : i < l.length := by simpa using hi
        have := st_next hi2 h
        simpa [List.take_succ_cons, stF] using this
    · rename_i h0
      exact absurd h h0
theorem st_ok {r : Rg} (hr : RgOk r) : ∀ {l : List Cm} {f : Fm}, FmOk r f → FmOk r (stF r f l)
  | [], _, h => h
  | _ :: l, _, h => st_ok hr (l := l) (doF_ok hr h)
/-- A step of a run that ends well, by firm.Do. -/
theorem st_do {r : Rg} {l : List Cm} (hr : rgOk r = true) (h : (runC r f0 0 l).2.2 = 0) {i : Nat} (hi : i < l.length) : DoE r (stF r f0 (l.take i)) (l[i]'hi) = 0 ∧ DoV r (stF r f0 (l.take i)) (l[i]'hi) = stF r f0 (l.take (i + 1)) := by
  obtain ⟨h1, h2⟩ := st_next hi h
  have hk := st_ok (rgOk_iff.1 hr) (l := l.take i) (f0_ok (rgOk_iff.1 hr))
  have e1 : DoE r (stF r f0 (l.take i)) (l[i]'hi) = 0 := by
    unfold DoE
    rw [hr, fmOk_iff.2 hk, h1]
    rfl
  refine ⟨e1, ?_⟩
  rw [h2]
  unfold DoV doF
  rw [if_pos e1, if_pos h1]
theorem RdC.take {w : World} {ao : Option Addr} {l : List Cm} (h : RdC w ao l) (n : Nat) : RdC w ao (l.take n) := by
  rcases h with h | ⟨b, o, h1, h2, h3⟩
  · subst h; exact .inl (by simp)
  · refine .inr ⟨b, o, h1, h2, fun i hi => ?_⟩
    have hi2 : i < l.length := by rw [List.length_take] at hi; omega
    have := h3 i hi2
    rw [List.getElem_take]
    exact this
/-- What is picked. -/
def pkd (x of : Int) : Int := Int.tmod (if x < 0 then -(x + 1) else x) of
theorem pkd_nat {x : Int} {n : Nat} : ∃ p : Nat, pkd x ((n : Int) + 1) = (p : Int) ∧ p ≤ n := by
  unfold pkd
  obtain ⟨p, h1, h2⟩ := tmod_nat (x := if x < 0 then -(x + 1) else x) (of := (n : Int) + 1) (by split <;> omega) (by omega)
  exact ⟨p, h1, by omega⟩
theorem picked_any (x of : Int) (w : World) (h1 : -9223372036854775808 ≤ x) (h2 : x ≤ 9223372036854775807) (h3 : 1 ≤ of) (h4 : of ≤ 9223372036854775807) : Calls Tryd.prog 18 #[.int .i64 x, .int .i64 of] w fun e w' => e = .returned (.int .i64 (pkd x of)) ∧ w' = w := by
  have h0 : ¬ of = 0 := by omega
  have hm : ¬ of = -1 := by omega
  by_cases hx : x < 0
  · go_enter Tryd.func18, Tryd.ntmps18
    go_wp2
    go_ret
    exact ⟨ret_int (by unfold pkd; rw [if_pos hx, Int.neg_tmod]), rfl⟩
  · go_enter Tryd.func18, Tryd.ntmps18
    go_wp2
    go_ret
    exact ⟨ret_int (by unfold pkd; rw [if_neg (by omega), Int.tmod_eq_emod_of_nonneg (by omega)]), rfl⟩
end Go.Proofs.YtgahlhfgpkklaaaDoor
