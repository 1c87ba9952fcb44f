/- keep.picked and the closure step walked; what a stop comes to. -/
import Derived.Test.YtiafcgbohckmmaaMvBase
namespace Go.Proofs.Ytiafcgbohckmmaa
open Go.RowKit

theorem wrap_in {x : Int} (h : -9223372036854775808 ≤ x) (h2 : x ≤ 9223372036854775807) : IntKind.i64.wrap x = x := by
  rw [IntWalk.i64_left]; exact IntWalk.wrap64_in _ ⟨h, h2⟩
/-- Which of some things a raw number speaks of. -/
def pickN (n m : Int) : Nat := ((if n < 0 then -(n + 1) else n).tmod m).toNat
theorem pickN_lt (n m : Int) (hm : 0 < m) : (pickN n m : Int) < m := by
  unfold pickN
  have h0 : 0 ≤ (if n < 0 then -(n + 1) else n) := by split <;> omega
  have h1 : 0 ≤ (if n < 0 then -(n + 1) else n).tmod m := Int.tmod_nonneg _ h0
  have h2 : (if n < 0 then -(n + 1) else n).tmod m < m := Int.tmod_lt_of_pos _ hm
  omega
theorem picked_any (n m : Int) (w : World) (h0 : -9223372036854775808 ≤ n) (h1 : n ≤ 9223372036854775807) (hm : 0 < m) (hm2 : m ≤ 10000000) :
    Calls Try.prog 26 #[.int .i64 n, .int .i64 m] w fun e w' => e = .returned (.int .i64 (pickN n m)) ∧ w' = w := by
  by_cases hn : n < 0
  · have hw : IntKind.i64.wrap (n + 1) = n + 1 := wrap_in (by omega) (by omega)
    have HK : Hid ((pickN n m : Int) = (-(n + 1)).tmod m) := by
      show _ = _
      unfold pickN
      rw [if_pos hn, Int.toNat_of_nonneg (Int.tmod_nonneg _ (by omega))]
    have hne : m ≠ 0 := by omega
    go_enter Try.func26, Try.ntmps26
    go_wp2
    go_ret
    refine ⟨ret_int ?_, rfl⟩
    rw [HK.out, Int.neg_tmod]
  · have HK : Hid ((pickN n m : Int) = n.tmod m) := by
      show _ = _
      unfold pickN
      rw [if_neg hn, Int.toNat_of_nonneg (Int.tmod_nonneg _ (by omega))]
    have hne : m ≠ 0 := by omega
    go_enter Try.func26, Try.ntmps26
    go_wp2
    go_ret
    refine ⟨ret_int ?_, rfl⟩
    rw [HK.out, Int.tmod_eq_emod_of_nonneg (by omega)]
/-- A step along one direction. -/
def stepP (way n : Int) : Pt := if pickN way 3 = 0 then ⟨n, 0, 0⟩ else if pickN way 3 = 1 then ⟨0, n, 0⟩ else ⟨0, 0, n⟩
set_option maxHeartbeats 1600000 in
theorem step_any (way n : Int) (B : Nat) (w : World) (hc : w.cell? ⟨B, 0, none⟩ = some (.int .i64 way)) (hB : B < w.heap.size) (h0 : -9223372036854775808 ≤ way) (h1 : way ≤ 9223372036854775807) :
    Calls Try.prog 25 #[.int .i64 n, ptr B] w fun e w' => e = .returned (pv (stepP way n)) ∧ Below w.heap.size w w' := by
  have hne : B ≠ w.heap.size := by omega
  have hlt := pickN_lt way 3 (by decide)
  obtain ⟨q, hq⟩ : ∃ q : Pt, q = stepP way n := ⟨_, rfl⟩
  have HQ : Hid (q = stepP way n) := hq
  rw [← hq]
  clear hq
  rcases (show pickN way 3 = 0 ∨ pickN way 3 = 1 ∨ pickN way 3 = 2 by omega) with e | e | e
  · have HE : Hid (pickN way 3 = 0) := e
    have HS : Hid (q = ⟨n, 0, 0⟩) := by show _ = _; rw [HQ.out]; unfold stepP; rw [if_pos e]
    clear e hlt
    go_enter Try.func25, Try.ntmps25
    go_wp2_with fail
    refine (picked_any way 3 _ h0 h1 (by decide) (by decide)).mono ?_
    rintro e w1 ⟨rfl, rfl⟩
    rw [HE.out]
    go_wp2
    refine bodyPost_ret (v := pv ⟨n, 0, 0⟩) (by simp [results, Try.results25, go_sem]) rfl ⟨by rw [HS.out], ?_⟩
    exact below_grow _ (Nat.le_refl _) (Below.refl _ _) _
  · have HE : Hid (pickN way 3 = 1) := e
    have HS : Hid (q = ⟨0, n, 0⟩) := by show _ = _; rw [HQ.out]; unfold stepP; rw [e]; rfl
    clear e hlt
    go_enter Try.func25, Try.ntmps25
    go_wp2_with fail
    refine (picked_any way 3 _ h0 h1 (by decide) (by decide)).mono ?_
    rintro e w1 ⟨rfl, rfl⟩
    rw [HE.out]
    go_wp2
    refine bodyPost_ret (v := pv ⟨0, n, 0⟩) (by simp [results, Try.results25, go_sem]) rfl ⟨by rw [HS.out], ?_⟩
    exact below_grow _ (Nat.le_refl _) (Below.refl _ _) _
  · have HE : Hid (pickN way 3 = 2) := e
    have HS : Hid (q = ⟨0, 0, n⟩) := by show _ = _; rw [HQ.out]; unfold stepP; rw [e]; rfl
    clear e hlt
    go_enter Try.func25, Try.ntmps25
    go_wp2_with fail
    refine (picked_any way 3 _ h0 h1 (by decide) (by decide)).mono ?_
    rintro e w1 ⟨rfl, rfl⟩
    rw [HE.out]
    go_wp2
    refine bodyPost_ret (v := pv ⟨0, 0, n⟩) (by simp [results, Try.results25, go_sem]) rfl ⟨by rw [HS.out], ?_⟩
    exact below_grow _ (Nat.le_refl _) (Below.refl _ _) _

/-- One number between nothing and another. -/
def Btw (q p : Int) : Prop := (0 ≤ q ∧ q ≤ p) ∨ (p ≤ q ∧ q ≤ 0)
theorem stop_core {a b : Bx} {p q : Pt} (hx : Btw q.x p.x) (hy : Btw q.y p.y) (hz : Btw q.z p.z) (ha : bad1 a = 0) (hp : nearP p = true) (hm : bad1 (movB a p) = 0) (hn : meet (hullB a (movB a p)) b = false) :
    nearP q = true ∧ bad1 (movB a q) = 0 ∧ meet (movB a q) b = false := by
  unfold Btw at *
  rw [bad1_iff] at ha hm
  rw [nearP_iff] at hp
  have hn : ¬ (meet (hullB a (movB a p)) b = true) := by rw [hn]; decide
  rw [meet_iff] at hn
  rw [nearP_iff, bad1_iff]
  simp only [hullB, movB] at *
  refine ⟨by omega, by omega, meet_no ?_⟩
  simp only
  omega
/-- The sweep holds every stop between. -/
theorem stop_in {a b s : Bx} {way far stop : Int} (hs : sweepR a (stepP way far) = (s, 0)) (h : Btw stop far) (hb : bad1 b = 0) (hm : meet s b = false) :
    moveR a (stepP way stop) = (movB a (stepP way stop), 0) ∧ meetR (movB a (stepP way stop)) b = (false, 0) := by
  obtain ⟨⟨m, r⟩, hmv⟩ : ∃ x, moveR a (stepP way far) = x := ⟨_, rfl⟩
  unfold sweepR at hs
  rw [hmv] at hs
  by_cases hr : r = 0
  rotate_left
  · rw [if_neg hr] at hs; simp only [Prod.mk.injEq] at hs; exact absurd hs.2 hr
  subst hr
  rw [if_pos rfl] at hs
  cases hst : straight (stepP way far) with
  | false => rw [hst] at hs; simp at hs
  | true =>
    rw [hst, if_pos rfl] at hs
    simp only [Prod.mk.injEq, and_true] at hs
    obtain ⟨ha, hp, rfl, hm0⟩ := moveR_good hmv
    subst hs
    have z0 : Btw 0 0 := .inl ⟨by decide, by decide⟩
    have hin : nearP (stepP way stop) = true ∧ bad1 (movB a (stepP way stop)) = 0 ∧ meet (movB a (stepP way stop)) b = false := by
      refine stop_core (p := stepP way far) ?_ ?_ ?_ ha hp hm0 hm
      all_goals
        unfold stepP
        split
        · first | exact h | exact z0
        · split
          · first | exact h | exact z0
          · first | exact h | exact z0
    refine ⟨moveR_ok ha hin.1 (bad1_ok.1 hin.2.1).1, ?_⟩
    rw [meetR_ok hin.2.1 hb, hin.2.2]
end Go.Proofs.Ytiafcgbohckmmaa
