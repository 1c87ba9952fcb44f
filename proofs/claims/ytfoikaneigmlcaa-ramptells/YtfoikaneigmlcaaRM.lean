/- The document's within, lesser, RampMay; sameInts. -/
import Derived.Test.YtfoikaneigmlcaaRH
import Derived.Test.YtfoikaneigmlcaaRK
namespace Go.Proofs.Ytfoikaneigmlcaa
open Go.RowKit

theorem withinRef_any (x lo hi : Int) (w : World) :
    Calls Try.prog 24 #[.int .i64 x, .int .i64 lo, .int .i64 hi] w fun e w' => e = .returned (.bool (inR lo hi x)) ∧ w' = w := by
  by_cases h1 : lo ≤ x
  · by_cases h2 : x ≤ hi
    · go_enter Try.func24, Try.ntmps24
      go_wp2
      go_ret
      exact ⟨ret_bool (inR_yes h1 h2).symm, rfl⟩
    · go_enter Try.func24, Try.ntmps24
      go_wp2
      go_ret
      exact ⟨ret_bool (inR_no (by omega)).symm, rfl⟩
  · go_enter Try.func24, Try.ntmps24
    go_wp2
    go_ret
    exact ⟨ret_bool (inR_no (by omega)).symm, rfl⟩
theorem lesser_any (x y : Int) (w : World) :
    Calls Try.prog 25 #[.int .i64 x, .int .i64 y] w fun e w' => e = .returned (.int .i64 (min x y)) ∧ w' = w := by
  by_cases h : x < y
  · have HE : Hid (min x y = x) := by show _ = _; omega
    go_enter Try.func25, Try.ntmps25
    go_wp2
    go_ret
    exact ⟨ret_int HE.out.symm, rfl⟩
  · have HE : Hid (min x y = y) := by show _ = _; omega
    go_enter Try.func25, Try.ntmps25
    go_wp2
    go_ret
    exact ⟨ret_int HE.out.symm, rfl⟩
theorem rpOk_ref (r : Rp) : rpOk r = (inR 1 100000000 r.c && (inR 1 r.c r.m && (inR 1 r.m r.f && inR 0 100000 r.r))) := by
  rw [Bool.eq_iff_iff, rpOk_iff]
  simp only [Bool.and_eq_true, inR_iff]
  omega
set_option maxHeartbeats 1600000 in
theorem rampMay_any (r : Rp) (w : World) :
    Calls Try.prog 11 #[rv r] w fun e w' => e = .returned (.bool (rpOk r)) ∧ Below w.heap.size w w' := by
  have HC : Hid (∀ x lo hi W, Calls Try.prog 24 #[.int .i64 x, .int .i64 lo, .int .i64 hi] W fun e w' => e = .returned (.bool (inR lo hi x)) ∧ w' = W) := withinRef_any
  have HE : Hid (rpOk r = (inR 1 100000000 r.c && (inR 1 r.c r.m && (inR 1 r.m r.f && inR 0 100000 r.r)))) := rpOk_ref r
  have HB : Hid (Below w.heap.size w (w.alloc (ro r))) := (Below.refl _ _).alloc (Nat.le_refl _) _
  go_enter Try.func11, Try.ntmps11
  go_wp2_with fail
  refine Calls.mono (HC.out _ _ _ _) ?_
  rintro e w1 ⟨rfl, rfl⟩
  cases h1 : inR 1 100000000 r.c with
  | false =>
    rw [h1] at HE
    go_wp2
    go_ret
    exact ⟨ret_bool (by rw [HE.out]; rfl), HB.out⟩
  | true =>
    rw [h1] at HE
    go_wp2_with fail
    refine Calls.mono (HC.out _ _ _ _) ?_
    rintro e w1 ⟨rfl, rfl⟩
    cases h2 : inR 1 r.c r.m with
    | false =>
      rw [h2] at HE
      go_wp2
      go_ret
      exact ⟨ret_bool (by rw [HE.out]; rfl), HB.out⟩
    | true =>
      rw [h2] at HE
      go_wp2_with fail
      refine Calls.mono (HC.out _ _ _ _) ?_
      rintro e w1 ⟨rfl, rfl⟩
      cases h3 : inR 1 r.m r.f with
      | false =>
        rw [h3] at HE
        go_wp2
        go_ret
        exact ⟨ret_bool (by rw [HE.out]; rfl), HB.out⟩
      | true =>
        rw [h3] at HE
        go_wp2_with fail
        refine Calls.mono (HC.out _ _ _ _) ?_
        rintro e w1 ⟨rfl, rfl⟩
        go_wp2
        go_ret
        exact ⟨ret_bool (by rw [HE.out]; rfl), HB.out⟩
set_option maxHeartbeats 1600000 in
theorem sameInts_any (xs : List Int) (G H n c1 c2 : Nat) (w : World) (hn : xs.length = n) (hl : n ≤ 20000) (h1 : Ints xs G w) (h2 : Ints xs H w) :
    Calls Try.prog 14 #[.slice (some ⟨G, 0, none⟩) n c1, .slice (some ⟨H, 0, none⟩) n c2] w fun e w' => e = .returned (.bool true) ∧ Below w.heap.size w w' := by
  have H1 : Hid (Ints xs G w) := h1
  have H2 : Hid (Ints xs H w) := h2
  have HN : Hid (xs.length = n) := hn
  clear h1 h2 hn
  go_enter Try.func14, Try.ntmps14
  go_wp2
  go_loopw [5] (fun i wr => ∃ k : Nat, k ≤ n ∧ i = .int .i64 ((k : Nat) : Int) ∧ ∃ q, wr = w.drewN q) (fun i _ => n - (intOf i).toNat)
  case atStart => exact ⟨0, Nat.zero_le _, rfl, 0, rfl⟩
  case round =>
    obtain ⟨k, hk, rfl, q, rfl⟩ := hrel
    by_cases hlt : k < n
    · have hkl : k < xs.length := by rw [HN.out]; exact hlt
      have c1 := H1.out.2 k hkl
      have c2 := H2.out.2 k hkl
      generalize xs[k]'hkl = x at *
      go_wp2_with fail
      go_big_quiet (fail)
      go_wp2
      go_roundw
      case rel => exact ⟨k + 1, by omega, by go_num, q + nq, by first | rfl | simp⟩
      case measure => simp [intOf]; omega
    · go_wp2
      go_ret
      exact ⟨rfl, below_drewN (Below.refl _ _) _⟩
end Go.Proofs.Ytfoikaneigmlcaa
