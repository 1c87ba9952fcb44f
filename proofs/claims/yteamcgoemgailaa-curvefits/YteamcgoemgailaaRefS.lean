/- The document's answers for curves: CurveSteps, CurveVolume walked; knots copied. -/
import Derived.Test.YteamcgoemgailaaRefC
namespace Go.Proofs.Yteamcgoemgailaa
open Go.RowKit

/-- Halves up, as the document reckons it. -/
theorem refStep {u w q : Int} (hw : 0 < w) (hq : q = if w ≤ 2 * (u % w) then u / w + 1 else u / w) : (2 * u + w) / (2 * w) = q := by
  rw [half_rem u w hw, hq]
  split <;> omega
set_option maxHeartbeats 6400000 in
theorem refSteps_any (ao : Option Addr) (cap : Nat) (l : List Kn) (v : Int) (w : World) (hL : Kns w ao l) (hc : Curve l) (hv : 0 ≤ v) (hm : v ≤ mostV l) :
    Calls Try.prog 13 #[.slice ao l.length cap, .int .i64 v] w fun e w' => e = .returned (.int .i64 (stp l v)) ∧ Below w.heap.size w w' := by
  have HL : Hid (Kns w ao l) := hL
  have HC : Hid (Curve l) := hc
  have HM : Hid (v ≤ mostV l) := hm
  have h2 := hc.two
  have h50 := hc.most
  clear hL hc hm
  go_enter Try.func13, Try.ntmps13
  go_wp2
  go_loopw [5] (fun i wr => ∃ k : Nat, k + 1 ≤ l.length ∧ i = .int .i64 ((k : Int) + 1) ∧ (∀ j, 1 ≤ j → j ≤ k → cv l j < v) ∧ Below w.heap.size w wr) (fun i _ => l.length - (intOf i).toNat)
  case atStart => exact ⟨0, by omega, rfl, (fun j h1 h2 => by omega), Below.refl _ _⟩
  case round =>
    obtain ⟨k, hk, rfl, hok, hb⟩ := hrel
    have HB : Hid (Below w.heap.size w wr) := hb
    have HO : Hid (∀ j, 1 ≤ j → j ≤ k → cv l j < v) := hok
    clear hb hok
    by_cases hlt : k + 1 < l.length
    · have e0 := (HL.out.next HB.out).at (k := k) (by omega)
      have e1 := (HL.out.next HB.out).at (k := k + 1) (by omega)
      obtain ⟨b, off, rfl, _, c0, c1⟩ := e0
      obtain ⟨b', off', e, _, d0, d1⟩ := e1
      injection e with e
      injection e with e e'
      subst e e'
      rw [← cv_at] at c0 d0
      rw [← cs_at] at c1 d1
      by_cases hcont : cv l (k + 1) < v
      · go_wp2
        go_roundw
        case rel =>
          refine ⟨k + 1, by omega, by go_num, fun j h1 h3 => ?_, HB.out⟩
          by_cases e : j = k + 1
          · subst e; exact hcont
          · exact HO.out j h1 (by omega)
        case measure => simp [intOf]; omega
      · have hseg : SegAt l v k := ⟨hlt, by omega, by
          by_cases e : k = 0
          · exact .inl e
          · exact .inr (HO.out k (by omega) (Nat.le_refl _))⟩
        have HS : Hid (stp l v = stepAt l k v) := stp_at HC.out hseg
        have hlow := segAt_low HC.out hv hseg
        have hr := HC.out.rises k (by omega)
        have n0 := HC.out.near k (by omega)
        have n1 := HC.out.near (k + 1) hlt
        unfold stepAt at HS
        clear hseg
        generalize cv l k = lv at *
        generalize cv l (k + 1) = gv at *
        generalize cs l k = ls at *
        generalize cs l (k + 1) = gs at *
        have hcont2 : v ≤ gv := by omega
        have m0 : 0 ≤ (v - lv) * (gs - ls) := Int.mul_nonneg (by omega) (by omega)
        have m1 : (v - lv) * (gs - ls) ≤ 1000000000 * 1000000000 := Int.mul_le_mul (by omega) (by omega) (by omega) (by omega)
        have m2 : (v - lv) * (gs - ls) ≤ 1000000000000000000 := by omega
        have hw : 0 < gv - lv := by omega
        have HU : Hid (∀ u, u = (v - lv) * (gs - ls) → 2 * (v - lv) * (gs - ls) = 2 * u) := by
          rintro u rfl; exact Int.mul_assoc _ _ _
        clear m1 hcont HO
        go_wp2_with fail
        go_big_quiet (fail)
        go_wp2_with fail
        go_big_quiet (fail)
        obtain ⟨u, hu⟩ : ∃ u, u = (v - lv) * (gs - ls) := ⟨_, rfl⟩
        have HU2 := (show Hid _ from HU.out u hu)
        rw [← hu] at m0 m2 ⊢
        clear hu HU
        have q0 : 0 ≤ u / (gv - lv) := Int.ediv_nonneg m0 (by omega)
        have q1 : u / (gv - lv) ≤ u := Int.ediv_le_self _ m0
        have r0 : 0 ≤ u % (gv - lv) := Int.emod_nonneg _ (by omega)
        have r1 : u % (gv - lv) < gv - lv := Int.emod_lt_of_pos _ hw
        by_cases hh : gv - lv ≤ 2 * (u % (gv - lv))
        · have HF : Hid (stp l v = ls + (u / (gv - lv) + 1)) := by
            show stp l v = _
            rw [HS.out, HU2.out, refStep hw (q := u / (gv - lv) + 1) (by rw [if_pos hh])]
          clear HU2
          go_wp2
          go_ret
          exact ⟨ret_int HF.out.symm, below_drewN HB.out _⟩
        · have HF : Hid (stp l v = ls + u / (gv - lv)) := by
            show stp l v = _
            rw [HS.out, HU2.out, refStep hw (q := u / (gv - lv)) (by rw [if_neg hh])]
          clear HU2
          go_wp2
          go_ret
          exact ⟨ret_int HF.out.symm, below_drewN HB.out _⟩
    · exfalso
      have h1 := HO.out k (by omega) (Nat.le_refl _)
      have h3 := HM.out
      rw [show k = l.length - 1 by omega] at h1
      unfold mostV at h3
      omega

set_option maxHeartbeats 6400000 in
theorem refVolume_any (ao : Option Addr) (cap : Nat) (l : List Kn) (n : Int) (w : World) (hL : Kns w ao l) (hc : Curve l) (hv : 0 ≤ n) :
    Calls Try.prog 14 #[.slice ao l.length cap, .int .i64 n] w fun e w' => ∃ r, e = .returned (.int .i64 r) ∧ VolAt l n r ∧ Below w.heap.size w w' := by
  have HL : Hid (Kns w ao l) := hL
  have HC : Hid (Curve l) := hc
  have h2 := hc.two
  have h50 := hc.most
  have HN : Hid (0 < mostV l ∧ mostV l ≤ 1000000000) := ⟨mostV_pos hc, (hc.near _ (by omega)).1.2⟩
  obtain ⟨m, hm⟩ : ∃ m, l.length = m + 1 := ⟨l.length - 1, by omega⟩
  have hst : ∀ (v : Int) (W : World), 0 ≤ v → v ≤ mostV l → Below w.heap.size w W → Calls Try.prog 13 #[.slice ao (m + 1) cap, .int .i64 v] W fun e w' => e = .returned (.int .i64 (stp l v)) ∧ Below W.heap.size W w' := by
    intro v W h1 h3 hW
    rw [← hm]
    exact refSteps_any ao cap l v W (hL.next hW) hc h1 h3
  have HS := (show Hid _ from hst)
  obtain ⟨b, off, rfl, _, c0, c1⟩ := hL.at (k := m) (by omega)
  clear c1
  rw [← cv_at] at c0
  have HV : Hid (mostV l = cv l m) := by show cv l (l.length - 1) = _; rw [hm]; rfl
  have hm50 : m ≤ 49 := by omega
  rw [hm]
  obtain ⟨M, hM⟩ : ∃ M, M = cv l m := ⟨_, rfl⟩
  rw [← hM] at c0
  have HM : Hid (mostV l = M) := by show mostV l = M; rw [HV.out, hM]
  have hMn : 0 < M ∧ M ≤ 1000000000 := by rw [← HM.out]; exact HN.out
  clear hL hc hst hm h2 h50 hM HV HN
  go_enter Try.func14, Try.ntmps14
  go_wp2_with fail
  go_big_quiet (fail)
  go_wp2
  go_loopw [5, 6, 7] (fun s5 s6 _ wr => ∃ lo hi : Int, s5 = .int .i64 lo ∧ s6 = .int .i64 hi ∧ 0 ≤ lo ∧ lo ≤ hi ∧ hi ≤ M ∧ Hid (stp l lo ≤ n ∧ (hi = M ∨ n < stp l (hi + 1))) ∧ Below w.heap.size w wr) (fun s5 s6 _ _ => (intOf s6 - intOf s5).toNat)
  case atStart => exact ⟨0, M, rfl, rfl, Int.le_refl _, by omega, Int.le_refl _, (⟨by rw [stp_zero HC.out]; exact hv, .inl rfl⟩ : stp l 0 ≤ n ∧ (M = M ∨ n < stp l (M + 1))), below_drewN (Below.refl _ _) _⟩
  case round =>
    obtain ⟨lo, hi, rfl, rfl, h1, h3, h4, I, hb⟩ := hrel
    have HB : Hid (Below w.heap.size w wr) := hb
    clear hb
    by_cases hlt : lo < hi
    · have hmid : lo < (lo + hi + 1) / 2 ∧ (lo + hi + 1) / 2 ≤ hi := by omega
      have hcall := HS.out ((lo + hi + 1) / 2) wr (by omega) (by rw [HM.out]; omega) HB.out
      by_cases hq : stp l ((lo + hi + 1) / 2) ≤ n
      · go_wp2_with (go_at_call 13; refine hcall.mono ?_; rintro e w' ⟨rfl, hb'⟩)
        go_roundw
        case rel => exact ⟨_, hi, rfl, rfl, by omega, by omega, h4, (⟨hq, I.out.2⟩ : stp l ((lo + hi + 1) / 2) ≤ n ∧ _), below_on HB.out hb'⟩
        case measure => simp [intOf]; omega
      · have HQ : Hid (n < stp l ((lo + hi + 1) / 2 - 1 + 1)) := by show n < _; rw [Int.sub_add_cancel]; omega
        go_wp2_with (go_at_call 13; refine hcall.mono ?_; rintro e w' ⟨rfl, hb'⟩)
        go_roundw
        case rel => exact ⟨lo, _, rfl, rfl, h1, by omega, by omega, (⟨I.out.1, .inr HQ.out⟩ : _ ∧ ((lo + hi + 1) / 2 - 1 = M ∨ n < stp l ((lo + hi + 1) / 2 - 1 + 1))), below_on HB.out hb'⟩
        case measure => simp [intOf]; omega
    · obtain rfl : hi = lo := by omega
      have HR : Hid (VolAt l n hi) := ⟨⟨h1, by rw [HM.out]; exact h4⟩, I.out.1, by rw [HM.out]; exact I.out.2⟩
      go_wp2
      go_ret
      exact ⟨_, rfl, HR.out, HB.out⟩
end Go.Proofs.Yteamcgoemgailaa
