/- The document's hold; HeatHolds walked. -/
import Derived.Test.YtjpjkkjklghpgaaHM
import Derived.Test.YtjpjkkjklghpgaaHJ
namespace Go.Proofs.Ytjpjkkjklghpgaa
open Go.RowKit

abbrev threeB (u x : Int) (ok : Bool) : Value := .tuple #[.int .i64 u, .int .i64 x, .bool ok]
theorem hold_one {h : Ht} {lo hi t : Int} {need most : Nat} {u x e u2 x2 e2 : Int} (H1 : HoldIs h lo hi t need most u x e) (H2 : HoldIs h lo hi t need most u2 x2 e2) : u = u2 ∧ x = x2 ∧ e = e2 := by
  rcases H1 with ⟨k, _, a2, a3, rfl, rfl, rfl⟩ | ⟨a1, rfl, rfl, rfl⟩
  · obtain ⟨q1, q2, q3⟩ := hold_held H2 a3 a2
    exact ⟨q1.symm, q2.symm, q3.symm⟩
  · obtain ⟨q1, q2, q3⟩ := hold_fault H2 a1
    exact ⟨q1.symm, q2.symm, q3.symm⟩
theorem hotHold_none (h : Ht) (t g b need most : Int) (hz : need = 0) (w : World) :
    Calls Try.prog 18 #[hv h, .int .i64 t, .int .i64 g, .int .i64 b, .int .i64 need, .int .i64 most] w fun e w' => e = .returned (threeB 0 t true) ∧ Below w.heap.size w w' := by
  have HB0 : Hid (Below w.heap.size w (w.alloc (ho h))) := (Below.refl _ _).alloc (Nat.le_refl _) _
  subst hz
  go_enter Try.func18, Try.ntmps18
  go_wp2
  refine bodyPost_ret (v := threeB 0 t true) (by simp [results, Try.results18, go_sem]) rfl ⟨rfl, HB0.out⟩
set_option maxHeartbeats 6400000 in
set_option maxRecDepth 100000 in
theorem hotHold_any (h : Ht) (t g b : Int) (need most : Nat) (w : World) (hok : htOk h = true) (t0 : 0 ≤ t) (t1 : t ≤ 1000000) (g0 : 0 ≤ g) (g1 : g ≤ 1000000) (b0 : 0 ≤ b) (b1 : b ≤ 100000) (hn0 : 1 ≤ need) (hn : need ≤ 100000) (hm : most ≤ 100000) :
    Calls Try.prog 18 #[hv h, .int .i64 t, .int .i64 g, .int .i64 b, .int .i64 (need : Int), .int .i64 (most : Int)] w fun e w' => ∃ u x ok, e = .returned (threeB u x ok) ∧ HoldIs h (g - b) (g + b) t need most u x (if ok then 0 else 18) ∧ Below w.heap.size w w' := by
  have HBG : Hid (∀ W, Calls Try.prog 16 #[hv h, .int .i64 t, .int .i64 g, .int .i64 b, .int .i64 (most : Int)] W fun e w' => ∃ ao cap, e = .returned (.slice ao most cap) ∧ RdI w' ao (heatsL h (g - b) (g + b) t most) ∧ Below W.heap.size W w') := fun W => hotBang_any h t g b most hok t0 t1 g0 g1 b0 b1 hm W
  obtain ⟨lo, hlo⟩ : ∃ x, x = g - b := ⟨_, rfl⟩
  obtain ⟨hi, hhi⟩ : ∃ x, x = g + b := ⟨_, rfl⟩
  rw [← hlo, ← hhi] at HBG ⊢
  have HWI : Hid (∀ x W, Calls Try.prog 27 #[.int .i64 x, .int .i64 (g - b), .int .i64 (g + b)] W fun e w' => e = .returned (.bool (isW lo hi x)) ∧ w' = W) := fun x W => by
    have := within_any x (g - b) (g + b) W
    rw [← hlo, ← hhi] at this ⊢
    exact this
  have HB0 : Hid (Below w.heap.size w (w.alloc (ho h))) := (Below.refl _ _).alloc (Nat.le_refl _) _
  have HLEN : Hid ((heatsL h lo hi t most).length = most) := heatsL_length _ _ _ _ _
  have HAT : Hid (∀ k (q : k < (heatsL h lo hi t most).length), (heatsL h lo hi t most)[k]'q = (stN h lo hi t (k + 1)).1) := fun k q => heatsL_at _ _ _ _ _ q
  have hnz : (need : Int) ≠ 0 := by omega
  clear hok t0 t1 hlo hhi
  go_enter Try.func18, Try.ntmps18
  go_wp2_with fail
  refine Calls.mono (HBG.out _) ?_
  rintro e w1 ⟨ao, cap, rfl, hr, hb1⟩
  have HR : Hid (RdI w1 ao (heatsL h lo hi t most)) := hr
  have HB1 : Hid (Below w.heap.size w w1) := below_on HB0.out hb1 HB0.out.size
  clear hr hb1
  go_wp2
  go_loopw [16, 17] (fun s1 s2 wr => ∃ k : Nat, k ≤ most ∧ s1 = .int .i64 ((runN h lo hi t k : Nat) : Int) ∧ s2 = .int .i64 ((k : Nat) : Int) ∧ Hid (NotBy h lo hi t need k) ∧ wr = w1) (fun _ s2 _ => most - (intOf s2).toNat)
  case atStart =>
    refine ⟨0, Nat.zero_le _, rfl, rfl, ?_, rfl⟩
    intro j hj
    obtain rfl : j = 0 := by omega
    show 0 ≠ need
    omega
  case round =>
    obtain ⟨k, hk, rfl, rfl, HNOT, hw⟩ := hrel
    subst hw
    by_cases hlt : k < most
    · have hkl : k < (heatsL h lo hi t most).length := by rw [HLEN.out]; exact hlt
      obtain ⟨q, off, rfl, _, cG⟩ := HR.out.at hkl
      rw [HAT.out] at cG
      clear hkl
      have hr := runN_le h lo hi t k
      have HNX : Hid (runN h lo hi t (k + 1) = if isW lo hi (stN h lo hi t (k + 1)).1 then runN h lo hi t k + 1 else 0) := rfl
      have HN2 : Hid (runN h lo hi t (k + 1) ≠ need → NotBy h lo hi t need (k + 1)) := fun q2 j hj => by
        rcases Nat.lt_or_ge k j with c | c
        · obtain rfl : j = k + 1 := by omega
          exact q2
        · exact HNOT.out j c
      have HN3 : Hid (∀ x, (stN h lo hi t (k + 1)).1 = x → runN h lo hi t (k + 1) = need → HoldIs h lo hi t need most ((k : Int) + 1) x 0) := fun x hx q2 => .inl ⟨k + 1, by omega, by omega, ⟨q2, fun j hj => HNOT.out j (by omega)⟩, by omega, hx.symm, rfl⟩
      obtain ⟨r, hrr⟩ : ∃ r, r = runN h lo hi t k := ⟨_, rfl⟩
      rw [← hrr] at hr HNX ⊢
      obtain ⟨x, hx⟩ : ∃ x, x = (stN h lo hi t (k + 1)).1 := ⟨_, rfl⟩
      rw [← hx] at cG HNX
      have HX : Hid ((stN h lo hi t (k + 1)).1 = x) := hx.symm
      clear hrr hx
      go_wp2_with fail
      refine Calls.mono (HWI.out _ _) ?_
      rintro e w2 ⟨rfl, rfl⟩
      cases hisw : isW lo hi x with
      | true =>
        have HRN : Hid (runN h lo hi t (k + 1) = r + 1) := by show _ = _; rw [HNX.out, hisw]; rfl
        by_cases hq : r + 1 = need
        · have hq3 : (r : Int) + 1 = (need : Int) := by omega
          have HQ : Hid (r + 1 = need) := hq
          clear hq
          go_wp2_with fail
          go_big_quiet (fail)
          go_wp2
          refine bodyPost_ret (v := threeB ((k : Int) + 1) x true) (by simp [results, Try.results18, go_sem]) rfl ⟨_, _, true, rfl, HN3.out x HX.out (by rw [HRN.out]; exact HQ.out), below_drewN HB1.out _⟩
        · have hq2 : ¬ ((r : Int) + 1 = (need : Int)) := by omega
          go_wp2
          go_roundw
          case rel => exact ⟨k + 1, by omega, by rw [HRN.out]; go_num, by go_num, HN2.out (by rw [HRN.out]; exact hq), trivial⟩
          case measure => simp [intOf]; omega
      | false =>
        have HRN : Hid (runN h lo hi t (k + 1) = 0) := by show _ = _; rw [HNX.out, hisw]; rfl
        have hz2 : (0 : Int) ≠ (need : Int) := by omega
        go_wp2
        go_roundw
        case rel => exact ⟨k + 1, by omega, by rw [HRN.out]; rfl, by go_num, HN2.out (by rw [HRN.out]; omega), trivial⟩
        case measure => simp [intOf]; omega
    · obtain rfl : k = most := by omega
      have HF : Hid (∀ x, (stN h lo hi t k).1 = x → HoldIs h lo hi t need k (k : Int) x 18) := fun x hx => .inr ⟨HNOT.out, rfl, hx.symm, rfl⟩
      rcases Nat.eq_zero_or_pos k with hz | hp
      · subst hz
        go_wp2
        refine bodyPost_ret (v := threeB 0 t false) (by simp [results, Try.results18, go_sem]) rfl ⟨_, _, false, rfl, HF.out t rfl, HB1.out⟩
      · obtain ⟨j, rfl⟩ : ∃ j, k = j + 1 := ⟨k - 1, by omega⟩
        have hkl : j < (heatsL h lo hi t (j + 1)).length := by rw [HLEN.out]; omega
        obtain ⟨q, off, rfl, _, cG⟩ := HR.out.at hkl
        rw [HAT.out] at cG
        clear hkl
        obtain ⟨x, hx⟩ : ∃ x, x = (stN h lo hi t (j + 1)).1 := ⟨_, rfl⟩
        rw [← hx] at cG
        have HX : Hid ((stN h lo hi t (j + 1)).1 = x) := hx.symm
        clear hx
        go_wp2
        refine bodyPost_ret (v := threeB ((j + 1 : Nat) : Int) x false) (by simp [results, Try.results18, go_sem]) rfl ⟨_, _, false, rfl, HF.out x HX.out, HB1.out⟩
end Go.Proofs.Ytjpjkkjklghpgaa
