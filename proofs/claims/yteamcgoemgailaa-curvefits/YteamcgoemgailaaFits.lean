/- The law CurveFits walked. -/
import Derived.Test.YteamcgoemgailaaRefF
namespace Go.Proofs.Yteamcgoemgailaa
open Go.RowKit

theorem refFit_any (ao : Option Addr) (cap : Nat) (l : List Kn) (r : Int) (C : List Kn) (hF : FitIs l r C) (w : World) (hL : Kns w ao l) (hl : l.length ≤ 9223372036854775807) :
    Calls Try.prog 16 #[.slice ao l.length cap] w fun e w' => ∃ v, e = ansF v r ∧ IsCopy C v w' ∧ Below w.heap.size w w' := by
  have key : Calls Try.prog 16 #[.slice ao l.length cap] w fun e w' => ∃ v r C, e = ansF v r ∧ FitIs l r C ∧ IsCopy C v w' ∧ Below w.heap.size w w' := by
    rcases hF with ⟨h1, _⟩ | ⟨h1, h2, _⟩ | ⟨h1, h2, R, h3, h4, _⟩
    · exact refFit_many ao cap l w h1 hl
    · exact refFit_out ao cap l w hL h1 h2
    · exact refFit_in ao cap l R w hL h1 h3 h4
  refine key.mono ?_
  rintro e w' ⟨v, r', C', rfl, h1, h2, h3⟩
  obtain ⟨rfl, rfl⟩ := h1.one hF
  exact ⟨v, rfl, h2, h3⟩
set_option maxHeartbeats 800000 in
theorem knots_own (ao : Option Addr) (cap : Nat) (l : List Kn) (w : World) (h : Kns w ao l) (hn : ao = none → cap = 0) (hreach : l.length * 16 ≤ 140737488351232) :
    Calls Try.prog 8 #[.slice ao l.length cap] w fun e w' => ∃ v, e = .returned v ∧ OwnK w' w.heap.size v l ∧ Below w.heap.size w w' := by
  have HF : Hid (Kns w ao l) := h
  clear h
  cases ao with
  | none =>
    obtain rfl : l = [] := by
      rcases HF.out with h | ⟨b, off, h, _⟩
      · exact h
      · cases h
    rw [hn rfl]
    have HC : Hid (OwnK w w.heap.size (.slice none 0 0) []) := OwnK.nil _ _
    simp only [List.length_nil]
    go_enter Try.func8, Try.ntmps8
    go_wp2
    go_ret
    exact ⟨_, rfl, HC.out, Below.refl _ _⟩
  | some a =>
    clear hn
    go_enter Try.func8, Try.ntmps8
    go_wp2_with (at_builtin; refine wpList_append_kn _ rfl (.const (.slice none 0 0)) (.tmp 3) rfl w.heap.size (.slice none 0 0) [] rfl (OwnK.nil _ _) a cap l rfl HF.out (by simp; omega) (Nat.le_refl _) ?_; intro v' w1 ho hg _)
    go_ret
    exact ⟨v', rfl, by simpa using ho, (Below.refl _ _).grown hg (Nat.le_refl _) (fun k hk => by cases hk)⟩
set_option maxHeartbeats 6400000 in
theorem fits_any (ao : Option Addr) (cap : Nat) (l : List Kn) (w : World) (hL : Kns w ao l) (hn0 : ao = none → cap = 0) (hreach : l.length * 16 ≤ 140737488351232) :
    Calls Try.prog 4 #[.slice ao l.length cap] w fun e w' => e = .returned (.bool true) ∧ Below w.heap.size w w' := by
  have HL : Hid (Kns w ao l) := hL
  have HN0 := (show Hid _ from hn0)
  clear hL hn0
  go_enter Try.func4, Try.ntmps4
  go_wp2_with fail
  refine (knots_own ao cap l w HL.out HN0.out hreach).mono ?_
  rintro e w1 ⟨v1, rfl, ho1, hb1⟩
  have HB1 : Hid (Below w.heap.size w w1) := hb1
  obtain ⟨ao1, cap1, rfl, _, _⟩ := ho1.shape
  have HO1 := (show Hid _ from ho1.kns)
  clear hb1 ho1
  go_wp2_with fail
  refine (fit_any ao1 cap1 l w1 HO1.out.1 HO1.out.2.2.2 (by omega)).mono ?_
  rintro e w2 ⟨v2, r, C, rfl, hf, hc2, hb2⟩
  have HB2 : Hid (Below w.heap.size w w2) := below_on HB1.out hb2
  have HF : Hid (FitIs l r C) := hf
  obtain ⟨ao2, cap2, rfl, hk2, _⟩ := hc2
  have HK2 : Hid (Kns w2 ao2 C) := hk2
  clear hb2 hf hk2 HO1
  go_wp2_with fail
  refine (refFit_any ao cap l r C HF.out w2 (HL.out.next HB2.out) (by omega)).mono ?_
  rintro e w3 ⟨v3, rfl, hc3, hb3⟩
  have HB3 : Hid (Below w.heap.size w w3) := below_on HB2.out hb3
  have HK3 : Hid (Kns w3 ao2 C) := HK2.out.next hb3
  obtain ⟨ao3, cap3, rfl, hk3, _⟩ := hc3
  have HK4 : Hid (Kns w3 ao3 C) := hk3
  have hCl : C.length ≤ 9223372036854775807 := by
    rcases HF.out with ⟨_, _, rfl⟩ | ⟨_, _, _, rfl⟩ | ⟨_, _, R, _, h4, _, rfl⟩
    · simp
    · simp
    · have := climb_length R [z0]
      split
      · simp at this; omega
      · simp
  clear hb3 hk3 HF HK2
  go_wp2
  go_loopw [7] (fun i wr => ∃ k : Nat, k ≤ C.length ∧ i = .int .i64 (k : Int) ∧ ∃ q, wr = w3.drewN q) (fun i _ => C.length - (intOf i).toNat)
  case atStart => exact ⟨0, Nat.zero_le _, rfl, 0, rfl⟩
  case round =>
    obtain ⟨k, hk, rfl, q, rfl⟩ := hrel
    by_cases hlt : k < C.length
    · obtain ⟨b, off, rfl, _, c0, c1⟩ := HK3.out.at hlt
      obtain ⟨g, o, rfl, _, d0, d1⟩ := HK4.out.at hlt
      generalize (C[k]'hlt).v = v at *
      generalize (C[k]'hlt).s = s at *
      go_wp2_with fail
      go_big_quiet (fail)
      go_wp2
      go_roundw
      case rel => exact ⟨k + 1, by omega, by go_num, _, rfl⟩
      case measure => simp [intOf]; omega
    · go_wp2
      go_ret
      exact ⟨rfl, below_drewN HB3.out _⟩
end Go.Proofs.Yteamcgoemgailaa
