/- Fit walked. -/
import Derived.Test.YteamcgoemgailaaCli
import Derived.Test.YteamcgoemgailaaFitQ
namespace Go.Proofs.Yteamcgoemgailaa
open Go.RowKit

abbrev ansF (v : Value) (r : Int) : Ending := .returned (.tuple #[v, .int .i64 r])
theorem copy_nil (w : World) : IsCopy [] (.slice none 0 0) w := ⟨none, 0, rfl, Kns.nil _ _, Nat.le_refl _⟩
set_option maxHeartbeats 3200000 in
theorem fit_any (ao : Option Addr) (cap : Nat) (l : List Kn) (w : World) (hL : Kns w ao l) (hn : ao = none → cap = 0) (hl : l.length ≤ 9223372036854775807) :
    Calls Try.prog 15 #[.slice ao l.length cap] w fun e w' => ∃ v r C, e = ansF v r ∧ FitIs l r C ∧ IsCopy C v w' ∧ Below w.heap.size w w' := by
  have HL : Hid (Kns w ao l) := hL
  have HN0 := (show Hid _ from hn)
  clear hL hn
  by_cases hm : 50 < l.length
  · have HR : Hid (FitIs l 7 []) := .inl ⟨hm, rfl, rfl⟩
    go_enter Try.func15, Try.ntmps15
    go_wp2
    go_ret2
    exact ⟨_, _, _, rfl, HR.out, copy_nil _, Below.refl _ _⟩
  have h50 : l.length ≤ 50 := by omega
  clear hm
  cases ho : l.any outK with
  | true =>
    have HR : Hid (FitIs l 2 []) := .inr (.inl ⟨h50, ho, rfl, rfl⟩)
    go_enter Try.func15, Try.ntmps15
    go_wp2_with fail
    refine (outside_any ao cap l true ho w HL.out (by omega)).mono ?_
    rintro e w1 ⟨rfl, hb1⟩
    go_wp2
    go_ret2
    exact ⟨_, _, _, rfl, HR.out, copy_nil _, hb1⟩
  | false =>
    have HO : Hid (l.any outK = false) := ho
    clear ho
    go_enter Try.func15, Try.ntmps15
    go_wp2_with fail
    refine (outside_any ao cap l false HO.out w HL.out (by omega)).mono ?_
    rintro e w1 ⟨rfl, hb1⟩
    have HB1 : Hid (Below w.heap.size w w1) := hb1
    clear hb1
    go_wp2_with fail
    refine (sorted_any ao cap l w1 (HL.out.next HB1.out) HN0.out h50).mono ?_
    rintro e w2 ⟨v2, rfl, hc2, hb2⟩
    have HB2 : Hid (Below w.heap.size w w2) := below_on HB1.out hb2
    have HC2 : Hid (IsCopy (srt l) v2 w2) := hc2
    clear hb2
    obtain ⟨ao2, cap2, rfl, _, _⟩ := hc2
    have HP : Hid ((srt l).Perm l) := srt_perm l
    have hsl : (srt l).length ≤ 50 := by rw [HP.out.length_eq]; exact h50
    go_wp2_with fail
    refine (means_any _ (srt l) w2 HC2.out hsl (srt_up l) (fun k hk => out_mem HO.out k (HP.out.mem_iff.1 hk))).mono ?_
    rintro e w3 ⟨v3, M, rfl, ho3, hM, hMl, hb3⟩
    have HB3 : Hid (Below w.heap.size w w3) := below_on HB2.out hb3
    have HO3 : Hid (OwnK w3 w2.heap.size v3 M) := ho3
    have HM : Hid (Means (srt l) M) := hM
    have hMl2 : M.length ≤ 50 := by omega
    clear hb3 hM
    obtain ⟨ao3, cap3, rfl, _, _⟩ := ho3.shape
    clear ho3
    go_wp2_with fail
    refine (begun_any _ M w2.heap.size w3 HO3.out hMl2).mono ?_
    rintro e w4 ⟨v4, rfl, ho4, hb4⟩
    have HB4 : Hid (Below w.heap.size w w4) := below_on HB3.out hb4
    have HC4 : Hid (IsCopy (z0 :: beg M) v4 w4) := ho4.shape
    clear hb4
    obtain ⟨ao4, cap4, rfl, _, _⟩ := ho4.shape
    clear ho4
    go_wp2_with fail
    refine (climbing_any _ (z0 :: beg M) w4 HC4.out (by have := beg_length M; simp; omega)).mono ?_
    rintro e w5 ⟨v5, rfl, ho5, hb5⟩
    have HB5 : Hid (Below w.heap.size w w5) := below_on HB4.out hb5
    have HPM : Hid (PMeans l (beg M)) := (HM.out.perm HP.out).pos fun p hp => (outK_no.1 (out_mem HO.out p hp)).1.1
    rw [climb_begun] at ho5
    have hlen : (climb [z0] (beg M)).length ≤ 51 := by have := climb_length (beg M) [z0]; have := beg_length M; simp at *; omega
    have HC5 : Hid (IsCopy (climb [z0] (beg M)) v5 w5) := ho5.shape
    have HF : Hid (FitIs l (chk (climb [z0] (beg M))) (if chk (climb [z0] (beg M)) = 0 then climb [z0] (beg M) else [])) := .inr (.inr ⟨h50, HO.out, _, HPM.out, by have := beg_length M; omega, rfl, rfl⟩)
    clear hb5
    obtain ⟨ao5, cap5, rfl, hk5, _⟩ := ho5.shape
    have HK5 : Hid (Kns w5 ao5 (climb [z0] (beg M))) := hk5
    clear ho5 hk5
    go_wp2_with fail
    refine (check_any ao5 cap5 (climb [z0] (beg M)) w5 HK5.out (by omega)).mono ?_
    rintro e w6 ⟨rfl, hb6⟩
    have HB6 : Hid (Below w.heap.size w w6) := below_on HB5.out hb6
    by_cases hz : chk (climb [z0] (beg M)) = 0
    · have HC6 := (show Hid _ from HC5.out.later hb6)
      have HF2 : Hid (FitIs l 0 (climb [z0] (beg M))) := by have := HF.out; rw [hz, if_pos rfl] at this; exact this
      rw [hz]
      clear hz hb6
      go_wp2
      go_ret2
      exact ⟨_, _, _, rfl, HF2.out, HC6.out, HB6.out⟩
    · have HF2 : Hid (FitIs l (chk (climb [z0] (beg M))) []) := by have := HF.out; rw [if_neg hz] at this; exact this
      have hne : (chk (climb [z0] (beg M)) != 0) = true := by simp [hz]
      clear hz hb6
      go_wp2
      go_ret2
      exact ⟨_, _, _, rfl, HF2.out, copy_nil _, HB6.out⟩
theorem fit_n (ao : Option Addr) (cap : Nat) (l : List Kn) (n : Nat) (hn0 : l.length = n) (w : World) (hL : Kns w ao l) (hn : ao = none → cap = 0) (hl : n ≤ 9223372036854775807) :
    Calls Try.prog 15 #[.slice ao n cap] w fun e w' => ∃ v r C, e = ansF v r ∧ FitIs l r C ∧ IsCopy C v w' ∧ Below w.heap.size w w' := by
  subst hn0; exact fit_any ao cap l w hL hn hl
end Go.Proofs.Yteamcgoemgailaa
