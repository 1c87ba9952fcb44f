/- The law CurveFitted walked. -/
import Derived.Test.YteamcgoemgailaaFit
import Derived.Test.YteamcgoemgailaaRises
namespace Go.Proofs.Yteamcgoemgailaa
open Go.RowKit

theorem knots_cap {H : Type} {enc : TypeId × Value → H} {W : World} {sp : Nat → Bool} {ao : Option Addr} {n cap : Nat} {d : DataW H} {p : List MemPlace} (h : DataW.Trod enc Try.prog W 0 sp true 22 (.slice ao n cap) d p) : n ≤ cap := by
  obtain ⟨fuel, hf⟩ := h
  rcases Go.Deep.open_slice Try.underlying22 hf with ⟨hcs, _⟩ | ⟨a, len, cap, m, n, D, Pl, hcs, _, hl, _⟩
  · simp [Value.cells] at hcs
    omega
  · simp [Value.cells] at hcs
    omega
set_option maxHeartbeats 3200000 in
theorem fitted_bad (ao : Option Addr) (cap : Nat) (l : List Kn) (a : Int) (w : World) (hL : Kns w ao l) (hl : l.length ≤ 9223372036854775807) (hc : chk l ≠ 0) :
    Calls Try.prog 6 #[.slice ao l.length cap, .int .i64 a] w fun e w' => e = .returned (.bool true) ∧ Below w.heap.size w w' := by
  have HL : Hid (Kns w ao l) := hL
  have hne : (chk l != 0) = true := by simp [hc]
  clear hL hc
  go_enter Try.func6, Try.ntmps6
  go_wp2_with fail
  refine (example_steps w).mono ?_
  rintro e w1 ⟨rfl, hb1⟩
  have HB1 : Hid (Below w.heap.size w w1) := below_on ((Below.refl _ _).alloc (Nat.le_refl _) _) hb1
  clear hb1
  go_wp2_with fail
  refine (check_any ao cap l w1 (HL.out.next HB1.out) hl).mono ?_
  rintro e w2 ⟨rfl, hb2⟩
  go_wp2
  go_ret
  exact ⟨rfl, below_on HB1.out hb2⟩
set_option maxHeartbeats 6400000 in
theorem fitted_ok (b off cap : Nat) (l : List Kn) (a : Int) (w : World) (hL : Kns w (some ⟨b, off, none⟩) l) (hcap : l.length ≤ cap) (hc : Curve l) (ha : -9223372036854775808 ≤ a ∧ a ≤ 9223372036854775807) :
    Calls Try.prog 6 #[.slice (some ⟨b, off, none⟩) l.length cap, .int .i64 a] w fun e w' => e = .returned (.bool true) ∧ Below w.heap.size w w' := by
  have HL : Hid (Kns w (some ⟨b, off, none⟩) l) := hL
  have HC : Hid (Curve l) := hc
  have h2 := hc.two
  have h50 := hc.most
  have HA := (show Hid _ from ha)
  have hpk := pick_in a (l.length : Int) (by omega)
  obtain ⟨K, hK⟩ : ∃ K : Nat, pick a (l.length : Int) = (K : Int) := ⟨(pick a (l.length : Int)).toNat, by omega⟩
  have HK : Hid (pick a (l.length : Int) = (K : Int)) := hK
  have hKl : K < l.length := by omega
  clear hL hc ha hpk hK
  go_enter Try.func6, Try.ntmps6
  go_wp2_with fail
  refine (example_steps w).mono ?_
  rintro e w1 ⟨rfl, hb1⟩
  have HB1 : Hid (Below w.heap.size w w1) := below_on ((Below.refl _ _).alloc (Nat.le_refl _) _) hb1
  clear hb1
  go_wp2_with fail
  refine (check_r _ cap l 0 (chk_ok.2 HC.out) w1 (HL.out.next HB1.out) (by omega)).mono ?_
  rintro e w2 ⟨rfl, hb2⟩
  have HB2 : Hid (Below w.heap.size w w2) := below_on HB1.out hb2
  clear hb2
  go_wp2_with fail
  refine (picked_any a (l.length : Int) w2 HA.out (by omega) (by omega)).mono ?_
  rintro e w3 ⟨rfl, rfl⟩
  rw [HK.out]
  have hck : ¬ cap = K := by omega
  have hKc : K ≤ cap := by omega
  have hKl2 : K ≤ l.length := by omega
  have HD : Hid (Kns w3 (some ⟨b, off + K * 2, none⟩) (l.drop K)) := (HL.out.next HB2.out).drop K
  have HDL : Hid ((l.drop K).length = l.length - K) := List.length_drop
  have HTL : Hid ((l.take K).length = K) := by show (l.take K).length = K; rw [List.length_take]; omega
  have HT : ∀ W, Below w.heap.size w W → Kns W (some ⟨b, off, none⟩) (l.take K) := by
    intro W hW
    rcases HL.out.next hW with h | ⟨b', off', e, h⟩
    · exact .inl (by rw [h]; simp)
    · refine .inr ⟨b', off', e, fun j hj => ?_⟩
      have hj2 : j < l.length := by rw [HTL.out] at hj; omega
      rw [List.getElem_take]
      exact h j hj2
  have HT2 := (show Hid _ from HT)
  clear HT
  go_wp2_with (at_builtin; refine wpList_append_kn _ rfl (.tmp 32) (.tmp 35) rfl w.heap.size (.slice none 0 0) [] rfl (OwnK.nil _ _) ⟨b, off + K * 2, none⟩ (cap - K) (l.drop K) ?qa HD.out ?qb HB2.out.size ?_)
  case qa => rw [HDL.out]; rfl
  case qb => rw [HDL.out]; simp; omega
  intro v4 w4 ho4 hg4 _
  have HB4 : Hid (Below w.heap.size w w4) := HB2.out.grown hg4 HB2.out.size (fun k hk => by cases hk)
  have HO4 : Hid (OwnK w4 w.heap.size v4 (l.drop K)) := ho4
  obtain ⟨ao4, cap4, rfl, _, _⟩ := ho4.shape
  clear ho4 hg4 HD
  rw [HDL.out] at HO4 ⊢
  go_wp2_with (at_builtin; refine wpList_append_kn _ rfl (.tmp 37) (.tmp 40) rfl w.heap.size _ (l.drop K) rfl HO4.out ⟨b, off, none⟩ cap (l.take K) ?qc (HT2.out _ HB4.out) ?qd HB4.out.size ?_)
  case qc => rw [HTL.out]; rfl
  case qd => rw [HTL.out, HDL.out]; omega
  intro v5 w5 ho5 hg5 _
  have HB5 : Hid (Below w.heap.size w w5) := HB4.out.grown hg5 HB4.out.size HO4.out.base
  have HF : Hid (FitIs (l.drop K ++ l.take K) 0 l) := fit_own HC.out (by
    refine List.perm_append_comm.trans ?_
    rw [List.take_append_drop])
  obtain ⟨ao5, cap5, rfl, _, _⟩ := ho5.shape
  have HO5 := (show Hid _ from ho5.kns)
  have HLL : Hid ((l.drop K ++ l.take K).length = l.length) := by show List.length _ = _; rw [List.length_append, HTL.out, HDL.out]; omega
  clear ho5 hg5 HT2 HO4 HTL HDL
  rw [HLL.out]
  generalize l.drop K ++ l.take K = t at *
  go_wp2_with fail
  refine (fit_n ao5 cap5 t l.length HLL.out w5 HO5.out.1 HO5.out.2.2.2 (by omega)).mono ?_
  rintro e w6 ⟨v6, r6, C6, rfl, hf6, hc6, hb6⟩
  have HB6 : Hid (Below w.heap.size w w6) := below_on HB5.out hb6
  obtain ⟨hr6, hC6⟩ := hf6.one HF.out
  subst hr6
  rw [hC6] at hc6
  clear hC6
  have HB7 := (show Hid _ from hc6)
  obtain ⟨ao6, cap6, rfl, hk6, _⟩ := hc6
  have HK6 : Hid (Kns w6 ao6 l) := hk6
  clear hf6 hk6 hb6 HO5 HLL HF HC HB7
  go_wp2
  go_loopw [10] (fun i wr => ∃ k : Nat, k ≤ l.length ∧ i = .int .i64 (k : Int) ∧ ∃ q, wr = w6.drewN q) (fun i _ => l.length - (intOf i).toNat)
  case atStart => exact ⟨0, Nat.zero_le _, rfl, 0, rfl⟩
  case round =>
    obtain ⟨k, hk, rfl, q, rfl⟩ := hrel
    by_cases hlt : k < l.length
    · obtain ⟨b', off', e, _, c0, c1⟩ := (HL.out.next HB6.out).at hlt
      injection e with e
      injection e with e e'
      subst e e'
      obtain ⟨g, o, rfl, _, d0, d1⟩ := HK6.out.at hlt
      generalize (l[k]'hlt).v = v at *
      generalize (l[k]'hlt).s = s at *
      go_wp2_with fail
      go_big_quiet (fail)
      go_wp2
      go_roundw
      case rel => exact ⟨k + 1, by omega, by go_num, _, rfl⟩
      case measure => simp [intOf]; omega
    · go_wp2
      go_ret
      exact ⟨rfl, below_drewN HB6.out _⟩
theorem fitted_any (ao : Option Addr) (cap : Nat) (l : List Kn) (a : Int) (w : World) (hL : Kns w ao l) (hcap : l.length ≤ cap) (hl : l.length ≤ 9223372036854775807) (ha : -9223372036854775808 ≤ a ∧ a ≤ 9223372036854775807) :
    Calls Try.prog 6 #[.slice ao l.length cap, .int .i64 a] w fun e w' => e = .returned (.bool true) ∧ Below w.heap.size w w' := by
  by_cases h : chk l = 0
  · have hc := chk_ok.1 h
    obtain ⟨b, off, rfl, _⟩ := hL.at (k := 0) (by have := hc.two; omega)
    exact fitted_ok b off cap l a w hL hcap hc ha
  · exact fitted_bad ao cap l a w hL hl h
end Go.Proofs.Yteamcgoemgailaa
