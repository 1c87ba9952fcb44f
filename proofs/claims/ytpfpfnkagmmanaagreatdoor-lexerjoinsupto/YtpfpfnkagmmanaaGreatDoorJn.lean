/- lexer.Join, walked. -/
import Derived.Test.YtpfpfnkagmmanaaGreatDoorJnW
import Derived.Test.YtpfpfnkagmmanaaGreatDoorJnG
import Derived.Test.YtpfpfnkagmmanaaGreatDoorLxL
import Derived.Test.YtpfpfnkagmmanaaGreatDoorSame
namespace Go.Proofs.YtpfpfnkagmmanaaGreatDoor
open Go.RowKit Go.Shelf

set_option maxHeartbeats 3200000 in
theorem join_any (ao : Option Addr) (cap : Nat) (l : List Tk) (w : World) (hT : Tab w) (hL : Tks w ao l) (hl : l.length ≤ 4398046511104) (ht : ∀ p ∈ l, p.t.length ≤ 1048576) :
    Calls Tryz.prog 4 #[.slice ao l.length cap] w fun e w' => ∃ s x, e = .returned (.tuple #[.string ⟨s.toArray⟩, .int .i64 x]) ∧ Joins l s x ∧ Below w.heap.size w w' := by
  have HL : Hid (Tks w ao l) := hL
  have HT : Hid (Tab w) := hT
  have HO := isOrdered_any ao cap l w hL hl
  cases ho : ordB 1 l with
  | false =>
    rw [ho] at HO
    have HO := (show Hid _ from HO)
    have HX : Hid (Joins l [] 15) := .inl ⟨ho, rfl, rfl⟩
    obtain ⟨m, hm⟩ : ∃ m, m = l.length := ⟨_, rfl⟩
    rw [← hm] at HO ⊢
    clear hL hT ho ht hl hm
    go_enter Tryz.func4, Tryz.ntmps4
    go_wp2_with fail
    refine Calls.mono HO.out ?_
    rintro x w1 ⟨rfl, hb1⟩
    go_wp2
    go_ret2
    exact ⟨[], 15, rfl, HX.out, hb1⟩
  | true =>
    rw [ho] at HO
    have HO := (show Hid _ from HO)
    have HW : Hid (∀ W, Below w.heap.size w W → Calls Tryz.prog 9 #[.slice ao l.length cap] W fun e w' => e = .returned (.string ⟨(wrT [] true 1 l).toArray⟩) ∧ Below W.heap.size W w') := fun W h => written_any ao cap l W (HL.out.next h) hl ho ht
    have HOR : Hid (ordB 1 l = true) := ho
    obtain ⟨J, hJ⟩ : ∃ J, J = wrT [] true 1 l := ⟨_, rfl⟩
    have HJ : Hid (J = wrT [] true 1 l) := hJ
    rw [← hJ] at HW
    obtain ⟨T, N, E, hres⟩ : ∃ T N E, lexR J = (T, N, E) := ⟨_, _, _, rfl⟩
    have HR : Hid (lexR J = (T, N, E)) := hres
    have HLX : Hid (∀ W, Tab W → Calls Tryz.prog 10 #[.string ⟨J.toArray⟩] W fun e w' => ∃ v, e = .returned (.tuple #[v, .int .i64 N, .int .i64 E]) ∧ OwnT w' W.heap.size v T ∧ Below W.heap.size W w') := fun W h => lex_any J W h T N E hres
    have HSM : Hid (E = 0 → T.length ≤ 4398046511104) := fun h => by
      rcases lexR_good hres with ⟨h1, _⟩ | ⟨_, _, _, _, _, h6, _⟩
      · exact absurd h h1
      · omega
    -- what the tokens told say of the whole
    have HNO : Hid (E ≠ 0 → Joins l [] 1) := fun hE => by
      refine .inr ⟨HOR.out, .inr ⟨fun ⟨h1, h2⟩ => hE ?_, rfl, rfl⟩⟩
      have e : J = joinT true 1 l := by rw [HJ.out]; exact wrT_small l [] true 1 h1
      have h3 := HR.out
      unfold lexR at h3
      rw [if_neg (by rw [e]; omega), e, h2] at h3
      simp only [Prod.mk.injEq] at h3
      exact h3.2.2.symm
    have HNE : Hid (E = 0 → T ≠ l → Joins l [] 1) := fun hE hTl => by
      refine .inr ⟨HOR.out, .inr ⟨fun ⟨h1, h2⟩ => hTl ?_, rfl, rfl⟩⟩
      have e : J = joinT true 1 l := by rw [HJ.out]; exact wrT_small l [] true 1 h1
      have h3 := HR.out
      unfold lexR at h3
      rw [if_neg (by rw [e]; omega), e, h2] at h3
      simp only [Prod.mk.injEq] at h3
      exact h3.1.symm
    have HYE : Hid (E = 0 → T = l → Joins l J 0) := fun hE hTl => by
      rcases lexR_good HR.out with ⟨h1, _⟩ | ⟨h1, h2, _⟩
      · exact absurd hE h1
      · have hs : (joinT true 1 l).length ≤ 20000 := by
          refine Nat.le_of_not_lt fun hb => ?_
          have := wrT_big l [] true 1 hb
          rw [← HJ.out] at this
          omega
        have e : J = joinT true 1 l := by rw [HJ.out]; exact wrT_small l [] true 1 hs
        have h3 := HR.out
        unfold lexR at h3
        rw [if_neg (by omega), h2, hE, hTl, e] at h3
        exact .inr ⟨HOR.out, .inl ⟨⟨hs, h3⟩, e, rfl⟩⟩
    obtain ⟨m, hm⟩ : ∃ m, m = l.length := ⟨_, rfl⟩
    have HM : Hid (m = l.length) := hm
    rw [← hm] at HO HW ⊢
    clear hL hT ho ht hl hm hJ hres
    go_enter Tryz.func4, Tryz.ntmps4
    go_wp2_with fail
    refine Calls.mono HO.out ?_
    rintro x w1 ⟨rfl, hb1⟩
    have HB1 : Hid (Below w.heap.size w w1) := hb1
    clear hb1
    go_wp2_with fail
    refine Calls.mono (HW.out w1 HB1.out) ?_
    rintro x w2 ⟨rfl, hb2⟩
    have HB2 : Hid (Below w.heap.size w w2) := below_on HB1.out hb2
    clear hb2
    go_wp2_with fail
    refine Calls.mono (HLX.out w2 (HT.out.next HB2.out)) ?_
    rintro x w3 ⟨v, rfl, hv, hb3⟩
    have HB3 : Hid (Below w.heap.size w w3) := below_on HB2.out hb3
    obtain ⟨a3, c3, rfl, hk3⟩ := hv.tks
    have HK3 : Hid (Tks w3 a3 T) := hk3
    obtain ⟨m3, hm3⟩ : ∃ m3, m3 = T.length := ⟨_, rfl⟩
    have HM3 : Hid (m3 = T.length) := hm3
    rw [← hm3]
    clear hb3 hv hk3 hm3
    by_cases hE : E = 0
    · subst hE
      have HSM2 : Hid (T.length ≤ 4398046511104) := HSM.out rfl
      have HYE2 : Hid (T = l → Joins l J 0) := HYE.out rfl
      have HNE2 : Hid (T ≠ l → Joins l [] 1) := HNE.out rfl
      clear HSM HYE HNE HNO
      go_wp2_with fail
      rw [HM3.out, HM.out]
      refine Calls.mono (equal_any a3 ao c3 cap T l w3 HK3.out (HL.out.next HB3.out) HSM2.out) ?_
      rintro x w4 ⟨r, rfl, hr, hb4⟩
      have HB4 : Hid (Below w.heap.size w w4) := below_on HB3.out hb4
      cases r with
      | true =>
        have HX : Hid (Joins l J 0) := HYE2.out (hr.1 rfl)
        clear hr hb4
        go_wp2
        go_ret2
        exact ⟨J, 0, rfl, HX.out, HB4.out⟩
      | false =>
        have HX : Hid (Joins l [] 1) := HNE2.out (fun e => by have := hr.2 e; cases this)
        clear hr hb4
        go_wp2
        go_ret2
        exact ⟨[], 1, rfl, HX.out, HB4.out⟩
    · have HX : Hid (Joins l [] 1) := HNO.out hE
      have q : (E != 0) = true := by simp [hE]
      clear hE
      go_wp2
      go_ret2
      exact ⟨[], 1, rfl, HX.out, HB3.out⟩
end Go.Proofs.YtpfpfnkagmmanaaGreatDoor
