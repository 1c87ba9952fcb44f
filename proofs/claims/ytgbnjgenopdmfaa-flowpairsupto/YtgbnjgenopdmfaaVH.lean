/- workcellref.UsageOf, workcelllaw.actions walked. -/
import Derived.Test.YtgbnjgenopdmfaaLQ
import Derived.Test.YtgbnjgenopdmfaaVF
namespace Go.Proofs.Ytgbnjgenopdmfaa
open Go.RowKit Go.Maps

attribute [local go_sem] Oper.semAt_some
theorem results_tmp4 {fn : Func} {t u v x : Tmp} (h : fn.results = #[.tmp t, .tmp u, .tmp v, .tmp x]) (tmps : Array Value) (P : Program) (w : World) :
    (results fn tmps).run P w = .ok (.tuple #[tmps.getD t undef, tmps.getD u undef, tmps.getD v undef, tmps.getD x undef]) w := by
  simp [results, h]
theorem volsM_bound (os : List Mvd) (h : ∀ o ∈ os, 1 ≤ o.vol ∧ o.vol ≤ 1000000000) : ∀ i, i ≤ os.length → 0 ≤ volsM (os.take i) ∧ volsM (os.take i) ≤ i * 1000000000
  | 0, _ => by simp [volsM]
  | i + 1, hi => by
    have hlt : i < os.length := hi
    have ih := volsM_bound os h i (by omega)
    have ho := h (os[i]'hlt) (List.getElem_mem hlt)
    rw [List.take_succ_eq_append_getElem hlt, volsM_append]
    simp only [volsM]
    omega
/-- What UsageOf answers. -/
def uoR (acs : List Acn) : Int × Int × Int × Bool := match usT 0 acs with
  | none => (0, 0, 0, false)
  | some t => (tipsC acs, volsR (shares acs), t, true)
abbrev uov (r : Int × Int × Int × Bool) : Value := .tuple #[.int .i64 r.1, .int .i64 r.2.1, .int .i64 r.2.2.1, .bool r.2.2.2]
set_option maxHeartbeats 6400000 in
set_option maxRecDepth 100000 in
theorem usageOf_any (ao : Option Addr) (cap : Nat) (acs : List Acn) (w : World) (hA : Acs w ao acs) (hal : ∀ ad, ao = some ad → acs ≠ [] → ad.block < w.heap.size) (hl : acs.length ≤ 3000) :
    Calls Try.prog 12 #[.slice ao acs.length cap] w fun e w' => e = .returned (uov (uoR acs)) ∧ Below w.heap.size w w' := by
  have HC : Hid (Calls Try.prog 21 #[.slice ao acs.length cap, .slice none 0 0] w fun e w' => Below w.heap.size w w' ∧ ∃ ov mv, e = .returned (.tuple #[ov, mv]) ∧ OwnR encM w' w.heap.size ov (moves acs []).out ∧ OwnR encP w' w.heap.size mv (moves acs []).marks) :=
    movesOf_any ao cap acs [] _ w.heap.size w hA hal hl (OwnR.nil _ _ _) (by simp) (Nat.le_refl _)
  have hmb := (mvB_all acs [] hl acs.length (Nat.le_refl _)).out
  rw [List.take_length] at hmb
  have hok := moves_out_ok acs [] (by simp)
  rw [show keysM ([] : Snc) = [] from rfl] at hok
  have hpe := volsM_eq acs
  have HA : Hid (Acs w ao acs) := hA
  clear hA hal
  go_enter Try.func12, Try.ntmps12
  go_wp2_with fail
  refine HC.out.mono ?_
  rintro e w3 ⟨hb3, ov, mv, rfl, ho3, hm3⟩
  have HB3 : Hid (Below w.heap.size w w3) := hb3
  obtain ⟨aoM, nM, cM, rfl⟩ := hm3.form
  obtain ⟨aoS, cS, rfl⟩ := ho3.shape
  have HMR : Hid (RdR encM w3 aoS (moves acs []).out) := ho3.rd goodM
  clear ho3 hm3 hb3 HC
  obtain ⟨os, hos⟩ : ∃ os, os = (moves acs []).out := ⟨_, rfl⟩
  rw [← hos] at HMR hmb hok hpe ⊢
  have HPE : Hid (volsM os = volsR (shares acs)) := hpe
  have HOK : Hid (∀ o ∈ os, o.num < acs.length ∧ 1 ≤ o.vol ∧ o.vol ≤ 1000000000) := hok
  have HVB : Hid (∀ i, i ≤ os.length → 0 ≤ volsM (os.take i) ∧ volsM (os.take i) ≤ i * 1000000000) := fun i hi => volsM_bound os (fun o ho => (hok o ho).2) i hi
  have hol : os.length ≤ 9000000 := by omega
  clear hmb hok hpe hos
  go_wp2
  go_loopw [7, 11] (fun q7 q11 wr => ∃ i : Nat, i ≤ os.length ∧ q7 = .int .i64 (volsM (os.take i)) ∧ q11 = .int .i64 i ∧ w3 = wr) (fun _ i _ => os.length - (intOf i).toNat)
  case atStart => exact ⟨0, Nat.zero_le _, rfl, rfl, rfl⟩
  case round =>
    obtain ⟨i, hi, rfl, rfl, hwr⟩ := hrel
    subst hwr
    have hv0 := HVB.out i hi
    by_cases hlt : i < os.length
    · have hii : (i : Int) < (os.length : Int) := by omega
      obtain ⟨gm, om, rfl, hcs⟩ : ∃ gm om, aoS = some ⟨gm, om, none⟩ ∧ ∀ j, j < 6 → w3.cell? ⟨gm, om + i * 6 + j, none⟩ = (encM.enc (os[i]'hlt))[j]? := by
        rcases HMR.out with h | ⟨gp, op, e, _, hc⟩
        · rw [h] at hlt; simp at hlt
        · exact ⟨gp, op, e, fun j hj => hc i hlt j hj⟩
      have HNX : Hid (volsM (os.take (i + 1)) = volsM (os.take i) + (os[i]'hlt).vol) := by show _ = _; rw [List.take_succ_eq_append_getElem hlt, volsM_append]; simp [volsM]
      have hxo := HOK.out (os[i]'hlt) (List.getElem_mem hlt)
      generalize os[i]'hlt = x at *
      obtain ⟨hxn, hxv1, hxv2⟩ := hxo
      have e4 := hcs 4 (by decide)
      simp only [mvc, List.getElem?_cons_zero, List.getElem?_cons_succ] at e4
      clear hcs
      generalize volsM (os.take i) = sm at *
      obtain ⟨hv0, hv1⟩ := hv0
      have hv2 : sm ≤ 9000000000000000 := by omega
      go_wp2
      go_roundw
      case rel => exact ⟨i + 1, by omega, by rw [HNX.out], by go_num, trivial⟩
      case measure => simp [intOf]; omega
    · have hii : ¬ (i : Int) < (os.length : Int) := by omega
      have e : os.take i = os := List.take_of_length_le (by omega)
      rw [e, HPE.out]
      rw [e, HPE.out] at hv0
      clear e
      obtain ⟨vs, hvs⟩ : ∃ vs, vs = volsR (shares acs) := ⟨_, rfl⟩
      rw [← hvs]
      have HVS : Hid (vs = volsR (shares acs)) := hvs
      clear hvs hv0
      have HAR : Hid (Acs w3 ao acs) := HA.out.next HB3.out
      go_wp2
      go_loopw [6, 8, 12] (fun a b i wr => ∃ (k : Nat) (t : Int), k ≤ acs.length ∧ i = .int .i64 k ∧ a = .int .i64 (tipsC (acs.take k)) ∧ b = .int .i64 t ∧ 0 ≤ t ∧ t ≤ 1000000000 ∧ usT 0 acs = usT t (acs.drop k) ∧ w3 = wr) (fun _ _ i _ => acs.length - (intOf i).toNat)
      case atStart => exact ⟨0, 0, Nat.zero_le _, rfl, rfl, rfl, Int.le_refl _, by decide, rfl, rfl⟩
      case round =>
        obtain ⟨k, t, hk, rfl, rfl, rfl, ht0, ht1, hus, hwr⟩ := hrel
        subst hwr
        have HUS : Hid (usT 0 acs = usT t (acs.drop k)) := hus
        clear hus
        by_cases hlt2 : k < acs.length
        · obtain ⟨g, off, rfl, hc⟩ := HAR.out.at hlt2
          have HT : Hid (acs.take (k + 1) = acs.take k ++ [acs[k]'hlt2]) := by show _ = _; rw [List.take_succ_eq_append_getElem]
          have HUS2 : Hid (usT 0 acs = usT t (acs[k]'hlt2 :: acs.drop (k + 1))) := by show _ = _; rw [HUS.out, List.drop_eq_getElem_cons hlt2]
          have htc := tipsC_in (acs.take k)
          have htl : (acs.take k).length = k := by rw [List.length_take]; omega
          rw [htl] at htc
          generalize acs[k]'hlt2 = a at *
          clear htl
          have c0 := hc 0 (by decide)
          have c7 := hc 7 (by decide)
          simp only [acl, List.getElem?_cons_zero, List.getElem?_cons_succ, Nat.add_zero] at c0 c7
          clear hc
          have hki : (k : Int) < (acs.length : Int) := by omega
          by_cases h6 : a.kind = 6
          · have b6 : (a.kind == 6) = true := by simp [h6]
            have b12 : (a.kind == 12) = false := by simp; omega
            have b14 : (a.kind == 14) = false := by simp; omega
            have b13 : (a.kind == 13) = false := by simp; omega
            have HTC : Hid (tipsC (acs.take (k + 1)) = tipsC (acs.take k) + 1) := by show _ = _; rw [HT.out, tipsC_append]; simp [tipsC, h6]
            have HUS3 : Hid (usT 0 acs = usT t (acs.drop (k + 1))) := by show _ = _; rw [HUS2.out, usT, if_neg (by omega)]
            clear h6
            go_wp2
            go_roundw
            case rel => exact ⟨k + 1, t, by omega, by go_num, by rw [HTC.out], rfl, by omega, by omega, HUS3.out, trivial⟩
            case measure => simp [intOf]; omega
          · have b6 : (a.kind == 6) = false := by simp [h6]
            have HTC : Hid (tipsC (acs.take (k + 1)) = tipsC (acs.take k)) := by show _ = _; rw [HT.out, tipsC_append]; simp [tipsC, h6]
            clear h6
            by_cases h12 : a.kind = 12
            · have b12 : (a.kind == 12) = true := by simp [h12]
              by_cases hp : 0 < a.time
              · by_cases hov : 1000000000 - t < a.time
                · have HR : Hid (uoR acs = (0, 0, 0, false)) := by show _ = _; unfold uoR; rw [HUS2.out, usT, if_pos ⟨.inl h12, hp⟩, if_pos hov]
                  by_cases hg : 1000000000 < a.time
                  · clear h12
                    go_wp2
                    try simp only [Exit.inBlock, Exit.then]
                    refine bodyPost_ret (results_tmp4 rfl _ _ _) rfl ?_
                    exact ⟨by rw [HR.out]; rfl, HB3.out⟩
                  · have hg2 : 1000000000 < t + a.time := by omega
                    clear h12
                    go_wp2
                    try simp only [Exit.inBlock, Exit.then]
                    refine bodyPost_ret (results_tmp4 rfl _ _ _) rfl ?_
                    exact ⟨by rw [HR.out]; rfl, HB3.out⟩
                · have HUS3 : Hid (usT 0 acs = usT (t + a.time) (acs.drop (k + 1))) := by show _ = _; rw [HUS2.out, usT, if_pos ⟨.inl h12, hp⟩, if_neg hov]
                  have hg : ¬ 1000000000 < a.time := by omega
                  have hg2 : ¬ 1000000000 < t + a.time := by omega
                  clear h12
                  go_wp2
                  go_roundw
                  case rel => exact ⟨k + 1, t + a.time, by omega, by go_num, by rw [HTC.out], rfl, by omega, by omega, HUS3.out, trivial⟩
                  case measure => simp [intOf]; omega
              · have HUS3 : Hid (usT 0 acs = usT t (acs.drop (k + 1))) := by show _ = _; rw [HUS2.out, usT, if_neg (fun h => hp h.2)]
                clear h12
                go_wp2
                go_roundw
                case rel => exact ⟨k + 1, t, by omega, by go_num, by rw [HTC.out], rfl, by omega, by omega, HUS3.out, trivial⟩
                case measure => simp [intOf]; omega
            · have b12 : (a.kind == 12) = false := by simp [h12]
              by_cases h14 : a.kind = 14
              · have b14 : (a.kind == 14) = true := by simp [h14]
                by_cases hp : 0 < a.time
                · by_cases hov : 1000000000 - t < a.time
                  · have HR : Hid (uoR acs = (0, 0, 0, false)) := by show _ = _; unfold uoR; rw [HUS2.out, usT, if_pos ⟨.inr (.inl h14), hp⟩, if_pos hov]
                    by_cases hg : 1000000000 < a.time
                    · clear h12 h14
                      go_wp2
                      try simp only [Exit.inBlock, Exit.then]
                      refine bodyPost_ret (results_tmp4 rfl _ _ _) rfl ?_
                      exact ⟨by rw [HR.out]; rfl, HB3.out⟩
                    · have hg2 : 1000000000 < t + a.time := by omega
                      clear h12 h14
                      go_wp2
                      try simp only [Exit.inBlock, Exit.then]
                      refine bodyPost_ret (results_tmp4 rfl _ _ _) rfl ?_
                      exact ⟨by rw [HR.out]; rfl, HB3.out⟩
                  · have HUS3 : Hid (usT 0 acs = usT (t + a.time) (acs.drop (k + 1))) := by show _ = _; rw [HUS2.out, usT, if_pos ⟨.inr (.inl h14), hp⟩, if_neg hov]
                    have hg : ¬ 1000000000 < a.time := by omega
                    have hg2 : ¬ 1000000000 < t + a.time := by omega
                    clear h12 h14
                    go_wp2
                    go_roundw
                    case rel => exact ⟨k + 1, t + a.time, by omega, by go_num, by rw [HTC.out], rfl, by omega, by omega, HUS3.out, trivial⟩
                    case measure => simp [intOf]; omega
                · have HUS3 : Hid (usT 0 acs = usT t (acs.drop (k + 1))) := by show _ = _; rw [HUS2.out, usT, if_neg (fun h => hp h.2)]
                  clear h12 h14
                  go_wp2
                  go_roundw
                  case rel => exact ⟨k + 1, t, by omega, by go_num, by rw [HTC.out], rfl, by omega, by omega, HUS3.out, trivial⟩
                  case measure => simp [intOf]; omega
              · have b14 : (a.kind == 14) = false := by simp [h14]
                by_cases h13 : a.kind = 13
                · have b13 : (a.kind == 13) = true := by simp [h13]
                  by_cases hp : 0 < a.time
                  · by_cases hov : 1000000000 - t < a.time
                    · have HR : Hid (uoR acs = (0, 0, 0, false)) := by show _ = _; unfold uoR; rw [HUS2.out, usT, if_pos ⟨.inr (.inr h13), hp⟩, if_pos hov]
                      by_cases hg : 1000000000 < a.time
                      · clear h12 h14 h13
                        go_wp2
                        try simp only [Exit.inBlock, Exit.then]
                        refine bodyPost_ret (results_tmp4 rfl _ _ _) rfl ?_
                        exact ⟨by rw [HR.out]; rfl, HB3.out⟩
                      · have hg2 : 1000000000 < t + a.time := by omega
                        clear h12 h14 h13
                        go_wp2
                        try simp only [Exit.inBlock, Exit.then]
                        refine bodyPost_ret (results_tmp4 rfl _ _ _) rfl ?_
                        exact ⟨by rw [HR.out]; rfl, HB3.out⟩
                    · have HUS3 : Hid (usT 0 acs = usT (t + a.time) (acs.drop (k + 1))) := by show _ = _; rw [HUS2.out, usT, if_pos ⟨.inr (.inr h13), hp⟩, if_neg hov]
                      have hg : ¬ 1000000000 < a.time := by omega
                      have hg2 : ¬ 1000000000 < t + a.time := by omega
                      clear h12 h14 h13
                      go_wp2
                      go_roundw
                      case rel => exact ⟨k + 1, t + a.time, by omega, by go_num, by rw [HTC.out], rfl, by omega, by omega, HUS3.out, trivial⟩
                      case measure => simp [intOf]; omega
                  · have HUS3 : Hid (usT 0 acs = usT t (acs.drop (k + 1))) := by show _ = _; rw [HUS2.out, usT, if_neg (fun h => hp h.2)]
                    clear h12 h14 h13
                    go_wp2
                    go_roundw
                    case rel => exact ⟨k + 1, t, by omega, by go_num, by rw [HTC.out], rfl, by omega, by omega, HUS3.out, trivial⟩
                    case measure => simp [intOf]; omega
                · have b13 : (a.kind == 13) = false := by simp [h13]
                  have HUS3 : Hid (usT 0 acs = usT t (acs.drop (k + 1))) := by show _ = _; rw [HUS2.out, usT, if_neg (fun h => by rcases h.1 with h | h | h <;> contradiction)]
                  clear h12 h14 h13
                  go_wp2
                  go_roundw
                  case rel => exact ⟨k + 1, t, by omega, by go_num, by rw [HTC.out], rfl, by omega, by omega, HUS3.out, trivial⟩
                  case measure => simp [intOf]; omega
        · have hki : ¬ (k : Int) < (acs.length : Int) := by omega
          have ek : k = acs.length := by omega
          have HUF : Hid (uoR acs = (tipsC acs, vs, t, true)) := by
            show _ = _
            unfold uoR
            rw [HUS.out, ek, List.drop_length, HVS.out]
            rfl
          have HTT : Hid (acs.take k = acs) := List.take_of_length_le (by omega)
          clear ek
          go_wp2
          try simp only [Exit.inBlock, Exit.then]
          refine bodyPost_ret (results_tmp4 rfl _ _ _) rfl ?_
          exact ⟨by rw [HUF.out, ← show tipsC (acs.take k) = tipsC acs from by rw [HTT.out]]; rfl, HB3.out⟩
theorem infoA : (Try.prog.info? 45).map (fun i => (i.zero, i.size, i.bytes)) = some (some (.agg #[.int .i64 0, .int .i64 0, .int .i64 0, .int .i64 0, .string ⟨#[]⟩, .int .i64 0, .int .i64 0, .int .i64 0]), 8, 72) := by kernel_rfl
/-- A copy of actions. -/
theorem actions_any (ao : Option Addr) (cap : Nat) (acs : List Acn) (w : World) (hA : Acs w ao acs) (hcap : ao = none → cap = 0) (hb : acs.length ≤ 1500000) :
    Calls Try.prog 7 #[.slice ao acs.length cap] w fun e w' => Below w.heap.size w w' ∧ ∃ ao2 cap2, e = .returned (.slice ao2 acs.length cap2) ∧ Acs w' ao2 acs ∧ ∀ ad, ao2 = some ad → ad.block < w'.heap.size := by
  have HA : Hid (Acs w ao acs) := hA
  have HC : Hid (ao = none → cap = 0) := hcap
  clear hA hcap
  go_enter Try.func7, Try.ntmps7
  go_wp2_with (at_builtin; refine wpList_append_opt goodA Try.underlying22 infoA rfl (by decide) _ rfl (.const (.slice none 0 0)) (.tmp 3) rfl w.heap.size (.slice none 0 0) [] rfl (OwnR.nil _ _ _) ao acs.length cap acs rfl rfl HA.out.rd HC.out (by simp [maxLen]; omega) (by simp; omega) (Nat.le_refl _) ?_; intro v' w1 ho hg hloc; have hb1 : Below w.heap.size w w1 := below_row (Below.refl _ _) (OwnR.nil encA w w.heap.size) hg (Nat.le_refl _); obtain ⟨ao2, c2, rfl⟩ := ho.shape)
  go_ret
  simp only [List.nil_append] at ho ⊢
  refine ⟨hb1, ao2, c2, rfl, ⟨ho.rd goodA, HA.out.ok⟩, fun ad e => ?_⟩
  subst e
  exact (ownR_lt ho rfl).2
end Go.Proofs.Ytgbnjgenopdmfaa
