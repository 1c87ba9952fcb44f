/- The document's ReadQuantity, walked: a sign, no dot. -/
import Derived.Test.YtpfpfnkagmmanaaGreatDoorRefRead
import Derived.Deep.RegionWith
namespace Go.Proofs.YtpfpfnkagmmanaaGreatDoor
open Go.RowKit

set_option maxHeartbeats 3200000 in
set_option maxRecDepth 100000 in
theorem ref_plain_neg (s : ByteArray) (w : World) (l wl r1 : List UInt8) (q : Int × Int × Int) (hl : l = s.data.toList) (hs : s.size ≤ 1048576) (hz : 0 < s.size) (hb0 : ((s[0].toNat : Int) == 45) = true) (E1 : Hid ((l.drop 1).takeWhile isDig = wl)) (E2 : Hid ((l.drop 1).dropWhile isDig = r1)) (h1 : wl ≠ []) (hd : Lib.hasPrefix r1 [46] = false) (HQ : Hid (fin true wl [] r1 mkQ = q)) :
    Calls Tryz.prog 28 #[.string s] w fun e w' => e = .returned (.tuple #[.agg #[.int .i64 q.1, .int .i64 q.2.1], .int .i64 q.2.2]) ∧ Below w.heap.size w w' := by
  have HL : Hid (l = s.data.toList) := hl
  clear hl
  go_enter Tryz.func28, Tryz.ntmps28
  go_wp2
  go_loop [4, 7, 8] (fun i n far => ∃ k : Nat, 1 ≤ k ∧ k ≤ s.size ∧ i = .int .i64 k ∧ n = .int .i64 (min (val ((l.drop 1).take (k - 1))) 10000000000) ∧ far = .bool (decide (10000000000 < val ((l.drop 1).take (k - 1)))) ∧ ∀ b ∈ (l.drop 1).take (k - 1), isDig b = true) (fun i _ _ => s.size - (intOf i).toNat)
  case atStart => exact ⟨1, Nat.le_refl _, by omega, rfl, by rw [Nat.sub_self]; rfl, by rw [Nat.sub_self]; rfl, by rw [Nat.sub_self]; intro b hb; simp at hb⟩
  case round =>
    obtain ⟨k, hik, hk, rfl, rfl, rfl, hdg⟩ := hrel
    have HG : Hid (∀ b ∈ (l.drop 1).take (k - 1), isDig b = true) := hdg
    have hv0 := val_nonneg hdg
    clear hdg
    by_cases hmore : ∃ h : k < s.size, isDig s[k] = true
    · obtain ⟨hlt, hd⟩ := hmore
      have hat : l[k]? = some s[k] := by rw [HL.out]; exact at_list s k hlt
      have HS : Hid (val ((l.drop 1).take (k + 1 - 1)) = 10 * val ((l.drop 1).take (k - 1)) + ((s[k].toNat : Int) - 48)) := by
        show _ = _
        rw [take_step l 1 k _ hik hat, val_snoc]
      have HG2 : Hid (∀ b ∈ (l.drop 1).take (k + 1 - 1), isDig b = true) := dig_step hik hat hd HG.out
      obtain ⟨d0, d9⟩ := (isDig_iff _).1 hd
      have HC : Hid (∀ w, Calls Tryz.prog 26 #[.int .u8 s[k].toNat] w fun e w' => e = .returned (.bool true) ∧ w' = w) := fun w => by
        have := digit_any s[k] w
        rw [hd] at this; exact this
      clear hd hat
      generalize val ((l.drop 1).take (k - 1)) = V at *
      by_cases hV : 10000000000 < V
      · have e1 : min V 10000000000 = 10000000000 := by omega
        have e2 : decide (10000000000 < V) = true := by simp [hV]
        rw [e1, e2]
        clear e1 e2
        go_wp2_with fail
        refine (HC.out _).mono ?_
        rintro e w1 ⟨rfl, rfl⟩
        go_wp2
        go_round
        case rel => exact ⟨k + 1, by omega, by omega, by go_num, by rw [HS.out, show min (10 * V + ((s[k].toNat : Int) - 48)) 10000000000 = 10000000000 by omega], by rw [HS.out, show decide (10000000000 < 10 * V + ((s[k].toNat : Int) - 48)) = true by simp; omega], HG2.out⟩
        case measure => simp [intOf]; omega
      · have e1 : min V 10000000000 = V := by omega
        have e2 : decide (10000000000 < V) = false := by simp; omega
        rw [e1, e2]
        clear e1 e2
        by_cases hV2 : 10000000000 < 10 * V + ((s[k].toNat : Int) - 48)
        · go_wp2_with fail
          refine (HC.out _).mono ?_
          rintro e w1 ⟨rfl, rfl⟩
          go_wp2
          go_round
          case rel => exact ⟨k + 1, by omega, by omega, by go_num, by rw [HS.out, show min (10 * V + ((s[k].toNat : Int) - 48)) 10000000000 = 10000000000 by omega], by rw [HS.out, show decide (10000000000 < 10 * V + ((s[k].toNat : Int) - 48)) = true by simp; omega], HG2.out⟩
          case measure => simp [intOf]; omega
        · go_wp2_with fail
          refine (HC.out _).mono ?_
          rintro e w1 ⟨rfl, rfl⟩
          go_wp2
          go_round
          case rel => exact ⟨k + 1, by omega, by omega, by go_num, by rw [HS.out, show min (10 * V + ((s[k].toNat : Int) - 48)) 10000000000 = 10 * V + ((s[k].toNat : Int) - 48) by omega], by rw [HS.out, show decide (10000000000 < 10 * V + ((s[k].toNat : Int) - 48)) = false by simp; omega], HG2.out⟩
          case measure => simp [intOf]; omega
    · have hdot := hd
      have hstop : ∀ b, l[k]? = some b → isDig b = false := by
        intro b hb
        have hlt : k < s.size := by
          have := (List.getElem?_eq_some_iff.1 hb).1
          rw [HL.out] at this; simpa using this
        rw [HL.out, at_list s k hlt] at hb
        injection hb with hb
        cases hd : isDig b
        · rfl
        · exact absurd ⟨hlt, by rw [hb]; exact hd⟩ hmore
      obtain ⟨t1, t2⟩ := scan_stop l 1 k hik HG.out hstop
      have hlen : ((l.drop 1).take (k - 1)).length = k - 1 := by
        rw [List.length_take, List.length_drop, HL.out, show s.data.toList.length = s.size from (Lib.size_eq s).symm]; omega
      have hkw : k = 1 + wl.length := by rw [← E1.out, t1, hlen]; omega
      have hr1 : r1 = l.drop k := by rw [← E2.out, t2]
      rw [← t1, E1.out] at hlen hv0 ⊢
      have HW : Hid (∀ b ∈ wl, isDig b = true) := by rw [← E1.out]; exact take_all
      have HKW : Hid (k = 1 + wl.length) := hkw
      have HR1 : Hid (r1 = l.drop k) := hr1
      clear HG t1 t2 hlen hstop hkw hr1
      by_cases hlt : k < s.size
      · have hd : isDig s[k] = false := by cases hd : isDig s[k]; rfl; exact absurd ⟨hlt, hd⟩ hmore
        have HC : Hid (∀ w, Calls Tryz.prog 26 #[.int .u8 s[k].toNat] w fun e w' => e = .returned (.bool false) ∧ w' = w) := fun w => by
          have := digit_any s[k] w
          rw [hd] at this; exact this
        clear hmore hd
        go_wp2_with fail
        refine (HC.out _).mono ?_
        rintro e w1 ⟨rfl, rfl⟩
        have hne : ((k : Int) == 1) = false := by
          have := HKW.out
          have hl0 : wl.length ≠ 0 := fun e => h1 (List.length_eq_zero_iff.1 e)
          simp; omega
        obtain ⟨N, hN⟩ : ∃ N, N = min (val wl) 10000000000 := ⟨_, rfl⟩
        have hN0 : 0 ≤ N := by omega
        have hN1 : N ≤ 10000000000 := by omega
        have HN : Hid (N = min (val wl) 10000000000) := hN
        rw [← hN]
        clear hN
        obtain ⟨far, hfar⟩ : ∃ far, far = decide (10000000000 < val wl) := ⟨_, rfl⟩
        have HF : Hid (far = decide (10000000000 < val wl)) := hfar
        rw [← hfar]
        clear hfar
        have hnd : ((s[k].toNat : Int) == 46) = false := by
          rw [← dot_is (l := l) (k := k) (by rw [HL.out]; exact at_list s k hlt), ← HR1.out]; exact hdot
        clear hdot
        go_wp2
        have HRR : Hid (r1 = l.drop k) := HR1.out
        obtain ⟨fr, hfr⟩ : ∃ fr : Int, fr = 0 := ⟨_, rfl⟩
        have hfr0 : 0 ≤ fr := by omega
        have hfr9 : fr ≤ 999 := by omega
        have HFR : Hid ((frac []).1 = fr) := hfr.symm
        obtain ⟨n, hn⟩ : ∃ n : Int, n = N * 1000 := ⟨_, rfl⟩
        have hq : n / 1000 = N := by omega
        have hrm : n % 1000 = fr := by omega
        have hn0 : 0 ≤ n := by omega
        have hn1 : n ≤ 10000000000999 := by omega
        clear hfr
        rw [← hn]
        clear hn
        have HXT : Hid (s.extract k s.size = ⟨r1.toArray⟩) := by show _ = _; rw [extract_drop, HRR.out, HL.out]
        have hxt := HXT.out
        have hR0 := RBox.new w
        have hB0 : Below w.heap.size w (w.alloc (.cells #[.int .i64 0, .int .i64 0] 64)) := (Below.refl _ _).alloc (Nat.le_refl _) _
        have hks : (k : Int) ≤ (s.size : Int) := by omega
        go_loopw [11, 12] (fun u kk wr => ∃ j : Nat, j ≤ 19 ∧ kk = .int .i64 j ∧ Below (w.alloc (.cells #[.int .i64 0, .int .i64 0] 64)).heap.size (w.alloc (.cells #[.int .i64 0, .int .i64 0] 64)) wr ∧ Sought r1 u j) (fun _ kk _ => 19 - (intOf kk).toNat)
        case atStart => exact ⟨0, Nat.zero_le _, rfl, Below.refl _ _, Sought.zero r1⟩
        case round =>
          obtain ⟨j, hj, rfl, hbr, hu⟩ := hrel
          have HU := hu
          clear hu
          have hj19 : j < 19 ∨ j = 19 := by omega
          rcases hj19 with hj19 | hj19
          · obtain ⟨x, hx⟩ := name_some hj19
            have HX : Hid (names[j]? = some x) := hx
            clear hx
            go_wp2_with fail
            refine (names_call _).mono ?_
            rintro e w3 ⟨b3, rfl, hc3, hb3⟩
            clear hc3
            have hB3 := hbr.trans (hb3.mono hbr.size)
            clear hb3 hbr
            by_cases hm : x.1 = r1
            · have hm1 : (r1 == x.1) = true := by simp [hm]
              have HM : Hid (x.1 = r1) := hm
              clear hm
              go_wp2
              go_region_with (go_at_call 49; refine (names_call _).mono ?_; rintro e w4 ⟨b4, rfl, hc4, hb4⟩; have hx4 := hc4 j x HX.out; clear hc4; replace hb4 := below_undrew hb4)
              all_goals
                go_wp2
                go_roundw
                case rel => exact ⟨j + 1, by omega, by go_num, hB3.trans (hb4.mono hB3.size), Sought.hit HX.out HM.out⟩
                case measure => simp [intOf]; omega
            · have hm1 : (r1 == x.1) = false := by simp; exact fun e => hm e.symm
              have HM : Hid (x.1 ≠ r1) := hm
              clear hm
              go_wp2
              go_region_with (go_at_call 49; refine (names_call _).mono ?_; rintro e w4 ⟨b4, rfl, hc4, hb4⟩; have hx4 := hc4 j x HX.out; clear hc4; replace hb4 := below_undrew hb4)
              all_goals
                go_wp2
                go_roundw
                case rel => exact ⟨j + 1, by omega, by go_num, hB3.trans (hb4.mono hB3.size), HU.miss HX.out HM.out⟩
                case measure => simp [intOf]; omega
          · subst hj19
            clear hxt
            go_wp2_with fail
            refine (names_call _).mono ?_
            rintro e w3 ⟨b3, rfl, hc3, hb3⟩
            clear hc3
            have hB3 := hbr.trans (hb3.mono hbr.size)
            have hR3 := hR0.next hB3
            have hW3 := hB0.trans (hB3.mono hB0.size)
            clear hb3 hbr hB3 hB0 hR0
            rcases HU with ⟨hu, ha⟩ | ⟨i, x, hi, hu, hxn, hxr⟩
            · have hq9 : q = (0, 0, 1) := HQ.out.symm.trans (fin_none (lacking ha))
              clear ha
              rw [hu]
              clear hu
              obtain ⟨c0, c1, f0, f1, lt⟩ := hR3
              go_wp2
              refine bodyPost_ret (v := .tuple #[.agg #[.int .i64 (0), .int .i64 (0)], .int .i64 (1)]) (by simp [results, Tryz.results28, go_sem, c0, c1]) rfl ⟨by rw [hq9], below_res hW3⟩
            · rw [hu]
              clear hu
              have HXN : Hid (names[i]? = some x) := hxn
              have HMS : Hid (meas (Lib.mapD plainF r1) = some x.2) := found hxn hxr
              obtain ⟨⟨k0, k5⟩, ⟨s0, s9⟩, z0, z9⟩ := meas_in HMS.out
              have hF0 : 0 ≤ fr * x.2.2.1 := Int.mul_nonneg hfr0 (by omega)
              have hF1 : fr * x.2.2.1 ≤ 3596400000 := by
                have a1 := Int.mul_le_mul_of_nonneg_left s9 hfr0
                omega
              have hsz : (x.2.2.1 == 0) = false := by simp; omega
              clear hxn hxr
              go_wp2_with fail
              refine (scales_call _).mono ?_
              rintro e w5 ⟨b5, rfl, hc5, hb5⟩
              have hsc := hc5 i x HXN.out
              clear hc5
              have hR5 := hR3.next hb5
              have hW5 := hW3.trans (hb5.mono hW3.size)
              clear hb5 hR3 hW3
              by_cases hfar : 2000000000 < val wl
              · have hq9 : q = (0, 0, 2) := HQ.out.symm.trans (fin_far HMS.out HW.out (by simp) (by simp) hfar)
                obtain ⟨c0, c1, f0, f1, lt⟩ := hR5
                cases far with
                | true =>
                  go_wp2
                  refine bodyPost_ret (v := .tuple #[.agg #[.int .i64 (0), .int .i64 (0)], .int .i64 (2)]) (by simp [results, Tryz.results28, go_sem, c0, c1]) rfl ⟨by rw [hq9], below_res hW5⟩
                | false =>
                  have hN2 : 2000000000 < N := by
                    have a1 := HF.out
                    have a2 := HN.out
                    have a3 : ¬ 10000000000 < val wl := by intro h; simp [h] at a1
                    omega
                  clear hfar
                  go_wp2
                  refine bodyPost_ret (v := .tuple #[.agg #[.int .i64 (0), .int .i64 (0)], .int .i64 (2)]) (by simp [results, Tryz.results28, go_sem, c0, c1]) rfl ⟨by rw [hq9], below_res hW5⟩
              · have hff : far = false := by rw [HF.out]; simp; omega
                subst hff
                have hN2 : N ≤ 2000000000 := by have := HN.out; omega
                have HWN : Hid (wholeOf wl = N) := by show _ = _; rw [whole_val HW.out, HN.out]; omega
                clear hfar
                by_cases hodd : fr * x.2.2.1 % 1000 = 0
                · have ho1 : (fr * x.2.2.1 % 1000 == 0) = true := by simp [hodd]
                  have ho2 : (fr * x.2.2.1 % 1000 != 0) = false := by simp [hodd]
                  by_cases hbig : 2000000000 / x.2.2.1 < N
                  · have hq9 : q = (0, 0, 2) := HQ.out.symm.trans (fin_great HMS.out HW.out (by simp) (by simp) (by rw [HWN.out]; exact hbig))
                    obtain ⟨c0, c1, f0, f1, lt⟩ := hR5
                    clear hodd
                    go_wp2
                    refine bodyPost_ret (v := .tuple #[.agg #[.int .i64 (0), .int .i64 (0)], .int .i64 (2)]) (by simp [results, Tryz.results28, go_sem, c0, c1]) rfl ⟨by rw [hq9], below_res hW5⟩
                  · have hfin : fin true wl [] r1 mkQ = _ := fin_split HMS.out HW.out (by simp) (by simp) N HWN.out (by rw [HFR.out]; exact hodd)
                    rw [HFR.out] at hfin
                    have hP0 : 0 ≤ N * x.2.2.1 := Int.mul_nonneg hN0 (by omega)
                    have hP1 : N * x.2.2.1 ≤ 2000000000 := (Int.le_ediv_iff_mul_le (by omega)).1 (by omega)
                    clear hodd
                    have HFIN := hfin
                    clear hfin
                    have hfin' : Hid (fin true wl [] r1 mkQ = _) := HFIN
                    clear HFIN
                    go_wp2_with fail
                    refine (names_call _).mono ?_
                    rintro e w6 ⟨b6, rfl, hc6, hb6⟩
                    have hnc := hc6 i x HXN.out
                    clear hc6
                    have hR6 := hR5.next hb6
                    have hW6 := hW5.trans (hb6.mono hW5.size)
                    clear hb6 hR5 hW5
                    have hfin := hfin'.out
                    clear hfin'
                    by_cases hC : x.1 = [67]
                    · skip
                      have hsh : x.2.2.2 = 273150 := by rw [shift_is x (List.mem_of_getElem? HXN.out)]; simp [hC]
                      rw [hsh] at hfin
                      clear hsh
                      have hcc : (x.1 == [67]) = true := by simp [hC]
                      clear hC
                      by_cases hin : -1000000000 ≤ -(N * x.2.2.1 + fr * x.2.2.1 / 1000) + 273150 ∧ -(N * x.2.2.1 + fr * x.2.2.1 / 1000) + 273150 ≤ 1000000000
                      · obtain ⟨hi1, hi2⟩ := hin
                        have hq9 : q = (x.2.1, -(N * x.2.2.1 + fr * x.2.2.1 / 1000) + 273150, 0) := HQ.out.symm.trans (hfin.trans (by simp only [if_true]; exact if_pos (ref1_ok k0 k5 (by omega) (by omega))))
                        clear hfin
                        go_wp2_with fail
                        refine (within_yes (-(N * x.2.2.1 + fr * x.2.2.1 / 1000) + 273150) (-1000000000) 1000000000 _ (by omega) (by omega)).mono ?_
                        rintro e w7 ⟨rfl, rfl⟩
                        go_wp2_with fail
                        refine (kinds_call _).mono ?_
                        rintro e w8 ⟨b8, rfl, hc8, hb8⟩
                        have hkc := hc8 i x HXN.out
                        clear hc8
                        have hR8 := hR6.next hb8
                        have hW8 := hW6.trans (hb8.mono hW6.size)
                        obtain ⟨c0, c1, f0, f1, lt⟩ := hR8
                        clear hb8
                        go_wp2
                        refine bodyPost_ret (v := .tuple #[.agg #[.int .i64 (x.2.1), .int .i64 (-(N * x.2.2.1 + fr * x.2.2.1 / 1000) + 273150)], .int .i64 (0)]) (by simp [results, Tryz.results28, go_sem, c0, c1]) rfl ⟨by rw [hq9], below_res hW8⟩
                      · have hq9 : q = (0, 0, 2) := HQ.out.symm.trans (hfin.trans (by simp only [if_true]; exact mk_far k0 k5 (by omega)))
                        clear hfin
                        obtain ⟨c0, c1, f0, f1, lt⟩ := hR6
                        go_wp2_with fail
                        refine (within_no (-(N * x.2.2.1 + fr * x.2.2.1 / 1000) + 273150) (-1000000000) 1000000000 _ (by omega)).mono ?_
                        rintro e w7 ⟨rfl, rfl⟩
                        go_wp2
                        refine bodyPost_ret (v := .tuple #[.agg #[.int .i64 (0), .int .i64 (0)], .int .i64 (2)]) (by simp [results, Tryz.results28, go_sem, c0, c1]) rfl ⟨by rw [hq9], below_res hW6⟩
                    · skip
                      have hsh : x.2.2.2 = 0 := by rw [shift_is x (List.mem_of_getElem? HXN.out)]; simp [hC]
                      rw [hsh] at hfin
                      clear hsh
                      have hcc : (x.1 == [67]) = false := by simp [hC]
                      clear hC
                      by_cases hin : -1000000000 ≤ -(N * x.2.2.1 + fr * x.2.2.1 / 1000) ∧ -(N * x.2.2.1 + fr * x.2.2.1 / 1000) ≤ 1000000000
                      · obtain ⟨hi1, hi2⟩ := hin
                        have hq9 : q = (x.2.1, -(N * x.2.2.1 + fr * x.2.2.1 / 1000), 0) := HQ.out.symm.trans (hfin.trans (by simp only [if_true, Int.add_zero]; exact if_pos (ref1_ok k0 k5 (by omega) (by omega))))
                        clear hfin
                        go_wp2_with fail
                        refine (within_yes (-(N * x.2.2.1 + fr * x.2.2.1 / 1000)) (-1000000000) 1000000000 _ (by omega) (by omega)).mono ?_
                        rintro e w7 ⟨rfl, rfl⟩
                        go_wp2_with fail
                        refine (kinds_call _).mono ?_
                        rintro e w8 ⟨b8, rfl, hc8, hb8⟩
                        have hkc := hc8 i x HXN.out
                        clear hc8
                        have hR8 := hR6.next hb8
                        have hW8 := hW6.trans (hb8.mono hW6.size)
                        obtain ⟨c0, c1, f0, f1, lt⟩ := hR8
                        clear hb8
                        go_wp2
                        refine bodyPost_ret (v := .tuple #[.agg #[.int .i64 (x.2.1), .int .i64 (-(N * x.2.2.1 + fr * x.2.2.1 / 1000))], .int .i64 (0)]) (by simp [results, Tryz.results28, go_sem, c0, c1]) rfl ⟨by rw [hq9], below_res hW8⟩
                      · have hq9 : q = (0, 0, 2) := HQ.out.symm.trans (hfin.trans (by simp only [if_true, Int.add_zero]; exact mk_far k0 k5 (by omega)))
                        clear hfin
                        obtain ⟨c0, c1, f0, f1, lt⟩ := hR6
                        go_wp2_with fail
                        refine (within_no (-(N * x.2.2.1 + fr * x.2.2.1 / 1000)) (-1000000000) 1000000000 _ (by omega)).mono ?_
                        rintro e w7 ⟨rfl, rfl⟩
                        go_wp2
                        refine bodyPost_ret (v := .tuple #[.agg #[.int .i64 (0), .int .i64 (0)], .int .i64 (2)]) (by simp [results, Tryz.results28, go_sem, c0, c1]) rfl ⟨by rw [hq9], below_res hW6⟩
                · have ho1 : (fr * x.2.2.1 % 1000 == 0) = false := by simp [hodd]
                  have ho2 : (fr * x.2.2.1 % 1000 != 0) = true := by simp [hodd]
                  have hq9 : q = (0, 0, 2) := HQ.out.symm.trans (fin_odd HMS.out (by simp) (by rw [HFR.out]; exact hodd))
                  clear hodd
                  obtain ⟨c0, c1, f0, f1, lt⟩ := hR5
                  go_wp2
                  refine bodyPost_ret (v := .tuple #[.agg #[.int .i64 (0), .int .i64 (0)], .int .i64 (2)]) (by simp [results, Tryz.results28, go_sem, c0, c1]) rfl ⟨by rw [hq9], below_res hW5⟩

      · clear hmore
        have hne : ((k : Int) == 1) = false := by
          have := HKW.out
          have hl0 : wl.length ≠ 0 := fun e => h1 (List.length_eq_zero_iff.1 e)
          simp; omega
        obtain ⟨N, hN⟩ : ∃ N, N = min (val wl) 10000000000 := ⟨_, rfl⟩
        have hN0 : 0 ≤ N := by omega
        have hN1 : N ≤ 10000000000 := by omega
        have HN : Hid (N = min (val wl) 10000000000) := hN
        rw [← hN]
        clear hN
        obtain ⟨far, hfar⟩ : ∃ far, far = decide (10000000000 < val wl) := ⟨_, rfl⟩
        have HF : Hid (far = decide (10000000000 < val wl)) := hfar
        rw [← hfar]
        clear hfar
        clear hdot
        go_wp2
        have HRR : Hid (r1 = l.drop k) := HR1.out
        obtain ⟨fr, hfr⟩ : ∃ fr : Int, fr = 0 := ⟨_, rfl⟩
        have hfr0 : 0 ≤ fr := by omega
        have hfr9 : fr ≤ 999 := by omega
        have HFR : Hid ((frac []).1 = fr) := hfr.symm
        obtain ⟨n, hn⟩ : ∃ n : Int, n = N * 1000 := ⟨_, rfl⟩
        have hq : n / 1000 = N := by omega
        have hrm : n % 1000 = fr := by omega
        have hn0 : 0 ≤ n := by omega
        have hn1 : n ≤ 10000000000999 := by omega
        clear hfr
        rw [← hn]
        clear hn
        have HXT : Hid (s.extract k s.size = ⟨r1.toArray⟩) := by show _ = _; rw [extract_drop, HRR.out, HL.out]
        have hxt := HXT.out
        have hR0 := RBox.new w
        have hB0 : Below w.heap.size w (w.alloc (.cells #[.int .i64 0, .int .i64 0] 64)) := (Below.refl _ _).alloc (Nat.le_refl _) _
        have hks : (k : Int) ≤ (s.size : Int) := by omega
        go_loopw [11, 12] (fun u kk wr => ∃ j : Nat, j ≤ 19 ∧ kk = .int .i64 j ∧ Below (w.alloc (.cells #[.int .i64 0, .int .i64 0] 64)).heap.size (w.alloc (.cells #[.int .i64 0, .int .i64 0] 64)) wr ∧ Sought r1 u j) (fun _ kk _ => 19 - (intOf kk).toNat)
        case atStart => exact ⟨0, Nat.zero_le _, rfl, Below.refl _ _, Sought.zero r1⟩
        case round =>
          obtain ⟨j, hj, rfl, hbr, hu⟩ := hrel
          have HU := hu
          clear hu
          have hj19 : j < 19 ∨ j = 19 := by omega
          rcases hj19 with hj19 | hj19
          · obtain ⟨x, hx⟩ := name_some hj19
            have HX : Hid (names[j]? = some x) := hx
            clear hx
            go_wp2_with fail
            refine (names_call _).mono ?_
            rintro e w3 ⟨b3, rfl, hc3, hb3⟩
            clear hc3
            have hB3 := hbr.trans (hb3.mono hbr.size)
            clear hb3 hbr
            by_cases hm : x.1 = r1
            · have hm1 : (r1 == x.1) = true := by simp [hm]
              have HM : Hid (x.1 = r1) := hm
              clear hm
              go_wp2
              go_region_with (go_at_call 49; refine (names_call _).mono ?_; rintro e w4 ⟨b4, rfl, hc4, hb4⟩; have hx4 := hc4 j x HX.out; clear hc4; replace hb4 := below_undrew hb4)
              all_goals
                go_wp2
                go_roundw
                case rel => exact ⟨j + 1, by omega, by go_num, hB3.trans (hb4.mono hB3.size), Sought.hit HX.out HM.out⟩
                case measure => simp [intOf]; omega
            · have hm1 : (r1 == x.1) = false := by simp; exact fun e => hm e.symm
              have HM : Hid (x.1 ≠ r1) := hm
              clear hm
              go_wp2
              go_region_with (go_at_call 49; refine (names_call _).mono ?_; rintro e w4 ⟨b4, rfl, hc4, hb4⟩; have hx4 := hc4 j x HX.out; clear hc4; replace hb4 := below_undrew hb4)
              all_goals
                go_wp2
                go_roundw
                case rel => exact ⟨j + 1, by omega, by go_num, hB3.trans (hb4.mono hB3.size), HU.miss HX.out HM.out⟩
                case measure => simp [intOf]; omega
          · subst hj19
            clear hxt
            go_wp2_with fail
            refine (names_call _).mono ?_
            rintro e w3 ⟨b3, rfl, hc3, hb3⟩
            clear hc3
            have hB3 := hbr.trans (hb3.mono hbr.size)
            have hR3 := hR0.next hB3
            have hW3 := hB0.trans (hB3.mono hB0.size)
            clear hb3 hbr hB3 hB0 hR0
            rcases HU with ⟨hu, ha⟩ | ⟨i, x, hi, hu, hxn, hxr⟩
            · have hq9 : q = (0, 0, 1) := HQ.out.symm.trans (fin_none (lacking ha))
              clear ha
              rw [hu]
              clear hu
              obtain ⟨c0, c1, f0, f1, lt⟩ := hR3
              go_wp2
              refine bodyPost_ret (v := .tuple #[.agg #[.int .i64 (0), .int .i64 (0)], .int .i64 (1)]) (by simp [results, Tryz.results28, go_sem, c0, c1]) rfl ⟨by rw [hq9], below_res hW3⟩
            · rw [hu]
              clear hu
              have HXN : Hid (names[i]? = some x) := hxn
              have HMS : Hid (meas (Lib.mapD plainF r1) = some x.2) := found hxn hxr
              obtain ⟨⟨k0, k5⟩, ⟨s0, s9⟩, z0, z9⟩ := meas_in HMS.out
              have hF0 : 0 ≤ fr * x.2.2.1 := Int.mul_nonneg hfr0 (by omega)
              have hF1 : fr * x.2.2.1 ≤ 3596400000 := by
                have a1 := Int.mul_le_mul_of_nonneg_left s9 hfr0
                omega
              have hsz : (x.2.2.1 == 0) = false := by simp; omega
              clear hxn hxr
              go_wp2_with fail
              refine (scales_call _).mono ?_
              rintro e w5 ⟨b5, rfl, hc5, hb5⟩
              have hsc := hc5 i x HXN.out
              clear hc5
              have hR5 := hR3.next hb5
              have hW5 := hW3.trans (hb5.mono hW3.size)
              clear hb5 hR3 hW3
              by_cases hfar : 2000000000 < val wl
              · have hq9 : q = (0, 0, 2) := HQ.out.symm.trans (fin_far HMS.out HW.out (by simp) (by simp) hfar)
                obtain ⟨c0, c1, f0, f1, lt⟩ := hR5
                cases far with
                | true =>
                  go_wp2
                  refine bodyPost_ret (v := .tuple #[.agg #[.int .i64 (0), .int .i64 (0)], .int .i64 (2)]) (by simp [results, Tryz.results28, go_sem, c0, c1]) rfl ⟨by rw [hq9], below_res hW5⟩
                | false =>
                  have hN2 : 2000000000 < N := by
                    have a1 := HF.out
                    have a2 := HN.out
                    have a3 : ¬ 10000000000 < val wl := by intro h; simp [h] at a1
                    omega
                  clear hfar
                  go_wp2
                  refine bodyPost_ret (v := .tuple #[.agg #[.int .i64 (0), .int .i64 (0)], .int .i64 (2)]) (by simp [results, Tryz.results28, go_sem, c0, c1]) rfl ⟨by rw [hq9], below_res hW5⟩
              · have hff : far = false := by rw [HF.out]; simp; omega
                subst hff
                have hN2 : N ≤ 2000000000 := by have := HN.out; omega
                have HWN : Hid (wholeOf wl = N) := by show _ = _; rw [whole_val HW.out, HN.out]; omega
                clear hfar
                by_cases hodd : fr * x.2.2.1 % 1000 = 0
                · have ho1 : (fr * x.2.2.1 % 1000 == 0) = true := by simp [hodd]
                  have ho2 : (fr * x.2.2.1 % 1000 != 0) = false := by simp [hodd]
                  by_cases hbig : 2000000000 / x.2.2.1 < N
                  · have hq9 : q = (0, 0, 2) := HQ.out.symm.trans (fin_great HMS.out HW.out (by simp) (by simp) (by rw [HWN.out]; exact hbig))
                    obtain ⟨c0, c1, f0, f1, lt⟩ := hR5
                    clear hodd
                    go_wp2
                    refine bodyPost_ret (v := .tuple #[.agg #[.int .i64 (0), .int .i64 (0)], .int .i64 (2)]) (by simp [results, Tryz.results28, go_sem, c0, c1]) rfl ⟨by rw [hq9], below_res hW5⟩
                  · have hfin : fin true wl [] r1 mkQ = _ := fin_split HMS.out HW.out (by simp) (by simp) N HWN.out (by rw [HFR.out]; exact hodd)
                    rw [HFR.out] at hfin
                    have hP0 : 0 ≤ N * x.2.2.1 := Int.mul_nonneg hN0 (by omega)
                    have hP1 : N * x.2.2.1 ≤ 2000000000 := (Int.le_ediv_iff_mul_le (by omega)).1 (by omega)
                    clear hodd
                    have HFIN := hfin
                    clear hfin
                    have hfin' : Hid (fin true wl [] r1 mkQ = _) := HFIN
                    clear HFIN
                    go_wp2_with fail
                    refine (names_call _).mono ?_
                    rintro e w6 ⟨b6, rfl, hc6, hb6⟩
                    have hnc := hc6 i x HXN.out
                    clear hc6
                    have hR6 := hR5.next hb6
                    have hW6 := hW5.trans (hb6.mono hW5.size)
                    clear hb6 hR5 hW5
                    have hfin := hfin'.out
                    clear hfin'
                    by_cases hC : x.1 = [67]
                    · skip
                      have hsh : x.2.2.2 = 273150 := by rw [shift_is x (List.mem_of_getElem? HXN.out)]; simp [hC]
                      rw [hsh] at hfin
                      clear hsh
                      have hcc : (x.1 == [67]) = true := by simp [hC]
                      clear hC
                      by_cases hin : -1000000000 ≤ -(N * x.2.2.1 + fr * x.2.2.1 / 1000) + 273150 ∧ -(N * x.2.2.1 + fr * x.2.2.1 / 1000) + 273150 ≤ 1000000000
                      · obtain ⟨hi1, hi2⟩ := hin
                        have hq9 : q = (x.2.1, -(N * x.2.2.1 + fr * x.2.2.1 / 1000) + 273150, 0) := HQ.out.symm.trans (hfin.trans (by simp only [if_true]; exact if_pos (ref1_ok k0 k5 (by omega) (by omega))))
                        clear hfin
                        go_wp2_with fail
                        refine (within_yes (-(N * x.2.2.1 + fr * x.2.2.1 / 1000) + 273150) (-1000000000) 1000000000 _ (by omega) (by omega)).mono ?_
                        rintro e w7 ⟨rfl, rfl⟩
                        go_wp2_with fail
                        refine (kinds_call _).mono ?_
                        rintro e w8 ⟨b8, rfl, hc8, hb8⟩
                        have hkc := hc8 i x HXN.out
                        clear hc8
                        have hR8 := hR6.next hb8
                        have hW8 := hW6.trans (hb8.mono hW6.size)
                        obtain ⟨c0, c1, f0, f1, lt⟩ := hR8
                        clear hb8
                        go_wp2
                        refine bodyPost_ret (v := .tuple #[.agg #[.int .i64 (x.2.1), .int .i64 (-(N * x.2.2.1 + fr * x.2.2.1 / 1000) + 273150)], .int .i64 (0)]) (by simp [results, Tryz.results28, go_sem, c0, c1]) rfl ⟨by rw [hq9], below_res hW8⟩
                      · have hq9 : q = (0, 0, 2) := HQ.out.symm.trans (hfin.trans (by simp only [if_true]; exact mk_far k0 k5 (by omega)))
                        clear hfin
                        obtain ⟨c0, c1, f0, f1, lt⟩ := hR6
                        go_wp2_with fail
                        refine (within_no (-(N * x.2.2.1 + fr * x.2.2.1 / 1000) + 273150) (-1000000000) 1000000000 _ (by omega)).mono ?_
                        rintro e w7 ⟨rfl, rfl⟩
                        go_wp2
                        refine bodyPost_ret (v := .tuple #[.agg #[.int .i64 (0), .int .i64 (0)], .int .i64 (2)]) (by simp [results, Tryz.results28, go_sem, c0, c1]) rfl ⟨by rw [hq9], below_res hW6⟩
                    · skip
                      have hsh : x.2.2.2 = 0 := by rw [shift_is x (List.mem_of_getElem? HXN.out)]; simp [hC]
                      rw [hsh] at hfin
                      clear hsh
                      have hcc : (x.1 == [67]) = false := by simp [hC]
                      clear hC
                      by_cases hin : -1000000000 ≤ -(N * x.2.2.1 + fr * x.2.2.1 / 1000) ∧ -(N * x.2.2.1 + fr * x.2.2.1 / 1000) ≤ 1000000000
                      · obtain ⟨hi1, hi2⟩ := hin
                        have hq9 : q = (x.2.1, -(N * x.2.2.1 + fr * x.2.2.1 / 1000), 0) := HQ.out.symm.trans (hfin.trans (by simp only [if_true, Int.add_zero]; exact if_pos (ref1_ok k0 k5 (by omega) (by omega))))
                        clear hfin
                        go_wp2_with fail
                        refine (within_yes (-(N * x.2.2.1 + fr * x.2.2.1 / 1000)) (-1000000000) 1000000000 _ (by omega) (by omega)).mono ?_
                        rintro e w7 ⟨rfl, rfl⟩
                        go_wp2_with fail
                        refine (kinds_call _).mono ?_
                        rintro e w8 ⟨b8, rfl, hc8, hb8⟩
                        have hkc := hc8 i x HXN.out
                        clear hc8
                        have hR8 := hR6.next hb8
                        have hW8 := hW6.trans (hb8.mono hW6.size)
                        obtain ⟨c0, c1, f0, f1, lt⟩ := hR8
                        clear hb8
                        go_wp2
                        refine bodyPost_ret (v := .tuple #[.agg #[.int .i64 (x.2.1), .int .i64 (-(N * x.2.2.1 + fr * x.2.2.1 / 1000))], .int .i64 (0)]) (by simp [results, Tryz.results28, go_sem, c0, c1]) rfl ⟨by rw [hq9], below_res hW8⟩
                      · have hq9 : q = (0, 0, 2) := HQ.out.symm.trans (hfin.trans (by simp only [if_true, Int.add_zero]; exact mk_far k0 k5 (by omega)))
                        clear hfin
                        obtain ⟨c0, c1, f0, f1, lt⟩ := hR6
                        go_wp2_with fail
                        refine (within_no (-(N * x.2.2.1 + fr * x.2.2.1 / 1000)) (-1000000000) 1000000000 _ (by omega)).mono ?_
                        rintro e w7 ⟨rfl, rfl⟩
                        go_wp2
                        refine bodyPost_ret (v := .tuple #[.agg #[.int .i64 (0), .int .i64 (0)], .int .i64 (2)]) (by simp [results, Tryz.results28, go_sem, c0, c1]) rfl ⟨by rw [hq9], below_res hW6⟩
                · have ho1 : (fr * x.2.2.1 % 1000 == 0) = false := by simp [hodd]
                  have ho2 : (fr * x.2.2.1 % 1000 != 0) = true := by simp [hodd]
                  have hq9 : q = (0, 0, 2) := HQ.out.symm.trans (fin_odd HMS.out (by simp) (by rw [HFR.out]; exact hodd))
                  clear hodd
                  obtain ⟨c0, c1, f0, f1, lt⟩ := hR5
                  go_wp2
                  refine bodyPost_ret (v := .tuple #[.agg #[.int .i64 (0), .int .i64 (0)], .int .i64 (2)]) (by simp [results, Tryz.results28, go_sem, c0, c1]) rfl ⟨by rw [hq9], below_res hW5⟩

end Go.Proofs.YtpfpfnkagmmanaaGreatDoor
