/- The document's ReadQuantity, walked: a dot, and no fraction or too long a one. -/
import Derived.Test.YtpfpfnkagmmanaaGreatDoorRefRead
import Derived.Deep.RegionWith
namespace Go.Proofs.YtpfpfnkagmmanaaGreatDoor
open Go.RowKit

set_option maxHeartbeats 3200000 in
set_option maxRecDepth 100000 in
theorem ref_bad_pos (s : ByteArray) (w : World) (l wl r1 : List UInt8) (hl : l = s.data.toList) (hs : s.size ≤ 1048576) (hz : 0 < s.size) (hb0 : ((s[0].toNat : Int) == 45) = false) (E1 : Hid ((l.drop 0).takeWhile isDig = wl)) (E2 : Hid ((l.drop 0).dropWhile isDig = r1)) (fl r3 : List UInt8) (E3 : Hid ((l.drop (0 + wl.length + 1)).takeWhile isDig = fl)) (E4 : Hid ((l.drop (0 + wl.length + 1)).dropWhile isDig = r3)) (h1 : wl ≠ []) (hd : Lib.hasPrefix r1 [46] = true) (hbad : fl = [] ∨ 3 < fl.length) :
    Calls Tryz.prog 28 #[.string s] w fun e w' => e = .returned (.tuple #[.agg #[.int .i64 0, .int .i64 0], .int .i64 1]) ∧ Below w.heap.size w w' := by
  have HL : Hid (l = s.data.toList) := hl
  clear hl
  go_enter Tryz.func28, Tryz.ntmps28
  go_wp2
  go_loop [4, 7, 8] (fun i n far => ∃ k : Nat, 0 ≤ k ∧ k ≤ s.size ∧ i = .int .i64 k ∧ n = .int .i64 (min (val ((l.drop 0).take (k - 0))) 10000000000) ∧ far = .bool (decide (10000000000 < val ((l.drop 0).take (k - 0)))) ∧ ∀ b ∈ (l.drop 0).take (k - 0), isDig b = true) (fun i _ _ => s.size - (intOf i).toNat)
  case atStart => exact ⟨0, Nat.le_refl _, by omega, rfl, by rw [Nat.sub_self]; rfl, by rw [Nat.sub_self]; rfl, by rw [Nat.sub_self]; intro b hb; simp at hb⟩
  case round =>
    obtain ⟨k, hik, hk, rfl, rfl, rfl, hdg⟩ := hrel
    have HG : Hid (∀ b ∈ (l.drop 0).take (k - 0), isDig b = true) := hdg
    have hv0 := val_nonneg hdg
    clear hdg
    by_cases hmore : ∃ h : k < s.size, isDig s[k] = true
    · obtain ⟨hlt, hd⟩ := hmore
      have hat : l[k]? = some s[k] := by rw [HL.out]; exact at_list s k hlt
      have HS : Hid (val ((l.drop 0).take (k + 1 - 0)) = 10 * val ((l.drop 0).take (k - 0)) + ((s[k].toNat : Int) - 48)) := by
        show _ = _
        rw [take_step l 0 k _ hik hat, val_snoc]
      have HG2 : Hid (∀ b ∈ (l.drop 0).take (k + 1 - 0), isDig b = true) := dig_step hik hat hd HG.out
      obtain ⟨d0, d9⟩ := (isDig_iff _).1 hd
      have HC : Hid (∀ w, Calls Tryz.prog 26 #[.int .u8 s[k].toNat] w fun e w' => e = .returned (.bool true) ∧ w' = w) := fun w => by
        have := digit_any s[k] w
        rw [hd] at this; exact this
      clear hd hat
      generalize val ((l.drop 0).take (k - 0)) = V at *
      by_cases hV : 10000000000 < V
      · have e1 : min V 10000000000 = 10000000000 := by omega
        have e2 : decide (10000000000 < V) = true := by simp [hV]
        rw [e1, e2]
        clear e1 e2
        go_wp2_with fail
        refine (HC.out _).mono ?_
        rintro e w1 ⟨rfl, rfl⟩
        go_wp2
        go_round
        case rel => exact ⟨k + 1, by omega, by omega, by go_num, by rw [HS.out, show min (10 * V + ((s[k].toNat : Int) - 48)) 10000000000 = 10000000000 by omega], by rw [HS.out, show decide (10000000000 < 10 * V + ((s[k].toNat : Int) - 48)) = true by simp; omega], HG2.out⟩
        case measure => simp [intOf]; omega
      · have e1 : min V 10000000000 = V := by omega
        have e2 : decide (10000000000 < V) = false := by simp; omega
        rw [e1, e2]
        clear e1 e2
        by_cases hV2 : 10000000000 < 10 * V + ((s[k].toNat : Int) - 48)
        · go_wp2_with fail
          refine (HC.out _).mono ?_
          rintro e w1 ⟨rfl, rfl⟩
          go_wp2
          go_round
          case rel => exact ⟨k + 1, by omega, by omega, by go_num, by rw [HS.out, show min (10 * V + ((s[k].toNat : Int) - 48)) 10000000000 = 10000000000 by omega], by rw [HS.out, show decide (10000000000 < 10 * V + ((s[k].toNat : Int) - 48)) = true by simp; omega], HG2.out⟩
          case measure => simp [intOf]; omega
        · go_wp2_with fail
          refine (HC.out _).mono ?_
          rintro e w1 ⟨rfl, rfl⟩
          go_wp2
          go_round
          case rel => exact ⟨k + 1, by omega, by omega, by go_num, by rw [HS.out, show min (10 * V + ((s[k].toNat : Int) - 48)) 10000000000 = 10 * V + ((s[k].toNat : Int) - 48) by omega], by rw [HS.out, show decide (10000000000 < 10 * V + ((s[k].toNat : Int) - 48)) = false by simp; omega], HG2.out⟩
          case measure => simp [intOf]; omega
    · have hdot := hd
      have hstop : ∀ b, l[k]? = some b → isDig b = false := by
        intro b hb
        have hlt : k < s.size := by
          have := (List.getElem?_eq_some_iff.1 hb).1
          rw [HL.out] at this; simpa using this
        rw [HL.out, at_list s k hlt] at hb
        injection hb with hb
        cases hd : isDig b
        · rfl
        · exact absurd ⟨hlt, by rw [hb]; exact hd⟩ hmore
      obtain ⟨t1, t2⟩ := scan_stop l 0 k hik HG.out hstop
      have hlen : ((l.drop 0).take (k - 0)).length = k - 0 := by
        rw [List.length_take, List.length_drop, HL.out, show s.data.toList.length = s.size from (Lib.size_eq s).symm]; omega
      have hkw : k = 0 + wl.length := by rw [← E1.out, t1, hlen]; omega
      have hr1 : r1 = l.drop k := by rw [← E2.out, t2]
      rw [← t1, E1.out] at hlen hv0 ⊢
      have HW : Hid (∀ b ∈ wl, isDig b = true) := by rw [← E1.out]; exact take_all
      have HKW : Hid (k = 0 + wl.length) := hkw
      have HR1 : Hid (r1 = l.drop k) := hr1
      clear HG t1 t2 hlen hstop hkw hr1
      by_cases hlt : k < s.size
      · have hd : isDig s[k] = false := by cases hd : isDig s[k]; rfl; exact absurd ⟨hlt, hd⟩ hmore
        have HC : Hid (∀ w, Calls Tryz.prog 26 #[.int .u8 s[k].toNat] w fun e w' => e = .returned (.bool false) ∧ w' = w) := fun w => by
          have := digit_any s[k] w
          rw [hd] at this; exact this
        clear hmore hd
        go_wp2_with fail
        refine (HC.out _).mono ?_
        rintro e w1 ⟨rfl, rfl⟩
        have hne : ((k : Int) == 0) = false := by
          have := HKW.out
          have hl0 : wl.length ≠ 0 := fun e => h1 (List.length_eq_zero_iff.1 e)
          simp; omega
        obtain ⟨N, hN⟩ : ∃ N, N = min (val wl) 10000000000 := ⟨_, rfl⟩
        have hN0 : 0 ≤ N := by omega
        have hN1 : N ≤ 10000000000 := by omega
        have HN : Hid (N = min (val wl) 10000000000) := hN
        rw [← hN]
        clear hN
        obtain ⟨far, hfar⟩ : ∃ far, far = decide (10000000000 < val wl) := ⟨_, rfl⟩
        have HF : Hid (far = decide (10000000000 < val wl)) := hfar
        rw [← hfar]
        clear hfar
        have hnd : ((s[k].toNat : Int) == 46) = true := by
          rw [← dot_is (l := l) (k := k) (by rw [HL.out]; exact at_list s k hlt), ← HR1.out]; exact hdot
        clear hdot
        go_wp2
        have HE3 : Hid ((l.drop (k + 1)).takeWhile isDig = fl) := by show _ = _; have h := E3.out; rw [← HKW.out] at h; exact h
        have HE4 : Hid ((l.drop (k + 1)).dropWhile isDig = r3) := by show _ = _; have h := E4.out; rw [← HKW.out] at h; exact h
        clear E3 E4
        go_loop [4, 7, 10] (fun i n wo => ∃ m : Nat, k + 1 ≤ m ∧ m ≤ s.size ∧ i = .int .i64 m ∧ n = .int .i64 (N * 1000 + (frac ((l.drop (k + 1)).take (m - (k + 1)))).1) ∧ wo = .int .i64 (frac ((l.drop (k + 1)).take (m - (k + 1)))).2 ∧ ∀ b ∈ (l.drop (k + 1)).take (m - (k + 1)), isDig b = true) (fun i _ _ => s.size - (intOf i).toNat)
        case atStart => exact ⟨k + 1, Nat.le_refl _, by omega, by go_num, by rw [Nat.sub_self]; show Value.int .i64 _ = Value.int .i64 (N * 1000 + 0); rw [Int.add_zero], by rw [Nat.sub_self]; rfl, by rw [Nat.sub_self]; intro b hb; simp at hb⟩
        case round =>
          obtain ⟨m, hkm, hm, rfl, rfl, rfl, hdg⟩ := hrel
          have HG : Hid (∀ b ∈ (l.drop (k + 1)).take (m - (k + 1)), isDig b = true) := hdg
          obtain ⟨v0, v1, v2⟩ := frac_all hdg
          clear hdg
          by_cases hmore : ∃ h : m < s.size, isDig s[m] = true
          · obtain ⟨hlt2, hd⟩ := hmore
            have hat : l[m]? = some s[m] := by rw [HL.out]; exact at_list s m hlt2
            have HS : Hid (frac ((l.drop (k + 1)).take (m + 1 - (k + 1))) = ((frac ((l.drop (k + 1)).take (m - (k + 1)))).1 + (frac ((l.drop (k + 1)).take (m - (k + 1)))).2 * ((s[m].toNat : Int) - 48), (frac ((l.drop (k + 1)).take (m - (k + 1)))).2 / 10)) := by
              show _ = _
              rw [take_step l (k + 1) m _ hkm hat, frac_snoc]
            have HG2 : Hid (∀ b ∈ (l.drop (k + 1)).take (m + 1 - (k + 1)), isDig b = true) := dig_step hkm hat hd HG.out
            obtain ⟨d0, d9⟩ := (isDig_iff _).1 hd
            have HC : Hid (∀ w, Calls Tryz.prog 26 #[.int .u8 s[m].toNat] w fun e w' => e = .returned (.bool true) ∧ w' = w) := fun w => by
              have := digit_any s[m] w
              rw [hd] at this; exact this
            clear hd hat
            generalize (frac ((l.drop (k + 1)).take (m - (k + 1)))).1 = F1 at *
            generalize (frac ((l.drop (k + 1)).take (m - (k + 1)))).2 = F2 at *
            have m0 : 0 ≤ F2 * ((s[m].toNat : Int) - 48) := Int.mul_nonneg v1 (by omega)
            have m9 : F2 * ((s[m].toNat : Int) - 48) ≤ F2 * 9 := Int.mul_le_mul_of_nonneg_left (by omega) v1
            go_wp2_with fail
            refine (HC.out _).mono ?_
            rintro e w1 ⟨rfl, rfl⟩
            go_wp2
            go_round
            case rel => exact ⟨m + 1, by omega, by omega, by go_num, by rw [HS.out]; show Value.int .i64 _ = Value.int .i64 (N * 1000 + (F1 + F2 * ((s[m].toNat : Int) - 48))); rw [Int.add_assoc], by rw [HS.out], HG2.out⟩
            case measure => simp [intOf]; omega
          · have hstop : ∀ b, l[m]? = some b → isDig b = false := by
              intro b hb
              have hlt2 : m < s.size := by
                have := (List.getElem?_eq_some_iff.1 hb).1
                rw [HL.out] at this; simpa using this
              rw [HL.out, at_list s m hlt2] at hb
              injection hb with hb
              cases hd : isDig b
              · rfl
              · exact absurd ⟨hlt2, by rw [hb]; exact hd⟩ hmore
            obtain ⟨t1, t2⟩ := scan_stop l (k + 1) m hkm HG.out hstop
            have hlen : ((l.drop (k + 1)).take (m - (k + 1))).length = m - (k + 1) := by
              rw [List.length_take, List.length_drop, HL.out, show s.data.toList.length = s.size from (Lib.size_eq s).symm]; omega
            have hmw : m = k + 1 + fl.length := by rw [← HE3.out, t1, hlen]; omega
            have hr3 : r3 = l.drop m := by rw [← HE4.out, t2]
            rw [← t1, HE3.out] at v0 v1 v2 ⊢
            have HFL : Hid (∀ b ∈ fl, isDig b = true) := by rw [← HE3.out]; exact take_all
            have HMW : Hid (m = k + 1 + fl.length) := hmw
            have HR3 : Hid (r3 = l.drop m) := hr3
            clear HG t1 t2 hlen hstop hmw hr3
            by_cases hlt2 : m < s.size
            · have hd : isDig s[m] = false := by cases hd : isDig s[m]; rfl; exact absurd ⟨hlt2, hd⟩ hmore
              have HC : Hid (∀ w, Calls Tryz.prog 26 #[.int .u8 s[m].toNat] w fun e w' => e = .returned (.bool false) ∧ w' = w) := fun w => by
                have := digit_any s[m] w
                rw [hd] at this; exact this
              clear hmore hd
              go_wp2_with fail
              refine (HC.out _).mono ?_
              rintro e w1 ⟨rfl, rfl⟩
              have hR0 := RBox.new w
              have hB0 : Below w.heap.size w (w.alloc (.cells #[.int .i64 0, .int .i64 0] 64)) := (Below.refl _ _).alloc (Nat.le_refl _) _
              obtain ⟨c0, c1, f0, f1, lt⟩ := hR0
              rcases hbad with hbad | hbad
              · have hne2 : ((m : Int) == (k : Int) + 1) = true := by have hml := HMW.out; rw [hbad] at hml; simp at hml; simp; omega
                clear hbad
                go_wp2
                refine bodyPost_ret (v := .tuple #[.agg #[.int .i64 0, .int .i64 0], .int .i64 1]) (by simp [results, Tryz.results28, go_sem, c0, c1]) rfl ⟨rfl, hB0⟩
              · have hm3 : 3 < (m : Int) - ((k : Int) + 1) := by have hml := HMW.out; omega
                clear hbad
                have hne2 : ((m : Int) == (k : Int) + 1) = false := by simp; omega
                go_wp2
                refine bodyPost_ret (v := .tuple #[.agg #[.int .i64 0, .int .i64 0], .int .i64 1]) (by simp [results, Tryz.results28, go_sem, c0, c1]) rfl ⟨rfl, hB0⟩
            · clear hmore
              have hR0 := RBox.new w
              have hB0 : Below w.heap.size w (w.alloc (.cells #[.int .i64 0, .int .i64 0] 64)) := (Below.refl _ _).alloc (Nat.le_refl _) _
              obtain ⟨c0, c1, f0, f1, lt⟩ := hR0
              rcases hbad with hbad | hbad
              · have hne2 : ((m : Int) == (k : Int) + 1) = true := by have hml := HMW.out; rw [hbad] at hml; simp at hml; simp; omega
                clear hbad
                go_wp2
                refine bodyPost_ret (v := .tuple #[.agg #[.int .i64 0, .int .i64 0], .int .i64 1]) (by simp [results, Tryz.results28, go_sem, c0, c1]) rfl ⟨rfl, hB0⟩
              · have hm3 : 3 < (m : Int) - ((k : Int) + 1) := by have hml := HMW.out; omega
                clear hbad
                have hne2 : ((m : Int) == (k : Int) + 1) = false := by simp; omega
                go_wp2
                refine bodyPost_ret (v := .tuple #[.agg #[.int .i64 0, .int .i64 0], .int .i64 1]) (by simp [results, Tryz.results28, go_sem, c0, c1]) rfl ⟨rfl, hB0⟩

      · clear hmore
        have hr0 : r1 = [] := by rw [HR1.out, HL.out]; exact List.drop_eq_nil_of_le (by rw [show s.data.toList.length = s.size from (Lib.size_eq s).symm]; omega)
        rw [hr0] at hdot
        exact absurd hdot (by decide)

set_option maxHeartbeats 3200000 in
set_option maxRecDepth 100000 in
theorem ref_bad_neg (s : ByteArray) (w : World) (l wl r1 : List UInt8) (hl : l = s.data.toList) (hs : s.size ≤ 1048576) (hz : 0 < s.size) (hb0 : ((s[0].toNat : Int) == 45) = true) (E1 : Hid ((l.drop 1).takeWhile isDig = wl)) (E2 : Hid ((l.drop 1).dropWhile isDig = r1)) (fl r3 : List UInt8) (E3 : Hid ((l.drop (1 + wl.length + 1)).takeWhile isDig = fl)) (E4 : Hid ((l.drop (1 + wl.length + 1)).dropWhile isDig = r3)) (h1 : wl ≠ []) (hd : Lib.hasPrefix r1 [46] = true) (hbad : fl = [] ∨ 3 < fl.length) :
    Calls Tryz.prog 28 #[.string s] w fun e w' => e = .returned (.tuple #[.agg #[.int .i64 0, .int .i64 0], .int .i64 1]) ∧ Below w.heap.size w w' := by
  have HL : Hid (l = s.data.toList) := hl
  clear hl
  go_enter Tryz.func28, Tryz.ntmps28
  go_wp2
  go_loop [4, 7, 8] (fun i n far => ∃ k : Nat, 1 ≤ k ∧ k ≤ s.size ∧ i = .int .i64 k ∧ n = .int .i64 (min (val ((l.drop 1).take (k - 1))) 10000000000) ∧ far = .bool (decide (10000000000 < val ((l.drop 1).take (k - 1)))) ∧ ∀ b ∈ (l.drop 1).take (k - 1), isDig b = true) (fun i _ _ => s.size - (intOf i).toNat)
  case atStart => exact ⟨1, Nat.le_refl _, by omega, rfl, by rw [Nat.sub_self]; rfl, by rw [Nat.sub_self]; rfl, by rw [Nat.sub_self]; intro b hb; simp at hb⟩
  case round =>
    obtain ⟨k, hik, hk, rfl, rfl, rfl, hdg⟩ := hrel
    have HG : Hid (∀ b ∈ (l.drop 1).take (k - 1), isDig b = true) := hdg
    have hv0 := val_nonneg hdg
    clear hdg
    by_cases hmore : ∃ h : k < s.size, isDig s[k] = true
    · obtain ⟨hlt, hd⟩ := hmore
      have hat : l[k]? = some s[k] := by rw [HL.out]; exact at_list s k hlt
      have HS : Hid (val ((l.drop 1).take (k + 1 - 1)) = 10 * val ((l.drop 1).take (k - 1)) + ((s[k].toNat : Int) - 48)) := by
        show _ = _
        rw [take_step l 1 k _ hik hat, val_snoc]
      have HG2 : Hid (∀ b ∈ (l.drop 1).take (k + 1 - 1), isDig b = true) := dig_step hik hat hd HG.out
      obtain ⟨d0, d9⟩ := (isDig_iff _).1 hd
      have HC : Hid (∀ w, Calls Tryz.prog 26 #[.int .u8 s[k].toNat] w fun e w' => e = .returned (.bool true) ∧ w' = w) := fun w => by
        have := digit_any s[k] w
        rw [hd] at this; exact this
      clear hd hat
      generalize val ((l.drop 1).take (k - 1)) = V at *
      by_cases hV : 10000000000 < V
      · have e1 : min V 10000000000 = 10000000000 := by omega
        have e2 : decide (10000000000 < V) = true := by simp [hV]
        rw [e1, e2]
        clear e1 e2
        go_wp2_with fail
        refine (HC.out _).mono ?_
        rintro e w1 ⟨rfl, rfl⟩
        go_wp2
        go_round
        case rel => exact ⟨k + 1, by omega, by omega, by go_num, by rw [HS.out, show min (10 * V + ((s[k].toNat : Int) - 48)) 10000000000 = 10000000000 by omega], by rw [HS.out, show decide (10000000000 < 10 * V + ((s[k].toNat : Int) - 48)) = true by simp; omega], HG2.out⟩
        case measure => simp [intOf]; omega
      · have e1 : min V 10000000000 = V := by omega
        have e2 : decide (10000000000 < V) = false := by simp; omega
        rw [e1, e2]
        clear e1 e2
        by_cases hV2 : 10000000000 < 10 * V + ((s[k].toNat : Int) - 48)
        · go_wp2_with fail
          refine (HC.out _).mono ?_
          rintro e w1 ⟨rfl, rfl⟩
          go_wp2
          go_round
          case rel => exact ⟨k + 1, by omega, by omega, by go_num, by rw [HS.out, show min (10 * V + ((s[k].toNat : Int) - 48)) 10000000000 = 10000000000 by omega], by rw [HS.out, show decide (10000000000 < 10 * V + ((s[k].toNat : Int) - 48)) = true by simp; omega], HG2.out⟩
          case measure => simp [intOf]; omega
        · go_wp2_with fail
          refine (HC.out _).mono ?_
          rintro e w1 ⟨rfl, rfl⟩
          go_wp2
          go_round
          case rel => exact ⟨k + 1, by omega, by omega, by go_num, by rw [HS.out, show min (10 * V + ((s[k].toNat : Int) - 48)) 10000000000 = 10 * V + ((s[k].toNat : Int) - 48) by omega], by rw [HS.out, show decide (10000000000 < 10 * V + ((s[k].toNat : Int) - 48)) = false by simp; omega], HG2.out⟩
          case measure => simp [intOf]; omega
    · have hdot := hd
      have hstop : ∀ b, l[k]? = some b → isDig b = false := by
        intro b hb
        have hlt : k < s.size := by
          have := (List.getElem?_eq_some_iff.1 hb).1
          rw [HL.out] at this; simpa using this
        rw [HL.out, at_list s k hlt] at hb
        injection hb with hb
        cases hd : isDig b
        · rfl
        · exact absurd ⟨hlt, by rw [hb]; exact hd⟩ hmore
      obtain ⟨t1, t2⟩ := scan_stop l 1 k hik HG.out hstop
      have hlen : ((l.drop 1).take (k - 1)).length = k - 1 := by
        rw [List.length_take, List.length_drop, HL.out, show s.data.toList.length = s.size from (Lib.size_eq s).symm]; omega
      have hkw : k = 1 + wl.length := by rw [← E1.out, t1, hlen]; omega
      have hr1 : r1 = l.drop k := by rw [← E2.out, t2]
      rw [← t1, E1.out] at hlen hv0 ⊢
      have HW : Hid (∀ b ∈ wl, isDig b = true) := by rw [← E1.out]; exact take_all
      have HKW : Hid (k = 1 + wl.length) := hkw
      have HR1 : Hid (r1 = l.drop k) := hr1
      clear HG t1 t2 hlen hstop hkw hr1
      by_cases hlt : k < s.size
      · have hd : isDig s[k] = false := by cases hd : isDig s[k]; rfl; exact absurd ⟨hlt, hd⟩ hmore
        have HC : Hid (∀ w, Calls Tryz.prog 26 #[.int .u8 s[k].toNat] w fun e w' => e = .returned (.bool false) ∧ w' = w) := fun w => by
          have := digit_any s[k] w
          rw [hd] at this; exact this
        clear hmore hd
        go_wp2_with fail
        refine (HC.out _).mono ?_
        rintro e w1 ⟨rfl, rfl⟩
        have hne : ((k : Int) == 1) = false := by
          have := HKW.out
          have hl0 : wl.length ≠ 0 := fun e => h1 (List.length_eq_zero_iff.1 e)
          simp; omega
        obtain ⟨N, hN⟩ : ∃ N, N = min (val wl) 10000000000 := ⟨_, rfl⟩
        have hN0 : 0 ≤ N := by omega
        have hN1 : N ≤ 10000000000 := by omega
        have HN : Hid (N = min (val wl) 10000000000) := hN
        rw [← hN]
        clear hN
        obtain ⟨far, hfar⟩ : ∃ far, far = decide (10000000000 < val wl) := ⟨_, rfl⟩
        have HF : Hid (far = decide (10000000000 < val wl)) := hfar
        rw [← hfar]
        clear hfar
        have hnd : ((s[k].toNat : Int) == 46) = true := by
          rw [← dot_is (l := l) (k := k) (by rw [HL.out]; exact at_list s k hlt), ← HR1.out]; exact hdot
        clear hdot
        go_wp2
        have HE3 : Hid ((l.drop (k + 1)).takeWhile isDig = fl) := by show _ = _; have h := E3.out; rw [← HKW.out] at h; exact h
        have HE4 : Hid ((l.drop (k + 1)).dropWhile isDig = r3) := by show _ = _; have h := E4.out; rw [← HKW.out] at h; exact h
        clear E3 E4
        go_loop [4, 7, 10] (fun i n wo => ∃ m : Nat, k + 1 ≤ m ∧ m ≤ s.size ∧ i = .int .i64 m ∧ n = .int .i64 (N * 1000 + (frac ((l.drop (k + 1)).take (m - (k + 1)))).1) ∧ wo = .int .i64 (frac ((l.drop (k + 1)).take (m - (k + 1)))).2 ∧ ∀ b ∈ (l.drop (k + 1)).take (m - (k + 1)), isDig b = true) (fun i _ _ => s.size - (intOf i).toNat)
        case atStart => exact ⟨k + 1, Nat.le_refl _, by omega, by go_num, by rw [Nat.sub_self]; show Value.int .i64 _ = Value.int .i64 (N * 1000 + 0); rw [Int.add_zero], by rw [Nat.sub_self]; rfl, by rw [Nat.sub_self]; intro b hb; simp at hb⟩
        case round =>
          obtain ⟨m, hkm, hm, rfl, rfl, rfl, hdg⟩ := hrel
          have HG : Hid (∀ b ∈ (l.drop (k + 1)).take (m - (k + 1)), isDig b = true) := hdg
          obtain ⟨v0, v1, v2⟩ := frac_all hdg
          clear hdg
          by_cases hmore : ∃ h : m < s.size, isDig s[m] = true
          · obtain ⟨hlt2, hd⟩ := hmore
            have hat : l[m]? = some s[m] := by rw [HL.out]; exact at_list s m hlt2
            have HS : Hid (frac ((l.drop (k + 1)).take (m + 1 - (k + 1))) = ((frac ((l.drop (k + 1)).take (m - (k + 1)))).1 + (frac ((l.drop (k + 1)).take (m - (k + 1)))).2 * ((s[m].toNat : Int) - 48), (frac ((l.drop (k + 1)).take (m - (k + 1)))).2 / 10)) := by
              show _ = _
              rw [take_step l (k + 1) m _ hkm hat, frac_snoc]
            have HG2 : Hid (∀ b ∈ (l.drop (k + 1)).take (m + 1 - (k + 1)), isDig b = true) := dig_step hkm hat hd HG.out
            obtain ⟨d0, d9⟩ := (isDig_iff _).1 hd
            have HC : Hid (∀ w, Calls Tryz.prog 26 #[.int .u8 s[m].toNat] w fun e w' => e = .returned (.bool true) ∧ w' = w) := fun w => by
              have := digit_any s[m] w
              rw [hd] at this; exact this
            clear hd hat
            generalize (frac ((l.drop (k + 1)).take (m - (k + 1)))).1 = F1 at *
            generalize (frac ((l.drop (k + 1)).take (m - (k + 1)))).2 = F2 at *
            have m0 : 0 ≤ F2 * ((s[m].toNat : Int) - 48) := Int.mul_nonneg v1 (by omega)
            have m9 : F2 * ((s[m].toNat : Int) - 48) ≤ F2 * 9 := Int.mul_le_mul_of_nonneg_left (by omega) v1
            go_wp2_with fail
            refine (HC.out _).mono ?_
            rintro e w1 ⟨rfl, rfl⟩
            go_wp2
            go_round
            case rel => exact ⟨m + 1, by omega, by omega, by go_num, by rw [HS.out]; show Value.int .i64 _ = Value.int .i64 (N * 1000 + (F1 + F2 * ((s[m].toNat : Int) - 48))); rw [Int.add_assoc], by rw [HS.out], HG2.out⟩
            case measure => simp [intOf]; omega
          · have hstop : ∀ b, l[m]? = some b → isDig b = false := by
              intro b hb
              have hlt2 : m < s.size := by
                have := (List.getElem?_eq_some_iff.1 hb).1
                rw [HL.out] at this; simpa using this
              rw [HL.out, at_list s m hlt2] at hb
              injection hb with hb
              cases hd : isDig b
              · rfl
              · exact absurd ⟨hlt2, by rw [hb]; exact hd⟩ hmore
            obtain ⟨t1, t2⟩ := scan_stop l (k + 1) m hkm HG.out hstop
            have hlen : ((l.drop (k + 1)).take (m - (k + 1))).length = m - (k + 1) := by
              rw [List.length_take, List.length_drop, HL.out, show s.data.toList.length = s.size from (Lib.size_eq s).symm]; omega
            have hmw : m = k + 1 + fl.length := by rw [← HE3.out, t1, hlen]; omega
            have hr3 : r3 = l.drop m := by rw [← HE4.out, t2]
            rw [← t1, HE3.out] at v0 v1 v2 ⊢
            have HFL : Hid (∀ b ∈ fl, isDig b = true) := by rw [← HE3.out]; exact take_all
            have HMW : Hid (m = k + 1 + fl.length) := hmw
            have HR3 : Hid (r3 = l.drop m) := hr3
            clear HG t1 t2 hlen hstop hmw hr3
            by_cases hlt2 : m < s.size
            · have hd : isDig s[m] = false := by cases hd : isDig s[m]; rfl; exact absurd ⟨hlt2, hd⟩ hmore
              have HC : Hid (∀ w, Calls Tryz.prog 26 #[.int .u8 s[m].toNat] w fun e w' => e = .returned (.bool false) ∧ w' = w) := fun w => by
                have := digit_any s[m] w
                rw [hd] at this; exact this
              clear hmore hd
              go_wp2_with fail
              refine (HC.out _).mono ?_
              rintro e w1 ⟨rfl, rfl⟩
              have hR0 := RBox.new w
              have hB0 : Below w.heap.size w (w.alloc (.cells #[.int .i64 0, .int .i64 0] 64)) := (Below.refl _ _).alloc (Nat.le_refl _) _
              obtain ⟨c0, c1, f0, f1, lt⟩ := hR0
              rcases hbad with hbad | hbad
              · have hne2 : ((m : Int) == (k : Int) + 1) = true := by have hml := HMW.out; rw [hbad] at hml; simp at hml; simp; omega
                clear hbad
                go_wp2
                refine bodyPost_ret (v := .tuple #[.agg #[.int .i64 0, .int .i64 0], .int .i64 1]) (by simp [results, Tryz.results28, go_sem, c0, c1]) rfl ⟨rfl, hB0⟩
              · have hm3 : 3 < (m : Int) - ((k : Int) + 1) := by have hml := HMW.out; omega
                clear hbad
                have hne2 : ((m : Int) == (k : Int) + 1) = false := by simp; omega
                go_wp2
                refine bodyPost_ret (v := .tuple #[.agg #[.int .i64 0, .int .i64 0], .int .i64 1]) (by simp [results, Tryz.results28, go_sem, c0, c1]) rfl ⟨rfl, hB0⟩
            · clear hmore
              have hR0 := RBox.new w
              have hB0 : Below w.heap.size w (w.alloc (.cells #[.int .i64 0, .int .i64 0] 64)) := (Below.refl _ _).alloc (Nat.le_refl _) _
              obtain ⟨c0, c1, f0, f1, lt⟩ := hR0
              rcases hbad with hbad | hbad
              · have hne2 : ((m : Int) == (k : Int) + 1) = true := by have hml := HMW.out; rw [hbad] at hml; simp at hml; simp; omega
                clear hbad
                go_wp2
                refine bodyPost_ret (v := .tuple #[.agg #[.int .i64 0, .int .i64 0], .int .i64 1]) (by simp [results, Tryz.results28, go_sem, c0, c1]) rfl ⟨rfl, hB0⟩
              · have hm3 : 3 < (m : Int) - ((k : Int) + 1) := by have hml := HMW.out; omega
                clear hbad
                have hne2 : ((m : Int) == (k : Int) + 1) = false := by simp; omega
                go_wp2
                refine bodyPost_ret (v := .tuple #[.agg #[.int .i64 0, .int .i64 0], .int .i64 1]) (by simp [results, Tryz.results28, go_sem, c0, c1]) rfl ⟨rfl, hB0⟩

      · clear hmore
        have hr0 : r1 = [] := by rw [HR1.out, HL.out]; exact List.drop_eq_nil_of_le (by rw [show s.data.toList.length = s.size from (Lib.size_eq s).symm]; omega)
        rw [hr0] at hdot
        exact absurd hdot (by decide)

end Go.Proofs.YtpfpfnkagmmanaaGreatDoor
