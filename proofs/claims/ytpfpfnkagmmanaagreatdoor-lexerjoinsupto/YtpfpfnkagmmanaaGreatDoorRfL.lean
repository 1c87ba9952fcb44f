/- The document's LexSource, walked. -/
import Derived.Test.YtpfpfnkagmmanaaGreatDoorRfM
import Derived.Test.YtpfpfnkagmmanaaGreatDoorRefAll
import Derived.Test.YtpfpfnkagmmanaaGreatDoorLxC
import Derived.Test.YtpfpfnkagmmanaaGreatDoorRead5
namespace Go.Proofs.YtpfpfnkagmmanaaGreatDoor
open Go.RowKit Go.Shelf

set_option maxHeartbeats 1600000 in
set_option maxRecDepth 100000 in
theorem lexSource_big (s : ByteArray) (w : World) (hu : 20000 < s.size) :
    Calls Tryz.prog 12 #[.string s] w fun e w' => e = .returned (.tuple #[.slice none 0 0, .int .i64 0, .int .i64 8]) ∧ w' = w := by
  have hq : decide ((20000 : Int) < (s.size : Int)) = true := by simp; omega
  go_enter Tryz.func12, Tryz.ntmps12
  go_wp2
  go_ret3
  exact ⟨rfl, rfl⟩
theorem letter_is {b : UInt8} {v : Bool} (h : letR b.toNat = v) (W : World) : Calls Tryz.prog 25 #[.int .u8 (b.toNat : Int)] W fun e w' => e = .returned (.bool v) ∧ w' = W := h ▸ letterByte_any b.toNat W
theorem digit_is {b : UInt8} {v : Bool} (h : digR b.toNat = v) (W : World) : Calls Tryz.prog 26 #[.int .u8 (b.toNat : Int)] W fun e w' => e = .returned (.bool v) ∧ w' = W := h ▸ digit_at b W
theorem blank_ways {c : UInt8} (h : pBlank c.toNat = true) : c.toNat = 32 ∨ c.toNat = 9 ∨ c.toNat = 13 := by
  unfold pBlank at h
  simp at h
  omega
theorem refQ (X : List UInt8) (E : Int) (w : World) (hX : X.length ≤ 20000) (hE : rdE X = E) :
    Calls Tryz.prog 28 #[.string ⟨X.toArray⟩] w fun e w' => e = .returned (.tuple #[.agg #[.int .i64 (readL X mkQ).1, .int .i64 (readL X mkQ).2.1], .int .i64 E]) ∧ Below w.heap.size w w' := by
  have h := ref_any ⟨X.toArray⟩ w (by rw [Lib.size_eq]; show X.length ≤ _; omega)
  rw [show (⟨X.toArray⟩ : ByteArray).data.toList = X from rfl, show (readL X mkQ).2.2 = E from hE] at h
  exact h

theorem let_low {b : UInt8} (h : letR b.toNat = true) : b.toNat < 128 := by unfold letR at h; simp at h; omega
theorem dig_low {b : UInt8} (h : digR b.toNat = true) : b.toNat < 128 := by unfold digR at h; simp at h; omega
theorem low_mic {b c : UInt8} (h : b.toNat < 128) : micB b c = false := by
  cases hm : micB b c with
  | false => rfl
  | true =>
    unfold micB at hm
    simp only [Bool.or_eq_true, Bool.and_eq_true, beq_iff_eq] at hm
    rcases hm with ⟨rfl, _⟩ | ⟨rfl, _⟩
    · exact absurd h (by decide)
    · exact absurd h (by decide)
theorem micro_low (s : ByteArray) (j : Nat) (d : UInt8) (W : World) (hjp : j < s.size) (hd : s[j]'hjp = d) (hlow : d.toNat < 128) (hs : s.size ≤ 20000) :
    Calls Tryz.prog 27 #[.string s, .int .i64 (j : Int)] W fun e w' => e = .returned (.bool false) ∧ w' = W := by
  by_cases hh : j + 1 < s.size
  · have := micro_two s j d _ W hh hd rfl hs
    rw [low_mic hlow] at this
    exact this
  · exact micro_end s j W hjp hh hs
theorem ahead_len2 (l r : List UInt8) : (ahead l r).length ≤ l.length := by unfold ahead; rw [List.length_take]; omega
theorem ahead_one (c : UInt8) (t : List UInt8) : ahead (c :: t) t = [c] := by simp [ahead]
theorem labelMay_at (X : List UInt8) (v : Bool) (W : World) (hX : X.length ≤ 20000) (h : labB X = v) : Calls Tryz.prog 29 #[.string ⟨X.toArray⟩] W fun e w' => e = .returned (.bool v) ∧ w' = W := by
  have := F.labelMay_any ⟨X.toArray⟩ W (by rw [Lib.size_eq]; show X.length ≤ maxLen; unfold maxLen; omega)
  rw [show F.lab (⟨X.toArray⟩ : ByteArray) = v from h] at this
  exact this
def signAt (j : Nat) : UInt8 := signL.getD j 0
theorem sign_idx (j : Nat) (h : j < 12) (W : World) : (Instr.index 9 (.string signA) (.int .i64 (j : Int))).run Tryz.prog W = .ok (.int .u8 ((signAt j).toNat : Int)) W := by
  have hz : signA.size = 12 := rfl
  rw [run_index_string W 9 signA .i64 (j : Int) Tryz.underlying9, dif_pos ⟨by omega, by rw [hz]; omega⟩]
  have : ∀ i : Fin 12, ((#[43, 45, 42, 47, 40, 41, 123, 125, 46, 44, 61, 60] : Array UInt8)[i.1]'i.2) = signAt i.1 := by decide
  have := this ⟨j, h⟩
  rw [← this]
  rfl
theorem sign_take (j : Nat) (h : j < 12) (c : UInt8) : (signL.take (j + 1)).contains c = ((signL.take j).contains c || signAt j == c) := by
  have hl : j < signL.length := h
  rw [List.take_succ_eq_append_getElem hl, List.contains_append]
  have : signL[j]'hl = signAt j := by unfold signAt; simp [List.getD, hl]
  rw [this]
  congr 1
  simp
  by_cases e : c = signAt j
  · subst e; simp
  · have e2 : ¬ signAt j = c := fun x => e x.symm
    simp [e, e2]
theorem sign_cmp (a c : UInt8) : ((a.toNat : Int) == (c.toNat : Int)) = (a == c) := by
  rw [Bool.eq_iff_iff, beq_iff_eq, beq_iff_eq]
  constructor
  · intro h; exact UInt8.toNat.inj (by omega)
  · rintro rfl; rfl

set_option maxHeartbeats 40000000 in
set_option maxRecDepth 1000000 in
theorem lexSource_small (s : ByteArray) (w : World) (hs : s.size ≤ 20000) (T : List Tk) (N E : Int) (hres : lexW s.data.toList 1 [] = (T, N, E)) :
    Calls Tryz.prog 12 #[.string s] w fun e w' => ∃ v, e = .returned (.tuple #[v, .int .i64 N, .int .i64 E]) ∧ OwnT w' w.heap.size v T ∧ Below w.heap.size w w' := by
  have hq : decide ((20000 : Int) < (s.size : Int)) = false := by simp; omega
  have H0 : Hid (lexW s.data.toList 1 [] = (T, N, E)) := hres
  clear hres
  go_enter Tryz.func12, Tryz.ntmps12
  go_wp2
  go_loopw [5, 6, 7] (fun v5 v6 v7 wr => ∃ (i : Nat) (n : Int) (ts : List Tk), v6 = .int .i64 n ∧ v7 = .int .i64 (i : Int) ∧ i ≤ s.size ∧ 1 ≤ n ∧ n ≤ i + 1 ∧ ts.length ≤ i ∧ OwnT wr w.heap.size v5 ts ∧ Hid (lexW (s.data.toList.drop i) n ts = (T, N, E)) ∧ Below w.heap.size w wr) (fun _ _ v7 _ => s.size - (intOf v7).toNat)
  case atStart => exact ⟨0, 1, [], rfl, rfl, Nat.zero_le _, by omega, by omega, Nat.le_refl _, OwnT.nil _ _, H0.out, Below.refl _ _⟩
  case round =>
    obtain ⟨i, n, ts, rfl, rfl, hi, hn1, hn2, hts, hown, hlx, hbw⟩ := hrel
    obtain ⟨ao, cap, rfl⟩ := hown.shape
    obtain ⟨w1, rfl⟩ : ∃ w1, w1 = wr := ⟨_, rfl⟩
    obtain ⟨m, hm⟩ : ∃ m, m = ts.length := ⟨_, rfl⟩
    rw [← hm] at hown ⊢
    have HO : Hid (OwnT w1 w.heap.size (.slice ao m cap) ts) := hown
    have HB : Hid (Below w.heap.size w w1) := hbw
    have HSZ : Hid (w.heap.size ≤ w1.heap.size) := hbw.size
    have HL : Hid (ts.length ≤ i) := hts
    have HN : Hid (n ≤ i + 1) := hn2
    have HM : Hid (m = ts.length) := hm
    have hn3 : n ≤ 20001 := by omega
    clear hown hbw hts hn2 hm H0
    by_cases hp : i < s.size
    · obtain ⟨c, hc⟩ : ∃ c : UInt8, s[i]'hp = c := ⟨_, rfl⟩
      have HC : Hid (s[i]'hp = c) := hc
      have hdr := drop_at hp
      rw [hc] at hdr
      rw [hdr] at hlx
      have HD : Hid (s.data.toList.drop i = c :: s.data.toList.drop (i + 1)) := hdr
      clear hdr
      obtain ⟨t, ht⟩ : ∃ t, t = s.data.toList.drop (i + 1) := ⟨_, rfl⟩
      have HTT : Hid (t = s.data.toList.drop (i + 1)) := ht
      rw [← ht] at hlx HD
      clear ht
      have iI : (0 : Int) ≤ (i : Int) := by omega
      have iS : (i : Int) < (s.size : Int) := by omega
      cases hbl : pBlank c.toNat with
      | true =>
        as_aux_lemma =>
          have HX : Hid (lexW t n ts = (T, N, E)) := by have := hlx.out; rw [lexW_ok (step_blank hbl), List.append_nil] at this; exact this
          have q10 : ((c.toNat : Int) == 10) = false := by have := blank_ways hbl; simp; omega
          rcases blank_ways hbl with h | h | h
          · have q32 : ((c.toNat : Int) == 32) = true := by simp; omega
            clear hbl h hlx
            go_wp2
            go_roundw
            case rel => exact ⟨i + 1, n, ts, rfl, by go_num, by omega, by omega, by have := HN.out; omega, by have := HL.out; omega, HO.out, by rw [← HTT.out]; exact HX, HB.out⟩
            case measure => simp [intOf]; omega
          · have q32 : ((c.toNat : Int) == 32) = false := by simp; omega
            have q9 : ((c.toNat : Int) == 9) = true := by simp; omega
            clear hbl h hlx
            go_wp2
            go_roundw
            case rel => exact ⟨i + 1, n, ts, rfl, by go_num, by omega, by omega, by have := HN.out; omega, by have := HL.out; omega, HO.out, by rw [← HTT.out]; exact HX, HB.out⟩
            case measure => simp [intOf]; omega
          · have q32 : ((c.toNat : Int) == 32) = false := by simp; omega
            have q9 : ((c.toNat : Int) == 9) = false := by simp; omega
            have q13 : ((c.toNat : Int) == 13) = true := by simp; omega
            clear hbl h hlx
            go_wp2
            go_roundw
            case rel => exact ⟨i + 1, n, ts, rfl, by go_num, by omega, by omega, by have := HN.out; omega, by have := HL.out; omega, HO.out, by rw [← HTT.out]; exact HX, HB.out⟩
            case measure => simp [intOf]; omega
      | false =>
        have nb : c.toNat ≠ 32 ∧ c.toNat ≠ 9 ∧ c.toNat ≠ 13 := by unfold pBlank at hbl; simp at hbl; omega
        have q32 : ((c.toNat : Int) == 32) = false := by simp; omega
        have q9 : ((c.toNat : Int) == 9) = false := by simp; omega
        have q13 : ((c.toNat : Int) == 13) = false := by simp; omega
        have HBL : Hid (pBlank c.toNat = false) := hbl
        clear nb hbl
        by_cases h10 : c = 10
        · have HX : Hid (lexW t (n + 1) ts = (T, N, E)) := by have := hlx.out; rw [h10, lexW_ok step_feed, List.append_nil] at this; exact this
          have q10 : ((c.toNat : Int) == 10) = true := by rw [h10]; rfl
          clear h10 hlx
          as_aux_lemma =>
            go_wp2
            go_roundw
            case rel => exact ⟨i + 1, n + 1, ts, by go_num, by go_num, by omega, by omega, by have := HN.out; omega, by have := HL.out; omega, HO.out, by rw [← HTT.out]; exact HX, HB.out⟩
            case measure => simp [intOf]; omega
        have q10 : ((c.toNat : Int) == 10) = false := by have := nat_ne h10; simp at this ⊢; omega
        by_cases h35 : c = 35
        · have HX : Hid (lexW (lineD t) n ts = (T, N, E)) := by have := hlx.out; rw [h35, lexW_ok step_remark, List.append_nil, lineD_step (by decide)] at this; exact this
          have HR : Hid (lineD (s.data.toList.drop i) = lineD t) := by show _ = _; rw [HD.out]; exact lineD_step (by rw [h35]; decide)
          have q35 : ((c.toNat : Int) == 35) = true := by rw [h35]; rfl
          clear h10 h35 hlx
          as_aux_lemma =>
            have HCC : Hid (c ≠ 10) := fun e => by rw [e] at q10; exact absurd q10 (by decide)
            go_wp2
            go_loopw [7] (fun v7 wx => ∃ j : Nat, v7 = .int .i64 (j : Int) ∧ i ≤ j ∧ j ≤ s.size ∧ Hid (lineD (s.data.toList.drop j) = lineD t) ∧ (i = j ∨ i < j) ∧ wx = w1) (fun v7 _ => s.size - (intOf v7).toNat)
            case atStart => exact ⟨i, rfl, Nat.le_refl _, hi, HR.out, .inl rfl, rfl⟩
            case round =>
              obtain ⟨j, rfl, hij, hj, hI, hlt, rfl⟩ := hrel
              by_cases hjp : j < s.size
              · obtain ⟨d, hd⟩ : ∃ d : UInt8, s[j]'hjp = d := ⟨_, rfl⟩
                have hdj := drop_at hjp
                rw [hd] at hdj
                have jI : (0 : Int) ≤ (j : Int) := by omega
                have jS : (j : Int) < (s.size : Int) := by omega
                by_cases hd10 : d = 10
                · have HX2 : Hid (s.data.toList.drop j = lineD t) := by have := hI.out; rw [hdj, hd10, lineD_stop] at this; show _ = _; rw [hdj, hd10]; exact this
                  have HIJ : Hid (i < j) := hlt.elim (fun e => absurd (by subst e; rw [← HC.out, hd, hd10]) HCC.out) id
                  have qd : ((d.toNat : Int) != 10) = false := by rw [hd10]; rfl
                  clear hd10 hdj hI hlt
                  go_wp2
                  go_roundw
                  case rel => exact ⟨j, n, ts, rfl, rfl, hj, by omega, by have := HN.out; omega, by have := HL.out; omega, HO.out, by rw [HX2.out]; exact HX, HB.out⟩
                  case measure => have := HIJ.out; simp [intOf]; omega
                · have HX2 : Hid (lineD (s.data.toList.drop (j + 1)) = lineD t) := by have := hI.out; rw [hdj, lineD_step hd10] at this; exact this
                  have qd : ((d.toNat : Int) != 10) = true := by have := nat_ne hd10; simp at this ⊢; omega
                  clear hd10 hdj hI hlt
                  go_wp2
                  go_roundw
                  case rel => exact ⟨j + 1, by go_num, by omega, by omega, HX2.out, .inr (by omega), by first | rfl | trivial⟩
                  case measure => simp [intOf]; omega
              · obtain rfl : j = s.size := by omega
                have HX2 : Hid (lineD t = []) := by have := hI.out; rw [drop_end] at this; exact this.symm
                have qj : decide ((s.size : Int) < (s.size : Int)) = false := by simp
                clear hI hlt
                go_wp2
                go_roundw
                case rel => exact ⟨s.size, n, ts, rfl, rfl, hj, by omega, by have := HN.out; omega, by have := HL.out; omega, HO.out, by rw [drop_end, ← HX2.out]; exact HX, HB.out⟩
                case measure => simp [intOf]; omega
        have q35 : ((c.toNat : Int) == 35) = false := by have := nat_ne h35; simp at this ⊢; omega
        cases hle : letR c.toNat with
        | true =>
          have HX : Hid (lexW (wordD (s.data.toList.drop i)) n (ts ++ [⟨1, ahead (s.data.toList.drop i) (wordD (s.data.toList.drop i)), n⟩]) = (T, N, E)) := by have := hlx.out; rw [lexW_ok (step_word hle), ← HD.out] at this; exact this
          have HLe := (show Hid _ from letter_is hle)
          have HLT : Hid ((wordD (s.data.toList.drop i)).length ≤ t.length) := by show _ ≤ _; rw [HD.out]; exact wordD_lt hle
          have HTL : Hid (t.length + i + 1 = s.size) := by show _ = _; rw [HTT.out, List.length_drop, lenL]; omega
          clear h10 h35 hlx hle
          as_aux_lemma =>
            go_wp2_with fail
            refine Calls.mono (HLe.out _) ?_
            rintro x w2 ⟨rfl, rfl⟩
            go_wp2
            go_loopw [7] (fun v7 wx => ∃ j : Nat, v7 = .int .i64 (j : Int) ∧ i ≤ j ∧ j ≤ s.size ∧ Hid (wordD (s.data.toList.drop j) = wordD (s.data.toList.drop i)) ∧ wx = w2) (fun v7 _ => s.size - (intOf v7).toNat)
            case atStart => exact ⟨i, rfl, Nat.le_refl _, hi, rfl, rfl⟩
            case round =>
              obtain ⟨j, rfl, hij, hj, hI, rfl⟩ := hrel
              by_cases hjp : j < s.size
              · obtain ⟨d, hd⟩ : ∃ d : UInt8, s[j]'hjp = d := ⟨_, rfl⟩
                have hdj := drop_at hjp
                rw [hd] at hdj
                have jI : (0 : Int) ≤ (j : Int) := by omega
                have jS : (j : Int) < (s.size : Int) := by omega
                have qj : decide ((j : Int) < (s.size : Int)) = true := by simp; omega
                cases hld : letR d.toNat with
                | true =>
                  have HX2 : Hid (wordD (s.data.toList.drop (j + 1)) = wordD (s.data.toList.drop i)) := by have := hI.out; rw [hdj, wordD_step (letR_word hld)] at this; exact this
                  have HLd := (show Hid _ from letter_is hld)
                  clear hdj hI hld
                  go_wp2_with fail
                  refine Calls.mono (HLd.out _) ?_
                  rintro x w3 ⟨rfl, rfl⟩
                  go_wp2
                  go_roundw
                  case rel => exact ⟨j + 1, by go_num, by omega, by omega, HX2, by first | rfl | trivial⟩
                  case measure => simp [intOf]; omega
                | false =>
                  have HLd := (show Hid _ from letter_is hld)
                  cases hdd : digR d.toNat with
                  | true =>
                    have HX2 : Hid (wordD (s.data.toList.drop (j + 1)) = wordD (s.data.toList.drop i)) := by have := hI.out; rw [hdj, wordD_step (by simp [pWord, hdd])] at this; exact this
                    have HDd := (show Hid _ from digit_is hdd)
                    clear hdj hI hld hdd
                    go_wp2_with fail
                    refine Calls.mono (HLd.out _) ?_
                    rintro x w3 ⟨rfl, rfl⟩
                    go_wp2_with fail
                    refine Calls.mono (HDd.out _) ?_
                    rintro x w3 ⟨rfl, rfl⟩
                    go_wp2
                    go_roundw
                    case rel => exact ⟨j + 1, by go_num, by omega, by omega, HX2, by first | rfl | trivial⟩
                    case measure => simp [intOf]; omega
                  | false =>
                    have HX2 : Hid (s.data.toList.drop j = wordD (s.data.toList.drop i)) := by have := hI.out; rw [hdj, wordD_stop (by simp [pWord, hld, hdd])] at this; show _ = _; rw [hdj]; exact this
                    have HDd := (show Hid _ from digit_is hdd)
                    have sl := slice_at s i j hij hj _ (by rw [HX2.out])
                    have HJ : Hid (i < j) := by have h1 := HLT.out; have h2 := HTL.out; rw [← HX2.out, List.length_drop, lenL] at h1; show _ < _; omega
                    obtain ⟨X, hX⟩ : ∃ X, X = ahead (s.data.toList.drop i) (wordD (s.data.toList.drop i)) := ⟨_, rfl⟩
                    rw [← hX] at sl
                    have HXE : Hid (X = ahead (s.data.toList.drop i) (wordD (s.data.toList.drop i))) := hX
                    clear hdj hI hld hdd hX
                    go_wp2_with fail
                    refine Calls.mono (HLd.out _) ?_
                    rintro x w3 ⟨rfl, rfl⟩
                    go_wp2_with fail
                    refine Calls.mono (HDd.out _) ?_
                    rintro x w3 ⟨rfl, rfl⟩
                    have HO2 : Hid (OwnT w3 w.heap.size (.slice ao m cap) ts) := HO.out
                    have HSZ2 : Hid (w.heap.size ≤ w3.heap.size) := HSZ.out
                    go_wp2_with (at_builtin; refine wpList_append_tok _ rfl (.tmp 80) (.tmp 87) rfl w.heap.size (.slice ao m cap) ts rfl (HO2.out.later ((Below.refl _ _).alloc (Nat.le_refl _) _)) w3.heap.size ⟨1, X, n⟩ rfl (by go_simp) (by go_simp) (by go_simp) (by have := HL.out; omega) (by have := HSZ2.out; simp; omega) ?_; intro v' w6 hown1 hg)
                    go_roundw
                    case rel =>
                      refine ⟨j, n, ts ++ [⟨1, X, n⟩], rfl, rfl, hj, by omega, by have := HN.out; omega, by have h1 := HL.out; have h2 := HJ.out; simp; omega, hown1, ?_, below_owns (HB.out.alloc HSZ2.out _) (HO2.out.later ((Below.refl _ _).alloc (Nat.le_refl _) _)) hg (by have := HSZ2.out; simp; omega)⟩
                      rw [HX2.out, HXE.out]; exact HX
                    case measure => have := HJ.out; simp [intOf]; omega
              · obtain rfl : j = s.size := by omega
                have HX2 : Hid (wordD (s.data.toList.drop i) = []) := by have := hI.out; rw [drop_end] at this; exact this.symm
                have qj : decide ((s.size : Int) < (s.size : Int)) = false := by simp
                have sl := slice_at s i s.size hij hj _ (by rw [drop_end, ← HX2.out])
                obtain ⟨X, hX⟩ : ∃ X, X = ahead (s.data.toList.drop i) (wordD (s.data.toList.drop i)) := ⟨_, rfl⟩
                rw [← hX] at sl
                have HXE : Hid (X = ahead (s.data.toList.drop i) (wordD (s.data.toList.drop i))) := hX
                have HO2 : Hid (OwnT wr w.heap.size (.slice ao m cap) ts) := HO.out
                have HSZ2 : Hid (w.heap.size ≤ wr.heap.size) := HSZ.out
                clear hI hX
                go_wp2_with (at_builtin; refine wpList_append_tok _ rfl (.tmp 80) (.tmp 87) rfl w.heap.size (.slice ao m cap) ts rfl (HO2.out.later ((Below.refl _ _).alloc (Nat.le_refl _) _)) wr.heap.size ⟨1, X, n⟩ rfl (by go_simp) (by go_simp) (by go_simp) (by have := HL.out; omega) (by have := HSZ2.out; simp; omega) ?_; intro v' w6 hown1 hg)
                go_roundw
                case rel =>
                  refine ⟨s.size, n, ts ++ [⟨1, X, n⟩], rfl, rfl, hj, by omega, by have := HN.out; omega, by have h1 := HL.out; simp; omega, hown1, ?_, below_owns (HB.out.alloc HSZ2.out _) (HO2.out.later ((Below.refl _ _).alloc (Nat.le_refl _) _)) hg (by have := HSZ2.out; simp; omega)⟩
                  rw [drop_end, ← HX2.out, HXE.out]; exact HX
                case measure => simp [intOf]; omega
        | false =>
          have HLe := (show Hid _ from letter_is hle)
          cases hdi : digR c.toNat with
          | true =>
            have HDi := (show Hid _ from digit_is hdi)
            have HLT : Hid ((dropA (s.data.toList.drop i)).length ≤ t.length) := by show _ ≤ _; rw [HD.out]; exact dropA_lt hdi
            have HTL : Hid (t.length + i + 1 = s.size) := by show _ = _; rw [HTT.out, List.length_drop, lenL]; omega
            have HDG : Hid (digR c.toNat = true) := hdi
            have HLX : Hid (lexW (s.data.toList.drop i) n ts = (T, N, E)) := by show _ = _; rw [HD.out]; exact hlx.out
            clear h10 h35 hlx hle hdi
            as_aux_lemma =>
              go_wp2_with fail
              refine Calls.mono (HLe.out _) ?_
              rintro x w2 ⟨rfl, rfl⟩
              go_wp2_with fail
              refine Calls.mono (HDi.out _) ?_
              rintro x w2' ⟨rfl, rfl⟩
              go_wp2
              go_loopw [7] (fun v7 wx => ∃ j : Nat, v7 = .int .i64 (j : Int) ∧ i ≤ j ∧ j ≤ s.size ∧ Hid (dropA (s.data.toList.drop j) = dropA (s.data.toList.drop i)) ∧ wx = w2') (fun v7 _ => s.size - (intOf v7).toNat)
              case atStart => exact ⟨i, rfl, Nat.le_refl _, hi, rfl, rfl⟩
              case round =>
                obtain ⟨j, rfl, hij, hj, hI, rfl⟩ := hrel
                by_cases hjp : j < s.size
                · obtain ⟨d, hd⟩ : ∃ d : UInt8, s[j]'hjp = d := ⟨_, rfl⟩
                  have hdj := drop_at hjp
                  rw [hd] at hdj
                  have jI : (0 : Int) ≤ (j : Int) := by omega
                  have jS : (j : Int) < (s.size : Int) := by omega
                  have qj : decide ((j : Int) < (s.size : Int)) = true := by simp; omega
                  cases hld : letR d.toNat with
                  | true =>
                    have HX2 : Hid (dropA (s.data.toList.drop (j + 1)) = dropA (s.data.toList.drop i)) := by have := hI.out; rw [hdj, dropA_step (by simp [amtB, hld])] at this; exact this
                    have HLd := (show Hid _ from letter_is hld)
                    have hlow := let_low hld
                    have HMic : Hid (∀ W, Calls Tryz.prog 27 #[.string s, .int .i64 (j : Int)] W fun e w' => e = .returned (.bool false) ∧ w' = W) := fun W => micro_low s j d W hjp hd hlow hs
                    clear hdj hI hld hlow
                    go_wp2_with fail
                    refine Calls.mono (HLd.out _) ?_
                    rintro x w3 ⟨rfl, rfl⟩
                    go_wp2_with fail
                    refine Calls.mono (HMic.out _) ?_
                    rintro x w3 ⟨rfl, rfl⟩
                    go_wp2
                    go_roundw
                    case rel => exact ⟨j + 1, by go_num, by omega, by omega, HX2, by first | rfl | trivial⟩
                    case measure => simp [intOf]; omega
                  | false =>
                    have HLd := (show Hid _ from letter_is hld)
                    cases hdd : digR d.toNat with
                    | true =>
                      have HX2 : Hid (dropA (s.data.toList.drop (j + 1)) = dropA (s.data.toList.drop i)) := by have := hI.out; rw [hdj, dropA_step (by simp [amtB, hdd])] at this; exact this
                      have HDd := (show Hid _ from digit_is hdd)
                      have hlow := dig_low hdd
                      have HMic : Hid (∀ W, Calls Tryz.prog 27 #[.string s, .int .i64 (j : Int)] W fun e w' => e = .returned (.bool false) ∧ w' = W) := fun W => micro_low s j d W hjp hd hlow hs
                      clear hdj hI hld hdd hlow
                      go_wp2_with fail
                      refine Calls.mono (HLd.out _) ?_
                      rintro x w3 ⟨rfl, rfl⟩
                      go_wp2_with fail
                      refine Calls.mono (HDd.out _) ?_
                      rintro x w3 ⟨rfl, rfl⟩
                      go_wp2_with fail
                      refine Calls.mono (HMic.out _) ?_
                      rintro x w3 ⟨rfl, rfl⟩
                      go_wp2
                      go_roundw
                      case rel => exact ⟨j + 1, by go_num, by omega, by omega, HX2, by first | rfl | trivial⟩
                      case measure => simp [intOf]; omega
                    | false =>
                      have HDd := (show Hid _ from digit_is hdd)
                      by_cases h46 : d.toNat = 46
                      · have HX2 : Hid (dropA (s.data.toList.drop (j + 1)) = dropA (s.data.toList.drop i)) := by have := hI.out; rw [hdj, dropA_step (by simp [amtB, h46])] at this; exact this
                        have HMic : Hid (∀ W, Calls Tryz.prog 27 #[.string s, .int .i64 (j : Int)] W fun e w' => e = .returned (.bool false) ∧ w' = W) := fun W => micro_low s j d W hjp hd (by omega) hs
                        have q46 : ((d.toNat : Int) == 46) = true := by simp; omega
                        clear hdj hI hld hdd h46
                        go_wp2_with fail
                        refine Calls.mono (HLd.out _) ?_
                        rintro x w3 ⟨rfl, rfl⟩
                        go_wp2_with fail
                        refine Calls.mono (HDd.out _) ?_
                        rintro x w3 ⟨rfl, rfl⟩
                        go_wp2_with fail
                        refine Calls.mono (HMic.out _) ?_
                        rintro x w3 ⟨rfl, rfl⟩
                        go_wp2
                        go_roundw
                        case rel => exact ⟨j + 1, by go_num, by omega, by omega, HX2, by first | rfl | trivial⟩
                        case measure => simp [intOf]; omega
                      · have ham : amtB d = false := by simp [amtB, hld, hdd, h46]
                        have q46 : ((d.toNat : Int) == 46) = false := by simp; omega
                        clear hld hdd h46
                        by_cases hj2 : j + 1 < s.size
                        · obtain ⟨d2, hd2⟩ : ∃ d2 : UInt8, s[j + 1]'hj2 = d2 := ⟨_, rfl⟩
                          have hdj2 := drop_at hj2
                          rw [hd2] at hdj2
                          rw [hdj2] at hdj
                          cases hmi : micB d d2 with
                          | true =>
                            have HX2 : Hid (dropA (s.data.toList.drop (j + 2)) = dropA (s.data.toList.drop i)) := by have := hI.out; rw [hdj, dropA_mic ham hmi] at this; exact this
                            have HMic : Hid (∀ W, Calls Tryz.prog 27 #[.string s, .int .i64 (j : Int)] W fun e w' => e = .returned (.bool true) ∧ w' = W) := fun W => by have := micro_two s j d d2 W hj2 hd hd2 hs; rw [hmi] at this; exact this
                            clear hdj hdj2 hI hmi ham hd2
                            go_wp2_with fail
                            refine Calls.mono (HLd.out _) ?_
                            rintro x w3 ⟨rfl, rfl⟩
                            go_wp2_with fail
                            refine Calls.mono (HDd.out _) ?_
                            rintro x w3 ⟨rfl, rfl⟩
                            go_wp2_with fail
                            refine Calls.mono (HMic.out _) ?_
                            rintro x w3 ⟨rfl, rfl⟩
                            go_wp2_with fail
                            refine Calls.mono (HMic.out _) ?_
                            rintro x w3 ⟨rfl, rfl⟩
                            go_wp2
                            go_roundw
                            case rel => exact ⟨j + 2, by go_num, by omega, by omega, HX2, by first | rfl | trivial⟩
                            case measure => simp [intOf]; omega
                          | false =>
                            have HX2 : Hid (s.data.toList.drop j = dropA (s.data.toList.drop i)) := by have := hI.out; rw [hdj, dropA_stop ham hmi] at this; show _ = _; rw [hdj]; exact this
                            have HMic : Hid (∀ W, Calls Tryz.prog 27 #[.string s, .int .i64 (j : Int)] W fun e w' => e = .returned (.bool false) ∧ w' = W) := fun W => by have := micro_two s j d d2 W hj2 hd hd2 hs; rw [hmi] at this; exact this
                            clear hdj hdj2 hI hmi ham hd2
                            as_aux_lemma =>
                              have sl := slice_at s i j hij hj _ (by rw [HX2.out])
                              have HJ : Hid (i < j) := by have h1 := HLT.out; have h2 := HTL.out; rw [← HX2.out] at h1; show _ < _; rw [List.length_drop, lenL] at h1; omega
                              obtain ⟨X, hX⟩ : ∃ X, X = ahead (s.data.toList.drop i) (dropA (s.data.toList.drop i)) := ⟨_, rfl⟩
                              rw [← hX] at sl
                              have HXE : Hid (X = ahead (s.data.toList.drop i) (dropA (s.data.toList.drop i))) := hX
                              have hXl : X.length ≤ 20000 := by rw [hX]; have := ahead_len2 (s.data.toList.drop i) (dropA (s.data.toList.drop i)); rw [List.length_drop, lenL] at this; omega
                              clear hX
                              by_cases hr : rdE X = 0
                              · have HQ := (show Hid _ from fun W => refQ X 0 W hXl hr)
                                have HX : Hid (lexW (dropA (s.data.toList.drop i)) n (ts ++ [⟨2, X, n⟩]) = (T, N, E)) := by have := HLX.out; rw [HD.out, lexW_ok (step_amount HDG.out (by rw [← HD.out, ← HXE.out]; exact hr)), ← HD.out, ← HXE.out] at this; exact this
                                clear hr
                                go_wp2_with fail
                                refine Calls.mono (HLd.out _) ?_
                                rintro x w3 ⟨rfl, rfl⟩
                                go_wp2_with fail
                                refine Calls.mono (HDd.out _) ?_
                                rintro x w3 ⟨rfl, rfl⟩
                                go_wp2_with fail
                                refine Calls.mono (HMic.out _) ?_
                                rintro x w3 ⟨rfl, rfl⟩
                                go_wp2_with fail
                                refine Calls.mono (HQ.out _) ?_
                                rintro x w5 ⟨rfl, hb5⟩
                                have HO2 : Hid (OwnT (w5.alloc (.cells #[.int .i64 (readL X mkQ).1, .int .i64 (readL X mkQ).2.1] 64)) w.heap.size (.slice ao m cap) ts) := HO.out.later (hb5.alloc hb5.size _)
                                have HB5 : Hid (Below w.heap.size w (w5.alloc (.cells #[.int .i64 (readL X mkQ).1, .int .i64 (readL X mkQ).2.1] 64))) := HB.out.trans ((hb5.alloc hb5.size _).mono HSZ.out)
                                have HSZ2 : Hid (w.heap.size ≤ w5.heap.size) := Nat.le_trans HSZ.out hb5.size
                                clear hb5
                                go_wp2_with (at_builtin; refine wpList_append_tok _ rfl (.tmp 137) (.tmp 144) rfl w.heap.size (.slice ao m cap) ts rfl (HO2.out.later ((Below.refl _ _).alloc (Nat.le_refl _) _)) (w5.heap.size + 1) ⟨2, X, n⟩ rfl (by go_simp) (by go_simp) (by go_simp) (by have := HL.out; omega) (by have := HSZ2.out; simp; omega) ?_; intro v' w6 hown1 hg)
                                go_roundw
                                case rel =>
                                  refine ⟨j, n, ts ++ [⟨2, X, n⟩], rfl, rfl, hj, by omega, by have := HN.out; omega, by have h1 := HL.out; have h2 := HJ.out; simp; omega, hown1, ?_, below_owns (HB5.out.alloc (by have := HSZ2.out; simp; omega) _) (HO2.out.later ((Below.refl _ _).alloc (Nat.le_refl _) _)) hg (by have := HSZ2.out; simp; omega)⟩
                                  rw [HX2.out]; exact HX
                                case measure => have := HJ.out; simp [intOf]; omega
                              · have HQ := (show Hid _ from fun W => refQ X (rdE X) W hXl rfl)
                                have HE3 : Hid (T = [] ∧ N = n ∧ E = rdE X) := by
                                  have := HLX.out
                                  rw [HD.out, lexW_err (by simp) (step_amountE HDG.out (by rw [← HD.out, ← HXE.out]; exact hr)), ← HD.out, ← HXE.out] at this
                                  simp only [Prod.mk.injEq] at this
                                  exact ⟨this.1.symm, this.2.1.symm, this.2.2.symm⟩
                                have hne : (rdE X != 0) = true := by simp [hr]
                                clear hr
                                go_wp2_with fail
                                refine Calls.mono (HLd.out _) ?_
                                rintro x w3 ⟨rfl, rfl⟩
                                go_wp2_with fail
                                refine Calls.mono (HDd.out _) ?_
                                rintro x w3 ⟨rfl, rfl⟩
                                go_wp2_with fail
                                refine Calls.mono (HMic.out _) ?_
                                rintro x w3 ⟨rfl, rfl⟩
                                go_wp2_with fail
                                refine Calls.mono (HQ.out _) ?_
                                rintro x w5 ⟨rfl, hb5⟩
                                have HB5 : Hid (Below w.heap.size w (w5.alloc (.cells #[.int .i64 (readL X mkQ).1, .int .i64 (readL X mkQ).2.1] 64))) := HB.out.trans ((hb5.alloc hb5.size _).mono HSZ.out)
                                clear hb5
                                go_wp2
                                go_ret3
                                obtain ⟨rfl, rfl, rfl⟩ := HE3.out
                                exact ⟨_, rfl, OwnT.nil _ _, HB5.out⟩
                        · have HX2 : Hid (s.data.toList.drop j = dropA (s.data.toList.drop i)) := by
                            have := hI.out
                            have h0 : s.data.toList.drop (j + 1) = [] := by rw [show j + 1 = s.size by omega]; exact drop_end s
                            rw [h0] at hdj
                            rw [hdj, dropA_last ham] at this; show _ = _; rw [hdj]; exact this
                          have HMic : Hid (∀ W, Calls Tryz.prog 27 #[.string s, .int .i64 (j : Int)] W fun e w' => e = .returned (.bool false) ∧ w' = W) := fun W => micro_end s j W hjp hj2 hs
                          clear hdj hI ham
                          as_aux_lemma =>
                            have sl := slice_at s i j hij hj _ (by rw [HX2.out])
                            have HJ : Hid (i < j) := by have h1 := HLT.out; have h2 := HTL.out; rw [← HX2.out] at h1; show _ < _; rw [List.length_drop, lenL] at h1; omega
                            obtain ⟨X, hX⟩ : ∃ X, X = ahead (s.data.toList.drop i) (dropA (s.data.toList.drop i)) := ⟨_, rfl⟩
                            rw [← hX] at sl
                            have HXE : Hid (X = ahead (s.data.toList.drop i) (dropA (s.data.toList.drop i))) := hX
                            have hXl : X.length ≤ 20000 := by rw [hX]; have := ahead_len2 (s.data.toList.drop i) (dropA (s.data.toList.drop i)); rw [List.length_drop, lenL] at this; omega
                            clear hX
                            by_cases hr : rdE X = 0
                            · have HQ := (show Hid _ from fun W => refQ X 0 W hXl hr)
                              have HX : Hid (lexW (dropA (s.data.toList.drop i)) n (ts ++ [⟨2, X, n⟩]) = (T, N, E)) := by have := HLX.out; rw [HD.out, lexW_ok (step_amount HDG.out (by rw [← HD.out, ← HXE.out]; exact hr)), ← HD.out, ← HXE.out] at this; exact this
                              clear hr
                              go_wp2_with fail
                              refine Calls.mono (HLd.out _) ?_
                              rintro x w3 ⟨rfl, rfl⟩
                              go_wp2_with fail
                              refine Calls.mono (HDd.out _) ?_
                              rintro x w3 ⟨rfl, rfl⟩
                              go_wp2_with fail
                              refine Calls.mono (HMic.out _) ?_
                              rintro x w3 ⟨rfl, rfl⟩
                              go_wp2_with fail
                              refine Calls.mono (HQ.out _) ?_
                              rintro x w5 ⟨rfl, hb5⟩
                              have HO2 : Hid (OwnT (w5.alloc (.cells #[.int .i64 (readL X mkQ).1, .int .i64 (readL X mkQ).2.1] 64)) w.heap.size (.slice ao m cap) ts) := HO.out.later (hb5.alloc hb5.size _)
                              have HB5 : Hid (Below w.heap.size w (w5.alloc (.cells #[.int .i64 (readL X mkQ).1, .int .i64 (readL X mkQ).2.1] 64))) := HB.out.trans ((hb5.alloc hb5.size _).mono HSZ.out)
                              have HSZ2 : Hid (w.heap.size ≤ w5.heap.size) := Nat.le_trans HSZ.out hb5.size
                              clear hb5
                              go_wp2_with (at_builtin; refine wpList_append_tok _ rfl (.tmp 137) (.tmp 144) rfl w.heap.size (.slice ao m cap) ts rfl (HO2.out.later ((Below.refl _ _).alloc (Nat.le_refl _) _)) (w5.heap.size + 1) ⟨2, X, n⟩ rfl (by go_simp) (by go_simp) (by go_simp) (by have := HL.out; omega) (by have := HSZ2.out; simp; omega) ?_; intro v' w6 hown1 hg)
                              go_roundw
                              case rel =>
                                refine ⟨j, n, ts ++ [⟨2, X, n⟩], rfl, rfl, hj, by omega, by have := HN.out; omega, by have h1 := HL.out; have h2 := HJ.out; simp; omega, hown1, ?_, below_owns (HB5.out.alloc (by have := HSZ2.out; simp; omega) _) (HO2.out.later ((Below.refl _ _).alloc (Nat.le_refl _) _)) hg (by have := HSZ2.out; simp; omega)⟩
                                rw [HX2.out]; exact HX
                              case measure => have := HJ.out; simp [intOf]; omega
                            · have HQ := (show Hid _ from fun W => refQ X (rdE X) W hXl rfl)
                              have HE3 : Hid (T = [] ∧ N = n ∧ E = rdE X) := by
                                have := HLX.out
                                rw [HD.out, lexW_err (by simp) (step_amountE HDG.out (by rw [← HD.out, ← HXE.out]; exact hr)), ← HD.out, ← HXE.out] at this
                                simp only [Prod.mk.injEq] at this
                                exact ⟨this.1.symm, this.2.1.symm, this.2.2.symm⟩
                              have hne : (rdE X != 0) = true := by simp [hr]
                              clear hr
                              go_wp2_with fail
                              refine Calls.mono (HLd.out _) ?_
                              rintro x w3 ⟨rfl, rfl⟩
                              go_wp2_with fail
                              refine Calls.mono (HDd.out _) ?_
                              rintro x w3 ⟨rfl, rfl⟩
                              go_wp2_with fail
                              refine Calls.mono (HMic.out _) ?_
                              rintro x w3 ⟨rfl, rfl⟩
                              go_wp2_with fail
                              refine Calls.mono (HQ.out _) ?_
                              rintro x w5 ⟨rfl, hb5⟩
                              have HB5 : Hid (Below w.heap.size w (w5.alloc (.cells #[.int .i64 (readL X mkQ).1, .int .i64 (readL X mkQ).2.1] 64))) := HB.out.trans ((hb5.alloc hb5.size _).mono HSZ.out)
                              clear hb5
                              go_wp2
                              go_ret3
                              obtain ⟨rfl, rfl, rfl⟩ := HE3.out
                              exact ⟨_, rfl, OwnT.nil _ _, HB5.out⟩
                · obtain rfl : j = s.size := by omega
                  have HX2 : Hid (dropA (s.data.toList.drop i) = []) := by have := hI.out; rw [drop_end] at this; exact this.symm
                  have qj : decide ((s.size : Int) < (s.size : Int)) = false := by simp
                  clear hI
                  as_aux_lemma =>
                    have sl := slice_at s i s.size hij hj _ (by rw [drop_end, ← HX2.out])
                    have HJ : Hid (i < s.size) := by have h1 := HLT.out; have h2 := HTL.out; show _ < _; omega
                    obtain ⟨X, hX⟩ : ∃ X, X = ahead (s.data.toList.drop i) (dropA (s.data.toList.drop i)) := ⟨_, rfl⟩
                    rw [← hX] at sl
                    have HXE : Hid (X = ahead (s.data.toList.drop i) (dropA (s.data.toList.drop i))) := hX
                    have hXl : X.length ≤ 20000 := by rw [hX]; have := ahead_len2 (s.data.toList.drop i) (dropA (s.data.toList.drop i)); rw [List.length_drop, lenL] at this; omega
                    clear hX
                    by_cases hr : rdE X = 0
                    · have HQ := (show Hid _ from fun W => refQ X 0 W hXl hr)
                      have HX : Hid (lexW (dropA (s.data.toList.drop i)) n (ts ++ [⟨2, X, n⟩]) = (T, N, E)) := by have := HLX.out; rw [HD.out, lexW_ok (step_amount HDG.out (by rw [← HD.out, ← HXE.out]; exact hr)), ← HD.out, ← HXE.out] at this; exact this
                      clear hr
                      go_wp2_with fail
                      refine Calls.mono (HQ.out _) ?_
                      rintro x w5 ⟨rfl, hb5⟩
                      have HO2 : Hid (OwnT (w5.alloc (.cells #[.int .i64 (readL X mkQ).1, .int .i64 (readL X mkQ).2.1] 64)) w.heap.size (.slice ao m cap) ts) := HO.out.later (hb5.alloc hb5.size _)
                      have HB5 : Hid (Below w.heap.size w (w5.alloc (.cells #[.int .i64 (readL X mkQ).1, .int .i64 (readL X mkQ).2.1] 64))) := HB.out.trans ((hb5.alloc hb5.size _).mono HSZ.out)
                      have HSZ2 : Hid (w.heap.size ≤ w5.heap.size) := Nat.le_trans HSZ.out hb5.size
                      clear hb5
                      go_wp2_with (at_builtin; refine wpList_append_tok _ rfl (.tmp 137) (.tmp 144) rfl w.heap.size (.slice ao m cap) ts rfl (HO2.out.later ((Below.refl _ _).alloc (Nat.le_refl _) _)) (w5.heap.size + 1) ⟨2, X, n⟩ rfl (by go_simp) (by go_simp) (by go_simp) (by have := HL.out; omega) (by have := HSZ2.out; simp; omega) ?_; intro v' w6 hown1 hg)
                      go_roundw
                      case rel =>
                        refine ⟨s.size, n, ts ++ [⟨2, X, n⟩], rfl, rfl, hj, by omega, by have := HN.out; omega, by have h1 := HL.out; have h2 := HJ.out; simp; omega, hown1, ?_, below_owns (HB5.out.alloc (by have := HSZ2.out; simp; omega) _) (HO2.out.later ((Below.refl _ _).alloc (Nat.le_refl _) _)) hg (by have := HSZ2.out; simp; omega)⟩
                        rw [drop_end, ← HX2.out]; exact HX
                      case measure => have := HJ.out; simp [intOf]; omega
                    · have HQ := (show Hid _ from fun W => refQ X (rdE X) W hXl rfl)
                      have HE3 : Hid (T = [] ∧ N = n ∧ E = rdE X) := by
                        have := HLX.out
                        rw [HD.out, lexW_err (by simp) (step_amountE HDG.out (by rw [← HD.out, ← HXE.out]; exact hr)), ← HD.out, ← HXE.out] at this
                        simp only [Prod.mk.injEq] at this
                        exact ⟨this.1.symm, this.2.1.symm, this.2.2.symm⟩
                      have hne : (rdE X != 0) = true := by simp [hr]
                      clear hr
                      go_wp2_with fail
                      refine Calls.mono (HQ.out _) ?_
                      rintro x w5 ⟨rfl, hb5⟩
                      have HB5 : Hid (Below w.heap.size w (w5.alloc (.cells #[.int .i64 (readL X mkQ).1, .int .i64 (readL X mkQ).2.1] 64))) := HB.out.trans ((hb5.alloc hb5.size _).mono HSZ.out)
                      clear hb5
                      go_wp2
                      go_ret3
                      obtain ⟨rfl, rfl, rfl⟩ := HE3.out
                      exact ⟨_, rfl, OwnT.nil _ _, HB5.out⟩
          | false =>
            have HDi := (show Hid _ from digit_is hdi)
            by_cases h34 : c = 34
            · have q34 : ((c.toNat : Int) == 34) = true := by rw [h34]; rfl
              have HLX : Hid (lexW (34 :: t) n ts = (T, N, E)) := by rw [h34] at hlx; exact hlx
              clear h10 h35 h34 hlx hle hdi
              as_aux_lemma =>
                go_wp2_with fail
                refine Calls.mono (HLe.out _) ?_
                rintro x w2 ⟨rfl, rfl⟩
                go_wp2_with fail
                refine Calls.mono (HDi.out _) ?_
                rintro x w2' ⟨rfl, rfl⟩
                go_wp2
                go_loopw [7] (fun v7 wx => ∃ j : Nat, v7 = .int .i64 (j : Int) ∧ i + 1 ≤ j ∧ j ≤ s.size ∧ Hid (upQ (s.data.toList.drop j) = upQ t) ∧ wx = w2') (fun v7 _ => s.size - (intOf v7).toNat)
                case atStart => exact ⟨i + 1, by go_num, Nat.le_refl _, by omega, by show _ = _; rw [HTT.out], rfl⟩
                case round =>
                  obtain ⟨j, rfl, hij, hj, hI, rfl⟩ := hrel
                  by_cases hjp : j < s.size
                  · obtain ⟨d, hd⟩ : ∃ d : UInt8, s[j]'hjp = d := ⟨_, rfl⟩
                    have hdj := drop_at hjp
                    rw [hd] at hdj
                    have jI : (0 : Int) ≤ (j : Int) := by omega
                    have jS : (j : Int) < (s.size : Int) := by omega
                    have qj : decide ((j : Int) < (s.size : Int)) = true := by simp; omega
                    by_cases hd34 : d = 34
                    · have HX2 : Hid (upQ t = 34 :: s.data.toList.drop (j + 1)) := by have := hI.out; rw [hdj, hd34, upQ_stop] at this; exact this.symm
                      have HX3 : Hid (s.data.toList.drop j = 34 :: s.data.toList.drop (j + 1)) := by show _ = _; rw [hdj, hd34]
                      have qd : ((d.toNat : Int) != 34) = false := by rw [hd34]; rfl
                      have qe : ((j : Int) == (s.size : Int)) = false := by simp; omega
                      have sl := slice_at s (i + 1) j hij hj _ (by rw [← HTT.out, HX3.out])
                      rw [show ((i + 1 : Nat) : Int) = (i : Int) + 1 by omega] at sl
                      obtain ⟨X, hX⟩ : ∃ X, X = ahead t (34 :: s.data.toList.drop (j + 1)) := ⟨_, rfl⟩
                      rw [← hX] at sl
                      have HXE : Hid (X = ahead t (34 :: s.data.toList.drop (j + 1))) := hX
                      have hXl : X.length ≤ 20000 := by rw [hX]; have := ahead_len2 t (34 :: s.data.toList.drop (j + 1)); rw [HTT.out, List.length_drop, lenL] at this; rw [HTT.out]; omega
                      clear hd34 hdj hI hX
                      cases hlb : labB X with
                      | false =>
                        have HLM : Hid (∀ W, Calls Tryz.prog 29 #[.string ⟨X.toArray⟩] W fun e w' => e = .returned (.bool false) ∧ w' = W) := fun W => labelMay_at X false W hXl hlb
                        have HE3 : Hid (T = [] ∧ N = n ∧ E = 1) := by
                          have := HLX.out
                          rw [lexW_err (by simp) (string_bad HX2.out (by rw [← HXE.out]; exact hlb))] at this
                          simp only [Prod.mk.injEq] at this
                          exact ⟨this.1.symm, this.2.1.symm, this.2.2.symm⟩
                        clear hlb
                        go_wp2_with fail
                        refine Calls.mono (HLM.out _) ?_
                        rintro x w3 ⟨rfl, rfl⟩
                        go_wp2
                        go_ret3
                        obtain ⟨rfl, rfl, rfl⟩ := HE3.out
                        exact ⟨_, rfl, OwnT.nil _ _, HB.out⟩
                      | true =>
                        have HLM : Hid (∀ W, Calls Tryz.prog 29 #[.string ⟨X.toArray⟩] W fun e w' => e = .returned (.bool true) ∧ w' = W) := fun W => labelMay_at X true W hXl hlb
                        have HX : Hid (lexW (s.data.toList.drop (j + 1)) n (ts ++ [⟨4, X, n⟩]) = (T, N, E)) := by
                          have := HLX.out
                          rw [lexW_ok (string_good HX2.out (by rw [← HXE.out]; exact hlb)), ← HXE.out] at this
                          exact this
                        clear hlb
                        go_wp2_with fail
                        refine Calls.mono (HLM.out _) ?_
                        rintro x w3 ⟨rfl, rfl⟩
                        have HO2 : Hid (OwnT w3 w.heap.size (.slice ao m cap) ts) := HO.out
                        have HSZ2 : Hid (w.heap.size ≤ w3.heap.size) := HSZ.out
                        go_wp2_with (at_builtin; refine wpList_append_tok _ rfl (.tmp 176) (.tmp 184) rfl w.heap.size (.slice ao m cap) ts rfl (HO2.out.later ((Below.refl _ _).alloc (Nat.le_refl _) _)) w3.heap.size ⟨4, X, n⟩ rfl (by go_simp) (by go_simp) (by go_simp) (by have := HL.out; omega) (by have := HSZ2.out; simp; omega) ?_; intro v' w6 hown1 hg)
                        go_roundw
                        case rel => exact ⟨j + 1, n, ts ++ [⟨4, X, n⟩], rfl, by go_num, by omega, by omega, by have := HN.out; omega, by have h1 := HL.out; simp; omega, hown1, HX, below_owns (HB.out.alloc HSZ2.out _) (HO2.out.later ((Below.refl _ _).alloc (Nat.le_refl _) _)) hg (by have := HSZ2.out; simp; omega)⟩
                        case measure => simp [intOf]; omega
                    · have HX2 : Hid (upQ (s.data.toList.drop (j + 1)) = upQ t) := by have := hI.out; rw [hdj, upQ_step hd34] at this; exact this
                      have qd : ((d.toNat : Int) != 34) = true := by have := nat_ne hd34; simp at this ⊢; omega
                      clear hd34 hdj hI
                      go_wp2
                      go_roundw
                      case rel => exact ⟨j + 1, by go_num, by omega, by omega, HX2, by first | rfl | trivial⟩
                      case measure => simp [intOf]; omega
                  · obtain rfl : j = s.size := by omega
                    have HE3 : Hid (T = [] ∧ N = n ∧ E = 1) := by
                      have := HLX.out
                      rw [lexW_err (by simp) (string_none (by rw [← hI.out, drop_end]; rfl))] at this
                      simp only [Prod.mk.injEq] at this
                      exact ⟨this.1.symm, this.2.1.symm, this.2.2.symm⟩
                    have qj : decide ((s.size : Int) < (s.size : Int)) = false := by simp
                    have qe : ((s.size : Int) == (s.size : Int)) = true := by simp
                    clear hI
                    go_wp2
                    go_ret3
                    obtain ⟨rfl, rfl, rfl⟩ := HE3.out
                    exact ⟨_, rfl, OwnT.nil _ _, HB.out⟩
            · have q34 : ((c.toNat : Int) == 34) = false := by have := nat_ne h34; simp at this ⊢; omega
              have HSB : Hid (signB c = true → lexW t n (ts ++ [⟨3, [c], n⟩]) = (T, N, E)) := fun h => by have := hlx.out; rw [lexW_ok (step_sign h)] at this; exact this
              have HSN : Hid (signB c = false → T = [] ∧ N = n ∧ E = 1) := fun h => by
                have := hlx.out
                rw [lexW_err (by simp) (step_none h10 HBL.out h35 hle hdi h34 h)] at this
                simp only [Prod.mk.injEq] at this
                exact ⟨this.1.symm, this.2.1.symm, this.2.2.symm⟩
              clear h10 h35 h34 hlx hle hdi
              as_aux_lemma =>
                go_wp2_with fail
                refine Calls.mono (HLe.out _) ?_
                rintro x w2 ⟨rfl, rfl⟩
                go_wp2_with fail
                refine Calls.mono (HDi.out _) ?_
                rintro x w2' ⟨rfl, rfl⟩
                go_wp2
                go_loopw [12, 14] (fun v12 v14 wx => ∃ j : Nat, v14 = .int .i64 (j : Int) ∧ v12 = .bool ((signL.take j).contains c) ∧ j ≤ 12 ∧ wx = w2') (fun _ v14 _ => 12 - (intOf v14).toNat)
                case atStart => exact ⟨0, rfl, rfl, by omega, rfl⟩
                case round =>
                  obtain ⟨j, rfl, rfl, hj, rfl⟩ := hrel
                  by_cases hjp : j < 12
                  · have hsx := sign_idx j hjp
                    have HST : Hid ((signL.take (j + 1)).contains c = ((signL.take j).contains c || signAt j == c)) := sign_take j hjp c
                    have qj : decide ((j : Int) < 12) = true := by simp; omega
                    cases hv : (signL.take j).contains c with
                    | true =>
                      rw [hv] at HST
                      clear hv
                      go_wp2
                      go_roundw
                      case rel => exact ⟨j + 1, by go_num, by rw [HST.out]; rfl, by omega, by first | rfl | trivial⟩
                      case measure => simp [intOf]; omega
                    | false =>
                      rw [hv] at HST
                      have hcmp := sign_cmp (signAt j) c
                      clear hv
                      go_wp2
                      go_roundw
                      case rel => exact ⟨j + 1, by go_num, by rw [HST.out]; simp, by omega, by first | rfl | trivial⟩
                      case measure => simp [intOf]; omega
                  · obtain rfl : j = 12 := by omega
                    rw [show (signL.take 12).contains c = signB c from rfl]
                    cases hsb : signB c with
                    | true =>
                      have HX := (show Hid _ from HSB.out hsb)
                      have sl := slice_at s i (i + 1) (by omega) (by omega) [c] (by rw [HD.out, ← HTT.out]; exact ahead_one c t)
                      rw [show ((i + 1 : Nat) : Int) = (i : Int) + 1 by omega] at sl
                      have HO2 : Hid (OwnT wr w.heap.size (.slice ao m cap) ts) := HO.out
                      have HSZ2 : Hid (w.heap.size ≤ wr.heap.size) := HSZ.out
                      clear hsb
                      go_wp2_with (at_builtin; refine wpList_append_tok _ rfl (.tmp 205) (.tmp 213) rfl w.heap.size (.slice ao m cap) ts rfl (HO2.out.later ((Below.refl _ _).alloc (Nat.le_refl _) _)) wr.heap.size ⟨3, [c], n⟩ rfl (by go_simp) (by go_simp) (by go_simp) (by have := HL.out; omega) (by have := HSZ2.out; simp; omega) ?_; intro v' w6 hown1 hg)
                      go_roundw
                      case rel => exact ⟨i + 1, n, ts ++ [⟨3, [c], n⟩], rfl, by go_num, by omega, by omega, by have := HN.out; omega, by have h1 := HL.out; simp; omega, hown1, by rw [← HTT.out]; exact HX.out, below_owns (HB.out.alloc HSZ2.out _) (HO2.out.later ((Below.refl _ _).alloc (Nat.le_refl _) _)) hg (by have := HSZ2.out; simp; omega)⟩
                      case measure => simp [intOf]; omega
                    | false =>
                      have HE3 := (show Hid _ from HSN.out hsb)
                      clear hsb
                      go_wp2
                      go_ret3
                      obtain ⟨rfl, rfl, rfl⟩ := HE3.out
                      exact ⟨_, rfl, OwnT.nil _ _, HB.out⟩
    · obtain rfl : i = s.size := by omega
      have HE3 : Hid (T = ts ∧ N = 0 ∧ E = 0) := by
        have := hlx.out
        rw [drop_end, lexW_nil] at this
        simp only [Prod.mk.injEq] at this
        exact ⟨this.1.symm, this.2.1.symm, this.2.2.symm⟩
      have qi : decide ((s.size : Int) < (s.size : Int)) = false := by simp
      clear hlx hp
      go_wp2
      go_ret3
      obtain ⟨rfl, rfl, rfl⟩ := HE3.out
      exact ⟨_, rfl, HO.out, HB.out⟩
theorem lexSource_any (u : List UInt8) (w : World) (T : List Tk) (N E : Int) (hres : lexR u = (T, N, E)) :
    Calls Tryz.prog 12 #[.string ⟨u.toArray⟩] w fun e w' => ∃ v, e = .returned (.tuple #[v, .int .i64 N, .int .i64 E]) ∧ OwnT w' w.heap.size v T ∧ Below w.heap.size w w' := by
  have hsz : (⟨u.toArray⟩ : ByteArray).size = u.length := by simp [ByteArray.size]
  unfold lexR at hres
  split at hres
  · rename_i h
    simp only [Prod.mk.injEq] at hres
    obtain ⟨rfl, rfl, rfl⟩ := hres
    exact (lexSource_big ⟨u.toArray⟩ w (by omega)).mono fun e w' ⟨he, hw⟩ => ⟨_, he, OwnT.nil _ _, hw ▸ Below.refl _ _⟩
  · exact lexSource_small ⟨u.toArray⟩ w (by omega) T N E hres
end Go.Proofs.YtpfpfnkagmmanaaGreatDoor
