/- The document's JoinTokens, walked. -/
import Derived.Test.YtpfpfnkagmmanaaGreatDoorRfL
import Derived.Test.YtpfpfnkagmmanaaGreatDoorSame
import Derived.Test.YtpfpfnkagmmanaaGreatDoorJnG
import Derived.Test.YtpfpfnkagmmanaaGreatDoorJnW
namespace Go.Proofs.YtpfpfnkagmmanaaGreatDoor
open Go.RowKit Go.Shelf

theorem cat_at (a b : List UInt8) : (⟨a.toArray⟩ : ByteArray) ++ ⟨b.toArray⟩ = ⟨(a ++ b).toArray⟩ := by
  apply ByteArray.ext
  rw [ByteArray.data_append]
  simp
theorem cat_feed (a : List UInt8) : (⟨a.toArray⟩ : ByteArray) ++ ⟨#[10]⟩ = ⟨(a ++ [10]).toArray⟩ := cat_at a [10]
theorem cat_blank (a : List UInt8) : (⟨a.toArray⟩ : ByteArray) ++ ⟨#[32]⟩ = ⟨(a ++ [32]).toArray⟩ := cat_at a [32]
theorem blank_len (acc : List UInt8) (P : Prop) [Decidable P] : (acc ++ (if P then [32] else [])).length ≤ acc.length + 1 := by
  rw [List.length_append]; split <;> simp
/-- What JoinTokens answers of a text. -/
theorem ref_joins {l : List Tk} {T : List Tk} {N E : Int} (ho : ordB 1 l = true) (hR : lexR (joinT true 1 l) = (T, N, E)) :
    (E ≠ 0 → Joins l [] 1) ∧ (E = 0 → T ≠ l → Joins l [] 1) ∧ (E = 0 → T = l → Joins l (joinT true 1 l) 0) ∧ (E = 0 → T.length ≤ 20000) := by
  refine ⟨fun hE => .inr ⟨ho, .inr ⟨fun ⟨h1, h2⟩ => hE ?_, rfl, rfl⟩⟩, fun hE hT => .inr ⟨ho, .inr ⟨fun ⟨h1, h2⟩ => hT ?_, rfl, rfl⟩⟩, fun hE hT => ?_, fun hE => ?_⟩
  · unfold lexR at hR
    rw [if_neg (by omega), h2] at hR
    simp only [Prod.mk.injEq] at hR
    exact hR.2.2.symm
  · unfold lexR at hR
    rw [if_neg (by omega), h2] at hR
    simp only [Prod.mk.injEq] at hR
    exact hR.1.symm
  · rcases lexR_good hR with ⟨h1, _⟩ | ⟨h1, h2, _⟩
    · exact absurd hE h1
    · unfold lexR at hR
      rw [if_neg (by omega), h2, hE, hT] at hR
      exact .inr ⟨ho, .inl ⟨⟨h1, hR⟩, rfl, rfl⟩⟩
  · rcases lexR_good hR with ⟨h1, _⟩ | ⟨_, _, _, _, _, h6, _⟩
    · exact absurd hE h1
    · exact h6
set_option maxHeartbeats 12800000 in
set_option maxRecDepth 100000 in
theorem refJoin_any (ao : Option Addr) (cap : Nat) (l : List Tk) (w : World) (hL : Tks w ao l) (hl : l.length ≤ 1048576) (ht : ∀ p ∈ l, p.t.length ≤ 1048576) :
    Calls Tryz.prog 5 #[.slice ao l.length cap] w fun e w' => ∃ s x, e = .returned (.tuple #[.string ⟨s.toArray⟩, .int .i64 x]) ∧ Joins l s x ∧ Below w.heap.size w w' := by
  have HL : Hid (Tks w ao l) := hL
  have HT : Hid (∀ p ∈ l, p.t.length ≤ 1048576) := ht
  obtain ⟨m, hm⟩ : ∃ m, m = l.length := ⟨_, rfl⟩
  have HM : Hid (m = l.length) := hm
  have H0 : Hid ([] ++ joinT (decide ((0 : Nat) = 0)) 1 (l.drop 0) = joinT true 1 l) := rfl
  have H1 : Hid (ordB 1 (l.drop 0) = ordB 1 l) := rfl
  rw [← hm] at hl ⊢
  clear hL ht hm
  go_enter Tryz.func5, Tryz.ntmps5
  go_wp2
  go_loopw [4, 5, 6] (fun v4 v5 v6 wr => ∃ (k : Nat) (n : Int) (acc : List UInt8), v6 = .int .i64 (k : Int) ∧ v5 = .int .i64 n ∧ v4 = .string ⟨acc.toArray⟩ ∧ k ≤ m ∧ 1 ≤ n ∧ n ≤ 10000 ∧ acc.length ≤ k * 1100000 ∧ Hid (acc ++ joinT (decide (k = 0)) n (l.drop k) = joinT true 1 l) ∧ Hid (ordB n (l.drop k) = ordB 1 l) ∧ wr = w) (fun _ _ v6 _ => m - (intOf v6).toNat)
  case atStart => exact ⟨0, 1, [], rfl, rfl, rfl, Nat.zero_le _, by omega, by omega, by simp, H0, H1, rfl⟩
  case round =>
    obtain ⟨k, n, acc, rfl, rfl, rfl, hk, hn1, hn2, hac, hI, hO, rfl⟩ := hrel
    obtain ⟨w0, hw0⟩ : ∃ w0, w0 = wr := ⟨_, rfl⟩
    by_cases hkm : k < m
    · have h1 : k < l.length := by rw [← HM.out]; exact hkm
      obtain ⟨b, off, rfl, _, c0, c1, c2⟩ := HL.out.at h1
      have hdr : l.drop k = l[k]'h1 :: l.drop (k + 1) := List.drop_eq_getElem_cons h1
      rw [hdr] at hI hO
      obtain ⟨p, hp⟩ : ∃ p, l[k]'h1 = p := ⟨_, rfl⟩
      have hmem : p ∈ l := by rw [← hp]; exact List.getElem_mem h1
      rw [hp] at hI hO c0 c1 c2
      have hpt := HT.out p hmem
      have k0 : (0 : Int) ≤ (k : Int) := by omega
      have k1 : (k : Int) < (m : Int) := by omega
      clear hp hdr hmem hw0
      by_cases hb1 : p.n < n
      · have HX : Hid (Joins l [] 15) := by have := hO.out; simp only [ordB] at this; rw [if_pos (.inl hb1)] at this; exact .inl ⟨this.symm, rfl, rfl⟩
        have q : decide (p.n < n) = true := by simp [hb1]
        clear hI hO hb1
        go_wp2
        go_ret2
        exact ⟨[], 15, rfl, HX.out, Below.refl _ _⟩
      have q : decide (p.n < n) = false := by simp; omega
      by_cases hb2 : 10000 < p.n
      · have HX : Hid (Joins l [] 15) := by have := hO.out; simp only [ordB] at this; rw [if_pos (.inr hb2)] at this; exact .inl ⟨this.symm, rfl, rfl⟩
        have q2 : decide (10000 < p.n) = true := by simp [hb2]
        clear hI hO hb1 hb2
        go_wp2
        go_ret2
        exact ⟨[], 15, rfl, HX.out, Below.refl _ _⟩
      have q2 : decide (10000 < p.n) = false := by simp; omega
      have HO2 : Hid (ordB p.n (l.drop (k + 1)) = ordB 1 l) := by have := hO.out; simp only [ordB] at this; rw [if_neg (by omega)] at this; exact this
      have hpn1 : n ≤ p.n := by omega
      have hpn2 : p.n ≤ 10000 := by omega
      clear hO hb1 hb2
      -- a blank, or none
      obtain ⟨acc1, hacc1, hlen1, hsep⟩ : ∃ acc1, acc1 = acc ++ (if 0 < k ∧ p.n = n then [32] else []) ∧ acc1.length ≤ k * 1100000 + 1 ∧ acc ++ sepT (decide (k = 0)) n p = acc1 ++ List.replicate (p.n - n).toNat 10 := by
        refine ⟨_, rfl, ?_, ?_⟩
        · exact Nat.le_trans (blank_len acc _) (Nat.add_le_add_right hac 1)
        · unfold sepT
          by_cases hn : n < p.n
          · rw [if_pos hn, if_neg (by omega)]; simp
          · rw [if_neg hn, show (p.n - n).toNat = 0 by omega]
            by_cases h0 : k = 0
            · rw [if_pos (by simp [h0]), if_neg (by omega)]; simp
            · rw [if_neg (by simp [h0]), if_pos ⟨by omega, by omega⟩]; simp
      have HJ : Hid (acc1 ++ List.replicate (p.n - n).toNat 10 ++ spl p ++ joinT (decide (k + 1 = 0)) p.n (l.drop (k + 1)) = joinT true 1 l) := by
        have := hI.out
        simp only [joinT] at this
        show _ = _
        rw [← hsep, ← this, show decide (k + 1 = 0) = false by simp]
        simp
      clear hsep hI
      by_cases hbl : 0 < k ∧ p.n = n
      · rw [if_pos hbl] at hacc1
        have q3 : decide ((0 : Int) < (k : Int)) = true := by simp; omega
        obtain ⟨_, hpe⟩ := hbl
        subst hpe
        have hcb := cat_blank acc
        rw [← hacc1] at hcb
        have z0 : ¬ 9223372036854775807 < acc.length + 1 := by omega
        clear hacc1
        go_wp2
        go_loopw [4, 5] (fun v4 v5 wx => ∃ c : Nat, v4 = .string ⟨(acc1 ++ List.replicate c 10).toArray⟩ ∧ v5 = .int .i64 (p.n + (c : Int)) ∧ p.n + (c : Int) ≤ p.n ∧ wx = wr) (fun _ v5 _ => (p.n - intOf v5).toNat)
        case atStart => exact ⟨0, by simp, by simp, by omega, rfl⟩
        case round =>
          obtain ⟨c, rfl, rfl, hc, rfl⟩ := hrel
          have hlc : (acc1 ++ List.replicate c (10 : UInt8)).length = acc1.length + c := by simp
          by_cases hlt : p.n + (c : Int) < p.n
          · exact absurd hlt (by omega)
          · have HCN : Hid (c = (p.n - p.n).toNat) := by show _ = _; omega
            have HPN : Hid (p.n + (c : Int) = p.n) := by show _ = _; omega
            have q4 : decide (p.n + (c : Int) < p.n) = false := by simp; omega
            have HJ2 : Hid (acc1 ++ List.replicate c 10 ++ spl p ++ joinT (decide (k + 1 = 0)) p.n (l.drop (k + 1)) = joinT true 1 l) := by show _ = _; rw [HCN.out]; exact HJ.out
            have hcl : c ≤ 10000 := by omega
            obtain ⟨Y, hY⟩ : ∃ Y : List UInt8, Y = acc1 ++ List.replicate c (10 : UInt8) := ⟨_, rfl⟩
            rw [← hY] at hlc HJ2 ⊢
            have hYl : Y.length ≤ k * 1100000 + 10001 := by omega
            clear hY hlt hlc
            by_cases hk4 : p.k = 4
            · have HSP : Hid (spl p = [34] ++ p.t ++ [34]) := if_pos hk4
              have q5 : (p.k == 4) = true := by simp [hk4]
              have hcq := cat_quotes p.t
              have hct := cat_at Y ([34] ++ p.t ++ [34])
              have z1 : ¬ 9223372036854775807 < 1 + p.t.length := by omega
              have z2 : ¬ 9223372036854775807 < 1 + p.t.length + 1 := by omega
              have z3 : ¬ 9223372036854775807 < Y.length + (1 + p.t.length + 1) := by omega
              have z4 : ¬ 9223372036854775807 < Y.length + (p.t.length + 1 + 1) := by omega
              have hzl : ([34] ++ p.t ++ [34] : List UInt8).length = p.t.length + 2 := by simp
              clear hk4
              go_wp2
              go_roundw
              case rel =>
                refine ⟨k + 1, p.n, Y ++ spl p, by go_num, by rw [HPN.out], ?_, by omega, by omega, by omega, by rw [HSP.out, List.length_append, hzl]; omega, HJ2, HO2, by first | rfl | trivial⟩
                rw [HSP.out, cat_at]; simp
              case measure => simp [intOf]; omega
            · have HSP : Hid (spl p = p.t) := if_neg hk4
              have q5 : (p.k == 4) = false := by simp [hk4]
              have hct := cat_at Y p.t
              have z3 : ¬ 9223372036854775807 < Y.length + p.t.length := by omega
              clear hk4
              go_wp2
              go_roundw
              case rel =>
                refine ⟨k + 1, p.n, Y ++ spl p, by go_num, by rw [HPN.out], ?_, by omega, by omega, by omega, by rw [HSP.out, List.length_append]; omega, HJ2, HO2, by first | rfl | trivial⟩
                rw [HSP.out, ← hct]
              case measure => simp [intOf]; omega
      · rw [if_neg hbl, List.append_nil] at hacc1
        subst hacc1
        by_cases hk0 : 0 < k
        · have q3 : decide ((0 : Int) < (k : Int)) = true := by simp; omega
          have q3' : (p.n == n) = false := by simp; omega
          clear hbl
          go_wp2
          go_loopw [4, 5] (fun v4 v5 wx => ∃ c : Nat, v4 = .string ⟨(acc1 ++ List.replicate c 10).toArray⟩ ∧ v5 = .int .i64 (n + (c : Int)) ∧ n + (c : Int) ≤ p.n ∧ wx = wr) (fun _ v5 _ => (p.n - intOf v5).toNat)
          case atStart => exact ⟨0, by simp, by simp, by omega, rfl⟩
          case round =>
            obtain ⟨c, rfl, rfl, hc, rfl⟩ := hrel
            have hlc : (acc1 ++ List.replicate c (10 : UInt8)).length = acc1.length + c := by simp
            by_cases hlt : n + (c : Int) < p.n
            · have HF : Hid (acc1 ++ List.replicate (c + 1) (10 : UInt8) = acc1 ++ List.replicate c 10 ++ [10]) := by show _ = _; rw [List.replicate_succ']; simp
              have q4 : decide (n + (c : Int) < p.n) = true := by simp [hlt]
              obtain ⟨Y, hY⟩ : ∃ Y : List UInt8, Y = acc1 ++ List.replicate c (10 : UInt8) := ⟨_, rfl⟩
              rw [← hY] at hlc HF ⊢
              have hcf := cat_feed Y
              have z1 : ¬ 9223372036854775807 < Y.length + 1 := by omega
              clear hY hlc
              go_wp2
              go_roundw
              case rel => exact ⟨c + 1, by rw [HF.out], by go_num, by omega, by first | rfl | trivial⟩
              case measure => simp [intOf]; omega
            · have HCN : Hid (c = (p.n - n).toNat) := by show _ = _; omega
              have HPN : Hid (n + (c : Int) = p.n) := by show _ = _; omega
              have q4 : decide (n + (c : Int) < p.n) = false := by simp; omega
              have HJ2 : Hid (acc1 ++ List.replicate c 10 ++ spl p ++ joinT (decide (k + 1 = 0)) p.n (l.drop (k + 1)) = joinT true 1 l) := by show _ = _; rw [HCN.out]; exact HJ.out
              have hcl : c ≤ 10000 := by omega
              obtain ⟨Y, hY⟩ : ∃ Y : List UInt8, Y = acc1 ++ List.replicate c (10 : UInt8) := ⟨_, rfl⟩
              rw [← hY] at hlc HJ2 ⊢
              have hYl : Y.length ≤ k * 1100000 + 10001 := by omega
              clear hY hlt hlc
              by_cases hk4 : p.k = 4
              · have HSP : Hid (spl p = [34] ++ p.t ++ [34]) := if_pos hk4
                have q5 : (p.k == 4) = true := by simp [hk4]
                have hcq := cat_quotes p.t
                have hct := cat_at Y ([34] ++ p.t ++ [34])
                have z1 : ¬ 9223372036854775807 < 1 + p.t.length := by omega
                have z2 : ¬ 9223372036854775807 < 1 + p.t.length + 1 := by omega
                have z3 : ¬ 9223372036854775807 < Y.length + (1 + p.t.length + 1) := by omega
                have z4 : ¬ 9223372036854775807 < Y.length + (p.t.length + 1 + 1) := by omega
                have hzl : ([34] ++ p.t ++ [34] : List UInt8).length = p.t.length + 2 := by simp
                clear hk4
                go_wp2
                go_roundw
                case rel =>
                  refine ⟨k + 1, p.n, Y ++ spl p, by go_num, by rw [HPN.out], ?_, by omega, by omega, by omega, by rw [HSP.out, List.length_append, hzl]; omega, HJ2, HO2, by first | rfl | trivial⟩
                  rw [HSP.out, cat_at]; simp
                case measure => simp [intOf]; omega
              · have HSP : Hid (spl p = p.t) := if_neg hk4
                have q5 : (p.k == 4) = false := by simp [hk4]
                have hct := cat_at Y p.t
                have z3 : ¬ 9223372036854775807 < Y.length + p.t.length := by omega
                clear hk4
                go_wp2
                go_roundw
                case rel =>
                  refine ⟨k + 1, p.n, Y ++ spl p, by go_num, by rw [HPN.out], ?_, by omega, by omega, by omega, by rw [HSP.out, List.length_append]; omega, HJ2, HO2, by first | rfl | trivial⟩
                  rw [HSP.out, ← hct]
                case measure => simp [intOf]; omega
        · have q3 : decide ((0 : Int) < (k : Int)) = false := by simp; omega
          clear hbl
          go_wp2
          go_loopw [4, 5] (fun v4 v5 wx => ∃ c : Nat, v4 = .string ⟨(acc1 ++ List.replicate c 10).toArray⟩ ∧ v5 = .int .i64 (n + (c : Int)) ∧ n + (c : Int) ≤ p.n ∧ wx = wr) (fun _ v5 _ => (p.n - intOf v5).toNat)
          case atStart => exact ⟨0, by simp, by simp, by omega, rfl⟩
          case round =>
            obtain ⟨c, rfl, rfl, hc, rfl⟩ := hrel
            have hlc : (acc1 ++ List.replicate c (10 : UInt8)).length = acc1.length + c := by simp
            by_cases hlt : n + (c : Int) < p.n
            · have HF : Hid (acc1 ++ List.replicate (c + 1) (10 : UInt8) = acc1 ++ List.replicate c 10 ++ [10]) := by show _ = _; rw [List.replicate_succ']; simp
              have q4 : decide (n + (c : Int) < p.n) = true := by simp [hlt]
              obtain ⟨Y, hY⟩ : ∃ Y : List UInt8, Y = acc1 ++ List.replicate c (10 : UInt8) := ⟨_, rfl⟩
              rw [← hY] at hlc HF ⊢
              have hcf := cat_feed Y
              have z1 : ¬ 9223372036854775807 < Y.length + 1 := by omega
              clear hY hlc
              go_wp2
              go_roundw
              case rel => exact ⟨c + 1, by rw [HF.out], by go_num, by omega, by first | rfl | trivial⟩
              case measure => simp [intOf]; omega
            · have HCN : Hid (c = (p.n - n).toNat) := by show _ = _; omega
              have HPN : Hid (n + (c : Int) = p.n) := by show _ = _; omega
              have q4 : decide (n + (c : Int) < p.n) = false := by simp; omega
              have HJ2 : Hid (acc1 ++ List.replicate c 10 ++ spl p ++ joinT (decide (k + 1 = 0)) p.n (l.drop (k + 1)) = joinT true 1 l) := by show _ = _; rw [HCN.out]; exact HJ.out
              have hcl : c ≤ 10000 := by omega
              obtain ⟨Y, hY⟩ : ∃ Y : List UInt8, Y = acc1 ++ List.replicate c (10 : UInt8) := ⟨_, rfl⟩
              rw [← hY] at hlc HJ2 ⊢
              have hYl : Y.length ≤ k * 1100000 + 10001 := by omega
              clear hY hlt hlc
              by_cases hk4 : p.k = 4
              · have HSP : Hid (spl p = [34] ++ p.t ++ [34]) := if_pos hk4
                have q5 : (p.k == 4) = true := by simp [hk4]
                have hcq := cat_quotes p.t
                have hct := cat_at Y ([34] ++ p.t ++ [34])
                have z1 : ¬ 9223372036854775807 < 1 + p.t.length := by omega
                have z2 : ¬ 9223372036854775807 < 1 + p.t.length + 1 := by omega
                have z3 : ¬ 9223372036854775807 < Y.length + (1 + p.t.length + 1) := by omega
                have z4 : ¬ 9223372036854775807 < Y.length + (p.t.length + 1 + 1) := by omega
                have hzl : ([34] ++ p.t ++ [34] : List UInt8).length = p.t.length + 2 := by simp
                clear hk4
                go_wp2
                go_roundw
                case rel =>
                  refine ⟨k + 1, p.n, Y ++ spl p, by go_num, by rw [HPN.out], ?_, by omega, by omega, by omega, by rw [HSP.out, List.length_append, hzl]; omega, HJ2, HO2, by first | rfl | trivial⟩
                  rw [HSP.out, cat_at]; simp
                case measure => simp [intOf]; omega
              · have HSP : Hid (spl p = p.t) := if_neg hk4
                have q5 : (p.k == 4) = false := by simp [hk4]
                have hct := cat_at Y p.t
                have z3 : ¬ 9223372036854775807 < Y.length + p.t.length := by omega
                clear hk4
                go_wp2
                go_roundw
                case rel =>
                  refine ⟨k + 1, p.n, Y ++ spl p, by go_num, by rw [HPN.out], ?_, by omega, by omega, by omega, by rw [HSP.out, List.length_append]; omega, HJ2, HO2, by first | rfl | trivial⟩
                  rw [HSP.out, ← hct]
                case measure => simp [intOf]; omega
    · obtain rfl : k = m := by omega
      have HAC : Hid (acc = joinT true 1 l) := by
        have := hI.out
        rw [List.drop_eq_nil_of_le (by rw [← HM.out]; exact Nat.le_refl _)] at this
        show _ = _
        simpa [joinT] using this
      have HOR : Hid (ordB 1 l = true) := by
        have := hO.out
        rw [List.drop_eq_nil_of_le (by rw [← HM.out]; exact Nat.le_refl _)] at this
        exact this.symm
      obtain ⟨T, N, E, hres⟩ : ∃ T N E, lexR acc = (T, N, E) := ⟨_, _, _, rfl⟩
      have HLX := (show Hid _ from lexSource_any acc wr T N E hres)
      rw [HAC.out] at hres
      obtain ⟨j1, j2, j3, j4⟩ := ref_joins HOR.out hres
      rw [← HAC.out] at j3
      have J1 : Hid (E ≠ 0 → Joins l [] 1) := j1
      have J2 : Hid (E = 0 → T ≠ l → Joins l [] 1) := j2
      have J3 : Hid (E = 0 → T = l → Joins l acc 0) := j3
      have J4 : Hid (E = 0 → T.length ≤ 20000) := j4
      have qk : decide ((k : Int) < (k : Int)) = false := by simp
      clear hI hO hres j1 j2 j3 j4 hw0
      go_wp2_with fail
      refine Calls.mono HLX.out ?_
      rintro x w1 ⟨v, rfl, hv, hb1⟩
      have HB1 : Hid (Below wr.heap.size wr w1) := hb1
      obtain ⟨a1, c1, rfl, hk1⟩ := hv.tks
      have HK1 : Hid (Tks w1 a1 T) := hk1
      obtain ⟨m1, hm1⟩ : ∃ m1, m1 = T.length := ⟨_, rfl⟩
      have HM1 : Hid (m1 = T.length) := hm1
      rw [← hm1]
      clear hb1 hv hk1 hm1
      by_cases hE : E = 0
      · subst hE
        have J5 : Hid (T.length ≤ 4398046511104) := by have := J4.out rfl; show _ ≤ _; omega
        have J6 : Hid (T ≠ l → Joins l [] 1) := J2.out rfl
        have J7 : Hid (T = l → Joins l acc 0) := J3.out rfl
        clear J1 J2 J3 J4
        go_wp2_with fail
        rw [HM1.out, HM.out]
        refine Calls.mono (same_any a1 ao c1 cap T l w1 HK1.out (HL.out.next HB1.out) J5.out) ?_
        rintro x w2 ⟨r, rfl, hr, hb2⟩
        have HB2 : Hid (Below wr.heap.size wr w2) := below_on HB1.out hb2
        cases r with
        | true =>
          have HX : Hid (Joins l acc 0) := J7.out (hr.1 rfl)
          clear hr hb2
          go_wp2
          go_ret2
          exact ⟨acc, 0, rfl, HX.out, HB2.out⟩
        | false =>
          have HX : Hid (Joins l [] 1) := J6.out (fun e => by have := hr.2 e; cases this)
          clear hr hb2
          go_wp2
          go_ret2
          exact ⟨[], 1, rfl, HX.out, HB2.out⟩
      · have HX : Hid (Joins l [] 1) := J1.out hE
        have q : (E != 0) = true := by simp [hE]
        clear hE
        go_wp2
        go_ret2
        exact ⟨[], 1, rfl, HX.out, HB1.out⟩
end Go.Proofs.YtpfpfnkagmmanaaGreatDoor
