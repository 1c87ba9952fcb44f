/- The document's answer for Fit: CurveFit walked. -/
import Derived.Test.YteamcgoemgailaaFit
import Derived.Test.YteamcgoemgailaaFitR
import Derived.Deep.LoopGhost
namespace Go.Proofs.Yteamcgoemgailaa
open Go.RowKit

set_option maxHeartbeats 3200000 in
theorem refFit_many (ao : Option Addr) (cap : Nat) (l : List Kn) (w : World) (hm : 50 < l.length) (hl : l.length ≤ 9223372036854775807) :
    Calls Try.prog 16 #[.slice ao l.length cap] w fun e w' => ∃ v r C, e = ansF v r ∧ FitIs l r C ∧ IsCopy C v w' ∧ Below w.heap.size w w' := by
  have HR : Hid (FitIs l 7 []) := .inl ⟨hm, rfl, rfl⟩
  go_enter Try.func16, Try.ntmps16
  go_wp2
  go_ret2
  exact ⟨_, _, _, rfl, HR.out, copy_nil _, Below.refl _ _⟩
theorem Kns.fresh (w : World) (k : Kn) : Kns (w.alloc (ko k)) (some ⟨w.heap.size, 0, none⟩) [k] := Kns.single (by simp) (by go_simp) (by go_simp)
/-- What holds at the outer loop's head. -/
def RfI (w : World) (R : List Kn) (k : Nat) (s5 : Value) (wr : World) : Prop :=
  ∃ C ao5 cap5, C = climb [z0] (R.take k) ∧ s5 = .slice ao5 C.length cap5 ∧ OwnK wr w.heap.size (.slice ao5 C.length cap5) C ∧ Below w.heap.size w wr
set_option maxHeartbeats 12800000 in
set_option maxRecDepth 100000 in
theorem refFit_out (ao : Option Addr) (cap : Nat) (l : List Kn) (w : World) (hL : Kns w ao l) (h50 : l.length ≤ 50) (ho : l.any outK = true) :
    Calls Try.prog 16 #[.slice ao l.length cap] w fun e w' => ∃ v r C, e = ansF v r ∧ FitIs l r C ∧ IsCopy C v w' ∧ Below w.heap.size w w' := by
  have HL : Hid (Kns w ao l) := hL
  have HA1 : Hid (l.any outK = true) := ho
  clear hL ho
  go_enter Try.func16, Try.ntmps16
  go_wp2
  go_loopw [4] (fun i wr => ∃ k : Nat, k ≤ l.length ∧ i = .int .i64 k ∧ (∀ b ∈ l.take k, outK b = false) ∧ Below w.heap.size w wr) (fun i _ => l.length - (intOf i).toNat)
  case atStart => exact ⟨0, Nat.zero_le _, rfl, (fun f hf => by simp at hf), Below.refl _ _⟩
  case round =>
    obtain ⟨k, hk, rfl, hok, hb⟩ := hrel
    obtain ⟨w1, rfl⟩ : ∃ w1, w1 = wr := ⟨_, rfl⟩
    have HB : Hid (Below w.heap.size w w1) := hb
    have HO : Hid (∀ b ∈ l.take k, outK b = false) := hok
    clear hok hb
    by_cases hlt : k < l.length
    · obtain ⟨b, off, rfl, hbx⟩ := (HL.out.next HB.out).at hlt
      have HHit : Hid (outK (l[k]'hlt) = true → FitIs l 2 []) := fun h => .inr (.inl ⟨h50, by rw [List.any_eq_true]; exact ⟨_, List.getElem_mem hlt, h⟩, rfl, rfl⟩)
      have HMiss : Hid (outK (l[k]'hlt) = false → ∀ b ∈ l.take (k + 1), outK b = false) := take_succ_all hlt HO.out
      generalize l[k]'hlt = a at *
      obtain ⟨_, c0, c1⟩ := hbx
      obtain ⟨v, s⟩ := a
      simp only at c0 c1
      by_cases hv : 0 ≤ v ∧ v ≤ 1000000000
      · have HV : Hid ((decide ((0 : Int) ≤ v) && decide (v ≤ 1000000000)) = true) := by show _ = true; simp [hv.1, hv.2]
        by_cases hs : 0 ≤ s ∧ s ≤ 1000000000
        · have HS : Hid ((decide ((0 : Int) ≤ s) && decide (s ≤ 1000000000)) = true) := by show _ = true; simp [hs.1, hs.2]
          go_wp2_with fail
          refine (within_r v 0 1000000000 true HV.out w1).mono ?_
          rintro e w2 ⟨rfl, rfl⟩
          go_wp2_with fail
          refine (within_r s 0 1000000000 true HS.out w2).mono ?_
          rintro e w1 ⟨rfl, rfl⟩
          go_wp2
          go_roundw
          case rel => exact ⟨k + 1, by omega, by go_num, HMiss.out (outK_no.2 ⟨hv, hs⟩), HB.out⟩
          case measure => simp [intOf]; omega
        · have HS : Hid ((decide ((0 : Int) ≤ s) && decide (s ≤ 1000000000)) = false) := by
            show _ = false
            rw [Bool.and_eq_false_iff, decide_eq_false_iff_not, decide_eq_false_iff_not]; omega
          have HF : Hid (FitIs l 2 []) := HHit.out (by
            cases h : outK ⟨v, s⟩ with
            | true => rfl
            | false => exact absurd (outK_no.1 h).2 hs)
          clear hs
          go_wp2_with fail
          refine (within_r v 0 1000000000 true HV.out w1).mono ?_
          rintro e w2 ⟨rfl, rfl⟩
          go_wp2_with fail
          refine (within_r s 0 1000000000 false HS.out w2).mono ?_
          rintro e w1 ⟨rfl, rfl⟩
          go_wp2
          go_ret2
          exact ⟨_, _, _, rfl, HF.out, copy_nil _, HB.out⟩
      · have HV : Hid ((decide ((0 : Int) ≤ v) && decide (v ≤ 1000000000)) = false) := by
          show _ = false
          rw [Bool.and_eq_false_iff, decide_eq_false_iff_not, decide_eq_false_iff_not]; omega
        have HF : Hid (FitIs l 2 []) := HHit.out (by
          cases h : outK ⟨v, s⟩ with
          | true => rfl
          | false => exact absurd (outK_no.1 h).1 hv)
        clear hv
        go_wp2_with fail
        refine (within_r v 0 1000000000 false HV.out w1).mono ?_
        rintro e w2 ⟨rfl, rfl⟩
        go_wp2
        go_ret2
        exact ⟨_, _, _, rfl, HF.out, copy_nil _, HB.out⟩
    · exfalso
      have h := HA1.out
      rw [List.any_eq_true] at h
      obtain ⟨x, hx, e⟩ := h
      have := HO.out x (by rw [List.take_of_length_le (by omega)]; exact hx)
      rw [this] at e
      cases e
set_option maxHeartbeats 12800000 in
set_option maxRecDepth 100000 in
theorem refFit_in (ao : Option Addr) (cap : Nat) (l R : List Kn) (w : World) (hL : Kns w ao l) (h50 : l.length ≤ 50) (hR : PMeans l R) (hRl : R.length ≤ 50) :
    Calls Try.prog 16 #[.slice ao l.length cap] w fun e w' => ∃ v r C, e = ansF v r ∧ FitIs l r C ∧ IsCopy C v w' ∧ Below w.heap.size w w' := by
  have HL : Hid (Kns w ao l) := hL
  have HR : Hid (PMeans l R) := hR
  clear hL hR
  go_enter Try.func16, Try.ntmps16
  go_wp2
  go_loopw [4] (fun i wr => ∃ k : Nat, k ≤ l.length ∧ i = .int .i64 k ∧ (∀ b ∈ l.take k, outK b = false) ∧ Below w.heap.size w wr) (fun i _ => l.length - (intOf i).toNat)
  case atStart => exact ⟨0, Nat.zero_le _, rfl, (fun f hf => by simp at hf), Below.refl _ _⟩
  case round =>
    obtain ⟨k, hk, rfl, hok, hb⟩ := hrel
    obtain ⟨w1, rfl⟩ : ∃ w1, w1 = wr := ⟨_, rfl⟩
    have HB : Hid (Below w.heap.size w w1) := hb
    have HO : Hid (∀ b ∈ l.take k, outK b = false) := hok
    clear hok hb
    by_cases hlt : k < l.length
    · obtain ⟨b, off, rfl, hbx⟩ := (HL.out.next HB.out).at hlt
      have HHit : Hid (outK (l[k]'hlt) = true → FitIs l 2 []) := fun h => .inr (.inl ⟨h50, by rw [List.any_eq_true]; exact ⟨_, List.getElem_mem hlt, h⟩, rfl, rfl⟩)
      have HMiss : Hid (outK (l[k]'hlt) = false → ∀ b ∈ l.take (k + 1), outK b = false) := take_succ_all hlt HO.out
      generalize l[k]'hlt = a at *
      obtain ⟨_, c0, c1⟩ := hbx
      obtain ⟨v, s⟩ := a
      simp only at c0 c1
      by_cases hv : 0 ≤ v ∧ v ≤ 1000000000
      · have HV : Hid ((decide ((0 : Int) ≤ v) && decide (v ≤ 1000000000)) = true) := by show _ = true; simp [hv.1, hv.2]
        by_cases hs : 0 ≤ s ∧ s ≤ 1000000000
        · have HS : Hid ((decide ((0 : Int) ≤ s) && decide (s ≤ 1000000000)) = true) := by show _ = true; simp [hs.1, hs.2]
          go_wp2_with fail
          refine (within_r v 0 1000000000 true HV.out w1).mono ?_
          rintro e w2 ⟨rfl, rfl⟩
          go_wp2_with fail
          refine (within_r s 0 1000000000 true HS.out w2).mono ?_
          rintro e w1 ⟨rfl, rfl⟩
          go_wp2
          go_roundw
          case rel => exact ⟨k + 1, by omega, by go_num, HMiss.out (outK_no.2 ⟨hv, hs⟩), HB.out⟩
          case measure => simp [intOf]; omega
        · have HS : Hid ((decide ((0 : Int) ≤ s) && decide (s ≤ 1000000000)) = false) := by
            show _ = false
            rw [Bool.and_eq_false_iff, decide_eq_false_iff_not, decide_eq_false_iff_not]; omega
          have HF : Hid (FitIs l 2 []) := HHit.out (by
            cases h : outK ⟨v, s⟩ with
            | true => rfl
            | false => exact absurd (outK_no.1 h).2 hs)
          clear hs
          go_wp2_with fail
          refine (within_r v 0 1000000000 true HV.out w1).mono ?_
          rintro e w2 ⟨rfl, rfl⟩
          go_wp2_with fail
          refine (within_r s 0 1000000000 false HS.out w2).mono ?_
          rintro e w1 ⟨rfl, rfl⟩
          go_wp2
          go_ret2
          exact ⟨_, _, _, rfl, HF.out, copy_nil _, HB.out⟩
      · have HV : Hid ((decide ((0 : Int) ≤ v) && decide (v ≤ 1000000000)) = false) := by
          show _ = false
          rw [Bool.and_eq_false_iff, decide_eq_false_iff_not, decide_eq_false_iff_not]; omega
        have HF : Hid (FitIs l 2 []) := HHit.out (by
          cases h : outK ⟨v, s⟩ with
          | true => rfl
          | false => exact absurd (outK_no.1 h).1 hv)
        clear hv
        go_wp2_with fail
        refine (within_r v 0 1000000000 false HV.out w1).mono ?_
        rintro e w2 ⟨rfl, rfl⟩
        go_wp2
        go_ret2
        exact ⟨_, _, _, rfl, HF.out, copy_nil _, HB.out⟩
    · have HA : Hid (l.any outK = false) := by
        show _ = false
        rw [List.any_eq_false]
        intro b hb
        have := HO.out b (by rw [List.take_of_length_le (by omega)]; exact hb)
        simp [this]
      have HOM : Hid (∀ k ∈ l, outK k = false) := out_mem HA.out
      clear HO
      go_wp2
      clear hlt hk
      go_loopg [5, 6, 7, 8, 9, 10, 11, 12] (R.length) (fun gk s5 s6 _ _ _ _ _ _ wr => ∃ k : Nat, k + gk = R.length ∧ s6 = .int .i64 (lastV R k) ∧ Hid (RfI w R k s5 wr))
      case atStart => exact ⟨0, by omega, rfl, [z0], _, _, rfl, rfl, own_one w1 _ z0 HB.out.size, below_on HB.out ((Below.refl _ _).alloc (Nat.le_refl _) _)⟩
      case round =>
        obtain ⟨kk, hkg, rfl, hI⟩ := hrel
        obtain ⟨C, ao5, cap5, hC, rfl, hO, hb⟩ := hI.out
        have HC : Hid (C = climb [z0] (R.take kk)) := hC
        have HCp : Hid (0 < C.length) := by show 0 < C.length; rw [hC]; exact climb_pos _ (by simp)
        have hCl : C.length ≤ 51 := by
          have := climb_length (R.take kk) [z0]
          rw [← hC] at this
          have h3 : (R.take kk).length ≤ R.length := by rw [List.length_take]; omega
          simp only [List.length_cons, List.length_nil] at this
          omega
        obtain ⟨w2, hw2⟩ : ∃ w2, w2 = wr := ⟨_, rfl⟩
        rw [← hw2] at hO hb ⊢
        have HO2 : Hid (OwnK w2 w.heap.size (.slice ao5 C.length cap5) C) := hO
        have HB2 : Hid (Below w.heap.size w w2) := hb
        obtain ⟨L, hLL⟩ : ∃ L, L = lastV R kk := ⟨_, rfl⟩
        have HLL : Hid (L = lastV R kk) := hLL
        have hkR : kk ≤ R.length := by omega
        have hL0 : 0 ≤ L := by rw [hLL]; exact HR.out.last_nonneg hkR
        rw [← hLL]
        clear hI hC hO hb hw2 hLL HB
        go_wp2
        go_loopw [7, 8, 9] (fun s7 s8 _ wr => ∃ (j : Nat) (nx : Int), j ≤ l.length ∧ s8 = .int .i64 (j : Int) ∧ s7 = .int .i64 nx ∧ Hid (LeastV (l.take j) L nx) ∧ ∃ q, wr = w2.drewN q) (fun _ s8 _ _ => l.length - (intOf s8).toNat)
        case atStart => exact ⟨0, -1, Nat.zero_le _, rfl, rfl, LeastV.nil L, 0, rfl⟩
        case round =>
          obtain ⟨j, nx, hj, rfl, rfl, hle, q, rfl⟩ := hrel
          by_cases hlt : j < l.length
          · obtain ⟨b, off, rfl, _, c0, c1⟩ := (HL.out.next HB2.out).at hlt
            clear c1
            have HSK : Hid ((l[j]'hlt).v ≤ L ∨ (0 ≤ nx ∧ nx ≤ (l[j]'hlt).v) → LeastV (l.take (j + 1)) L nx) := by
              intro h; rw [List.take_succ_eq_append_getElem hlt]; exact hle.out.skip h
            have HTK : Hid (L < (l[j]'hlt).v → nx < 0 ∨ (l[j]'hlt).v < nx → LeastV (l.take (j + 1)) L (l[j]'hlt).v) := by
              intro h h3; rw [List.take_succ_eq_append_getElem hlt]; exact hle.out.take h h3 hL0
            generalize (l[j]'hlt).v = v at *
            by_cases hv : L < v
            · by_cases hn : nx < 0
              · go_wp2
                go_roundw
                case rel => exact ⟨j + 1, v, by omega, by go_num, rfl, HTK.out hv (.inl hn), q, rfl⟩
                case measure => simp [intOf]; omega
              · by_cases hx : v < nx
                · go_wp2
                  go_roundw
                  case rel => exact ⟨j + 1, v, by omega, by go_num, rfl, HTK.out hv (.inr hx), q, rfl⟩
                  case measure => simp [intOf]; omega
                · go_wp2
                  go_roundw
                  case rel => exact ⟨j + 1, nx, by omega, by go_num, rfl, HSK.out (.inr (by omega)), q, rfl⟩
                  case measure => simp [intOf]; omega
            · go_wp2
              go_roundw
              case rel => exact ⟨j + 1, nx, by omega, by go_num, rfl, HSK.out (.inl (by omega)), q, rfl⟩
              case measure => simp [intOf]; omega
          · have HLE : Hid (LeastV l L nx) := by have := hle.out; rw [List.take_of_length_le (by omega)] at this; exact this
            clear hle
            by_cases hnx : nx < 0
            · have hkk : kk = R.length := HR.out.none hkR (by
                have := HLE.out
                rw [HLL.out] at this
                rcases this with ⟨e, h⟩ | ⟨h, h3⟩
                · exact .inl ⟨rfl, h⟩
                · have := HR.out.last_nonneg hkR; omega)
              have HC2 : Hid (C = climb [z0] R) := by show C = _; rw [HC.out, hkk, List.take_length]
              have HF : Hid (FitIs l (chk C) (if chk C = 0 then C else [])) := .inr (.inr ⟨h50, HA.out, R, HR.out, hRl, by rw [HC2.out], by rw [← HC2.out]⟩)
              have HK2 : Hid (Kns w2 ao5 C) := HO2.out.kns.1
              clear hkk HLE
              go_wp2_with fail
              refine (may_any ao5 cap5 C _ (by exact HK2.out) (by omega)).mono ?_
              rintro e w6 ⟨rfl, hb6⟩
              have HB6 : Hid (Below w.heap.size w w6) := below_on (below_drewN HB2.out q) hb6
              have HC6 : Hid (IsCopy C (.slice ao5 C.length cap5) w6) := (HO2.out.drewN q).shape.later hb6
              clear hb6
              by_cases hz : chk C = 0
              · have HF2 : Hid (FitIs l 0 C) := by have := HF.out; rw [hz, if_pos rfl] at this; exact this
                rw [hz]
                clear hz
                go_wp2
                go_ret2
                exact ⟨_, _, _, rfl, HF2.out, HC6.out, HB6.out⟩
              · have HF2 : Hid (FitIs l (chk C) []) := by have := HF.out; rw [if_neg hz] at this; exact this
                have hne : (chk C != 0) = true := by simp [hz]
                clear hz
                go_wp2
                go_ret2
                exact ⟨_, _, _, rfl, HF2.out, copy_nil _, HB6.out⟩
            · have HSO : Hid (∃ hlt : kk < R.length, (R[kk]'hlt) = ⟨nx, sumV l nx / (cntV l nx : Int)⟩ ∧ lastV R (kk + 1) = nx ∧ 0 < cntV l nx) := HR.out.some hkR (by omega) (by rw [← HLL.out]; exact HLE.out)
              clear HLE
              go_wp2
              clear hL0 hlt
              go_loopw [10, 11, 12] (fun s10 s11 s12 wr => ∃ j : Nat, j ≤ l.length ∧ s12 = .int .i64 (j : Int) ∧ s10 = .int .i64 (sumV (l.take j) nx) ∧ s11 = .int .i64 (cntV (l.take j) nx : Int) ∧ ∃ q, wr = w2.drewN q) (fun _ _ s12 _ => l.length - (intOf s12).toNat)
              case atStart => exact ⟨0, Nat.zero_le _, rfl, rfl, rfl, _, rfl⟩
              case round =>
                obtain ⟨j, hj, rfl, rfl, rfl, q, rfl⟩ := hrel
                have hsum := sumV_in (l := l.take j) nx fun d hd => HOM.out d (List.mem_of_mem_take hd)
                have hcn := cntV_le (l.take j) nx
                have hcn2 : cntV (l.take j) nx ≤ 50 := by
                  have h3 : (l.take j).length ≤ l.length := by rw [List.length_take]; omega
                  omega
                have hsum2 : 0 ≤ sumV (l.take j) nx ∧ sumV (l.take j) nx ≤ 50000000000 := by omega
                clear hsum hcn
                by_cases hlt : j < l.length
                · obtain ⟨b, off, rfl, _, c0, c1⟩ := (HL.out.next HB2.out).at hlt
                  have HS1 : Hid (∀ x, nx = x → sumV (l.take (j + 1)) x = sumV (l.take j) x + (if (l[j]'hlt).v = x then (l[j]'hlt).s else 0)) := fun x _ => sumV_succ hlt x
                  have HC1 : Hid (∀ x, nx = x → cntV (l.take (j + 1)) x = cntV (l.take j) x + (if (l[j]'hlt).v = x then 1 else 0)) := fun x _ => cntV_succ hlt x
                  have hsv := (outK_no.1 (HOM.out _ (List.getElem_mem hlt))).2
                  by_cases hv : (l[j]'hlt).v = nx
                  · have HS2 : Hid (sumV (l.take (j + 1)) nx = sumV (l.take j) nx + (l[j]'hlt).s) := by have := HS1.out nx rfl; rw [if_pos hv] at this; exact this
                    have HC3 : Hid (cntV (l.take (j + 1)) nx = cntV (l.take j) nx + 1) := by have := HC1.out nx rfl; rw [if_pos hv] at this; exact this
                    rw [hv] at c0
                    have tv : (nx == nx) = true := by simp
                    clear HS1 HC1 hv
                    generalize (l[j]'hlt).s = sj at *
                    generalize sumV (l.take j) nx = sm at *
                    generalize cntV (l.take j) nx = ct at *
                    go_wp2
                    go_roundw
                    case rel => exact ⟨j + 1, by omega, by go_num, by rw [HS2.out], by rw [HC3.out]; go_num, q, rfl⟩
                    case measure => simp [intOf]; omega
                  · have HS2 : Hid (sumV (l.take (j + 1)) nx = sumV (l.take j) nx) := by have := HS1.out nx rfl; rw [if_neg hv] at this; exact this.trans (Int.add_zero _)
                    have HC3 : Hid (cntV (l.take (j + 1)) nx = cntV (l.take j) nx) := by have := HC1.out nx rfl; rw [if_neg hv] at this; exact this
                    have tv : ((l[j]'hlt).v == nx) = false := by simp [hv]
                    clear HS1 HC1 hv c1
                    generalize (l[j]'hlt).v = vj at *
                    generalize sumV (l.take j) nx = sm at *
                    generalize cntV (l.take j) nx = ct at *
                    go_wp2
                    go_roundw
                    case rel => exact ⟨j + 1, by omega, by go_num, by rw [HS2.out], by rw [HC3.out], q, rfl⟩
                    case measure => simp [intOf]; omega
                · rw [List.take_of_length_le (by omega)] at hsum2 hcn2 ⊢
                  obtain ⟨hkl, hRk, hLN, hct⟩ := HSO.out
                  have HLN : Hid (lastV R (kk + 1) = nx) := hLN
                  have HN : Hid (climb [z0] (R.take (kk + 1)) = clim1 C ⟨nx, sumV l nx / (cntV l nx : Int)⟩) := by show climb _ _ = _; rw [climb_succ hkl, HC.out, hRk]
                  obtain ⟨c, hc⟩ : ∃ c, C.length = c + 1 := ⟨C.length - 1, by have := HCp.out; omega⟩
                  have hcl : c < C.length := by omega
                  obtain ⟨g, o, rfl, hg, d0, d1⟩ := HO2.out.kns.1.at hcl
                  clear d0
                  rw [← cs_at] at d1
                  have HCS : Hid (cs C (C.length - 1) = cs C c) := by show cs C _ = _; rw [hc]; rfl
                  have HCL : Hid (C.length = c + 1) := hc
                  have hc50 : c ≤ 50 := by omega
                  have hgk : 1 ≤ gk := by omega
                  rw [hc] at hCl ⊢
                  rw [hc] at HO2
                  clear hRk hLN hc HSO hcl hkl
                  generalize sumV l nx = sm at *
                  generalize cntV l nx = ct at *
                  have hct2 : (ct : Int) ≠ 0 := by omega
                  have hq0 : 0 ≤ sm / (ct : Int) := Int.ediv_nonneg (by omega) (by omega)
                  have hq1 : sm / (ct : Int) ≤ sm := Int.ediv_le_self _ (by omega)
                  by_cases hs : cs C c < sm / (ct : Int)
                  · have HE : Hid (clim1 C ⟨nx, sm / (ct : Int)⟩ = C ++ [⟨nx, sm / (ct : Int)⟩]) := clim1_more (by rw [HCS.out]; exact hs)
                    generalize cs C c = sl at *
                    have ts : decide (sl < sm / (ct : Int)) = true := decide_eq_true hs
                    go_wp2_with fail
                    go_big_quiet (fail)
                    go_wp2_with (at_builtin; refine wpList_append_kn _ rfl (.tmp 100) (.tmp 106) rfl w.heap.size _ C rfl ((HO2.out.drewN _).alloc _) ⟨w2.heap.size, 0, none⟩ 1 [⟨nx, sm / (ct : Int)⟩] rfl ?qc1 ?qc2 ?qc3 ?_)
                    case qc1 => exact Kns.fresh (w2.drewN _) ⟨nx, sm / (ct : Int)⟩
                    case qc2 => simp [HCL.out]; omega
                    case qc3 => have := HB2.out.size; simp at this ⊢; omega
                    intro v' w7 ho hg _
                    have HB7 : Hid (Below w.heap.size w w7) := ((below_drewN HB2.out _).alloc (by have := HB2.out.size; simp; omega) _).grown hg (by have := HB2.out.size; simp; omega) HO2.out.base
                    have HO7 : Hid (OwnK w7 w.heap.size v' (C ++ [⟨nx, sm / (ct : Int)⟩])) := ho
                    obtain ⟨ao7, cap7, rfl, _, _⟩ := ho.shape
                    clear ho hg
                    go_wp2
                    go_roundg (gk - 1)
                    case measure => omega
                    case rel => exact ⟨kk + 1, by omega, by rw [HLN.out], _, ao7, cap7, rfl, by rw [HN.out, HE.out], by rw [HN.out, HE.out]; exact HO7.out, HB7.out⟩
                  · have HE : Hid (clim1 C ⟨nx, sm / (ct : Int)⟩ = C) := clim1_no (by rw [HCL.out]; omega) (by rw [HCS.out]; simp only; omega)
                    generalize cs C c = sl at *
                    have ts : decide (sl < sm / (ct : Int)) = false := decide_eq_false hs
                    go_wp2_with fail
                    go_big_quiet (fail)
                    go_wp2
                    go_roundg (gk - 1)
                    case measure => omega
                    case rel => exact ⟨kk + 1, by omega, by rw [HLN.out], C, _, cap5, by rw [HN.out, HE.out], by rw [HCL.out], by rw [HCL.out]; exact (HO2.out.drewN _).drewN _, below_drewN (below_drewN HB2.out _) _⟩
end Go.Proofs.Yteamcgoemgailaa
