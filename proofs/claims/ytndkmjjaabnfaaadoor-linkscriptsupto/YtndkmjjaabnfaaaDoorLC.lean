/- checkScript, Worst, ScriptMay, greater, WorstOf walked. -/
import Derived.Test.YtndkmjjaabnfaaaDoorLQ
import Derived.Test.YtndkmjjaabnfaaaDoorLI
namespace Go.Proofs.YtndkmjjaabnfaaaDoor
open Go.RowKit

set_option maxHeartbeats 6400000 in
set_option maxRecDepth 100000 in
theorem checkScript_any (ao : Option Addr) (cap : Nat) (l : List Int) (w : World) (hR : RdI w ao l) (hl : l.length ≤ 9223372036854775807) :
    Calls Tryd.prog 18 #[.slice ao l.length cap] w fun e w' => e = .returned (.int .i64 (refS l)) ∧ w' = w := by
  have HR : Hid (RdI w ao l) := hR
  clear hR
  by_cases hlong : 2000 < l.length
  · have HE : Hid (refS l = 8) := refS_long hlong
    have h2 : (2000 : Int) < l.length := by omega
    go_enter Tryd.func18, Tryd.ntmps18
    go_wp2
    go_ret
    exact ⟨ret_int HE.out.symm, rfl⟩
  · have h2 : (l.length : Int) ≤ 2000 := by omega
    have HBad : Hid (∀ k (hk : k < l.length), l[k]'hk < 0 → refS l = 2) := fun k hk hb => refS_bad hlong hk hb
    have HOk : Hid ((∀ b ∈ l, 0 ≤ b) → refS l = 0) := refS_ok hlong
    go_enter Tryd.func18, Tryd.ntmps18
    go_wp2
    go_loopw [10] (fun i wr => ∃ k : Nat, k ≤ l.length ∧ i = .int .i64 k ∧ (∀ b ∈ l.take k, 0 ≤ b) ∧ wr = w) (fun i _ => l.length - (intOf i).toNat)
    case atStart => exact ⟨0, Nat.zero_le _, rfl, (fun b hb => by simp at hb), rfl⟩
    case round =>
      obtain ⟨k, hk, rfl, hok, hw⟩ := hrel
      subst hw
      have HO : Hid (∀ b ∈ l.take k, 0 ≤ b) := hok
      clear hok
      by_cases hlt : k < l.length
      · obtain ⟨b, off, rfl, _, hc⟩ := HR.out.at hlt
        have HHit : Hid (l[k]'hlt < 0 → refS l = 2) := HBad.out k hlt
        have HMiss : Hid (0 ≤ l[k]'hlt → ∀ b ∈ l.take (k + 1), 0 ≤ b) := take_next hlt HO.out
        generalize l[k]'hlt = a at *
        by_cases hq : a < 0
        · go_wp2
          go_ret
          exact ⟨ret_int (HHit.out hq).symm, rfl⟩
        · go_wp2
          go_roundw
          case rel => exact ⟨k + 1, by omega, by go_num, HMiss.out (by omega), trivial⟩
          case measure => simp [intOf]; omega
      · have HE : Hid (refS l = 0) := HOk.out (fun b hb => HO.out b (by rw [List.take_of_length_le (by omega)]; exact hb))
        go_wp2
        go_ret
        exact ⟨ret_int HE.out.symm, rfl⟩
set_option maxHeartbeats 6400000 in
set_option maxRecDepth 100000 in
theorem scriptMay_any (ao : Option Addr) (cap : Nat) (l : List Int) (w : World) (hR : RdI w ao l) (hl : l.length ≤ 9223372036854775807) :
    Calls Tryd.prog 11 #[.slice ao l.length cap] w fun e w' => e = .returned (.int .i64 (refS l)) ∧ w' = w := by
  have HR : Hid (RdI w ao l) := hR
  clear hR
  by_cases hlong : 2000 < l.length
  · have HE : Hid (refS l = 8) := refS_long hlong
    have h2 : (2000 : Int) < l.length := by omega
    go_enter Tryd.func11, Tryd.ntmps11
    go_wp2
    go_ret
    exact ⟨ret_int HE.out.symm, rfl⟩
  · have h2 : (l.length : Int) ≤ 2000 := by omega
    have HBad : Hid (∀ k (hk : k < l.length), l[k]'hk < 0 → refS l = 2) := fun k hk hb => refS_bad hlong hk hb
    have HOk : Hid ((∀ b ∈ l, 0 ≤ b) → refS l = 0) := refS_ok hlong
    go_enter Tryd.func11, Tryd.ntmps11
    go_wp2
    go_loopw [3] (fun i wr => ∃ k : Nat, k ≤ l.length ∧ i = .int .i64 k ∧ (∀ b ∈ l.take k, 0 ≤ b) ∧ wr = w) (fun i _ => l.length - (intOf i).toNat)
    case atStart => exact ⟨0, Nat.zero_le _, rfl, (fun b hb => by simp at hb), rfl⟩
    case round =>
      obtain ⟨k, hk, rfl, hok, hw⟩ := hrel
      subst hw
      have HO : Hid (∀ b ∈ l.take k, 0 ≤ b) := hok
      clear hok
      by_cases hlt : k < l.length
      · obtain ⟨b, off, rfl, _, hc⟩ := HR.out.at hlt
        have HHit : Hid (l[k]'hlt < 0 → refS l = 2) := HBad.out k hlt
        have HMiss : Hid (0 ≤ l[k]'hlt → ∀ b ∈ l.take (k + 1), 0 ≤ b) := take_next hlt HO.out
        generalize l[k]'hlt = a at *
        by_cases hq : a < 0
        · go_wp2
          go_ret
          exact ⟨ret_int (HHit.out hq).symm, rfl⟩
        · go_wp2
          go_roundw
          case rel => exact ⟨k + 1, by omega, by go_num, HMiss.out (by omega), trivial⟩
          case measure => simp [intOf]; omega
      · have HE : Hid (refS l = 0) := HOk.out (fun b hb => HO.out b (by rw [List.take_of_length_le (by omega)]; exact hb))
        go_wp2
        go_ret
        exact ⟨ret_int HE.out.symm, rfl⟩
theorem ret_two {n m a b : Int} (h : n = m) (h2 : a = b) : Ending.returned (.tuple #[.int .i64 n, .int .i64 a]) = .returned (.tuple #[.int .i64 m, .int .i64 b]) := by rw [h, h2]
/-- What Worst answers. -/
def worR (l : List Int) : Int := if refS l = 0 then (worstB l l.length : Nat) else 0
theorem at_opt {l : List Int} {k : Nat} (h : k < l.length) : l[k]? = some (l[k]'h) := List.getElem?_eq_getElem h
set_option maxHeartbeats 6400000 in
set_option maxRecDepth 100000 in
theorem worst_any (ao : Option Addr) (cap : Nat) (l : List Int) (w : World) (hR : RdI w ao l) (hl : l.length ≤ 9223372036854775807) :
    Calls Tryd.prog 7 #[.slice ao l.length cap] w fun e w' => e = .returned (.tuple #[.int .i64 (worR l), .int .i64 (refS l)]) ∧ w' = w := by
  have HC : Hid (Calls Tryd.prog 18 #[.slice ao l.length cap] w fun e w' => e = .returned (.int .i64 (refS l)) ∧ w' = w) := checkScript_any ao cap l w hR hl
  by_cases hz : refS l = 0
  · have HW : Hid (worR l = (worstB l l.length : Nat)) := if_pos hz
    have HZ : Hid (refS l = 0) := hz
    have hlen := refS_len hz
    have HR : Hid (RdI w ao l) := hR
    have h2 : (l.length : Int) ≤ 2000 := by omega
    rw [hz] at HC
    clear hz hR
    go_enter Tryd.func7, Tryd.ntmps7
    go_wp2_with fail
    refine HC.out.mono ?_
    rintro e w1 ⟨rfl, hw⟩
    subst hw
    go_wp2
    go_loopw [5, 6, 16] (fun a r i wr => ∃ k : Nat, k ≤ l.length ∧ i = .int .i64 k ∧ a = .int .i64 (worstB l k : Nat) ∧ r = .int .i64 (runB l k : Nat) ∧ wr = w1) (fun _ _ i _ => l.length - (intOf i).toNat)
    case atStart => exact ⟨0, Nat.zero_le _, rfl, rfl, rfl, rfl⟩
    case round =>
      obtain ⟨k, hk, rfl, rfl, rfl, hw⟩ := hrel
      subst hw
      by_cases hlt : k < l.length
      · obtain ⟨b, off, rfl, _, hc⟩ := HR.out.at hlt
        have HA : Hid (l[k]? = some (l[k]'hlt)) := at_opt hlt
        have h3 := runB_le l k
        have h4 := worstB_bound l k
        have HRb : Hid (runB l (k + 1) = if l[k]? = some 0 then 0 else runB l k + 1) := rfl
        have HWb : Hid (worstB l (k + 1) = max (worstB l k) (runB l (k + 1))) := rfl
        rw [HA.out] at HRb
        generalize l[k]'hlt = a at *
        generalize runB l k = r1 at *
        generalize worstB l k = m1 at *
        by_cases hq : a = 0
        · have E1 : Hid (runB l (k + 1) = 0) := by show _ = _; rw [HRb.out, hq, if_pos rfl]
          have E2 : Hid (worstB l (k + 1) = m1) := by show _ = _; rw [HWb.out, E1.out]; omega
          subst hq
          clear HA
          go_wp2
          go_roundw
          case rel =>
            refine ⟨k + 1, by omega, by go_num, ?_, ?_, trivial⟩
            · rw [E2.out] <;> first | rfl | simp
            · rw [E1.out]; rfl
          case measure => simp [intOf]; omega
        · have E1 : Hid (runB l (k + 1) = r1 + 1) := by show _ = _; rw [HRb.out, if_neg (by simpa using hq)]
          by_cases hm : m1 ≤ r1 + 1
          · have E2 : Hid (worstB l (k + 1) = r1 + 1) := by show _ = _; rw [HWb.out, E1.out]; omega
            clear HA
            go_wp2
            go_roundw
            case rel =>
              refine ⟨k + 1, by omega, by go_num, ?_, ?_, trivial⟩
              · rw [E2.out]; first | rfl | go_num | (simp; omega)
              · rw [E1.out]; first | rfl | go_num | (simp; omega)
            case measure => simp [intOf]; omega
          · have E2 : Hid (worstB l (k + 1) = m1) := by show _ = _; rw [HWb.out, E1.out]; omega
            clear HA
            go_wp2
            go_roundw
            case rel =>
              refine ⟨k + 1, by omega, by go_num, ?_, ?_, trivial⟩
              · rw [E2.out]; first | rfl | go_num | (simp; omega)
              · rw [E1.out]; first | rfl | go_num | (simp; omega)
            case measure => simp [intOf]; omega
      · have HE : Hid (k = l.length) := by show k = l.length; omega
        go_wp2
        refine bodyPost_ret (by simp [results, Tryd.results7, go_sem]; rfl) rfl ⟨ret_two (by rw [HW.out, HE.out]) HZ.out.symm, rfl⟩
  · have HW : Hid (worR l = 0) := if_neg hz
    generalize worR l = wv at *
    generalize refS l = rv at *
    go_enter Tryd.func7, Tryd.ntmps7
    go_wp2_with fail
    refine HC.out.mono ?_
    rintro e w1 ⟨rfl, hw⟩
    subst hw
    go_wp2
    refine bodyPost_ret (v := .tuple #[.int .i64 0, .int .i64 rv]) (by simp [results, Tryd.results7, go_sem]) rfl ⟨ret_two HW.out.symm rfl, rfl⟩
theorem greater_any (a b : Int) (w : World) : Calls Tryd.prog 21 #[.int .i64 a, .int .i64 b] w fun e w' => e = .returned (.int .i64 (max a b)) ∧ w' = w := by
  by_cases h : b < a
  · go_enter Tryd.func21, Tryd.ntmps21
    go_wp2
    go_ret
    exact ⟨ret_int (by omega), rfl⟩
  · go_enter Tryd.func21, Tryd.ntmps21
    go_wp2
    go_ret
    exact ⟨ret_int (by omega), rfl⟩
theorem runF_zero {l : List Int} {i k : Nat} (hik : i ≤ k) (hk : k < l.length) (hz : l[k]'hk = 0) (h : ∀ j, i ≤ j → j < k → l[j]? ≠ some 0) : runF (l.drop i) = k - i := by
  have h1 := tw_ge (l.drop i) (k - i) (by rw [List.length_drop]; omega) (fun j hj => by rw [List.getElem?_drop]; exact h _ (by omega) (by omega))
  refine Nat.le_antisymm (Nat.not_lt.1 fun h2 => ?_) h1
  have := tw_at (l.drop i) (k - i) h2
  rw [List.getElem?_drop, show i + (k - i) = k by omega, at_opt hk, hz] at this
  exact this rfl
theorem runF_end {l : List Int} {i k : Nat} (hik : i ≤ k) (hk : k = l.length) (h : ∀ j, i ≤ j → j < k → l[j]? ≠ some 0) : runF (l.drop i) = k - i := by
  have h1 := tw_ge (l.drop i) (k - i) (by rw [List.length_drop]; omega) (fun j hj => by rw [List.getElem?_drop]; exact h _ (by omega) (by omega))
  have h2 := runF_le (l.drop i)
  rw [List.length_drop] at h2
  omega
set_option maxHeartbeats 6400000 in
set_option maxRecDepth 100000 in
theorem worstOf_any (ao : Option Addr) (cap : Nat) (l : List Int) (w : World) (hR : RdI w ao l) (hl : l.length ≤ 2000) :
    Calls Tryd.prog 12 #[.slice ao l.length cap] w fun e w' => e = .returned (.int .i64 (worstN l l.length : Nat)) ∧ w' = w := by
  have HR : Hid (RdI w ao l) := hR
  clear hR
  go_enter Tryd.func12, Tryd.ntmps12
  go_wp2
  go_loopw [3, 4] (fun a i wr => ∃ k : Nat, k ≤ l.length ∧ i = .int .i64 k ∧ a = .int .i64 (worstN l k : Nat) ∧ wr = w) (fun _ i _ => l.length - (intOf i).toNat)
  case atStart => exact ⟨0, Nat.zero_le _, rfl, rfl, rfl⟩
  case round =>
    obtain ⟨i, hi, rfl, rfl, hw⟩ := hrel
    subst hw
    have hb := worstN_bound l i
    have HN : Hid (worstN l (i + 1) = max (worstN l i) (runF (l.drop i))) := rfl
    generalize hm : worstN l i = m1 at *
    have HM : Hid (worstN l i = m1) := hm
    clear hm
    by_cases hlt : i < l.length
    · go_wp2
      go_loopw [5] (fun c wq => ∃ k : Nat, i ≤ k ∧ k ≤ l.length ∧ c = .int .i64 k ∧ (∀ j, i ≤ j → j < k → l[j]? ≠ some 0) ∧ wq = wr) (fun c _ => l.length - (intOf c).toNat)
      case atStart => exact ⟨i, Nat.le_refl _, by omega, rfl, (fun j a b => absurd a (by omega)), rfl⟩
      case round =>
        obtain ⟨k, hik, hk, rfl, hall, hw⟩ := hrel
        subst hw
        have HA : Hid (∀ j, i ≤ j → j < k → l[j]? ≠ some 0) := hall
        clear hall
        by_cases hkl : k < l.length
        · obtain ⟨b, off, rfl, _, hc⟩ := HR.out.at hkl
          have HZ : Hid (l[k]'hkl = 0 → runF (l.drop i) = k - i) := fun h => runF_zero hik hkl h HA.out
          have HX : Hid (l[k]'hkl ≠ 0 → ∀ j, i ≤ j → j < k + 1 → l[j]? ≠ some 0) := fun h j a b => by
            by_cases e : j = k
            · subst e; rw [at_opt hkl]; simpa using h
            · exact HA.out j a (by omega)
          generalize l[k]'hkl = x at *
          by_cases hx : x = 0
          · subst hx
            have HF : Hid (worstN l (i + 1) = max m1 (k - i)) := by show _ = _; rw [HN.out, HZ.out rfl]
            go_wp2_with fail
            refine (greater_any _ _ _).mono ?_
            rintro e w2 ⟨rfl, hw⟩
            subst hw
            go_wp2
            go_roundw
            case rel => exact ⟨i + 1, by omega, by go_num, by rw [HF.out]; simp; omega, trivial⟩
            case measure => simp [intOf]; omega
          · go_wp2
            go_roundw
            case rel => exact ⟨k + 1, by omega, by omega, by go_num, HX.out hx, trivial⟩
            case measure => simp [intOf]; omega
        · have HF : Hid (worstN l (i + 1) = max m1 (k - i)) := by show _ = _; rw [HN.out, runF_end hik (by omega) HA.out]
          go_wp2_with fail
          refine (greater_any _ _ _).mono ?_
          rintro e w2 ⟨rfl, hw⟩
          subst hw
          go_wp2
          go_roundw
          case rel => exact ⟨i + 1, by omega, by go_num, by rw [HF.out]; simp; omega, trivial⟩
          case measure => simp [intOf]; omega
    · have HE : Hid (i = l.length) := by show i = l.length; omega
      go_wp2
      go_ret
      exact ⟨ret_int (by rw [← HM.out, HE.out]), rfl⟩
end Go.Proofs.YtndkmjjaabnfaaaDoor
