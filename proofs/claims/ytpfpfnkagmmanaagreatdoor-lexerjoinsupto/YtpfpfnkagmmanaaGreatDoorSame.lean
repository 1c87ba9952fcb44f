/- Two lists of tokens compared, walked: the document's SameTokens, slices.Equal. -/
import Derived.Test.YtpfpfnkagmmanaaGreatDoorLxT
namespace Go.Proofs.YtpfpfnkagmmanaaGreatDoor
open Go.RowKit Go.Shelf

theorem tk_same (W : World) (pk pn : Int) (pt : List UInt8) : (binOp .neq 36 (.agg #[.int .i64 pk, .string ⟨pt.toArray⟩, .int .i64 pn]) (.agg #[.int .i64 pk, .string ⟨pt.toArray⟩, .int .i64 pn])).run Tryz.prog W = .ok (.bool false) W := by
  go_simp
theorem tk_diff (W : World) (pk pn qk qn : Int) (pt qt : List UInt8) (h : ¬ (pk = qk ∧ pt = qt ∧ pn = qn)) : (binOp .neq 36 (.agg #[.int .i64 pk, .string ⟨pt.toArray⟩, .int .i64 pn]) (.agg #[.int .i64 qk, .string ⟨qt.toArray⟩, .int .i64 qn])).run Tryz.prog W = .ok (.bool true) W := by
  go_simp
  exact fun h1 h2 h3 => h ⟨h1, h2, h3⟩
set_option maxHeartbeats 3200000 in
theorem same_any (ao bo : Option Addr) (ca cb : Nat) (a b : List Tk) (w : World) (hA : Tks w ao a) (hB : Tks w bo b) (ha : a.length ≤ 4398046511104) :
    Calls Tryz.prog 13 #[.slice ao a.length ca, .slice bo b.length cb] w fun e w' => ∃ r, e = .returned (.bool r) ∧ (r = true ↔ a = b) ∧ Below w.heap.size w w' := by
  have HA : Hid (Tks w ao a) := hA
  have HB : Hid (Tks w bo b) := hB
  clear hA hB
  by_cases hl : a.length = b.length
  · have HL : Hid (a.length = b.length) := hl
    obtain ⟨m, hm⟩ : ∃ m, m = b.length := ⟨_, rfl⟩
    have hma : a.length = m := hl.trans hm.symm
    have HM : Hid (m = b.length) := hm
    have HMA : Hid (a.length = m) := hma
    rw [hma, ← hm]
    rw [hma] at ha
    clear hl hm hma
    go_enter Tryz.func13, Tryz.ntmps13
    go_wp2
    go_loopw [5] (fun s5 wr => ∃ k : Nat, s5 = .int .i64 (k : Int) ∧ k ≤ m ∧ Hid (∀ j (h1 : j < a.length) (h2 : j < b.length), j < k → a[j]'h1 = b[j]'h2) ∧ ∃ q, wr = w.drewN q) (fun s5 _ => m - (intOf s5).toNat)
    case atStart => exact ⟨0, rfl, Nat.zero_le _, (fun j _ _ h => absurd h (Nat.not_lt_zero _) : ∀ j (h1 : j < a.length) (h2 : j < b.length), j < 0 → a[j]'h1 = b[j]'h2), 0, rfl⟩
    case round =>
      obtain ⟨k, rfl, hk, hI, q, rfl⟩ := hrel
      by_cases hkm : k < m
      · have h1 : k < a.length := by rw [HMA.out]; exact hkm
        have h2 : k < b.length := by rw [← HM.out]; exact hkm
        obtain ⟨ba, oa, rfl, la, a0, a1, a2⟩ := HA.out.at h1
        obtain ⟨bb, ob, rfl, lb, b0, b1, b2⟩ := HB.out.at h2
        obtain ⟨p, hp⟩ : ∃ p, a[k]'h1 = p := ⟨_, rfl⟩
        obtain ⟨p2, hp2⟩ : ∃ p2, b[k]'h2 = p2 := ⟨_, rfl⟩
        have HP : Hid (a[k]'h1 = p) := hp
        have HP2 : Hid (b[k]'h2 = p2) := hp2
        rw [hp] at a0 a1 a2
        rw [hp2] at b0 b1 b2
        clear hp hp2
        have k0 : (0 : Int) ≤ (k : Int) := by omega
        have k1 : (k : Int) < (m : Int) := by omega
        obtain ⟨pk, pt, pn⟩ := p
        obtain ⟨qk, qt, qn⟩ := p2
        simp only at a0 a1 a2 b0 b1 b2
        by_cases he : pk = qk ∧ pt = qt ∧ pn = qn
        · obtain ⟨rfl, rfl, rfl⟩ := he
          have hne := fun W => tk_same W pk pn pt
          go_wp2_with fail
          go_big_quiet (fail)
          go_wp2
          go_roundw
          case rel =>
            refine ⟨k + 1, by go_num, by omega, (fun j h3 h4 hj => ?_ : ∀ j (h1 : j < a.length) (h2 : j < b.length), j < k + 1 → a[j]'h1 = b[j]'h2), ?_⟩
            · by_cases hjk : j = k
              · subst hjk; rw [HP.out, HP2.out]
              · exact hI.out j h3 h4 (by omega)
            · exact ⟨_, rfl⟩
          case measure => simp [intOf]; omega
        · have hne := fun W => tk_diff W pk pn qk qn pt qt he
          have HN : Hid (¬ a = b) := fun e => by
            have h3 : a[k]'h1 = b[k]'h2 := by subst e; rfl
            rw [HP.out, HP2.out] at h3
            simp only [Tk.mk.injEq] at h3
            exact he h3
          clear he
          go_wp2_with fail
          go_big_quiet (fail)
          go_wp2
          go_ret
          exact ⟨false, rfl, ⟨fun h => by simp at h, fun h => absurd h HN.out⟩, below_drewN (below_drewN (Below.refl _ _) _) _⟩
      · have HE : Hid (a = b) := List.ext_getElem HL.out fun j h3 h4 => hI.out j h3 h4 (by have := HMA.out; omega)
        go_wp2
        go_ret
        exact ⟨true, rfl, ⟨fun _ => HE.out, fun _ => rfl⟩, below_drewN (Below.refl _ _) _⟩
  · have HN : Hid (¬ a = b) := fun e => hl (by rw [e])
    have hq : ((a.length : Int) != (b.length : Int)) = true := by simp; omega
    obtain ⟨m, hm⟩ : ∃ m, m = a.length := ⟨_, rfl⟩
    obtain ⟨m2, hm2⟩ : ∃ m2, m2 = b.length := ⟨_, rfl⟩
    rw [← hm, ← hm2] at hq ⊢
    clear hl hm hm2
    go_enter Tryz.func13, Tryz.ntmps13
    go_wp2
    go_ret
    exact ⟨false, rfl, ⟨fun h => by simp at h, fun h => absurd h HN.out⟩, Below.refl _ _⟩
set_option maxHeartbeats 3200000 in
theorem equal_any (ao bo : Option Addr) (ca cb : Nat) (a b : List Tk) (w : World) (hA : Tks w ao a) (hB : Tks w bo b) (ha : a.length ≤ 4398046511104) :
    Calls Tryz.prog 11 #[.slice ao a.length ca, .slice bo b.length cb] w fun e w' => ∃ r, e = .returned (.bool r) ∧ (r = true ↔ a = b) ∧ Below w.heap.size w w' := by
  have HA : Hid (Tks w ao a) := hA
  have HB : Hid (Tks w bo b) := hB
  clear hA hB
  by_cases hl : a.length = b.length
  · have HL : Hid (a.length = b.length) := hl
    obtain ⟨m, hm⟩ : ∃ m, m = b.length := ⟨_, rfl⟩
    have hma : a.length = m := hl.trans hm.symm
    have HM : Hid (m = b.length) := hm
    have HMA : Hid (a.length = m) := hma
    rw [hma, ← hm]
    rw [hma] at ha
    clear hl hm hma
    go_enter Tryz.func11, Tryz.ntmps11
    go_wp2
    go_loopw [13] (fun s5 wr => ∃ k : Nat, s5 = .int .i64 (k : Int) ∧ k ≤ m ∧ Hid (∀ j (h1 : j < a.length) (h2 : j < b.length), j < k → a[j]'h1 = b[j]'h2) ∧ ∃ q, wr = w.drewN q) (fun s5 _ => m - (intOf s5).toNat)
    case atStart => exact ⟨0, rfl, Nat.zero_le _, (fun j _ _ h => absurd h (Nat.not_lt_zero _) : ∀ j (h1 : j < a.length) (h2 : j < b.length), j < 0 → a[j]'h1 = b[j]'h2), 0, rfl⟩
    case round =>
      obtain ⟨k, rfl, hk, hI, q, rfl⟩ := hrel
      by_cases hkm : k < m
      · have h1 : k < a.length := by rw [HMA.out]; exact hkm
        have h2 : k < b.length := by rw [← HM.out]; exact hkm
        obtain ⟨ba, oa, rfl, la, a0, a1, a2⟩ := HA.out.at h1
        obtain ⟨bb, ob, rfl, lb, b0, b1, b2⟩ := HB.out.at h2
        obtain ⟨p, hp⟩ : ∃ p, a[k]'h1 = p := ⟨_, rfl⟩
        obtain ⟨p2, hp2⟩ : ∃ p2, b[k]'h2 = p2 := ⟨_, rfl⟩
        have HP : Hid (a[k]'h1 = p) := hp
        have HP2 : Hid (b[k]'h2 = p2) := hp2
        rw [hp] at a0 a1 a2
        rw [hp2] at b0 b1 b2
        clear hp hp2
        have k0 : (0 : Int) ≤ (k : Int) := by omega
        have k1 : (k : Int) < (m : Int) := by omega
        obtain ⟨pk, pt, pn⟩ := p
        obtain ⟨qk, qt, qn⟩ := p2
        simp only at a0 a1 a2 b0 b1 b2
        by_cases he : pk = qk ∧ pt = qt ∧ pn = qn
        · obtain ⟨rfl, rfl, rfl⟩ := he
          have hne := fun W => tk_same W pk pn pt
          go_wp2_with fail
          go_big_quiet (fail)
          go_wp2
          go_roundw
          case rel =>
            refine ⟨k + 1, by go_num, by omega, (fun j h3 h4 hj => ?_ : ∀ j (h1 : j < a.length) (h2 : j < b.length), j < k + 1 → a[j]'h1 = b[j]'h2), ?_⟩
            · by_cases hjk : j = k
              · subst hjk; rw [HP.out, HP2.out]
              · exact hI.out j h3 h4 (by omega)
            · exact ⟨_, rfl⟩
          case measure => simp [intOf]; omega
        · have hne := fun W => tk_diff W pk pn qk qn pt qt he
          have HN : Hid (¬ a = b) := fun e => by
            have h3 : a[k]'h1 = b[k]'h2 := by subst e; rfl
            rw [HP.out, HP2.out] at h3
            simp only [Tk.mk.injEq] at h3
            exact he h3
          clear he
          go_wp2_with fail
          go_big_quiet (fail)
          go_wp2
          go_ret
          exact ⟨false, rfl, ⟨fun h => by simp at h, fun h => absurd h HN.out⟩, below_drewN (below_drewN (Below.refl _ _) _) _⟩
      · have HE : Hid (a = b) := List.ext_getElem HL.out fun j h3 h4 => hI.out j h3 h4 (by have := HMA.out; omega)
        go_wp2
        go_ret
        exact ⟨true, rfl, ⟨fun _ => HE.out, fun _ => rfl⟩, below_drewN (Below.refl _ _) _⟩
  · have HN : Hid (¬ a = b) := fun e => hl (by rw [e])
    have hq : ((a.length : Int) != (b.length : Int)) = true := by simp; omega
    obtain ⟨m, hm⟩ : ∃ m, m = a.length := ⟨_, rfl⟩
    obtain ⟨m2, hm2⟩ : ∃ m2, m2 = b.length := ⟨_, rfl⟩
    rw [← hm, ← hm2] at hq ⊢
    clear hl hm hm2
    go_enter Tryz.func11, Tryz.ntmps11
    go_wp2
    go_ret
    exact ⟨false, rfl, ⟨fun h => by simp at h, fun h => absurd h HN.out⟩, Below.refl _ _⟩
end Go.Proofs.YtpfpfnkagmmanaaGreatDoor
