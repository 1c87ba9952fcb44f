/- The document's WareMay: the ways out behind its first loop, walked. -/
import Derived.Test.YtefjeohhdmmboaaDoorMay
namespace Go.Proofs.YtefjeohhdmmboaaDoor
open Go.RowKit

set_option maxHeartbeats 12800000 in
set_option maxRecDepth 100000 in
theorem may_pitch1 (a : Wr) (w : World) (hs : a.name.size ≤ maxLen) (hl : lab a.name = true) (hk : inR 1 3 a.kind = true) (hr : inR 1 16 a.rows = true) (hc : inR 1 24 a.cols = true) (hp : (a.pitch == 0) = true) (hr1 : decide (1 < a.rows) = true)  :
    Calls Tryd.prog 11 #[wv a] w fun e w' => e = .returned (.int .i64 (chk a)) ∧ Below w.heap.size w w' := by
  have HR := inR_iff.1 hr
  have HCc := inR_iff.1 hc
  have HRI : Hid (rangeOk a = true ↔ (∀ k, k < 7 → good7 k ((sevens a).getD k 0)) ∧ (a.pitch = 0 → ¬ (1 < a.rows ∨ 1 < a.cols)) ∧ capOk a) := range_iff HR.1 HCc.1
  have H2 : Hid (rangeOk a = false → chk a = 2) := fun h => by unfold chk; rw [hl, hk, hr, hc, h]; rfl
  have H8 : Hid (rangeOk a = true → roomOk a = false → chk a = 8) := fun h h' => by unfold chk; rw [hl, hk, hr, hc, h, h']; rfl
  have H0 : Hid (rangeOk a = true → roomOk a = true → chk a = 0) := fun h h' => by unfold chk; rw [hl, hk, hr, hc, h, h']; rfl
  obtain ⟨r1, r2⟩ := HR
  obtain ⟨c1, c2⟩ := HCc
  go_enter Tryd.func11, Tryd.ntmps11
  go_wp2_with fail
  refine (labelMay_any a.name _ hs).mono ?_
  rintro e w2 ⟨rfl, hw2⟩
  subst hw2
  rw [hl]
  go_wp2_with fail
  refine (within_v a.kind 1 3 true hk _).mono ?_
  rintro e w2 ⟨rfl, hw2⟩
  subst hw2
  go_wp2_with fail
  refine (within_v a.rows 1 16 true hr _).mono ?_
  rintro e w2 ⟨rfl, hw2⟩
  subst hw2
  go_wp2_with fail
  refine (within_v a.cols 1 24 true hc _).mono ?_
  rintro e w2 ⟨rfl, hw2⟩
  subst hw2
  go_wp2_with fail
  obtain ⟨W, hW⟩ : ∃ W, W = (w.alloc (wobj a)).alloc (.cells #[.int .i64 a.x, .int .i64 a.y, .int .i64 a.pitch, .int .i64 a.deep, .int .i64 a.wid, .int .i64 a.len, .int .i64 a.hei] 3) := ⟨_, rfl⟩
  have hB : Below w.heap.size w W := by rw [hW]; exact ((Below.refl _ _).alloc (Nat.le_refl _) _).alloc (by simp) _
  have e0 : W.cell? ⟨w.heap.size, 0, none⟩ = some (.string a.name) := by rw [hW]; go_simp
  have e1 : W.cell? ⟨w.heap.size, 1, none⟩ = some (.int .i64 a.kind) := by rw [hW]; go_simp
  have e2 : W.cell? ⟨w.heap.size, 2, none⟩ = some (.int .i64 a.rows) := by rw [hW]; go_simp
  have e3 : W.cell? ⟨w.heap.size, 3, none⟩ = some (.int .i64 a.cols) := by rw [hW]; go_simp
  have e4 : W.cell? ⟨w.heap.size, 4, none⟩ = some (.int .i64 a.x) := by rw [hW]; go_simp
  have e5 : W.cell? ⟨w.heap.size, 5, none⟩ = some (.int .i64 a.y) := by rw [hW]; go_simp
  have e6 : W.cell? ⟨w.heap.size, 6, none⟩ = some (.int .i64 a.pitch) := by rw [hW]; go_simp
  have e7 : W.cell? ⟨w.heap.size, 7, none⟩ = some (.int .i64 a.wid) := by rw [hW]; go_simp
  have e8 : W.cell? ⟨w.heap.size, 8, none⟩ = some (.int .i64 a.len) := by rw [hW]; go_simp
  have e9 : W.cell? ⟨w.heap.size, 9, none⟩ = some (.int .i64 a.hei) := by rw [hW]; go_simp
  have e10 : W.cell? ⟨w.heap.size, 10, none⟩ = some (.int .i64 a.deep) := by rw [hW]; go_simp
  have e11 : W.cell? ⟨w.heap.size, 11, none⟩ = some (.int .i64 a.cap) := by rw [hW]; go_simp
  have h7 : ∀ k, k < 7 → W.cell? ⟨w.heap.size + 1, k, none⟩ = some (.int .i64 ((sevens a).getD k 0)) := fun k hk => by
    rw [hW]
    rcases (show k = 0 ∨ k = 1 ∨ k = 2 ∨ k = 3 ∨ k = 4 ∨ k = 5 ∨ k = 6 by omega) with e | e | e | e | e | e | e
    all_goals (subst e; simp [go_sem, sevens])
  rw [← hW]
  clear hW
  go_loop [4] (fun i => ∃ k : Nat, k ≤ 7 ∧ i = .int .i64 k ∧ ∀ j, j < k → good7 j ((sevens a).getD j 0)) (fun i => 7 - (intOf i).toNat)
  case atStart => exact ⟨0, by omega, rfl, fun j h => absurd h (Nat.not_lt_zero _)⟩
  case round =>
    obtain ⟨k, hk7, rfl, hgood⟩ := hrel
    have HG : Hid (∀ j, j < k → good7 j ((sevens a).getD j 0)) := hgood
    clear hgood
    by_cases hlt : k < 7
    · have hx := h7 k hlt
      obtain ⟨v, hve⟩ : ∃ v, v = (sevens a).getD k 0 := ⟨_, rfl⟩
      have HV : Hid (v = (sevens a).getD k 0) := hve
      rw [← hve] at hx
      clear hve h7
      have HB : Hid (¬ good7 k v → chk a = 2) := fun h => H2.out (by
        have : ¬ rangeOk a = true := fun hh => h (by rw [HV.out]; exact (HRI.out.1 hh).1 k hlt)
        simpa using this)
      cases hv : inR 0 200000 v with
      | false =>
        have HC : Hid (chk a = 2) := HB.out (fun h => by rw [inR_yes h.1.1 h.1.2] at hv; cases hv)
        go_wp2_with (go_at_call 35; refine (within_v v 0 200000 false hv _).mono ?_; rintro e w2 ⟨rfl, hw2⟩; subst hw2)
        go_ret
        exact ⟨ret_int HC.out.symm, hB⟩
      | true =>
        have hv2 := inR_iff.1 hv
        by_cases h4 : 4 ≤ k
        · have h4' : decide ((4 : Int) ≤ (k : Int)) = true := by simp; omega
          by_cases hz : v = 0
          · have HC : Hid (chk a = 2) := HB.out (fun h => h.2 h4 hz)
            have hz' : (v == 0) = true := by simp [hz]
            clear hz
            go_wp2_with (go_at_call 35; refine (within_v v 0 200000 true hv _).mono ?_; rintro e w2 ⟨rfl, hw2⟩; subst hw2)
            go_ret
            exact ⟨ret_int HC.out.symm, hB⟩
          · have HZ : Hid (v ≠ 0) := hz
            have hz' : (v == 0) = false := by simp [hz]
            clear hz
            go_wp2_with (go_at_call 35; refine (within_v v 0 200000 true hv _).mono ?_; rintro e w2 ⟨rfl, hw2⟩; subst hw2)
            go_round
            case rel => exact ⟨k + 1, by omega, by go_num, fun j hj => (Nat.lt_succ_iff_lt_or_eq.1 hj).elim (HG.out j) fun e => by rw [e, ← HV.out]; exact ⟨hv2, fun _ => HZ.out⟩⟩
            case measure => simp [intOf]; omega
        · have h4' : decide ((4 : Int) ≤ (k : Int)) = false := by simp; omega
          go_wp2_with (go_at_call 35; refine (within_v v 0 200000 true hv _).mono ?_; rintro e w2 ⟨rfl, hw2⟩; subst hw2)
          go_round
          case rel => exact ⟨k + 1, by omega, by go_num, fun j hj => (Nat.lt_succ_iff_lt_or_eq.1 hj).elim (HG.out j) fun e => by rw [e, ← HV.out]; exact ⟨hv2, fun h => absurd h (by omega)⟩⟩
          case measure => simp [intOf]; omega
    · have H7 : Hid (∀ k, k < 7 → good7 k ((sevens a).getD k 0)) := fun j hj => HG.out j (by omega)
      clear h7
      have HC : Hid (chk a = 2) := H2.out (by
        have : ¬ rangeOk a = true := fun hh => by
          have h3 := (HRI.out.1 hh).2
          exact h3.1 (by simpa using hp) (.inl (by simpa using hr1))
        simpa using this)
      go_wp2
      go_ret
      exact ⟨ret_int HC.out.symm, hB⟩

set_option maxHeartbeats 12800000 in
set_option maxRecDepth 100000 in
theorem may_pitch2 (a : Wr) (w : World) (hs : a.name.size ≤ maxLen) (hl : lab a.name = true) (hk : inR 1 3 a.kind = true) (hr : inR 1 16 a.rows = true) (hc : inR 1 24 a.cols = true) (hp : (a.pitch == 0) = true) (hr1 : decide (1 < a.rows) = false) (hc1 : decide (1 < a.cols) = true)  :
    Calls Tryd.prog 11 #[wv a] w fun e w' => e = .returned (.int .i64 (chk a)) ∧ Below w.heap.size w w' := by
  have HR := inR_iff.1 hr
  have HCc := inR_iff.1 hc
  have HRI : Hid (rangeOk a = true ↔ (∀ k, k < 7 → good7 k ((sevens a).getD k 0)) ∧ (a.pitch = 0 → ¬ (1 < a.rows ∨ 1 < a.cols)) ∧ capOk a) := range_iff HR.1 HCc.1
  have H2 : Hid (rangeOk a = false → chk a = 2) := fun h => by unfold chk; rw [hl, hk, hr, hc, h]; rfl
  have H8 : Hid (rangeOk a = true → roomOk a = false → chk a = 8) := fun h h' => by unfold chk; rw [hl, hk, hr, hc, h, h']; rfl
  have H0 : Hid (rangeOk a = true → roomOk a = true → chk a = 0) := fun h h' => by unfold chk; rw [hl, hk, hr, hc, h, h']; rfl
  obtain ⟨r1, r2⟩ := HR
  obtain ⟨c1, c2⟩ := HCc
  go_enter Tryd.func11, Tryd.ntmps11
  go_wp2_with fail
  refine (labelMay_any a.name _ hs).mono ?_
  rintro e w2 ⟨rfl, hw2⟩
  subst hw2
  rw [hl]
  go_wp2_with fail
  refine (within_v a.kind 1 3 true hk _).mono ?_
  rintro e w2 ⟨rfl, hw2⟩
  subst hw2
  go_wp2_with fail
  refine (within_v a.rows 1 16 true hr _).mono ?_
  rintro e w2 ⟨rfl, hw2⟩
  subst hw2
  go_wp2_with fail
  refine (within_v a.cols 1 24 true hc _).mono ?_
  rintro e w2 ⟨rfl, hw2⟩
  subst hw2
  go_wp2_with fail
  obtain ⟨W, hW⟩ : ∃ W, W = (w.alloc (wobj a)).alloc (.cells #[.int .i64 a.x, .int .i64 a.y, .int .i64 a.pitch, .int .i64 a.deep, .int .i64 a.wid, .int .i64 a.len, .int .i64 a.hei] 3) := ⟨_, rfl⟩
  have hB : Below w.heap.size w W := by rw [hW]; exact ((Below.refl _ _).alloc (Nat.le_refl _) _).alloc (by simp) _
  have e0 : W.cell? ⟨w.heap.size, 0, none⟩ = some (.string a.name) := by rw [hW]; go_simp
  have e1 : W.cell? ⟨w.heap.size, 1, none⟩ = some (.int .i64 a.kind) := by rw [hW]; go_simp
  have e2 : W.cell? ⟨w.heap.size, 2, none⟩ = some (.int .i64 a.rows) := by rw [hW]; go_simp
  have e3 : W.cell? ⟨w.heap.size, 3, none⟩ = some (.int .i64 a.cols) := by rw [hW]; go_simp
  have e4 : W.cell? ⟨w.heap.size, 4, none⟩ = some (.int .i64 a.x) := by rw [hW]; go_simp
  have e5 : W.cell? ⟨w.heap.size, 5, none⟩ = some (.int .i64 a.y) := by rw [hW]; go_simp
  have e6 : W.cell? ⟨w.heap.size, 6, none⟩ = some (.int .i64 a.pitch) := by rw [hW]; go_simp
  have e7 : W.cell? ⟨w.heap.size, 7, none⟩ = some (.int .i64 a.wid) := by rw [hW]; go_simp
  have e8 : W.cell? ⟨w.heap.size, 8, none⟩ = some (.int .i64 a.len) := by rw [hW]; go_simp
  have e9 : W.cell? ⟨w.heap.size, 9, none⟩ = some (.int .i64 a.hei) := by rw [hW]; go_simp
  have e10 : W.cell? ⟨w.heap.size, 10, none⟩ = some (.int .i64 a.deep) := by rw [hW]; go_simp
  have e11 : W.cell? ⟨w.heap.size, 11, none⟩ = some (.int .i64 a.cap) := by rw [hW]; go_simp
  have h7 : ∀ k, k < 7 → W.cell? ⟨w.heap.size + 1, k, none⟩ = some (.int .i64 ((sevens a).getD k 0)) := fun k hk => by
    rw [hW]
    rcases (show k = 0 ∨ k = 1 ∨ k = 2 ∨ k = 3 ∨ k = 4 ∨ k = 5 ∨ k = 6 by omega) with e | e | e | e | e | e | e
    all_goals (subst e; simp [go_sem, sevens])
  rw [← hW]
  clear hW
  go_loop [4] (fun i => ∃ k : Nat, k ≤ 7 ∧ i = .int .i64 k ∧ ∀ j, j < k → good7 j ((sevens a).getD j 0)) (fun i => 7 - (intOf i).toNat)
  case atStart => exact ⟨0, by omega, rfl, fun j h => absurd h (Nat.not_lt_zero _)⟩
  case round =>
    obtain ⟨k, hk7, rfl, hgood⟩ := hrel
    have HG : Hid (∀ j, j < k → good7 j ((sevens a).getD j 0)) := hgood
    clear hgood
    by_cases hlt : k < 7
    · have hx := h7 k hlt
      obtain ⟨v, hve⟩ : ∃ v, v = (sevens a).getD k 0 := ⟨_, rfl⟩
      have HV : Hid (v = (sevens a).getD k 0) := hve
      rw [← hve] at hx
      clear hve h7
      have HB : Hid (¬ good7 k v → chk a = 2) := fun h => H2.out (by
        have : ¬ rangeOk a = true := fun hh => h (by rw [HV.out]; exact (HRI.out.1 hh).1 k hlt)
        simpa using this)
      cases hv : inR 0 200000 v with
      | false =>
        have HC : Hid (chk a = 2) := HB.out (fun h => by rw [inR_yes h.1.1 h.1.2] at hv; cases hv)
        go_wp2_with (go_at_call 35; refine (within_v v 0 200000 false hv _).mono ?_; rintro e w2 ⟨rfl, hw2⟩; subst hw2)
        go_ret
        exact ⟨ret_int HC.out.symm, hB⟩
      | true =>
        have hv2 := inR_iff.1 hv
        by_cases h4 : 4 ≤ k
        · have h4' : decide ((4 : Int) ≤ (k : Int)) = true := by simp; omega
          by_cases hz : v = 0
          · have HC : Hid (chk a = 2) := HB.out (fun h => h.2 h4 hz)
            have hz' : (v == 0) = true := by simp [hz]
            clear hz
            go_wp2_with (go_at_call 35; refine (within_v v 0 200000 true hv _).mono ?_; rintro e w2 ⟨rfl, hw2⟩; subst hw2)
            go_ret
            exact ⟨ret_int HC.out.symm, hB⟩
          · have HZ : Hid (v ≠ 0) := hz
            have hz' : (v == 0) = false := by simp [hz]
            clear hz
            go_wp2_with (go_at_call 35; refine (within_v v 0 200000 true hv _).mono ?_; rintro e w2 ⟨rfl, hw2⟩; subst hw2)
            go_round
            case rel => exact ⟨k + 1, by omega, by go_num, fun j hj => (Nat.lt_succ_iff_lt_or_eq.1 hj).elim (HG.out j) fun e => by rw [e, ← HV.out]; exact ⟨hv2, fun _ => HZ.out⟩⟩
            case measure => simp [intOf]; omega
        · have h4' : decide ((4 : Int) ≤ (k : Int)) = false := by simp; omega
          go_wp2_with (go_at_call 35; refine (within_v v 0 200000 true hv _).mono ?_; rintro e w2 ⟨rfl, hw2⟩; subst hw2)
          go_round
          case rel => exact ⟨k + 1, by omega, by go_num, fun j hj => (Nat.lt_succ_iff_lt_or_eq.1 hj).elim (HG.out j) fun e => by rw [e, ← HV.out]; exact ⟨hv2, fun h => absurd h (by omega)⟩⟩
          case measure => simp [intOf]; omega
    · have H7 : Hid (∀ k, k < 7 → good7 k ((sevens a).getD k 0)) := fun j hj => HG.out j (by omega)
      clear h7
      have HC : Hid (chk a = 2) := H2.out (by
        have : ¬ rangeOk a = true := fun hh => by
          have h3 := (HRI.out.1 hh).2
          exact h3.1 (by simpa using hp) (.inr (by simpa using hc1))
        simpa using this)
      go_wp2
      go_ret
      exact ⟨ret_int HC.out.symm, hB⟩

set_option maxHeartbeats 12800000 in
set_option maxRecDepth 100000 in
theorem may_cap1 (a : Wr) (w : World) (hs : a.name.size ≤ maxLen) (hl : lab a.name = true) (hk : inR 1 3 a.kind = true) (hr : inR 1 16 a.rows = true) (hc : inR 1 24 a.cols = true) (hp : (a.pitch == 0) = false) (hk3 : (a.kind == 3) = true) (hcn : (a.cap != 0) = true) :
    Calls Tryd.prog 11 #[wv a] w fun e w' => e = .returned (.int .i64 (chk a)) ∧ Below w.heap.size w w' := by
  have HR := inR_iff.1 hr
  have HCc := inR_iff.1 hc
  have HRI : Hid (rangeOk a = true ↔ (∀ k, k < 7 → good7 k ((sevens a).getD k 0)) ∧ (a.pitch = 0 → ¬ (1 < a.rows ∨ 1 < a.cols)) ∧ capOk a) := range_iff HR.1 HCc.1
  have H2 : Hid (rangeOk a = false → chk a = 2) := fun h => by unfold chk; rw [hl, hk, hr, hc, h]; rfl
  have H8 : Hid (rangeOk a = true → roomOk a = false → chk a = 8) := fun h h' => by unfold chk; rw [hl, hk, hr, hc, h, h']; rfl
  have H0 : Hid (rangeOk a = true → roomOk a = true → chk a = 0) := fun h h' => by unfold chk; rw [hl, hk, hr, hc, h, h']; rfl
  obtain ⟨r1, r2⟩ := HR
  obtain ⟨c1, c2⟩ := HCc
  go_enter Tryd.func11, Tryd.ntmps11
  go_wp2_with fail
  refine (labelMay_any a.name _ hs).mono ?_
  rintro e w2 ⟨rfl, hw2⟩
  subst hw2
  rw [hl]
  go_wp2_with fail
  refine (within_v a.kind 1 3 true hk _).mono ?_
  rintro e w2 ⟨rfl, hw2⟩
  subst hw2
  go_wp2_with fail
  refine (within_v a.rows 1 16 true hr _).mono ?_
  rintro e w2 ⟨rfl, hw2⟩
  subst hw2
  go_wp2_with fail
  refine (within_v a.cols 1 24 true hc _).mono ?_
  rintro e w2 ⟨rfl, hw2⟩
  subst hw2
  go_wp2_with fail
  obtain ⟨W, hW⟩ : ∃ W, W = (w.alloc (wobj a)).alloc (.cells #[.int .i64 a.x, .int .i64 a.y, .int .i64 a.pitch, .int .i64 a.deep, .int .i64 a.wid, .int .i64 a.len, .int .i64 a.hei] 3) := ⟨_, rfl⟩
  have hB : Below w.heap.size w W := by rw [hW]; exact ((Below.refl _ _).alloc (Nat.le_refl _) _).alloc (by simp) _
  have e0 : W.cell? ⟨w.heap.size, 0, none⟩ = some (.string a.name) := by rw [hW]; go_simp
  have e1 : W.cell? ⟨w.heap.size, 1, none⟩ = some (.int .i64 a.kind) := by rw [hW]; go_simp
  have e2 : W.cell? ⟨w.heap.size, 2, none⟩ = some (.int .i64 a.rows) := by rw [hW]; go_simp
  have e3 : W.cell? ⟨w.heap.size, 3, none⟩ = some (.int .i64 a.cols) := by rw [hW]; go_simp
  have e4 : W.cell? ⟨w.heap.size, 4, none⟩ = some (.int .i64 a.x) := by rw [hW]; go_simp
  have e5 : W.cell? ⟨w.heap.size, 5, none⟩ = some (.int .i64 a.y) := by rw [hW]; go_simp
  have e6 : W.cell? ⟨w.heap.size, 6, none⟩ = some (.int .i64 a.pitch) := by rw [hW]; go_simp
  have e7 : W.cell? ⟨w.heap.size, 7, none⟩ = some (.int .i64 a.wid) := by rw [hW]; go_simp
  have e8 : W.cell? ⟨w.heap.size, 8, none⟩ = some (.int .i64 a.len) := by rw [hW]; go_simp
  have e9 : W.cell? ⟨w.heap.size, 9, none⟩ = some (.int .i64 a.hei) := by rw [hW]; go_simp
  have e10 : W.cell? ⟨w.heap.size, 10, none⟩ = some (.int .i64 a.deep) := by rw [hW]; go_simp
  have e11 : W.cell? ⟨w.heap.size, 11, none⟩ = some (.int .i64 a.cap) := by rw [hW]; go_simp
  have h7 : ∀ k, k < 7 → W.cell? ⟨w.heap.size + 1, k, none⟩ = some (.int .i64 ((sevens a).getD k 0)) := fun k hk => by
    rw [hW]
    rcases (show k = 0 ∨ k = 1 ∨ k = 2 ∨ k = 3 ∨ k = 4 ∨ k = 5 ∨ k = 6 by omega) with e | e | e | e | e | e | e
    all_goals (subst e; simp [go_sem, sevens])
  rw [← hW]
  clear hW
  go_loop [4] (fun i => ∃ k : Nat, k ≤ 7 ∧ i = .int .i64 k ∧ ∀ j, j < k → good7 j ((sevens a).getD j 0)) (fun i => 7 - (intOf i).toNat)
  case atStart => exact ⟨0, by omega, rfl, fun j h => absurd h (Nat.not_lt_zero _)⟩
  case round =>
    obtain ⟨k, hk7, rfl, hgood⟩ := hrel
    have HG : Hid (∀ j, j < k → good7 j ((sevens a).getD j 0)) := hgood
    clear hgood
    by_cases hlt : k < 7
    · have hx := h7 k hlt
      obtain ⟨v, hve⟩ : ∃ v, v = (sevens a).getD k 0 := ⟨_, rfl⟩
      have HV : Hid (v = (sevens a).getD k 0) := hve
      rw [← hve] at hx
      clear hve h7
      have HB : Hid (¬ good7 k v → chk a = 2) := fun h => H2.out (by
        have : ¬ rangeOk a = true := fun hh => h (by rw [HV.out]; exact (HRI.out.1 hh).1 k hlt)
        simpa using this)
      cases hv : inR 0 200000 v with
      | false =>
        have HC : Hid (chk a = 2) := HB.out (fun h => by rw [inR_yes h.1.1 h.1.2] at hv; cases hv)
        go_wp2_with (go_at_call 35; refine (within_v v 0 200000 false hv _).mono ?_; rintro e w2 ⟨rfl, hw2⟩; subst hw2)
        go_ret
        exact ⟨ret_int HC.out.symm, hB⟩
      | true =>
        have hv2 := inR_iff.1 hv
        by_cases h4 : 4 ≤ k
        · have h4' : decide ((4 : Int) ≤ (k : Int)) = true := by simp; omega
          by_cases hz : v = 0
          · have HC : Hid (chk a = 2) := HB.out (fun h => h.2 h4 hz)
            have hz' : (v == 0) = true := by simp [hz]
            clear hz
            go_wp2_with (go_at_call 35; refine (within_v v 0 200000 true hv _).mono ?_; rintro e w2 ⟨rfl, hw2⟩; subst hw2)
            go_ret
            exact ⟨ret_int HC.out.symm, hB⟩
          · have HZ : Hid (v ≠ 0) := hz
            have hz' : (v == 0) = false := by simp [hz]
            clear hz
            go_wp2_with (go_at_call 35; refine (within_v v 0 200000 true hv _).mono ?_; rintro e w2 ⟨rfl, hw2⟩; subst hw2)
            go_round
            case rel => exact ⟨k + 1, by omega, by go_num, fun j hj => (Nat.lt_succ_iff_lt_or_eq.1 hj).elim (HG.out j) fun e => by rw [e, ← HV.out]; exact ⟨hv2, fun _ => HZ.out⟩⟩
            case measure => simp [intOf]; omega
        · have h4' : decide ((4 : Int) ≤ (k : Int)) = false := by simp; omega
          go_wp2_with (go_at_call 35; refine (within_v v 0 200000 true hv _).mono ?_; rintro e w2 ⟨rfl, hw2⟩; subst hw2)
          go_round
          case rel => exact ⟨k + 1, by omega, by go_num, fun j hj => (Nat.lt_succ_iff_lt_or_eq.1 hj).elim (HG.out j) fun e => by rw [e, ← HV.out]; exact ⟨hv2, fun h => absurd h (by omega)⟩⟩
          case measure => simp [intOf]; omega
    · have H7 : Hid (∀ k, k < 7 → good7 k ((sevens a).getD k 0)) := fun j hj => HG.out j (by omega)
      clear h7
      have HC : Hid (chk a = 2) := H2.out (by
        have : ¬ rangeOk a = true := fun hh => by
          have h3 := (HRI.out.1 hh).2
          have h4 := h3.2.1 (by simpa using hk3); simp [h4] at hcn
        simpa using this)
      go_wp2
      go_ret
      exact ⟨ret_int HC.out.symm, hB⟩

set_option maxHeartbeats 12800000 in
set_option maxRecDepth 100000 in
theorem may_cap2 (a : Wr) (w : World) (hs : a.name.size ≤ maxLen) (hl : lab a.name = true) (hk : inR 1 3 a.kind = true) (hr : inR 1 16 a.rows = true) (hc : inR 1 24 a.cols = true) (hp : (a.pitch == 0) = false) (hk3 : (a.kind == 3) = false) (hkn : (a.kind != 3) = true) (hcw : inR 1 1000000000 a.cap = false) :
    Calls Tryd.prog 11 #[wv a] w fun e w' => e = .returned (.int .i64 (chk a)) ∧ Below w.heap.size w w' := by
  have HR := inR_iff.1 hr
  have HCc := inR_iff.1 hc
  have HRI : Hid (rangeOk a = true ↔ (∀ k, k < 7 → good7 k ((sevens a).getD k 0)) ∧ (a.pitch = 0 → ¬ (1 < a.rows ∨ 1 < a.cols)) ∧ capOk a) := range_iff HR.1 HCc.1
  have H2 : Hid (rangeOk a = false → chk a = 2) := fun h => by unfold chk; rw [hl, hk, hr, hc, h]; rfl
  have H8 : Hid (rangeOk a = true → roomOk a = false → chk a = 8) := fun h h' => by unfold chk; rw [hl, hk, hr, hc, h, h']; rfl
  have H0 : Hid (rangeOk a = true → roomOk a = true → chk a = 0) := fun h h' => by unfold chk; rw [hl, hk, hr, hc, h, h']; rfl
  obtain ⟨r1, r2⟩ := HR
  obtain ⟨c1, c2⟩ := HCc
  go_enter Tryd.func11, Tryd.ntmps11
  go_wp2_with fail
  refine (labelMay_any a.name _ hs).mono ?_
  rintro e w2 ⟨rfl, hw2⟩
  subst hw2
  rw [hl]
  go_wp2_with fail
  refine (within_v a.kind 1 3 true hk _).mono ?_
  rintro e w2 ⟨rfl, hw2⟩
  subst hw2
  go_wp2_with fail
  refine (within_v a.rows 1 16 true hr _).mono ?_
  rintro e w2 ⟨rfl, hw2⟩
  subst hw2
  go_wp2_with fail
  refine (within_v a.cols 1 24 true hc _).mono ?_
  rintro e w2 ⟨rfl, hw2⟩
  subst hw2
  go_wp2_with fail
  obtain ⟨W, hW⟩ : ∃ W, W = (w.alloc (wobj a)).alloc (.cells #[.int .i64 a.x, .int .i64 a.y, .int .i64 a.pitch, .int .i64 a.deep, .int .i64 a.wid, .int .i64 a.len, .int .i64 a.hei] 3) := ⟨_, rfl⟩
  have hB : Below w.heap.size w W := by rw [hW]; exact ((Below.refl _ _).alloc (Nat.le_refl _) _).alloc (by simp) _
  have e0 : W.cell? ⟨w.heap.size, 0, none⟩ = some (.string a.name) := by rw [hW]; go_simp
  have e1 : W.cell? ⟨w.heap.size, 1, none⟩ = some (.int .i64 a.kind) := by rw [hW]; go_simp
  have e2 : W.cell? ⟨w.heap.size, 2, none⟩ = some (.int .i64 a.rows) := by rw [hW]; go_simp
  have e3 : W.cell? ⟨w.heap.size, 3, none⟩ = some (.int .i64 a.cols) := by rw [hW]; go_simp
  have e4 : W.cell? ⟨w.heap.size, 4, none⟩ = some (.int .i64 a.x) := by rw [hW]; go_simp
  have e5 : W.cell? ⟨w.heap.size, 5, none⟩ = some (.int .i64 a.y) := by rw [hW]; go_simp
  have e6 : W.cell? ⟨w.heap.size, 6, none⟩ = some (.int .i64 a.pitch) := by rw [hW]; go_simp
  have e7 : W.cell? ⟨w.heap.size, 7, none⟩ = some (.int .i64 a.wid) := by rw [hW]; go_simp
  have e8 : W.cell? ⟨w.heap.size, 8, none⟩ = some (.int .i64 a.len) := by rw [hW]; go_simp
  have e9 : W.cell? ⟨w.heap.size, 9, none⟩ = some (.int .i64 a.hei) := by rw [hW]; go_simp
  have e10 : W.cell? ⟨w.heap.size, 10, none⟩ = some (.int .i64 a.deep) := by rw [hW]; go_simp
  have e11 : W.cell? ⟨w.heap.size, 11, none⟩ = some (.int .i64 a.cap) := by rw [hW]; go_simp
  have h7 : ∀ k, k < 7 → W.cell? ⟨w.heap.size + 1, k, none⟩ = some (.int .i64 ((sevens a).getD k 0)) := fun k hk => by
    rw [hW]
    rcases (show k = 0 ∨ k = 1 ∨ k = 2 ∨ k = 3 ∨ k = 4 ∨ k = 5 ∨ k = 6 by omega) with e | e | e | e | e | e | e
    all_goals (subst e; simp [go_sem, sevens])
  rw [← hW]
  clear hW
  go_loop [4] (fun i => ∃ k : Nat, k ≤ 7 ∧ i = .int .i64 k ∧ ∀ j, j < k → good7 j ((sevens a).getD j 0)) (fun i => 7 - (intOf i).toNat)
  case atStart => exact ⟨0, by omega, rfl, fun j h => absurd h (Nat.not_lt_zero _)⟩
  case round =>
    obtain ⟨k, hk7, rfl, hgood⟩ := hrel
    have HG : Hid (∀ j, j < k → good7 j ((sevens a).getD j 0)) := hgood
    clear hgood
    by_cases hlt : k < 7
    · have hx := h7 k hlt
      obtain ⟨v, hve⟩ : ∃ v, v = (sevens a).getD k 0 := ⟨_, rfl⟩
      have HV : Hid (v = (sevens a).getD k 0) := hve
      rw [← hve] at hx
      clear hve h7
      have HB : Hid (¬ good7 k v → chk a = 2) := fun h => H2.out (by
        have : ¬ rangeOk a = true := fun hh => h (by rw [HV.out]; exact (HRI.out.1 hh).1 k hlt)
        simpa using this)
      cases hv : inR 0 200000 v with
      | false =>
        have HC : Hid (chk a = 2) := HB.out (fun h => by rw [inR_yes h.1.1 h.1.2] at hv; cases hv)
        go_wp2_with (go_at_call 35; refine (within_v v 0 200000 false hv _).mono ?_; rintro e w2 ⟨rfl, hw2⟩; subst hw2)
        go_ret
        exact ⟨ret_int HC.out.symm, hB⟩
      | true =>
        have hv2 := inR_iff.1 hv
        by_cases h4 : 4 ≤ k
        · have h4' : decide ((4 : Int) ≤ (k : Int)) = true := by simp; omega
          by_cases hz : v = 0
          · have HC : Hid (chk a = 2) := HB.out (fun h => h.2 h4 hz)
            have hz' : (v == 0) = true := by simp [hz]
            clear hz
            go_wp2_with (go_at_call 35; refine (within_v v 0 200000 true hv _).mono ?_; rintro e w2 ⟨rfl, hw2⟩; subst hw2)
            go_ret
            exact ⟨ret_int HC.out.symm, hB⟩
          · have HZ : Hid (v ≠ 0) := hz
            have hz' : (v == 0) = false := by simp [hz]
            clear hz
            go_wp2_with (go_at_call 35; refine (within_v v 0 200000 true hv _).mono ?_; rintro e w2 ⟨rfl, hw2⟩; subst hw2)
            go_round
            case rel => exact ⟨k + 1, by omega, by go_num, fun j hj => (Nat.lt_succ_iff_lt_or_eq.1 hj).elim (HG.out j) fun e => by rw [e, ← HV.out]; exact ⟨hv2, fun _ => HZ.out⟩⟩
            case measure => simp [intOf]; omega
        · have h4' : decide ((4 : Int) ≤ (k : Int)) = false := by simp; omega
          go_wp2_with (go_at_call 35; refine (within_v v 0 200000 true hv _).mono ?_; rintro e w2 ⟨rfl, hw2⟩; subst hw2)
          go_round
          case rel => exact ⟨k + 1, by omega, by go_num, fun j hj => (Nat.lt_succ_iff_lt_or_eq.1 hj).elim (HG.out j) fun e => by rw [e, ← HV.out]; exact ⟨hv2, fun h => absurd h (by omega)⟩⟩
          case measure => simp [intOf]; omega
    · have H7 : Hid (∀ k, k < 7 → good7 k ((sevens a).getD k 0)) := fun j hj => HG.out j (by omega)
      clear h7
      have HC : Hid (chk a = 2) := H2.out (by
        have : ¬ rangeOk a = true := fun hh => by
          have h3 := (HRI.out.1 hh).2
          have h4 := h3.2.2 (by simpa using hk3); rw [inR_yes h4.1 h4.2] at hcw; cases hcw
        simpa using this)
      go_wp2_with (go_at_call 35; refine (within_v a.cap 1 1000000000 false hcw _).mono ?_; rintro e w2 ⟨rfl, hw2⟩; subst hw2)
      go_ret
      exact ⟨ret_int HC.out.symm, hB⟩

set_option maxHeartbeats 12800000 in
set_option maxRecDepth 100000 in
theorem may_cap3 (a : Wr) (w : World) (hs : a.name.size ≤ maxLen) (hl : lab a.name = true) (hk : inR 1 3 a.kind = true) (hr : inR 1 16 a.rows = true) (hc : inR 1 24 a.cols = true) (hp : (a.pitch == 0) = true) (hr1 : decide (1 < a.rows) = false) (hc1 : decide (1 < a.cols) = false) (hk3 : (a.kind == 3) = true) (hcn : (a.cap != 0) = true) :
    Calls Tryd.prog 11 #[wv a] w fun e w' => e = .returned (.int .i64 (chk a)) ∧ Below w.heap.size w w' := by
  have HR := inR_iff.1 hr
  have HCc := inR_iff.1 hc
  have HRI : Hid (rangeOk a = true ↔ (∀ k, k < 7 → good7 k ((sevens a).getD k 0)) ∧ (a.pitch = 0 → ¬ (1 < a.rows ∨ 1 < a.cols)) ∧ capOk a) := range_iff HR.1 HCc.1
  have H2 : Hid (rangeOk a = false → chk a = 2) := fun h => by unfold chk; rw [hl, hk, hr, hc, h]; rfl
  have H8 : Hid (rangeOk a = true → roomOk a = false → chk a = 8) := fun h h' => by unfold chk; rw [hl, hk, hr, hc, h, h']; rfl
  have H0 : Hid (rangeOk a = true → roomOk a = true → chk a = 0) := fun h h' => by unfold chk; rw [hl, hk, hr, hc, h, h']; rfl
  obtain ⟨r1, r2⟩ := HR
  obtain ⟨c1, c2⟩ := HCc
  go_enter Tryd.func11, Tryd.ntmps11
  go_wp2_with fail
  refine (labelMay_any a.name _ hs).mono ?_
  rintro e w2 ⟨rfl, hw2⟩
  subst hw2
  rw [hl]
  go_wp2_with fail
  refine (within_v a.kind 1 3 true hk _).mono ?_
  rintro e w2 ⟨rfl, hw2⟩
  subst hw2
  go_wp2_with fail
  refine (within_v a.rows 1 16 true hr _).mono ?_
  rintro e w2 ⟨rfl, hw2⟩
  subst hw2
  go_wp2_with fail
  refine (within_v a.cols 1 24 true hc _).mono ?_
  rintro e w2 ⟨rfl, hw2⟩
  subst hw2
  go_wp2_with fail
  obtain ⟨W, hW⟩ : ∃ W, W = (w.alloc (wobj a)).alloc (.cells #[.int .i64 a.x, .int .i64 a.y, .int .i64 a.pitch, .int .i64 a.deep, .int .i64 a.wid, .int .i64 a.len, .int .i64 a.hei] 3) := ⟨_, rfl⟩
  have hB : Below w.heap.size w W := by rw [hW]; exact ((Below.refl _ _).alloc (Nat.le_refl _) _).alloc (by simp) _
  have e0 : W.cell? ⟨w.heap.size, 0, none⟩ = some (.string a.name) := by rw [hW]; go_simp
  have e1 : W.cell? ⟨w.heap.size, 1, none⟩ = some (.int .i64 a.kind) := by rw [hW]; go_simp
  have e2 : W.cell? ⟨w.heap.size, 2, none⟩ = some (.int .i64 a.rows) := by rw [hW]; go_simp
  have e3 : W.cell? ⟨w.heap.size, 3, none⟩ = some (.int .i64 a.cols) := by rw [hW]; go_simp
  have e4 : W.cell? ⟨w.heap.size, 4, none⟩ = some (.int .i64 a.x) := by rw [hW]; go_simp
  have e5 : W.cell? ⟨w.heap.size, 5, none⟩ = some (.int .i64 a.y) := by rw [hW]; go_simp
  have e6 : W.cell? ⟨w.heap.size, 6, none⟩ = some (.int .i64 a.pitch) := by rw [hW]; go_simp
  have e7 : W.cell? ⟨w.heap.size, 7, none⟩ = some (.int .i64 a.wid) := by rw [hW]; go_simp
  have e8 : W.cell? ⟨w.heap.size, 8, none⟩ = some (.int .i64 a.len) := by rw [hW]; go_simp
  have e9 : W.cell? ⟨w.heap.size, 9, none⟩ = some (.int .i64 a.hei) := by rw [hW]; go_simp
  have e10 : W.cell? ⟨w.heap.size, 10, none⟩ = some (.int .i64 a.deep) := by rw [hW]; go_simp
  have e11 : W.cell? ⟨w.heap.size, 11, none⟩ = some (.int .i64 a.cap) := by rw [hW]; go_simp
  have h7 : ∀ k, k < 7 → W.cell? ⟨w.heap.size + 1, k, none⟩ = some (.int .i64 ((sevens a).getD k 0)) := fun k hk => by
    rw [hW]
    rcases (show k = 0 ∨ k = 1 ∨ k = 2 ∨ k = 3 ∨ k = 4 ∨ k = 5 ∨ k = 6 by omega) with e | e | e | e | e | e | e
    all_goals (subst e; simp [go_sem, sevens])
  rw [← hW]
  clear hW
  go_loop [4] (fun i => ∃ k : Nat, k ≤ 7 ∧ i = .int .i64 k ∧ ∀ j, j < k → good7 j ((sevens a).getD j 0)) (fun i => 7 - (intOf i).toNat)
  case atStart => exact ⟨0, by omega, rfl, fun j h => absurd h (Nat.not_lt_zero _)⟩
  case round =>
    obtain ⟨k, hk7, rfl, hgood⟩ := hrel
    have HG : Hid (∀ j, j < k → good7 j ((sevens a).getD j 0)) := hgood
    clear hgood
    by_cases hlt : k < 7
    · have hx := h7 k hlt
      obtain ⟨v, hve⟩ : ∃ v, v = (sevens a).getD k 0 := ⟨_, rfl⟩
      have HV : Hid (v = (sevens a).getD k 0) := hve
      rw [← hve] at hx
      clear hve h7
      have HB : Hid (¬ good7 k v → chk a = 2) := fun h => H2.out (by
        have : ¬ rangeOk a = true := fun hh => h (by rw [HV.out]; exact (HRI.out.1 hh).1 k hlt)
        simpa using this)
      cases hv : inR 0 200000 v with
      | false =>
        have HC : Hid (chk a = 2) := HB.out (fun h => by rw [inR_yes h.1.1 h.1.2] at hv; cases hv)
        go_wp2_with (go_at_call 35; refine (within_v v 0 200000 false hv _).mono ?_; rintro e w2 ⟨rfl, hw2⟩; subst hw2)
        go_ret
        exact ⟨ret_int HC.out.symm, hB⟩
      | true =>
        have hv2 := inR_iff.1 hv
        by_cases h4 : 4 ≤ k
        · have h4' : decide ((4 : Int) ≤ (k : Int)) = true := by simp; omega
          by_cases hz : v = 0
          · have HC : Hid (chk a = 2) := HB.out (fun h => h.2 h4 hz)
            have hz' : (v == 0) = true := by simp [hz]
            clear hz
            go_wp2_with (go_at_call 35; refine (within_v v 0 200000 true hv _).mono ?_; rintro e w2 ⟨rfl, hw2⟩; subst hw2)
            go_ret
            exact ⟨ret_int HC.out.symm, hB⟩
          · have HZ : Hid (v ≠ 0) := hz
            have hz' : (v == 0) = false := by simp [hz]
            clear hz
            go_wp2_with (go_at_call 35; refine (within_v v 0 200000 true hv _).mono ?_; rintro e w2 ⟨rfl, hw2⟩; subst hw2)
            go_round
            case rel => exact ⟨k + 1, by omega, by go_num, fun j hj => (Nat.lt_succ_iff_lt_or_eq.1 hj).elim (HG.out j) fun e => by rw [e, ← HV.out]; exact ⟨hv2, fun _ => HZ.out⟩⟩
            case measure => simp [intOf]; omega
        · have h4' : decide ((4 : Int) ≤ (k : Int)) = false := by simp; omega
          go_wp2_with (go_at_call 35; refine (within_v v 0 200000 true hv _).mono ?_; rintro e w2 ⟨rfl, hw2⟩; subst hw2)
          go_round
          case rel => exact ⟨k + 1, by omega, by go_num, fun j hj => (Nat.lt_succ_iff_lt_or_eq.1 hj).elim (HG.out j) fun e => by rw [e, ← HV.out]; exact ⟨hv2, fun h => absurd h (by omega)⟩⟩
          case measure => simp [intOf]; omega
    · have H7 : Hid (∀ k, k < 7 → good7 k ((sevens a).getD k 0)) := fun j hj => HG.out j (by omega)
      clear h7
      have HC : Hid (chk a = 2) := H2.out (by
        have : ¬ rangeOk a = true := fun hh => by
          have h3 := (HRI.out.1 hh).2
          have h4 := h3.2.1 (by simpa using hk3); simp [h4] at hcn
        simpa using this)
      go_wp2
      go_ret
      exact ⟨ret_int HC.out.symm, hB⟩

set_option maxHeartbeats 12800000 in
set_option maxRecDepth 100000 in
theorem may_cap4 (a : Wr) (w : World) (hs : a.name.size ≤ maxLen) (hl : lab a.name = true) (hk : inR 1 3 a.kind = true) (hr : inR 1 16 a.rows = true) (hc : inR 1 24 a.cols = true) (hp : (a.pitch == 0) = true) (hr1 : decide (1 < a.rows) = false) (hc1 : decide (1 < a.cols) = false) (hk3 : (a.kind == 3) = false) (hkn : (a.kind != 3) = true) (hcw : inR 1 1000000000 a.cap = false) :
    Calls Tryd.prog 11 #[wv a] w fun e w' => e = .returned (.int .i64 (chk a)) ∧ Below w.heap.size w w' := by
  have HR := inR_iff.1 hr
  have HCc := inR_iff.1 hc
  have HRI : Hid (rangeOk a = true ↔ (∀ k, k < 7 → good7 k ((sevens a).getD k 0)) ∧ (a.pitch = 0 → ¬ (1 < a.rows ∨ 1 < a.cols)) ∧ capOk a) := range_iff HR.1 HCc.1
  have H2 : Hid (rangeOk a = false → chk a = 2) := fun h => by unfold chk; rw [hl, hk, hr, hc, h]; rfl
  have H8 : Hid (rangeOk a = true → roomOk a = false → chk a = 8) := fun h h' => by unfold chk; rw [hl, hk, hr, hc, h, h']; rfl
  have H0 : Hid (rangeOk a = true → roomOk a = true → chk a = 0) := fun h h' => by unfold chk; rw [hl, hk, hr, hc, h, h']; rfl
  obtain ⟨r1, r2⟩ := HR
  obtain ⟨c1, c2⟩ := HCc
  go_enter Tryd.func11, Tryd.ntmps11
  go_wp2_with fail
  refine (labelMay_any a.name _ hs).mono ?_
  rintro e w2 ⟨rfl, hw2⟩
  subst hw2
  rw [hl]
  go_wp2_with fail
  refine (within_v a.kind 1 3 true hk _).mono ?_
  rintro e w2 ⟨rfl, hw2⟩
  subst hw2
  go_wp2_with fail
  refine (within_v a.rows 1 16 true hr _).mono ?_
  rintro e w2 ⟨rfl, hw2⟩
  subst hw2
  go_wp2_with fail
  refine (within_v a.cols 1 24 true hc _).mono ?_
  rintro e w2 ⟨rfl, hw2⟩
  subst hw2
  go_wp2_with fail
  obtain ⟨W, hW⟩ : ∃ W, W = (w.alloc (wobj a)).alloc (.cells #[.int .i64 a.x, .int .i64 a.y, .int .i64 a.pitch, .int .i64 a.deep, .int .i64 a.wid, .int .i64 a.len, .int .i64 a.hei] 3) := ⟨_, rfl⟩
  have hB : Below w.heap.size w W := by rw [hW]; exact ((Below.refl _ _).alloc (Nat.le_refl _) _).alloc (by simp) _
  have e0 : W.cell? ⟨w.heap.size, 0, none⟩ = some (.string a.name) := by rw [hW]; go_simp
  have e1 : W.cell? ⟨w.heap.size, 1, none⟩ = some (.int .i64 a.kind) := by rw [hW]; go_simp
  have e2 : W.cell? ⟨w.heap.size, 2, none⟩ = some (.int .i64 a.rows) := by rw [hW]; go_simp
  have e3 : W.cell? ⟨w.heap.size, 3, none⟩ = some (.int .i64 a.cols) := by rw [hW]; go_simp
  have e4 : W.cell? ⟨w.heap.size, 4, none⟩ = some (.int .i64 a.x) := by rw [hW]; go_simp
  have e5 : W.cell? ⟨w.heap.size, 5, none⟩ = some (.int .i64 a.y) := by rw [hW]; go_simp
  have e6 : W.cell? ⟨w.heap.size, 6, none⟩ = some (.int .i64 a.pitch) := by rw [hW]; go_simp
  have e7 : W.cell? ⟨w.heap.size, 7, none⟩ = some (.int .i64 a.wid) := by rw [hW]; go_simp
  have e8 : W.cell? ⟨w.heap.size, 8, none⟩ = some (.int .i64 a.len) := by rw [hW]; go_simp
  have e9 : W.cell? ⟨w.heap.size, 9, none⟩ = some (.int .i64 a.hei) := by rw [hW]; go_simp
  have e10 : W.cell? ⟨w.heap.size, 10, none⟩ = some (.int .i64 a.deep) := by rw [hW]; go_simp
  have e11 : W.cell? ⟨w.heap.size, 11, none⟩ = some (.int .i64 a.cap) := by rw [hW]; go_simp
  have h7 : ∀ k, k < 7 → W.cell? ⟨w.heap.size + 1, k, none⟩ = some (.int .i64 ((sevens a).getD k 0)) := fun k hk => by
    rw [hW]
    rcases (show k = 0 ∨ k = 1 ∨ k = 2 ∨ k = 3 ∨ k = 4 ∨ k = 5 ∨ k = 6 by omega) with e | e | e | e | e | e | e
    all_goals (subst e; simp [go_sem, sevens])
  rw [← hW]
  clear hW
  go_loop [4] (fun i => ∃ k : Nat, k ≤ 7 ∧ i = .int .i64 k ∧ ∀ j, j < k → good7 j ((sevens a).getD j 0)) (fun i => 7 - (intOf i).toNat)
  case atStart => exact ⟨0, by omega, rfl, fun j h => absurd h (Nat.not_lt_zero _)⟩
  case round =>
    obtain ⟨k, hk7, rfl, hgood⟩ := hrel
    have HG : Hid (∀ j, j < k → good7 j ((sevens a).getD j 0)) := hgood
    clear hgood
    by_cases hlt : k < 7
    · have hx := h7 k hlt
      obtain ⟨v, hve⟩ : ∃ v, v = (sevens a).getD k 0 := ⟨_, rfl⟩
      have HV : Hid (v = (sevens a).getD k 0) := hve
      rw [← hve] at hx
      clear hve h7
      have HB : Hid (¬ good7 k v → chk a = 2) := fun h => H2.out (by
        have : ¬ rangeOk a = true := fun hh => h (by rw [HV.out]; exact (HRI.out.1 hh).1 k hlt)
        simpa using this)
      cases hv : inR 0 200000 v with
      | false =>
        have HC : Hid (chk a = 2) := HB.out (fun h => by rw [inR_yes h.1.1 h.1.2] at hv; cases hv)
        go_wp2_with (go_at_call 35; refine (within_v v 0 200000 false hv _).mono ?_; rintro e w2 ⟨rfl, hw2⟩; subst hw2)
        go_ret
        exact ⟨ret_int HC.out.symm, hB⟩
      | true =>
        have hv2 := inR_iff.1 hv
        by_cases h4 : 4 ≤ k
        · have h4' : decide ((4 : Int) ≤ (k : Int)) = true := by simp; omega
          by_cases hz : v = 0
          · have HC : Hid (chk a = 2) := HB.out (fun h => h.2 h4 hz)
            have hz' : (v == 0) = true := by simp [hz]
            clear hz
            go_wp2_with (go_at_call 35; refine (within_v v 0 200000 true hv _).mono ?_; rintro e w2 ⟨rfl, hw2⟩; subst hw2)
            go_ret
            exact ⟨ret_int HC.out.symm, hB⟩
          · have HZ : Hid (v ≠ 0) := hz
            have hz' : (v == 0) = false := by simp [hz]
            clear hz
            go_wp2_with (go_at_call 35; refine (within_v v 0 200000 true hv _).mono ?_; rintro e w2 ⟨rfl, hw2⟩; subst hw2)
            go_round
            case rel => exact ⟨k + 1, by omega, by go_num, fun j hj => (Nat.lt_succ_iff_lt_or_eq.1 hj).elim (HG.out j) fun e => by rw [e, ← HV.out]; exact ⟨hv2, fun _ => HZ.out⟩⟩
            case measure => simp [intOf]; omega
        · have h4' : decide ((4 : Int) ≤ (k : Int)) = false := by simp; omega
          go_wp2_with (go_at_call 35; refine (within_v v 0 200000 true hv _).mono ?_; rintro e w2 ⟨rfl, hw2⟩; subst hw2)
          go_round
          case rel => exact ⟨k + 1, by omega, by go_num, fun j hj => (Nat.lt_succ_iff_lt_or_eq.1 hj).elim (HG.out j) fun e => by rw [e, ← HV.out]; exact ⟨hv2, fun h => absurd h (by omega)⟩⟩
          case measure => simp [intOf]; omega
    · have H7 : Hid (∀ k, k < 7 → good7 k ((sevens a).getD k 0)) := fun j hj => HG.out j (by omega)
      clear h7
      have HC : Hid (chk a = 2) := H2.out (by
        have : ¬ rangeOk a = true := fun hh => by
          have h3 := (HRI.out.1 hh).2
          have h4 := h3.2.2 (by simpa using hk3); rw [inR_yes h4.1 h4.2] at hcw; cases hcw
        simpa using this)
      go_wp2_with (go_at_call 35; refine (within_v a.cap 1 1000000000 false hcw _).mono ?_; rintro e w2 ⟨rfl, hw2⟩; subst hw2)
      go_ret
      exact ⟨ret_int HC.out.symm, hB⟩

end Go.Proofs.YtefjeohhdmmboaaDoor
