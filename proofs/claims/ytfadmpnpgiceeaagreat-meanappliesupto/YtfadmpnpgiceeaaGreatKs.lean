import Derived.Test.YtfadmpnpgiceeaaGreatKr

/- workcellref: WareMay walked. -/
namespace Go.Proofs.YtfadmpnpgiceeaaGreat.W
open Go.RowKit
open Go.Proofs.YtfadmpnpgiceeaaGreat Go.Proofs.YtfadmpnpgiceeaaGreat.F
set_option maxHeartbeats 12800000 in
set_option maxRecDepth 100000 in
theorem may_pitch1 (a : Wr) (w : World) (hs : a.name.size ≤ maxLen) (hl : lab a.name = true) (hk : inR 1 3 a.kind = true) (hr : inR 1 16 a.rows = true) (hc : inR 1 24 a.cols = true) (hp : (a.pitch == 0) = true) (hr1 : decide (1 < a.rows) = true)  :
  Calls Tryz.prog 102 #[wv a] w fun e w' => e = .returned (.int .i64 (chk a)) ∧ Below w.heap.size w w' := by
 have HR := inR_iff.1 hr
 have HCc := inR_iff.1 hc
 have HRI : Hid (rangeOk a = true ↔ (∀ k, k < 7 → good7 k ((sevens a).getD k 0)) ∧ (a.pitch = 0 → ¬ (1 < a.rows ∨ 1 < a.cols)) ∧ capOk a) := range_iff HR.1 HCc.1
 have H2 : Hid (rangeOk a = false → chk a = 2) := fun h => by unfold chk; rw [hl, hk, hr, hc, h]; rfl
 have H8 : Hid (rangeOk a = true → roomOk a = false → chk a = 8) := fun h h' => by unfold chk; rw [hl, hk, hr, hc, h, h']; rfl
 have H0 : Hid (rangeOk a = true → roomOk a = true → chk a = 0) := fun h h' => by unfold chk; rw [hl, hk, hr, hc, h, h']; rfl
 obtain ⟨r1, r2⟩ := HR
 obtain ⟨c1, c2⟩ := HCc
 go_enter Tryz.func102, Tryz.ntmps102
 go_wp2_with fail
 refine (labelMay_any a.name _ hs).mono ?_
 rintro e w2 ⟨rfl, hw2⟩
 subst hw2
 rw [hl]
 go_wp2_with fail
 refine (within_v a.kind 1 3 true hk _).mono ?_
 rintro e w2 ⟨rfl, hw2⟩
 subst hw2
 go_wp2_with fail
 refine (within_v a.rows 1 16 true hr _).mono ?_
 rintro e w2 ⟨rfl, hw2⟩
 subst hw2
 go_wp2_with fail
 refine (within_v a.cols 1 24 true hc _).mono ?_
 rintro e w2 ⟨rfl, hw2⟩
 subst hw2
 go_wp2_with fail
 obtain ⟨W, hW⟩ : ∃ W, W = (w.alloc (wobj a)).alloc (.cells #[.int .i64 a.x, .int .i64 a.y, .int .i64 a.pitch, .int .i64 a.deep, .int .i64 a.wid, .int .i64 a.len, .int .i64 a.hei] 3) := ⟨_, rfl⟩
 have hB : Below w.heap.size w W := by rw [hW]; exact ((brf).alloc (Nat.le_refl _) _).alloc (by simp) _
 have e0 : W.cell? ⟨w.heap.size, 0, none⟩ = some (.string a.name) := by rw [hW]; go_simp
 have e1 : W.cell? ⟨w.heap.size, 1, none⟩ = some (.int .i64 a.kind) := by rw [hW]; go_simp
 have e2 : W.cell? ⟨w.heap.size, 2, none⟩ = some (.int .i64 a.rows) := by rw [hW]; go_simp
 have e3 : W.cell? ⟨w.heap.size, 3, none⟩ = some (.int .i64 a.cols) := by rw [hW]; go_simp
 have e4 : W.cell? ⟨w.heap.size, 4, none⟩ = some (.int .i64 a.x) := by rw [hW]; go_simp
 have e5 : W.cell? ⟨w.heap.size, 5, none⟩ = some (.int .i64 a.y) := by rw [hW]; go_simp
 have e6 : W.cell? ⟨w.heap.size, 6, none⟩ = some (.int .i64 a.pitch) := by rw [hW]; go_simp
 have e7 : W.cell? ⟨w.heap.size, 7, none⟩ = some (.int .i64 a.wid) := by rw [hW]; go_simp
 have e8 : W.cell? ⟨w.heap.size, 8, none⟩ = some (.int .i64 a.len) := by rw [hW]; go_simp
 have e9 : W.cell? ⟨w.heap.size, 9, none⟩ = some (.int .i64 a.hei) := by rw [hW]; go_simp
 have e10 : W.cell? ⟨w.heap.size, 10, none⟩ = some (.int .i64 a.deep) := by rw [hW]; go_simp
 have e11 : W.cell? ⟨w.heap.size, 11, none⟩ = some (.int .i64 a.cap) := by rw [hW]; go_simp
 have h7 : ∀ k, k < 7 → W.cell? ⟨w.heap.size + 1, k, none⟩ = some (.int .i64 ((sevens a).getD k 0)) := fun k hk => by
  rw [hW]
  rcases (show k = 0 ∨ k = 1 ∨ k = 2 ∨ k = 3 ∨ k = 4 ∨ k = 5 ∨ k = 6 by omega) with e | e | e | e | e | e | e
  all_goals (subst e; simp [go_sem, sevens])
 rw [← hW]
 clear hW
 go_loop [4] (fun i => ∃ k : Nat, k ≤ 7 ∧ i = .int .i64 k ∧ ∀ j, j < k → good7 j ((sevens a).getD j 0)) (fun i => 7 - (intOf i).toNat)
 case atStart => exact ⟨0, by omega, rfl, fun j h => absurd h (Nat.not_lt_zero _)⟩
 case round =>
  obtain ⟨k, hk7, rfl, hgood⟩ := hrel
  have HG : Hid (∀ j, j < k → good7 j ((sevens a).getD j 0)) := hgood
  clear hgood
  by_cases hlt : k < 7
  ·have hx := h7 k hlt
   obtain ⟨v, hve⟩ : ∃ v, v = (sevens a).getD k 0 := ⟨_, rfl⟩
   have HV : Hid (v = (sevens a).getD k 0) := hve
   rw [← hve] at hx
   clear hve h7
   have HB : Hid (¬ good7 k v → chk a = 2) := fun h => H2.out (by
    have : ¬ rangeOk a = true := fun hh => h (by rw [HV.out]; exact (HRI.out.1 hh).1 k hlt)
    simpa using this)
   cases hv : inR 0 200000 v with
   | false =>
    have HC : Hid (chk a = 2) := HB.out (fun h => by rw [inR_yes h.1.1 h.1.2] at hv; cases hv)
    go_wp2_with (go_at_call 37; refine (within_v v 0 200000 false hv _).mono ?_; rintro e w2 ⟨rfl, hw2⟩; subst hw2)
    go_ret
    exact ⟨ret_int HC.out.symm, hB⟩
   | true =>
    have hv2 := inR_iff.1 hv
    by_cases h4 : 4 ≤ k
    ·have h4' : decide ((4 : Int) ≤ (k : Int)) = true := by simp; omega
     by_cases hz : v = 0
     ·have HC : Hid (chk a = 2) := HB.out (fun h => h.2 h4 hz)
      have hz' : (v == 0) = true := by simp [hz]
      clear hz
      go_wp2_with (go_at_call 37; refine (within_v v 0 200000 true hv _).mono ?_; rintro e w2 ⟨rfl, hw2⟩; subst hw2)
      go_ret
      exact ⟨ret_int HC.out.symm, hB⟩
     ·have HZ : Hid (v ≠ 0) := hz
      have hz' : (v == 0) = false := by simp [hz]
      clear hz
      go_wp2_with (go_at_call 37; refine (within_v v 0 200000 true hv _).mono ?_; rintro e w2 ⟨rfl, hw2⟩; subst hw2)
      go_round
      case rel => exact ⟨k + 1, by omega, by go_num, fun j hj => (Nat.lt_succ_iff_lt_or_eq.1 hj).elim (HG.out j) fun e => by rw [e, ← HV.out]; exact ⟨hv2, fun _ => HZ.out⟩⟩
      case measure => simp [intOf]; omega
    ·have h4' : decide ((4 : Int) ≤ (k : Int)) = false := by simp; omega
     go_wp2_with (go_at_call 37; refine (within_v v 0 200000 true hv _).mono ?_; rintro e w2 ⟨rfl, hw2⟩; subst hw2)
     go_round
     case rel => exact ⟨k + 1, by omega, by go_num, fun j hj => (Nat.lt_succ_iff_lt_or_eq.1 hj).elim (HG.out j) fun e => by rw [e, ← HV.out]; exact ⟨hv2, fun h => absurd h (by omega)⟩⟩
     case measure => simp [intOf]; omega
  ·have H7 : Hid (∀ k, k < 7 → good7 k ((sevens a).getD k 0)) := fun j hj => HG.out j (by omega)
   clear h7
   have HC : Hid (chk a = 2) := H2.out (by
    have : ¬ rangeOk a = true := fun hh => by
     have h3 := (HRI.out.1 hh).2
     exact h3.1 (by simpa using hp) (.inl (by simpa using hr1))
    simpa using this)
   go_wp2
   go_ret
   exact ⟨ret_int HC.out.symm, hB⟩
set_option maxHeartbeats 12800000 in
set_option maxRecDepth 100000 in
theorem may_pitch2 (a : Wr) (w : World) (hs : a.name.size ≤ maxLen) (hl : lab a.name = true) (hk : inR 1 3 a.kind = true) (hr : inR 1 16 a.rows = true) (hc : inR 1 24 a.cols = true) (hp : (a.pitch == 0) = true) (hr1 : decide (1 < a.rows) = false) (hc1 : decide (1 < a.cols) = true)  :
  Calls Tryz.prog 102 #[wv a] w fun e w' => e = .returned (.int .i64 (chk a)) ∧ Below w.heap.size w w' := by
 have HR := inR_iff.1 hr
 have HCc := inR_iff.1 hc
 have HRI : Hid (rangeOk a = true ↔ (∀ k, k < 7 → good7 k ((sevens a).getD k 0)) ∧ (a.pitch = 0 → ¬ (1 < a.rows ∨ 1 < a.cols)) ∧ capOk a) := range_iff HR.1 HCc.1
 have H2 : Hid (rangeOk a = false → chk a = 2) := fun h => by unfold chk; rw [hl, hk, hr, hc, h]; rfl
 have H8 : Hid (rangeOk a = true → roomOk a = false → chk a = 8) := fun h h' => by unfold chk; rw [hl, hk, hr, hc, h, h']; rfl
 have H0 : Hid (rangeOk a = true → roomOk a = true → chk a = 0) := fun h h' => by unfold chk; rw [hl, hk, hr, hc, h, h']; rfl
 obtain ⟨r1, r2⟩ := HR
 obtain ⟨c1, c2⟩ := HCc
 go_enter Tryz.func102, Tryz.ntmps102
 go_wp2_with fail
 refine (labelMay_any a.name _ hs).mono ?_
 rintro e w2 ⟨rfl, hw2⟩
 subst hw2
 rw [hl]
 go_wp2_with fail
 refine (within_v a.kind 1 3 true hk _).mono ?_
 rintro e w2 ⟨rfl, hw2⟩
 subst hw2
 go_wp2_with fail
 refine (within_v a.rows 1 16 true hr _).mono ?_
 rintro e w2 ⟨rfl, hw2⟩
 subst hw2
 go_wp2_with fail
 refine (within_v a.cols 1 24 true hc _).mono ?_
 rintro e w2 ⟨rfl, hw2⟩
 subst hw2
 go_wp2_with fail
 obtain ⟨W, hW⟩ : ∃ W, W = (w.alloc (wobj a)).alloc (.cells #[.int .i64 a.x, .int .i64 a.y, .int .i64 a.pitch, .int .i64 a.deep, .int .i64 a.wid, .int .i64 a.len, .int .i64 a.hei] 3) := ⟨_, rfl⟩
 have hB : Below w.heap.size w W := by rw [hW]; exact ((brf).alloc (Nat.le_refl _) _).alloc (by simp) _
 have e0 : W.cell? ⟨w.heap.size, 0, none⟩ = some (.string a.name) := by rw [hW]; go_simp
 have e1 : W.cell? ⟨w.heap.size, 1, none⟩ = some (.int .i64 a.kind) := by rw [hW]; go_simp
 have e2 : W.cell? ⟨w.heap.size, 2, none⟩ = some (.int .i64 a.rows) := by rw [hW]; go_simp
 have e3 : W.cell? ⟨w.heap.size, 3, none⟩ = some (.int .i64 a.cols) := by rw [hW]; go_simp
 have e4 : W.cell? ⟨w.heap.size, 4, none⟩ = some (.int .i64 a.x) := by rw [hW]; go_simp
 have e5 : W.cell? ⟨w.heap.size, 5, none⟩ = some (.int .i64 a.y) := by rw [hW]; go_simp
 have e6 : W.cell? ⟨w.heap.size, 6, none⟩ = some (.int .i64 a.pitch) := by rw [hW]; go_simp
 have e7 : W.cell? ⟨w.heap.size, 7, none⟩ = some (.int .i64 a.wid) := by rw [hW]; go_simp
 have e8 : W.cell? ⟨w.heap.size, 8, none⟩ = some (.int .i64 a.len) := by rw [hW]; go_simp
 have e9 : W.cell? ⟨w.heap.size, 9, none⟩ = some (.int .i64 a.hei) := by rw [hW]; go_simp
 have e10 : W.cell? ⟨w.heap.size, 10, none⟩ = some (.int .i64 a.deep) := by rw [hW]; go_simp
 have e11 : W.cell? ⟨w.heap.size, 11, none⟩ = some (.int .i64 a.cap) := by rw [hW]; go_simp
 have h7 : ∀ k, k < 7 → W.cell? ⟨w.heap.size + 1, k, none⟩ = some (.int .i64 ((sevens a).getD k 0)) := fun k hk => by
  rw [hW]
  rcases (show k = 0 ∨ k = 1 ∨ k = 2 ∨ k = 3 ∨ k = 4 ∨ k = 5 ∨ k = 6 by omega) with e | e | e | e | e | e | e
  all_goals (subst e; simp [go_sem, sevens])
 rw [← hW]
 clear hW
 go_loop [4] (fun i => ∃ k : Nat, k ≤ 7 ∧ i = .int .i64 k ∧ ∀ j, j < k → good7 j ((sevens a).getD j 0)) (fun i => 7 - (intOf i).toNat)
 case atStart => exact ⟨0, by omega, rfl, fun j h => absurd h (Nat.not_lt_zero _)⟩
 case round =>
  obtain ⟨k, hk7, rfl, hgood⟩ := hrel
  have HG : Hid (∀ j, j < k → good7 j ((sevens a).getD j 0)) := hgood
  clear hgood
  by_cases hlt : k < 7
  ·have hx := h7 k hlt
   obtain ⟨v, hve⟩ : ∃ v, v = (sevens a).getD k 0 := ⟨_, rfl⟩
   have HV : Hid (v = (sevens a).getD k 0) := hve
   rw [← hve] at hx
   clear hve h7
   have HB : Hid (¬ good7 k v → chk a = 2) := fun h => H2.out (by
    have : ¬ rangeOk a = true := fun hh => h (by rw [HV.out]; exact (HRI.out.1 hh).1 k hlt)
    simpa using this)
   cases hv : inR 0 200000 v with
   | false =>
    have HC : Hid (chk a = 2) := HB.out (fun h => by rw [inR_yes h.1.1 h.1.2] at hv; cases hv)
    go_wp2_with (go_at_call 37; refine (within_v v 0 200000 false hv _).mono ?_; rintro e w2 ⟨rfl, hw2⟩; subst hw2)
    go_ret
    exact ⟨ret_int HC.out.symm, hB⟩
   | true =>
    have hv2 := inR_iff.1 hv
    by_cases h4 : 4 ≤ k
    ·have h4' : decide ((4 : Int) ≤ (k : Int)) = true := by simp; omega
     by_cases hz : v = 0
     ·have HC : Hid (chk a = 2) := HB.out (fun h => h.2 h4 hz)
      have hz' : (v == 0) = true := by simp [hz]
      clear hz
      go_wp2_with (go_at_call 37; refine (within_v v 0 200000 true hv _).mono ?_; rintro e w2 ⟨rfl, hw2⟩; subst hw2)
      go_ret
      exact ⟨ret_int HC.out.symm, hB⟩
     ·have HZ : Hid (v ≠ 0) := hz
      have hz' : (v == 0) = false := by simp [hz]
      clear hz
      go_wp2_with (go_at_call 37; refine (within_v v 0 200000 true hv _).mono ?_; rintro e w2 ⟨rfl, hw2⟩; subst hw2)
      go_round
      case rel => exact ⟨k + 1, by omega, by go_num, fun j hj => (Nat.lt_succ_iff_lt_or_eq.1 hj).elim (HG.out j) fun e => by rw [e, ← HV.out]; exact ⟨hv2, fun _ => HZ.out⟩⟩
      case measure => simp [intOf]; omega
    ·have h4' : decide ((4 : Int) ≤ (k : Int)) = false := by simp; omega
     go_wp2_with (go_at_call 37; refine (within_v v 0 200000 true hv _).mono ?_; rintro e w2 ⟨rfl, hw2⟩; subst hw2)
     go_round
     case rel => exact ⟨k + 1, by omega, by go_num, fun j hj => (Nat.lt_succ_iff_lt_or_eq.1 hj).elim (HG.out j) fun e => by rw [e, ← HV.out]; exact ⟨hv2, fun h => absurd h (by omega)⟩⟩
     case measure => simp [intOf]; omega
  ·have H7 : Hid (∀ k, k < 7 → good7 k ((sevens a).getD k 0)) := fun j hj => HG.out j (by omega)
   clear h7
   have HC : Hid (chk a = 2) := H2.out (by
    have : ¬ rangeOk a = true := fun hh => by
     have h3 := (HRI.out.1 hh).2
     exact h3.1 (by simpa using hp) (.inr (by simpa using hc1))
    simpa using this)
   go_wp2
   go_ret
   exact ⟨ret_int HC.out.symm, hB⟩
set_option maxHeartbeats 12800000 in
set_option maxRecDepth 100000 in
theorem may_cap1 (a : Wr) (w : World) (hs : a.name.size ≤ maxLen) (hl : lab a.name = true) (hk : inR 1 3 a.kind = true) (hr : inR 1 16 a.rows = true) (hc : inR 1 24 a.cols = true) (hp : (a.pitch == 0) = false) (hk3 : (a.kind == 3) = true) (hcn : (a.cap != 0) = true) :
  Calls Tryz.prog 102 #[wv a] w fun e w' => e = .returned (.int .i64 (chk a)) ∧ Below w.heap.size w w' := by
 have HR := inR_iff.1 hr
 have HCc := inR_iff.1 hc
 have HRI : Hid (rangeOk a = true ↔ (∀ k, k < 7 → good7 k ((sevens a).getD k 0)) ∧ (a.pitch = 0 → ¬ (1 < a.rows ∨ 1 < a.cols)) ∧ capOk a) := range_iff HR.1 HCc.1
 have H2 : Hid (rangeOk a = false → chk a = 2) := fun h => by unfold chk; rw [hl, hk, hr, hc, h]; rfl
 have H8 : Hid (rangeOk a = true → roomOk a = false → chk a = 8) := fun h h' => by unfold chk; rw [hl, hk, hr, hc, h, h']; rfl
 have H0 : Hid (rangeOk a = true → roomOk a = true → chk a = 0) := fun h h' => by unfold chk; rw [hl, hk, hr, hc, h, h']; rfl
 obtain ⟨r1, r2⟩ := HR
 obtain ⟨c1, c2⟩ := HCc
 go_enter Tryz.func102, Tryz.ntmps102
 go_wp2_with fail
 refine (labelMay_any a.name _ hs).mono ?_
 rintro e w2 ⟨rfl, hw2⟩
 subst hw2
 rw [hl]
 go_wp2_with fail
 refine (within_v a.kind 1 3 true hk _).mono ?_
 rintro e w2 ⟨rfl, hw2⟩
 subst hw2
 go_wp2_with fail
 refine (within_v a.rows 1 16 true hr _).mono ?_
 rintro e w2 ⟨rfl, hw2⟩
 subst hw2
 go_wp2_with fail
 refine (within_v a.cols 1 24 true hc _).mono ?_
 rintro e w2 ⟨rfl, hw2⟩
 subst hw2
 go_wp2_with fail
 obtain ⟨W, hW⟩ : ∃ W, W = (w.alloc (wobj a)).alloc (.cells #[.int .i64 a.x, .int .i64 a.y, .int .i64 a.pitch, .int .i64 a.deep, .int .i64 a.wid, .int .i64 a.len, .int .i64 a.hei] 3) := ⟨_, rfl⟩
 have hB : Below w.heap.size w W := by rw [hW]; exact ((brf).alloc (Nat.le_refl _) _).alloc (by simp) _
 have e0 : W.cell? ⟨w.heap.size, 0, none⟩ = some (.string a.name) := by rw [hW]; go_simp
 have e1 : W.cell? ⟨w.heap.size, 1, none⟩ = some (.int .i64 a.kind) := by rw [hW]; go_simp
 have e2 : W.cell? ⟨w.heap.size, 2, none⟩ = some (.int .i64 a.rows) := by rw [hW]; go_simp
 have e3 : W.cell? ⟨w.heap.size, 3, none⟩ = some (.int .i64 a.cols) := by rw [hW]; go_simp
 have e4 : W.cell? ⟨w.heap.size, 4, none⟩ = some (.int .i64 a.x) := by rw [hW]; go_simp
 have e5 : W.cell? ⟨w.heap.size, 5, none⟩ = some (.int .i64 a.y) := by rw [hW]; go_simp
 have e6 : W.cell? ⟨w.heap.size, 6, none⟩ = some (.int .i64 a.pitch) := by rw [hW]; go_simp
 have e7 : W.cell? ⟨w.heap.size, 7, none⟩ = some (.int .i64 a.wid) := by rw [hW]; go_simp
 have e8 : W.cell? ⟨w.heap.size, 8, none⟩ = some (.int .i64 a.len) := by rw [hW]; go_simp
 have e9 : W.cell? ⟨w.heap.size, 9, none⟩ = some (.int .i64 a.hei) := by rw [hW]; go_simp
 have e10 : W.cell? ⟨w.heap.size, 10, none⟩ = some (.int .i64 a.deep) := by rw [hW]; go_simp
 have e11 : W.cell? ⟨w.heap.size, 11, none⟩ = some (.int .i64 a.cap) := by rw [hW]; go_simp
 have h7 : ∀ k, k < 7 → W.cell? ⟨w.heap.size + 1, k, none⟩ = some (.int .i64 ((sevens a).getD k 0)) := fun k hk => by
  rw [hW]
  rcases (show k = 0 ∨ k = 1 ∨ k = 2 ∨ k = 3 ∨ k = 4 ∨ k = 5 ∨ k = 6 by omega) with e | e | e | e | e | e | e
  all_goals (subst e; simp [go_sem, sevens])
 rw [← hW]
 clear hW
 go_loop [4] (fun i => ∃ k : Nat, k ≤ 7 ∧ i = .int .i64 k ∧ ∀ j, j < k → good7 j ((sevens a).getD j 0)) (fun i => 7 - (intOf i).toNat)
 case atStart => exact ⟨0, by omega, rfl, fun j h => absurd h (Nat.not_lt_zero _)⟩
 case round =>
  obtain ⟨k, hk7, rfl, hgood⟩ := hrel
  have HG : Hid (∀ j, j < k → good7 j ((sevens a).getD j 0)) := hgood
  clear hgood
  by_cases hlt : k < 7
  ·have hx := h7 k hlt
   obtain ⟨v, hve⟩ : ∃ v, v = (sevens a).getD k 0 := ⟨_, rfl⟩
   have HV : Hid (v = (sevens a).getD k 0) := hve
   rw [← hve] at hx
   clear hve h7
   have HB : Hid (¬ good7 k v → chk a = 2) := fun h => H2.out (by
    have : ¬ rangeOk a = true := fun hh => h (by rw [HV.out]; exact (HRI.out.1 hh).1 k hlt)
    simpa using this)
   cases hv : inR 0 200000 v with
   | false =>
    have HC : Hid (chk a = 2) := HB.out (fun h => by rw [inR_yes h.1.1 h.1.2] at hv; cases hv)
    go_wp2_with (go_at_call 37; refine (within_v v 0 200000 false hv _).mono ?_; rintro e w2 ⟨rfl, hw2⟩; subst hw2)
    go_ret
    exact ⟨ret_int HC.out.symm, hB⟩
   | true =>
    have hv2 := inR_iff.1 hv
    by_cases h4 : 4 ≤ k
    ·have h4' : decide ((4 : Int) ≤ (k : Int)) = true := by simp; omega
     by_cases hz : v = 0
     ·have HC : Hid (chk a = 2) := HB.out (fun h => h.2 h4 hz)
      have hz' : (v == 0) = true := by simp [hz]
      clear hz
      go_wp2_with (go_at_call 37; refine (within_v v 0 200000 true hv _).mono ?_; rintro e w2 ⟨rfl, hw2⟩; subst hw2)
      go_ret
      exact ⟨ret_int HC.out.symm, hB⟩
     ·have HZ : Hid (v ≠ 0) := hz
      have hz' : (v == 0) = false := by simp [hz]
      clear hz
      go_wp2_with (go_at_call 37; refine (within_v v 0 200000 true hv _).mono ?_; rintro e w2 ⟨rfl, hw2⟩; subst hw2)
      go_round
      case rel => exact ⟨k + 1, by omega, by go_num, fun j hj => (Nat.lt_succ_iff_lt_or_eq.1 hj).elim (HG.out j) fun e => by rw [e, ← HV.out]; exact ⟨hv2, fun _ => HZ.out⟩⟩
      case measure => simp [intOf]; omega
    ·have h4' : decide ((4 : Int) ≤ (k : Int)) = false := by simp; omega
     go_wp2_with (go_at_call 37; refine (within_v v 0 200000 true hv _).mono ?_; rintro e w2 ⟨rfl, hw2⟩; subst hw2)
     go_round
     case rel => exact ⟨k + 1, by omega, by go_num, fun j hj => (Nat.lt_succ_iff_lt_or_eq.1 hj).elim (HG.out j) fun e => by rw [e, ← HV.out]; exact ⟨hv2, fun h => absurd h (by omega)⟩⟩
     case measure => simp [intOf]; omega
  ·have H7 : Hid (∀ k, k < 7 → good7 k ((sevens a).getD k 0)) := fun j hj => HG.out j (by omega)
   clear h7
   have HC : Hid (chk a = 2) := H2.out (by
    have : ¬ rangeOk a = true := fun hh => by
     have h3 := (HRI.out.1 hh).2
     have h4 := h3.2.1 (by simpa using hk3); simp [h4] at hcn
    simpa using this)
   go_wp2
   go_ret
   exact ⟨ret_int HC.out.symm, hB⟩
set_option maxHeartbeats 12800000 in
set_option maxRecDepth 100000 in
theorem may_cap2 (a : Wr) (w : World) (hs : a.name.size ≤ maxLen) (hl : lab a.name = true) (hk : inR 1 3 a.kind = true) (hr : inR 1 16 a.rows = true) (hc : inR 1 24 a.cols = true) (hp : (a.pitch == 0) = false) (hk3 : (a.kind == 3) = false) (hkn : (a.kind != 3) = true) (hcw : inR 1 1000000000 a.cap = false) :
  Calls Tryz.prog 102 #[wv a] w fun e w' => e = .returned (.int .i64 (chk a)) ∧ Below w.heap.size w w' := by
 have HR := inR_iff.1 hr
 have HCc := inR_iff.1 hc
 have HRI : Hid (rangeOk a = true ↔ (∀ k, k < 7 → good7 k ((sevens a).getD k 0)) ∧ (a.pitch = 0 → ¬ (1 < a.rows ∨ 1 < a.cols)) ∧ capOk a) := range_iff HR.1 HCc.1
 have H2 : Hid (rangeOk a = false → chk a = 2) := fun h => by unfold chk; rw [hl, hk, hr, hc, h]; rfl
 have H8 : Hid (rangeOk a = true → roomOk a = false → chk a = 8) := fun h h' => by unfold chk; rw [hl, hk, hr, hc, h, h']; rfl
 have H0 : Hid (rangeOk a = true → roomOk a = true → chk a = 0) := fun h h' => by unfold chk; rw [hl, hk, hr, hc, h, h']; rfl
 obtain ⟨r1, r2⟩ := HR
 obtain ⟨c1, c2⟩ := HCc
 go_enter Tryz.func102, Tryz.ntmps102
 go_wp2_with fail
 refine (labelMay_any a.name _ hs).mono ?_
 rintro e w2 ⟨rfl, hw2⟩
 subst hw2
 rw [hl]
 go_wp2_with fail
 refine (within_v a.kind 1 3 true hk _).mono ?_
 rintro e w2 ⟨rfl, hw2⟩
 subst hw2
 go_wp2_with fail
 refine (within_v a.rows 1 16 true hr _).mono ?_
 rintro e w2 ⟨rfl, hw2⟩
 subst hw2
 go_wp2_with fail
 refine (within_v a.cols 1 24 true hc _).mono ?_
 rintro e w2 ⟨rfl, hw2⟩
 subst hw2
 go_wp2_with fail
 obtain ⟨W, hW⟩ : ∃ W, W = (w.alloc (wobj a)).alloc (.cells #[.int .i64 a.x, .int .i64 a.y, .int .i64 a.pitch, .int .i64 a.deep, .int .i64 a.wid, .int .i64 a.len, .int .i64 a.hei] 3) := ⟨_, rfl⟩
 have hB : Below w.heap.size w W := by rw [hW]; exact ((brf).alloc (Nat.le_refl _) _).alloc (by simp) _
 have e0 : W.cell? ⟨w.heap.size, 0, none⟩ = some (.string a.name) := by rw [hW]; go_simp
 have e1 : W.cell? ⟨w.heap.size, 1, none⟩ = some (.int .i64 a.kind) := by rw [hW]; go_simp
 have e2 : W.cell? ⟨w.heap.size, 2, none⟩ = some (.int .i64 a.rows) := by rw [hW]; go_simp
 have e3 : W.cell? ⟨w.heap.size, 3, none⟩ = some (.int .i64 a.cols) := by rw [hW]; go_simp
 have e4 : W.cell? ⟨w.heap.size, 4, none⟩ = some (.int .i64 a.x) := by rw [hW]; go_simp
 have e5 : W.cell? ⟨w.heap.size, 5, none⟩ = some (.int .i64 a.y) := by rw [hW]; go_simp
 have e6 : W.cell? ⟨w.heap.size, 6, none⟩ = some (.int .i64 a.pitch) := by rw [hW]; go_simp
 have e7 : W.cell? ⟨w.heap.size, 7, none⟩ = some (.int .i64 a.wid) := by rw [hW]; go_simp
 have e8 : W.cell? ⟨w.heap.size, 8, none⟩ = some (.int .i64 a.len) := by rw [hW]; go_simp
 have e9 : W.cell? ⟨w.heap.size, 9, none⟩ = some (.int .i64 a.hei) := by rw [hW]; go_simp
 have e10 : W.cell? ⟨w.heap.size, 10, none⟩ = some (.int .i64 a.deep) := by rw [hW]; go_simp
 have e11 : W.cell? ⟨w.heap.size, 11, none⟩ = some (.int .i64 a.cap) := by rw [hW]; go_simp
 have h7 : ∀ k, k < 7 → W.cell? ⟨w.heap.size + 1, k, none⟩ = some (.int .i64 ((sevens a).getD k 0)) := fun k hk => by
  rw [hW]
  rcases (show k = 0 ∨ k = 1 ∨ k = 2 ∨ k = 3 ∨ k = 4 ∨ k = 5 ∨ k = 6 by omega) with e | e | e | e | e | e | e
  all_goals (subst e; simp [go_sem, sevens])
 rw [← hW]
 clear hW
 go_loop [4] (fun i => ∃ k : Nat, k ≤ 7 ∧ i = .int .i64 k ∧ ∀ j, j < k → good7 j ((sevens a).getD j 0)) (fun i => 7 - (intOf i).toNat)
 case atStart => exact ⟨0, by omega, rfl, fun j h => absurd h (Nat.not_lt_zero _)⟩
 case round =>
  obtain ⟨k, hk7, rfl, hgood⟩ := hrel
  have HG : Hid (∀ j, j < k → good7 j ((sevens a).getD j 0)) := hgood
  clear hgood
  by_cases hlt : k < 7
  ·have hx := h7 k hlt
   obtain ⟨v, hve⟩ : ∃ v, v = (sevens a).getD k 0 := ⟨_, rfl⟩
   have HV : Hid (v = (sevens a).getD k 0) := hve
   rw [← hve] at hx
   clear hve h7
   have HB : Hid (¬ good7 k v → chk a = 2) := fun h => H2.out (by
    have : ¬ rangeOk a = true := fun hh => h (by rw [HV.out]; exact (HRI.out.1 hh).1 k hlt)
    simpa using this)
   cases hv : inR 0 200000 v with
   | false =>
    have HC : Hid (chk a = 2) := HB.out (fun h => by rw [inR_yes h.1.1 h.1.2] at hv; cases hv)
    go_wp2_with (go_at_call 37; refine (within_v v 0 200000 false hv _).mono ?_; rintro e w2 ⟨rfl, hw2⟩; subst hw2)
    go_ret
    exact ⟨ret_int HC.out.symm, hB⟩
   | true =>
    have hv2 := inR_iff.1 hv
    by_cases h4 : 4 ≤ k
    ·have h4' : decide ((4 : Int) ≤ (k : Int)) = true := by simp; omega
     by_cases hz : v = 0
     ·have HC : Hid (chk a = 2) := HB.out (fun h => h.2 h4 hz)
      have hz' : (v == 0) = true := by simp [hz]
      clear hz
      go_wp2_with (go_at_call 37; refine (within_v v 0 200000 true hv _).mono ?_; rintro e w2 ⟨rfl, hw2⟩; subst hw2)
      go_ret
      exact ⟨ret_int HC.out.symm, hB⟩
     ·have HZ : Hid (v ≠ 0) := hz
      have hz' : (v == 0) = false := by simp [hz]
      clear hz
      go_wp2_with (go_at_call 37; refine (within_v v 0 200000 true hv _).mono ?_; rintro e w2 ⟨rfl, hw2⟩; subst hw2)
      go_round
      case rel => exact ⟨k + 1, by omega, by go_num, fun j hj => (Nat.lt_succ_iff_lt_or_eq.1 hj).elim (HG.out j) fun e => by rw [e, ← HV.out]; exact ⟨hv2, fun _ => HZ.out⟩⟩
      case measure => simp [intOf]; omega
    ·have h4' : decide ((4 : Int) ≤ (k : Int)) = false := by simp; omega
     go_wp2_with (go_at_call 37; refine (within_v v 0 200000 true hv _).mono ?_; rintro e w2 ⟨rfl, hw2⟩; subst hw2)
     go_round
     case rel => exact ⟨k + 1, by omega, by go_num, fun j hj => (Nat.lt_succ_iff_lt_or_eq.1 hj).elim (HG.out j) fun e => by rw [e, ← HV.out]; exact ⟨hv2, fun h => absurd h (by omega)⟩⟩
     case measure => simp [intOf]; omega
  ·have H7 : Hid (∀ k, k < 7 → good7 k ((sevens a).getD k 0)) := fun j hj => HG.out j (by omega)
   clear h7
   have HC : Hid (chk a = 2) := H2.out (by
    have : ¬ rangeOk a = true := fun hh => by
     have h3 := (HRI.out.1 hh).2
     have h4 := h3.2.2 (by simpa using hk3); rw [inR_yes h4.1 h4.2] at hcw; cases hcw
    simpa using this)
   go_wp2_with (go_at_call 37; refine (within_v a.cap 1 1000000000 false hcw _).mono ?_; rintro e w2 ⟨rfl, hw2⟩; subst hw2)
   go_ret
   exact ⟨ret_int HC.out.symm, hB⟩
set_option maxHeartbeats 12800000 in
set_option maxRecDepth 100000 in
theorem may_cap3 (a : Wr) (w : World) (hs : a.name.size ≤ maxLen) (hl : lab a.name = true) (hk : inR 1 3 a.kind = true) (hr : inR 1 16 a.rows = true) (hc : inR 1 24 a.cols = true) (hp : (a.pitch == 0) = true) (hr1 : decide (1 < a.rows) = false) (hc1 : decide (1 < a.cols) = false) (hk3 : (a.kind == 3) = true) (hcn : (a.cap != 0) = true) :
  Calls Tryz.prog 102 #[wv a] w fun e w' => e = .returned (.int .i64 (chk a)) ∧ Below w.heap.size w w' := by
 have HR := inR_iff.1 hr
 have HCc := inR_iff.1 hc
 have HRI : Hid (rangeOk a = true ↔ (∀ k, k < 7 → good7 k ((sevens a).getD k 0)) ∧ (a.pitch = 0 → ¬ (1 < a.rows ∨ 1 < a.cols)) ∧ capOk a) := range_iff HR.1 HCc.1
 have H2 : Hid (rangeOk a = false → chk a = 2) := fun h => by unfold chk; rw [hl, hk, hr, hc, h]; rfl
 have H8 : Hid (rangeOk a = true → roomOk a = false → chk a = 8) := fun h h' => by unfold chk; rw [hl, hk, hr, hc, h, h']; rfl
 have H0 : Hid (rangeOk a = true → roomOk a = true → chk a = 0) := fun h h' => by unfold chk; rw [hl, hk, hr, hc, h, h']; rfl
 obtain ⟨r1, r2⟩ := HR
 obtain ⟨c1, c2⟩ := HCc
 go_enter Tryz.func102, Tryz.ntmps102
 go_wp2_with fail
 refine (labelMay_any a.name _ hs).mono ?_
 rintro e w2 ⟨rfl, hw2⟩
 subst hw2
 rw [hl]
 go_wp2_with fail
 refine (within_v a.kind 1 3 true hk _).mono ?_
 rintro e w2 ⟨rfl, hw2⟩
 subst hw2
 go_wp2_with fail
 refine (within_v a.rows 1 16 true hr _).mono ?_
 rintro e w2 ⟨rfl, hw2⟩
 subst hw2
 go_wp2_with fail
 refine (within_v a.cols 1 24 true hc _).mono ?_
 rintro e w2 ⟨rfl, hw2⟩
 subst hw2
 go_wp2_with fail
 obtain ⟨W, hW⟩ : ∃ W, W = (w.alloc (wobj a)).alloc (.cells #[.int .i64 a.x, .int .i64 a.y, .int .i64 a.pitch, .int .i64 a.deep, .int .i64 a.wid, .int .i64 a.len, .int .i64 a.hei] 3) := ⟨_, rfl⟩
 have hB : Below w.heap.size w W := by rw [hW]; exact ((brf).alloc (Nat.le_refl _) _).alloc (by simp) _
 have e0 : W.cell? ⟨w.heap.size, 0, none⟩ = some (.string a.name) := by rw [hW]; go_simp
 have e1 : W.cell? ⟨w.heap.size, 1, none⟩ = some (.int .i64 a.kind) := by rw [hW]; go_simp
 have e2 : W.cell? ⟨w.heap.size, 2, none⟩ = some (.int .i64 a.rows) := by rw [hW]; go_simp
 have e3 : W.cell? ⟨w.heap.size, 3, none⟩ = some (.int .i64 a.cols) := by rw [hW]; go_simp
 have e4 : W.cell? ⟨w.heap.size, 4, none⟩ = some (.int .i64 a.x) := by rw [hW]; go_simp
 have e5 : W.cell? ⟨w.heap.size, 5, none⟩ = some (.int .i64 a.y) := by rw [hW]; go_simp
 have e6 : W.cell? ⟨w.heap.size, 6, none⟩ = some (.int .i64 a.pitch) := by rw [hW]; go_simp
 have e7 : W.cell? ⟨w.heap.size, 7, none⟩ = some (.int .i64 a.wid) := by rw [hW]; go_simp
 have e8 : W.cell? ⟨w.heap.size, 8, none⟩ = some (.int .i64 a.len) := by rw [hW]; go_simp
 have e9 : W.cell? ⟨w.heap.size, 9, none⟩ = some (.int .i64 a.hei) := by rw [hW]; go_simp
 have e10 : W.cell? ⟨w.heap.size, 10, none⟩ = some (.int .i64 a.deep) := by rw [hW]; go_simp
 have e11 : W.cell? ⟨w.heap.size, 11, none⟩ = some (.int .i64 a.cap) := by rw [hW]; go_simp
 have h7 : ∀ k, k < 7 → W.cell? ⟨w.heap.size + 1, k, none⟩ = some (.int .i64 ((sevens a).getD k 0)) := fun k hk => by
  rw [hW]
  rcases (show k = 0 ∨ k = 1 ∨ k = 2 ∨ k = 3 ∨ k = 4 ∨ k = 5 ∨ k = 6 by omega) with e | e | e | e | e | e | e
  all_goals (subst e; simp [go_sem, sevens])
 rw [← hW]
 clear hW
 go_loop [4] (fun i => ∃ k : Nat, k ≤ 7 ∧ i = .int .i64 k ∧ ∀ j, j < k → good7 j ((sevens a).getD j 0)) (fun i => 7 - (intOf i).toNat)
 case atStart => exact ⟨0, by omega, rfl, fun j h => absurd h (Nat.not_lt_zero _)⟩
 case round =>
  obtain ⟨k, hk7, rfl, hgood⟩ := hrel
  have HG : Hid (∀ j, j < k → good7 j ((sevens a).getD j 0)) := hgood
  clear hgood
  by_cases hlt : k < 7
  ·have hx := h7 k hlt
   obtain ⟨v, hve⟩ : ∃ v, v = (sevens a).getD k 0 := ⟨_, rfl⟩
   have HV : Hid (v = (sevens a).getD k 0) := hve
   rw [← hve] at hx
   clear hve h7
   have HB : Hid (¬ good7 k v → chk a = 2) := fun h => H2.out (by
    have : ¬ rangeOk a = true := fun hh => h (by rw [HV.out]; exact (HRI.out.1 hh).1 k hlt)
    simpa using this)
   cases hv : inR 0 200000 v with
   | false =>
    have HC : Hid (chk a = 2) := HB.out (fun h => by rw [inR_yes h.1.1 h.1.2] at hv; cases hv)
    go_wp2_with (go_at_call 37; refine (within_v v 0 200000 false hv _).mono ?_; rintro e w2 ⟨rfl, hw2⟩; subst hw2)
    go_ret
    exact ⟨ret_int HC.out.symm, hB⟩
   | true =>
    have hv2 := inR_iff.1 hv
    by_cases h4 : 4 ≤ k
    ·have h4' : decide ((4 : Int) ≤ (k : Int)) = true := by simp; omega
     by_cases hz : v = 0
     ·have HC : Hid (chk a = 2) := HB.out (fun h => h.2 h4 hz)
      have hz' : (v == 0) = true := by simp [hz]
      clear hz
      go_wp2_with (go_at_call 37; refine (within_v v 0 200000 true hv _).mono ?_; rintro e w2 ⟨rfl, hw2⟩; subst hw2)
      go_ret
      exact ⟨ret_int HC.out.symm, hB⟩
     ·have HZ : Hid (v ≠ 0) := hz
      have hz' : (v == 0) = false := by simp [hz]
      clear hz
      go_wp2_with (go_at_call 37; refine (within_v v 0 200000 true hv _).mono ?_; rintro e w2 ⟨rfl, hw2⟩; subst hw2)
      go_round
      case rel => exact ⟨k + 1, by omega, by go_num, fun j hj => (Nat.lt_succ_iff_lt_or_eq.1 hj).elim (HG.out j) fun e => by rw [e, ← HV.out]; exact ⟨hv2, fun _ => HZ.out⟩⟩
      case measure => simp [intOf]; omega
    ·have h4' : decide ((4 : Int) ≤ (k : Int)) = false := by simp; omega
     go_wp2_with (go_at_call 37; refine (within_v v 0 200000 true hv _).mono ?_; rintro e w2 ⟨rfl, hw2⟩; subst hw2)
     go_round
     case rel => exact ⟨k + 1, by omega, by go_num, fun j hj => (Nat.lt_succ_iff_lt_or_eq.1 hj).elim (HG.out j) fun e => by rw [e, ← HV.out]; exact ⟨hv2, fun h => absurd h (by omega)⟩⟩
     case measure => simp [intOf]; omega
  ·have H7 : Hid (∀ k, k < 7 → good7 k ((sevens a).getD k 0)) := fun j hj => HG.out j (by omega)
   clear h7
   have HC : Hid (chk a = 2) := H2.out (by
    have : ¬ rangeOk a = true := fun hh => by
     have h3 := (HRI.out.1 hh).2
     have h4 := h3.2.1 (by simpa using hk3); simp [h4] at hcn
    simpa using this)
   go_wp2
   go_ret
   exact ⟨ret_int HC.out.symm, hB⟩
set_option maxHeartbeats 12800000 in
set_option maxRecDepth 100000 in
theorem may_cap4 (a : Wr) (w : World) (hs : a.name.size ≤ maxLen) (hl : lab a.name = true) (hk : inR 1 3 a.kind = true) (hr : inR 1 16 a.rows = true) (hc : inR 1 24 a.cols = true) (hp : (a.pitch == 0) = true) (hr1 : decide (1 < a.rows) = false) (hc1 : decide (1 < a.cols) = false) (hk3 : (a.kind == 3) = false) (hkn : (a.kind != 3) = true) (hcw : inR 1 1000000000 a.cap = false) :
  Calls Tryz.prog 102 #[wv a] w fun e w' => e = .returned (.int .i64 (chk a)) ∧ Below w.heap.size w w' := by
 have HR := inR_iff.1 hr
 have HCc := inR_iff.1 hc
 have HRI : Hid (rangeOk a = true ↔ (∀ k, k < 7 → good7 k ((sevens a).getD k 0)) ∧ (a.pitch = 0 → ¬ (1 < a.rows ∨ 1 < a.cols)) ∧ capOk a) := range_iff HR.1 HCc.1
 have H2 : Hid (rangeOk a = false → chk a = 2) := fun h => by unfold chk; rw [hl, hk, hr, hc, h]; rfl
 have H8 : Hid (rangeOk a = true → roomOk a = false → chk a = 8) := fun h h' => by unfold chk; rw [hl, hk, hr, hc, h, h']; rfl
 have H0 : Hid (rangeOk a = true → roomOk a = true → chk a = 0) := fun h h' => by unfold chk; rw [hl, hk, hr, hc, h, h']; rfl
 obtain ⟨r1, r2⟩ := HR
 obtain ⟨c1, c2⟩ := HCc
 go_enter Tryz.func102, Tryz.ntmps102
 go_wp2_with fail
 refine (labelMay_any a.name _ hs).mono ?_
 rintro e w2 ⟨rfl, hw2⟩
 subst hw2
 rw [hl]
 go_wp2_with fail
 refine (within_v a.kind 1 3 true hk _).mono ?_
 rintro e w2 ⟨rfl, hw2⟩
 subst hw2
 go_wp2_with fail
 refine (within_v a.rows 1 16 true hr _).mono ?_
 rintro e w2 ⟨rfl, hw2⟩
 subst hw2
 go_wp2_with fail
 refine (within_v a.cols 1 24 true hc _).mono ?_
 rintro e w2 ⟨rfl, hw2⟩
 subst hw2
 go_wp2_with fail
 obtain ⟨W, hW⟩ : ∃ W, W = (w.alloc (wobj a)).alloc (.cells #[.int .i64 a.x, .int .i64 a.y, .int .i64 a.pitch, .int .i64 a.deep, .int .i64 a.wid, .int .i64 a.len, .int .i64 a.hei] 3) := ⟨_, rfl⟩
 have hB : Below w.heap.size w W := by rw [hW]; exact ((brf).alloc (Nat.le_refl _) _).alloc (by simp) _
 have e0 : W.cell? ⟨w.heap.size, 0, none⟩ = some (.string a.name) := by rw [hW]; go_simp
 have e1 : W.cell? ⟨w.heap.size, 1, none⟩ = some (.int .i64 a.kind) := by rw [hW]; go_simp
 have e2 : W.cell? ⟨w.heap.size, 2, none⟩ = some (.int .i64 a.rows) := by rw [hW]; go_simp
 have e3 : W.cell? ⟨w.heap.size, 3, none⟩ = some (.int .i64 a.cols) := by rw [hW]; go_simp
 have e4 : W.cell? ⟨w.heap.size, 4, none⟩ = some (.int .i64 a.x) := by rw [hW]; go_simp
 have e5 : W.cell? ⟨w.heap.size, 5, none⟩ = some (.int .i64 a.y) := by rw [hW]; go_simp
 have e6 : W.cell? ⟨w.heap.size, 6, none⟩ = some (.int .i64 a.pitch) := by rw [hW]; go_simp
 have e7 : W.cell? ⟨w.heap.size, 7, none⟩ = some (.int .i64 a.wid) := by rw [hW]; go_simp
 have e8 : W.cell? ⟨w.heap.size, 8, none⟩ = some (.int .i64 a.len) := by rw [hW]; go_simp
 have e9 : W.cell? ⟨w.heap.size, 9, none⟩ = some (.int .i64 a.hei) := by rw [hW]; go_simp
 have e10 : W.cell? ⟨w.heap.size, 10, none⟩ = some (.int .i64 a.deep) := by rw [hW]; go_simp
 have e11 : W.cell? ⟨w.heap.size, 11, none⟩ = some (.int .i64 a.cap) := by rw [hW]; go_simp
 have h7 : ∀ k, k < 7 → W.cell? ⟨w.heap.size + 1, k, none⟩ = some (.int .i64 ((sevens a).getD k 0)) := fun k hk => by
  rw [hW]
  rcases (show k = 0 ∨ k = 1 ∨ k = 2 ∨ k = 3 ∨ k = 4 ∨ k = 5 ∨ k = 6 by omega) with e | e | e | e | e | e | e
  all_goals (subst e; simp [go_sem, sevens])
 rw [← hW]
 clear hW
 go_loop [4] (fun i => ∃ k : Nat, k ≤ 7 ∧ i = .int .i64 k ∧ ∀ j, j < k → good7 j ((sevens a).getD j 0)) (fun i => 7 - (intOf i).toNat)
 case atStart => exact ⟨0, by omega, rfl, fun j h => absurd h (Nat.not_lt_zero _)⟩
 case round =>
  obtain ⟨k, hk7, rfl, hgood⟩ := hrel
  have HG : Hid (∀ j, j < k → good7 j ((sevens a).getD j 0)) := hgood
  clear hgood
  by_cases hlt : k < 7
  ·have hx := h7 k hlt
   obtain ⟨v, hve⟩ : ∃ v, v = (sevens a).getD k 0 := ⟨_, rfl⟩
   have HV : Hid (v = (sevens a).getD k 0) := hve
   rw [← hve] at hx
   clear hve h7
   have HB : Hid (¬ good7 k v → chk a = 2) := fun h => H2.out (by
    have : ¬ rangeOk a = true := fun hh => h (by rw [HV.out]; exact (HRI.out.1 hh).1 k hlt)
    simpa using this)
   cases hv : inR 0 200000 v with
   | false =>
    have HC : Hid (chk a = 2) := HB.out (fun h => by rw [inR_yes h.1.1 h.1.2] at hv; cases hv)
    go_wp2_with (go_at_call 37; refine (within_v v 0 200000 false hv _).mono ?_; rintro e w2 ⟨rfl, hw2⟩; subst hw2)
    go_ret
    exact ⟨ret_int HC.out.symm, hB⟩
   | true =>
    have hv2 := inR_iff.1 hv
    by_cases h4 : 4 ≤ k
    ·have h4' : decide ((4 : Int) ≤ (k : Int)) = true := by simp; omega
     by_cases hz : v = 0
     ·have HC : Hid (chk a = 2) := HB.out (fun h => h.2 h4 hz)
      have hz' : (v == 0) = true := by simp [hz]
      clear hz
      go_wp2_with (go_at_call 37; refine (within_v v 0 200000 true hv _).mono ?_; rintro e w2 ⟨rfl, hw2⟩; subst hw2)
      go_ret
      exact ⟨ret_int HC.out.symm, hB⟩
     ·have HZ : Hid (v ≠ 0) := hz
      have hz' : (v == 0) = false := by simp [hz]
      clear hz
      go_wp2_with (go_at_call 37; refine (within_v v 0 200000 true hv _).mono ?_; rintro e w2 ⟨rfl, hw2⟩; subst hw2)
      go_round
      case rel => exact ⟨k + 1, by omega, by go_num, fun j hj => (Nat.lt_succ_iff_lt_or_eq.1 hj).elim (HG.out j) fun e => by rw [e, ← HV.out]; exact ⟨hv2, fun _ => HZ.out⟩⟩
      case measure => simp [intOf]; omega
    ·have h4' : decide ((4 : Int) ≤ (k : Int)) = false := by simp; omega
     go_wp2_with (go_at_call 37; refine (within_v v 0 200000 true hv _).mono ?_; rintro e w2 ⟨rfl, hw2⟩; subst hw2)
     go_round
     case rel => exact ⟨k + 1, by omega, by go_num, fun j hj => (Nat.lt_succ_iff_lt_or_eq.1 hj).elim (HG.out j) fun e => by rw [e, ← HV.out]; exact ⟨hv2, fun h => absurd h (by omega)⟩⟩
     case measure => simp [intOf]; omega
  ·have H7 : Hid (∀ k, k < 7 → good7 k ((sevens a).getD k 0)) := fun j hj => HG.out j (by omega)
   clear h7
   have HC : Hid (chk a = 2) := H2.out (by
    have : ¬ rangeOk a = true := fun hh => by
     have h3 := (HRI.out.1 hh).2
     have h4 := h3.2.2 (by simpa using hk3); rw [inR_yes h4.1 h4.2] at hcw; cases hcw
    simpa using this)
   go_wp2_with (go_at_call 37; refine (within_v a.cap 1 1000000000 false hcw _).mono ?_; rintro e w2 ⟨rfl, hw2⟩; subst hw2)
   go_ret
   exact ⟨ret_int HC.out.symm, hB⟩
end Go.Proofs.YtfadmpnpgiceeaaGreat.W

/- workcellref: WareMay walked. -/
namespace Go.Proofs.YtfadmpnpgiceeaaGreat.W
open Go.RowKit
open Go.Proofs.YtfadmpnpgiceeaaGreat Go.Proofs.YtfadmpnpgiceeaaGreat.F
set_option maxHeartbeats 12800000 in
set_option maxRecDepth 100000 in
theorem may_good1 (a : Wr) (w : World) (hs : a.name.size ≤ maxLen) (hl : lab a.name = true) (hk : inR 1 3 a.kind = true) (hr : inR 1 16 a.rows = true) (hc : inR 1 24 a.cols = true) (hp : (a.pitch == 0) = false) (hk3 : (a.kind == 3) = true) (hkn : (a.kind != 3) = false) (hcn : (a.cap != 0) = false) :
  Calls Tryz.prog 102 #[wv a] w fun e w' => e = .returned (.int .i64 (chk a)) ∧ Below w.heap.size w w' := by
 have HR := inR_iff.1 hr
 have HCc := inR_iff.1 hc
 have HRI : Hid (rangeOk a = true ↔ (∀ k, k < 7 → good7 k ((sevens a).getD k 0)) ∧ (a.pitch = 0 → ¬ (1 < a.rows ∨ 1 < a.cols)) ∧ capOk a) := range_iff HR.1 HCc.1
 have H2 : Hid (rangeOk a = false → chk a = 2) := fun h => by unfold chk; rw [hl, hk, hr, hc, h]; rfl
 have H8 : Hid (rangeOk a = true → roomOk a = false → chk a = 8) := fun h h' => by unfold chk; rw [hl, hk, hr, hc, h, h']; rfl
 have H0 : Hid (rangeOk a = true → roomOk a = true → chk a = 0) := fun h h' => by unfold chk; rw [hl, hk, hr, hc, h, h']; rfl
 obtain ⟨r1, r2⟩ := HR
 obtain ⟨c1, c2⟩ := HCc
 go_enter Tryz.func102, Tryz.ntmps102
 go_wp2_with fail
 refine (labelMay_any a.name _ hs).mono ?_
 rintro e w2 ⟨rfl, hw2⟩
 subst hw2
 rw [hl]
 go_wp2_with fail
 refine (within_v a.kind 1 3 true hk _).mono ?_
 rintro e w2 ⟨rfl, hw2⟩
 subst hw2
 go_wp2_with fail
 refine (within_v a.rows 1 16 true hr _).mono ?_
 rintro e w2 ⟨rfl, hw2⟩
 subst hw2
 go_wp2_with fail
 refine (within_v a.cols 1 24 true hc _).mono ?_
 rintro e w2 ⟨rfl, hw2⟩
 subst hw2
 go_wp2_with fail
 obtain ⟨W, hW⟩ : ∃ W, W = (w.alloc (wobj a)).alloc (.cells #[.int .i64 a.x, .int .i64 a.y, .int .i64 a.pitch, .int .i64 a.deep, .int .i64 a.wid, .int .i64 a.len, .int .i64 a.hei] 3) := ⟨_, rfl⟩
 have hB : Below w.heap.size w W := by rw [hW]; exact ((brf).alloc (Nat.le_refl _) _).alloc (by simp) _
 have e0 : W.cell? ⟨w.heap.size, 0, none⟩ = some (.string a.name) := by rw [hW]; go_simp
 have e1 : W.cell? ⟨w.heap.size, 1, none⟩ = some (.int .i64 a.kind) := by rw [hW]; go_simp
 have e2 : W.cell? ⟨w.heap.size, 2, none⟩ = some (.int .i64 a.rows) := by rw [hW]; go_simp
 have e3 : W.cell? ⟨w.heap.size, 3, none⟩ = some (.int .i64 a.cols) := by rw [hW]; go_simp
 have e4 : W.cell? ⟨w.heap.size, 4, none⟩ = some (.int .i64 a.x) := by rw [hW]; go_simp
 have e5 : W.cell? ⟨w.heap.size, 5, none⟩ = some (.int .i64 a.y) := by rw [hW]; go_simp
 have e6 : W.cell? ⟨w.heap.size, 6, none⟩ = some (.int .i64 a.pitch) := by rw [hW]; go_simp
 have e7 : W.cell? ⟨w.heap.size, 7, none⟩ = some (.int .i64 a.wid) := by rw [hW]; go_simp
 have e8 : W.cell? ⟨w.heap.size, 8, none⟩ = some (.int .i64 a.len) := by rw [hW]; go_simp
 have e9 : W.cell? ⟨w.heap.size, 9, none⟩ = some (.int .i64 a.hei) := by rw [hW]; go_simp
 have e10 : W.cell? ⟨w.heap.size, 10, none⟩ = some (.int .i64 a.deep) := by rw [hW]; go_simp
 have e11 : W.cell? ⟨w.heap.size, 11, none⟩ = some (.int .i64 a.cap) := by rw [hW]; go_simp
 have h7 : ∀ k, k < 7 → W.cell? ⟨w.heap.size + 1, k, none⟩ = some (.int .i64 ((sevens a).getD k 0)) := fun k hk => by
  rw [hW]
  rcases (show k = 0 ∨ k = 1 ∨ k = 2 ∨ k = 3 ∨ k = 4 ∨ k = 5 ∨ k = 6 by omega) with e | e | e | e | e | e | e
  all_goals (subst e; simp [go_sem, sevens])
 rw [← hW]
 clear hW
 go_loop [4] (fun i => ∃ k : Nat, k ≤ 7 ∧ i = .int .i64 k ∧ ∀ j, j < k → good7 j ((sevens a).getD j 0)) (fun i => 7 - (intOf i).toNat)
 case atStart => exact ⟨0, by omega, rfl, fun j h => absurd h (Nat.not_lt_zero _)⟩
 case round =>
  obtain ⟨k, hk7, rfl, hgood⟩ := hrel
  have HG : Hid (∀ j, j < k → good7 j ((sevens a).getD j 0)) := hgood
  clear hgood
  by_cases hlt : k < 7
  ·have hx := h7 k hlt
   obtain ⟨v, hve⟩ : ∃ v, v = (sevens a).getD k 0 := ⟨_, rfl⟩
   have HV : Hid (v = (sevens a).getD k 0) := hve
   rw [← hve] at hx
   clear hve h7
   have HB : Hid (¬ good7 k v → chk a = 2) := fun h => H2.out (by
    have : ¬ rangeOk a = true := fun hh => h (by rw [HV.out]; exact (HRI.out.1 hh).1 k hlt)
    simpa using this)
   cases hv : inR 0 200000 v with
   | false =>
    have HC : Hid (chk a = 2) := HB.out (fun h => by rw [inR_yes h.1.1 h.1.2] at hv; cases hv)
    go_wp2_with (go_at_call 37; refine (within_v v 0 200000 false hv _).mono ?_; rintro e w2 ⟨rfl, hw2⟩; subst hw2)
    go_ret
    exact ⟨ret_int HC.out.symm, hB⟩
   | true =>
    have hv2 := inR_iff.1 hv
    by_cases h4 : 4 ≤ k
    ·have h4' : decide ((4 : Int) ≤ (k : Int)) = true := by simp; omega
     by_cases hz : v = 0
     ·have HC : Hid (chk a = 2) := HB.out (fun h => h.2 h4 hz)
      have hz' : (v == 0) = true := by simp [hz]
      clear hz
      go_wp2_with (go_at_call 37; refine (within_v v 0 200000 true hv _).mono ?_; rintro e w2 ⟨rfl, hw2⟩; subst hw2)
      go_ret
      exact ⟨ret_int HC.out.symm, hB⟩
     ·have HZ : Hid (v ≠ 0) := hz
      have hz' : (v == 0) = false := by simp [hz]
      clear hz
      go_wp2_with (go_at_call 37; refine (within_v v 0 200000 true hv _).mono ?_; rintro e w2 ⟨rfl, hw2⟩; subst hw2)
      go_round
      case rel => exact ⟨k + 1, by omega, by go_num, fun j hj => (Nat.lt_succ_iff_lt_or_eq.1 hj).elim (HG.out j) fun e => by rw [e, ← HV.out]; exact ⟨hv2, fun _ => HZ.out⟩⟩
      case measure => simp [intOf]; omega
    ·have h4' : decide ((4 : Int) ≤ (k : Int)) = false := by simp; omega
     go_wp2_with (go_at_call 37; refine (within_v v 0 200000 true hv _).mono ?_; rintro e w2 ⟨rfl, hw2⟩; subst hw2)
     go_round
     case rel => exact ⟨k + 1, by omega, by go_num, fun j hj => (Nat.lt_succ_iff_lt_or_eq.1 hj).elim (HG.out j) fun e => by rw [e, ← HV.out]; exact ⟨hv2, fun h => absurd h (by omega)⟩⟩
     case measure => simp [intOf]; omega
  ·have H7 : Hid (∀ k, k < 7 → good7 k ((sevens a).getD k 0)) := fun j hj => HG.out j (by omega)
   clear h7
   have hro : rangeOk a = true := HRI.out.2 ⟨H7.out, fun h => absurd h (by simpa using hp), ⟨fun _ => by simpa using hcn, fun h => absurd (by simpa using hk3) h⟩⟩
   have hin : InR a := inR_of hr hc hro
   have HRM : Hid (roomOk a = true ↔ (∀ r c : Nat, (r : Int) < a.rows → (c : Int) < a.cols → a.x + c * a.pitch ≤ a.wid ∧ a.y + r * a.pitch ≤ a.len) ∧ a.deep ≤ a.hei) := room_iff hin
   have HC8 : Hid (¬ ((∀ r c : Nat, (r : Int) < a.rows → (c : Int) < a.cols → a.x + c * a.pitch ≤ a.wid ∧ a.y + r * a.pitch ≤ a.len) ∧ a.deep ≤ a.hei) → chk a = 8) := fun h => H8.out hro (by
    have : ¬ roomOk a = true := fun hh => h (HRM.out.1 hh)
    simpa using this)
   have HC0 : Hid (((∀ r c : Nat, (r : Int) < a.rows → (c : Int) < a.cols → a.x + c * a.pitch ≤ a.wid ∧ a.y + r * a.pitch ≤ a.len) ∧ a.deep ≤ a.hei) → chk a = 0) := fun h => H0.out hro (HRM.out.2 h)
   obtain ⟨_, _, _, _, x0, x1, y0, y1, p0, p1, w0, w1, l0, l1, h0, h1, d0, d1⟩ := hin
   clear hro
   go_wp2
   go_loop [5] (fun i => ∃ r : Nat, (r : Int) ≤ a.rows ∧ i = .int .i64 r ∧ ∀ r' c : Nat, r' < r → (c : Int) < a.cols → a.x + c * a.pitch ≤ a.wid ∧ a.y + r' * a.pitch ≤ a.len) (fun i => a.rows.toNat - (intOf i).toNat)
   case atStart => exact ⟨0, by omega, rfl, fun r' c h => absurd h (Nat.not_lt_zero _)⟩
   case round =>
    obtain ⟨r, hr7, rfl, hgood⟩ := hrel
    have HG : Hid (∀ r' c : Nat, r' < r → (c : Int) < a.cols → a.x + c * a.pitch ≤ a.wid ∧ a.y + r' * a.pitch ≤ a.len) := hgood
    clear hgood
    by_cases hlt : (r : Int) < a.rows
    ·go_wp2_with fail
     go_loop [6] (fun i => ∃ c : Nat, (c : Int) ≤ a.cols ∧ i = .int .i64 c ∧ ∀ c' : Nat, c' < c → a.x + c' * a.pitch ≤ a.wid ∧ a.y + r * a.pitch ≤ a.len) (fun i => a.cols.toNat - (intOf i).toNat)
     case atStart => exact ⟨0, by omega, rfl, fun c h => absurd h (Nat.not_lt_zero _)⟩
     case round =>
      obtain ⟨c, hc7, rfl, hgood⟩ := hrel
      have HI : Hid (∀ c' : Nat, c' < c → a.x + c' * a.pitch ≤ a.wid ∧ a.y + r * a.pitch ≤ a.len) := hgood
      clear hgood
      by_cases hclt : (c : Int) < a.cols
      ·obtain ⟨m0, m1⟩ := prod_in (c := (c : Int)) (by omega) (by omega) p0 p1
       obtain ⟨n0, n1⟩ := prod_in (c := (r : Int)) (by omega) (by omega) p0 p1
       by_cases q1 : a.x + c * a.pitch ≤ a.wid
       ·by_cases q2 : a.y + r * a.pitch ≤ a.len
        ·have q1' : decide (a.wid < a.x + (c : Int) * a.pitch) = false := by simp; omega
         have q2' : decide (a.len < a.y + (r : Int) * a.pitch) = false := by simp; omega
         have HQ : Hid (a.x + c * a.pitch ≤ a.wid ∧ a.y + r * a.pitch ≤ a.len) := ⟨q1, q2⟩
         clear q1 q2
         go_wp2
         go_round
         case rel => exact ⟨c + 1, by omega, by go_num, fun c' h => (Nat.lt_succ_iff_lt_or_eq.1 h).elim (HI.out c') fun e => by rw [e]; exact HQ.out⟩
         case measure => simp [intOf]; omega
        ·have q1' : decide (a.wid < a.x + (c : Int) * a.pitch) = false := by simp; omega
         have q2' : decide (a.len < a.y + (r : Int) * a.pitch) = true := by simp; omega
         have HC : Hid (chk a = 8) := HC8.out fun h => q2 (h.1 r c hlt hclt).2
         clear q1 q2
         go_wp2
         go_ret
         exact ⟨ret_int HC.out.symm, hB⟩
       ·have q1' : decide (a.wid < a.x + (c : Int) * a.pitch) = true := by simp; omega
        have HC : Hid (chk a = 8) := HC8.out fun h => q1 (h.1 r c hlt hclt).1
        clear q1
        go_wp2
        go_ret
        exact ⟨ret_int HC.out.symm, hB⟩
      ·have HI2 : Hid (∀ c' : Nat, (c' : Int) < a.cols → a.x + c' * a.pitch ≤ a.wid ∧ a.y + r * a.pitch ≤ a.len) := fun c' h => HI.out c' (by omega)
       go_wp2
       go_round
       case rel => exact ⟨r + 1, by omega, by go_num, fun r' c' h h2 => (Nat.lt_succ_iff_lt_or_eq.1 h).elim (fun h => HG.out r' c' h h2) fun e => by rw [e]; exact HI2.out c' h2⟩
       case measure => simp [intOf]; omega
    ·have HG2 : Hid (∀ r' c : Nat, (r' : Int) < a.rows → (c : Int) < a.cols → a.x + c * a.pitch ≤ a.wid ∧ a.y + r' * a.pitch ≤ a.len) := fun r' c h h2 => HG.out r' c (by omega) h2
     by_cases hd : a.deep ≤ a.hei
     ·have HC : Hid (chk a = 0) := HC0.out ⟨HG2.out, hd⟩
      go_wp2
      go_ret
      exact ⟨ret_int HC.out.symm, hB⟩
     ·have HC : Hid (chk a = 8) := HC8.out fun h => hd h.2
      go_wp2
      go_ret
      exact ⟨ret_int HC.out.symm, hB⟩
set_option maxHeartbeats 12800000 in
set_option maxRecDepth 100000 in
theorem may_good2 (a : Wr) (w : World) (hs : a.name.size ≤ maxLen) (hl : lab a.name = true) (hk : inR 1 3 a.kind = true) (hr : inR 1 16 a.rows = true) (hc : inR 1 24 a.cols = true) (hp : (a.pitch == 0) = false) (hk3 : (a.kind == 3) = false) (hkn : (a.kind != 3) = true) (hcw : inR 1 1000000000 a.cap = true) :
  Calls Tryz.prog 102 #[wv a] w fun e w' => e = .returned (.int .i64 (chk a)) ∧ Below w.heap.size w w' := by
 have HR := inR_iff.1 hr
 have HCc := inR_iff.1 hc
 have HRI : Hid (rangeOk a = true ↔ (∀ k, k < 7 → good7 k ((sevens a).getD k 0)) ∧ (a.pitch = 0 → ¬ (1 < a.rows ∨ 1 < a.cols)) ∧ capOk a) := range_iff HR.1 HCc.1
 have H2 : Hid (rangeOk a = false → chk a = 2) := fun h => by unfold chk; rw [hl, hk, hr, hc, h]; rfl
 have H8 : Hid (rangeOk a = true → roomOk a = false → chk a = 8) := fun h h' => by unfold chk; rw [hl, hk, hr, hc, h, h']; rfl
 have H0 : Hid (rangeOk a = true → roomOk a = true → chk a = 0) := fun h h' => by unfold chk; rw [hl, hk, hr, hc, h, h']; rfl
 obtain ⟨r1, r2⟩ := HR
 obtain ⟨c1, c2⟩ := HCc
 go_enter Tryz.func102, Tryz.ntmps102
 go_wp2_with fail
 refine (labelMay_any a.name _ hs).mono ?_
 rintro e w2 ⟨rfl, hw2⟩
 subst hw2
 rw [hl]
 go_wp2_with fail
 refine (within_v a.kind 1 3 true hk _).mono ?_
 rintro e w2 ⟨rfl, hw2⟩
 subst hw2
 go_wp2_with fail
 refine (within_v a.rows 1 16 true hr _).mono ?_
 rintro e w2 ⟨rfl, hw2⟩
 subst hw2
 go_wp2_with fail
 refine (within_v a.cols 1 24 true hc _).mono ?_
 rintro e w2 ⟨rfl, hw2⟩
 subst hw2
 go_wp2_with fail
 obtain ⟨W, hW⟩ : ∃ W, W = (w.alloc (wobj a)).alloc (.cells #[.int .i64 a.x, .int .i64 a.y, .int .i64 a.pitch, .int .i64 a.deep, .int .i64 a.wid, .int .i64 a.len, .int .i64 a.hei] 3) := ⟨_, rfl⟩
 have hB : Below w.heap.size w W := by rw [hW]; exact ((brf).alloc (Nat.le_refl _) _).alloc (by simp) _
 have e0 : W.cell? ⟨w.heap.size, 0, none⟩ = some (.string a.name) := by rw [hW]; go_simp
 have e1 : W.cell? ⟨w.heap.size, 1, none⟩ = some (.int .i64 a.kind) := by rw [hW]; go_simp
 have e2 : W.cell? ⟨w.heap.size, 2, none⟩ = some (.int .i64 a.rows) := by rw [hW]; go_simp
 have e3 : W.cell? ⟨w.heap.size, 3, none⟩ = some (.int .i64 a.cols) := by rw [hW]; go_simp
 have e4 : W.cell? ⟨w.heap.size, 4, none⟩ = some (.int .i64 a.x) := by rw [hW]; go_simp
 have e5 : W.cell? ⟨w.heap.size, 5, none⟩ = some (.int .i64 a.y) := by rw [hW]; go_simp
 have e6 : W.cell? ⟨w.heap.size, 6, none⟩ = some (.int .i64 a.pitch) := by rw [hW]; go_simp
 have e7 : W.cell? ⟨w.heap.size, 7, none⟩ = some (.int .i64 a.wid) := by rw [hW]; go_simp
 have e8 : W.cell? ⟨w.heap.size, 8, none⟩ = some (.int .i64 a.len) := by rw [hW]; go_simp
 have e9 : W.cell? ⟨w.heap.size, 9, none⟩ = some (.int .i64 a.hei) := by rw [hW]; go_simp
 have e10 : W.cell? ⟨w.heap.size, 10, none⟩ = some (.int .i64 a.deep) := by rw [hW]; go_simp
 have e11 : W.cell? ⟨w.heap.size, 11, none⟩ = some (.int .i64 a.cap) := by rw [hW]; go_simp
 have h7 : ∀ k, k < 7 → W.cell? ⟨w.heap.size + 1, k, none⟩ = some (.int .i64 ((sevens a).getD k 0)) := fun k hk => by
  rw [hW]
  rcases (show k = 0 ∨ k = 1 ∨ k = 2 ∨ k = 3 ∨ k = 4 ∨ k = 5 ∨ k = 6 by omega) with e | e | e | e | e | e | e
  all_goals (subst e; simp [go_sem, sevens])
 rw [← hW]
 clear hW
 go_loop [4] (fun i => ∃ k : Nat, k ≤ 7 ∧ i = .int .i64 k ∧ ∀ j, j < k → good7 j ((sevens a).getD j 0)) (fun i => 7 - (intOf i).toNat)
 case atStart => exact ⟨0, by omega, rfl, fun j h => absurd h (Nat.not_lt_zero _)⟩
 case round =>
  obtain ⟨k, hk7, rfl, hgood⟩ := hrel
  have HG : Hid (∀ j, j < k → good7 j ((sevens a).getD j 0)) := hgood
  clear hgood
  by_cases hlt : k < 7
  ·have hx := h7 k hlt
   obtain ⟨v, hve⟩ : ∃ v, v = (sevens a).getD k 0 := ⟨_, rfl⟩
   have HV : Hid (v = (sevens a).getD k 0) := hve
   rw [← hve] at hx
   clear hve h7
   have HB : Hid (¬ good7 k v → chk a = 2) := fun h => H2.out (by
    have : ¬ rangeOk a = true := fun hh => h (by rw [HV.out]; exact (HRI.out.1 hh).1 k hlt)
    simpa using this)
   cases hv : inR 0 200000 v with
   | false =>
    have HC : Hid (chk a = 2) := HB.out (fun h => by rw [inR_yes h.1.1 h.1.2] at hv; cases hv)
    go_wp2_with (go_at_call 37; refine (within_v v 0 200000 false hv _).mono ?_; rintro e w2 ⟨rfl, hw2⟩; subst hw2)
    go_ret
    exact ⟨ret_int HC.out.symm, hB⟩
   | true =>
    have hv2 := inR_iff.1 hv
    by_cases h4 : 4 ≤ k
    ·have h4' : decide ((4 : Int) ≤ (k : Int)) = true := by simp; omega
     by_cases hz : v = 0
     ·have HC : Hid (chk a = 2) := HB.out (fun h => h.2 h4 hz)
      have hz' : (v == 0) = true := by simp [hz]
      clear hz
      go_wp2_with (go_at_call 37; refine (within_v v 0 200000 true hv _).mono ?_; rintro e w2 ⟨rfl, hw2⟩; subst hw2)
      go_ret
      exact ⟨ret_int HC.out.symm, hB⟩
     ·have HZ : Hid (v ≠ 0) := hz
      have hz' : (v == 0) = false := by simp [hz]
      clear hz
      go_wp2_with (go_at_call 37; refine (within_v v 0 200000 true hv _).mono ?_; rintro e w2 ⟨rfl, hw2⟩; subst hw2)
      go_round
      case rel => exact ⟨k + 1, by omega, by go_num, fun j hj => (Nat.lt_succ_iff_lt_or_eq.1 hj).elim (HG.out j) fun e => by rw [e, ← HV.out]; exact ⟨hv2, fun _ => HZ.out⟩⟩
      case measure => simp [intOf]; omega
    ·have h4' : decide ((4 : Int) ≤ (k : Int)) = false := by simp; omega
     go_wp2_with (go_at_call 37; refine (within_v v 0 200000 true hv _).mono ?_; rintro e w2 ⟨rfl, hw2⟩; subst hw2)
     go_round
     case rel => exact ⟨k + 1, by omega, by go_num, fun j hj => (Nat.lt_succ_iff_lt_or_eq.1 hj).elim (HG.out j) fun e => by rw [e, ← HV.out]; exact ⟨hv2, fun h => absurd h (by omega)⟩⟩
     case measure => simp [intOf]; omega
  ·have H7 : Hid (∀ k, k < 7 → good7 k ((sevens a).getD k 0)) := fun j hj => HG.out j (by omega)
   clear h7
   have hro : rangeOk a = true := HRI.out.2 ⟨H7.out, fun h => absurd h (by simpa using hp), ⟨fun h => absurd h (by simpa using hk3), fun _ => inR_iff.1 hcw⟩⟩
   have hin : InR a := inR_of hr hc hro
   have HRM : Hid (roomOk a = true ↔ (∀ r c : Nat, (r : Int) < a.rows → (c : Int) < a.cols → a.x + c * a.pitch ≤ a.wid ∧ a.y + r * a.pitch ≤ a.len) ∧ a.deep ≤ a.hei) := room_iff hin
   have HC8 : Hid (¬ ((∀ r c : Nat, (r : Int) < a.rows → (c : Int) < a.cols → a.x + c * a.pitch ≤ a.wid ∧ a.y + r * a.pitch ≤ a.len) ∧ a.deep ≤ a.hei) → chk a = 8) := fun h => H8.out hro (by
    have : ¬ roomOk a = true := fun hh => h (HRM.out.1 hh)
    simpa using this)
   have HC0 : Hid (((∀ r c : Nat, (r : Int) < a.rows → (c : Int) < a.cols → a.x + c * a.pitch ≤ a.wid ∧ a.y + r * a.pitch ≤ a.len) ∧ a.deep ≤ a.hei) → chk a = 0) := fun h => H0.out hro (HRM.out.2 h)
   obtain ⟨_, _, _, _, x0, x1, y0, y1, p0, p1, w0, w1, l0, l1, h0, h1, d0, d1⟩ := hin
   clear hro
   go_wp2_with (go_at_call 37; refine (within_v a.cap 1 1000000000 true hcw _).mono ?_; rintro e w2 ⟨rfl, hw2⟩; subst hw2)
   go_loop [5] (fun i => ∃ r : Nat, (r : Int) ≤ a.rows ∧ i = .int .i64 r ∧ ∀ r' c : Nat, r' < r → (c : Int) < a.cols → a.x + c * a.pitch ≤ a.wid ∧ a.y + r' * a.pitch ≤ a.len) (fun i => a.rows.toNat - (intOf i).toNat)
   case atStart => exact ⟨0, by omega, rfl, fun r' c h => absurd h (Nat.not_lt_zero _)⟩
   case round =>
    obtain ⟨r, hr7, rfl, hgood⟩ := hrel
    have HG : Hid (∀ r' c : Nat, r' < r → (c : Int) < a.cols → a.x + c * a.pitch ≤ a.wid ∧ a.y + r' * a.pitch ≤ a.len) := hgood
    clear hgood
    by_cases hlt : (r : Int) < a.rows
    ·go_wp2_with fail
     go_loop [6] (fun i => ∃ c : Nat, (c : Int) ≤ a.cols ∧ i = .int .i64 c ∧ ∀ c' : Nat, c' < c → a.x + c' * a.pitch ≤ a.wid ∧ a.y + r * a.pitch ≤ a.len) (fun i => a.cols.toNat - (intOf i).toNat)
     case atStart => exact ⟨0, by omega, rfl, fun c h => absurd h (Nat.not_lt_zero _)⟩
     case round =>
      obtain ⟨c, hc7, rfl, hgood⟩ := hrel
      have HI : Hid (∀ c' : Nat, c' < c → a.x + c' * a.pitch ≤ a.wid ∧ a.y + r * a.pitch ≤ a.len) := hgood
      clear hgood
      by_cases hclt : (c : Int) < a.cols
      ·obtain ⟨m0, m1⟩ := prod_in (c := (c : Int)) (by omega) (by omega) p0 p1
       obtain ⟨n0, n1⟩ := prod_in (c := (r : Int)) (by omega) (by omega) p0 p1
       by_cases q1 : a.x + c * a.pitch ≤ a.wid
       ·by_cases q2 : a.y + r * a.pitch ≤ a.len
        ·have q1' : decide (a.wid < a.x + (c : Int) * a.pitch) = false := by simp; omega
         have q2' : decide (a.len < a.y + (r : Int) * a.pitch) = false := by simp; omega
         have HQ : Hid (a.x + c * a.pitch ≤ a.wid ∧ a.y + r * a.pitch ≤ a.len) := ⟨q1, q2⟩
         clear q1 q2
         go_wp2
         go_round
         case rel => exact ⟨c + 1, by omega, by go_num, fun c' h => (Nat.lt_succ_iff_lt_or_eq.1 h).elim (HI.out c') fun e => by rw [e]; exact HQ.out⟩
         case measure => simp [intOf]; omega
        ·have q1' : decide (a.wid < a.x + (c : Int) * a.pitch) = false := by simp; omega
         have q2' : decide (a.len < a.y + (r : Int) * a.pitch) = true := by simp; omega
         have HC : Hid (chk a = 8) := HC8.out fun h => q2 (h.1 r c hlt hclt).2
         clear q1 q2
         go_wp2
         go_ret
         exact ⟨ret_int HC.out.symm, hB⟩
       ·have q1' : decide (a.wid < a.x + (c : Int) * a.pitch) = true := by simp; omega
        have HC : Hid (chk a = 8) := HC8.out fun h => q1 (h.1 r c hlt hclt).1
        clear q1
        go_wp2
        go_ret
        exact ⟨ret_int HC.out.symm, hB⟩
      ·have HI2 : Hid (∀ c' : Nat, (c' : Int) < a.cols → a.x + c' * a.pitch ≤ a.wid ∧ a.y + r * a.pitch ≤ a.len) := fun c' h => HI.out c' (by omega)
       go_wp2
       go_round
       case rel => exact ⟨r + 1, by omega, by go_num, fun r' c' h h2 => (Nat.lt_succ_iff_lt_or_eq.1 h).elim (fun h => HG.out r' c' h h2) fun e => by rw [e]; exact HI2.out c' h2⟩
       case measure => simp [intOf]; omega
    ·have HG2 : Hid (∀ r' c : Nat, (r' : Int) < a.rows → (c : Int) < a.cols → a.x + c * a.pitch ≤ a.wid ∧ a.y + r' * a.pitch ≤ a.len) := fun r' c h h2 => HG.out r' c (by omega) h2
     by_cases hd : a.deep ≤ a.hei
     ·have HC : Hid (chk a = 0) := HC0.out ⟨HG2.out, hd⟩
      go_wp2
      go_ret
      exact ⟨ret_int HC.out.symm, hB⟩
     ·have HC : Hid (chk a = 8) := HC8.out fun h => hd h.2
      go_wp2
      go_ret
      exact ⟨ret_int HC.out.symm, hB⟩
end Go.Proofs.YtfadmpnpgiceeaaGreat.W

/- workcellref: WareMay walked. -/
namespace Go.Proofs.YtfadmpnpgiceeaaGreat.W
open Go.RowKit
open Go.Proofs.YtfadmpnpgiceeaaGreat Go.Proofs.YtfadmpnpgiceeaaGreat.F
set_option maxHeartbeats 12800000 in
set_option maxRecDepth 100000 in
theorem may_good3 (a : Wr) (w : World) (hs : a.name.size ≤ maxLen) (hl : lab a.name = true) (hk : inR 1 3 a.kind = true) (hr : inR 1 16 a.rows = true) (hc : inR 1 24 a.cols = true) (hp : (a.pitch == 0) = true) (hr1 : decide (1 < a.rows) = false) (hc1 : decide (1 < a.cols) = false) (hk3 : (a.kind == 3) = true) (hkn : (a.kind != 3) = false) (hcn : (a.cap != 0) = false) :
  Calls Tryz.prog 102 #[wv a] w fun e w' => e = .returned (.int .i64 (chk a)) ∧ Below w.heap.size w w' := by
 have HR := inR_iff.1 hr
 have HCc := inR_iff.1 hc
 have HRI : Hid (rangeOk a = true ↔ (∀ k, k < 7 → good7 k ((sevens a).getD k 0)) ∧ (a.pitch = 0 → ¬ (1 < a.rows ∨ 1 < a.cols)) ∧ capOk a) := range_iff HR.1 HCc.1
 have H2 : Hid (rangeOk a = false → chk a = 2) := fun h => by unfold chk; rw [hl, hk, hr, hc, h]; rfl
 have H8 : Hid (rangeOk a = true → roomOk a = false → chk a = 8) := fun h h' => by unfold chk; rw [hl, hk, hr, hc, h, h']; rfl
 have H0 : Hid (rangeOk a = true → roomOk a = true → chk a = 0) := fun h h' => by unfold chk; rw [hl, hk, hr, hc, h, h']; rfl
 obtain ⟨r1, r2⟩ := HR
 obtain ⟨c1, c2⟩ := HCc
 go_enter Tryz.func102, Tryz.ntmps102
 go_wp2_with fail
 refine (labelMay_any a.name _ hs).mono ?_
 rintro e w2 ⟨rfl, hw2⟩
 subst hw2
 rw [hl]
 go_wp2_with fail
 refine (within_v a.kind 1 3 true hk _).mono ?_
 rintro e w2 ⟨rfl, hw2⟩
 subst hw2
 go_wp2_with fail
 refine (within_v a.rows 1 16 true hr _).mono ?_
 rintro e w2 ⟨rfl, hw2⟩
 subst hw2
 go_wp2_with fail
 refine (within_v a.cols 1 24 true hc _).mono ?_
 rintro e w2 ⟨rfl, hw2⟩
 subst hw2
 go_wp2_with fail
 obtain ⟨W, hW⟩ : ∃ W, W = (w.alloc (wobj a)).alloc (.cells #[.int .i64 a.x, .int .i64 a.y, .int .i64 a.pitch, .int .i64 a.deep, .int .i64 a.wid, .int .i64 a.len, .int .i64 a.hei] 3) := ⟨_, rfl⟩
 have hB : Below w.heap.size w W := by rw [hW]; exact ((brf).alloc (Nat.le_refl _) _).alloc (by simp) _
 have e0 : W.cell? ⟨w.heap.size, 0, none⟩ = some (.string a.name) := by rw [hW]; go_simp
 have e1 : W.cell? ⟨w.heap.size, 1, none⟩ = some (.int .i64 a.kind) := by rw [hW]; go_simp
 have e2 : W.cell? ⟨w.heap.size, 2, none⟩ = some (.int .i64 a.rows) := by rw [hW]; go_simp
 have e3 : W.cell? ⟨w.heap.size, 3, none⟩ = some (.int .i64 a.cols) := by rw [hW]; go_simp
 have e4 : W.cell? ⟨w.heap.size, 4, none⟩ = some (.int .i64 a.x) := by rw [hW]; go_simp
 have e5 : W.cell? ⟨w.heap.size, 5, none⟩ = some (.int .i64 a.y) := by rw [hW]; go_simp
 have e6 : W.cell? ⟨w.heap.size, 6, none⟩ = some (.int .i64 a.pitch) := by rw [hW]; go_simp
 have e7 : W.cell? ⟨w.heap.size, 7, none⟩ = some (.int .i64 a.wid) := by rw [hW]; go_simp
 have e8 : W.cell? ⟨w.heap.size, 8, none⟩ = some (.int .i64 a.len) := by rw [hW]; go_simp
 have e9 : W.cell? ⟨w.heap.size, 9, none⟩ = some (.int .i64 a.hei) := by rw [hW]; go_simp
 have e10 : W.cell? ⟨w.heap.size, 10, none⟩ = some (.int .i64 a.deep) := by rw [hW]; go_simp
 have e11 : W.cell? ⟨w.heap.size, 11, none⟩ = some (.int .i64 a.cap) := by rw [hW]; go_simp
 have h7 : ∀ k, k < 7 → W.cell? ⟨w.heap.size + 1, k, none⟩ = some (.int .i64 ((sevens a).getD k 0)) := fun k hk => by
  rw [hW]
  rcases (show k = 0 ∨ k = 1 ∨ k = 2 ∨ k = 3 ∨ k = 4 ∨ k = 5 ∨ k = 6 by omega) with e | e | e | e | e | e | e
  all_goals (subst e; simp [go_sem, sevens])
 rw [← hW]
 clear hW
 go_loop [4] (fun i => ∃ k : Nat, k ≤ 7 ∧ i = .int .i64 k ∧ ∀ j, j < k → good7 j ((sevens a).getD j 0)) (fun i => 7 - (intOf i).toNat)
 case atStart => exact ⟨0, by omega, rfl, fun j h => absurd h (Nat.not_lt_zero _)⟩
 case round =>
  obtain ⟨k, hk7, rfl, hgood⟩ := hrel
  have HG : Hid (∀ j, j < k → good7 j ((sevens a).getD j 0)) := hgood
  clear hgood
  by_cases hlt : k < 7
  ·have hx := h7 k hlt
   obtain ⟨v, hve⟩ : ∃ v, v = (sevens a).getD k 0 := ⟨_, rfl⟩
   have HV : Hid (v = (sevens a).getD k 0) := hve
   rw [← hve] at hx
   clear hve h7
   have HB : Hid (¬ good7 k v → chk a = 2) := fun h => H2.out (by
    have : ¬ rangeOk a = true := fun hh => h (by rw [HV.out]; exact (HRI.out.1 hh).1 k hlt)
    simpa using this)
   cases hv : inR 0 200000 v with
   | false =>
    have HC : Hid (chk a = 2) := HB.out (fun h => by rw [inR_yes h.1.1 h.1.2] at hv; cases hv)
    go_wp2_with (go_at_call 37; refine (within_v v 0 200000 false hv _).mono ?_; rintro e w2 ⟨rfl, hw2⟩; subst hw2)
    go_ret
    exact ⟨ret_int HC.out.symm, hB⟩
   | true =>
    have hv2 := inR_iff.1 hv
    by_cases h4 : 4 ≤ k
    ·have h4' : decide ((4 : Int) ≤ (k : Int)) = true := by simp; omega
     by_cases hz : v = 0
     ·have HC : Hid (chk a = 2) := HB.out (fun h => h.2 h4 hz)
      have hz' : (v == 0) = true := by simp [hz]
      clear hz
      go_wp2_with (go_at_call 37; refine (within_v v 0 200000 true hv _).mono ?_; rintro e w2 ⟨rfl, hw2⟩; subst hw2)
      go_ret
      exact ⟨ret_int HC.out.symm, hB⟩
     ·have HZ : Hid (v ≠ 0) := hz
      have hz' : (v == 0) = false := by simp [hz]
      clear hz
      go_wp2_with (go_at_call 37; refine (within_v v 0 200000 true hv _).mono ?_; rintro e w2 ⟨rfl, hw2⟩; subst hw2)
      go_round
      case rel => exact ⟨k + 1, by omega, by go_num, fun j hj => (Nat.lt_succ_iff_lt_or_eq.1 hj).elim (HG.out j) fun e => by rw [e, ← HV.out]; exact ⟨hv2, fun _ => HZ.out⟩⟩
      case measure => simp [intOf]; omega
    ·have h4' : decide ((4 : Int) ≤ (k : Int)) = false := by simp; omega
     go_wp2_with (go_at_call 37; refine (within_v v 0 200000 true hv _).mono ?_; rintro e w2 ⟨rfl, hw2⟩; subst hw2)
     go_round
     case rel => exact ⟨k + 1, by omega, by go_num, fun j hj => (Nat.lt_succ_iff_lt_or_eq.1 hj).elim (HG.out j) fun e => by rw [e, ← HV.out]; exact ⟨hv2, fun h => absurd h (by omega)⟩⟩
     case measure => simp [intOf]; omega
  ·have H7 : Hid (∀ k, k < 7 → good7 k ((sevens a).getD k 0)) := fun j hj => HG.out j (by omega)
   clear h7
   have hro : rangeOk a = true := HRI.out.2 ⟨H7.out, fun _ h => by simp at hr1 hc1; omega, ⟨fun _ => by simpa using hcn, fun h => absurd (by simpa using hk3) h⟩⟩
   have hin : InR a := inR_of hr hc hro
   have HRM : Hid (roomOk a = true ↔ (∀ r c : Nat, (r : Int) < a.rows → (c : Int) < a.cols → a.x + c * a.pitch ≤ a.wid ∧ a.y + r * a.pitch ≤ a.len) ∧ a.deep ≤ a.hei) := room_iff hin
   have HC8 : Hid (¬ ((∀ r c : Nat, (r : Int) < a.rows → (c : Int) < a.cols → a.x + c * a.pitch ≤ a.wid ∧ a.y + r * a.pitch ≤ a.len) ∧ a.deep ≤ a.hei) → chk a = 8) := fun h => H8.out hro (by
    have : ¬ roomOk a = true := fun hh => h (HRM.out.1 hh)
    simpa using this)
   have HC0 : Hid (((∀ r c : Nat, (r : Int) < a.rows → (c : Int) < a.cols → a.x + c * a.pitch ≤ a.wid ∧ a.y + r * a.pitch ≤ a.len) ∧ a.deep ≤ a.hei) → chk a = 0) := fun h => H0.out hro (HRM.out.2 h)
   obtain ⟨_, _, _, _, x0, x1, y0, y1, p0, p1, w0, w1, l0, l1, h0, h1, d0, d1⟩ := hin
   clear hro
   go_wp2
   go_loop [5] (fun i => ∃ r : Nat, (r : Int) ≤ a.rows ∧ i = .int .i64 r ∧ ∀ r' c : Nat, r' < r → (c : Int) < a.cols → a.x + c * a.pitch ≤ a.wid ∧ a.y + r' * a.pitch ≤ a.len) (fun i => a.rows.toNat - (intOf i).toNat)
   case atStart => exact ⟨0, by omega, rfl, fun r' c h => absurd h (Nat.not_lt_zero _)⟩
   case round =>
    obtain ⟨r, hr7, rfl, hgood⟩ := hrel
    have HG : Hid (∀ r' c : Nat, r' < r → (c : Int) < a.cols → a.x + c * a.pitch ≤ a.wid ∧ a.y + r' * a.pitch ≤ a.len) := hgood
    clear hgood
    by_cases hlt : (r : Int) < a.rows
    ·go_wp2_with fail
     go_loop [6] (fun i => ∃ c : Nat, (c : Int) ≤ a.cols ∧ i = .int .i64 c ∧ ∀ c' : Nat, c' < c → a.x + c' * a.pitch ≤ a.wid ∧ a.y + r * a.pitch ≤ a.len) (fun i => a.cols.toNat - (intOf i).toNat)
     case atStart => exact ⟨0, by omega, rfl, fun c h => absurd h (Nat.not_lt_zero _)⟩
     case round =>
      obtain ⟨c, hc7, rfl, hgood⟩ := hrel
      have HI : Hid (∀ c' : Nat, c' < c → a.x + c' * a.pitch ≤ a.wid ∧ a.y + r * a.pitch ≤ a.len) := hgood
      clear hgood
      by_cases hclt : (c : Int) < a.cols
      ·obtain ⟨m0, m1⟩ := prod_in (c := (c : Int)) (by omega) (by omega) p0 p1
       obtain ⟨n0, n1⟩ := prod_in (c := (r : Int)) (by omega) (by omega) p0 p1
       by_cases q1 : a.x + c * a.pitch ≤ a.wid
       ·by_cases q2 : a.y + r * a.pitch ≤ a.len
        ·have q1' : decide (a.wid < a.x + (c : Int) * a.pitch) = false := by simp; omega
         have q2' : decide (a.len < a.y + (r : Int) * a.pitch) = false := by simp; omega
         have HQ : Hid (a.x + c * a.pitch ≤ a.wid ∧ a.y + r * a.pitch ≤ a.len) := ⟨q1, q2⟩
         clear q1 q2
         go_wp2
         go_round
         case rel => exact ⟨c + 1, by omega, by go_num, fun c' h => (Nat.lt_succ_iff_lt_or_eq.1 h).elim (HI.out c') fun e => by rw [e]; exact HQ.out⟩
         case measure => simp [intOf]; omega
        ·have q1' : decide (a.wid < a.x + (c : Int) * a.pitch) = false := by simp; omega
         have q2' : decide (a.len < a.y + (r : Int) * a.pitch) = true := by simp; omega
         have HC : Hid (chk a = 8) := HC8.out fun h => q2 (h.1 r c hlt hclt).2
         clear q1 q2
         go_wp2
         go_ret
         exact ⟨ret_int HC.out.symm, hB⟩
       ·have q1' : decide (a.wid < a.x + (c : Int) * a.pitch) = true := by simp; omega
        have HC : Hid (chk a = 8) := HC8.out fun h => q1 (h.1 r c hlt hclt).1
        clear q1
        go_wp2
        go_ret
        exact ⟨ret_int HC.out.symm, hB⟩
      ·have HI2 : Hid (∀ c' : Nat, (c' : Int) < a.cols → a.x + c' * a.pitch ≤ a.wid ∧ a.y + r * a.pitch ≤ a.len) := fun c' h => HI.out c' (by omega)
       go_wp2
       go_round
       case rel => exact ⟨r + 1, by omega, by go_num, fun r' c' h h2 => (Nat.lt_succ_iff_lt_or_eq.1 h).elim (fun h => HG.out r' c' h h2) fun e => by rw [e]; exact HI2.out c' h2⟩
       case measure => simp [intOf]; omega
    ·have HG2 : Hid (∀ r' c : Nat, (r' : Int) < a.rows → (c : Int) < a.cols → a.x + c * a.pitch ≤ a.wid ∧ a.y + r' * a.pitch ≤ a.len) := fun r' c h h2 => HG.out r' c (by omega) h2
     by_cases hd : a.deep ≤ a.hei
     ·have HC : Hid (chk a = 0) := HC0.out ⟨HG2.out, hd⟩
      go_wp2
      go_ret
      exact ⟨ret_int HC.out.symm, hB⟩
     ·have HC : Hid (chk a = 8) := HC8.out fun h => hd h.2
      go_wp2
      go_ret
      exact ⟨ret_int HC.out.symm, hB⟩
set_option maxHeartbeats 12800000 in
set_option maxRecDepth 100000 in
theorem may_good4 (a : Wr) (w : World) (hs : a.name.size ≤ maxLen) (hl : lab a.name = true) (hk : inR 1 3 a.kind = true) (hr : inR 1 16 a.rows = true) (hc : inR 1 24 a.cols = true) (hp : (a.pitch == 0) = true) (hr1 : decide (1 < a.rows) = false) (hc1 : decide (1 < a.cols) = false) (hk3 : (a.kind == 3) = false) (hkn : (a.kind != 3) = true) (hcw : inR 1 1000000000 a.cap = true) :
  Calls Tryz.prog 102 #[wv a] w fun e w' => e = .returned (.int .i64 (chk a)) ∧ Below w.heap.size w w' := by
 have HR := inR_iff.1 hr
 have HCc := inR_iff.1 hc
 have HRI : Hid (rangeOk a = true ↔ (∀ k, k < 7 → good7 k ((sevens a).getD k 0)) ∧ (a.pitch = 0 → ¬ (1 < a.rows ∨ 1 < a.cols)) ∧ capOk a) := range_iff HR.1 HCc.1
 have H2 : Hid (rangeOk a = false → chk a = 2) := fun h => by unfold chk; rw [hl, hk, hr, hc, h]; rfl
 have H8 : Hid (rangeOk a = true → roomOk a = false → chk a = 8) := fun h h' => by unfold chk; rw [hl, hk, hr, hc, h, h']; rfl
 have H0 : Hid (rangeOk a = true → roomOk a = true → chk a = 0) := fun h h' => by unfold chk; rw [hl, hk, hr, hc, h, h']; rfl
 obtain ⟨r1, r2⟩ := HR
 obtain ⟨c1, c2⟩ := HCc
 go_enter Tryz.func102, Tryz.ntmps102
 go_wp2_with fail
 refine (labelMay_any a.name _ hs).mono ?_
 rintro e w2 ⟨rfl, hw2⟩
 subst hw2
 rw [hl]
 go_wp2_with fail
 refine (within_v a.kind 1 3 true hk _).mono ?_
 rintro e w2 ⟨rfl, hw2⟩
 subst hw2
 go_wp2_with fail
 refine (within_v a.rows 1 16 true hr _).mono ?_
 rintro e w2 ⟨rfl, hw2⟩
 subst hw2
 go_wp2_with fail
 refine (within_v a.cols 1 24 true hc _).mono ?_
 rintro e w2 ⟨rfl, hw2⟩
 subst hw2
 go_wp2_with fail
 obtain ⟨W, hW⟩ : ∃ W, W = (w.alloc (wobj a)).alloc (.cells #[.int .i64 a.x, .int .i64 a.y, .int .i64 a.pitch, .int .i64 a.deep, .int .i64 a.wid, .int .i64 a.len, .int .i64 a.hei] 3) := ⟨_, rfl⟩
 have hB : Below w.heap.size w W := by rw [hW]; exact ((brf).alloc (Nat.le_refl _) _).alloc (by simp) _
 have e0 : W.cell? ⟨w.heap.size, 0, none⟩ = some (.string a.name) := by rw [hW]; go_simp
 have e1 : W.cell? ⟨w.heap.size, 1, none⟩ = some (.int .i64 a.kind) := by rw [hW]; go_simp
 have e2 : W.cell? ⟨w.heap.size, 2, none⟩ = some (.int .i64 a.rows) := by rw [hW]; go_simp
 have e3 : W.cell? ⟨w.heap.size, 3, none⟩ = some (.int .i64 a.cols) := by rw [hW]; go_simp
 have e4 : W.cell? ⟨w.heap.size, 4, none⟩ = some (.int .i64 a.x) := by rw [hW]; go_simp
 have e5 : W.cell? ⟨w.heap.size, 5, none⟩ = some (.int .i64 a.y) := by rw [hW]; go_simp
 have e6 : W.cell? ⟨w.heap.size, 6, none⟩ = some (.int .i64 a.pitch) := by rw [hW]; go_simp
 have e7 : W.cell? ⟨w.heap.size, 7, none⟩ = some (.int .i64 a.wid) := by rw [hW]; go_simp
 have e8 : W.cell? ⟨w.heap.size, 8, none⟩ = some (.int .i64 a.len) := by rw [hW]; go_simp
 have e9 : W.cell? ⟨w.heap.size, 9, none⟩ = some (.int .i64 a.hei) := by rw [hW]; go_simp
 have e10 : W.cell? ⟨w.heap.size, 10, none⟩ = some (.int .i64 a.deep) := by rw [hW]; go_simp
 have e11 : W.cell? ⟨w.heap.size, 11, none⟩ = some (.int .i64 a.cap) := by rw [hW]; go_simp
 have h7 : ∀ k, k < 7 → W.cell? ⟨w.heap.size + 1, k, none⟩ = some (.int .i64 ((sevens a).getD k 0)) := fun k hk => by
  rw [hW]
  rcases (show k = 0 ∨ k = 1 ∨ k = 2 ∨ k = 3 ∨ k = 4 ∨ k = 5 ∨ k = 6 by omega) with e | e | e | e | e | e | e
  all_goals (subst e; simp [go_sem, sevens])
 rw [← hW]
 clear hW
 go_loop [4] (fun i => ∃ k : Nat, k ≤ 7 ∧ i = .int .i64 k ∧ ∀ j, j < k → good7 j ((sevens a).getD j 0)) (fun i => 7 - (intOf i).toNat)
 case atStart => exact ⟨0, by omega, rfl, fun j h => absurd h (Nat.not_lt_zero _)⟩
 case round =>
  obtain ⟨k, hk7, rfl, hgood⟩ := hrel
  have HG : Hid (∀ j, j < k → good7 j ((sevens a).getD j 0)) := hgood
  clear hgood
  by_cases hlt : k < 7
  ·have hx := h7 k hlt
   obtain ⟨v, hve⟩ : ∃ v, v = (sevens a).getD k 0 := ⟨_, rfl⟩
   have HV : Hid (v = (sevens a).getD k 0) := hve
   rw [← hve] at hx
   clear hve h7
   have HB : Hid (¬ good7 k v → chk a = 2) := fun h => H2.out (by
    have : ¬ rangeOk a = true := fun hh => h (by rw [HV.out]; exact (HRI.out.1 hh).1 k hlt)
    simpa using this)
   cases hv : inR 0 200000 v with
   | false =>
    have HC : Hid (chk a = 2) := HB.out (fun h => by rw [inR_yes h.1.1 h.1.2] at hv; cases hv)
    go_wp2_with (go_at_call 37; refine (within_v v 0 200000 false hv _).mono ?_; rintro e w2 ⟨rfl, hw2⟩; subst hw2)
    go_ret
    exact ⟨ret_int HC.out.symm, hB⟩
   | true =>
    have hv2 := inR_iff.1 hv
    by_cases h4 : 4 ≤ k
    ·have h4' : decide ((4 : Int) ≤ (k : Int)) = true := by simp; omega
     by_cases hz : v = 0
     ·have HC : Hid (chk a = 2) := HB.out (fun h => h.2 h4 hz)
      have hz' : (v == 0) = true := by simp [hz]
      clear hz
      go_wp2_with (go_at_call 37; refine (within_v v 0 200000 true hv _).mono ?_; rintro e w2 ⟨rfl, hw2⟩; subst hw2)
      go_ret
      exact ⟨ret_int HC.out.symm, hB⟩
     ·have HZ : Hid (v ≠ 0) := hz
      have hz' : (v == 0) = false := by simp [hz]
      clear hz
      go_wp2_with (go_at_call 37; refine (within_v v 0 200000 true hv _).mono ?_; rintro e w2 ⟨rfl, hw2⟩; subst hw2)
      go_round
      case rel => exact ⟨k + 1, by omega, by go_num, fun j hj => (Nat.lt_succ_iff_lt_or_eq.1 hj).elim (HG.out j) fun e => by rw [e, ← HV.out]; exact ⟨hv2, fun _ => HZ.out⟩⟩
      case measure => simp [intOf]; omega
    ·have h4' : decide ((4 : Int) ≤ (k : Int)) = false := by simp; omega
     go_wp2_with (go_at_call 37; refine (within_v v 0 200000 true hv _).mono ?_; rintro e w2 ⟨rfl, hw2⟩; subst hw2)
     go_round
     case rel => exact ⟨k + 1, by omega, by go_num, fun j hj => (Nat.lt_succ_iff_lt_or_eq.1 hj).elim (HG.out j) fun e => by rw [e, ← HV.out]; exact ⟨hv2, fun h => absurd h (by omega)⟩⟩
     case measure => simp [intOf]; omega
  ·have H7 : Hid (∀ k, k < 7 → good7 k ((sevens a).getD k 0)) := fun j hj => HG.out j (by omega)
   clear h7
   have hro : rangeOk a = true := HRI.out.2 ⟨H7.out, fun _ h => by simp at hr1 hc1; omega, ⟨fun h => absurd h (by simpa using hk3), fun _ => inR_iff.1 hcw⟩⟩
   have hin : InR a := inR_of hr hc hro
   have HRM : Hid (roomOk a = true ↔ (∀ r c : Nat, (r : Int) < a.rows → (c : Int) < a.cols → a.x + c * a.pitch ≤ a.wid ∧ a.y + r * a.pitch ≤ a.len) ∧ a.deep ≤ a.hei) := room_iff hin
   have HC8 : Hid (¬ ((∀ r c : Nat, (r : Int) < a.rows → (c : Int) < a.cols → a.x + c * a.pitch ≤ a.wid ∧ a.y + r * a.pitch ≤ a.len) ∧ a.deep ≤ a.hei) → chk a = 8) := fun h => H8.out hro (by
    have : ¬ roomOk a = true := fun hh => h (HRM.out.1 hh)
    simpa using this)
   have HC0 : Hid (((∀ r c : Nat, (r : Int) < a.rows → (c : Int) < a.cols → a.x + c * a.pitch ≤ a.wid ∧ a.y + r * a.pitch ≤ a.len) ∧ a.deep ≤ a.hei) → chk a = 0) := fun h => H0.out hro (HRM.out.2 h)
   obtain ⟨_, _, _, _, x0, x1, y0, y1, p0, p1, w0, w1, l0, l1, h0, h1, d0, d1⟩ := hin
   clear hro
   go_wp2_with (go_at_call 37; refine (within_v a.cap 1 1000000000 true hcw _).mono ?_; rintro e w2 ⟨rfl, hw2⟩; subst hw2)
   go_loop [5] (fun i => ∃ r : Nat, (r : Int) ≤ a.rows ∧ i = .int .i64 r ∧ ∀ r' c : Nat, r' < r → (c : Int) < a.cols → a.x + c * a.pitch ≤ a.wid ∧ a.y + r' * a.pitch ≤ a.len) (fun i => a.rows.toNat - (intOf i).toNat)
   case atStart => exact ⟨0, by omega, rfl, fun r' c h => absurd h (Nat.not_lt_zero _)⟩
   case round =>
    obtain ⟨r, hr7, rfl, hgood⟩ := hrel
    have HG : Hid (∀ r' c : Nat, r' < r → (c : Int) < a.cols → a.x + c * a.pitch ≤ a.wid ∧ a.y + r' * a.pitch ≤ a.len) := hgood
    clear hgood
    by_cases hlt : (r : Int) < a.rows
    ·go_wp2_with fail
     go_loop [6] (fun i => ∃ c : Nat, (c : Int) ≤ a.cols ∧ i = .int .i64 c ∧ ∀ c' : Nat, c' < c → a.x + c' * a.pitch ≤ a.wid ∧ a.y + r * a.pitch ≤ a.len) (fun i => a.cols.toNat - (intOf i).toNat)
     case atStart => exact ⟨0, by omega, rfl, fun c h => absurd h (Nat.not_lt_zero _)⟩
     case round =>
      obtain ⟨c, hc7, rfl, hgood⟩ := hrel
      have HI : Hid (∀ c' : Nat, c' < c → a.x + c' * a.pitch ≤ a.wid ∧ a.y + r * a.pitch ≤ a.len) := hgood
      clear hgood
      by_cases hclt : (c : Int) < a.cols
      ·obtain ⟨m0, m1⟩ := prod_in (c := (c : Int)) (by omega) (by omega) p0 p1
       obtain ⟨n0, n1⟩ := prod_in (c := (r : Int)) (by omega) (by omega) p0 p1
       by_cases q1 : a.x + c * a.pitch ≤ a.wid
       ·by_cases q2 : a.y + r * a.pitch ≤ a.len
        ·have q1' : decide (a.wid < a.x + (c : Int) * a.pitch) = false := by simp; omega
         have q2' : decide (a.len < a.y + (r : Int) * a.pitch) = false := by simp; omega
         have HQ : Hid (a.x + c * a.pitch ≤ a.wid ∧ a.y + r * a.pitch ≤ a.len) := ⟨q1, q2⟩
         clear q1 q2
         go_wp2
         go_round
         case rel => exact ⟨c + 1, by omega, by go_num, fun c' h => (Nat.lt_succ_iff_lt_or_eq.1 h).elim (HI.out c') fun e => by rw [e]; exact HQ.out⟩
         case measure => simp [intOf]; omega
        ·have q1' : decide (a.wid < a.x + (c : Int) * a.pitch) = false := by simp; omega
         have q2' : decide (a.len < a.y + (r : Int) * a.pitch) = true := by simp; omega
         have HC : Hid (chk a = 8) := HC8.out fun h => q2 (h.1 r c hlt hclt).2
         clear q1 q2
         go_wp2
         go_ret
         exact ⟨ret_int HC.out.symm, hB⟩
       ·have q1' : decide (a.wid < a.x + (c : Int) * a.pitch) = true := by simp; omega
        have HC : Hid (chk a = 8) := HC8.out fun h => q1 (h.1 r c hlt hclt).1
        clear q1
        go_wp2
        go_ret
        exact ⟨ret_int HC.out.symm, hB⟩
      ·have HI2 : Hid (∀ c' : Nat, (c' : Int) < a.cols → a.x + c' * a.pitch ≤ a.wid ∧ a.y + r * a.pitch ≤ a.len) := fun c' h => HI.out c' (by omega)
       go_wp2
       go_round
       case rel => exact ⟨r + 1, by omega, by go_num, fun r' c' h h2 => (Nat.lt_succ_iff_lt_or_eq.1 h).elim (fun h => HG.out r' c' h h2) fun e => by rw [e]; exact HI2.out c' h2⟩
       case measure => simp [intOf]; omega
    ·have HG2 : Hid (∀ r' c : Nat, (r' : Int) < a.rows → (c : Int) < a.cols → a.x + c * a.pitch ≤ a.wid ∧ a.y + r' * a.pitch ≤ a.len) := fun r' c h h2 => HG.out r' c (by omega) h2
     by_cases hd : a.deep ≤ a.hei
     ·have HC : Hid (chk a = 0) := HC0.out ⟨HG2.out, hd⟩
      go_wp2
      go_ret
      exact ⟨ret_int HC.out.symm, hB⟩
     ·have HC : Hid (chk a = 8) := HC8.out fun h => hd h.2
      go_wp2
      go_ret
      exact ⟨ret_int HC.out.symm, hB⟩
end Go.Proofs.YtfadmpnpgiceeaaGreat.W

/- workcellref: WareMay walked. -/
namespace Go.Proofs.YtfadmpnpgiceeaaGreat.W
open Go.RowKit
open Go.Proofs.YtfadmpnpgiceeaaGreat Go.Proofs.YtfadmpnpgiceeaaGreat.F
theorem wareMay_any (a : Wr) (w : World) (hs : a.name.size ≤ maxLen) :
  Calls Tryz.prog 102 #[wv a] w fun e w' => e = .returned (.int .i64 (chk a)) ∧ Below w.heap.size w w' := by
 cases hl : lab a.name with
 | false => exact may_label a w hs hl
 | true =>
 cases hk : inR 1 3 a.kind with
 | false => exact may_kind a w hs hl hk
 | true =>
 cases hr : inR 1 16 a.rows with
 | false => exact may_rows a w hs hl hk hr
 | true =>
 cases hc : inR 1 24 a.cols with
 | false => exact may_cols a w hs hl hk hr hc
 | true =>
 cases hp : (a.pitch == 0) with
 | false =>
  cases hk3 : (a.kind == 3) with
  | true =>
   cases hcn : (a.cap != 0) with
   | true => exact may_cap1 a w hs hl hk hr hc hp hk3 hcn
   | false => exact may_good1 a w hs hl hk hr hc hp hk3 (by simpa using hk3) hcn
  | false =>
   cases hcw : inR 1 1000000000 a.cap with
   | true => exact may_good2 a w hs hl hk hr hc hp hk3 (by simpa using hk3) hcw
   | false => exact may_cap2 a w hs hl hk hr hc hp hk3 (by simpa using hk3) hcw
 | true =>
 cases hr1 : decide (1 < a.rows) with
 | true => exact may_pitch1 a w hs hl hk hr hc hp hr1
 | false =>
 cases hc1 : decide (1 < a.cols) with
 | true => exact may_pitch2 a w hs hl hk hr hc hp hr1 hc1
 | false =>
  cases hk3 : (a.kind == 3) with
  | true =>
   cases hcn : (a.cap != 0) with
   | true => exact may_cap3 a w hs hl hk hr hc hp hr1 hc1 hk3 hcn
   | false => exact may_good3 a w hs hl hk hr hc hp hr1 hc1 hk3 (by simpa using hk3) hcn
  | false =>
   cases hcw : inR 1 1000000000 a.cap with
   | true => exact may_good4 a w hs hl hk hr hc hp hr1 hc1 hk3 (by simpa using hk3) hcw
   | false => exact may_cap4 a w hs hl hk hr hc hp hr1 hc1 hk3 (by simpa using hk3) hcw
end Go.Proofs.YtfadmpnpgiceeaaGreat.W

/- workcellref: seatMay walked. -/
namespace Go.Proofs.YtfadmpnpgiceeaaGreat
open Go.RowKit Go.Maps
def seatR (s : Sit) : Int := if plc s = 0 then (if chk s.ware = 0 then (if 132500 < s.ware.wid ∨ 90500 < s.ware.len then 8 else 0) else chk s.ware) else plc s
set_option maxHeartbeats 3200000 in
theorem seatMay_any (s : Sit) (w : World) (hok : SOk s) :
  Calls Tryz.prog 70 #[sv s] w fun e w' => e = .returned (.int .i64 (seatR s)) ∧ Below w.heap.size w w' := by
 have HOK : Hid (SOk s) := hok
 have HB0 : Hid (Below w.heap.size w (w.alloc (sobj s))) := (brf).alloc (Nat.le_refl _) _
 have HQ : Hid (seatR s = if plc s = 0 then (if chk s.ware = 0 then (if 132500 < s.ware.wid ∨ 90500 < s.ware.len then 8 else 0) else chk s.ware) else plc s) := rfl
 have HP : Hid (plc s = if inR 1 12 s.slot = true then (if lab s.name = true then 0 else 3) else 2) := rfl
 clear hok
 cases h1 : inR 1 12 s.slot with
 | false =>
  have HR : Hid (seatR s = 2) := by show _ = _; rw [HQ.out, HP.out, h1]; rfl
  go_enter Tryz.func70, Tryz.ntmps70
  go_wp2_with fail
  refine (rwithin_any 1 s.slot 12 _).mono ?_
  rintro e w3 ⟨rfl, rfl⟩
  rw [h1]
  go_wp2
  go_ret
  exact ⟨ret_int HR.out.symm, HB0.out⟩
 | true =>
 cases h2 : lab s.name with
 | false =>
  have HR : Hid (seatR s = 3) := by show _ = _; rw [HQ.out, HP.out, h1, h2]; rfl
  go_enter Tryz.func70, Tryz.ntmps70
  go_wp2_with fail
  refine (rwithin_any 1 s.slot 12 _).mono ?_
  rintro e w3 ⟨rfl, rfl⟩
  rw [h1]
  go_wp2_with fail
  refine (F.labelMay_any s.name _ HOK.out.2).mono ?_
  rintro e w4 ⟨rfl, rfl⟩
  rw [h2]
  go_wp2
  go_ret
  exact ⟨ret_int HR.out.symm, HB0.out⟩
 | true =>
  have HP0 : Hid (plc s = 0) := by show _ = _; rw [HP.out, h1, h2]; rfl
  obtain ⟨w0, hw0⟩ : ∃ w0, w0 = w.alloc (sobj s) := ⟨_, rfl⟩
  have KS : Hid (Bk w.heap.size (scs s).toList w0) := by show Bk _ _ _; rw [hw0]; exact Bk.new w (scs s).toList 62 w.heap.size rfl
  have HW0 : Hid (w0 = w.alloc (sobj s)) := hw0
  clear hw0
  go_enter Tryz.func70, Tryz.ntmps70
  go_wp2_with fail
  refine (rwithin_any 1 s.slot 12 _).mono ?_
  rintro e w3 ⟨rfl, rfl⟩
  rw [h1]
  go_wp2_with fail
  refine (F.labelMay_any s.name _ HOK.out.2).mono ?_
  rintro e w4 ⟨rfl, rfl⟩
  rw [h2]
  go_wp2_with fail
  rw [← HW0.out]
  refine (W.wareMay_any s.ware w0 HOK.out.1).mono ?_
  rintro e w5 ⟨rfl, hb⟩
  have HB5 : Hid (Below w.heap.size w w5) := by
   have := HB0.out
   rw [← HW0.out] at this
   exact this.trans (hb.mono this.size)
  have K5 := KS.out.later hb
  have c8 := K5.c 8 rfl
  have c9 := K5.c 9 rfl
  clear hb K5
  obtain ⟨c, hc⟩ : ∃ c, chk s.ware = c := ⟨_, rfl⟩
  have HC : Hid (chk s.ware = c) := hc
  rw [hc]
  clear hc
  by_cases he : c = 0
  ·subst he
   by_cases hw : 132500 < s.ware.wid
   ·have HR : Hid (seatR s = 8) := by show _ = _; rw [HQ.out, if_pos HP0.out, if_pos HC.out, if_pos (.inl hw)]
    have hw2 : decide (132500 < s.ware.wid) = true := decide_eq_true hw
    clear hw
    go_wp2
    go_ret
    exact ⟨ret_int HR.out.symm, HB5.out⟩
   ·have hw2 : decide (132500 < s.ware.wid) = false := decide_eq_false hw
    by_cases hl : 90500 < s.ware.len
    ·have HR : Hid (seatR s = 8) := by show _ = _; rw [HQ.out, if_pos HP0.out, if_pos HC.out, if_pos (.inr hl)]
     have hl2 : decide (90500 < s.ware.len) = true := decide_eq_true hl
     clear hl hw
     go_wp2
     go_ret
     exact ⟨ret_int HR.out.symm, HB5.out⟩
    ·have HR : Hid (seatR s = 0) := by show _ = _; rw [HQ.out, if_pos HP0.out, if_pos HC.out, if_neg (by omega)]
     have hl2 : decide (90500 < s.ware.len) = false := decide_eq_false hl
     clear hl hw
     go_wp2
     go_ret
     exact ⟨ret_int HR.out.symm, HB5.out⟩
  ·have HR : Hid (seatR s = c) := by show _ = _; rw [HQ.out, if_pos HP0.out, HC.out, if_neg he]
   have h3 : (c == 0) = false := by simp [he]
   have h4 : (c != 0) = true := by simp [he]
   clear he
   go_wp2
   go_ret
   exact ⟨ret_int HR.out.symm, HB5.out⟩
end Go.Proofs.YtfadmpnpgiceeaaGreat
