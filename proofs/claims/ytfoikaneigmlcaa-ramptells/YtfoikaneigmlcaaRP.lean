/- The document's RampLongest. -/
import Derived.Test.YtfoikaneigmlcaaRO
namespace Go.Proofs.Ytfoikaneigmlcaa
open Go.RowKit

attribute [local go_sem] Oper.semAt_some
theorem done_le {xs : List Int} : ∀ {t : Int} {k : Nat}, (∀ x ∈ xs, 0 ≤ x) → 0 ≤ t → k ≤ xs.length → ((xs.take k).sum ≤ t ↔ k ≤ doneN t xs) := by
  induction xs with
  | nil => intro t k _ h0 hk; have : k = 0 := (by simpa using hk); subst this; simp [h0, doneN]
  | cons x xs ih =>
    intro t k hx h0 hk
    cases k with
    | zero => simp [h0]
    | succ k =>
      have hx0 := hx x (by simp)
      have hs : 0 ≤ (xs.take k).sum := sum_nonneg fun y hy => hx y (by simp [List.mem_of_mem_take hy])
      simp only [List.take_succ_cons, List.sum_cons, doneN]
      split
      · omega
      · have := ih (t := t - x) (k := k) (fun y hy => hx y (by simp [hy])) (by omega) (by simpa using hk)
        omega
theorem done_len (t : Int) (xs : List Int) : doneN t xs ≤ xs.length := by
  induction xs generalizing t with
  | nil => simp [doneN]
  | cons x xs ih =>
    simp only [doneN, List.length_cons]
    split
    · omega
    · have := ih (t - x); omega
/-- How long the first so many added steps take. -/
def addR (r : Rp) (n : Nat) : Int := (timesL r (addedL r n)).sum
theorem addR_more (r : Rp) (n : Nat) : addR r (n + 1) = addR r n + Int.tdiv r.c (spA r (n / 2)) := by
  unfold addR timesL
  rw [addedL_more, List.map_append, List.sum_append]
  simp
theorem addR_two (r : Rp) (h : Nat) : addR r (2 * h + 1) = addR r (2 * h) + Int.tdiv r.c (spA r h) ∧ addR r (2 * (h + 1)) = addR r (2 * h) + 2 * Int.tdiv r.c (spA r h) := by
  have h1 := addR_more r (2 * h)
  have h2 := addR_more r (2 * h + 1)
  rw [show 2 * h / 2 = h by omega] at h1
  rw [show (2 * h + 1) / 2 = h by omega] at h2
  rw [show 2 * (h + 1) = 2 * h + 1 + 1 by omega]
  omega
theorem addedL_pos2 {r : Rp} {n : Nat} (hr : rpOk r = true) (hn : n ≤ 40000) : ∀ x ∈ addedL r n, 1 ≤ x := by
  intro x hx
  unfold addedL at hx
  obtain ⟨i, hi, rfl⟩ := List.mem_map.1 hx
  have := List.mem_range.1 hi
  exact spA_pos hr (by omega)
theorem addR_bd {r : Rp} (hr : rpOk r = true) {n : Nat} (hn : n ≤ 40000) : 0 ≤ addR r n ∧ addR r n ≤ 4000000000000 := by
  have := sum_bd (timesL_bd hr (addedL_pos2 hr hn))
  rw [timesL_length, addedL_length] at this
  unfold addR
  omega
/-- So many steps fit just if no more than fit. -/
theorem fits {r : Rp} (hr : rpOk r = true) {t : Int} (h0 : 0 ≤ t) {n : Nat} (hn : n ≤ 20000) : addR r n ≤ t ↔ n ≤ doneN t (timesL r (addedL r 20000)) := by
  rw [← done_le (fun x hx => (timesL_bd hr (addedL_pos hr (Nat.le_refl _)) x hx).1) h0 (by rw [timesL_length, addedL_length]; exact hn)]
  unfold addR timesL
  rw [← List.map_take, addedL_take r hn]
set_option linter.unusedVariables false in
def lgV (A : Nat) (c m v0 x : Int) (d : Nat) (v : Value) (w : World) : Prop :=
  match d with
  | 22 => v = ptr A
  | 23 => v = .int .i64 c
  | 24 => v = .int .i64 v0
  | 25 => v = .pointer (some ⟨A, 2, none⟩)
  | 26 => v = .int .i64 m
  | 27 => v = .int .i64 x
  | 28 => v = .int .i64 (Int.tdiv c x)
  | 9 => v = .int .i64 (Int.tdiv c x)
  | _ => True
set_option linter.unusedVariables false in
theorem lgV_mono (A : Nat) (c m v0 x : Int) (d : Nat) (v : Value) (w w' : World) (h : lgV A c m v0 x d v w) (_ : Below w.heap.size w w') : lgV A c m v0 x d v w' := h
set_option maxHeartbeats 6400000 in
set_option maxRecDepth 100000 in
theorem rampLongest_any (r : Rp) (t : Int) (w : World) (hr : rpOk r = true) (ht0 : 0 ≤ t) (ht1 : t ≤ 9223372036854775807) :
    Calls Try.prog 12 #[rv r, .int .i64 t] w fun e w' => e = .returned (.int .i64 ((doneN t (timesL r (addedL r 20000)) : Nat) : Int)) ∧ Below w.heap.size w w' := by
  have HR : Hid (rpOk r = true) := hr
  have HLE : Hid (∀ x y W, Calls Try.prog 25 #[.int .i64 x, .int .i64 y] W fun e w' => e = .returned (.int .i64 (min x y)) ∧ w' = W) := lesser_any
  have HB0 : Hid (Below w.heap.size w (w.alloc (ro r))) := (Below.refl _ _).alloc (Nat.le_refl _) _
  have KA0 : Hid (Bk w.heap.size (rcl r) (w.alloc (ro r))) := Bk.new w (rcl r) 23 w.heap.size rfl
  have HFI : Hid (∀ n, n ≤ 20000 → (addR r n ≤ t ↔ n ≤ doneN t (timesL r (addedL r 20000)))) := fun n hn => fits hr ht0 hn
  have HDL : Hid (doneN t (timesL r (addedL r 20000)) ≤ 20000) := by show _ ≤ _; have := done_len t (timesL r (addedL r 20000)); rw [timesL_length, addedL_length] at this; exact this
  obtain ⟨D, hD⟩ : ∃ D, D = doneN t (timesL r (addedL r 20000)) := ⟨_, rfl⟩
  have HDE : Hid (D = doneN t (timesL r (addedL r 20000))) := hD
  rw [← hD] at HFI HDL ⊢
  clear hr hD
  go_enter Try.func12, Try.ntmps12
  go_wp2
  go_loopw [5, 6, 7, 8] (fun b sd v i wr => ∃ h : Nat, h ≤ 10001 ∧ b = .int .i64 ((min D (2 * h - 1) : Nat) : Int) ∧ sd = .int .i64 (addR r (2 * h)) ∧ v = .int .i64 (vR r h) ∧ i = .int .i64 ((h : Nat) : Int) ∧ Below w.heap.size w wr ∧ Bk w.heap.size (rcl r) wr) (fun _ _ _ i _ => 10001 - (intOf i).toNat)
  case atStart => exact ⟨0, by omega, by simp, rfl, rfl, rfl, HB0.out, KA0.out⟩
  case round =>
    obtain ⟨h, hh, rfl, rfl, rfl, rfl, hb, hk⟩ := hrel
    have HBW : Hid (Below w.heap.size w wr) := hb
    have KQ : Hid (Bk w.heap.size (rcl r) wr) := hk
    clear hb hk
    by_cases hlt : 2 * h ≤ 20000
    · have hvb := vR_bd HR.out h
      have HV : Hid (vR r (h + 1) = if vR r h < r.m then vR r h + r.r else vR r h) := rfl
      have HM : Hid (min (vR r h) r.m = spA r h) := vR_min HR.out h
      have hxp := spA_pos HR.out (k := h) (by omega)
      obtain ⟨h1, h2, h3, h4, h5, h6⟩ := rpOk_iff.1 HR.out
      have hf0 := HFI.out (2 * h) hlt
      have hf1 : 2 * h + 1 ≤ 20000 → (addR r (2 * h) + Int.tdiv r.c (spA r h) ≤ t ↔ 2 * h + 1 ≤ D) := fun e => by have := HFI.out (2 * h + 1) e; rw [(addR_two r h).1] at this; exact this
      have HA2 : Hid (addR r (2 * (h + 1)) = addR r (2 * h) + 2 * Int.tdiv r.c (spA r h)) := (addR_two r h).2
      have hab := addR_bd HR.out (n := 2 * h) (by omega)
      have hdl := HDL.out
      have htb := tdiv_bd (c := r.c) (x := spA r h) (by omega) hxp
      have HL : Hid (∀ W, Calls Try.prog 25 #[.int .i64 (vR r h), .int .i64 r.m] W fun e w' => e = .returned (.int .i64 (spA r h)) ∧ w' = W) := fun W => (HLE.out (vR r h) r.m W).mono fun e w' ⟨e1, e2⟩ => ⟨by rw [e1, HM.out], e2⟩
      clear HM
      generalize vR r h = v at *
      generalize spA r h = x at *
      generalize addR r (2 * h) = S0 at *
      have hx0 : x ≠ 0 := by omega
      have HD : Hid (Value.int .i64 (IntKind.i64.wrap (Int.tdiv r.c x)) = .int .i64 (Int.tdiv r.c x)) := by show _ = _; rw [wrap_in (by omega) (by omega)]
      obtain ⟨hv1, hv2⟩ := hvb
      obtain ⟨ha1, ha2⟩ := hab
      obtain ⟨hb1, hb2⟩ := htb
      have HF0 : Hid (S0 ≤ t ↔ 2 * h ≤ D) := hf0
      have HF1 : Hid (2 * h + 1 ≤ 20000 → (S0 + Int.tdiv r.c x ≤ t ↔ 2 * h + 1 ≤ D)) := hf1
      have HDD : Hid (D ≤ 20000) := hdl
      have HX1 : Hid (1 ≤ x) := hxp
      clear hf0 hf1 hdl
      by_cases hA : S0 ≤ t
      · go_wp2_with fail
        generalize decide (2 * (h : Int) ≤ 20000) = bq
        rename_i KK hkk
        have HKK := (show Hid _ from hkk)
        clear hkk
        refine region_inv [false, false, false, false, false, false, false, false, false, true, false, false, false, false, false, false, false, false, false, false, false, false, true, true, true, true, true, true, true, false, false, false, false, false, false, false, false, false, false, false, false, false, false, false, false, false, false, false, false, false, false, false, false, false, false, false]
          [(22, [], none), (23, [22], none), (24, [], none), (25, [], none), (26, [25], none), (27, [24, 26], none), (28, [23, 27], none), (9, [28], none)]
          (lgV w.heap.size r.c r.m v x) (by kernel_rfl) (by kernel_rfl) (lgV_mono w.heap.size r.c r.m v x) ?_ ?_
        · refine ⟨?_, ?_, ?_, ?_, ?_, ?_, ?_, ?_, trivial⟩
          · intro f w1 hb _ K hK
            have q0 := cell_later hb (KQ.out.c 0 rfl)
            simp only [over, overL, Nat.reduceAdd]
            go_simp
            exact hK _ _ ⟨_, rfl, by simp only [over, overL, Nat.reduceAdd]; rfl, Below.refl _ _⟩
          · intro f w1 hb ⟨h22, _⟩ K hK
            replace h22 : f 22 = _ := h22
            have q0 := cell_later hb (KQ.out.c 0 rfl)
            simp only [over, overL, Nat.reduceAdd, h22]
            go_simp
            exact hK _ _ ⟨_, rfl, by simp only [over, overL, Nat.reduceAdd, h22]; rfl, Below.refl _ _⟩
          · intro f w1 hb _ K hK
            simp only [over, overL, Nat.reduceAdd]
            go_simp
            exact hK _ _ ⟨_, rfl, by simp only [over, overL, Nat.reduceAdd]; rfl, Below.refl _ _⟩
          · intro f w1 hb _ K hK
            have q0 := cell_later hb (KQ.out.c 0 rfl)
            simp only [over, overL, Nat.reduceAdd]
            go_simp
            exact hK _ _ ⟨_, rfl, by simp only [over, overL, Nat.reduceAdd]; rfl, Below.refl _ _⟩
          · intro f w1 hb ⟨h25, _⟩ K hK
            replace h25 : f 25 = _ := h25
            have q0 := cell_later hb (KQ.out.c 2 rfl)
            simp only [over, overL, Nat.reduceAdd, h25]
            go_simp
            exact hK _ _ ⟨_, rfl, by simp only [over, overL, Nat.reduceAdd, h25]; rfl, Below.refl _ _⟩
          · intro f w1 hb ⟨h24, h26, _⟩ K hK
            replace h24 : f 24 = _ := h24
            replace h26 : f 26 = _ := h26
            simp only [over, overL, Nat.reduceAdd, h24, h26]
            go_simp
            refine Calls.mono (HL.out _) ?_
            rintro e w9 ⟨rfl, rfl⟩
            exact hK _ _ ⟨_, rfl, by simp only [over, overL, Nat.reduceAdd, h24, h26]; rfl, Below.refl _ _⟩
          · intro f w1 hb ⟨h23, h27, _⟩ K hK
            replace h23 : f 23 = _ := h23
            replace h27 : f 27 = _ := h27
            simp only [over, overL, Nat.reduceAdd, h23, h27]
            go_simp
            exact hK _ _ ⟨_, HD.out, by simp only [over, overL, Nat.reduceAdd, h23, h27]; rfl, Below.refl _ _⟩
          · intro f w1 hb ⟨h28, _⟩ K hK
            replace h28 : f 28 = _ := h28
            simp only [over, overL, Nat.reduceAdd, h28]
            go_simp
            exact hK _ _ ⟨_, rfl, by simp only [over, overL, Nat.reduceAdd, h28]; rfl, Below.refl _ _⟩
        intro f w3 hb hv
        have h9 : f 9 = _ := hv.2.2.2.2.2.2.2.1
        have KQ3 : Hid (Bk w.heap.size (rcl r) w3) := KQ.out.later hb
        have HB3 : Hid (Below w.heap.size w w3) := HBW.out.trans (hb.mono HBW.out.size)
        have a2 := KQ3.out.c 2 rfl
        have a3 := KQ3.out.c 3 rfl
        clear hv hb
        generalize hy : Int.tdiv r.c x = y at *
        have HYY := (show Hid _ from hy)
        clear hy
        refine HKK.out _ _ ?_
        simp only [over_eq, overL, h9, Nat.reduceAdd]
        have hf0 := HF0.out
        have hf1 := HF1.out
        have hdd := HDD.out
        by_cases hB : 2 * h + 1 ≤ 20000
        · have hB2 : 2 * (h : Int) + 1 ≤ 20000 := by omega
          by_cases hC : S0 + y ≤ t
          · have hD2 : 2 * h + 1 ≤ D := (hf1 hB).1 hC
            clear hf0 hf1 hdd
            by_cases hvm : v < r.m
            · have HV2 : Hid (vR r (h + 1) = v + r.r) := by show _ = _; rw [HV.out, if_pos hvm]
              have HBS : Hid (2 * h + 1 = min D (2 * (h + 1) - 1)) := by show _ = _; omega
              go_wp2
              go_roundw
              case rel => exact ⟨h + 1, by omega, by rw [← HBS.out]; try go_num, by rw [HA2.out], by rw [HV2.out], by go_num, HB3.out, KQ3.out⟩
              case measure => simp [intOf]; omega
            · have HV2 : Hid (vR r (h + 1) = v) := by show _ = _; rw [HV.out, if_neg hvm]
              have HBS : Hid (2 * h + 1 = min D (2 * (h + 1) - 1)) := by show _ = _; omega
              go_wp2
              go_roundw
              case rel => exact ⟨h + 1, by omega, by rw [← HBS.out]; try go_num, by rw [HA2.out], by rw [HV2.out], by go_num, HB3.out, KQ3.out⟩
              case measure => simp [intOf]; omega
          · have hD1 : 2 * h ≤ D := hf0.1 hA
            have hD2 : ¬ 2 * h + 1 ≤ D := fun e => hC ((hf1 hB).2 e)
            clear hf0 hf1 hdd
            by_cases hvm : v < r.m
            · have HV2 : Hid (vR r (h + 1) = v + r.r) := by show _ = _; rw [HV.out, if_pos hvm]
              have HBS : Hid (2 * h = min D (2 * (h + 1) - 1)) := by show _ = _; omega
              go_wp2
              go_roundw
              case rel => exact ⟨h + 1, by omega, by rw [← HBS.out]; try go_num, by rw [HA2.out], by rw [HV2.out], by go_num, HB3.out, KQ3.out⟩
              case measure => simp [intOf]; omega
            · have HV2 : Hid (vR r (h + 1) = v) := by show _ = _; rw [HV.out, if_neg hvm]
              have HBS : Hid (2 * h = min D (2 * (h + 1) - 1)) := by show _ = _; omega
              go_wp2
              go_roundw
              case rel => exact ⟨h + 1, by omega, by rw [← HBS.out]; try go_num, by rw [HA2.out], by rw [HV2.out], by go_num, HB3.out, KQ3.out⟩
              case measure => simp [intOf]; omega
        · have hB2 : ¬ 2 * (h : Int) + 1 ≤ 20000 := by omega
          have hD1 : 2 * h ≤ D := hf0.1 hA
          have hD2 : ¬ 2 * h + 1 ≤ D := by omega
          clear hf0 hf1 hdd
          by_cases hvm : v < r.m
          · have HV2 : Hid (vR r (h + 1) = v + r.r) := by show _ = _; rw [HV.out, if_pos hvm]
            have HBS : Hid (2 * h = min D (2 * (h + 1) - 1)) := by show _ = _; omega
            go_wp2
            go_roundw
            case rel => exact ⟨h + 1, by omega, by rw [← HBS.out]; try go_num, by rw [HA2.out], by rw [HV2.out], by go_num, HB3.out, KQ3.out⟩
            case measure => simp [intOf]; omega
          · have HV2 : Hid (vR r (h + 1) = v) := by show _ = _; rw [HV.out, if_neg hvm]
            have HBS : Hid (2 * h = min D (2 * (h + 1) - 1)) := by show _ = _; omega
            go_wp2
            go_roundw
            case rel => exact ⟨h + 1, by omega, by rw [← HBS.out]; try go_num, by rw [HA2.out], by rw [HV2.out], by go_num, HB3.out, KQ3.out⟩
            case measure => simp [intOf]; omega
      · go_wp2_with fail
        generalize decide (2 * (h : Int) ≤ 20000) = bq
        rename_i KK hkk
        have HKK := (show Hid _ from hkk)
        clear hkk
        refine region_inv [false, false, false, false, false, false, false, false, false, true, false, false, false, false, false, false, false, false, false, false, false, false, true, true, true, true, true, true, true, false, false, false, false, false, false, false, false, false, false, false, false, false, false, false, false, false, false, false, false, false, false, false, false, false, false, false]
          [(22, [], none), (23, [22], none), (24, [], none), (25, [], none), (26, [25], none), (27, [24, 26], none), (28, [23, 27], none), (9, [28], none)]
          (lgV w.heap.size r.c r.m v x) (by kernel_rfl) (by kernel_rfl) (lgV_mono w.heap.size r.c r.m v x) ?_ ?_
        · refine ⟨?_, ?_, ?_, ?_, ?_, ?_, ?_, ?_, trivial⟩
          · intro f w1 hb _ K hK
            have q0 := cell_later hb (KQ.out.c 0 rfl)
            simp only [over, overL, Nat.reduceAdd]
            go_simp
            exact hK _ _ ⟨_, rfl, by simp only [over, overL, Nat.reduceAdd]; rfl, Below.refl _ _⟩
          · intro f w1 hb ⟨h22, _⟩ K hK
            replace h22 : f 22 = _ := h22
            have q0 := cell_later hb (KQ.out.c 0 rfl)
            simp only [over, overL, Nat.reduceAdd, h22]
            go_simp
            exact hK _ _ ⟨_, rfl, by simp only [over, overL, Nat.reduceAdd, h22]; rfl, Below.refl _ _⟩
          · intro f w1 hb _ K hK
            simp only [over, overL, Nat.reduceAdd]
            go_simp
            exact hK _ _ ⟨_, rfl, by simp only [over, overL, Nat.reduceAdd]; rfl, Below.refl _ _⟩
          · intro f w1 hb _ K hK
            have q0 := cell_later hb (KQ.out.c 0 rfl)
            simp only [over, overL, Nat.reduceAdd]
            go_simp
            exact hK _ _ ⟨_, rfl, by simp only [over, overL, Nat.reduceAdd]; rfl, Below.refl _ _⟩
          · intro f w1 hb ⟨h25, _⟩ K hK
            replace h25 : f 25 = _ := h25
            have q0 := cell_later hb (KQ.out.c 2 rfl)
            simp only [over, overL, Nat.reduceAdd, h25]
            go_simp
            exact hK _ _ ⟨_, rfl, by simp only [over, overL, Nat.reduceAdd, h25]; rfl, Below.refl _ _⟩
          · intro f w1 hb ⟨h24, h26, _⟩ K hK
            replace h24 : f 24 = _ := h24
            replace h26 : f 26 = _ := h26
            simp only [over, overL, Nat.reduceAdd, h24, h26]
            go_simp
            refine Calls.mono (HL.out _) ?_
            rintro e w9 ⟨rfl, rfl⟩
            exact hK _ _ ⟨_, rfl, by simp only [over, overL, Nat.reduceAdd, h24, h26]; rfl, Below.refl _ _⟩
          · intro f w1 hb ⟨h23, h27, _⟩ K hK
            replace h23 : f 23 = _ := h23
            replace h27 : f 27 = _ := h27
            simp only [over, overL, Nat.reduceAdd, h23, h27]
            go_simp
            exact hK _ _ ⟨_, HD.out, by simp only [over, overL, Nat.reduceAdd, h23, h27]; rfl, Below.refl _ _⟩
          · intro f w1 hb ⟨h28, _⟩ K hK
            replace h28 : f 28 = _ := h28
            simp only [over, overL, Nat.reduceAdd, h28]
            go_simp
            exact hK _ _ ⟨_, rfl, by simp only [over, overL, Nat.reduceAdd, h28]; rfl, Below.refl _ _⟩
        intro f w3 hb hv
        have h9 : f 9 = _ := hv.2.2.2.2.2.2.2.1
        have KQ3 : Hid (Bk w.heap.size (rcl r) w3) := KQ.out.later hb
        have HB3 : Hid (Below w.heap.size w w3) := HBW.out.trans (hb.mono HBW.out.size)
        have a2 := KQ3.out.c 2 rfl
        have a3 := KQ3.out.c 3 rfl
        clear hv hb
        generalize hy : Int.tdiv r.c x = y at *
        have HYY := (show Hid _ from hy)
        clear hy
        refine HKK.out _ _ ?_
        simp only [over_eq, overL, h9, Nat.reduceAdd]
        have hf0 := HF0.out
        have hf1 := HF1.out
        have hdd := HDD.out
        have hD1 : ¬ 2 * h ≤ D := fun e => by have := hf0.2 e; omega
        have hD2 : ¬ 2 * h + 1 ≤ D := by omega
        have hC : ¬ S0 + y ≤ t := by omega
        by_cases hB : 2 * h + 1 ≤ 20000
        · have hB2 : 2 * (h : Int) + 1 ≤ 20000 := by omega
          clear hf0 hf1 hdd
          by_cases hvm : v < r.m
          · have HV2 : Hid (vR r (h + 1) = v + r.r) := by show _ = _; rw [HV.out, if_pos hvm]
            have HBS : Hid (min D (2 * h - 1) = min D (2 * (h + 1) - 1)) := by show _ = _; omega
            go_wp2
            go_roundw
            case rel => exact ⟨h + 1, by omega, by rw [← HBS.out]; try go_num, by rw [HA2.out], by rw [HV2.out], by go_num, HB3.out, KQ3.out⟩
            case measure => simp [intOf]; omega
          · have HV2 : Hid (vR r (h + 1) = v) := by show _ = _; rw [HV.out, if_neg hvm]
            have HBS : Hid (min D (2 * h - 1) = min D (2 * (h + 1) - 1)) := by show _ = _; omega
            go_wp2
            go_roundw
            case rel => exact ⟨h + 1, by omega, by rw [← HBS.out]; try go_num, by rw [HA2.out], by rw [HV2.out], by go_num, HB3.out, KQ3.out⟩
            case measure => simp [intOf]; omega
        · have hB2 : ¬ 2 * (h : Int) + 1 ≤ 20000 := by omega
          clear hf0 hf1 hdd
          by_cases hvm : v < r.m
          · have HV2 : Hid (vR r (h + 1) = v + r.r) := by show _ = _; rw [HV.out, if_pos hvm]
            have HBS : Hid (min D (2 * h - 1) = min D (2 * (h + 1) - 1)) := by show _ = _; omega
            go_wp2
            go_roundw
            case rel => exact ⟨h + 1, by omega, by rw [← HBS.out]; try go_num, by rw [HA2.out], by rw [HV2.out], by go_num, HB3.out, KQ3.out⟩
            case measure => simp [intOf]; omega
          · have HV2 : Hid (vR r (h + 1) = v) := by show _ = _; rw [HV.out, if_neg hvm]
            have HBS : Hid (min D (2 * h - 1) = min D (2 * (h + 1) - 1)) := by show _ = _; omega
            go_wp2
            go_roundw
            case rel => exact ⟨h + 1, by omega, by rw [← HBS.out]; try go_num, by rw [HA2.out], by rw [HV2.out], by go_num, HB3.out, KQ3.out⟩
            case measure => simp [intOf]; omega
    · have HE : Hid (D = min D (2 * h - 1)) := by show _ = _; have := HDL.out; omega
      go_wp2
      go_ret
      exact ⟨ret_int (by rw [← HE.out]), HBW.out⟩
end Go.Proofs.Ytfoikaneigmlcaa
