/- The document's RampTotal and RampAt. -/
import Derived.Test.YtfoikaneigmlcaaRN
namespace Go.Proofs.Ytfoikaneigmlcaa
open Go.RowKit

theorem timesL_at (r : Rp) (xs : List Int) {k : Nat} (h : k < (timesL r xs).length) : (timesL r xs)[k]'h = Int.tdiv r.c (xs[k]'(by rw [timesL_length] at h; exact h)) := by simp [timesL]
set_option maxHeartbeats 6400000 in
set_option maxRecDepth 100000 in
theorem rampTotal_any (r : Rp) (n : Nat) (w : World) (hr : rpOk r = true) (hn : n ≤ 20000) :
    Calls Try.prog 15 #[rv r, .int .i64 (n : Int)] w fun e w' => e = .returned (.int .i64 (totR r n)) ∧ Below w.heap.size w w' := by
  have HR : Hid (rpOk r = true) := hr
  have HS : Hid (∀ W, Calls Try.prog 13 #[rv r, .int .i64 (n : Int)] W fun e w' => ∃ G, e = .returned (.slice (some ⟨G, 0, none⟩) n n) ∧ W.heap.size ≤ G ∧ Ints (speedsL r n) G w' ∧ Below W.heap.size W w') := fun W => rampSpeeds_any r n W hr hn
  have HB0 : Hid (Below w.heap.size w (w.alloc (ro r))) := (Below.refl _ _).alloc (Nat.le_refl _) _
  have KA0 : Hid (Bk w.heap.size (rcl r) (w.alloc (ro r))) := Bk.new w (rcl r) 23 w.heap.size rfl
  have HT : Hid (totR r n = (timesL r (speedsL r n)).sum) := rfl
  clear hr
  go_enter Try.func15, Try.ntmps15
  go_wp2_with fail
  refine Calls.mono (HS.out _) ?_
  rintro e w1 ⟨G, rfl, hG, hI, hb1⟩
  have HB1 : Hid (Below w.heap.size w w1) := HB0.out.trans (hb1.mono HB0.out.size)
  have KA1 : Hid (Bk w.heap.size (rcl r) w1) := KA0.out.later hb1
  have HI : Hid (Ints (speedsL r n) G w1) := hI
  clear hb1 hI hG
  go_wp2
  go_loopw [6, 7] (fun s i wr => ∃ k : Nat, k ≤ n ∧ s = .int .i64 ((timesL r (speedsL r n)).take k).sum ∧ i = .int .i64 ((k : Nat) : Int) ∧ ∃ q, wr = w1.drewN q) (fun _ i _ => n - (intOf i).toNat)
  case atStart => exact ⟨0, Nat.zero_le _, rfl, rfl, 0, rfl⟩
  case round =>
    obtain ⟨k, hk, rfl, rfl, q, rfl⟩ := hrel
    by_cases hlt : k < n
    · have hkl : k < (speedsL r n).length := by rw [speedsL_length]; exact hlt
      have hkt : k < (timesL r (speedsL r n)).length := by rw [timesL_length]; exact hkl
      have hx := HI.out.2 k hkl
      have hx1 := speedsL_pos HR.out hn _ (List.getElem_mem hkl)
      have HE : Hid (((timesL r (speedsL r n)).take (k + 1)).sum = ((timesL r (speedsL r n)).take k).sum + Int.tdiv r.c ((speedsL r n)[k]'hkl)) := by show _ = _; rw [sum_take hkt, timesL_at]
      have hs := sum_bd (xs := (timesL r (speedsL r n)).take k) (fun x hx => timesL_bd HR.out (speedsL_pos HR.out hn) x (List.mem_of_mem_take hx))
      have hsl : ((timesL r (speedsL r n)).take k).length ≤ 20000 := by rw [List.length_take, timesL_length, speedsL_length]; omega
      generalize (speedsL r n)[k]'hkl = x at *
      generalize ((timesL r (speedsL r n)).take k).sum = s at *
      have hd := tdiv_bd (c := r.c) (x := x) (by have := rpOk_iff.1 HR.out; omega) hx1
      have hc := rpOk_iff.1 HR.out
      have hc0 : 0 ≤ r.c := by omega
      have hc1 : r.c ≤ 100000000 := by omega
      have hs0 : 0 ≤ s := hs.1
      have hs1 : s ≤ 2000000000000 := by omega
      have hx0 : x ≠ 0 := by omega
      have a0 := KA1.out.c 0 rfl
      have HTD : Hid (Int.tdiv r.c x = r.c / x) := Int.tdiv_eq_ediv_of_nonneg (by omega)
      obtain ⟨hd0, hd1⟩ := hd
      rw [HTD.out] at hd0 hd1
      clear hs hsl hc
      go_wp2_with fail
      go_big_quiet (fail)
      go_wp2
      go_roundw
      case rel => exact ⟨k + 1, by omega, by rw [HE.out, HTD.out], by go_num, q + nq, by first | rfl | simp⟩
      case measure => simp [intOf]; omega
    · have HE : Hid (((timesL r (speedsL r n)).take k).sum = totR r n) := by show _ = _; rw [HT.out, List.take_of_length_le (by rw [timesL_length, speedsL_length]; omega)]
      have HBQ : Hid (Below w.heap.size w (w1.drewN q)) := below_drewN HB1.out q
      generalize ((timesL r (speedsL r n)).take k).sum = s at *
      go_wp2
      go_ret
      exact ⟨ret_int HE.out, HBQ.out⟩
set_option maxHeartbeats 6400000 in
set_option maxRecDepth 100000 in
theorem rampAt_any (r : Rp) (n : Nat) (t : Int) (w : World) (hr : rpOk r = true) (hn : n ≤ 20000) (ht0 : 0 ≤ t) (ht1 : t ≤ 9223372036854775807) :
    Calls Try.prog 16 #[rv r, .int .i64 (n : Int), .int .i64 t] w fun e w' => e = .returned (.int .i64 ((doneN t (timesL r (speedsL r n)) : Nat) : Int)) ∧ Below w.heap.size w w' := by
  have HR : Hid (rpOk r = true) := hr
  have HS : Hid (∀ W, Calls Try.prog 13 #[rv r, .int .i64 (n : Int)] W fun e w' => ∃ G, e = .returned (.slice (some ⟨G, 0, none⟩) n n) ∧ W.heap.size ≤ G ∧ Ints (speedsL r n) G w' ∧ Below W.heap.size W w') := fun W => rampSpeeds_any r n W hr hn
  have HB0 : Hid (Below w.heap.size w (w.alloc (ro r))) := (Below.refl _ _).alloc (Nat.le_refl _) _
  have KA0 : Hid (Bk w.heap.size (rcl r) (w.alloc (ro r))) := Bk.new w (rcl r) 23 w.heap.size rfl
  clear hr
  go_enter Try.func16, Try.ntmps16
  go_wp2_with fail
  refine Calls.mono (HS.out _) ?_
  rintro e w1 ⟨G, rfl, hG, hI, hb1⟩
  have HB1 : Hid (Below w.heap.size w w1) := HB0.out.trans (hb1.mono HB0.out.size)
  have KA1 : Hid (Bk w.heap.size (rcl r) w1) := KA0.out.later hb1
  have HI : Hid (Ints (speedsL r n) G w1) := hI
  clear hb1 hI hG
  go_wp2
  go_loopw [2, 8] (fun t2 i wr => ∃ (k : Nat) (t' : Int), k ≤ n ∧ t2 = .int .i64 t' ∧ 0 ≤ t' ∧ t' ≤ t ∧ Hid (doneN t (timesL r (speedsL r n)) = k + doneN t' ((timesL r (speedsL r n)).drop k)) ∧ i = .int .i64 ((k : Nat) : Int) ∧ ∃ q, wr = w1.drewN q) (fun _ i _ => n - (intOf i).toNat)
  case atStart => exact ⟨0, t, Nat.zero_le _, rfl, ht0, Int.le_refl _, (by show _ = _; simp), rfl, 0, rfl⟩
  case round =>
    obtain ⟨k, t', hk, rfl, h0, h1, H3, rfl, q, rfl⟩ := hrel
    by_cases hlt : k < n
    · have hkl : k < (speedsL r n).length := by rw [speedsL_length]; exact hlt
      have hkt : k < (timesL r (speedsL r n)).length := by rw [timesL_length]; exact hkl
      have hx := HI.out.2 k hkl
      have hx1 := speedsL_pos HR.out hn _ (List.getElem_mem hkl)
      have HTA : Hid ((timesL r (speedsL r n))[k]'hkt = Int.tdiv r.c ((speedsL r n)[k]'hkl)) := timesL_at r _ hkt
      have HST : Hid (t' < (timesL r (speedsL r n))[k]'hkt → doneN t' ((timesL r (speedsL r n)).drop k) = 0) := fun e => doneN_stop hkt e
      have HMO : Hid ((timesL r (speedsL r n))[k]'hkt ≤ t' → doneN t' ((timesL r (speedsL r n)).drop k) = doneN (t' - (timesL r (speedsL r n))[k]'hkt) ((timesL r (speedsL r n)).drop (k + 1)) + 1) := fun e => doneN_more hkt e
      generalize (timesL r (speedsL r n))[k]'hkt = y at *
      generalize (speedsL r n)[k]'hkl = x at *
      have hd := tdiv_bd (c := r.c) (x := x) (by have := rpOk_iff.1 HR.out; omega) hx1
      have hc := rpOk_iff.1 HR.out
      have hc0 : 0 ≤ r.c := by omega
      have hc1 : r.c ≤ 100000000 := by omega
      have hx0 : x ≠ 0 := by omega
      have a0 := KA1.out.c 0 rfl
      have HTD : Hid (y = r.c / x) := by show _ = _; rw [HTA.out]; exact Int.tdiv_eq_ediv_of_nonneg (by omega)
      obtain ⟨hd0, hd1⟩ := hd
      rw [← HTA.out, HTD.out] at hd0 hd1
      clear hc
      have hkd : decide ((k : Int) < (n : Int)) = true := decide_eq_true (by omega)
      by_cases hle : r.c / x ≤ t'
      · have HE : Hid (doneN t (timesL r (speedsL r n)) = (k + 1) + doneN (t' - r.c / x) ((timesL r (speedsL r n)).drop (k + 1))) := by
          show _ = _
          rw [H3.out, HMO.out (by rw [HTD.out]; exact hle), HTD.out]
          omega
        have hled : decide (r.c / x ≤ t') = true := decide_eq_true hle
        go_wp2_with fail
        go_big_quiet (fail)
        go_wp2_with fail
        go_big_quiet (fail)
        go_wp2
        go_roundw
        case rel => exact ⟨k + 1, t' - r.c / x, by omega, by go_num, by omega, by omega, HE, by go_num, _, by first | rfl | simp⟩
        case measure => simp [intOf]; omega
      · have HE : Hid (k = doneN t (timesL r (speedsL r n))) := by
          show _ = _
          rw [H3.out, HST.out (by rw [HTD.out]; omega)]
          omega
        have hled : decide (r.c / x ≤ t') = false := decide_eq_false hle
        have HBQ : ∀ m, Hid (Below w.heap.size w (w1.drewN m)) := fun m => below_drewN HB1.out m
        go_wp2_with fail
        go_big_quiet (fail)
        go_wp2
        go_ret
        exact ⟨ret_int (by rw [← HE.out]), by simpa using (HBQ _).out⟩
    · have HE : Hid (k = doneN t (timesL r (speedsL r n))) := by
        show _ = _
        rw [H3.out, List.drop_of_length_le (by rw [timesL_length, speedsL_length]; omega)]
        rfl
      have HBQ : ∀ m, Hid (Below w.heap.size w (w1.drewN m)) := fun m => below_drewN HB1.out m
      have hkd : decide ((k : Int) < (n : Int)) = false := decide_eq_false (by omega)
      go_wp2_with fail
      go_big_quiet (fail)
      go_wp2
      go_ret
      exact ⟨ret_int (by rw [← HE.out]), by simpa using (HBQ _).out⟩
end Go.Proofs.Ytfoikaneigmlcaa
