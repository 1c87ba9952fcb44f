/- The document's side: small functions. -/
import Derived.Test.YtanmfhaiahhoeaaQM
import Derived.Deep.Cut
import Derived.Deep.CutRange
namespace Go.Proofs.Ytanmfhaiahhoeaa
open Go.RowKit

theorem within_any (n a b : Int) (w : World) : Calls Try.prog 32 #[.int .i64 n, .int .i64 a, .int .i64 b] w fun e w' => e = .returned (.bool (decide (a ≤ n) && decide (n ≤ b))) ∧ w' = w := by
  go_enter Try.func32, Try.ntmps32
  go_wp2
  all_goals
    go_ret
    exact ⟨ret_bool (by first | (simp [*]; done) | (simp; omega)), rfl⟩
theorem sizeR_any (n : Int) (w : World) (h1 : -20000 ≤ n) (h2 : n ≤ 20000) : Calls Try.prog 36 #[.int .i64 n] w fun e w' => e = .returned (.int .i64 (n.natAbs : Nat)) ∧ w' = w := by
  go_enter Try.func36, Try.ntmps36
  go_wp2
  all_goals
    go_ret
    exact ⟨ret_int (by omega), rfl⟩
theorem greater_any (a b : Nat) (w : World) : Calls Try.prog 35 #[.int .i64 (a : Nat), .int .i64 (b : Nat)] w fun e w' => e = .returned (.int .i64 (max a b : Nat)) ∧ w' = w := by
  go_enter Try.func35, Try.ntmps35
  go_wp2
  all_goals
    go_ret
    exact ⟨ret_int (by omega), rfl⟩
set_option maxHeartbeats 6400000 in
theorem behind_any (t n : Nat) (a : Int) (w : World) (h1 : -20000 ≤ a) (h2 : a ≤ 20000) (ht : t ≤ 20000) (hn : 0 < n) (hn2 : n ≤ 20000) :
    Calls Try.prog 37 #[.int .i64 (t : Nat), .int .i64 a, .int .i64 (n : Nat)] w fun e w' => e = .returned (.int .i64 (st a.natAbs n t : Nat)) ∧ w' = w := by
  have HS : Hid (∀ W, Calls Try.prog 36 #[.int .i64 a] W fun e w' => e = .returned (.int .i64 (a.natAbs : Nat)) ∧ w' = W) := fun W => sizeR_any a W h1 h2
  have hA : a.natAbs ≤ 20000 := by omega
  obtain ⟨A, hAA⟩ : ∃ A, A = a.natAbs := ⟨_, rfl⟩
  rw [← hAA] at HS hA ⊢
  have m1 : t * A ≤ 20000 * 20000 := Nat.mul_le_mul ht hA
  obtain ⟨q, hq⟩ : ∃ q, q = t * A := ⟨_, rfl⟩
  have hq2 : 2 * (t : Int) * (A : Int) = 2 * (q : Int) := by rw [hq, Int.mul_assoc]; simp
  have HR : Hid (((st A n t : Nat) : Int) = (2 * (q : Int) + n) / (2 * n)) := by
    show _ = _
    unfold st
    rw [← hq, Int.natCast_ediv]
    simp
  rw [← hq] at m1
  clear hAA hq h1 h2
  go_enter Try.func37, Try.ntmps37
  go_wp2_with fail
  refine (HS.out _).mono ?_
  rintro e w1 ⟨rfl, rfl⟩
  have hn3 : (0 : Int) < n := by omega
  go_wp2
  go_ret
  exact ⟨ret_int HR.out.symm, rfl⟩
set_option maxHeartbeats 6400000 in
theorem pointSum_any (a b c x y z : Int) (w : World) (h : (-100000 ≤ a ∧ a ≤ 100000) ∧ (-100000 ≤ b ∧ b ≤ 100000) ∧ (-100000 ≤ c ∧ c ≤ 100000)) (h2 : (-100000 ≤ x ∧ x ≤ 100000) ∧ (-100000 ≤ y ∧ y ≤ 100000) ∧ (-100000 ≤ z ∧ z ≤ 100000)) :
    Calls Try.prog 33 #[v3 a b c, v3 x y z] w fun e w' => e = .returned (v3 (a + x) (b + y) (c + z)) ∧ Below w.heap.size w w' := by
  obtain ⟨⟨a1, a2⟩, ⟨b1, b2⟩, ⟨c1, c2⟩⟩ := h
  obtain ⟨⟨x1, x2⟩, ⟨y1, y2⟩, ⟨z1, z2⟩⟩ := h2
  have HB : Hid (Below w.heap.size w (((w.alloc (o3 a b c 23)).alloc (o3 x y z 23)).alloc (o3 (a + x) (b + y) (c + z) 23))) := three_new _ _ _ _
  go_enter Try.func33, Try.ntmps33
  go_wp2
  exact bodyPost_ret (v := v3 (a + x) (b + y) (c + z)) (by simp [results, Try.results33, go_sem]) rfl ⟨rfl, HB.out⟩
set_option maxHeartbeats 6400000 in
theorem moveMay_any (x y z : Int) (w : World) : Calls Try.prog 15 #[v3 x y z] w fun e w' => e = .returned (.bool (mv x y z)) ∧ Below w.heap.size w w' := by
  have HW : Hid (∀ n W, Calls Try.prog 32 #[.int .i64 n, .int .i64 (-20000), .int .i64 20000] W fun e w' => e = .returned (.bool (inM n)) ∧ w' = W) := fun n W => within_any n (-20000) 20000 W
  have HB : Hid (Below w.heap.size w (w.alloc (o3 x y z 23))) := (Below.refl _ _).alloc (Nat.le_refl _) _
  have HE : Hid (mv x y z = (inM x && inM y && inM z)) := rfl
  go_enter Try.func15, Try.ntmps15
  cases hx : inM x with
  | false =>
    have HX : Hid (mv x y z = false) := by show _ = _; rw [HE.out, hx]; rfl
    go_wp2_with (refine (HW.out _ _).mono ?_; rintro e w1 ⟨rfl, rfl⟩)
    go_ret
    exact ⟨ret_bool HX.out.symm, HB.out⟩
  | true =>
    cases hy : inM y with
    | false =>
      have HX : Hid (mv x y z = false) := by show _ = _; rw [HE.out, hx, hy]; rfl
      go_wp2_with (refine (HW.out _ _).mono ?_; rintro e w1 ⟨rfl, rfl⟩)
      go_ret
      exact ⟨ret_bool HX.out.symm, HB.out⟩
    | true =>
      have HX : Hid (mv x y z = inM z) := by show _ = _; rw [HE.out, hx, hy]; rfl
      go_wp2_with (refine (HW.out _ _).mono ?_; rintro e w1 ⟨rfl, rfl⟩)
      go_ret
      exact ⟨ret_bool HX.out.symm, HB.out⟩
/-- What is so of the bits of pulses that may be, each of the 64 looked at. -/
theorem bits64 : ∀ p : Fin 64,
    isP ((p : Nat) : Int) = !(((bits BinOp.and IntKind.i64 ((p : Nat) : Int) 8 != 0) && (bits BinOp.and IntKind.i64 ((p : Nat) : Int) 1 == 0)) || ((bits BinOp.and IntKind.i64 ((p : Nat) : Int) 16 != 0) && (bits BinOp.and IntKind.i64 ((p : Nat) : Int) 2 == 0)) || ((bits BinOp.and IntKind.i64 ((p : Nat) : Int) 32 != 0) && (bits BinOp.and IntKind.i64 ((p : Nat) : Int) 4 == 0))) ∧
    (isP ((p : Nat) : Int) = true → (bits BinOp.and IntKind.i64 (((p : Nat) : Int) / 8) 1 == 1) = true → (bits BinOp.and IntKind.i64 ((p : Nat) : Int) 1 == 0) = false) ∧
    (isP ((p : Nat) : Int) = true → (bits BinOp.and IntKind.i64 (((p : Nat) : Int) / 16) 1 == 1) = true → (bits BinOp.and IntKind.i64 (((p : Nat) : Int) / 2) 1 == 0) = false) ∧
    (isP ((p : Nat) : Int) = true → (bits BinOp.and IntKind.i64 (((p : Nat) : Int) / 32) 1 == 1) = true → (bits BinOp.and IntKind.i64 (((p : Nat) : Int) / 4) 1 == 0) = false) := by decide +kernel
theorem isP_in {p : Int} (h : isP p = true) : 0 ≤ p ∧ p ≤ 63 := by
  unfold isP at h
  simp only [Bool.and_eq_true, decide_eq_true_eq] at h
  exact ⟨h.1, h.2.1⟩
theorem isP_fin {p : Int} (h0 : 0 ≤ p) (h1 : p ≤ 63) : ∃ q : Fin 64, p = ((q : Nat) : Int) := ⟨⟨p.toNat, by omega⟩, by show p = ((p.toNat : Nat) : Int); omega⟩
theorem step_bits0 {p : Int} (h : isP p = true) : (bits BinOp.and IntKind.i64 (p / 8) 1 == 1) = true → (bits BinOp.and IntKind.i64 (p) 1 == 0) = false := by
  obtain ⟨h0, h1⟩ := isP_in h
  obtain ⟨q, rfl⟩ := isP_fin h0 h1
  exact (bits64 q).2.1 h
set_option maxHeartbeats 6400000 in
theorem pulseStep0 (p : Int) (w : World) (h : isP p = true) : Calls Try.prog 34 #[.int .i64 p, .int .i64 0] w fun e w' => e = .returned (.int .i64 (dg p 0)) ∧ w' = w := by
  have e : dg p 0 = bits BinOp.and IntKind.i64 (p) 1 - 2 * bits BinOp.and IntKind.i64 (p / 8) 1 := by simp [dg]
  have hb := step_bits0 h
  rcases bit_01 (p) with e1 | e1 <;> rcases bit_01 (p / 8) with e2 | e2
  · rw [e1, e2] at e
    have HE : Hid (dg p 0 = 0) := e
    clear e hb h
    go_enter Try.func34, Try.ntmps34
    go_wp2
    go_ret
    exact ⟨ret_int HE.out.symm, rfl⟩
  · rw [e1, e2] at hb
    exact absurd (hb rfl) (by decide)
  · rw [e1, e2] at e
    have HE : Hid (dg p 0 = 1) := e
    clear e hb h
    go_enter Try.func34, Try.ntmps34
    go_wp2
    go_ret
    exact ⟨ret_int HE.out.symm, rfl⟩
  · rw [e1, e2] at e
    have HE : Hid (dg p 0 = -1) := e
    clear e hb h
    go_enter Try.func34, Try.ntmps34
    go_wp2
    go_ret
    exact ⟨ret_int HE.out.symm, rfl⟩
theorem step_bits1 {p : Int} (h : isP p = true) : (bits BinOp.and IntKind.i64 (p / 16) 1 == 1) = true → (bits BinOp.and IntKind.i64 (p / 2) 1 == 0) = false := by
  obtain ⟨h0, h1⟩ := isP_in h
  obtain ⟨q, rfl⟩ := isP_fin h0 h1
  exact (bits64 q).2.2.1 h
set_option maxHeartbeats 6400000 in
theorem pulseStep1 (p : Int) (w : World) (h : isP p = true) : Calls Try.prog 34 #[.int .i64 p, .int .i64 1] w fun e w' => e = .returned (.int .i64 (dg p 1)) ∧ w' = w := by
  have e : dg p 1 = bits BinOp.and IntKind.i64 (p / 2) 1 - 2 * bits BinOp.and IntKind.i64 (p / 16) 1 := by simp [dg]
  have hb := step_bits1 h
  rcases bit_01 (p / 2) with e1 | e1 <;> rcases bit_01 (p / 16) with e2 | e2
  · rw [e1, e2] at e
    have HE : Hid (dg p 1 = 0) := e
    clear e hb h
    go_enter Try.func34, Try.ntmps34
    go_wp2
    go_ret
    exact ⟨ret_int HE.out.symm, rfl⟩
  · rw [e1, e2] at hb
    exact absurd (hb rfl) (by decide)
  · rw [e1, e2] at e
    have HE : Hid (dg p 1 = 1) := e
    clear e hb h
    go_enter Try.func34, Try.ntmps34
    go_wp2
    go_ret
    exact ⟨ret_int HE.out.symm, rfl⟩
  · rw [e1, e2] at e
    have HE : Hid (dg p 1 = -1) := e
    clear e hb h
    go_enter Try.func34, Try.ntmps34
    go_wp2
    go_ret
    exact ⟨ret_int HE.out.symm, rfl⟩
theorem step_bits2 {p : Int} (h : isP p = true) : (bits BinOp.and IntKind.i64 (p / 32) 1 == 1) = true → (bits BinOp.and IntKind.i64 (p / 4) 1 == 0) = false := by
  obtain ⟨h0, h1⟩ := isP_in h
  obtain ⟨q, rfl⟩ := isP_fin h0 h1
  exact (bits64 q).2.2.2 h
set_option maxHeartbeats 6400000 in
theorem pulseStep2 (p : Int) (w : World) (h : isP p = true) : Calls Try.prog 34 #[.int .i64 p, .int .i64 2] w fun e w' => e = .returned (.int .i64 (dg p 2)) ∧ w' = w := by
  have e : dg p 2 = bits BinOp.and IntKind.i64 (p / 4) 1 - 2 * bits BinOp.and IntKind.i64 (p / 32) 1 := by simp [dg]
  have hb := step_bits2 h
  rcases bit_01 (p / 4) with e1 | e1 <;> rcases bit_01 (p / 32) with e2 | e2
  · rw [e1, e2] at e
    have HE : Hid (dg p 2 = 0) := e
    clear e hb h
    go_enter Try.func34, Try.ntmps34
    go_wp2
    go_ret
    exact ⟨ret_int HE.out.symm, rfl⟩
  · rw [e1, e2] at hb
    exact absurd (hb rfl) (by decide)
  · rw [e1, e2] at e
    have HE : Hid (dg p 2 = 1) := e
    clear e hb h
    go_enter Try.func34, Try.ntmps34
    go_wp2
    go_ret
    exact ⟨ret_int HE.out.symm, rfl⟩
  · rw [e1, e2] at e
    have HE : Hid (dg p 2 = -1) := e
    clear e hb h
    go_enter Try.func34, Try.ntmps34
    go_wp2
    go_ret
    exact ⟨ret_int HE.out.symm, rfl⟩
set_option maxHeartbeats 6400000 in
set_option maxRecDepth 100000 in
theorem pulsesMay_any (ao : Option Addr) (cap : Nat) (l : List Int) (w : World) (hR : RdI w ao l) (hl : l.length ≤ 9223372036854775807) :
    Calls Try.prog 12 #[.slice ao l.length cap] w fun e w' => e = .returned (.int .i64 (refuP l)) ∧ w' = w := by
  have HR : Hid (RdI w ao l) := hR
  clear hR
  have HW : Hid (∀ n W, Calls Try.prog 32 #[.int .i64 n, .int .i64 0, .int .i64 63] W fun e w' => e = .returned (.bool (decide (0 ≤ n) && decide (n ≤ 63))) ∧ w' = W) := fun n W => within_any n 0 63 W
  by_cases hlong : 20000 < l.length
  · have HE : Hid (refuP l = 7) := refuP_long hlong
    have h2 : (20000 : Int) < l.length := by omega
    go_enter Try.func12, Try.ntmps12
    go_wp2
    go_ret
    exact ⟨ret_int HE.out.symm, rfl⟩
  · have h2 : (l.length : Int) ≤ 20000 := by omega
    have HBad : Hid (∀ k (hk : k < l.length), isP (l[k]'hk) = false → refuP l = 1) := fun k hk hb => refuP_bad hlong hk hb
    have HOk : Hid ((∀ b ∈ l, isP b = true) → refuP l = 0) := refuP_ok hlong
    go_enter Try.func12, Try.ntmps12
    go_wp2
    go_loopw [3] (fun i wr => ∃ k : Nat, k ≤ l.length ∧ i = .int .i64 k ∧ (∀ b ∈ l.take k, isP b = true) ∧ wr = w) (fun i _ => l.length - (intOf i).toNat)
    case atStart => exact ⟨0, Nat.zero_le _, rfl, (fun b hb => by simp at hb), rfl⟩
    case round =>
      obtain ⟨k, hk, rfl, hok, hw⟩ := hrel
      subst hw
      have HO : Hid (∀ b ∈ l.take k, isP b = true) := hok
      clear hok
      by_cases hlt : k < l.length
      · obtain ⟨b, off, rfl, _, hc⟩ := HR.out.at hlt
        have HHit : Hid (isP (l[k]'hlt) = false → refuP l = 1) := HBad.out k hlt
        have HMiss : Hid (isP (l[k]'hlt) = true → ∀ b ∈ l.take (k + 1), isP b = true) := take_next hlt HO.out
        generalize l[k]'hlt = a at *
        by_cases hin : 0 ≤ a ∧ a ≤ 63
        · obtain ⟨ha0, ha1⟩ := hin
          have HBT : Hid (isP a = !(((bits BinOp.and IntKind.i64 a 8 != 0) && (bits BinOp.and IntKind.i64 a 1 == 0)) || ((bits BinOp.and IntKind.i64 a 16 != 0) && (bits BinOp.and IntKind.i64 a 2 == 0)) || ((bits BinOp.and IntKind.i64 a 32 != 0) && (bits BinOp.and IntKind.i64 a 4 == 0)))) := by
            obtain ⟨q, rfl⟩ := isP_fin ha0 ha1
            exact (bits64 q).1
          have HW2 : Hid (∀ W, Calls Try.prog 32 #[.int .i64 a, .int .i64 0, .int .i64 63] W fun e w' => e = .returned (.bool true) ∧ w' = W) := fun W => (HW.out a W).mono fun e w' ⟨h1, h2⟩ => ⟨by rw [h1, decide_eq_true ha0, decide_eq_true ha1]; rfl, h2⟩
          clear ha0 ha1
          go_wp2_with fail
          refine (HW2.out _).mono ?_
          rintro e w' ⟨rfl, rfl⟩
          cases b8 : (bits BinOp.and IntKind.i64 a 8 != 0) <;> cases b1 : (bits BinOp.and IntKind.i64 a 1 == 0) <;> cases b16 : (bits BinOp.and IntKind.i64 a 16 != 0) <;> cases b2 : (bits BinOp.and IntKind.i64 a 2 == 0) <;> cases b32 : (bits BinOp.and IntKind.i64 a 32 != 0) <;> cases b4 : (bits BinOp.and IntKind.i64 a 4 == 0)
          all_goals
            have HQ := HBT.out
            rw [b8, b1, b16, b2, b32, b4] at HQ
            first
            | (have HP : Hid (isP a = true) := HQ
               clear HQ
               go_wp2
               go_roundw
               case rel => exact ⟨k + 1, by omega, by go_num, HMiss.out HP.out, trivial⟩
               case measure => simp [intOf]; omega)
            | (have HP : Hid (isP a = false) := HQ
               clear HQ
               go_wp2
               go_ret
               exact ⟨ret_int (HHit.out HP.out).symm, rfl⟩)
        · have HP : Hid (isP a = false) := by
            cases h : isP a with
            | false => rfl
            | true => exact absurd (isP_in h) hin
          have HW2 : Hid (∀ W, Calls Try.prog 32 #[.int .i64 a, .int .i64 0, .int .i64 63] W fun e w' => e = .returned (.bool false) ∧ w' = W) := fun W => (HW.out a W).mono fun e w' ⟨h1, h2⟩ => ⟨by
            rw [h1]
            by_cases h3 : 0 ≤ a
            · rw [decide_eq_true h3, decide_eq_false (fun h4 => hin ⟨h3, h4⟩)]; rfl
            · rw [decide_eq_false h3]; rfl, h2⟩
          clear hin
          go_wp2_with fail
          refine (HW2.out _).mono ?_
          rintro e w' ⟨rfl, rfl⟩
          go_wp2
          go_ret
          exact ⟨ret_int (HHit.out HP.out).symm, rfl⟩
      · have HE : Hid (refuP l = 0) := HOk.out (fun b hb => HO.out b (by rw [List.take_of_length_le (by omega)]; exact hb))
        go_wp2
        go_ret
        exact ⟨ret_int HE.out.symm, rfl⟩
end Go.Proofs.Ytanmfhaiahhoeaa
