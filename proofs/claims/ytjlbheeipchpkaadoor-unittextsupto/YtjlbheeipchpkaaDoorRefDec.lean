/- The document's Dec and QuantityText, walked. -/
import Derived.Test.YtjlbheeipchpkaaDoorShow
import Derived.Laws.BytesString
import Derived.Deep.RegionWith
namespace Go.Proofs.YtjlbheeipchpkaaDoor
open Go.RowKit Go.Shelf

theorem one_byte (w : World) (x : Int) : (convert 59 9 (.slice (some ⟨w.heap.size, 0, none⟩) 1 1)).run Tryd.prog (w.alloc (.cells #[.int .u8 x] 5)) = .ok (.string ⟨#[UInt8.ofNat x.toNat]⟩) (w.alloc (.cells #[.int .u8 x] 5)) := by
  rw [run_convert_bytes_string _ _ _ _ _ _ _ Tryd.underlying59 Tryd.underlying5 Tryd.underlying9]
  rw [run_bytesToString _ _ _ _ [x] (by simp [loadCells, go_sem])]
  rfl
theorem dec_small {n : Nat} (h : n < 10) : Lib.decDigits n = [UInt8.ofNat (48 + n)] := by rw [Lib.decDigits, dif_pos h]

set_option maxHeartbeats 800000 in
set_option maxRecDepth 20000 in
theorem dec1 (n : Nat) (w : World) (h : n < 10) :
    Calls Tryd.prog 24 #[.int .i64 n] w fun e w' => e = .returned (.string ⟨(Lib.decDigits n).toArray⟩) ∧ Below w.heap.size w w' := by
  have hcv := one_byte w (48 + (n : Int))
  have e : (48 + (n : Int)).toNat = 48 + n := by omega
  rw [e] at hcv
  rw [dec_small h]
  generalize UInt8.ofNat (48 + n) = b at *
  clear e
  go_enter Tryd.func24, Tryd.ntmps24
  go_wp2
  go_ret
  exact ⟨rfl, (Below.refl _ _).alloc (Nat.le_refl _) _⟩

set_option maxHeartbeats 800000 in
set_option maxRecDepth 20000 in
theorem decN (n : Nat) : n ≤ 1000000000 → ∀ w : World,
    Calls Tryd.prog 24 #[.int .i64 n] w fun e w' => e = .returned (.string ⟨(Lib.decDigits n).toArray⟩) ∧ Below w.heap.size w w' := by
  induction n using Nat.strongRecOn with
  | _ n ih =>
    intro hn w
    by_cases h : n < 10
    · exact dec1 n w h
    · have e : Lib.decDigits n = Lib.decDigits (n / 10) ++ [UInt8.ofNat (48 + n % 10)] := by rw [Lib.decDigits, dif_neg h]
      rw [e, ← cat_arr, ← dec_small (n := n % 10) (by omega)]
      have I1 := ih (n / 10) (by omega) (by omega)
      have I2 := fun w => dec1 (n % 10) w (by omega)
      have H1 : Hid (∀ w : World, Calls Tryd.prog 24 #[.int .i64 ((n / 10 : Nat) : Int)] w fun e w' => e = .returned (.string ⟨(Lib.decDigits (n / 10)).toArray⟩) ∧ Below w.heap.size w w') := I1
      have H2 : Hid (∀ w : World, Calls Tryd.prog 24 #[.int .i64 ((n % 10 : Nat) : Int)] w fun e w' => e = .returned (.string ⟨(Lib.decDigits (n % 10)).toArray⟩) ∧ Below w.heap.size w w') := I2
      have l1 := dec_len (n / 10)
      have l2 := dec_len (n % 10)
      clear I1 I2 ih e
      go_enter Tryd.func24, Tryd.ntmps24
      go_wp2_with fail
      rw [show (n : Int) / 10 = ((n / 10 : Nat) : Int) by omega]
      refine (H1.out _).mono ?_
      rintro e w1 ⟨rfl, hb1⟩
      go_wp2_with fail
      rw [show (n : Int) % 10 = ((n % 10 : Nat) : Int) by omega]
      refine (H2.out _).mono ?_
      rintro e w2 ⟨rfl, hb2⟩
      go_wp2
      go_ret
      exact ⟨rfl, hb1.trans (hb2.mono hb1.size)⟩

theorem itoa_pos (n : Nat) : Lib.itoa (n : Int) = Lib.decDigits n := by
  unfold Lib.itoa
  rw [if_neg (by omega)]; simp
theorem itoa_neg (n : Nat) (h : 0 < n) : Lib.itoa (-(n : Int)) = 45 :: Lib.decDigits n := by
  unfold Lib.itoa
  rw [if_pos (by omega)]; simp

set_option maxHeartbeats 800000 in
set_option maxRecDepth 20000 in
theorem decM1 (n : Nat) (w : World) (h : n < 10) (h0 : 0 < n) :
    Calls Tryd.prog 24 #[.int .i64 (-(n : Int))] w fun e w' => e = .returned (.string ⟨(45 :: Lib.decDigits n).toArray⟩) ∧ Below w.heap.size w w' := by
  have l1 := dec_len n
  rw [show (45 :: Lib.decDigits n : List UInt8) = [45] ++ Lib.decDigits n from rfl, ← cat_arr]
  have H1 : Hid (∀ w : World, Calls Tryd.prog 24 #[.int .i64 (n : Int)] w fun e w' => e = .returned (.string ⟨(Lib.decDigits n).toArray⟩) ∧ Below w.heap.size w w') := fun w => dec1 n w h
  go_enter Tryd.func24, Tryd.ntmps24
  go_wp2_with fail
  refine (H1.out _).mono ?_
  rintro e w1 ⟨rfl, hb1⟩
  go_wp2
  go_ret
  exact ⟨rfl, hb1⟩

set_option maxHeartbeats 800000 in
set_option maxRecDepth 20000 in
theorem decM (n : Nat) (w : World) (h : 10 ≤ n) (h9 : n ≤ 1000000000) :
    Calls Tryd.prog 24 #[.int .i64 (-(n : Int))] w fun e w' => e = .returned (.string ⟨(45 :: Lib.decDigits n).toArray⟩) ∧ Below w.heap.size w w' := by
  have e : Lib.decDigits n = Lib.decDigits (n / 10) ++ [UInt8.ofNat (48 + n % 10)] := by rw [Lib.decDigits, dif_neg (by omega)]
  rw [e, show (45 :: (Lib.decDigits (n / 10) ++ [UInt8.ofNat (48 + n % 10)]) : List UInt8) = ([45] ++ Lib.decDigits (n / 10)) ++ [UInt8.ofNat (48 + n % 10)] from rfl, ← cat_arr, ← cat_arr, ← dec_small (n := n % 10) (by omega)]
  have H1 : Hid (∀ w : World, Calls Tryd.prog 24 #[.int .i64 ((n / 10 : Nat) : Int)] w fun e w' => e = .returned (.string ⟨(Lib.decDigits (n / 10)).toArray⟩) ∧ Below w.heap.size w w') := decN (n / 10) (by omega)
  have H2 : Hid (∀ w : World, Calls Tryd.prog 24 #[.int .i64 ((n % 10 : Nat) : Int)] w fun e w' => e = .returned (.string ⟨(Lib.decDigits (n % 10)).toArray⟩) ∧ Below w.heap.size w w') := fun w => dec1 (n % 10) w (by omega)
  have l1 := dec_len (n / 10)
  have l2 := dec_len (n % 10)
  have q1 : (-(n : Int)).tdiv 10 = -((n / 10 : Nat) : Int) := by rw [Int.neg_tdiv, Int.tdiv_eq_ediv_of_nonneg (by omega)]; omega
  have q2 : (-(n : Int)).tmod 10 = -((n % 10 : Nat) : Int) := by rw [Int.neg_tmod, Int.tmod_eq_emod_of_nonneg (by omega)]; omega
  clear e
  go_enter Tryd.func24, Tryd.ntmps24
  go_wp2_with fail
  rw [show (n : Int) / 10 = ((n / 10 : Nat) : Int) by omega]
  refine (H1.out _).mono ?_
  rintro e w1 ⟨rfl, hb1⟩
  go_wp2_with fail
  rw [show (n : Int) % 10 = ((n % 10 : Nat) : Int) by omega]
  refine (H2.out _).mono ?_
  rintro e w2 ⟨rfl, hb2⟩
  go_wp2
  go_ret
  exact ⟨rfl, hb1.trans (hb2.mono hb1.size)⟩

theorem decAny (v : Int) (w : World) (h0 : -1000000000 ≤ v) (h1 : v ≤ 1000000000) :
    Calls Tryd.prog 24 #[.int .i64 v] w fun e w' => e = .returned (.string ⟨(Lib.itoa v).toArray⟩) ∧ Below w.heap.size w w' := by
  by_cases hv : 0 ≤ v
  · obtain ⟨n, rfl⟩ := Int.eq_ofNat_of_zero_le hv
    rw [itoa_pos]; exact decN n (by omega) w
  · obtain ⟨n, hn⟩ : ∃ n : Nat, v = -(n : Int) := ⟨v.natAbs, by omega⟩
    subst hn
    rw [itoa_neg n (by omega)]
    by_cases h : n < 10
    · exact decM1 n w h (by omega)
    · exact decM n w (by omega) (by omega)
end Go.Proofs.YtjlbheeipchpkaaDoor
