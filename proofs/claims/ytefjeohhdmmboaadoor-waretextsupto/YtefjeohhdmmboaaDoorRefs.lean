/- The document's Dec, SpotMay, SpotIn, MiddleOf, SpotName and WareMay, walked. -/
import Derived.Test.YtefjeohhdmmboaaDoorMayA
import Derived.Test.YtefjeohhdmmboaaDoorMayB
import Derived.Test.YtefjeohhdmmboaaDoorMayC
import Derived.Test.YtefjeohhdmmboaaDoorNames
import Derived.Laws.BytesString
namespace Go.Proofs.YtefjeohhdmmboaaDoor
open Go.RowKit

theorem cat_arr (a b : List UInt8) : (⟨a.toArray⟩ : ByteArray) ++ ⟨b.toArray⟩ = ⟨(a ++ b).toArray⟩ := by
  apply ByteArray.ext
  rw [ByteArray.data_append]
  simp
theorem dec_le (u : Nat) : (Lib.decDigits u).length ≤ u + 1 := by
  induction u using Nat.strongRecOn with
  | _ u ih =>
    rw [Lib.decDigits]
    split
    · simp
    · have := ih (u / 10) (by omega)
      rw [List.length_append, List.length_singleton]; omega
theorem one_byte (w : World) (x : Int) : (convert 79 9 (.slice (some ⟨w.heap.size, 0, none⟩) 1 1)).run Tryd.prog (w.alloc (.cells #[.int .u8 x] 5)) = .ok (.string ⟨#[UInt8.ofNat x.toNat]⟩) (w.alloc (.cells #[.int .u8 x] 5)) := by
  rw [run_convert_bytes_string _ _ _ _ _ _ _ Tryd.underlying79 Tryd.underlying5 Tryd.underlying9]
  rw [run_bytesToString _ _ _ _ [x] (by simp [loadCells, go_sem])]
  rfl
theorem dec_small {n : Nat} (h : n < 10) : Lib.decDigits n = [UInt8.ofNat (48 + n)] := by rw [Lib.decDigits, dif_pos h]

set_option maxHeartbeats 800000 in
set_option maxRecDepth 20000 in
theorem dec1 (n : Nat) (w : World) (h : n < 10) :
    Calls Tryd.prog 36 #[.int .i64 n] w fun e w' => e = .returned (.string ⟨(Lib.decDigits n).toArray⟩) ∧ Below w.heap.size w w' := by
  have hcv := one_byte w (48 + (n : Int))
  have e : (48 + (n : Int)).toNat = 48 + n := by omega
  rw [e] at hcv
  rw [dec_small h]
  generalize UInt8.ofNat (48 + n) = b at *
  clear e
  go_enter Tryd.func36, Tryd.ntmps36
  go_wp2
  go_ret
  exact ⟨rfl, (Below.refl _ _).alloc (Nat.le_refl _) _⟩

set_option maxHeartbeats 800000 in
set_option maxRecDepth 20000 in
theorem decN (n : Nat) : n ≤ 1000000000 → ∀ w : World,
    Calls Tryd.prog 36 #[.int .i64 n] w fun e w' => e = .returned (.string ⟨(Lib.decDigits n).toArray⟩) ∧ Below w.heap.size w w' := by
  induction n using Nat.strongRecOn with
  | _ n ih =>
    intro hn w
    by_cases h : n < 10
    · exact dec1 n w h
    · have e : Lib.decDigits n = Lib.decDigits (n / 10) ++ [UInt8.ofNat (48 + n % 10)] := by rw [Lib.decDigits, dif_neg h]
      rw [e, ← cat_arr, ← dec_small (n := n % 10) (by omega)]
      have I1 := ih (n / 10) (by omega) (by omega)
      have I2 := fun w => dec1 (n % 10) w (by omega)
      have H1 : Hid (∀ w : World, Calls Tryd.prog 36 #[.int .i64 ((n / 10 : Nat) : Int)] w fun e w' => e = .returned (.string ⟨(Lib.decDigits (n / 10)).toArray⟩) ∧ Below w.heap.size w w') := I1
      have H2 : Hid (∀ w : World, Calls Tryd.prog 36 #[.int .i64 ((n % 10 : Nat) : Int)] w fun e w' => e = .returned (.string ⟨(Lib.decDigits (n % 10)).toArray⟩) ∧ Below w.heap.size w w') := I2
      have l1 := dec_le (n / 10)
      have l2 := dec_le (n % 10)
      clear I1 I2 ih e
      go_enter Tryd.func36, Tryd.ntmps36
      go_wp2_with fail
      rw [show (n : Int) / 10 = ((n / 10 : Nat) : Int) by omega]
      refine (H1.out _).mono ?_
      rintro e w1 ⟨rfl, hb1⟩
      go_wp2_with fail
      rw [show (n : Int) % 10 = ((n % 10 : Nat) : Int) by omega]
      refine (H2.out _).mono ?_
      rintro e w2 ⟨rfl, hb2⟩
      go_wp2
      go_ret
      exact ⟨rfl, hb1.trans (hb2.mono hb1.size)⟩


theorem wareMay_any (a : Wr) (w : World) (hs : a.name.size ≤ maxLen) :
    Calls Tryd.prog 11 #[wv a] w fun e w' => e = .returned (.int .i64 (chk a)) ∧ Below w.heap.size w w' := by
  cases hl : lab a.name with
  | false => exact may_label a w hs hl
  | true =>
  cases hk : inR 1 3 a.kind with
  | false => exact may_kind a w hs hl hk
  | true =>
  cases hr : inR 1 16 a.rows with
  | false => exact may_rows a w hs hl hk hr
  | true =>
  cases hc : inR 1 24 a.cols with
  | false => exact may_cols a w hs hl hk hr hc
  | true =>
  cases hp : (a.pitch == 0) with
  | false =>
    cases hk3 : (a.kind == 3) with
    | true =>
      cases hcn : (a.cap != 0) with
      | true => exact may_cap1 a w hs hl hk hr hc hp hk3 hcn
      | false => exact may_good1 a w hs hl hk hr hc hp hk3 (by simpa using hk3) hcn
    | false =>
      cases hcw : inR 1 1000000000 a.cap with
      | true => exact may_good2 a w hs hl hk hr hc hp hk3 (by simpa using hk3) hcw
      | false => exact may_cap2 a w hs hl hk hr hc hp hk3 (by simpa using hk3) hcw
  | true =>
  cases hr1 : decide (1 < a.rows) with
  | true => exact may_pitch1 a w hs hl hk hr hc hp hr1
  | false =>
  cases hc1 : decide (1 < a.cols) with
  | true => exact may_pitch2 a w hs hl hk hr hc hp hr1 hc1
  | false =>
    cases hk3 : (a.kind == 3) with
    | true =>
      cases hcn : (a.cap != 0) with
      | true => exact may_cap3 a w hs hl hk hr hc hp hr1 hc1 hk3 hcn
      | false => exact may_good3 a w hs hl hk hr hc hp hr1 hc1 hk3 (by simpa using hk3) hcn
    | false =>
      cases hcw : inR 1 1000000000 a.cap with
      | true => exact may_good4 a w hs hl hk hr hc hp hr1 hc1 hk3 (by simpa using hk3) hcw
      | false => exact may_cap4 a w hs hl hk hr hc hp hr1 hc1 hk3 (by simpa using hk3) hcw

set_option maxHeartbeats 800000 in
theorem spotMay_any (r c : Int) (w : World) :
    Calls Tryd.prog 18 #[.agg #[.int .i64 r, .int .i64 c]] w fun e w' => e = .returned (.bool (spotOk r c 16 24)) ∧ Below w.heap.size w w' := by
  have HS : Hid (spotOk r c 16 24 = (inR 0 15 r && inR 0 23 c)) := rfl
  rw [HS.out]
  cases h1 : inR 0 15 r with
  | false =>
    go_enter Tryd.func18, Tryd.ntmps18
    go_wp2_with fail
    refine (within_v r 0 15 false h1 _).mono ?_
    rintro e w2 ⟨rfl, hw2⟩
    subst hw2
    go_wp2
    go_ret
    exact ⟨rfl, (Below.refl _ _).alloc (Nat.le_refl _) _⟩
  | true =>
    obtain ⟨b, hb⟩ : ∃ b, inR 0 23 c = b := ⟨_, rfl⟩
    rw [hb]
    go_enter Tryd.func18, Tryd.ntmps18
    go_wp2_with fail
    refine (within_v r 0 15 true h1 _).mono ?_
    rintro e w2 ⟨rfl, hw2⟩
    subst hw2
    go_wp2_with fail
    refine (within_v c 0 23 b hb _).mono ?_
    rintro e w2 ⟨rfl, hw2⟩
    subst hw2
    go_wp2
    go_ret
    exact ⟨rfl, (Below.refl _ _).alloc (Nat.le_refl _) _⟩

set_option maxHeartbeats 1600000 in
theorem spotIn_any (a : Wr) (r c : Int) (w : World) (hr1 : 1 ≤ a.rows) (hr2 : a.rows ≤ 16) (hc1 : 1 ≤ a.cols) (hc2 : a.cols ≤ 24) :
    Calls Tryd.prog 20 #[wv a, .agg #[.int .i64 r, .int .i64 c]] w fun e w' => e = .returned (.bool (spotOk r c a.rows a.cols)) ∧ Below w.heap.size w w' := by
  have HS : Hid (spotOk r c a.rows a.cols = (inR 0 (a.rows - 1) r && inR 0 (a.cols - 1) c)) := rfl
  rw [HS.out]
  cases h1 : inR 0 (a.rows - 1) r with
  | false =>
    go_enter Tryd.func20, Tryd.ntmps20
    go_wp2_with fail
    refine (within_v r 0 (a.rows - 1) false h1 _).mono ?_
    rintro e w2 ⟨rfl, hw2⟩
    subst hw2
    go_wp2
    go_ret
    exact ⟨rfl, ((Below.refl _ _).alloc (Nat.le_refl _) _).alloc (by simp) _⟩
  | true =>
    obtain ⟨b, hb⟩ : ∃ b, inR 0 (a.cols - 1) c = b := ⟨_, rfl⟩
    rw [hb]
    go_enter Tryd.func20, Tryd.ntmps20
    go_wp2_with fail
    refine (within_v r 0 (a.rows - 1) true h1 _).mono ?_
    rintro e w2 ⟨rfl, hw2⟩
    subst hw2
    go_wp2_with fail
    refine (within_v c 0 (a.cols - 1) b hb _).mono ?_
    rintro e w2 ⟨rfl, hw2⟩
    subst hw2
    go_wp2
    go_ret
    exact ⟨rfl, ((Below.refl _ _).alloc (Nat.le_refl _) _).alloc (by simp) _⟩

set_option maxHeartbeats 1600000 in
theorem middleOf_any (a : Wr) (r c : Int) (w : World) (h : InR a) (hr0 : 0 ≤ r) (hr1 : r ≤ 100) (hc0 : 0 ≤ c) (hc1 : c ≤ 100) :
    Calls Tryd.prog 21 #[wv a, .agg #[.int .i64 r, .int .i64 c]] w fun e w' => e = .returned (.agg #[.int .i64 (a.x + c * a.pitch), .int .i64 (a.y + r * a.pitch), .int .i64 (a.hei - a.deep)]) ∧ Below w.heap.size w w' := by
  obtain ⟨r1, r2, c1, c2, x0, x1, y0, y1, p0, p1, w0, w1, l0, l1, h0, h1, d0, d1⟩ := h
  obtain ⟨m0, m1⟩ := prod_in hc0 hc1 p0 p1
  obtain ⟨n0, n1⟩ := prod_in hr0 hr1 p0 p1
  go_enter Tryd.func21, Tryd.ntmps21
  go_wp2
  refine bodyPost_ret (v := .agg #[.int .i64 (a.x + c * a.pitch), .int .i64 (a.y + r * a.pitch), .int .i64 (a.hei - a.deep)]) (by simp [results, Tryd.results21, go_sem]) rfl ⟨rfl, ?_⟩
  repeat (first | exact Below.refl _ _ | refine Below.alloc ?_ (by simp; omega) _ | refine Below.alloc ?_ (by simp) _)

theorem ext_letter {r : Nat} (h : r < 16) : (⟨#[65, 66, 67, 68, 69, 70, 71, 72, 73, 74, 75, 76, 77, 78, 79, 80]⟩ : ByteArray).extract r (r + 1) = ⟨#[letterB r]⟩ :=
  (by decide : ∀ r, r < 16 → (⟨#[65, 66, 67, 68, 69, 70, 71, 72, 73, 74, 75, 76, 77, 78, 79, 80]⟩ : ByteArray).extract r (r + 1) = ⟨#[letterB r]⟩) r h
def snV (r c B : Nat) (d : Nat) (v : Value) (_ : World) : Prop :=
  match d with
  | 3 => v = .pointer (some ⟨B, 0, none⟩)
  | 4 => v = .int .i64 r
  | 5 => v = .pointer (some ⟨B, 0, none⟩)
  | 6 => v = .int .i64 r
  | 7 => v = .int .i64 ((r + 1 : Nat) : Int)
  | 8 => v = .string ⟨#[letterB r]⟩
  | 9 => v = .pointer (some ⟨B, 1, none⟩)
  | 10 => v = .int .i64 c
  | 11 => v = .int .i64 ((c + 1 : Nat) : Int)
  | 12 => v = .string ⟨(Lib.decDigits (c + 1)).toArray⟩
  | 13 => v = .string (⟨#[letterB r]⟩ ++ ⟨(Lib.decDigits (c + 1)).toArray⟩)
  | 2 => v = .string (⟨#[letterB r]⟩ ++ ⟨(Lib.decDigits (c + 1)).toArray⟩)
  | _ => True
set_option maxHeartbeats 1600000 in
theorem spotName_any (r c : Nat) (w : World) (hr : r < 16) (hc : c < 24) :
    Calls Tryd.prog 19 #[.agg #[.int .i64 r, .int .i64 c]] w fun e w' => e = .returned (.string ⟨(nameL r c).toArray⟩) ∧ Below w.heap.size w w' := by
  have hw1 : IntKind.i64.wrap ((r : Int) + 1) = ((r + 1 : Nat) : Int) := by rw [wrap_in (by omega) (by omega)]; simp
  have hw2 : IntKind.i64.wrap ((c : Int) + 1) = ((c + 1 : Nat) : Int) := by rw [wrap_in (by omega) (by omega)]; simp
  have hext := ext_letter hr
  have i0 : (0 : Int) ≤ (r : Int) := by omega
  have i1 : (r : Int) ≤ ((r + 1 : Nat) : Int) := by omega
  have i2 : ((r + 1 : Nat) : Int) ≤ 16 := by omega
  have j0 : (0 : Int) ≤ (r : Int) + 1 := by omega
  have j1 : (r : Int) ≤ (r : Int) + 1 := by omega
  have j2 : (r : Int) + 1 ≤ 16 := by omega
  have hdl : ¬ 9223372036854775807 < 1 + (Lib.decDigits (c + 1)).length := by rw [dec_len (by omega)]; split <;> omega
  go_enter Tryd.func19, Tryd.ntmps19
  go_wp2_with fail
  refine region_inv [false, false, true, true, true, true, true, true, true, true, true, true, true, true]
    [(3, [], none), (4, [3], none), (5, [], none), (6, [5], none), (7, [6], none), (8, [4, 7], none), (9, [], none), (10, [9], none), (11, [10], none), (12, [11], none), (13, [8, 12], none), (2, [13], none)]
    (snV r c w.heap.size) (by kernel_rfl) (by kernel_rfl) (fun _ _ _ _ h _ => h) ?_ ?_
  · refine ⟨?_, ?_, ?_, ?_, ?_, ?_, ?_, ?_, ?_, ?_, ?_, ?_, trivial⟩
    · intro f w1 hb _ K hK
      simp only [over, overL, Nat.reduceAdd]
      go_simp
      exact hK _ _ ⟨_, rfl, by simp only [over, overL, Nat.reduceAdd]; rfl, Below.refl _ _⟩
    · intro f w1 hb ⟨h3, _⟩ K hK
      have h3 : f 3 = _ := h3
      have cl : w1.cell? ⟨w.heap.size, 0, none⟩ = some (.int .i64 (r : Int)) := cell_later hb (by go_simp)
      simp only [over, overL, Nat.reduceAdd, h3]
      go_simp
      exact hK _ _ ⟨_, rfl, by simp only [over, overL, Nat.reduceAdd, h3]; rfl, Below.refl _ _⟩
    · intro f w1 hb _ K hK
      simp only [over, overL, Nat.reduceAdd]
      go_simp
      exact hK _ _ ⟨_, rfl, by simp only [over, overL, Nat.reduceAdd]; rfl, Below.refl _ _⟩
    · intro f w1 hb ⟨h5, _⟩ K hK
      have h5 : f 5 = _ := h5
      have cl : w1.cell? ⟨w.heap.size, 0, none⟩ = some (.int .i64 (r : Int)) := cell_later hb (by go_simp)
      simp only [over, overL, Nat.reduceAdd, h5]
      go_simp
      exact hK _ _ ⟨_, rfl, by simp only [over, overL, Nat.reduceAdd, h5]; rfl, Below.refl _ _⟩
    · intro f w1 hb ⟨h6, _⟩ K hK
      have h6 : f 6 = _ := h6
      simp only [over, overL, Nat.reduceAdd, h6]
      go_simp
      exact hK _ _ ⟨_, rfl, by simp only [over, overL, Nat.reduceAdd, h6]; rfl, Below.refl _ _⟩
    · intro f w1 hb ⟨h4, h7, _⟩ K hK
      have h4 : f 4 = _ := h4
      have h7 : f 7 = _ := h7
      simp only [over, overL, Nat.reduceAdd, h4, h7]
      go_simp
      exact hK _ _ ⟨_, rfl, by simp only [over, overL, Nat.reduceAdd, h4, h7]; rfl, Below.refl _ _⟩
    · intro f w1 hb _ K hK
      simp only [over, overL, Nat.reduceAdd]
      go_simp
      exact hK _ _ ⟨_, rfl, by simp only [over, overL, Nat.reduceAdd]; rfl, Below.refl _ _⟩
    · intro f w1 hb ⟨h9, _⟩ K hK
      have h9 : f 9 = _ := h9
      have cl : w1.cell? ⟨w.heap.size, 1, none⟩ = some (.int .i64 (c : Int)) := cell_later hb (by go_simp)
      simp only [over, overL, Nat.reduceAdd, h9]
      go_simp
      exact hK _ _ ⟨_, rfl, by simp only [over, overL, Nat.reduceAdd, h9]; rfl, Below.refl _ _⟩
    · intro f w1 hb ⟨h10, _⟩ K hK
      have h10 : f 10 = _ := h10
      simp only [over, overL, Nat.reduceAdd, h10]
      go_simp
      exact hK _ _ ⟨_, rfl, by simp only [over, overL, Nat.reduceAdd, h10]; rfl, Below.refl _ _⟩
    · intro f w1 hb ⟨h11, _⟩ K hK
      have h11 : f 11 = _ := h11
      simp only [over, overL, Nat.reduceAdd, h11]
      go_simp
      refine (decN (c + 1) (by omega) _).mono ?_
      rintro e w2 ⟨rfl, hb2⟩
      exact hK _ _ ⟨_, rfl, by simp only [over, overL, Nat.reduceAdd, h11]; rfl, hb2⟩
    · intro f w1 hb ⟨h8, h12, _⟩ K hK
      have h8 : f 8 = _ := h8
      have h12 : f 12 = _ := h12
      simp only [over, overL, Nat.reduceAdd, h8, h12]
      go_simp
      exact hK _ _ ⟨_, rfl, by simp only [over, overL, Nat.reduceAdd, h8, h12]; rfl, Below.refl _ _⟩
    · intro f w1 hb ⟨h13, _⟩ K hK
      have h13 : f 13 = _ := h13
      simp only [over, overL, Nat.reduceAdd, h13]
      go_simp
      exact hK _ _ ⟨_, rfl, by simp only [over, overL, Nat.reduceAdd, h13]; rfl, Below.refl _ _⟩
  · intro f w1 hb h
    have h2 : f 2 = .string (⟨#[letterB r]⟩ ++ ⟨(Lib.decDigits (c + 1)).toArray⟩) := h.2.2.2.2.2.2.2.2.2.2.2.1
    simp only [over, overL, h2, Nat.reduceAdd]
    go_wp2
    go_ret
    refine ⟨?_, ((Below.refl _ _).alloc (Nat.le_refl _) _).trans (hb.mono (by simp))⟩
    have e : (⟨#[letterB r]⟩ : ByteArray) ++ ⟨(Lib.decDigits (c + 1)).toArray⟩ = ⟨(nameL r c).toArray⟩ := by
      apply ByteArray.ext
      apply Array.ext'
      simp [nameL, ByteArray.data_append]
    rw [← e]
    rfl
end Go.Proofs.YtefjeohhdmmboaaDoor
