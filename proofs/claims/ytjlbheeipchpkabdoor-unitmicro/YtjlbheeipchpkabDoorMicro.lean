/- workcellkeep.UnitMicro, walked: it answers true. -/
import Derived.Test.YtjlbheeipchpkabDoorRead5
import Derived.Laws.BytesString
namespace Go.Proofs.YtjlbheeipchpkabDoor
open Go.RowKit Go.Shelf

/-! ### the plain part -/
theorem readL_plain {l r : List UInt8} {neg : Bool} {d : List UInt8} {mk : Int → Int → Int × Int × Int} (hp : Lib.hasPrefix l [45] = neg) (ht : Lib.trimPrefix l [45] = d ++ r)
    (hd : ∀ b ∈ d, isDig b = true) (hne : d ≠ []) (hr : ∀ b, r.head? = some b → isDig b = false) (hdot : Lib.hasPrefix r [46] = false) : readL l mk = fin neg d [] r mk := by
  unfold readL
  obtain ⟨e1, e2⟩ := take_digs d r hd hr
  simp only [ht, e1, e2, hp, hne, hdot]
  simp
theorem hasMinus {b : UInt8} {r : List UInt8} (h : isDig b = true) : Lib.hasPrefix (b :: r) [45] = false := by
  have := (isDig_iff b).1 h
  have hb : b ≠ 45 := fun e => by subst e; revert this; decide
  unfold Lib.hasPrefix
  simp [List.isPrefixOf, Ne.symm hb]
theorem noMinus {d r : List UInt8} (hd : ∀ b ∈ d, isDig b = true) (hne : d ≠ []) : Lib.hasPrefix (d ++ r) [45] = false := by
  cases hc : d with
  | nil => exact absurd hc hne
  | cons b r => rw [hc] at hd; exact hasMinus (hd b (by simp))
/-- Digits that are worth n, and a unit behind them. -/
theorem told {d u : List UInt8} {n : Int} {m : Int × Int × Int} (hd : ∀ b ∈ d, isDig b = true) (hne : d ≠ []) (hw : wholeOf d = n) (hm : meas (Lib.mapD plainF u) = some m) (hdot : Lib.hasPrefix u [46] = false) (hh : ∀ b, u.head? = some b → isDig b = false)
    (h0 : 0 ≤ n * m.2.1) (h1 : n * m.2.1 + m.2.2 ≤ 1000000000) : readL (d ++ u) mkQ = (m.1, n * m.2.1 + m.2.2, 0) := by
  have hp := noMinus (r := u) hd hne
  obtain ⟨⟨k0, k5⟩, ⟨s0, s9⟩, z0, z9⟩ := meas_in hm
  rw [readL_plain (d := d) (r := u) (neg := false) hp (by unfold Lib.trimPrefix; rw [hp]; rfl) hd hne hh hdot]
  have ht := thou_none d
  have e : thou d [] * m.2.1 = 1000 * (n * m.2.1) := by rw [ht, hw, Int.mul_assoc]
  rw [fin_pos hm (by rw [e]; omega) (by rw [e]; omega), e, show 1000 * (n * m.2.1) / 1000 = n * m.2.1 by omega]
  exact if_pos (ref1_ok k0 k5 (by omega) h1)

theorem told_ul (k : Nat) (hk : k < 900000) : readL (Lib.decDigits k ++ [117, 108]) mkQ = (1, 1000 * (k : Int), 0) := by
  have h := told (d := Lib.decDigits k) (u := [117, 108]) (m := (1, 1000, 0)) (decDigits_dig k) (decDigits_ne k) (wholeOf_dec k (by omega)) (by decide +kernel) (by decide) (by intro b h; simp at h; subst h; decide) (by show 0 ≤ (k : Int) * 1000; omega) (by show (k : Int) * 1000 + 0 ≤ _; omega)
  rw [h]; show (_, (k : Int) * 1000 + 0, _) = _; rw [show (k : Int) * 1000 + 0 = 1000 * (k : Int) by omega]
theorem told_mu (k : Nat) (hk : k < 900000) : readL (Lib.decDigits k ++ [194, 181, 108]) mkQ = (1, 1000 * (k : Int), 0) := by
  have h := told (d := Lib.decDigits k) (u := [194, 181, 108]) (m := (1, 1000, 0)) (decDigits_dig k) (decDigits_ne k) (wholeOf_dec k (by omega)) (by decide +kernel) (by decide) (by intro b h; simp at h; subst h; decide) (by show 0 ≤ (k : Int) * 1000; omega) (by show (k : Int) * 1000 + 0 ≤ _; omega)
  rw [h]; show (_, (k : Int) * 1000 + 0, _) = _; rw [show (k : Int) * 1000 + 0 = 1000 * (k : Int) by omega]
theorem told_greek (k : Nat) (hk : k < 900000) : readL (Lib.decDigits k ++ [206, 188, 108]) mkQ = (1, 1000 * (k : Int), 0) := by
  have h := told (d := Lib.decDigits k) (u := [206, 188, 108]) (m := (1, 1000, 0)) (decDigits_dig k) (decDigits_ne k) (wholeOf_dec k (by omega)) (by decide +kernel) (by decide) (by intro b h; simp at h; subst h; decide) (by show 0 ≤ (k : Int) * 1000; omega) (by show (k : Int) * 1000 + 0 ≤ _; omega)
  rw [h]; show (_, (k : Int) * 1000 + 0, _) = _; rw [show (k : Int) * 1000 + 0 = 1000 * (k : Int) by omega]
theorem told_nl (k : Nat) (hk : k < 900000) : readL (Lib.decDigits k ++ [48, 48, 48, 110, 108]) mkQ = (1, 1000 * (k : Int), 0) := by
  have hw : wholeOf (Lib.decDigits k ++ [48, 48, 48]) = 1000 * (k : Int) := by
    have h := wholeOf_dec k (by omega)
    unfold wholeOf at h ⊢
    have e : dg 48 = 0 := by decide
    rw [List.foldl_append, h]
    simp only [List.foldl_cons, List.foldl_nil, up, e]
    omega
  have hd : ∀ b ∈ Lib.decDigits k ++ [48, 48, 48], isDig b = true := by
    intro b hb
    simp only [List.mem_append, List.mem_cons, List.mem_nil_iff, or_false] at hb
    rcases hb with h | h | h | h
    · exact decDigits_dig k b h
    all_goals (subst h; decide)
  have h := told (d := Lib.decDigits k ++ [48, 48, 48]) (u := [110, 108]) (m := (1, 1, 0)) hd (by simp) hw (by decide +kernel) (by decide) (by intro b h; simp at h; subst h; decide) (by show 0 ≤ 1000 * (k : Int) * 1; omega) (by show 1000 * (k : Int) * 1 + 0 ≤ _; omega)
  rw [List.append_assoc] at h
  rw [show ([48, 48, 48, 110, 108] : List UInt8) = [48, 48, 48] ++ [110, 108] from rfl, h]
  show (_, 1000 * (k : Int) * 1 + 0, _) = _
  rw [show 1000 * (k : Int) * 1 + 0 = 1000 * (k : Int) by omega]

theorem dec_len (u : Nat) : (Lib.decDigits u).length ≤ u + 1 := by
  induction u using Nat.strongRecOn with
  | _ u ih =>
    rw [Lib.decDigits]
    split
    · simp
    · have := ih (u / 10) (by omega)
      rw [List.length_append, List.length_singleton]; omega
theorem cat_arr (a b : List UInt8) : (⟨a.toArray⟩ : ByteArray) ++ ⟨b.toArray⟩ = ⟨(a ++ b).toArray⟩ := by
  apply ByteArray.ext
  rw [ByteArray.data_append]
  simp

/-! ### the walks -/
/-- Which of n things a raw number speaks of. -/
def pick (n of : Int) : Int := (if n < 0 then -(n + 1) else n) % of
set_option maxHeartbeats 400000 in
theorem picked (n m : Int) (w : World) (h0 : -9223372036854775808 ≤ n) (h1 : n ≤ 9223372036854775807) (hm : 0 < m) :
    Calls Tryd.prog 4 #[.int .i64 n, .int .i64 m] w fun e w' => e = .returned (.int .i64 (pick n m)) ∧ w' = w := by
  have hmz : (m == 0) = false := by simp; omega
  by_cases hn : n < 0
  · have e : pick n m = -(n + 1) % m := by unfold pick; rw [if_pos hn]
    rw [e]; clear e
    have hp : 0 ≤ -(n + 1) := by omega
    go_enter Tryd.func4, Tryd.ntmps4
    go_wp2
    go_ret
    exact ⟨ret_int (by rw [← Int.tmod_eq_emod_of_nonneg hp, Int.neg_tmod]), rfl⟩
  · have e : pick n m = n % m := by unfold pick; rw [if_neg hn]
    rw [e]; clear e
    go_enter Tryd.func4, Tryd.ntmps4
    go_wp2
    go_ret
    exact ⟨rfl, rfl⟩

theorem one_byte (w : World) (x : Int) : (convert 40 9 (.slice (some ⟨w.heap.size, 0, none⟩) 1 1)).run Tryd.prog (w.alloc (.cells #[.int .u8 x] 5)) = .ok (.string ⟨#[UInt8.ofNat x.toNat]⟩) (w.alloc (.cells #[.int .u8 x] 5)) := by
  rw [run_convert_bytes_string _ _ _ _ _ _ _ Tryd.underlying40 Tryd.underlying5 Tryd.underlying9]
  rw [run_bytesToString _ _ _ _ [x] (by simp [loadCells, go_sem])]
  rfl
theorem dec_small {n : Nat} (h : n < 10) : Lib.decDigits n = [UInt8.ofNat (48 + n)] := by rw [Lib.decDigits, dif_pos h]

set_option maxHeartbeats 800000 in
theorem digits_small (n : Nat) (w : World) (h : n < 10) :
    Calls Tryd.prog 6 #[.int .i64 n] w fun e w' => e = .returned (.string ⟨(Lib.decDigits n).toArray⟩) ∧ Below w.heap.size w w' := by
  have hcv := one_byte w (48 + (n : Int))
  have e : (48 + (n : Int)).toNat = 48 + n := by omega
  rw [e] at hcv
  rw [dec_small h]
  generalize UInt8.ofNat (48 + n) = b at *
  clear e
  go_enter Tryd.func6, Tryd.ntmps6
  go_wp2
  go_ret
  exact ⟨rfl, (Below.refl _ _).alloc (Nat.le_refl _) _⟩

set_option maxHeartbeats 800000 in
theorem digits_any (n : Nat) : n < 900000 → ∀ w : World,
    Calls Tryd.prog 6 #[.int .i64 n] w fun e w' => e = .returned (.string ⟨(Lib.decDigits n).toArray⟩) ∧ Below w.heap.size w w' := by
  induction n using Nat.strongRecOn with
  | _ n ih =>
    intro hn w
    by_cases h : n < 10
    · exact digits_small n w h
    · have e : Lib.decDigits n = Lib.decDigits (n / 10) ++ [UInt8.ofNat (48 + n % 10)] := by rw [Lib.decDigits, dif_neg h]
      rw [e, ← cat_arr, ← dec_small (n := n % 10) (by omega)]
      have I1 := ih (n / 10) (by omega) (by omega)
      have I2 := fun w => digits_small (n % 10) w (by omega)
      have H1 : Hid (∀ w : World, Calls Tryd.prog 6 #[.int .i64 ((n / 10 : Nat) : Int)] w fun e w' => e = .returned (.string ⟨(Lib.decDigits (n / 10)).toArray⟩) ∧ Below w.heap.size w w') := I1
      have H2 : Hid (∀ w : World, Calls Tryd.prog 6 #[.int .i64 ((n % 10 : Nat) : Int)] w fun e w' => e = .returned (.string ⟨(Lib.decDigits (n % 10)).toArray⟩) ∧ Below w.heap.size w w') := I2
      have l1 := dec_len (n / 10)
      have l2 := dec_len (n % 10)
      clear I1 I2 ih e
      go_enter Tryd.func6, Tryd.ntmps6
      go_wp2_with fail
      rw [show (n : Int) / 10 = ((n / 10 : Nat) : Int) by omega]
      refine (H1.out _).mono ?_
      rintro e w1 ⟨rfl, hb1⟩
      go_wp2_with fail
      rw [show (n : Int) % 10 = ((n % 10 : Nat) : Int) by omega]
      refine (H2.out _).mono ?_
      rintro e w2 ⟨rfl, hb2⟩
      go_wp2
      go_ret
      exact ⟨rfl, hb1.trans (hb2.mono hb1.size)⟩

/-- A quantity's box. -/
structure Box (w : World) (b : Nat) (x y : Int) : Prop where
  c0 : w.cell? ⟨b, 0, none⟩ = some (.int .i64 x)
  c1 : w.cell? ⟨b, 1, none⟩ = some (.int .i64 y)
  lt : b < w.heap.size
theorem Box.next {w w1 : World} {b : Nat} {x y : Int} (h : Box w b x y) (hb : Below w.heap.size w w1) : Box w1 b x y := by
  obtain ⟨hc, hf⟩ := bcell hb
  exact ⟨(hc _ _ h.lt).trans h.c0, (hc _ _ h.lt).trans h.c1, by have := hb.size; have := h.lt; omega⟩
theorem Box.alloc {w : World} {b : Nat} {x y : Int} (h : Box w b x y) (o : Obj) : Box (w.alloc o) b x y := h.next ((Below.refl _ _).alloc (Nat.le_refl _) _)
theorem Box.new (w : World) (x y : Int) : Box (w.alloc (.cells #[.int .i64 x, .int .i64 y] 24)) w.heap.size x y := by
  constructor <;> (first | go_simp | simp)

theorem readCat (d u : List UInt8) {x y z : Int} (h : readL (d ++ u) mkQ = (x, y, z)) (w : World) (hl : (d ++ u).length < 35184372088832) (hT : Lib.Utf8Tabs 0 1 w) :
    Calls Tryd.prog 5 #[.string (⟨d.toArray⟩ ++ ⟨u.toArray⟩)] w fun e w' => e = .returned (.tuple #[.agg #[.int .i64 x, .int .i64 y], .int .i64 z]) ∧ Below w.heap.size w w' := by
  have := read_any (d ++ u) w hl hT
  rw [h] at this
  rw [cat_arr]; exact this

set_option maxHeartbeats 1600000 in
theorem micro_any (a0 : Int) (w : World) (h0 : -9223372036854775808 ≤ a0) (h1 : a0 ≤ 9223372036854775807) (hT : Lib.Utf8Tabs 0 1 w) :
    Calls Tryd.prog 3 #[.int .i64 a0] w fun e w' => e = .returned (.bool true) ∧ Below w.heap.size w w' := by
  have hp0 : 0 ≤ pick a0 900000 ∧ pick a0 900000 < 900000 := by unfold pick; split <;> omega
  obtain ⟨k, hk⟩ := Int.eq_ofNat_of_zero_le hp0.1
  have HK : Hid (pick a0 900000 = k) := hk
  have hk9 : k < 900000 := by omega
  clear hk hp0
  have hl := dec_len k
  have T1 : Hid (readL (Lib.decDigits k ++ [117, 108]) mkQ = (1, 1000 * (k : Int), 0)) := told_ul k hk9
  have T2 : Hid (readL (Lib.decDigits k ++ [194, 181, 108]) mkQ = (1, 1000 * (k : Int), 0)) := told_mu k hk9
  have T3 : Hid (readL (Lib.decDigits k ++ [206, 188, 108]) mkQ = (1, 1000 * (k : Int), 0)) := told_greek k hk9
  have T4 : Hid (readL (Lib.decDigits k ++ [48, 48, 48, 110, 108]) mkQ = (1, 1000 * (k : Int), 0)) := told_nl k hk9
  go_enter Tryd.func3, Tryd.ntmps3
  go_wp2_with fail
  refine (picked a0 900000 _ h0 h1 (by decide)).mono ?_
  rintro e w1 ⟨rfl, rfl⟩
  rw [HK.out]
  have hB : Below w1.heap.size w1 w1 := Below.refl _ _
  go_wp2_with fail
  refine (digits_any k hk9 _).mono ?_
  rintro e w2 ⟨rfl, hb⟩
  have hB := hB.trans (hb.mono hB.size)
  clear hb 
  go_wp2_with fail
  refine (readCat (Lib.decDigits k) [117, 108] T1.out _ (by rw [List.length_append]; simp; omega) (tabs_next hT hB)).mono ?_
  rintro e w3 ⟨rfl, hb⟩
  have hB := hB.trans (hb.mono hB.size)
  clear hb 
  go_wp2_with fail
  refine (digits_any k hk9 _).mono ?_
  rintro e w4 ⟨rfl, hb⟩
  have hA := (Box.new w3 1 (1000 * (k : Int))).next hb
  have hB := (hB.alloc hB.size _).trans (hb.mono (by have := hB.size; simp; omega))
  clear hb 
  obtain ⟨pA0, pA1, pAl⟩ := hA
  go_wp2_with fail
  refine (readCat (Lib.decDigits k) [194, 181, 108] T2.out _ (by rw [List.length_append]; simp; omega) (tabs_next hT hB)).mono ?_
  rintro e w5 ⟨rfl, hb⟩
  have hA := (Box.mk pA0 pA1 pAl).next hb
  have hB := hB.trans (hb.mono hB.size)
  clear hb pA0 pA1 pAl
  obtain ⟨pA0, pA1, pAl⟩ := hA
  go_wp2_with fail
  refine (digits_any k hk9 _).mono ?_
  rintro e w6 ⟨rfl, hb⟩
  have hA := ((Box.mk pA0 pA1 pAl).alloc _).next hb
  have hXb := (Box.new w5 1 (1000 * (k : Int))).next hb
  have hB := (hB.alloc hB.size _).trans (hb.mono (by have := hB.size; simp; omega))
  clear hb pA0 pA1 pAl
  obtain ⟨pA0, pA1, pAl⟩ := hA
  obtain ⟨pXb0, pXb1, pXbl⟩ := hXb
  go_wp2_with fail
  refine (readCat (Lib.decDigits k) [206, 188, 108] T3.out _ (by rw [List.length_append]; simp; omega) (tabs_next hT hB)).mono ?_
  rintro e w7 ⟨rfl, hb⟩
  have hA := (Box.mk pA0 pA1 pAl).next hb
  have hXb := (Box.mk pXb0 pXb1 pXbl).next hb
  have hB := hB.trans (hb.mono hB.size)
  clear hb pA0 pA1 pAl pXb0 pXb1 pXbl
  obtain ⟨pA0, pA1, pAl⟩ := hA
  obtain ⟨pXb0, pXb1, pXbl⟩ := hXb
  go_wp2_with fail
  refine (digits_any k hk9 _).mono ?_
  rintro e w8 ⟨rfl, hb⟩
  have hA := ((Box.mk pA0 pA1 pAl).alloc _).next hb
  have hXb := ((Box.mk pXb0 pXb1 pXbl).alloc _).next hb
  have hC := (Box.new w7 1 (1000 * (k : Int))).next hb
  have hB := (hB.alloc hB.size _).trans (hb.mono (by have := hB.size; simp; omega))
  clear hb pA0 pA1 pAl pXb0 pXb1 pXbl
  obtain ⟨pA0, pA1, pAl⟩ := hA
  obtain ⟨pXb0, pXb1, pXbl⟩ := hXb
  obtain ⟨pC0, pC1, pCl⟩ := hC
  go_wp2_with fail
  refine (readCat (Lib.decDigits k) [48, 48, 48, 110, 108] T4.out _ (by rw [List.length_append]; simp; omega) (tabs_next hT hB)).mono ?_
  rintro e w9 ⟨rfl, hb⟩
  have hA := (Box.mk pA0 pA1 pAl).next hb
  have hXb := (Box.mk pXb0 pXb1 pXbl).next hb
  have hC := (Box.mk pC0 pC1 pCl).next hb
  have hB := hB.trans (hb.mono hB.size)
  clear hb pA0 pA1 pAl pXb0 pXb1 pXbl pC0 pC1 pCl
  obtain ⟨pA0, pA1, pAl⟩ := hA
  obtain ⟨pXb0, pXb1, pXbl⟩ := hXb
  obtain ⟨pC0, pC1, pCl⟩ := hC
  have hs := hB.size
  go_wp2
  go_ret
  exact ⟨rfl, hB.alloc hs _⟩
end Go.Proofs.YtjlbheeipchpkabDoor
