/- skipBlanks, turnOf, cutNumber walked. -/
import Derived.Test.YtndkmjjaabnfaaaDoorLP
import Derived.Test.YtndkmjjaabnfaaaDoorShelf
import Derived.Shelf.Strings.SlTrimAscii
import Derived.Lib.AtoiTie
import Derived.Lib.AtoiErrMem
import Derived.Lib.SmallJoins
import Derived.WalkSmall
namespace Go.Proofs.YtndkmjjaabnfaaaDoor
open Go.RowKit Go.Shelf

abbrev sA (l : List UInt8) : Value := .string ⟨l.toArray⟩
theorem ext_take (l : List UInt8) (n : Nat) : (⟨l.toArray⟩ : ByteArray).extract 0 n = ⟨(l.take n).toArray⟩ := by
  rw [Lib.extract_eq]; simp
theorem ext_drop (l : List UInt8) (n : Nat) : (⟨l.toArray⟩ : ByteArray).extract n l.length = ⟨(l.drop n).toArray⟩ := by
  rw [Lib.extract_eq]
  congr 2
  rw [List.take_of_length_le]
  simp
theorem blanksB (l : List UInt8) (w : World) : Calls Tryd.prog 28 #[sA l, .string ⟨#[32]⟩] w fun e w' => e = .returned (sA (skp l)) ∧ Below w.heap.size w w' := by
  refine (Any.strings_TrimLeft_laid Tryd.lays161 (by kernel_rfl) ⟨l.toArray⟩ ⟨#[32]⟩ w (by decide) (ascii_of_all (by decide))).mono ?_
  rintro e w' ⟨he, hb⟩
  refine ⟨?_, hb⟩
  rw [he]
  have h : ([32] : List UInt8).contains = fun b => b == 32 := by
    funext b
    cases h : (b == 32) <;> simp_all
  show Ending.returned (sA (l.dropWhile ([32] : List UInt8).contains)) = .returned (sA (l.dropWhile _))
  rw [h]
theorem digitsB (l : List UInt8) (w : World) : Calls Tryd.prog 28 #[sA l, .string ⟨#[48, 49, 50, 51, 52, 53, 54, 55, 56, 57]⟩] w fun e w' => e = .returned (sA (l.dropWhile isDig)) ∧ Below w.heap.size w w' :=
  Any.strings_TrimLeft_laid Tryd.lays161 (by kernel_rfl) ⟨l.toArray⟩ ⟨#[48, 49, 50, 51, 52, 53, 54, 55, 56, 57]⟩ w (by decide) (ascii_of_all (by decide))
theorem atoi_yes (t : List UInt8) (v : Int) (w : World) (ht : t.length ≤ 18) (h : Lib.atoi t = some v) : Calls Tryd.prog 44 #[sA t] w fun e w' => e = .returned (.tuple #[.int .i64 v, .nilIface]) ∧ Below w.heap.size w w' := by
  have ha : Lib.atoiAll t = .ok v := by rw [Lib.atoiAll_short t ht, h]; rfl
  refine (Tryd.strconv_Atoi_ok ⟨t.toArray⟩ (by simp [ByteArray.size]; omega) v ha w).mono ?_
  rintro e w' ⟨he, hw | ⟨s, hw⟩⟩
  · exact ⟨he, by rw [hw]; exact Below.refl _ _⟩
  · exact ⟨he, by rw [hw]; exact Lib.bytesWorld_below w 5 s⟩
theorem skip_any (l : List UInt8) (w : World) : Calls Tryd.prog 16 #[sA l] w fun e w' => e = .returned (sA (skp l)) ∧ Below w.heap.size w w' := by
  have HB : Hid (∀ W, Calls Tryd.prog 28 #[sA l, .string ⟨#[32]⟩] W fun e w' => e = .returned (sA (skp l)) ∧ Below W.heap.size W w') := blanksB l
  generalize skp l = r at *
  go_enter Tryd.func16, Tryd.ntmps16
  go_wp2_with fail
  refine (HB.out _).mono ?_
  rintro e w1 ⟨rfl, hb⟩
  go_wp2
  go_ret
  exact ⟨rfl, hb⟩
theorem ret_nb {n m : Int} {a b : Bool} (h : n = m) (h2 : a = b) : Ending.returned (.tuple #[.int .i64 n, .bool a]) = .returned (.tuple #[.int .i64 m, .bool b]) := by rw [h, h2]
/-- The number of digits, if it is told. -/
def turnN (d : List UInt8) : Int := if d = [] ∨ 5 < d.length ∨ d.head? = some 48 then 0 else digs d
theorem turn_some (d : List UInt8) : ∀ v, turn d = some v → v = turnN d := by
  intro v h
  obtain ⟨h1, _, h3, h4⟩ := turn_in h
  have h5 := turn_ne h
  unfold turnN
  rw [if_neg (fun h => h.elim h5 fun h => h.elim (fun h => absurd h (by omega)) h4)]
  exact h1
set_option maxHeartbeats 3200000 in
theorem turnOf_any (d : List UInt8) (w : World) (hd : ∀ b ∈ d, isDig b = true) (hl : d.length ≤ 9223372036854775807) : Calls Tryd.prog 30 #[sA d] w fun e w' => e = .returned (.tuple #[.int .i64 (turnN d), .bool (turn d).isSome]) ∧ Below w.heap.size w w' := by
  by_cases hbad : d = [] ∨ 5 < d.length ∨ d.head? = some 48
  · have HN : Hid (turnN d = 0) := if_pos hbad
    have HT : Hid ((turn d).isSome = false) := by
      show _ = _
      unfold turn
      rw [if_pos (hbad.elim .inl fun h => h.elim (fun h => .inr (.inl h)) fun h => .inr (.inr (.inl h)))]
      rfl
    generalize turnN d = n at *
    generalize (turn d).isSome = b at *
    obtain rfl := HN.out
    obtain rfl := HT.out
    cases d with
    | nil =>
      clear hbad HN HT
      go_enter Tryd.func30, Tryd.ntmps30
      go_wp2
      go_ret2
      exact ⟨rfl, Below.refl _ _⟩
    | cons c t =>
      by_cases h5 : 5 < (c :: t).length
      · clear hbad HN HT hd
        have p2 : (5 : Int) < ((t.length : Int) + 1) := by simp at h5; omega
        simp at hl h5
        go_enter Tryd.func30, Tryd.ntmps30
        go_wp2
        go_ret2
        exact ⟨rfl, Below.refl _ _⟩
      · have hc : c = 48 := by
          rcases hbad with h | h | h
          · cases h
          · exact absurd h h5
          · simpa using h
        subst hc
        clear hbad HN HT hd
        simp at hl h5
        have p2 : ¬ (5 : Int) < ((t.length : Int) + 1) := by omega
        go_enter Tryd.func30, Tryd.ntmps30
        go_wp2
        go_ret2
        exact ⟨rfl, Below.refl _ _⟩
  · have h1 : d ≠ [] := fun h => hbad (.inl h)
    have h2 : d.length ≤ 5 := Nat.not_lt.1 fun h => hbad (.inr (.inl h))
    have h3 : d.head? ≠ some 48 := fun h => hbad (.inr (.inr h))
    have HN : Hid (turnN d = digs d) := if_neg hbad
    have HA : Hid (∀ W, Calls Tryd.prog 44 #[sA d] W fun e w' => e = .returned (.tuple #[.int .i64 (digs d), .nilIface]) ∧ Below W.heap.size W w') := fun W => atoi_yes d _ W (by omega) (atoi_digs hd h1)
    have HT : Hid ((turn d).isSome = decide (3 ≤ digs d)) := by
      show _ = _
      unfold turn
      by_cases e : digs d < 3
      · rw [if_pos (.inr (.inr (.inr e)))]
        rw [decide_eq_false (by omega)]
        rfl
      · rw [if_neg (fun h => h.elim h1 fun h => h.elim (fun h => absurd h (by omega)) fun h => h.elim h3 e)]
        rw [decide_eq_true (by omega)]
        rfl
    have hb := digs_five hd h2
    rw [HN.out, HT.out]
    generalize digs d = n at *
    cases d with
    | nil => exact absurd rfl h1
    | cons c t =>
      have hc : c ≠ 48 := fun h => h3 (by rw [h]; rfl)
      have hc2 : (((c.toNat : Nat) : Int) == 48) = false := by
        have : c.toNat ≠ 48 := fun e => hc (UInt8.toNat.inj e)
        simp; omega
      clear hbad HN HT hd h1 h3
      simp at h2
      have p2 : ¬ (5 : Int) < ((t.length : Int) + 1) := by omega
      have p3 : ((((⟨(c :: t).toArray⟩ : ByteArray)[0]'(by simp [ByteArray.size])).toNat : Int) == 48) = false := hc2
      clear hc hc2
      by_cases h3 : 3 ≤ n
      all_goals
        go_enter Tryd.func30, Tryd.ntmps30
        go_wp2_with fail
        refine (HA.out _).mono ?_
        rintro e w1 ⟨rfl, hb1⟩
        go_wp2
        go_ret2
        exact ⟨ret_nb rfl (by simp [h3]), hb1⟩

/-! ### cutNumber -/
theorem idx46 : Lib.indexByte [46, 120, 97] 46 = 0 := by decide
theorem idx120 : Lib.indexByte [46, 120, 97] 120 = 1 := by decide
theorem idx97 : Lib.indexByte [46, 120, 97] 97 = 2 := by decide
theorem idx_no {b : UInt8} (h1 : b ≠ 46) (h2 : b ≠ 120) (h3 : b ≠ 97) : Lib.indexByte [46, 120, 97] b = -1 := by
  have e1 : ((46 : UInt8) == b) = false := by rw [beq_eq_false_iff_ne]; exact fun h => h1 h.symm
  have e2 : ((120 : UInt8) == b) = false := by rw [beq_eq_false_iff_ne]; exact fun h => h2 h.symm
  have e3 : ((97 : UInt8) == b) = false := by rw [beq_eq_false_iff_ne]; exact fun h => h3 h.symm
  simp [Lib.indexByte, e1, e2, e3]
theorem idxB (b : UInt8) (w : World) : Calls Tryd.prog 29 #[.string ⟨#[46, 120, 97]⟩, .int .u8 (b.toNat : Int)] w fun e w' => e = .returned (.int .i64 (Lib.indexByte [46, 120, 97] b)) ∧ w' = w := by
  have h := Tryd.strings_IndexByte ⟨#[46, 120, 97]⟩ (b.toNat : Int) w
  have e : ((b.toNat : Int)).toNat.toUInt8 = b := by simp
  rw [e] at h
  exact h
theorem cut3 (b : UInt8) (t : List UInt8) (v : Int) (w : World) (hv : Lib.indexByte [46, 120, 97] b = v) (h0 : 0 ≤ v) (hl : t.length < 9223372036854775807) : Calls Tryd.prog 17 #[sA (b :: t)] w fun e w' => e = .returned (.tuple #[.int .i64 v, sA t, .bool true]) ∧ Below w.heap.size w w' := by
  have HI : Hid (∀ W, Calls Tryd.prog 29 #[.string ⟨#[46, 120, 97]⟩, .int .u8 (((⟨(b :: t).toArray⟩ : ByteArray)[0]'(by simp [ByteArray.size])).toNat : Int)] W fun e w' => e = .returned (.int .i64 v) ∧ w' = W) := fun W => by
    have h := idxB b W
    rw [hv] at h
    exact h
  have HX : Hid ((⟨(b :: t).toArray⟩ : ByteArray).extract 1 (t.length + 1) = ⟨t.toArray⟩) := ext_drop (b :: t) 1
  clear hv
  go_enter Tryd.func17, Tryd.ntmps17
  go_wp2_with fail
  refine (HI.out _).mono ?_
  rintro e w1 ⟨rfl, hw⟩
  subst hw
  go_wp2_with fail
  go_big_quiet (fail)
  go_wp2
  refine bodyPost_ret (v := .tuple #[.int .i64 v, sA t, .bool true]) ?_ rfl ⟨rfl, ?_⟩
  · simp [results, Tryd.results17, go_sem, HX.out]
  · exact below_drewN (Below.refl _ _) _
end Go.Proofs.YtndkmjjaabnfaaaDoor
