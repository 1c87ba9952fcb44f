/- The reader: number walked; readSum walked. -/
import Derived.Test.YtiafppmpjmpdmaaDoorCI
namespace Go.Proofs.YtiafppmpjmpdmaaDoor
open Go.RowKit Go.Shelf

theorem wsub {a b : Nat} (h1 : a < 4294967281) (h2 : b ≤ a) : Value.int .i64 (IntKind.i64.wrap ((a : Int) - (b : Int))) = .int .i64 ((a - b : Nat) : Int) := by
  rw [wrap_in (by omega) (by omega)]
  congr 1
  omega
theorem numT_len (l : List UInt8) : (numT l).length + (leftN l).length = l.length := by
  have := congrArg List.length (num_parts l)
  rw [List.length_append] at this
  omega
theorem unsg_one (l : List UInt8) : l.length ≤ (unsg l).length + 1 := by
  unfold unsg Lib.trimPrefix
  split
  · rw [List.length_drop]; simp; omega
  · omega
theorem numV_yes {m : Nat} {l : List UInt8} (h : (unsg l).length - (leftN l).length ≤ m) : numV m l = plainR (numT l) := by unfold numV; rw [if_pos h]
theorem numV_no {m : Nat} {l : List UInt8} (h : ¬ (unsg l).length - (leftN l).length ≤ m) : numV m l = (0, false) := by unfold numV; rw [if_neg h]
set_option linter.unusedVariables false in
def nb3V (l Z : List UInt8) (g : Bool) (r : Nat) (d : Nat) (v : Value) (_ : World) : Prop :=
  match d with
  | 17 => v = .pointer (some ⟨r, 0, none⟩)
  | 18 => v = .pointer (some ⟨r, 0, none⟩)
  | 19 => v = .pointer (some ⟨r, 0, none⟩)
  | 20 => v = sA l
  | 21 => v = .pointer (some ⟨r, 0, none⟩)
  | 22 => v = .pointer (some ⟨r, 0, none⟩)
  | 23 => v = .pointer (some ⟨r, 0, none⟩)
  | 24 => v = sA l
  | 25 => v = .int .i64 l.length
  | 26 => v = sA Z
  | 27 => v = .int .i64 Z.length
  | 28 => v = .int .i64 ((l.length - Z.length : Nat) : Int)
  | 29 => v = sA (l.take (l.length - Z.length))
  | 7 => v = sA (l.take (l.length - Z.length))
  | _ => True
set_option linter.unusedVariables false in
theorem nb3V_mono (l Z : List UInt8) (g : Bool) (r : Nat) (d : Nat) (v : Value) (w w' : World) (h : nb3V l Z g r d v w) (_ : Below w.heap.size w w') : nb3V l Z g r d v w' := h
set_option maxHeartbeats 6400000 in
set_option maxRecDepth 100000 in
theorem number_any (r m : Nat) (s : Rd) (w : World) (h : Rb r s w) (hl : s.1.length < 4294967281) (hm : m ≤ 10) (h9 : 9 ≤ r) (hT : Tall w) : Calls Tryd.prog 41 #[ptr r, .int .i64 m] w fun e w' => e = .returned (.int .i64 (numV m s.1).1) ∧ Rb r (numR m s) w' ∧ Kr r w w' := by
  obtain ⟨l, g⟩ := s
  have HU : Hid (∀ W, Calls Tryd.prog 53 #[sA l, .string ⟨#[45]⟩] W fun e w' => e = .returned (sA (unsg l)) ∧ w' = W) := fun W => unsgB l W
  have HD : Hid (∀ W, Calls Tryd.prog 54 #[sA (unsg l), .string ⟨#[48, 49, 50, 51, 52, 53, 54, 55, 56, 57]⟩] W fun e w' => e = .returned (sA (leftN l)) ∧ Below W.heap.size W w') := fun W => digitsB (unsg l) W
  have HN : Hid (∀ W, Tall W → (unsg l).length - (leftN l).length ≤ m → Calls Tryd.prog 55 #[sA (numT l)] W fun e w' => e = .returned (.tuple #[.int .i64 (numV m l).1, .bool (numV m l).2]) ∧ Below W.heap.size W w') := fun W hW hc => by
    rw [numV_yes hc]
    refine plainNumber_any (numT l) W ?_ hW
    have := numT_len l
    have := unsg_one l
    omega
  have HO : Hid (¬ (unsg l).length - (leftN l).length ≤ m → numV m l = (0, false)) := numV_no
  have HT0 : Hid (numT l = l.take (l.length - (leftN l).length)) := rfl
  have HE : Hid (numR m (l, g) = (leftN l, g || !(numV m l).2)) := rfl
  have HL : Hid (l.length < 4294967281) := hl
  have HZ : Hid ((leftN l).length ≤ l.length) := Nat.le_trans (leftN_le l) (unsg_le l)
  have HY : Hid ((leftN l).length ≤ (unsg l).length ∧ (unsg l).length ≤ l.length) := ⟨leftN_le l, unsg_le l⟩
  have HR0 : Hid (Rb r (l, g) w) := h
  have HT : Hid (Tall w) := hT
  rw [HE.out]
  simp only
  rw [HT0.out] at HN
  generalize leftN l = Z at *
  generalize unsg l = U at *
  generalize numV m l = X at *
  obtain ⟨v, ok⟩ := X
  simp only at *
  clear h hl hT HE HT0
  go_enter Tryd.func41, Tryd.ntmps41
  have c0 := HR0.out.c 0 rfl
  simp only at c0
  go_wp2_with fail
  refine (HU.out _).mono ?_
  rintro e w1 ⟨rfl, hw⟩
  subst hw
  go_wp2_with fail
  refine (HD.out _).mono ?_
  rintro e w2 ⟨rfl, hb⟩
  have HR : Hid (Rb r (l, g) w2) := HR0.out.later hb
  have HT2 : Hid (Tall w2) := HT.out.later hb
  have HK2 : Hid (Kr r w1 w2) := Kpt.of_below hb
  clear c0 hb HR0 HT HU HD
  go_wp2_with fail
  refine region_inv [false, false, false, false, false, false, false, true, false, false, false, false, false, false, false, false, false, true, true, true, true, true, true, true, true, true, true, true, true, true, false, false, false, false, false, false, false, false, false, false, false, false, false, false, false, false, false, false, false, false, false, false, false, false, false, false, false, false, false]
    [(17, [], none), (18, [17], none), (19, [18], none), (20, [19], none), (21, [], none), (22, [21], none), (23, [22], none), (24, [23], none), (25, [24], none), (26, [], none), (27, [26], none), (28, [25, 27], none), (29, [20, 28], none), (7, [29], none)]
    (nb3V l Z g r) (by kernel_rfl) (by kernel_rfl) (nb3V_mono l Z g r) ?_ ?_
  · refine ⟨?_, ?_, ?_, ?_, ?_, ?_, ?_, ?_, ?_, ?_, ?_, ?_, ?_, ?_, trivial⟩
    · intro f w1 hb _ K hK
      simp only [over, overL, Nat.reduceAdd]
      go_simp
      exact hK _ _ ⟨_, rfl, by simp only [over, overL, Nat.reduceAdd]; rfl, Below.refl _ _⟩
    · intro f w1 hb ⟨h17, _⟩ K hK
      replace h17 : f 17 = _ := h17
      simp only [over, overL, Nat.reduceAdd, h17]
      go_simp
      exact hK _ _ ⟨_, rfl, by simp only [over, overL, Nat.reduceAdd, h17]; rfl, Below.refl _ _⟩
    · intro f w1 hb ⟨h18, _⟩ K hK
      replace h18 : f 18 = _ := h18
      simp only [over, overL, Nat.reduceAdd, h18]
      go_simp
      exact hK _ _ ⟨_, rfl, by simp only [over, overL, Nat.reduceAdd, h18]; rfl, Below.refl _ _⟩
    · intro f w1 hb ⟨h19, _⟩ K hK
      replace h19 : f 19 = _ := h19
      have q0 := (HR.out.later hb).c 0 rfl
      simp only [over, overL, Nat.reduceAdd, h19]
      go_simp
      exact hK _ _ ⟨_, rfl, by simp only [over, overL, Nat.reduceAdd, h19]; rfl, Below.refl _ _⟩
    · intro f w1 hb _ K hK
      simp only [over, overL, Nat.reduceAdd]
      go_simp
      exact hK _ _ ⟨_, rfl, by simp only [over, overL, Nat.reduceAdd]; rfl, Below.refl _ _⟩
    · intro f w1 hb ⟨h21, _⟩ K hK
      replace h21 : f 21 = _ := h21
      simp only [over, overL, Nat.reduceAdd, h21]
      go_simp
      exact hK _ _ ⟨_, rfl, by simp only [over, overL, Nat.reduceAdd, h21]; rfl, Below.refl _ _⟩
    · intro f w1 hb ⟨h22, _⟩ K hK
      replace h22 : f 22 = _ := h22
      simp only [over, overL, Nat.reduceAdd, h22]
      go_simp
      exact hK _ _ ⟨_, rfl, by simp only [over, overL, Nat.reduceAdd, h22]; rfl, Below.refl _ _⟩
    · intro f w1 hb ⟨h23, _⟩ K hK
      replace h23 : f 23 = _ := h23
      have q0 := (HR.out.later hb).c 0 rfl
      simp only [over, overL, Nat.reduceAdd, h23]
      go_simp
      exact hK _ _ ⟨_, rfl, by simp only [over, overL, Nat.reduceAdd, h23]; rfl, Below.refl _ _⟩
    · intro f w1 hb ⟨h24, _⟩ K hK
      replace h24 : f 24 = _ := h24
      have q9 := HL.out
      simp only [over, overL, Nat.reduceAdd, h24]
      go_simp
      exact hK _ _ ⟨_, rfl, by simp only [over, overL, Nat.reduceAdd, h24]; rfl, Below.refl _ _⟩
    · intro f w1 hb _ K hK
      simp only [over, overL, Nat.reduceAdd]
      go_simp
      exact hK _ _ ⟨_, rfl, by simp only [over, overL, Nat.reduceAdd]; rfl, Below.refl _ _⟩
    · intro f w1 hb ⟨h26, _⟩ K hK
      replace h26 : f 26 = _ := h26
      have q9 := HL.out
      have q8 := HZ.out
      simp only [over, overL, Nat.reduceAdd, h26]
      go_simp
      exact hK _ _ ⟨_, rfl, by simp only [over, overL, Nat.reduceAdd, h26]; rfl, Below.refl _ _⟩
    · intro f w1 hb ⟨h25, h27, _⟩ K hK
      replace h25 : f 25 = _ := h25
      replace h27 : f 27 = _ := h27
      have q9 := HL.out
      have q8 := HZ.out
      simp only [over, overL, Nat.reduceAdd, h25, h27]
      go_simp
      exact hK _ _ ⟨_, wsub HL.out HZ.out, by simp only [over, overL, Nat.reduceAdd, h25, h27]; rfl, Below.refl _ _⟩
    · intro f w1 hb ⟨h20, h28, _⟩ K hK
      replace h20 : f 20 = _ := h20
      replace h28 : f 28 = _ := h28
      have q9 := HL.out
      have q8 := HZ.out
      simp only [over, overL, Nat.reduceAdd, h20, h28]
      go_simp
      exact hK _ _ ⟨_, congrArg Value.string (ext_take _ _), by simp only [over, overL, Nat.reduceAdd, h20, h28]; rfl, Below.refl _ _⟩
    · intro f w1 hb ⟨h29, _⟩ K hK
      replace h29 : f 29 = _ := h29
      simp only [over, overL, Nat.reduceAdd, h29]
      go_simp
      exact hK _ _ ⟨_, rfl, by simp only [over, overL, Nat.reduceAdd, h29]; rfl, Below.refl _ _⟩
  intro f w3 hb hv
  have h7 : f 7 = sA (l.take (l.length - Z.length)) := hv.2.2.2.2.2.2.2.2.2.2.2.2.2.1
  have HR3 : Hid (Rb r (l, g) w3) := HR.out.later hb
  have HT3 : Hid (Tall w3) := HT2.out.later hb
  have HK3 : Hid (Kr r w1 w3) := HK2.out.trans (Kpt.of_below hb)
  simp only [over_eq, overL, h7, Nat.reduceAdd]
  clear hv h7 hb HR HT2 HK2
  have c0 := HR3.out.c 0 rfl
  have f0 := HR3.out.f 0 rfl
  simp only at c0
  generalize l.take (l.length - Z.length) = T at *
  have q1 := HY.out.1
  have q2 := HY.out.2
  have q3 := HL.out
  have HR4 : Hid (Rb r (Z, g) (w3.setCell ⟨r, 0, none⟩ (sA Z))) := HR3.out.put 0 _
  have HT4 : Hid (Tall (w3.setCell ⟨r, 0, none⟩ (sA Z))) := HT3.out.kept (Kpt.set (M := fun k => k = r) rfl 0 _) (fun k hk => by omega)
  have HK4 : Hid (Kr r w1 (w3.setCell ⟨r, 0, none⟩ (sA Z))) := HK3.out.trans (Kpt.set (M := fun k => k = r) rfl 0 _)
  by_cases hc : U.length - Z.length ≤ m
  · have p1 : decide ((U.length : Int) - Z.length ≤ m) = true := decide_eq_true (by omega)
    have HNc : Hid (∀ W, Tall W → Calls Tryd.prog 55 #[sA T] W fun e w' => e = .returned (.tuple #[.int .i64 v, .bool ok]) ∧ Below W.heap.size W w') := fun W hW => HN.out W hW hc
    have hci : (U.length : Int) - Z.length ≤ m := by omega
    go_wp2_with fail
    refine (HNc.out _ HT4.out).mono ?_
    rintro e w5 ⟨rfl, hb⟩
    have HR5 : Hid (Rb r (Z, g) w5) := HR4.out.later hb
    have HK5 : Hid (Kr r w1 w5) := HK4.out.trans (Kpt.of_below hb)
    clear hb c0 f0 p1 hci hc
    have c1 := HR5.out.c 1 rfl
    have f1 := HR5.out.f 1 rfl
    simp only at c1
    cases g
    all_goals
      go_wp2
      go_ret
      exact ⟨rfl, HR5.out.put 1 _, HK5.out.trans (Kpt.set (M := fun k => k = r) rfl 1 _)⟩
  · have p1 : decide ((U.length : Int) - Z.length ≤ m) = false := decide_eq_false (by omega)
    have hci : ¬ ((U.length : Int) - Z.length ≤ m) := by omega
    obtain ⟨rfl, rfl⟩ : v = 0 ∧ ok = false := by simpa using HO.out hc
    clear hc
    have c1 := HR3.out.c 1 rfl
    have f1 := HR3.out.f 1 rfl
    simp only at c1
    cases g
    all_goals
      go_wp2
      go_ret
      exact ⟨rfl, (HR3.out.put 0 (sA Z)).put 1 _, HK4.out.trans (Kpt.set (M := fun k => k = r) rfl 1 _)⟩

set_option maxHeartbeats 6400000 in
set_option maxRecDepth 100000 in
theorem readSum_any (l : List UInt8) (w : World) (hl : l.length < 4294967281) (hT : Tall w) : Calls Tryd.prog 23 #[sA l] w fun e w' => e = .returned (.tuple #[.int .i64 (sV l), .bool (sOk l)]) ∧ Below w.heap.size w w' := by
  have HR0 : Hid (Rb w.heap.size (l, false) (w.alloc (.cells #[sA l, .bool false] 76))) := Bk.new w [sA l, .bool false] 76 _ rfl
  have HB0 : Hid (Below w.heap.size w (w.alloc (.cells #[sA l, .bool false] 76))) := (Below.refl _ _).alloc (Nat.le_refl _) _
  have HT0 : Hid (Tall (w.alloc (.cells #[sA l, .bool false] 76))) := hT.later HB0.out
  have HN : Hid (∀ W, Rb w.heap.size (l, false) W → Tall W → Calls Tryd.prog 41 #[ptr w.heap.size, .int .i64 3] W fun e w' => e = .returned (.int .i64 (sV l)) ∧ Rb w.heap.size (numR 3 (l, false)) w' ∧ Kr w.heap.size W w') := fun W h1 h2 => number_any w.heap.size 3 (l, false) W h1 hl (by decide) hT.tabs.size h2
  have HE : Hid (sOk l = (doneR (numR 3 (l, false)) && decide (0 ≤ sV l))) := rfl
  have HD : Hid (∀ W, Rb w.heap.size (numR 3 (l, false)) W → Calls Tryd.prog 45 #[ptr w.heap.size] W fun e w' => e = .returned (.bool (doneR (numR 3 (l, false)))) ∧ w' = W) := fun W h => isDone_any _ _ W h
  rw [HE.out]
  generalize numR 3 (l, false) = s at *
  generalize doneR s = d at *
  generalize sV l = v at *
  clear hT HE hl
  go_enter Tryd.func23, Tryd.ntmps23
  go_wp2_with fail
  generalize w.alloc (.cells #[sA l, .bool false] 76) = w0 at *
  refine (HN.out _ HR0.out HT0.out).mono ?_
  rintro e w1 ⟨rfl, hR, hK⟩
  have HR1 : Hid (Rb w.heap.size s w1) := hR
  have HB1 : Hid (Below w.heap.size w w1) := HB0.out.trans (hK.below HB0.out.size fun k hk => by omega)
  clear hR hK
  go_wp2_with fail
  refine (HD.out _ HR1.out).mono ?_
  rintro e w2 ⟨rfl, hw⟩
  subst hw
  cases d
  all_goals
    go_wp2
    go_ret2
    exact ⟨rfl, HB1.out⟩
end Go.Proofs.YtiafppmpjmpdmaaDoor
