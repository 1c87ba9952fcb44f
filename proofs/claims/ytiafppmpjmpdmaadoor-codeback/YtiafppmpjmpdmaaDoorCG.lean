/- lineOf, Print walked. -/
import Derived.Test.YtiafppmpjmpdmaaDoorCF
namespace Go.Proofs.YtiafppmpjmpdmaaDoor
open Go.RowKit Go.Shelf

/-- A block with the words of a kind. -/
abbrev cW (k : Nat) : List Value := [sA (firstW k), sA (letW k 0), sA (letW k 1), sA (letW k 2), sA (letW k 3)]
theorem cat_arr (a b : List UInt8) : (⟨a.toArray⟩ : ByteArray) ++ ⟨b.toArray⟩ = ⟨(a ++ b).toArray⟩ := by
  apply ByteArray.ext
  rw [ByteArray.data_append]
  simp
theorem up_len {n : Int} {k : Nat} {x y z u : Int} (h : Fit n x y z u) {j : Nat} (hj : j ≤ 4) : (upL n k (nm x y z u) j).length ≤ 80 := by
  have g : ∀ i, (upL n k (nm x y z u) i).length ≤ (upL n k (nm x y z u) (i + 1)).length := fun i => by
    show _ ≤ (upL n k (nm x y z u) i ++ partL k i (nm x y z u i)).length
    rw [List.length_append]; omega
  have b : (upL n k (nm x y z u) 4).length ≤ 80 := body_len (k := k) h
  have g0 : (upL n k (nm x y z u) 0).length ≤ (upL n k (nm x y z u) 1).length := g 0
  have g1 : (upL n k (nm x y z u) 1).length ≤ (upL n k (nm x y z u) 2).length := g 1
  have g2 : (upL n k (nm x y z u) 2).length ≤ (upL n k (nm x y z u) 3).length := g 2
  have g3 : (upL n k (nm x y z u) 3).length ≤ (upL n k (nm x y z u) 4).length := g 3
  rcases (show j = 0 ∨ j = 1 ∨ j = 2 ∨ j = 3 ∨ j = 4 by omega) with e | e | e | e | e
  all_goals (subst e; omega)
theorem sA_cat {a b c : List UInt8} (h : c = a ++ b) : Value.string ((⟨a.toArray⟩ : ByteArray) ++ ⟨b.toArray⟩) = sA c := by rw [cat_arr, h]
set_option linter.unusedVariables false in
def lh2V (k : Nat) (n : Int) (B : Nat) (d : Nat) (v : Value) (_ : World) : Prop :=
  match d with
  | 13 => v = .int .i64 n
  | 14 => v = sA (Lib.itoa n)
  | 15 => v = sA ([78] ++ Lib.itoa n)
  | 16 => v = sA ([78] ++ Lib.itoa n ++ [32])
  | 17 => v = .pointer (some ⟨B, 0, none⟩)
  | 18 => v = sA (firstW k)
  | 19 => v = sA (headL n k)
  | 6 => v = sA (headL n k)
  | _ => True
set_option linter.unusedVariables false in
theorem lh2V_mono (k : Nat) (n : Int) (B : Nat) (d : Nat) (v : Value) (w w' : World) (h : lh2V k n B d v w) (_ : Below w.heap.size w w') : lh2V k n B d v w' := h
set_option linter.unusedVariables false in
def lp0V (k : Nat) (S : List UInt8) (m : Int) (B : Nat) (d : Nat) (v : Value) (_ : World) : Prop :=
  match d with
  | 31 => v = sA S
  | 32 => v = .int .i64 0
  | 33 => v = .pointer (some ⟨B, 1, none⟩)
  | 34 => v = .pointer (some ⟨B, 1, none⟩)
  | 35 => v = sA (letW k 0)
  | 36 => v = sA (32 :: letW k 0)
  | 37 => v = .int .i64 m
  | 38 => v = sA (Lib.itoa m)
  | 39 => v = sA ((32 :: letW k 0) ++ Lib.itoa m)
  | 40 => v = sA (S ++ ((32 :: letW k 0) ++ Lib.itoa m))
  | _ => True
set_option linter.unusedVariables false in
theorem lp0V_mono (k : Nat) (S : List UInt8) (m : Int) (B : Nat) (d : Nat) (v : Value) (w w' : World) (h : lp0V k S m B d v w) (_ : Below w.heap.size w w') : lp0V k S m B d v w' := h
set_option linter.unusedVariables false in
def lp1V (k : Nat) (S : List UInt8) (m : Int) (B : Nat) (d : Nat) (v : Value) (_ : World) : Prop :=
  match d with
  | 31 => v = sA S
  | 32 => v = .int .i64 1
  | 33 => v = .pointer (some ⟨B, 1, none⟩)
  | 34 => v = .pointer (some ⟨B, 2, none⟩)
  | 35 => v = sA (letW k 1)
  | 36 => v = sA (32 :: letW k 1)
  | 37 => v = .int .i64 m
  | 38 => v = sA (Lib.itoa m)
  | 39 => v = sA ((32 :: letW k 1) ++ Lib.itoa m)
  | 40 => v = sA (S ++ ((32 :: letW k 1) ++ Lib.itoa m))
  | _ => True
set_option linter.unusedVariables false in
theorem lp1V_mono (k : Nat) (S : List UInt8) (m : Int) (B : Nat) (d : Nat) (v : Value) (w w' : World) (h : lp1V k S m B d v w) (_ : Below w.heap.size w w') : lp1V k S m B d v w' := h
set_option linter.unusedVariables false in
def lp2V (k : Nat) (S : List UInt8) (m : Int) (B : Nat) (d : Nat) (v : Value) (_ : World) : Prop :=
  match d with
  | 31 => v = sA S
  | 32 => v = .int .i64 2
  | 33 => v = .pointer (some ⟨B, 1, none⟩)
  | 34 => v = .pointer (some ⟨B, 3, none⟩)
  | 35 => v = sA (letW k 2)
  | 36 => v = sA (32 :: letW k 2)
  | 37 => v = .int .i64 m
  | 38 => v = sA (Lib.itoa m)
  | 39 => v = sA ((32 :: letW k 2) ++ Lib.itoa m)
  | 40 => v = sA (S ++ ((32 :: letW k 2) ++ Lib.itoa m))
  | _ => True
set_option linter.unusedVariables false in
theorem lp2V_mono (k : Nat) (S : List UInt8) (m : Int) (B : Nat) (d : Nat) (v : Value) (w w' : World) (h : lp2V k S m B d v w) (_ : Below w.heap.size w w') : lp2V k S m B d v w' := h
set_option linter.unusedVariables false in
def lp3V (k : Nat) (S : List UInt8) (m : Int) (B : Nat) (d : Nat) (v : Value) (_ : World) : Prop :=
  match d with
  | 31 => v = sA S
  | 32 => v = .int .i64 3
  | 33 => v = .pointer (some ⟨B, 1, none⟩)
  | 34 => v = .pointer (some ⟨B, 4, none⟩)
  | 35 => v = sA (letW k 3)
  | 36 => v = sA (32 :: letW k 3)
  | 37 => v = .int .i64 m
  | 38 => v = sA (Lib.itoa m)
  | 39 => v = sA ((32 :: letW k 3) ++ Lib.itoa m)
  | 40 => v = sA (S ++ ((32 :: letW k 3) ++ Lib.itoa m))
  | _ => True
set_option linter.unusedVariables false in
theorem lp3V_mono (k : Nat) (S : List UInt8) (m : Int) (B : Nat) (d : Nat) (v : Value) (w w' : World) (h : lp3V k S m B d v w) (_ : Below w.heap.size w w') : lp3V k S m B d v w' := h
set_option maxHeartbeats 6400000 in
set_option maxRecDepth 100000 in
theorem lineOf_any (n : Int) (k : Nat) (x y z u : Int) (w : World) (h1 : 1 ≤ k) (h8 : k ≤ 8) (hF : Fit n x y z u) (hT : Tabs w) : Calls Tryd.prog 20 #[.int .i64 n, cm k x y z u] w fun e w' => e = .returned (sA (lineL n k x y z u)) ∧ Below w.heap.size w w' := by
  obtain ⟨⟨n0, n1⟩, ⟨x0, x1⟩, ⟨y0, y1⟩, ⟨z0, z1⟩, ⟨u0, u1⟩⟩ := id hF
  have HN : Hid (∀ W, Calls Tryd.prog 17 #[cm k x y z u] W fun e w' => e = .returned (n4 x y z u) ∧ Below W.heap.size W w') := fun W => numbersB k x y z u W
  have HC0 : Hid (Bk w.heap.size (c5 k x y z u) (w.alloc (o5 k x y z u))) := Bk.new w (c5 k x y z u) 23 _ rfl
  have HB0 : Hid (Below w.heap.size w (w.alloc (o5 k x y z u))) := (Below.refl _ _).alloc (Nat.le_refl _) _
  have HT0 : Hid (Tabs (w.alloc (o5 k x y z u))) := hT.later HB0.out
  have k9 : (k : Int) < 9 := by omega
  have q0 := HT0.out.words.first k (by omega)
  have q1 := HT0.out.words.letter k 0 (by omega) (by decide)
  have q2 := HT0.out.words.letter k 1 (by omega) (by decide)
  have q3 := HT0.out.words.letter k 2 (by omega) (by decide)
  have q4 := HT0.out.words.letter k 3 (by omega) (by decide)
  have HCW0 : Hid (Bk (w.heap.size + 1) (cW k) ((w.alloc (o5 k x y z u)).alloc (.cells #[sA (firstW k), sA (letW k 0), sA (letW k 1), sA (letW k 2), sA (letW k 3)] 47))) := Bk.new (w.alloc (o5 k x y z u)) (cW k) 47 _ (by simp)
  have HBa : Hid (Below (w.alloc (o5 k x y z u)).heap.size (w.alloc (o5 k x y z u)) ((w.alloc (o5 k x y z u)).alloc (.cells #[sA (firstW k), sA (letW k 0), sA (letW k 1), sA (letW k 2), sA (letW k 3)] 47))) := (Below.refl _ _).alloc (Nat.le_refl _) _
  have HC1 : Hid (Bk w.heap.size (c5 k x y z u) ((w.alloc (o5 k x y z u)).alloc (.cells #[sA (firstW k), sA (letW k 0), sA (letW k 1), sA (letW k 2), sA (letW k 3)] 47))) := HC0.out.later HBa.out
  have HT1 : Hid (Tabs ((w.alloc (o5 k x y z u)).alloc (.cells #[sA (firstW k), sA (letW k 0), sA (letW k 1), sA (letW k 2), sA (letW k 3)] 47))) := HT0.out.later HBa.out
  have HB1 : Hid (Below w.heap.size w ((w.alloc (o5 k x y z u)).alloc (.cells #[sA (firstW k), sA (letW k 0), sA (letW k 1), sA (letW k 2), sA (letW k 3)] 47))) := HB0.out.trans (HBa.out.mono HB0.out.size)
  clear hT HC0 HT0 HBa HB0
  go_enter Tryd.func20, Tryd.ntmps20
  go_wp2_with fail
  clear q0 q1 q2 q3 q4
  generalize (w.alloc (o5 k x y z u)).alloc (.cells #[sA (firstW k), sA (letW k 0), sA (letW k 1), sA (letW k 2), sA (letW k 3)] 47) = w1 at *
  obtain ⟨B, hB⟩ : ∃ B, B = w.heap.size + 1 := ⟨_, rfl⟩
  obtain ⟨D, hD⟩ : ∃ D, D = w.heap.size := ⟨_, rfl⟩
  have HC : Hid (Bk B (cW k) w1) := by show Bk _ _ _; rw [hB]; exact HCW0.out
  have HD : Hid (Bk D (c5 k x y z u) w1) := by show Bk _ _ _; rw [hD]; exact HC1.out
  simp only [← hB]
  simp only [← hD]
  clear hB hD HCW0 HC1
  have HT : Hid (Tabs w1) := HT1.out
  refine region_inv [false, false, false, false, false, false, true, false, false, false, false, false, false, true, true, true, true, true, true, true, false, false, false, false, false, false, false, false, false, false, false, false, false, false, false, false, false, false, false, false, false, false, false, false, false, false, false, false]
    [(13, [], none), (14, [13], none), (15, [14], none), (16, [15], none), (17, [], none), (18, [17], none), (19, [16, 18], none), (6, [19], none)]
    (lh2V k n B) (by kernel_rfl) (by kernel_rfl) (lh2V_mono k n B) ?_ ?_
  · refine ⟨?_, ?_, ?_, ?_, ?_, ?_, ?_, ?_, trivial⟩
    · intro f w1 hb _ K hK
      simp only [over, overL, Nat.reduceAdd]
      go_simp
      exact hK _ _ ⟨_, rfl, by simp only [over, overL, Nat.reduceAdd] <;> rfl, Below.refl _ _⟩
    · intro f w1 hb ⟨h13, _⟩ K hK
      replace h13 : f 13 = _ := h13
      simp only [over, overL, Nat.reduceAdd, h13]
      go_simp
      refine (itoaB n (by omega) (by omega) _ (HT.out.later hb)).mono ?_
      rintro e w2 ⟨rfl, hb2⟩
      exact hK _ _ ⟨_, rfl, by simp only [over, overL, Nat.reduceAdd, h13] <;> rfl, hb2⟩
    · intro f w1 hb ⟨h14, _⟩ K hK
      replace h14 : f 14 = _ := h14
      have l1 := (itoa_len (n := n) (by omega) (by omega)).2
      have l2 := first_len k
      simp only [over, overL, Nat.reduceAdd, h14]
      go_simp
      rw [if_neg (by simp <;> omega)]
      exact hK _ _ ⟨_, sA_cat (a := [78]) rfl, by simp only [over, overL, Nat.reduceAdd, h14] <;> rfl, Below.refl _ _⟩
    · intro f w1 hb ⟨h15, _⟩ K hK
      replace h15 : f 15 = _ := h15
      have l1 := (itoa_len (n := n) (by omega) (by omega)).2
      have l2 := first_len k
      simp only [over, overL, Nat.reduceAdd, h15]
      go_simp
      rw [if_neg (by simp <;> omega)]
      exact hK _ _ ⟨_, sA_cat (b := [32]) rfl, by simp only [over, overL, Nat.reduceAdd, h15] <;> rfl, Below.refl _ _⟩
    · intro f w1 hb _ K hK
      simp only [over, overL, Nat.reduceAdd]
      go_simp
      exact hK _ _ ⟨_, rfl, by simp only [over, overL, Nat.reduceAdd] <;> rfl, Below.refl _ _⟩
    · intro f w1 hb ⟨h17, _⟩ K hK
      replace h17 : f 17 = _ := h17
      have q0 := (HC.out.later hb).c 0 rfl
      simp only [over, overL, Nat.reduceAdd, h17]
      go_simp
      exact hK _ _ ⟨_, rfl, by simp only [over, overL, Nat.reduceAdd, h17] <;> rfl, Below.refl _ _⟩
    · intro f w1 hb ⟨h16, h18, _⟩ K hK
      replace h16 : f 16 = _ := h16
      replace h18 : f 18 = _ := h18
      have l1 := (itoa_len (n := n) (by omega) (by omega)).2
      have l2 := first_len k
      simp only [over, overL, Nat.reduceAdd, h16, h18]
      go_simp
      rw [if_neg (by simp <;> omega)]
      exact hK _ _ ⟨_, sA_cat rfl, by simp only [over, overL, Nat.reduceAdd, h16, h18] <;> rfl, Below.refl _ _⟩
    · intro f w1 hb ⟨h19, _⟩ K hK
      replace h19 : f 19 = _ := h19
      simp only [over, overL, Nat.reduceAdd, h19]
      go_simp
      exact hK _ _ ⟨_, rfl, by simp only [over, overL, Nat.reduceAdd, h19] <;> rfl, Below.refl _ _⟩
  intro f w2 hb hv
  have h6 : f 6 = sA (headL n k) := hv.2.2.2.2.2.2.2.1
  have HT2 : Hid (Tabs w2) := HT.out.later hb
  have HC2 : Hid (Bk B (cW k) w2) := HC.out.later hb
  have HD2 : Hid (Bk D (c5 k x y z u) w2) := HD.out.later hb
  have HB2 : Hid (Below w.heap.size w w2) := HB1.out.trans (hb.mono HB1.out.size)
  simp only [over_eq, overL, h6, Nat.reduceAdd]
  clear hv h6 hb HT HT1 HC HD HB1
  have c0 := HD2.out.c 0 rfl
  have c1 := HD2.out.c 1 rfl
  have c2 := HD2.out.c 2 rfl
  have c3 := HD2.out.c 3 rfl
  have c4 := HD2.out.c 4 rfl
  go_wp2_with fail
  refine (HN.out _).mono ?_
  rintro e w3 ⟨rfl, hb⟩
  have HT3 : Hid (Tabs w3) := HT2.out.later hb
  have HC3 : Hid (Bk B (cW k) w3) := HC2.out.later hb
  have HB3 : Hid (Below w.heap.size w w3) := HB2.out.trans (hb.mono HB2.out.size)
  clear c0 c1 c2 c3 c4 hb HT2 HC2 HD2 HB2
  go_wp2_with fail
  go_loopw [6, 22] (fun s i wr => ∃ j : Nat, j ≤ 4 ∧ i = .int .i64 j ∧ s = sA (upL n k (nm x y z u) j) ∧ Hid (Below w.heap.size w wr ∧ Bk B (cW k) wr ∧ Tabs wr)) (fun _ i _ => 4 - (intOf i).toNat)
  case atStart => exact ⟨0, by omega, rfl, rfl, (show Hid _ from ⟨HB3.out, HC3.out, HT3.out⟩)⟩
  case round =>
    obtain ⟨j, hj4, rfl, rfl, HG⟩ := hrel
    have HT : Hid (Tabs wr) := HG.out.2.2
    have HC : Hid (Bk B (cW k) wr) := HG.out.2.1
    have HBr : Hid (Below w.heap.size w wr) := HG.out.1
    rcases (show j = 0 ∨ j = 1 ∨ j = 2 ∨ j = 3 ∨ j = 4 by omega) with e | e | e | e | e
    · subst e
      have ix := ix0 x y z u
      have HS : Hid (upL n k (nm x y z u) 1 = upL n k (nm x y z u) 0 ++ partL k 0 x) := rfl
      have HSL : Hid ((upL n k (nm x y z u) 0).length ≤ 80) := up_len hF (by decide)
      obtain ⟨S, hS⟩ : ∃ S, S = upL n k (nm x y z u) 0 := ⟨_, rfl⟩
      rw [← hS] at HS HSL
      rw [← hS]
      clear hS
      by_cases hl : letW k 0 = []
      · have HE : Hid (upL n k (nm x y z u) 1 = S) := by show _ = _; rw [HS.out]; unfold partL; rw [if_pos hl, List.append_nil]
        have c : wr.cell? ⟨B, 1, none⟩ = some (.string ⟨#[]⟩) := by
          have := HC.out.c 1 rfl
          rw [hl] at this
          exact this
        clear hl
        go_wp2
        go_roundw
        case rel => exact ⟨1, by omega, by go_num, by rw [HE.out], HG⟩
        case measure => simp [intOf]
      · have HE : Hid (upL n k (nm x y z u) 1 = S ++ ((32 :: letW k 0) ++ Lib.itoa x)) := by show _ = _; rw [HS.out]; unfold partL; rw [if_neg hl]
        have c : wr.cell? ⟨B, 1, none⟩ = some (sA (letW k 0)) := HC.out.c 1 rfl
        have p1 : (([] : List UInt8) == letW k 0) = false := by rw [beq_eq_false_iff_ne]; exact fun h => hl h.symm
        have p2 : (letW k 0 == []) = false := by rw [beq_eq_false_iff_ne]; exact hl
        have p3 : (letW k 0).isEmpty = false := by simpa using hl
        clear hl
        go_wp2_with fail
        clear c p1 p2 p3
        refine region_seq 10 [false, false, false, false, false, false, false, false, false, false, false, false, false, false, false, false, false, false, false, false, false, false, false, false, false, false, false, false, false, false, false, true, true, true, true, true, true, true, true, true, true, false, false, false, false, false, false, false]
          [(31, [], none), (32, [], none), (33, [], none), (34, [33, 32], none), (35, [34], none), (36, [35], none), (37, [], none), (38, [37], none), (39, [36, 38], none), (40, [31, 39], none)]
          (lp0V k S x B) (by kernel_rfl) (by kernel_rfl) (by kernel_rfl) (by kernel_rfl) (by kernel_rfl) (by decide) (lp0V_mono k S x B) ?_ ?_
        · refine ⟨?_, ?_, ?_, ?_, ?_, ?_, ?_, ?_, ?_, ?_, trivial⟩
          · intro f w1 hb _ K hK
            simp only [over, overL, Nat.reduceAdd]
            go_simp
            exact hK _ _ ⟨_, rfl, by simp only [over, overL, Nat.reduceAdd]; rfl, Below.refl _ _⟩
          · intro f w1 hb _ K hK
            simp only [over, overL, Nat.reduceAdd]
            go_simp
            exact hK _ _ ⟨_, rfl, by simp only [over, overL, Nat.reduceAdd]; rfl, Below.refl _ _⟩
          · intro f w1 hb _ K hK
            simp only [over, overL, Nat.reduceAdd]
            go_simp
            exact hK _ _ ⟨_, rfl, by simp only [over, overL, Nat.reduceAdd]; rfl, Below.refl _ _⟩
          · intro f w1 hb ⟨h33, h32, _⟩ K hK
            replace h33 : f 33 = _ := h33
            replace h32 : f 32 = _ := h32
            simp only [over, overL, Nat.reduceAdd, h33, h32]
            go_simp
            exact hK _ _ ⟨_, rfl, by simp only [over, overL, Nat.reduceAdd, h33, h32]; rfl, Below.refl _ _⟩
          · intro f w1 hb ⟨h34, _⟩ K hK
            replace h34 : f 34 = _ := h34
            have q1 := (HC.out.later hb).c 1 rfl
            simp only [over, overL, Nat.reduceAdd, h34]
            go_simp
            exact hK _ _ ⟨_, rfl, by simp only [over, overL, Nat.reduceAdd, h34]; rfl, Below.refl _ _⟩
          · intro f w1 hb ⟨h35, _⟩ K hK
            replace h35 : f 35 = _ := h35
            have l1 := (itoa_len (n := x) (by omega) (by omega)).2
            have l2 := let_len k 0
            have l3 := HSL.out
            simp only [over, overL, Nat.reduceAdd, h35]
            go_simp
            rw [if_neg (by simp <;> omega)]
            exact hK _ _ ⟨_, sA_cat (a := [32]) rfl, by simp only [over, overL, Nat.reduceAdd, h35]; rfl, Below.refl _ _⟩
          · intro f w1 hb _ K hK
            simp only [over, overL, Nat.reduceAdd]
            go_simp
            exact hK _ _ ⟨_, rfl, by simp only [over, overL, Nat.reduceAdd]; rfl, Below.refl _ _⟩
          · intro f w1 hb ⟨h37, _⟩ K hK
            replace h37 : f 37 = _ := h37
            simp only [over, overL, Nat.reduceAdd, h37]
            go_simp
            refine (itoaB x (by omega) (by omega) _ (HT.out.later hb)).mono ?_
            rintro e w2 ⟨rfl, hb2⟩
            exact hK _ _ ⟨_, rfl, by simp only [over, overL, Nat.reduceAdd, h37]; rfl, hb2⟩
          · intro f w1 hb ⟨h36, h38, _⟩ K hK
            replace h36 : f 36 = _ := h36
            replace h38 : f 38 = _ := h38
            have l1 := (itoa_len (n := x) (by omega) (by omega)).2
            have l2 := let_len k 0
            have l3 := HSL.out
            simp only [over, overL, Nat.reduceAdd, h36, h38]
            go_simp
            rw [if_neg (by simp <;> omega)]
            exact hK _ _ ⟨_, sA_cat rfl, by simp only [over, overL, Nat.reduceAdd, h36, h38]; rfl, Below.refl _ _⟩
          · intro f w1 hb ⟨h31, h39, _⟩ K hK
            replace h31 : f 31 = _ := h31
            replace h39 : f 39 = _ := h39
            have l1 := (itoa_len (n := x) (by omega) (by omega)).2
            have l2 := let_len k 0
            have l3 := HSL.out
            simp only [over, overL, Nat.reduceAdd, h31, h39]
            go_simp
            rw [if_neg (by simp <;> omega)]
            exact hK _ _ ⟨_, sA_cat rfl, by simp only [over, overL, Nat.reduceAdd, h31, h39]; rfl, Below.refl _ _⟩
        intro f w4 hb hv
        have h40 : f 40 = sA (S ++ ((32 :: letW k 0) ++ Lib.itoa x)) := hv.2.2.2.2.2.2.2.2.2.1
        simp only [over_eq, overL, h40, Nat.reduceAdd, List.drop_succ_cons, List.drop_zero]
        have HG4 : Hid (Below w.heap.size w w4 ∧ Bk B (cW k) w4 ∧ Tabs w4) := (show Hid _ from ⟨HBr.out.trans (hb.mono HBr.out.size), HC.out.later hb, HT.out.later hb⟩)
        clear hv h40 hb
        go_wp2
        go_roundw
        case rel => exact ⟨1, by omega, by go_num, by rw [HE.out], HG4⟩
        case measure => simp [intOf]
    · subst e
      have ix := ix1 x y z u
      have HS : Hid (upL n k (nm x y z u) 2 = upL n k (nm x y z u) 1 ++ partL k 1 y) := rfl
      have HSL : Hid ((upL n k (nm x y z u) 1).length ≤ 80) := up_len hF (by decide)
      obtain ⟨S, hS⟩ : ∃ S, S = upL n k (nm x y z u) 1 := ⟨_, rfl⟩
      rw [← hS] at HS HSL
      rw [← hS]
      clear hS
      by_cases hl : letW k 1 = []
      · have HE : Hid (upL n k (nm x y z u) 2 = S) := by show _ = _; rw [HS.out]; unfold partL; rw [if_pos hl, List.append_nil]
        have c : wr.cell? ⟨B, 2, none⟩ = some (.string ⟨#[]⟩) := by
          have := HC.out.c 2 rfl
          rw [hl] at this
          exact this
        clear hl
        go_wp2
        go_roundw
        case rel => exact ⟨2, by omega, by go_num, by rw [HE.out], HG⟩
        case measure => simp [intOf]
      · have HE : Hid (upL n k (nm x y z u) 2 = S ++ ((32 :: letW k 1) ++ Lib.itoa y)) := by show _ = _; rw [HS.out]; unfold partL; rw [if_neg hl]
        have c : wr.cell? ⟨B, 2, none⟩ = some (sA (letW k 1)) := HC.out.c 2 rfl
        have p1 : (([] : List UInt8) == letW k 1) = false := by rw [beq_eq_false_iff_ne]; exact fun h => hl h.symm
        have p2 : (letW k 1 == []) = false := by rw [beq_eq_false_iff_ne]; exact hl
        have p3 : (letW k 1).isEmpty = false := by simpa using hl
        clear hl
        go_wp2_with fail
        clear c p1 p2 p3
        refine region_seq 10 [false, false, false, false, false, false, false, false, false, false, false, false, false, false, false, false, false, false, false, false, false, false, false, false, false, false, false, false, false, false, false, true, true, true, true, true, true, true, true, true, true, false, false, false, false, false, false, false]
          [(31, [], none), (32, [], none), (33, [], none), (34, [33, 32], none), (35, [34], none), (36, [35], none), (37, [], none), (38, [37], none), (39, [36, 38], none), (40, [31, 39], none)]
          (lp1V k S y B) (by kernel_rfl) (by kernel_rfl) (by kernel_rfl) (by kernel_rfl) (by kernel_rfl) (by decide) (lp1V_mono k S y B) ?_ ?_
        · refine ⟨?_, ?_, ?_, ?_, ?_, ?_, ?_, ?_, ?_, ?_, trivial⟩
          · intro f w1 hb _ K hK
            simp only [over, overL, Nat.reduceAdd]
            go_simp
            exact hK _ _ ⟨_, rfl, by simp only [over, overL, Nat.reduceAdd]; rfl, Below.refl _ _⟩
          · intro f w1 hb _ K hK
            simp only [over, overL, Nat.reduceAdd]
            go_simp
            exact hK _ _ ⟨_, rfl, by simp only [over, overL, Nat.reduceAdd]; rfl, Below.refl _ _⟩
          · intro f w1 hb _ K hK
            simp only [over, overL, Nat.reduceAdd]
            go_simp
            exact hK _ _ ⟨_, rfl, by simp only [over, overL, Nat.reduceAdd]; rfl, Below.refl _ _⟩
          · intro f w1 hb ⟨h33, h32, _⟩ K hK
            replace h33 : f 33 = _ := h33
            replace h32 : f 32 = _ := h32
            simp only [over, overL, Nat.reduceAdd, h33, h32]
            go_simp
            exact hK _ _ ⟨_, rfl, by simp only [over, overL, Nat.reduceAdd, h33, h32]; rfl, Below.refl _ _⟩
          · intro f w1 hb ⟨h34, _⟩ K hK
            replace h34 : f 34 = _ := h34
            have q2 := (HC.out.later hb).c 2 rfl
            simp only [over, overL, Nat.reduceAdd, h34]
            go_simp
            exact hK _ _ ⟨_, rfl, by simp only [over, overL, Nat.reduceAdd, h34]; rfl, Below.refl _ _⟩
          · intro f w1 hb ⟨h35, _⟩ K hK
            replace h35 : f 35 = _ := h35
            have l1 := (itoa_len (n := y) (by omega) (by omega)).2
            have l2 := let_len k 1
            have l3 := HSL.out
            simp only [over, overL, Nat.reduceAdd, h35]
            go_simp
            rw [if_neg (by simp <;> omega)]
            exact hK _ _ ⟨_, sA_cat (a := [32]) rfl, by simp only [over, overL, Nat.reduceAdd, h35]; rfl, Below.refl _ _⟩
          · intro f w1 hb _ K hK
            simp only [over, overL, Nat.reduceAdd]
            go_simp
            exact hK _ _ ⟨_, rfl, by simp only [over, overL, Nat.reduceAdd]; rfl, Below.refl _ _⟩
          · intro f w1 hb ⟨h37, _⟩ K hK
            replace h37 : f 37 = _ := h37
            simp only [over, overL, Nat.reduceAdd, h37]
            go_simp
            refine (itoaB y (by omega) (by omega) _ (HT.out.later hb)).mono ?_
            rintro e w2 ⟨rfl, hb2⟩
            exact hK _ _ ⟨_, rfl, by simp only [over, overL, Nat.reduceAdd, h37]; rfl, hb2⟩
          · intro f w1 hb ⟨h36, h38, _⟩ K hK
            replace h36 : f 36 = _ := h36
            replace h38 : f 38 = _ := h38
            have l1 := (itoa_len (n := y) (by omega) (by omega)).2
            have l2 := let_len k 1
            have l3 := HSL.out
            simp only [over, overL, Nat.reduceAdd, h36, h38]
            go_simp
            rw [if_neg (by simp <;> omega)]
            exact hK _ _ ⟨_, sA_cat rfl, by simp only [over, overL, Nat.reduceAdd, h36, h38]; rfl, Below.refl _ _⟩
          · intro f w1 hb ⟨h31, h39, _⟩ K hK
            replace h31 : f 31 = _ := h31
            replace h39 : f 39 = _ := h39
            have l1 := (itoa_len (n := y) (by omega) (by omega)).2
            have l2 := let_len k 1
            have l3 := HSL.out
            simp only [over, overL, Nat.reduceAdd, h31, h39]
            go_simp
            rw [if_neg (by simp <;> omega)]
            exact hK _ _ ⟨_, sA_cat rfl, by simp only [over, overL, Nat.reduceAdd, h31, h39]; rfl, Below.refl _ _⟩
        intro f w4 hb hv
        have h40 : f 40 = sA (S ++ ((32 :: letW k 1) ++ Lib.itoa y)) := hv.2.2.2.2.2.2.2.2.2.1
        simp only [over_eq, overL, h40, Nat.reduceAdd, List.drop_succ_cons, List.drop_zero]
        have HG4 : Hid (Below w.heap.size w w4 ∧ Bk B (cW k) w4 ∧ Tabs w4) := (show Hid _ from ⟨HBr.out.trans (hb.mono HBr.out.size), HC.out.later hb, HT.out.later hb⟩)
        clear hv h40 hb
        go_wp2
        go_roundw
        case rel => exact ⟨2, by omega, by go_num, by rw [HE.out], HG4⟩
        case measure => simp [intOf]
    · subst e
      have ix := ix2 x y z u
      have HS : Hid (upL n k (nm x y z u) 3 = upL n k (nm x y z u) 2 ++ partL k 2 z) := rfl
      have HSL : Hid ((upL n k (nm x y z u) 2).length ≤ 80) := up_len hF (by decide)
      obtain ⟨S, hS⟩ : ∃ S, S = upL n k (nm x y z u) 2 := ⟨_, rfl⟩
      rw [← hS] at HS HSL
      rw [← hS]
      clear hS
      by_cases hl : letW k 2 = []
      · have HE : Hid (upL n k (nm x y z u) 3 = S) := by show _ = _; rw [HS.out]; unfold partL; rw [if_pos hl, List.append_nil]
        have c : wr.cell? ⟨B, 3, none⟩ = some (.string ⟨#[]⟩) := by
          have := HC.out.c 3 rfl
          rw [hl] at this
          exact this
        clear hl
        go_wp2
        go_roundw
        case rel => exact ⟨3, by omega, by go_num, by rw [HE.out], HG⟩
        case measure => simp [intOf]
      · have HE : Hid (upL n k (nm x y z u) 3 = S ++ ((32 :: letW k 2) ++ Lib.itoa z)) := by show _ = _; rw [HS.out]; unfold partL; rw [if_neg hl]
        have c : wr.cell? ⟨B, 3, none⟩ = some (sA (letW k 2)) := HC.out.c 3 rfl
        have p1 : (([] : List UInt8) == letW k 2) = false := by rw [beq_eq_false_iff_ne]; exact fun h => hl h.symm
        have p2 : (letW k 2 == []) = false := by rw [beq_eq_false_iff_ne]; exact hl
        have p3 : (letW k 2).isEmpty = false := by simpa using hl
        clear hl
        go_wp2_with fail
        clear c p1 p2 p3
        refine region_seq 10 [false, false, false, false, false, false, false, false, false, false, false, false, false, false, false, false, false, false, false, false, false, false, false, false, false, false, false, false, false, false, false, true, true, true, true, true, true, true, true, true, true, false, false, false, false, false, false, false]
          [(31, [], none), (32, [], none), (33, [], none), (34, [33, 32], none), (35, [34], none), (36, [35], none), (37, [], none), (38, [37], none), (39, [36, 38], none), (40, [31, 39], none)]
          (lp2V k S z B) (by kernel_rfl) (by kernel_rfl) (by kernel_rfl) (by kernel_rfl) (by kernel_rfl) (by decide) (lp2V_mono k S z B) ?_ ?_
        · refine ⟨?_, ?_, ?_, ?_, ?_, ?_, ?_, ?_, ?_, ?_, trivial⟩
          · intro f w1 hb _ K hK
            simp only [over, overL, Nat.reduceAdd]
            go_simp
            exact hK _ _ ⟨_, rfl, by simp only [over, overL, Nat.reduceAdd]; rfl, Below.refl _ _⟩
          · intro f w1 hb _ K hK
            simp only [over, overL, Nat.reduceAdd]
            go_simp
            exact hK _ _ ⟨_, rfl, by simp only [over, overL, Nat.reduceAdd]; rfl, Below.refl _ _⟩
          · intro f w1 hb _ K hK
            simp only [over, overL, Nat.reduceAdd]
            go_simp
            exact hK _ _ ⟨_, rfl, by simp only [over, overL, Nat.reduceAdd]; rfl, Below.refl _ _⟩
          · intro f w1 hb ⟨h33, h32, _⟩ K hK
            replace h33 : f 33 = _ := h33
            replace h32 : f 32 = _ := h32
            simp only [over, overL, Nat.reduceAdd, h33, h32]
            go_simp
            exact hK _ _ ⟨_, rfl, by simp only [over, overL, Nat.reduceAdd, h33, h32]; rfl, Below.refl _ _⟩
          · intro f w1 hb ⟨h34, _⟩ K hK
            replace h34 : f 34 = _ := h34
            have q3 := (HC.out.later hb).c 3 rfl
            simp only [over, overL, Nat.reduceAdd, h34]
            go_simp
            exact hK _ _ ⟨_, rfl, by simp only [over, overL, Nat.reduceAdd, h34]; rfl, Below.refl _ _⟩
          · intro f w1 hb ⟨h35, _⟩ K hK
            replace h35 : f 35 = _ := h35
            have l1 := (itoa_len (n := z) (by omega) (by omega)).2
            have l2 := let_len k 2
            have l3 := HSL.out
            simp only [over, overL, Nat.reduceAdd, h35]
            go_simp
            rw [if_neg (by simp <;> omega)]
            exact hK _ _ ⟨_, sA_cat (a := [32]) rfl, by simp only [over, overL, Nat.reduceAdd, h35]; rfl, Below.refl _ _⟩
          · intro f w1 hb _ K hK
            simp only [over, overL, Nat.reduceAdd]
            go_simp
            exact hK _ _ ⟨_, rfl, by simp only [over, overL, Nat.reduceAdd]; rfl, Below.refl _ _⟩
          · intro f w1 hb ⟨h37, _⟩ K hK
            replace h37 : f 37 = _ := h37
            simp only [over, overL, Nat.reduceAdd, h37]
            go_simp
            refine (itoaB z (by omega) (by omega) _ (HT.out.later hb)).mono ?_
            rintro e w2 ⟨rfl, hb2⟩
            exact hK _ _ ⟨_, rfl, by simp only [over, overL, Nat.reduceAdd, h37]; rfl, hb2⟩
          · intro f w1 hb ⟨h36, h38, _⟩ K hK
            replace h36 : f 36 = _ := h36
            replace h38 : f 38 = _ := h38
            have l1 := (itoa_len (n := z) (by omega) (by omega)).2
            have l2 := let_len k 2
            have l3 := HSL.out
            simp only [over, overL, Nat.reduceAdd, h36, h38]
            go_simp
            rw [if_neg (by simp <;> omega)]
            exact hK _ _ ⟨_, sA_cat rfl, by simp only [over, overL, Nat.reduceAdd, h36, h38]; rfl, Below.refl _ _⟩
          · intro f w1 hb ⟨h31, h39, _⟩ K hK
            replace h31 : f 31 = _ := h31
            replace h39 : f 39 = _ := h39
            have l1 := (itoa_len (n := z) (by omega) (by omega)).2
            have l2 := let_len k 2
            have l3 := HSL.out
            simp only [over, overL, Nat.reduceAdd, h31, h39]
            go_simp
            rw [if_neg (by simp <;> omega)]
            exact hK _ _ ⟨_, sA_cat rfl, by simp only [over, overL, Nat.reduceAdd, h31, h39]; rfl, Below.refl _ _⟩
        intro f w4 hb hv
        have h40 : f 40 = sA (S ++ ((32 :: letW k 2) ++ Lib.itoa z)) := hv.2.2.2.2.2.2.2.2.2.1
        simp only [over_eq, overL, h40, Nat.reduceAdd, List.drop_succ_cons, List.drop_zero]
        have HG4 : Hid (Below w.heap.size w w4 ∧ Bk B (cW k) w4 ∧ Tabs w4) := (show Hid _ from ⟨HBr.out.trans (hb.mono HBr.out.size), HC.out.later hb, HT.out.later hb⟩)
        clear hv h40 hb
        go_wp2
        go_roundw
        case rel => exact ⟨3, by omega, by go_num, by rw [HE.out], HG4⟩
        case measure => simp [intOf]
    · subst e
      have ix := ix3 x y z u
      have HS : Hid (upL n k (nm x y z u) 4 = upL n k (nm x y z u) 3 ++ partL k 3 u) := rfl
      have HSL : Hid ((upL n k (nm x y z u) 3).length ≤ 80) := up_len hF (by decide)
      obtain ⟨S, hS⟩ : ∃ S, S = upL n k (nm x y z u) 3 := ⟨_, rfl⟩
      rw [← hS] at HS HSL
      rw [← hS]
      clear hS
      by_cases hl : letW k 3 = []
      · have HE : Hid (upL n k (nm x y z u) 4 = S) := by show _ = _; rw [HS.out]; unfold partL; rw [if_pos hl, List.append_nil]
        have c : wr.cell? ⟨B, 4, none⟩ = some (.string ⟨#[]⟩) := by
          have := HC.out.c 4 rfl
          rw [hl] at this
          exact this
        clear hl
        go_wp2
        go_roundw
        case rel => exact ⟨4, by omega, by go_num, by rw [HE.out], HG⟩
        case measure => simp [intOf]
      · have HE : Hid (upL n k (nm x y z u) 4 = S ++ ((32 :: letW k 3) ++ Lib.itoa u)) := by show _ = _; rw [HS.out]; unfold partL; rw [if_neg hl]
        have c : wr.cell? ⟨B, 4, none⟩ = some (sA (letW k 3)) := HC.out.c 4 rfl
        have p1 : (([] : List UInt8) == letW k 3) = false := by rw [beq_eq_false_iff_ne]; exact fun h => hl h.symm
        have p2 : (letW k 3 == []) = false := by rw [beq_eq_false_iff_ne]; exact hl
        have p3 : (letW k 3).isEmpty = false := by simpa using hl
        clear hl
        go_wp2_with fail
        clear c p1 p2 p3
        refine region_seq 10 [false, false, false, false, false, false, false, false, false, false, false, false, false, false, false, false, false, false, false, false, false, false, false, false, false, false, false, false, false, false, false, true, true, true, true, true, true, true, true, true, true, false, false, false, false, false, false, false]
          [(31, [], none), (32, [], none), (33, [], none), (34, [33, 32], none), (35, [34], none), (36, [35], none), (37, [], none), (38, [37], none), (39, [36, 38], none), (40, [31, 39], none)]
          (lp3V k S u B) (by kernel_rfl) (by kernel_rfl) (by kernel_rfl) (by kernel_rfl) (by kernel_rfl) (by decide) (lp3V_mono k S u B) ?_ ?_
        · refine ⟨?_, ?_, ?_, ?_, ?_, ?_, ?_, ?_, ?_, ?_, trivial⟩
          · intro f w1 hb _ K hK
            simp only [over, overL, Nat.reduceAdd]
            go_simp
            exact hK _ _ ⟨_, rfl, by simp only [over, overL, Nat.reduceAdd]; rfl, Below.refl _ _⟩
          · intro f w1 hb _ K hK
            simp only [over, overL, Nat.reduceAdd]
            go_simp
            exact hK _ _ ⟨_, rfl, by simp only [over, overL, Nat.reduceAdd]; rfl, Below.refl _ _⟩
          · intro f w1 hb _ K hK
            simp only [over, overL, Nat.reduceAdd]
            go_simp
            exact hK _ _ ⟨_, rfl, by simp only [over, overL, Nat.reduceAdd]; rfl, Below.refl _ _⟩
          · intro f w1 hb ⟨h33, h32, _⟩ K hK
            replace h33 : f 33 = _ := h33
            replace h32 : f 32 = _ := h32
            simp only [over, overL, Nat.reduceAdd, h33, h32]
            go_simp
            exact hK _ _ ⟨_, rfl, by simp only [over, overL, Nat.reduceAdd, h33, h32]; rfl, Below.refl _ _⟩
          · intro f w1 hb ⟨h34, _⟩ K hK
            replace h34 : f 34 = _ := h34
            have q4 := (HC.out.later hb).c 4 rfl
            simp only [over, overL, Nat.reduceAdd, h34]
            go_simp
            exact hK _ _ ⟨_, rfl, by simp only [over, overL, Nat.reduceAdd, h34]; rfl, Below.refl _ _⟩
          · intro f w1 hb ⟨h35, _⟩ K hK
            replace h35 : f 35 = _ := h35
            have l1 := (itoa_len (n := u) (by omega) (by omega)).2
            have l2 := let_len k 3
            have l3 := HSL.out
            simp only [over, overL, Nat.reduceAdd, h35]
            go_simp
            rw [if_neg (by simp <;> omega)]
            exact hK _ _ ⟨_, sA_cat (a := [32]) rfl, by simp only [over, overL, Nat.reduceAdd, h35]; rfl, Below.refl _ _⟩
          · intro f w1 hb _ K hK
            simp only [over, overL, Nat.reduceAdd]
            go_simp
            exact hK _ _ ⟨_, rfl, by simp only [over, overL, Nat.reduceAdd]; rfl, Below.refl _ _⟩
          · intro f w1 hb ⟨h37, _⟩ K hK
            replace h37 : f 37 = _ := h37
            simp only [over, overL, Nat.reduceAdd, h37]
            go_simp
            refine (itoaB u (by omega) (by omega) _ (HT.out.later hb)).mono ?_
            rintro e w2 ⟨rfl, hb2⟩
            exact hK _ _ ⟨_, rfl, by simp only [over, overL, Nat.reduceAdd, h37]; rfl, hb2⟩
          · intro f w1 hb ⟨h36, h38, _⟩ K hK
            replace h36 : f 36 = _ := h36
            replace h38 : f 38 = _ := h38
            have l1 := (itoa_len (n := u) (by omega) (by omega)).2
            have l2 := let_len k 3
            have l3 := HSL.out
            simp only [over, overL, Nat.reduceAdd, h36, h38]
            go_simp
            rw [if_neg (by simp <;> omega)]
            exact hK _ _ ⟨_, sA_cat rfl, by simp only [over, overL, Nat.reduceAdd, h36, h38]; rfl, Below.refl _ _⟩
          · intro f w1 hb ⟨h31, h39, _⟩ K hK
            replace h31 : f 31 = _ := h31
            replace h39 : f 39 = _ := h39
            have l1 := (itoa_len (n := u) (by omega) (by omega)).2
            have l2 := let_len k 3
            have l3 := HSL.out
            simp only [over, overL, Nat.reduceAdd, h31, h39]
            go_simp
            rw [if_neg (by simp <;> omega)]
            exact hK _ _ ⟨_, sA_cat rfl, by simp only [over, overL, Nat.reduceAdd, h31, h39]; rfl, Below.refl _ _⟩
        intro f w4 hb hv
        have h40 : f 40 = sA (S ++ ((32 :: letW k 3) ++ Lib.itoa u)) := hv.2.2.2.2.2.2.2.2.2.1
        simp only [over_eq, overL, h40, Nat.reduceAdd, List.drop_succ_cons, List.drop_zero]
        have HG4 : Hid (Below w.heap.size w w4 ∧ Bk B (cW k) w4 ∧ Tabs w4) := (show Hid _ from ⟨HBr.out.trans (hb.mono HBr.out.size), HC.out.later hb, HT.out.later hb⟩)
        clear hv h40 hb
        go_wp2
        go_roundw
        case rel => exact ⟨4, by omega, by go_num, by rw [HE.out], HG4⟩
        case measure => simp [intOf]
    · subst e
      have HL : Hid ((upL n k (nm x y z u) 4).length ≤ 80) := body_len (k := k) hF
      have HE : Hid (lineL n k x y z u = upL n k (nm x y z u) 4 ++ [42] ++ Lib.itoa (sumL (upL n k (nm x y z u) 4))) := rfl
      generalize upL n k (nm x y z u) 4 = S at *
      have HSum : Hid (∀ W, Calls Tryd.prog 24 #[sA S] W fun e w' => e = .returned (.int .i64 (sumL S)) ∧ w' = W) := fun W => sumOf_any ⟨S.toArray⟩ W (by have := HL.out; simp [ByteArray.size]; omega)
      have HIt : Hid (∀ W, Tabs W → Calls Tryd.prog 38 #[.int .i64 (sumL S)] W fun e w' => e = .returned (sA (Lib.itoa (sumL S))) ∧ Below W.heap.size W w') := fun W h => itoaB _ (by have := sum_in S; omega) (by have := sum_in S; omega) W h
      have HTl : Hid ((Lib.itoa (sumL S)).length ≤ 11) := (itoa_len (by have := sum_in S; omega) (by have := sum_in S; omega)).2
      generalize sumL S = t at *
      have hSl := HL.out
      have hTl := HTl.out
      go_wp2_with fail
      refine (HSum.out _).mono ?_
      rintro e w5 ⟨rfl, rfl⟩
      go_wp2_with fail
      refine (HIt.out _ HT.out).mono ?_
      rintro e w6 ⟨rfl, hb⟩
      go_wp2
      go_ret
      refine ⟨?_, HBr.out.trans (hb.mono HBr.out.size)⟩
      rw [HE.out]
      exact congrArg Ending.returned (show Value.string ((⟨S.toArray⟩ : ByteArray) ++ ⟨[42].toArray⟩ ++ ⟨(Lib.itoa t).toArray⟩) = _ by rw [cat_arr, cat_arr])

/-- A line, or none. -/
def prL (n k x y z u : Int) : List UInt8 := if refuC n k x y z u = 0 then lineL n k.toNat x y z u else []
set_option maxHeartbeats 6400000 in
set_option maxRecDepth 100000 in
theorem print_any (n k x y z u : Int) (w : World) (hT : Tabs w) : Calls Tryd.prog 8 #[.int .i64 n, cm k x y z u] w fun e w' => e = .returned (.tuple #[sA (prL n k x y z u), .int .i64 (refuC n k x y z u)]) ∧ Below w.heap.size w w' := by
  have HB0 : Hid (Below w.heap.size w (w.alloc (o5 k x y z u))) := (Below.refl _ _).alloc (Nat.le_refl _) _
  have HT0 : Hid (Tabs (w.alloc (o5 k x y z u))) := hT.later HB0.out
  have HC0 : Hid (Bk w.heap.size (c5 k x y z u) (w.alloc (o5 k x y z u))) := Bk.new w (c5 k x y z u) 23 _ rfl
  have HR : Hid (∀ W, Tabs W → Calls Tryd.prog 19 #[.int .i64 n, cm k x y z u] W fun e w' => e = .returned (.int .i64 (refuC n k x y z u)) ∧ Below W.heap.size W w') := fun W h => refusal_any n k x y z u W h.words
  by_cases hr : refuC n k x y z u = 0
  · have HL : Hid (∀ W, Tabs W → Calls Tryd.prog 20 #[.int .i64 n, cm k x y z u] W fun e w' => e = .returned (sA (prL n k x y z u)) ∧ Below W.heap.size W w') := fun W h => by
      obtain ⟨hF, k1, k8⟩ := refu_fit hr
      have h2 := lineOf_any n k.toNat x y z u W (by omega) (by omega) hF h
      rw [show ((k.toNat : Nat) : Int) = k by omega] at h2
      unfold prL
      rw [if_pos hr]
      exact h2
    rw [hr] at HR
    rw [hr]
    generalize prL n k x y z u = L at *
    clear hr hT
    go_enter Tryd.func8, Tryd.ntmps8
    go_wp2_with fail
    refine (HR.out _ HT0.out).mono ?_
    rintro e w1 ⟨rfl, hb⟩
    have HT1 : Hid (Tabs w1) := HT0.out.later hb
    have HC1 : Hid (Bk w.heap.size (c5 k x y z u) w1) := HC0.out.later hb
    have HB1 : Hid (Below w.heap.size w w1) := HB0.out.trans (hb.mono HB0.out.size)
    have c0 := HC1.out.c 0 rfl
    have c1 := HC1.out.c 1 rfl
    have c2 := HC1.out.c 2 rfl
    have c3 := HC1.out.c 3 rfl
    have c4 := HC1.out.c 4 rfl
    clear hb
    go_wp2_with fail
    refine (HL.out _ HT1.out).mono ?_
    rintro e w2 ⟨rfl, hb⟩
    go_wp2
    go_ret2
    exact ⟨rfl, HB1.out.trans (hb.mono HB1.out.size)⟩
  · have e : prL n k x y z u = [] := by unfold prL; rw [if_neg hr]
    rw [e]
    have q1 : (refuC n k x y z u == 0) = false := by simp [hr]
    have q2 : (refuC n k x y z u != 0) = true := by simp [hr]
    generalize refuC n k x y z u = r at *
    clear hr hT e
    go_enter Tryd.func8, Tryd.ntmps8
    go_wp2_with fail
    refine (HR.out _ HT0.out).mono ?_
    rintro e w1 ⟨rfl, hb⟩
    have HB1 : Hid (Below w.heap.size w w1) := HB0.out.trans (hb.mono HB0.out.size)
    clear hb
    go_wp2
    go_ret2
    exact ⟨rfl, HB1.out⟩
end Go.Proofs.YtiafppmpjmpdmaaDoor
