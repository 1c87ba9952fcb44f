/- Pulses: which may be, their steps. -/
import Derived.Test.YtanmfhaiahhoeaaQG
namespace Go.Proofs.Ytanmfhaiahhoeaa
open Go.RowKit

/-- A pulse that may be. -/
def isP (p : Int) : Bool := decide (0 ≤ p) && (decide (p ≤ 63) && (bits BinOp.andNot IntKind.i64 (p / 8) p == 0))
set_option maxHeartbeats 6400000 in
set_option maxRecDepth 100000 in
theorem isPulse_any (p : Int) (w : World) : Calls Try.prog 41 #[.int .i64 p] w fun e w' => e = .returned (.bool (isP p)) ∧ w' = w := by
  go_enter Try.func41, Try.ntmps41
  go_wp2
  · rename_i h1 h2
    go_ret
    exact ⟨ret_bool (by unfold isP; rw [decide_eq_true h1, decide_eq_true h2]; rfl), rfl⟩
  · rename_i h1 h2
    go_ret
    exact ⟨ret_bool (by unfold isP; rw [decide_eq_true h1, decide_eq_false (Int.not_le.2 h2)]; rfl), rfl⟩
  · rename_i h1
    go_ret
    exact ⟨ret_bool (by unfold isP; rw [decide_eq_false (Int.not_le.2 h1)]; rfl), rfl⟩
/-- The steps of a pulse. -/
def dg (p : Int) (i : Nat) : Int := bits BinOp.and IntKind.i64 (p / 2 ^ i) 1 - 2 * bits BinOp.and IntKind.i64 (p / 2 ^ (i + 3)) 1
set_option linter.unusedVariables false in
def so0V (p : Int) (B : Nat) (d : Nat) (v : Value) (_ : World) : Prop :=
  match d with
  | 8 => v = .int .i64 0
  | 9 => v = .int .i64 p
  | 10 => v = .int .i64 0
  | 11 => v = .int .i64 (p)
  | 12 => v = .int .i64 (bits BinOp.and IntKind.i64 (p) 1)
  | 13 => v = .int .i64 p
  | 14 => v = .int .i64 0
  | 15 => v = .int .i64 3
  | 16 => v = .int .i64 (p / 8)
  | 17 => v = .int .i64 (bits BinOp.and IntKind.i64 (p / 8) 1)
  | 18 => v = .int .i64 (2 * bits BinOp.and IntKind.i64 (p / 8) 1)
  | 19 => v = .int .i64 (dg p 0)
  | 20 => v = .pointer (some ⟨B, 0, none⟩)
  | _ => True
set_option linter.unusedVariables false in
theorem so0V_mono (p : Int) (B : Nat) (d : Nat) (v : Value) (w w' : World) (h : so0V p B d v w) (_ : Below w.heap.size w w') : so0V p B d v w' := h
set_option linter.unusedVariables false in
def so1V (p : Int) (B : Nat) (d : Nat) (v : Value) (_ : World) : Prop :=
  match d with
  | 8 => v = .int .i64 1
  | 9 => v = .int .i64 p
  | 10 => v = .int .i64 1
  | 11 => v = .int .i64 (p / 2)
  | 12 => v = .int .i64 (bits BinOp.and IntKind.i64 (p / 2) 1)
  | 13 => v = .int .i64 p
  | 14 => v = .int .i64 1
  | 15 => v = .int .i64 4
  | 16 => v = .int .i64 (p / 16)
  | 17 => v = .int .i64 (bits BinOp.and IntKind.i64 (p / 16) 1)
  | 18 => v = .int .i64 (2 * bits BinOp.and IntKind.i64 (p / 16) 1)
  | 19 => v = .int .i64 (dg p 1)
  | 20 => v = .pointer (some ⟨B, 1, none⟩)
  | _ => True
set_option linter.unusedVariables false in
theorem so1V_mono (p : Int) (B : Nat) (d : Nat) (v : Value) (w w' : World) (h : so1V p B d v w) (_ : Below w.heap.size w w') : so1V p B d v w' := h
set_option linter.unusedVariables false in
def so2V (p : Int) (B : Nat) (d : Nat) (v : Value) (_ : World) : Prop :=
  match d with
  | 8 => v = .int .i64 2
  | 9 => v = .int .i64 p
  | 10 => v = .int .i64 2
  | 11 => v = .int .i64 (p / 4)
  | 12 => v = .int .i64 (bits BinOp.and IntKind.i64 (p / 4) 1)
  | 13 => v = .int .i64 p
  | 14 => v = .int .i64 2
  | 15 => v = .int .i64 5
  | 16 => v = .int .i64 (p / 32)
  | 17 => v = .int .i64 (bits BinOp.and IntKind.i64 (p / 32) 1)
  | 18 => v = .int .i64 (2 * bits BinOp.and IntKind.i64 (p / 32) 1)
  | 19 => v = .int .i64 (dg p 2)
  | 20 => v = .pointer (some ⟨B, 2, none⟩)
  | _ => True
set_option linter.unusedVariables false in
theorem so2V_mono (p : Int) (B : Nat) (d : Nat) (v : Value) (w w' : World) (h : so2V p B d v w) (_ : Below w.heap.size w w') : so2V p B d v w' := h
theorem bit_01 (x : Int) : bits BinOp.and IntKind.i64 x 1 = 0 ∨ bits BinOp.and IntKind.i64 x 1 = 1 := by
  have h : bits BinOp.and IntKind.i64 x 1 = IntKind.i64.wrap ((BitVec.ofInt 64 x &&& BitVec.ofInt 64 1).toNat : Nat) := rfl
  have h2 : (BitVec.ofInt 64 x &&& BitVec.ofInt 64 1).toNat = (BitVec.ofInt 64 x).toNat % 2 := by
    rw [BitVec.toNat_and, show (BitVec.ofInt 64 1).toNat = 1 by decide, Nat.and_one_is_mod]
  rw [h, h2]
  rcases Nat.mod_two_eq_zero_or_one (BitVec.ofInt 64 x).toNat with e | e <;> rw [e]
  · exact .inl (by kernel_rfl)
  · exact .inr (by kernel_rfl)
set_option maxHeartbeats 6400000 in
set_option maxRecDepth 100000 in
theorem stepsOf_any (p : Int) (w : World) : Calls Try.prog 42 #[.int .i64 p] w fun e w' => e = .returned (v3 (dg p 0) (dg p 1) (dg p 2)) ∧ Below w.heap.size w w' := by
  have W180 : Hid (Value.int .i64 (IntKind.i64.wrap (2 * bits BinOp.and IntKind.i64 (p / 8) 1)) = .int .i64 (2 * bits BinOp.and IntKind.i64 (p / 8) 1)) := by show _ = _; rcases bit_01 (p / 8) with e | e <;> rw [e] <;> kernel_rfl
  have W190 : Hid (Value.int .i64 (IntKind.i64.wrap (bits BinOp.and IntKind.i64 (p) 1 - 2 * bits BinOp.and IntKind.i64 (p / 8) 1)) = .int .i64 (dg p 0)) := by
    show _ = _
    rw [show dg p 0 = bits BinOp.and IntKind.i64 (p) 1 - 2 * bits BinOp.and IntKind.i64 (p / 8) 1 by simp [dg]]
    rcases bit_01 (p) with e | e <;> rcases bit_01 (p / 8) with e2 | e2 <;> rw [e, e2] <;> kernel_rfl
  have W181 : Hid (Value.int .i64 (IntKind.i64.wrap (2 * bits BinOp.and IntKind.i64 (p / 16) 1)) = .int .i64 (2 * bits BinOp.and IntKind.i64 (p / 16) 1)) := by show _ = _; rcases bit_01 (p / 16) with e | e <;> rw [e] <;> kernel_rfl
  have W191 : Hid (Value.int .i64 (IntKind.i64.wrap (bits BinOp.and IntKind.i64 (p / 2) 1 - 2 * bits BinOp.and IntKind.i64 (p / 16) 1)) = .int .i64 (dg p 1)) := by
    show _ = _
    rw [show dg p 1 = bits BinOp.and IntKind.i64 (p / 2) 1 - 2 * bits BinOp.and IntKind.i64 (p / 16) 1 by simp [dg]]
    rcases bit_01 (p / 2) with e | e <;> rcases bit_01 (p / 16) with e2 | e2 <;> rw [e, e2] <;> kernel_rfl
  have W182 : Hid (Value.int .i64 (IntKind.i64.wrap (2 * bits BinOp.and IntKind.i64 (p / 32) 1)) = .int .i64 (2 * bits BinOp.and IntKind.i64 (p / 32) 1)) := by show _ = _; rcases bit_01 (p / 32) with e | e <;> rw [e] <;> kernel_rfl
  have W192 : Hid (Value.int .i64 (IntKind.i64.wrap (bits BinOp.and IntKind.i64 (p / 4) 1 - 2 * bits BinOp.and IntKind.i64 (p / 32) 1)) = .int .i64 (dg p 2)) := by
    show _ = _
    rw [show dg p 2 = bits BinOp.and IntKind.i64 (p / 4) 1 - 2 * bits BinOp.and IntKind.i64 (p / 32) 1 by simp [dg]]
    rcases bit_01 (p / 4) with e | e <;> rcases bit_01 (p / 32) with e2 | e2 <;> rw [e, e2] <;> kernel_rfl
  have HR0 : Hid (Bk w.heap.size [.int .i64 0, .int .i64 0, .int .i64 0] ((w.alloc (o3 0 0 0 49)).alloc (o3 0 0 0 49))) := (Bk.new w [.int .i64 0, .int .i64 0, .int .i64 0] 49 _ rfl).later ((Below.refl _ _).alloc (Nat.le_refl _) _)
  have HS0 : Hid (Bk (w.heap.size + 1) [.int .i64 0, .int .i64 0, .int .i64 0] ((w.alloc (o3 0 0 0 49)).alloc (o3 0 0 0 49))) := Bk.new (w.alloc (o3 0 0 0 49)) [.int .i64 0, .int .i64 0, .int .i64 0] 49 _ (by simp)
  have HB0 : Hid (Below w.heap.size w ((w.alloc (o3 0 0 0 49)).alloc (o3 0 0 0 49))) := two_new _ _ _
  go_enter Try.func42, Try.ntmps42
  go_wp2_with fail
  generalize hW : (w.alloc (o3 0 0 0 49)).alloc (o3 0 0 0 49) = w0 at *
  clear hW
  obtain ⟨A, hA⟩ : ∃ A, A = w.heap.size := ⟨_, rfl⟩
  obtain ⟨B, hB⟩ : ∃ B, B = w.heap.size + 1 := ⟨_, rfl⟩
  rw [← hB] at HS0
  simp only [← hB]
  simp only [← hA]
  have HR : Hid (Bk A [.int .i64 0, .int .i64 0, .int .i64 0] w0) := by show Bk _ _ _; rw [hA]; exact HR0.out
  have hAB : A ≠ B := by omega
  have hwA : w.heap.size ≤ A := by omega
  have hwB : w.heap.size ≤ B := by omega
  clear hA hB HR0
  refine wp_loop_rounds 4 ?_
  rw [rounds_succ]
  go_wp2_with fail
  refine region_seq 13 [false, false, false, false, false, false, false, false, true, true, true, true, true, true, true, true, true, true, true, true, true, false, false]
    [(8, [], none), (9, [], none), (10, [], none), (11, [9, 10], none), (12, [11], none), (13, [], none), (14, [], none), (15, [14], none), (16, [13, 15], none), (17, [16], none), (18, [17], none), (19, [12, 18], none), (20, [8], none)]
    (so0V p B) (by kernel_rfl) (by kernel_rfl) (by kernel_rfl) (by kernel_rfl) (by kernel_rfl) (by decide) (so0V_mono p B) ?_ ?_
  · refine ⟨?_, ?_, ?_, ?_, ?_, ?_, ?_, ?_, ?_, ?_, ?_, ?_, ?_, trivial⟩
    · intro f w1 hb _ K hK
      simp only [over, overL, Nat.reduceAdd]
      go_simp
      exact hK _ _ ⟨_, rfl, by simp only [over, overL, Nat.reduceAdd]; rfl, Below.refl _ _⟩
    · intro f w1 hb _ K hK
      simp only [over, overL, Nat.reduceAdd]
      go_simp
      exact hK _ _ ⟨_, rfl, by simp only [over, overL, Nat.reduceAdd]; rfl, Below.refl _ _⟩
    · intro f w1 hb _ K hK
      simp only [over, overL, Nat.reduceAdd]
      go_simp
      exact hK _ _ ⟨_, rfl, by simp only [over, overL, Nat.reduceAdd]; rfl, Below.refl _ _⟩
    · intro f w1 hb ⟨h9, h10, _⟩ K hK
      replace h9 : f 9 = _ := h9
      replace h10 : f 10 = _ := h10
      simp only [over, overL, Nat.reduceAdd, h9, h10]
      go_simp
      exact hK _ _ ⟨_, rfl, by simp only [over, overL, Nat.reduceAdd, h9, h10]; rfl, Below.refl _ _⟩
    · intro f w1 hb ⟨h11, _⟩ K hK
      replace h11 : f 11 = _ := h11
      simp only [over, overL, Nat.reduceAdd, h11]
      go_simp
      exact hK _ _ ⟨_, rfl, by simp only [over, overL, Nat.reduceAdd, h11]; rfl, Below.refl _ _⟩
    · intro f w1 hb _ K hK
      simp only [over, overL, Nat.reduceAdd]
      go_simp
      exact hK _ _ ⟨_, rfl, by simp only [over, overL, Nat.reduceAdd]; rfl, Below.refl _ _⟩
    · intro f w1 hb _ K hK
      simp only [over, overL, Nat.reduceAdd]
      go_simp
      exact hK _ _ ⟨_, rfl, by simp only [over, overL, Nat.reduceAdd]; rfl, Below.refl _ _⟩
    · intro f w1 hb ⟨h14, _⟩ K hK
      replace h14 : f 14 = _ := h14
      simp only [over, overL, Nat.reduceAdd, h14]
      go_simp
      exact hK _ _ ⟨_, rfl, by simp only [over, overL, Nat.reduceAdd, h14]; rfl, Below.refl _ _⟩
    · intro f w1 hb ⟨h13, h15, _⟩ K hK
      replace h13 : f 13 = _ := h13
      replace h15 : f 15 = _ := h15
      simp only [over, overL, Nat.reduceAdd, h13, h15]
      go_simp
      exact hK _ _ ⟨_, rfl, by simp only [over, overL, Nat.reduceAdd, h13, h15]; rfl, Below.refl _ _⟩
    · intro f w1 hb ⟨h16, _⟩ K hK
      replace h16 : f 16 = _ := h16
      simp only [over, overL, Nat.reduceAdd, h16]
      go_simp
      exact hK _ _ ⟨_, rfl, by simp only [over, overL, Nat.reduceAdd, h16]; rfl, Below.refl _ _⟩
    · intro f w1 hb ⟨h17, _⟩ K hK
      replace h17 : f 17 = _ := h17
      simp only [over, overL, Nat.reduceAdd, h17]
      go_simp
      exact hK _ _ ⟨_, W180.out, by simp only [over, overL, Nat.reduceAdd, h17]; rfl, Below.refl _ _⟩
    · intro f w1 hb ⟨h12, h18, _⟩ K hK
      replace h12 : f 12 = _ := h12
      replace h18 : f 18 = _ := h18
      simp only [over, overL, Nat.reduceAdd, h12, h18]
      go_simp
      exact hK _ _ ⟨_, W190.out, by simp only [over, overL, Nat.reduceAdd, h12, h18]; rfl, Below.refl _ _⟩
    · intro f w1 hb ⟨h8, _⟩ K hK
      replace h8 : f 8 = _ := h8
      simp only [over, overL, Nat.reduceAdd, h8]
      go_simp
      exact hK _ _ ⟨_, rfl, by simp only [over, overL, Nat.reduceAdd, h8]; rfl, Below.refl _ _⟩
  intro f w1 hb hv
  have h19 : f 19 = .int .i64 (dg p 0) := hv.2.2.2.2.2.2.2.2.2.2.2.1
  have h20 : f 20 = .pointer (some ⟨B, 0, none⟩) := hv.2.2.2.2.2.2.2.2.2.2.2.2.1
  have HSw1 : Hid (Bk B [.int .i64 0, .int .i64 0, .int .i64 0] w1) := HS0.out.later hb
  have HRw1 : Hid (Bk A [.int .i64 0, .int .i64 0, .int .i64 0] w1) := HR.out.later hb
  have HBw1 : Hid (Below w.heap.size w w1) := HB0.out.trans (hb.mono HB0.out.size)
  have c0 := HSw1.out.c 0 rfl
  have f0 := HSw1.out.f 0 rfl
  simp only [over_eq, overL, h19, h20, Nat.reduceAdd, List.drop_succ_cons, List.drop_zero]
  clear hv h19 h20 hb
  go_wp2_with fail
  clear c0 f0
  obtain ⟨w2, hw⟩ : ∃ ww : World, ww = w1.setCell ⟨B, 0, none⟩ (.int .i64 (dg p 0)) := ⟨_, rfl⟩
  rw [← hw]
  have HSw2 : Hid (Bk B [.int .i64 (dg p 0), .int .i64 0, .int .i64 0] w2) := by show Bk _ _ _; rw [hw]; exact HSw1.out.put 0 _
  have HRw2 : Hid (Bk A [.int .i64 0, .int .i64 0, .int .i64 0] w2) := by show Bk _ _ _; rw [hw]; exact HRw1.out.other hAB 0 _
  have HBw2 : Hid (Below w.heap.size w w2) := by show Below _ _ _; rw [hw]; exact HBw1.out.setCell hwB _
  clear hw
  rw [rounds_succ]
  go_wp2_with fail
  refine region_seq 13 [false, false, false, false, false, false, false, false, true, true, true, true, true, true, true, true, true, true, true, true, true, false, false]
    [(8, [], none), (9, [], none), (10, [], none), (11, [9, 10], none), (12, [11], none), (13, [], none), (14, [], none), (15, [14], none), (16, [13, 15], none), (17, [16], none), (18, [17], none), (19, [12, 18], none), (20, [8], none)]
    (so1V p B) (by kernel_rfl) (by kernel_rfl) (by kernel_rfl) (by kernel_rfl) (by kernel_rfl) (by decide) (so1V_mono p B) ?_ ?_
  · refine ⟨?_, ?_, ?_, ?_, ?_, ?_, ?_, ?_, ?_, ?_, ?_, ?_, ?_, trivial⟩
    · intro f w1 hb _ K hK
      simp only [over, overL, Nat.reduceAdd]
      go_simp
      exact hK _ _ ⟨_, rfl, by simp only [over, overL, Nat.reduceAdd]; rfl, Below.refl _ _⟩
    · intro f w1 hb _ K hK
      simp only [over, overL, Nat.reduceAdd]
      go_simp
      exact hK _ _ ⟨_, rfl, by simp only [over, overL, Nat.reduceAdd]; rfl, Below.refl _ _⟩
    · intro f w1 hb _ K hK
      simp only [over, overL, Nat.reduceAdd]
      go_simp
      exact hK _ _ ⟨_, rfl, by simp only [over, overL, Nat.reduceAdd]; rfl, Below.refl _ _⟩
    · intro f w1 hb ⟨h9, h10, _⟩ K hK
      replace h9 : f 9 = _ := h9
      replace h10 : f 10 = _ := h10
      simp only [over, overL, Nat.reduceAdd, h9, h10]
      go_simp
      exact hK _ _ ⟨_, rfl, by simp only [over, overL, Nat.reduceAdd, h9, h10]; rfl, Below.refl _ _⟩
    · intro f w1 hb ⟨h11, _⟩ K hK
      replace h11 : f 11 = _ := h11
      simp only [over, overL, Nat.reduceAdd, h11]
      go_simp
      exact hK _ _ ⟨_, rfl, by simp only [over, overL, Nat.reduceAdd, h11]; rfl, Below.refl _ _⟩
    · intro f w1 hb _ K hK
      simp only [over, overL, Nat.reduceAdd]
      go_simp
      exact hK _ _ ⟨_, rfl, by simp only [over, overL, Nat.reduceAdd]; rfl, Below.refl _ _⟩
    · intro f w1 hb _ K hK
      simp only [over, overL, Nat.reduceAdd]
      go_simp
      exact hK _ _ ⟨_, rfl, by simp only [over, overL, Nat.reduceAdd]; rfl, Below.refl _ _⟩
    · intro f w1 hb ⟨h14, _⟩ K hK
      replace h14 : f 14 = _ := h14
      simp only [over, overL, Nat.reduceAdd, h14]
      go_simp
      exact hK _ _ ⟨_, rfl, by simp only [over, overL, Nat.reduceAdd, h14]; rfl, Below.refl _ _⟩
    · intro f w1 hb ⟨h13, h15, _⟩ K hK
      replace h13 : f 13 = _ := h13
      replace h15 : f 15 = _ := h15
      simp only [over, overL, Nat.reduceAdd, h13, h15]
      go_simp
      exact hK _ _ ⟨_, rfl, by simp only [over, overL, Nat.reduceAdd, h13, h15]; rfl, Below.refl _ _⟩
    · intro f w1 hb ⟨h16, _⟩ K hK
      replace h16 : f 16 = _ := h16
      simp only [over, overL, Nat.reduceAdd, h16]
      go_simp
      exact hK _ _ ⟨_, rfl, by simp only [over, overL, Nat.reduceAdd, h16]; rfl, Below.refl _ _⟩
    · intro f w1 hb ⟨h17, _⟩ K hK
      replace h17 : f 17 = _ := h17
      simp only [over, overL, Nat.reduceAdd, h17]
      go_simp
      exact hK _ _ ⟨_, W181.out, by simp only [over, overL, Nat.reduceAdd, h17]; rfl, Below.refl _ _⟩
    · intro f w1 hb ⟨h12, h18, _⟩ K hK
      replace h12 : f 12 = _ := h12
      replace h18 : f 18 = _ := h18
      simp only [over, overL, Nat.reduceAdd, h12, h18]
      go_simp
      exact hK _ _ ⟨_, W191.out, by simp only [over, overL, Nat.reduceAdd, h12, h18]; rfl, Below.refl _ _⟩
    · intro f w1 hb ⟨h8, _⟩ K hK
      replace h8 : f 8 = _ := h8
      simp only [over, overL, Nat.reduceAdd, h8]
      go_simp
      exact hK _ _ ⟨_, rfl, by simp only [over, overL, Nat.reduceAdd, h8]; rfl, Below.refl _ _⟩
  intro f w3 hb hv
  have h19 : f 19 = .int .i64 (dg p 1) := hv.2.2.2.2.2.2.2.2.2.2.2.1
  have h20 : f 20 = .pointer (some ⟨B, 1, none⟩) := hv.2.2.2.2.2.2.2.2.2.2.2.2.1
  have HSw3 : Hid (Bk B [.int .i64 (dg p 0), .int .i64 0, .int .i64 0] w3) := HSw2.out.later hb
  have HRw3 : Hid (Bk A [.int .i64 0, .int .i64 0, .int .i64 0] w3) := HRw2.out.later hb
  have HBw3 : Hid (Below w.heap.size w w3) := HBw2.out.trans (hb.mono HBw2.out.size)
  have c0 := HSw3.out.c 1 rfl
  have f0 := HSw3.out.f 1 rfl
  simp only [over_eq, overL, h19, h20, Nat.reduceAdd, List.drop_succ_cons, List.drop_zero]
  clear hv h19 h20 hb
  go_wp2_with fail
  clear c0 f0
  obtain ⟨w4, hw⟩ : ∃ ww : World, ww = w3.setCell ⟨B, 1, none⟩ (.int .i64 (dg p 1)) := ⟨_, rfl⟩
  rw [← hw]
  have HSw4 : Hid (Bk B [.int .i64 (dg p 0), .int .i64 (dg p 1), .int .i64 0] w4) := by show Bk _ _ _; rw [hw]; exact HSw3.out.put 1 _
  have HRw4 : Hid (Bk A [.int .i64 0, .int .i64 0, .int .i64 0] w4) := by show Bk _ _ _; rw [hw]; exact HRw3.out.other hAB 1 _
  have HBw4 : Hid (Below w.heap.size w w4) := by show Below _ _ _; rw [hw]; exact HBw3.out.setCell hwB _
  clear hw
  rw [rounds_succ]
  go_wp2_with fail
  refine region_seq 13 [false, false, false, false, false, false, false, false, true, true, true, true, true, true, true, true, true, true, true, true, true, false, false]
    [(8, [], none), (9, [], none), (10, [], none), (11, [9, 10], none), (12, [11], none), (13, [], none), (14, [], none), (15, [14], none), (16, [13, 15], none), (17, [16], none), (18, [17], none), (19, [12, 18], none), (20, [8], none)]
    (so2V p B) (by kernel_rfl) (by kernel_rfl) (by kernel_rfl) (by kernel_rfl) (by kernel_rfl) (by decide) (so2V_mono p B) ?_ ?_
  · refine ⟨?_, ?_, ?_, ?_, ?_, ?_, ?_, ?_, ?_, ?_, ?_, ?_, ?_, trivial⟩
    · intro f w1 hb _ K hK
      simp only [over, overL, Nat.reduceAdd]
      go_simp
      exact hK _ _ ⟨_, rfl, by simp only [over, overL, Nat.reduceAdd]; rfl, Below.refl _ _⟩
    · intro f w1 hb _ K hK
      simp only [over, overL, Nat.reduceAdd]
      go_simp
      exact hK _ _ ⟨_, rfl, by simp only [over, overL, Nat.reduceAdd]; rfl, Below.refl _ _⟩
    · intro f w1 hb _ K hK
      simp only [over, overL, Nat.reduceAdd]
      go_simp
      exact hK _ _ ⟨_, rfl, by simp only [over, overL, Nat.reduceAdd]; rfl, Below.refl _ _⟩
    · intro f w1 hb ⟨h9, h10, _⟩ K hK
      replace h9 : f 9 = _ := h9
      replace h10 : f 10 = _ := h10
      simp only [over, overL, Nat.reduceAdd, h9, h10]
      go_simp
      exact hK _ _ ⟨_, rfl, by simp only [over, overL, Nat.reduceAdd, h9, h10]; rfl, Below.refl _ _⟩
    · intro f w1 hb ⟨h11, _⟩ K hK
      replace h11 : f 11 = _ := h11
      simp only [over, overL, Nat.reduceAdd, h11]
      go_simp
      exact hK _ _ ⟨_, rfl, by simp only [over, overL, Nat.reduceAdd, h11]; rfl, Below.refl _ _⟩
    · intro f w1 hb _ K hK
      simp only [over, overL, Nat.reduceAdd]
      go_simp
      exact hK _ _ ⟨_, rfl, by simp only [over, overL, Nat.reduceAdd]; rfl, Below.refl _ _⟩
    · intro f w1 hb _ K hK
      simp only [over, overL, Nat.reduceAdd]
      go_simp
      exact hK _ _ ⟨_, rfl, by simp only [over, overL, Nat.reduceAdd]; rfl, Below.refl _ _⟩
    · intro f w1 hb ⟨h14, _⟩ K hK
      replace h14 : f 14 = _ := h14
      simp only [over, overL, Nat.reduceAdd, h14]
      go_simp
      exact hK _ _ ⟨_, rfl, by simp only [over, overL, Nat.reduceAdd, h14]; rfl, Below.refl _ _⟩
    · intro f w1 hb ⟨h13, h15, _⟩ K hK
      replace h13 : f 13 = _ := h13
      replace h15 : f 15 = _ := h15
      simp only [over, overL, Nat.reduceAdd, h13, h15]
      go_simp
      exact hK _ _ ⟨_, rfl, by simp only [over, overL, Nat.reduceAdd, h13, h15]; rfl, Below.refl _ _⟩
    · intro f w1 hb ⟨h16, _⟩ K hK
      replace h16 : f 16 = _ := h16
      simp only [over, overL, Nat.reduceAdd, h16]
      go_simp
      exact hK _ _ ⟨_, rfl, by simp only [over, overL, Nat.reduceAdd, h16]; rfl, Below.refl _ _⟩
    · intro f w1 hb ⟨h17, _⟩ K hK
      replace h17 : f 17 = _ := h17
      simp only [over, overL, Nat.reduceAdd, h17]
      go_simp
      exact hK _ _ ⟨_, W182.out, by simp only [over, overL, Nat.reduceAdd, h17]; rfl, Below.refl _ _⟩
    · intro f w1 hb ⟨h12, h18, _⟩ K hK
      replace h12 : f 12 = _ := h12
      replace h18 : f 18 = _ := h18
      simp only [over, overL, Nat.reduceAdd, h12, h18]
      go_simp
      exact hK _ _ ⟨_, W192.out, by simp only [over, overL, Nat.reduceAdd, h12, h18]; rfl, Below.refl _ _⟩
    · intro f w1 hb ⟨h8, _⟩ K hK
      replace h8 : f 8 = _ := h8
      simp only [over, overL, Nat.reduceAdd, h8]
      go_simp
      exact hK _ _ ⟨_, rfl, by simp only [over, overL, Nat.reduceAdd, h8]; rfl, Below.refl _ _⟩
  intro f w5 hb hv
  have h19 : f 19 = .int .i64 (dg p 2) := hv.2.2.2.2.2.2.2.2.2.2.2.1
  have h20 : f 20 = .pointer (some ⟨B, 2, none⟩) := hv.2.2.2.2.2.2.2.2.2.2.2.2.1
  have HSw5 : Hid (Bk B [.int .i64 (dg p 0), .int .i64 (dg p 1), .int .i64 0] w5) := HSw4.out.later hb
  have HRw5 : Hid (Bk A [.int .i64 0, .int .i64 0, .int .i64 0] w5) := HRw4.out.later hb
  have HBw5 : Hid (Below w.heap.size w w5) := HBw4.out.trans (hb.mono HBw4.out.size)
  have c0 := HSw5.out.c 2 rfl
  have f0 := HSw5.out.f 2 rfl
  simp only [over_eq, overL, h19, h20, Nat.reduceAdd, List.drop_succ_cons, List.drop_zero]
  clear hv h19 h20 hb
  go_wp2_with fail
  clear c0 f0
  obtain ⟨w6, hw⟩ : ∃ ww : World, ww = w5.setCell ⟨B, 2, none⟩ (.int .i64 (dg p 2)) := ⟨_, rfl⟩
  rw [← hw]
  have HSw6 : Hid (Bk B [.int .i64 (dg p 0), .int .i64 (dg p 1), .int .i64 (dg p 2)] w6) := by show Bk _ _ _; rw [hw]; exact HSw5.out.put 2 _
  have HRw6 : Hid (Bk A [.int .i64 0, .int .i64 0, .int .i64 0] w6) := by show Bk _ _ _; rw [hw]; exact HRw5.out.other hAB 2 _
  have HBw6 : Hid (Below w.heap.size w w6) := by show Below _ _ _; rw [hw]; exact HBw5.out.setCell hwB _
  clear hw
  rw [rounds_succ]
  have c0 := HSw6.out.c 0 rfl
  have a0 := HRw6.out.c 0 rfl
  have g0 := HRw6.out.f 0 rfl
  have c1 := HSw6.out.c 1 rfl
  have a1 := HRw6.out.c 1 rfl
  have g1 := HRw6.out.f 1 rfl
  have c2 := HSw6.out.c 2 rfl
  have a2 := HRw6.out.c 2 rfl
  have g2 := HRw6.out.f 2 rfl
  go_wp2
  have HF := ((HRw6.out.put 0 (.int .i64 (dg p 0))).put 1 (.int .i64 (dg p 1))).put 2 (.int .i64 (dg p 2))
  have HFB : Below w.heap.size w (((w6.setCell ⟨A, 0, none⟩ (.int .i64 (dg p 0))).setCell ⟨A, 1, none⟩ (.int .i64 (dg p 1))).setCell ⟨A, 2, none⟩ (.int .i64 (dg p 2))) := ((HBw6.out.setCell hwA _).setCell hwA _).setCell hwA _
  clear c0 c1 c2 a0 a1 a2 g0 g1 g2
  generalize ((w6.setCell ⟨A, 0, none⟩ (.int .i64 (dg p 0))).setCell ⟨A, 1, none⟩ (.int .i64 (dg p 1))).setCell ⟨A, 2, none⟩ (.int .i64 (dg p 2)) = w7 at *
  have r0 := HF.c 0 rfl
  have r1 := HF.c 1 rfl
  have r2 := HF.c 2 rfl
  refine bodyPost_ret (v := v3 (dg p 0) (dg p 1) (dg p 2)) (by simp [results, Try.results42, go_sem, r0, r1, r2]) rfl ⟨rfl, HFB⟩
end Go.Proofs.Ytanmfhaiahhoeaa
