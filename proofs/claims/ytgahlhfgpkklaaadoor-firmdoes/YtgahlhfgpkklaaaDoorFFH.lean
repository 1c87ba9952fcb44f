/- need walked. -/
import Derived.Test.YtgahlhfgpkklaaaDoorFEH
namespace Go.Proofs.YtgahlhfgpkklaaaDoor
open Go.RowKit Go.Maps

set_option linter.unusedVariables false in
def ndaV (B A C : Nat) (r : Rg) (p q : Pt) (d : Nat) (v : Value) (_ : World) : Prop :=
  match d with
  | 10 => v = .pointer (some ⟨B, 0, none⟩)
  | 11 => v = .pointer (some ⟨B, 0, none⟩)
  | 12 => v = .pointer (some ⟨B, 0, none⟩)
  | 13 => v = .agg #[.int .i64 r.lo.x, .int .i64 r.lo.y, .int .i64 r.lo.z, .int .i64 r.hi.x, .int .i64 r.hi.y, .int .i64 r.hi.z, .int .i64 r.rp.c, .int .i64 r.rp.f, .int .i64 r.rp.m, .int .i64 r.rp.r, .int .i64 r.ps, .int .i64 r.mo]
  | 14 => v = .agg #[.int .i64 p.x, .int .i64 p.y, .int .i64 p.z]
  | 15 => v = .bool false
  | 16 => v = .bool true
  | 17 => v = .bool true
  | 25 => v = .bool true
  | _ => True
set_option linter.unusedVariables false in
theorem ndaV_mono (B A C : Nat) (r : Rg) (p q : Pt) (d : Nat) (v : Value) (w w' : World) (h : ndaV B A C r p q d v w) (_ : Below w.heap.size w w') : ndaV B A C r p q d v w' := h
set_option linter.unusedVariables false in
def ndbV (B A C : Nat) (r : Rg) (p q : Pt) (d : Nat) (v : Value) (_ : World) : Prop :=
  match d with
  | 10 => v = .pointer (some ⟨B, 0, none⟩)
  | 11 => v = .pointer (some ⟨B, 0, none⟩)
  | 12 => v = .pointer (some ⟨B, 0, none⟩)
  | 13 => v = .agg #[.int .i64 r.lo.x, .int .i64 r.lo.y, .int .i64 r.lo.z, .int .i64 r.hi.x, .int .i64 r.hi.y, .int .i64 r.hi.z, .int .i64 r.rp.c, .int .i64 r.rp.f, .int .i64 r.rp.m, .int .i64 r.rp.r, .int .i64 r.ps, .int .i64 r.mo]
  | 14 => v = .agg #[.int .i64 p.x, .int .i64 p.y, .int .i64 p.z]
  | 15 => v = .bool true
  | 16 => v = .bool false
  | 17 => v = .bool false
  | 18 => v = .pointer (some ⟨B, 0, none⟩)
  | 19 => v = .pointer (some ⟨B, 0, none⟩)
  | 20 => v = .pointer (some ⟨B, 0, none⟩)
  | 21 => v = .agg #[.int .i64 r.lo.x, .int .i64 r.lo.y, .int .i64 r.lo.z, .int .i64 r.hi.x, .int .i64 r.hi.y, .int .i64 r.hi.z, .int .i64 r.rp.c, .int .i64 r.rp.f, .int .i64 r.rp.m, .int .i64 r.rp.r, .int .i64 r.ps, .int .i64 r.mo]
  | 22 => v = .agg #[.int .i64 q.x, .int .i64 q.y, .int .i64 q.z]
  | 23 => v = .bool false
  | 24 => v = .bool true
  | 25 => v = .bool true
  | _ => True
set_option linter.unusedVariables false in
theorem ndbV_mono (B A C : Nat) (r : Rg) (p q : Pt) (d : Nat) (v : Value) (w w' : World) (h : ndbV B A C r p q d v w) (_ : Below w.heap.size w w') : ndbV B A C r p q d v w' := h
set_option linter.unusedVariables false in
def ndcV (B A C : Nat) (r : Rg) (p q : Pt) (d : Nat) (v : Value) (_ : World) : Prop :=
  match d with
  | 10 => v = .pointer (some ⟨B, 0, none⟩)
  | 11 => v = .pointer (some ⟨B, 0, none⟩)
  | 12 => v = .pointer (some ⟨B, 0, none⟩)
  | 13 => v = .agg #[.int .i64 r.lo.x, .int .i64 r.lo.y, .int .i64 r.lo.z, .int .i64 r.hi.x, .int .i64 r.hi.y, .int .i64 r.hi.z, .int .i64 r.rp.c, .int .i64 r.rp.f, .int .i64 r.rp.m, .int .i64 r.rp.r, .int .i64 r.ps, .int .i64 r.mo]
  | 14 => v = .agg #[.int .i64 p.x, .int .i64 p.y, .int .i64 p.z]
  | 15 => v = .bool true
  | 16 => v = .bool false
  | 17 => v = .bool false
  | 18 => v = .pointer (some ⟨B, 0, none⟩)
  | 19 => v = .pointer (some ⟨B, 0, none⟩)
  | 20 => v = .pointer (some ⟨B, 0, none⟩)
  | 21 => v = .agg #[.int .i64 r.lo.x, .int .i64 r.lo.y, .int .i64 r.lo.z, .int .i64 r.hi.x, .int .i64 r.hi.y, .int .i64 r.hi.z, .int .i64 r.rp.c, .int .i64 r.rp.f, .int .i64 r.rp.m, .int .i64 r.rp.r, .int .i64 r.ps, .int .i64 r.mo]
  | 22 => v = .agg #[.int .i64 q.x, .int .i64 q.y, .int .i64 q.z]
  | 23 => v = .bool true
  | 24 => v = .bool false
  | 25 => v = .bool false
  | _ => True
set_option linter.unusedVariables false in
theorem ndcV_mono (B A C : Nat) (r : Rg) (p q : Pt) (d : Nat) (v : Value) (w w' : World) (h : ndcV B A C r p q d v w) (_ : Below w.heap.size w w') : ndcV B A C r p q d v w' := h
set_option linter.unusedVariables false in
def ngV (B A C : Nat) (r : Rg) (p q : Pt) (g s : Int) (d : Nat) (v : Value) (_ : World) : Prop :=
  match d with
  | 27 => v = .agg #[.int .i64 p.x, .int .i64 p.y, .int .i64 p.z]
  | 28 => v = .agg #[.int .i64 q.x, .int .i64 q.y, .int .i64 q.z]
  | 29 => v = .int .i64 g
  | 30 => v = .pointer (some ⟨B, 0, none⟩)
  | 31 => v = .pointer (some ⟨B, 0, none⟩)
  | 32 => v = .pointer (some ⟨B, 0, none⟩)
  | 33 => v = .pointer (some ⟨B, 10, none⟩)
  | 34 => v = .int .i64 r.ps
  | 35 => v = .int .i64 s
  | 9 => v = .int .i64 s
  | _ => True
set_option linter.unusedVariables false in
theorem ngV_mono (B A C : Nat) (r : Rg) (p q : Pt) (g s : Int) (d : Nat) (v : Value) (w w' : World) (h : ngV B A C r p q g s d v w) (_ : Below w.heap.size w w') : ngV B A C r p q g s d v w' := h
set_option maxHeartbeats 6400000 in
set_option maxRecDepth 100000 in
theorem need_a (a : Nat → Addr) (n B M : Nat) (r : Rg) (f : Fm) (p q : Pt) (w : World) (h : Bd B M r f w) (hg : Gl a n w) (hp : inS r p = false) :
    Calls Tryd.prog 22 #[ptr B, v3 p, v3 q] w fun e w' => e = .returned (.tuple #[.int .i64 0, .iface 109 (.pointer (some (a 0)))]) ∧ Bd B M r f w' ∧ Kpt (BM B M) w w' := by
  obtain ⟨w0, hw0⟩ : ∃ x, x = (w.alloc (o3 p 23)).alloc (o3 q 23) := ⟨_, rfl⟩
  have HB0 : Hid (Below w.heap.size w w0) := by show Below _ _ _; rw [hw0]; exact two_new _ _ _
  have KA0 : Hid (Bk w.heap.size (c3 p) w0) := by show Bk _ _ _; rw [hw0]; exact (Bk.new w (c3 p) 23 w.heap.size rfl).later (one_new _ _)
  have KC0 : Hid (Bk (w.heap.size + 1) (c3 q) w0) := by show Bk _ _ _; rw [hw0]; exact Bk.new (w.alloc (o3 p 23)) (c3 q) 23 (w.heap.size + 1) (by simp)
  have HD : Hid (Bd B M r f w0) := h.later HB0.out
  have KB : Hid (Bk B (bdc r f M) w0) := HD.out.bk
  have HP : Hid (∀ W, Calls Tryd.prog 37 #[rgv r, v3 p] W fun e w' => e = .returned (.bool false) ∧ Below W.heap.size W w') := fun W => by have := isWithin_any r p W; rwa [hp] at this
  have HGl : Hid (Gl a n w0) := hg.later HB0.out
  obtain ⟨C, hC⟩ : ∃ b, b = w.heap.size + 1 := ⟨_, rfl⟩
  obtain ⟨A, hA⟩ : ∃ b, b = w.heap.size := ⟨_, rfl⟩
  rw [← hC] at KC0
  rw [← hA] at KA0
  have KA : Hid (Bk A (c3 p) w0) := KA0
  have KC : Hid (Bk C (c3 q) w0) := KC0
  clear KA0 KC0
  go_enter Tryd.func22, Tryd.ntmps22
  go_wp2_with fail
  simp only [← hw0, ← hC]
  simp only [← hA]
  rename_i KK hkk
  have HKK := (show Hid _ from hkk)
  clear hkk hA hC hw0
  refine region_inv [false, false, false, false, false, false, false, false, false, false, true, true, true, true, true, true, true, true, true, true, true, true, true, true, true, true, false, false, false, false, false, false, false, false, false, false, false, false, false, false, false, false, false, false, false, false, false]
    [(10, [], none), (11, [10], none), (12, [11], none), (13, [12], none), (14, [], none), (15, [13, 14], none), (16, [15], none), (17, [16], none), (18, [17], some (17, false)), (19, [17, 18], some (17, false)), (20, [17, 19], some (17, false)), (21, [17, 20], some (17, false)), (22, [17], some (17, false)), (23, [17, 21, 22], some (17, false)), (24, [17, 23], some (17, false)), (25, [17, 24], none)]
    (ndaV B A C r p q) (by kernel_rfl) (by kernel_rfl) (ndaV_mono B A C r p q) ?_ ?_
  · refine ⟨?_, ?_, ?_, ?_, ?_, ?_, ?_, ?_, ?_, ?_, ?_, ?_, ?_, ?_, ?_, ?_, trivial⟩
    · intro f w1 hb _ K hK
      simp only [over, overL, Nat.reduceAdd]
      go_simp
      exact hK _ _ ⟨_, rfl, by simp only [over, overL, Nat.reduceAdd]; rfl, Below.refl _ _⟩
    · intro f w1 hb ⟨h10, _⟩ K hK
      replace h10 : f 10 = _ := h10
      simp only [over, overL, Nat.reduceAdd, h10]
      go_simp
      exact hK _ _ ⟨_, rfl, by simp only [over, overL, Nat.reduceAdd, h10]; rfl, Below.refl _ _⟩
    · intro f w1 hb ⟨h11, _⟩ K hK
      replace h11 : f 11 = _ := h11
      simp only [over, overL, Nat.reduceAdd, h11]
      go_simp
      exact hK _ _ ⟨_, rfl, by simp only [over, overL, Nat.reduceAdd, h11]; rfl, Below.refl _ _⟩
    · intro f w1 hb ⟨h12, _⟩ K hK
      replace h12 : f 12 = _ := h12
      have q0 := (KB.out.later hb).c 0 rfl
      have q1 := (KB.out.later hb).c 1 rfl
      have q2 := (KB.out.later hb).c 2 rfl
      have q3 := (KB.out.later hb).c 3 rfl
      have q4 := (KB.out.later hb).c 4 rfl
      have q5 := (KB.out.later hb).c 5 rfl
      have q6 := (KB.out.later hb).c 6 rfl
      have q7 := (KB.out.later hb).c 7 rfl
      have q8 := (KB.out.later hb).c 8 rfl
      have q9 := (KB.out.later hb).c 9 rfl
      have q10 := (KB.out.later hb).c 10 rfl
      have q11 := (KB.out.later hb).c 11 rfl
      simp only [over, overL, Nat.reduceAdd, h12]
      go_simp
      exact hK _ _ ⟨_, rfl, by simp only [over, overL, Nat.reduceAdd, h12]; rfl, Below.refl _ _⟩
    · intro f w1 hb _ K hK
      have q0 := (KA.out.later hb).c 0 rfl
      have q1 := (KA.out.later hb).c 1 rfl
      have q2 := (KA.out.later hb).c 2 rfl
      simp only [over, overL, Nat.reduceAdd]
      go_simp
      exact hK _ _ ⟨_, rfl, by simp only [over, overL, Nat.reduceAdd]; rfl, Below.refl _ _⟩
    · intro f w1 hb ⟨h13, h14, _⟩ K hK
      replace h13 : f 13 = _ := h13
      replace h14 : f 14 = _ := h14
      simp only [over, overL, Nat.reduceAdd, h13, h14]
      go_simp
      refine (HP.out _).mono ?_
      rintro e w2 ⟨rfl, hb2⟩
      exact hK _ _ ⟨_, rfl, by simp only [over, overL, Nat.reduceAdd, h13, h14]; rfl, hb2⟩
    · intro f w1 hb ⟨h15, _⟩ K hK
      replace h15 : f 15 = _ := h15
      simp only [over, overL, Nat.reduceAdd, h15]
      go_simp
      exact hK _ _ ⟨_, rfl, by simp only [over, overL, Nat.reduceAdd, h15]; rfl, Below.refl _ _⟩
    · intro f w1 hb ⟨h16, _⟩ K hK
      replace h16 : f 16 = _ := h16
      simp only [over, overL, Nat.reduceAdd, h16]
      go_simp
      exact hK _ _ ⟨_, rfl, by simp only [over, overL, Nat.reduceAdd, h16]; rfl, Below.refl _ _⟩
    · intro f w1 hb ⟨h17, _⟩
      replace h17 : f 17 = _ := h17
      exact ⟨fun hg => absurd (h17.symm.trans hg) (by simp), fun _ => trivial⟩
    · intro f w1 hb ⟨h17, h18, _⟩
      replace h17 : f 17 = _ := h17
      exact ⟨fun hg => absurd (h17.symm.trans hg) (by simp), fun _ => trivial⟩
    · intro f w1 hb ⟨h17, h19, _⟩
      replace h17 : f 17 = _ := h17
      exact ⟨fun hg => absurd (h17.symm.trans hg) (by simp), fun _ => trivial⟩
    · intro f w1 hb ⟨h17, h20, _⟩
      replace h17 : f 17 = _ := h17
      exact ⟨fun hg => absurd (h17.symm.trans hg) (by simp), fun _ => trivial⟩
    · intro f w1 hb ⟨h17, _⟩
      replace h17 : f 17 = _ := h17
      exact ⟨fun hg => absurd (h17.symm.trans hg) (by simp), fun _ => trivial⟩
    · intro f w1 hb ⟨h17, h21, h22, _⟩
      replace h17 : f 17 = _ := h17
      exact ⟨fun hg => absurd (h17.symm.trans hg) (by simp), fun _ => trivial⟩
    · intro f w1 hb ⟨h17, h23, _⟩
      replace h17 : f 17 = _ := h17
      exact ⟨fun hg => absurd (h17.symm.trans hg) (by simp), fun _ => trivial⟩
    · intro f w1 hb ⟨h17, h24, _⟩ K hK
      replace h17 : f 17 = _ := h17
      simp only [over, overL, Nat.reduceAdd, h17]
      go_simp
      exact hK _ _ ⟨_, rfl, by simp only [over, overL, Nat.reduceAdd, h17]; rfl, Below.refl _ _⟩
  · intro fr w1 hb1 hv
    have h25 : fr 25 = .bool true := hv.2.2.2.2.2.2.2.2.2.2.2.2.2.2.2.1
    have HD1 : Hid (Bd B M r f w1) := HD.out.later hb1
    have HK1 : Hid (Kpt (BM B M) w w1) := Kpt.of_below (below_on HB0.out hb1)
    have g0 : w1.cell? ⟨0, 0, none⟩ = some (.iface 109 (.pointer (some (a 0)))) := (HGl.out.later hb1).cell 0 (by decide)
    simp only [over_eq, overL, h25, Nat.reduceAdd]
    clear hv h25 hb1
    refine HKK.out _ _ ?_
    go_wp2_with fail
    go_quiet (fail)
    go_wp2
    exact bodyPost_ret (v := .tuple #[.int .i64 0, .iface 109 (.pointer (some (a 0)))]) (by simp [results, Tryd.results22, go_sem]) rfl ⟨rfl, HD1.out.later (drewN_low _ _ _), HK1.out.onB (drewN_low _ _ _)⟩
set_option maxHeartbeats 6400000 in
set_option maxRecDepth 100000 in
theorem need_b (a : Nat → Addr) (n B M : Nat) (r : Rg) (f : Fm) (p q : Pt) (w : World) (h : Bd B M r f w) (hg : Gl a n w) (hp : inS r p = true) (hq : inS r q = false) :
    Calls Tryd.prog 22 #[ptr B, v3 p, v3 q] w fun e w' => e = .returned (.tuple #[.int .i64 0, .iface 109 (.pointer (some (a 0)))]) ∧ Bd B M r f w' ∧ Kpt (BM B M) w w' := by
  obtain ⟨w0, hw0⟩ : ∃ x, x = (w.alloc (o3 p 23)).alloc (o3 q 23) := ⟨_, rfl⟩
  have HB0 : Hid (Below w.heap.size w w0) := by show Below _ _ _; rw [hw0]; exact two_new _ _ _
  have KA0 : Hid (Bk w.heap.size (c3 p) w0) := by show Bk _ _ _; rw [hw0]; exact (Bk.new w (c3 p) 23 w.heap.size rfl).later (one_new _ _)
  have KC0 : Hid (Bk (w.heap.size + 1) (c3 q) w0) := by show Bk _ _ _; rw [hw0]; exact Bk.new (w.alloc (o3 p 23)) (c3 q) 23 (w.heap.size + 1) (by simp)
  have HD : Hid (Bd B M r f w0) := h.later HB0.out
  have KB : Hid (Bk B (bdc r f M) w0) := HD.out.bk
  have HP : Hid (∀ W, Calls Tryd.prog 37 #[rgv r, v3 p] W fun e w' => e = .returned (.bool true) ∧ Below W.heap.size W w') := fun W => by have := isWithin_any r p W; rwa [hp] at this
  have HQ : Hid (∀ W, Calls Tryd.prog 37 #[rgv r, v3 q] W fun e w' => e = .returned (.bool false) ∧ Below W.heap.size W w') := fun W => by have := isWithin_any r q W; rwa [hq] at this
  have HGl : Hid (Gl a n w0) := hg.later HB0.out
  obtain ⟨C, hC⟩ : ∃ b, b = w.heap.size + 1 := ⟨_, rfl⟩
  obtain ⟨A, hA⟩ : ∃ b, b = w.heap.size := ⟨_, rfl⟩
  rw [← hC] at KC0
  rw [← hA] at KA0
  have KA : Hid (Bk A (c3 p) w0) := KA0
  have KC : Hid (Bk C (c3 q) w0) := KC0
  clear KA0 KC0
  go_enter Tryd.func22, Tryd.ntmps22
  go_wp2_with fail
  simp only [← hw0, ← hC]
  simp only [← hA]
  rename_i KK hkk
  have HKK := (show Hid _ from hkk)
  clear hkk hA hC hw0
  refine region_inv [false, false, false, false, false, false, false, false, false, false, true, true, true, true, true, true, true, true, true, true, true, true, true, true, true, true, false, false, false, false, false, false, false, false, false, false, false, false, false, false, false, false, false, false, false, false, false]
    [(10, [], none), (11, [10], none), (12, [11], none), (13, [12], none), (14, [], none), (15, [13, 14], none), (16, [15], none), (17, [16], none), (18, [17], some (17, false)), (19, [17, 18], some (17, false)), (20, [17, 19], some (17, false)), (21, [17, 20], some (17, false)), (22, [17], some (17, false)), (23, [17, 21, 22], some (17, false)), (24, [17, 23], some (17, false)), (25, [17, 24], none)]
    (ndbV B A C r p q) (by kernel_rfl) (by kernel_rfl) (ndbV_mono B A C r p q) ?_ ?_
  · refine ⟨?_, ?_, ?_, ?_, ?_, ?_, ?_, ?_, ?_, ?_, ?_, ?_, ?_, ?_, ?_, ?_, trivial⟩
    · intro f w1 hb _ K hK
      simp only [over, overL, Nat.reduceAdd]
      go_simp
      exact hK _ _ ⟨_, rfl, by simp only [over, overL, Nat.reduceAdd]; rfl, Below.refl _ _⟩
    · intro f w1 hb ⟨h10, _⟩ K hK
      replace h10 : f 10 = _ := h10
      simp only [over, overL, Nat.reduceAdd, h10]
      go_simp
      exact hK _ _ ⟨_, rfl, by simp only [over, overL, Nat.reduceAdd, h10]; rfl, Below.refl _ _⟩
    · intro f w1 hb ⟨h11, _⟩ K hK
      replace h11 : f 11 = _ := h11
      simp only [over, overL, Nat.reduceAdd, h11]
      go_simp
      exact hK _ _ ⟨_, rfl, by simp only [over, overL, Nat.reduceAdd, h11]; rfl, Below.refl _ _⟩
    · intro f w1 hb ⟨h12, _⟩ K hK
      replace h12 : f 12 = _ := h12
      have q0 := (KB.out.later hb).c 0 rfl
      have q1 := (KB.out.later hb).c 1 rfl
      have q2 := (KB.out.later hb).c 2 rfl
      have q3 := (KB.out.later hb).c 3 rfl
      have q4 := (KB.out.later hb).c 4 rfl
      have q5 := (KB.out.later hb).c 5 rfl
      have q6 := (KB.out.later hb).c 6 rfl
      have q7 := (KB.out.later hb).c 7 rfl
      have q8 := (KB.out.later hb).c 8 rfl
      have q9 := (KB.out.later hb).c 9 rfl
      have q10 := (KB.out.later hb).c 10 rfl
      have q11 := (KB.out.later hb).c 11 rfl
      simp only [over, overL, Nat.reduceAdd, h12]
      go_simp
      exact hK _ _ ⟨_, rfl, by simp only [over, overL, Nat.reduceAdd, h12]; rfl, Below.refl _ _⟩
    · intro f w1 hb _ K hK
      have q0 := (KA.out.later hb).c 0 rfl
      have q1 := (KA.out.later hb).c 1 rfl
      have q2 := (KA.out.later hb).c 2 rfl
      simp only [over, overL, Nat.reduceAdd]
      go_simp
      exact hK _ _ ⟨_, rfl, by simp only [over, overL, Nat.reduceAdd]; rfl, Below.refl _ _⟩
    · intro f w1 hb ⟨h13, h14, _⟩ K hK
      replace h13 : f 13 = _ := h13
      replace h14 : f 14 = _ := h14
      simp only [over, overL, Nat.reduceAdd, h13, h14]
      go_simp
      refine (HP.out _).mono ?_
      rintro e w2 ⟨rfl, hb2⟩
      exact hK _ _ ⟨_, rfl, by simp only [over, overL, Nat.reduceAdd, h13, h14]; rfl, hb2⟩
    · intro f w1 hb ⟨h15, _⟩ K hK
      replace h15 : f 15 = _ := h15
      simp only [over, overL, Nat.reduceAdd, h15]
      go_simp
      exact hK _ _ ⟨_, rfl, by simp only [over, overL, Nat.reduceAdd, h15]; rfl, Below.refl _ _⟩
    · intro f w1 hb ⟨h16, _⟩ K hK
      replace h16 : f 16 = _ := h16
      simp only [over, overL, Nat.reduceAdd, h16]
      go_simp
      exact hK _ _ ⟨_, rfl, by simp only [over, overL, Nat.reduceAdd, h16]; rfl, Below.refl _ _⟩
    · intro f w1 hb ⟨h17, _⟩
      replace h17 : f 17 = _ := h17
      refine ⟨fun _ => ?_, fun hg => absurd h17 hg⟩
      intro K hK
      simp only [over, overL, Nat.reduceAdd, h17]
      go_simp
      exact hK _ _ ⟨_, rfl, by simp only [over, overL, Nat.reduceAdd, h17]; rfl, Below.refl _ _⟩
    · intro f w1 hb ⟨h17, h18, _⟩
      replace h17 : f 17 = _ := h17
      replace h18 : f 18 = _ := h18
      refine ⟨fun _ => ?_, fun hg => absurd h17 hg⟩
      intro K hK
      simp only [over, overL, Nat.reduceAdd, h17, h18]
      go_simp
      exact hK _ _ ⟨_, rfl, by simp only [over, overL, Nat.reduceAdd, h17, h18]; rfl, Below.refl _ _⟩
    · intro f w1 hb ⟨h17, h19, _⟩
      replace h17 : f 17 = _ := h17
      replace h19 : f 19 = _ := h19
      refine ⟨fun _ => ?_, fun hg => absurd h17 hg⟩
      intro K hK
      simp only [over, overL, Nat.reduceAdd, h17, h19]
      go_simp
      exact hK _ _ ⟨_, rfl, by simp only [over, overL, Nat.reduceAdd, h17, h19]; rfl, Below.refl _ _⟩
    · intro f w1 hb ⟨h17, h20, _⟩
      replace h17 : f 17 = _ := h17
      replace h20 : f 20 = _ := h20
      refine ⟨fun _ => ?_, fun hg => absurd h17 hg⟩
      intro K hK
      have q0 := (KB.out.later hb).c 0 rfl
      have q1 := (KB.out.later hb).c 1 rfl
      have q2 := (KB.out.later hb).c 2 rfl
      have q3 := (KB.out.later hb).c 3 rfl
      have q4 := (KB.out.later hb).c 4 rfl
      have q5 := (KB.out.later hb).c 5 rfl
      have q6 := (KB.out.later hb).c 6 rfl
      have q7 := (KB.out.later hb).c 7 rfl
      have q8 := (KB.out.later hb).c 8 rfl
      have q9 := (KB.out.later hb).c 9 rfl
      have q10 := (KB.out.later hb).c 10 rfl
      have q11 := (KB.out.later hb).c 11 rfl
      simp only [over, overL, Nat.reduceAdd, h17, h20]
      go_simp
      exact hK _ _ ⟨_, rfl, by simp only [over, overL, Nat.reduceAdd, h17, h20]; rfl, Below.refl _ _⟩
    · intro f w1 hb ⟨h17, _⟩
      replace h17 : f 17 = _ := h17
      refine ⟨fun _ => ?_, fun hg => absurd h17 hg⟩
      intro K hK
      have q0 := (KC.out.later hb).c 0 rfl
      have q1 := (KC.out.later hb).c 1 rfl
      have q2 := (KC.out.later hb).c 2 rfl
      simp only [over, overL, Nat.reduceAdd, h17]
      go_simp
      exact hK _ _ ⟨_, rfl, by simp only [over, overL, Nat.reduceAdd, h17]; rfl, Below.refl _ _⟩
    · intro f w1 hb ⟨h17, h21, h22, _⟩
      replace h17 : f 17 = _ := h17
      replace h21 : f 21 = _ := h21
      replace h22 : f 22 = _ := h22
      refine ⟨fun _ => ?_, fun hg => absurd h17 hg⟩
      intro K hK
      simp only [over, overL, Nat.reduceAdd, h17, h21, h22]
      go_simp
      refine (HQ.out _).mono ?_
      rintro e w2 ⟨rfl, hb2⟩
      exact hK _ _ ⟨_, rfl, by simp only [over, overL, Nat.reduceAdd, h17, h21, h22]; rfl, hb2⟩
    · intro f w1 hb ⟨h17, h23, _⟩
      replace h17 : f 17 = _ := h17
      replace h23 : f 23 = _ := h23
      refine ⟨fun _ => ?_, fun hg => absurd h17 hg⟩
      intro K hK
      simp only [over, overL, Nat.reduceAdd, h17, h23]
      go_simp
      exact hK _ _ ⟨_, rfl, by simp only [over, overL, Nat.reduceAdd, h17, h23]; rfl, Below.refl _ _⟩
    · intro f w1 hb ⟨h17, h24, _⟩ K hK
      replace h17 : f 17 = _ := h17
      replace h24 : f 24 = _ := h24
      simp only [over, overL, Nat.reduceAdd, h17, h24]
      go_simp
      exact hK _ _ ⟨_, rfl, by simp only [over, overL, Nat.reduceAdd, h17, h24]; rfl, Below.refl _ _⟩
  · intro fr w1 hb1 hv
    have h25 : fr 25 = .bool true := hv.2.2.2.2.2.2.2.2.2.2.2.2.2.2.2.1
    have HD1 : Hid (Bd B M r f w1) := HD.out.later hb1
    have HK1 : Hid (Kpt (BM B M) w w1) := Kpt.of_below (below_on HB0.out hb1)
    have g0 : w1.cell? ⟨0, 0, none⟩ = some (.iface 109 (.pointer (some (a 0)))) := (HGl.out.later hb1).cell 0 (by decide)
    simp only [over_eq, overL, h25, Nat.reduceAdd]
    clear hv h25 hb1
    refine HKK.out _ _ ?_
    go_wp2_with fail
    go_quiet (fail)
    go_wp2
    exact bodyPost_ret (v := .tuple #[.int .i64 0, .iface 109 (.pointer (some (a 0)))]) (by simp [results, Tryd.results22, go_sem]) rfl ⟨rfl, HD1.out.later (drewN_low _ _ _), HK1.out.onB (drewN_low _ _ _)⟩
set_option maxHeartbeats 6400000 in
set_option maxRecDepth 100000 in
theorem need_c (B M : Nat) (r : Rg) (f : Fm) (p q : Pt) (w : World) (h : Bd B M r f w) (hr : RgOk r) (hp : inS r p = true) (hq : inS r q = true) :
    Calls Tryd.prog 22 #[ptr B, v3 p, v3 q] w fun e w' => e = .returned (.tuple #[.int .i64 (tick r p q), .nilIface]) ∧ Bd B M r f w' ∧ Kpt (BM B M) w w' := by
  obtain ⟨g, hge⟩ : ∃ g, g = gch p q := ⟨_, rfl⟩
  obtain ⟨s, hse⟩ : ∃ s, s = upB g r.ps := ⟨_, rfl⟩
  have HG : Hid (∀ W, Calls Tryd.prog 39 #[v3 p, v3 q] W fun e w' => e = .returned (.int .i64 g) ∧ Below W.heap.size W w') := fun W => by rw [hge]; exact greatest_any p q W (near_of hr hp) (near_of hr hq)
  have HU : Hid (∀ W, Calls Tryd.prog 38 #[.int .i64 g, .int .i64 r.ps] W fun e w' => e = .returned (.int .i64 s) ∧ w' = W) := fun W => by
    have h1 := gch_bd hr hp hq
    rw [hse]
    exact upBy_any g r.ps W (by omega) (by omega) hr.ps.1 hr.ps.2
  have HS : Hid (0 ≤ s ∧ s ≤ 20000000 ∧ runT r.rp s.toNat = tick r p q) := by
    have h1 := gch_bd hr hp hq
    have h2 := steps_bd hr hp hq
    rw [← hge, ← hse] at h2
    refine ⟨by omega, by omega, ?_⟩
    unfold tick
    congr 1
    omega
  have HR : Hid (rpOk r.rp = true) := hr.rp
  have HT : Hid (∀ (x : Int) W, 0 ≤ x → x ≤ 20000 → Bd B M r f W → Calls Tryd.prog 40 #[ptr B, .int .i64 x] W fun e w' => e = .returned (.int .i64 (totR r.rp x.toNat)) ∧ Bd B M r f w' ∧ Kpt (BM B M) W w') := fun x W h0 h1 hW => by
    have := total_any B M r f x.toNat W hW hr.rp (by omega)
    rwa [show ((x.toNat : Nat) : Int) = x by omega] at this
  clear hge hse hr
  obtain ⟨w0, hw0⟩ : ∃ x, x = (w.alloc (o3 p 23)).alloc (o3 q 23) := ⟨_, rfl⟩
  have HB0 : Hid (Below w.heap.size w w0) := by show Below _ _ _; rw [hw0]; exact two_new _ _ _
  have KA0 : Hid (Bk w.heap.size (c3 p) w0) := by show Bk _ _ _; rw [hw0]; exact (Bk.new w (c3 p) 23 w.heap.size rfl).later (one_new _ _)
  have KC0 : Hid (Bk (w.heap.size + 1) (c3 q) w0) := by show Bk _ _ _; rw [hw0]; exact Bk.new (w.alloc (o3 p 23)) (c3 q) 23 (w.heap.size + 1) (by simp)
  have HD : Hid (Bd B M r f w0) := h.later HB0.out
  have KB : Hid (Bk B (bdc r f M) w0) := HD.out.bk
  have HP : Hid (∀ W, Calls Tryd.prog 37 #[rgv r, v3 p] W fun e w' => e = .returned (.bool true) ∧ Below W.heap.size W w') := fun W => by have := isWithin_any r p W; rwa [hp] at this
  have HQ : Hid (∀ W, Calls Tryd.prog 37 #[rgv r, v3 q] W fun e w' => e = .returned (.bool true) ∧ Below W.heap.size W w') := fun W => by have := isWithin_any r q W; rwa [hq] at this
  obtain ⟨C, hC⟩ : ∃ b, b = w.heap.size + 1 := ⟨_, rfl⟩
  obtain ⟨A, hA⟩ : ∃ b, b = w.heap.size := ⟨_, rfl⟩
  rw [← hC] at KC0
  rw [← hA] at KA0
  have KA : Hid (Bk A (c3 p) w0) := KA0
  have KC : Hid (Bk C (c3 q) w0) := KC0
  clear KA0 KC0
  go_enter Tryd.func22, Tryd.ntmps22
  go_wp2_with fail
  simp only [← hw0, ← hC]
  simp only [← hA]
  rename_i KK hkk
  have HKK := (show Hid _ from hkk)
  clear hkk hA hC hw0
  refine region_inv [false, false, false, false, false, false, false, false, false, false, true, true, true, true, true, true, true, true, true, true, true, true, true, true, true, true, false, false, false, false, false, false, false, false, false, false, false, false, false, false, false, false, false, false, false, false, false]
    [(10, [], none), (11, [10], none), (12, [11], none), (13, [12], none), (14, [], none), (15, [13, 14], none), (16, [15], none), (17, [16], none), (18, [17], some (17, false)), (19, [17, 18], some (17, false)), (20, [17, 19], some (17, false)), (21, [17, 20], some (17, false)), (22, [17], some (17, false)), (23, [17, 21, 22], some (17, false)), (24, [17, 23], some (17, false)), (25, [17, 24], none)]
    (ndcV B A C r p q) (by kernel_rfl) (by kernel_rfl) (ndcV_mono B A C r p q) ?_ ?_
  · refine ⟨?_, ?_, ?_, ?_, ?_, ?_, ?_, ?_, ?_, ?_, ?_, ?_, ?_, ?_, ?_, ?_, trivial⟩
    · intro f w1 hb _ K hK
      simp only [over, overL, Nat.reduceAdd]
      go_simp
      exact hK _ _ ⟨_, rfl, by simp only [over, overL, Nat.reduceAdd]; rfl, Below.refl _ _⟩
    · intro f w1 hb ⟨h10, _⟩ K hK
      replace h10 : f 10 = _ := h10
      simp only [over, overL, Nat.reduceAdd, h10]
      go_simp
      exact hK _ _ ⟨_, rfl, by simp only [over, overL, Nat.reduceAdd, h10]; rfl, Below.refl _ _⟩
    · intro f w1 hb ⟨h11, _⟩ K hK
      replace h11 : f 11 = _ := h11
      simp only [over, overL, Nat.reduceAdd, h11]
      go_simp
      exact hK _ _ ⟨_, rfl, by simp only [over, overL, Nat.reduceAdd, h11]; rfl, Below.refl _ _⟩
    · intro f w1 hb ⟨h12, _⟩ K hK
      replace h12 : f 12 = _ := h12
      have q0 := (KB.out.later hb).c 0 rfl
      have q1 := (KB.out.later hb).c 1 rfl
      have q2 := (KB.out.later hb).c 2 rfl
      have q3 := (KB.out.later hb).c 3 rfl
      have q4 := (KB.out.later hb).c 4 rfl
      have q5 := (KB.out.later hb).c 5 rfl
      have q6 := (KB.out.later hb).c 6 rfl
      have q7 := (KB.out.later hb).c 7 rfl
      have q8 := (KB.out.later hb).c 8 rfl
      have q9 := (KB.out.later hb).c 9 rfl
      have q10 := (KB.out.later hb).c 10 rfl
      have q11 := (KB.out.later hb).c 11 rfl
      simp only [over, overL, Nat.reduceAdd, h12]
      go_simp
      exact hK _ _ ⟨_, rfl, by simp only [over, overL, Nat.reduceAdd, h12]; rfl, Below.refl _ _⟩
    · intro f w1 hb _ K hK
      have q0 := (KA.out.later hb).c 0 rfl
      have q1 := (KA.out.later hb).c 1 rfl
      have q2 := (KA.out.later hb).c 2 rfl
      simp only [over, overL, Nat.reduceAdd]
      go_simp
      exact hK _ _ ⟨_, rfl, by simp only [over, overL, Nat.reduceAdd]; rfl, Below.refl _ _⟩
    · intro f w1 hb ⟨h13, h14, _⟩ K hK
      replace h13 : f 13 = _ := h13
      replace h14 : f 14 = _ := h14
      simp only [over, overL, Nat.reduceAdd, h13, h14]
      go_simp
      refine (HP.out _).mono ?_
      rintro e w2 ⟨rfl, hb2⟩
      exact hK _ _ ⟨_, rfl, by simp only [over, overL, Nat.reduceAdd, h13, h14]; rfl, hb2⟩
    · intro f w1 hb ⟨h15, _⟩ K hK
      replace h15 : f 15 = _ := h15
      simp only [over, overL, Nat.reduceAdd, h15]
      go_simp
      exact hK _ _ ⟨_, rfl, by simp only [over, overL, Nat.reduceAdd, h15]; rfl, Below.refl _ _⟩
    · intro f w1 hb ⟨h16, _⟩ K hK
      replace h16 : f 16 = _ := h16
      simp only [over, overL, Nat.reduceAdd, h16]
      go_simp
      exact hK _ _ ⟨_, rfl, by simp only [over, overL, Nat.reduceAdd, h16]; rfl, Below.refl _ _⟩
    · intro f w1 hb ⟨h17, _⟩
      replace h17 : f 17 = _ := h17
      refine ⟨fun _ => ?_, fun hg => absurd h17 hg⟩
      intro K hK
      simp only [over, overL, Nat.reduceAdd, h17]
      go_simp
      exact hK _ _ ⟨_, rfl, by simp only [over, overL, Nat.reduceAdd, h17]; rfl, Below.refl _ _⟩
    · intro f w1 hb ⟨h17, h18, _⟩
      replace h17 : f 17 = _ := h17
      replace h18 : f 18 = _ := h18
      refine ⟨fun _ => ?_, fun hg => absurd h17 hg⟩
      intro K hK
      simp only [over, overL, Nat.reduceAdd, h17, h18]
      go_simp
      exact hK _ _ ⟨_, rfl, by simp only [over, overL, Nat.reduceAdd, h17, h18]; rfl, Below.refl _ _⟩
    · intro f w1 hb ⟨h17, h19, _⟩
      replace h17 : f 17 = _ := h17
      replace h19 : f 19 = _ := h19
      refine ⟨fun _ => ?_, fun hg => absurd h17 hg⟩
      intro K hK
      simp only [over, overL, Nat.reduceAdd, h17, h19]
      go_simp
      exact hK _ _ ⟨_, rfl, by simp only [over, overL, Nat.reduceAdd, h17, h19]; rfl, Below.refl _ _⟩
    · intro f w1 hb ⟨h17, h20, _⟩
      replace h17 : f 17 = _ := h17
      replace h20 : f 20 = _ := h20
      refine ⟨fun _ => ?_, fun hg => absurd h17 hg⟩
      intro K hK
      have q0 := (KB.out.later hb).c 0 rfl
      have q1 := (KB.out.later hb).c 1 rfl
      have q2 := (KB.out.later hb).c 2 rfl
      have q3 := (KB.out.later hb).c 3 rfl
      have q4 := (KB.out.later hb).c 4 rfl
      have q5 := (KB.out.later hb).c 5 rfl
      have q6 := (KB.out.later hb).c 6 rfl
      have q7 := (KB.out.later hb).c 7 rfl
      have q8 := (KB.out.later hb).c 8 rfl
      have q9 := (KB.out.later hb).c 9 rfl
      have q10 := (KB.out.later hb).c 10 rfl
      have q11 := (KB.out.later hb).c 11 rfl
      simp only [over, overL, Nat.reduceAdd, h17, h20]
      go_simp
      exact hK _ _ ⟨_, rfl, by simp only [over, overL, Nat.reduceAdd, h17, h20]; rfl, Below.refl _ _⟩
    · intro f w1 hb ⟨h17, _⟩
      replace h17 : f 17 = _ := h17
      refine ⟨fun _ => ?_, fun hg => absurd h17 hg⟩
      intro K hK
      have q0 := (KC.out.later hb).c 0 rfl
      have q1 := (KC.out.later hb).c 1 rfl
      have q2 := (KC.out.later hb).c 2 rfl
      simp only [over, overL, Nat.reduceAdd, h17]
      go_simp
      exact hK _ _ ⟨_, rfl, by simp only [over, overL, Nat.reduceAdd, h17]; rfl, Below.refl _ _⟩
    · intro f w1 hb ⟨h17, h21, h22, _⟩
      replace h17 : f 17 = _ := h17
      replace h21 : f 21 = _ := h21
      replace h22 : f 22 = _ := h22
      refine ⟨fun _ => ?_, fun hg => absurd h17 hg⟩
      intro K hK
      simp only [over, overL, Nat.reduceAdd, h17, h21, h22]
      go_simp
      refine (HQ.out _).mono ?_
      rintro e w2 ⟨rfl, hb2⟩
      exact hK _ _ ⟨_, rfl, by simp only [over, overL, Nat.reduceAdd, h17, h21, h22]; rfl, hb2⟩
    · intro f w1 hb ⟨h17, h23, _⟩
      replace h17 : f 17 = _ := h17
      replace h23 : f 23 = _ := h23
      refine ⟨fun _ => ?_, fun hg => absurd h17 hg⟩
      intro K hK
      simp only [over, overL, Nat.reduceAdd, h17, h23]
      go_simp
      exact hK _ _ ⟨_, rfl, by simp only [over, overL, Nat.reduceAdd, h17, h23]; rfl, Below.refl _ _⟩
    · intro f w1 hb ⟨h17, h24, _⟩ K hK
      replace h17 : f 17 = _ := h17
      replace h24 : f 24 = _ := h24
      simp only [over, overL, Nat.reduceAdd, h17, h24]
      go_simp
      exact hK _ _ ⟨_, rfl, by simp only [over, overL, Nat.reduceAdd, h17, h24]; rfl, Below.refl _ _⟩
  · intro fr w1 hb1 hv
    have h25 : fr 25 = .bool false := hv.2.2.2.2.2.2.2.2.2.2.2.2.2.2.2.1
    have HD1 : Hid (Bd B M r f w1) := HD.out.later hb1
    have HB1 : Hid (Below w.heap.size w w1) := below_on HB0.out hb1
    have KA1 : Hid (Bk A (c3 p) w1) := KA.out.later hb1
    have KC1 : Hid (Bk C (c3 q) w1) := KC.out.later hb1
    simp only [over_eq, overL, h25, Nat.reduceAdd]
    clear hv h25 hb1 KA KC KB HD HB0
    have KA := KA1
    have KC := KC1
    have KB : Hid (Bk B (bdc r f M) w1) := HD1.out.bk
    clear KA1 KC1
    refine HKK.out _ _ ?_
    clear HKK
    go_wp2_with fail
    rename_i KK2 hkk2
    have HKK := (show Hid _ from hkk2)
    clear hkk2
    refine region_inv [false, false, false, false, false, false, false, false, false, true, false, false, false, false, false, false, false, false, false, false, false, false, false, false, false, false, false, true, true, true, true, true, true, true, true, true, false, false, false, false, false, false, false, false, false, false, false]
      [(27, [], none), (28, [], none), (29, [27, 28], none), (30, [], none), (31, [30], none), (32, [31], none), (33, [32], none), (34, [33], none), (35, [29, 34], none), (9, [35], none)]
      (ngV B A C r p q g s) (by kernel_rfl) (by kernel_rfl) (ngV_mono B A C r p q g s) ?_ ?_
    · refine ⟨?_, ?_, ?_, ?_, ?_, ?_, ?_, ?_, ?_, ?_, trivial⟩
      · intro f w1 hb _ K hK
        have q0 := (KA.out.later hb).c 0 rfl
        have q1 := (KA.out.later hb).c 1 rfl
        have q2 := (KA.out.later hb).c 2 rfl
        simp only [over, overL, Nat.reduceAdd]
        go_simp
        exact hK _ _ ⟨_, rfl, by simp only [over, overL, Nat.reduceAdd]; rfl, Below.refl _ _⟩
      · intro f w1 hb _ K hK
        have q0 := (KC.out.later hb).c 0 rfl
        have q1 := (KC.out.later hb).c 1 rfl
        have q2 := (KC.out.later hb).c 2 rfl
        simp only [over, overL, Nat.reduceAdd]
        go_simp
        exact hK _ _ ⟨_, rfl, by simp only [over, overL, Nat.reduceAdd]; rfl, Below.refl _ _⟩
      · intro f w1 hb ⟨h27, h28, _⟩ K hK
        replace h27 : f 27 = _ := h27
        replace h28 : f 28 = _ := h28
        simp only [over, overL, Nat.reduceAdd, h27, h28]
        go_simp
        refine (HG.out _).mono ?_
        rintro e w2 ⟨rfl, hb2⟩
        exact hK _ _ ⟨_, rfl, by simp only [over, overL, Nat.reduceAdd, h27, h28]; rfl, hb2⟩
      · intro f w1 hb _ K hK
        simp only [over, overL, Nat.reduceAdd]
        go_simp
        exact hK _ _ ⟨_, rfl, by simp only [over, overL, Nat.reduceAdd]; rfl, Below.refl _ _⟩
      · intro f w1 hb ⟨h30, _⟩ K hK
        replace h30 : f 30 = _ := h30
        simp only [over, overL, Nat.reduceAdd, h30]
        go_simp
        exact hK _ _ ⟨_, rfl, by simp only [over, overL, Nat.reduceAdd, h30]; rfl, Below.refl _ _⟩
      · intro f w1 hb ⟨h31, _⟩ K hK
        replace h31 : f 31 = _ := h31
        simp only [over, overL, Nat.reduceAdd, h31]
        go_simp
        exact hK _ _ ⟨_, rfl, by simp only [over, overL, Nat.reduceAdd, h31]; rfl, Below.refl _ _⟩
      · intro f w1 hb ⟨h32, _⟩ K hK
        replace h32 : f 32 = _ := h32
        simp only [over, overL, Nat.reduceAdd, h32]
        go_simp
        exact hK _ _ ⟨_, rfl, by simp only [over, overL, Nat.reduceAdd, h32]; rfl, Below.refl _ _⟩
      · intro f w1 hb ⟨h33, _⟩ K hK
        replace h33 : f 33 = _ := h33
        have q10 := (KB.out.later hb).c 10 rfl
        simp only [over, overL, Nat.reduceAdd, h33]
        go_simp
        exact hK _ _ ⟨_, rfl, by simp only [over, overL, Nat.reduceAdd, h33]; rfl, Below.refl _ _⟩
      · intro f w1 hb ⟨h29, h34, _⟩ K hK
        replace h29 : f 29 = _ := h29
        replace h34 : f 34 = _ := h34
        simp only [over, overL, Nat.reduceAdd, h29, h34]
        go_simp
        refine (HU.out _).mono ?_
        rintro e w2 ⟨rfl, hb2⟩
        exact hK _ _ ⟨_, rfl, by simp only [over, overL, Nat.reduceAdd, h29, h34]; rfl, by rw [hb2]; exact Below.refl _ _⟩
      · intro f w1 hb ⟨h35, _⟩ K hK
        replace h35 : f 35 = _ := h35
        simp only [over, overL, Nat.reduceAdd, h35]
        go_simp
        exact hK _ _ ⟨_, rfl, by simp only [over, overL, Nat.reduceAdd, h35]; rfl, Below.refl _ _⟩
    · intro fs w2 hb2 hv
      have h9 : fs 9 = .int .i64 s := hv.2.2.2.2.2.2.2.2.2.1
      have HD2 : Hid (Bd B M r f w2) := HD1.out.later hb2
      have HK2 : Hid (Kpt (BM B M) w w2) := Kpt.of_below (below_on HB1.out hb2)
      simp only [over_eq, overL, h9, Nat.reduceAdd]
      clear hv h9 hb2 HD1 HB1 KA KC KB HG HU HP HQ
      refine HKK.out _ _ ?_
      clear HKK
      go_wp2_with fail
      go_loopw [8, 9] (fun t x wr => ∃ tv sv : Int, t = .int .i64 tv ∧ x = .int .i64 sv ∧ tv + runT r.rp sv.toNat = tick r p q ∧ (sv ≤ 20000000 ∧ -20000 ≤ sv ∧ 0 ≤ tv) ∧ Bd B M r f wr ∧ Kpt (BM B M) w wr) (fun _ x _ => (intOf x).toNat)
      case atStart => exact ⟨0, s, rfl, rfl, by have := HS.out.2.2; omega, ⟨HS.out.2.1, by have := HS.out.1; omega, by decide⟩, HD2.out, HK2.out⟩
      case round =>
        obtain ⟨tv, sv, rfl, rfl, he, ⟨hs1, hs2, ht0⟩, hd, hk⟩ := hrel
        have HE : Hid (tv + runT r.rp sv.toNat = tick r p q) := he
        have HDr : Hid (Bd B M r f wr) := hd
        have HKr : Hid (Kpt (BM B M) w wr) := hk
        have hrb := runT_bd HR.out (n := s.toNat) (by have := HS.out; omega)
        have hr2 := runT_bd HR.out (n := sv.toNat) (by omega)
        have ht1 : tv ≤ 2002000000000000 := by have := HS.out.2.2; omega
        clear he hd hk hrb hr2
        by_cases h0 : 0 < sv
        · by_cases h2 : sv ≤ 20000
          · have hb := totR_bd HR.out (n := sv.toNat) (by omega)
            have HN : Hid (runT r.rp sv.toNat = totR r.rp sv.toNat + runT r.rp (sv - 20000).toNat) := by show _ = _; rw [runT_step (n := sv.toNat), Nat.min_eq_left (by omega), show (sv - 20000).toNat = sv.toNat - 20000 by omega]
            have HC := HT.out sv wr (by omega) h2 HDr.out
            obtain ⟨tt, htt⟩ : ∃ x, x = totR r.rp sv.toNat := ⟨_, rfl⟩
            rw [← htt] at hb HN HC
            obtain ⟨hb0, hb1⟩ := hb
            have HC' := (show Hid _ from HC)
            clear HC htt
            go_wp2_with fail
            refine Calls.mono HC'.out ?_
            rintro e w3 ⟨rfl, hd3, hk3⟩
            have HD3 : Hid (Bd B M r f w3) := hd3
            have HK3 : Hid (Kpt (BM B M) w w3) := HKr.out.trans hk3
            clear hd3 hk3
            go_wp2
            go_roundw
            case rel => exact ⟨tv + tt, sv - 20000, by go_num, by go_num, by have := HE.out; have := HN.out; omega, ⟨by omega, by omega, by omega⟩, HD3.out, HK3.out⟩
            case measure => simp [intOf]; omega
          · have hb := totR_bd HR.out (n := 20000) (by omega)
            have HN : Hid (runT r.rp sv.toNat = totR r.rp 20000 + runT r.rp (sv - 20000).toNat) := by show _ = _; rw [runT_step (n := sv.toNat), Nat.min_eq_right (by omega), show (sv - 20000).toNat = sv.toNat - 20000 by omega]
            have HC := HT.out 20000 wr (by omega) (by omega) HDr.out
            rw [show (20000 : Int).toNat = 20000 from rfl] at HC
            obtain ⟨tt, htt⟩ : ∃ x, x = totR r.rp 20000 := ⟨_, rfl⟩
            rw [← htt] at hb HN HC
            obtain ⟨hb0, hb1⟩ := hb
            have HC' := (show Hid _ from HC)
            clear HC htt
            go_wp2_with fail
            refine Calls.mono HC'.out ?_
            rintro e w3 ⟨rfl, hd3, hk3⟩
            have HD3 : Hid (Bd B M r f w3) := hd3
            have HK3 : Hid (Kpt (BM B M) w w3) := HKr.out.trans hk3
            clear hd3 hk3
            go_wp2
            go_roundw
            case rel => exact ⟨tv + tt, sv - 20000, by go_num, by go_num, by have := HE.out; have := HN.out; omega, ⟨by omega, by omega, by omega⟩, HD3.out, HK3.out⟩
            case measure => simp [intOf]; omega
        · have HF : Hid (tv = tick r p q) := by
            have := HE.out
            rw [show sv.toNat = 0 by omega, runT_zero] at this
            show _ = _
            omega
          go_wp2
          exact bodyPost_ret (v := .tuple #[.int .i64 tv, .nilIface]) (by simp [results, Tryd.results22, go_sem]) rfl ⟨by rw [HF.out], HDr.out, HKr.out⟩
end Go.Proofs.YtgahlhfgpkklaaaDoor
