/- goTo walked. -/
import Derived.Test.YtgahlhfgpkklaaaDoorFJH
import Derived.Test.YtgahlhfgpkklaaaDoorSeqXH
namespace Go.Proofs.YtgahlhfgpkklaaaDoor
open Go.RowKit Go.Maps

/-- What is kept of the package's variables while a board is at work. -/
theorem Gl.onB {a : Nat → Addr} {n B M : Nat} {w w' : World} (h : Gl a n w) (hk : Kpt (BM B M) w w') (hB : n ≤ B) (hM : n ≤ M) : Gl a n w' := h.kept hk fun k hk => by rcases hk with e | e <;> omega
theorem Kpt.drew {M : Nat → Prop} {w w' : World} (h : Kpt M w w') : Kpt M w w'.drew := ⟨h.os, h.tape, h.output, h.size, h.block⟩
theorem Bd.drew {B M : Nat} {r : Rg} {f : Fm} {w : World} (h : Bd B M r f w) : Bd B M r f w.drew := h.later ⟨rfl, rfl, rfl, Nat.le_refl _, fun _ _ => rfl⟩
theorem Bk.drew {b : Nat} {cs : List Value} {w : World} (h : Bk b cs w) : Bk b cs w.drew := h.later ⟨rfl, rfl, rfl, Nat.le_refl _, fun _ _ => rfl⟩
theorem Bd.set3 {B M : Nat} {r : Rg} {f : Fm} {w : World} (h : Bd B M r f w) (p : Pt) : Bd B M r { f with pt := p } (((w.setCell ⟨B, 13, none⟩ (.int .i64 p.x)).setCell ⟨B, 14, none⟩ (.int .i64 p.y)).setCell ⟨B, 15, none⟩ (.int .i64 p.z)) ∧
    Kpt (BM B M) w (((w.setCell ⟨B, 13, none⟩ (.int .i64 p.x)).setCell ⟨B, 14, none⟩ (.int .i64 p.y)).setCell ⟨B, 15, none⟩ (.int .i64 p.z)) := by
  obtain ⟨h1, k1⟩ := h.set 13 (.int .i64 p.x) (f' := { f with pt := ⟨p.x, f.pt.y, f.pt.z⟩ }) rfl
  obtain ⟨h2, k2⟩ := h1.set 14 (.int .i64 p.y) (f' := { f with pt := ⟨p.x, p.y, f.pt.z⟩ }) rfl
  obtain ⟨h3, k3⟩ := h2.set 15 (.int .i64 p.z) (f' := { f with pt := p }) rfl
  exact ⟨h3, (k1.trans k2).trans k3⟩
set_option linter.unusedVariables false in
def gbV (a : Nat → Addr) (B A : Nat) (f : Fm) (p : Pt) (i : Nat) (l : List Value) (w : World) : Prop :=
  match i, l with
  | 0, [v] => v = .pointer (some ⟨B, 0, none⟩)
  | 1, [v] => v = .pointer (some ⟨B, 0, none⟩)
  | 2, [v] => v = .pointer (some ⟨B, 0, none⟩)
  | 3, [v] => v = .pointer (some ⟨B, 12, none⟩)
  | 4, [v] => v = .pointer (some ⟨B, 13, none⟩)
  | 5, [v] => v = .agg #[.int .i64 f.pt.x, .int .i64 f.pt.y, .int .i64 f.pt.z]
  | 6, [v] => v = .agg #[.int .i64 p.x, .int .i64 p.y, .int .i64 p.z]
  | 7, [v] => v = .tuple #[.int .i64 0, .iface 109 (.pointer (some (a 0)))]
  | 8, [v] => v = .tuple #[.int .i64 0, .iface 109 (.pointer (some (a 0)))]
  | 9, [v] => v = .int .i64 0
  | 10, [v] => v = .iface 109 (.pointer (some (a 0)))
  | 11, [v] => v = .int .i64 0
  | 12, [v] => v = .iface 109 (.pointer (some (a 0)))
  | _, _ => True
set_option linter.unusedVariables false in
theorem gbV_mono (a : Nat → Addr) (B A : Nat) (f : Fm) (p : Pt) (i : Nat) (l : List Value) (w w' : World) (h : gbV a B A f p i l w) (hb : Below w.heap.size w w') : gbV a B A f p i l w' := by
  unfold gbV at h ⊢
  split <;> simp only [] at h <;> first | exact h
set_option linter.unusedVariables false in
def gcV (t : Int) (B A : Nat) (f : Fm) (p : Pt) (i : Nat) (l : List Value) (w : World) : Prop :=
  match i, l with
  | 0, [v] => v = .pointer (some ⟨B, 0, none⟩)
  | 1, [v] => v = .pointer (some ⟨B, 0, none⟩)
  | 2, [v] => v = .pointer (some ⟨B, 0, none⟩)
  | 3, [v] => v = .pointer (some ⟨B, 12, none⟩)
  | 4, [v] => v = .pointer (some ⟨B, 13, none⟩)
  | 5, [v] => v = .agg #[.int .i64 f.pt.x, .int .i64 f.pt.y, .int .i64 f.pt.z]
  | 6, [v] => v = .agg #[.int .i64 p.x, .int .i64 p.y, .int .i64 p.z]
  | 7, [v] => v = .tuple #[.int .i64 t, .nilIface]
  | 8, [v] => v = .tuple #[.int .i64 t, .nilIface]
  | 9, [v] => v = .int .i64 t
  | 10, [v] => v = .nilIface
  | 11, [v] => v = .int .i64 t
  | 12, [v] => v = .nilIface
  | _, _ => True
set_option linter.unusedVariables false in
theorem gcV_mono (t : Int) (B A : Nat) (f : Fm) (p : Pt) (i : Nat) (l : List Value) (w w' : World) (h : gcV t B A f p i l w) (hb : Below w.heap.size w w') : gcV t B A f p i l w' := by
  unfold gcV at h ⊢
  split <;> simp only [] at h <;> first | exact h
set_option maxHeartbeats 6400000 in
set_option maxRecDepth 100000 in
theorem goTo_a (a : Nat → Addr) (n B M : Nat) (r : Rg) (f : Fm) (p : Pt) (w : World) (h : Bd B M r f w) (hg : Gl a n w) (hm : f.hm = false) :
    Calls Tryd.prog 51 #[ptr B, v3 p] w fun e w' => e = .returned (.iface 109 (.pointer (some (a 3)))) ∧ Bd B M r f w' ∧ Kpt (BM B M) w w' := by
  have HB0 : Hid (Below w.heap.size w (w.alloc (o3 p 23))) := one_new _ _
  have HD : Hid (Bd B M r f (w.alloc (o3 p 23))) := h.later HB0.out
  have q12 : w.cell? ⟨B, 12, none⟩ = some (.bool false) := by rw [← hm]; exact h.bk.c 12 rfl
  have g3 : w.cell? ⟨3, 0, none⟩ = some (.iface 109 (.pointer (some (a 3)))) := hg.cell 3 (by decide)
  have hB : B < w.heap.size := h.bk.1
  have h3 : 3 < w.heap.size := by have := hg.nine; have := hg.size; omega
  clear h hg hm
  go_enter Tryd.func51, Tryd.ntmps51
  go_wp2
  go_ret
  exact ⟨rfl, HD.out, Kpt.of_below HB0.out⟩
set_option maxHeartbeats 6400000 in
set_option maxRecDepth 100000 in
theorem goTo_b (a : Nat → Addr) (n B M : Nat) (r : Rg) (f : Fm) (p : Pt) (w : World) (h : Bd B M r f w) (hg : Gl a n w) (hB : n ≤ B) (hM : n ≤ M) (hm : f.hm = true) (hf : inS r f.pt = true) (hp : inS r p = false) :
    Calls Tryd.prog 51 #[ptr B, v3 p] w fun e w' => e = .returned (.iface 109 (.pointer (some (a 0)))) ∧ Bd B M r f w' ∧ Kpt (BM B M) w w' := by
  have HH : Hid (f.hm = true) := hm
  obtain ⟨w0, hw0⟩ : ∃ x, x = w.alloc (o3 p 23) := ⟨_, rfl⟩
  have HB0 : Hid (Below w.heap.size w w0) := by show Below _ _ _; rw [hw0]; exact one_new _ _
  have KA0 : Hid (Bk w.heap.size (c3 p) w0) := by show Bk _ _ _; rw [hw0]; exact Bk.new w (c3 p) 23 w.heap.size rfl
  have HD : Hid (Bd B M r f w0) := h.later HB0.out
  have q12 : w0.cell? ⟨B, 12, none⟩ = some (.bool true) := by rw [← hm]; exact HD.out.bk.c 12 rfl
  have HA0 : Hid (¬ BM B M w.heap.size) := by have := h.bk.1; have := h.tm.lt; intro e; rcases e with e | e <;> omega
  have HN : Hid (∀ W, Bd B M r f W → Kpt (BM B M) w0 W → Calls Tryd.prog 22 #[ptr B, v3 f.pt, v3 p] W fun e w' => e = .returned (.tuple #[.int .i64 0, .iface 109 (.pointer (some (a 0)))]) ∧ Bd B M r f w' ∧ Kpt (BM B M) W w') := fun W hW hk => need_b a n B M r f f.pt p W hW ((hg.later HB0.out).onB hk hB hM) hf hp
  obtain ⟨A, hA⟩ : ∃ b, b = w.heap.size := ⟨_, rfl⟩
  rw [← hA] at KA0 HA0
  have KA : Hid (Bk A (c3 p) w0) := KA0
  have HA : Hid (¬ BM B M A) := HA0
  have hBw : B < w.heap.size := h.bk.1
  have hBA : ¬ B = A := by omega
  clear hm h KA0 HA0
  go_enter Tryd.func51, Tryd.ntmps51
  rw [hw0] at q12
  go_wp2_with fail
  simp only [← hw0, ← hA]
  rename_i KK hkk
  have HKK := (show Hid _ from hkk)
  clear hkk hA hw0 q12 hBw hBA
  refine region_ev [false, false, false, false, false, true, true, false, false, false, false, false, false, false, true, true, true, true, true, true, true, true, true, true, true, false, false, false, false, false, false, false, false, false, false, false]
    [([], [15], none), ([], [16], none), ([1], [17], none), ([2], [18], none), ([3], [19], none), ([4], [20], none), ([], [21], none), ([0, 5, 6], [22], none), ([7], [14], none), ([8], [23], none), ([8], [24], none), ([9], [5], none), ([10], [6], none)]
    (gbV a B A f p) (fun _ W => Bd B M r f W ∧ Bk A (c3 p) W) (Kpt (BM B M) w0) (by kernel_rfl) (by kernel_rfl) (Kpt.refl _ _).drew ⟨HD.out.drew, KA.out.drew⟩ ?_ ?_
  · refine ⟨?_, ?_, ?_, ?_, ?_, ?_, ?_, ?_, ?_, ?_, ?_, ?_, ?_, trivial⟩
    · intro f w1 hb hJ _ K hK
      simp only [over, overL, Nat.reduceAdd]
      go_simp
      exact hK _ _ ⟨_, by simp only [over, overL, Nat.reduceAdd]; rfl, rfl, hb, hJ, fun _ h => h⟩
    · intro f w1 hb hJ _ K hK
      simp only [over, overL, Nat.reduceAdd]
      go_simp
      exact hK _ _ ⟨_, by simp only [over, overL, Nat.reduceAdd]; rfl, rfl, hb, hJ, fun _ h => h⟩
    · intro f w1 hb hJ ⟨h16, _⟩ K hK
      replace h16 : f 16 = _ := h16
      simp only [over, overL, Nat.reduceAdd, h16]
      go_simp
      exact hK _ _ ⟨_, by simp only [over, overL, Nat.reduceAdd, h16]; rfl, rfl, hb, hJ, fun _ h => h⟩
    · intro f w1 hb hJ ⟨h17, _⟩ K hK
      replace h17 : f 17 = _ := h17
      simp only [over, overL, Nat.reduceAdd, h17]
      go_simp
      exact hK _ _ ⟨_, by simp only [over, overL, Nat.reduceAdd, h17]; rfl, rfl, hb, hJ, fun _ h => h⟩
    · intro f w1 hb hJ ⟨h18, _⟩ K hK
      replace h18 : f 18 = _ := h18
      simp only [over, overL, Nat.reduceAdd, h18]
      go_simp
      exact hK _ _ ⟨_, by simp only [over, overL, Nat.reduceAdd, h18]; rfl, rfl, hb, hJ, fun _ h => h⟩
    · intro f w1 hb hJ ⟨h19, _⟩ K hK
      replace h19 : f 19 = _ := h19
      have q13 := hJ.1.bk.c 13 rfl
      have q14 := hJ.1.bk.c 14 rfl
      have q15 := hJ.1.bk.c 15 rfl
      simp only [over, overL, Nat.reduceAdd, h19]
      go_simp
      exact hK _ _ ⟨_, by simp only [over, overL, Nat.reduceAdd, h19]; rfl, rfl, hb, hJ, fun _ h => h⟩
    · intro f w1 hb hJ _ K hK
      have q0 := hJ.2.c 0 rfl
      have q1 := hJ.2.c 1 rfl
      have q2 := hJ.2.c 2 rfl
      simp only [over, overL, Nat.reduceAdd]
      go_simp
      exact hK _ _ ⟨_, by simp only [over, overL, Nat.reduceAdd]; rfl, rfl, hb, hJ, fun _ h => h⟩
    · intro f w1 hb hJ ⟨h15, h20, h21, _⟩ K hK
      replace h15 : f 15 = _ := h15
      replace h20 : f 20 = _ := h20
      replace h21 : f 21 = _ := h21
      simp only [over, overL, Nat.reduceAdd, h15, h20, h21]
      go_simp
      refine Calls.mono (HN.out _ hJ.1 hb) ?_
      rintro e w2 ⟨rfl, hd2, hk2⟩
      exact hK _ _ ⟨_, by simp only [over, overL, Nat.reduceAdd, h15, h20, h21]; rfl, rfl, hb.trans hk2, ⟨hd2, bk_kpt hJ.2 hk2 HA.out⟩, fun _ h => h⟩
    · intro f w1 hb hJ ⟨h22, _⟩ K hK
      replace h22 : f 22 = _ := h22
      simp only [over, overL, Nat.reduceAdd, h22]
      go_simp
      exact hK _ _ ⟨_, by simp only [over, overL, Nat.reduceAdd, h22]; rfl, rfl, hb, hJ, fun _ h => h⟩
    · intro f w1 hb hJ ⟨h14, _⟩ K hK
      replace h14 : f 14 = _ := h14
      simp only [over, overL, Nat.reduceAdd, h14]
      go_simp
      exact hK _ _ ⟨_, by simp only [over, overL, Nat.reduceAdd, h14]; rfl, rfl, hb, hJ, fun _ h => h⟩
    · intro f w1 hb hJ ⟨h14, _⟩ K hK
      replace h14 : f 14 = _ := h14
      simp only [over, overL, Nat.reduceAdd, h14]
      go_simp
      exact hK _ _ ⟨_, by simp only [over, overL, Nat.reduceAdd, h14]; rfl, rfl, hb, hJ, fun _ h => h⟩
    · intro f w1 hb hJ ⟨h23, _⟩ K hK
      replace h23 : f 23 = _ := h23
      simp only [over, overL, Nat.reduceAdd, h23]
      go_simp
      exact hK _ _ ⟨_, by simp only [over, overL, Nat.reduceAdd, h23]; rfl, rfl, hb, hJ, fun _ h => h⟩
    · intro f w1 hb hJ ⟨h24, _⟩ K hK
      replace h24 : f 24 = _ := h24
      simp only [over, overL, Nat.reduceAdd, h24]
      go_simp
      exact hK _ _ ⟨_, by simp only [over, overL, Nat.reduceAdd, h24]; rfl, rfl, hb, hJ, fun _ h => h⟩
  · intro fr w1 hk1 hJ hv
    have h6 : fr 6 = .iface 109 (.pointer (some (a 0))) := hv.2.2.2.2.2.2.2.2.2.2.2.2.1
    have HD1 : Hid (Bd B M r f w1) := hJ.1
    have HK1 : Hid (Kpt (BM B M) w w1) := (Kpt.of_below HB0.out).trans hk1
    simp only [over_eq, overL, h6, Nat.reduceAdd]
    clear hv h6 hk1 hJ
    refine HKK.out _ _ ?_
    go_wp2
    go_ret
    exact ⟨rfl, HD1.out, HK1.out⟩
set_option maxHeartbeats 6400000 in
set_option maxRecDepth 100000 in
theorem goTo_c (B M : Nat) (r : Rg) (f : Fm) (p : Pt) (w : World) (h : Bd B M r f w) (hr : RgOk r) (hm : f.hm = true) (hf : FmOk r f) (hp : inS r p = true) (t : Int) (ht : t = tick r f.pt p) (hl : f.tk + t ≤ 1000000000000000) :
    Calls Tryd.prog 51 #[ptr B, v3 p] w fun e w' => e = .returned .nilIface ∧ Bd B M r { f with pt := p, tk := f.tk + t } w' ∧ Kpt (BM B M) w w' := by
  have HH : Hid (f.hm = true) := hm
  obtain ⟨w0, hw0⟩ : ∃ x, x = w.alloc (o3 p 23) := ⟨_, rfl⟩
  have HB0 : Hid (Below w.heap.size w w0) := by show Below _ _ _; rw [hw0]; exact one_new _ _
  have KA0 : Hid (Bk w.heap.size (c3 p) w0) := by show Bk _ _ _; rw [hw0]; exact Bk.new w (c3 p) 23 w.heap.size rfl
  have HD : Hid (Bd B M r f w0) := h.later HB0.out
  have q12 : w0.cell? ⟨B, 12, none⟩ = some (.bool true) := by rw [← hm]; exact HD.out.bk.c 12 rfl
  have HA0 : Hid (¬ BM B M w.heap.size) := by have := h.bk.1; have := h.tm.lt; intro e; rcases e with e | e <;> omega
  have HN : Hid (∀ W, Bd B M r f W → Kpt (BM B M) w0 W → Calls Tryd.prog 22 #[ptr B, v3 f.pt, v3 p] W fun e w' => e = .returned (.tuple #[.int .i64 t, .nilIface]) ∧ Bd B M r f w' ∧ Kpt (BM B M) W w') := fun W hW hk => by rw [ht]; exact need_c B M r f f.pt p W hW hr hf.at' hp
  have HP : Hid (∀ W, Bd B M r { f with pt := p } W → Calls Tryd.prog 55 #[ptr B, .int .i64 t] W fun e w' => e = .returned .nilIface ∧ Bd B M r { f with pt := p, tk := f.tk + t } w' ∧ Kpt (BM B M) W w') := fun W hW => pass_yes B M r { f with pt := p } t W hW hf.tk.1 hf.tk.2 (by rw [ht]; exact (tick_bd hr hf.at' hp).1) hl
  clear hl ht hr hf hp
  obtain ⟨A, hA⟩ : ∃ b, b = w.heap.size := ⟨_, rfl⟩
  rw [← hA] at KA0 HA0
  have KA : Hid (Bk A (c3 p) w0) := KA0
  have HA : Hid (¬ BM B M A) := HA0
  have hBw : B < w.heap.size := h.bk.1
  have hBA : ¬ B = A := by omega
  clear hm h KA0 HA0
  go_enter Tryd.func51, Tryd.ntmps51
  rw [hw0] at q12
  go_wp2_with fail
  simp only [← hw0, ← hA]
  rename_i KK hkk
  have HKK := (show Hid _ from hkk)
  clear hkk hA hw0 q12 hBw hBA
  refine region_ev [false, false, false, false, false, true, true, false, false, false, false, false, false, false, true, true, true, true, true, true, true, true, true, true, true, false, false, false, false, false, false, false, false, false, false, false]
    [([], [15], none), ([], [16], none), ([1], [17], none), ([2], [18], none), ([3], [19], none), ([4], [20], none), ([], [21], none), ([0, 5, 6], [22], none), ([7], [14], none), ([8], [23], none), ([8], [24], none), ([9], [5], none), ([10], [6], none)]
    (gcV t B A f p) (fun _ W => Bd B M r f W ∧ Bk A (c3 p) W) (Kpt (BM B M) w0) (by kernel_rfl) (by kernel_rfl) (Kpt.refl _ _).drew ⟨HD.out.drew, KA.out.drew⟩ ?_ ?_
  · refine ⟨?_, ?_, ?_, ?_, ?_, ?_, ?_, ?_, ?_, ?_, ?_, ?_, ?_, trivial⟩
    · intro f w1 hb hJ _ K hK
      simp only [over, overL, Nat.reduceAdd]
      go_simp
      exact hK _ _ ⟨_, by simp only [over, overL, Nat.reduceAdd]; rfl, rfl, hb, hJ, fun _ h => h⟩
    · intro f w1 hb hJ _ K hK
      simp only [over, overL, Nat.reduceAdd]
      go_simp
      exact hK _ _ ⟨_, by simp only [over, overL, Nat.reduceAdd]; rfl, rfl, hb, hJ, fun _ h => h⟩
    · intro f w1 hb hJ ⟨h16, _⟩ K hK
      replace h16 : f 16 = _ := h16
      simp only [over, overL, Nat.reduceAdd, h16]
      go_simp
      exact hK _ _ ⟨_, by simp only [over, overL, Nat.reduceAdd, h16]; rfl, rfl, hb, hJ, fun _ h => h⟩
    · intro f w1 hb hJ ⟨h17, _⟩ K hK
      replace h17 : f 17 = _ := h17
      simp only [over, overL, Nat.reduceAdd, h17]
      go_simp
      exact hK _ _ ⟨_, by simp only [over, overL, Nat.reduceAdd, h17]; rfl, rfl, hb, hJ, fun _ h => h⟩
    · intro f w1 hb hJ ⟨h18, _⟩ K hK
      replace h18 : f 18 = _ := h18
      simp only [over, overL, Nat.reduceAdd, h18]
      go_simp
      exact hK _ _ ⟨_, by simp only [over, overL, Nat.reduceAdd, h18]; rfl, rfl, hb, hJ, fun _ h => h⟩
    · intro f w1 hb hJ ⟨h19, _⟩ K hK
      replace h19 : f 19 = _ := h19
      have q13 := hJ.1.bk.c 13 rfl
      have q14 := hJ.1.bk.c 14 rfl
      have q15 := hJ.1.bk.c 15 rfl
      simp only [over, overL, Nat.reduceAdd, h19]
      go_simp
      exact hK _ _ ⟨_, by simp only [over, overL, Nat.reduceAdd, h19]; rfl, rfl, hb, hJ, fun _ h => h⟩
    · intro f w1 hb hJ _ K hK
      have q0 := hJ.2.c 0 rfl
      have q1 := hJ.2.c 1 rfl
      have q2 := hJ.2.c 2 rfl
      simp only [over, overL, Nat.reduceAdd]
      go_simp
      exact hK _ _ ⟨_, by simp only [over, overL, Nat.reduceAdd]; rfl, rfl, hb, hJ, fun _ h => h⟩
    · intro f w1 hb hJ ⟨h15, h20, h21, _⟩ K hK
      replace h15 : f 15 = _ := h15
      replace h20 : f 20 = _ := h20
      replace h21 : f 21 = _ := h21
      simp only [over, overL, Nat.reduceAdd, h15, h20, h21]
      go_simp
      refine Calls.mono (HN.out _ hJ.1 hb) ?_
      rintro e w2 ⟨rfl, hd2, hk2⟩
      exact hK _ _ ⟨_, by simp only [over, overL, Nat.reduceAdd, h15, h20, h21]; rfl, rfl, hb.trans hk2, ⟨hd2, bk_kpt hJ.2 hk2 HA.out⟩, fun _ h => h⟩
    · intro f w1 hb hJ ⟨h22, _⟩ K hK
      replace h22 : f 22 = _ := h22
      simp only [over, overL, Nat.reduceAdd, h22]
      go_simp
      exact hK _ _ ⟨_, by simp only [over, overL, Nat.reduceAdd, h22]; rfl, rfl, hb, hJ, fun _ h => h⟩
    · intro f w1 hb hJ ⟨h14, _⟩ K hK
      replace h14 : f 14 = _ := h14
      simp only [over, overL, Nat.reduceAdd, h14]
      go_simp
      exact hK _ _ ⟨_, by simp only [over, overL, Nat.reduceAdd, h14]; rfl, rfl, hb, hJ, fun _ h => h⟩
    · intro f w1 hb hJ ⟨h14, _⟩ K hK
      replace h14 : f 14 = _ := h14
      simp only [over, overL, Nat.reduceAdd, h14]
      go_simp
      exact hK _ _ ⟨_, by simp only [over, overL, Nat.reduceAdd, h14]; rfl, rfl, hb, hJ, fun _ h => h⟩
    · intro f w1 hb hJ ⟨h23, _⟩ K hK
      replace h23 : f 23 = _ := h23
      simp only [over, overL, Nat.reduceAdd, h23]
      go_simp
      exact hK _ _ ⟨_, by simp only [over, overL, Nat.reduceAdd, h23]; rfl, rfl, hb, hJ, fun _ h => h⟩
    · intro f w1 hb hJ ⟨h24, _⟩ K hK
      replace h24 : f 24 = _ := h24
      simp only [over, overL, Nat.reduceAdd, h24]
      go_simp
      exact hK _ _ ⟨_, by simp only [over, overL, Nat.reduceAdd, h24]; rfl, rfl, hb, hJ, fun _ h => h⟩
  · intro fr w1 hk1 hJ hv
    have h6 : fr 6 = .nilIface := hv.2.2.2.2.2.2.2.2.2.2.2.2.1
    have h5 : fr 5 = .int .i64 t := hv.2.2.2.2.2.2.2.2.2.2.2.1
    have HD1 : Hid (Bd B M r f w1) := hJ.1
    have HK1 : Hid (Kpt (BM B M) w w1) := (Kpt.of_below HB0.out).trans hk1
    have a0 := hJ.2.c 0 rfl
    have a1 := hJ.2.c 1 rfl
    have a2 := hJ.2.c 2 rfl
    have b13 := HD1.out.bk.c 13 rfl
    have b14 := HD1.out.bk.c 14 rfl
    have b15 := HD1.out.bk.c 15 rfl
    have z13 := HD1.out.bk.f 13 rfl
    have z14 := HD1.out.bk.f 14 rfl
    have z15 := HD1.out.bk.f 15 rfl
    obtain ⟨w2, hw2⟩ : ∃ x, x = ((w1.setCell ⟨B, 13, none⟩ (.int .i64 p.x)).setCell ⟨B, 14, none⟩ (.int .i64 p.y)).setCell ⟨B, 15, none⟩ (.int .i64 p.z) := ⟨_, rfl⟩
    have HD2 : Hid (Bd B M r { f with pt := p } w2) := by show Bd _ _ _ _ _; rw [hw2]; exact (HD1.out.set3 p).1
    have HK2 : Hid (Kpt (BM B M) w w2) := by show Kpt _ _ _; rw [hw2]; exact HK1.out.trans (HD1.out.set3 p).2
    simp only [over_eq, overL, h6, h5, Nat.reduceAdd]
    clear hv h6 h5 hk1 hJ
    refine HKK.out _ _ ?_
    go_wp2_with fail
    simp only [← hw2]
    clear hw2
    refine Calls.mono (HP.out _ HD2.out) ?_
    rintro e w3 ⟨rfl, hd3, hk3⟩
    have HD3 : Hid (Bd B M r { f with pt := p, tk := f.tk + t } w3) := hd3
    have HK3 : Hid (Kpt (BM B M) w w3) := HK2.out.trans hk3
    clear hd3 hk3
    go_wp2
    go_ret
    exact ⟨rfl, HD3.out, HK3.out⟩
set_option maxHeartbeats 6400000 in
set_option maxRecDepth 100000 in
theorem goTo_d (a : Nat → Addr) (n B M : Nat) (r : Rg) (f : Fm) (p : Pt) (w : World) (h : Bd B M r f w) (hg : Gl a n w) (hB : n ≤ B) (hM : n ≤ M) (hr : RgOk r) (hm : f.hm = true) (hf : FmOk r f) (hp : inS r p = true) (t : Int) (ht : t = tick r f.pt p) (hl : 1000000000000000 < f.tk + t) :
    Calls Tryd.prog 51 #[ptr B, v3 p] w fun e w' => e = .returned (.iface 109 (.pointer (some (a 7)))) ∧ Bd B M r { f with pt := p } w' ∧ Kpt (BM B M) w w' := by
  have HH : Hid (f.hm = true) := hm
  obtain ⟨w0, hw0⟩ : ∃ x, x = w.alloc (o3 p 23) := ⟨_, rfl⟩
  have HB0 : Hid (Below w.heap.size w w0) := by show Below _ _ _; rw [hw0]; exact one_new _ _
  have KA0 : Hid (Bk w.heap.size (c3 p) w0) := by show Bk _ _ _; rw [hw0]; exact Bk.new w (c3 p) 23 w.heap.size rfl
  have HD : Hid (Bd B M r f w0) := h.later HB0.out
  have q12 : w0.cell? ⟨B, 12, none⟩ = some (.bool true) := by rw [← hm]; exact HD.out.bk.c 12 rfl
  have HA0 : Hid (¬ BM B M w.heap.size) := by have := h.bk.1; have := h.tm.lt; intro e; rcases e with e | e <;> omega
  have HN : Hid (∀ W, Bd B M r f W → Kpt (BM B M) w0 W → Calls Tryd.prog 22 #[ptr B, v3 f.pt, v3 p] W fun e w' => e = .returned (.tuple #[.int .i64 t, .nilIface]) ∧ Bd B M r f w' ∧ Kpt (BM B M) W w') := fun W hW hk => by rw [ht]; exact need_c B M r f f.pt p W hW hr hf.at' hp
  have HP : Hid (∀ W, Bd B M r { f with pt := p } W → Kpt (BM B M) w W → Calls Tryd.prog 55 #[ptr B, .int .i64 t] W fun e w' => e = .returned (.iface 109 (.pointer (some (a 7)))) ∧ w' = W) := fun W hW hk => pass_no a n B M r { f with pt := p } t W hW (hg.onB hk hB hM) hf.tk.1 hf.tk.2 hl
  clear hl ht hr hf hp hg
  obtain ⟨A, hA⟩ : ∃ b, b = w.heap.size := ⟨_, rfl⟩
  rw [← hA] at KA0 HA0
  have KA : Hid (Bk A (c3 p) w0) := KA0
  have HA : Hid (¬ BM B M A) := HA0
  have hBw : B < w.heap.size := h.bk.1
  have hBA : ¬ B = A := by omega
  clear hm h KA0 HA0
  go_enter Tryd.func51, Tryd.ntmps51
  rw [hw0] at q12
  go_wp2_with fail
  simp only [← hw0, ← hA]
  rename_i KK hkk
  have HKK := (show Hid _ from hkk)
  clear hkk hA hw0 q12 hBw hBA
  refine region_ev [false, false, false, false, false, true, true, false, false, false, false, false, false, false, true, true, true, true, true, true, true, true, true, true, true, false, false, false, false, false, false, false, false, false, false, false]
    [([], [15], none), ([], [16], none), ([1], [17], none), ([2], [18], none), ([3], [19], none), ([4], [20], none), ([], [21], none), ([0, 5, 6], [22], none), ([7], [14], none), ([8], [23], none), ([8], [24], none), ([9], [5], none), ([10], [6], none)]
    (gcV t B A f p) (fun _ W => Bd B M r f W ∧ Bk A (c3 p) W) (Kpt (BM B M) w0) (by kernel_rfl) (by kernel_rfl) (Kpt.refl _ _).drew ⟨HD.out.drew, KA.out.drew⟩ ?_ ?_
  · refine ⟨?_, ?_, ?_, ?_, ?_, ?_, ?_, ?_, ?_, ?_, ?_, ?_, ?_, trivial⟩
    · intro f w1 hb hJ _ K hK
      simp only [over, overL, Nat.reduceAdd]
      go_simp
      exact hK _ _ ⟨_, by simp only [over, overL, Nat.reduceAdd]; rfl, rfl, hb, hJ, fun _ h => h⟩
    · intro f w1 hb hJ _ K hK
      simp only [over, overL, Nat.reduceAdd]
      go_simp
      exact hK _ _ ⟨_, by simp only [over, overL, Nat.reduceAdd]; rfl, rfl, hb, hJ, fun _ h => h⟩
    · intro f w1 hb hJ ⟨h16, _⟩ K hK
      replace h16 : f 16 = _ := h16
      simp only [over, overL, Nat.reduceAdd, h16]
      go_simp
      exact hK _ _ ⟨_, by simp only [over, overL, Nat.reduceAdd, h16]; rfl, rfl, hb, hJ, fun _ h => h⟩
    · intro f w1 hb hJ ⟨h17, _⟩ K hK
      replace h17 : f 17 = _ := h17
      simp only [over, overL, Nat.reduceAdd, h17]
      go_simp
      exact hK _ _ ⟨_, by simp only [over, overL, Nat.reduceAdd, h17]; rfl, rfl, hb, hJ, fun _ h => h⟩
    · intro f w1 hb hJ ⟨h18, _⟩ K hK
      replace h18 : f 18 = _ := h18
      simp only [over, overL, Nat.reduceAdd, h18]
      go_simp
      exact hK _ _ ⟨_, by simp only [over, overL, Nat.reduceAdd, h18]; rfl, rfl, hb, hJ, fun _ h => h⟩
    · intro f w1 hb hJ ⟨h19, _⟩ K hK
      replace h19 : f 19 = _ := h19
      have q13 := hJ.1.bk.c 13 rfl
      have q14 := hJ.1.bk.c 14 rfl
      have q15 := hJ.1.bk.c 15 rfl
      simp only [over, overL, Nat.reduceAdd, h19]
      go_simp
      exact hK _ _ ⟨_, by simp only [over, overL, Nat.reduceAdd, h19]; rfl, rfl, hb, hJ, fun _ h => h⟩
    · intro f w1 hb hJ _ K hK
      have q0 := hJ.2.c 0 rfl
      have q1 := hJ.2.c 1 rfl
      have q2 := hJ.2.c 2 rfl
      simp only [over, overL, Nat.reduceAdd]
      go_simp
      exact hK _ _ ⟨_, by simp only [over, overL, Nat.reduceAdd]; rfl, rfl, hb, hJ, fun _ h => h⟩
    · intro f w1 hb hJ ⟨h15, h20, h21, _⟩ K hK
      replace h15 : f 15 = _ := h15
      replace h20 : f 20 = _ := h20
      replace h21 : f 21 = _ := h21
      simp only [over, overL, Nat.reduceAdd, h15, h20, h21]
      go_simp
      refine Calls.mono (HN.out _ hJ.1 hb) ?_
      rintro e w2 ⟨rfl, hd2, hk2⟩
      exact hK _ _ ⟨_, by simp only [over, overL, Nat.reduceAdd, h15, h20, h21]; rfl, rfl, hb.trans hk2, ⟨hd2, bk_kpt hJ.2 hk2 HA.out⟩, fun _ h => h⟩
    · intro f w1 hb hJ ⟨h22, _⟩ K hK
      replace h22 : f 22 = _ := h22
      simp only [over, overL, Nat.reduceAdd, h22]
      go_simp
      exact hK _ _ ⟨_, by simp only [over, overL, Nat.reduceAdd, h22]; rfl, rfl, hb, hJ, fun _ h => h⟩
    · intro f w1 hb hJ ⟨h14, _⟩ K hK
      replace h14 : f 14 = _ := h14
      simp only [over, overL, Nat.reduceAdd, h14]
      go_simp
      exact hK _ _ ⟨_, by simp only [over, overL, Nat.reduceAdd, h14]; rfl, rfl, hb, hJ, fun _ h => h⟩
    · intro f w1 hb hJ ⟨h14, _⟩ K hK
      replace h14 : f 14 = _ := h14
      simp only [over, overL, Nat.reduceAdd, h14]
      go_simp
      exact hK _ _ ⟨_, by simp only [over, overL, Nat.reduceAdd, h14]; rfl, rfl, hb, hJ, fun _ h => h⟩
    · intro f w1 hb hJ ⟨h23, _⟩ K hK
      replace h23 : f 23 = _ := h23
      simp only [over, overL, Nat.reduceAdd, h23]
      go_simp
      exact hK _ _ ⟨_, by simp only [over, overL, Nat.reduceAdd, h23]; rfl, rfl, hb, hJ, fun _ h => h⟩
    · intro f w1 hb hJ ⟨h24, _⟩ K hK
      replace h24 : f 24 = _ := h24
      simp only [over, overL, Nat.reduceAdd, h24]
      go_simp
      exact hK _ _ ⟨_, by simp only [over, overL, Nat.reduceAdd, h24]; rfl, rfl, hb, hJ, fun _ h => h⟩
  · intro fr w1 hk1 hJ hv
    have h6 : fr 6 = .nilIface := hv.2.2.2.2.2.2.2.2.2.2.2.2.1
    have h5 : fr 5 = .int .i64 t := hv.2.2.2.2.2.2.2.2.2.2.2.1
    have HD1 : Hid (Bd B M r f w1) := hJ.1
    have HK1 : Hid (Kpt (BM B M) w w1) := (Kpt.of_below HB0.out).trans hk1
    have a0 := hJ.2.c 0 rfl
    have a1 := hJ.2.c 1 rfl
    have a2 := hJ.2.c 2 rfl
    have b13 := HD1.out.bk.c 13 rfl
    have b14 := HD1.out.bk.c 14 rfl
    have b15 := HD1.out.bk.c 15 rfl
    have z13 := HD1.out.bk.f 13 rfl
    have z14 := HD1.out.bk.f 14 rfl
    have z15 := HD1.out.bk.f 15 rfl
    obtain ⟨w2, hw2⟩ : ∃ x, x = ((w1.setCell ⟨B, 13, none⟩ (.int .i64 p.x)).setCell ⟨B, 14, none⟩ (.int .i64 p.y)).setCell ⟨B, 15, none⟩ (.int .i64 p.z) := ⟨_, rfl⟩
    have HD2 : Hid (Bd B M r { f with pt := p } w2) := by show Bd _ _ _ _ _; rw [hw2]; exact (HD1.out.set3 p).1
    have HK2 : Hid (Kpt (BM B M) w w2) := by show Kpt _ _ _; rw [hw2]; exact HK1.out.trans (HD1.out.set3 p).2
    simp only [over_eq, overL, h6, h5, Nat.reduceAdd]
    clear hv h6 h5 hk1 hJ
    refine HKK.out _ _ ?_
    go_wp2_with fail
    simp only [← hw2]
    clear hw2
    refine Calls.mono (HP.out _ HD2.out HK2.out) ?_
    rintro e w3 ⟨rfl, hd3⟩
    subst hd3
    go_wp2
    go_ret
    exact ⟨rfl, HD2.out, HK2.out⟩
end Go.Proofs.YtgahlhfgpkklaaaDoor
