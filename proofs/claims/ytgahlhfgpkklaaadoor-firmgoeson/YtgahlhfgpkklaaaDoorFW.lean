/- FirmGoesOn walked. -/
import Derived.Test.YtgahlhfgpkklaaaDoorFV
import Derived.Test.YtgahlhfgpkklaaaDoorFS
namespace Go.Proofs.YtgahlhfgpkklaaaDoor
open Go.RowKit Go.Maps

theorem Bk.out {b k : Nat} {cs vs : List Value} {w : World} (h : Bk k cs w) (hn : k ≠ b) : Bk k cs (w.setCells b 0 vs) := h.same (low_setCells (Nat.zero_le b) vs 0 w).size (out_setCells hn vs 0 w)
/-- A new block for a state. -/
def NwF (m : Nat) (v : Value) (w : World) : Prop := ∃ b cs, v = ptr b ∧ m ≤ b ∧ cs.length = 9 ∧ Bk b cs w
def IsF (m : Nat) (x : Fm) (v : Value) (w : World) : Prop := ∃ b, v = ptr b ∧ m ≤ b ∧ Bk b (fc x) w
theorem NwF.later {m : Nat} {v : Value} {w w1 : World} (h : NwF m v w) (hb : Below w.heap.size w w1) : NwF m v w1 := by
  obtain ⟨b, cs, h1, h2, h3, h4⟩ := h
  exact ⟨b, cs, h1, h2, h3, h4.later hb⟩
theorem IsF.later {m : Nat} {x : Fm} {v : Value} {w w1 : World} (h : IsF m x v w) (hb : Below w.heap.size w w1) : IsF m x v w1 := by
  obtain ⟨b, h1, h2, h4⟩ := h
  exact ⟨b, h1, h2, h4.later hb⟩
theorem NwF.put {m b : Nat} {cs : List Value} {x : Fm} {v : Value} {w : World} (h : NwF m v w) (K : Bk b cs w) (hl : cs.length = 9) : NwF m v (w.setCells b 0 (fc x)) := by
  obtain ⟨b2, c2, h1, h2, h3, h4⟩ := h
  by_cases e : b2 = b
  · subst e
    exact ⟨b2, fc x, h1, h2, rfl, K.setAll (fc x) (by rw [hl]; rfl)⟩
  · exact ⟨b2, c2, h1, h2, h3, h4.out e⟩
theorem IsF.put {m b : Nat} {cs : List Value} {x : Fm} {v : Value} {w : World} (h : IsF m x v w) (K : Bk b cs w) (hl : cs.length = 9) : IsF m x v (w.setCells b 0 (fc x)) := by
  obtain ⟨b2, h1, h2, h4⟩ := h
  by_cases e : b2 = b
  · subst e
    exact ⟨b2, h1, h2, K.setAll (fc x) (by rw [hl]; rfl)⟩
  · exact ⟨b2, h1, h2, h4.out e⟩
set_option linter.unusedVariables false in
def gnV (m R : Nat) (r : Rg) (x : Fm) (ao : Option Addr) (len cap n0 : Nat) (i : Nat) (l : List Value) (w : World) : Prop :=
  match i, l with
  | 0, [v] => v = .agg #[.int .i64 r.lo.x, .int .i64 r.lo.y, .int .i64 r.lo.z, .int .i64 r.hi.x, .int .i64 r.hi.y, .int .i64 r.hi.z, .int .i64 r.rp.c, .int .i64 r.rp.f, .int .i64 r.rp.m, .int .i64 r.rp.r, .int .i64 r.ps, .int .i64 r.mo]
  | 1, [v] => v = .slice ao len cap
  | 2, [v] => v = .int .i64 (n0 : Int)
  | 3, [v] => v = .slice ao n0 cap
  | 4, [v] => v = .tuple #[.agg #[.bool x.hm, .int .i64 x.pt.x, .int .i64 x.pt.y, .int .i64 x.pt.z, .int .i64 x.pl, .bool x.tp, .int .i64 x.ht, .int .i64 x.tu, .int .i64 x.tk], .int .i64 (n0 : Int), .int .i64 0]
  | 5, [v] => v = .tuple #[.agg #[.bool x.hm, .int .i64 x.pt.x, .int .i64 x.pt.y, .int .i64 x.pt.z, .int .i64 x.pl, .bool x.tp, .int .i64 x.ht, .int .i64 x.tu, .int .i64 x.tk], .int .i64 (n0 : Int), .int .i64 0]
  | 6, [v] => v = .agg #[.bool x.hm, .int .i64 x.pt.x, .int .i64 x.pt.y, .int .i64 x.pt.z, .int .i64 x.pl, .bool x.tp, .int .i64 x.ht, .int .i64 x.tu, .int .i64 x.tk]
  | 7, [v] => v = .int .i64 (n0 : Int)
  | 8, [v] => v = .int .i64 0
  | 9, [v] => NwF m v w
  | 10, [v] => IsF m x v w
  | 11, [v] => v = .int .i64 (n0 : Int)
  | 12, [v] => v = .int .i64 0
  | _, _ => True
theorem gnV_mono (m R : Nat) (r : Rg) (x : Fm) (ao : Option Addr) (len cap n0 : Nat) (i : Nat) (l : List Value) (w w' : World) (h : gnV m R r x ao len cap n0 i l w) (hb : Below w.heap.size w w') : gnV m R r x ao len cap n0 i l w' := by
  unfold gnV at h ⊢
  split <;> simp only [] at h <;> first | exact h | exact NwF.later h hb | exact IsF.later h hb
theorem gnV_put (m R : Nat) (r : Rg) (x : Fm) (ao : Option Addr) (len cap n0 : Nat) (i : Nat) (l : List Value) (w : World) {b : Nat} {cs : List Value} (K : Bk b cs w) (hl : cs.length = 9) (h : gnV m R r x ao len cap n0 i l w) : gnV m R r x ao len cap n0 i l (w.setCells b 0 (fc x)) := by
  unfold gnV at h ⊢
  split <;> simp only [] at h <;> first | exact NwF.put h K hl | exact IsF.put h K hl | exact h
set_option linter.unusedVariables false in
def gdV (m R X : Nat) (r : Rg) (x y : Fm) (c : Cm) (bl off len cap i0 : Nat) (i : Nat) (l : List Value) (w : World) : Prop :=
  match i, l with
  | 0, [v] => v = .agg #[.int .i64 r.lo.x, .int .i64 r.lo.y, .int .i64 r.lo.z, .int .i64 r.hi.x, .int .i64 r.hi.y, .int .i64 r.hi.z, .int .i64 r.rp.c, .int .i64 r.rp.f, .int .i64 r.rp.m, .int .i64 r.rp.r, .int .i64 r.ps, .int .i64 r.mo]
  | 1, [v] => v = .agg #[.bool x.hm, .int .i64 x.pt.x, .int .i64 x.pt.y, .int .i64 x.pt.z, .int .i64 x.pl, .bool x.tp, .int .i64 x.ht, .int .i64 x.tu, .int .i64 x.tk]
  | 2, [v] => v = .slice (some ⟨bl, off, none⟩) len cap
  | 3, [v] => v = .int .i64 (i0 : Int)
  | 4, [v] => v = .pointer (some ⟨bl, off + i0 * 5, none⟩)
  | 5, [v] => v = .agg #[.int .i64 c.k, .int .i64 c.x, .int .i64 c.y, .int .i64 c.z, .int .i64 c.v]
  | 6, [v] => v = .tuple #[.agg #[.bool y.hm, .int .i64 y.pt.x, .int .i64 y.pt.y, .int .i64 y.pt.z, .int .i64 y.pl, .bool y.tp, .int .i64 y.ht, .int .i64 y.tu, .int .i64 y.tk], .int .i64 0]
  | 7, [v] => v = .tuple #[.agg #[.bool y.hm, .int .i64 y.pt.x, .int .i64 y.pt.y, .int .i64 y.pt.z, .int .i64 y.pl, .bool y.tp, .int .i64 y.ht, .int .i64 y.tu, .int .i64 y.tk], .int .i64 0]
  | 8, [v] => v = .agg #[.bool y.hm, .int .i64 y.pt.x, .int .i64 y.pt.y, .int .i64 y.pt.z, .int .i64 y.pl, .bool y.tp, .int .i64 y.ht, .int .i64 y.tu, .int .i64 y.tk]
  | 9, [v] => v = .int .i64 0
  | 10, [v] => NwF m v w
  | 11, [v] => IsF m y v w
  | 12, [v] => v = .int .i64 0
  | _, _ => True
theorem gdV_mono (m R X : Nat) (r : Rg) (x y : Fm) (c : Cm) (bl off len cap i0 : Nat) (i : Nat) (l : List Value) (w w' : World) (h : gdV m R X r x y c bl off len cap i0 i l w) (hb : Below w.heap.size w w') : gdV m R X r x y c bl off len cap i0 i l w' := by
  unfold gdV at h ⊢
  split <;> simp only [] at h <;> first | exact h | exact NwF.later h hb | exact IsF.later h hb
theorem gdV_put (m R X : Nat) (r : Rg) (x y : Fm) (c : Cm) (bl off len cap i0 : Nat) (i : Nat) (l : List Value) (w : World) {b : Nat} {cs : List Value} (K : Bk b cs w) (hl : cs.length = 9) (h : gdV m R X r x y c bl off len cap i0 i l w) : gdV m R X r x y c bl off len cap i0 i l (w.setCells b 0 (fc y)) := by
  unfold gdV at h ⊢
  split <;> simp only [] at h <;> first | exact NwF.put h K hl | exact IsF.put h K hl | exact h
set_option maxHeartbeats 6400000 in
set_option maxRecDepth 100000 in
theorem goesOn_a (a : Nat → Addr) (n : Nat) (r : Rg) (ao : Option Addr) (cap : Nat) (l : List Cm) (cut : Int) (w : World) (hg : Gl a n w) (h : rgOk r = false) : Calls Tryd.prog 6 #[rgv r, .slice ao l.length cap, .int .i64 cut] w fun e w' => e = .returned (.bool true) ∧ Below w.heap.size w w' := by
  have HDo : Hid (∀ W, Gl a n W → Calls Tryd.prog 9 #[rgv r1, fv f0, cmv c1] W fun e w' => e = .returned (.tuple #[.agg #[.bool true, .int .i64 0, .int .i64 0, .int .i64 0, .int .i64 0, .bool false, .int .i64 0, .int .i64 0, .int .i64 90], .int .i64 0]) ∧ Below W.heap.size W w') := fun W hW => by
    have := Do_any a n r1 f0 c1 W hW
    rw [home1.1, home1.2] at this
    exact this
  obtain ⟨w0, hw0⟩ : ∃ x, x = (w.alloc (rgo r)).alloc r1o := ⟨_, rfl⟩
  have HB0 : Hid (Below w.heap.size w w0) := by show Below _ _ _; rw [hw0]; exact two_new _ _ _
  have KR0 : Hid (Bk w.heap.size (rgc r) w0) := by show Bk _ _ _; rw [hw0]; exact (Bk.new w (rgc r) 27 w.heap.size rfl).later (one_new _ _)
  have HG0 : Hid (Gl a n w0) := hg.later HB0.out
  obtain ⟨R, hRe⟩ : ∃ b, b = w.heap.size := ⟨_, rfl⟩
  rw [← hRe] at KR0
  have hRw0 : w.heap.size ≤ R := by omega
  obtain ⟨len, hlen⟩ : ∃ x, x = l.length := ⟨_, rfl⟩
  have HLen : Hid (len = l.length) := hlen
  rw [← hlen]
  have HRn : Hid (∀ W, Gl a n W → Calls Tryd.prog 15 #[rgv r, .slice ao len cap] W fun e w' => e = .returned (.tuple #[zfv, .int .i64 0, .int .i64 2]) ∧ Below W.heap.size W w') := fun W hW => by rw [hlen]; exact Run_a a n r ao cap l W hW h
  clear h
  clear hlen hg
  go_enter Tryd.func6, Tryd.ntmps6
  go_wp2_with (refine wpList_store_new rfl 27 _ _ rfl (w.alloc (rgo r)) (w.heap.size + 1) _ _ rfl (by simp) rfl rfl info27 rfl (by kernel_rfl) ?_)
  simp only [show (w.alloc (rgo r)).alloc r1o = w0 from hw0.symm]
  simp only [← hRe]
  clear hw0 hRe
  refine Calls.mono (HDo.out _ HG0.out) ?_
  rintro e w1 ⟨rfl, hb1⟩
  obtain ⟨w2, hw2⟩ : ∃ x, x = w1.alloc (.cells (fc f1).toArray 29) := ⟨_, rfl⟩
  have HB2 : Hid (Below w.heap.size w w2) := by show Below _ _ _; rw [hw2]; exact below_on (below_on HB0.out hb1) (one_new _ _)
  have KR2 : Hid (Bk R (rgc r) w2) := by show Bk _ _ _; rw [hw2]; exact (KR0.out.later hb1).later (one_new _ _)
  have HG2 : Hid (Gl a n w2) := by show Gl _ _ _; rw [hw2]; exact (HG0.out.later hb1).later (one_new _ _)
  have KR1 := KR0.out.later hb1
  have r0 := KR1.c 0 rfl
  have r1 := KR1.c 1 rfl
  have r2 := KR1.c 2 rfl
  have r3 := KR1.c 3 rfl
  have r4 := KR1.c 4 rfl
  have r5 := KR1.c 5 rfl
  have r6 := KR1.c 6 rfl
  have r7 := KR1.c 7 rfl
  have r8 := KR1.c 8 rfl
  have r9 := KR1.c 9 rfl
  have r10 := KR1.c 10 rfl
  have r11 := KR1.c 11 rfl
  have hRw : R < w1.heap.size := KR1.1
  clear hb1 KR0 HG0 HB0 KR1
  go_wp2_with fail
  simp only [show w1.alloc (.cells #[.bool true, .int .i64 0, .int .i64 0, .int .i64 0, .int .i64 0, .bool false, .int .i64 0, .int .i64 0, .int .i64 90] 29) = w2 from hw2.symm]
  clear hw2 hRw r0 r1 r2 r3 r4 r5 r6 r7 r8 r9 r10 r11
  refine Calls.mono (HRn.out _ HG2.out) ?_
  rintro e w3 ⟨rfl, hb3⟩
  have HB3 : Hid (Below w.heap.size w w3) := below_on HB2.out hb3
  clear hb3
  by_cases h0 : 0 < len
  · go_wp2
    go_ret
    exact ⟨rfl, below_on HB3.out (one_new _ _)⟩
  · go_wp2
    go_ret
    exact ⟨rfl, below_on HB3.out (one_new _ _)⟩
set_option maxHeartbeats 6400000 in
set_option maxRecDepth 100000 in
theorem goesOn_b (a : Nat → Addr) (n : Nat) (r : Rg) (ao : Option Addr) (cap : Nat) (l : List Cm) (cut : Int) (w : World) (hg : Gl a n w) (hR : RdC w ao l) (hl : l.length * 40 ≤ 140737488351232) (h : rgOk r = true) (he : (runC r f0 0 l).2.2 ≠ 0) : Calls Tryd.prog 6 #[rgv r, .slice ao l.length cap, .int .i64 cut] w fun e w' => e = .returned (.bool true) ∧ Below w.heap.size w w' := by
  have HDo : Hid (∀ W, Gl a n W → Calls Tryd.prog 9 #[rgv r1, fv f0, cmv c1] W fun e w' => e = .returned (.tuple #[.agg #[.bool true, .int .i64 0, .int .i64 0, .int .i64 0, .int .i64 0, .bool false, .int .i64 0, .int .i64 0, .int .i64 90], .int .i64 0]) ∧ Below W.heap.size W w') := fun W hW => by
    have := Do_any a n r1 f0 c1 W hW
    rw [home1.1, home1.2] at this
    exact this
  obtain ⟨w0, hw0⟩ : ∃ x, x = (w.alloc (rgo r)).alloc r1o := ⟨_, rfl⟩
  have HB0 : Hid (Below w.heap.size w w0) := by show Below _ _ _; rw [hw0]; exact two_new _ _ _
  have KR0 : Hid (Bk w.heap.size (rgc r) w0) := by show Bk _ _ _; rw [hw0]; exact (Bk.new w (rgc r) 27 w.heap.size rfl).later (one_new _ _)
  have HG0 : Hid (Gl a n w0) := hg.later HB0.out
  have HRd : Hid (RdC w ao l) := hR
  obtain ⟨R, hRe⟩ : ∃ b, b = w.heap.size := ⟨_, rfl⟩
  rw [← hRe] at KR0
  have hRw0 : w.heap.size ≤ R := by omega
  obtain ⟨len, hlen⟩ : ∃ x, x = l.length := ⟨_, rfl⟩
  have HLen : Hid (len = l.length) := hlen
  rw [← hlen] at hl
  rw [← hlen]
  have hk := run_err he
  rw [← hlen, Nat.zero_add] at hk
  obtain ⟨k, hke⟩ : ∃ k, k = (runC r f0 0 l).2.1 := ⟨_, rfl⟩
  obtain ⟨g, hge⟩ : ∃ g, g = (runC r f0 0 l).1 := ⟨_, rfl⟩
  obtain ⟨x, hxe⟩ : ∃ x, x = (runC r f0 0 l).2.2 := ⟨_, rfl⟩
  have HRn : Hid (∀ W, Gl a n W → RdC W ao l → Calls Tryd.prog 15 #[rgv r, .slice ao len cap] W fun e w' => e = .returned (.tuple #[fv g, .int .i64 (k : Int), .int .i64 x]) ∧ Below W.heap.size W w') := fun W hW hr2 => by rw [hlen, hge, hke, hxe]; exact Run_b a n r ao cap l W hW h hr2 (by omega)
  rw [← hke] at hk
  rw [← hxe] at he
  clear h hke hge hxe
  clear hlen hg hR
  go_enter Tryd.func6, Tryd.ntmps6
  go_wp2_with (refine wpList_store_new rfl 27 _ _ rfl (w.alloc (rgo r)) (w.heap.size + 1) _ _ rfl (by simp) rfl rfl info27 rfl (by kernel_rfl) ?_)
  simp only [show (w.alloc (rgo r)).alloc r1o = w0 from hw0.symm]
  simp only [← hRe]
  clear hw0 hRe
  refine Calls.mono (HDo.out _ HG0.out) ?_
  rintro e w1 ⟨rfl, hb1⟩
  obtain ⟨w2, hw2⟩ : ∃ x, x = w1.alloc (.cells (fc f1).toArray 29) := ⟨_, rfl⟩
  have HB2 : Hid (Below w.heap.size w w2) := by show Below _ _ _; rw [hw2]; exact below_on (below_on HB0.out hb1) (one_new _ _)
  have KR2 : Hid (Bk R (rgc r) w2) := by show Bk _ _ _; rw [hw2]; exact (KR0.out.later hb1).later (one_new _ _)
  have HG2 : Hid (Gl a n w2) := by show Gl _ _ _; rw [hw2]; exact (HG0.out.later hb1).later (one_new _ _)
  have KR1 := KR0.out.later hb1
  have r0 := KR1.c 0 rfl
  have r1 := KR1.c 1 rfl
  have r2 := KR1.c 2 rfl
  have r3 := KR1.c 3 rfl
  have r4 := KR1.c 4 rfl
  have r5 := KR1.c 5 rfl
  have r6 := KR1.c 6 rfl
  have r7 := KR1.c 7 rfl
  have r8 := KR1.c 8 rfl
  have r9 := KR1.c 9 rfl
  have r10 := KR1.c 10 rfl
  have r11 := KR1.c 11 rfl
  have hRw : R < w1.heap.size := KR1.1
  clear hb1 KR0 HG0 HB0 KR1
  go_wp2_with fail
  simp only [show w1.alloc (.cells #[.bool true, .int .i64 0, .int .i64 0, .int .i64 0, .int .i64 0, .bool false, .int .i64 0, .int .i64 0, .int .i64 90] 29) = w2 from hw2.symm]
  clear hw2 hRw r0 r1 r2 r3 r4 r5 r6 r7 r8 r9 r10 r11
  refine Calls.mono (HRn.out _ HG2.out (HRd.out.later HB2.out)) ?_
  rintro e w3 ⟨rfl, hb3⟩
  have HB3 : Hid (Below w.heap.size w w3) := below_on HB2.out hb3
  clear hb3
  go_wp2
  go_ret
  exact ⟨rfl, below_on HB3.out (one_new _ _)⟩
end Go.Proofs.YtgahlhfgpkklaaaDoor
