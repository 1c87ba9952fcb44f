/- FirmRuns walked. -/
import Derived.Test.YtgahlhfgpkklaaaDoorGUH
namespace Go.Proofs.YtgahlhfgpkklaaaDoor
open Go.RowKit Go.Maps

set_option linter.unusedVariables false in
def gqV (m R : Nat) (r : Rg) (l : List Cm) (ao : Option Addr) (len cap : Nat) (i : Nat) (L : List Value) (w : World) : Prop :=
  match i, L with
  | 0, [v] => v = .agg #[.int .i64 r.lo.x, .int .i64 r.lo.y, .int .i64 r.lo.z, .int .i64 r.hi.x, .int .i64 r.hi.y, .int .i64 r.hi.z, .int .i64 r.rp.c, .int .i64 r.rp.f, .int .i64 r.rp.m, .int .i64 r.rp.r, .int .i64 r.ps, .int .i64 r.mo]
  | 1, [v] => v = .slice ao len cap
  | 2, [v] => SlD l v w
  | 3, [v] => v = .tuple #[.agg #[.bool false, .int .i64 0, .int .i64 0, .int .i64 0, .int .i64 0, .bool false, .int .i64 0, .int .i64 0, .int .i64 0], .int .i64 0, .int .i64 2]
  | 4, [v] => v = .tuple #[.agg #[.bool false, .int .i64 0, .int .i64 0, .int .i64 0, .int .i64 0, .bool false, .int .i64 0, .int .i64 0, .int .i64 0], .int .i64 0, .int .i64 2]
  | 5, [v] => v = .agg #[.bool false, .int .i64 0, .int .i64 0, .int .i64 0, .int .i64 0, .bool false, .int .i64 0, .int .i64 0, .int .i64 0]
  | 6, [v] => v = .int .i64 0
  | 7, [v] => v = .int .i64 2
  | 8, [v] => NwD m v w
  | 9, [v] => IsD m f0 v w
  | 10, [v] => v = .int .i64 0
  | 11, [v] => v = .int .i64 2
  | _, _ => True
theorem gqV_mono (m R : Nat) (r : Rg) (l : List Cm) (ao : Option Addr) (len cap : Nat) (i : Nat) (L : List Value) (w w' : World) (h : gqV m R r l ao len cap i L w) (hb : Below w.heap.size w w') : gqV m R r l ao len cap i L w' := by
  unfold gqV at h ⊢
  split <;> simp only [] at h <;> first | exact h | exact NwD.later h hb | exact IsD.later h hb | exact SlD.later h hb
theorem gqV_put (m R : Nat) (r : Rg) (l : List Cm) (ao : Option Addr) (len cap : Nat) (i : Nat) (L : List Value) (w : World) {b : Nat} {cs : List Value} (K : Bk b cs w) (ht : ∃ t, cs[0]? = some (.bool t)) (hl : cs.length = 9) (h : gqV m R r l ao len cap i L w) : gqV m R r l ao len cap i L (w.setCells b 0 (fc f0)) := by
  unfold gqV at h ⊢
  split <;> simp only [] at h <;> first | exact NwD.put h K hl | exact IsD.put h K hl | exact SlD.put h K ht | exact h
set_option maxHeartbeats 6400000 in
set_option maxRecDepth 100000 in
theorem firmRuns_a (a : Nat → Addr) (n : Nat) (r : Rg) (ao : Option Addr) (cap : Nat) (l : List Cm) (w : World) (hg : Gl a n w) (hR : RdC w ao l) (hl : l.length * 40 ≤ 140737488351232) (hn : ao = none → cap = 0) (h : rgOk r = false) : Calls Tryd.prog 4 #[rgv r, .slice ao l.length cap] w fun e w' => e = .returned (.bool true) ∧ Below w.heap.size w w' := by
  obtain ⟨w0, hw0⟩ : ∃ x, x = w.alloc (rgo r) := ⟨_, rfl⟩
  have HB0 : Hid (Below w.heap.size w w0) := by show Below _ _ _; rw [hw0]; exact one_new _ _
  have KR0 : Hid (Bk w.heap.size (rgc r) w0) := by show Bk _ _ _; rw [hw0]; exact Bk.new w (rgc r) 27 w.heap.size rfl
  have HG0 : Hid (Gl a n w0) := hg.later HB0.out
  have HRd0 : Hid (RdC w0 ao l) := hR.later HB0.out
  obtain ⟨R, hRe⟩ : ∃ b, b = w.heap.size := ⟨_, rfl⟩
  rw [← hRe] at KR0
  obtain ⟨len, hlen⟩ : ∃ x, x = l.length := ⟨_, rfl⟩
  have HCm : Hid (∀ W, RdC W ao l → Calls Tryd.prog 16 #[.slice ao len cap] W fun e w' => ∃ v, e = .returned v ∧ SlD l v w' ∧ Below W.heap.size W w') := fun W hr => by rw [hlen]; exact commands_any ao cap l W hr hn hl
  have HSl : Hid (∀ v W, SlD l v W → ∃ ao2 cap2, v = .slice ao2 len cap2 ∧ RdC W ao2 l) := fun v W hs => by rw [hlen]; exact hs.rd
  have HRn : Hid (∀ ao2 cap2 W, Gl a n W → RdC W ao2 l → Calls Tryd.prog 15 #[rgv r, .slice ao2 len cap2] W fun e w' => e = .returned (.tuple #[zfv, .int .i64 0, .int .i64 2]) ∧ Below W.heap.size W w') := fun ao2 cap2 W hW _ => by rw [hlen]; exact Run_a a n r ao2 cap2 l W hW h
  have HRM : Hid (∀ W, Calls Tryd.prog 11 #[rgv r] W fun e w' => e = .returned (.bool false) ∧ Below W.heap.size W w') := fun W => by have := rigMay_any r W; rwa [h] at this
  rw [← hlen]
  clear hlen h hg hR hl hn
  go_enter Tryd.func4, Tryd.ntmps4
  go_wp2_with fail
  rename_i KK hkk
  have HKK := (show Hid _ from hkk)
  clear hkk
  simp only [← hw0, ← hRe]
  clear hw0 hRe
  refine region_all [false, false, false, false, false, true, true, true, false, false, false, false, true, true, true, true, true, true, true, true, false, false, false, false, false, false, false, false, false, false, false, false, false, false, false, false, false, false, false, false, false, false, false, false, false, false, false, false, false, false, false, false, false, false]
    [([], [13], none), ([], [14], none), ([1], [15], none), ([0, 2], [16], none), ([3], [12], none), ([4], [17], none), ([4], [18], none), ([4], [19], none), ([], [5], none), ([8, 5], [5], none), ([6], [6], none), ([7], [7], none)]
    (gqV w0.heap.size R r l ao len cap) (fun _ _ => True) (by kernel_rfl) (by kernel_rfl) (fun _ _ => trivial) ?_ ?_
  · refine ⟨?_, ?_, ?_, ?_, ?_, ?_, ?_, ?_, ?_, ?_, ?_, ?_, trivial⟩
    · intro f w1 hb hJ _ K hK
      have q0 := (KR0.out.later hb).c 0 rfl
      have q1 := (KR0.out.later hb).c 1 rfl
      have q2 := (KR0.out.later hb).c 2 rfl
      have q3 := (KR0.out.later hb).c 3 rfl
      have q4 := (KR0.out.later hb).c 4 rfl
      have q5 := (KR0.out.later hb).c 5 rfl
      have q6 := (KR0.out.later hb).c 6 rfl
      have q7 := (KR0.out.later hb).c 7 rfl
      have q8 := (KR0.out.later hb).c 8 rfl
      have q9 := (KR0.out.later hb).c 9 rfl
      have q10 := (KR0.out.later hb).c 10 rfl
      have q11 := (KR0.out.later hb).c 11 rfl
      simp only [over, overL, Nat.reduceAdd]
      go_simp
      exact hK _ _ ⟨_, by simp only [over, overL, Nat.reduceAdd]; rfl, rfl, hb, trivial, fun _ h => h⟩
    · intro f w1 hb hJ _ K hK
      simp only [over, overL, Nat.reduceAdd]
      go_simp
      exact hK _ _ ⟨_, by simp only [over, overL, Nat.reduceAdd]; rfl, rfl, hb, trivial, fun _ h => h⟩
    · intro f w1 hb hJ ⟨h14, _⟩ K hK
      replace h14 : f 14 = _ := h14
      simp only [over, overL, Nat.reduceAdd, h14]
      go_simp
      refine Calls.mono (HCm.out _ (HRd0.out.later hb)) ?_
      rintro e w2 ⟨v2, rfl, hs2, hb2⟩
      exact hK _ _ ⟨_, by simp only [over, overL, Nat.reduceAdd, h14]; rfl, hs2, below_on hb hb2, trivial, fun j h => gqV_mono w0.heap.size R r l ao len cap j _ _ _ h hb2⟩
    · intro f w1 hb hJ ⟨h13, h15, _⟩ K hK
      replace h13 : f 13 = _ := h13
      obtain ⟨ao2, cap2, h15, hr2⟩ := HSl.out (f 15) w1 h15
      simp only [over, overL, Nat.reduceAdd, h13, h15]
      go_simp
      refine Calls.mono (HRn.out ao2 cap2 _ (HG0.out.later hb) hr2) ?_
      rintro e w2 ⟨rfl, hb2⟩
      exact hK _ _ ⟨_, by simp only [over, overL, Nat.reduceAdd, h13, h15]; rfl, rfl, below_on hb hb2, trivial, fun j h => gqV_mono w0.heap.size R r l ao len cap j _ _ _ h hb2⟩
    · intro f w1 hb hJ ⟨h16, _⟩ K hK
      replace h16 : f 16 = _ := h16
      simp only [over, overL, Nat.reduceAdd, h16]
      go_simp
      exact hK _ _ ⟨_, by simp only [over, overL, Nat.reduceAdd, h16]; rfl, rfl, hb, trivial, fun _ h => h⟩
    · intro f w1 hb hJ ⟨h12, _⟩ K hK
      replace h12 : f 12 = _ := h12
      simp only [over, overL, Nat.reduceAdd, h12]
      go_simp
      exact hK _ _ ⟨_, by simp only [over, overL, Nat.reduceAdd, h12]; rfl, rfl, hb, trivial, fun _ h => h⟩
    · intro f w1 hb hJ ⟨h12, _⟩ K hK
      replace h12 : f 12 = _ := h12
      simp only [over, overL, Nat.reduceAdd, h12]
      go_simp
      exact hK _ _ ⟨_, by simp only [over, overL, Nat.reduceAdd, h12]; rfl, rfl, hb, trivial, fun _ h => h⟩
    · intro f w1 hb hJ ⟨h12, _⟩ K hK
      replace h12 : f 12 = _ := h12
      simp only [over, overL, Nat.reduceAdd, h12]
      go_simp
      exact hK _ _ ⟨_, by simp only [over, overL, Nat.reduceAdd, h12]; rfl, rfl, hb, trivial, fun _ h => h⟩
    · intro f w1 hb hJ _ K hK
      simp only [over, overL, Nat.reduceAdd]
      go_simp
      exact hK _ _ ⟨_, by simp only [over, overL, Nat.reduceAdd]; rfl, ⟨w1.heap.size, zfc, rfl, hb.size, rfl, ⟨_, rfl⟩, Bk.new w1 zfc 29 w1.heap.size rfl⟩, below_on hb (one_new _ _), trivial, fun j h => gqV_mono w0.heap.size R r l ao len cap j _ _ _ h (one_new _ _)⟩
    · intro f w1 hb hJ ⟨h5, h17, _⟩ K hK
      replace h17 : f 17 = _ := h17
      obtain ⟨b9, cs9, h5, hm9, hl9, ht9, KB9⟩ := (show NwD _ (f 5) w1 from h5)
      simp only [over, overL, Nat.reduceAdd, h17, h5]
      refine wp_store_mid 29 _ _ rfl b9 0 (fc f0).toArray rfl rfl (KB9.there (Nat.le_of_eq (by rw [hl9]; rfl))) info29 (by kernel_rfl) ?_
      exact hK _ _ ⟨undef, by simp only [over, overL, Nat.reduceAdd, h17, h5], ⟨b9, h5, hm9, KB9.setAll (fc f0) (by rw [hl9]; rfl)⟩, hb.trans (low_setCells hm9 _ _ _), trivial, fun j h => gqV_put w0.heap.size R r l ao len cap j _ w1 KB9 ht9 hl9 h⟩
    · intro f w1 hb hJ ⟨h18, _⟩ K hK
      replace h18 : f 18 = _ := h18
      simp only [over, overL, Nat.reduceAdd, h18]
      go_simp
      exact hK _ _ ⟨_, by simp only [over, overL, Nat.reduceAdd, h18]; rfl, rfl, hb, trivial, fun _ h => h⟩
    · intro f w1 hb hJ ⟨h19, _⟩ K hK
      replace h19 : f 19 = _ := h19
      simp only [over, overL, Nat.reduceAdd, h19]
      go_simp
      exact hK _ _ ⟨_, by simp only [over, overL, Nat.reduceAdd, h19]; rfl, rfl, hb, trivial, fun _ h => h⟩
  · intro fr w6 hb6 hJ hv
    have h6 : fr 6 = .int .i64 0 := hv.2.2.2.2.2.2.2.2.2.2.1
    have h7 : fr 7 = .int .i64 2 := hv.2.2.2.2.2.2.2.2.2.2.2.1
    obtain ⟨X, h5, hX, KX⟩ := (show IsD w0.heap.size f0 (fr 5) w6 from hv.2.2.2.2.2.2.2.2.2.1)
    obtain ⟨w7, hw7⟩ : ∃ y, y = w6.alloc zfo := ⟨_, rfl⟩
    have HB7 : Hid (Below w.heap.size w w7) := by show Below _ _ _; rw [hw7]; exact below_on (below_on HB0.out hb6) (one_new _ _)
    have KR6 : Hid (Bk R (rgc r) w6) := KR0.out.later hb6
    have KX7 : Hid (Bk X zfc w7) := by show Bk _ _ _; rw [hw7]; exact KX.later (one_new _ _)
    have KZ7 : Hid (Bk w6.heap.size zfc w7) := by show Bk _ _ _; rw [hw7]; exact Bk.new w6 zfc 29 w6.heap.size rfl
    have HRd7 : Hid (RdC w7 ao l) := by show RdC _ _ _; rw [hw7]; exact (HRd0.out.later hb6).later (one_new _ _)
    have KR7 : Hid (Bk R (rgc r) w7) := by show Bk _ _ _; rw [hw7]; exact KR6.out.later (one_new _ _)
    obtain ⟨Z, hZ⟩ : ∃ b, b = w6.heap.size := ⟨_, rfl⟩
    rw [← hZ] at KZ7
    have hRw : R < w6.heap.size := KR6.out.1
    simp only [over_eq, overL, h5, h6, h7, Nat.reduceAdd]
    clear hv h5 h6 h7 hb6 hJ KX hX
    refine HKK.out _ _ ?_
    clear HKK
    have r0 := KR6.out.c 0 rfl
    have r1 := KR6.out.c 1 rfl
    have r2 := KR6.out.c 2 rfl
    have r3 := KR6.out.c 3 rfl
    have r4 := KR6.out.c 4 rfl
    have r5 := KR6.out.c 5 rfl
    have r6 := KR6.out.c 6 rfl
    have r7 := KR6.out.c 7 rfl
    have r8 := KR6.out.c 8 rfl
    have r9 := KR6.out.c 9 rfl
    have r10 := KR6.out.c 10 rfl
    have r11 := KR6.out.c 11 rfl
    go_wp2_with fail
    simp only [← hw7, ← hZ]
    clear hw7 hZ hRw KR6 r0 r1 r2 r3 r4 r5 r6 r7 r8 r9 r10 r11
    refine (HRM.out _).mono ?_
    rintro e w8 ⟨rfl, hb8⟩
    have HB8 : Hid (Below w.heap.size w w8) := below_on HB7.out hb8
    have KX8 : Hid (Bk X zfc w8) := KX7.out.later hb8
    have KZ8 : Hid (Bk Z zfc w8) := KZ7.out.later hb8
    have KR8 : Hid (Bk R (rgc r) w8) := KR7.out.later hb8
    have HRd8 : Hid (RdC w8 ao l) := HRd7.out.later hb8
    clear hb8 KX7 KZ7 KR7 HRd7 HB7
    have x0 := KX8.out.c 0 rfl
    have z0 := KZ8.out.c 0 rfl
    have x1 := KX8.out.c 1 rfl
    have z1 := KZ8.out.c 1 rfl
    have x2 := KX8.out.c 2 rfl
    have z2 := KZ8.out.c 2 rfl
    have x3 := KX8.out.c 3 rfl
    have z3 := KZ8.out.c 3 rfl
    have x4 := KX8.out.c 4 rfl
    have z4 := KZ8.out.c 4 rfl
    have x5 := KX8.out.c 5 rfl
    have z5 := KZ8.out.c 5 rfl
    have x6 := KX8.out.c 6 rfl
    have z6 := KZ8.out.c 6 rfl
    have x7 := KX8.out.c 7 rfl
    have z7 := KZ8.out.c 7 rfl
    have x8 := KX8.out.c 8 rfl
    have z8 := KZ8.out.c 8 rfl
    go_wp2
    go_ret
    exact ⟨rfl, HB8.out⟩
set_option linter.unusedVariables false in
def grV (m R : Nat) (r : Rg) (g : Fm) (l : List Cm) (ao : Option Addr) (len cap : Nat) (k : Nat) (x : Int) (i : Nat) (L : List Value) (w : World) : Prop :=
  match i, L with
  | 0, [v] => v = .agg #[.int .i64 r.lo.x, .int .i64 r.lo.y, .int .i64 r.lo.z, .int .i64 r.hi.x, .int .i64 r.hi.y, .int .i64 r.hi.z, .int .i64 r.rp.c, .int .i64 r.rp.f, .int .i64 r.rp.m, .int .i64 r.rp.r, .int .i64 r.ps, .int .i64 r.mo]
  | 1, [v] => v = .slice ao len cap
  | 2, [v] => SlD l v w
  | 3, [v] => v = .tuple #[.agg #[.bool g.hm, .int .i64 g.pt.x, .int .i64 g.pt.y, .int .i64 g.pt.z, .int .i64 g.pl, .bool g.tp, .int .i64 g.ht, .int .i64 g.tu, .int .i64 g.tk], .int .i64 (k : Int), .int .i64 x]
  | 4, [v] => v = .tuple #[.agg #[.bool g.hm, .int .i64 g.pt.x, .int .i64 g.pt.y, .int .i64 g.pt.z, .int .i64 g.pl, .bool g.tp, .int .i64 g.ht, .int .i64 g.tu, .int .i64 g.tk], .int .i64 (k : Int), .int .i64 x]
  | 5, [v] => v = .agg #[.bool g.hm, .int .i64 g.pt.x, .int .i64 g.pt.y, .int .i64 g.pt.z, .int .i64 g.pl, .bool g.tp, .int .i64 g.ht, .int .i64 g.tu, .int .i64 g.tk]
  | 6, [v] => v = .int .i64 (k : Int)
  | 7, [v] => v = .int .i64 x
  | 8, [v] => NwD m v w
  | 9, [v] => IsD m g v w
  | 10, [v] => v = .int .i64 (k : Int)
  | 11, [v] => v = .int .i64 x
  | _, _ => True
theorem grV_mono (m R : Nat) (r : Rg) (g : Fm) (l : List Cm) (ao : Option Addr) (len cap : Nat) (k : Nat) (x : Int) (i : Nat) (L : List Value) (w w' : World) (h : grV m R r g l ao len cap k x i L w) (hb : Below w.heap.size w w') : grV m R r g l ao len cap k x i L w' := by
  unfold grV at h ⊢
  split <;> simp only [] at h <;> first | exact h | exact NwD.later h hb | exact IsD.later h hb | exact SlD.later h hb
theorem grV_put (m R : Nat) (r : Rg) (g : Fm) (l : List Cm) (ao : Option Addr) (len cap : Nat) (k : Nat) (x : Int) (i : Nat) (L : List Value) (w : World) {b : Nat} {cs : List Value} (K : Bk b cs w) (ht : ∃ t, cs[0]? = some (.bool t)) (hl : cs.length = 9) (h : grV m R r g l ao len cap k x i L w) : grV m R r g l ao len cap k x i L (w.setCells b 0 (fc g)) := by
  unfold grV at h ⊢
  split <;> simp only [] at h <;> first | exact NwD.put h K hl | exact IsD.put h K hl | exact SlD.put h K ht | exact h
set_option maxHeartbeats 6400000 in
set_option maxRecDepth 100000 in
theorem firmRuns_b (a : Nat → Addr) (n : Nat) (r : Rg) (ao : Option Addr) (cap : Nat) (l : List Cm) (w : World) (hg : Gl a n w) (hR : RdC w ao l) (hl : l.length * 40 ≤ 140737488351232) (hn : ao = none → cap = 0) (h : rgOk r = true) : Calls Tryd.prog 4 #[rgv r, .slice ao l.length cap] w fun e w' => e = .returned (.bool true) ∧ Below w.heap.size w w' := by
  obtain ⟨w0, hw0⟩ : ∃ x, x = w.alloc (rgo r) := ⟨_, rfl⟩
  have HB0 : Hid (Below w.heap.size w w0) := by show Below _ _ _; rw [hw0]; exact one_new _ _
  have KR0 : Hid (Bk w.heap.size (rgc r) w0) := by show Bk _ _ _; rw [hw0]; exact Bk.new w (rgc r) 27 w.heap.size rfl
  have HG0 : Hid (Gl a n w0) := hg.later HB0.out
  have HRd0 : Hid (RdC w0 ao l) := hR.later HB0.out
  obtain ⟨R, hRe⟩ : ∃ b, b = w.heap.size := ⟨_, rfl⟩
  rw [← hRe] at KR0
  obtain ⟨len, hlen⟩ : ∃ x, x = l.length := ⟨_, rfl⟩
  have HCm : Hid (∀ W, RdC W ao l → Calls Tryd.prog 16 #[.slice ao len cap] W fun e w' => ∃ v, e = .returned v ∧ SlD l v w' ∧ Below W.heap.size W w') := fun W hr => by rw [hlen]; exact commands_any ao cap l W hr hn hl
  have HSl : Hid (∀ v W, SlD l v W → ∃ ao2 cap2, v = .slice ao2 len cap2 ∧ RdC W ao2 l) := fun v W hs => by rw [hlen]; exact hs.rd
  obtain ⟨g, hge⟩ : ∃ g, g = (runC r f0 0 l).1 := ⟨_, rfl⟩
  obtain ⟨k, hke⟩ : ∃ k, k = (runC r f0 0 l).2.1 := ⟨_, rfl⟩
  obtain ⟨x, hxe⟩ : ∃ x, x = (runC r f0 0 l).2.2 := ⟨_, rfl⟩
  have HRn : Hid (∀ ao2 cap2 W, Gl a n W → RdC W ao2 l → Calls Tryd.prog 15 #[rgv r, .slice ao2 len cap2] W fun e w' => e = .returned (.tuple #[fv g, .int .i64 (k : Int), .int .i64 x]) ∧ Below W.heap.size W w') := fun ao2 cap2 W hW hr2 => by rw [hlen, hge, hke, hxe]; exact Run_b a n r ao2 cap2 l W hW h hr2 (by omega)
  have HRf : Hid (∀ W, RdC W ao l → Calls Tryd.prog 17 #[rgv r, .slice ao len cap] W fun e w' => e = .returned (.tuple #[fv g, .int .i64 (k : Int), .int .i64 x]) ∧ Below W.heap.size W w') := fun W hr2 => by rw [hlen, hge, hke, hxe]; exact firmRun_any r ao cap l W h hr2 (by omega)
  clear hge hke hxe
  have HRM : Hid (∀ W, Calls Tryd.prog 11 #[rgv r] W fun e w' => e = .returned (.bool true) ∧ Below W.heap.size W w') := fun W => by have := rigMay_any r W; rwa [h] at this
  rw [← hlen]
  clear hlen h hg hR hl hn
  go_enter Tryd.func4, Tryd.ntmps4
  go_wp2_with fail
  rename_i KK hkk
  have HKK := (show Hid _ from hkk)
  clear hkk
  simp only [← hw0, ← hRe]
  clear hw0 hRe
  refine region_all [false, false, false, false, false, true, true, true, false, false, false, false, true, true, true, true, true, true, true, true, false, false, false, false, false, false, false, false, false, false, false, false, false, false, false, false, false, false, false, false, false, false, false, false, false, false, false, false, false, false, false, false, false, false]
    [([], [13], none), ([], [14], none), ([1], [15], none), ([0, 2], [16], none), ([3], [12], none), ([4], [17], none), ([4], [18], none), ([4], [19], none), ([], [5], none), ([8, 5], [5], none), ([6], [6], none), ([7], [7], none)]
    (grV w0.heap.size R r g l ao len cap k x) (fun _ _ => True) (by kernel_rfl) (by kernel_rfl) (fun _ _ => trivial) ?_ ?_
  · refine ⟨?_, ?_, ?_, ?_, ?_, ?_, ?_, ?_, ?_, ?_, ?_, ?_, trivial⟩
    · intro f w1 hb hJ _ K hK
      have q0 := (KR0.out.later hb).c 0 rfl
      have q1 := (KR0.out.later hb).c 1 rfl
      have q2 := (KR0.out.later hb).c 2 rfl
      have q3 := (KR0.out.later hb).c 3 rfl
      have q4 := (KR0.out.later hb).c 4 rfl
      have q5 := (KR0.out.later hb).c 5 rfl
      have q6 := (KR0.out.later hb).c 6 rfl
      have q7 := (KR0.out.later hb).c 7 rfl
      have q8 := (KR0.out.later hb).c 8 rfl
      have q9 := (KR0.out.later hb).c 9 rfl
      have q10 := (KR0.out.later hb).c 10 rfl
      have q11 := (KR0.out.later hb).c 11 rfl
      simp only [over, overL, Nat.reduceAdd]
      go_simp
      exact hK _ _ ⟨_, by simp only [over, overL, Nat.reduceAdd]; rfl, rfl, hb, trivial, fun _ h => h⟩
    · intro f w1 hb hJ _ K hK
      simp only [over, overL, Nat.reduceAdd]
      go_simp
      exact hK _ _ ⟨_, by simp only [over, overL, Nat.reduceAdd]; rfl, rfl, hb, trivial, fun _ h => h⟩
    · intro f w1 hb hJ ⟨h14, _⟩ K hK
      replace h14 : f 14 = _ := h14
      simp only [over, overL, Nat.reduceAdd, h14]
      go_simp
      refine Calls.mono (HCm.out _ (HRd0.out.later hb)) ?_
      rintro e w2 ⟨v2, rfl, hs2, hb2⟩
      exact hK _ _ ⟨_, by simp only [over, overL, Nat.reduceAdd, h14]; rfl, hs2, below_on hb hb2, trivial, fun j h => grV_mono w0.heap.size R r g l ao len cap k x j _ _ _ h hb2⟩
    · intro f w1 hb hJ ⟨h13, h15, _⟩ K hK
      replace h13 : f 13 = _ := h13
      obtain ⟨ao2, cap2, h15, hr2⟩ := HSl.out (f 15) w1 h15
      simp only [over, overL, Nat.reduceAdd, h13, h15]
      go_simp
      refine Calls.mono (HRn.out ao2 cap2 _ (HG0.out.later hb) hr2) ?_
      rintro e w2 ⟨rfl, hb2⟩
      exact hK _ _ ⟨_, by simp only [over, overL, Nat.reduceAdd, h13, h15]; rfl, rfl, below_on hb hb2, trivial, fun j h => grV_mono w0.heap.size R r g l ao len cap k x j _ _ _ h hb2⟩
    · intro f w1 hb hJ ⟨h16, _⟩ K hK
      replace h16 : f 16 = _ := h16
      simp only [over, overL, Nat.reduceAdd, h16]
      go_simp
      exact hK _ _ ⟨_, by simp only [over, overL, Nat.reduceAdd, h16]; rfl, rfl, hb, trivial, fun _ h => h⟩
    · intro f w1 hb hJ ⟨h12, _⟩ K hK
      replace h12 : f 12 = _ := h12
      simp only [over, overL, Nat.reduceAdd, h12]
      go_simp
      exact hK _ _ ⟨_, by simp only [over, overL, Nat.reduceAdd, h12]; rfl, rfl, hb, trivial, fun _ h => h⟩
    · intro f w1 hb hJ ⟨h12, _⟩ K hK
      replace h12 : f 12 = _ := h12
      simp only [over, overL, Nat.reduceAdd, h12]
      go_simp
      exact hK _ _ ⟨_, by simp only [over, overL, Nat.reduceAdd, h12]; rfl, rfl, hb, trivial, fun _ h => h⟩
    · intro f w1 hb hJ ⟨h12, _⟩ K hK
      replace h12 : f 12 = _ := h12
      simp only [over, overL, Nat.reduceAdd, h12]
      go_simp
      exact hK _ _ ⟨_, by simp only [over, overL, Nat.reduceAdd, h12]; rfl, rfl, hb, trivial, fun _ h => h⟩
    · intro f w1 hb hJ _ K hK
      simp only [over, overL, Nat.reduceAdd]
      go_simp
      exact hK _ _ ⟨_, by simp only [over, overL, Nat.reduceAdd]; rfl, ⟨w1.heap.size, zfc, rfl, hb.size, rfl, ⟨_, rfl⟩, Bk.new w1 zfc 29 w1.heap.size rfl⟩, below_on hb (one_new _ _), trivial, fun j h => grV_mono w0.heap.size R r g l ao len cap k x j _ _ _ h (one_new _ _)⟩
    · intro f w1 hb hJ ⟨h5, h17, _⟩ K hK
      replace h17 : f 17 = _ := h17
      obtain ⟨b9, cs9, h5, hm9, hl9, ht9, KB9⟩ := (show NwD _ (f 5) w1 from h5)
      simp only [over, overL, Nat.reduceAdd, h17, h5]
      refine wp_store_mid 29 _ _ rfl b9 0 (fc g).toArray rfl rfl (KB9.there (Nat.le_of_eq (by rw [hl9]; rfl))) info29 (by kernel_rfl) ?_
      exact hK _ _ ⟨undef, by simp only [over, overL, Nat.reduceAdd, h17, h5], ⟨b9, h5, hm9, KB9.setAll (fc g) (by rw [hl9]; rfl)⟩, hb.trans (low_setCells hm9 _ _ _), trivial, fun j h => grV_put w0.heap.size R r g l ao len cap k x j _ w1 KB9 ht9 hl9 h⟩
    · intro f w1 hb hJ ⟨h18, _⟩ K hK
      replace h18 : f 18 = _ := h18
      simp only [over, overL, Nat.reduceAdd, h18]
      go_simp
      exact hK _ _ ⟨_, by simp only [over, overL, Nat.reduceAdd, h18]; rfl, rfl, hb, trivial, fun _ h => h⟩
    · intro f w1 hb hJ ⟨h19, _⟩ K hK
      replace h19 : f 19 = _ := h19
      simp only [over, overL, Nat.reduceAdd, h19]
      go_simp
      exact hK _ _ ⟨_, by simp only [over, overL, Nat.reduceAdd, h19]; rfl, rfl, hb, trivial, fun _ h => h⟩
  · intro fr w6 hb6 hJ hv
    have h6 : fr 6 = .int .i64 (k : Int) := hv.2.2.2.2.2.2.2.2.2.2.1
    have h7 : fr 7 = .int .i64 x := hv.2.2.2.2.2.2.2.2.2.2.2.1
    obtain ⟨X, h5, hX, KX⟩ := (show IsD w0.heap.size g (fr 5) w6 from hv.2.2.2.2.2.2.2.2.2.1)
    obtain ⟨w7, hw7⟩ : ∃ y, y = w6.alloc zfo := ⟨_, rfl⟩
    have HB7 : Hid (Below w.heap.size w w7) := by show Below _ _ _; rw [hw7]; exact below_on (below_on HB0.out hb6) (one_new _ _)
    have KR6 : Hid (Bk R (rgc r) w6) := KR0.out.later hb6
    have KX7 : Hid (Bk X (fc g) w7) := by show Bk _ _ _; rw [hw7]; exact KX.later (one_new _ _)
    have KZ7 : Hid (Bk w6.heap.size zfc w7) := by show Bk _ _ _; rw [hw7]; exact Bk.new w6 zfc 29 w6.heap.size rfl
    have HRd7 : Hid (RdC w7 ao l) := by show RdC _ _ _; rw [hw7]; exact (HRd0.out.later hb6).later (one_new _ _)
    have KR7 : Hid (Bk R (rgc r) w7) := by show Bk _ _ _; rw [hw7]; exact KR6.out.later (one_new _ _)
    obtain ⟨Z, hZ⟩ : ∃ b, b = w6.heap.size := ⟨_, rfl⟩
    rw [← hZ] at KZ7
    have hRw : R < w6.heap.size := KR6.out.1
    simp only [over_eq, overL, h5, h6, h7, Nat.reduceAdd]
    clear hv h5 h6 h7 hb6 hJ KX hX
    refine HKK.out _ _ ?_
    clear HKK
    have r0 := KR6.out.c 0 rfl
    have r1 := KR6.out.c 1 rfl
    have r2 := KR6.out.c 2 rfl
    have r3 := KR6.out.c 3 rfl
    have r4 := KR6.out.c 4 rfl
    have r5 := KR6.out.c 5 rfl
    have r6 := KR6.out.c 6 rfl
    have r7 := KR6.out.c 7 rfl
    have r8 := KR6.out.c 8 rfl
    have r9 := KR6.out.c 9 rfl
    have r10 := KR6.out.c 10 rfl
    have r11 := KR6.out.c 11 rfl
    go_wp2_with fail
    simp only [← hw7, ← hZ]
    clear hw7 hZ hRw KR6 r0 r1 r2 r3 r4 r5 r6 r7 r8 r9 r10 r11
    refine (HRM.out _).mono ?_
    rintro e w8 ⟨rfl, hb8⟩
    have HB8 : Hid (Below w.heap.size w w8) := below_on HB7.out hb8
    have KX8 : Hid (Bk X (fc g) w8) := KX7.out.later hb8
    have KZ8 : Hid (Bk Z zfc w8) := KZ7.out.later hb8
    have KR8 : Hid (Bk R (rgc r) w8) := KR7.out.later hb8
    have HRd8 : Hid (RdC w8 ao l) := HRd7.out.later hb8
    clear hb8 KX7 KZ7 KR7 HRd7 HB7
    have r0 := KR8.out.c 0 rfl
    have r1 := KR8.out.c 1 rfl
    have r2 := KR8.out.c 2 rfl
    have r3 := KR8.out.c 3 rfl
    have r4 := KR8.out.c 4 rfl
    have r5 := KR8.out.c 5 rfl
    have r6 := KR8.out.c 6 rfl
    have r7 := KR8.out.c 7 rfl
    have r8 := KR8.out.c 8 rfl
    have r9 := KR8.out.c 9 rfl
    have r10 := KR8.out.c 10 rfl
    have r11 := KR8.out.c 11 rfl
    go_wp2_with fail
    clear r0 r1 r2 r3 r4 r5 r6 r7 r8 r9 r10 r11
    refine (HRf.out _ HRd8.out).mono ?_
    rintro e w9 ⟨rfl, hb9⟩
    have KX9 : Hid (Bk X (fc g) w9) := KX8.out.later hb9
    obtain ⟨w10, hw10⟩ : ∃ y, y = w9.alloc (fo g) := ⟨_, rfl⟩
    have HB10 : Hid (Below w.heap.size w w10) := by show Below _ _ _; rw [hw10]; exact below_on (below_on HB8.out hb9) (one_new _ _)
    have lX := KX9.out.1
    clear hb9 KX8 KZ8 KR8 HRd8 HB8
    have x0 := KX9.out.c 0 rfl
    have x1 := KX9.out.c 1 rfl
    have x2 := KX9.out.c 2 rfl
    have x3 := KX9.out.c 3 rfl
    have x4 := KX9.out.c 4 rfl
    have x5 := KX9.out.c 5 rfl
    have x6 := KX9.out.c 6 rfl
    have x7 := KX9.out.c 7 rfl
    have x8 := KX9.out.c 8 rfl
    go_wp2
    go_ret
    exact ⟨by simp, by rw [hw10] at HB10; exact HB10.out⟩
theorem firmRuns_any (a : Nat → Addr) (n : Nat) (r : Rg) (ao : Option Addr) (cap : Nat) (l : List Cm) (w : World) (hg : Gl a n w) (hR : RdC w ao l) (hl : l.length * 40 ≤ 140737488351232) (hn : ao = none → cap = 0) : Calls Tryd.prog 4 #[rgv r, .slice ao l.length cap] w fun e w' => e = .returned (.bool true) ∧ Below w.heap.size w w' := by
  cases h : rgOk r with
  | false => exact firmRuns_a a n r ao cap l w hg hR hl hn h
  | true => exact firmRuns_b a n r ao cap l w hg hR hl hn h
end Go.Proofs.YtgahlhfgpkklaaaDoor
