/- leastHeight walked. -/
import Derived.Test.YtiafcgbohckmmaaLst
import Derived.Test.YtiafcgbohckmmaaPf
namespace Go.Proofs.Ytiafcgbohckmmaa
open Go.RowKit

theorem wrap_is {x : Int} (h : -9223372036854775808 ≤ x) (h2 : x ≤ 9223372036854775807) : IntKind.i64.wrap x = x := by
  rw [IntWalk.i64_left]; exact IntWalk.wrap64_in _ ⟨h, h2⟩
def lh3V (l : List Bx) (x y : Bx) (h : Int) (ao : Option Addr) (cap : Nat) (d : Nat) (v : Value) (w : World) : Prop :=
  match d with
  | 12 => v = .slice ao l.length cap
  | 13 => v = bv x
  | 14 => v = pv ⟨0, 0, h⟩
  | 15 => v = bv (movB x ⟨0, 0, h⟩)
  | 16 => v = bv y
  | 17 => v = pv ⟨0, 0, h⟩
  | 18 => v = bv (movB y ⟨0, 0, h⟩)
  | 19 => IsSl [movB x ⟨0, 0, h⟩, movB y ⟨0, 0, h⟩] v w
  | 20 => IsMeets [movB x ⟨0, 0, h⟩, movB y ⟨0, 0, h⟩] v w
  | 21 => v = .int .i64 (idx (hits x y h) l)
  | 9 => v = .int .i64 (idx (hits x y h) l)
  | _ => True
theorem lh3V_mono (l : List Bx) (x y : Bx) (h : Int) (ao : Option Addr) (cap : Nat) (d : Nat) (v : Value) (w w' : World) (hv : lh3V l x y h ao cap d v w) (hb : Below w.heap.size w w') : lh3V l x y h ao cap d v w' := by
  unfold lh3V at hv ⊢
  split <;> simp only [] at hv <;> first | exact hv | exact hv.later hb
def lh6V (ao : Option Addr) (n cap B b off k : Nat) (hz lz : Int) (d : Nat) (v : Value) (_w : World) : Prop :=
  match d with
  | 25 => v = .slice ao n cap
  | 26 => v = .int .i64 (k : Int)
  | 27 => v = .pointer (some ⟨b, off + k * 6, none⟩)
  | 28 => v = .pointer (some ⟨b, off + k * 6 + 3, none⟩)
  | 29 => v = .pointer (some ⟨b, off + k * 6 + 5, none⟩)
  | 30 => v = .int .i64 hz
  | 31 => v = .pointer (some ⟨B, 0, none⟩)
  | 32 => v = .pointer (some ⟨B, 2, none⟩)
  | 33 => v = .int .i64 lz
  | 34 => v = .int .i64 (hz - lz)
  | 7 => v = .int .i64 (hz - lz)
  | _ => True
set_option maxHeartbeats 6400000 in
set_option maxRecDepth 100000 in
theorem least_any (ao : Option Addr) (cap : Nat) (l : List Bx) (x y : Bx) (H : Int) (w : World) (hL : Bxs w ao l) (hll : l.length ≤ 40) (hg : badL l = 0) (hx : SmB x) (hy : SmB y) (hz : x.lz = y.lz) (hxz : -30000000 ≤ x.lz) (hxz2 : x.lz ≤ 30000000) (hH : Least l x y H) :
    Calls Try.prog 40 #[.slice ao l.length cap, bv x, bv y] w fun e w' => e = .returned (.int .i64 H) ∧ Below w.heap.size w w' := by
  have HL : Hid (Bxs w ao l) := hL
  have HG : Hid (∀ b ∈ l, -10000000 ≤ b.hz ∧ b.hz ≤ 10000000) := fun b hb => by
    have h := nearB_iff.1 (bad1_ok.1 (badL_zero.1 hg b hb)).1
    exact h.2.2.2.2.2
  have HX : Hid (SmB x) := hx
  have HY : Hid (SmB y) := hy
  have HZ : Hid (x.lz = y.lz) := hz
  have HH : Hid (Least l x y H) := hH
  clear hL hg hx hy hz hH
  obtain ⟨w0, hw0⟩ : ∃ w0, w0 = (w.alloc (bo x)).alloc (bo y) := ⟨_, rfl⟩
  have HW0 : Hid (w0 = (w.alloc (bo x)).alloc (bo y)) := hw0
  have HB0 : Hid (Below w.heap.size w w0) := by show Below _ _ _; rw [hw0]; exact below_grow _ (Nat.le_refl _) (below_grow _ (Nat.le_refl _) (Below.refl _ _) _) _
  have KX0 : Hid (Bf w.heap.size x w0) := by show Bf _ _ _; rw [hw0]; exact (Bf.new w x).later (below_grow _ (Nat.le_refl _) (Below.refl _ _) _)
  have KY0 : Hid (Bf (w.heap.size + 1) y w0) := by
    show Bf _ _ _
    rw [hw0]
    have h := Bf.new (w.alloc (bo x)) y
    simpa using h
  clear hw0
  go_enter Try.func40, Try.ntmps40
  go_wp2_with fail
  rw [← HW0.out]
  go_loopw [7] (fun i wr => ∃ h : Int, i = .int .i64 h ∧ 0 ≤ h ∧ h ≤ 100000000 ∧ (∀ k, 0 ≤ k → k < h → ∃ b ∈ l, hits x y k b = true) ∧ Below w0.heap.size w0 wr) (fun i _ => above l x (intOf i))
  case atStart => exact ⟨0, rfl, Int.le_refl _, by decide, fun k h1 h2 => by omega, Below.refl _ _⟩
  case round =>
    obtain ⟨h, rfl, h0, h1, hbl, hb⟩ := hrel
    have HBL : Hid (∀ k, 0 ≤ k → k < h → ∃ b ∈ l, hits x y k b = true) := hbl
    have HB : Hid (Below w0.heap.size w0 wr) := hb
    clear hbl hb
    go_wp2_with fail
    rename_i KK hk
    have HKK := (show Hid _ from hk)
    clear hk
    obtain ⟨w1, hw1⟩ : ∃ w1, w1 = wr.alloc (po ⟨0, 0, h⟩) := ⟨_, rfl⟩
    have HB1 : Hid (Below w0.heap.size w0 w1) := by show Below _ _ _; rw [hw1]; exact below_grow _ (Nat.le_refl _) HB.out _
    have KP1 : Hid (Pf wr.heap.size ⟨0, 0, h⟩ w1) := by show Pf _ _ _; rw [hw1]; exact Pf.new wr _
    rw [← hw1]
    clear hw1
    obtain ⟨⟨xl, x0, x1, x2, x3, x4, x5⟩, _⟩ := KX0.out.later HB1.out
    simp only [Nat.zero_add] at x1 x2 x3 x4 x5
    obtain ⟨⟨yl, y0, y1, y2, y3, y4, y5⟩, _⟩ := KY0.out.later HB1.out
    simp only [Nat.zero_add] at y1 y2 y3 y4 y5
    obtain ⟨pl, p0, p1, p2⟩ := KP1.out
    simp only at p0 p1 p2
    have HP : Hid (SmP ⟨0, 0, h⟩) := by show SmP _; unfold SmP; simp only; omega
    refine region_inv [false, false, false, false, false, false, false, false, false, true, false, false, true, true, true, true, true, true, true, true, true, true, false, false, false, false, false, false, false, false, false, false, false, false, false]
      [(12, [], none), (13, [], none), (14, [], none), (15, [13, 14], none), (16, [], none), (17, [], none), (18, [16, 17], none), (19, [15, 18], none), (20, [19], none), (21, [12, 20], none), (9, [21], none)]
      (lh3V l x y h ao cap) (by kernel_rfl) (by kernel_rfl) (lh3V_mono l x y h ao cap) ?_ ?_
    · refine ⟨?_, ?_, ?_, ?_, ?_, ?_, ?_, ?_, ?_, ?_, ?_, trivial⟩
      · intro f wr2 hb _ K hK
        simp only [over, overL, Nat.reduceAdd]
        go_simp
        exact hK _ _ ⟨_, rfl, by simp only [over, overL, Nat.reduceAdd]; rfl, Below.refl _ _⟩
      · intro f wr2 hb _ K hK
        have cx0 := cell_later hb x0
        have cx1 := cell_later hb x1
        have cx2 := cell_later hb x2
        have cx3 := cell_later hb x3
        have cx4 := cell_later hb x4
        have cx5 := cell_later hb x5
        simp only [over, overL, Nat.reduceAdd]
        go_simp
        exact hK _ _ ⟨_, rfl, by simp only [over, overL, Nat.reduceAdd]; rfl, Below.refl _ _⟩
      · intro f wr2 hb _ K hK
        have cp0 := cell_later hb p0
        have cp1 := cell_later hb p1
        have cp2 := cell_later hb p2
        simp only [over, overL, Nat.reduceAdd]
        go_simp
        exact hK _ _ ⟨_, rfl, by simp only [over, overL, Nat.reduceAdd]; rfl, Below.refl _ _⟩
      · intro f wr2 hb ⟨h13, h14, _⟩ K hK
        have h13 : f 13 = _ := h13
        have h14 : f 14 = _ := h14
        simp only [over, overL, Nat.reduceAdd, h13, h14]
        go_simp
        refine (moved_any x ⟨0, 0, h⟩ wr2 HX.out HP.out).mono ?_
        rintro e w9 ⟨rfl, hbn⟩
        exact hK _ _ ⟨_, rfl, by simp only [over, overL, Nat.reduceAdd, h13, h14]; rfl, hbn⟩
      · intro f wr2 hb _ K hK
        have cy0 := cell_later hb y0
        have cy1 := cell_later hb y1
        have cy2 := cell_later hb y2
        have cy3 := cell_later hb y3
        have cy4 := cell_later hb y4
        have cy5 := cell_later hb y5
        simp only [over, overL, Nat.reduceAdd]
        go_simp
        exact hK _ _ ⟨_, rfl, by simp only [over, overL, Nat.reduceAdd]; rfl, Below.refl _ _⟩
      · intro f wr2 hb _ K hK
        have cp0 := cell_later hb p0
        have cp1 := cell_later hb p1
        have cp2 := cell_later hb p2
        simp only [over, overL, Nat.reduceAdd]
        go_simp
        exact hK _ _ ⟨_, rfl, by simp only [over, overL, Nat.reduceAdd]; rfl, Below.refl _ _⟩
      · intro f wr2 hb ⟨h16, h17, _⟩ K hK
        have h16 : f 16 = _ := h16
        have h17 : f 17 = _ := h17
        simp only [over, overL, Nat.reduceAdd, h16, h17]
        go_simp
        refine (moved_any y ⟨0, 0, h⟩ wr2 HY.out HP.out).mono ?_
        rintro e w9 ⟨rfl, hbn⟩
        exact hK _ _ ⟨_, rfl, by simp only [over, overL, Nat.reduceAdd, h16, h17]; rfl, hbn⟩
      · intro f wr2 hb ⟨h15, h18, _⟩ K hK
        have h15 : f 15 = _ := h15
        have h18 : f 18 = _ := h18
        simp only [over, overL, Nat.reduceAdd, h15, h18]
        go_simp
        exact hK _ _ ⟨_, new2 (movB x ⟨0, 0, h⟩) (movB y ⟨0, 0, h⟩) wr2, by simp only [over, overL, Nat.reduceAdd, h15, h18]; rfl, (Below.refl _ _).alloc (Nat.le_refl _) _⟩
      · intro f wr2 hb ⟨h19, _⟩ K hK
        simp only [over, overL, Nat.reduceAdd]
        go_simp
        refine (meets_is [movB x ⟨0, 0, h⟩, movB y ⟨0, 0, h⟩] _ wr2 h19).mono ?_
        rintro e w9 ⟨u, rfl, hu, hbn⟩
        exact hK _ _ ⟨_, hu, by simp only [over, overL, Nat.reduceAdd]; rfl, hbn⟩
      · intro f wr2 hb ⟨h12, h20, _⟩ K hK
        have h12 : f 12 = _ := h12
        obtain ⟨B, e20, _⟩ := id h20
        have h20 : IsMeets [movB x ⟨0, 0, h⟩, movB y ⟨0, 0, h⟩] (f 20) wr2 := h20
        rw [e20] at h20
        have ht := IsMeets.tests (by simp) h20
        rw [any_two] at ht
        simp only [over, overL, Nat.reduceAdd, h12, e20]
        go_simp
        refine (indexFunc_any 42 #[ptr B] (hits x y h) ao cap l wr2 en42 ht ((HL.out.next HB0.out).next (HB1.out.trans (hb.mono HB1.out.size))) (by omega)).mono ?_
        rintro e w9 ⟨rfl, hbn⟩
        exact hK _ _ ⟨_, rfl, by simp only [over, overL, Nat.reduceAdd, h12, e20]; rfl, hbn⟩
      · intro f wr2 hb ⟨h21, _⟩ K hK
        have h21 : f 21 = _ := h21
        simp only [over, overL, Nat.reduceAdd, h21]
        go_simp
        exact hK _ _ ⟨_, rfl, by simp only [over, overL, Nat.reduceAdd, h21]; rfl, Below.refl _ _⟩
    intro f w2 hb2 hv
    have h9 : f 9 = .int .i64 (idx (hits x y h) l) := hv.2.2.2.2.2.2.2.2.2.2.1
    have HB2 : Hid (Below w0.heap.size w0 w2) := HB1.out.trans (hb2.mono HB1.out.size)
    clear xl x0 x1 x2 x3 x4 x5 yl y0 y1 y2 y3 y4 y5 pl p0 p1 p2 hb2 hv
    simp only [over_eq, overL, Nat.reduceAdd, h9]
    clear h9
    rcases idx_cases (hits x y h) l with ⟨e, hfree⟩ | ⟨k, hkl, e, hhit, _⟩
    · rw [e]
      have HE : Hid (h = H) := by
        show h = H
        obtain ⟨q0, q1, q2, _⟩ := HH.out
        by_cases c1 : h < H
        · obtain ⟨b, hb, hm⟩ := q2 h h0 c1
          rw [hfree b hb] at hm; cases hm
        · by_cases c2 : H < h
          · obtain ⟨b, hb, hm⟩ := HBL.out H q0 c2
            rw [q1 b hb] at hm; cases hm
          · omega
      clear e hfree
      refine HKK.out _ _ ?_
      go_wp2
      go_ret
      exact ⟨ret_int HE.out, HB0.out.trans (HB2.out.mono HB0.out.size)⟩
    · rw [e]
      have htop := hits_top HZ.out hhit
      have hgz := HG.out _ (List.getElem_mem hkl)
      have HUP : Hid (∀ j, h ≤ j → j < (l[k]'hkl).hz - x.lz → hits x y j (l[k]'hkl) = true) := fun j j1 j2 => hits_up HZ.out hhit j1 j2
      have HLT : Hid (above l x ((l[k]'hkl).hz - x.lz) < above l x h) := above_lt (List.getElem_mem hkl) htop rfl
      have HMEM : Hid ((l[k]'hkl) ∈ l) := List.getElem_mem hkl
      obtain ⟨b, off, rfl, hbx⟩ := ((HL.out.next HB0.out).next HB2.out).at hkl
      clear e hhit
      generalize l[k]'hkl = c at *
      obtain ⟨_, c0, c1, c2, c3, c4, c5⟩ := hbx
      obtain ⟨⟨_, x0, x1, x2, x3, x4, x5⟩, _⟩ := KX0.out.later HB2.out
      simp only [Nat.zero_add] at x1 x2 x3 x4 x5
      obtain ⟨z0, z1⟩ := hgz
      refine HKK.out _ _ ?_
      clear HKK
      have hki : (k : Int) < (l.length : Int) := by omega
      have hw : IntKind.i64.wrap (c.hz - x.lz) = c.hz - x.lz := wrap_is (by omega) (by omega)
      go_wp2_with fail
      refine region_inv [false, false, false, false, false, false, false, true, false, false, false, false, false, false, false, false, false, false, false, false, false, false, false, false, false, true, true, true, true, true, true, true, true, true, true]
        [(25, [], none), (26, [], none), (27, [25, 26], none), (28, [27], none), (29, [28], none), (30, [29], none), (31, [], none), (32, [31], none), (33, [32], none), (34, [30, 33], none), (7, [34], none)]
        (lh6V (some ⟨b, off, none⟩) l.length cap w.heap.size b off k c.hz x.lz) (by kernel_rfl) (by kernel_rfl) (fun _ _ _ _ h _ => h) ?_ ?_
      · refine ⟨?_, ?_, ?_, ?_, ?_, ?_, ?_, ?_, ?_, ?_, ?_, trivial⟩
        · intro f wr2 hb _ K hK
          simp only [over, overL, Nat.reduceAdd]
          go_simp
          exact hK _ _ ⟨_, rfl, by simp only [over, overL, Nat.reduceAdd]; rfl, Below.refl _ _⟩
        · intro f wr2 hb _ K hK
          simp only [over, overL, Nat.reduceAdd]
          go_simp
          exact hK _ _ ⟨_, rfl, by simp only [over, overL, Nat.reduceAdd]; rfl, Below.refl _ _⟩
        · intro f wr2 hb ⟨h25, h26, _⟩ K hK
          have h25 : f 25 = _ := h25
          have h26 : f 26 = _ := h26
          simp only [over, overL, Nat.reduceAdd, h25, h26]
          go_simp
          exact hK _ _ ⟨_, rfl, by simp only [over, overL, Nat.reduceAdd, h25, h26]; rfl, Below.refl _ _⟩
        · intro f wr2 hb ⟨h27, _⟩ K hK
          have h27 : f 27 = _ := h27
          simp only [over, overL, Nat.reduceAdd, h27]
          go_simp
          exact hK _ _ ⟨_, rfl, by simp only [over, overL, Nat.reduceAdd, h27]; rfl, Below.refl _ _⟩
        · intro f wr2 hb ⟨h28, _⟩ K hK
          have h28 : f 28 = _ := h28
          simp only [over, overL, Nat.reduceAdd, h28]
          go_simp
          exact hK _ _ ⟨_, rfl, by simp only [over, overL, Nat.reduceAdd, h28]; rfl, Below.refl _ _⟩
        · intro f wr2 hb ⟨h29, _⟩ K hK
          have h29 : f 29 = _ := h29
          have cc := cell_later hb c5
          simp only [over, overL, Nat.reduceAdd, h29]
          go_simp
          exact hK _ _ ⟨_, rfl, by simp only [over, overL, Nat.reduceAdd, h29]; rfl, Below.refl _ _⟩
        · intro f wr2 hb _ K hK
          simp only [over, overL, Nat.reduceAdd]
          go_simp
          exact hK _ _ ⟨_, rfl, by simp only [over, overL, Nat.reduceAdd]; rfl, Below.refl _ _⟩
        · intro f wr2 hb ⟨h31, _⟩ K hK
          have h31 : f 31 = _ := h31
          simp only [over, overL, Nat.reduceAdd, h31]
          go_simp
          exact hK _ _ ⟨_, rfl, by simp only [over, overL, Nat.reduceAdd, h31]; rfl, Below.refl _ _⟩
        · intro f wr2 hb ⟨h32, _⟩ K hK
          have h32 : f 32 = _ := h32
          have cc := cell_later hb x2
          simp only [over, overL, Nat.reduceAdd, h32]
          go_simp
          exact hK _ _ ⟨_, rfl, by simp only [over, overL, Nat.reduceAdd, h32]; rfl, Below.refl _ _⟩
        · intro f wr2 hb ⟨h30, h33, _⟩ K hK
          have h30 : f 30 = _ := h30
          have h33 : f 33 = _ := h33
          simp only [over, overL, Nat.reduceAdd, h30, h33]
          go_simp
          exact hK _ _ ⟨_, rfl, by simp only [over, overL, Nat.reduceAdd, h30, h33]; rfl, Below.refl _ _⟩
        · intro f wr2 hb ⟨h34, _⟩ K hK
          have h34 : f 34 = _ := h34
          simp only [over, overL, Nat.reduceAdd, h34]
          go_simp
          exact hK _ _ ⟨_, rfl, by simp only [over, overL, Nat.reduceAdd, h34]; rfl, Below.refl _ _⟩
      intro f w3 hb3 hv
      have h7 : f 7 = .int .i64 (c.hz - x.lz) := hv.2.2.2.2.2.2.2.2.2.2.1
      have HB3 : Hid (Below w0.heap.size w0 w3) := HB2.out.trans (hb3.mono HB2.out.size)
      clear c0 c1 c2 c3 c4 c5 x0 x1 x2 x3 x4 x5 hb3 hv
      simp only [over_eq, overL, Nat.reduceAdd, h7]
      clear h7
      go_wp2
      go_roundw
      case rel =>
        refine ⟨c.hz - x.lz, rfl, by omega, by omega, fun j j0 j1 => ?_, HB3.out⟩
        by_cases hj : j < h
        · exact HBL.out j j0 hj
        · exact ⟨c, HMEM.out, HUP.out j (by omega) j1⟩
      case measure => exact HLT.out
end Go.Proofs.Ytiafcgbohckmmaa
