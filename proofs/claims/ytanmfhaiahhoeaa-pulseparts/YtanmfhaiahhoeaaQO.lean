/- PulseParts walked. -/
import Derived.Test.YtanmfhaiahhoeaaQM
import Derived.Deep.Cut
namespace Go.Proofs.Ytanmfhaiahhoeaa
open Go.RowKit

theorem Pnts.kpt {xs : List V3} {G : Nat} {w w1 : World} {M : Nat → Prop} (h : Pnts xs G w) (hk : Kpt M w w1) (hG : ¬ M G) : Pnts xs G w1 :=
  ⟨Nat.lt_of_lt_of_le h.1 hk.size, fun k hk2 => ⟨(World.cell?_of_block (hk.block G h.1 hG)).trans (h.2 k hk2).1, (World.cell?_of_block (hk.block G h.1 hG)).trans (h.2 k hk2).2.1, (World.cell?_of_block (hk.block G h.1 hG)).trans (h.2 k hk2).2.2⟩⟩
theorem curve32 (W : World) : Calls Try.prog 11 #[v3 3 0 0, .int .i64 2] W fun e w' => ∃ G, e = .returned (.tuple #[.slice (some ⟨G, 0, none⟩) 2 2, .int .i64 0]) ∧ (w'.cell? ⟨G, 0, none⟩ = some (.int .i64 2) ∧ w'.cell? ⟨G, 3, none⟩ = some (.int .i64 1)) ∧ Below W.heap.size W w' := by
  refine (curve_yes 3 0 0 2 W (by decide) (by decide) (by decide)).mono ?_
  rintro e w' ⟨G, h1, h2, h3, h4⟩
  exact ⟨G, h1, ⟨(h3.2 0 (by decide)).1, (h3.2 1 (by decide)).1⟩, h4⟩
theorem one_abs {x : Int} {p k : Nat} (hp : 0 < p) : one x.natAbs p k ≤ x.natAbs + 1 := Nat.le_trans (one_near hp).2 (Nat.add_le_add_right (Nat.div_le_self _ _) 1)
theorem stp_in {x : Int} {p k : Nat} (hp : 0 < p) : -(x.natAbs : Int) - 1 ≤ stp x p k ∧ stp x p k ≤ (x.natAbs : Int) + 1 := by
  have := one_abs (x := x) (k := k) hp
  unfold stp sg
  split <;> omega
theorem stp_even {x : Int} {p k j : Nat} (hp : 0 < p) : stp x p k - stp x p j ≤ 1 ∧ -1 ≤ stp x p k - stp x p j := by
  have h1 := one_near (a := x.natAbs) (k := k) hp
  have h2 := one_near (a := x.natAbs) (k := j) hp
  unfold stp sg
  generalize x.natAbs / p = q at *
  split <;> omega
theorem made_full' {x y z : Int} {p : Nat} (hp : 0 < p) : made x p p = x ∧ made y p p = y ∧ made z p p = z := ⟨made_full hp, made_full hp, made_full hp⟩
set_option linter.unusedVariables false in
def pp11V (x y z : Int) (S G p k : Nat) (d : Nat) (v : Value) (_ : World) : Prop :=
  match d with
  | 52 => v = .pointer (some ⟨S, 0, none⟩)
  | 53 => v = .int .i64 (made x p k)
  | 54 => v = .slice (some ⟨G, 0, none⟩) p p
  | 55 => v = .int .i64 (k : Nat)
  | 56 => v = .pointer (some ⟨G, k * 3, none⟩)
  | 57 => v = .pointer (some ⟨G, k * 3, none⟩)
  | 58 => v = .int .i64 (stp x p k)
  | 59 => v = .int .i64 (made x p (k + 1))
  | 60 => v = .pointer (some ⟨S, 1, none⟩)
  | 61 => v = .int .i64 (made y p k)
  | 62 => v = .slice (some ⟨G, 0, none⟩) p p
  | 63 => v = .int .i64 (k : Nat)
  | 64 => v = .pointer (some ⟨G, k * 3, none⟩)
  | 65 => v = .pointer (some ⟨G, k * 3 + 1, none⟩)
  | 66 => v = .int .i64 (stp y p k)
  | 67 => v = .int .i64 (made y p (k + 1))
  | 68 => v = .pointer (some ⟨S, 2, none⟩)
  | 69 => v = .int .i64 (made z p k)
  | 70 => v = .slice (some ⟨G, 0, none⟩) p p
  | 71 => v = .int .i64 (k : Nat)
  | 72 => v = .pointer (some ⟨G, k * 3, none⟩)
  | 73 => v = .pointer (some ⟨G, k * 3 + 2, none⟩)
  | 74 => v = .int .i64 (stp z p k)
  | 75 => v = .int .i64 (made z p (k + 1))
  | 76 => v = v3 (made x p (k + 1)) (made y p (k + 1)) (made z p (k + 1))
  | _ => True
set_option linter.unusedVariables false in
theorem pp11V_mono (x y z : Int) (S G p k : Nat) (d : Nat) (v : Value) (w w' : World) (h : pp11V x y z S G p k d v w) (_ : Below w.heap.size w w') : pp11V x y z S G p k d v w' := h
set_option maxHeartbeats 6400000 in
set_option maxRecDepth 100000 in
theorem pulseParts_no (x y z p ee : Int) (w : World) (hno : ∀ W, Calls Try.prog 11 #[v3 x y z, .int .i64 p] W fun e w' => e = .returned (.tuple #[.slice none 0 0, .int .i64 ee]) ∧ Below W.heap.size W w') (he : (ee != 0) = true) :
    Calls Try.prog 5 #[v3 x y z, .int .i64 p] w fun e w' => e = .returned (.bool true) ∧ Below w.heap.size w w' := by
  have HNO : Hid (∀ W, Calls Try.prog 11 #[v3 x y z, .int .i64 p] W fun e w' => e = .returned (.tuple #[.slice none 0 0, .int .i64 ee]) ∧ Below W.heap.size W w') := hno
  clear hno
  have H32 : Hid (∀ W, Calls Try.prog 11 #[v3 3 0 0, .int .i64 2] W fun e w' => ∃ G, e = .returned (.tuple #[.slice (some ⟨G, 0, none⟩) 2 2, .int .i64 0]) ∧ (w'.cell? ⟨G, 0, none⟩ = some (.int .i64 2) ∧ w'.cell? ⟨G, 3, none⟩ = some (.int .i64 1)) ∧ Below W.heap.size W w') := curve32
  have HB0 : Hid (Below w.heap.size w (w.alloc (o3 x y z 23))) := (Below.refl _ _).alloc (Nat.le_refl _) _
  have KR0 : Hid (Bk w.heap.size [.int .i64 x, .int .i64 y, .int .i64 z] (w.alloc (o3 x y z 23))) := Bk.new w [.int .i64 x, .int .i64 y, .int .i64 z] 23 w.heap.size rfl
  go_enter Try.func5, Try.ntmps5
  go_wp2_with fail
  refine (H32.out _).mono ?_
  rintro e w1 ⟨G0, rfl, ⟨t0, t1⟩, hb1⟩
  have HB1 : Hid (Below w.heap.size w w1) := HB0.out.trans (hb1.mono HB0.out.size)
  have KR1 : Hid (Bk w.heap.size [.int .i64 x, .int .i64 y, .int .i64 z] w1) := KR0.out.later hb1
  clear hb1
  go_wp2_with fail
  go_big_quiet (fail)
  have HB2 : Hid (Below w.heap.size w (w1.drewN nq)) := ⟨HB1.out.os, HB1.out.tape, HB1.out.output, HB1.out.size, HB1.out.block⟩
  have KR2 : Hid (Bk w.heap.size [.int .i64 x, .int .i64 y, .int .i64 z] (w1.drewN nq)) := KR1.out
  generalize w1.drewN nq = w2 at *
  clear t0 t1
  have r0 := KR2.out.c 0 rfl
  have r1 := KR2.out.c 1 rfl
  have r2 := KR2.out.c 2 rfl
  go_wp2_with fail
  refine (HNO.out _).mono ?_
  rintro e w3 ⟨rfl, hb3⟩
  have HB3 : Hid (Below w.heap.size w w3) := HB2.out.trans (hb3.mono HB2.out.size)
  clear hb3
  go_wp2
  go_ret
  exact ⟨rfl, HB3.out⟩
set_option maxHeartbeats 6400000 in
set_option maxRecDepth 100000 in
theorem pulseParts_yes (x y z : Int) (p : Nat) (w : World) (hm : mv x y z = true) (hp1 : 1 ≤ p) (hp2 : p ≤ 1000) :
    Calls Try.prog 5 #[v3 x y z, .int .i64 (p : Nat)] w fun e w' => e = .returned (.bool true) ∧ Below w.heap.size w w' := by
  have HM : Hid ((-20000 ≤ x ∧ x ≤ 20000) ∧ (-20000 ≤ y ∧ y ≤ 20000) ∧ (-20000 ≤ z ∧ z ≤ 20000)) := mv_iff.1 hm
  have HCU : Hid (∀ W, Calls Try.prog 11 #[v3 x y z, .int .i64 (p : Nat)] W fun e w' => ∃ G, e = .returned (.tuple #[.slice (some ⟨G, 0, none⟩) p p, .int .i64 0]) ∧ Pnts (curveL x y z p) G w' ∧ Below W.heap.size W w') := fun W => (curve_yes x y z p W hm hp1 hp2).mono fun e w' ⟨G, h1, h2, h3, h4⟩ => ⟨G, h1, h3, h4⟩
  clear hm
  have H32 : Hid (∀ W, Calls Try.prog 11 #[v3 3 0 0, .int .i64 2] W fun e w' => ∃ G, e = .returned (.tuple #[.slice (some ⟨G, 0, none⟩) 2 2, .int .i64 0]) ∧ (w'.cell? ⟨G, 0, none⟩ = some (.int .i64 2) ∧ w'.cell? ⟨G, 3, none⟩ = some (.int .i64 1)) ∧ Below W.heap.size W w') := curve32
  have HB0 : Hid (Below w.heap.size w (w.alloc (o3 x y z 23))) := (Below.refl _ _).alloc (Nat.le_refl _) _
  have KR0 : Hid (Bk w.heap.size [.int .i64 x, .int .i64 y, .int .i64 z] (w.alloc (o3 x y z 23))) := Bk.new w [.int .i64 x, .int .i64 y, .int .i64 z] 23 w.heap.size rfl
  go_enter Try.func5, Try.ntmps5
  go_wp2_with fail
  refine (H32.out _).mono ?_
  rintro e w1 ⟨G0, rfl, ⟨t0, t1⟩, hb1⟩
  have HB1 : Hid (Below w.heap.size w w1) := HB0.out.trans (hb1.mono HB0.out.size)
  have KR1 : Hid (Bk w.heap.size [.int .i64 x, .int .i64 y, .int .i64 z] w1) := KR0.out.later hb1
  clear hb1
  go_wp2_with fail
  go_big_quiet (fail)
  have HB2 : Hid (Below w.heap.size w (w1.drewN nq)) := ⟨HB1.out.os, HB1.out.tape, HB1.out.output, HB1.out.size, HB1.out.block⟩
  have KR2 : Hid (Bk w.heap.size [.int .i64 x, .int .i64 y, .int .i64 z] (w1.drewN nq)) := KR1.out
  generalize w1.drewN nq = w2 at *
  clear t0 t1
  have r0 := KR2.out.c 0 rfl
  have r1 := KR2.out.c 1 rfl
  have r2 := KR2.out.c 2 rfl
  go_wp2_with fail
  refine (HCU.out _).mono ?_
  rintro e w3 ⟨G, rfl, hp, hb3⟩
  have HP3 : Hid (Pnts (curveL x y z p) G w3) := hp
  have KR3 : Hid (Bk w.heap.size [.int .i64 x, .int .i64 y, .int .i64 z] w3) := KR2.out.later hb3
  have HB3 : Hid (Below w.heap.size w w3) := HB2.out.trans (hb3.mono HB2.out.size)
  clear hb3 hp r0 r1 r2
  go_wp2_with fail
  obtain ⟨S, hS⟩ : ∃ S, S = w3.heap.size := ⟨_, rfl⟩
  obtain ⟨w4, hw4⟩ : ∃ q, q = w3.alloc (o3 0 0 0 23) := ⟨_, rfl⟩
  have hb4 : Below w3.heap.size w3 w4 := by rw [hw4]; exact (Below.refl _ _).alloc (Nat.le_refl _) _
  have KS4 : Hid (Bk S [.int .i64 (made x p 0), .int .i64 (made y p 0), .int .i64 (made z p 0)] w4) := by show Bk _ _ _; rw [made_zero', made_zero', made_zero', hw4, hS]; exact Bk.new w3 [.int .i64 0, .int .i64 0, .int .i64 0] 23 _ rfl
  have HP4 : Hid (Pnts (curveL x y z p) G w4) := HP3.out.later hb4
  have KR4 : Hid (Bk w.heap.size [.int .i64 x, .int .i64 y, .int .i64 z] w4) := KR3.out.later hb4
  have HB4 : Hid (Below w.heap.size w w4) := HB3.out.trans (hb4.mono HB3.out.size)
  have hGS : G ≠ S := by have := HP3.out.1; omega
  have hwS : w.heap.size ≠ S := by have := KR3.out.1; omega
  have hwS2 : w.heap.size ≤ S := by have := KR3.out.1; omega
  try rw [← hw4]
  try simp only [← hS]
  clear hb4 hw4 hS
  go_loopw [9] (fun i wr => ∃ k : Nat, k ≤ p ∧ i = .int .i64 k ∧ Bk S [.int .i64 (made x p k), .int .i64 (made y p k), .int .i64 (made z p k)] wr ∧ Pnts (curveL x y z p) G wr ∧ Bk w.heap.size [.int .i64 x, .int .i64 y, .int .i64 z] wr ∧ Below w.heap.size w wr) (fun i _ => p - (intOf i).toNat)
  case atStart => exact ⟨0, Nat.zero_le _, rfl, KS4.out, HP4.out, KR4.out, HB4.out⟩
  case round =>
    obtain ⟨k, hk, rfl, h1, h2, h3, h4⟩ := hrel
    have KS : Hid (Bk S [.int .i64 (made x p k), .int .i64 (made y p k), .int .i64 (made z p k)] wr) := h1
    have HP : Hid (Pnts (curveL x y z p) G wr) := h2
    have KR : Hid (Bk w.heap.size [.int .i64 x, .int .i64 y, .int .i64 z] wr) := h3
    have HB : Hid (Below w.heap.size w wr) := h4
    clear h1 h2 h3 h4
    by_cases hlt : k < p
    · have hpn : k < (curveL x y z p).length := by rw [curveL_length]; exact hlt
      have hp0 : 0 < (curveL x y z p).length := by rw [curveL_length]; omega
      obtain ⟨p0, p1, p2⟩ := HP.out.2 k hpn
      rw [curveL_at] at p0 p1 p2
      have z0 := (HP.out.2 0 hp0).1
      rw [curveL_at, Nat.zero_mul] at z0
      have P0 : Hid (wr.cell? ⟨G, k * 3, none⟩ = some (.int .i64 (stp x p k))) := p0
      have Z0 : Hid (wr.cell? ⟨G, 0, none⟩ = some (.int .i64 (stp x p 0))) := z0
      have Wx : Hid (Value.int .i64 (IntKind.i64.wrap (made x p k + stp x p k)) = .int .i64 (made x p (k + 1))) := by
        show _ = _
        have hmi := made_in x p (k + 1) hlt
        have hb := HM.out.1
        rw [← made_next (by omega)]
        rw [wrap_in (by omega) (by omega)]
      have Wy : Hid (Value.int .i64 (IntKind.i64.wrap (made y p k + stp y p k)) = .int .i64 (made y p (k + 1))) := by
        show _ = _
        have hmi := made_in y p (k + 1) hlt
        have hb := HM.out.2.1
        rw [← made_next (by omega)]
        rw [wrap_in (by omega) (by omega)]
      have Wz : Hid (Value.int .i64 (IntKind.i64.wrap (made z p k + stp z p k)) = .int .i64 (made z p (k + 1))) := by
        show _ = _
        have hmi := made_in z p (k + 1) hlt
        have hb := HM.out.2.2
        rw [← made_next (by omega)]
        rw [wrap_in (by omega) (by omega)]
      have hs1 := stp_in (x := x) (p := p) (k := k) (by omega)
      have hs2 := stp_in (x := x) (p := p) (k := 0) (by omega)
      have hsd := stp_even (x := x) (p := p) (k := k) (j := 0) (by omega)
      have hbx := HM.out.1
      obtain ⟨a, ha⟩ : ∃ a, a = stp x p k := ⟨_, rfl⟩
      obtain ⟨c, hc⟩ : ∃ c, c = stp x p 0 := ⟨_, rfl⟩
      have HA : Hid (-20001 ≤ a ∧ a ≤ 20001 ∧ -20001 ≤ c ∧ c ≤ 20001 ∧ a - c ≤ 1 ∧ -1 ≤ a - c) := by show _ ∧ _; rw [ha, hc]; omega
      rw [← ha] at P0
      rw [← hc] at Z0
      clear ha hc hs1 hs2 hsd hbx hpn hp0 z0
      go_wp2_with fail
      refine region_seq 25 [false, false, false, false, false, false, false, false, false, false, false, false, false, false, false, false, false, false, false, false, false, false, false, false, false, false, false, false, false, false, false, false, false, false, false, false, false, false, false, false, false, false, false, false, false, false, false, false, false, false, false, false, true, true, true, true, true, true, true, true, true, true, true, true, true, true, true, true, true, true, true, true, true, true, true, true, true, false, false, false, false, false, false, false, false, false, false, false, false, false, false, false, false, false, false, false, false, false, false, false, false, false]
        [(52, [], none), (53, [52], none), (54, [], none), (55, [], none), (56, [54, 55], none), (57, [56], none), (58, [57], none), (59, [53, 58], none), (60, [], none), (61, [60], none), (62, [], none), (63, [], none), (64, [62, 63], none), (65, [64], none), (66, [65], none), (67, [61, 66], none), (68, [], none), (69, [68], none), (70, [], none), (71, [], none), (72, [70, 71], none), (73, [72], none), (74, [73], none), (75, [69, 74], none), (76, [59, 67, 75], none)]
        (pp11V x y z S G p k) (by kernel_rfl) (by kernel_rfl) (by kernel_rfl) (by kernel_rfl) (by kernel_rfl) (by decide) (pp11V_mono x y z S G p k) ?_ ?_
      · refine ⟨?_, ?_, ?_, ?_, ?_, ?_, ?_, ?_, ?_, ?_, ?_, ?_, ?_, ?_, ?_, ?_, ?_, ?_, ?_, ?_, ?_, ?_, ?_, ?_, ?_, trivial⟩
        · intro f w1 hb _ K hK
          simp only [over, overL, Nat.reduceAdd]
          go_simp
          exact hK _ _ ⟨_, rfl, by simp only [over, overL, Nat.reduceAdd]; rfl, Below.refl _ _⟩
        · intro f w1 hb ⟨h52, _⟩ K hK
          replace h52 : f 52 = _ := h52
          have q := (KS.out.later hb).c 0 rfl
          simp only [over, overL, Nat.reduceAdd, h52]
          go_simp
          exact hK _ _ ⟨_, rfl, by simp only [over, overL, Nat.reduceAdd, h52]; rfl, Below.refl _ _⟩
        · intro f w1 hb _ K hK
          simp only [over, overL, Nat.reduceAdd]
          go_simp
          exact hK _ _ ⟨_, rfl, by simp only [over, overL, Nat.reduceAdd]; rfl, Below.refl _ _⟩
        · intro f w1 hb _ K hK
          simp only [over, overL, Nat.reduceAdd]
          go_simp
          exact hK _ _ ⟨_, rfl, by simp only [over, overL, Nat.reduceAdd]; rfl, Below.refl _ _⟩
        · intro f w1 hb ⟨h54, h55, _⟩ K hK
          replace h54 : f 54 = _ := h54
          replace h55 : f 55 = _ := h55
          simp only [over, overL, Nat.reduceAdd, h54, h55]
          go_simp
          exact hK _ _ ⟨_, rfl, by simp only [over, overL, Nat.reduceAdd, h54, h55]; rfl, Below.refl _ _⟩
        · intro f w1 hb ⟨h56, _⟩ K hK
          replace h56 : f 56 = _ := h56
          simp only [over, overL, Nat.reduceAdd, h56]
          go_simp
          exact hK _ _ ⟨_, rfl, by simp only [over, overL, Nat.reduceAdd, h56]; rfl, Below.refl _ _⟩
        · intro f w1 hb ⟨h57, _⟩ K hK
          replace h57 : f 57 = _ := h57
          have q := cell_later hb p0
          simp only [over, overL, Nat.reduceAdd, h57]
          go_simp
          exact hK _ _ ⟨_, rfl, by simp only [over, overL, Nat.reduceAdd, h57]; rfl, Below.refl _ _⟩
        · intro f w1 hb ⟨h53, h58, _⟩ K hK
          replace h53 : f 53 = _ := h53
          replace h58 : f 58 = _ := h58
          simp only [over, overL, Nat.reduceAdd, h53, h58]
          go_simp
          exact hK _ _ ⟨_, Wx.out, by simp only [over, overL, Nat.reduceAdd, h53, h58]; rfl, Below.refl _ _⟩
        · intro f w1 hb _ K hK
          simp only [over, overL, Nat.reduceAdd]
          go_simp
          exact hK _ _ ⟨_, rfl, by simp only [over, overL, Nat.reduceAdd]; rfl, Below.refl _ _⟩
        · intro f w1 hb ⟨h60, _⟩ K hK
          replace h60 : f 60 = _ := h60
          have q := (KS.out.later hb).c 1 rfl
          simp only [over, overL, Nat.reduceAdd, h60]
          go_simp
          exact hK _ _ ⟨_, rfl, by simp only [over, overL, Nat.reduceAdd, h60]; rfl, Below.refl _ _⟩
        · intro f w1 hb _ K hK
          simp only [over, overL, Nat.reduceAdd]
          go_simp
          exact hK _ _ ⟨_, rfl, by simp only [over, overL, Nat.reduceAdd]; rfl, Below.refl _ _⟩
        · intro f w1 hb _ K hK
          simp only [over, overL, Nat.reduceAdd]
          go_simp
          exact hK _ _ ⟨_, rfl, by simp only [over, overL, Nat.reduceAdd]; rfl, Below.refl _ _⟩
        · intro f w1 hb ⟨h62, h63, _⟩ K hK
          replace h62 : f 62 = _ := h62
          replace h63 : f 63 = _ := h63
          simp only [over, overL, Nat.reduceAdd, h62, h63]
          go_simp
          exact hK _ _ ⟨_, rfl, by simp only [over, overL, Nat.reduceAdd, h62, h63]; rfl, Below.refl _ _⟩
        · intro f w1 hb ⟨h64, _⟩ K hK
          replace h64 : f 64 = _ := h64
          simp only [over, overL, Nat.reduceAdd, h64]
          go_simp
          exact hK _ _ ⟨_, rfl, by simp only [over, overL, Nat.reduceAdd, h64]; rfl, Below.refl _ _⟩
        · intro f w1 hb ⟨h65, _⟩ K hK
          replace h65 : f 65 = _ := h65
          have q := cell_later hb p1
          simp only [over, overL, Nat.reduceAdd, h65]
          go_simp
          exact hK _ _ ⟨_, rfl, by simp only [over, overL, Nat.reduceAdd, h65]; rfl, Below.refl _ _⟩
        · intro f w1 hb ⟨h61, h66, _⟩ K hK
          replace h61 : f 61 = _ := h61
          replace h66 : f 66 = _ := h66
          simp only [over, overL, Nat.reduceAdd, h61, h66]
          go_simp
          exact hK _ _ ⟨_, Wy.out, by simp only [over, overL, Nat.reduceAdd, h61, h66]; rfl, Below.refl _ _⟩
        · intro f w1 hb _ K hK
          simp only [over, overL, Nat.reduceAdd]
          go_simp
          exact hK _ _ ⟨_, rfl, by simp only [over, overL, Nat.reduceAdd]; rfl, Below.refl _ _⟩
        · intro f w1 hb ⟨h68, _⟩ K hK
          replace h68 : f 68 = _ := h68
          have q := (KS.out.later hb).c 2 rfl
          simp only [over, overL, Nat.reduceAdd, h68]
          go_simp
          exact hK _ _ ⟨_, rfl, by simp only [over, overL, Nat.reduceAdd, h68]; rfl, Below.refl _ _⟩
        · intro f w1 hb _ K hK
          simp only [over, overL, Nat.reduceAdd]
          go_simp
          exact hK _ _ ⟨_, rfl, by simp only [over, overL, Nat.reduceAdd]; rfl, Below.refl _ _⟩
        · intro f w1 hb _ K hK
          simp only [over, overL, Nat.reduceAdd]
          go_simp
          exact hK _ _ ⟨_, rfl, by simp only [over, overL, Nat.reduceAdd]; rfl, Below.refl _ _⟩
        · intro f w1 hb ⟨h70, h71, _⟩ K hK
          replace h70 : f 70 = _ := h70
          replace h71 : f 71 = _ := h71
          simp only [over, overL, Nat.reduceAdd, h70, h71]
          go_simp
          exact hK _ _ ⟨_, rfl, by simp only [over, overL, Nat.reduceAdd, h70, h71]; rfl, Below.refl _ _⟩
        · intro f w1 hb ⟨h72, _⟩ K hK
          replace h72 : f 72 = _ := h72
          simp only [over, overL, Nat.reduceAdd, h72]
          go_simp
          exact hK _ _ ⟨_, rfl, by simp only [over, overL, Nat.reduceAdd, h72]; rfl, Below.refl _ _⟩
        · intro f w1 hb ⟨h73, _⟩ K hK
          replace h73 : f 73 = _ := h73
          have q := cell_later hb p2
          simp only [over, overL, Nat.reduceAdd, h73]
          go_simp
          exact hK _ _ ⟨_, rfl, by simp only [over, overL, Nat.reduceAdd, h73]; rfl, Below.refl _ _⟩
        · intro f w1 hb ⟨h69, h74, _⟩ K hK
          replace h69 : f 69 = _ := h69
          replace h74 : f 74 = _ := h74
          simp only [over, overL, Nat.reduceAdd, h69, h74]
          go_simp
          exact hK _ _ ⟨_, Wz.out, by simp only [over, overL, Nat.reduceAdd, h69, h74]; rfl, Below.refl _ _⟩
        · intro f w1 hb ⟨h59, h67, h75, _⟩ K hK
          replace h59 : f 59 = _ := h59
          replace h67 : f 67 = _ := h67
          replace h75 : f 75 = _ := h75
          simp only [over, overL, Nat.reduceAdd, h59, h67, h75]
          go_simp
          exact hK _ _ ⟨_, rfl, by simp only [over, overL, Nat.reduceAdd, h59, h67, h75]; rfl, Below.refl _ _⟩
      intro f w5 hb5 hv
      have h76 : f 76 = v3 (made x p (k + 1)) (made y p (k + 1)) (made z p (k + 1)) := hv.2.2.2.2.2.2.2.2.2.2.2.2.2.2.2.2.2.2.2.2.2.2.2.2.1
      have KS5 : Hid (Bk S [.int .i64 (made x p k), .int .i64 (made y p k), .int .i64 (made z p k)] w5) := KS.out.later hb5
      have HP5 : Hid (Pnts (curveL x y z p) G w5) := HP.out.later hb5
      have KR5 : Hid (Bk w.heap.size [.int .i64 x, .int .i64 y, .int .i64 z] w5) := KR.out.later hb5
      have HB5 : Hid (Below w.heap.size w w5) := HB.out.trans (hb5.mono HB.out.size)
      have P5 : Hid (w5.cell? ⟨G, k * 3, none⟩ = some (.int .i64 a)) := cell_later hb5 P0.out
      have Z5 : Hid (w5.cell? ⟨G, 0, none⟩ = some (.int .i64 c)) := cell_later hb5 Z0.out
      simp only [over_eq, overL, h76, Nat.reduceAdd, List.drop_succ_cons, List.drop_zero]
      clear hv h76 hb5 p0 p1 p2
      obtain ⟨m0, hm0⟩ : ∃ m0, m0 = made x p (k + 1) := ⟨_, rfl⟩
      obtain ⟨m1, hm1⟩ : ∃ m1, m1 = made y p (k + 1) := ⟨_, rfl⟩
      obtain ⟨m2, hm2⟩ : ∃ m2, m2 = made z p (k + 1) := ⟨_, rfl⟩
      rw [← hm0, ← hm1, ← hm2]
      have d0 := KS5.out.c 0 rfl
      have d1 := KS5.out.c 1 rfl
      have d2 := KS5.out.c 2 rfl
      have g0 := KS5.out.f 0 rfl
      have g1 := KS5.out.f 1 rfl
      have g2 := KS5.out.f 2 rfl
      have M0 : Hid (m0 = made x p (k + 1)) := hm0
      have M1 : Hid (m1 = made y p (k + 1)) := hm1
      have M2 : Hid (m2 = made z p (k + 1)) := hm2
      clear hm0 hm1 hm2
      go_upto_region 12 with fail
      clear d0 d1 d2 g0 g1 g2
      obtain ⟨w6, hw6⟩ : ∃ q : World, q = ((w5.setCell ⟨S, 0, none⟩ (.int .i64 m0)).setCell ⟨S, 1, none⟩ (.int .i64 m1)).setCell ⟨S, 2, none⟩ (.int .i64 m2) := ⟨_, rfl⟩
      rw [← hw6]
      have K6 : Hid (Kpt (fun q => q = S) w5 w6) := by show Kpt _ _ _; rw [hw6]; exact ((Kpt.setCell (M := fun q => q = S) _ _ _ _ rfl).trans (Kpt.setCell _ _ _ _ rfl)).trans (Kpt.setCell _ _ _ _ rfl)
      have KS6 : Hid (Bk S [.int .i64 (made x p (k + 1)), .int .i64 (made y p (k + 1)), .int .i64 (made z p (k + 1))] w6) := by show Bk _ _ _; rw [hw6, ← M0.out, ← M1.out, ← M2.out]; exact ((KS5.out.put 0 _).put 1 _).put 2 _
      have HP6 : Hid (Pnts (curveL x y z p) G w6) := HP5.out.kpt K6.out hGS
      have KR6 : Hid (Bk w.heap.size [.int .i64 x, .int .i64 y, .int .i64 z] w6) := bk_kpt KR5.out K6.out hwS
      have HB6 : Hid (Below w.heap.size w w6) := Kpt.belowB HB5.out K6.out (fun q e => by omega)
      have p6 : w6.cell? ⟨G, k * 3, none⟩ = some (.int .i64 a) := (World.cell?_of_block (K6.out.block G HP5.out.1 hGS)).trans P5.out
      have z6 : w6.cell? ⟨G, 0, none⟩ = some (.int .i64 c) := (World.cell?_of_block (K6.out.block G HP5.out.1 hGS)).trans Z5.out
      clear hw6
      obtain ⟨ha1, ha2, hc1, hc2, hd1, hd2⟩ := HA.out
      go_big_quiet (fail)
      have KS7 : Hid (Bk S [.int .i64 (made x p (k + 1)), .int .i64 (made y p (k + 1)), .int .i64 (made z p (k + 1))] (w6.drewN nq)) := KS6.out
      have HP7 : Hid (Pnts (curveL x y z p) G (w6.drewN nq)) := HP6.out
      have KR7 : Hid (Bk w.heap.size [.int .i64 x, .int .i64 y, .int .i64 z] (w6.drewN nq)) := KR6.out
      have HB7 : Hid (Below w.heap.size w (w6.drewN nq)) := ⟨HB6.out.os, HB6.out.tape, HB6.out.output, HB6.out.size, HB6.out.block⟩
      clear p6 z6
      go_wp2
      go_roundw
      case rel => exact ⟨k + 1, by omega, by go_num, KS7.out, HP7.out, KR7.out, HB7.out⟩
      case measure => simp [intOf]; omega
    · have e : k = p := by omega
      have KSp : Hid (Bk S [.int .i64 x, .int .i64 y, .int .i64 z] wr) := by
        show Bk _ _ _
        have h := KS.out
        obtain ⟨e1, e2, e3⟩ := made_full' (x := x) (y := y) (z := z) (p := p) (by omega)
        rw [e, e1, e2, e3] at h
        exact h
      clear e
      have r0 := KR.out.c 0 rfl
      have r1 := KR.out.c 1 rfl
      have r2 := KR.out.c 2 rfl
      have d0 := KSp.out.c 0 rfl
      have d1 := KSp.out.c 1 rfl
      have d2 := KSp.out.c 2 rfl
      go_wp2
      go_ret
      exact ⟨ret_bool (by simp), HB.out⟩
theorem pulseParts_any (x y z p : Int) (w : World) : Calls Try.prog 5 #[v3 x y z, .int .i64 p] w fun e w' => e = .returned (.bool true) ∧ Below w.heap.size w w' := by
  cases hm : mv x y z with
  | false => exact pulseParts_no x y z p 2 w (fun W => curve_no x y z p W hm) (by decide)
  | true =>
    by_cases hp : 1 ≤ p ∧ p ≤ 1000
    · obtain ⟨q, rfl⟩ : ∃ q : Nat, p = q := ⟨p.toNat, by omega⟩
      exact pulseParts_yes x y z q w hm (by omega) (by omega)
    · exact pulseParts_no x y z p 7 w (fun W => curve_count x y z p W hm (by omega)) (by decide)
end Go.Proofs.Ytanmfhaiahhoeaa
