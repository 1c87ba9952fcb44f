/- The document's parts of a move. -/
import Derived.Test.YtanmfhaiahhoeaaQR
import Derived.Deep.Cut
import Derived.Deep.CutRange
namespace Go.Proofs.Ytanmfhaiahhoeaa
open Go.RowKit

theorem own_kpt2 {α : Type} {c : Enc α} {w w1 : World} {B : Nat} {v : Value} {xs : List α} {M : Nat → Prop} (h : OwnR c w B v xs) (hk : Kpt M w w1) (hM : ∀ g, v.ownBlock = some g → ¬ M g) : OwnR c w1 B v xs := by
  obtain ⟨q1, q2⟩ := h
  refine ⟨q1, q2.imp id ?_⟩
  rintro ⟨g, cap, cur, e, hg, hh, r⟩
  exact ⟨g, cap, cur, e, hg, (hk.block g (Array.getElem?_eq_some_iff.1 hh).1 (hM g (by rw [e]; rfl))).trans hh, r⟩
theorem st_mono {a p k : Nat} (hp : 0 < p) : st a p k ≤ st a p (k + 1) := by rw [st_next hp]; exact Nat.le_add_right _ _
theorem st_le {a p k : Nat} (hp : 0 < p) (hk : k ≤ p) : st a p k ≤ a := by
  rw [show st a p k ≤ a ↔ st a p k ≤ st a p p by rw [st_full hp]]
  unfold st
  exact Nat.div_le_div_right (by have := Nat.mul_le_mul_right a hk; omega)
theorem stp_is {x : Int} {p k : Nat} (hp : 0 < p) : stp x p k = sg x ((st x.natAbs p (k + 1) : Nat) - (st x.natAbs p k : Nat)) := by
  unfold stp one
  have := st_next (a := x.natAbs) (p := p) (k := k) hp
  congr 1
  omega
set_option linter.unusedVariables false in
def cp6V (x y z : Int) (n0 n1 n2 t p B S : Nat) (d : Nat) (v : Value) (w : World) : Prop :=
  match d with
  | 16 => v = .int .i64 (t : Nat)
  | 17 => v = .pointer (some ⟨B, 0, none⟩)
  | 18 => v = .int .i64 x
  | 19 => v = .int .i64 (p : Nat)
  | 20 => v = .int .i64 (n0 : Nat)
  | 21 => v = .int .i64 (t : Nat)
  | 22 => v = .pointer (some ⟨B, 1, none⟩)
  | 23 => v = .int .i64 y
  | 24 => v = .int .i64 (p : Nat)
  | 25 => v = .int .i64 (n1 : Nat)
  | 26 => v = .int .i64 (t : Nat)
  | 27 => v = .pointer (some ⟨B, 2, none⟩)
  | 28 => v = .int .i64 z
  | 29 => v = .int .i64 (p : Nat)
  | 30 => v = .int .i64 (n2 : Nat)
  | 31 => v = v3 (n0 : Nat) (n1 : Nat) (n2 : Nat)
  | 8 => ∃ c, v = ptr c ∧ S ≤ c ∧ Bk c [.int .i64 0, .int .i64 0, .int .i64 0] w
  | _ => True
set_option linter.unusedVariables false in
theorem cp6V_mono (x y z : Int) (n0 n1 n2 t p B S : Nat) (d : Nat) (v : Value) (w w' : World) (h : cp6V x y z n0 n1 n2 t p B S d v w) (hb : Below w.heap.size w w') : cp6V x y z n0 n1 n2 t p B S d v w' := by
  unfold cp6V at h ⊢
  split <;> simp only [] at h <;> first | exact h | (obtain ⟨c, h1, h2, h3⟩ := h; exact ⟨c, h1, h2, h3.later hb⟩)
set_option maxHeartbeats 6400000 in
set_option maxRecDepth 100000 in
theorem curveParts_any (x y z : Int) (p : Nat) (w : World) (hm : mv x y z = true) (hp1 : 1 ≤ p) (hp2 : p ≤ 1000) :
    Calls Try.prog 18 #[v3 x y z, .int .i64 (p : Nat)] w fun e w' => ∃ ao cap, e = .returned (.slice ao p cap) ∧ RdP w' ao (curveL x y z p) ∧ Below w.heap.size w w' := by
  have HM : Hid ((-20000 ≤ x ∧ x ≤ 20000) ∧ (-20000 ≤ y ∧ y ≤ 20000) ∧ (-20000 ≤ z ∧ z ≤ 20000)) := mv_iff.1 hm
  have HLL : Hid ((curveL x y z p).length = p) := curveL_length x y z p
  have HAT : Hid (∀ k (h : k < (curveL x y z p).length), (curveL x y z p)[k]'h = ⟨stp x p k, stp y p k, stp z p k⟩) := fun k h => curveL_at h
  obtain ⟨xs, hxs⟩ : ∃ xs, xs = curveL x y z p := ⟨_, rfl⟩
  rw [← hxs] at HLL HAT ⊢
  have HB0 : Hid (Below w.heap.size w ((w.alloc (o3 x y z 23)).alloc (o3 0 0 0 23))) := two_new _ _ _
  have KB0 : Hid (Bk w.heap.size [.int .i64 x, .int .i64 y, .int .i64 z] ((w.alloc (o3 x y z 23)).alloc (o3 0 0 0 23))) := (Bk.new w [.int .i64 x, .int .i64 y, .int .i64 z] 23 _ rfl).later ((Below.refl _ _).alloc (Nat.le_refl _) _)
  have KL0 : Hid (Bk (w.heap.size + 1) [.int .i64 0, .int .i64 0, .int .i64 0] ((w.alloc (o3 x y z 23)).alloc (o3 0 0 0 23))) := Bk.new (w.alloc (o3 x y z 23)) [.int .i64 0, .int .i64 0, .int .i64 0] 23 _ (by simp)
  clear hxs hm
  go_enter Try.func18, Try.ntmps18
  go_wp2
  generalize hW : (w.alloc (o3 x y z 23)).alloc (o3 0 0 0 23) = w0 at *
  clear hW
  obtain ⟨L, hL⟩ : ∃ L, L = w.heap.size + 1 := ⟨_, rfl⟩
  obtain ⟨B, hB⟩ : ∃ B, B = w.heap.size := ⟨_, rfl⟩
  rw [← hL] at KL0
  simp only [← hL]
  have KB1 : Hid (Bk B [.int .i64 x, .int .i64 y, .int .i64 z] w0) := by show Bk _ _ _; rw [hB]; exact KB0.out
  simp only [← hB]
  have hwB : w.heap.size ≤ B := by omega
  have hwL : w.heap.size ≤ L := by omega
  have hBL : B < L := by omega
  clear hL hB KB0
  have HZ : Hid (∀ a, st a p 0 = 0) := fun a => st_zero (by omega)
  go_loopw [5, 7] (fun v i wr => ∃ t : Nat, 1 ≤ t ∧ t ≤ p + 1 ∧ i = .int .i64 (t : Nat) ∧ OwnR encP wr (L + 1) v (xs.take (t - 1)) ∧ Bk L [.int .i64 (st x.natAbs p (t - 1) : Nat), .int .i64 (st y.natAbs p (t - 1) : Nat), .int .i64 (st z.natAbs p (t - 1) : Nat)] wr ∧ Bk B [.int .i64 x, .int .i64 y, .int .i64 z] wr ∧ Below w.heap.size w wr) (fun _ i _ => p + 1 - (intOf i).toNat)
  case atStart =>
    refine ⟨1, Nat.le_refl _, by omega, rfl, OwnR.nil _ _ _, ?_, KB1.out, HB0.out⟩
    rw [HZ.out, HZ.out, HZ.out]
    exact KL0.out
  case round =>
    obtain ⟨t, ht1, ht2, rfl, hown, hl, hbb, hb⟩ := hrel
    obtain ⟨aoV, nV, capV, hform⟩ := hown.form
    subst hform
    obtain ⟨j, hj⟩ : ∃ j, j = t - 1 := ⟨_, rfl⟩
    rw [← hj] at hown hl
    have hjt : t = j + 1 := by omega
    have HJT : Hid (t = j + 1) := hjt
    have HO : Hid (OwnR encP wr (L + 1) (.slice aoV nV capV) (xs.take j)) := hown
    have HL : Hid (Bk L [.int .i64 (st x.natAbs p j : Nat), .int .i64 (st y.natAbs p j : Nat), .int .i64 (st z.natAbs p j : Nat)] wr) := hl
    have KB : Hid (Bk B [.int .i64 x, .int .i64 y, .int .i64 z] wr) := hbb
    have HB : Hid (Below w.heap.size w wr) := hb
    clear hown hl hbb hb hj hjt
    by_cases hlt : t ≤ p
    · have hp0 : 0 < p := by omega
      have hjp : j < p := by have := HJT.out; omega
      have HS0 : Hid (∀ W, Calls Try.prog 37 #[.int .i64 (t : Nat), .int .i64 x, .int .i64 (p : Nat)] W fun e w' => e = .returned (.int .i64 (st x.natAbs p t : Nat)) ∧ w' = W) := fun W => behind_any t p x W HM.out.1.1 HM.out.1.2 (by omega) hp0 (by omega)
      have a0 := st_mono (a := x.natAbs) (p := p) (k := j) hp0
      have b0 := st_le (a := x.natAbs) (p := p) (k := j + 1) hp0 hjp
      have E0 : Hid (stp x p j = sg x ((st x.natAbs p t : Nat) - (st x.natAbs p j : Nat))) := by show _ = _; rw [HJT.out]; exact stp_is hp0
      rw [← HJT.out] at a0 b0
      have HS1 : Hid (∀ W, Calls Try.prog 37 #[.int .i64 (t : Nat), .int .i64 y, .int .i64 (p : Nat)] W fun e w' => e = .returned (.int .i64 (st y.natAbs p t : Nat)) ∧ w' = W) := fun W => behind_any t p y W HM.out.2.1.1 HM.out.2.1.2 (by omega) hp0 (by omega)
      have a1 := st_mono (a := y.natAbs) (p := p) (k := j) hp0
      have b1 := st_le (a := y.natAbs) (p := p) (k := j + 1) hp0 hjp
      have E1 : Hid (stp y p j = sg y ((st y.natAbs p t : Nat) - (st y.natAbs p j : Nat))) := by show _ = _; rw [HJT.out]; exact stp_is hp0
      rw [← HJT.out] at a1 b1
      have HS2 : Hid (∀ W, Calls Try.prog 37 #[.int .i64 (t : Nat), .int .i64 z, .int .i64 (p : Nat)] W fun e w' => e = .returned (.int .i64 (st z.natAbs p t : Nat)) ∧ w' = W) := fun W => behind_any t p z W HM.out.2.2.1 HM.out.2.2.2 (by omega) hp0 (by omega)
      have a2 := st_mono (a := z.natAbs) (p := p) (k := j) hp0
      have b2 := st_le (a := z.natAbs) (p := p) (k := j + 1) hp0 hjp
      have E2 : Hid (stp z p j = sg z ((st z.natAbs p t : Nat) - (st z.natAbs p j : Nat))) := by show _ = _; rw [HJT.out]; exact stp_is hp0
      rw [← HJT.out] at a2 b2
      have HTK : Hid (xs.take (j + 1) = xs.take j ++ [⟨stp x p j, stp y p j, stp z p j⟩]) := by
        show _ = _
        rw [List.take_succ_eq_append_getElem (by rw [HLL.out]; exact hjp), HAT.out]
      have HLT : Hid ((xs.take j).length ≤ 1000000000) := by show _ ≤ _; rw [List.length_take, HLL.out]; omega
      have HLN : Hid (∀ W, Bk L [.int .i64 (st x.natAbs p t : Nat), .int .i64 (st y.natAbs p t : Nat), .int .i64 (st z.natAbs p t : Nat)] W → Bk L [.int .i64 (st x.natAbs p (t + 1 - 1) : Nat), .int .i64 (st y.natAbs p (t + 1 - 1) : Nat), .int .i64 (st z.natAbs p (t + 1 - 1) : Nat)] W) := fun W h => by rw [Nat.add_sub_cancel]; exact h
      have hb3 := HM.out
      have b0' : st x.natAbs p t ≤ 20000 := by omega
      have b1' : st y.natAbs p t ≤ 20000 := by omega
      have b2' : st z.natAbs p t ≤ 20000 := by omega
      clear b0 b1 b2 hb3
      generalize st x.natAbs p t = n0 at *
      generalize st y.natAbs p t = n1 at *
      generalize st z.natAbs p t = n2 at *
      generalize st x.natAbs p j = l0 at *
      generalize st y.natAbs p j = l1 at *
      generalize st z.natAbs p j = l2 at *
      generalize hpre : xs.take j = pr at *
      clear hpre
      go_wp2_with fail
      obtain ⟨S, hS⟩ : ∃ S, S = wr.heap.size := ⟨_, rfl⟩
      have HSS : Hid (S = wr.heap.size) := hS
      have hLS : L < S := by have := HL.out.1; omega
      have HOL : Hid (∀ g, (Value.slice aoV nV capV).ownBlock = some g → g < S) := fun g e => by rw [HSS.out]; exact (World.ownsRow.lt HO.out g e).2
      clear hS
      refine region_seq 17 [false, false, false, false, false, false, false, false, true, false, false, false, false, false, false, false, true, true, true, true, true, true, true, true, true, true, true, true, true, true, true, true, false, false, false, false, false, false, false, false, false, false, false, false, false, false, false, false, false, false, false, false, false, false, false, false, false, false, false, false, false, false, false, false, false, false, false, false, false, false, false, false, false, false, false]
        [(16, [], none), (17, [], none), (18, [17], none), (19, [], none), (20, [16, 18, 19], none), (21, [], none), (22, [], none), (23, [22], none), (24, [], none), (25, [21, 23, 24], none), (26, [], none), (27, [], none), (28, [27], none), (29, [], none), (30, [26, 28, 29], none), (31, [20, 25, 30], none), (8, [], none)]
        (cp6V x y z n0 n1 n2 t p B S) (by kernel_rfl) (by kernel_rfl) (by kernel_rfl) (by kernel_rfl) (by kernel_rfl) (by decide) (cp6V_mono x y z n0 n1 n2 t p B S) ?_ ?_
      · refine ⟨?_, ?_, ?_, ?_, ?_, ?_, ?_, ?_, ?_, ?_, ?_, ?_, ?_, ?_, ?_, ?_, ?_, trivial⟩
        · intro f w1 hb _ K hK
          simp only [over, overL, Nat.reduceAdd]
          go_simp
          exact hK _ _ ⟨_, rfl, by simp only [over, overL, Nat.reduceAdd]; rfl, Below.refl _ _⟩
        · intro f w1 hb _ K hK
          simp only [over, overL, Nat.reduceAdd]
          go_simp
          exact hK _ _ ⟨_, rfl, by simp only [over, overL, Nat.reduceAdd]; rfl, Below.refl _ _⟩
        · intro f w1 hb ⟨h17, _⟩ K hK
          replace h17 : f 17 = _ := h17
          have q := (KB.out.later hb).c 0 rfl
          simp only [over, overL, Nat.reduceAdd, h17]
          go_simp
          exact hK _ _ ⟨_, rfl, by simp only [over, overL, Nat.reduceAdd, h17]; rfl, Below.refl _ _⟩
        · intro f w1 hb _ K hK
          simp only [over, overL, Nat.reduceAdd]
          go_simp
          exact hK _ _ ⟨_, rfl, by simp only [over, overL, Nat.reduceAdd]; rfl, Below.refl _ _⟩
        · intro f w1 hb ⟨h16, h18, h19, _⟩ K hK
          replace h16 : f 16 = _ := h16
          replace h18 : f 18 = _ := h18
          replace h19 : f 19 = _ := h19
          simp only [over, overL, Nat.reduceAdd, h16, h18, h19]
          go_simp
          refine (HS0.out w1).mono ?_
          rintro e w2 ⟨rfl, hw2⟩
          exact hK _ _ ⟨_, rfl, by simp only [over, overL, Nat.reduceAdd, h16, h18, h19]; rfl, hw2 ▸ Below.refl _ _⟩
        · intro f w1 hb _ K hK
          simp only [over, overL, Nat.reduceAdd]
          go_simp
          exact hK _ _ ⟨_, rfl, by simp only [over, overL, Nat.reduceAdd]; rfl, Below.refl _ _⟩
        · intro f w1 hb _ K hK
          simp only [over, overL, Nat.reduceAdd]
          go_simp
          exact hK _ _ ⟨_, rfl, by simp only [over, overL, Nat.reduceAdd]; rfl, Below.refl _ _⟩
        · intro f w1 hb ⟨h22, _⟩ K hK
          replace h22 : f 22 = _ := h22
          have q := (KB.out.later hb).c 1 rfl
          simp only [over, overL, Nat.reduceAdd, h22]
          go_simp
          exact hK _ _ ⟨_, rfl, by simp only [over, overL, Nat.reduceAdd, h22]; rfl, Below.refl _ _⟩
        · intro f w1 hb _ K hK
          simp only [over, overL, Nat.reduceAdd]
          go_simp
          exact hK _ _ ⟨_, rfl, by simp only [over, overL, Nat.reduceAdd]; rfl, Below.refl _ _⟩
        · intro f w1 hb ⟨h21, h23, h24, _⟩ K hK
          replace h21 : f 21 = _ := h21
          replace h23 : f 23 = _ := h23
          replace h24 : f 24 = _ := h24
          simp only [over, overL, Nat.reduceAdd, h21, h23, h24]
          go_simp
          refine (HS1.out w1).mono ?_
          rintro e w2 ⟨rfl, hw2⟩
          exact hK _ _ ⟨_, rfl, by simp only [over, overL, Nat.reduceAdd, h21, h23, h24]; rfl, hw2 ▸ Below.refl _ _⟩
        · intro f w1 hb _ K hK
          simp only [over, overL, Nat.reduceAdd]
          go_simp
          exact hK _ _ ⟨_, rfl, by simp only [over, overL, Nat.reduceAdd]; rfl, Below.refl _ _⟩
        · intro f w1 hb _ K hK
          simp only [over, overL, Nat.reduceAdd]
          go_simp
          exact hK _ _ ⟨_, rfl, by simp only [over, overL, Nat.reduceAdd]; rfl, Below.refl _ _⟩
        · intro f w1 hb ⟨h27, _⟩ K hK
          replace h27 : f 27 = _ := h27
          have q := (KB.out.later hb).c 2 rfl
          simp only [over, overL, Nat.reduceAdd, h27]
          go_simp
          exact hK _ _ ⟨_, rfl, by simp only [over, overL, Nat.reduceAdd, h27]; rfl, Below.refl _ _⟩
        · intro f w1 hb _ K hK
          simp only [over, overL, Nat.reduceAdd]
          go_simp
          exact hK _ _ ⟨_, rfl, by simp only [over, overL, Nat.reduceAdd]; rfl, Below.refl _ _⟩
        · intro f w1 hb ⟨h26, h28, h29, _⟩ K hK
          replace h26 : f 26 = _ := h26
          replace h28 : f 28 = _ := h28
          replace h29 : f 29 = _ := h29
          simp only [over, overL, Nat.reduceAdd, h26, h28, h29]
          go_simp
          refine (HS2.out w1).mono ?_
          rintro e w2 ⟨rfl, hw2⟩
          exact hK _ _ ⟨_, rfl, by simp only [over, overL, Nat.reduceAdd, h26, h28, h29]; rfl, hw2 ▸ Below.refl _ _⟩
        · intro f w1 hb ⟨h20, h25, h30, _⟩ K hK
          replace h20 : f 20 = _ := h20
          replace h25 : f 25 = _ := h25
          replace h30 : f 30 = _ := h30
          simp only [over, overL, Nat.reduceAdd, h20, h25, h30]
          go_simp
          exact hK _ _ ⟨_, rfl, by simp only [over, overL, Nat.reduceAdd, h20, h25, h30]; rfl, Below.refl _ _⟩
        · intro f w1 hb _ K hK
          simp only [over, overL, Nat.reduceAdd]
          go_simp
          exact hK _ _ ⟨_, ⟨_, rfl, by rw [HSS.out]; exact hb.size, Bk.new w1 [.int .i64 0, .int .i64 0, .int .i64 0] 23 _ rfl⟩, by simp only [over, overL, Nat.reduceAdd]; rfl, (Below.refl _ _).alloc (Nat.le_refl _) _⟩
      intro f w4 hb4 hv
      have h31 : f 31 = v3 (n0 : Nat) (n1 : Nat) (n2 : Nat) := hv.2.2.2.2.2.2.2.2.2.2.2.2.2.2.2.1
      obtain ⟨C, h8, hSC, hC⟩ := (show ∃ c, f 8 = ptr c ∧ S ≤ c ∧ Bk c [.int .i64 0, .int .i64 0, .int .i64 0] w4 from hv.2.2.2.2.2.2.2.2.2.2.2.2.2.2.2.2.1)
      have KC4 : Hid (Bk C [.int .i64 0, .int .i64 0, .int .i64 0] w4) := hC
      have HL4 : Hid (Bk L [.int .i64 (l0 : Nat), .int .i64 (l1 : Nat), .int .i64 (l2 : Nat)] w4) := HL.out.later hb4
      have HO4 : Hid (OwnR encP w4 (L + 1) (.slice aoV nV capV) pr) := HO.out.later hb4
      have KB4 : Hid (Bk B [.int .i64 x, .int .i64 y, .int .i64 z] w4) := KB.out.later hb4
      have HB4 : Hid (Below w.heap.size w w4) := HB.out.trans (hb4.mono HB.out.size)
      simp only [over_eq, overL, h31, h8, Nat.reduceAdd, List.drop_succ_cons, List.drop_zero]
      clear hv h31 h8 hb4 hC
      have q0 := KC4.out.c 0 rfl
      have q1 := KC4.out.c 1 rfl
      have q2 := KC4.out.c 2 rfl
      have g0 := KC4.out.f 0 rfl
      have g1 := KC4.out.f 1 rfl
      have g2 := KC4.out.f 2 rfl
      go_upto_region 7 with fail
      clear q0 q1 q2 g0 g1 g2
      obtain ⟨w5, hw5⟩ : ∃ q : World, q = ((w4.setCell ⟨C, 0, none⟩ (.int .i64 (n0 : Nat))).setCell ⟨C, 1, none⟩ (.int .i64 (n1 : Nat))).setCell ⟨C, 2, none⟩ (.int .i64 (n2 : Nat)) := ⟨_, rfl⟩
      rw [← hw5]
      have K5 : Hid (Kpt (fun q => q = C) w4 w5) := by show Kpt _ _ _; rw [hw5]; exact ((Kpt.setCell (M := fun q => q = C) _ _ _ _ rfl).trans (Kpt.setCell _ _ _ _ rfl)).trans (Kpt.setCell _ _ _ _ rfl)
      have KC5 : Hid (Bk C [.int .i64 (n0 : Nat), .int .i64 (n1 : Nat), .int .i64 (n2 : Nat)] w5) := by show Bk _ _ _; rw [hw5]; exact ((KC4.out.put 0 _).put 1 _).put 2 _
      have HL5 : Hid (Bk L [.int .i64 (l0 : Nat), .int .i64 (l1 : Nat), .int .i64 (l2 : Nat)] w5) := bk_kpt HL4.out K5.out (by omega)
      have HO5 : Hid (OwnR encP w5 (L + 1) (.slice aoV nV capV) pr) := own_kpt2 HO4.out K5.out (fun q h e => by have := HOL.out q h; omega)
      have KB5 : Hid (Bk B [.int .i64 x, .int .i64 y, .int .i64 z] w5) := bk_kpt KB4.out K5.out (by omega)
      have HB5 : Hid (Below w.heap.size w w5) := Kpt.belowB HB4.out K5.out (fun q e => by omega)
      clear hw5
      have q0 := KC5.out.c 0 rfl
      have q1 := KC5.out.c 1 rfl
      have q2 := KC5.out.c 2 rfl
      have r0 := HL5.out.c 0 rfl
      have r1 := HL5.out.c 1 rfl
      have r2 := HL5.out.c 2 rfl
      go_upto_region 8 with fail
      clear q0 q1 q2 r0 r1 r2
      obtain ⟨Dq, hD⟩ : ∃ Dq, Dq = w5.heap.size := ⟨_, rfl⟩
      obtain ⟨d0, hd0⟩ : ∃ d : Int, d = (n0 : Int) - (l0 : Int) := ⟨_, rfl⟩
      obtain ⟨d1, hd1⟩ : ∃ d : Int, d = (n1 : Int) - (l1 : Int) := ⟨_, rfl⟩
      obtain ⟨d2, hd2⟩ : ∃ d : Int, d = (n2 : Int) - (l2 : Int) := ⟨_, rfl⟩
      rw [← hd0] at E0
      rw [← hd1] at E1
      rw [← hd2] at E2
      simp only [← hd0, ← hd1, ← hd2, ← hD]
      have db0 : 0 ≤ d0 ∧ d0 ≤ 20000 := by omega
      have db1 : 0 ≤ d1 ∧ d1 ≤ 20000 := by omega
      have db2 : 0 ≤ d2 ∧ d2 ≤ 20000 := by omega
      obtain ⟨db00, db01⟩ := db0
      obtain ⟨db10, db11⟩ := db1
      obtain ⟨db20, db21⟩ := db2
      obtain ⟨w6, hw6⟩ : ∃ q : World, q = w5.alloc (.cells #[.int .i64 d0, .int .i64 d1, .int .i64 d2] 23) := ⟨_, rfl⟩
      rw [← hw6]
      have hb6 : Below w5.heap.size w5 w6 := by rw [hw6]; exact (Below.refl _ _).alloc (Nat.le_refl _) _
      have KD6 : Hid (Bk Dq [.int .i64 d0, .int .i64 d1, .int .i64 d2] w6) := by show Bk _ _ _; rw [hw6, hD]; exact Bk.new w5 [.int .i64 d0, .int .i64 d1, .int .i64 d2] 23 _ rfl
      have KC6 : Hid (Bk C [.int .i64 (n0 : Nat), .int .i64 (n1 : Nat), .int .i64 (n2 : Nat)] w6) := KC5.out.later hb6
      have HL6 : Hid (Bk L [.int .i64 (l0 : Nat), .int .i64 (l1 : Nat), .int .i64 (l2 : Nat)] w6) := HL5.out.later hb6
      have HO6 : Hid (OwnR encP w6 (L + 1) (.slice aoV nV capV) pr) := HO5.out.later hb6
      have KB6 : Hid (Bk B [.int .i64 x, .int .i64 y, .int .i64 z] w6) := KB5.out.later hb6
      have HB6 : Hid (Below w.heap.size w w6) := HB5.out.trans (hb6.mono HB5.out.size)
      have hCD : C < Dq := by have := KC5.out.1; omega
      have HCD : Hid (C < Dq) := hCD
      clear hw6 hb6 hD hd0 hd1 hd2 a0 a1 a2 b0' b1' b2'
      have p0 := KB6.out.c 0 rfl
      go_upto_if 50 with fail
      clear p0
      go_cut [] from 11 to 73 (fun wc => Bk Dq [.int .i64 (sg x d0), .int .i64 d1, .int .i64 d2] wc ∧ Kpt (fun q => q = Dq) w6 wc)
      case first =>
        have z0 := KD6.out.c 0 rfl
        have f0 := KD6.out.f 0 rfl
        go_wp2
        · rename_i hneg
          go_meet
          exact ⟨by rw [show sg x d0 = -d0 from if_pos hneg]; exact KD6.out.put 0 _, Kpt.setCell _ _ _ _ rfl⟩
        · rename_i hneg
          go_meet
          exact ⟨by rw [show sg x d0 = d0 from if_neg (by omega)]; exact KD6.out, Kpt.refl _ _⟩
      case rest =>
      obtain ⟨hkd, hk7⟩ := hcut
      obtain ⟨w7, hww⟩ : ∃ q : World, q = wc := ⟨_, rfl⟩
      subst hww
      have KD7 : Hid (Bk Dq [.int .i64 (sg x d0), .int .i64 d1, .int .i64 d2] w7) := hkd
      have K7 : Hid (Kpt (fun q => q = Dq) w6 w7) := hk7
      have KB7 : Hid (Bk B [.int .i64 x, .int .i64 y, .int .i64 z] w7) := bk_kpt KB6.out hk7 (by omega)
      clear hkd hk7
      have p0 := KB7.out.c 1 rfl
      go_upto_if 57 with fail
      clear p0
      go_cut [] from 11 to 73 (fun wc => Bk Dq [.int .i64 (sg x d0), .int .i64 (sg y d1), .int .i64 d2] wc ∧ Kpt (fun q => q = Dq) w6 wc)
      case first =>
        have z0 := KD7.out.c 1 rfl
        have f0 := KD7.out.f 1 rfl
        go_wp2
        · rename_i hneg
          go_meet
          exact ⟨by rw [show sg y d1 = -d1 from if_pos hneg]; exact KD7.out.put 1 _, K7.out.trans (Kpt.setCell _ _ _ _ rfl)⟩
        · rename_i hneg
          go_meet
          exact ⟨by rw [show sg y d1 = d1 from if_neg (by omega)]; exact KD7.out, K7.out⟩
      case rest =>
      obtain ⟨hkd, hk7⟩ := hcut
      obtain ⟨w8, hww⟩ : ∃ q : World, q = wc := ⟨_, rfl⟩
      subst hww
      have KD8 : Hid (Bk Dq [.int .i64 (sg x d0), .int .i64 (sg y d1), .int .i64 d2] w8) := hkd
      have K8 : Hid (Kpt (fun q => q = Dq) w6 w8) := hk7
      have KB8 : Hid (Bk B [.int .i64 x, .int .i64 y, .int .i64 z] w8) := bk_kpt KB6.out hk7 (by omega)
      clear hkd hk7
      have p0 := KB8.out.c 2 rfl
      go_upto_if 64 with fail
      clear p0
      go_cut [] from 11 to 73 (fun wc => Bk Dq [.int .i64 (sg x d0), .int .i64 (sg y d1), .int .i64 (sg z d2)] wc ∧ Kpt (fun q => q = Dq) w6 wc)
      case first =>
        have z0 := KD8.out.c 2 rfl
        have f0 := KD8.out.f 2 rfl
        go_wp2
        · rename_i hneg
          go_meet
          exact ⟨by rw [show sg z d2 = -d2 from if_pos hneg]; exact KD8.out.put 2 _, K8.out.trans (Kpt.setCell _ _ _ _ rfl)⟩
        · rename_i hneg
          go_meet
          exact ⟨by rw [show sg z d2 = d2 from if_neg (by omega)]; exact KD8.out, K8.out⟩
      case rest =>
      obtain ⟨hkd, hk7⟩ := hcut
      obtain ⟨w9, hww⟩ : ∃ q : World, q = wc := ⟨_, rfl⟩
      subst hww
      rw [← E0.out, ← E1.out, ← E2.out] at hkd
      obtain ⟨X, hX⟩ : ∃ X, X = stp x p j := ⟨_, rfl⟩
      obtain ⟨Y, hY⟩ : ∃ Y, Y = stp y p j := ⟨_, rfl⟩
      obtain ⟨Z, hZ⟩ : ∃ Z, Z = stp z p j := ⟨_, rfl⟩
      rw [← hX, ← hY, ← hZ] at hkd HTK
      have KD9 : Hid (Bk Dq [.int .i64 X, .int .i64 Y, .int .i64 Z] w9) := hkd
      have KB9 : Hid (Bk B [.int .i64 x, .int .i64 y, .int .i64 z] w9) := bk_kpt KB6.out hk7 (by omega)
      have KC9 : Hid (Bk C [.int .i64 (n0 : Nat), .int .i64 (n1 : Nat), .int .i64 (n2 : Nat)] w9) := bk_kpt KC6.out hk7 (by omega)
      have HL9 : Hid (Bk L [.int .i64 (l0 : Nat), .int .i64 (l1 : Nat), .int .i64 (l2 : Nat)] w9) := bk_kpt HL6.out hk7 (by omega)
      have HO9 : Hid (OwnR encP w9 (L + 1) (.slice aoV nV capV) pr) := own_kpt2 HO6.out hk7 (fun q h e => by have := HOL.out q h; omega)
      have HB9 : Hid (Below w.heap.size w w9) := Kpt.belowB HB6.out hk7 (fun q e => by omega)
      clear hkd hk7 hX hY hZ
      have q0 := KD9.out.c 0 rfl
      have q1 := KD9.out.c 1 rfl
      have q2 := KD9.out.c 2 rfl
      have hnb : Below w9.heap.size w9 (w9.alloc (o3 X Y Z 23)) := (Below.refl _ _).alloc (Nat.le_refl _) _
      have HBa : Hid (Below w.heap.size w (w9.alloc (o3 X Y Z 23))) := HB9.out.trans (hnb.mono HB9.out.size)
      have KBa : Hid (Bk B [.int .i64 x, .int .i64 y, .int .i64 z] (w9.alloc (o3 X Y Z 23))) := KB9.out.later hnb
      have KCa : Hid (Bk C [.int .i64 (n0 : Nat), .int .i64 (n1 : Nat), .int .i64 (n2 : Nat)] (w9.alloc (o3 X Y Z 23))) := KC9.out.later hnb
      have HLa : Hid (Bk L [.int .i64 (l0 : Nat), .int .i64 (l1 : Nat), .int .i64 (l2 : Nat)] (w9.alloc (o3 X Y Z 23))) := HL9.out.later hnb
      have HZa : Hid (L + 1 ≤ (w9.alloc (o3 X Y Z 23)).heap.size) := by show _ ≤ _; have := HL9.out.1; simp; omega
      have HNB : Hid (∀ g, (Value.slice aoV nV capV).ownBlock = some g → L + 1 ≤ g ∧ g < S) := fun g e => ⟨(World.ownsRow.lt HO.out g e).1, HOL.out g e⟩
      have hLC : L < C := by omega
      clear hnb
      go_wp2_with (at_builtin; refine wpList_append_row goodP Try.underlying31 infoP rfl (by decide) (by decide) _ rfl (.tmp 69) (.tmp 71) rfl (L + 1) (.slice aoV nV capV) pr rfl (HO9.out.alloc _) w9.heap.size ⟨X, Y, Z⟩ rfl (fun j u hu => (Bk.new w9 [.int .i64 X, .int .i64 Y, .int .i64 Z] 23 w9.heap.size rfl).c j hu) HLT.out HZa.out ?_; intro v' w10 ho hg hloc; have HOb : Hid (OwnR encP w10 (L + 1) v' (pr ++ [⟨X, Y, Z⟩])) := ho; have HBb : Hid (Below w.heap.size w w10) := below_row HBa.out ((HO9.out.alloc (o3 X Y Z 23)).base (by omega)) hg HBa.out.size; have KCb : Hid (Bk C [.int .i64 (n0 : Nat), .int .i64 (n1 : Nat), .int .i64 (n2 : Nat)] w10) := KCa.out.same hg.size (hg.block _ KCa.out.1 (fun e => by have := HNB.out _ e.symm; omega)); have KBb : Hid (Bk B [.int .i64 x, .int .i64 y, .int .i64 z] w10) := KBa.out.same hg.size (hg.block _ KBa.out.1 (fun e => by have := HNB.out _ e.symm; omega)); have HLb : Hid (Bk L [.int .i64 (l0 : Nat), .int .i64 (l1 : Nat), .int .i64 (l2 : Nat)] w10) := HLa.out.same hg.size (hg.block _ HLa.out.1 (fun e => by have := HNB.out _ e.symm; omega)); have s0 := KCb.out.c 0 rfl; have s1 := KCb.out.c 1 rfl; have s2 := KCb.out.c 2 rfl; have u0 := HLb.out.c 0 rfl; have u1 := HLb.out.c 1 rfl; have u2 := HLb.out.c 2 rfl; have y0 := HLb.out.f 0 rfl; have y1 := HLb.out.f 1 rfl; have y2 := HLb.out.f 2 rfl; clear ho hg hloc)
      have KK : Kpt (fun q => q = L) w10 (((w10.setCell ⟨L, 0, none⟩ (.int .i64 (n0 : Nat))).setCell ⟨L, 1, none⟩ (.int .i64 (n1 : Nat))).setCell ⟨L, 2, none⟩ (.int .i64 (n2 : Nat))) := ((Kpt.setCell (M := fun q => q = L) _ _ _ _ rfl).trans (Kpt.setCell _ _ _ _ rfl)).trans (Kpt.setCell _ _ _ _ rfl)
      go_roundw
      case rel =>
        refine ⟨t + 1, by omega, by omega, by go_num, ?_, HLN.out _ (((HLb.out.put 0 _).put 1 _).put 2 _), bk_kpt KBb.out KK (by omega), Kpt.belowB HBb.out KK (fun q e => by omega)⟩
        rw [Nat.add_sub_cancel, HJT.out, HTK.out]
        exact own_kpt HOb.out KK (fun q h e => by omega)
      case measure => simp [intOf]; omega
    · have HF : Hid (OwnR encP wr (L + 1) (.slice aoV nV capV) xs) := by
        have := HO.out
        rw [List.take_of_length_le (by rw [HLL.out]; have := HJT.out; omega)] at this
        exact this
      go_wp2
      go_ret
      obtain ⟨ao2, cap2, e, hr⟩ := own_rdP HF.out
      rw [HLL.out] at e
      exact ⟨ao2, cap2, by rw [← e]; rfl, hr, HB.out⟩
end Go.Proofs.Ytanmfhaiahhoeaa
