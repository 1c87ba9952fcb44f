/- The document's line. -/
import Derived.Test.YtanmfhaiahhoeaaQS
import Derived.Deep.CutBlock
namespace Go.Proofs.Ytanmfhaiahhoeaa
open Go.RowKit

/-- What an axis adds to a pulse. -/
def ct (r : Int) (s : Int) : Int := (if s = 0 then 0 else r) + (if s < 0 then 8 * r else 0)
theorem pu_ct (a b c : Int) : pu a b c = ct 1 a + ct 2 b + ct 4 c := by
  unfold pu puB ct
  by_cases ha : a = 0 <;> by_cases hb : b = 0 <;> by_cases hc : c = 0 <;> by_cases ha' : a < 0 <;> by_cases hb' : b < 0 <;> by_cases hc' : c < 0 <;> simp [*]
theorem ct_in (r s : Int) (hr : 0 ≤ r) : 0 ≤ ct r s ∧ ct r s ≤ 9 * r := by
  unfold ct
  split <;> split <;> omega
theorem ct_no {r v : Int} {n0 l0 : Nat} (h : n0 ≤ l0) (h2 : l0 ≤ n0) : ct r (sg v ((n0 : Int) - (l0 : Int))) = 0 := by
  have e : (n0 : Int) - (l0 : Int) = 0 := by omega
  rw [e]
  unfold ct sg
  split <;> simp
theorem ct_up {r v : Int} {n0 l0 : Nat} (h : l0 < n0) (hv : 0 ≤ v) : ct r (sg v ((n0 : Int) - (l0 : Int))) = r := by
  unfold ct sg
  rw [if_neg (by omega : ¬ v < 0), if_neg (by omega), if_neg (by omega)]
  omega
theorem ct_down {r v : Int} {n0 l0 : Nat} (h : l0 < n0) (hv : v < 0) : ct r (sg v ((n0 : Int) - (l0 : Int))) = r + 8 * r := by
  unfold ct sg
  rw [if_pos hv, if_neg (by omega), if_pos (by omega)]
set_option linter.unusedVariables false in
def li2V (x y z : Int) (B : Nat) (d : Nat) (v : Value) (_ : World) : Prop :=
  match d with
  | 16 => v = .pointer (some ⟨B, 0, none⟩)
  | 17 => v = .int .i64 x
  | 18 => v = .int .i64 (x.natAbs : Nat)
  | 19 => v = .pointer (some ⟨B, 1, none⟩)
  | 20 => v = .int .i64 y
  | 21 => v = .int .i64 (y.natAbs : Nat)
  | 22 => v = .pointer (some ⟨B, 2, none⟩)
  | 23 => v = .int .i64 z
  | 24 => v = .int .i64 (z.natAbs : Nat)
  | 25 => v = .int .i64 (max y.natAbs z.natAbs : Nat)
  | 26 => v = .int .i64 (max x.natAbs (max y.natAbs z.natAbs) : Nat)
  | 4 => v = .int .i64 (max x.natAbs (max y.natAbs z.natAbs) : Nat)
  | _ => True
set_option linter.unusedVariables false in
theorem li2V_mono (x y z : Int) (B : Nat) (d : Nat) (v : Value) (w w' : World) (h : li2V x y z B d v w) (_ : Below w.heap.size w w') : li2V x y z B d v w' := h
set_option linter.unusedVariables false in
def li11V0 (v0 : Int) (n0 l0 t j n M : Nat) (d : Nat) (v : Value) (_ : World) : Prop :=
  match d with
  | 36 => v = .int .i64 (t : Nat)
  | 37 => v = .slice (some ⟨M, 0, none⟩) 3 3
  | 38 => v = .int .i64 0
  | 39 => v = .pointer (some ⟨M, 0, none⟩)
  | 40 => v = .int .i64 v0
  | 41 => v = .int .i64 (n : Nat)
  | 42 => v = .int .i64 (n0 : Nat)
  | 43 => v = .int .i64 (t : Nat)
  | 44 => v = .int .i64 (j : Nat)
  | 45 => v = .slice (some ⟨M, 0, none⟩) 3 3
  | 46 => v = .int .i64 0
  | 47 => v = .pointer (some ⟨M, 0, none⟩)
  | 48 => v = .int .i64 v0
  | 49 => v = .int .i64 (n : Nat)
  | 50 => v = .int .i64 (l0 : Nat)
  | 51 => v = .bool (decide (l0 < n0))
  | _ => True
set_option linter.unusedVariables false in
theorem li11V0_mono (v0 : Int) (n0 l0 t j n M : Nat) (d : Nat) (v : Value) (w w' : World) (h : li11V0 v0 n0 l0 t j n M d v w) (_ : Below w.heap.size w w') : li11V0 v0 n0 l0 t j n M d v w' := h
set_option linter.unusedVariables false in
def li11V1 (v0 : Int) (n0 l0 t j n M : Nat) (d : Nat) (v : Value) (_ : World) : Prop :=
  match d with
  | 36 => v = .int .i64 (t : Nat)
  | 37 => v = .slice (some ⟨M, 0, none⟩) 3 3
  | 38 => v = .int .i64 1
  | 39 => v = .pointer (some ⟨M, 1, none⟩)
  | 40 => v = .int .i64 v0
  | 41 => v = .int .i64 (n : Nat)
  | 42 => v = .int .i64 (n0 : Nat)
  | 43 => v = .int .i64 (t : Nat)
  | 44 => v = .int .i64 (j : Nat)
  | 45 => v = .slice (some ⟨M, 0, none⟩) 3 3
  | 46 => v = .int .i64 1
  | 47 => v = .pointer (some ⟨M, 1, none⟩)
  | 48 => v = .int .i64 v0
  | 49 => v = .int .i64 (n : Nat)
  | 50 => v = .int .i64 (l0 : Nat)
  | 51 => v = .bool (decide (l0 < n0))
  | _ => True
set_option linter.unusedVariables false in
theorem li11V1_mono (v0 : Int) (n0 l0 t j n M : Nat) (d : Nat) (v : Value) (w w' : World) (h : li11V1 v0 n0 l0 t j n M d v w) (_ : Below w.heap.size w w') : li11V1 v0 n0 l0 t j n M d v w' := h
set_option linter.unusedVariables false in
def li11V2 (v0 : Int) (n0 l0 t j n M : Nat) (d : Nat) (v : Value) (_ : World) : Prop :=
  match d with
  | 36 => v = .int .i64 (t : Nat)
  | 37 => v = .slice (some ⟨M, 0, none⟩) 3 3
  | 38 => v = .int .i64 2
  | 39 => v = .pointer (some ⟨M, 2, none⟩)
  | 40 => v = .int .i64 v0
  | 41 => v = .int .i64 (n : Nat)
  | 42 => v = .int .i64 (n0 : Nat)
  | 43 => v = .int .i64 (t : Nat)
  | 44 => v = .int .i64 (j : Nat)
  | 45 => v = .slice (some ⟨M, 0, none⟩) 3 3
  | 46 => v = .int .i64 2
  | 47 => v = .pointer (some ⟨M, 2, none⟩)
  | 48 => v = .int .i64 v0
  | 49 => v = .int .i64 (n : Nat)
  | 50 => v = .int .i64 (l0 : Nat)
  | 51 => v = .bool (decide (l0 < n0))
  | _ => True
set_option linter.unusedVariables false in
theorem li11V2_mono (v0 : Int) (n0 l0 t j n M : Nat) (d : Nat) (v : Value) (w w' : World) (h : li11V2 v0 n0 l0 t j n M d v w) (_ : Below w.heap.size w w') : li11V2 v0 n0 l0 t j n M d v w' := h
set_option maxHeartbeats 6400000 in
set_option maxRecDepth 100000 in
theorem lineOf_any (x y z : Int) (w : World) (hm : mv x y z = true) :
    Calls Try.prog 17 #[v3 x y z] w fun e w' => ∃ ao cap, e = .returned (.slice ao (lg x y z) cap) ∧ RdI w' ao (lineL x y z) ∧ Below w.heap.size w w' := by
  have HM : Hid ((-20000 ≤ x ∧ x ≤ 20000) ∧ (-20000 ≤ y ∧ y ≤ 20000) ∧ (-20000 ≤ z ∧ z ≤ 20000)) := mv_iff.1 hm
  have HLL : Hid ((lineL x y z).length = lg x y z) := lineL_length x y z
  have HAT : Hid (∀ k (h : k < (lineL x y z).length), (lineL x y z)[k]'h = pu (stp x (lg x y z) k) (stp y (lg x y z) k) (stp z (lg x y z) k)) := fun k h => lineL_at h
  have HLE : Hid (lg x y z ≤ 20000) := lg_le hm
  obtain ⟨xs, hxs⟩ : ∃ xs, xs = lineL x y z := ⟨_, rfl⟩
  rw [← hxs] at HLL HAT ⊢
  have HA0 : Hid (∀ W, Calls Try.prog 36 #[.int .i64 x] W fun e w' => e = .returned (.int .i64 (x.natAbs : Nat)) ∧ w' = W) := fun W => sizeR_any x W HM.out.1.1 HM.out.1.2
  have HA1 : Hid (∀ W, Calls Try.prog 36 #[.int .i64 y] W fun e w' => e = .returned (.int .i64 (y.natAbs : Nat)) ∧ w' = W) := fun W => sizeR_any y W HM.out.2.1.1 HM.out.2.1.2
  have HA2 : Hid (∀ W, Calls Try.prog 36 #[.int .i64 z] W fun e w' => e = .returned (.int .i64 (z.natAbs : Nat)) ∧ w' = W) := fun W => sizeR_any z W HM.out.2.2.1 HM.out.2.2.2
  have HB0 : Hid (Below w.heap.size w ((w.alloc (o3 x y z 23)).alloc (o3 x y z 3))) := two_new _ _ _
  have KB0 : Hid (Bk w.heap.size [.int .i64 x, .int .i64 y, .int .i64 z] ((w.alloc (o3 x y z 23)).alloc (o3 x y z 3))) := (Bk.new w [.int .i64 x, .int .i64 y, .int .i64 z] 23 _ rfl).later ((Below.refl _ _).alloc (Nat.le_refl _) _)
  have KM0 : Hid (Bk (w.heap.size + 1) [.int .i64 x, .int .i64 y, .int .i64 z] ((w.alloc (o3 x y z 23)).alloc (o3 x y z 3))) := Bk.new (w.alloc (o3 x y z 23)) [.int .i64 x, .int .i64 y, .int .i64 z] 3 _ (by simp)
  clear hxs hm
  go_enter Try.func17, Try.ntmps17
  go_wp2_with fail
  generalize hW : (w.alloc (o3 x y z 23)).alloc (o3 x y z 3) = w0 at *
  clear hW
  obtain ⟨M, hM⟩ : ∃ M, M = w.heap.size + 1 := ⟨_, rfl⟩
  obtain ⟨B, hB⟩ : ∃ B, B = w.heap.size := ⟨_, rfl⟩
  rw [← hM] at KM0
  simp only [← hM]
  have KB : Hid (Bk B [.int .i64 x, .int .i64 y, .int .i64 z] w0) := by show Bk _ _ _; rw [hB]; exact KB0.out
  simp only [← hB]
  have hwM : w.heap.size ≤ M := by omega
  clear hM hB KB0
  refine region_inv [false, false, false, false, true, false, false, false, false, false, false, false, false, false, false, false, true, true, true, true, true, true, true, true, true, true, true, false, false, false, false, false, false, false, false, false, false, false, false, false, false, false, false, false, false, false, false, false, false, false, false, false, false, false, false, false, false, false, false, false, false, false, false, false, false, false, false, false, false, false, false, false, false, false]
    [(16, [], none), (17, [16], none), (18, [17], none), (19, [], none), (20, [19], none), (21, [20], none), (22, [], none), (23, [22], none), (24, [23], none), (25, [21, 24], none), (26, [18, 25], none), (4, [26], none)]
    (li2V x y z B) (by kernel_rfl) (by kernel_rfl) (li2V_mono x y z B) ?_ ?_
  · refine ⟨?_, ?_, ?_, ?_, ?_, ?_, ?_, ?_, ?_, ?_, ?_, ?_, trivial⟩
    · intro f w1 hb _ K hK
      simp only [over, overL, Nat.reduceAdd]
      go_simp
      exact hK _ _ ⟨_, rfl, by simp only [over, overL, Nat.reduceAdd]; rfl, Below.refl _ _⟩
    · intro f w1 hb ⟨h16, _⟩ K hK
      replace h16 : f 16 = _ := h16
      have q := (KB.out.later hb).c 0 rfl
      simp only [over, overL, Nat.reduceAdd, h16]
      go_simp
      exact hK _ _ ⟨_, rfl, by simp only [over, overL, Nat.reduceAdd, h16]; rfl, Below.refl _ _⟩
    · intro f w1 hb ⟨h17, _⟩ K hK
      replace h17 : f 17 = _ := h17
      simp only [over, overL, Nat.reduceAdd, h17]
      go_simp
      refine (HA0.out w1).mono ?_
      rintro e w2 ⟨rfl, hw2⟩
      exact hK _ _ ⟨_, rfl, by simp only [over, overL, Nat.reduceAdd, h17]; rfl, hw2 ▸ Below.refl _ _⟩
    · intro f w1 hb _ K hK
      simp only [over, overL, Nat.reduceAdd]
      go_simp
      exact hK _ _ ⟨_, rfl, by simp only [over, overL, Nat.reduceAdd]; rfl, Below.refl _ _⟩
    · intro f w1 hb ⟨h19, _⟩ K hK
      replace h19 : f 19 = _ := h19
      have q := (KB.out.later hb).c 1 rfl
      simp only [over, overL, Nat.reduceAdd, h19]
      go_simp
      exact hK _ _ ⟨_, rfl, by simp only [over, overL, Nat.reduceAdd, h19]; rfl, Below.refl _ _⟩
    · intro f w1 hb ⟨h20, _⟩ K hK
      replace h20 : f 20 = _ := h20
      simp only [over, overL, Nat.reduceAdd, h20]
      go_simp
      refine (HA1.out w1).mono ?_
      rintro e w2 ⟨rfl, hw2⟩
      exact hK _ _ ⟨_, rfl, by simp only [over, overL, Nat.reduceAdd, h20]; rfl, hw2 ▸ Below.refl _ _⟩
    · intro f w1 hb _ K hK
      simp only [over, overL, Nat.reduceAdd]
      go_simp
      exact hK _ _ ⟨_, rfl, by simp only [over, overL, Nat.reduceAdd]; rfl, Below.refl _ _⟩
    · intro f w1 hb ⟨h22, _⟩ K hK
      replace h22 : f 22 = _ := h22
      have q := (KB.out.later hb).c 2 rfl
      simp only [over, overL, Nat.reduceAdd, h22]
      go_simp
      exact hK _ _ ⟨_, rfl, by simp only [over, overL, Nat.reduceAdd, h22]; rfl, Below.refl _ _⟩
    · intro f w1 hb ⟨h23, _⟩ K hK
      replace h23 : f 23 = _ := h23
      simp only [over, overL, Nat.reduceAdd, h23]
      go_simp
      refine (HA2.out w1).mono ?_
      rintro e w2 ⟨rfl, hw2⟩
      exact hK _ _ ⟨_, rfl, by simp only [over, overL, Nat.reduceAdd, h23]; rfl, hw2 ▸ Below.refl _ _⟩
    · intro f w1 hb ⟨h21, h24, _⟩ K hK
      replace h21 : f 21 = _ := h21
      replace h24 : f 24 = _ := h24
      simp only [over, overL, Nat.reduceAdd, h21, h24]
      go_simp
      refine (greater_any y.natAbs z.natAbs w1).mono ?_
      rintro e w2 ⟨rfl, hw2⟩
      exact hK _ _ ⟨_, rfl, by simp only [over, overL, Nat.reduceAdd, h21, h24]; rfl, hw2 ▸ Below.refl _ _⟩
    · intro f w1 hb ⟨h18, h25, _⟩ K hK
      replace h18 : f 18 = _ := h18
      replace h25 : f 25 = _ := h25
      simp only [over, overL, Nat.reduceAdd, h18, h25]
      go_simp
      refine (greater_any x.natAbs (max y.natAbs z.natAbs) w1).mono ?_
      rintro e w2 ⟨rfl, hw2⟩
      exact hK _ _ ⟨_, rfl, by simp only [over, overL, Nat.reduceAdd, h18, h25]; rfl, hw2 ▸ Below.refl _ _⟩
    · intro f w1 hb ⟨h26, _⟩ K hK
      replace h26 : f 26 = _ := h26
      simp only [over, overL, Nat.reduceAdd, h26]
      go_simp
      exact hK _ _ ⟨_, rfl, by simp only [over, overL, Nat.reduceAdd, h26]; rfl, Below.refl _ _⟩
  intro f w1 hb1 hv
  have h4 : f 4 = .int .i64 (lg x y z : Nat) := hv.2.2.2.2.2.2.2.2.2.2.2.1
  have KM1 : Hid (Bk M [.int .i64 x, .int .i64 y, .int .i64 z] w1) := KM0.out.later hb1
  have HB1 : Hid (Below w.heap.size w w1) := HB0.out.trans (hb1.mono HB0.out.size)
  simp only [over_eq, overL, h4, Nat.reduceAdd]
  clear hv h4 hb1
  obtain ⟨n, hn⟩ : ∃ n, n = lg x y z := ⟨_, rfl⟩
  rw [← hn] at HLL HAT HLE ⊢
  have hn2 : n ≤ 20000 := HLE.out
  have HNN : Hid (n = lg x y z) := hn
  clear hn
  go_wp2_with fail
  go_loopw [5, 6] (fun v i wr => ∃ t : Nat, 1 ≤ t ∧ t ≤ n + 1 ∧ i = .int .i64 (t : Nat) ∧ OwnR encI wr (M + 1) v (xs.take (t - 1)) ∧ Bk M [.int .i64 x, .int .i64 y, .int .i64 z] wr ∧ Below w.heap.size w wr) (fun _ i _ => n + 1 - (intOf i).toNat)
  case atStart => exact ⟨1, Nat.le_refl _, by omega, rfl, OwnR.nil _ _ _, KM1.out, HB1.out⟩
  case round =>
    obtain ⟨t, ht1, ht2, rfl, hown, hmm, hb⟩ := hrel
    obtain ⟨aoV, nV, capV, hform⟩ := hown.form
    subst hform
    obtain ⟨j, hj⟩ : ∃ j, j = t - 1 := ⟨_, rfl⟩
    rw [← hj] at hown
    have hjt : t = j + 1 := by omega
    have HJT : Hid (t = j + 1) := hjt
    have HO : Hid (OwnR encI wr (M + 1) (.slice aoV nV capV) (xs.take j)) := hown
    have KM : Hid (Bk M [.int .i64 x, .int .i64 y, .int .i64 z] wr) := hmm
    have HB : Hid (Below w.heap.size w wr) := hb
    clear hown hmm hb hj hjt
    by_cases hlt : t ≤ n
    · have hp0 : 0 < n := by omega
      have hjp : j < n := by have := HJT.out; omega
      have W44 : Hid (Value.int .i64 (IntKind.i64.wrap ((t : Int) - 1)) = .int .i64 (j : Nat)) := by show _ = _; rw [wrap_in (by omega) (by omega)]; congr 1; have := HJT.out; omega
      have HT0 : Hid (∀ W, Calls Try.prog 37 #[.int .i64 (t : Nat), .int .i64 x, .int .i64 (n : Nat)] W fun e w' => e = .returned (.int .i64 (st x.natAbs n t : Nat)) ∧ w' = W) := fun W => behind_any t n x W HM.out.1.1 HM.out.1.2 (by omega) hp0 (by omega)
      have HJ0 : Hid (∀ W, Calls Try.prog 37 #[.int .i64 (j : Nat), .int .i64 x, .int .i64 (n : Nat)] W fun e w' => e = .returned (.int .i64 (st x.natAbs n j : Nat)) ∧ w' = W) := fun W => behind_any j n x W HM.out.1.1 HM.out.1.2 (by omega) hp0 (by omega)
      have a0 := st_mono (a := x.natAbs) (p := n) (k := j) hp0
      have E0 : Hid (stp x n j = sg x ((st x.natAbs n t : Nat) - (st x.natAbs n j : Nat))) := by show _ = _; rw [HJT.out]; exact stp_is hp0
      rw [← HJT.out] at a0
      have HT1 : Hid (∀ W, Calls Try.prog 37 #[.int .i64 (t : Nat), .int .i64 y, .int .i64 (n : Nat)] W fun e w' => e = .returned (.int .i64 (st y.natAbs n t : Nat)) ∧ w' = W) := fun W => behind_any t n y W HM.out.2.1.1 HM.out.2.1.2 (by omega) hp0 (by omega)
      have HJ1 : Hid (∀ W, Calls Try.prog 37 #[.int .i64 (j : Nat), .int .i64 y, .int .i64 (n : Nat)] W fun e w' => e = .returned (.int .i64 (st y.natAbs n j : Nat)) ∧ w' = W) := fun W => behind_any j n y W HM.out.2.1.1 HM.out.2.1.2 (by omega) hp0 (by omega)
      have a1 := st_mono (a := y.natAbs) (p := n) (k := j) hp0
      have E1 : Hid (stp y n j = sg y ((st y.natAbs n t : Nat) - (st y.natAbs n j : Nat))) := by show _ = _; rw [HJT.out]; exact stp_is hp0
      rw [← HJT.out] at a1
      have HT2 : Hid (∀ W, Calls Try.prog 37 #[.int .i64 (t : Nat), .int .i64 z, .int .i64 (n : Nat)] W fun e w' => e = .returned (.int .i64 (st z.natAbs n t : Nat)) ∧ w' = W) := fun W => behind_any t n z W HM.out.2.2.1 HM.out.2.2.2 (by omega) hp0 (by omega)
      have HJ2 : Hid (∀ W, Calls Try.prog 37 #[.int .i64 (j : Nat), .int .i64 z, .int .i64 (n : Nat)] W fun e w' => e = .returned (.int .i64 (st z.natAbs n j : Nat)) ∧ w' = W) := fun W => behind_any j n z W HM.out.2.2.1 HM.out.2.2.2 (by omega) hp0 (by omega)
      have a2 := st_mono (a := z.natAbs) (p := n) (k := j) hp0
      have E2 : Hid (stp z n j = sg z ((st z.natAbs n t : Nat) - (st z.natAbs n j : Nat))) := by show _ = _; rw [HJT.out]; exact stp_is hp0
      rw [← HJT.out] at a2
      have HTK : Hid (xs.take (j + 1) = xs.take j ++ [ct 1 (stp x n j) + ct 2 (stp y n j) + ct 4 (stp z n j)]) := by
        show _ = _
        rw [List.take_succ_eq_append_getElem (by rw [HLL.out]; exact hjp), HAT.out, pu_ct]
      have HLT : Hid ((xs.take j).length ≤ 1000000000) := by show _ ≤ _; rw [List.length_take, HLL.out]; omega
      generalize st x.natAbs n t = n0 at *
      generalize st y.natAbs n t = n1 at *
      generalize st z.natAbs n t = n2 at *
      generalize st x.natAbs n j = l0 at *
      generalize st y.natAbs n j = l1 at *
      generalize st z.natAbs n j = l2 at *
      rw [E0.out, E1.out, E2.out] at HTK
      generalize hpre : xs.take j = pr at *
      have A0 : Hid (l0 ≤ n0) := a0
      have A1 : Hid (l1 ≤ n1) := a1
      have A2 : Hid (l2 ≤ n2) := a2
      clear hpre E0 E1 E2 a0 a1 a2
      go_wp2_with fail
      refine wp_loop_rounds 4 ?_
      rw [rounds_succ]
      go_upto_block 3 with fail
      go_cut [7] from 32 to 68 (fun q wc => q = .int .i64 (0 + ct 1 (sg x ((n0 : Int) - (l0 : Int)))) ∧ Below wr.heap.size wr wc)
      case first =>
        have m0 := KM.out.c 0 rfl
        go_wp2_with fail
        refine region_inv [false, false, false, false, false, false, false, false, false, false, false, false, false, false, false, false, false, false, false, false, false, false, false, false, false, false, false, false, false, false, false, false, false, false, false, false, true, true, true, true, true, true, true, true, true, true, true, true, true, true, true, true, false, false, false, false, false, false, false, false, false, false, false, false, false, false, false, false, false, false, false, false, false, false]
          [(36, [], none), (37, [], none), (38, [], none), (39, [37, 38], none), (40, [39], none), (41, [], none), (42, [36, 40, 41], none), (43, [], none), (44, [43], none), (45, [], none), (46, [], none), (47, [45, 46], none), (48, [47], none), (49, [], none), (50, [44, 48, 49], none), (51, [42, 50], none)]
          (li11V0 x n0 l0 t j n M) (by kernel_rfl) (by kernel_rfl) (li11V0_mono x n0 l0 t j n M) ?_ ?_
        · refine ⟨?_, ?_, ?_, ?_, ?_, ?_, ?_, ?_, ?_, ?_, ?_, ?_, ?_, ?_, ?_, ?_, trivial⟩
          · intro f w1 hb _ K hK
            simp only [over, overL, Nat.reduceAdd]
            go_simp
            exact hK _ _ ⟨_, rfl, by simp only [over, overL, Nat.reduceAdd]; rfl, Below.refl _ _⟩
          · intro f w1 hb _ K hK
            simp only [over, overL, Nat.reduceAdd]
            go_simp
            exact hK _ _ ⟨_, rfl, by simp only [over, overL, Nat.reduceAdd]; rfl, Below.refl _ _⟩
          · intro f w1 hb _ K hK
            simp only [over, overL, Nat.reduceAdd]
            go_simp
            exact hK _ _ ⟨_, rfl, by simp only [over, overL, Nat.reduceAdd]; rfl, Below.refl _ _⟩
          · intro f w1 hb ⟨h37, h38, _⟩ K hK
            replace h37 : f 37 = _ := h37
            replace h38 : f 38 = _ := h38
            simp only [over, overL, Nat.reduceAdd, h37, h38]
            go_simp
            exact hK _ _ ⟨_, rfl, by simp only [over, overL, Nat.reduceAdd, h37, h38]; rfl, Below.refl _ _⟩
          · intro f w1 hb ⟨h39, _⟩ K hK
            replace h39 : f 39 = _ := h39
            have q := cell_later hb m0
            simp only [over, overL, Nat.reduceAdd, h39]
            go_simp
            exact hK _ _ ⟨_, rfl, by simp only [over, overL, Nat.reduceAdd, h39]; rfl, Below.refl _ _⟩
          · intro f w1 hb _ K hK
            simp only [over, overL, Nat.reduceAdd]
            go_simp
            exact hK _ _ ⟨_, rfl, by simp only [over, overL, Nat.reduceAdd]; rfl, Below.refl _ _⟩
          · intro f w1 hb ⟨h36, h40, h41, _⟩ K hK
            replace h36 : f 36 = _ := h36
            replace h40 : f 40 = _ := h40
            replace h41 : f 41 = _ := h41
            simp only [over, overL, Nat.reduceAdd, h36, h40, h41]
            go_simp
            refine (HT0.out w1).mono ?_
            rintro e w2 ⟨rfl, hw2⟩
            exact hK _ _ ⟨_, rfl, by simp only [over, overL, Nat.reduceAdd, h36, h40, h41]; rfl, hw2 ▸ Below.refl _ _⟩
          · intro f w1 hb _ K hK
            simp only [over, overL, Nat.reduceAdd]
            go_simp
            exact hK _ _ ⟨_, rfl, by simp only [over, overL, Nat.reduceAdd]; rfl, Below.refl _ _⟩
          · intro f w1 hb ⟨h43, _⟩ K hK
            replace h43 : f 43 = _ := h43
            simp only [over, overL, Nat.reduceAdd, h43]
            go_simp
            exact hK _ _ ⟨_, W44.out, by simp only [over, overL, Nat.reduceAdd, h43]; rfl, Below.refl _ _⟩
          · intro f w1 hb _ K hK
            simp only [over, overL, Nat.reduceAdd]
            go_simp
            exact hK _ _ ⟨_, rfl, by simp only [over, overL, Nat.reduceAdd]; rfl, Below.refl _ _⟩
          · intro f w1 hb _ K hK
            simp only [over, overL, Nat.reduceAdd]
            go_simp
            exact hK _ _ ⟨_, rfl, by simp only [over, overL, Nat.reduceAdd]; rfl, Below.refl _ _⟩
          · intro f w1 hb ⟨h45, h46, _⟩ K hK
            replace h45 : f 45 = _ := h45
            replace h46 : f 46 = _ := h46
            simp only [over, overL, Nat.reduceAdd, h45, h46]
            go_simp
            exact hK _ _ ⟨_, rfl, by simp only [over, overL, Nat.reduceAdd, h45, h46]; rfl, Below.refl _ _⟩
          · intro f w1 hb ⟨h47, _⟩ K hK
            replace h47 : f 47 = _ := h47
            have q := cell_later hb m0
            simp only [over, overL, Nat.reduceAdd, h47]
            go_simp
            exact hK _ _ ⟨_, rfl, by simp only [over, overL, Nat.reduceAdd, h47]; rfl, Below.refl _ _⟩
          · intro f w1 hb _ K hK
            simp only [over, overL, Nat.reduceAdd]
            go_simp
            exact hK _ _ ⟨_, rfl, by simp only [over, overL, Nat.reduceAdd]; rfl, Below.refl _ _⟩
          · intro f w1 hb ⟨h44, h48, h49, _⟩ K hK
            replace h44 : f 44 = _ := h44
            replace h48 : f 48 = _ := h48
            replace h49 : f 49 = _ := h49
            simp only [over, overL, Nat.reduceAdd, h44, h48, h49]
            go_simp
            refine (HJ0.out w1).mono ?_
            rintro e w2 ⟨rfl, hw2⟩
            exact hK _ _ ⟨_, rfl, by simp only [over, overL, Nat.reduceAdd, h44, h48, h49]; rfl, hw2 ▸ Below.refl _ _⟩
          · intro f w1 hb ⟨h42, h50, _⟩ K hK
            replace h42 : f 42 = _ := h42
            replace h50 : f 50 = _ := h50
            simp only [over, overL, Nat.reduceAdd, h42, h50]
            go_simp
            exact hK _ _ ⟨_, rfl, by simp only [over, overL, Nat.reduceAdd, h42, h50]; rfl, Below.refl _ _⟩
        intro f wa0 hb4 hv
        have h51 : f 51 = .bool (decide (l0 < n0)) := hv.2.2.2.2.2.2.2.2.2.2.2.2.2.2.2.1
        have KMwa0 : Hid (Bk M [.int .i64 x, .int .i64 y, .int .i64 z] wa0) := KM.out.later hb4
        have HB4 : Hid (Below wr.heap.size wr wa0) := hb4
        simp only [over_eq, overL, h51, Nat.reduceAdd]
        clear hv h51 hb4 m0
        have mm := KMwa0.out.c 0 rfl
        have aa := A0.out
        have hM4 : M < wa0.heap.size := KMwa0.out.1
        by_cases hs : l0 < n0
        · by_cases hv : x < 0
          · have HE : Hid (ct 1 (sg x ((n0 : Int) - (l0 : Int))) = 1 + 8 * 1) := ct_down hs hv
            go_wp2
            go_meet
            exact ⟨by rw [HE.out] <;> first | rfl | (congr 1 <;> omega), HB4.out.trans ((two_new _ _ _).mono HB4.out.size)⟩
          · have HE : Hid (ct 1 (sg x ((n0 : Int) - (l0 : Int))) = 1) := ct_up hs (by omega)
            go_wp2
            go_meet
            exact ⟨by rw [HE.out] <;> first | rfl | (congr 1 <;> omega), HB4.out.trans (((Below.refl _ _).alloc (Nat.le_refl _) _).mono HB4.out.size)⟩
        · have HE : Hid (ct 1 (sg x ((n0 : Int) - (l0 : Int))) = 0) := ct_no (by omega) aa
          go_wp2
          go_meet
          exact ⟨by rw [HE.out] <;> first | rfl | (congr 1 <;> omega), HB4.out⟩
      case rest =>
      obtain ⟨hq, hbc⟩ := hcut
      obtain ⟨wb0, hww⟩ : ∃ q : World, q = wc := ⟨_, rfl⟩
      subst hww
      have KMb0 : Hid (Bk M [.int .i64 x, .int .i64 y, .int .i64 z] wb0) := KM.out.later hbc
      have HBb0 : Hid (Below w.heap.size w wb0) := HB.out.trans (hbc.mono HB.out.size)
      have HOb0 : Hid (OwnR encI wb0 (M + 1) (.slice aoV nV capV) pr) := HO.out.later hbc
      have hct := ct_in 1 (sg x ((n0 : Int) - (l0 : Int))) (by decide)
      obtain ⟨Q0, hQ⟩ : ∃ Q : Int, Q = 0 + ct 1 (sg x ((n0 : Int) - (l0 : Int))) := ⟨_, rfl⟩
      rw [← hQ] at hq
      have hQ01 : 0 ≤ Q0 := by omega
      have hQ02 : Q0 ≤ 9 := by omega
      have HQ0 : Hid (Q0 = 0 + ct 1 (sg x ((n0 : Int) - (l0 : Int)))) := hQ
      rw [hq]
      clear hq hbc hct hQ
      go_wp2_with fail
      rw [rounds_succ]
      go_upto_block 3 with fail
      go_cut [7] from 32 to 68 (fun q wc => q = .int .i64 (Q0 + ct 2 (sg y ((n1 : Int) - (l1 : Int)))) ∧ Below wb0.heap.size wb0 wc)
      case first =>
        have m1 := KMb0.out.c 1 rfl
        go_wp2_with fail
        refine region_inv [false, false, false, false, false, false, false, false, false, false, false, false, false, false, false, false, false, false, false, false, false, false, false, false, false, false, false, false, false, false, false, false, false, false, false, false, true, true, true, true, true, true, true, true, true, true, true, true, true, true, true, true, false, false, false, false, false, false, false, false, false, false, false, false, false, false, false, false, false, false, false, false, false, false]
          [(36, [], none), (37, [], none), (38, [], none), (39, [37, 38], none), (40, [39], none), (41, [], none), (42, [36, 40, 41], none), (43, [], none), (44, [43], none), (45, [], none), (46, [], none), (47, [45, 46], none), (48, [47], none), (49, [], none), (50, [44, 48, 49], none), (51, [42, 50], none)]
          (li11V1 y n1 l1 t j n M) (by kernel_rfl) (by kernel_rfl) (li11V1_mono y n1 l1 t j n M) ?_ ?_
        · refine ⟨?_, ?_, ?_, ?_, ?_, ?_, ?_, ?_, ?_, ?_, ?_, ?_, ?_, ?_, ?_, ?_, trivial⟩
          · intro f w1 hb _ K hK
            simp only [over, overL, Nat.reduceAdd]
            go_simp
            exact hK _ _ ⟨_, rfl, by simp only [over, overL, Nat.reduceAdd]; rfl, Below.refl _ _⟩
          · intro f w1 hb _ K hK
            simp only [over, overL, Nat.reduceAdd]
            go_simp
            exact hK _ _ ⟨_, rfl, by simp only [over, overL, Nat.reduceAdd]; rfl, Below.refl _ _⟩
          · intro f w1 hb _ K hK
            simp only [over, overL, Nat.reduceAdd]
            go_simp
            exact hK _ _ ⟨_, rfl, by simp only [over, overL, Nat.reduceAdd]; rfl, Below.refl _ _⟩
          · intro f w1 hb ⟨h37, h38, _⟩ K hK
            replace h37 : f 37 = _ := h37
            replace h38 : f 38 = _ := h38
            simp only [over, overL, Nat.reduceAdd, h37, h38]
            go_simp
            exact hK _ _ ⟨_, rfl, by simp only [over, overL, Nat.reduceAdd, h37, h38]; rfl, Below.refl _ _⟩
          · intro f w1 hb ⟨h39, _⟩ K hK
            replace h39 : f 39 = _ := h39
            have q := cell_later hb m1
            simp only [over, overL, Nat.reduceAdd, h39]
            go_simp
            exact hK _ _ ⟨_, rfl, by simp only [over, overL, Nat.reduceAdd, h39]; rfl, Below.refl _ _⟩
          · intro f w1 hb _ K hK
            simp only [over, overL, Nat.reduceAdd]
            go_simp
            exact hK _ _ ⟨_, rfl, by simp only [over, overL, Nat.reduceAdd]; rfl, Below.refl _ _⟩
          · intro f w1 hb ⟨h36, h40, h41, _⟩ K hK
            replace h36 : f 36 = _ := h36
            replace h40 : f 40 = _ := h40
            replace h41 : f 41 = _ := h41
            simp only [over, overL, Nat.reduceAdd, h36, h40, h41]
            go_simp
            refine (HT1.out w1).mono ?_
            rintro e w2 ⟨rfl, hw2⟩
            exact hK _ _ ⟨_, rfl, by simp only [over, overL, Nat.reduceAdd, h36, h40, h41]; rfl, hw2 ▸ Below.refl _ _⟩
          · intro f w1 hb _ K hK
            simp only [over, overL, Nat.reduceAdd]
            go_simp
            exact hK _ _ ⟨_, rfl, by simp only [over, overL, Nat.reduceAdd]; rfl, Below.refl _ _⟩
          · intro f w1 hb ⟨h43, _⟩ K hK
            replace h43 : f 43 = _ := h43
            simp only [over, overL, Nat.reduceAdd, h43]
            go_simp
            exact hK _ _ ⟨_, W44.out, by simp only [over, overL, Nat.reduceAdd, h43]; rfl, Below.refl _ _⟩
          · intro f w1 hb _ K hK
            simp only [over, overL, Nat.reduceAdd]
            go_simp
            exact hK _ _ ⟨_, rfl, by simp only [over, overL, Nat.reduceAdd]; rfl, Below.refl _ _⟩
          · intro f w1 hb _ K hK
            simp only [over, overL, Nat.reduceAdd]
            go_simp
            exact hK _ _ ⟨_, rfl, by simp only [over, overL, Nat.reduceAdd]; rfl, Below.refl _ _⟩
          · intro f w1 hb ⟨h45, h46, _⟩ K hK
            replace h45 : f 45 = _ := h45
            replace h46 : f 46 = _ := h46
            simp only [over, overL, Nat.reduceAdd, h45, h46]
            go_simp
            exact hK _ _ ⟨_, rfl, by simp only [over, overL, Nat.reduceAdd, h45, h46]; rfl, Below.refl _ _⟩
          · intro f w1 hb ⟨h47, _⟩ K hK
            replace h47 : f 47 = _ := h47
            have q := cell_later hb m1
            simp only [over, overL, Nat.reduceAdd, h47]
            go_simp
            exact hK _ _ ⟨_, rfl, by simp only [over, overL, Nat.reduceAdd, h47]; rfl, Below.refl _ _⟩
          · intro f w1 hb _ K hK
            simp only [over, overL, Nat.reduceAdd]
            go_simp
            exact hK _ _ ⟨_, rfl, by simp only [over, overL, Nat.reduceAdd]; rfl, Below.refl _ _⟩
          · intro f w1 hb ⟨h44, h48, h49, _⟩ K hK
            replace h44 : f 44 = _ := h44
            replace h48 : f 48 = _ := h48
            replace h49 : f 49 = _ := h49
            simp only [over, overL, Nat.reduceAdd, h44, h48, h49]
            go_simp
            refine (HJ1.out w1).mono ?_
            rintro e w2 ⟨rfl, hw2⟩
            exact hK _ _ ⟨_, rfl, by simp only [over, overL, Nat.reduceAdd, h44, h48, h49]; rfl, hw2 ▸ Below.refl _ _⟩
          · intro f w1 hb ⟨h42, h50, _⟩ K hK
            replace h42 : f 42 = _ := h42
            replace h50 : f 50 = _ := h50
            simp only [over, overL, Nat.reduceAdd, h42, h50]
            go_simp
            exact hK _ _ ⟨_, rfl, by simp only [over, overL, Nat.reduceAdd, h42, h50]; rfl, Below.refl _ _⟩
        intro f wa1 hb4 hv
        have h51 : f 51 = .bool (decide (l1 < n1)) := hv.2.2.2.2.2.2.2.2.2.2.2.2.2.2.2.1
        have KMwa1 : Hid (Bk M [.int .i64 x, .int .i64 y, .int .i64 z] wa1) := KMb0.out.later hb4
        have HB4 : Hid (Below wb0.heap.size wb0 wa1) := hb4
        simp only [over_eq, overL, h51, Nat.reduceAdd]
        clear hv h51 hb4 m1
        have mm := KMwa1.out.c 1 rfl
        have aa := A1.out
        have hM4 : M < wa1.heap.size := KMwa1.out.1
        by_cases hs : l1 < n1
        · by_cases hv : y < 0
          · have HE : Hid (ct 2 (sg y ((n1 : Int) - (l1 : Int))) = 2 + 8 * 2) := ct_down hs hv
            go_wp2
            go_meet
            exact ⟨by rw [HE.out] <;> first | rfl | (congr 1 <;> omega), HB4.out.trans ((two_new _ _ _).mono HB4.out.size)⟩
          · have HE : Hid (ct 2 (sg y ((n1 : Int) - (l1 : Int))) = 2) := ct_up hs (by omega)
            go_wp2
            go_meet
            exact ⟨by rw [HE.out] <;> first | rfl | (congr 1 <;> omega), HB4.out.trans (((Below.refl _ _).alloc (Nat.le_refl _) _).mono HB4.out.size)⟩
        · have HE : Hid (ct 2 (sg y ((n1 : Int) - (l1 : Int))) = 0) := ct_no (by omega) aa
          go_wp2
          go_meet
          exact ⟨by rw [HE.out] <;> first | rfl | (congr 1 <;> omega), HB4.out⟩
      case rest =>
      obtain ⟨hq, hbc⟩ := hcut
      obtain ⟨wb1, hww⟩ : ∃ q : World, q = wc := ⟨_, rfl⟩
      subst hww
      have KMb1 : Hid (Bk M [.int .i64 x, .int .i64 y, .int .i64 z] wb1) := KMb0.out.later hbc
      have HBb1 : Hid (Below w.heap.size w wb1) := HBb0.out.trans (hbc.mono HBb0.out.size)
      have HOb1 : Hid (OwnR encI wb1 (M + 1) (.slice aoV nV capV) pr) := HOb0.out.later hbc
      have hct := ct_in 2 (sg y ((n1 : Int) - (l1 : Int))) (by decide)
      obtain ⟨Q1, hQ⟩ : ∃ Q : Int, Q = Q0 + ct 2 (sg y ((n1 : Int) - (l1 : Int))) := ⟨_, rfl⟩
      rw [← hQ] at hq
      have hQ11 : 0 ≤ Q1 := by omega
      have hQ12 : Q1 ≤ 27 := by omega
      have HQ1 : Hid (Q1 = Q0 + ct 2 (sg y ((n1 : Int) - (l1 : Int)))) := hQ
      rw [hq]
      clear hq hbc hct hQ
      go_wp2_with fail
      rw [rounds_succ]
      go_upto_block 3 with fail
      go_cut [7] from 32 to 68 (fun q wc => q = .int .i64 (Q1 + ct 4 (sg z ((n2 : Int) - (l2 : Int)))) ∧ Below wb1.heap.size wb1 wc)
      case first =>
        have m2 := KMb1.out.c 2 rfl
        go_wp2_with fail
        refine region_inv [false, false, false, false, false, false, false, false, false, false, false, false, false, false, false, false, false, false, false, false, false, false, false, false, false, false, false, false, false, false, false, false, false, false, false, false, true, true, true, true, true, true, true, true, true, true, true, true, true, true, true, true, false, false, false, false, false, false, false, false, false, false, false, false, false, false, false, false, false, false, false, false, false, false]
          [(36, [], none), (37, [], none), (38, [], none), (39, [37, 38], none), (40, [39], none), (41, [], none), (42, [36, 40, 41], none), (43, [], none), (44, [43], none), (45, [], none), (46, [], none), (47, [45, 46], none), (48, [47], none), (49, [], none), (50, [44, 48, 49], none), (51, [42, 50], none)]
          (li11V2 z n2 l2 t j n M) (by kernel_rfl) (by kernel_rfl) (li11V2_mono z n2 l2 t j n M) ?_ ?_
        · refine ⟨?_, ?_, ?_, ?_, ?_, ?_, ?_, ?_, ?_, ?_, ?_, ?_, ?_, ?_, ?_, ?_, trivial⟩
          · intro f w1 hb _ K hK
            simp only [over, overL, Nat.reduceAdd]
            go_simp
            exact hK _ _ ⟨_, rfl, by simp only [over, overL, Nat.reduceAdd]; rfl, Below.refl _ _⟩
          · intro f w1 hb _ K hK
            simp only [over, overL, Nat.reduceAdd]
            go_simp
            exact hK _ _ ⟨_, rfl, by simp only [over, overL, Nat.reduceAdd]; rfl, Below.refl _ _⟩
          · intro f w1 hb _ K hK
            simp only [over, overL, Nat.reduceAdd]
            go_simp
            exact hK _ _ ⟨_, rfl, by simp only [over, overL, Nat.reduceAdd]; rfl, Below.refl _ _⟩
          · intro f w1 hb ⟨h37, h38, _⟩ K hK
            replace h37 : f 37 = _ := h37
            replace h38 : f 38 = _ := h38
            simp only [over, overL, Nat.reduceAdd, h37, h38]
            go_simp
            exact hK _ _ ⟨_, rfl, by simp only [over, overL, Nat.reduceAdd, h37, h38]; rfl, Below.refl _ _⟩
          · intro f w1 hb ⟨h39, _⟩ K hK
            replace h39 : f 39 = _ := h39
            have q := cell_later hb m2
            simp only [over, overL, Nat.reduceAdd, h39]
            go_simp
            exact hK _ _ ⟨_, rfl, by simp only [over, overL, Nat.reduceAdd, h39]; rfl, Below.refl _ _⟩
          · intro f w1 hb _ K hK
            simp only [over, overL, Nat.reduceAdd]
            go_simp
            exact hK _ _ ⟨_, rfl, by simp only [over, overL, Nat.reduceAdd]; rfl, Below.refl _ _⟩
          · intro f w1 hb ⟨h36, h40, h41, _⟩ K hK
            replace h36 : f 36 = _ := h36
            replace h40 : f 40 = _ := h40
            replace h41 : f 41 = _ := h41
            simp only [over, overL, Nat.reduceAdd, h36, h40, h41]
            go_simp
            refine (HT2.out w1).mono ?_
            rintro e w2 ⟨rfl, hw2⟩
            exact hK _ _ ⟨_, rfl, by simp only [over, overL, Nat.reduceAdd, h36, h40, h41]; rfl, hw2 ▸ Below.refl _ _⟩
          · intro f w1 hb _ K hK
            simp only [over, overL, Nat.reduceAdd]
            go_simp
            exact hK _ _ ⟨_, rfl, by simp only [over, overL, Nat.reduceAdd]; rfl, Below.refl _ _⟩
          · intro f w1 hb ⟨h43, _⟩ K hK
            replace h43 : f 43 = _ := h43
            simp only [over, overL, Nat.reduceAdd, h43]
            go_simp
            exact hK _ _ ⟨_, W44.out, by simp only [over, overL, Nat.reduceAdd, h43]; rfl, Below.refl _ _⟩
          · intro f w1 hb _ K hK
            simp only [over, overL, Nat.reduceAdd]
            go_simp
            exact hK _ _ ⟨_, rfl, by simp only [over, overL, Nat.reduceAdd]; rfl, Below.refl _ _⟩
          · intro f w1 hb _ K hK
            simp only [over, overL, Nat.reduceAdd]
            go_simp
            exact hK _ _ ⟨_, rfl, by simp only [over, overL, Nat.reduceAdd]; rfl, Below.refl _ _⟩
          · intro f w1 hb ⟨h45, h46, _⟩ K hK
            replace h45 : f 45 = _ := h45
            replace h46 : f 46 = _ := h46
            simp only [over, overL, Nat.reduceAdd, h45, h46]
            go_simp
            exact hK _ _ ⟨_, rfl, by simp only [over, overL, Nat.reduceAdd, h45, h46]; rfl, Below.refl _ _⟩
          · intro f w1 hb ⟨h47, _⟩ K hK
            replace h47 : f 47 = _ := h47
            have q := cell_later hb m2
            simp only [over, overL, Nat.reduceAdd, h47]
            go_simp
            exact hK _ _ ⟨_, rfl, by simp only [over, overL, Nat.reduceAdd, h47]; rfl, Below.refl _ _⟩
          · intro f w1 hb _ K hK
            simp only [over, overL, Nat.reduceAdd]
            go_simp
            exact hK _ _ ⟨_, rfl, by simp only [over, overL, Nat.reduceAdd]; rfl, Below.refl _ _⟩
          · intro f w1 hb ⟨h44, h48, h49, _⟩ K hK
            replace h44 : f 44 = _ := h44
            replace h48 : f 48 = _ := h48
            replace h49 : f 49 = _ := h49
            simp only [over, overL, Nat.reduceAdd, h44, h48, h49]
            go_simp
            refine (HJ2.out w1).mono ?_
            rintro e w2 ⟨rfl, hw2⟩
            exact hK _ _ ⟨_, rfl, by simp only [over, overL, Nat.reduceAdd, h44, h48, h49]; rfl, hw2 ▸ Below.refl _ _⟩
          · intro f w1 hb ⟨h42, h50, _⟩ K hK
            replace h42 : f 42 = _ := h42
            replace h50 : f 50 = _ := h50
            simp only [over, overL, Nat.reduceAdd, h42, h50]
            go_simp
            exact hK _ _ ⟨_, rfl, by simp only [over, overL, Nat.reduceAdd, h42, h50]; rfl, Below.refl _ _⟩
        intro f wa2 hb4 hv
        have h51 : f 51 = .bool (decide (l2 < n2)) := hv.2.2.2.2.2.2.2.2.2.2.2.2.2.2.2.1
        have KMwa2 : Hid (Bk M [.int .i64 x, .int .i64 y, .int .i64 z] wa2) := KMb1.out.later hb4
        have HB4 : Hid (Below wb1.heap.size wb1 wa2) := hb4
        simp only [over_eq, overL, h51, Nat.reduceAdd]
        clear hv h51 hb4 m2
        have mm := KMwa2.out.c 2 rfl
        have aa := A2.out
        have hM4 : M < wa2.heap.size := KMwa2.out.1
        by_cases hs : l2 < n2
        · by_cases hv : z < 0
          · have HE : Hid (ct 4 (sg z ((n2 : Int) - (l2 : Int))) = 4 + 8 * 4) := ct_down hs hv
            go_wp2
            go_meet
            exact ⟨by rw [HE.out] <;> first | rfl | (congr 1 <;> omega), HB4.out.trans ((two_new _ _ _).mono HB4.out.size)⟩
          · have HE : Hid (ct 4 (sg z ((n2 : Int) - (l2 : Int))) = 4) := ct_up hs (by omega)
            go_wp2
            go_meet
            exact ⟨by rw [HE.out] <;> first | rfl | (congr 1 <;> omega), HB4.out.trans (((Below.refl _ _).alloc (Nat.le_refl _) _).mono HB4.out.size)⟩
        · have HE : Hid (ct 4 (sg z ((n2 : Int) - (l2 : Int))) = 0) := ct_no (by omega) aa
          go_wp2
          go_meet
          exact ⟨by rw [HE.out] <;> first | rfl | (congr 1 <;> omega), HB4.out⟩
      case rest =>
      obtain ⟨hq, hbc⟩ := hcut
      obtain ⟨wb2, hww⟩ : ∃ q : World, q = wc := ⟨_, rfl⟩
      subst hww
      have KMb2 : Hid (Bk M [.int .i64 x, .int .i64 y, .int .i64 z] wb2) := KMb1.out.later hbc
      have HBb2 : Hid (Below w.heap.size w wb2) := HBb1.out.trans (hbc.mono HBb1.out.size)
      have HOb2 : Hid (OwnR encI wb2 (M + 1) (.slice aoV nV capV) pr) := HOb1.out.later hbc
      have hct := ct_in 4 (sg z ((n2 : Int) - (l2 : Int))) (by decide)
      obtain ⟨Q2, hQ⟩ : ∃ Q : Int, Q = Q1 + ct 4 (sg z ((n2 : Int) - (l2 : Int))) := ⟨_, rfl⟩
      rw [← hQ] at hq
      have hQ21 : 0 ≤ Q2 := by omega
      have hQ22 : Q2 ≤ 63 := by omega
      have HQ2 : Hid (Q2 = Q1 + ct 4 (sg z ((n2 : Int) - (l2 : Int)))) := hQ
      rw [hq]
      clear hq hbc hct hQ
      go_wp2_with fail
      rw [rounds_succ]
      have HTQ : Hid (xs.take (j + 1) = pr ++ [Q2]) := by
        show _ = _
        rw [HTK.out, HQ2.out, HQ1.out, HQ0.out]
        congr 2
        omega
      have hnb : Below wb2.heap.size wb2 (wb2.alloc (.cells #[.int .i64 Q2] 3)) := (Below.refl _ _).alloc (Nat.le_refl _) _
      have HBa : Hid (Below w.heap.size w (wb2.alloc (.cells #[.int .i64 Q2] 3))) := HBb2.out.trans (hnb.mono HBb2.out.size)
      have KMa : Hid (Bk M [.int .i64 x, .int .i64 y, .int .i64 z] (wb2.alloc (.cells #[.int .i64 Q2] 3))) := KMb2.out.later hnb
      have HZa : Hid (M + 1 ≤ (wb2.alloc (.cells #[.int .i64 Q2] 3)).heap.size) := by show _ ≤ _; have := KMb2.out.1; simp; omega
      have HNB : Hid (∀ g, (Value.slice aoV nV capV).ownBlock = some g → M + 1 ≤ g) := fun g e => (World.ownsRow.lt HO.out g e).1
      clear hnb
      go_wp2_with (at_builtin; refine wpList_append_row goodI Try.underlying24 infoI rfl (by decide) (by decide) _ rfl (.tmp 69) (.tmp 71) rfl (M + 1) (.slice aoV nV capV) pr rfl (HOb2.out.alloc _) wb2.heap.size Q2 rfl (fun j u hu => (Bk.new wb2 [.int .i64 Q2] 3 wb2.heap.size rfl).c j hu) HLT.out HZa.out ?_; intro v' w10 ho hg hloc; have HOc : Hid (OwnR encI w10 (M + 1) v' (pr ++ [Q2])) := ho; have HBc : Hid (Below w.heap.size w w10) := below_row HBa.out ((HOb2.out.alloc (.cells #[.int .i64 Q2] 3)).base (by omega)) hg HBa.out.size; have KMc : Hid (Bk M [.int .i64 x, .int .i64 y, .int .i64 z] w10) := KMa.out.same hg.size (hg.block _ KMa.out.1 (fun e => by have := HNB.out _ e.symm; omega)); clear ho hg hloc)
      go_roundw
      case rel =>
        refine ⟨t + 1, by omega, by omega, by go_num, ?_, KMc.out, HBc.out⟩
        rw [Nat.add_sub_cancel, HJT.out, HTQ.out]
        exact HOc.out
      case measure => simp [intOf]; omega
    · have HF : Hid (OwnR encI wr (M + 1) (.slice aoV nV capV) xs) := by
        have := HO.out
        rw [List.take_of_length_le (by rw [HLL.out]; have := HJT.out; omega)] at this
        exact this
      go_wp2
      go_ret
      obtain ⟨ao2, cap2, e, hr⟩ := own_rdI HF.out
      rw [HLL.out] at e
      exact ⟨ao2, cap2, by rw [← HNN.out, ← e]; rfl, hr, HB.out⟩
end Go.Proofs.Ytanmfhaiahhoeaa
