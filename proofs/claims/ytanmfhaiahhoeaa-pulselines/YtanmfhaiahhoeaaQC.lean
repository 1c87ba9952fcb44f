/- An axis: its size, its next part. -/
import Derived.Test.YtanmfhaiahhoeaaQA
import Derived.Test.YtanmfhaiahhoeaaQB
import Derived.Deep.Cut
namespace Go.Proofs.Ytanmfhaiahhoeaa
open Go.RowKit

set_option linter.unusedVariables false in
def szV (b o : Nat) (n : Int) (d : Nat) (v : Value) (_ : World) : Prop :=
  match d with
  | 3 => v = .pointer (some ⟨b, o, none⟩)
  | 4 => v = .pointer (some ⟨b, o, none⟩)
  | 5 => v = .pointer (some ⟨b, o, none⟩)
  | 6 => v = .int .i64 n
  | 7 => v = .pointer (some ⟨b, o, none⟩)
  | 8 => v = .pointer (some ⟨b, o, none⟩)
  | 9 => v = .pointer (some ⟨b, o, none⟩)
  | 10 => v = .int .i64 n
  | 11 => v = .int .i64 (-n)
  | 12 => v = .int .i64 (n.natAbs : Nat)
  | 2 => v = .int .i64 (n.natAbs : Nat)
  | _ => True
set_option linter.unusedVariables false in
theorem szV_mono (b o : Nat) (n : Int) (d : Nat) (v : Value) (w w' : World) (h : szV b o n d v w) (_ : Below w.heap.size w w') : szV b o n d v w' := h
set_option maxHeartbeats 6400000 in
set_option maxRecDepth 100000 in
theorem size_any (b o : Nat) (n : Int) (w : World) (hc : w.cell? ⟨b, o, none⟩ = some (.int .i64 n)) (h1 : -20000 ≤ n) (h2 : n ≤ 20000) :
    Calls Try.prog 43 #[.pointer (some ⟨b, o, none⟩)] w fun e w' => e = .returned (.int .i64 (n.natAbs : Nat)) ∧ Below w.heap.size w w' := by
  have HC : Hid (w.cell? ⟨b, o, none⟩ = some (.int .i64 n)) := hc
  have WN : Hid (Value.int .i64 (IntKind.i64.wrap (-n)) = .int .i64 (-n)) := by show _ = _; rw [wrap_in (by omega) (by omega)]
  have WM : Hid (Value.int .i64 (if n < -n then -n else n) = .int .i64 (n.natAbs : Nat)) := by show _ = _; congr 1; split <;> omega
  clear hc h1 h2
  go_enter Try.func43, Try.ntmps43
  go_wp2_with fail
  refine region_inv [false, false, true, true, true, true, true, true, true, true, true, true, true]
    [(3, [], none), (4, [3], none), (5, [4], none), (6, [5], none), (7, [], none), (8, [7], none), (9, [8], none), (10, [9], none), (11, [10], none), (12, [6, 11], none), (2, [12], none)]
    (szV b o n) (by kernel_rfl) (by kernel_rfl) (szV_mono b o n) ?_ ?_
  · refine ⟨?_, ?_, ?_, ?_, ?_, ?_, ?_, ?_, ?_, ?_, ?_, trivial⟩
    · intro f w1 hb _ K hK
      simp only [over, overL, Nat.reduceAdd]
      go_simp
      exact hK _ _ ⟨_, rfl, by simp only [over, overL, Nat.reduceAdd]; rfl, Below.refl _ _⟩
    · intro f w1 hb ⟨h3, _⟩ K hK
      replace h3 : f 3 = _ := h3
      simp only [over, overL, Nat.reduceAdd, h3]
      go_simp
      exact hK _ _ ⟨_, rfl, by simp only [over, overL, Nat.reduceAdd, h3]; rfl, Below.refl _ _⟩
    · intro f w1 hb ⟨h4, _⟩ K hK
      replace h4 : f 4 = _ := h4
      simp only [over, overL, Nat.reduceAdd, h4]
      go_simp
      exact hK _ _ ⟨_, rfl, by simp only [over, overL, Nat.reduceAdd, h4]; rfl, Below.refl _ _⟩
    · intro f w1 hb ⟨h5, _⟩ K hK
      replace h5 : f 5 = _ := h5
      have q := cell_later hb HC.out
      simp only [over, overL, Nat.reduceAdd, h5]
      go_simp
      exact hK _ _ ⟨_, rfl, by simp only [over, overL, Nat.reduceAdd, h5]; rfl, Below.refl _ _⟩
    · intro f w1 hb _ K hK
      simp only [over, overL, Nat.reduceAdd]
      go_simp
      exact hK _ _ ⟨_, rfl, by simp only [over, overL, Nat.reduceAdd]; rfl, Below.refl _ _⟩
    · intro f w1 hb ⟨h7, _⟩ K hK
      replace h7 : f 7 = _ := h7
      simp only [over, overL, Nat.reduceAdd, h7]
      go_simp
      exact hK _ _ ⟨_, rfl, by simp only [over, overL, Nat.reduceAdd, h7]; rfl, Below.refl _ _⟩
    · intro f w1 hb ⟨h8, _⟩ K hK
      replace h8 : f 8 = _ := h8
      simp only [over, overL, Nat.reduceAdd, h8]
      go_simp
      exact hK _ _ ⟨_, rfl, by simp only [over, overL, Nat.reduceAdd, h8]; rfl, Below.refl _ _⟩
    · intro f w1 hb ⟨h9, _⟩ K hK
      replace h9 : f 9 = _ := h9
      have q := cell_later hb HC.out
      simp only [over, overL, Nat.reduceAdd, h9]
      go_simp
      exact hK _ _ ⟨_, rfl, by simp only [over, overL, Nat.reduceAdd, h9]; rfl, Below.refl _ _⟩
    · intro f w1 hb ⟨h10, _⟩ K hK
      replace h10 : f 10 = _ := h10
      simp only [over, overL, Nat.reduceAdd, h10]
      go_simp
      exact hK _ _ ⟨_, WN.out, by simp only [over, overL, Nat.reduceAdd, h10]; rfl, Below.refl _ _⟩
    · intro f w1 hb ⟨h6, h11, _⟩ K hK
      replace h6 : f 6 = _ := h6
      replace h11 : f 11 = _ := h11
      simp only [over, overL, Nat.reduceAdd, h6, h11]
      go_simp
      exact hK _ _ ⟨_, WM.out, by simp only [over, overL, Nat.reduceAdd, h6, h11]; rfl, Below.refl _ _⟩
    · intro f w1 hb ⟨h12, _⟩ K hK
      replace h12 : f 12 = _ := h12
      simp only [over, overL, Nat.reduceAdd, h12]
      go_simp
      exact hK _ _ ⟨_, rfl, by simp only [over, overL, Nat.reduceAdd, h12]; rfl, Below.refl _ _⟩
  intro f w1 hb hv
  have hr : f 2 = .int .i64 (n.natAbs : Nat) := hv.2.2.2.2.2.2.2.2.2.2.1
  have HB : Hid (Below w.heap.size w w1) := hb
  simp only [over_eq, overL, hr, Nat.reduceAdd]
  go_wp2
  go_ret
  exact ⟨rfl, HB.out⟩
set_option linter.unusedVariables false in
def nxV (b o l x : Nat) (n : Int) (d : Nat) (v : Value) (_ : World) : Prop :=
  match d with
  | 6 => v = .pointer (some ⟨b, o, none⟩)
  | 7 => v = .pointer (some ⟨b, o, none⟩)
  | 8 => v = .pointer (some ⟨b, o + 1, none⟩)
  | 9 => v = .int .i64 (l : Nat)
  | 10 => v = .pointer (some ⟨b, o, none⟩)
  | 11 => v = .int .i64 (n.natAbs : Nat)
  | 12 => v = .int .i64 (2 * (n.natAbs : Nat))
  | 13 => v = .int .i64 (x : Nat)
  | 14 => v = .pointer (some ⟨b, o, none⟩)
  | 15 => v = .pointer (some ⟨b, o + 1, none⟩)
  | _ => True
set_option linter.unusedVariables false in
theorem nxV_mono (b o l x : Nat) (n : Int) (d : Nat) (v : Value) (w w' : World) (h : nxV b o l x n d v w) (_ : Below w.heap.size w w') : nxV b o l x n d v w' := h
set_option maxHeartbeats 6400000 in
set_option maxRecDepth 100000 in
theorem next_any (b o p l : Nat) (n : Int) (cs : List Value) (w : World) (hB : Bk b cs w) (h0 : cs[o]? = some (.int .i64 n)) (h1 : cs[o + 1]? = some (.int .i64 (l : Nat))) (hn1 : -20000 ≤ n) (hn2 : n ≤ 20000) (hp : 0 < p) (hp2 : p ≤ 20000) (hl : l < 2 * p) :
    Calls Try.prog 40 #[.pointer (some ⟨b, o, none⟩), .int .i64 (p : Nat)] w fun e w' => e = .returned (.int .i64 (sg n ((l + 2 * n.natAbs) / (2 * p) : Nat))) ∧ Bk b (cs.set (o + 1) (.int .i64 ((l + 2 * n.natAbs) % (2 * p) : Nat))) w' ∧ Kpt (fun k => k = b) w w' := by
  obtain ⟨x, hx⟩ : ∃ x, x = l + 2 * n.natAbs := ⟨_, rfl⟩
  have HBK : Hid (Bk b cs w) := hB
  have H0 : Hid (cs[o]? = some (.int .i64 n)) := h0
  have H1 : Hid (cs[o + 1]? = some (.int .i64 (l : Nat))) := h1
  have HS : Hid (∀ w1, Below w.heap.size w w1 → Calls Try.prog 43 #[.pointer (some ⟨b, o, none⟩)] w1 fun e w' => e = .returned (.int .i64 (n.natAbs : Nat)) ∧ Below w1.heap.size w1 w') := fun w1 hb => size_any b o n w1 ((hB.later hb).c o h0) hn1 hn2
  have W12 : Hid (Value.int .i64 (IntKind.i64.wrap (2 * (n.natAbs : Nat))) = .int .i64 (2 * (n.natAbs : Nat))) := by show _ = _; rw [wrap_in (by omega) (by omega)]
  have W13 : Hid (Value.int .i64 (IntKind.i64.wrap ((l : Nat) + 2 * (n.natAbs : Nat))) = .int .i64 (x : Nat)) := by show _ = _; rw [wrap_in (by omega) (by omega)]; congr 1; omega
  rw [← hx]
  have hx2 : x ≤ 100000 := by omega
  clear h0 h1 hB hx hl hn1 hn2
  go_enter Try.func40, Try.ntmps40
  go_wp2_with fail
  refine region_seq 10 [false, false, false, false, false, false, true, true, true, true, true, true, true, true, true, true, false, false, false, false, false, false, false, false, false, false, false, false, false, false, false, false, false, false, false, false, false, false, false, false]
    [(6, [], none), (7, [6], none), (8, [7], none), (9, [8], none), (10, [], none), (11, [10], none), (12, [11], none), (13, [9, 12], none), (14, [6], none), (15, [14], none)]
    (nxV b o l x n) (by kernel_rfl) (by kernel_rfl) (by kernel_rfl) (by kernel_rfl) (by kernel_rfl) (by decide) (nxV_mono b o l x n) ?_ ?_
  · refine ⟨?_, ?_, ?_, ?_, ?_, ?_, ?_, ?_, ?_, ?_, trivial⟩
    · intro f w1 hb _ K hK
      simp only [over, overL, Nat.reduceAdd]
      go_simp
      exact hK _ _ ⟨_, rfl, by simp only [over, overL, Nat.reduceAdd]; rfl, Below.refl _ _⟩
    · intro f w1 hb ⟨h6, _⟩ K hK
      replace h6 : f 6 = _ := h6
      simp only [over, overL, Nat.reduceAdd, h6]
      go_simp
      exact hK _ _ ⟨_, rfl, by simp only [over, overL, Nat.reduceAdd, h6]; rfl, Below.refl _ _⟩
    · intro f w1 hb ⟨h7, _⟩ K hK
      replace h7 : f 7 = _ := h7
      simp only [over, overL, Nat.reduceAdd, h7]
      go_simp
      exact hK _ _ ⟨_, rfl, by simp only [over, overL, Nat.reduceAdd, h7]; rfl, Below.refl _ _⟩
    · intro f w1 hb ⟨h8, _⟩ K hK
      replace h8 : f 8 = _ := h8
      have q := (HBK.out.later hb).c (o + 1) H1.out
      simp only [over, overL, Nat.reduceAdd, h8]
      go_simp
      exact hK _ _ ⟨_, rfl, by simp only [over, overL, Nat.reduceAdd, h8]; rfl, Below.refl _ _⟩
    · intro f w1 hb _ K hK
      simp only [over, overL, Nat.reduceAdd]
      go_simp
      exact hK _ _ ⟨_, rfl, by simp only [over, overL, Nat.reduceAdd]; rfl, Below.refl _ _⟩
    · intro f w1 hb ⟨h10, _⟩ K hK
      replace h10 : f 10 = _ := h10
      simp only [over, overL, Nat.reduceAdd, h10]
      go_simp
      refine (HS.out w1 hb).mono ?_
      rintro e w2 ⟨rfl, hb2⟩
      exact hK _ _ ⟨_, rfl, by simp only [over, overL, Nat.reduceAdd, h10]; rfl, hb2⟩
    · intro f w1 hb ⟨h11, _⟩ K hK
      replace h11 : f 11 = _ := h11
      simp only [over, overL, Nat.reduceAdd, h11]
      go_simp
      exact hK _ _ ⟨_, W12.out, by simp only [over, overL, Nat.reduceAdd, h11]; rfl, Below.refl _ _⟩
    · intro f w1 hb ⟨h9, h12, _⟩ K hK
      replace h9 : f 9 = _ := h9
      replace h12 : f 12 = _ := h12
      simp only [over, overL, Nat.reduceAdd, h9, h12]
      go_simp
      exact hK _ _ ⟨_, W13.out, by simp only [over, overL, Nat.reduceAdd, h9, h12]; rfl, Below.refl _ _⟩
    · intro f w1 hb ⟨h6, _⟩ K hK
      replace h6 : f 6 = _ := h6
      simp only [over, overL, Nat.reduceAdd, h6]
      go_simp
      exact hK _ _ ⟨_, rfl, by simp only [over, overL, Nat.reduceAdd, h6]; rfl, Below.refl _ _⟩
    · intro f w1 hb ⟨h14, _⟩ K hK
      replace h14 : f 14 = _ := h14
      simp only [over, overL, Nat.reduceAdd, h14]
      go_simp
      exact hK _ _ ⟨_, rfl, by simp only [over, overL, Nat.reduceAdd, h14]; rfl, Below.refl _ _⟩
  intro f w1 hb hv
  have hr : f 13 = .int .i64 (x : Nat) := hv.2.2.2.2.2.2.2.1
  have hr2 : f 15 = .pointer (some ⟨b, o + 1, none⟩) := hv.2.2.2.2.2.2.2.2.2.1
  have HB1 : Hid (Bk b cs w1) := HBK.out.later hb
  have K1 : Hid (Kpt (fun k => k = b) w w1) := Kpt.of_below hb
  have c1 := HB1.out.c (o + 1) H1.out
  have f1 := HB1.out.f (o + 1) H1.out
  have HB2 : Hid (Bk b (cs.set (o + 1) (.int .i64 (x : Nat))) (w1.setCell ⟨b, o + 1, none⟩ (.int .i64 (x : Nat)))) := HB1.out.put (o + 1) _
  have K2 : Hid (Kpt (fun k => k = b) w (w1.setCell ⟨b, o + 1, none⟩ (.int .i64 (x : Nat)))) := K1.out.trans (Kpt.setCell _ _ _ _ rfl)
  simp only [over_eq, overL, hr, hr2, Nat.reduceAdd, List.drop_succ_cons, List.drop_zero]
  clear hv hr hr2 hb
  go_upto_region 2 with fail
  clear c1 f1
  generalize w1.setCell ⟨b, o + 1, none⟩ (.int .i64 (x : Nat)) = w2 at *
  have g0 : w2.cell? ⟨b, o, none⟩ = some (.int .i64 n) := HB2.out.c o (by rw [List.getElem?_set_ne (by omega)]; exact H0.out)
  have hlen : o + 1 < cs.length := (List.getElem?_eq_some_iff.1 H1.out).1
  have HL1 : Hid ((cs.set (o + 1) (.int .i64 (x : Nat)))[o + 1]? = some (.int .i64 (x : Nat))) := by show _ = _; rw [List.getElem?_set_self hlen]
  clear hlen
  have g1 : w2.cell? ⟨b, o + 1, none⟩ = some (.int .i64 (x : Nat)) := HB2.out.c (o + 1) HL1.out
  have gf : w2.frozen? ⟨b, o + 1, none⟩ = false := HB2.out.f (o + 1) HL1.out
  have hp3 : (0 : Int) < p := by omega
  have e1 : ((x / (2 * p) : Nat) : Int) = (x : Int) / (2 * p) := by rw [Int.natCast_ediv]; rfl
  have e2 : ((x % (2 * p) : Nat) : Int) = (x : Int) % (2 * p) := by rw [Int.natCast_emod]; rfl
  have hd : x / (2 * p) ≤ x := Nat.div_le_self _ _
  have E1 : Hid (((x / (2 * p) : Nat) : Int) = (x : Int) / (2 * p)) := e1
  have HD : Hid (wrap64 ((x : Int) / (2 * p)) = ((x / (2 * p) : Nat) : Int)) := by show wrap64 _ = _; rw [← e1]; have h0 : (0 : Int) ≤ ((x / (2 * p) : Nat) : Int) := Int.natCast_nonneg _; exact IntWalk.wrap64_in _ ⟨by omega, by omega⟩
  have HX : Hid (x / (2 * p) ≤ 100000) := Nat.le_trans hd hx2
  have HE : Hid (Bk b (cs.set (o + 1) (.int .i64 (x % (2 * p) : Nat))) (w2.setCell ⟨b, o + 1, none⟩ (.int .i64 ((x : Int) % (2 * p))))) := by
    have h := HB2.out.put (o + 1) (.int .i64 ((x : Int) % (2 * p)))
    rw [List.set_set] at h
    rw [e2]
    exact h
  have HK : Hid (Kpt (fun k => k = b) w (w2.setCell ⟨b, o + 1, none⟩ (.int .i64 ((x : Int) % (2 * p))))) := K2.out.trans (Kpt.setCell _ _ _ _ rfl)
  clear e1 e2 hd
  go_wp2
  · rename_i hneg
    go_ret
    refine ⟨ret_int ?_, HE.out, HK.out⟩
    have := HX.out
    rw [HD.out, show sg n ((x / (2 * p) : Nat) : Int) = -((x / (2 * p) : Nat) : Int) from if_pos hneg]
    have h0 : (0 : Int) ≤ ((x / (2 * p) : Nat) : Int) := Int.natCast_nonneg _
    have h1 : ((x / (2 * p) : Nat) : Int) ≤ 100000 := Int.ofNat_le.2 this
    exact IntWalk.wrap64_in _ ⟨by omega, by omega⟩
  · rename_i hneg
    go_ret
    refine ⟨ret_int ?_, HE.out, HK.out⟩
    rw [HD.out, show sg n ((x / (2 * p) : Nat) : Int) = ((x / (2 * p) : Nat) : Int) from if_neg (by omega)]
end Go.Proofs.Ytanmfhaiahhoeaa
