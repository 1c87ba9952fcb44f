/- isStraight walked. -/
import Derived.Test.YtgelbndbkmedlaaGj
namespace Go.Proofs.Ytgelbndbkmedlaa.S
open Go.RowKit

theorem mul_in {a b : Int} (a0 : -20000000 ≤ a) (a1 : a ≤ 20000000) (b0 : -20000000 ≤ b) (b1 : b ≤ 20000000) : -400000000000000 ≤ a * b ∧ a * b ≤ 400000000000000 := by
  have key : ∀ x y : Int, 0 ≤ x → x ≤ 20000000 → 0 ≤ y → y ≤ 20000000 → 0 ≤ x * y ∧ x * y ≤ 400000000000000 := fun x y h1 h2 h3 h4 => by
    refine ⟨Int.mul_nonneg h1 h3, ?_⟩
    have := Int.mul_le_mul h2 h4 h3 (by decide : (0 : Int) ≤ 20000000)
    omega
  by_cases ha : 0 ≤ a
  · by_cases hb : 0 ≤ b
    · have := key a b ha a1 hb b1; omega
    · have := key a (-b) ha a1 (by omega) (by omega)
      rw [Int.mul_neg] at this
      omega
  · by_cases hb : 0 ≤ b
    · have := key (-a) b (by omega) (by omega) hb b1
      rw [Int.neg_mul] at this
      omega
    · have := key (-a) (-b) (by omega) (by omega) (by omega) (by omega)
      rw [Int.neg_mul_neg] at this
      omega
/-- Does it go on in one direction? -/
def strC (c e : Pt) : Bool := decide (0 < c.x * e.x) || (decide (0 < c.y * e.y) || decide (0 < c.z * e.z))
def strB (a b c : Pt) : Bool := strC (chg a b) (chg b c)
theorem strC_at (c e : Pt) : strC c e = true ↔ ∃ k, k < 3 ∧ 0 < c.at k * e.at k := by
  unfold strC
  simp only [Bool.or_eq_true, decide_eq_true_eq]
  constructor
  · rintro (h | h | h)
    · exact ⟨0, by decide, h⟩
    · exact ⟨1, by decide, h⟩
    · exact ⟨2, by decide, h⟩
  · rintro ⟨k, hk, h⟩
    rcases (show k = 0 ∨ k = 1 ∨ k = 2 by omega) with e1 | e1 | e1
    all_goals subst e1
    · exact .inl h
    · exact .inr (.inl h)
    · exact .inr (.inr h)
theorem chg_in {a b : Pt} (ha : nearP a = true) (hb : nearP b = true) (k : Nat) : -20000000 ≤ (chg a b).at k ∧ (chg a b).at k ≤ 20000000 := by
  have h1 := nearP_iff.1 ha
  have h2 := nearP_iff.1 hb
  unfold chg Pt.at
  split <;> simp only <;> omega
def ss1V (c e : Pt) (a b d : Pt) (n : Nat) (dd : Nat) (v : Value) (w : World) : Prop :=
  match dd with
  | 10 => v = pv a
  | 11 => v = pv b
  | 12 => v = pv c
  | 13 => v = pv b
  | 14 => v = pv d
  | 15 => v = pv e
  | 7 => ∃ b, v = ptr b ∧ n ≤ b ∧ Arr b (fun _ => 0) w
  | 8 => ∃ b, v = ptr b ∧ n ≤ b ∧ Arr b (fun _ => 0) w
  | _ => True
theorem ss1V_mono (c e : Pt) (a b d : Pt) (n : Nat) (dd : Nat) (v : Value) (w w' : World) (h : ss1V c e a b d n dd v w) (hb : Below w.heap.size w w') : ss1V c e a b d n dd v w' := by
  unfold ss1V at h ⊢
  split <;> simp only [] at h <;> first | exact h | (obtain ⟨b, h1, h2, h3⟩ := h; exact ⟨b, h1, h2, h3.later hb⟩)
def ss5V (p q : Pt) (b7 b8 k : Nat) (r : Int) (d : Nat) (v : Value) (_w : World) : Prop :=
  match d with
  | 19 => v = .int .i64 (k : Int)
  | 20 => v = .pointer (some ⟨b7, k, none⟩)
  | 21 => v = .int .i64 (p.at k)
  | 22 => v = .int .i64 (k : Int)
  | 23 => v = .pointer (some ⟨b8, k, none⟩)
  | 24 => v = .int .i64 (q.at k)
  | 25 => v = .int .i64 r
  | 26 => v = .bool (decide (0 < r))
  | _ => True
set_option maxHeartbeats 6400000 in
set_option maxRecDepth 100000 in
theorem isStraight_any (a b d : Pt) (w : World) (ha : nearP a = true) (hb : nearP b = true) (hd : nearP d = true) :
    Calls Try.prog 65 #[pv a, pv b, pv d] w fun e w' => e = .returned (.bool (strB a b d)) ∧ Below w.heap.size w w' := by
  have HC1 : Hid (∀ W, Calls Try.prog 40 #[pv a, pv b] W fun e w' => e = .returned (pv (chg a b)) ∧ Below W.heap.size W w') := fun W => change_any a b W (nearP_sm ha) (nearP_sm hb)
  have HC2 : Hid (∀ W, Calls Try.prog 40 #[pv b, pv d] W fun e w' => e = .returned (pv (chg b d)) ∧ Below W.heap.size W w') := fun W => change_any b d W (nearP_sm hb) (nearP_sm hd)
  have HIN : Hid (∀ k, -400000000000000 ≤ (chg a b).at k * (chg b d).at k ∧ (chg a b).at k * (chg b d).at k ≤ 400000000000000) := fun k => mul_in (chg_in ha hb k).1 (chg_in ha hb k).2 (chg_in hb hd k).1 (chg_in hb hd k).2
  have HST : Hid (strB a b d = strC (chg a b) (chg b d)) := rfl
  clear ha hb hd
  generalize chg a b = p at *
  generalize chg b d = q at *
  obtain ⟨w0, hw0⟩ : ∃ w0, w0 = ((w.alloc (po a)).alloc (po b)).alloc (po d) := ⟨_, rfl⟩
  have HW0 : Hid (w0 = ((w.alloc (po a)).alloc (po b)).alloc (po d)) := hw0
  have HS0 : Hid (w0.heap.size = w.heap.size + 1 + 1 + 1) := by show w0.heap.size = _; rw [hw0]; simp
  clear hw0
  go_enter Try.func65, Try.ntmps65
  go_wp2_with fail
  rw [← HW0.out]
  have a0 : w0.cell? ⟨w.heap.size, 0, none⟩ = some (.int .i64 a.x) := by rw [HW0.out]; go_simp
  have a1 : w0.cell? ⟨w.heap.size, 1, none⟩ = some (.int .i64 a.y) := by rw [HW0.out]; go_simp
  have a2 : w0.cell? ⟨w.heap.size, 2, none⟩ = some (.int .i64 a.z) := by rw [HW0.out]; go_simp
  have b0 : w0.cell? ⟨w.heap.size + 1, 0, none⟩ = some (.int .i64 b.x) := by rw [HW0.out]; go_simp
  have b1 : w0.cell? ⟨w.heap.size + 1, 1, none⟩ = some (.int .i64 b.y) := by rw [HW0.out]; go_simp
  have b2 : w0.cell? ⟨w.heap.size + 1, 2, none⟩ = some (.int .i64 b.z) := by rw [HW0.out]; go_simp
  have d0 : w0.cell? ⟨w.heap.size + 1 + 1, 0, none⟩ = some (.int .i64 d.x) := by rw [HW0.out]; go_simp
  have d1 : w0.cell? ⟨w.heap.size + 1 + 1, 1, none⟩ = some (.int .i64 d.y) := by rw [HW0.out]; go_simp
  have d2 : w0.cell? ⟨w.heap.size + 1 + 1, 2, none⟩ = some (.int .i64 d.z) := by rw [HW0.out]; go_simp
  refine region_seqJ 8 [false, false, false, false, false, false, false, true, true, false, true, true, true, true, true, true, false, false, false, false, false, false, false, false, false, false, false, false]
    [(10, [], none), (11, [], none), (12, [10, 11], none), (13, [], none), (14, [], none), (15, [13, 14], none), (7, [], none), (8, [], none)]
    (ss1V p q a b d w0.heap.size) (Apart 7 8) ?_ (by kernel_rfl) (by kernel_rfl) (by kernel_rfl) (by kernel_rfl) (by kernel_rfl) (by decide) (ss1V_mono p q a b d w0.heap.size) ?_ ?_
  · intro w1 _
    refine ⟨fun b e => ?_, fun b e => ?_, fun b e _ => ?_⟩
    all_goals (simp [undef] at e)
  · refine ⟨?_, ?_, ?_, ?_, ?_, ?_, ?_, ?_, trivial⟩
    · intro f w1 hb hJ _ K hK
      have c0 := cell_later hb a0
      have c1 := cell_later hb a1
      have c2 := cell_later hb a2
      simp only [over, overL, Nat.reduceAdd]
      go_simp
      exact hK _ _ ⟨_, rfl, by simp only [over, overL, Nat.reduceAdd]; rfl, Below.refl _ _, hJ.other (by decide) (by decide) (Below.refl _ _)⟩
    · intro f w1 hb hJ _ K hK
      have c0 := cell_later hb b0
      have c1 := cell_later hb b1
      have c2 := cell_later hb b2
      simp only [over, overL, Nat.reduceAdd]
      go_simp
      exact hK _ _ ⟨_, rfl, by simp only [over, overL, Nat.reduceAdd]; rfl, Below.refl _ _, hJ.other (by decide) (by decide) (Below.refl _ _)⟩
    · intro f w1 hb hJ ⟨h10, h11, _⟩ K hK
      have h10 : f 10 = _ := h10
      have h11 : f 11 = _ := h11
      simp only [over, overL, Nat.reduceAdd, h10, h11]
      go_simp
      refine (HC1.out w1).mono ?_
      rintro e w2 ⟨rfl, hbn⟩
      exact hK _ _ ⟨_, rfl, by simp only [over, overL, Nat.reduceAdd, h10, h11]; rfl, hbn, hJ.other (by decide) (by decide) hbn⟩
    · intro f w1 hb hJ _ K hK
      have c0 := cell_later hb b0
      have c1 := cell_later hb b1
      have c2 := cell_later hb b2
      simp only [over, overL, Nat.reduceAdd]
      go_simp
      exact hK _ _ ⟨_, rfl, by simp only [over, overL, Nat.reduceAdd]; rfl, Below.refl _ _, hJ.other (by decide) (by decide) (Below.refl _ _)⟩
    · intro f w1 hb hJ _ K hK
      have c0 := cell_later hb d0
      have c1 := cell_later hb d1
      have c2 := cell_later hb d2
      simp only [over, overL, Nat.reduceAdd]
      go_simp
      exact hK _ _ ⟨_, rfl, by simp only [over, overL, Nat.reduceAdd]; rfl, Below.refl _ _, hJ.other (by decide) (by decide) (Below.refl _ _)⟩
    · intro f w1 hb hJ ⟨h13, h14, _⟩ K hK
      have h13 : f 13 = _ := h13
      have h14 : f 14 = _ := h14
      simp only [over, overL, Nat.reduceAdd, h13, h14]
      go_simp
      refine (HC2.out w1).mono ?_
      rintro e w2 ⟨rfl, hbn⟩
      exact hK _ _ ⟨_, rfl, by simp only [over, overL, Nat.reduceAdd, h13, h14]; rfl, hbn, hJ.other (by decide) (by decide) hbn⟩
    · intro f w1 hb hJ _ K hK
      simp only [over, overL, Nat.reduceAdd]
      go_simp
      exact hK _ _ ⟨_, ⟨_, rfl, hb.size, Arr.new w1⟩, by simp only [over, overL, Nat.reduceAdd]; rfl, (Below.refl _ _).alloc (Nat.le_refl _) _, hJ.left (by decide)⟩
    · intro f w1 hb hJ _ K hK
      simp only [over, overL, Nat.reduceAdd]
      go_simp
      exact hK _ _ ⟨_, ⟨_, rfl, hb.size, Arr.new w1⟩, by simp only [over, overL, Nat.reduceAdd]; rfl, (Below.refl _ _).alloc (Nat.le_refl _) _, hJ.right (by decide)⟩
  intro f w1 hb1 hJ h
  have h12 : f 12 = pv p := h.2.2.1
  have h15 : f 15 = pv q := h.2.2.2.2.2.1
  obtain ⟨b7, h7, n7, A7⟩ := (show ∃ b, f 7 = ptr b ∧ w0.heap.size ≤ b ∧ Arr b (fun _ => 0) w1 from h.2.2.2.2.2.2.1)
  obtain ⟨b8, h8, n8, A8⟩ := (show ∃ b, f 8 = ptr b ∧ w0.heap.size ≤ b ∧ Arr b (fun _ => 0) w1 from h.2.2.2.2.2.2.2.1)
  have hne : b7 ≠ b8 := fun e => hJ.2.2 b7 h7 (by rw [h8, e])
  simp only [over_eq, overL, h7, h8, h12, h15, Nat.reduceAdd, List.drop_succ_cons, List.drop_zero]
  have hA : Arr b7 p.at ((((((w1.setCell ⟨b7, 0, none⟩ (.int .i64 p.x)).setCell ⟨b7, 1, none⟩ (.int .i64 p.y)).setCell ⟨b7, 2, none⟩ (.int .i64 p.z)).setCell ⟨b8, 0, none⟩ (.int .i64 q.x)).setCell ⟨b8, 1, none⟩ (.int .i64 q.y)).setCell ⟨b8, 2, none⟩ (.int .i64 q.z)) := by
    have h1 := ((((((A7.set (k := 0) (by decide) p.x).set (k := 1) (by decide) p.y).set (k := 2) (by decide) p.z).other hne 0 (.int .i64 q.x)).other hne 1 (.int .i64 q.y)).other hne 2 (.int .i64 q.z))
    refine ⟨h1.lt, fun j hj => ?_, h1.free⟩
    rw [h1.cell j hj]
    rcases (show j = 0 ∨ j = 1 ∨ j = 2 by omega) with e | e | e
    all_goals (subst e; rfl)
  have hB : Arr b8 q.at ((((((w1.setCell ⟨b7, 0, none⟩ (.int .i64 p.x)).setCell ⟨b7, 1, none⟩ (.int .i64 p.y)).setCell ⟨b7, 2, none⟩ (.int .i64 p.z)).setCell ⟨b8, 0, none⟩ (.int .i64 q.x)).setCell ⟨b8, 1, none⟩ (.int .i64 q.y)).setCell ⟨b8, 2, none⟩ (.int .i64 q.z)) := by
    have h1 := ((((((A8.other (Ne.symm hne) 0 (.int .i64 p.x)).other (Ne.symm hne) 1 (.int .i64 p.y)).other (Ne.symm hne) 2 (.int .i64 p.z)).set (k := 0) (by decide) q.x).set (k := 1) (by decide) q.y).set (k := 2) (by decide) q.z)
    refine ⟨h1.lt, fun j hj => ?_, h1.free⟩
    rw [h1.cell j hj]
    rcases (show j = 0 ∨ j = 1 ∨ j = 2 by omega) with e | e | e
    all_goals (subst e; rfl)
  have hBel : Below w0.heap.size w0 ((((((w1.setCell ⟨b7, 0, none⟩ (.int .i64 p.x)).setCell ⟨b7, 1, none⟩ (.int .i64 p.y)).setCell ⟨b7, 2, none⟩ (.int .i64 p.z)).setCell ⟨b8, 0, none⟩ (.int .i64 q.x)).setCell ⟨b8, 1, none⟩ (.int .i64 q.y)).setCell ⟨b8, 2, none⟩ (.int .i64 q.z)) :=
    (((((hb1.setCell n7 _).setCell n7 _).setCell n7 _).setCell n8 _).setCell n8 _).setCell n8 _
  have ca0 := A7.cell 0 (by decide)
  have ca1 := A7.cell 1 (by decide)
  have ca2 := A7.cell 2 (by decide)
  have cd0 := A8.cell 0 (by decide)
  have cd1 := A8.cell 1 (by decide)
  have cd2 := A8.cell 2 (by decide)
  have e0 := A7.free 0 (by decide)
  have e1 := A7.free 1 (by decide)
  have e2 := A7.free 2 (by decide)
  have g0 := A8.free 0 (by decide)
  have g1 := A8.free 1 (by decide)
  have g2 := A8.free 2 (by decide)
  have HA := (show Hid _ from hA)
  have HB := (show Hid _ from hB)
  have HBel := (show Hid _ from hBel)
  have HN : Hid (w0.heap.size ≤ b7) := n7
  have HNE : Hid (b7 ≠ b8) := hne
  clear A7 A8 hA hB hBel hJ h h7 h8 h12 h15 hb1 n7 n8 a0 a1 a2 b0 b1 b2 d0 d1 d2
  go_wp2_with fail
  clear ca0 ca1 ca2 cd0 cd1 cd2 e0 e1 e2 g0 g1 g2
  generalize ((((((w1.setCell ⟨b7, 0, none⟩ (.int .i64 p.x)).setCell ⟨b7, 1, none⟩ (.int .i64 p.y)).setCell ⟨b7, 2, none⟩ (.int .i64 p.z)).setCell ⟨b8, 0, none⟩ (.int .i64 q.x)).setCell ⟨b8, 1, none⟩ (.int .i64 q.y)).setCell ⟨b8, 2, none⟩ (.int .i64 q.z)) = w2 at *
  go_loopw [9, 16] (fun _ i wr => ∃ k : Nat, k ≤ 3 ∧ i = .int .i64 k ∧ (∀ j, j < k → p.at j * q.at j ≤ 0) ∧ Arr b7 p.at wr ∧ Arr b8 q.at wr ∧ Below w0.heap.size w0 wr) (fun _ i _ => 3 - (intOf i).toNat)
  case atStart => exact ⟨0, Nat.zero_le _, rfl, (fun j hj => absurd hj (Nat.not_lt_zero _)), HA.out, HB.out, HBel.out⟩
  case round =>
    obtain ⟨k, hk, rfl, hno, hA, hB, hBel⟩ := hrel
    have HNO : Hid (∀ j, j < k → p.at j * q.at j ≤ 0) := hno
    have HA := (show Hid _ from hA)
    have HB := (show Hid _ from hB)
    have HBel := (show Hid _ from hBel)
    have hB0 : Below w.heap.size w w0 := by
      rw [HW0.out]
      exact (((Below.refl _ _).alloc (Nat.le_refl _) _).alloc (by simp) _).alloc (by simp; omega) _
    have HBW : Hid (∀ W, Below wr.heap.size wr W → Below w.heap.size w W) := fun W hW => (hB0.trans (HBel.out.mono hB0.size)).trans (hW.mono (Nat.le_trans hB0.size HBel.out.size))
    clear hA hB hBel hno hB0
    by_cases hlt : k < 3
    · have HCK : Hid (wr.cell? ⟨b7, k, none⟩ = some (.int .i64 (p.at k))) := HA.out.cell k hlt
      have HDK : Hid (wr.cell? ⟨b8, k, none⟩ = some (.int .i64 (q.at k))) := HB.out.cell k hlt
      obtain ⟨r, hr⟩ : ∃ r, r = p.at k * q.at k := ⟨_, rfl⟩
      have HV : Hid (Value.int .i64 (IntKind.i64.wrap (p.at k * q.at k)) = .int .i64 r) := by
        have := HIN.out k
        show _ = _
        rw [wrap_is (by omega) (by omega), hr]
      have HRR : Hid (r = p.at k * q.at k) := hr
      clear hr
      go_wp2_with fail
      try rw [show decide ((k : Int) < 3) = true by simp; omega]
      refine region_inv [false, false, false, false, false, false, false, false, false, false, false, false, false, false, false, false, false, false, false, true, true, true, true, true, true, true, true, false]
        [(19, [], none), (20, [19], none), (21, [20], none), (22, [], none), (23, [22], none), (24, [23], none), (25, [21, 24], none), (26, [25], none)]
        (ss5V p q b7 b8 k r) (by kernel_rfl) (by kernel_rfl) (fun _ _ _ _ h _ => h) ?_ ?_
      · refine ⟨?_, ?_, ?_, ?_, ?_, ?_, ?_, ?_, trivial⟩
        · intro f w3 hb _ K hK
          simp only [over, overL, Nat.reduceAdd]
          go_simp
          exact hK _ _ ⟨_, rfl, by simp only [over, overL, Nat.reduceAdd]; rfl, Below.refl _ _⟩
        · intro f w3 hb ⟨h19, _⟩ K hK
          have h19 : f 19 = _ := h19
          simp only [over, overL, Nat.reduceAdd, h19]
          go_simp
          exact hK _ _ ⟨_, rfl, by simp only [over, overL, Nat.reduceAdd, h19]; rfl, Below.refl _ _⟩
        · intro f w3 hb ⟨h20, _⟩ K hK
          have h20 : f 20 = _ := h20
          have c := cell_later hb HCK.out
          simp only [over, overL, Nat.reduceAdd, h20]
          go_simp
          exact hK _ _ ⟨_, rfl, by simp only [over, overL, Nat.reduceAdd, h20]; rfl, Below.refl _ _⟩
        · intro f w3 hb _ K hK
          simp only [over, overL, Nat.reduceAdd]
          go_simp
          exact hK _ _ ⟨_, rfl, by simp only [over, overL, Nat.reduceAdd]; rfl, Below.refl _ _⟩
        · intro f w3 hb ⟨h22, _⟩ K hK
          have h22 : f 22 = _ := h22
          simp only [over, overL, Nat.reduceAdd, h22]
          go_simp
          exact hK _ _ ⟨_, rfl, by simp only [over, overL, Nat.reduceAdd, h22]; rfl, Below.refl _ _⟩
        · intro f w3 hb ⟨h23, _⟩ K hK
          have h23 : f 23 = _ := h23
          have c := cell_later hb HDK.out
          simp only [over, overL, Nat.reduceAdd, h23]
          go_simp
          exact hK _ _ ⟨_, rfl, by simp only [over, overL, Nat.reduceAdd, h23]; rfl, Below.refl _ _⟩
        · intro f w3 hb ⟨h21, h24, _⟩ K hK
          have h21 : f 21 = _ := h21
          have h24 : f 24 = _ := h24
          simp only [over, overL, Nat.reduceAdd, h21, h24]
          go_simp
          exact hK _ _ ⟨_, HV.out, by simp only [over, overL, Nat.reduceAdd, h21, h24]; rfl, Below.refl _ _⟩
        · intro f w3 hb ⟨h25, _⟩ K hK
          have h25 : f 25 = _ := h25
          simp only [over, overL, Nat.reduceAdd, h25]
          go_simp
          exact hK _ _ ⟨_, rfl, by simp only [over, overL, Nat.reduceAdd, h25]; rfl, Below.refl _ _⟩
      intro f w3 hb3 h
      have h26 : f 26 = .bool (decide (0 < r)) := h.2.2.2.2.2.2.2.1
      have HA3 := (show Hid (Arr b7 p.at w3) from HA.out.later hb3)
      have HB3 := (show Hid (Arr b8 q.at w3) from HB.out.later hb3)
      have HBel3 : Hid (Below w0.heap.size w0 w3) := HBel.out.trans (hb3.mono HBel.out.size)
      have HBF : Hid (Below w.heap.size w w3) := HBW.out w3 hb3
      clear h hb3
      simp only [over_eq, overL, h26, Nat.reduceAdd]
      clear h26
      by_cases hpos : 0 < r
      · have HR : Hid (strB a b d = true) := by show _ = _; rw [HST.out, strC_at]; exact ⟨k, hlt, by rw [← HRR.out]; exact hpos⟩
        go_wp2
        go_ret
        exact ⟨ret_bool HR.out.symm, HBF.out⟩
      · have HN2 : Hid (∀ j, j < k + 1 → p.at j * q.at j ≤ 0) := fun j hj => by
          by_cases e : j = k
          · subst e; rw [← HRR.out]; omega
          · exact HNO.out j (by omega)
        have hle : r ≤ 0 := by omega
        clear hpos
        go_wp2
        go_roundw
        case rel => exact ⟨k + 1, by omega, by go_num, HN2.out, HA3.out, HB3.out, HBel3.out⟩
        case measure => simp [intOf]; omega
    · have hk3 : k = 3 := by omega
      subst hk3
      have HR : Hid (strB a b d = false) := by
        show _ = _
        rw [HST.out]
        cases e : strC p q with
        | false => rfl
        | true =>
          obtain ⟨j, hj, h⟩ := (strC_at p q).1 e
          have := HNO.out j hj
          omega
      have HBF : Hid (Below w.heap.size w wr) := HBW.out wr (Below.refl _ _)
      go_wp2
      go_ret
      exact ⟨ret_bool HR.out.symm, HBF.out⟩
end Go.Proofs.Ytgelbndbkmedlaa.S
