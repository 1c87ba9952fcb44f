/- PulseBack walked. -/
import Derived.Test.YtanmfhaiahhoeaaQH
namespace Go.Proofs.Ytanmfhaiahhoeaa
open Go.RowKit

theorem line42 (W : World) : Calls Try.prog 7 #[v3 4 2 0] W fun e w' => ∃ G, e = .returned (.tuple #[.slice (some ⟨G, 0, none⟩) 4 4, .int .i64 0]) ∧ Ints [3, 1, 3, 1] G w' ∧ Below W.heap.size W w' := by
  have h := line_yes 4 2 0 W (by decide)
  rw [show lineL 4 2 0 = [3, 1, 3, 1] by kernel_rfl, show lg 4 2 0 = 4 by kernel_rfl] at h
  exact h.mono fun e w' ⟨G, h1, h2, h3, h4⟩ => ⟨G, h1, h3, h4⟩
theorem mv_neg {x y z : Int} (h : mv x y z = true) : mv (-x) (-y) (-z) = true := by
  have := mv_iff.1 h
  exact mv_iff.2 (by omega)
theorem lg_neg (x y z : Int) : lg (-x) (-y) (-z) = lg x y z := by simp [lg]
theorem lg_ge (x y z : Int) : x.natAbs ≤ lg x y z ∧ y.natAbs ≤ lg x y z ∧ z.natAbs ≤ lg x y z := by unfold lg; omega
/-- What is so of a tick, and of the same one backwards. -/
theorem back_bits {s t u : Int} (hs : s = -1 ∨ s = 0 ∨ s = 1) (ht : t = -1 ∨ t = 0 ∨ t = 1) (hu : u = -1 ∨ u = 0 ∨ u = 1) :
    (bits BinOp.and IntKind.i64 (pu s t u) 7 != bits BinOp.and IntKind.i64 (pu (-s) (-t) (-u)) 7) = false ∧
    (bits BinOp.xor IntKind.i64 (pu s t u / 8) (pu (-s) (-t) (-u) / 8) != bits BinOp.and IntKind.i64 (pu s t u) 7) = false := by
  rcases hs with rfl | rfl | rfl <;> rcases ht with rfl | rfl | rfl <;> rcases hu with rfl | rfl | rfl <;> exact ⟨by kernel_rfl, by kernel_rfl⟩
set_option maxHeartbeats 6400000 in
set_option maxRecDepth 100000 in
theorem pulseBack_yes (x y z : Int) (w : World) (hm : mv x y z = true) : Calls Try.prog 6 #[v3 x y z] w fun e w' => e = .returned (.bool true) ∧ Below w.heap.size w w' := by
  have H42 : Hid (∀ W, Calls Try.prog 7 #[v3 4 2 0] W fun e w' => ∃ G, e = .returned (.tuple #[.slice (some ⟨G, 0, none⟩) 4 4, .int .i64 0]) ∧ Ints [3, 1, 3, 1] G w' ∧ Below W.heap.size W w') := line42
  obtain ⟨n, hnn⟩ : ∃ n, n = lg x y z := ⟨_, rfl⟩
  have HLA : Hid (∀ W, Calls Try.prog 7 #[v3 x y z] W fun e w' => ∃ G, e = .returned (.tuple #[.slice (some ⟨G, 0, none⟩) n n, .int .i64 0]) ∧ Ints (lineL x y z) G w' ∧ Below W.heap.size W w') := fun W => by
    rw [hnn]
    exact (line_yes x y z W hm).mono fun e w' ⟨G, h1, h2, h3, h4⟩ => ⟨G, h1, h3, h4⟩
  have HLB : Hid (∀ W, Calls Try.prog 7 #[v3 (-x) (-y) (-z)] W fun e w' => ∃ G, e = .returned (.tuple #[.slice (some ⟨G, 0, none⟩) n n, .int .i64 0]) ∧ Ints (lineL (-x) (-y) (-z)) G w' ∧ Below W.heap.size W w') := fun W => by
    rw [hnn, ← lg_neg]
    exact (line_yes (-x) (-y) (-z) W (mv_neg hm)).mono fun e w' ⟨G, h1, h2, h3, h4⟩ => ⟨G, h1, h3, h4⟩
  have HQ : Hid (∀ k, k < n → ∃ a b, (∀ h : k < (lineL x y z).length, (lineL x y z)[k]'h = a) ∧ (∀ h : k < (lineL (-x) (-y) (-z)).length, (lineL (-x) (-y) (-z))[k]'h = b) ∧
      (bits BinOp.and IntKind.i64 a 7 != bits BinOp.and IntKind.i64 b 7) = false ∧ (bits BinOp.xor IntKind.i64 (a / 8) (b / 8) != bits BinOp.and IntKind.i64 a 7) = false) := fun k hk => by
    have hp : 0 < lg x y z := by omega
    obtain ⟨g1, g2, g3⟩ := lg_ge x y z
    obtain ⟨q1, q2⟩ := back_bits (stp_small (k := k) hp g1) (stp_small (k := k) hp g2) (stp_small (k := k) hp g3)
    rw [← stp_neg hp, ← stp_neg hp, ← stp_neg hp, ← lg_neg] at q1 q2
    rw [lg_neg] at q1 q2
    refine ⟨_, _, fun h => lineL_at h, fun h => (lineL_at h).trans ?_, q1, q2⟩
    rw [lg_neg]
  have HL1 : Hid ((lineL x y z).length = n) := by show _ = _; rw [lineL_length, hnn]
  have HL2 : Hid ((lineL (-x) (-y) (-z)).length = n) := by show _ = _; rw [lineL_length, hnn, lg_neg]
  have HN : Hid (n ≤ 20000) := by show _ ≤ _; rw [hnn]; exact lg_le hm
  obtain ⟨⟨hx1, hx2⟩, ⟨hy1, hy2⟩, ⟨hz1, hz2⟩⟩ := mv_iff.1 hm
  have HB0 : Hid (Below w.heap.size w (w.alloc (o3 x y z 23))) := (Below.refl _ _).alloc (Nat.le_refl _) _
  have KR0 : Hid (Bk w.heap.size [.int .i64 x, .int .i64 y, .int .i64 z] (w.alloc (o3 x y z 23))) := Bk.new w [.int .i64 x, .int .i64 y, .int .i64 z] 23 w.heap.size rfl
  clear hm hnn
  go_enter Try.func6, Try.ntmps6
  go_wp2_with fail
  refine (H42.out _).mono ?_
  rintro e w1 ⟨G0, rfl, _, hb1⟩
  have HB1 : Hid (Below w.heap.size w w1) := HB0.out.trans (hb1.mono HB0.out.size)
  have KR1 : Hid (Bk w.heap.size [.int .i64 x, .int .i64 y, .int .i64 z] w1) := KR0.out.later hb1
  clear hb1
  have r0 := KR1.out.c 0 rfl
  have r1 := KR1.out.c 1 rfl
  have r2 := KR1.out.c 2 rfl
  go_wp2_with fail
  refine (HLA.out _).mono ?_
  rintro e w2 ⟨G1, rfl, hi, hb2⟩
  have HI1 : Hid (Ints (lineL x y z) G1 w2) := hi
  have HB2 : Hid (Below w.heap.size w w2) := HB1.out.trans (hb2.mono HB1.out.size)
  have KR2 : Hid (Bk w.heap.size [.int .i64 x, .int .i64 y, .int .i64 z] w2) := KR1.out.later hb2
  clear hb2 hi r0 r1 r2
  have r0 := KR2.out.c 0 rfl
  have r1 := KR2.out.c 1 rfl
  have r2 := KR2.out.c 2 rfl
  go_wp2_with fail
  refine (HLB.out _).mono ?_
  rintro e w3 ⟨G2, rfl, hi, hb3⟩
  have HI2 : Hid (Ints (lineL (-x) (-y) (-z)) G2 w3) := hi
  have HI3 : Hid (Ints (lineL x y z) G1 w3) := HI1.out.later hb3
  have HB3 : Hid (Below w.heap.size w w3) := HB2.out.trans (hb3.mono HB2.out.size)
  clear hb3 hi r0 r1 r2
  go_wp2_with fail
  go_loopw [8] (fun i wr => ∃ k : Nat, k ≤ n ∧ i = .int .i64 k ∧ Ints (lineL (-x) (-y) (-z)) G2 wr ∧ Ints (lineL x y z) G1 wr ∧ Below w.heap.size w wr) (fun i _ => n - (intOf i).toNat)
  case atStart => exact ⟨0, Nat.zero_le _, rfl, HI2.out, HI3.out, HB3.out⟩
  case round =>
    obtain ⟨k, hk, rfl, h2, h1, hb⟩ := hrel
    have HP1 : Hid (Ints (lineL x y z) G1 wr) := h1
    have HP2 : Hid (Ints (lineL (-x) (-y) (-z)) G2 wr) := h2
    have HBr : Hid (Below w.heap.size w wr) := hb
    clear h1 h2 hb
    have hn2 := HN.out
    by_cases hlt : k < n
    · obtain ⟨a, b, e1, e2, q1, q2⟩ := HQ.out k hlt
      have c1 : wr.cell? ⟨G1, k, none⟩ = some (.int .i64 a) := by rw [HP1.out.2 k (by rw [HL1.out]; exact hlt), e1]
      have c2 : wr.cell? ⟨G2, k, none⟩ = some (.int .i64 b) := by rw [HP2.out.2 k (by rw [HL2.out]; exact hlt), e2]
      clear e1 e2
      go_wp2_with fail
      go_big_quiet (fail)
      have HQ1 : Hid (Ints (lineL (-x) (-y) (-z)) G2 (wr.drewN nq)) := HP2.out
      have HQ2 : Hid (Ints (lineL x y z) G1 (wr.drewN nq)) := HP1.out
      have HQ3 : Hid (Below w.heap.size w (wr.drewN nq)) := ⟨HBr.out.os, HBr.out.tape, HBr.out.output, HBr.out.size, HBr.out.block⟩
      clear c1 c2
      go_wp2
      go_roundw
      case rel => exact ⟨k + 1, by omega, by go_num, HQ1.out, HQ2.out, HQ3.out⟩
      case measure => simp [intOf]; omega
    · go_wp2
      go_ret
      exact ⟨rfl, HBr.out⟩
set_option maxHeartbeats 6400000 in
set_option maxRecDepth 100000 in
theorem pulseBack_no (x y z : Int) (w : World) (hm : mv x y z = false) : Calls Try.prog 6 #[v3 x y z] w fun e w' => e = .returned (.bool true) ∧ Below w.heap.size w w' := by
  have H42 : Hid (∀ W, Calls Try.prog 7 #[v3 4 2 0] W fun e w' => ∃ G, e = .returned (.tuple #[.slice (some ⟨G, 0, none⟩) 4 4, .int .i64 0]) ∧ Ints [3, 1, 3, 1] G w' ∧ Below W.heap.size W w') := line42
  have HLA : Hid (∀ W, Calls Try.prog 7 #[v3 x y z] W fun e w' => e = .returned (.tuple #[.slice none 0 0, .int .i64 2]) ∧ Below W.heap.size W w') := fun W => line_no x y z W hm
  have HB0 : Hid (Below w.heap.size w (w.alloc (o3 x y z 23))) := (Below.refl _ _).alloc (Nat.le_refl _) _
  have KR0 : Hid (Bk w.heap.size [.int .i64 x, .int .i64 y, .int .i64 z] (w.alloc (o3 x y z 23))) := Bk.new w [.int .i64 x, .int .i64 y, .int .i64 z] 23 w.heap.size rfl
  clear hm
  go_enter Try.func6, Try.ntmps6
  go_wp2_with fail
  refine (H42.out _).mono ?_
  rintro e w1 ⟨G0, rfl, _, hb1⟩
  have HB1 : Hid (Below w.heap.size w w1) := HB0.out.trans (hb1.mono HB0.out.size)
  have KR1 : Hid (Bk w.heap.size [.int .i64 x, .int .i64 y, .int .i64 z] w1) := KR0.out.later hb1
  clear hb1
  have r0 := KR1.out.c 0 rfl
  have r1 := KR1.out.c 1 rfl
  have r2 := KR1.out.c 2 rfl
  go_wp2_with fail
  refine (HLA.out _).mono ?_
  rintro e w2 ⟨rfl, hb2⟩
  have HB2 : Hid (Below w.heap.size w w2) := HB1.out.trans (hb2.mono HB1.out.size)
  clear hb2
  go_wp2
  go_ret
  exact ⟨rfl, HB2.out⟩
theorem pulseBack_any (x y z : Int) (w : World) : Calls Try.prog 6 #[v3 x y z] w fun e w' => e = .returned (.bool true) ∧ Below w.heap.size w w' := by
  cases hm : mv x y z with
  | true => exact pulseBack_yes x y z w hm
  | false => exact pulseBack_no x y z w hm
end Go.Proofs.Ytanmfhaiahhoeaa
