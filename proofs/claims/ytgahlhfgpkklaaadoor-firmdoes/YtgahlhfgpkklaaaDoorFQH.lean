/- Need walked. -/
import Derived.Test.YtgahlhfgpkklaaaDoorFPH
namespace Go.Proofs.YtgahlhfgpkklaaaDoor
open Go.RowKit Go.Maps

def NeE (r : Rg) (p q : Pt) : Int := if rgOk r = false then 2 else if inS r p = true ∧ inS r q = true then 0 else 1
def NeT (r : Rg) (p q : Pt) : Int := if NeE r p q = 0 then tick r p q else 0
theorem nb_zero {r : Rg} (h : rgOk r = true) : nbE r f0 = none := by
  unfold nbE
  rw [h, fmOk_iff.2 (f0_ok (rgOk_iff.1 h))]
  rfl
theorem nb_none {r : Rg} (h : rgOk r = false) (f : Fm) : nbE r f = some 1 := by unfold nbE; rw [if_pos h]
set_option maxHeartbeats 6400000 in
set_option maxRecDepth 100000 in
theorem Need_a (a : Nat → Addr) (n : Nat) (r : Rg) (p q : Pt) (w : World) (hg : Gl a n w) (h : rgOk r = false) :
    Calls Tryd.prog 10 #[rgv r, v3 p, v3 q] w fun e w' => e = .returned (.tuple #[.int .i64 0, .int .i64 2]) ∧ Below w.heap.size w w' := by
  obtain ⟨w0, hw0⟩ : ∃ x, x = ((w.alloc (rgo r)).alloc (o3 p 23)).alloc (o3 q 23) := ⟨_, rfl⟩
  have HB0 : Hid (Below w.heap.size w w0) := by show Below _ _ _; rw [hw0]; exact three_new _ _ _ _
  have KQ0 : Hid (Bk (w.heap.size + 1 + 1) (c3 q) w0) := by show Bk _ _ _; rw [hw0]; exact Bk.new ((w.alloc (rgo r)).alloc (o3 p 23)) (c3 q) 23 (w.heap.size + 1 + 1) (by simp)
  have KP0 : Hid (Bk (w.heap.size + 1) (c3 p) w0) := by show Bk _ _ _; rw [hw0]; exact (Bk.new (w.alloc (rgo r)) (c3 p) 23 (w.heap.size + 1) (by simp)).later (one_new _ _)
  have HG0 : Hid (Gl a n w0) := hg.later HB0.out
  obtain ⟨Q, hQ⟩ : ∃ b, b = w.heap.size + 1 + 1 := ⟨_, rfl⟩
  obtain ⟨P, hP⟩ : ∃ b, b = w.heap.size + 1 := ⟨_, rfl⟩
  rw [← hQ] at KQ0
  rw [← hP] at KP0
  have HN : Hid (∀ W, Gl a n W → Calls Tryd.prog 19 #[rgv r, zfv] W fun e w' => e = .returned (.tuple #[zbv, .iface 109 (.pointer (some (a 1)))]) ∧ Below W.heap.size W w') := fun W hW => newBoard_no a n r f0 W hW (nb_none h f0)
  have HE : Hid (∀ W, Gl a n W → Calls Tryd.prog 20 #[.iface 109 (.pointer (some (a 1)))] W fun e w' => e = .returned (.int .i64 2) ∧ w' = W) := fun W hW => number_1 a n W hW
  clear h hg
  go_enter Tryd.func10, Tryd.ntmps10
  go_wp2_with fail
  simp only [← hw0, ← hQ]
  simp only [← hP]
  clear hw0 hQ hP
  refine (HN.out _ HG0.out).mono ?_
  rintro e w1 ⟨rfl, hb1⟩
  have HG1 : Hid (Gl a n (w1.alloc zbo)) := (HG0.out.later hb1).later (one_new _ _)
  have HB2 : Hid (Below w.heap.size w (w1.alloc zbo)) := below_on (below_on HB0.out hb1) (one_new _ _)
  clear hb1 KP0 KQ0
  go_wp2_with (refine wpList_store_new rfl 52 _ _ rfl w1 w1.heap.size _ _ rfl rfl rfl rfl info52 rfl (by kernel_rfl) ?_)
  refine Calls.mono (HE.out _ HG1.out) ?_
  rintro e w2 ⟨rfl, rfl⟩
  go_wp2
  exact bodyPost_ret (v := .tuple #[.int .i64 0, .int .i64 2]) (by simp [results, Tryd.results10, go_sem]) rfl ⟨rfl, HB2.out⟩
set_option maxHeartbeats 6400000 in
set_option maxRecDepth 100000 in
theorem Need_b (a : Nat → Addr) (n : Nat) (r : Rg) (p q : Pt) (w : World) (hg : Gl a n w) (h : rgOk r = true) (hs : ¬ (inS r p = true ∧ inS r q = true)) :
    Calls Tryd.prog 10 #[rgv r, v3 p, v3 q] w fun e w' => e = .returned (.tuple #[.int .i64 0, .int .i64 1]) ∧ Below w.heap.size w w' := by
  obtain ⟨w0, hw0⟩ : ∃ x, x = ((w.alloc (rgo r)).alloc (o3 p 23)).alloc (o3 q 23) := ⟨_, rfl⟩
  have HB0 : Hid (Below w.heap.size w w0) := by show Below _ _ _; rw [hw0]; exact three_new _ _ _ _
  have KQ0 : Hid (Bk (w.heap.size + 1 + 1) (c3 q) w0) := by show Bk _ _ _; rw [hw0]; exact Bk.new ((w.alloc (rgo r)).alloc (o3 p 23)) (c3 q) 23 (w.heap.size + 1 + 1) (by simp)
  have KP0 : Hid (Bk (w.heap.size + 1) (c3 p) w0) := by show Bk _ _ _; rw [hw0]; exact (Bk.new (w.alloc (rgo r)) (c3 p) 23 (w.heap.size + 1) (by simp)).later (one_new _ _)
  have HG0 : Hid (Gl a n w0) := hg.later HB0.out
  obtain ⟨Q, hQ⟩ : ∃ b, b = w.heap.size + 1 + 1 := ⟨_, rfl⟩
  obtain ⟨P, hP⟩ : ∃ b, b = w.heap.size + 1 := ⟨_, rfl⟩
  rw [← hQ] at KQ0
  rw [← hP] at KP0
  have hn0 : n ≤ w.heap.size := hg.size
  have HN : Hid (∀ W, Calls Tryd.prog 19 #[rgv r, zfv] W fun e w' => ∃ M, e = .returned (.tuple #[bdv r f0 M, .nilIface]) ∧ W.heap.size ≤ M ∧ TM r.rp M w' ∧ Below W.heap.size W w') := fun W => newBoard_c r f0 W h (fmOk_iff.2 (f0_ok (rgOk_iff.1 h)))
  have HD : Hid (∀ B M W, Bd B M r f0 W → Gl a n W → Calls Tryd.prog 22 #[ptr B, v3 p, v3 q] W fun e w' => e = .returned (.tuple #[.int .i64 0, .iface 109 (.pointer (some (a 0)))]) ∧ Bd B M r f0 w' ∧ Kpt (BM B M) W w') := fun B M W h1 h2 => by
    cases hp : inS r p with
    | false => exact need_a a n B M r f0 p q W h1 h2 hp
    | true =>
      cases hq : inS r q with
      | false => exact need_b a n B M r f0 p q W h1 h2 hp hq
      | true => exact absurd ⟨hp, hq⟩ hs
  have HI : Hid (∀ W, Calls Tryd.prog 23 #[.iface 109 (.pointer (some (a 0))), .iface 109 (.pointer (some (a 0)))] W fun e w' => e = .returned (.bool true) ∧ w' = W) := fun W => is_same (a 0) W
  clear h hg hs
  go_enter Tryd.func10, Tryd.ntmps10
  go_wp2_with fail
  simp only [← hw0, ← hQ]
  simp only [← hP]
  clear hw0 hQ hP
  refine (HN.out _).mono ?_
  rintro e w1 ⟨M, rfl, hM, ht, hb1⟩
  have HB1 : Hid (Below w.heap.size w w1) := below_on HB0.out hb1
  have KP1 : Hid (Bk P (c3 p) w1) := KP0.out.later hb1
  have KQ1 : Hid (Bk Q (c3 q) w1) := KQ0.out.later hb1
  have hM2 : M < w1.heap.size := ht.lt
  have hMw : w.heap.size ≤ M := Nat.le_trans HB0.out.size hM
  obtain ⟨w2, hw2⟩ : ∃ y, y = w1.alloc (bdo r f0 M) := ⟨_, rfl⟩
  have HD2 : Hid (Bd w1.heap.size M r f0 w2) := by show Bd _ _ _ _ _; rw [hw2]; exact ⟨Bk.new w1 (bdc r f0 M) 52 w1.heap.size rfl, ht.later (one_new _ _), by omega⟩
  have HB2 : Hid (Below w.heap.size w w2) := by show Below _ _ _; rw [hw2]; exact below_on HB1.out (one_new _ _)
  have HG2 : Hid (Gl a n w2) := by show Gl _ _ _; rw [hw2]; exact (HG0.out.later hb1).later (one_new _ _)
  obtain ⟨B, hB⟩ : ∃ b, b = w1.heap.size := ⟨_, rfl⟩
  rw [← hB] at HD2
  have HX : Hid (n ≤ B ∧ n ≤ M ∧ w.heap.size ≤ B ∧ w.heap.size ≤ M) := by have := HB1.out.size; show _ ∧ _; omega
  have p0 := KP1.out.c 0 rfl
  have q0 := KQ1.out.c 0 rfl
  have p1 := KP1.out.c 1 rfl
  have q1 := KQ1.out.c 1 rfl
  have p2 := KP1.out.c 2 rfl
  have q2 := KQ1.out.c 2 rfl
  have hPw : P < w1.heap.size := KP1.out.1
  have hQw : Q < w1.heap.size := KQ1.out.1
  clear hb1 ht hM
  go_wp2_with (refine wpList_store_new rfl 52 _ _ rfl w1 w1.heap.size _ _ rfl rfl rfl rfl info52 rfl (by kernel_rfl) ?_)
  simp only [show w1.alloc (.cells (bdc r f0 M).toArray 52) = w2 from hw2.symm, ← hB]
  clear hw2 hB hPw hQw p0 p1 p2 q0 q1 q2 hM2
  refine Calls.mono (HD.out B M _ HD2.out HG2.out) ?_
  rintro e w3 ⟨rfl, hd3, hk3⟩
  have HB3 : Hid (Below w.heap.size w w3) := HB2.out.trans (hk3.below HB2.out.size fun k hk => by rcases hk with e | e <;> (have := HX.out; omega))
  have HG3 : Hid (Gl a n w3) := HG2.out.onB hk3 HX.out.1 HX.out.2.1
  have g0 : w3.cell? ⟨0, 0, none⟩ = some (.iface 109 (.pointer (some (a 0)))) := HG3.out.cell 0 (by decide)
  clear hd3 hk3
  go_wp2_with fail
  refine Calls.mono (HI.out _) ?_
  rintro e w4 ⟨rfl, rfl⟩
  go_wp2
  exact bodyPost_ret (v := .tuple #[.int .i64 0, .int .i64 1]) (by simp [results, Tryd.results10, go_sem]) rfl ⟨rfl, HB3.out⟩
set_option maxHeartbeats 6400000 in
set_option maxRecDepth 100000 in
theorem Need_c (a : Nat → Addr) (n : Nat) (r : Rg) (p q : Pt) (w : World) (hg : Gl a n w) (h : rgOk r = true) (hs : inS r p = true ∧ inS r q = true) :
    Calls Tryd.prog 10 #[rgv r, v3 p, v3 q] w fun e w' => e = .returned (.tuple #[.int .i64 (tick r p q), .int .i64 0]) ∧ Below w.heap.size w w' := by
  obtain ⟨w0, hw0⟩ : ∃ x, x = ((w.alloc (rgo r)).alloc (o3 p 23)).alloc (o3 q 23) := ⟨_, rfl⟩
  have HB0 : Hid (Below w.heap.size w w0) := by show Below _ _ _; rw [hw0]; exact three_new _ _ _ _
  have KQ0 : Hid (Bk (w.heap.size + 1 + 1) (c3 q) w0) := by show Bk _ _ _; rw [hw0]; exact Bk.new ((w.alloc (rgo r)).alloc (o3 p 23)) (c3 q) 23 (w.heap.size + 1 + 1) (by simp)
  have KP0 : Hid (Bk (w.heap.size + 1) (c3 p) w0) := by show Bk _ _ _; rw [hw0]; exact (Bk.new (w.alloc (rgo r)) (c3 p) 23 (w.heap.size + 1) (by simp)).later (one_new _ _)
  have HG0 : Hid (Gl a n w0) := hg.later HB0.out
  obtain ⟨Q, hQ⟩ : ∃ b, b = w.heap.size + 1 + 1 := ⟨_, rfl⟩
  obtain ⟨P, hP⟩ : ∃ b, b = w.heap.size + 1 := ⟨_, rfl⟩
  rw [← hQ] at KQ0
  rw [← hP] at KP0
  have hn0 : n ≤ w.heap.size := hg.size
  have HN : Hid (∀ W, Calls Tryd.prog 19 #[rgv r, zfv] W fun e w' => ∃ M, e = .returned (.tuple #[bdv r f0 M, .nilIface]) ∧ W.heap.size ≤ M ∧ TM r.rp M w' ∧ Below W.heap.size W w') := fun W => newBoard_c r f0 W h (fmOk_iff.2 (f0_ok (rgOk_iff.1 h)))
  have HD : Hid (∀ B M W, Bd B M r f0 W → Gl a n W → Calls Tryd.prog 22 #[ptr B, v3 p, v3 q] W fun e w' => e = .returned (.tuple #[.int .i64 (tick r p q), .nilIface]) ∧ Bd B M r f0 w' ∧ Kpt (BM B M) W w') := fun B M W h1 _ => need_c B M r f0 p q W h1 (rgOk_iff.1 h) hs.1 hs.2
  have HI : Hid (∀ W, Calls Tryd.prog 23 #[.nilIface, .iface 109 (.pointer (some (a 0)))] W fun e w' => e = .returned (.bool false) ∧ w' = W) := fun W => is_nil (a 0) W
  have HE : Hid (∀ W, Gl a n W → Calls Tryd.prog 20 #[.nilIface] W fun e w' => e = .returned (.int .i64 0) ∧ w' = W) := fun W hW => number_nil a n W hW
  obtain ⟨t, ht⟩ : ∃ t, t = tick r p q := ⟨_, rfl⟩
  rw [← ht] at HD
  rw [← ht]
  clear ht
  clear h hg hs
  go_enter Tryd.func10, Tryd.ntmps10
  go_wp2_with fail
  simp only [← hw0, ← hQ]
  simp only [← hP]
  clear hw0 hQ hP
  refine (HN.out _).mono ?_
  rintro e w1 ⟨M, rfl, hM, ht, hb1⟩
  have HB1 : Hid (Below w.heap.size w w1) := below_on HB0.out hb1
  have KP1 : Hid (Bk P (c3 p) w1) := KP0.out.later hb1
  have KQ1 : Hid (Bk Q (c3 q) w1) := KQ0.out.later hb1
  have hM2 : M < w1.heap.size := ht.lt
  have hMw : w.heap.size ≤ M := Nat.le_trans HB0.out.size hM
  obtain ⟨w2, hw2⟩ : ∃ y, y = w1.alloc (bdo r f0 M) := ⟨_, rfl⟩
  have HD2 : Hid (Bd w1.heap.size M r f0 w2) := by show Bd _ _ _ _ _; rw [hw2]; exact ⟨Bk.new w1 (bdc r f0 M) 52 w1.heap.size rfl, ht.later (one_new _ _), by omega⟩
  have HB2 : Hid (Below w.heap.size w w2) := by show Below _ _ _; rw [hw2]; exact below_on HB1.out (one_new _ _)
  have HG2 : Hid (Gl a n w2) := by show Gl _ _ _; rw [hw2]; exact (HG0.out.later hb1).later (one_new _ _)
  obtain ⟨B, hB⟩ : ∃ b, b = w1.heap.size := ⟨_, rfl⟩
  rw [← hB] at HD2
  have HX : Hid (n ≤ B ∧ n ≤ M ∧ w.heap.size ≤ B ∧ w.heap.size ≤ M) := by have := HB1.out.size; show _ ∧ _; omega
  have p0 := KP1.out.c 0 rfl
  have q0 := KQ1.out.c 0 rfl
  have p1 := KP1.out.c 1 rfl
  have q1 := KQ1.out.c 1 rfl
  have p2 := KP1.out.c 2 rfl
  have q2 := KQ1.out.c 2 rfl
  have hPw : P < w1.heap.size := KP1.out.1
  have hQw : Q < w1.heap.size := KQ1.out.1
  clear hb1 ht hM
  go_wp2_with (refine wpList_store_new rfl 52 _ _ rfl w1 w1.heap.size _ _ rfl rfl rfl rfl info52 rfl (by kernel_rfl) ?_)
  simp only [show w1.alloc (.cells (bdc r f0 M).toArray 52) = w2 from hw2.symm, ← hB]
  clear hw2 hB hPw hQw p0 p1 p2 q0 q1 q2 hM2
  refine Calls.mono (HD.out B M _ HD2.out HG2.out) ?_
  rintro e w3 ⟨rfl, hd3, hk3⟩
  have HB3 : Hid (Below w.heap.size w w3) := HB2.out.trans (hk3.below HB2.out.size fun k hk => by rcases hk with e | e <;> (have := HX.out; omega))
  have HG3 : Hid (Gl a n w3) := HG2.out.onB hk3 HX.out.1 HX.out.2.1
  have g0 : w3.cell? ⟨0, 0, none⟩ = some (.iface 109 (.pointer (some (a 0)))) := HG3.out.cell 0 (by decide)
  clear hd3 hk3
  go_wp2_with fail
  refine Calls.mono (HI.out _) ?_
  rintro e w4 ⟨rfl, rfl⟩
  go_wp2_with fail
  refine Calls.mono (HE.out _ HG3.out) ?_
  rintro e w5 ⟨rfl, rfl⟩
  go_wp2
  exact bodyPost_ret (v := .tuple #[.int .i64 t, .int .i64 0]) (by simp [results, Tryd.results10, go_sem]) rfl ⟨rfl, HB3.out⟩
theorem Need_any (a : Nat → Addr) (n : Nat) (r : Rg) (p q : Pt) (w : World) (hg : Gl a n w) :
    Calls Tryd.prog 10 #[rgv r, v3 p, v3 q] w fun e w' => e = .returned (.tuple #[.int .i64 (NeT r p q), .int .i64 (NeE r p q)]) ∧ Below w.heap.size w w' := by
  cases h : rgOk r with
  | false =>
    have e1 : NeE r p q = 2 := by unfold NeE; rw [if_pos h]
    have e2 : NeT r p q = 0 := by unfold NeT; rw [e1]; rfl
    rw [e1, e2]
    exact Need_a a n r p q w hg h
  | true =>
    by_cases hs : inS r p = true ∧ inS r q = true
    · have e1 : NeE r p q = 0 := by unfold NeE; rw [h, if_neg (by decide), if_pos hs]
      have e2 : NeT r p q = tick r p q := by unfold NeT; rw [if_pos e1]
      rw [e1, e2]
      exact Need_c a n r p q w hg h hs
    · have e1 : NeE r p q = 1 := by unfold NeE; rw [h, if_neg (by decide), if_neg hs]
      have e2 : NeT r p q = 0 := by unfold NeT; rw [e1]; rfl
      rw [e1, e2]
      exact Need_b a n r p q w hg h hs
end Go.Proofs.YtgahlhfgpkklaaaDoor
