/- Rigs, states, points in memory; isFrom, change, upBy, numbers, greatestChange, isRamp walked. -/
import Derived.Test.YtgahlhfgpkklaaaDoorFAH
import Derived.Test.YtgahlhfgpkklaaaDoorERH
import Derived.Laws.StructEq
namespace Go.Proofs.YtgahlhfgpkklaaaDoor
open Go.RowKit

abbrev v3 (p : Pt) : Value := .agg #[.int .i64 p.x, .int .i64 p.y, .int .i64 p.z]
abbrev c3 (p : Pt) : List Value := [.int .i64 p.x, .int .i64 p.y, .int .i64 p.z]
abbrev o3 (p : Pt) (t : TypeId) : Obj := .cells #[.int .i64 p.x, .int .i64 p.y, .int .i64 p.z] t
abbrev rgv (r : Rg) : Value := .agg #[.int .i64 r.lo.x, .int .i64 r.lo.y, .int .i64 r.lo.z, .int .i64 r.hi.x, .int .i64 r.hi.y, .int .i64 r.hi.z, .int .i64 r.rp.c, .int .i64 r.rp.f, .int .i64 r.rp.m, .int .i64 r.rp.r, .int .i64 r.ps, .int .i64 r.mo]
abbrev rgc (r : Rg) : List Value := [.int .i64 r.lo.x, .int .i64 r.lo.y, .int .i64 r.lo.z, .int .i64 r.hi.x, .int .i64 r.hi.y, .int .i64 r.hi.z, .int .i64 r.rp.c, .int .i64 r.rp.f, .int .i64 r.rp.m, .int .i64 r.rp.r, .int .i64 r.ps, .int .i64 r.mo]
abbrev rgo (r : Rg) : Obj := .cells #[.int .i64 r.lo.x, .int .i64 r.lo.y, .int .i64 r.lo.z, .int .i64 r.hi.x, .int .i64 r.hi.y, .int .i64 r.hi.z, .int .i64 r.rp.c, .int .i64 r.rp.f, .int .i64 r.rp.m, .int .i64 r.rp.r, .int .i64 r.ps, .int .i64 r.mo] 27
abbrev fv (f : Fm) : Value := .agg #[.bool f.hm, .int .i64 f.pt.x, .int .i64 f.pt.y, .int .i64 f.pt.z, .int .i64 f.pl, .bool f.tp, .int .i64 f.ht, .int .i64 f.tu, .int .i64 f.tk]
abbrev fc (f : Fm) : List Value := [.bool f.hm, .int .i64 f.pt.x, .int .i64 f.pt.y, .int .i64 f.pt.z, .int .i64 f.pl, .bool f.tp, .int .i64 f.ht, .int .i64 f.tu, .int .i64 f.tk]
abbrev fo (f : Fm) : Obj := .cells #[.bool f.hm, .int .i64 f.pt.x, .int .i64 f.pt.y, .int .i64 f.pt.z, .int .i64 f.pl, .bool f.tp, .int .i64 f.ht, .int .i64 f.tu, .int .i64 f.tk] 29
theorem one_new (w : World) (a : Obj) : Below w.heap.size w (w.alloc a) := (Below.refl _ _).alloc (Nat.le_refl _) _
theorem two_new (w : World) (a b : Obj) : Below w.heap.size w ((w.alloc a).alloc b) := ((Below.refl _ _).alloc (Nat.le_refl _) _).alloc (by simp) _
theorem three_new (w : World) (a b c : Obj) : Below w.heap.size w (((w.alloc a).alloc b).alloc c) := (((Below.refl _ _).alloc (Nat.le_refl _) _).alloc (by simp) _).alloc (by simp; omega) _
theorem below_on {w w1 w2 : World} (h : Below w.heap.size w w1) (h2 : Below w1.heap.size w1 w2) : Below w.heap.size w w2 := h.trans (h2.mono h.size)

theorem isFrom_any (lo x hi : Int) (w : World) :
    Calls Tryd.prog 45 #[.int .i64 lo, .int .i64 x, .int .i64 hi] w fun e w' => e = .returned (.bool (inR lo hi x)) ∧ w' = w := by
  by_cases h1 : lo ≤ x
  · by_cases h2 : x ≤ hi
    · go_enter Tryd.func45, Tryd.ntmps45
      go_wp2
      go_ret
      exact ⟨ret_bool (inR_yes h1 h2).symm, rfl⟩
    · go_enter Tryd.func45, Tryd.ntmps45
      go_wp2
      go_ret
      exact ⟨ret_bool (inR_no (by omega)).symm, rfl⟩
  · go_enter Tryd.func45, Tryd.ntmps45
    go_wp2
    go_ret
    exact ⟨ret_bool (inR_no (by omega)).symm, rfl⟩
theorem change_any (a b : Int) (w : World) (ha : -1000000000 ≤ a) (ha2 : a ≤ 1000000000) (hb : -1000000000 ≤ b) (hb2 : b ≤ 1000000000) :
    Calls Tryd.prog 56 #[.int .i64 a, .int .i64 b] w fun e w' => e = .returned (.int .i64 (chg a b)) ∧ w' = w := by
  go_enter Tryd.func56, Tryd.ntmps56
  go_wp2
  all_goals (go_ret; exact ⟨ret_int (by unfold chg; omega), rfl⟩)
theorem upBy_any (n b : Int) (w : World) (h0 : 0 ≤ n) (h1 : n ≤ 1000000000000000000) (hb : 1 ≤ b) (hb2 : b ≤ 100000) :
    Calls Tryd.prog 38 #[.int .i64 n, .int .i64 b] w fun e w' => e = .returned (.int .i64 (upB n b)) ∧ w' = w := by
  go_enter Tryd.func38, Tryd.ntmps38
  go_wp2
  go_ret
  exact ⟨ret_int (by unfold upB; first | rfl | (rw [Int.tdiv_eq_ediv_of_nonneg (by omega)])), rfl⟩
theorem numbersP_any (p : Pt) (w : World) : Calls Tryd.prog 44 #[v3 p] w fun e w' => e = .returned (v3 p) ∧ Below w.heap.size w w' := by
  have HB : Hid (Below w.heap.size w ((w.alloc (o3 p 23)).alloc (o3 p 78))) := two_new _ _ _
  go_enter Tryd.func44, Tryd.ntmps44
  go_wp2
  refine bodyPost_ret (v := v3 p) (by simp [results, Tryd.results44, go_sem]) rfl ⟨rfl, HB.out⟩
theorem ix30 (p : Pt) (w : World) : (Instr.index 78 (v3 p) (.int .i64 0)).run Tryd.prog w = .ok (.int .i64 p.x) w := by kernel_rfl
theorem ix31 (p : Pt) (w : World) : (Instr.index 78 (v3 p) (.int .i64 1)).run Tryd.prog w = .ok (.int .i64 p.y) w := by kernel_rfl
theorem ix32 (p : Pt) (w : World) : (Instr.index 78 (v3 p) (.int .i64 2)).run Tryd.prog w = .ok (.int .i64 p.z) w := by kernel_rfl
theorem isRampF_any (r : Rp) (w : World) : Calls Tryd.prog 46 #[rv r] w fun e w' => e = .returned (.bool (rpOk r)) ∧ Below w.heap.size w w' := by
  have HB : Hid (Below w.heap.size w (w.alloc (ro r))) := one_new _ _
  cases h : rpOk r with
  | true =>
    have HT : Hid (∀ W, Calls Tryd.prog 57 #[rv r, .int .i64 0] W fun e w' => e = .returned (.tuple #[.int .i64 (totR r 0), .int .i64 0]) ∧ Below W.heap.size W w') := fun W => total_yes r 0 W h (by decide)
    go_enter Tryd.func46, Tryd.ntmps46
    go_wp2_with fail
    refine (HT.out _).mono ?_
    rintro e w1 ⟨rfl, hb1⟩
    have HB1 : Hid (Below w.heap.size w w1) := below_on HB.out hb1
    go_wp2
    go_ret
    exact ⟨rfl, HB1.out⟩
  | false =>
    have HT : Hid (∀ W, Calls Tryd.prog 57 #[rv r, .int .i64 0] W fun e w' => e = .returned (.tuple #[.int .i64 0, .int .i64 2]) ∧ Below W.heap.size W w') := fun W => (total_no r 0 W (by rw [refR_range h]; decide)).mono fun e w' ⟨h1, h2⟩ => ⟨by rw [h1, refR_range h], h2⟩
    go_enter Tryd.func46, Tryd.ntmps46
    go_wp2_with fail
    refine (HT.out _).mono ?_
    rintro e w1 ⟨rfl, hb1⟩
    have HB1 : Hid (Below w.heap.size w w1) := below_on HB.out hb1
    go_wp2
    go_ret
    exact ⟨rfl, HB1.out⟩

/-- Numbers that a rig's points may have. -/
def Near (p : Pt) : Prop := (-10000000 ≤ p.x ∧ p.x ≤ 10000000) ∧ (-10000000 ≤ p.y ∧ p.y ≤ 10000000) ∧ (-10000000 ≤ p.z ∧ p.z ≤ 10000000)
theorem near_of {r : Rg} (h : RgOk r) {p : Pt} (hp : inS r p = true) : Near p := by
  have h1 := h.x; have h2 := h.y; have h3 := h.z
  have a := inS_iff.1 hp
  unfold Near
  omega
set_option maxHeartbeats 6400000 in
set_option maxRecDepth 100000 in
theorem greatest_any (p q : Pt) (w : World) (hp : Near p) (hq : Near q) : Calls Tryd.prog 39 #[v3 p, v3 q] w fun e w' => e = .returned (.int .i64 (gch p q)) ∧ Below w.heap.size w w' := by
  obtain ⟨a1, a2, a3⟩ := hp
  obtain ⟨b1, b2, b3⟩ := hq
  have HN : Hid (∀ x W, Calls Tryd.prog 44 #[v3 x] W fun e w' => e = .returned (v3 x) ∧ Below W.heap.size W w') := numbersP_any
  have HX : Hid (∀ W, Calls Tryd.prog 56 #[.int .i64 p.x, .int .i64 q.x] W fun e w' => e = .returned (.int .i64 (chg p.x q.x)) ∧ w' = W) := fun W => change_any _ _ W (by omega) (by omega) (by omega) (by omega)
  have HY : Hid (∀ W, Calls Tryd.prog 56 #[.int .i64 p.y, .int .i64 q.y] W fun e w' => e = .returned (.int .i64 (chg p.y q.y)) ∧ w' = W) := fun W => change_any _ _ W (by omega) (by omega) (by omega) (by omega)
  have HZ : Hid (∀ W, Calls Tryd.prog 56 #[.int .i64 p.z, .int .i64 q.z] W fun e w' => e = .returned (.int .i64 (chg p.z q.z)) ∧ w' = W) := fun W => change_any _ _ W (by omega) (by omega) (by omega) (by omega)
  have HG : Hid (max (max (max 0 (chg p.x q.x)) (chg p.y q.y)) (chg p.z q.z) = gch p q) := by show _ = _; unfold gch chg; omega
  have HB0 : Hid (Below w.heap.size w ((w.alloc (o3 p 23)).alloc (o3 q 23))) := two_new _ _ _
  have KQ0 : Hid (Bk (w.heap.size + 1) (c3 q) ((w.alloc (o3 p 23)).alloc (o3 q 23))) := Bk.new (w.alloc (o3 p 23)) (c3 q) 23 (w.heap.size + 1) (by simp)
  obtain ⟨dx, hdx⟩ : ∃ d, d = chg p.x q.x := ⟨_, rfl⟩
  obtain ⟨dy, hdy⟩ : ∃ d, d = chg p.y q.y := ⟨_, rfl⟩
  obtain ⟨dz, hdz⟩ : ∃ d, d = chg p.z q.z := ⟨_, rfl⟩
  rw [← hdx] at HX HG
  rw [← hdy] at HY HG
  rw [← hdz] at HZ HG
  clear hdx hdy hdz a1 a2 a3 b1 b2 b3
  go_enter Tryd.func39, Tryd.ntmps39
  go_wp2_with fail
  refine (HN.out _ _).mono ?_
  rintro e w1 ⟨rfl, hb1⟩
  have HB1 : Hid (Below w.heap.size w w1) := below_on HB0.out hb1
  have KQ1 : Hid (Bk (w.heap.size + 1) (c3 q) w1) := KQ0.out.later hb1
  obtain ⟨B, hB⟩ : ∃ b, b = w.heap.size + 1 := ⟨_, rfl⟩
  rw [← hB] at KQ1
  simp only [← hB]
  clear hb1 HB0 KQ0 hB
  obtain ⟨S, hS⟩ : ∃ b, b = w1.heap.size := ⟨_, rfl⟩
  obtain ⟨w2, hw2⟩ : ∃ x, x = w1.alloc (o3 p 78) := ⟨_, rfl⟩
  have HB2 : Hid (Below w.heap.size w w2) := by show Below _ _ _; rw [hw2]; exact below_on HB1.out (one_new _ _)
  have KQ2 : Hid (Bk B (c3 q) w2) := by show Bk _ _ _; rw [hw2]; exact KQ1.out.later (one_new _ _)
  have KS2 : Hid (Bk S (c3 p) w2) := by show Bk _ _ _; rw [hw2, hS]; exact Bk.new w1 (c3 p) 78 w1.heap.size rfl
  have q0 := KQ1.out.c 0 rfl
  have q1 := KQ1.out.c 1 rfl
  have q2 := KQ1.out.c 2 rfl
  have hBs : B < w1.heap.size := KQ1.out.1
  go_wp2_with fail
  simp only [← hw2, ← hS]
  refine (HN.out _ _).mono ?_
  rintro e w3 ⟨rfl, hb3⟩
  have HB3 : Hid (Below w.heap.size w w3) := below_on HB2.out hb3
  have s0 := (KS2.out.later hb3).c 0 rfl
  have s1 := (KS2.out.later hb3).c 1 rfl
  have s2 := (KS2.out.later hb3).c 2 rfl
  have i0 := ix30 q
  have i1 := ix31 q
  have i2 := ix32 q
  clear hb3 HB2 KQ2 KS2 hw2 hS q0 q1 q2 hBs KQ1 HB1
  go_wp2_with fail
  refine wp_loop_rounds 4 ?_
  rw [rounds_succ]
  go_wp2_with fail
  refine (HX.out _).mono ?_
  rintro e w4 ⟨rfl, rfl⟩
  go_wp2_with fail
  all_goals (rw [rounds_succ]; go_wp2_with fail; refine (HY.out _).mono ?_; rintro e w5 ⟨rfl, rfl⟩; go_wp2_with fail)
  all_goals (rw [rounds_succ]; go_wp2_with fail; refine (HZ.out _).mono ?_; rintro e w6 ⟨rfl, rfl⟩; go_wp2_with fail)
  all_goals (rw [rounds_succ]; go_wp2; go_ret; exact ⟨ret_int (by have := HG.out; omega), HB3.out⟩)
end Go.Proofs.YtgahlhfgpkklaaaDoor
