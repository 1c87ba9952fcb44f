/- PathFree's law walked. -/
import Derived.Test.YtgelbndbkmedlaaGj
namespace Go.Proofs.Ytgelbndbkmedlaa.S
open Go.RowKit

set_option linter.unusedVariables false in
def fr9V (b off n cap m B : Nat) (p q : Pt) (d : Nat) (v : Value) (_ : World) : Prop :=
  match d with
  | 59 => v = .int .i64 0
  | 60 => v = .bool false
  | 61 => v = .bool false
  | 62 => v = .int .i64 (-1)
  | 63 => v = .bool false
  | 64 => v = .bool false
  | 65 => v = .bool false
  | 66 => v = .int .i64 0
  | 67 => v = .bool false
  | 68 => v = .bool false
  | 69 => v = .bool false
  | 70 => v = .slice (some ⟨b, off, none⟩) n cap
  | 71 => v = .int .i64 (n : Int)
  | 72 => v = .bool false
  | 73 => v = .bool false
  | 74 => v = .bool false
  | 75 => v = .slice (some ⟨b, off, none⟩) n cap
  | 76 => v = .pointer (some ⟨b, off, none⟩)
  | 77 => v = pv p
  | 78 => v = pv p
  | 79 => v = .bool false
  | 80 => v = .bool false
  | 81 => v = .bool false
  | 82 => v = .slice (some ⟨b, off, none⟩) n cap
  | 83 => v = .slice (some ⟨b, off, none⟩) n cap
  | 84 => v = .int .i64 (n : Int)
  | 85 => v = .int .i64 (m : Int)
  | 86 => v = .pointer (some ⟨b, off + m * 3, none⟩)
  | 87 => v = pv q
  | 88 => v = pv q
  | 89 => v = .bool false
  | 90 => v = .bool false
  | _ => True
set_option linter.unusedVariables false in
theorem fr9V_mono (b off n cap m B : Nat) (p q : Pt) (d : Nat) (v : Value) (w w' : World) (h : fr9V b off n cap m B p q d v w) (_ : Below w.heap.size w w') : fr9V b off n cap m B p q d v w' := h
theorem lss_no {x y : Int} (h : y ≤ x) (W : World) : (binOp .lss 3 (.int .i64 x) (.int .i64 y)).run Try.prog W = .ok (.bool false) W := by
  have hd : decide (x < y) = false := decide_eq_false (by omega)
  go_simp
  try exact hd
theorem pt_neq_self (p : Pt) (W : World) : (binOp .neq 24 (pv p) (pv p)).run Try.prog W = .ok (.bool false) W := by
  rw [pt_neq, eqP_iff.2 rfl]
  rfl
set_option maxHeartbeats 6400000 in
set_option maxRecDepth 100000 in
theorem free_any (ao : Option Addr) (cap : Nat) (d : List Sit) (t : Bx) (p q : Pt) (w : World) (hD : Dk w ao cap d) :
    Calls Try.prog 5 #[.slice ao d.length cap, bv t, pv p, pv q] w fun e w' => e = .returned (.bool true) ∧ Below w.heap.size w w' := by
  have HD : Hid (Dk w ao cap d) := hD
  clear hD
  obtain ⟨w0, hw0⟩ : ∃ x, x = ((w.alloc (bo t)).alloc (po p)).alloc (po q) := ⟨_, rfl⟩
  have q1 : ∀ (x : World) (o : Obj), Below x.heap.size x (x.alloc o) := fun x o => (Below.refl _ _).alloc (Nat.le_refl _) _
  have KT0 : Hid (Bk w.heap.size (bcl t) w0) := by show Bk _ _ _; rw [hw0]; exact ((Bk.new w (bcl t) 26 _ rfl).later (q1 _ _)).later (q1 _ _)
  have KP0 : Hid (Bk (w.heap.size + 1) (pcl p) w0) := by show Bk _ _ _; rw [hw0]; exact (Bk.new _ (pcl p) 24 _ (by simp)).later (q1 _ _)
  have KQ0 : Hid (Bk (w.heap.size + 2) (pcl q) w0) := by show Bk _ _ _; rw [hw0]; exact Bk.new _ (pcl q) 24 _ (by simp)
  have HB0 : Hid (Below w.heap.size w w0) := by show Below _ _ _; rw [hw0]; exact (((Below.refl _ _).alloc (Nat.le_refl _) _).alloc (by simp) _).alloc (by simp; omega) _
  have HW0 : Hid (w0 = ((w.alloc (bo t)).alloc (po p)).alloc (po q)) := hw0
  clear hw0 q1
  go_enter Try.func5, Try.ntmps5
  go_wp2_with fail
  rw [← HW0.out]
  refine Calls.mono (two_any w0) ?_
  rintro e w1 ⟨ao2, cap2, rfl, hb1⟩
  have HB1 : Hid (Below w.heap.size w w1) := HB0.out.trans (hb1.mono HB0.out.size)
  have KT1 : Hid (Bk w.heap.size (bcl t) w1) := KT0.out.later hb1
  have KP1 : Hid (Bk (w.heap.size + 1) (pcl p) w1) := KP0.out.later hb1
  have KQ1 : Hid (Bk (w.heap.size + 2) (pcl q) w1) := KQ0.out.later hb1
  clear hb1 KT0 KP0 KQ0
  have t0 := (KT1.out).c 0 rfl
  have t1 := (KT1.out).c 1 rfl
  have t2 := (KT1.out).c 2 rfl
  have t3 := (KT1.out).c 3 rfl
  have t4 := (KT1.out).c 4 rfl
  have t5 := (KT1.out).c 5 rfl
  have p0 := (KP1.out).c 0 rfl
  have p1 := (KP1.out).c 1 rfl
  have p2 := (KP1.out).c 2 rfl
  have q0 := (KQ1.out).c 0 rfl
  have q1 := (KQ1.out).c 1 rfl
  have q2 := (KQ1.out).c 2 rfl
  go_wp2_with fail
  refine Calls.mono (plan_any ao cap d t p q w1 (HD.out.next HB1.out)) ?_
  rintro e w2 ⟨v, e1, rfl, hpr, hb2⟩
  have HB2 : Hid (Below w.heap.size w w2) := HB1.out.trans (hb2.mono HB1.out.size)
  have KT2 : Hid (Bk w.heap.size (bcl t) w2) := KT1.out.later hb2
  have KP2 : Hid (Bk (w.heap.size + 1) (pcl p) w2) := KP1.out.later hb2
  have KQ2 : Hid (Bk (w.heap.size + 2) (pcl q) w2) := KQ1.out.later hb2
  clear hb2 KT1 KP1 KQ1 t0 t1 t2 t3 t4 t5 p0 p1 p2 q0 q1 q2
  rcases hpr with ⟨he, rfl, _⟩ | ⟨rfl, l, h, aoL, capL, rfl, hcl, hpn, hpp, _⟩
  · have hne : (e1 != 0) = true := by simp [he]
    clear he
    go_wp2
    go_ret
    exact ⟨rfl, HB2.out⟩
  · have HPP : Hid (PlanP d t p q l h) := hpp
    have HPN : Hid (Pns w2 aoL l) := hpn
    have hlen := plan_len hpp
    obtain ⟨hl1, hl5⟩ := hlen
    have HCK : Hid (∀ W, Dk W ao cap d → Pns W aoL l → Calls Try.prog 12 #[.slice ao d.length cap, bv t, .slice aoL l.length capL] W fun e w' => e = .returned (.tuple #[.int .i64 (-1), .int .i64 0]) ∧ Below W.heap.size W w') := fun W h1 h2 => by
      have := pcheck_any ao aoL cap capL d t l W h1 h2 (by omega)
      rw [plan_check hpp] at this
      exact this
    have HLG : Hid (∀ W, Pns W aoL l → Calls Try.prog 14 #[.slice aoL l.length capL] W fun e w' => e = .returned (.tuple #[.int .i64 (longL l), .int .i64 0]) ∧ Below W.heap.size W w') := fun W h2 => by
      have := long_any aoL capL l W h2 (by omega)
      rw [plan_long hpp] at this
      exact this
    have HSM : Hid (longL l = absI (q.x - p.x) + absI (q.y - p.y) + (h - p.z) + (h - q.z)) := plan_sum hpp
    have hnn := (refuse_zero hpp.ref).2.1
    have hnp := nearP_iff.1 (hnn p (by simp))
    have hnq := nearP_iff.1 (hnn q (by simp))
    obtain ⟨⟨px0, px1⟩, ⟨py0, py1⟩, pz0, pz1⟩ := hnp
    obtain ⟨⟨qx0, qx1⟩, ⟨qy0, qy1⟩, qz0, qz1⟩ := hnq
    obtain ⟨hh0, hh1⟩ := hpp.hi
    have HHG := (show Hid _ from plan_high hpp)
    clear hpp hpn hnn hcl
    generalize longL l = sm at *
    have t0 := (KT2.out).c 0 rfl
    have t1 := (KT2.out).c 1 rfl
    have t2 := (KT2.out).c 2 rfl
    have t3 := (KT2.out).c 3 rfl
    have t4 := (KT2.out).c 4 rfl
    have t5 := (KT2.out).c 5 rfl
    go_wp2_with fail
    refine Calls.mono (HCK.out _ (HD.out.next HB2.out) HPN.out) ?_
    rintro e w3 ⟨rfl, hb3⟩
    have HB3 : Hid (Below w.heap.size w w3) := HB2.out.trans (hb3.mono HB2.out.size)
    have HPN3 : Hid (Pns w3 aoL l) := HPN.out.next hb3
    have KP3 : Hid (Bk (w.heap.size + 1) (pcl p) w3) := KP2.out.later hb3
    have KQ3 : Hid (Bk (w.heap.size + 2) (pcl q) w3) := KQ2.out.later hb3
    clear hb3 HCK KT2 KP2 KQ2 t0 t1 t2 t3 t4 t5
    go_wp2_with fail
    refine Calls.mono (HLG.out _ HPN3.out) ?_
    rintro e w6 ⟨rfl, hb6⟩
    have HB6 : Hid (Below w.heap.size w w6) := HB3.out.trans (hb6.mono HB3.out.size)
    have HPN6 : Hid (Pns w6 aoL l) := HPN3.out.next hb6
    have KP : Hid (Bk (w.heap.size + 1) (pcl p) w6) := KP3.out.later hb6
    have KQ : Hid (Bk (w.heap.size + 2) (pcl q) w6) := KQ3.out.later hb6
    clear hb6 HLG KP3 KQ3
    obtain ⟨m, hm⟩ : ∃ m, m = l.length - 1 := ⟨_, rfl⟩
    have hml : m < l.length := by omega
    have h0l : 0 < l.length := by omega
    have e0 := plan_head HPP.out h0l
    have em : l[m]'hml = q := by subst hm; exact plan_last HPP.out hml
    obtain ⟨b, off, rfl, _, a0, a1, a2⟩ := HPN6.out.at h0l
    obtain ⟨b', off', e3, _, c0, c1, c2⟩ := HPN6.out.at hml
    injection e3 with e3
    injection e3 with e3 e4
    subst e3 e4
    rw [e0] at a0 a1 a2
    rw [em] at c0 c1 c2
    simp only [Nat.zero_mul, Nat.add_zero] at a0 a1 a2
    have HP0 : Hid (w6.cell? ⟨b, off, none⟩ = some (.int .i64 p.x)) := a0
    have HP1 : Hid (w6.cell? ⟨b, off + 1, none⟩ = some (.int .i64 p.y)) := a1
    have HP2 : Hid (w6.cell? ⟨b, off + 2, none⟩ = some (.int .i64 p.z)) := a2
    have HQ0 : Hid (w6.cell? ⟨b, off + m * 3, none⟩ = some (.int .i64 q.x)) := c0
    have HQ1 : Hid (w6.cell? ⟨b, off + m * 3 + 1, none⟩ = some (.int .i64 q.y)) := c1
    have HQ2 : Hid (w6.cell? ⟨b, off + m * 3 + 2, none⟩ = some (.int .i64 q.z)) := c2
    have HN1 : Hid ((1 : Int) ≤ (l.length : Int)) := by show _ ≤ _; omega
    have HN2 : Hid ((0 : Int) < (l.length : Int)) := by show _ < _; omega
    have HN3 : Hid ((m : Int) < (l.length : Int)) := by show _ < _; omega
    have HV : Hid (Value.int .i64 (IntKind.i64.wrap ((l.length : Int) - 1)) = .int .i64 (m : Int)) := by
      show _ = _
      rw [wrap_is (by omega) (by omega)]
      congr 1
      omega
    clear a0 a1 a2 c0 c1 c2 e0 em hm
    go_wp2_with fail
    refine region_inv [false, false, false, false, false, false, false, false, false, false, false, false, false, false, false, false, false, false, false, false, false, false, false, false, false, false, false, false, false, false, false, false, false, false, false, false, false, false, false, false, false, false, false, false, false, false, false, false, false, false, false, false, false, false, false, false, false, false, false, true, true, true, true, true, true, true, true, true, true, true, true, true, true, true, true, true, true, true, true, true, true, true, true, true, true, true, true, true, true, true, true, false, false, false, false, false, false, false, false, false, false, false, false, false, false, false, false, false, false, false, false, false, false, false, false, false, false, false, false, false, false, false, false, false, false, false, false, false, false, false, false, false, false, false, false, false, false, false, false, false, false, false, false, false]
      [(59, [], none), (60, [59], none), (61, [60], none), (62, [61], some (61, false)), (63, [61, 62], some (61, false)), (64, [61, 63], none), (65, [64], none), (66, [65], some (65, false)), (67, [65, 66], some (65, false)), (68, [65, 67], none), (69, [68], none), (70, [69], some (69, false)), (71, [69, 70], some (69, false)), (72, [69, 71], some (69, false)), (73, [69, 72], none), (74, [73], none), (75, [74], some (74, false)), (76, [74, 75], some (74, false)), (77, [74, 76], some (74, false)), (78, [74], some (74, false)), (79, [74, 77, 78], some (74, false)), (80, [74, 79], none), (81, [80], none), (82, [81], some (81, false)), (83, [81], some (81, false)), (84, [81, 83], some (81, false)), (85, [81, 84], some (81, false)), (86, [81, 82, 85], some (81, false)), (87, [81, 86], some (81, false)), (88, [81], some (81, false)), (89, [81, 87, 88], some (81, false)), (90, [81, 89], none)]
      (fr9V b off l.length capL m w.heap.size p q) (by kernel_rfl) (by kernel_rfl) (fr9V_mono b off l.length capL m w.heap.size p q) ?_ ?_
    · refine ⟨?_, ?_, ?_, ?_, ?_, ?_, ?_, ?_, ?_, ?_, ?_, ?_, ?_, ?_, ?_, ?_, ?_, ?_, ?_, ?_, ?_, ?_, ?_, ?_, ?_, ?_, ?_, ?_, ?_, ?_, ?_, ?_, trivial⟩
      · intro f w1 hb _ K hK
        simp only [over, overL, Nat.reduceAdd]
        go_simp
        exact hK _ _ ⟨_, rfl, by simp only [over, overL, Nat.reduceAdd]; rfl, Below.refl _ _⟩
      · intro f w1 hb ⟨h59, _⟩ K hK
        replace h59 : f 59 = _ := h59
        simp only [over, overL, Nat.reduceAdd, h59]
        go_simp
        exact hK _ _ ⟨_, rfl, by simp only [over, overL, Nat.reduceAdd, h59]; rfl, Below.refl _ _⟩
      · intro f w1 hb ⟨h60, _⟩ K hK
        replace h60 : f 60 = _ := h60
        simp only [over, overL, Nat.reduceAdd, h60]
        go_simp
        exact hK _ _ ⟨_, rfl, by simp only [over, overL, Nat.reduceAdd, h60]; rfl, Below.refl _ _⟩
      · intro f w1 hb ⟨h61, _⟩
        replace h61 : f 61 = _ := h61
        refine ⟨fun _ => ?_, fun hg => absurd h61 hg⟩
        intro K hK
        simp only [over, overL, Nat.reduceAdd, h61]
        go_simp
        exact hK _ _ ⟨_, rfl, by simp only [over, overL, Nat.reduceAdd, h61]; rfl, Below.refl _ _⟩
      · intro f w1 hb ⟨h61, h62, _⟩
        replace h61 : f 61 = _ := h61
        replace h62 : f 62 = _ := h62
        refine ⟨fun _ => ?_, fun hg => absurd h61 hg⟩
        intro K hK
        simp only [over, overL, Nat.reduceAdd, h61, h62]
        go_simp
        exact hK _ _ ⟨_, rfl, by simp only [over, overL, Nat.reduceAdd, h61, h62]; rfl, Below.refl _ _⟩
      · intro f w1 hb ⟨h61, h63, _⟩ K hK
        replace h61 : f 61 = _ := h61
        replace h63 : f 63 = _ := h63
        simp only [over, overL, Nat.reduceAdd, h61, h63]
        go_simp
        exact hK _ _ ⟨_, rfl, by simp only [over, overL, Nat.reduceAdd, h61, h63]; rfl, Below.refl _ _⟩
      · intro f w1 hb ⟨h64, _⟩ K hK
        replace h64 : f 64 = _ := h64
        simp only [over, overL, Nat.reduceAdd, h64]
        go_simp
        exact hK _ _ ⟨_, rfl, by simp only [over, overL, Nat.reduceAdd, h64]; rfl, Below.refl _ _⟩
      · intro f w1 hb ⟨h65, _⟩
        replace h65 : f 65 = _ := h65
        refine ⟨fun _ => ?_, fun hg => absurd h65 hg⟩
        intro K hK
        simp only [over, overL, Nat.reduceAdd, h65]
        go_simp
        exact hK _ _ ⟨_, rfl, by simp only [over, overL, Nat.reduceAdd, h65]; rfl, Below.refl _ _⟩
      · intro f w1 hb ⟨h65, h66, _⟩
        replace h65 : f 65 = _ := h65
        replace h66 : f 66 = _ := h66
        refine ⟨fun _ => ?_, fun hg => absurd h65 hg⟩
        intro K hK
        simp only [over, overL, Nat.reduceAdd, h65, h66]
        go_simp
        exact hK _ _ ⟨_, rfl, by simp only [over, overL, Nat.reduceAdd, h65, h66]; rfl, Below.refl _ _⟩
      · intro f w1 hb ⟨h65, h67, _⟩ K hK
        replace h65 : f 65 = _ := h65
        replace h67 : f 67 = _ := h67
        simp only [over, overL, Nat.reduceAdd, h65, h67]
        go_simp
        exact hK _ _ ⟨_, rfl, by simp only [over, overL, Nat.reduceAdd, h65, h67]; rfl, Below.refl _ _⟩
      · intro f w1 hb ⟨h68, _⟩ K hK
        replace h68 : f 68 = _ := h68
        simp only [over, overL, Nat.reduceAdd, h68]
        go_simp
        exact hK _ _ ⟨_, rfl, by simp only [over, overL, Nat.reduceAdd, h68]; rfl, Below.refl _ _⟩
      · intro f w1 hb ⟨h69, _⟩
        replace h69 : f 69 = _ := h69
        refine ⟨fun _ => ?_, fun hg => absurd h69 hg⟩
        intro K hK
        simp only [over, overL, Nat.reduceAdd, h69]
        go_simp
        exact hK _ _ ⟨_, rfl, by simp only [over, overL, Nat.reduceAdd, h69]; rfl, Below.refl _ _⟩
      · intro f w1 hb ⟨h69, h70, _⟩
        replace h69 : f 69 = _ := h69
        replace h70 : f 70 = _ := h70
        refine ⟨fun _ => ?_, fun hg => absurd h69 hg⟩
        intro K hK
        simp only [over, overL, Nat.reduceAdd, h69, h70]
        go_simp
        exact hK _ _ ⟨_, rfl, by simp only [over, overL, Nat.reduceAdd, h69, h70]; rfl, Below.refl _ _⟩
      · intro f w1 hb ⟨h69, h71, _⟩
        replace h69 : f 69 = _ := h69
        replace h71 : f 71 = _ := h71
        refine ⟨fun _ => ?_, fun hg => absurd h69 hg⟩
        intro K hK
        simp only [over, overL, Nat.reduceAdd, h69, h71]
        refine wp_binop rfl (by go_simp) (lss_no HN1.out w1) ?_
        exact hK _ _ ⟨_, rfl, by simp only [over, overL, Nat.reduceAdd, h69, h71], Below.refl _ _⟩
      · intro f w1 hb ⟨h69, h72, _⟩ K hK
        replace h69 : f 69 = _ := h69
        replace h72 : f 72 = _ := h72
        simp only [over, overL, Nat.reduceAdd, h69, h72]
        go_simp
        exact hK _ _ ⟨_, rfl, by simp only [over, overL, Nat.reduceAdd, h69, h72]; rfl, Below.refl _ _⟩
      · intro f w1 hb ⟨h73, _⟩ K hK
        replace h73 : f 73 = _ := h73
        simp only [over, overL, Nat.reduceAdd, h73]
        go_simp
        exact hK _ _ ⟨_, rfl, by simp only [over, overL, Nat.reduceAdd, h73]; rfl, Below.refl _ _⟩
      · intro f w1 hb ⟨h74, _⟩
        replace h74 : f 74 = _ := h74
        refine ⟨fun _ => ?_, fun hg => absurd h74 hg⟩
        intro K hK
        simp only [over, overL, Nat.reduceAdd, h74]
        go_simp
        exact hK _ _ ⟨_, rfl, by simp only [over, overL, Nat.reduceAdd, h74]; rfl, Below.refl _ _⟩
      · intro f w1 hb ⟨h74, h75, _⟩
        replace h74 : f 74 = _ := h74
        replace h75 : f 75 = _ := h75
        refine ⟨fun _ => ?_, fun hg => absurd h74 hg⟩
        intro K hK
        have hn2 := HN2.out
        simp only [over, overL, Nat.reduceAdd, h74, h75]
        go_simp
        exact hK _ _ ⟨_, rfl, by simp only [over, overL, Nat.reduceAdd, h74, h75]; rfl, Below.refl _ _⟩
      · intro f w1 hb ⟨h74, h76, _⟩
        replace h74 : f 74 = _ := h74
        replace h76 : f 76 = _ := h76
        refine ⟨fun _ => ?_, fun hg => absurd h74 hg⟩
        intro K hK
        have q0 := cell_later hb HP0.out
        have q1 := cell_later hb HP1.out
        have q2 := cell_later hb HP2.out
        simp only [over, overL, Nat.reduceAdd, h74, h76]
        go_simp
        exact hK _ _ ⟨_, rfl, by simp only [over, overL, Nat.reduceAdd, h74, h76]; rfl, Below.refl _ _⟩
      · intro f w1 hb ⟨h74, _⟩
        replace h74 : f 74 = _ := h74
        refine ⟨fun _ => ?_, fun hg => absurd h74 hg⟩
        intro K hK
        have q0 := (KP.out.later hb).c 0 rfl
        have q1 := (KP.out.later hb).c 1 rfl
        have q2 := (KP.out.later hb).c 2 rfl
        simp only [over, overL, Nat.reduceAdd, h74]
        go_simp
        exact hK _ _ ⟨_, rfl, by simp only [over, overL, Nat.reduceAdd, h74]; rfl, Below.refl _ _⟩
      · intro f w1 hb ⟨h74, h77, h78, _⟩
        replace h74 : f 74 = _ := h74
        replace h77 : f 77 = _ := h77
        replace h78 : f 78 = _ := h78
        refine ⟨fun _ => ?_, fun hg => absurd h74 hg⟩
        intro K hK
        simp only [over, overL, Nat.reduceAdd, h74, h77, h78]
        refine wp_binop rfl (by go_simp) (pt_neq_self p w1) ?_
        exact hK _ _ ⟨_, rfl, by simp only [over, overL, Nat.reduceAdd, h74, h77, h78], Below.refl _ _⟩
      · intro f w1 hb ⟨h74, h79, _⟩ K hK
        replace h74 : f 74 = _ := h74
        replace h79 : f 79 = _ := h79
        simp only [over, overL, Nat.reduceAdd, h74, h79]
        go_simp
        exact hK _ _ ⟨_, rfl, by simp only [over, overL, Nat.reduceAdd, h74, h79]; rfl, Below.refl _ _⟩
      · intro f w1 hb ⟨h80, _⟩ K hK
        replace h80 : f 80 = _ := h80
        simp only [over, overL, Nat.reduceAdd, h80]
        go_simp
        exact hK _ _ ⟨_, rfl, by simp only [over, overL, Nat.reduceAdd, h80]; rfl, Below.refl _ _⟩
      · intro f w1 hb ⟨h81, _⟩
        replace h81 : f 81 = _ := h81
        refine ⟨fun _ => ?_, fun hg => absurd h81 hg⟩
        intro K hK
        simp only [over, overL, Nat.reduceAdd, h81]
        go_simp
        exact hK _ _ ⟨_, rfl, by simp only [over, overL, Nat.reduceAdd, h81]; rfl, Below.refl _ _⟩
      · intro f w1 hb ⟨h81, _⟩
        replace h81 : f 81 = _ := h81
        refine ⟨fun _ => ?_, fun hg => absurd h81 hg⟩
        intro K hK
        simp only [over, overL, Nat.reduceAdd, h81]
        go_simp
        exact hK _ _ ⟨_, rfl, by simp only [over, overL, Nat.reduceAdd, h81]; rfl, Below.refl _ _⟩
      · intro f w1 hb ⟨h81, h83, _⟩
        replace h81 : f 81 = _ := h81
        replace h83 : f 83 = _ := h83
        refine ⟨fun _ => ?_, fun hg => absurd h81 hg⟩
        intro K hK
        simp only [over, overL, Nat.reduceAdd, h81, h83]
        go_simp
        exact hK _ _ ⟨_, rfl, by simp only [over, overL, Nat.reduceAdd, h81, h83]; rfl, Below.refl _ _⟩
      · intro f w1 hb ⟨h81, h84, _⟩
        replace h81 : f 81 = _ := h81
        replace h84 : f 84 = _ := h84
        refine ⟨fun _ => ?_, fun hg => absurd h81 hg⟩
        intro K hK
        simp only [over, overL, Nat.reduceAdd, h81, h84]
        go_simp
        exact hK _ _ ⟨_, HV.out, by simp only [over, overL, Nat.reduceAdd, h81, h84]; rfl, Below.refl _ _⟩
      · intro f w1 hb ⟨h81, h82, h85, _⟩
        replace h81 : f 81 = _ := h81
        replace h82 : f 82 = _ := h82
        replace h85 : f 85 = _ := h85
        refine ⟨fun _ => ?_, fun hg => absurd h81 hg⟩
        intro K hK
        have hn3 := HN3.out
        simp only [over, overL, Nat.reduceAdd, h81, h82, h85]
        go_simp
        exact hK _ _ ⟨_, rfl, by simp only [over, overL, Nat.reduceAdd, h81, h82, h85]; rfl, Below.refl _ _⟩
      · intro f w1 hb ⟨h81, h86, _⟩
        replace h81 : f 81 = _ := h81
        replace h86 : f 86 = _ := h86
        refine ⟨fun _ => ?_, fun hg => absurd h81 hg⟩
        intro K hK
        have q0 := cell_later hb HQ0.out
        have q1 := cell_later hb HQ1.out
        have q2 := cell_later hb HQ2.out
        simp only [over, overL, Nat.reduceAdd, h81, h86]
        go_simp
        exact hK _ _ ⟨_, rfl, by simp only [over, overL, Nat.reduceAdd, h81, h86]; rfl, Below.refl _ _⟩
      · intro f w1 hb ⟨h81, _⟩
        replace h81 : f 81 = _ := h81
        refine ⟨fun _ => ?_, fun hg => absurd h81 hg⟩
        intro K hK
        have q0 := (KQ.out.later hb).c 0 rfl
        have q1 := (KQ.out.later hb).c 1 rfl
        have q2 := (KQ.out.later hb).c 2 rfl
        simp only [over, overL, Nat.reduceAdd, h81]
        go_simp
        exact hK _ _ ⟨_, rfl, by simp only [over, overL, Nat.reduceAdd, h81]; rfl, Below.refl _ _⟩
      · intro f w1 hb ⟨h81, h87, h88, _⟩
        replace h81 : f 81 = _ := h81
        replace h87 : f 87 = _ := h87
        replace h88 : f 88 = _ := h88
        refine ⟨fun _ => ?_, fun hg => absurd h81 hg⟩
        intro K hK
        simp only [over, overL, Nat.reduceAdd, h81, h87, h88]
        refine wp_binop rfl (by go_simp) (pt_neq_self q w1) ?_
        exact hK _ _ ⟨_, rfl, by simp only [over, overL, Nat.reduceAdd, h81, h87, h88], Below.refl _ _⟩
      · intro f w1 hb ⟨h81, h89, _⟩ K hK
        replace h81 : f 81 = _ := h81
        replace h89 : f 89 = _ := h89
        simp only [over, overL, Nat.reduceAdd, h81, h89]
        go_simp
        exact hK _ _ ⟨_, rfl, by simp only [over, overL, Nat.reduceAdd, h81, h89]; rfl, Below.refl _ _⟩
    intro f w7 hb hv
    have h90 : f 90 = _ := hv.2.2.2.2.2.2.2.2.2.2.2.2.2.2.2.2.2.2.2.2.2.2.2.2.2.2.2.2.2.2.2.1
    have HB7 : Hid (Below w6.heap.size w6 w7) := hb
    clear hv hb HP0 HP1 HP2 HQ0 HQ1 HQ2 HV HN1 HN2 HN3
    simp only [over_eq, overL, h90, Nat.reduceAdd]
    clear h90
    have p0 := (KP.out.later HB7.out).c 0 rfl
    have p1 := (KP.out.later HB7.out).c 1 rfl
    have p2 := (KP.out.later HB7.out).c 2 rfl
    go_wp2_with fail
    go_loopw [16, 17] (fun x i wr => ∃ (k : Nat) (hi : Int), k ≤ l.length ∧ x = .int .i64 hi ∧ i = .int .i64 k ∧ hi ≤ h ∧ -10000000 ≤ hi ∧ (∀ y ∈ l.take k, y.z ≤ hi) ∧ Below w6.heap.size w6 wr) (fun _ i _ => l.length - (intOf i).toNat)
    case atStart => exact ⟨0, p.z, Nat.zero_le _, rfl, rfl, by omega, by omega, (fun y hy => by simp at hy), HB7.out⟩
    case round =>
      clear p0 p1 p2
      obtain ⟨k, hi, hk, rfl, rfl, hih, hil, hall, hbr⟩ := hrel
      have HAL : Hid (∀ y ∈ l.take k, y.z ≤ hi) := hall
      have HBr : Hid (Below w6.heap.size w6 wr) := hbr
      clear hall hbr
      by_cases hlt : k < l.length
      · obtain ⟨b', off', e3, _, c0, c1, c2⟩ := (HPN6.out.next HBr.out).at hlt
        injection e3 with e3
        injection e3 with e3 e4
        subst e3 e4
        have HMX : Hid ((l[k]'hlt).z ≤ h) := HHG.out.1 _ (List.getElem_mem hlt)
        have HNR : Hid (-10000000 ≤ (l[k]'hlt).z) := by
          have := nearP_iff.1 (plan_near HPP.out _ (List.getElem_mem hlt))
          show _ ≤ _
          omega
        have HTS : Hid (l.take (k + 1) = l.take k ++ [l[k]'hlt]) := List.take_succ_eq_append_getElem hlt
        generalize l[k]'hlt = y at *
        have hki : (k : Int) < (l.length : Int) := by omega
        by_cases hgt : hi < y.z
        · have HG2 : Hid (hi < y.z) := hgt
          go_wp2
          go_roundw
          case rel =>
            refine ⟨k + 1, y.z, by omega, rfl, by go_num, HMX.out, HNR.out, fun x hx => ?_, HBr.out⟩
            have hg2 := HG2.out
            rw [HTS.out] at hx
            rcases List.mem_append.1 hx with hx | hx
            · have := HAL.out x hx; omega
            · simp at hx; subst hx; exact Int.le_refl _
          case measure => simp [intOf]; omega
        · have HG2 : Hid (y.z ≤ hi) := by show _ ≤ _; omega
          go_wp2
          go_roundw
          case rel =>
            refine ⟨k + 1, hi, by omega, rfl, by go_num, hih, hil, fun x hx => ?_, HBr.out⟩
            rw [HTS.out] at hx
            rcases List.mem_append.1 hx with hx | hx
            · exact HAL.out x hx
            · simp at hx; subst hx; exact HG2.out
          case measure => simp [intOf]; omega
      · have ehi : hi = h := by
          obtain ⟨y, hy, hyz⟩ := HHG.out.2
          have := HAL.out y (by rw [List.take_of_length_le (by omega)]; exact hy)
          omega
        subst ehi
        have p0 := (KP.out.later HBr.out).c 0 rfl
        have p1 := (KP.out.later HBr.out).c 1 rfl
        have p2 := (KP.out.later HBr.out).c 2 rfl
        have q0 := (KQ.out.later HBr.out).c 0 rfl
        have q1 := (KQ.out.later HBr.out).c 1 rfl
        have q2 := (KQ.out.later HBr.out).c 2 rfl
        by_cases hx : q.x - p.x < 0
        · have Hx : Hid (absI (q.x - p.x) = -(q.x - p.x)) := by show _ = _; unfold absI; omega
          by_cases hy : q.y - p.y < 0
          · have Hy : Hid (absI (q.y - p.y) = -(q.y - p.y)) := by show _ = _; unfold absI; omega
            go_wp2
            go_ret
            refine ⟨ret_bool ?_, HB6.out.trans (HBr.out.mono HB6.out.size)⟩
            rw [beq_iff_eq]
            have hs := HSM.out
            rw [Hx.out, Hy.out] at hs
            omega
          · have Hy : Hid (absI (q.y - p.y) = q.y - p.y) := by show _ = _; unfold absI; omega
            go_wp2
            go_ret
            refine ⟨ret_bool ?_, HB6.out.trans (HBr.out.mono HB6.out.size)⟩
            rw [beq_iff_eq]
            have hs := HSM.out
            rw [Hx.out, Hy.out] at hs
            omega
        · have Hx : Hid (absI (q.x - p.x) = q.x - p.x) := by show _ = _; unfold absI; omega
          by_cases hy : q.y - p.y < 0
          · have Hy : Hid (absI (q.y - p.y) = -(q.y - p.y)) := by show _ = _; unfold absI; omega
            go_wp2
            go_ret
            refine ⟨ret_bool ?_, HB6.out.trans (HBr.out.mono HB6.out.size)⟩
            rw [beq_iff_eq]
            have hs := HSM.out
            rw [Hx.out, Hy.out] at hs
            omega
          · have Hy : Hid (absI (q.y - p.y) = q.y - p.y) := by show _ = _; unfold absI; omega
            go_wp2
            go_ret
            refine ⟨ret_bool ?_, HB6.out.trans (HBr.out.mono HB6.out.size)⟩
            rw [beq_iff_eq]
            have hs := HSM.out
            rw [Hx.out, Hy.out] at hs
            omega
end Go.Proofs.Ytgelbndbkmedlaa.S
