/- PathJoins' law walked. -/
import Derived.Test.YtgelbndbkmedlaaPTG
namespace Go.Proofs.Ytgelbndbkmedlaa.S
open Go.RowKit

set_option linter.unusedVariables false in
def js13V (b off n cap nx capx ny capy nn m B : Nat) (aox aoy : Option Addr) (sm lx ly : Int) (p r : Pt) (d : Nat) (v : Value) (_ : World) : Prop :=
  match d with
  | 90 => v = .int .i64 0
  | 91 => v = .bool true
  | 92 => v = .bool true
  | 93 => v = .int .i64 0
  | 94 => v = .bool true
  | 95 => v = .bool true
  | 96 => v = .bool true
  | 97 => v = .int .i64 0
  | 98 => v = .bool true
  | 99 => v = .bool true
  | 100 => v = .bool true
  | 101 => v = .int .i64 0
  | 102 => v = .bool true
  | 103 => v = .bool true
  | 104 => v = .bool true
  | 105 => v = .int .i64 sm
  | 106 => v = .int .i64 lx
  | 107 => v = .int .i64 ly
  | 108 => v = .int .i64 sm
  | 109 => v = .bool true
  | 110 => v = .bool true
  | 111 => v = .bool true
  | 112 => v = .int .i64 0
  | 113 => v = .bool true
  | 114 => v = .bool true
  | 115 => v = .bool true
  | 116 => v = .int .i64 (-1)
  | 117 => v = .bool true
  | 118 => v = .bool true
  | 119 => v = .bool true
  | 120 => v = .slice (some ⟨b, off, none⟩) n cap
  | 121 => v = .int .i64 (n : Int)
  | 122 => v = .slice aox nx capx
  | 123 => v = .int .i64 (nx : Int)
  | 124 => v = .slice aoy ny capy
  | 125 => v = .int .i64 (ny : Int)
  | 126 => v = .int .i64 (nn : Int)
  | 127 => v = .bool true
  | 128 => v = .bool true
  | 129 => v = .bool true
  | 130 => v = .slice (some ⟨b, off, none⟩) n cap
  | 131 => v = .pointer (some ⟨b, off, none⟩)
  | 132 => v = pv p
  | 133 => v = pv p
  | 134 => v = .bool true
  | 135 => v = .bool true
  | 136 => v = .bool true
  | 137 => v = .slice (some ⟨b, off, none⟩) n cap
  | 138 => v = .slice (some ⟨b, off, none⟩) n cap
  | 139 => v = .int .i64 (n : Int)
  | 140 => v = .int .i64 (m : Int)
  | 141 => v = .pointer (some ⟨b, off + m * 3, none⟩)
  | 142 => v = pv r
  | 143 => v = pv r
  | 144 => v = .bool true
  | 145 => v = .bool true
  | 10 => v = .bool true
  | _ => True
set_option linter.unusedVariables false in
theorem js13V_mono (b off n cap nx capx ny capy nn m B : Nat) (aox aoy : Option Addr) (sm lx ly : Int) (p r : Pt) (d : Nat) (v : Value) (w w' : World) (h : js13V b off n cap nx capx ny capy nn m B aox aoy sm lx ly p r d v w) (_ : Below w.heap.size w w') : js13V b off n cap nx capx ny capy nn m B aox aoy sm lx ly p r d v w' := h
theorem leq_yes {x y : Int} (h : x ≤ y) (W : World) : (binOp .leq 3 (.int .i64 x) (.int .i64 y)).run Try.prog W = .ok (.bool true) W := by
  have hd : decide (x ≤ y) = true := decide_eq_true h
  go_simp
  try exact hd
theorem int_eql_self (x : Int) (W : World) : (binOp .eql 3 (.int .i64 x) (.int .i64 x)).run Try.prog W = .ok (.bool true) W := by
  go_simp
theorem pt_eql_self (p : Pt) (W : World) : (binOp .eql 24 (pv p) (pv p)).run Try.prog W = .ok (.bool true) W := by
  rw [pt_eql, eqP_iff.2 rfl]
theorem plan_join {d : List Sit} {t : Bx} {p q r : Pt} {x y : List Pt} {hx hy : Int} (h1 : PlanP d t p q x hx) (h2 : PlanP d t q r y hy) (aoX aoY : Option Addr) (capX capY : Nat) (L : List Pt) (hL : L = (x ++ y).foldl stp []) (w : World) (hA : Pns w aoX x) (hC : Pns w aoY y) :
    Calls Try.prog 15 #[.slice aoX x.length capX, .slice aoY y.length capY] w fun e w' => ∃ ao' cap', e = .returned (.tuple #[.slice ao' L.length cap', .int .i64 0]) ∧ Pns w' ao' L ∧ Below w.heap.size w w' := by
  have l1 := plan_len h1
  have l2 := plan_len h2
  rw [hL]
  exact join_ok aoX aoY capX capY x y w hA hC (plan_near h1) (plan_near h2) (by omega) (by omega) (by omega) (slant_no (plan_turns h1)) (slant_no (plan_turns h2)) (by rw [plan_head h2, plan_last h1 (by omega)])
set_option maxHeartbeats 6400000 in
set_option maxRecDepth 100000 in
theorem joins_any (ao : Option Addr) (cap : Nat) (d : List Sit) (t : Bx) (p q r : Pt) (w : World) (hD : Dk w ao cap d) :
    Calls Try.prog 6 #[.slice ao d.length cap, bv t, pv p, pv q, pv r] w fun e w' => e = .returned (.bool true) ∧ Below w.heap.size w w' := by
  have HD : Hid (Dk w ao cap d) := hD
  clear hD
  obtain ⟨w0, hw0⟩ : ∃ x, x = (((w.alloc (bo t)).alloc (po p)).alloc (po q)).alloc (po r) := ⟨_, rfl⟩
  have q1 : ∀ (x : World) (o : Obj), Below x.heap.size x (x.alloc o) := fun x o => (Below.refl _ _).alloc (Nat.le_refl _) _
  have KT0 : Hid (Bk w.heap.size (bcl t) w0) := by show Bk _ _ _; rw [hw0]; exact (((Bk.new w (bcl t) 26 _ rfl).later (q1 _ _)).later (q1 _ _)).later (q1 _ _)
  have KP0 : Hid (Bk (w.heap.size + 1) (pcl p) w0) := by show Bk _ _ _; rw [hw0]; exact ((Bk.new _ (pcl p) 24 _ (by simp)).later (q1 _ _)).later (q1 _ _)
  have KQ0 : Hid (Bk (w.heap.size + 2) (pcl q) w0) := by show Bk _ _ _; rw [hw0]; exact (Bk.new _ (pcl q) 24 _ (by simp)).later (q1 _ _)
  have KR0 : Hid (Bk (w.heap.size + 3) (pcl r) w0) := by show Bk _ _ _; rw [hw0]; exact Bk.new _ (pcl r) 24 _ (by simp)
  have HB0 : Hid (Below w.heap.size w w0) := by show Below _ _ _; rw [hw0]; exact ((((Below.refl _ _).alloc (Nat.le_refl _) _).alloc (by simp) _).alloc (by simp; omega) _).alloc (by simp; omega) _
  have HW0 : Hid (w0 = (((w.alloc (bo t)).alloc (po p)).alloc (po q)).alloc (po r)) := hw0
  clear hw0 q1
  go_enter Try.func6, Try.ntmps6
  go_wp2_with fail
  rw [← HW0.out]
  refine Calls.mono (two_any w0) ?_
  rintro e w1 ⟨ao2, cap2, rfl, hb1⟩
  have HB1 : Hid (Below w.heap.size w w1) := HB0.out.trans (hb1.mono HB0.out.size)
  have KT1 : Hid (Bk w.heap.size (bcl t) w1) := KT0.out.later hb1
  have KP1 : Hid (Bk (w.heap.size + 1) (pcl p) w1) := KP0.out.later hb1
  have KQ1 : Hid (Bk (w.heap.size + 2) (pcl q) w1) := KQ0.out.later hb1
  have KR1 : Hid (Bk (w.heap.size + 3) (pcl r) w1) := KR0.out.later hb1
  clear hb1 KT0 KP0 KQ0 KR0
  have t0 := (KT1.out).c 0 rfl
  have t1 := (KT1.out).c 1 rfl
  have t2 := (KT1.out).c 2 rfl
  have t3 := (KT1.out).c 3 rfl
  have t4 := (KT1.out).c 4 rfl
  have t5 := (KT1.out).c 5 rfl
  have p0 := (KP1.out).c 0 rfl
  have p1 := (KP1.out).c 1 rfl
  have p2 := (KP1.out).c 2 rfl
  have q0 := (KQ1.out).c 0 rfl
  have q1 := (KQ1.out).c 1 rfl
  have q2 := (KQ1.out).c 2 rfl
  go_wp2_with fail
  refine Calls.mono (plan_any ao cap d t p q w1 (HD.out.next HB1.out)) ?_
  rintro e w2 ⟨v, e1, rfl, hpr, hb2⟩
  have HB2 : Hid (Below w.heap.size w w2) := HB1.out.trans (hb2.mono HB1.out.size)
  have KT2 : Hid (Bk w.heap.size (bcl t) w2) := KT1.out.later hb2
  have KP2 : Hid (Bk (w.heap.size + 1) (pcl p) w2) := KP1.out.later hb2
  have KQ2 : Hid (Bk (w.heap.size + 2) (pcl q) w2) := KQ1.out.later hb2
  have KR2 : Hid (Bk (w.heap.size + 3) (pcl r) w2) := KR1.out.later hb2
  have HPR : Hid (PlanR d t p q v e1 w2) := hpr
  clear hb2 hpr KT1 KP1 KQ1 KR1 t0 t1 t2 t3 t4 t5 p0 p1 p2 q0 q1 q2
  have t0 := (KT2.out).c 0 rfl
  have t1 := (KT2.out).c 1 rfl
  have t2 := (KT2.out).c 2 rfl
  have t3 := (KT2.out).c 3 rfl
  have t4 := (KT2.out).c 4 rfl
  have t5 := (KT2.out).c 5 rfl
  have q0 := (KQ2.out).c 0 rfl
  have q1 := (KQ2.out).c 1 rfl
  have q2 := (KQ2.out).c 2 rfl
  have r0 := (KR2.out).c 0 rfl
  have r1 := (KR2.out).c 1 rfl
  have r2 := (KR2.out).c 2 rfl
  go_wp2_with fail
  refine Calls.mono (plan_any ao cap d t q r w2 (HD.out.next HB2.out)) ?_
  rintro e w3 ⟨v', e2, rfl, hpr2, hb3⟩
  have HB3 : Hid (Below w.heap.size w w3) := HB2.out.trans (hb3.mono HB2.out.size)
  have KT3 : Hid (Bk w.heap.size (bcl t) w3) := KT2.out.later hb3
  have KP3 : Hid (Bk (w.heap.size + 1) (pcl p) w3) := KP2.out.later hb3
  have KQ3 : Hid (Bk (w.heap.size + 2) (pcl q) w3) := KQ2.out.later hb3
  have KR3 : Hid (Bk (w.heap.size + 3) (pcl r) w3) := KR2.out.later hb3
  have HB23 : Hid (Below w2.heap.size w2 w3) := hb3
  clear hb3 KT2 KP2 KQ2 KR2 t0 t1 t2 t3 t4 t5 q0 q1 q2 r0 r1 r2
  rcases HPR.out with ⟨he, hv0, _⟩ | ⟨he, x, hx, aoX, capX, hv0, _, hpnx, hpx, _⟩
  · have hne : (e1 != 0) = true := by simp [he]
    clear he hpr2 HPR
    go_wp2
    go_ret
    exact ⟨rfl, HB3.out⟩
  subst he
  subst hv0
  clear HPR
  rcases hpr2 with ⟨he, rfl, _⟩ | ⟨rfl, y, hy, aoY, capY, rfl, _, hpny, hpy, _⟩
  · have hne : (e2 != 0) = true := by simp [he]
    clear he
    go_wp2
    go_ret
    exact ⟨rfl, HB3.out⟩
  · obtain ⟨L, hL⟩ : ∃ L, L = (x ++ y).foldl stp [] := ⟨_, rfl⟩
    obtain ⟨hck, hlg, hln, h0L, hL0, hLl⟩ := joined hpx hpy hL
    have l1 := plan_len hpx
    have l2 := plan_len hpy
    obtain ⟨x1, x5⟩ := l1
    obtain ⟨y1, y5⟩ := l2
    have HJN : Hid (∀ W, Pns W aoX x → Pns W aoY y → Calls Try.prog 15 #[.slice aoX x.length capX, .slice aoY y.length capY] W fun e w' => ∃ ao' cap', e = .returned (.tuple #[.slice ao' L.length cap', .int .i64 0]) ∧ Pns w' ao' L ∧ Below W.heap.size W w') := fun W h1 h2 => plan_join hpx hpy aoX aoY capX capY L hL W h1 h2
    have HLX : Hid (∀ W, Pns W aoX x → Calls Try.prog 14 #[.slice aoX x.length capX] W fun e w' => e = .returned (.tuple #[.int .i64 (longL x), .int .i64 0]) ∧ Below W.heap.size W w') := fun W h2 => by
      have := long_any aoX capX x W h2 (by omega)
      rw [plan_long hpx] at this
      exact this
    have HLY : Hid (∀ W, Pns W aoY y → Calls Try.prog 14 #[.slice aoY y.length capY] W fun e w' => e = .returned (.tuple #[.int .i64 (longL y), .int .i64 0]) ∧ Below W.heap.size W w') := fun W h2 => by
      have := long_any aoY capY y W h2 (by omega)
      rw [plan_long hpy] at this
      exact this
    have HLL : Hid (∀ aoL capL W, Pns W aoL L → Calls Try.prog 14 #[.slice aoL L.length capL] W fun e w' => e = .returned (.tuple #[.int .i64 (longL x + longL y), .int .i64 0]) ∧ Below W.heap.size W w') := fun aoL capL W h2 => by
      have := long_any aoL capL L W h2 (by omega)
      rw [hlg] at this
      exact this
    have HCK : Hid (∀ aoL capL W, Dk W ao cap d → Pns W aoL L → Calls Try.prog 12 #[.slice ao d.length cap, bv t, .slice aoL L.length capL] W fun e w' => e = .returned (.tuple #[.int .i64 (-1), .int .i64 0]) ∧ Below W.heap.size W w') := fun aoL capL W h1 h2 => by
      have := pcheck_any ao aoL cap capL d t L W h1 h2 (by omega)
      rw [hck] at this
      exact this
    have sx := plan_sum hpx
    have sy := plan_sum hpy
    have hnn := (refuse_zero hpx.ref).2.1
    have hn2 := (refuse_zero hpy.ref).2.1
    have hnp := nearP_iff.1 (hnn p (by simp))
    have hnq := nearP_iff.1 (hnn q (by simp))
    have hnr := nearP_iff.1 (hn2 r (by simp))
    have hhx := hpx.hi
    have hhy := hpy.hi
    have HIX : Hid (0 ≤ longL x ∧ longL x ≤ 100000000) := by show _ ∧ _; rw [sx]; unfold absI; omega
    have HIY : Hid (0 ≤ longL y ∧ longL y ≤ 100000000) := by show _ ∧ _; rw [sy]; unfold absI; omega
    have HPX : Hid (Pns w3 aoX x) := hpnx.next HB23.out
    have HPY : Hid (Pns w3 aoY y) := hpny
    have HL0 : Hid (L[0]'h0L = p) := hL0
    obtain ⟨m, hm⟩ : ∃ m, m = L.length - 1 := ⟨_, rfl⟩
    have hml : m < L.length := by omega
    have HLm : Hid (L[m]'hml = r) := by subst hm; exact hLl
    have HM : Hid (m = L.length - 1) := hm
    have HLN : Hid (L.length ≤ x.length + y.length) := hln
    clear hL hck hlg hL0 hLl hpnx hpny hpx hpy sx sy hnn hn2 hnp hnq hnr hhx hhy hm HB23 hln
    generalize longL x = lx at *
    generalize longL y = ly at *
    obtain ⟨sm, hsm⟩ : ∃ s, s = lx + ly := ⟨_, rfl⟩
    rw [← hsm] at HLL
    have HSM : Hid (sm = lx + ly) := hsm
    clear hsm
    go_wp2_with fail
    refine Calls.mono (HJN.out _ HPX.out HPY.out) ?_
    rintro e w4 ⟨aoL, capL, rfl, hpl, hb4⟩
    have HB4 : Hid (Below w.heap.size w w4) := HB3.out.trans (hb4.mono HB3.out.size)
    have KT4 : Hid (Bk w.heap.size (bcl t) w4) := KT3.out.later hb4
    have KP4 : Hid (Bk (w.heap.size + 1) (pcl p) w4) := KP3.out.later hb4
    have KR4 : Hid (Bk (w.heap.size + 3) (pcl r) w4) := KR3.out.later hb4
    have HPX4 : Hid (Pns w4 aoX x) := HPX.out.next hb4
    have HPY4 : Hid (Pns w4 aoY y) := HPY.out.next hb4
    have HPL4 : Hid (Pns w4 aoL L) := hpl
    clear hb4 hpl HJN HPX HPY KT3 KP3 KQ3 KR3
    go_wp2_with fail
    refine Calls.mono (HLX.out _ HPX4.out) ?_
    rintro e w5 ⟨rfl, hb5⟩
    have HB5 : Hid (Below w.heap.size w w5) := HB4.out.trans (hb5.mono HB4.out.size)
    have KT5 : Hid (Bk w.heap.size (bcl t) w5) := KT4.out.later hb5
    have KP5 : Hid (Bk (w.heap.size + 1) (pcl p) w5) := KP4.out.later hb5
    have KR5 : Hid (Bk (w.heap.size + 3) (pcl r) w5) := KR4.out.later hb5
    have HPY5 : Hid (Pns w5 aoY y) := HPY4.out.next hb5
    have HPL5 : Hid (Pns w5 aoL L) := HPL4.out.next hb5
    clear hb5 HLX HPX4 HPY4 HPL4 KT4 KP4 KR4
    go_wp2_with fail
    refine Calls.mono (HLY.out _ HPY5.out) ?_
    rintro e w6 ⟨rfl, hb6⟩
    have HB6 : Hid (Below w.heap.size w w6) := HB5.out.trans (hb6.mono HB5.out.size)
    have KT6 : Hid (Bk w.heap.size (bcl t) w6) := KT5.out.later hb6
    have KP6 : Hid (Bk (w.heap.size + 1) (pcl p) w6) := KP5.out.later hb6
    have KR6 : Hid (Bk (w.heap.size + 3) (pcl r) w6) := KR5.out.later hb6
    have HPL6 : Hid (Pns w6 aoL L) := HPL5.out.next hb6
    clear hb6 HLY HPY5 HPL5 KT5 KP5 KR5
    go_wp2_with fail
    refine Calls.mono (HLL.out _ _ _ HPL6.out) ?_
    rintro e w7 ⟨rfl, hb7⟩
    have HB7 : Hid (Below w.heap.size w w7) := HB6.out.trans (hb7.mono HB6.out.size)
    have KT7 : Hid (Bk w.heap.size (bcl t) w7) := KT6.out.later hb7
    have KP7 : Hid (Bk (w.heap.size + 1) (pcl p) w7) := KP6.out.later hb7
    have KR7 : Hid (Bk (w.heap.size + 3) (pcl r) w7) := KR6.out.later hb7
    have HPL7 : Hid (Pns w7 aoL L) := HPL6.out.next hb7
    clear hb7 HLL HPL6 KT6 KP6 KR6
    have t0 := (KT7.out).c 0 rfl
    have t1 := (KT7.out).c 1 rfl
    have t2 := (KT7.out).c 2 rfl
    have t3 := (KT7.out).c 3 rfl
    have t4 := (KT7.out).c 4 rfl
    have t5 := (KT7.out).c 5 rfl
    go_wp2_with fail
    refine Calls.mono (HCK.out _ _ _ (HD.out.next HB7.out) HPL7.out) ?_
    rintro e w8 ⟨rfl, hb8⟩
    have HB8 : Hid (Below w.heap.size w w8) := HB7.out.trans (hb8.mono HB7.out.size)
    have KT8 : Hid (Bk w.heap.size (bcl t) w8) := KT7.out.later hb8
    have KP8 : Hid (Bk (w.heap.size + 1) (pcl p) w8) := KP7.out.later hb8
    have KR8 : Hid (Bk (w.heap.size + 3) (pcl r) w8) := KR7.out.later hb8
    have HPL8 : Hid (Pns w8 aoL L) := HPL7.out.next hb8
    clear hb8 HCK HPL7 KT7 KP7 KR7 t0 t1 t2 t3 t4 t5
    have KP := KP8
    have KR := KR8
    obtain ⟨b, off, rfl, _, a0, a1, a2⟩ := HPL8.out.at h0L
    obtain ⟨b', off', e3, _, c0, c1, c2⟩ := HPL8.out.at hml
    injection e3 with e3
    injection e3 with e3 e4
    subst e3 e4
    rw [HL0.out] at a0 a1 a2
    rw [HLm.out] at c0 c1 c2
    simp only [Nat.zero_mul, Nat.add_zero] at a0 a1 a2
    have HP0 : Hid (w8.cell? ⟨b, off, none⟩ = some (.int .i64 p.x)) := a0
    have HP1 : Hid (w8.cell? ⟨b, off + 1, none⟩ = some (.int .i64 p.y)) := a1
    have HP2 : Hid (w8.cell? ⟨b, off + 2, none⟩ = some (.int .i64 p.z)) := a2
    have HQ0 : Hid (w8.cell? ⟨b, off + m * 3, none⟩ = some (.int .i64 r.x)) := c0
    have HQ1 : Hid (w8.cell? ⟨b, off + m * 3 + 1, none⟩ = some (.int .i64 r.y)) := c1
    have HQ2 : Hid (w8.cell? ⟨b, off + m * 3 + 2, none⟩ = some (.int .i64 r.z)) := c2
    obtain ⟨nn, hnn⟩ : ∃ k, k = x.length + y.length := ⟨_, rfl⟩
    have HV1 : Hid (Value.int .i64 (IntKind.i64.wrap (lx + ly)) = .int .i64 sm) := by
      show _ = _
      have h1 := HIX.out
      have h2 := HIY.out
      rw [wrap_is (by omega) (by omega), HSM.out]
    have HV2 : Hid (Value.int .i64 (IntKind.i64.wrap ((x.length : Int) + (y.length : Int))) = .int .i64 (nn : Int)) := by
      show _ = _
      rw [wrap_is (by omega) (by omega), hnn]
      congr 1
    have HV3 : Hid (Value.int .i64 (IntKind.i64.wrap ((L.length : Int) - 1)) = .int .i64 (m : Int)) := by
      show _ = _
      have h1 := HM.out
      have h2 := HLN.out
      rw [wrap_is (by omega) (by omega)]
      congr 1
      omega
    have HN1 : Hid ((L.length : Int) ≤ (nn : Int)) := by show _ ≤ _; have := HLN.out; omega
    have HN2 : Hid ((0 : Int) < (L.length : Int)) := by show _ < _; omega
    have HN3 : Hid ((m : Int) < (L.length : Int)) := by show _ < _; omega
    clear a0 a1 a2 c0 c1 c2 hnn
    go_wp2_with fail
    refine region_inv [false, false, false, false, false, false, false, false, false, false, true, false, false, false, false, false, false, false, false, false, false, false, false, false, false, false, false, false, false, false, false, false, false, false, false, false, false, false, false, false, false, false, false, false, false, false, false, false, false, false, false, false, false, false, false, false, false, false, false, false, false, false, false, false, false, false, false, false, false, false, false, false, false, false, false, false, false, false, false, false, false, false, false, false, false, false, false, false, false, false, true, true, true, true, true, true, true, true, true, true, true, true, true, true, true, true, true, true, true, true, true, true, true, true, true, true, true, true, true, true, true, true, true, true, true, true, true, true, true, true, true, true, true, true, true, true, true, true, true, true, true, true, true, true, true, true]
      [(90, [], none), (91, [90], none), (92, [91], none), (93, [92], some (92, true)), (94, [92, 93], some (92, true)), (95, [92, 94], none), (96, [95], none), (97, [96], some (96, true)), (98, [96, 97], some (96, true)), (99, [96, 98], none), (100, [99], none), (101, [100], some (100, true)), (102, [100, 101], some (100, true)), (103, [100, 102], none), (104, [103], none), (105, [104], some (104, true)), (106, [104], some (104, true)), (107, [104], some (104, true)), (108, [104, 106, 107], some (104, true)), (109, [104, 105, 108], some (104, true)), (110, [104, 109], none), (111, [110], none), (112, [111], some (111, true)), (113, [111, 112], some (111, true)), (114, [111, 113], none), (115, [114], none), (116, [115], some (115, true)), (117, [115, 116], some (115, true)), (118, [115, 117], none), (119, [118], none), (120, [119], some (119, true)), (121, [119, 120], some (119, true)), (122, [119], some (119, true)), (123, [119, 122], some (119, true)), (124, [119], some (119, true)), (125, [119, 124], some (119, true)), (126, [119, 123, 125], some (119, true)), (127, [119, 121, 126], some (119, true)), (128, [119, 127], none), (129, [128], none), (130, [129], some (129, true)), (131, [129, 130], some (129, true)), (132, [129, 131], some (129, true)), (133, [129], some (129, true)), (134, [129, 132, 133], some (129, true)), (135, [129, 134], none), (136, [135], none), (137, [136], some (136, true)), (138, [136], some (136, true)), (139, [136, 138], some (136, true)), (140, [136, 139], some (136, true)), (141, [136, 137, 140], some (136, true)), (142, [136, 141], some (136, true)), (143, [136], some (136, true)), (144, [136, 142, 143], some (136, true)), (145, [136, 144], none), (10, [145], none)]
      (js13V b off L.length capL x.length capX y.length capY nn m w.heap.size aoX aoY sm lx ly p r) (by kernel_rfl) (by kernel_rfl) (js13V_mono b off L.length capL x.length capX y.length capY nn m w.heap.size aoX aoY sm lx ly p r) ?_ ?_
    · refine ⟨?_, ?_, ?_, ?_, ?_, ?_, ?_, ?_, ?_, ?_, ?_, ?_, ?_, ?_, ?_, ?_, ?_, ?_, ?_, ?_, ?_, ?_, ?_, ?_, ?_, ?_, ?_, ?_, ?_, ?_, ?_, ?_, ?_, ?_, ?_, ?_, ?_, ?_, ?_, ?_, ?_, ?_, ?_, ?_, ?_, ?_, ?_, ?_, ?_, ?_, ?_, ?_, ?_, ?_, ?_, ?_, ?_, trivial⟩
      · intro f w1 hb _ K hK
        simp only [over, overL, Nat.reduceAdd]
        go_simp
        exact hK _ _ ⟨_, rfl, by simp only [over, overL, Nat.reduceAdd]; rfl, Below.refl _ _⟩
      · intro f w1 hb ⟨h90, _⟩ K hK
        replace h90 : f 90 = _ := h90
        simp only [over, overL, Nat.reduceAdd, h90]
        go_simp
        exact hK _ _ ⟨_, rfl, by simp only [over, overL, Nat.reduceAdd, h90]; rfl, Below.refl _ _⟩
      · intro f w1 hb ⟨h91, _⟩ K hK
        replace h91 : f 91 = _ := h91
        simp only [over, overL, Nat.reduceAdd, h91]
        go_simp
        exact hK _ _ ⟨_, rfl, by simp only [over, overL, Nat.reduceAdd, h91]; rfl, Below.refl _ _⟩
      · intro f w1 hb ⟨h92, _⟩
        replace h92 : f 92 = _ := h92
        refine ⟨fun _ => ?_, fun hg => absurd h92 hg⟩
        intro K hK
        simp only [over, overL, Nat.reduceAdd, h92]
        go_simp
        exact hK _ _ ⟨_, rfl, by simp only [over, overL, Nat.reduceAdd, h92]; rfl, Below.refl _ _⟩
      · intro f w1 hb ⟨h92, h93, _⟩
        replace h92 : f 92 = _ := h92
        replace h93 : f 93 = _ := h93
        refine ⟨fun _ => ?_, fun hg => absurd h92 hg⟩
        intro K hK
        simp only [over, overL, Nat.reduceAdd, h92, h93]
        go_simp
        exact hK _ _ ⟨_, rfl, by simp only [over, overL, Nat.reduceAdd, h92, h93]; rfl, Below.refl _ _⟩
      · intro f w1 hb ⟨h92, h94, _⟩ K hK
        replace h92 : f 92 = _ := h92
        replace h94 : f 94 = _ := h94
        simp only [over, overL, Nat.reduceAdd, h92, h94]
        go_simp
        exact hK _ _ ⟨_, rfl, by simp only [over, overL, Nat.reduceAdd, h92, h94]; rfl, Below.refl _ _⟩
      · intro f w1 hb ⟨h95, _⟩ K hK
        replace h95 : f 95 = _ := h95
        simp only [over, overL, Nat.reduceAdd, h95]
        go_simp
        exact hK _ _ ⟨_, rfl, by simp only [over, overL, Nat.reduceAdd, h95]; rfl, Below.refl _ _⟩
      · intro f w1 hb ⟨h96, _⟩
        replace h96 : f 96 = _ := h96
        refine ⟨fun _ => ?_, fun hg => absurd h96 hg⟩
        intro K hK
        simp only [over, overL, Nat.reduceAdd, h96]
        go_simp
        exact hK _ _ ⟨_, rfl, by simp only [over, overL, Nat.reduceAdd, h96]; rfl, Below.refl _ _⟩
      · intro f w1 hb ⟨h96, h97, _⟩
        replace h96 : f 96 = _ := h96
        replace h97 : f 97 = _ := h97
        refine ⟨fun _ => ?_, fun hg => absurd h96 hg⟩
        intro K hK
        simp only [over, overL, Nat.reduceAdd, h96, h97]
        go_simp
        exact hK _ _ ⟨_, rfl, by simp only [over, overL, Nat.reduceAdd, h96, h97]; rfl, Below.refl _ _⟩
      · intro f w1 hb ⟨h96, h98, _⟩ K hK
        replace h96 : f 96 = _ := h96
        replace h98 : f 98 = _ := h98
        simp only [over, overL, Nat.reduceAdd, h96, h98]
        go_simp
        exact hK _ _ ⟨_, rfl, by simp only [over, overL, Nat.reduceAdd, h96, h98]; rfl, Below.refl _ _⟩
      · intro f w1 hb ⟨h99, _⟩ K hK
        replace h99 : f 99 = _ := h99
        simp only [over, overL, Nat.reduceAdd, h99]
        go_simp
        exact hK _ _ ⟨_, rfl, by simp only [over, overL, Nat.reduceAdd, h99]; rfl, Below.refl _ _⟩
      · intro f w1 hb ⟨h100, _⟩
        replace h100 : f 100 = _ := h100
        refine ⟨fun _ => ?_, fun hg => absurd h100 hg⟩
        intro K hK
        simp only [over, overL, Nat.reduceAdd, h100]
        go_simp
        exact hK _ _ ⟨_, rfl, by simp only [over, overL, Nat.reduceAdd, h100]; rfl, Below.refl _ _⟩
      · intro f w1 hb ⟨h100, h101, _⟩
        replace h100 : f 100 = _ := h100
        replace h101 : f 101 = _ := h101
        refine ⟨fun _ => ?_, fun hg => absurd h100 hg⟩
        intro K hK
        simp only [over, overL, Nat.reduceAdd, h100, h101]
        go_simp
        exact hK _ _ ⟨_, rfl, by simp only [over, overL, Nat.reduceAdd, h100, h101]; rfl, Below.refl _ _⟩
      · intro f w1 hb ⟨h100, h102, _⟩ K hK
        replace h100 : f 100 = _ := h100
        replace h102 : f 102 = _ := h102
        simp only [over, overL, Nat.reduceAdd, h100, h102]
        go_simp
        exact hK _ _ ⟨_, rfl, by simp only [over, overL, Nat.reduceAdd, h100, h102]; rfl, Below.refl _ _⟩
      · intro f w1 hb ⟨h103, _⟩ K hK
        replace h103 : f 103 = _ := h103
        simp only [over, overL, Nat.reduceAdd, h103]
        go_simp
        exact hK _ _ ⟨_, rfl, by simp only [over, overL, Nat.reduceAdd, h103]; rfl, Below.refl _ _⟩
      · intro f w1 hb ⟨h104, _⟩
        replace h104 : f 104 = _ := h104
        refine ⟨fun _ => ?_, fun hg => absurd h104 hg⟩
        intro K hK
        simp only [over, overL, Nat.reduceAdd, h104]
        go_simp
        exact hK _ _ ⟨_, rfl, by simp only [over, overL, Nat.reduceAdd, h104]; rfl, Below.refl _ _⟩
      · intro f w1 hb ⟨h104, _⟩
        replace h104 : f 104 = _ := h104
        refine ⟨fun _ => ?_, fun hg => absurd h104 hg⟩
        intro K hK
        simp only [over, overL, Nat.reduceAdd, h104]
        go_simp
        exact hK _ _ ⟨_, rfl, by simp only [over, overL, Nat.reduceAdd, h104]; rfl, Below.refl _ _⟩
      · intro f w1 hb ⟨h104, _⟩
        replace h104 : f 104 = _ := h104
        refine ⟨fun _ => ?_, fun hg => absurd h104 hg⟩
        intro K hK
        simp only [over, overL, Nat.reduceAdd, h104]
        go_simp
        exact hK _ _ ⟨_, rfl, by simp only [over, overL, Nat.reduceAdd, h104]; rfl, Below.refl _ _⟩
      · intro f w1 hb ⟨h104, h106, h107, _⟩
        replace h104 : f 104 = _ := h104
        replace h106 : f 106 = _ := h106
        replace h107 : f 107 = _ := h107
        refine ⟨fun _ => ?_, fun hg => absurd h104 hg⟩
        intro K hK
        simp only [over, overL, Nat.reduceAdd, h104, h106, h107]
        go_simp
        exact hK _ _ ⟨_, HV1.out, by simp only [over, overL, Nat.reduceAdd, h104, h106, h107]; rfl, Below.refl _ _⟩
      · intro f w1 hb ⟨h104, h105, h108, _⟩
        replace h104 : f 104 = _ := h104
        replace h105 : f 105 = _ := h105
        replace h108 : f 108 = _ := h108
        refine ⟨fun _ => ?_, fun hg => absurd h104 hg⟩
        intro K hK
        simp only [over, overL, Nat.reduceAdd, h104, h105, h108]
        refine wp_binop rfl (by go_simp) (int_eql_self _ w1) ?_
        exact hK _ _ ⟨_, rfl, by simp only [over, overL, Nat.reduceAdd, h104, h105, h108], Below.refl _ _⟩
      · intro f w1 hb ⟨h104, h109, _⟩ K hK
        replace h104 : f 104 = _ := h104
        replace h109 : f 109 = _ := h109
        simp only [over, overL, Nat.reduceAdd, h104, h109]
        go_simp
        exact hK _ _ ⟨_, rfl, by simp only [over, overL, Nat.reduceAdd, h104, h109]; rfl, Below.refl _ _⟩
      · intro f w1 hb ⟨h110, _⟩ K hK
        replace h110 : f 110 = _ := h110
        simp only [over, overL, Nat.reduceAdd, h110]
        go_simp
        exact hK _ _ ⟨_, rfl, by simp only [over, overL, Nat.reduceAdd, h110]; rfl, Below.refl _ _⟩
      · intro f w1 hb ⟨h111, _⟩
        replace h111 : f 111 = _ := h111
        refine ⟨fun _ => ?_, fun hg => absurd h111 hg⟩
        intro K hK
        simp only [over, overL, Nat.reduceAdd, h111]
        go_simp
        exact hK _ _ ⟨_, rfl, by simp only [over, overL, Nat.reduceAdd, h111]; rfl, Below.refl _ _⟩
      · intro f w1 hb ⟨h111, h112, _⟩
        replace h111 : f 111 = _ := h111
        replace h112 : f 112 = _ := h112
        refine ⟨fun _ => ?_, fun hg => absurd h111 hg⟩
        intro K hK
        simp only [over, overL, Nat.reduceAdd, h111, h112]
        go_simp
        exact hK _ _ ⟨_, rfl, by simp only [over, overL, Nat.reduceAdd, h111, h112]; rfl, Below.refl _ _⟩
      · intro f w1 hb ⟨h111, h113, _⟩ K hK
        replace h111 : f 111 = _ := h111
        replace h113 : f 113 = _ := h113
        simp only [over, overL, Nat.reduceAdd, h111, h113]
        go_simp
        exact hK _ _ ⟨_, rfl, by simp only [over, overL, Nat.reduceAdd, h111, h113]; rfl, Below.refl _ _⟩
      · intro f w1 hb ⟨h114, _⟩ K hK
        replace h114 : f 114 = _ := h114
        simp only [over, overL, Nat.reduceAdd, h114]
        go_simp
        exact hK _ _ ⟨_, rfl, by simp only [over, overL, Nat.reduceAdd, h114]; rfl, Below.refl _ _⟩
      · intro f w1 hb ⟨h115, _⟩
        replace h115 : f 115 = _ := h115
        refine ⟨fun _ => ?_, fun hg => absurd h115 hg⟩
        intro K hK
        simp only [over, overL, Nat.reduceAdd, h115]
        go_simp
        exact hK _ _ ⟨_, rfl, by simp only [over, overL, Nat.reduceAdd, h115]; rfl, Below.refl _ _⟩
      · intro f w1 hb ⟨h115, h116, _⟩
        replace h115 : f 115 = _ := h115
        replace h116 : f 116 = _ := h116
        refine ⟨fun _ => ?_, fun hg => absurd h115 hg⟩
        intro K hK
        simp only [over, overL, Nat.reduceAdd, h115, h116]
        go_simp
        exact hK _ _ ⟨_, rfl, by simp only [over, overL, Nat.reduceAdd, h115, h116]; rfl, Below.refl _ _⟩
      · intro f w1 hb ⟨h115, h117, _⟩ K hK
        replace h115 : f 115 = _ := h115
        replace h117 : f 117 = _ := h117
        simp only [over, overL, Nat.reduceAdd, h115, h117]
        go_simp
        exact hK _ _ ⟨_, rfl, by simp only [over, overL, Nat.reduceAdd, h115, h117]; rfl, Below.refl _ _⟩
      · intro f w1 hb ⟨h118, _⟩ K hK
        replace h118 : f 118 = _ := h118
        simp only [over, overL, Nat.reduceAdd, h118]
        go_simp
        exact hK _ _ ⟨_, rfl, by simp only [over, overL, Nat.reduceAdd, h118]; rfl, Below.refl _ _⟩
      · intro f w1 hb ⟨h119, _⟩
        replace h119 : f 119 = _ := h119
        refine ⟨fun _ => ?_, fun hg => absurd h119 hg⟩
        intro K hK
        simp only [over, overL, Nat.reduceAdd, h119]
        go_simp
        exact hK _ _ ⟨_, rfl, by simp only [over, overL, Nat.reduceAdd, h119]; rfl, Below.refl _ _⟩
      · intro f w1 hb ⟨h119, h120, _⟩
        replace h119 : f 119 = _ := h119
        replace h120 : f 120 = _ := h120
        refine ⟨fun _ => ?_, fun hg => absurd h119 hg⟩
        intro K hK
        simp only [over, overL, Nat.reduceAdd, h119, h120]
        go_simp
        exact hK _ _ ⟨_, rfl, by simp only [over, overL, Nat.reduceAdd, h119, h120]; rfl, Below.refl _ _⟩
      · intro f w1 hb ⟨h119, _⟩
        replace h119 : f 119 = _ := h119
        refine ⟨fun _ => ?_, fun hg => absurd h119 hg⟩
        intro K hK
        simp only [over, overL, Nat.reduceAdd, h119]
        go_simp
        exact hK _ _ ⟨_, rfl, by simp only [over, overL, Nat.reduceAdd, h119]; rfl, Below.refl _ _⟩
      · intro f w1 hb ⟨h119, h122, _⟩
        replace h119 : f 119 = _ := h119
        replace h122 : f 122 = _ := h122
        refine ⟨fun _ => ?_, fun hg => absurd h119 hg⟩
        intro K hK
        simp only [over, overL, Nat.reduceAdd, h119, h122]
        go_simp
        exact hK _ _ ⟨_, rfl, by simp only [over, overL, Nat.reduceAdd, h119, h122]; rfl, Below.refl _ _⟩
      · intro f w1 hb ⟨h119, _⟩
        replace h119 : f 119 = _ := h119
        refine ⟨fun _ => ?_, fun hg => absurd h119 hg⟩
        intro K hK
        simp only [over, overL, Nat.reduceAdd, h119]
        go_simp
        exact hK _ _ ⟨_, rfl, by simp only [over, overL, Nat.reduceAdd, h119]; rfl, Below.refl _ _⟩
      · intro f w1 hb ⟨h119, h124, _⟩
        replace h119 : f 119 = _ := h119
        replace h124 : f 124 = _ := h124
        refine ⟨fun _ => ?_, fun hg => absurd h119 hg⟩
        intro K hK
        simp only [over, overL, Nat.reduceAdd, h119, h124]
        go_simp
        exact hK _ _ ⟨_, rfl, by simp only [over, overL, Nat.reduceAdd, h119, h124]; rfl, Below.refl _ _⟩
      · intro f w1 hb ⟨h119, h123, h125, _⟩
        replace h119 : f 119 = _ := h119
        replace h123 : f 123 = _ := h123
        replace h125 : f 125 = _ := h125
        refine ⟨fun _ => ?_, fun hg => absurd h119 hg⟩
        intro K hK
        simp only [over, overL, Nat.reduceAdd, h119, h123, h125]
        go_simp
        exact hK _ _ ⟨_, HV2.out, by simp only [over, overL, Nat.reduceAdd, h119, h123, h125]; rfl, Below.refl _ _⟩
      · intro f w1 hb ⟨h119, h121, h126, _⟩
        replace h119 : f 119 = _ := h119
        replace h121 : f 121 = _ := h121
        replace h126 : f 126 = _ := h126
        refine ⟨fun _ => ?_, fun hg => absurd h119 hg⟩
        intro K hK
        simp only [over, overL, Nat.reduceAdd, h119, h121, h126]
        refine wp_binop rfl (by go_simp) (leq_yes HN1.out w1) ?_
        exact hK _ _ ⟨_, rfl, by simp only [over, overL, Nat.reduceAdd, h119, h121, h126], Below.refl _ _⟩
      · intro f w1 hb ⟨h119, h127, _⟩ K hK
        replace h119 : f 119 = _ := h119
        replace h127 : f 127 = _ := h127
        simp only [over, overL, Nat.reduceAdd, h119, h127]
        go_simp
        exact hK _ _ ⟨_, rfl, by simp only [over, overL, Nat.reduceAdd, h119, h127]; rfl, Below.refl _ _⟩
      · intro f w1 hb ⟨h128, _⟩ K hK
        replace h128 : f 128 = _ := h128
        simp only [over, overL, Nat.reduceAdd, h128]
        go_simp
        exact hK _ _ ⟨_, rfl, by simp only [over, overL, Nat.reduceAdd, h128]; rfl, Below.refl _ _⟩
      · intro f w1 hb ⟨h129, _⟩
        replace h129 : f 129 = _ := h129
        refine ⟨fun _ => ?_, fun hg => absurd h129 hg⟩
        intro K hK
        simp only [over, overL, Nat.reduceAdd, h129]
        go_simp
        exact hK _ _ ⟨_, rfl, by simp only [over, overL, Nat.reduceAdd, h129]; rfl, Below.refl _ _⟩
      · intro f w1 hb ⟨h129, h130, _⟩
        replace h129 : f 129 = _ := h129
        replace h130 : f 130 = _ := h130
        refine ⟨fun _ => ?_, fun hg => absurd h129 hg⟩
        intro K hK
        have hn2 := HN2.out
        simp only [over, overL, Nat.reduceAdd, h129, h130]
        go_simp
        exact hK _ _ ⟨_, rfl, by simp only [over, overL, Nat.reduceAdd, h129, h130]; rfl, Below.refl _ _⟩
      · intro f w1 hb ⟨h129, h131, _⟩
        replace h129 : f 129 = _ := h129
        replace h131 : f 131 = _ := h131
        refine ⟨fun _ => ?_, fun hg => absurd h129 hg⟩
        intro K hK
        have q0 := cell_later hb HP0.out
        have q1 := cell_later hb HP1.out
        have q2 := cell_later hb HP2.out
        simp only [over, overL, Nat.reduceAdd, h129, h131]
        go_simp
        exact hK _ _ ⟨_, rfl, by simp only [over, overL, Nat.reduceAdd, h129, h131]; rfl, Below.refl _ _⟩
      · intro f w1 hb ⟨h129, _⟩
        replace h129 : f 129 = _ := h129
        refine ⟨fun _ => ?_, fun hg => absurd h129 hg⟩
        intro K hK
        have q0 := (KP.out.later hb).c 0 rfl
        have q1 := (KP.out.later hb).c 1 rfl
        have q2 := (KP.out.later hb).c 2 rfl
        simp only [over, overL, Nat.reduceAdd, h129]
        go_simp
        exact hK _ _ ⟨_, rfl, by simp only [over, overL, Nat.reduceAdd, h129]; rfl, Below.refl _ _⟩
      · intro f w1 hb ⟨h129, h132, h133, _⟩
        replace h129 : f 129 = _ := h129
        replace h132 : f 132 = _ := h132
        replace h133 : f 133 = _ := h133
        refine ⟨fun _ => ?_, fun hg => absurd h129 hg⟩
        intro K hK
        simp only [over, overL, Nat.reduceAdd, h129, h132, h133]
        refine wp_binop rfl (by go_simp) (pt_eql_self _ w1) ?_
        exact hK _ _ ⟨_, rfl, by simp only [over, overL, Nat.reduceAdd, h129, h132, h133], Below.refl _ _⟩
      · intro f w1 hb ⟨h129, h134, _⟩ K hK
        replace h129 : f 129 = _ := h129
        replace h134 : f 134 = _ := h134
        simp only [over, overL, Nat.reduceAdd, h129, h134]
        go_simp
        exact hK _ _ ⟨_, rfl, by simp only [over, overL, Nat.reduceAdd, h129, h134]; rfl, Below.refl _ _⟩
      · intro f w1 hb ⟨h135, _⟩ K hK
        replace h135 : f 135 = _ := h135
        simp only [over, overL, Nat.reduceAdd, h135]
        go_simp
        exact hK _ _ ⟨_, rfl, by simp only [over, overL, Nat.reduceAdd, h135]; rfl, Below.refl _ _⟩
      · intro f w1 hb ⟨h136, _⟩
        replace h136 : f 136 = _ := h136
        refine ⟨fun _ => ?_, fun hg => absurd h136 hg⟩
        intro K hK
        simp only [over, overL, Nat.reduceAdd, h136]
        go_simp
        exact hK _ _ ⟨_, rfl, by simp only [over, overL, Nat.reduceAdd, h136]; rfl, Below.refl _ _⟩
      · intro f w1 hb ⟨h136, _⟩
        replace h136 : f 136 = _ := h136
        refine ⟨fun _ => ?_, fun hg => absurd h136 hg⟩
        intro K hK
        simp only [over, overL, Nat.reduceAdd, h136]
        go_simp
        exact hK _ _ ⟨_, rfl, by simp only [over, overL, Nat.reduceAdd, h136]; rfl, Below.refl _ _⟩
      · intro f w1 hb ⟨h136, h138, _⟩
        replace h136 : f 136 = _ := h136
        replace h138 : f 138 = _ := h138
        refine ⟨fun _ => ?_, fun hg => absurd h136 hg⟩
        intro K hK
        simp only [over, overL, Nat.reduceAdd, h136, h138]
        go_simp
        exact hK _ _ ⟨_, rfl, by simp only [over, overL, Nat.reduceAdd, h136, h138]; rfl, Below.refl _ _⟩
      · intro f w1 hb ⟨h136, h139, _⟩
        replace h136 : f 136 = _ := h136
        replace h139 : f 139 = _ := h139
        refine ⟨fun _ => ?_, fun hg => absurd h136 hg⟩
        intro K hK
        simp only [over, overL, Nat.reduceAdd, h136, h139]
        go_simp
        exact hK _ _ ⟨_, HV3.out, by simp only [over, overL, Nat.reduceAdd, h136, h139]; rfl, Below.refl _ _⟩
      · intro f w1 hb ⟨h136, h137, h140, _⟩
        replace h136 : f 136 = _ := h136
        replace h137 : f 137 = _ := h137
        replace h140 : f 140 = _ := h140
        refine ⟨fun _ => ?_, fun hg => absurd h136 hg⟩
        intro K hK
        have hn3 := HN3.out
        simp only [over, overL, Nat.reduceAdd, h136, h137, h140]
        go_simp
        exact hK _ _ ⟨_, rfl, by simp only [over, overL, Nat.reduceAdd, h136, h137, h140]; rfl, Below.refl _ _⟩
      · intro f w1 hb ⟨h136, h141, _⟩
        replace h136 : f 136 = _ := h136
        replace h141 : f 141 = _ := h141
        refine ⟨fun _ => ?_, fun hg => absurd h136 hg⟩
        intro K hK
        have q0 := cell_later hb HQ0.out
        have q1 := cell_later hb HQ1.out
        have q2 := cell_later hb HQ2.out
        simp only [over, overL, Nat.reduceAdd, h136, h141]
        go_simp
        exact hK _ _ ⟨_, rfl, by simp only [over, overL, Nat.reduceAdd, h136, h141]; rfl, Below.refl _ _⟩
      · intro f w1 hb ⟨h136, _⟩
        replace h136 : f 136 = _ := h136
        refine ⟨fun _ => ?_, fun hg => absurd h136 hg⟩
        intro K hK
        have q0 := (KR.out.later hb).c 0 rfl
        have q1 := (KR.out.later hb).c 1 rfl
        have q2 := (KR.out.later hb).c 2 rfl
        simp only [over, overL, Nat.reduceAdd, h136]
        go_simp
        exact hK _ _ ⟨_, rfl, by simp only [over, overL, Nat.reduceAdd, h136]; rfl, Below.refl _ _⟩
      · intro f w1 hb ⟨h136, h142, h143, _⟩
        replace h136 : f 136 = _ := h136
        replace h142 : f 142 = _ := h142
        replace h143 : f 143 = _ := h143
        refine ⟨fun _ => ?_, fun hg => absurd h136 hg⟩
        intro K hK
        simp only [over, overL, Nat.reduceAdd, h136, h142, h143]
        refine wp_binop rfl (by go_simp) (pt_eql_self _ w1) ?_
        exact hK _ _ ⟨_, rfl, by simp only [over, overL, Nat.reduceAdd, h136, h142, h143], Below.refl _ _⟩
      · intro f w1 hb ⟨h136, h144, _⟩ K hK
        replace h136 : f 136 = _ := h136
        replace h144 : f 144 = _ := h144
        simp only [over, overL, Nat.reduceAdd, h136, h144]
        go_simp
        exact hK _ _ ⟨_, rfl, by simp only [over, overL, Nat.reduceAdd, h136, h144]; rfl, Below.refl _ _⟩
      · intro f w1 hb ⟨h145, _⟩ K hK
        replace h145 : f 145 = _ := h145
        simp only [over, overL, Nat.reduceAdd, h145]
        go_simp
        exact hK _ _ ⟨_, rfl, by simp only [over, overL, Nat.reduceAdd, h145]; rfl, Below.refl _ _⟩
    intro f w9 hb hv
    have h10 : f 10 = _ := hv.2.2.2.2.2.2.2.2.2.2.2.2.2.2.2.2.2.2.2.2.2.2.2.2.2.2.2.2.2.2.2.2.2.2.2.2.2.2.2.2.2.2.2.2.2.2.2.2.2.2.2.2.2.2.2.2.1
    have HB9 : Hid (Below w.heap.size w w9) := HB8.out.trans (hb.mono HB8.out.size)
    clear hv hb
    simp only [over_eq, overL, h10, Nat.reduceAdd]
    clear h10
    go_wp2
    go_ret
    exact ⟨rfl, HB9.out⟩
end Go.Proofs.Ytgelbndbkmedlaa.S
