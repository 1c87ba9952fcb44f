/- PulseSums walked. -/
import Derived.Test.YtanmfhaiahhoeaaQM
import Derived.Deep.Cut
import Derived.Deep.CutRange
namespace Go.Proofs.Ytanmfhaiahhoeaa
open Go.RowKit

theorem en20 : ∀ args w, (callFunc 20 args).run Try.prog w = .ok (.enter 20 args) w := enters_of Try.func20 (by kernel_rfl) rfl
set_option maxHeartbeats 6400000 in
set_option maxRecDepth 100000 in
theorem near_any (a f n t : Int) (b : Nat) (w : World) (hc : w.cell? ⟨b, 0, none⟩ = some (.int .i64 n)) (ha1 : -400 ≤ a) (ha2 : a ≤ 400) (hf1 : -400 ≤ f) (hf2 : f ≤ 400) (hn1 : 0 ≤ n) (hn2 : n ≤ 400) (ht1 : 0 ≤ t) (ht2 : t ≤ 400) (hN : nearP a f n t = true) :
    Calls Try.prog 20 #[.int .i64 a, .int .i64 f, .int .i64 t, ptr b] w fun e w' => e = .returned (.bool true) ∧ w' = w := by
  have m1 : -160000 ≤ a * n ∧ a * n ≤ 160000 := by
    constructor
    · have h1 := Int.mul_le_mul_of_nonneg_right ha1 hn1
      have h2 : -400 * n ≥ -160000 := by omega
      omega
    · have h1 := Int.mul_le_mul_of_nonneg_right ha2 hn1
      omega
  have m2 : -160000 ≤ f * t ∧ f * t ≤ 160000 := by
    constructor
    · have h1 := Int.mul_le_mul_of_nonneg_right hf1 ht1
      omega
    · have h1 := Int.mul_le_mul_of_nonneg_right hf2 ht1
      omega
  unfold nearP at hN
  obtain ⟨q1, q2⟩ := Bool.and_eq_true_iff.1 hN
  have q3 := of_decide_eq_true q1
  have q4 := of_decide_eq_true q2
  obtain ⟨m11, m12⟩ := m1
  obtain ⟨m21, m22⟩ := m2
  clear hN q1 q2 ha1 ha2 hf1 hf2 ht1 ht2
  go_enter Try.func20, Try.ntmps20
  go_wp2
  go_ret
  exact ⟨rfl, rfl⟩
set_option linter.unusedVariables false in
def ps19V (X Y Z : Int) (B G E n k : Nat) (d : Nat) (v : Value) (_ : World) : Prop :=
  match d with
  | 109 => v = .func (.func 20) #[] #[ptr E]
  | 110 => v = .slice (some ⟨G, 0, none⟩) n n
  | 111 => v = .int .i64 (k : Nat)
  | 112 => v = .pointer (some ⟨G, k * 3, none⟩)
  | 113 => v = .pointer (some ⟨G, k * 3, none⟩)
  | 114 => v = .int .i64 (made X n (k + 1))
  | 115 => v = .pointer (some ⟨B, 0, none⟩)
  | 116 => v = .int .i64 X
  | 117 => v = .int .i64 (k : Nat)
  | 118 => v = .int .i64 ((k : Int) + 1)
  | 119 => v = .bool true
  | 120 => v = .bool false
  | 121 => v = .bool false
  | 122 => v = .func (.func 20) #[] #[ptr E]
  | 123 => v = .slice (some ⟨G, 0, none⟩) n n
  | 124 => v = .int .i64 (k : Nat)
  | 125 => v = .pointer (some ⟨G, k * 3, none⟩)
  | 126 => v = .pointer (some ⟨G, k * 3 + 1, none⟩)
  | 127 => v = .int .i64 (made Y n (k + 1))
  | 128 => v = .pointer (some ⟨B, 1, none⟩)
  | 129 => v = .int .i64 Y
  | 130 => v = .int .i64 (k : Nat)
  | 131 => v = .int .i64 ((k : Int) + 1)
  | 132 => v = .bool true
  | 133 => v = .bool false
  | 134 => v = .bool false
  | 135 => v = .bool false
  | 136 => v = .func (.func 20) #[] #[ptr E]
  | 137 => v = .slice (some ⟨G, 0, none⟩) n n
  | 138 => v = .int .i64 (k : Nat)
  | 139 => v = .pointer (some ⟨G, k * 3, none⟩)
  | 140 => v = .pointer (some ⟨G, k * 3 + 2, none⟩)
  | 141 => v = .int .i64 (made Z n (k + 1))
  | 142 => v = .pointer (some ⟨B, 2, none⟩)
  | 143 => v = .int .i64 Z
  | 144 => v = .int .i64 (k : Nat)
  | 145 => v = .int .i64 ((k : Int) + 1)
  | 146 => v = .bool true
  | 147 => v = .bool false
  | 148 => v = .bool false
  | _ => True
set_option linter.unusedVariables false in
theorem ps19V_mono (X Y Z : Int) (B G E n k : Nat) (d : Nat) (v : Value) (w w' : World) (h : ps19V X Y Z B G E n k d v w) (_ : Below w.heap.size w w') : ps19V X Y Z B G E n k d v w' := h
set_option maxHeartbeats 6400000 in
set_option maxRecDepth 100000 in
theorem pulseSums_any (x y z : Int) (w : World) (hx1 : -9223372036854775808 ≤ x) (hx2 : x ≤ 9223372036854775807) (hy1 : -9223372036854775808 ≤ y) (hy2 : y ≤ 9223372036854775807) (hz1 : -9223372036854775808 ≤ z) (hz2 : z ≤ 9223372036854775807) :
    Calls Try.prog 4 #[.int .i64 x, .int .i64 y, .int .i64 z] w fun e w' => e = .returned (.bool true) ∧ Below w.heap.size w w' := by
  have HX : Hid (∀ W, Calls Try.prog 19 #[.int .i64 x, .int .i64 400] W fun e w' => (∃ v, e = .returned (.int .i64 v) ∧ 0 ≤ v ∧ v ≤ 399) ∧ w' = W) := fun W => picked_any x W hx1 hx2
  have HY : Hid (∀ W, Calls Try.prog 19 #[.int .i64 y, .int .i64 400] W fun e w' => (∃ v, e = .returned (.int .i64 v) ∧ 0 ≤ v ∧ v ≤ 399) ∧ w' = W) := fun W => picked_any y W hy1 hy2
  have HZ : Hid (∀ W, Calls Try.prog 19 #[.int .i64 z, .int .i64 400] W fun e w' => (∃ v, e = .returned (.int .i64 v) ∧ 0 ≤ v ∧ v ≤ 399) ∧ w' = W) := fun W => picked_any z W hz1 hz2
  have H42 : Hid (∀ W, Calls Try.prog 7 #[v3 4 2 0] W fun e w' => ∃ G, e = .returned (.tuple #[.slice (some ⟨G, 0, none⟩) 4 4, .int .i64 0]) ∧ Ints [3, 1, 3, 1] G w' ∧ Below W.heap.size W w') := line42
  have hmf : ∀ (fn : Fn) (first cap : Array Value) (w : World), (Instr.makeFunc fn first cap).run Try.prog w = .ok (.func fn first cap) w := fun _ _ _ _ => rfl
  clear hx1 hx2 hy1 hy2 hz1 hz2
  go_enter Try.func4, Try.ntmps4
  go_wp2_with fail
  refine (HX.out _).mono ?_
  rintro e w1 ⟨⟨a, rfl, a1, a2⟩, hw⟩
  rw [hw]
  clear hw w1
  go_wp2_with fail
  refine (HY.out _).mono ?_
  rintro e w1 ⟨⟨b, rfl, b1, b2⟩, hw⟩
  rw [hw]
  clear hw w1
  go_wp2_with fail
  refine (HZ.out _).mono ?_
  rintro e w1 ⟨⟨c, rfl, c1, c2⟩, hw⟩
  rw [hw]
  clear hw w1
  obtain ⟨B, hB⟩ : ∃ B, B = w.heap.size := ⟨_, rfl⟩
  obtain ⟨w1, hw1⟩ : ∃ w1, w1 = w.alloc (o3 a b c 23) := ⟨_, rfl⟩
  go_upto_if 27 with fail
  simp only [← hB]
  rw [← hw1]
  have KB1 : Hid (Bk B [.int .i64 a, .int .i64 b, .int .i64 c] w1) := by show Bk _ _ _; rw [hw1, hB]; exact Bk.new w [.int .i64 a, .int .i64 b, .int .i64 c] 23 _ rfl
  have HB1 : Hid (Below w.heap.size w w1) := by show Below _ _ _; rw [hw1]; exact (Below.refl _ _).alloc (Nat.le_refl _) _
  have hwB : w.heap.size ≤ B := by omega
  clear hw1 hB
  go_cut [] from 28 to 31 (fun wc => ∃ X : Int, -399 ≤ X ∧ X ≤ 399 ∧ Bk B [.int .i64 X, .int .i64 b, .int .i64 c] wc ∧ Below w.heap.size w wc)
  case first =>
    have r0 := KB1.out.c 0 rfl
    have f0 := KB1.out.f 0 rfl
    go_wp2
    · go_meet
      exact ⟨-a, by omega, by omega, KB1.out.put 0 _, HB1.out.setCell hwB _⟩
    · go_meet
      exact ⟨a, by omega, by omega, KB1.out, HB1.out⟩
  case rest =>
  obtain ⟨X, X1, X2, hk, hb⟩ := hcut
  have KBX : Hid (Bk B [.int .i64 X, .int .i64 b, .int .i64 c] wc) := hk
  have HBX : Hid (Below w.heap.size w wc) := hb
  clear hk hb
  obtain ⟨wX, hww⟩ : ∃ q : World, q = wc := ⟨_, rfl⟩
  subst hww
  go_upto_if 33 with fail
  go_cut [] from 34 to 37 (fun wc => ∃ Y : Int, -399 ≤ Y ∧ Y ≤ 399 ∧ Bk B [.int .i64 X, .int .i64 Y, .int .i64 c] wc ∧ Below w.heap.size w wc)
  case first =>
    have r0 := KBX.out.c 1 rfl
    have f0 := KBX.out.f 1 rfl
    go_wp2
    · go_meet
      exact ⟨-b, by omega, by omega, KBX.out.put 1 _, HBX.out.setCell hwB _⟩
    · go_meet
      exact ⟨b, by omega, by omega, KBX.out, HBX.out⟩
  case rest =>
  obtain ⟨Y, Y1, Y2, hk, hb⟩ := hcut
  have KBY : Hid (Bk B [.int .i64 X, .int .i64 Y, .int .i64 c] wc) := hk
  have HBY : Hid (Below w.heap.size w wc) := hb
  clear hk hb
  obtain ⟨wY, hww⟩ : ∃ q : World, q = wc := ⟨_, rfl⟩
  subst hww
  go_upto_if 39 with fail
  go_cut [] from 40 to 43 (fun wc => ∃ Z : Int, -399 ≤ Z ∧ Z ≤ 399 ∧ Bk B [.int .i64 X, .int .i64 Y, .int .i64 Z] wc ∧ Below w.heap.size w wc)
  case first =>
    have r0 := KBY.out.c 2 rfl
    have f0 := KBY.out.f 2 rfl
    go_wp2
    · go_meet
      exact ⟨-c, by omega, by omega, KBY.out.put 2 _, HBY.out.setCell hwB _⟩
    · go_meet
      exact ⟨c, by omega, by omega, KBY.out, HBY.out⟩
  case rest =>
  obtain ⟨Z, Z1, Z2, hk, hb⟩ := hcut
  have KBZ : Hid (Bk B [.int .i64 X, .int .i64 Y, .int .i64 Z] wc) := hk
  have HBZ : Hid (Below w.heap.size w wc) := hb
  clear hk hb
  obtain ⟨wZ, hww⟩ : ∃ q : World, q = wc := ⟨_, rfl⟩
  subst hww
  clear HX HY HZ
  have hm : mv X Y Z = true := mv_iff.2 (by omega)
  obtain ⟨n, hn⟩ : ∃ n, n = lg X Y Z := ⟨_, rfl⟩
  have hn2 : n ≤ 399 := by rw [hn]; unfold lg; omega
  obtain ⟨L, hL⟩ : ∃ L, L = lineL X Y Z := ⟨_, rfl⟩
  have HLL : Hid (L.length = n) := by show _ = _; rw [hL, lineL_length, hn]
  have HLA : Hid (∀ W, Calls Try.prog 7 #[v3 X Y Z] W fun e w' => ∃ G, e = .returned (.tuple #[.slice (some ⟨G, 0, none⟩) n n, .int .i64 0]) ∧ Ints L G w' ∧ Below W.heap.size W w') := fun W => by
    rw [hn, hL]
    exact (line_yes X Y Z W hm).mono fun e w' ⟨G, h1, h2, h3, h4⟩ => ⟨G, h1, h3, h4⟩
  have hrf : refuP L = 0 := by rw [hL]; exact line_refu hm
  have HSU : Hid (∀ G W, Ints L G W → Calls Try.prog 8 #[.slice (some ⟨G, 0, none⟩) n n] W fun e w' => e = .returned (.tuple #[v3 X Y Z, .int .i64 0]) ∧ Below W.heap.size W w') := fun G W h => by
    have h1 := sum_ok (some ⟨G, 0, none⟩) n L W (RdI.of_ints h) hrf
    rw [show plc L L.length = ⟨X, Y, Z⟩ by rw [hL, lineL_length]; exact line_end X Y Z, HLL.out] at h1
    exact h1
  have HPL : Hid (∀ G W, Ints L G W → Calls Try.prog 10 #[.slice (some ⟨G, 0, none⟩) n n] W fun e w' => ∃ G2, e = .returned (.tuple #[.slice (some ⟨G2, 0, none⟩) n n, .int .i64 0]) ∧ Pnts (placesL L) G2 w' ∧ Below W.heap.size W w') := fun G W h => by
    have h1 := places_ok (some ⟨G, 0, none⟩) n L W (RdI.of_ints h) hrf
    rw [HLL.out] at h1
    exact h1.mono fun e w' ⟨G, h1, h2, h3, h4⟩ => ⟨G, h1, h3, h4⟩
  have HAT : Hid (∀ k, k < n → ∀ h : k < (placesL L).length, (placesL L)[k]'h = ⟨made X n (k + 1), made Y n (k + 1), made Z n (k + 1)⟩) := fun k hk h => by
    rw [placesL_at, hL, hn]
    exact line_plc _ (by omega)
  have HPN : Hid ((placesL L).length = n) := by show _ = _; rw [placesL_length, HLL.out]
  clear hn hL hrf hm
  have r0 := KBZ.out.c 0 rfl
  have r1 := KBZ.out.c 1 rfl
  have r2 := KBZ.out.c 2 rfl
  go_wp2_with fail
  refine (HLA.out _).mono ?_
  rintro e w2 ⟨G1, rfl, hi, hb2⟩
  have HI2 : Hid (Ints L G1 w2) := hi
  have KB2 : Hid (Bk B [.int .i64 X, .int .i64 Y, .int .i64 Z] w2) := KBZ.out.later hb2
  have HB2 : Hid (Below w.heap.size w w2) := HBZ.out.trans (hb2.mono HBZ.out.size)
  clear hi hb2 r0 r1 r2
  go_wp2_with fail
  refine (HSU.out G1 _ HI2.out).mono ?_
  rintro e w3 ⟨rfl, hb3⟩
  have HI3 : Hid (Ints L G1 w3) := HI2.out.later hb3
  have KB3 : Hid (Bk B [.int .i64 X, .int .i64 Y, .int .i64 Z] w3) := KB2.out.later hb3
  have HB3 : Hid (Below w.heap.size w w3) := HB2.out.trans (hb3.mono HB2.out.size)
  clear hb3
  go_upto_region 10 with fail
  obtain ⟨S, hS⟩ : ∃ S, S = w3.heap.size := ⟨_, rfl⟩
  obtain ⟨w4, hw4⟩ : ∃ q, q = w3.alloc (o3 X Y Z 23) := ⟨_, rfl⟩
  have hb4 : Below w3.heap.size w3 w4 := by rw [hw4]; exact (Below.refl _ _).alloc (Nat.le_refl _) _
  have KS4 : Hid (Bk S [.int .i64 X, .int .i64 Y, .int .i64 Z] w4) := by show Bk _ _ _; rw [hw4, hS]; exact Bk.new w3 [.int .i64 X, .int .i64 Y, .int .i64 Z] 23 _ rfl
  have HI4 : Hid (Ints L G1 w4) := HI3.out.later hb4
  have KB4 : Hid (Bk B [.int .i64 X, .int .i64 Y, .int .i64 Z] w4) := KB3.out.later hb4
  have HB4 : Hid (Below w.heap.size w w4) := HB3.out.trans (hb4.mono HB3.out.size)
  try rw [← hw4]
  try simp only [← hS]
  clear hb4 hw4 hS
  go_wp2_with fail
  refine (HPL.out G1 _ HI4.out).mono ?_
  rintro e w5 ⟨G2, rfl, hp, hb5⟩
  have HP5 : Hid (Pnts (placesL L) G2 w5) := hp
  have KB5 : Hid (Bk B [.int .i64 X, .int .i64 Y, .int .i64 Z] w5) := KB4.out.later hb5
  have KS5 : Hid (Bk S [.int .i64 X, .int .i64 Y, .int .i64 Z] w5) := KS4.out.later hb5
  have HB5 : Hid (Below w.heap.size w w5) := HB4.out.trans (hb5.mono HB4.out.size)
  clear hb5 hp
  go_wp2_with fail
  refine (H42.out _).mono ?_
  rintro e w6 ⟨G3, rfl, hi3, hb6⟩
  have HP6 : Hid (Pnts (placesL L) G2 w6) := HP5.out.later hb6
  have KB6 : Hid (Bk B [.int .i64 X, .int .i64 Y, .int .i64 Z] w6) := KB5.out.later hb6
  have KS6 : Hid (Bk S [.int .i64 X, .int .i64 Y, .int .i64 Z] w6) := KS5.out.later hb6
  have HB6 : Hid (Below w.heap.size w w6) := HB5.out.trans (hb6.mono HB5.out.size)
  have t0 : w6.cell? ⟨G3, 0, none⟩ = some (.int .i64 3) := hi3.2 0 (by decide)
  have r0 := KB6.out.c 0 rfl
  have r1 := KB6.out.c 1 rfl
  have r2 := KB6.out.c 2 rfl
  have s0 := KS6.out.c 0 rfl
  have s1 := KS6.out.c 1 rfl
  have s2 := KS6.out.c 2 rfl
  clear hi3 hb6
  go_upto_region 14 with fail
  clear r0 r1 r2 s0 s1 s2 t0
  obtain ⟨E, hE⟩ : ∃ E, E = w6.heap.size := ⟨_, rfl⟩
  obtain ⟨w7, hw7⟩ : ∃ q, q = w6.alloc (.cells #[.int .i64 (n : Nat)] 3) := ⟨_, rfl⟩
  have hb7 : Below w6.heap.size w6 w7 := by rw [hw7]; exact (Below.refl _ _).alloc (Nat.le_refl _) _
  have KE : Hid (Bk E [.int .i64 (n : Nat)] w7) := by show Bk _ _ _; rw [hw7, hE]; exact Bk.new w6 [.int .i64 (n : Nat)] 3 _ rfl
  have HP7 : Hid (Pnts (placesL L) G2 w7) := HP6.out.later hb7
  have KB7 : Hid (Bk B [.int .i64 X, .int .i64 Y, .int .i64 Z] w7) := KB6.out.later hb7
  have HB7 : Hid (Below w.heap.size w w7) := HB6.out.trans (hb7.mono HB6.out.size)
  clear hb7
  go_wp2_with fail
  try rw [← hw7]
  try simp only [← hE]
  clear hw7 hE hmf
  go_loopw [18] (fun i wr => ∃ k : Nat, k ≤ n ∧ i = .int .i64 k ∧ Below w7.heap.size w7 wr) (fun i _ => n - (intOf i).toNat)
  case atStart => exact ⟨0, Nat.zero_le _, rfl, Below.refl _ _⟩
  case round =>
    obtain ⟨k, hk, rfl, hb⟩ := hrel
    have HBr : Hid (Below w7.heap.size w7 wr) := hb
    have e0 : wr.cell? ⟨E, 0, none⟩ = some (.int .i64 (n : Nat)) := (KE.out.later hb).c 0 rfl
    clear hb
    by_cases hlt : k < n
    · have KB : Hid (Bk B [.int .i64 X, .int .i64 Y, .int .i64 Z] wr) := KB7.out.later HBr.out
      have hpn : k < (placesL L).length := by rw [HPN.out]; exact hlt
      obtain ⟨p0, p1, p2⟩ := (HP7.out.later HBr.out).2 k hpn
      rw [HAT.out k hlt hpn] at p0 p1 p2
      have WK : Hid (Value.int .i64 (IntKind.i64.wrap ((k : Int) + 1)) = .int .i64 ((k : Int) + 1)) := by show _ = _; rw [wrap_in (by omega) (by omega)]
      have HNX : Hid (∀ w1, Below wr.heap.size wr w1 → Calls Try.prog 20 #[.int .i64 (made X n (k + 1)), .int .i64 X, .int .i64 ((k : Int) + 1), ptr E] w1 fun e w' => e = .returned (.bool true) ∧ w' = w1) := fun w1 hb => by
        have hmi := made_in X n (k + 1) hlt
        exact near_any _ _ (n : Nat) _ E w1 (cell_later hb e0) (by omega) (by omega) (by omega) (by omega) (by omega) (by omega) (by omega) (by omega) (line_near X n k hlt)
      have HNY : Hid (∀ w1, Below wr.heap.size wr w1 → Calls Try.prog 20 #[.int .i64 (made Y n (k + 1)), .int .i64 Y, .int .i64 ((k : Int) + 1), ptr E] w1 fun e w' => e = .returned (.bool true) ∧ w' = w1) := fun w1 hb => by
        have hmi := made_in Y n (k + 1) hlt
        exact near_any _ _ (n : Nat) _ E w1 (cell_later hb e0) (by omega) (by omega) (by omega) (by omega) (by omega) (by omega) (by omega) (by omega) (line_near Y n k hlt)
      have HNZ : Hid (∀ w1, Below wr.heap.size wr w1 → Calls Try.prog 20 #[.int .i64 (made Z n (k + 1)), .int .i64 Z, .int .i64 ((k : Int) + 1), ptr E] w1 fun e w' => e = .returned (.bool true) ∧ w' = w1) := fun w1 hb => by
        have hmi := made_in Z n (k + 1) hlt
        exact near_any _ _ (n : Nat) _ E w1 (cell_later hb e0) (by omega) (by omega) (by omega) (by omega) (by omega) (by omega) (by omega) (by omega) (line_near Z n k hlt)
      have eg := en20
      clear hpn
      go_wp2_with fail
      refine region_inv [false, false, false, false, false, false, false, false, false, false, false, false, false, false, false, false, false, false, false, false, false, false, false, false, false, false, false, false, false, false, false, false, false, false, false, false, false, false, false, false, false, false, false, false, false, false, false, false, false, false, false, false, false, false, false, false, false, false, false, false, false, false, false, false, false, false, false, false, false, false, false, false, false, false, false, false, false, false, false, false, false, false, false, false, false, false, false, false, false, false, false, false, false, false, false, false, false, false, false, false, false, false, false, false, false, false, false, false, false, true, true, true, true, true, true, true, true, true, true, true, true, true, true, true, true, true, true, true, true, true, true, true, true, true, true, true, true, true, true, true, true, true, true, true, true, true, true, true, true]
        [(109, [], none), (110, [], none), (111, [], none), (112, [110, 111], none), (113, [112], none), (114, [113], none), (115, [], none), (116, [115], none), (117, [], none), (118, [117], none), (119, [109, 114, 116, 118], none), (120, [119], none), (121, [120], none), (122, [121], some (121, false)), (123, [121], some (121, false)), (124, [121], some (121, false)), (125, [121, 123, 124], some (121, false)), (126, [121, 125], some (121, false)), (127, [121, 126], some (121, false)), (128, [121], some (121, false)), (129, [121, 128], some (121, false)), (130, [121], some (121, false)), (131, [121, 130], some (121, false)), (132, [121, 122, 127, 129, 131], some (121, false)), (133, [121, 132], some (121, false)), (134, [121, 133], none), (135, [134], none), (136, [135], some (135, false)), (137, [135], some (135, false)), (138, [135], some (135, false)), (139, [135, 137, 138], some (135, false)), (140, [135, 139], some (135, false)), (141, [135, 140], some (135, false)), (142, [135], some (135, false)), (143, [135, 142], some (135, false)), (144, [135], some (135, false)), (145, [135, 144], some (135, false)), (146, [135, 136, 141, 143, 145], some (135, false)), (147, [135, 146], some (135, false)), (148, [135, 147], none)]
        (ps19V X Y Z B G2 E n k) (by kernel_rfl) (by kernel_rfl) (ps19V_mono X Y Z B G2 E n k) ?_ ?_
      · refine ⟨?_, ?_, ?_, ?_, ?_, ?_, ?_, ?_, ?_, ?_, ?_, ?_, ?_, ?_, ?_, ?_, ?_, ?_, ?_, ?_, ?_, ?_, ?_, ?_, ?_, ?_, ?_, ?_, ?_, ?_, ?_, ?_, ?_, ?_, ?_, ?_, ?_, ?_, ?_, ?_, trivial⟩
        · intro f w1 hb _ K hK
          simp only [over, overL, Nat.reduceAdd]
          go_simp
          exact hK _ _ ⟨_, rfl, by simp only [over, overL, Nat.reduceAdd]; rfl, Below.refl _ _⟩
        · intro f w1 hb _ K hK
          simp only [over, overL, Nat.reduceAdd]
          go_simp
          exact hK _ _ ⟨_, rfl, by simp only [over, overL, Nat.reduceAdd]; rfl, Below.refl _ _⟩
        · intro f w1 hb _ K hK
          simp only [over, overL, Nat.reduceAdd]
          go_simp
          exact hK _ _ ⟨_, rfl, by simp only [over, overL, Nat.reduceAdd]; rfl, Below.refl _ _⟩
        · intro f w1 hb ⟨h110, h111, _⟩ K hK
          replace h110 : f 110 = _ := h110
          replace h111 : f 111 = _ := h111
          simp only [over, overL, Nat.reduceAdd, h110, h111]
          go_simp
          exact hK _ _ ⟨_, rfl, by simp only [over, overL, Nat.reduceAdd, h110, h111]; rfl, Below.refl _ _⟩
        · intro f w1 hb ⟨h112, _⟩ K hK
          replace h112 : f 112 = _ := h112
          simp only [over, overL, Nat.reduceAdd, h112]
          go_simp
          exact hK _ _ ⟨_, rfl, by simp only [over, overL, Nat.reduceAdd, h112]; rfl, Below.refl _ _⟩
        · intro f w1 hb ⟨h113, _⟩ K hK
          replace h113 : f 113 = _ := h113
          have q := cell_later hb p0
          simp only [over, overL, Nat.reduceAdd, h113]
          go_simp
          exact hK _ _ ⟨_, rfl, by simp only [over, overL, Nat.reduceAdd, h113]; rfl, Below.refl _ _⟩
        · intro f w1 hb _ K hK
          simp only [over, overL, Nat.reduceAdd]
          go_simp
          exact hK _ _ ⟨_, rfl, by simp only [over, overL, Nat.reduceAdd]; rfl, Below.refl _ _⟩
        · intro f w1 hb ⟨h115, _⟩ K hK
          replace h115 : f 115 = _ := h115
          have q := (KB.out.later hb).c 0 rfl
          simp only [over, overL, Nat.reduceAdd, h115]
          go_simp
          exact hK _ _ ⟨_, rfl, by simp only [over, overL, Nat.reduceAdd, h115]; rfl, Below.refl _ _⟩
        · intro f w1 hb _ K hK
          simp only [over, overL, Nat.reduceAdd]
          go_simp
          exact hK _ _ ⟨_, rfl, by simp only [over, overL, Nat.reduceAdd]; rfl, Below.refl _ _⟩
        · intro f w1 hb ⟨h117, _⟩ K hK
          replace h117 : f 117 = _ := h117
          simp only [over, overL, Nat.reduceAdd, h117]
          go_simp
          exact hK _ _ ⟨_, WK.out, by simp only [over, overL, Nat.reduceAdd, h117]; rfl, Below.refl _ _⟩
        · intro f w1 hb ⟨h109, h114, h116, h118, _⟩ K hK
          replace h109 : f 109 = _ := h109
          replace h114 : f 114 = _ := h114
          replace h116 : f 116 = _ := h116
          replace h118 : f 118 = _ := h118
          simp only [over, overL, Nat.reduceAdd, h109, h114, h116, h118]
          go_simp
          refine (HNX.out w1 hb).mono ?_
          rintro e w2 ⟨rfl, hw2⟩
          exact hK _ _ ⟨_, rfl, by simp only [over, overL, Nat.reduceAdd, h109, h114, h116, h118]; rfl, hw2 ▸ Below.refl _ _⟩
        · intro f w1 hb ⟨h119, _⟩ K hK
          replace h119 : f 119 = _ := h119
          simp only [over, overL, Nat.reduceAdd, h119]
          go_simp
          exact hK _ _ ⟨_, rfl, by simp only [over, overL, Nat.reduceAdd, h119]; rfl, Below.refl _ _⟩
        · intro f w1 hb ⟨h120, _⟩ K hK
          replace h120 : f 120 = _ := h120
          simp only [over, overL, Nat.reduceAdd, h120]
          go_simp
          exact hK _ _ ⟨_, rfl, by simp only [over, overL, Nat.reduceAdd, h120]; rfl, Below.refl _ _⟩
        · intro f w1 hb ⟨h121, _⟩
          replace h121 : f 121 = _ := h121
          refine ⟨fun _ => ?_, fun hg => absurd h121 hg⟩
          intro K hK
          simp only [over, overL, Nat.reduceAdd, h121]
          go_simp
          exact hK _ _ ⟨_, rfl, by simp only [over, overL, Nat.reduceAdd, h121]; rfl, Below.refl _ _⟩
        · intro f w1 hb ⟨h121, _⟩
          replace h121 : f 121 = _ := h121
          refine ⟨fun _ => ?_, fun hg => absurd h121 hg⟩
          intro K hK
          simp only [over, overL, Nat.reduceAdd, h121]
          go_simp
          exact hK _ _ ⟨_, rfl, by simp only [over, overL, Nat.reduceAdd, h121]; rfl, Below.refl _ _⟩
        · intro f w1 hb ⟨h121, _⟩
          replace h121 : f 121 = _ := h121
          refine ⟨fun _ => ?_, fun hg => absurd h121 hg⟩
          intro K hK
          simp only [over, overL, Nat.reduceAdd, h121]
          go_simp
          exact hK _ _ ⟨_, rfl, by simp only [over, overL, Nat.reduceAdd, h121]; rfl, Below.refl _ _⟩
        · intro f w1 hb ⟨h121, h123, h124, _⟩
          replace h121 : f 121 = _ := h121
          replace h123 : f 123 = _ := h123
          replace h124 : f 124 = _ := h124
          refine ⟨fun _ => ?_, fun hg => absurd h121 hg⟩
          intro K hK
          simp only [over, overL, Nat.reduceAdd, h121, h123, h124]
          go_simp
          exact hK _ _ ⟨_, rfl, by simp only [over, overL, Nat.reduceAdd, h121, h123, h124]; rfl, Below.refl _ _⟩
        · intro f w1 hb ⟨h121, h125, _⟩
          replace h121 : f 121 = _ := h121
          replace h125 : f 125 = _ := h125
          refine ⟨fun _ => ?_, fun hg => absurd h121 hg⟩
          intro K hK
          simp only [over, overL, Nat.reduceAdd, h121, h125]
          go_simp
          exact hK _ _ ⟨_, rfl, by simp only [over, overL, Nat.reduceAdd, h121, h125]; rfl, Below.refl _ _⟩
        · intro f w1 hb ⟨h121, h126, _⟩
          replace h121 : f 121 = _ := h121
          replace h126 : f 126 = _ := h126
          refine ⟨fun _ => ?_, fun hg => absurd h121 hg⟩
          intro K hK
          have q := cell_later hb p1
          simp only [over, overL, Nat.reduceAdd, h121, h126]
          go_simp
          exact hK _ _ ⟨_, rfl, by simp only [over, overL, Nat.reduceAdd, h121, h126]; rfl, Below.refl _ _⟩
        · intro f w1 hb ⟨h121, _⟩
          replace h121 : f 121 = _ := h121
          refine ⟨fun _ => ?_, fun hg => absurd h121 hg⟩
          intro K hK
          simp only [over, overL, Nat.reduceAdd, h121]
          go_simp
          exact hK _ _ ⟨_, rfl, by simp only [over, overL, Nat.reduceAdd, h121]; rfl, Below.refl _ _⟩
        · intro f w1 hb ⟨h121, h128, _⟩
          replace h121 : f 121 = _ := h121
          replace h128 : f 128 = _ := h128
          refine ⟨fun _ => ?_, fun hg => absurd h121 hg⟩
          intro K hK
          have q := (KB.out.later hb).c 1 rfl
          simp only [over, overL, Nat.reduceAdd, h121, h128]
          go_simp
          exact hK _ _ ⟨_, rfl, by simp only [over, overL, Nat.reduceAdd, h121, h128]; rfl, Below.refl _ _⟩
        · intro f w1 hb ⟨h121, _⟩
          replace h121 : f 121 = _ := h121
          refine ⟨fun _ => ?_, fun hg => absurd h121 hg⟩
          intro K hK
          simp only [over, overL, Nat.reduceAdd, h121]
          go_simp
          exact hK _ _ ⟨_, rfl, by simp only [over, overL, Nat.reduceAdd, h121]; rfl, Below.refl _ _⟩
        · intro f w1 hb ⟨h121, h130, _⟩
          replace h121 : f 121 = _ := h121
          replace h130 : f 130 = _ := h130
          refine ⟨fun _ => ?_, fun hg => absurd h121 hg⟩
          intro K hK
          simp only [over, overL, Nat.reduceAdd, h121, h130]
          go_simp
          exact hK _ _ ⟨_, WK.out, by simp only [over, overL, Nat.reduceAdd, h121, h130]; rfl, Below.refl _ _⟩
        · intro f w1 hb ⟨h121, h122, h127, h129, h131, _⟩
          replace h121 : f 121 = _ := h121
          replace h122 : f 122 = _ := h122
          replace h127 : f 127 = _ := h127
          replace h129 : f 129 = _ := h129
          replace h131 : f 131 = _ := h131
          refine ⟨fun _ => ?_, fun hg => absurd h121 hg⟩
          intro K hK
          simp only [over, overL, Nat.reduceAdd, h121, h122, h127, h129, h131]
          go_simp
          refine (HNY.out w1 hb).mono ?_
          rintro e w2 ⟨rfl, hw2⟩
          exact hK _ _ ⟨_, rfl, by simp only [over, overL, Nat.reduceAdd, h121, h122, h127, h129, h131]; rfl, hw2 ▸ Below.refl _ _⟩
        · intro f w1 hb ⟨h121, h132, _⟩
          replace h121 : f 121 = _ := h121
          replace h132 : f 132 = _ := h132
          refine ⟨fun _ => ?_, fun hg => absurd h121 hg⟩
          intro K hK
          simp only [over, overL, Nat.reduceAdd, h121, h132]
          go_simp
          exact hK _ _ ⟨_, rfl, by simp only [over, overL, Nat.reduceAdd, h121, h132]; rfl, Below.refl _ _⟩
        · intro f w1 hb ⟨h121, h133, _⟩ K hK
          replace h121 : f 121 = _ := h121
          replace h133 : f 133 = _ := h133
          simp only [over, overL, Nat.reduceAdd, h121, h133]
          go_simp
          exact hK _ _ ⟨_, rfl, by simp only [over, overL, Nat.reduceAdd, h121, h133]; rfl, Below.refl _ _⟩
        · intro f w1 hb ⟨h134, _⟩ K hK
          replace h134 : f 134 = _ := h134
          simp only [over, overL, Nat.reduceAdd, h134]
          go_simp
          exact hK _ _ ⟨_, rfl, by simp only [over, overL, Nat.reduceAdd, h134]; rfl, Below.refl _ _⟩
        · intro f w1 hb ⟨h135, _⟩
          replace h135 : f 135 = _ := h135
          refine ⟨fun _ => ?_, fun hg => absurd h135 hg⟩
          intro K hK
          simp only [over, overL, Nat.reduceAdd, h135]
          go_simp
          exact hK _ _ ⟨_, rfl, by simp only [over, overL, Nat.reduceAdd, h135]; rfl, Below.refl _ _⟩
        · intro f w1 hb ⟨h135, _⟩
          replace h135 : f 135 = _ := h135
          refine ⟨fun _ => ?_, fun hg => absurd h135 hg⟩
          intro K hK
          simp only [over, overL, Nat.reduceAdd, h135]
          go_simp
          exact hK _ _ ⟨_, rfl, by simp only [over, overL, Nat.reduceAdd, h135]; rfl, Below.refl _ _⟩
        · intro f w1 hb ⟨h135, _⟩
          replace h135 : f 135 = _ := h135
          refine ⟨fun _ => ?_, fun hg => absurd h135 hg⟩
          intro K hK
          simp only [over, overL, Nat.reduceAdd, h135]
          go_simp
          exact hK _ _ ⟨_, rfl, by simp only [over, overL, Nat.reduceAdd, h135]; rfl, Below.refl _ _⟩
        · intro f w1 hb ⟨h135, h137, h138, _⟩
          replace h135 : f 135 = _ := h135
          replace h137 : f 137 = _ := h137
          replace h138 : f 138 = _ := h138
          refine ⟨fun _ => ?_, fun hg => absurd h135 hg⟩
          intro K hK
          simp only [over, overL, Nat.reduceAdd, h135, h137, h138]
          go_simp
          exact hK _ _ ⟨_, rfl, by simp only [over, overL, Nat.reduceAdd, h135, h137, h138]; rfl, Below.refl _ _⟩
        · intro f w1 hb ⟨h135, h139, _⟩
          replace h135 : f 135 = _ := h135
          replace h139 : f 139 = _ := h139
          refine ⟨fun _ => ?_, fun hg => absurd h135 hg⟩
          intro K hK
          simp only [over, overL, Nat.reduceAdd, h135, h139]
          go_simp
          exact hK _ _ ⟨_, rfl, by simp only [over, overL, Nat.reduceAdd, h135, h139]; rfl, Below.refl _ _⟩
        · intro f w1 hb ⟨h135, h140, _⟩
          replace h135 : f 135 = _ := h135
          replace h140 : f 140 = _ := h140
          refine ⟨fun _ => ?_, fun hg => absurd h135 hg⟩
          intro K hK
          have q := cell_later hb p2
          simp only [over, overL, Nat.reduceAdd, h135, h140]
          go_simp
          exact hK _ _ ⟨_, rfl, by simp only [over, overL, Nat.reduceAdd, h135, h140]; rfl, Below.refl _ _⟩
        · intro f w1 hb ⟨h135, _⟩
          replace h135 : f 135 = _ := h135
          refine ⟨fun _ => ?_, fun hg => absurd h135 hg⟩
          intro K hK
          simp only [over, overL, Nat.reduceAdd, h135]
          go_simp
          exact hK _ _ ⟨_, rfl, by simp only [over, overL, Nat.reduceAdd, h135]; rfl, Below.refl _ _⟩
        · intro f w1 hb ⟨h135, h142, _⟩
          replace h135 : f 135 = _ := h135
          replace h142 : f 142 = _ := h142
          refine ⟨fun _ => ?_, fun hg => absurd h135 hg⟩
          intro K hK
          have q := (KB.out.later hb).c 2 rfl
          simp only [over, overL, Nat.reduceAdd, h135, h142]
          go_simp
          exact hK _ _ ⟨_, rfl, by simp only [over, overL, Nat.reduceAdd, h135, h142]; rfl, Below.refl _ _⟩
        · intro f w1 hb ⟨h135, _⟩
          replace h135 : f 135 = _ := h135
          refine ⟨fun _ => ?_, fun hg => absurd h135 hg⟩
          intro K hK
          simp only [over, overL, Nat.reduceAdd, h135]
          go_simp
          exact hK _ _ ⟨_, rfl, by simp only [over, overL, Nat.reduceAdd, h135]; rfl, Below.refl _ _⟩
        · intro f w1 hb ⟨h135, h144, _⟩
          replace h135 : f 135 = _ := h135
          replace h144 : f 144 = _ := h144
          refine ⟨fun _ => ?_, fun hg => absurd h135 hg⟩
          intro K hK
          simp only [over, overL, Nat.reduceAdd, h135, h144]
          go_simp
          exact hK _ _ ⟨_, WK.out, by simp only [over, overL, Nat.reduceAdd, h135, h144]; rfl, Below.refl _ _⟩
        · intro f w1 hb ⟨h135, h136, h141, h143, h145, _⟩
          replace h135 : f 135 = _ := h135
          replace h136 : f 136 = _ := h136
          replace h141 : f 141 = _ := h141
          replace h143 : f 143 = _ := h143
          replace h145 : f 145 = _ := h145
          refine ⟨fun _ => ?_, fun hg => absurd h135 hg⟩
          intro K hK
          simp only [over, overL, Nat.reduceAdd, h135, h136, h141, h143, h145]
          go_simp
          refine (HNZ.out w1 hb).mono ?_
          rintro e w2 ⟨rfl, hw2⟩
          exact hK _ _ ⟨_, rfl, by simp only [over, overL, Nat.reduceAdd, h135, h136, h141, h143, h145]; rfl, hw2 ▸ Below.refl _ _⟩
        · intro f w1 hb ⟨h135, h146, _⟩
          replace h135 : f 135 = _ := h135
          replace h146 : f 146 = _ := h146
          refine ⟨fun _ => ?_, fun hg => absurd h135 hg⟩
          intro K hK
          simp only [over, overL, Nat.reduceAdd, h135, h146]
          go_simp
          exact hK _ _ ⟨_, rfl, by simp only [over, overL, Nat.reduceAdd, h135, h146]; rfl, Below.refl _ _⟩
        · intro f w1 hb ⟨h135, h147, _⟩ K hK
          replace h135 : f 135 = _ := h135
          replace h147 : f 147 = _ := h147
          simp only [over, overL, Nat.reduceAdd, h135, h147]
          go_simp
          exact hK _ _ ⟨_, rfl, by simp only [over, overL, Nat.reduceAdd, h135, h147]; rfl, Below.refl _ _⟩
      intro f w8 hb8 hv
      have hr : f 148 = .bool false := hv.2.2.2.2.2.2.2.2.2.2.2.2.2.2.2.2.2.2.2.2.2.2.2.2.2.2.2.2.2.2.2.2.2.2.2.2.2.2.2.1
      have HB8 : Hid (Below w7.heap.size w7 w8) := HBr.out.trans (hb8.mono HBr.out.size)
      simp only [over_eq, overL, hr, Nat.reduceAdd]
      clear hv hr hb8 p0 p1 p2 eg e0
      go_wp2
      go_roundw
      case rel => exact ⟨k + 1, by omega, by go_num, HB8.out⟩
      case measure => simp [intOf]; omega
    · have HFB : Hid (Below w.heap.size w wr) := HB7.out.trans (HBr.out.mono HB7.out.size)
      go_wp2
      go_ret
      exact ⟨rfl, HFB.out⟩
end Go.Proofs.Ytanmfhaiahhoeaa
