/- The law CurveTells walked: one case of the volume. -/
import Derived.Test.YteamcgoemgailaaTlBase
namespace Go.Proofs.Yteamcgoemgailaa
open Go.RowKit

set_option maxHeartbeats 6400000 in
theorem tells_20 (ao : Option Addr) (cap : Nat) (l : List Kn) (m : Nat) (hn : l.length = m + 1) (v s : Int) (w : World) (hL : Kns w ao l) (hn0 : ao = none → cap = 0) (hreach : (m + 1) * 16 ≤ 140737488351232) (hc : Curve l) (hv : 0 ≤ v ∧ v ≤ mostV l) (hs : s < 0) :
    Calls Try.prog 3 #[.slice ao (m + 1) cap, .int .i64 v, .int .i64 s] w fun e w' => e = .returned (.bool true) ∧ Below w.heap.size w w' := by
  have HBw : Hid (Below w.heap.size w w) := Below.refl _ _
  have HL : Hid (Kns w ao l) := hL
  have HN : Hid (l.length = m + 1) := hn
  have HC : Hid (Curve l) := hc
  have HZ : Hid (chk l = 0) := chk_ok.2 hc
  have h2 := hc.two
  have h50 := hc.most
  have hm49 : m ≤ 49 := by omega
  have HMV : Hid (cv l m = mostV l) := by show cv l m = cv l (l.length - 1); rw [hn]; rfl
  have HMS : Hid (cs l m = mostS l) := by show cs l m = cs l (l.length - 1); rw [hn]; rfl
  have hml : m < l.length := by omega
  clear hc
  clear hL hn
  go_enter Try.func3, Try.ntmps3
  go_wp2_with fail
  refine (knots_n ao cap l (m + 1) HN.out w (HL.out.next HBw.out) hn0 hreach).mono ?_
  rintro e w1 ⟨v1, rfl, ⟨ao1, cap1, rfl, hk1, _⟩, hb1⟩
  have HB1 : Hid (Below w.heap.size w w1) := below_on HBw.out hb1
  have HK1 : Hid (Kns w1 ao1 l) := hk1
  clear hb1 hk1
  go_wp2_with fail
  refine (check_r ao1 cap1 l 0 HZ.out w1 HK1.out (by omega)).mono ?_
  rintro e w2 ⟨rfl, hb2⟩
  have HB2 : Hid (Below w.heap.size w w2) := below_on HB1.out hb2
  clear hb2
  go_wp2_with fail
  refine (knots_n ao cap l (m + 1) HN.out w2 (HL.out.next HB2.out) hn0 hreach).mono ?_
  rintro e w3 ⟨v3, rfl, ⟨ao3, cap3, rfl, hk3, _⟩, hb3⟩
  have HB3 : Hid (Below w.heap.size w w3) := below_on HB2.out hb3
  have HK3 : Hid (Kns w3 ao3 l) := hk3
  clear hb3 hk3
  go_wp2_with fail
  refine (steps_ok ao3 cap3 l v w3 HK3.out HC.out hv.1 hv.2).mono ?_
  rintro e w4 ⟨rfl, hb4⟩
  have HB4 : Hid (Below w.heap.size w w4) := below_on HB3.out hb4
  clear hb4
  go_wp2_with fail
  refine (knots_n ao cap l (m + 1) HN.out w4 (HL.out.next HB4.out) hn0 hreach).mono ?_
  rintro e w5 ⟨v5, rfl, ⟨ao5, cap5, rfl, hk5, _⟩, hb5⟩
  have HB5 : Hid (Below w.heap.size w w5) := below_on HB4.out hb5
  have HK5 : Hid (Kns w5 ao5 l) := hk5
  clear hb5 hk5
  go_wp2_with fail
  refine (volume_out ao5 cap5 l s w5 HK5.out HC.out (.inl hs)).mono ?_
  rintro e w6 ⟨rfl, hb6⟩
  have HB6 : Hid (Below w.heap.size w w6) := below_on HB5.out hb6
  clear hb6
  go_wp2_with fail
  refine (knots_n ao cap l (m + 1) HN.out w6 (HL.out.next HB6.out) hn0 hreach).mono ?_
  rintro e w7 ⟨v7, rfl, ⟨ao7, cap7, rfl, hk7, _⟩, hb7⟩
  have HB7 : Hid (Below w.heap.size w w7) := below_on HB6.out hb7
  have HK7 : Hid (Kns w7 ao7 l) := hk7
  clear hb7 hk7
  go_wp2_with fail
  refine (most_ok ao7 cap7 l w7 HK7.out HC.out).mono ?_
  rintro e w8 ⟨rfl, hb8⟩
  have HB8 : Hid (Below w.heap.size w w8) := below_on HB7.out hb8
  clear hb8
  go_wp2_with fail
  refine (may_n ao cap l (m + 1) HN.out 0 HZ.out w8 (HL.out.next HB8.out) (by omega)).mono ?_
  rintro e w9 ⟨rfl, hb9⟩
  have HB9 : Hid (Below w.heap.size w w9) := below_on HB8.out hb9
  clear hb9
  obtain ⟨b, off, rfl, _, c0, c1⟩ := (HL.out.next HB9.out).at hml
  rw [← cv_at, HMV.out] at c0
  rw [← cs_at, HMS.out] at c1
  go_wp2_with fail
  have HB9a : Hid (Below w.heap.size w (w9.alloc (.cells #[.int .i64 (mostV l), .int .i64 (mostS l)] 31))) := below_on HB9.out ((Below.refl _ _).alloc (Nat.le_refl _) _)
  refine (refSteps_n _ cap l (m + 1) HN.out v _ (HL.out.next HB9a.out) HC.out hv.1 hv.2).mono ?_
  rintro e w10 ⟨rfl, hb10⟩
  have a0 : w10.cell? ⟨w9.heap.size, 0, none⟩ = some (.int .i64 (mostV l)) := cell_later hb10 (by go_simp)
  have a1 : w10.cell? ⟨w9.heap.size, 1, none⟩ = some (.int .i64 (mostS l)) := cell_later hb10 (by go_simp)
  have HB10 : Hid (Below w.heap.size w w10) := below_on HB9a.out hb10
  clear hb10 c0 c1
  go_wp2
  go_ret
  exact ⟨rfl, HB10.out⟩
set_option maxHeartbeats 6400000 in
theorem tells_21 (ao : Option Addr) (cap : Nat) (l : List Kn) (m : Nat) (hn : l.length = m + 1) (v s : Int) (w : World) (hL : Kns w ao l) (hn0 : ao = none → cap = 0) (hreach : (m + 1) * 16 ≤ 140737488351232) (hc : Curve l) (hv : 0 ≤ v ∧ v ≤ mostV l) (hs : ¬ s < 0 ∧ mostS l < s) :
    Calls Try.prog 3 #[.slice ao (m + 1) cap, .int .i64 v, .int .i64 s] w fun e w' => e = .returned (.bool true) ∧ Below w.heap.size w w' := by
  have HBw : Hid (Below w.heap.size w w) := Below.refl _ _
  have HL : Hid (Kns w ao l) := hL
  have HN : Hid (l.length = m + 1) := hn
  have HC : Hid (Curve l) := hc
  have HZ : Hid (chk l = 0) := chk_ok.2 hc
  have h2 := hc.two
  have h50 := hc.most
  have hm49 : m ≤ 49 := by omega
  have HMV : Hid (cv l m = mostV l) := by show cv l m = cv l (l.length - 1); rw [hn]; rfl
  have HMS : Hid (cs l m = mostS l) := by show cs l m = cs l (l.length - 1); rw [hn]; rfl
  have hml : m < l.length := by omega
  clear hc
  clear hL hn
  go_enter Try.func3, Try.ntmps3
  go_wp2_with fail
  refine (knots_n ao cap l (m + 1) HN.out w (HL.out.next HBw.out) hn0 hreach).mono ?_
  rintro e w1 ⟨v1, rfl, ⟨ao1, cap1, rfl, hk1, _⟩, hb1⟩
  have HB1 : Hid (Below w.heap.size w w1) := below_on HBw.out hb1
  have HK1 : Hid (Kns w1 ao1 l) := hk1
  clear hb1 hk1
  go_wp2_with fail
  refine (check_r ao1 cap1 l 0 HZ.out w1 HK1.out (by omega)).mono ?_
  rintro e w2 ⟨rfl, hb2⟩
  have HB2 : Hid (Below w.heap.size w w2) := below_on HB1.out hb2
  clear hb2
  go_wp2_with fail
  refine (knots_n ao cap l (m + 1) HN.out w2 (HL.out.next HB2.out) hn0 hreach).mono ?_
  rintro e w3 ⟨v3, rfl, ⟨ao3, cap3, rfl, hk3, _⟩, hb3⟩
  have HB3 : Hid (Below w.heap.size w w3) := below_on HB2.out hb3
  have HK3 : Hid (Kns w3 ao3 l) := hk3
  clear hb3 hk3
  go_wp2_with fail
  refine (steps_ok ao3 cap3 l v w3 HK3.out HC.out hv.1 hv.2).mono ?_
  rintro e w4 ⟨rfl, hb4⟩
  have HB4 : Hid (Below w.heap.size w w4) := below_on HB3.out hb4
  clear hb4
  go_wp2_with fail
  refine (knots_n ao cap l (m + 1) HN.out w4 (HL.out.next HB4.out) hn0 hreach).mono ?_
  rintro e w5 ⟨v5, rfl, ⟨ao5, cap5, rfl, hk5, _⟩, hb5⟩
  have HB5 : Hid (Below w.heap.size w w5) := below_on HB4.out hb5
  have HK5 : Hid (Kns w5 ao5 l) := hk5
  clear hb5 hk5
  go_wp2_with fail
  refine (volume_out ao5 cap5 l s w5 HK5.out HC.out (.inr hs.2)).mono ?_
  rintro e w6 ⟨rfl, hb6⟩
  have HB6 : Hid (Below w.heap.size w w6) := below_on HB5.out hb6
  clear hb6
  go_wp2_with fail
  refine (knots_n ao cap l (m + 1) HN.out w6 (HL.out.next HB6.out) hn0 hreach).mono ?_
  rintro e w7 ⟨v7, rfl, ⟨ao7, cap7, rfl, hk7, _⟩, hb7⟩
  have HB7 : Hid (Below w.heap.size w w7) := below_on HB6.out hb7
  have HK7 : Hid (Kns w7 ao7 l) := hk7
  clear hb7 hk7
  go_wp2_with fail
  refine (most_ok ao7 cap7 l w7 HK7.out HC.out).mono ?_
  rintro e w8 ⟨rfl, hb8⟩
  have HB8 : Hid (Below w.heap.size w w8) := below_on HB7.out hb8
  clear hb8
  go_wp2_with fail
  refine (may_n ao cap l (m + 1) HN.out 0 HZ.out w8 (HL.out.next HB8.out) (by omega)).mono ?_
  rintro e w9 ⟨rfl, hb9⟩
  have HB9 : Hid (Below w.heap.size w w9) := below_on HB8.out hb9
  clear hb9
  obtain ⟨b, off, rfl, _, c0, c1⟩ := (HL.out.next HB9.out).at hml
  rw [← cv_at, HMV.out] at c0
  rw [← cs_at, HMS.out] at c1
  go_wp2_with fail
  have HB9a : Hid (Below w.heap.size w (w9.alloc (.cells #[.int .i64 (mostV l), .int .i64 (mostS l)] 31))) := below_on HB9.out ((Below.refl _ _).alloc (Nat.le_refl _) _)
  refine (refSteps_n _ cap l (m + 1) HN.out v _ (HL.out.next HB9a.out) HC.out hv.1 hv.2).mono ?_
  rintro e w10 ⟨rfl, hb10⟩
  have a0 : w10.cell? ⟨w9.heap.size, 0, none⟩ = some (.int .i64 (mostV l)) := cell_later hb10 (by go_simp)
  have a1 : w10.cell? ⟨w9.heap.size, 1, none⟩ = some (.int .i64 (mostS l)) := cell_later hb10 (by go_simp)
  have HB10 : Hid (Below w.heap.size w w10) := below_on HB9a.out hb10
  clear hb10 c0 c1
  go_wp2
  go_ret
  exact ⟨rfl, HB10.out⟩
set_option maxHeartbeats 6400000 in
theorem tells_22 (ao : Option Addr) (cap : Nat) (l : List Kn) (m : Nat) (hn : l.length = m + 1) (v s : Int) (w : World) (hL : Kns w ao l) (hn0 : ao = none → cap = 0) (hreach : (m + 1) * 16 ≤ 140737488351232) (hc : Curve l) (hv : 0 ≤ v ∧ v ≤ mostV l) (hs : 0 ≤ s ∧ s ≤ mostS l) :
    Calls Try.prog 3 #[.slice ao (m + 1) cap, .int .i64 v, .int .i64 s] w fun e w' => e = .returned (.bool true) ∧ Below w.heap.size w w' := by
  have HBw : Hid (Below w.heap.size w w) := Below.refl _ _
  have HL : Hid (Kns w ao l) := hL
  have HN : Hid (l.length = m + 1) := hn
  have HC : Hid (Curve l) := hc
  have HZ : Hid (chk l = 0) := chk_ok.2 hc
  have h2 := hc.two
  have h50 := hc.most
  have hm49 : m ≤ 49 := by omega
  have HMV : Hid (cv l m = mostV l) := by show cv l m = cv l (l.length - 1); rw [hn]; rfl
  have HMS : Hid (cs l m = mostS l) := by show cs l m = cs l (l.length - 1); rw [hn]; rfl
  have hml : m < l.length := by omega
  clear hc
  clear hL hn
  go_enter Try.func3, Try.ntmps3
  go_wp2_with fail
  refine (knots_n ao cap l (m + 1) HN.out w (HL.out.next HBw.out) hn0 hreach).mono ?_
  rintro e w1 ⟨v1, rfl, ⟨ao1, cap1, rfl, hk1, _⟩, hb1⟩
  have HB1 : Hid (Below w.heap.size w w1) := below_on HBw.out hb1
  have HK1 : Hid (Kns w1 ao1 l) := hk1
  clear hb1 hk1
  go_wp2_with fail
  refine (check_r ao1 cap1 l 0 HZ.out w1 HK1.out (by omega)).mono ?_
  rintro e w2 ⟨rfl, hb2⟩
  have HB2 : Hid (Below w.heap.size w w2) := below_on HB1.out hb2
  clear hb2
  go_wp2_with fail
  refine (knots_n ao cap l (m + 1) HN.out w2 (HL.out.next HB2.out) hn0 hreach).mono ?_
  rintro e w3 ⟨v3, rfl, ⟨ao3, cap3, rfl, hk3, _⟩, hb3⟩
  have HB3 : Hid (Below w.heap.size w w3) := below_on HB2.out hb3
  have HK3 : Hid (Kns w3 ao3 l) := hk3
  clear hb3 hk3
  go_wp2_with fail
  refine (steps_ok ao3 cap3 l v w3 HK3.out HC.out hv.1 hv.2).mono ?_
  rintro e w4 ⟨rfl, hb4⟩
  have HB4 : Hid (Below w.heap.size w w4) := below_on HB3.out hb4
  clear hb4
  go_wp2_with fail
  refine (knots_n ao cap l (m + 1) HN.out w4 (HL.out.next HB4.out) hn0 hreach).mono ?_
  rintro e w5 ⟨v5, rfl, ⟨ao5, cap5, rfl, hk5, _⟩, hb5⟩
  have HB5 : Hid (Below w.heap.size w w5) := below_on HB4.out hb5
  have HK5 : Hid (Kns w5 ao5 l) := hk5
  clear hb5 hk5
  go_wp2_with fail
  refine (volume_ok ao5 cap5 l s w5 HK5.out HC.out hs.1 hs.2).mono ?_
  rintro e w6 ⟨q, rfl, hq, hb6⟩
  have HB6 : Hid (Below w.heap.size w w6) := below_on HB5.out hb6
  clear hb6
  have HQ : Hid (VolAt l s q) := hq
  clear hq
  go_wp2_with fail
  refine (knots_n ao cap l (m + 1) HN.out w6 (HL.out.next HB6.out) hn0 hreach).mono ?_
  rintro e w7 ⟨v7, rfl, ⟨ao7, cap7, rfl, hk7, _⟩, hb7⟩
  have HB7 : Hid (Below w.heap.size w w7) := below_on HB6.out hb7
  have HK7 : Hid (Kns w7 ao7 l) := hk7
  clear hb7 hk7
  go_wp2_with fail
  refine (most_ok ao7 cap7 l w7 HK7.out HC.out).mono ?_
  rintro e w8 ⟨rfl, hb8⟩
  have HB8 : Hid (Below w.heap.size w w8) := below_on HB7.out hb8
  clear hb8
  go_wp2_with fail
  refine (may_n ao cap l (m + 1) HN.out 0 HZ.out w8 (HL.out.next HB8.out) (by omega)).mono ?_
  rintro e w9 ⟨rfl, hb9⟩
  have HB9 : Hid (Below w.heap.size w w9) := below_on HB8.out hb9
  clear hb9
  obtain ⟨b, off, rfl, _, c0, c1⟩ := (HL.out.next HB9.out).at hml
  rw [← cv_at, HMV.out] at c0
  rw [← cs_at, HMS.out] at c1
  go_wp2_with fail
  have HB9a : Hid (Below w.heap.size w (w9.alloc (.cells #[.int .i64 (mostV l), .int .i64 (mostS l)] 31))) := below_on HB9.out ((Below.refl _ _).alloc (Nat.le_refl _) _)
  refine (refSteps_n _ cap l (m + 1) HN.out v _ (HL.out.next HB9a.out) HC.out hv.1 hv.2).mono ?_
  rintro e w10 ⟨rfl, hb10⟩
  have a0 : w10.cell? ⟨w9.heap.size, 0, none⟩ = some (.int .i64 (mostV l)) := cell_later hb10 (by go_simp)
  have a1 : w10.cell? ⟨w9.heap.size, 1, none⟩ = some (.int .i64 (mostS l)) := cell_later hb10 (by go_simp)
  have HB10 : Hid (Below w.heap.size w w10) := below_on HB9a.out hb10
  clear hb10 c0 c1
  go_wp2_with fail
  refine (refVolume_n _ cap l (m + 1) HN.out s w10 (HL.out.next HB10.out) HC.out hs.1).mono ?_
  rintro e w11 ⟨r, rfl, hr, hb11⟩
  have HB11 : Hid (Below w.heap.size w w11) := below_on HB10.out hb11
  obtain rfl : q = r := volAt_one HC.out HQ.out hr
  clear hr hb11
  go_wp2
  go_ret
  exact ⟨rfl, HB11.out⟩
end Go.Proofs.Yteamcgoemgailaa
