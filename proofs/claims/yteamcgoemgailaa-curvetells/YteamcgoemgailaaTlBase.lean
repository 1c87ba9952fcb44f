/- Contracts at a length that is another spelling. -/
import Derived.Test.YteamcgoemgailaaCpy
namespace Go.Proofs.Yteamcgoemgailaa
open Go.RowKit

theorem knots_n (ao : Option Addr) (cap : Nat) (l : List Kn) (n : Nat) (hn : l.length = n) (w : World) (h : Kns w ao l) (hn0 : ao = none → cap = 0) (hreach : n * 16 ≤ 140737488351232) :
    Calls Try.prog 8 #[.slice ao n cap] w fun e w' => ∃ v, e = .returned v ∧ IsCopy l v w' ∧ Below w.heap.size w w' := by
  subst hn; exact knots_any ao cap l w h hn0 hreach
theorem may_n (ao : Option Addr) (cap : Nat) (l : List Kn) (n : Nat) (hn : l.length = n) (r : Int) (hr : chk l = r) (w : World) (h : Kns w ao l) (hreach : n ≤ 9223372036854775807) :
    Calls Try.prog 12 #[.slice ao n cap] w fun e w' => e = .returned (.int .i64 r) ∧ Below w.heap.size w w' := by
  subst hn hr; exact may_any ao cap l w h hreach
theorem refSteps_n (ao : Option Addr) (cap : Nat) (l : List Kn) (n : Nat) (hn : l.length = n) (v : Int) (w : World) (h : Kns w ao l) (hc : Curve l) (hv : 0 ≤ v) (hm : v ≤ mostV l) :
    Calls Try.prog 13 #[.slice ao n cap, .int .i64 v] w fun e w' => e = .returned (.int .i64 (stp l v)) ∧ Below w.heap.size w w' := by
  subst hn; exact refSteps_any ao cap l v w h hc hv hm
theorem refVolume_n (ao : Option Addr) (cap : Nat) (l : List Kn) (n : Nat) (hn : l.length = n) (k : Int) (w : World) (h : Kns w ao l) (hc : Curve l) (hv : 0 ≤ k) :
    Calls Try.prog 14 #[.slice ao n cap, .int .i64 k] w fun e w' => ∃ r, e = .returned (.int .i64 r) ∧ VolAt l k r ∧ Below w.heap.size w w' := by
  subst hn; exact refVolume_any ao cap l k w h hc hv

set_option maxHeartbeats 6400000 in
theorem tells_bad (ao : Option Addr) (cap : Nat) (l : List Kn) (n : Nat) (hn : l.length = n) (v s : Int) (w : World) (hL : Kns w ao l) (hn0 : ao = none → cap = 0) (hreach : n * 16 ≤ 140737488351232) (hc : chk l ≠ 0) :
    Calls Try.prog 3 #[.slice ao n cap, .int .i64 v, .int .i64 s] w fun e w' => e = .returned (.bool true) ∧ Below w.heap.size w w' := by
  have hll : l.length ≤ 9223372036854775807 := by omega
  have hll2 : n ≤ 9223372036854775807 := by omega
  have HBw : Hid (Below w.heap.size w w) := Below.refl _ _
  have HL : Hid (Kns w ao l) := hL
  have HN : Hid (l.length = n) := hn
  have HC : Hid (chk l ≠ 0) := hc
  have hne : (chk l != 0) = true := by simp [hc]
  clear hc
  clear hL hn
  go_enter Try.func3, Try.ntmps3
  go_wp2_with fail
  refine (knots_n ao cap l n HN.out w (HL.out.next HBw.out) hn0 hreach).mono ?_
  rintro e w1 ⟨v1, rfl, ⟨ao1, cap1, rfl, hk1, _⟩, hb1⟩
  have HB1 : Hid (Below w.heap.size w w1) := below_on HBw.out hb1
  have HK1 : Hid (Kns w1 ao1 l) := hk1
  clear hb1 hk1
  go_wp2_with fail
  refine (check_any ao1 cap1 l  w1 HK1.out (by omega)).mono ?_
  rintro e w2 ⟨rfl, hb2⟩
  have HB2 : Hid (Below w.heap.size w w2) := below_on HB1.out hb2
  clear hb2
  go_wp2_with fail
  refine (knots_n ao cap l n HN.out w2 (HL.out.next HB2.out) hn0 hreach).mono ?_
  rintro e w3 ⟨v3, rfl, ⟨ao3, cap3, rfl, hk3, _⟩, hb3⟩
  have HB3 : Hid (Below w.heap.size w w3) := below_on HB2.out hb3
  have HK3 : Hid (Kns w3 ao3 l) := hk3
  clear hb3 hk3
  go_wp2_with fail
  refine (steps_bad ao3 cap3 l v w3 HK3.out hll HC.out).mono ?_
  rintro e w4 ⟨rfl, hb4⟩
  have HB4 : Hid (Below w.heap.size w w4) := below_on HB3.out hb4
  clear hb4
  go_wp2_with fail
  refine (knots_n ao cap l n HN.out w4 (HL.out.next HB4.out) hn0 hreach).mono ?_
  rintro e w5 ⟨v5, rfl, ⟨ao5, cap5, rfl, hk5, _⟩, hb5⟩
  have HB5 : Hid (Below w.heap.size w w5) := below_on HB4.out hb5
  have HK5 : Hid (Kns w5 ao5 l) := hk5
  clear hb5 hk5
  go_wp2_with fail
  refine (volume_bad ao5 cap5 l s w5 HK5.out hll HC.out).mono ?_
  rintro e w6 ⟨rfl, hb6⟩
  have HB6 : Hid (Below w.heap.size w w6) := below_on HB5.out hb6
  clear hb6
  go_wp2_with fail
  refine (knots_n ao cap l n HN.out w6 (HL.out.next HB6.out) hn0 hreach).mono ?_
  rintro e w7 ⟨v7, rfl, ⟨ao7, cap7, rfl, hk7, _⟩, hb7⟩
  have HB7 : Hid (Below w.heap.size w w7) := below_on HB6.out hb7
  have HK7 : Hid (Kns w7 ao7 l) := hk7
  clear hb7 hk7
  go_wp2_with fail
  refine (most_bad ao7 cap7 l w7 HK7.out hll HC.out).mono ?_
  rintro e w8 ⟨rfl, hb8⟩
  have HB8 : Hid (Below w.heap.size w w8) := below_on HB7.out hb8
  clear hb8
  go_wp2_with fail
  refine (may_n ao cap l n HN.out (chk l) rfl w8 (HL.out.next HB8.out) hll2).mono ?_
  rintro e w9 ⟨rfl, hb9⟩
  have HB9 : Hid (Below w.heap.size w w9) := below_on HB8.out hb9
  clear hb9
  go_wp2
  go_ret
  exact ⟨rfl, HB9.out⟩
end Go.Proofs.Yteamcgoemgailaa
