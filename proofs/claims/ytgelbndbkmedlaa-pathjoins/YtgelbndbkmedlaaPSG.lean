/- path.Join walked, where both ways fit together. -/
import Derived.Test.YtgelbndbkmedlaaPRG
import Derived.Test.YtgelbndbkmedlaaPOG
namespace Go.Proofs.Ytgelbndbkmedlaa.S
open Go.RowKit

set_option linter.unusedVariables false in
def jn7V (b off n cap b2 off2 n2 cap2 m : Nat) (z : Pt) (d : Nat) (v : Value) (_ : World) : Prop :=
  match d with
  | 36 => v = .slice (some ⟨b2, off2, none⟩) n2 cap2
  | 37 => v = .pointer (some ⟨b2, off2, none⟩)
  | 38 => v = pv z
  | 39 => v = .slice (some ⟨b, off, none⟩) n cap
  | 40 => v = .slice (some ⟨b, off, none⟩) n cap
  | 41 => v = .int .i64 (n : Int)
  | 42 => v = .int .i64 (m : Int)
  | 43 => v = .pointer (some ⟨b, off + m * 3, none⟩)
  | 44 => v = pv z
  | 45 => v = .bool false
  | _ => True
set_option linter.unusedVariables false in
theorem jn7V_mono (b off n cap b2 off2 n2 cap2 m : Nat) (z : Pt) (d : Nat) (v : Value) (w w' : World) (h : jn7V b off n cap b2 off2 n2 cap2 m z d v w) (_ : Below w.heap.size w w') : jn7V b off n cap b2 off2 n2 cap2 m z d v w' := h
set_option maxHeartbeats 6400000 in
set_option maxRecDepth 100000 in
theorem join_ok (ao ao2 : Option Addr) (cap cap2 : Nat) (a c : List Pt) (w : World) (hA : Pns w ao a) (hC : Pns w ao2 c) (hna : ∀ p ∈ a, nearP p = true) (hnc : ∀ p ∈ c, nearP p = true) (ha0 : 0 < a.length) (hc0 : 0 < c.length) (hl : a.length + c.length ≤ 1000) (hsa : slant a = false) (hsc : slant c = false) (hac : c[0]'hc0 = a[a.length - 1]'(by omega)) :
    Calls Try.prog 15 #[.slice ao a.length cap, .slice ao2 c.length cap2] w fun e w' => ∃ ao' cap', e = .returned (.tuple #[.slice ao' ((a ++ c).foldl stp []).length cap', .int .i64 0]) ∧ Pns w' ao' ((a ++ c).foldl stp []) ∧ Below w.heap.size w w' := by
  have HA : Hid (Pns w ao a) := hA
  have HC : Hid (Pns w ao2 c) := hC
  have HNA : Hid (∀ p ∈ a, nearP p = true) := hna
  have HNC : Hid (∀ p ∈ c, nearP p = true) := hnc
  have HI1 : Hid (∀ W, Pns W ao a → Calls Try.prog 38 #[.slice ao a.length cap] W fun e w' => e = .returned (.bool true) ∧ Below W.heap.size W w') := fun W h => by
    have := pnear_any ao cap a W h (by omega)
    rwa [List.all_eq_true.2 hna] at this
  have HI2 : Hid (∀ W, Pns W ao2 c → Calls Try.prog 38 #[.slice ao2 c.length cap2] W fun e w' => e = .returned (.bool true) ∧ Below W.heap.size W w') := fun W h => by
    have := pnear_any ao2 cap2 c W h (by omega)
    rwa [List.all_eq_true.2 hnc] at this
  have HS1 : Hid (∀ W, Pns W ao a → Calls Try.prog 37 #[.slice ao a.length cap] W fun e w' => e = .returned (.bool false) ∧ Below W.heap.size W w') := fun W h => by
    have := isSlanting_any ao cap a W h (by omega) (fun p hp => nearP_sm (hna p hp))
    rwa [hsa] at this
  have HS2 : Hid (∀ W, Pns W ao2 c → Calls Try.prog 37 #[.slice ao2 c.length cap2] W fun e w' => e = .returned (.bool false) ∧ Below W.heap.size W w') := fun W h => by
    have := isSlanting_any ao2 cap2 c W h (by omega) (fun p hp => nearP_sm (hnc p hp))
    rwa [hsc] at this
  obtain ⟨m, hm⟩ : ∃ m, m = a.length - 1 := ⟨_, rfl⟩
  have hml : m < a.length := by omega
  have hac2 : c[0]'hc0 = a[m]'hml := by subst hm; exact hac
  have HAC : Hid (c[0]'hc0 = a[m]'hml) := hac2
  have HM : Hid (m = a.length - 1) := hm
  have hab : (a.length == 0) = false := by rw [beq_eq_false_iff_ne]; omega
  have hcb : (c.length == 0) = false := by rw [beq_eq_false_iff_ne]; omega
  have hai : ((a.length : Int) == 0) = false := by rw [beq_eq_false_iff_ne]; omega
  have hci : ((c.length : Int) == 0) = false := by rw [beq_eq_false_iff_ne]; omega
  have hgt : (decide ((1000 : Int) < (a.length : Int) + (c.length : Int))) = false := decide_eq_false (by omega)
  clear hA hC hna hnc hsa hsc hac hac2 hm
  go_enter Try.func15, Try.ntmps15
  go_wp2_with fail
  refine Calls.mono (HI1.out _ HA.out) ?_
  rintro e w1 ⟨rfl, hb1⟩
  have HB1 : Hid (Below w.heap.size w w1) := hb1
  clear hb1
  go_wp2_with fail
  refine Calls.mono (HI2.out _ (HC.out.next HB1.out)) ?_
  rintro e w2 ⟨rfl, hb2⟩
  have HB2 : Hid (Below w.heap.size w w2) := HB1.out.trans (hb2.mono HB1.out.size)
  clear hb2 HB1
  go_wp2_with fail
  refine Calls.mono (HS1.out _ (HA.out.next HB2.out)) ?_
  rintro e w3 ⟨rfl, hb3⟩
  have HB3 : Hid (Below w.heap.size w w3) := HB2.out.trans (hb3.mono HB2.out.size)
  clear hb3 HB2
  go_wp2_with fail
  refine Calls.mono (HS2.out _ (HC.out.next HB3.out)) ?_
  rintro e w4 ⟨rfl, hb4⟩
  have HB4 : Hid (Below w.heap.size w w4) := HB3.out.trans (hb4.mono HB3.out.size)
  clear hb4 HB3
  obtain ⟨b, off, rfl, _, a0, a1, a2⟩ := (HA.out.next HB4.out).at hml
  obtain ⟨b2, off2, rfl, _, c0, c1, c2⟩ := (HC.out.next HB4.out).at hc0
  rw [HAC.out] at c0 c1 c2
  simp only [Nat.zero_mul, Nat.add_zero] at c0 c1 c2
  generalize a[m]'hml = z at *
  have HQ0 : Hid (w4.cell? ⟨b, off + m * 3, none⟩ = some (.int .i64 z.x)) := a0
  have HQ1 : Hid (w4.cell? ⟨b, off + m * 3 + 1, none⟩ = some (.int .i64 z.y)) := a1
  have HQ2 : Hid (w4.cell? ⟨b, off + m * 3 + 2, none⟩ = some (.int .i64 z.z)) := a2
  have HP0 : Hid (w4.cell? ⟨b2, off2, none⟩ = some (.int .i64 z.x)) := c0
  have HP1 : Hid (w4.cell? ⟨b2, off2 + 1, none⟩ = some (.int .i64 z.y)) := c1
  have HP2 : Hid (w4.cell? ⟨b2, off2 + 2, none⟩ = some (.int .i64 z.z)) := c2
  have HN2 : Hid ((0 : Int) < (c.length : Int)) := by show _ < _; omega
  have HN3 : Hid ((m : Int) < (a.length : Int)) := by show _ < _; omega
  have HV : Hid (Value.int .i64 (IntKind.i64.wrap ((a.length : Int) - 1)) = .int .i64 (m : Int)) := by
    show _ = _
    have := HM.out
    rw [wrap_is (by omega) (by omega)]
    congr 1
    omega
  clear a0 a1 a2 c0 c1 c2
  go_wp2_with fail
  refine region_inv [false, false, false, false, false, false, false, false, false, false, false, false, false, false, false, false, false, false, false, false, false, false, false, false, false, false, false, false, false, false, false, false, false, false, false, false, true, true, true, true, true, true, true, true, true, true, false, false, false, false]
    [(36, [], none), (37, [36], none), (38, [37], none), (39, [], none), (40, [], none), (41, [40], none), (42, [41], none), (43, [39, 42], none), (44, [43], none), (45, [38, 44], none)]
    (jn7V b off a.length cap b2 off2 c.length cap2 m z) (by kernel_rfl) (by kernel_rfl) (jn7V_mono b off a.length cap b2 off2 c.length cap2 m z) ?_ ?_
  · refine ⟨?_, ?_, ?_, ?_, ?_, ?_, ?_, ?_, ?_, ?_, trivial⟩
    · intro f w1 hb _ K hK
      simp only [over, overL, Nat.reduceAdd]
      go_simp
      exact hK _ _ ⟨_, rfl, by simp only [over, overL, Nat.reduceAdd]; rfl, Below.refl _ _⟩
    · intro f w1 hb ⟨h36, _⟩ K hK
      replace h36 : f 36 = _ := h36
      have hn2 := HN2.out
      simp only [over, overL, Nat.reduceAdd, h36]
      go_simp
      exact hK _ _ ⟨_, rfl, by simp only [over, overL, Nat.reduceAdd, h36]; rfl, Below.refl _ _⟩
    · intro f w1 hb ⟨h37, _⟩ K hK
      replace h37 : f 37 = _ := h37
      have q0 := cell_later hb HP0.out
      have q1 := cell_later hb HP1.out
      have q2 := cell_later hb HP2.out
      simp only [over, overL, Nat.reduceAdd, h37]
      go_simp
      exact hK _ _ ⟨_, rfl, by simp only [over, overL, Nat.reduceAdd, h37]; rfl, Below.refl _ _⟩
    · intro f w1 hb _ K hK
      simp only [over, overL, Nat.reduceAdd]
      go_simp
      exact hK _ _ ⟨_, rfl, by simp only [over, overL, Nat.reduceAdd]; rfl, Below.refl _ _⟩
    · intro f w1 hb _ K hK
      simp only [over, overL, Nat.reduceAdd]
      go_simp
      exact hK _ _ ⟨_, rfl, by simp only [over, overL, Nat.reduceAdd]; rfl, Below.refl _ _⟩
    · intro f w1 hb ⟨h40, _⟩ K hK
      replace h40 : f 40 = _ := h40
      simp only [over, overL, Nat.reduceAdd, h40]
      go_simp
      exact hK _ _ ⟨_, rfl, by simp only [over, overL, Nat.reduceAdd, h40]; rfl, Below.refl _ _⟩
    · intro f w1 hb ⟨h41, _⟩ K hK
      replace h41 : f 41 = _ := h41
      simp only [over, overL, Nat.reduceAdd, h41]
      go_simp
      exact hK _ _ ⟨_, HV.out, by simp only [over, overL, Nat.reduceAdd, h41]; rfl, Below.refl _ _⟩
    · intro f w1 hb ⟨h39, h42, _⟩ K hK
      replace h39 : f 39 = _ := h39
      replace h42 : f 42 = _ := h42
      have hn3 := HN3.out
      simp only [over, overL, Nat.reduceAdd, h39, h42]
      go_simp
      exact hK _ _ ⟨_, rfl, by simp only [over, overL, Nat.reduceAdd, h39, h42]; rfl, Below.refl _ _⟩
    · intro f w1 hb ⟨h43, _⟩ K hK
      replace h43 : f 43 = _ := h43
      have q0 := cell_later hb HQ0.out
      have q1 := cell_later hb HQ1.out
      have q2 := cell_later hb HQ2.out
      simp only [over, overL, Nat.reduceAdd, h43]
      go_simp
      exact hK _ _ ⟨_, rfl, by simp only [over, overL, Nat.reduceAdd, h43]; rfl, Below.refl _ _⟩
    · intro f w1 hb ⟨h38, h44, _⟩ K hK
      replace h38 : f 38 = _ := h38
      replace h44 : f 44 = _ := h44
      simp only [over, overL, Nat.reduceAdd, h38, h44]
      refine wp_binop rfl (by go_simp) (pt_neq_self _ w1) ?_
      exact hK _ _ ⟨_, rfl, by simp only [over, overL, Nat.reduceAdd, h38, h44], Below.refl _ _⟩
  intro f w5 hb hv
  have h45 : f 45 = _ := hv.2.2.2.2.2.2.2.2.2.1
  have HB5 : Hid (Below w.heap.size w w5) := HB4.out.trans (hb.mono HB4.out.size)
  clear hv hb HB4
  simp only [over_eq, overL, h45, Nat.reduceAdd]
  clear h45
  go_wp2_with fail
  have HWY : Hid (Ways (w5.alloc (.cells #[.slice (some ⟨b, off, none⟩) a.length cap, .slice (some ⟨b2, off2, none⟩) c.length cap2] 27)) w5.heap.size [⟨some ⟨b, off, none⟩, cap, a⟩, ⟨some ⟨b2, off2, none⟩, cap2, c⟩]) := by
    have q1 : Below w5.heap.size w5 (w5.alloc (.cells #[.slice (some ⟨b, off, none⟩) a.length cap, .slice (some ⟨b2, off2, none⟩) c.length cap2] 27)) := (Below.refl _ _).alloc (Nat.le_refl _) _
    refine ⟨Bk.new w5 [.slice (some ⟨b, off, none⟩) a.length cap, .slice (some ⟨b2, off2, none⟩) c.length cap2] 27 _ rfl, ?_, ?_, ?_, by simp⟩
    · intro x hx
      simp only [List.mem_cons, List.not_mem_nil, or_false] at hx
      rcases hx with rfl | rfl
      · exact (HA.out.next HB5.out).next q1
      · exact (HC.out.next HB5.out).next q1
    · intro x hx
      simp only [List.mem_cons, List.not_mem_nil, or_false] at hx
      rcases hx with rfl | rfl
      · exact HNA.out
      · exact HNC.out
    · intro x hx
      simp only [List.mem_cons, List.not_mem_nil, or_false] at hx
      rcases hx with rfl | rfl
      · simp only; omega
      · simp only; omega
  have HCS : Hid (Calls Try.prog 41 #[.slice (some ⟨w5.heap.size, 0, none⟩) 2 2] (w5.alloc (.cells #[.slice (some ⟨b, off, none⟩) a.length cap, .slice (some ⟨b2, off2, none⟩) c.length cap2] 27)) fun e w' => ∃ ao' cap', e = .returned (.slice ao' ((a ++ c).foldl stp []).length cap') ∧ Pns w' ao' ((a ++ c).foldl stp []) ∧ Below w.heap.size w w') := by
    have h := straightened_any w5.heap.size 2 _ _ HWY.out
    have eW : allW [⟨some ⟨b, off, none⟩, cap, a⟩, ⟨some ⟨b2, off2, none⟩, cap2, c⟩] = a ++ c := by simp [allW]
    rw [eW] at h
    refine Calls.mono h ?_
    rintro e w6 ⟨v, rfl, hK⟩
    obtain ⟨ao', cap', rfl, hcl, hpn⟩ := pns_of hK.own
    have q2 : Below w.heap.size w (w5.alloc (.cells #[.slice (some ⟨b, off, none⟩) a.length cap, .slice (some ⟨b2, off2, none⟩) c.length cap2] 27)) := HB5.out.alloc HB5.out.size _
    exact ⟨_, _, rfl, hpn, q2.trans (hK.below.mono q2.size)⟩
  clear HWY
  obtain ⟨L, hL⟩ : ∃ L, L = (a ++ c).foldl stp [] := ⟨_, rfl⟩
  rw [← hL] at HCS
  have HL : Hid (L = (a ++ c).foldl stp []) := hL
  clear hL
  refine Calls.mono HCS.out ?_
  rintro e w6 ⟨ao', cap', rfl, hpn, hb6⟩
  have HPN : Hid (Pns w6 ao' L) := hpn
  have HB6 : Hid (Below w.heap.size w w6) := hb6
  clear hpn hb6 HCS
  go_wp2
  refine bodyPost_ret (v := .tuple #[.slice ao' L.length cap', .int .i64 0]) (by simp [results, Try.results15, go_sem]) rfl ⟨ao', cap', by rw [← HL.out], by rw [← HL.out]; exact HPN.out, HB6.out⟩
end Go.Proofs.Ytgelbndbkmedlaa.S
