/- The document's FluidShare; workcelllaw.FluidShares, walked: it answers true. -/
import Derived.Test.YthfchkclojnfmaaRefS
namespace Go.Proofs.Ythfchkclojnfmaa
open Go.RowKit Go.Maps Go.WideMaps

set_option maxHeartbeats 800000 in
theorem fluidShare_any (ao : Option Addr) (cap : Nat) (ps : List Pc) (l : ByteArray) (w : World) (h : Fl w ao ps) (hr : fref ps = 0) (ht : tot ps ≠ 0) :
    Calls Try.prog 26 #[.slice ao ps.length cap, .string l] w fun e w' => e = .returned (.tuple #[.int .i64 (sumL ps l.data.toList / gcdL ps l), .int .i64 (tot ps / gcdL ps l)]) ∧ ∃ n, w' = w.drewN n := by
  have HF : Hid (Fl w ao ps) := h
  have HR : Hid (fref ps = 0) := hr
  have hi := fref_in hr
  have ht0 := tot_nonneg hi.2.1.nn
  have ht9 := hi.2.2
  have hs := sumL_in hi.2.1.nn l.data.toList
  obtain ⟨sn, hsn⟩ : ∃ n : Nat, sumL ps l.data.toList = (n : Int) := ⟨(sumL ps l.data.toList).toNat, by omega⟩
  obtain ⟨tn, htn⟩ : ∃ n : Nat, tot ps = (n : Int) := ⟨(tot ps).toNat, by omega⟩
  have HG : Hid (gcdL ps l = ((Nat.gcd sn tn : Nat) : Int)) := by unfold gcdL; rw [hsn, htn]; rfl
  have HSN : Hid (sumL ps l.data.toList = (sn : Int)) := hsn
  have HTN : Hid (tot ps = (tn : Int)) := htn
  have hsn2 : sn ≤ 1000000000000 := by omega
  have htn2 : tn ≤ 1000000000000 := by omega
  have htn3 : 0 < tn := by omega
  clear h hr hi hs ht ht0 ht9 hsn htn
  go_enter Try.func26, Try.ntmps26
  go_wp2_with fail
  refine (labelSum_any ao cap ps l w HF.out HR.out).mono ?_
  rintro e w1 ⟨rfl, hw1⟩
  obtain rfl := hw1.symm
  clear hw1
  rw [HSN.out]
  go_wp2_with fail
  refine (fluidTotal_any ao cap ps w HF.out HR.out).mono ?_
  rintro e w1 ⟨rfl, hw1⟩
  obtain rfl := hw1.symm
  clear hw1
  rw [HTN.out]
  go_wp2_with fail
  refine (lowest_any sn tn w hsn2 htn2 htn3).mono ?_
  rintro e w1 ⟨rfl, n1, rfl⟩
  rw [← HG.out]
  obtain ⟨G, hGG⟩ : ∃ G, gcdL ps l = G := ⟨_, rfl⟩
  have HGG : Hid (gcdL ps l = G) := hGG
  rw [hGG]
  clear hGG
  generalize hx : (sn : Int) / G = X at *
  generalize hy : (tn : Int) / G = Y at *
  have HX : Hid ((sn : Int) / G = X) := hx
  have HY : Hid ((tn : Int) / G = Y) := hy
  clear hx hy
  go_wp2
  go_ret2
  exact ⟨by rw [HSN.out, HTN.out, HGG.out, HX.out, HY.out]; rfl, n1, rfl⟩

set_option maxHeartbeats 3200000 in
theorem shares_any (ao ao' : Option Addr) (cap cap' : Nat) (ps qs : List Pc) (l : ByteArray) (w : World) (h : Fl w ao ps) (h' : Fl w ao' qs) (hl : l.size ≤ maxLen)
    (hp : ps.length * 24 ≤ 140737488351232) (hq : qs.length * 24 ≤ 140737488351232) :
    Calls Try.prog 5 #[.slice ao ps.length cap, .slice ao' qs.length cap', .string l] w fun e w' => e = .returned (.bool true) ∧ Below w.heap.size w w' := by
  have HF : Hid (Fl w ao ps) := h
  have HG : Hid (Fl w ao' qs) := h'
  clear h h'
  go_enter Try.func5, Try.ntmps5
  go_wp2_with fail
  refine (parcels_any ao cap ps w HF.out hp).mono ?_
  rintro e w1 ⟨a1, c1, rfl, hf1, hb⟩
  have F1 : Hid (Fl w1 a1 ps) := hf1
  have HB1 : Hid (Below w.heap.size w w1) := hb
  clear hf1 hb
  go_wp2_with fail
  refine (share_any a1 c1 ps l w1 F1.out hl).mono ?_
  rintro e w2 ⟨rfl, hb⟩
  have HB2 : Hid (Below w.heap.size w w2) := HB1.out.trans (hb.mono HB1.out.size)
  clear hb
  go_wp2_with fail
  refine (parcels_any ao cap ps w2 (HF.out.next HB2.out) hp).mono ?_
  rintro e w3 ⟨a3, c3, rfl, hf1, hb⟩
  have F3 : Hid (Fl w3 a3 ps) := hf1
  have HB3 : Hid (Below w.heap.size w w3) := HB2.out.trans (hb.mono HB2.out.size)
  clear hf1 hb
  go_wp2_with fail
  refine (parcels_any ao' cap' qs w3 (HG.out.next HB3.out) hq).mono ?_
  rintro e w4 ⟨a4, c4, rfl, hf1, hb⟩
  have F4 : Hid (Fl w4 a4 qs) := hf1
  have F34 : Hid (Fl w4 a3 ps) := F3.out.next hb
  have HB4 : Hid (Below w.heap.size w w4) := HB3.out.trans (hb.mono HB3.out.size)
  clear hf1 hb
  go_wp2_with fail
  refine (withinF_any a3 a4 c3 c4 ps qs w4 F34.out F4.out).mono ?_
  rintro e w5 ⟨rfl, hb⟩
  have HB5 : Hid (Below w.heap.size w w5) := HB4.out.trans (hb.mono HB4.out.size)
  clear hb
  go_wp2_with fail
  refine (fluidMay_any ao cap ps w5 (HF.out.next HB5.out) (by omega)).mono ?_
  rintro e w6 ⟨rfl, hw6⟩
  obtain rfl := hw6.symm
  clear hw6
  by_cases hr : fref ps = 0
  rotate_left
  · have HS : Hid (shareR ps l = (0, 0, fref ps)) := if_neg hr
    have HW : Hid (withR ps qs = (false, fref ps)) := by unfold withR; rw [if_neg hr]; rfl
    have hne : (fref ps == 0) = false := by simp [hr]
    have hne2 : (fref ps != 0) = true := by simp [hr]
    clear hr
    rw [HS.out, HW.out]
    simp only
    go_wp2
    go_ret
    exact ⟨rfl, HB5.out⟩
  have HR : Hid (fref ps = 0) := hr
  clear hr
  rw [HR.out]
  have F5 : Hid (Fl w5 ao ps) := HF.out.next HB5.out
  have G5 : Hid (Fl w5 ao' qs) := HG.out.next HB5.out
  cases hlab : lab l with
  | false =>
    have HL : Hid (lab l = false) := hlab
    have HS : Hid (shareR ps l = (0, 0, 3)) := by unfold shareR; rw [if_pos HR.out, if_neg (by rw [hlab]; decide)]; rfl
    clear hlab
    rw [HS.out]
    simp only
    go_wp2_with fail
    refine (labelMay_no l w5 hl HL.out).mono ?_
    rintro e w6 ⟨rfl, hw6⟩
    obtain rfl := hw6.symm
    clear hw6
    go_wp2_with fail
    refine (fluidMay_any ao' cap' qs w5 G5.out (by omega)).mono ?_
    rintro e w9 ⟨rfl, hw9⟩
    obtain rfl := hw9.symm
    clear hw9
    by_cases hr' : fref qs = 0
    · have HW : Hid (withR ps qs = (wthn ps qs, 0)) := by unfold withR; rw [if_pos HR.out, if_pos hr']; rfl
      have HR' : Hid (fref qs = 0) := hr'
      clear hr'
      rw [HR'.out, HW.out]
      simp only
      go_wp2_with fail
      refine (fluidWithin_any ao ao' cap cap' ps qs w5 F5.out G5.out HR.out HR'.out).mono ?_
      rintro e w9 ⟨rfl, hw9⟩
      obtain rfl := hw9.symm
      clear hw9
      generalize wthn ps qs = b at *
      cases b
      all_goals
        go_wp2
        go_ret
        exact ⟨rfl, HB5.out⟩
    · have HW : Hid (withR ps qs = (false, fref qs)) := by unfold withR; rw [if_pos HR.out, if_neg hr']; rfl
      have hne : (fref qs == 0) = false := by simp [hr']
      have hne2 : (fref qs != 0) = true := by simp [hr']
      clear hr'
      rw [HW.out]
      simp only
      go_wp2
      go_ret
      exact ⟨rfl, HB5.out⟩
  | true =>
    have HL : Hid (lab l = true) := hlab
    clear hlab
    by_cases ht : tot ps = 0
    · have HS : Hid (shareR ps l = (0, 0, 5)) := by unfold shareR; rw [if_pos HR.out, if_pos HL.out, if_pos ht]; rfl
      have hz : (tot ps == 0) = true := by simp [ht]
      clear ht
      rw [HS.out]
      simp only
      go_wp2_with fail
      refine (labelMay_yes l w5 hl HL.out).mono ?_
      rintro e w6 ⟨rfl, hw6⟩
      obtain rfl := hw6.symm
      clear hw6
      go_wp2_with fail
      refine (fluidTotal_any ao cap ps w5 F5.out HR.out).mono ?_
      rintro e w6 ⟨rfl, hw6⟩
      obtain rfl := hw6.symm
      clear hw6
      go_wp2_with fail
      refine (fluidMay_any ao' cap' qs w5 G5.out (by omega)).mono ?_
      rintro e w9 ⟨rfl, hw9⟩
      obtain rfl := hw9.symm
      clear hw9
      by_cases hr' : fref qs = 0
      · have HW : Hid (withR ps qs = (wthn ps qs, 0)) := by unfold withR; rw [if_pos HR.out, if_pos hr']; rfl
        have HR' : Hid (fref qs = 0) := hr'
        clear hr'
        rw [HR'.out, HW.out]
        simp only
        go_wp2_with fail
        refine (fluidWithin_any ao ao' cap cap' ps qs w5 F5.out G5.out HR.out HR'.out).mono ?_
        rintro e w9 ⟨rfl, hw9⟩
        obtain rfl := hw9.symm
        clear hw9
        generalize wthn ps qs = b at *
        cases b
        all_goals
          go_wp2
          go_ret
          exact ⟨rfl, HB5.out⟩
      · have HW : Hid (withR ps qs = (false, fref qs)) := by unfold withR; rw [if_pos HR.out, if_neg hr']; rfl
        have hne : (fref qs == 0) = false := by simp [hr']
        have hne2 : (fref qs != 0) = true := by simp [hr']
        clear hr'
        rw [HW.out]
        simp only
        go_wp2
        go_ret
        exact ⟨rfl, HB5.out⟩
    · have HS : Hid (shareR ps l = (sumL ps l.data.toList / gcdL ps l, tot ps / gcdL ps l, 0)) := by unfold shareR; rw [if_pos HR.out, if_pos HL.out, if_neg ht]; rfl
      have hz : (tot ps == 0) = false := by simp [ht]
      have HT : Hid (tot ps ≠ 0) := ht
      clear ht
      rw [HS.out]
      simp only
      generalize hX : sumL ps l.data.toList / gcdL ps l = X
      generalize hY : tot ps / gcdL ps l = Y
      have HX : Hid (sumL ps l.data.toList / gcdL ps l = X) := hX
      have HY : Hid (tot ps / gcdL ps l = Y) := hY
      clear hX hY
      go_wp2_with fail
      refine (labelMay_yes l w5 hl HL.out).mono ?_
      rintro e w6 ⟨rfl, hw6⟩
      obtain rfl := hw6.symm
      clear hw6
      go_wp2_with fail
      refine (fluidTotal_any ao cap ps w5 F5.out HR.out).mono ?_
      rintro e w6 ⟨rfl, hw6⟩
      obtain rfl := hw6.symm
      clear hw6
      go_wp2_with fail
      refine (fluidShare_any ao cap ps l w5 F5.out HR.out HT.out).mono ?_
      rintro e w6 ⟨rfl, n6, rfl⟩
      rw [HX.out, HY.out]
      have HB6 : Hid (Below w.heap.size w (w5.drewN n6)) := below_drewN HB5.out n6
      have F6 : Hid (Fl (w5.drewN n6) ao ps) := F5.out
      have G6 : Hid (Fl (w5.drewN n6) ao' qs) := G5.out
      go_wp2_with fail
      refine (fluidMay_any ao' cap' qs (w5.drewN n6) G6.out (by omega)).mono ?_
      rintro e w9 ⟨rfl, hw9⟩
      obtain rfl := hw9.symm
      clear hw9
      by_cases hr' : fref qs = 0
      · have HW : Hid (withR ps qs = (wthn ps qs, 0)) := by unfold withR; rw [if_pos HR.out, if_pos hr']; rfl
        have HR' : Hid (fref qs = 0) := hr'
        clear hr'
        rw [HR'.out, HW.out]
        simp only
        go_wp2_with fail
        refine (fluidWithin_any ao ao' cap cap' ps qs (w5.drewN n6) F6.out G6.out HR.out HR'.out).mono ?_
        rintro e w9 ⟨rfl, hw9⟩
        obtain rfl := hw9.symm
        clear hw9
        generalize wthn ps qs = b at *
        cases b
        all_goals
          go_wp2
          go_ret
          exact ⟨rfl, HB6.out⟩
      · have HW : Hid (withR ps qs = (false, fref qs)) := by unfold withR; rw [if_pos HR.out, if_neg hr']; rfl
        have hne : (fref qs == 0) = false := by simp [hr']
        have hne2 : (fref qs != 0) = true := by simp [hr']
        clear hr'
        rw [HW.out]
        simp only
        go_wp2
        go_ret
        exact ⟨rfl, HB6.out⟩
end Go.Proofs.Ythfchkclojnfmaa
