/- workcellkeep.FluidTwice, walked: it answers true. -/
import Derived.Test.YthfchkclojnfmaaKeeps
namespace Go.Proofs.Ythfchkclojnfmaa
open Go.RowKit

def exB : List Pc := [(⟨#[97]⟩, 5)]
theorem exB_draw : drawF 2 exB = ([(⟨#[97]⟩, 2)], [(⟨#[97]⟩, 3)], 0) := by decide +kernel
theorem exB_fl (w : World) : Fl (w.alloc (.cells #[.string ⟨#[97]⟩, .int .i64 5] 46)) (some ⟨w.heap.size, 0, none⟩) exB := by
  refine ⟨fun p hp => ?_, .inr ⟨w.heap.size, 0, rfl, by simp, fun k hk => ?_⟩⟩
  · simp only [exB, List.mem_cons, List.mem_nil_iff, or_false] at hp
    subst hp; decide
  · match k, hk with
    | 0, _ => exact ⟨by go_simp; rfl, by go_simp; rfl⟩

theorem Fl.drewN {w : World} {ao : Option Addr} {ps : List Pc} (h : Fl w ao ps) (n : Nat) : Fl (w.drewN n) ao ps := h

set_option maxHeartbeats 1600000 in
theorem twice_any (ao : Option Addr) (cap : Nat) (ps : List Pc) (a b : Int) (w : World) (h : Fl w ao ps) (ha1 : -9223372036854775808 ≤ a) (ha2 : a ≤ 9223372036854775807) (hb1 : -9223372036854775808 ≤ b) (hb2 : b ≤ 9223372036854775807) :
    Calls Try.prog 8 #[.slice ao ps.length cap, .int .i64 a, .int .i64 b] w fun e w' => e = .returned (.bool true) ∧ Below w.heap.size w w' := by
  have HF : Hid (Fl w ao ps) := h
  clear h
  go_enter Try.func8, Try.ntmps8
  go_wp2_with fail
  refine (draw_any (some ⟨w.heap.size, 0, none⟩) 1 exB 2 _ (exB_fl w)).mono ?_
  rintro e w1 ⟨x, y, rfl, hx, hy, hb⟩
  rw [exB_draw] at hx hy ⊢
  simp only at hx hy ⊢
  obtain ⟨gx, cx, rfl, _, _, x1, _, _⟩ := Own.last (acc := []) hx
  obtain ⟨ay, cy, rfl⟩ := hy.shape
  simp only [List.length_cons, List.length_nil, Nat.zero_add, Nat.zero_mul] at hx x1 ⊢
  have HB1 : Hid (Below w.heap.size w w1) := ((Below.refl _ _).alloc (Nat.le_refl _) _).trans (hb.mono (by simp))
  clear hx hy hb
  go_wp2_with fail
  refine (picked_any a w1 ha1 ha2).mono ?_
  rintro e w2 ⟨v, rfl, hv0, hv1, rfl⟩
  go_wp2_with fail
  refine (picked_any b _ hb1 hb2).mono ?_
  rintro e w2 ⟨u, rfl, hu0, hu1, rfl⟩
  by_cases hr : fref ps = 0 ∧ v ≤ tot ps
  rotate_left
  · obtain ⟨r, hr0, hQ⟩ : ∃ r : Int, r ≠ 0 ∧ drawF v ps = ([], [], r) := by
      unfold drawF
      by_cases h1 : fref ps = 0
      · have h2 : tot ps < v := by
          have : ¬ v ≤ tot ps := fun e => hr ⟨h1, e⟩
          omega
        exact ⟨10, by decide, by rw [if_pos h1, if_neg (by omega), if_pos h2]⟩
      · exact ⟨fref ps, h1, by rw [if_neg h1]⟩
    have HQ : Hid (drawF v ps = ([], [], r)) := hQ
    have hne : (r == 0) = false := by simp [hr0]
    have hne2 : (r != 0) = true := by simp [hr0]
    clear hr hr0 hQ
    go_wp2_with fail
    refine (draw_any ao cap ps v w2 (HF.out.next HB1.out)).mono ?_
    rintro e w3 ⟨x, y, rfl, hx, hy, hb⟩
    rw [HQ.out] at hx hy ⊢
    obtain ⟨ax, cx, rfl⟩ := hx.shape
    simp only [List.length_nil] at hx ⊢
    have HB2 : Hid (Below w.heap.size w w3) := HB1.out.trans (hb.mono HB1.out.size)
    clear hx hy hb
    go_wp2
    go_ret
    exact ⟨rfl, HB2.out⟩
  have HR : Hid (fref ps = 0) := hr.1
  have hvt := hr.2
  have HI : Hid (ps.length ≤ 100 ∧ Fine ps ∧ tot ps ≤ 1000000000) := fref_in HR.out
  have ht9 := HI.out.2.2
  clear hr
  have HDF : Hid (fref (drawS v ps).1 = 0 ∧ fref (drawS v ps).2.1 = 0) := draw_fine hv0 HR.out
  have HT : Hid (tot (drawS v ps).1 = v ∧ tot (drawS v ps).2.1 = tot ps - v) := by
    have h1 := tot_drawS v ps
    have h2 := drawS_enough hv0 HI.out.2.1.nn hvt
    exact ⟨by omega, by omega⟩
  have HTW : Hid (plainL ((drawS v ps).1 ++ (drawS u (drawS v ps).2.1).1) = (drawS (v + u) ps).1 ∧ (drawS u (drawS v ps).2.1).2.1 = (drawS (v + u) ps).2.1) := draw_twice hv0 hu0 HI.out.2.1.nn
  have HDZ : Hid (fref (drawS (v + u) ps).1 = 0 ∧ fref (drawS (v + u) ps).2.1 = 0) := draw_fine (by omega) HR.out
  have HDY : Hid (fref (drawS u (drawS v ps).2.1).1 = 0 ∧ fref (drawS u (drawS v ps).2.1).2.1 = 0) := draw_fine hu0 HDF.out.2
  have HTY : Hid (v + u ≤ tot ps → tot (drawS u (drawS v ps).2.1).1 = u) := fun h => by
    have h1 := tot_drawS u (drawS v ps).2.1
    have h2 := drawS_enough (ps := (drawS v ps).2.1) hu0 ((fref_in HDF.out.2).2.1.nn) (by rw [HT.out.2]; omega)
    omega
  generalize hX : (drawS v ps).1 = X at *
  generalize hL : (drawS v ps).2.1 = L at *
  have HX : Hid ((drawS v ps).1 = X) := hX
  have HL : Hid ((drawS v ps).2.1 = L) := hL
  clear hX hL
  go_wp2_with fail
  refine (draw_ok ao cap ps v w2 (HF.out.next HB1.out) HR.out hv0 hvt).mono ?_
  rintro e w3 ⟨x, y, rfl, hx, hy, hb⟩
  rw [HX.out] at hx
  rw [HL.out] at hy
  obtain ⟨ax2, cx2, rfl, fx⟩ := hx.hand HDF.out.1
  obtain ⟨al2, cl2, rfl, fl⟩ := hy.hand HDF.out.2
  have HB3 : Hid (Below w.heap.size w w3) := HB1.out.trans (hb.mono HB1.out.size)
  have FX : Hid (Fl w3 ax2 X) := fx
  have FL : Hid (Fl w3 al2 L) := fl
  clear hx hy hb fx fl
  by_cases hvu : v + u ≤ tot ps
  rotate_left
  · have HQ1 : Hid (drawF u L = ([], [], 10)) := by unfold drawF; rw [if_pos HDF.out.2, if_neg (by omega), if_pos (by rw [HT.out.2]; omega)]; rfl
    have HQ2 : Hid (drawF (v + u) ps = ([], [], 10)) := by unfold drawF; rw [if_pos HR.out, if_neg (by omega), if_pos (by omega)]; rfl
    go_wp2_with fail
    refine (draw_any al2 cl2 L u w3 FL.out).mono ?_
    rintro e w4 ⟨x, y, rfl, hx, hy, hb⟩
    rw [HQ1.out]
    have HB4 : Hid (Below w.heap.size w w4) := HB3.out.trans (hb.mono HB3.out.size)
    clear hx hy hb
    go_wp2_with fail
    refine (draw_any ao cap ps (v + u) w4 (HF.out.next HB4.out)).mono ?_
    rintro e w5 ⟨x, y, rfl, hx, hy, hb⟩
    rw [HQ2.out]
    have HB5 : Hid (Below w.heap.size w w5) := HB4.out.trans (hb.mono HB4.out.size)
    clear hx hy hb
    go_wp2
    go_ret
    exact ⟨rfl, HB5.out⟩
  have hlz : (drawS (v + u) ps).1.length ≤ 100 := by have := (length_drawS (v + u) ps).1; have := HI.out.1; omega
  have hlr : (drawS (v + u) ps).2.1.length ≤ 100 := by have := (length_drawS (v + u) ps).2; have := HI.out.1; omega
  have HPut : Hid (putR X (drawS u L).1 = ((drawS (v + u) ps).1, 0)) := by
    unfold putR
    rw [if_pos HDF.out.1, if_pos HDY.out.1, HT.out.1, HTY.out hvu, if_neg (by omega), HTW.out.1, if_neg (by omega)]
    rfl
  have HEnd : Hid ((drawS u L).2.1 = (drawS (v + u) ps).2.1) := HTW.out.2
  have huL : u ≤ tot L := by rw [HT.out.2]; omega
  generalize hY : (drawS u L).1 = Y at *
  have HY : Hid ((drawS u L).1 = Y) := hY
  generalize hZ : (drawS (v + u) ps).1 = Z at *
  have HZ : Hid ((drawS (v + u) ps).1 = Z) := hZ
  generalize hS : (drawS (v + u) ps).2.1 = S at *
  have HS : Hid ((drawS (v + u) ps).2.1 = S) := hS
  clear hY hZ hS
  go_wp2_with fail
  refine (draw_ok al2 cl2 L u w3 FL.out HDF.out.2 hu0 huL).mono ?_
  rintro e w4 ⟨x, y, rfl, hx, hy, hb⟩
  rw [HY.out] at hx
  rw [HEnd.out] at hy
  obtain ⟨ay3, cy3, rfl, fy⟩ := hx.hand HDY.out.1
  obtain ⟨ae3, ce3, rfl, fe⟩ := hy.hand HDZ.out.2
  have HB4 : Hid (Below w3.heap.size w3 w4) := hb
  have FY : Hid (Fl w4 ay3 Y) := fy
  have FE : Hid (Fl w4 ae3 S) := fe
  clear hx hy hb fy fe
  have HB5 : Hid (Below w.heap.size w w4) := HB3.out.trans (HB4.out.mono HB3.out.size)
  go_wp2_with fail
  refine (draw_ok ao cap ps (v + u) w4 (HF.out.next HB5.out) HR.out (by omega) hvu).mono ?_
  rintro e w5 ⟨x, y, rfl, hx, hy, hb⟩
  rw [HZ.out] at hx
  rw [HS.out] at hy
  obtain ⟨az4, cz4, rfl, fz⟩ := hx.hand HDZ.out.1
  obtain ⟨as4, cs4, rfl, fs⟩ := hy.hand HDZ.out.2
  have HB6 : Hid (Below w.heap.size w w5) := HB5.out.trans (hb.mono HB5.out.size)
  have FX5 : Hid (Fl w5 ax2 X) := (FX.out.next HB4.out).next hb
  have FY5 : Hid (Fl w5 ay3 Y) := FY.out.next hb
  have FE5 : Hid (Fl w5 ae3 S) := FE.out.next hb
  have FZ : Hid (Fl w5 az4 Z) := fz
  have FSs : Hid (Fl w5 as4 S) := fs
  clear hx hy hb fz fs
  go_wp2_with fail
  refine (put_any ax2 ay3 cx2 cy3 X Y w5 FX5.out FY5.out).mono ?_
  rintro e w6 ⟨z, rfl, hz, hb⟩
  rw [HPut.out] at hz ⊢
  obtain ⟨aa, ca, rfl, hzf⟩ := hz.hand HDZ.out.1
  have HB7 : Hid (Below w.heap.size w w6) := HB6.out.trans (hb.mono HB6.out.size)
  have FA : Hid (Fl w6 aa Z) := hzf
  have FZ6 : Hid (Fl w6 az4 Z) := FZ.out.next hb
  have FS6 : Hid (Fl w6 as4 S) := FSs.out.next hb
  have FE6 : Hid (Fl w6 ae3 S) := FE5.out.next hb
  clear hz hb hzf
  simp only
  go_wp2_with fail
  refine (sameK_any aa az4 ca cz4 Z w6 FA.out FZ6.out (by omega)).mono ?_
  rintro e w8 ⟨rfl, n8, rfl⟩
  go_wp2_with fail
  refine (sameK_any ae3 as4 ce3 cs4 S (w6.drewN n8) (FE6.out.drewN n8) (FS6.out.drewN n8) (by omega)).mono ?_
  rintro e w9 ⟨rfl, n9, rfl⟩
  go_wp2
  go_ret
  exact ⟨rfl, below_drewN HB7.out (n8 + n9)⟩
end Go.Proofs.Ythfchkclojnfmaa
