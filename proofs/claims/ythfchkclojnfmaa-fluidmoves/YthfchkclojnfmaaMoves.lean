/- workcelllaw.FluidMoves, walked: it answers true. -/
import Derived.Test.YthfchkclojnfmaaRefE
import Derived.Test.YthfchkclojnfmaaTwice
namespace Go.Proofs.Ythfchkclojnfmaa
open Go.RowKit

/-- The document's Draw, of a fluid that may be. -/
def drawD (v : Int) (ps : List Pc) : List Pc × List Pc × Int := if v < 0 then ([], [], 2) else if tot ps < v then ([], [], 10) else ((drawS v ps).1, (drawS v ps).2.1, 0)
theorem drawD_eq {v : Int} {ps : List Pc} (h : fref ps = 0) : drawF v ps = drawD v ps := by unfold drawF drawD; rw [if_pos h]
set_option maxHeartbeats 800000 in
theorem fluidDraw_any (ao : Option Addr) (cap : Nat) (ps : List Pc) (v : Int) (w : World) (h : Fl w ao ps) (hr : fref ps = 0) :
    Calls Try.prog 21 #[.slice ao ps.length cap, .int .i64 v] w fun e w' => ∃ x y, e = .returned (.tuple #[x, y, .int .i64 (drawD v ps).2.2]) ∧ Own w' w.heap.size x (drawD v ps).1 ∧ Own w' w.heap.size y (drawD v ps).2.1 ∧ Below w.heap.size w w' := by
  by_cases hv : v < 0
  · have HQ : Hid (drawD v ps = ([], [], 2)) := by unfold drawD; rw [if_pos hv]; rfl
    clear h hr
    go_enter Try.func21, Try.ntmps21
    go_wp2
    go_ret3
    exact ⟨.slice none 0 0, .slice none 0 0, by rw [HQ.out]; rfl, by rw [HQ.out]; exact Own.nil _ _, by rw [HQ.out]; exact Own.nil _ _, Below.refl _ _⟩
  · by_cases ht : tot ps < v
    · have HQ : Hid (drawD v ps = ([], [], 10)) := by unfold drawD; rw [if_neg hv, if_pos ht]; rfl
      have HF : Hid (Fl w ao ps) := h
      have HR : Hid (fref ps = 0) := hr
      clear h hr
      go_enter Try.func21, Try.ntmps21
      go_wp2_with fail
      refine (fluidTotal_any ao cap ps w HF.out HR.out).mono ?_
      rintro e w1 ⟨rfl, hw1⟩
      obtain rfl := hw1.symm
      clear hw1
      go_wp2
      go_ret3
      exact ⟨.slice none 0 0, .slice none 0 0, by rw [HQ.out]; rfl, by rw [HQ.out]; exact Own.nil _ _, by rw [HQ.out]; exact Own.nil _ _, Below.refl _ _⟩
    · have e : drawD v ps = ((drawS v ps).1, (drawS v ps).2.1, 0) := by unfold drawD; rw [if_neg hv, if_neg ht]
      rw [e]
      exact fluidDraw_ok ao cap ps v w h hr (by omega) (by omega)

/-- What a call's own fluid is asked for, to be handed on. -/
theorem Own.give {w : World} {base : Nat} {v : Value} {ps : List Pc} (h : Own w base v ps) (hs : ∀ p ∈ ps, p.1.size ≤ maxLen) : ∃ ao cap, v = .slice ao ps.length cap ∧ Fl w ao ps := by
  obtain ⟨ao, cap, rfl⟩ := h.shape
  exact ⟨ao, cap, rfl, h.fl hs⟩
theorem fine_size {ps : List Pc} (h : fref ps = 0) : ∀ p ∈ ps, p.1.size ≤ maxLen := fun p hp => by
  have := lab_in ((fref_in h).2.1 p hp).1
  unfold maxLen; omega
theorem drawD_ok {v : Int} {ps : List Pc} (h : fref ps = 0) : ((∀ p ∈ (drawD v ps).1, p.1.size ≤ maxLen) ∧ (∀ p ∈ (drawD v ps).2.1, p.1.size ≤ maxLen)) ∧ (drawD v ps).1.length ≤ 100 ∧ (drawD v ps).2.1.length ≤ 100 := by
  have h1 := (fref_in h).1
  unfold drawD
  split
  · exact ⟨⟨(fun p hp => by cases hp), (fun p hp => by cases hp)⟩, by simp, by simp⟩
  · split
    · exact ⟨⟨(fun p hp => by cases hp), (fun p hp => by cases hp)⟩, by simp, by simp⟩
    · have h2 := draw_fine (v := v) (by omega) h
      have h3 := length_drawS v ps
      exact ⟨⟨fine_size h2.1, fine_size h2.2⟩, by simp only; omega, by simp only; omega⟩
theorem putD_ok {f g : List Pc} (h : fref f = 0) (h' : fref g = 0) : (∀ p ∈ (putD f g).1, p.1.size ≤ maxLen) ∧ (putD f g).1.length ≤ 100 := by
  unfold putD
  split
  · exact ⟨(fun p hp => by cases hp), by simp⟩
  · split
    · exact ⟨(fun p hp => by cases hp), by simp⟩
    · refine ⟨fine_size (of_fref (by simp only; omega) ?_ ?_), by simp only; omega⟩
      · refine fine_plainL (fun p hp => (List.mem_append.1 hp).elim ((fref_in h).2.1 p) ((fref_in h').2.1 p)) (by rw [tot_append]; omega)
      · rw [tot_plainL, tot_append]; omega

set_option maxHeartbeats 3200000 in
theorem moves_any (ao ao' : Option Addr) (cap cap' : Nat) (ps qs : List Pc) (v : Int) (w : World) (h : Fl w ao ps) (h' : Fl w ao' qs) (hc : ao = none → cap = 0) (hc' : ao' = none → cap' = 0)
    (hp : ps.length * 24 ≤ 140737488351232) (hq : qs.length * 24 ≤ 140737488351232) :
    Calls Try.prog 4 #[.slice ao ps.length cap, .slice ao' qs.length cap', .int .i64 v] w fun e w' => e = .returned (.bool true) ∧ Below w.heap.size w w' := by
  have HF : Hid (Fl w ao ps) := h
  have HG : Hid (Fl w ao' qs) := h'
  have HC : Hid (ao = none → cap = 0) := hc
  have HC' : Hid (ao' = none → cap' = 0) := hc'
  clear h h' hc hc'
  go_enter Try.func4, Try.ntmps4
  go_wp2_with fail
  refine (parcels_any ao cap ps w HF.out hp).mono ?_
  rintro e w1 ⟨a1, c1, rfl, hf1, hb⟩
  have F1 : Hid (Fl w1 a1 ps) := hf1
  have HB1 : Hid (Below w.heap.size w w1) := hb
  clear hf1 hb
  go_wp2_with fail
  refine (parcels_any ao' cap' qs w1 (HG.out.next HB1.out) hq).mono ?_
  rintro e w2 ⟨a2, c2, rfl, hf1, hb⟩
  have F2 : Hid (Fl w2 a2 qs) := hf1
  have F12 : Hid (Fl w2 a1 ps) := F1.out.next hb
  have HB2 : Hid (Below w.heap.size w w2) := HB1.out.trans (hb.mono HB1.out.size)
  clear hf1 hb
  go_wp2_with fail
  refine (put_any a1 a2 c1 c2 ps qs w2 F12.out F2.out).mono ?_
  rintro e w3 ⟨x3, rfl, hx, hb⟩
  have O3 : Hid (Own w3 w2.heap.size x3 (putR ps qs).1) := hx
  have HB3 : Hid (Below w.heap.size w w3) := HB2.out.trans (hb.mono HB2.out.size)
  clear hx hb
  go_wp2_with fail
  refine (parcels_any ao cap ps w3 (HF.out.next HB3.out) hp).mono ?_
  rintro e w4 ⟨a4, c4, rfl, hf1, hb⟩
  have F4 : Hid (Fl w4 a4 ps) := hf1
  have O4 : Hid (Own w4 w2.heap.size x3 (putR ps qs).1) := own_below O3.out hb
  have HB4 : Hid (Below w.heap.size w w4) := HB3.out.trans (hb.mono HB3.out.size)
  clear hf1 hb O3
  go_wp2_with fail
  refine (draw_any a4 c4 ps v w4 F4.out).mono ?_
  rintro e w5 ⟨x5, y5, rfl, hx, hy, hb⟩
  have O5 : Hid (Own w5 w2.heap.size x3 (putR ps qs).1) := own_below O4.out hb
  have X5 : Hid (Own w5 w4.heap.size x5 (drawF v ps).1) := hx
  have Y5 : Hid (Own w5 w4.heap.size y5 (drawF v ps).2.1) := hy
  have HB5 : Hid (Below w.heap.size w w5) := HB4.out.trans (hb.mono HB4.out.size)
  clear hx hy hb O4
  go_wp2_with fail
  refine (fluidMay_any ao cap ps w5 (HF.out.next HB5.out) (by omega)).mono ?_
  rintro e w6 ⟨rfl, hw6⟩
  obtain rfl := hw6.symm
  clear hw6
  by_cases hr : fref ps = 0
  rotate_left
  · have HP : Hid (putR ps qs = ([], fref ps)) := by unfold putR; rw [if_neg hr]; rfl
    have HD : Hid (drawF v ps = ([], [], fref ps)) := by unfold drawF; rw [if_neg hr]; rfl
    have hne : (fref ps == 0) = false := by simp [hr]
    have hne2 : (fref ps != 0) = true := by simp [hr]
    clear hr
    rw [HP.out] at O5 ⊢
    rw [HD.out] at X5 Y5 ⊢
    simp only at O5 X5 Y5 ⊢
    obtain ⟨ax, cx, rfl⟩ := O5.out.shape
    obtain ⟨ay, cy, rfl⟩ := X5.out.shape
    obtain ⟨az, cz, rfl⟩ := Y5.out.shape
    simp only [List.length_nil]
    go_wp2
    go_ret
    exact ⟨rfl, HB5.out⟩
  have HR : Hid (fref ps = 0) := hr
  clear hr
  rw [HR.out]
  rw [drawD_eq HR.out] at X5 Y5 ⊢
  have HDO : Hid (((∀ p ∈ (drawD v ps).1, p.1.size ≤ maxLen) ∧ (∀ p ∈ (drawD v ps).2.1, p.1.size ≤ maxLen)) ∧ (drawD v ps).1.length ≤ 100 ∧ (drawD v ps).2.1.length ≤ 100) := drawD_ok HR.out
  obtain ⟨ax, cx, rfl, fx⟩ := X5.out.give HDO.out.1.1
  obtain ⟨ay, cy, rfl, fy⟩ := Y5.out.give HDO.out.1.2
  have FX5 : Hid (Fl w5 ax (drawD v ps).1) := fx
  have FY5 : Hid (Fl w5 ay (drawD v ps).2.1) := fy
  clear fx fy X5 Y5
  go_wp2_with fail
  refine (fluidDraw_any ao cap ps v w5 (HF.out.next HB5.out) HR.out).mono ?_
  rintro e w6 ⟨x6, y6, rfl, hx, hy, hb⟩
  obtain ⟨ax6, cx6, rfl, fx⟩ := hx.give HDO.out.1.1
  obtain ⟨ay6, cy6, rfl, fy⟩ := hy.give HDO.out.1.2
  have FX6 : Hid (Fl w6 ax6 (drawD v ps).1) := fx
  have FY6 : Hid (Fl w6 ay6 (drawD v ps).2.1) := fy
  have FXa : Hid (Fl w6 ax (drawD v ps).1) := FX5.out.next hb
  have FYa : Hid (Fl w6 ay (drawD v ps).2.1) := FY5.out.next hb
  have O6 : Hid (Own w6 w2.heap.size x3 (putR ps qs).1) := own_below O5.out hb
  have HB6 : Hid (Below w.heap.size w w6) := HB5.out.trans (hb.mono HB5.out.size)
  clear hx hy hb fx fy FX5 FY5 O5
  have hl1 : (drawD v ps).1.length ≤ 100 := HDO.out.2.1
  have hl2 : (drawD v ps).2.1.length ≤ 100 := HDO.out.2.2
  clear HDO
  generalize drawD v ps = D at *
  obtain ⟨X, Y, r⟩ := D
  simp only at FX6 FY6 FXa FYa hl1 hl2 ⊢
  go_wp2_with fail
  refine (sameR_any ax ax6 cx cx6 X w6 FXa.out FX6.out (by omega)).mono ?_
  rintro e w7 ⟨rfl, n7, rfl⟩
  go_wp2_with fail
  refine (sameR_any ay ay6 cy cy6 Y (w6.drewN n7) (FYa.out.drewN n7) (FY6.out.drewN n7) (by omega)).mono ?_
  rintro e w8 ⟨rfl, n8, rfl⟩
  have HB7 : Hid (Below w.heap.size w ((w6.drewN n7).drewN n8)) := below_drewN (below_drewN HB6.out n7) n8
  have O7 : Hid (Own ((w6.drewN n7).drewN n8) w2.heap.size x3 (putR ps qs).1) := O6.out
  have G7 : Hid (Fl ((w6.drewN n7).drewN n8) ao' qs) := HG.out.next HB7.out
  have F7 : Hid (Fl ((w6.drewN n7).drewN n8) ao ps) := HF.out.next HB7.out
  clear FX6 FY6 FXa FYa hl1 hl2 O6
  generalize (w6.drewN n7).drewN n8 = w7 at *
  go_wp2_with fail
  refine (fluidMay_any ao' cap' qs w7 G7.out (by omega)).mono ?_
  rintro e w9 ⟨rfl, hw9⟩
  obtain rfl := hw9.symm
  clear hw9
  by_cases hr' : fref qs = 0
  rotate_left
  · have HP : Hid (putR ps qs = ([], fref qs)) := by unfold putR; rw [if_pos HR.out, if_neg hr']; rfl
    have hne : (fref qs == 0) = false := by simp [hr']
    have hne2 : (fref qs != 0) = true := by simp [hr']
    clear hr'
    rw [HP.out] at O7 ⊢
    simp only at O7 ⊢
    obtain ⟨ao9, co9, rfl⟩ := O7.out.shape
    simp only [List.length_nil]
    go_wp2
    go_ret
    exact ⟨rfl, HB7.out⟩
  have HR' : Hid (fref qs = 0) := hr'
  clear hr'
  rw [HR'.out]
  rw [putD_eq HR.out HR'.out] at O7 ⊢
  have HPO : Hid ((∀ p ∈ (putD ps qs).1, p.1.size ≤ maxLen) ∧ (putD ps qs).1.length ≤ 100) := putD_ok HR.out HR'.out
  obtain ⟨ap, cp, rfl, fp⟩ := O7.out.give HPO.out.1
  have FP7 : Hid (Fl w7 ap (putD ps qs).1) := fp
  clear fp O7
  go_wp2_with fail
  refine (fluidPut_any ao ao' cap cap' ps qs w7 F7.out G7.out HC.out HC'.out HR.out HR'.out).mono ?_
  rintro e w8 ⟨z8, rfl, hz, hb⟩
  obtain ⟨az, cz, rfl, fz⟩ := hz.give HPO.out.1
  have FZ8 : Hid (Fl w8 az (putD ps qs).1) := fz
  have FP8 : Hid (Fl w8 ap (putD ps qs).1) := FP7.out.next hb
  have HB8 : Hid (Below w.heap.size w w8) := HB7.out.trans (hb.mono HB7.out.size)
  have hl3 : (putD ps qs).1.length ≤ 100 := HPO.out.2
  clear hz hb fz FP7 HPO
  generalize putD ps qs = D at *
  obtain ⟨Z, r8⟩ := D
  simp only at FZ8 FP8 hl3 ⊢
  go_wp2_with fail
  refine (sameR_any ap az cp cz Z w8 FP8.out FZ8.out (by omega)).mono ?_
  rintro e w9 ⟨rfl, n9, rfl⟩
  go_wp2
  go_ret
  exact ⟨rfl, below_drewN HB8.out n9⟩
end Go.Proofs.Ythfchkclojnfmaa
