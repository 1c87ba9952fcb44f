/- workcellkeep.FluidKeeps, walked: it answers true. -/
import Derived.Test.YthfchkclojnfmaaSame
namespace Go.Proofs.Ythfchkclojnfmaa
open Go.RowKit

def exA : List Pc := [(⟨#[97]⟩, 5), (⟨#[98]⟩, 5)]
theorem exA_draw : drawF 7 exA = ([(⟨#[97]⟩, 5), (⟨#[98]⟩, 2)], [(⟨#[98]⟩, 3)], 0) := by decide +kernel
theorem exA_fl (w : World) : Fl (w.alloc (.cells #[.string ⟨#[97]⟩, .int .i64 5, .string ⟨#[98]⟩, .int .i64 5] 46)) (some ⟨w.heap.size, 0, none⟩) exA := by
  refine ⟨fun p hp => ?_, .inr ⟨w.heap.size, 0, rfl, by simp, fun k hk => ?_⟩⟩
  · simp only [exA, List.mem_cons, List.mem_nil_iff, or_false] at hp
    rcases hp with rfl | rfl <;> decide
  · match k, hk with
    | 0, _ => exact ⟨by go_simp; rfl, by go_simp; rfl⟩
    | 1, _ => exact ⟨by go_simp; rfl, by go_simp; rfl⟩

/-- A fluid of the call's own with labels of bounded size can be handed on. -/
theorem Own.hand {w : World} {base : Nat} {v : Value} {ps : List Pc} (h : Own w base v ps) (hs : fref ps = 0) : ∃ ao cap, v = .slice ao ps.length cap ∧ Fl w ao ps := by
  obtain ⟨ao, cap, rfl⟩ := h.shape
  refine ⟨ao, cap, rfl, h.fl fun p hp => ?_⟩
  have := lab_in ((fref_in hs).2.1 p hp).1
  unfold maxLen; omega

set_option maxHeartbeats 1600000 in
theorem keeps_any (ao : Option Addr) (cap : Nat) (ps : List Pc) (v : Int) (w : World) (h : Fl w ao ps) :
    Calls Try.prog 6 #[.slice ao ps.length cap, .int .i64 v] w fun e w' => e = .returned (.bool true) ∧ Below w.heap.size w w' := by
  have HF : Hid (Fl w ao ps) := h
  clear h
  go_enter Try.func6, Try.ntmps6
  go_wp2_with fail
  refine (draw_any (some ⟨w.heap.size, 0, none⟩) 2 exA 7 _ (exA_fl w)).mono ?_
  rintro e w1 ⟨x, y, rfl, hx, hy, hb⟩
  rw [exA_draw] at hx hy ⊢
  simp only at hx hy ⊢
  obtain ⟨ax, cx, rfl⟩ := hx.shape
  obtain ⟨gy, cy, rfl, _, _, y1, _, _⟩ := Own.last (acc := []) hy
  simp only [List.length_cons, List.length_nil, Nat.zero_add, Nat.zero_mul] at hx y1 ⊢
  have HB1 : Hid (Below w.heap.size w w1) := ((Below.refl _ _).alloc (Nat.le_refl _) _).trans (hb.mono (by simp))
  clear hx hy hb
  by_cases hr : fref ps = 0
  rotate_left
  · have HQ : Hid (plainR ps = ([], fref ps)) := if_neg hr
    have hne : (fref ps == 0) = false := by simp [hr]
    have hne2 : (fref ps != 0) = true := by simp [hr]
    clear hr
    go_wp2_with fail
    refine (plainF_any ao cap ps w1 (HF.out.next HB1.out)).mono ?_
    rintro e w2 ⟨p, rfl, hp, hb⟩
    rw [HQ.out] at hp ⊢
    obtain ⟨ap, cp, rfl⟩ := hp.shape
    simp only [List.length_nil] at hp ⊢
    have HB2 : Hid (Below w.heap.size w w2) := HB1.out.trans (hb.mono HB1.out.size)
    clear hp hb
    go_wp2
    go_ret
    exact ⟨rfl, HB2.out⟩
  have HQ : Hid (plainR ps = (plainL ps, 0)) := if_pos hr
  have HQt : Hid (totR ps = (tot ps, 0)) := if_pos hr
  have HR : Hid (fref ps = 0) := hr
  have HI : Hid (ps.length ≤ 100 ∧ Fine ps ∧ tot ps ≤ 1000000000) := fref_in hr
  have ht9 := HI.out.2.2
  have ht0 := tot_nonneg HI.out.2.1.nn
  clear hr
  go_wp2_with fail
  refine (plainF_any ao cap ps w1 (HF.out.next HB1.out)).mono ?_
  rintro e w2 ⟨p, rfl, hp, hb⟩
  rw [HQ.out] at hp ⊢
  have HB2 : Hid (Below w.heap.size w w2) := HB1.out.trans (hb.mono HB1.out.size)
  have hpf : fref (plainL ps) = 0 := of_fref (by have := length_plainL ps; have := HI.out.1; omega) (fine_plainL HI.out.2.1 ht9) (by rw [tot_plainL]; exact ht9)
  obtain ⟨ap, cp, rfl, hpl⟩ := hp.hand hpf
  have HP : Hid (Fl w2 ap (plainL ps)) := hpl
  clear hp hb hpf hpl
  simp only
  have hlp : (plainL ps).length ≤ 100 := by have := length_plainL ps; have := HI.out.1; omega
  go_wp2_with fail
  refine (totalF_any ao cap ps w2 (HF.out.next HB2.out)).mono ?_
  rintro e w3 ⟨rfl, hb⟩
  rw [HQt.out]
  have HB3 : Hid (Below w.heap.size w w3) := HB2.out.trans (hb.mono HB2.out.size)
  have HP3 : Hid (Fl w3 ap (plainL ps)) := HP.out.next hb
  clear hb HP
  simp only
  by_cases hv0 : v < 0
  · have HD : Hid (drawF v ps = ([], [], 2)) := by unfold drawF; rw [if_pos HR.out, if_pos hv0]; rfl
    go_wp2_with fail
    refine (draw_any ao cap ps v w3 (HF.out.next HB3.out)).mono ?_
    rintro e w4 ⟨x, y, rfl, hx, hy, hb⟩
    rw [HD.out]
    have HB4 : Hid (Below w.heap.size w w4) := HB3.out.trans (hb.mono HB3.out.size)
    clear hx hy hb
    go_wp2
    go_ret
    exact ⟨rfl, HB4.out⟩
  by_cases hvt : tot ps < v
  · have HD : Hid (drawF v ps = ([], [], 10)) := by unfold drawF; rw [if_pos HR.out, if_neg hv0, if_pos hvt]; rfl
    go_wp2_with fail
    refine (draw_any ao cap ps v w3 (HF.out.next HB3.out)).mono ?_
    rintro e w4 ⟨x, y, rfl, hx, hy, hb⟩
    rw [HD.out]
    have HB4 : Hid (Below w.heap.size w w4) := HB3.out.trans (hb.mono HB3.out.size)
    clear hx hy hb
    go_wp2
    go_ret
    exact ⟨rfl, HB4.out⟩
  have hv0' : 0 ≤ v := by omega
  have hvt' : v ≤ tot ps := by omega
  clear hv0 hvt
  have HDF : Hid (fref (drawS v ps).1 = 0 ∧ fref (drawS v ps).2.1 = 0) := draw_fine hv0' HR.out
  have HT : Hid (tot (drawS v ps).1 = v ∧ tot (drawS v ps).2.1 = tot ps - v) := by
    have h1 := tot_drawS v ps
    have h2 := drawS_enough hv0' HI.out.2.1.nn hvt'
    exact ⟨by omega, by omega⟩
  have HPut : Hid (putR (drawS v ps).1 (drawS v ps).2.1 = (plainL ps, 0)) := by
    have e := draw_put hv0' HI.out.2.1.nn
    unfold putR
    rw [if_pos HDF.out.1, if_pos HDF.out.2, HT.out.1, HT.out.2, if_neg (by omega), e, if_neg (by omega)]
    rfl
  have HT1 : Hid (totR (drawS v ps).1 = (v, 0)) := by unfold totR; rw [if_pos HDF.out.1, HT.out.1]; rfl
  have HT2 : Hid (totR (drawS v ps).2.1 = (tot ps - v, 0)) := by unfold totR; rw [if_pos HDF.out.2, HT.out.2]; rfl
  generalize hX : (drawS v ps).1 = X at *
  generalize hY : (drawS v ps).2.1 = Y at *
  have HX : Hid ((drawS v ps).1 = X) := hX
  have HY : Hid ((drawS v ps).2.1 = Y) := hY
  clear hX hY
  go_wp2_with fail
  refine (draw_ok ao cap ps v w3 (HF.out.next HB3.out) HR.out hv0' hvt').mono ?_
  rintro e w4 ⟨x, y, rfl, hx, hy, hb⟩
  rw [HX.out] at hx
  rw [HY.out] at hy
  obtain ⟨ax2, cx2, rfl, fx⟩ := hx.hand HDF.out.1
  obtain ⟨ay2, cy2, rfl, fy⟩ := hy.hand HDF.out.2
  have HB4 : Hid (Below w.heap.size w w4) := HB3.out.trans (hb.mono HB3.out.size)
  have HP4 : Hid (Fl w4 ap (plainL ps)) := HP3.out.next hb
  have FX : Hid (Fl w4 ax2 X) := fx
  have FY : Hid (Fl w4 ay2 Y) := fy
  clear hx hy hb fx fy HP3
  go_wp2_with fail
  refine (totalF_any ax2 cx2 X w4 FX.out).mono ?_
  rintro e w5 ⟨rfl, hb⟩
  rw [HT1.out]
  have HB5 : Hid (Below w4.heap.size w4 w5) := hb
  clear hb
  simp only
  go_wp2_with fail
  refine (totalF_any ay2 cy2 Y w5 (FY.out.next HB5.out)).mono ?_
  rintro e w6 ⟨rfl, hb⟩
  rw [HT2.out]
  have HB6 : Hid (Below w4.heap.size w4 w6) := HB5.out.trans (hb.mono HB5.out.size)
  clear hb
  simp only
  go_wp2_with fail
  refine (put_any ax2 ay2 cx2 cy2 X Y w6 (FX.out.next HB6.out) (FY.out.next HB6.out)).mono ?_
  rintro e w7 ⟨z, rfl, hz, hb⟩
  rw [HPut.out] at hz ⊢
  have hpf : fref (plainL ps) = 0 := of_fref hlp (fine_plainL HI.out.2.1 ht9) (by rw [tot_plainL]; exact ht9)
  obtain ⟨az, cz, rfl, hzf⟩ := hz.hand hpf
  have HB7 : Hid (Below w4.heap.size w4 w7) := HB6.out.trans (hb.mono HB6.out.size)
  have HZ : Hid (Fl w7 az (plainL ps)) := hzf
  clear hz hb hpf hzf
  simp only
  go_wp2_with fail
  refine (sameK_any az ap cz cp (plainL ps) w7 HZ.out (HP4.out.next HB7.out) (by omega)).mono ?_
  rintro e w8 ⟨rfl, n8, rfl⟩
  go_wp2
  go_ret
  exact ⟨rfl, below_drewN (HB4.out.trans (HB7.out.mono HB4.out.size)) n8⟩
end Go.Proofs.Ythfchkclojnfmaa
