/- workcelllaw.FluidForms, walked: it answers true. -/
import Derived.Test.YthfchkclojnfmaaRefT
namespace Go.Proofs.Ythfchkclojnfmaa
open Go.RowKit Go.Maps Go.WideMaps


set_option maxHeartbeats 3200000 in
theorem forms_any (ao : Option Addr) (cap : Nat) (ps : List Pc) (w : World) (h : Fl w ao ps) (hp : ps.length * 24 ≤ 140737488351232) :
    Calls Try.prog 3 #[.slice ao ps.length cap] w fun e w' => e = .returned (.bool true) ∧ Below w.heap.size w w' := by
  have HF : Hid (Fl w ao ps) := h
  clear h
  go_enter Try.func3, Try.ntmps3
  go_wp2_with fail
  refine (parcels_any ao cap ps w HF.out hp).mono ?_
  rintro e w1 ⟨a1, c1, rfl, hf1, hb⟩
  have F1 : Hid (Fl w1 a1 ps) := hf1
  have HB1 : Hid (Below w.heap.size w w1) := hb
  clear hf1 hb
  go_wp2_with fail
  refine (check_any a1 c1 ps w1 F1.out).mono ?_
  rintro e w2 ⟨rfl, hb⟩
  have HB2 : Hid (Below w.heap.size w w2) := HB1.out.trans (hb.mono HB1.out.size)
  clear hb
  go_wp2_with fail
  refine (parcels_any ao cap ps w2 (HF.out.next HB2.out) hp).mono ?_
  rintro e w3 ⟨a3, c3, rfl, hf1, hb⟩
  have F3 : Hid (Fl w3 a3 ps) := hf1
  have HB3 : Hid (Below w.heap.size w w3) := HB2.out.trans (hb.mono HB2.out.size)
  clear hf1 hb
  go_wp2_with fail
  refine (plainF_any a3 c3 ps w3 F3.out).mono ?_
  rintro e w4 ⟨v4, rfl, ho4, hb⟩
  have O4 : Hid (Own w4 w3.heap.size v4 (plainR ps).1) := ho4
  have HB4 : Hid (Below w.heap.size w w4) := HB3.out.trans (hb.mono HB3.out.size)
  clear ho4 hb
  go_wp2_with fail
  refine (parcels_any ao cap ps w4 (HF.out.next HB4.out) hp).mono ?_
  rintro e w5 ⟨a5, c5, rfl, hf1, hb⟩
  have F5 : Hid (Fl w5 a5 ps) := hf1
  have O5 : Hid (Own w5 w3.heap.size v4 (plainR ps).1) := own_below O4.out hb
  have HB5 : Hid (Below w.heap.size w w5) := HB4.out.trans (hb.mono HB4.out.size)
  clear hf1 hb O4
  go_wp2_with fail
  refine (totalF_any a5 c5 ps w5 F5.out).mono ?_
  rintro e w6 ⟨rfl, hb⟩
  have O6 : Hid (Own w6 w3.heap.size v4 (plainR ps).1) := own_below O5.out hb
  have HB6 : Hid (Below w.heap.size w w6) := HB5.out.trans (hb.mono HB5.out.size)
  clear hb O5
  go_wp2_with fail
  refine (parcels_any ao cap ps w6 (HF.out.next HB6.out) hp).mono ?_
  rintro e w7 ⟨a7, c7, rfl, hf1, hb⟩
  have F7 : Hid (Fl w7 a7 ps) := hf1
  have O7 : Hid (Own w7 w3.heap.size v4 (plainR ps).1) := own_below O6.out hb
  have HB7 : Hid (Below w.heap.size w w7) := HB6.out.trans (hb.mono HB6.out.size)
  clear hf1 hb O6
  by_cases hr : fref ps = 0
  rotate_left
  · have HP : Hid (plainR ps = ([], fref ps)) := if_neg hr
    have HT : Hid (totR ps = (0, fref ps)) := if_neg hr
    have HNR : Hid (fref ps ≠ 0) := hr
    have hne : (fref ps == 0) = false := by simp [hr]
    have hne2 : (fref ps != 0) = true := by simp [hr]
    clear hr
    rw [HP.out] at O7 ⊢
    rw [HT.out]
    simp only at O7 ⊢
    obtain ⟨a8, c8, rfl⟩ := O7.out.shape
    simp only [List.length_nil]
    clear O7
    go_wp2_with fail
    refine (sorted_no a7 c7 ps w7 F7.out HNR.out).mono ?_
    rintro e w8 ⟨rfl, hb⟩
    have HB8 : Hid (Below w.heap.size w w8) := HB7.out.trans (hb.mono HB7.out.size)
    clear hb
    go_wp2_with fail
    refine (fluidMay_any ao cap ps w8 (HF.out.next HB8.out) (by omega)).mono ?_
    rintro e w9 ⟨rfl, hw9⟩
    obtain rfl := hw9.symm
    clear hw9
    go_wp2
    go_ret
    exact ⟨rfl, HB8.out⟩
  have HR : Hid (fref ps = 0) := hr
  have HP : Hid (plainR ps = (plainL ps, 0)) := if_pos hr
  have HT : Hid (totR ps = (tot ps, 0)) := if_pos hr
  have HI : Hid (ps.length ≤ 100 ∧ Fine ps ∧ tot ps ≤ 1000000000) := fref_in hr
  clear hr
  rw [HP.out] at O7 ⊢
  rw [HT.out, HR.out]
  simp only at O7 ⊢
  have hlp : (plainL ps).length ≤ 100 := by have := length_plainL ps; have := HI.out.1; omega
  have HPF : Hid (fref (plainL ps) = 0) := of_fref hlp (fine_plainL HI.out.2.1 HI.out.2.2) (by rw [tot_plainL]; exact HI.out.2.2)
  obtain ⟨a8, c8, rfl, f8⟩ := O7.out.give (fine_size HPF.out)
  have F8 : Hid (Fl w7 a8 (plainL ps)) := f8
  clear O7 f8
  go_wp2_with fail
  refine (sorted_ok a7 c7 ps w7 F7.out HR.out).mono ?_
  rintro e w8 ⟨v8, S, rfl, hS, hSl, ho8, hb⟩
  obtain ⟨a9, c9, rfl, f9⟩ := ho8.give (srt_size HR.out hS)
  have F9 : Hid (Fl w8 a9 S) := f9
  have F88 : Hid (Fl w8 a8 (plainL ps)) := F8.out.next hb
  have HS : Hid (Srt ps S) := hS
  have HB8 : Hid (Below w.heap.size w w8) := HB7.out.trans (hb.mono HB7.out.size)
  have hSl2 : S.length ≤ 100 := by have := HI.out.1; omega
  clear ho8 hb hS f9 hSl
  go_wp2_with fail
  refine (fluidMay_any ao cap ps w8 (HF.out.next HB8.out) (by omega)).mono ?_
  rintro e w9 ⟨rfl, hw9⟩
  obtain rfl := hw9.symm
  clear hw9
  rw [HR.out]
  go_wp2_with fail
  refine (fluidPlain_any ao cap ps w8 (HF.out.next HB8.out) ⟨HI.out.2.1.nn, by have := HI.out.2.2; omega, by have := HI.out.1; omega⟩).mono ?_
  rintro e w9 ⟨v9, rfl, ho9, hb⟩
  obtain ⟨a10, c10, rfl, f10⟩ := ho9.give (fine_size HPF.out)
  have F10 : Hid (Fl w9 a10 (plainL ps)) := f10
  have F89 : Hid (Fl w9 a8 (plainL ps)) := F88.out.next hb
  have F99 : Hid (Fl w9 a9 S) := F9.out.next hb
  have HB9 : Hid (Below w.heap.size w w9) := HB8.out.trans (hb.mono HB8.out.size)
  clear ho9 hb f10
  go_wp2_with fail
  refine (sameR_any a8 a10 c8 c10 (plainL ps) w9 F89.out F10.out (by omega)).mono ?_
  rintro e w10 ⟨rfl, n10, rfl⟩
  have HB10 : Hid (Below w.heap.size w (w9.drewN n10)) := below_drewN HB9.out n10
  have F9x : Hid (Fl (w9.drewN n10) a9 S) := F99.out
  clear F10 F89 F99
  generalize w9.drewN n10 = w10 at *
  go_wp2_with fail
  refine (fluidTotal_any ao cap ps w10 (HF.out.next HB10.out) HR.out).mono ?_
  rintro e w11 ⟨rfl, hw11⟩
  obtain rfl := hw11.symm
  clear hw11
  go_wp2_with fail
  refine (fluidSorted_any ao cap ps w10 (HF.out.next HB10.out) HR.out).mono ?_
  rintro e w11 ⟨v11, S2, rfl, hS2, ho11, hb⟩
  have e2 : S2 = S := srt_unique hS2 HS.out
  subst e2
  obtain ⟨a12, c12, rfl, f12⟩ := ho11.give (srt_size HR.out hS2)
  have F12 : Hid (Fl w11 a12 S2) := f12
  have F912 : Hid (Fl w11 a9 S2) := F9x.out.next hb
  have HB11 : Hid (Below w.heap.size w w11) := HB10.out.trans (hb.mono HB10.out.size)
  clear ho11 hb hS2 f12
  go_wp2_with fail
  refine (sameR_any a9 a12 c9 c12 S2 w11 F912.out F12.out (by omega)).mono ?_
  rintro e w12 ⟨rfl, n12, rfl⟩
  go_wp2
  go_ret
  exact ⟨rfl, below_drewN HB11.out n12⟩
end Go.Proofs.Ythfchkclojnfmaa
