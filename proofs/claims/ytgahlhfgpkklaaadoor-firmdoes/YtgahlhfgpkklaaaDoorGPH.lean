/- FirmDo of the document: what it answers. -/
import Derived.Test.YtgahlhfgpkklaaaDoorGFH
import Derived.Test.YtgahlhfgpkklaaaDoorGGH
import Derived.Test.YtgahlhfgpkklaaaDoorGHH
import Derived.Test.YtgahlhfgpkklaaaDoorGIH
import Derived.Test.YtgahlhfgpkklaaaDoorGJH
import Derived.Test.YtgahlhfgpkklaaaDoorGKH
import Derived.Test.YtgahlhfgpkklaaaDoorGMH
import Derived.Test.YtgahlhfgpkklaaaDoorGOH
namespace Go.Proofs.YtgahlhfgpkklaaaDoor
open Go.RowKit Go.Maps

theorem end_no {r : Rg} {f : Fm} {c : Cm} {w : World} (hr : rgOk r = true) (hf : fmOk r f = true) {n : Int} (hn : n ≠ 0) (e : doN r f c = n)
    (h : Calls Tryd.prog 14 #[rgv r, fv f, cmv c] w fun e w' => e = .returned (.tuple #[zfv, .int .i64 n]) ∧ Below w.heap.size w w') :
    Calls Tryd.prog 14 #[rgv r, fv f, cmv c] w fun e w' => e = .returned (.tuple #[fv (DoV r f c), .int .i64 (DoE r f c)]) ∧ Below w.heap.size w w' := by
  have e1 : DoE r f c = n := by unfold DoE; rw [if_neg (by rw [hr]; simp), if_neg (by rw [hf]; simp), e]
  have e2 : DoV r f c = f0 := by unfold DoV; rw [e1, if_neg hn]
  rw [e1, e2]
  exact h
theorem end_ok {r : Rg} {f : Fm} {c : Cm} {w : World} (hr : rgOk r = true) (hf : fmOk r f = true) {g : Fm} (e : doN r f c = 0) (hg : obF r f c = g)
    (h : Calls Tryd.prog 14 #[rgv r, fv f, cmv c] w fun e w' => e = .returned (.tuple #[fv g, .int .i64 0]) ∧ Below w.heap.size w w') :
    Calls Tryd.prog 14 #[rgv r, fv f, cmv c] w fun e w' => e = .returned (.tuple #[fv (DoV r f c), .int .i64 (DoE r f c)]) ∧ Below w.heap.size w w' := by
  have e1 : DoE r f c = 0 := by unfold DoE; rw [if_neg (by rw [hr]; simp), if_neg (by rw [hf]; simp), e]
  have e2 : DoV r f c = g := by unfold DoV; rw [e1, if_pos rfl, hg]
  rw [e1, e2]
  exact h
theorem chk_bd {c : Cm} (h : chkM c = 0) : 1 ≤ c.k ∧ c.k ≤ 8 ∧ 0 ≤ c.v ∧ c.v ≤ 1000000000 := by
  unfold chkM chkC at h
  split at h
  · cases h
  · rename_i h1
    split at h
    · cases h
    · rename_i h2
      have h3 : inRg c.x c.y c.z c.v = true := by simpa using h2
      have h4 := inRg_iff.1 h3
      omega
theorem firmDo_any (r : Rg) (f : Fm) (c : Cm) (w : World) (hr : rgOk r = true) (hf : fmOk r f = true) :
    Calls Tryd.prog 14 #[rgv r, fv f, cmv c] w fun e w' => e = .returned (.tuple #[fv (DoV r f c), .int .i64 (DoE r f c)]) ∧ Below w.heap.size w w' := by
  have R := rgOk_iff.1 hr
  have F := fmOk_iff.1 hf
  have tk := F.tk
  have hn : ¬ 1000000000000000 < f.tk := by omega
  by_cases h : chkM c = 0
  · have hb := chk_bd h
    have hx : c.k = 1 ∨ c.k = 2 ∨ c.k = 3 ∨ c.k = 4 ∨ c.k = 5 ∨ c.k = 6 ∨ c.k = 7 ∨ c.k = 8 := by omega
    have hd : doN r f c = numE (obE r f c) := by unfold doN; rw [if_pos h]
    rcases hx with hk | hk | hk | hk | hk | hk | hk | hk
    · cases hm : f.hm with
      | false =>
        have tb := tick_bd R (in_hi R) (in_lo R)
        by_cases hl : 1000000000000000 < f.tk + tick r r.hi r.lo
        · exact end_no hr hf (n := 8) (by decide) (by rw [hd]; simp [obE, errC, hk, durC, homeT, hm, hl, numE]) (firmDo_home_late r f c w h 0 0 _ _ hk hm (IntWalk.i64_in _ ⟨by omega, by omega⟩) (fun W => ticksFor_any r _ _ W R (in_hi R) (in_lo R)) hl)
        · exact end_ok hr hf (by rw [hd]; simp [obE, errC, hk, durC, homeT, hm, hl, numE]) (by simp [obF, hk, durC, homeT, hm, p0]) (firmDo_home r f c w h 0 0 _ _ hk hm (IntWalk.i64_in _ ⟨by omega, by omega⟩) (fun W => ticksFor_any r _ _ W R (in_hi R) (in_lo R)) hl)
      | true =>
        have tb := tick_bd R F.at' (in_zero R)
        by_cases hl : 1000000000000000 < f.tk + tick r f.pt p0
        · exact end_no hr hf (n := 8) (by decide) (by rw [hd]; simp [obE, errC, hk, durC, homeT, hm, hl, numE]) (firmDo_homed_late r f c w h 0 0 _ _ hk hm (IntWalk.i64_in _ ⟨by omega, by omega⟩) (fun W => ticksFor_any r _ p0 W R F.at' (in_zero R)) hl)
        · exact end_ok hr hf (by rw [hd]; simp [obE, errC, hk, durC, homeT, hm, hl, numE]) (by simp [obF, hk, durC, homeT, hm, p0]) (firmDo_homed r f c w h 0 0 _ _ hk hm (IntWalk.i64_in _ ⟨by omega, by omega⟩) (fun W => ticksFor_any r _ p0 W R F.at' (in_zero R)) hl)
    · cases hm : f.hm with
      | false => exact end_no hr hf (n := 15) (by decide) (by rw [hd]; simp [obE, errC, hk, hm, numE]) (firmDo_hm2 r f c w h hk hm)
      | true =>
        cases hi : inS r (toP c) with
        | false => exact end_no hr hf (n := 13) (by decide) (by rw [hd]; simp [obE, errC, hk, hm, hi, numE]) (firmDo_out r f c w h hk hm (fun W => by have := inside_any r (toP c) W; rwa [hi] at this))
        | true =>
          have tb := tick_bd R F.at' hi
          have hin : ∀ W, Calls Tryd.prog 25 #[rgv r, .agg #[.int .i64 c.x, .int .i64 c.y, .int .i64 c.z]] W fun e w' => e = .returned (.bool true) ∧ Below W.heap.size W w' := fun W => by have := inside_any r (toP c) W; rwa [hi] at this
          by_cases hl : 1000000000000000 < f.tk + tick r f.pt (toP c)
          · exact end_no hr hf (n := 8) (by decide) (by rw [hd]; simp [obE, errC, hk, durC, hm, hi, hl, numE]) (firmDo_go_late r f c w h 0 0 _ _ hk hm hin (IntWalk.i64_in _ ⟨by omega, by omega⟩) (fun W => ticksFor_any r _ (toP c) W R F.at' hi) hl)
          · exact end_ok hr hf (by rw [hd]; simp [obE, errC, hk, durC, hm, hi, hl, numE]) (by simp [obF, hk, durC, hm, toP]) (firmDo_go r f c w h 0 0 _ _ hk hm hin (IntWalk.i64_in _ ⟨by omega, by omega⟩) (fun W => ticksFor_any r _ (toP c) W R F.at' hi) hl)
    · cases hm : f.hm with
      | false => exact end_no hr hf (n := 15) (by decide) (by rw [hd]; simp [obE, errC, hk, hm, numE]) (firmDo_hm3 r f c w h hk hm)
      | true =>
        cases ht : f.tp with
        | false => exact end_no hr hf (n := 12) (by decide) (by rw [hd]; simp [obE, errC, hk, hm, ht, numE]) (firmDo_tip3 r f c w h hk hm ht)
        | true =>
          by_cases hv : r.mo < c.v
          · exact end_no hr hf (n := 9) (by decide) (by rw [hd]; simp [obE, errC, hk, hm, ht, hv, numE]) (firmDo_full r f c w h hk hm ht hv)
          · have pb := F.pl
            have mb := R.mo
            have s0 : 0 ≤ chg f.pl c.v ∧ chg f.pl c.v ≤ 1000000000 := by unfold chg; omega
            have ub := upB_bd s0.1 (b := 1000) (by decide)
            have hs : ∀ W, Calls Tryd.prog 29 #[.int .i64 (c.v - f.pl)] W fun e w' => e = .returned (.int .i64 (chg f.pl c.v)) ∧ w' = W := fun W => by
              rw [show chg f.pl c.v = max (c.v - f.pl) (-(c.v - f.pl)) by unfold chg; omega]
              exact size_any _ W (by omega) (by omega)
            by_cases hl : 1000000000000000 < f.tk + upB (chg f.pl c.v) 1000
            · exact end_no hr hf (n := 8) (by decide) (by rw [hd]; simp [obE, errC, hk, durC, hm, ht, hv, hl, numE]) (firmDo_plug_late r f c w h _ _ _ _ hk hm ht hv (IntWalk.i64_in _ ⟨by omega, by omega⟩) hs (IntWalk.i64_in _ ⟨by omega, by omega⟩) (fun W => roundUp_any _ 1000 W s0.1 (by omega) (by decide) (by decide)) hl)
            · exact end_ok hr hf (by rw [hd]; simp [obE, errC, hk, durC, hm, ht, hv, hl, numE]) (by simp [obF, hk, durC]) (firmDo_plug r f c w h _ _ _ _ hk hm ht hv (IntWalk.i64_in _ ⟨by omega, by omega⟩) hs (IntWalk.i64_in _ ⟨by omega, by omega⟩) (fun W => roundUp_any _ 1000 W s0.1 (by omega) (by decide) (by decide)) hl)
    · cases hm : f.hm with
      | false => exact end_no hr hf (n := 15) (by decide) (by rw [hd]; simp [obE, errC, hk, hm, numE]) (firmDo_hm4 r f c w h hk hm)
      | true =>
        cases ht : f.tp with
        | true => exact end_no hr hf (n := 12) (by decide) (by rw [hd]; simp [obE, errC, hk, hm, ht, numE]) (firmDo_tip4 r f c w h hk hm ht)
        | false => exact end_ok hr hf (by rw [hd]; simp [obE, errC, hk, durC, hm, ht, hn, numE]) (by simp [obF, hk, hm]) (firmDo_grab r f c w h hk hm ht tk.2)
    · cases hm : f.hm with
      | false => exact end_no hr hf (n := 15) (by decide) (by rw [hd]; simp [obE, errC, hk, hm, numE]) (firmDo_hm5 r f c w h hk hm)
      | true =>
        cases ht : f.tp with
        | false => exact end_no hr hf (n := 12) (by decide) (by rw [hd]; simp [obE, errC, hk, hm, ht, numE]) (firmDo_tip5 r f c w h hk hm ht)
        | true => exact end_ok hr hf (by rw [hd]; simp [obE, errC, hk, durC, hm, ht, hn, numE]) (by simp [obF, hk, hm]) (firmDo_eject r f c w h hk hm ht tk.2)
    · exact end_ok hr hf (by rw [hd]; simp [obE, errC, hk, durC, hn, numE]) (by simp [obF, hk]) (firmDo_cook r f c w h hk tk.2)
    · have cb : 1 ≤ r.rp.c ∧ r.rp.c ≤ 100000000 := by
        have := R.rp
        rw [rpOk_ref] at this
        simp only [Bool.and_eq_true, inR_iff] at this
        exact this.1
      have m0 : 0 ≤ c.v * r.rp.c := Int.mul_nonneg hb.2.2.1 (by omega)
      have m1 : c.v * r.rp.c ≤ 1000000000 * 100000000 := Int.mul_le_mul hb.2.2.2 cb.2 (by omega) (by decide)
      have ub := upB_bd m0 (b := 1000) (by decide)
      by_cases hl : 1000000000000000 < f.tk + upB (c.v * r.rp.c) 1000
      · exact end_no hr hf (n := 8) (by decide) (by rw [hd]; simp [obE, errC, hk, durC, hl, numE]) (firmDo_rest_late r f c w h _ 0 _ _ hk (IntWalk.i64_in _ ⟨by omega, by omega⟩) (IntWalk.i64_in _ ⟨by omega, by omega⟩) (fun W => roundUp_any _ 1000 W m0 (by omega) (by decide) (by decide)) hl)
      · exact end_ok hr hf (by rw [hd]; simp [obE, errC, hk, durC, hl, numE]) (by simp [obF, hk, durC]) (firmDo_rest r f c w h _ 0 _ _ hk (IntWalk.i64_in _ ⟨by omega, by omega⟩) (IntWalk.i64_in _ ⟨by omega, by omega⟩) (fun W => roundUp_any _ 1000 W m0 (by omega) (by decide) (by decide)) hl)
    · exact end_ok hr hf (by rw [hd]; simp [obE, errC, hk, durC, hn, numE]) (by simp [obF, hk]) (firmDo_turn r f c w h hk tk.2)
  · exact end_no hr hf h (by unfold doN; rw [if_neg h]) (firmDo_chk r f c w (chkM c) rfl h)
end Go.Proofs.YtgahlhfgpkklaaaDoor
