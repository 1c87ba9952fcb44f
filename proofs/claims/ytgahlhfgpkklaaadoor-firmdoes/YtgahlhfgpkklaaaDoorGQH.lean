/- Start walked. -/
import Derived.Test.YtgahlhfgpkklaaaDoorFQH
namespace Go.Proofs.YtgahlhfgpkklaaaDoor
open Go.RowKit Go.Maps

set_option linter.unusedVariables false in
def stV (B : Nat) (ev : Value) (x : Int) (i : Nat) (l : List Value) (w : World) : Prop :=
  match i, l with
  | 0, [v] => v = .pointer (some ⟨B, 12, none⟩)
  | 1, [v] => v = zfv
  | 2, [v] => v = ev
  | 3, [v] => v = .int .i64 x
  | 5, [v] => v = .int .i64 x
  | _, _ => True
set_option maxHeartbeats 6400000 in
set_option maxRecDepth 100000 in
theorem Start_no (a : Nat → Addr) (n : Nat) (r : Rg) (w : World) (hg : Gl a n w) (h : rgOk r = false) : Calls Tryd.prog 7 #[rgv r] w fun e w' => e = .returned (.tuple #[zfv, .int .i64 2]) ∧ Below w.heap.size w w' := by
  obtain ⟨w0, hw0⟩ : ∃ x, x = (w.alloc (rgo r)).alloc zfo := ⟨_, rfl⟩
  have HB0 : Hid (Below w.heap.size w w0) := by show Below _ _ _; rw [hw0]; exact two_new _ _ _
  have KO0 : Hid (Bk (w.heap.size + 1) zfc w0) := by show Bk _ _ _; rw [hw0]; exact Bk.new (w.alloc (rgo r)) zfc 29 (w.heap.size + 1) (by simp)
  have HG0 : Hid (Gl a n w0) := hg.later HB0.out
  obtain ⟨O, hO⟩ : ∃ b, b = w.heap.size + 1 := ⟨_, rfl⟩
  rw [← hO] at KO0
  have HE : Hid (∀ W, Gl a n W → Calls Tryd.prog 20 #[.iface 109 (.pointer (some (a 1)))] W fun e w' => e = .returned (.int .i64 2) ∧ w' = W) := fun W hW => number_1 a n W hW
  have HN : Hid (∀ W, Gl a n W → Calls Tryd.prog 19 #[rgv r, zfv] W fun e w' => e = .returned (.tuple #[zbv, .iface 109 (.pointer (some (a 1)))]) ∧ Below W.heap.size W w') := fun W hW => newBoard_no a n r f0 W hW (nb_none h f0)
  clear h hg
  go_enter Tryd.func7, Tryd.ntmps7
  go_wp2_with fail
  simp only [← hw0, ← hO]
  clear hw0 hO
  refine (HN.out _ HG0.out).mono ?_
  rintro e w1 ⟨rfl, hb1⟩
  have HG1 : Hid (Gl a n w1) := HG0.out.later hb1
  have HB1 : Hid (Below w.heap.size w w1) := below_on HB0.out hb1
  have KO1 : Hid (Bk O zfc w1) := KO0.out.later hb1
  clear hb1 KO0 HB0 HG0
  obtain ⟨w2, hw2⟩ : ∃ y, y = w1.alloc (zbo) := ⟨_, rfl⟩
  have HG2 : Hid (Gl a n w2) := by show Gl _ _ _; rw [hw2]; exact HG1.out.later (one_new _ _)
  have HB2 : Hid (Below w.heap.size w w2) := by show Below _ _ _; rw [hw2]; exact below_on HB1.out (one_new _ _)
  have KO2 : Hid (Bk O zfc w2) := by show Bk _ _ _; rw [hw2]; exact KO1.out.later (one_new _ _)
  have KB2 : Hid (Bk w1.heap.size (zbc) w2) := by show Bk _ _ _; rw [hw2]; exact Bk.new w1 (zbc) 52 w1.heap.size rfl
  obtain ⟨B, hB⟩ : ∃ b, b = w1.heap.size := ⟨_, rfl⟩
  rw [← hB] at KB2
  go_wp2_with (refine wpList_store_new rfl 52 _ _ rfl w1 w1.heap.size _ _ rfl rfl rfl rfl info52 rfl (by kernel_rfl) ?_)
  rename_i KK hkk
  have HKK := (show Hid _ from hkk)
  clear hkk
  simp only [show w1.alloc (.cells (zbc).toArray 52) = w2 from hw2.symm, ← hB]
  clear hw2 hB HG1 HB1 KO1
  refine region_all [false, false, false, true, false, false, false, false, false, false, false, false, true, true, true, true]
    [([], [12], none), ([0], [13], none), ([], [14], none), ([2], [15], none), ([1], [], none), ([3], [3], none)]
    (stV B (.iface 109 (.pointer (some (a 1)))) 2) (fun _ w => Bk O zfc w) (by kernel_rfl) (by kernel_rfl) (fun W hb => KO2.out.later hb) ?_ ?_
  · refine ⟨?_, ?_, ?_, ?_, ?_, ?_, trivial⟩
    · intro f w3 hb hJ _ K hK
      simp only [over, overL, Nat.reduceAdd]
      go_simp
      exact hK _ _ ⟨_, by simp only [over, overL, Nat.reduceAdd]; rfl, rfl, hb, hJ, fun _ h => h⟩
    · intro f w3 hb hJ ⟨h12, _⟩ K hK
      replace h12 : f 12 = _ := h12
      have q12 := (KB2.out.later hb).c 12 rfl
      have q13 := (KB2.out.later hb).c 13 rfl
      have q14 := (KB2.out.later hb).c 14 rfl
      have q15 := (KB2.out.later hb).c 15 rfl
      have q16 := (KB2.out.later hb).c 16 rfl
      have q17 := (KB2.out.later hb).c 17 rfl
      have q18 := (KB2.out.later hb).c 18 rfl
      have q19 := (KB2.out.later hb).c 19 rfl
      have q20 := (KB2.out.later hb).c 20 rfl
      simp only [over, overL, Nat.reduceAdd, h12]
      go_simp
      exact hK _ _ ⟨_, by simp only [over, overL, Nat.reduceAdd, h12]; rfl, rfl, hb, hJ, fun _ h => h⟩
    · intro f w3 hb hJ _ K hK
      simp only [over, overL, Nat.reduceAdd]
      go_simp
      exact hK _ _ ⟨_, by simp only [over, overL, Nat.reduceAdd]; rfl, rfl, hb, hJ, fun _ h => h⟩
    · intro f w3 hb hJ ⟨h14, _⟩ K hK
      replace h14 : f 14 = _ := h14
      simp only [over, overL, Nat.reduceAdd, h14]
      go_simp
      refine (HE.out _ (HG2.out.later hb)).mono ?_
      rintro e w4 ⟨rfl, hw4⟩
      subst w4
      exact hK _ _ ⟨_, by simp only [over, overL, Nat.reduceAdd, h14]; rfl, rfl, hb, hJ, fun _ h => h⟩
    · intro f w3 hb hJ ⟨h13, _⟩ K hK
      replace h13 : f 13 = zfv := h13
      simp only [over, overL, Nat.reduceAdd, h13]
      refine wp_store_mid 29 _ _ rfl O 0 _ rfl rfl (hJ.there (Nat.le_refl _)) info29 (by kernel_rfl) ?_
      rw [show w3.setCells O 0 (Array.toList _) = w3 from hJ.stays]
      exact hK _ _ ⟨undef, by simp only [over, overL, Nat.reduceAdd, h13], trivial, hb, hJ, fun _ h => h⟩
    · intro f w3 hb hJ ⟨h15, _⟩ K hK
      replace h15 : f 15 = _ := h15
      simp only [over, overL, Nat.reduceAdd, h15]
      go_simp
      exact hK _ _ ⟨_, by simp only [over, overL, Nat.reduceAdd, h15]; rfl, rfl, hb, hJ, fun _ h => h⟩
  · intro fr w3 hb3 hJ hv
    have h3 : fr 3 = .int .i64 2 := hv.2.2.2.2.2.1
    have HB3 : Hid (Below w.heap.size w w3) := below_on HB2.out hb3
    have KO3 : Hid (Bk O zfc w3) := hJ
    simp only [over_eq, overL, h3, Nat.reduceAdd]
    clear hv h3 hb3 hJ
    refine HKK.out _ _ ?_
    go_wp2
    exact bodyPost_ret (v := .tuple #[zfv, .int .i64 2]) (results_ct Tryd.results7 _ _ _ rfl rfl (run_loadVar_mid (P := Tryd.prog) _ O 0 29 zfc _ KO3.out.range Tryd.underlying29 rfl info29)) rfl ⟨rfl, HB3.out⟩
set_option maxHeartbeats 6400000 in
set_option maxRecDepth 100000 in
theorem Start_yes (a : Nat → Addr) (n : Nat) (r : Rg) (w : World) (hg : Gl a n w) (h : rgOk r = true) : Calls Tryd.prog 7 #[rgv r] w fun e w' => e = .returned (.tuple #[zfv, .int .i64 0]) ∧ Below w.heap.size w w' := by
  obtain ⟨w0, hw0⟩ : ∃ x, x = (w.alloc (rgo r)).alloc zfo := ⟨_, rfl⟩
  have HB0 : Hid (Below w.heap.size w w0) := by show Below _ _ _; rw [hw0]; exact two_new _ _ _
  have KO0 : Hid (Bk (w.heap.size + 1) zfc w0) := by show Bk _ _ _; rw [hw0]; exact Bk.new (w.alloc (rgo r)) zfc 29 (w.heap.size + 1) (by simp)
  have HG0 : Hid (Gl a n w0) := hg.later HB0.out
  obtain ⟨O, hO⟩ : ∃ b, b = w.heap.size + 1 := ⟨_, rfl⟩
  rw [← hO] at KO0
  have HE : Hid (∀ W, Gl a n W → Calls Tryd.prog 20 #[.nilIface] W fun e w' => e = .returned (.int .i64 0) ∧ w' = W) := fun W hW => number_nil a n W hW
  have HN : Hid (∀ W, Gl a n W → Calls Tryd.prog 19 #[rgv r, zfv] W fun e w' => ∃ M, e = .returned (.tuple #[bdv r f0 M, .nilIface]) ∧ W.heap.size ≤ M ∧ TM r.rp M w' ∧ Below W.heap.size W w') := fun W _ => newBoard_c r f0 W h (fmOk_iff.2 (f0_ok (rgOk_iff.1 h)))
  clear h hg
  go_enter Tryd.func7, Tryd.ntmps7
  go_wp2_with fail
  simp only [← hw0, ← hO]
  clear hw0 hO
  refine (HN.out _ HG0.out).mono ?_
  rintro e w1 ⟨M, rfl, _, _, hb1⟩
  have HG1 : Hid (Gl a n w1) := HG0.out.later hb1
  have HB1 : Hid (Below w.heap.size w w1) := below_on HB0.out hb1
  have KO1 : Hid (Bk O zfc w1) := KO0.out.later hb1
  clear hb1 KO0 HB0 HG0
  obtain ⟨w2, hw2⟩ : ∃ y, y = w1.alloc (bdo r f0 M) := ⟨_, rfl⟩
  have HG2 : Hid (Gl a n w2) := by show Gl _ _ _; rw [hw2]; exact HG1.out.later (one_new _ _)
  have HB2 : Hid (Below w.heap.size w w2) := by show Below _ _ _; rw [hw2]; exact below_on HB1.out (one_new _ _)
  have KO2 : Hid (Bk O zfc w2) := by show Bk _ _ _; rw [hw2]; exact KO1.out.later (one_new _ _)
  have KB2 : Hid (Bk w1.heap.size (bdc r f0 M) w2) := by show Bk _ _ _; rw [hw2]; exact Bk.new w1 (bdc r f0 M) 52 w1.heap.size rfl
  obtain ⟨B, hB⟩ : ∃ b, b = w1.heap.size := ⟨_, rfl⟩
  rw [← hB] at KB2
  go_wp2_with (refine wpList_store_new rfl 52 _ _ rfl w1 w1.heap.size _ _ rfl rfl rfl rfl info52 rfl (by kernel_rfl) ?_)
  rename_i KK hkk
  have HKK := (show Hid _ from hkk)
  clear hkk
  simp only [show w1.alloc (.cells (bdc r f0 M).toArray 52) = w2 from hw2.symm, ← hB]
  clear hw2 hB HG1 HB1 KO1
  refine region_all [false, false, false, true, false, false, false, false, false, false, false, false, true, true, true, true]
    [([], [12], none), ([0], [13], none), ([], [14], none), ([2], [15], none), ([1], [], none), ([3], [3], none)]
    (stV B (.nilIface) 0) (fun _ w => Bk O zfc w) (by kernel_rfl) (by kernel_rfl) (fun W hb => KO2.out.later hb) ?_ ?_
  · refine ⟨?_, ?_, ?_, ?_, ?_, ?_, trivial⟩
    · intro f w3 hb hJ _ K hK
      simp only [over, overL, Nat.reduceAdd]
      go_simp
      exact hK _ _ ⟨_, by simp only [over, overL, Nat.reduceAdd]; rfl, rfl, hb, hJ, fun _ h => h⟩
    · intro f w3 hb hJ ⟨h12, _⟩ K hK
      replace h12 : f 12 = _ := h12
      have q12 := (KB2.out.later hb).c 12 rfl
      have q13 := (KB2.out.later hb).c 13 rfl
      have q14 := (KB2.out.later hb).c 14 rfl
      have q15 := (KB2.out.later hb).c 15 rfl
      have q16 := (KB2.out.later hb).c 16 rfl
      have q17 := (KB2.out.later hb).c 17 rfl
      have q18 := (KB2.out.later hb).c 18 rfl
      have q19 := (KB2.out.later hb).c 19 rfl
      have q20 := (KB2.out.later hb).c 20 rfl
      simp only [over, overL, Nat.reduceAdd, h12]
      go_simp
      exact hK _ _ ⟨_, by simp only [over, overL, Nat.reduceAdd, h12]; rfl, rfl, hb, hJ, fun _ h => h⟩
    · intro f w3 hb hJ _ K hK
      simp only [over, overL, Nat.reduceAdd]
      go_simp
      exact hK _ _ ⟨_, by simp only [over, overL, Nat.reduceAdd]; rfl, rfl, hb, hJ, fun _ h => h⟩
    · intro f w3 hb hJ ⟨h14, _⟩ K hK
      replace h14 : f 14 = _ := h14
      simp only [over, overL, Nat.reduceAdd, h14]
      go_simp
      refine (HE.out _ (HG2.out.later hb)).mono ?_
      rintro e w4 ⟨rfl, hw4⟩
      subst w4
      exact hK _ _ ⟨_, by simp only [over, overL, Nat.reduceAdd, h14]; rfl, rfl, hb, hJ, fun _ h => h⟩
    · intro f w3 hb hJ ⟨h13, _⟩ K hK
      replace h13 : f 13 = zfv := h13
      simp only [over, overL, Nat.reduceAdd, h13]
      refine wp_store_mid 29 _ _ rfl O 0 _ rfl rfl (hJ.there (Nat.le_refl _)) info29 (by kernel_rfl) ?_
      rw [show w3.setCells O 0 (Array.toList _) = w3 from hJ.stays]
      exact hK _ _ ⟨undef, by simp only [over, overL, Nat.reduceAdd, h13], trivial, hb, hJ, fun _ h => h⟩
    · intro f w3 hb hJ ⟨h15, _⟩ K hK
      replace h15 : f 15 = _ := h15
      simp only [over, overL, Nat.reduceAdd, h15]
      go_simp
      exact hK _ _ ⟨_, by simp only [over, overL, Nat.reduceAdd, h15]; rfl, rfl, hb, hJ, fun _ h => h⟩
  · intro fr w3 hb3 hJ hv
    have h3 : fr 3 = .int .i64 0 := hv.2.2.2.2.2.1
    have HB3 : Hid (Below w.heap.size w w3) := below_on HB2.out hb3
    have KO3 : Hid (Bk O zfc w3) := hJ
    simp only [over_eq, overL, h3, Nat.reduceAdd]
    clear hv h3 hb3 hJ
    refine HKK.out _ _ ?_
    go_wp2
    exact bodyPost_ret (v := .tuple #[zfv, .int .i64 0]) (results_ct Tryd.results7 _ _ _ rfl rfl (run_loadVar_mid (P := Tryd.prog) _ O 0 29 zfc _ KO3.out.range Tryd.underlying29 rfl info29)) rfl ⟨rfl, HB3.out⟩
end Go.Proofs.YtgahlhfgpkklaaaDoor
