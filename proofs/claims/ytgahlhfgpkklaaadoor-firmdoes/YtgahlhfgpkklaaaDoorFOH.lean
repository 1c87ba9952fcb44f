/- do walked. -/
import Derived.Test.YtgahlhfgpkklaaaDoorFNH
namespace Go.Proofs.YtgahlhfgpkklaaaDoor
open Go.RowKit Go.Maps

theorem info29 : (Tryd.prog.info? 29).map (·.size) = some 9 := by kernel_rfl
theorem load29 {Z : Nat} {f : Fm} {w : World} (h : Bk Z (fc f) w) : (loadVar 29 ⟨Z, 0, none⟩).run Tryd.prog w = .ok (fv f) w :=
  run_loadVar_mid (P := Tryd.prog) w Z 0 29 (fc f) _ h.range Tryd.underlying29 rfl info29
theorem Bd.setF {B M : Nat} {r : Rg} {f1 : Fm} {w : World} (h : Bd B M r f1 w) (f : Fm) : Bd B M r f (w.setCells B 12 (fc f)) ∧ Kpt (BM B M) w (w.setCells B 12 (fc f)) := by
  obtain ⟨h1, k1⟩ := h.set 12 (.bool f.hm) (f' := { f1 with hm := f.hm }) rfl
  obtain ⟨h2, k2⟩ := h1.set3 f.pt
  obtain ⟨h3, k3⟩ := h2.set 16 (.int .i64 f.pl) (f' := { f1 with hm := f.hm, pt := f.pt, pl := f.pl }) rfl
  obtain ⟨h4, k4⟩ := h3.set 17 (.bool f.tp) (f' := { f1 with hm := f.hm, pt := f.pt, pl := f.pl, tp := f.tp }) rfl
  obtain ⟨h5, k5⟩ := h4.set 18 (.int .i64 f.ht) (f' := { f1 with hm := f.hm, pt := f.pt, pl := f.pl, tp := f.tp, ht := f.ht }) rfl
  obtain ⟨h6, k6⟩ := h5.set 19 (.int .i64 f.tu) (f' := { f1 with hm := f.hm, pt := f.pt, pl := f.pl, tp := f.tp, ht := f.ht, tu := f.tu }) rfl
  obtain ⟨h7, k7⟩ := h6.set 20 (.int .i64 f.tk) (f' := f) rfl
  exact ⟨h7, (((((k1.trans k2).trans k3).trans k4).trans k5).trans k6).trans k7⟩
theorem Bd.thereF {B M : Nat} {r : Rg} {f : Fm} {w : World} (h : Bd B M r f w) : w.there B 12 9 := fun j hj => by
  have hl : 12 + j < (bdc r f M).length := by show 12 + j < 22; omega
  have := h.bk.2 (12 + j) _ (List.getElem?_eq_getElem hl)
  exact ⟨by rw [this.1]; rfl, this.2⟩
theorem obey_any (a : Nat → Addr) (n B M : Nat) (r : Rg) (f : Fm) (c : Cm) (w : World) (h : Bd B M r f w) (hg : Gl a n w) (hB : n ≤ B) (hM : n ≤ M) (hr : RgOk r) (hf : FmOk r f) (hc : chkM c = 0) : Calls Tryd.prog 36 #[ptr B, cmv c] w (ObP a B M r f c w) := by
  obtain ⟨h1, _, h3⟩ := chk_ok hc
  have hk : c.k = 1 ∨ c.k = 2 ∨ c.k = 3 ∨ c.k = 4 ∨ c.k = 5 ∨ c.k = 6 ∨ c.k = 7 ∨ c.k = 8 := by omega
  rcases hk with hk | hk | hk | hk | hk | hk | hk | hk
  · exact obey_1 a n B M r f c w h hg hB hM hr hf hk
  · exact obey_2 a n B M r f c w h hg hB hM hr hf hk
  · exact obey_3 a n B M r f c w h hg hB hM hr hf hk h3
  · exact obey_4 a n B M r f c w h hg hf hk
  · exact obey_5 a n B M r f c w h hg hf hk
  · exact obey_6 a B M r f c w h hf hk
  · exact obey_7 a n B M r f c w h hg hr hf hk h3
  · exact obey_8 a B M r f c w h hf hk
theorem checkM (c : Cm) (w : World) (hT : WT w) : Calls Tryd.prog 35 #[cmv c] w fun e w' => e = .returned (.int .i64 (chkM c)) ∧ Below w.heap.size w w' := check_any c.k c.x c.y c.z c.v w hT
set_option maxHeartbeats 6400000 in
set_option maxRecDepth 100000 in
theorem do_a (a : Nat → Addr) (n B M : Nat) (r : Rg) (f : Fm) (c : Cm) (w : World) (h : Bd B M r f w) (hg : Gl a n w) (hc : chkM c ≠ 0) : Calls Tryd.prog 21 #[ptr B, cmv c] w fun e w' => e = .returned (.int .i64 (chkM c)) ∧ Bd B M r f w' ∧ Kpt (BM B M) w w' := by
  have HB0 : Hid (Below w.heap.size w (w.alloc (cmo c))) := one_new _ _
  have KC0 : Hid (Bk w.heap.size (cmc c) (w.alloc (cmo c))) := Bk.new w (cmc c) 31 w.heap.size rfl
  have HD0 : Hid (Bd B M r f (w.alloc (cmo c))) := h.later HB0.out
  have HG0 : Hid (Gl a n (w.alloc (cmo c))) := hg.later HB0.out
  have HC : Hid (∀ W, WT W → Calls Tryd.prog 35 #[cmv c] W fun e w' => e = .returned (.int .i64 (chkM c)) ∧ Below W.heap.size W w') := checkM c
  obtain ⟨x, hx⟩ : ∃ x, x = chkM c := ⟨_, rfl⟩
  rw [← hx] at HC hc
  rw [← hx]
  clear hx h hg
  go_enter Tryd.func21, Tryd.ntmps21
  go_wp2_with fail
  refine (HC.out _ HG0.out.wt).mono ?_
  rintro e w1 ⟨rfl, hb1⟩
  have HF := (show Hid (Bd B M r f w1 ∧ Kpt (BM B M) w w1) from ⟨HD0.out.later hb1, Kpt.of_below (below_on HB0.out hb1)⟩)
  clear hb1
  go_wp2
  go_ret
  exact ⟨rfl, HF.out⟩
set_option maxHeartbeats 6400000 in
set_option maxRecDepth 100000 in
theorem do_b (a : Nat → Addr) (n B M : Nat) (r : Rg) (f : Fm) (c : Cm) (w : World) (h : Bd B M r f w) (hg : Gl a n w) (hB : n ≤ B) (hM : n ≤ M) (hr : RgOk r) (hf : FmOk r f) (hc : chkM c = 0) : Calls Tryd.prog 21 #[ptr B, cmv c] w fun e w' => e = .returned (.int .i64 (numE (obE r f c))) ∧ Bd B M r (if obE r f c = none then obF r f c else f) w' ∧ Kpt (BM B M) w w' := by
  have HB0 : Hid (Below w.heap.size w (w.alloc (cmo c))) := one_new _ _
  have KC0 : Hid (Bk w.heap.size (cmc c) (w.alloc (cmo c))) := Bk.new w (cmc c) 31 w.heap.size rfl
  have HD0 : Hid (Bd B M r f (w.alloc (cmo c))) := h.later HB0.out
  have HG0 : Hid (Gl a n (w.alloc (cmo c))) := hg.later HB0.out
  have HC : Hid (∀ W, WT W → Calls Tryd.prog 35 #[cmv c] W fun e w' => e = .returned (.int .i64 (chkM c)) ∧ Below W.heap.size W w') := checkM c
  rw [hc] at HC
  obtain ⟨fz, hfz⟩ : ∃ x, x = if obE r f c = none then obF r f c else f := ⟨_, rfl⟩
  rw [← hfz]
  have HZ : Hid (fz = if obE r f c = none then obF r f c else f) := hfz
  clear hfz
  have HO : Hid (∀ W, Bd B M r f W → Gl a n W → Calls Tryd.prog 36 #[ptr B, cmv c] W (ObP a B M r f c W)) := fun W h1 h2 => obey_any a n B M r f c W h1 h2 hB hM hr hf hc
  have HN : Hid (∀ W, Gl a n W → Calls Tryd.prog 20 #[er a (obE r f c)] W fun e w' => e = .returned (.int .i64 (numE (obE r f c))) ∧ w' = W) := fun W h1 => number_any a n _ W h1 fun i hi => obE_lt hi
  have HBM : Hid (n ≤ B ∧ n ≤ M) := ⟨hB, hM⟩
  have HCb : Hid (¬ BM B M w.heap.size) := by have := h.bk.1; have := h.tm.lt; intro e; rcases e with e | e <;> omega
  obtain ⟨C, hC⟩ : ∃ b, b = w.heap.size := ⟨_, rfl⟩
  rw [← hC] at KC0 HCb
  clear h hg hr hf
  go_enter Tryd.func21, Tryd.ntmps21
  go_wp2_with fail
  simp only [← hC]
  clear hC
  refine (HC.out _ HG0.out.wt).mono ?_
  rintro e w1 ⟨rfl, hb1⟩
  have HK1 : Hid (Kpt (BM B M) w w1) := Kpt.of_below (below_on HB0.out hb1)
  have HD1 : Hid (Bd B M r f w1) := HD0.out.later hb1
  have KC1 : Hid (Bk C (cmc c) w1) := KC0.out.later hb1
  have HG1 : Hid (Gl a n w1) := HG0.out.later hb1
  clear hb1 HB0 KC0 HD0 HG0
  obtain ⟨w2, hw2⟩ : ∃ x, x = w1.alloc (fo f) := ⟨_, rfl⟩
  have HD2 : Hid (Bd B M r f w2) := by show Bd _ _ _ _ _; rw [hw2]; exact HD1.out.later (one_new _ _)
  have HK2 : Hid (Kpt (BM B M) w w2) := by show Kpt _ _ _; rw [hw2]; exact HK1.out.onB (one_new _ _)
  have HG2 : Hid (Gl a n w2) := by show Gl _ _ _; rw [hw2]; exact HG1.out.later (one_new _ _)
  have KA2 : Hid (Bk w1.heap.size (fc f) w2) := by show Bk _ _ _; rw [hw2]; exact Bk.new w1 (fc f) 29 w1.heap.size rfl
  have HA2 : Hid (¬ BM B M w1.heap.size) := by have := HD1.out.bk.1; have := HD1.out.tm.lt; intro e; rcases e with e | e <;> omega
  obtain ⟨A, hA⟩ : ∃ b, b = w1.heap.size := ⟨_, rfl⟩
  rw [← hA] at KA2 HA2
  have q12 := HD1.out.bk.c 12 rfl
  have q13 := HD1.out.bk.c 13 rfl
  have q14 := HD1.out.bk.c 14 rfl
  have q15 := HD1.out.bk.c 15 rfl
  have q16 := HD1.out.bk.c 16 rfl
  have q17 := HD1.out.bk.c 17 rfl
  have q18 := HD1.out.bk.c 18 rfl
  have q19 := HD1.out.bk.c 19 rfl
  have q20 := HD1.out.bk.c 20 rfl
  have c0 := KC1.out.c 0 rfl
  have c1 := KC1.out.c 1 rfl
  have c2 := KC1.out.c 2 rfl
  have c3 := KC1.out.c 3 rfl
  have c4 := KC1.out.c 4 rfl
  have hBw : B < w1.heap.size := HD1.out.bk.1
  have hCw : C < w1.heap.size := KC1.out.1
  go_wp2_with (refine wpList_store_new rfl 29 _ _ rfl w1 w1.heap.size _ _ rfl rfl rfl rfl info29 rfl (by kernel_rfl) ?_)
  simp only [show w1.alloc (.cells #[.bool f.hm, .int .i64 f.pt.x, .int .i64 f.pt.y, .int .i64 f.pt.z, .int .i64 f.pl, .bool f.tp, .int .i64 f.ht, .int .i64 f.tu, .int .i64 f.tk] 29) = w2 from hw2.symm, ← hA]
  clear hw2 hA hBw hCw q12 q13 q14 q15 q16 q17 q18 q19 q20 c0 c1 c2 c3 c4 KC1 HD1 HK1 HG1
  refine Calls.mono (HO.out _ HD2.out HG2.out) ?_
  rintro e w3 hP
  obtain ⟨rfl, f1, hd3, hk3, ho⟩ := hP
  have HD3 : Hid (Bd B M r f1 w3) := hd3
  have HK3 : Hid (Kpt (BM B M) w w3) := HK2.out.trans hk3
  have HG3 : Hid (Gl a n w3) := HG2.out.onB hk3 HBM.out.1 HBM.out.2
  have KA3 : Hid (Bk A (fc f) w3) := bk_kpt KA2.out hk3 HA2.out
  clear hd3 hk3 HD2 HK2 HG2 KA2
  cases hob : obE r f c with
  | none =>
    have HN3 := HN.out w3 HG3.out
    have HF1 : Hid (f1 = obF r f c) := ho hob
    rw [hob] at HN3
    have HN4 := (show Hid (Calls Tryd.prog 20 #[.nilIface] w3 fun e w' => e = .returned (.int .i64 (numE none)) ∧ w' = w3) from HN3)
    clear ho HN3
    simp only [er]
    go_wp2_with fail
    refine Calls.mono HN4.out ?_
    rintro e w4 ⟨rfl, hw4⟩
    subst hw4
    go_wp2
    go_ret
    exact ⟨by rw [hob]; rfl, by rw [HZ.out, if_pos hob, ← HF1.out]; exact HD3.out, HK3.out⟩
  | some i =>
    rw [hob] at HN
    clear ho
    have HS := HD3.out.setF f
    obtain ⟨w4, hw4⟩ : ∃ x, x = w3.setCells B 12 (fc f) := ⟨_, rfl⟩
    rw [← hw4] at HS
    have hw5 : w4 = (((((((((w3.setCell ⟨B, 12, none⟩ (.bool f.hm)).setCell ⟨B, 13, none⟩ (.int .i64 f.pt.x)).setCell ⟨B, 14, none⟩ (.int .i64 f.pt.y)).setCell ⟨B, 15, none⟩ (.int .i64 f.pt.z)).setCell ⟨B, 16, none⟩ (.int .i64 f.pl)).setCell ⟨B, 17, none⟩ (.bool f.tp)).setCell ⟨B, 18, none⟩ (.int .i64 f.ht)).setCell ⟨B, 19, none⟩ (.int .i64 f.tu)).setCell ⟨B, 20, none⟩ (.int .i64 f.tk)) := hw4
    have HD4 : Hid (Bd B M r f w4) := HS.1
    have HK4 : Hid (Kpt (BM B M) w w4) := HK3.out.trans HS.2
    have HG4 : Hid (Gl a n w4) := HG3.out.onB HS.2 HBM.out.1 HBM.out.2
    clear HS
    have HN4 := (show Hid (Calls Tryd.prog 20 #[.iface 109 (.pointer (some (a i)))] w4 fun e w' => e = .returned (.int .i64 (numE (some i))) ∧ w' = w4) from HN.out _ HG4.out)
    clear HN
    have d0 := KA3.out.c 0 rfl
    have d1 := KA3.out.c 1 rfl
    have d2 := KA3.out.c 2 rfl
    have d3 := KA3.out.c 3 rfl
    have d4 := KA3.out.c 4 rfl
    have d5 := KA3.out.c 5 rfl
    have d6 := KA3.out.c 6 rfl
    have d7 := KA3.out.c 7 rfl
    have d8 := KA3.out.c 8 rfl
    have b12 := HD3.out.bk.c 12 rfl
    have z12 := HD3.out.bk.f 12 rfl
    have b13 := HD3.out.bk.c 13 rfl
    have z13 := HD3.out.bk.f 13 rfl
    have b14 := HD3.out.bk.c 14 rfl
    have z14 := HD3.out.bk.f 14 rfl
    have b15 := HD3.out.bk.c 15 rfl
    have z15 := HD3.out.bk.f 15 rfl
    have b16 := HD3.out.bk.c 16 rfl
    have z16 := HD3.out.bk.f 16 rfl
    have b17 := HD3.out.bk.c 17 rfl
    have z17 := HD3.out.bk.f 17 rfl
    have b18 := HD3.out.bk.c 18 rfl
    have z18 := HD3.out.bk.f 18 rfl
    have b19 := HD3.out.bk.c 19 rfl
    have z19 := HD3.out.bk.f 19 rfl
    have b20 := HD3.out.bk.c 20 rfl
    have z20 := HD3.out.bk.f 20 rfl
    clear hw4
    simp only [er]
    go_wp2_with fail
    simp only [← hw5]
    clear hw5
    refine Calls.mono HN4.out ?_
    rintro e w5 ⟨rfl, hw6⟩
    subst hw6
    go_wp2
    go_ret
    exact ⟨by rw [hob]; rfl, by rw [HZ.out, if_neg (by rw [hob]; simp)]; exact HD4.out, HK4.out⟩
theorem do_any (a : Nat → Addr) (n B M : Nat) (r : Rg) (f : Fm) (c : Cm) (w : World) (h : Bd B M r f w) (hg : Gl a n w) (hB : n ≤ B) (hM : n ≤ M) (hr : RgOk r) (hf : FmOk r f) : Calls Tryd.prog 21 #[ptr B, cmv c] w fun e w' => e = .returned (.int .i64 (doN r f c)) ∧ Bd B M r (doF r f c) w' ∧ Kpt (BM B M) w w' := by
  by_cases hc : chkM c = 0
  · have e1 : doN r f c = numE (obE r f c) := by unfold doN; rw [if_pos hc]
    have e2 : doF r f c = if obE r f c = none then obF r f c else f := by
      unfold doF
      rw [e1]
      have := numE_zero (o := obE r f c) fun i hi => obE_lt hi
      by_cases hn : obE r f c = none
      · rw [if_pos (this.2 hn), if_pos hn]
      · rw [if_neg (fun h => hn (this.1 h)), if_neg hn]
    rw [e1, e2]
    exact do_b a n B M r f c w h hg hB hM hr hf hc
  · have e1 : doN r f c = chkM c := by unfold doN; rw [if_neg hc]
    have e2 : doF r f c = f := by unfold doF; rw [e1, if_neg hc]
    rw [e1, e2]
    exact do_a a n B M r f c w h hg hc
end Go.Proofs.YtgahlhfgpkklaaaDoor
