import Derived.Test.YtfadmpnpgiceeaaGreatKv

/- workcellref: ApplyAction at Put. -/
namespace Go.Proofs.YtfadmpnpgiceeaaGreat
open Go.RowKit Go.Maps
set_option maxHeartbeats 12800000 in
set_option maxRecDepth 100000 in
theorem apply_put (ao : Option Addr) (cap : Nat) (l : List Sit) (s : Sm) (a : Acn) (w : World) (h : ApIn w ao cap l s a) (hk : a.kind = 9) :
  Calls Tryz.prog 16 #[.slice ao l.length cap, smv s, av a] w (ApOk w l s a) := by
 have HA : Hid (ApIn w ao cap l s a) := h
 obtain ⟨hlw, hlf, hlh, hlt⟩ := apIn_lens h
 have HLW : Hid (s.wl.length ≤ 4608) := hlw
 have HLF : Hid (∀ x ∈ s.wl, x.2.2.2.length ≤ 100) := hlf
 have HLH : Hid (s.held.length ≤ 100) := hlh
 have HLT : Hid (s.touched.length ≤ 100) := hlt
 have HK : Hid (a.kind = 9) := hk
 have HAK : Hid (atR kndL a.kind = 4) := by show _ = _; rw [hk]; rfl
 clear hk
 obtain ⟨w0, hw0⟩ : ∃ w0, w0 = ((w.alloc (smo s)).alloc (aobj a)).alloc (.cells z7.toArray 27) := ⟨_, rfl⟩
 have HB0 : Hid (Below w.heap.size w w0) := by show Below _ _ _; rw [hw0]; exact (((brf).alloc (Nat.le_refl _) _).alloc (by simp) _).alloc (by simp; omega) _
 have KA0 : Hid (Bk (w.heap.size + 1) (acl a) w0) := by show Bk _ _ _; rw [hw0]; exact (Bk.new (w.alloc (smo s)) (acl a) 33 (w.heap.size + 1) (by simp)).later ((brf).alloc (Nat.le_refl _) _)
 have HW0 : Hid (w0 = ((w.alloc (smo s)).alloc (aobj a)).alloc (.cells z7.toArray 27)) := hw0
 have HS0 : Hid (SmIn w0 s) := h.sin.next HB0.out
 clear h hlw hlf hlh hlt hw0
 go_enter Tryz.func16, Tryz.ntmps16
 go_wp2_with fail
 rw [← HW0.out]
 refine (stateOf_any s w0 HS0.out HA.out.nil (by have := HLW.out; omega) (fun x hx => by have := HLF.out x hx; omega) (by have := HLH.out; omega) (by have := HLT.out; omega)).mono ?_
 rintro e w1 ⟨t, rfl, hst, hin, hhi, hnn, hb1⟩
 obtain ⟨w2, hw2⟩ : ∃ w2, w2 = ((w1.alloc (smo t)).alloc (.cells z7.toArray 27)).alloc kobj := ⟨_, rfl⟩
 obtain ⟨hab, hkk2⟩ := ap_first HW0.out hb1 hin hhi hnn hw2
 have HST : Hid (t.st = s.st) := hst
 have HABw2 : Hid (Ab w w2 w1.heap.size a t) := hab
 have KK2 : Hid (Bk (w1.heap.size + 2) [.int .i64 5, .int .i64 6, .int .i64 7, .int .i64 8, .int .i64 9, .int .i64 11, .int .i64 12, .int .i64 13, .int .i64 14] w2) := hkk2
 have HW2 : Hid (w2 = ((w1.alloc (smo t)).alloc (.cells z7.toArray 27)).alloc kobj) := hw2
 have hsz1 : w.heap.size + 3 ≤ w1.heap.size := hab.hi
 have HAT := (show Hid _ from at_knd hkk2 a.kind)
 clear hst hab hkk2 hin hhi hnn hb1 hw2
 go_upto_region 4 with fail
 rw [← HW2.out]
 obtain ⟨a0, a1, a2, a3, a4, a5, a6, a7⟩ := (HABw2.out.ka).c8
 go_wp2_with fail
 clear a0 a1 a2 a3 a4 a5 a6 a7 HW2 HS0 KA0 HB0
 refine Calls.mono HAT.out ?_
 rintro e w3 ⟨rfl, hw3⟩
 have hw4 := hw3.symm
 clear hw3 HAT
 subst hw4
 rw [HAK.out]
 obtain ⟨a0, a1, a2, a3, a4, a5, a6, a7⟩ := (HABw2.out.ka).c8
 obtain ⟨s0, s1, s2, s3, s4, s5, s6⟩ := (HABw2.out.ks).c7
 rw [HK.out] at a0
 go_wp2_with fail
 clear a0 a1 a2 a3 a4 a5 a6 a7 s0 s1 s2 s3 s4 s5 s6
 refine (isFlow_any 9 w2).mono ?_
 rintro e w3 ⟨rfl, hw3⟩
 have hw4 := hw3.symm
 clear hw3
 subst hw4
 rw [show isFl 9 = true from rfl]
 have HYS : Hid (mayS l t.st = true) := by show _ = _; rw [HST.out]; exact HA.out.yes
 have HDO : Hid (doA l t.st a = putA l t.st a) := by show _ = _; unfold doA; rw [HK.out]; rfl
 obtain ⟨a0, a1, a2, a3, a4, a5, a6, a7⟩ := (HABw2.out.ka).c8
 obtain ⟨s0, s1, s2, s3, s4, s5, s6⟩ := (HABw2.out.ks).c7
 rw [HK.out] at a0
 go_wp2_with fail
 clear a0 a1 a2 a3 a4 a5 a6 a7 s0 s1 s2 s3 s4 s5 s6
 refine (wellCap_any ao cap l a.pl w2 (HA.out.deck.next HABw2.out.below) HA.out.dc).mono ?_
 rintro e w5 ⟨rfl, hb⟩
 have HABw5 : Hid (Ab w w5 w1.heap.size a t) := HABw2.out.later hb
 clear hb HABw2
 obtain ⟨⟨mo, e0⟩, hM⟩ : ∃ x, wellM l a.pl = x := ⟨_, rfl⟩
 have HM : Hid (wellM l a.pl = (mo, e0)) := hM
 rw [hM]
 clear hM
 by_cases he : e0 = 0
 rotate_left
 ·have HQ : Hid (applyR l s.st a = (sta0, e0)) := by
   show _ = _
   rw [← HST.out]
   refine ap_err (x := t.st) HYS.out ?_ he
   rw [HDO.out]
   unfold putA aimR
   rw [HM.out]
   simp [he]
  have h2 : (e0 == 0) = false := by simp [he]
  have h3 : (e0 != 0) = true := by simp [he]
  clear he
  obtain ⟨a0, a1, a2, a3, a4, a5, a6, a7⟩ := (HABw5.out.ka).c8
  obtain ⟨s0, s1, s2, s3, s4, s5, s6⟩ := (HABw5.out.ks).c7
  rw [HK.out] at a0
  have ltR := HABw5.out.kr.1
  have ltZ := HABw5.out.kz.1
  have hiB := HABw5.out.hi
  have neR : w.heap.size + 2 ≠ w1.heap.size + 1 := by omega
  obtain ⟨r0, r1, r2, r3, r4, r5, r6⟩ := (HABw5.out.kr).c7
  obtain ⟨rf0, rf1, rf2, rf3, rf4, rf5, rf6⟩ := (HABw5.out.kr).f7
  obtain ⟨z0, z1, z2, z3, z4, z5, z6⟩ := (HABw5.out.kz).c7
  go_wp2
  refine bodyPost_ret (v := .tuple #[smv sm0, .int .i64 e0]) (by simp [results, Tryz.results16, go_sem, r0, r1, r2, r3, r4, r5, r6]) rfl ⟨sm0, by rw [HQ.out], by rw [HQ.out]; rfl, (ap_zero HABw5.out.below).1, (ap_zero HABw5.out.below).2⟩
 subst he
 simp only
 obtain ⟨a0, a1, a2, a3, a4, a5, a6, a7⟩ := (HABw5.out.ka).c8
 obtain ⟨s0, s1, s2, s3, s4, s5, s6⟩ := (HABw5.out.ks).c7
 rw [HK.out] at a0
 go_wp2_with fail
 clear a0 a1 a2 a3 a4 a5 a6 a7 s0 s1 s2 s3 s4 s5 s6
 refine (rwithin_any 1 a.vol 1000000000 w5).mono ?_
 rintro e w6 ⟨rfl, hw6⟩
 have hw7 := hw6.symm
 clear hw6
 subst hw7
 cases hvl : inR 1 1000000000 a.vol with
 | false =>
  have HQ : Hid (applyR l s.st a = (sta0, 2)) := by
   show _ = _
   rw [← HST.out]
   refine ap_err (x := t.st) HYS.out ?_ (by decide)
   rw [HDO.out]
   unfold putA aimR
   rw [HM.out, hvl]
   simp
  clear hvl
  obtain ⟨a0, a1, a2, a3, a4, a5, a6, a7⟩ := (HABw5.out.ka).c8
  obtain ⟨s0, s1, s2, s3, s4, s5, s6⟩ := (HABw5.out.ks).c7
  rw [HK.out] at a0
  have ltR := HABw5.out.kr.1
  have ltZ := HABw5.out.kz.1
  have hiB := HABw5.out.hi
  have neR : w.heap.size + 2 ≠ w1.heap.size + 1 := by omega
  obtain ⟨r0, r1, r2, r3, r4, r5, r6⟩ := (HABw5.out.kr).c7
  obtain ⟨rf0, rf1, rf2, rf3, rf4, rf5, rf6⟩ := (HABw5.out.kr).f7
  obtain ⟨z0, z1, z2, z3, z4, z5, z6⟩ := (HABw5.out.kz).c7
  go_wp2
  refine bodyPost_ret (v := .tuple #[smv sm0, .int .i64 2]) (by simp [results, Tryz.results16, go_sem, r0, r1, r2, r3, r4, r5, r6]) rfl ⟨sm0, by rw [HQ.out], by rw [HQ.out]; rfl, (ap_zero HABw5.out.below).1, (ap_zero HABw5.out.below).2⟩
 | true =>
 have HAIM : Hid (aimR l a = (mo, 0)) := by
  show _ = _
  unfold aimR
  rw [HM.out, hvl]
  rfl
 have HVL : Hid (1 ≤ a.vol ∧ a.vol ≤ 1000000000) := inR_iff.1 hvl
 clear hvl
 obtain ⟨hq1, hq2, hq3⟩ := ap_wells HA.out HST.out
 have HQ1 : Hid (t.wl.length ≤ 4608) := hq1
 have HQ2 : Hid (∀ x ∈ t.wl, x.2.2.2.length ≤ 1000000000) := hq2
 have HQ3 : Hid (May l t.st) := hq3
 clear hq1 hq2 hq3
 cases htp : t.tip with
 | false =>
  have HQ : Hid (applyR l s.st a = (sta0, 12)) := by
   show _ = _
   rw [← HST.out]
   refine ap_err (x := t.st) HYS.out ?_ (by decide)
   rw [HDO.out]
   unfold putA
   rw [HAIM.out, show t.st.tip = t.tip from rfl, htp]
   simp
  obtain ⟨a0, a1, a2, a3, a4, a5, a6, a7⟩ := (HABw5.out.ka).c8
  obtain ⟨s0, s1, s2, s3, s4, s5, s6⟩ := (HABw5.out.ks).c7
  rw [HK.out] at a0
  rw [htp] at s1
  clear htp
  have ltR := HABw5.out.kr.1
  have ltZ := HABw5.out.kz.1
  have hiB := HABw5.out.hi
  have neR : w.heap.size + 2 ≠ w1.heap.size + 1 := by omega
  obtain ⟨r0, r1, r2, r3, r4, r5, r6⟩ := (HABw5.out.kr).c7
  obtain ⟨rf0, rf1, rf2, rf3, rf4, rf5, rf6⟩ := (HABw5.out.kr).f7
  obtain ⟨z0, z1, z2, z3, z4, z5, z6⟩ := (HABw5.out.kz).c7
  go_wp2
  refine bodyPost_ret (v := .tuple #[smv sm0, .int .i64 12]) (by simp [results, Tryz.results16, go_sem, r0, r1, r2, r3, r4, r5, r6]) rfl ⟨sm0, by rw [HQ.out], by rw [HQ.out]; rfl, (ap_zero HABw5.out.below).1, (ap_zero HABw5.out.below).2⟩
 | true =>
  have HFH : Hid (F.fref t.held = 0) := (mayHold_iff.1 (tip_parts HQ3.out (show t.st.tip = true from htp)).2.2.1).1
  have HPU : Hid (putA l t.st a = if (F.drawF a.vol t.held).2.2 ≠ 0 then (t.st, (F.drawF a.vol t.held).2.2) else if (togR (wellF t.st.wells a.pl) (F.drawF a.vol t.held).1 (wellM l a.pl).1).2 ≠ 0 then (t.st, (togR (wellF t.st.wells a.pl) (F.drawF a.vol t.held).1 (wellM l a.pl).1).2)
    else ({ t.st with wells := wset t.st.wells a.pl (togR (wellF t.st.wells a.pl) (F.drawF a.vol t.held).1 (wellM l a.pl).1).1, held := (F.drawF a.vol t.held).2.1 }, 0)) := by
   show _ = _
   unfold putA
   rw [HAIM.out, if_neg (by simp), if_neg (show ¬ t.st.tip = false by rw [show t.st.tip = t.tip from rfl, htp]; decide), HM.out]
   rfl
  obtain ⟨a0, a1, a2, a3, a4, a5, a6, a7⟩ := (HABw5.out.ka).c8
  obtain ⟨s0, s1, s2, s3, s4, s5, s6⟩ := (HABw5.out.ks).c7
  rw [HK.out] at a0
  rw [htp] at s1
  clear htp
  go_wp2_with fail
  clear a0 a1 a2 a3 a4 a5 a6 a7 s0 s1 s2 s3 s4 s5 s6
  refine (fluidDraw_all t.aoH t.capH t.held a.vol w5 HABw5.out.sin.held HFH.out (by have := HVL.out.1; omega)).mono ?_
  rintro e w6 ⟨vx, vy, rfl, hox, hoy, hb⟩
  have HDF : Hid ((F.drawF a.vol t.held).2.2 = 0 → F.fref (F.drawF a.vol t.held).1 = 0 ∧ F.fref (F.drawF a.vol t.held).2.1 = 0) := fun h => by
   obtain ⟨hf, h0, h1, e1, e2⟩ := drawF_ok h
   rw [e1, e2]
   exact F.draw_fine h0 hf
  obtain ⟨⟨out, left, e1⟩, hdq⟩ : ∃ x, F.drawF a.vol t.held = x := ⟨_, rfl⟩
  rw [hdq] at hox hoy HPU HDF ⊢
  simp only at hox hoy HPU HDF ⊢
  have HABw6 : Hid (Ab w w6 w1.heap.size a t) := HABw5.out.later hb
  obtain ⟨aoX, capX, hvx⟩ := hox.shape
  obtain ⟨aoY, capY, hvy⟩ := hoy.shape
  subst hvx hvy
  have HOX : Hid (OwnR encC w6 w5.heap.size (.slice aoX out.length capX) out) := hox
  have HOY : Hid (OwnR encC w6 w5.heap.size (.slice aoY left.length capY) left) := hoy
  have h5B := HABw5.out.kz.1
  have h5R := HABw5.out.kr.1
  clear hox hoy hb hdq
  by_cases he : e1 = 0
  rotate_left
  ·have HQ : Hid (applyR l s.st a = (sta0, e1)) := by
    show _ = _
    rw [← HST.out]
    refine ap_err (x := t.st) HYS.out ?_ he
    rw [HDO.out, HPU.out, if_pos he]
   have h2 : (e1 == 0) = false := by simp [he]
   have h3 : (e1 != 0) = true := by simp [he]
   clear he
   obtain ⟨a0, a1, a2, a3, a4, a5, a6, a7⟩ := (HABw6.out.ka).c8
   obtain ⟨s0, s1, s2, s3, s4, s5, s6⟩ := (HABw6.out.ks).c7
   rw [HK.out] at a0
   have ltR := HABw6.out.kr.1
   have ltZ := HABw6.out.kz.1
   have hiB := HABw6.out.hi
   have neR : w.heap.size + 2 ≠ w1.heap.size + 1 := by omega
   obtain ⟨r0, r1, r2, r3, r4, r5, r6⟩ := (HABw6.out.kr).c7
   obtain ⟨rf0, rf1, rf2, rf3, rf4, rf5, rf6⟩ := (HABw6.out.kr).f7
   obtain ⟨z0, z1, z2, z3, z4, z5, z6⟩ := (HABw6.out.kz).c7
   go_wp2
   refine bodyPost_ret (v := .tuple #[smv sm0, .int .i64 e1]) (by simp [results, Tryz.results16, go_sem, r0, r1, r2, r3, r4, r5, r6]) rfl ⟨sm0, by rw [HQ.out], by rw [HQ.out]; rfl, (ap_zero HABw6.out.below).1, (ap_zero HABw6.out.below).2⟩
  subst he
  have HFX := (show Hid _ from HDF.out rfl)
  obtain ⟨hz1, hz2⟩ : Fz [w1.heap.size, w.heap.size + 2] w6 aoX out ∧ Fz [w1.heap.size, w.heap.size + 2] w6 aoY left := by
   have key : ∀ {ao : Option Addr} {cap : Nat} {ps : List F.Pc}, OwnR encC w6 w5.heap.size (.slice ao ps.length cap) ps → F.fref ps = 0 → Fz [w1.heap.size, w.heap.size + 2] w6 ao ps := fun {ao cap ps} ho hr => by
    obtain ⟨ao', cap', e', hz, _⟩ := fz_own (bs := [w1.heap.size, w.heap.size + 2]) ho (F.fine_size hr) (fun k hk => by
     simp only [List.mem_cons, List.not_mem_nil, or_false] at hk
     rcases hk with rfl | rfl
     ·omega
     ·omega)
    injection e' with e1 _ _
    rw [e1]
    exact hz
   exact ⟨key HOX.out HFX.out.1, key HOY.out HFX.out.2⟩
  obtain ⟨w7, hw7⟩ : ∃ w7, w7 = w6.setCell ⟨w1.heap.size, 2, none⟩ (.slice aoY left.length capY) := ⟨_, rfl⟩
  have HABw7 : Hid (Ab w w7 w1.heap.size a { t with aoH := aoY, capH := capY, held := left }) := by
   show Ab _ _ _ _ _
   rw [hw7]
   exact HABw6.out.set 2 _ { t with aoH := aoY, capH := capY, held := left } rfl (fun h => ⟨h.wells, hz2.1, h.touched⟩) ⟨HABw6.out.nil.fl, HOY.out.nilcap, HABw6.out.nil.touched⟩ ⟨HABw6.out.apart.row, HABw6.out.apart.fl, hz2.2, HABw6.out.apart.touched⟩
  have HX7 : Hid (F.Fl w7 aoX out) := by
   show F.Fl _ _ _
   rw [hw7]
   exact (fl_butL hz1 (butL_set w6 w1.heap.size 2 _ (by simp))).1
  have HW7 : Hid (w7 = w6.setCell ⟨w1.heap.size, 2, none⟩ (.slice aoY left.length capY)) := hw7
  have HADD := (show Hid _ from wellAdd_any [w1.heap.size, w.heap.size + 2] ao cap l { t with aoH := aoY, capH := capY, held := left } a.pl aoX capX out w7 (fun k hk => by
   simp only [List.mem_cons, List.not_mem_nil, or_false] at hk
   rcases hk with rfl | rfl
   ·exact HABw7.out.ks.1
   ·exact HABw7.out.kr.1) (HA.out.deck.next HABw7.out.below) HA.out.dc HABw7.out.sin HABw7.out.nil HABw7.out.apart HX7.out HOX.out.nilcap HQ1.out HQ2.out (well_fref HA.out.dc HQ3.out a.pl) HFX.out.1)
  have hiB6 := HABw6.out.hi
  have lt6 := HABw6.out.ks.1
  have ne61 : w.heap.size + 1 ≠ w1.heap.size := by omega
  clear hz1 hz2 hw7 HDF
  obtain ⟨s0, s1, s2, s3, s4, s5, s6⟩ := (HABw6.out.ks).c7
  obtain ⟨sf0, sf1, sf2, sf3, sf4, sf5, sf6⟩ := (HABw6.out.ks).f7
  obtain ⟨a0, a1, a2, a3, a4, a5, a6, a7⟩ := (HABw6.out.ka).c8
  rw [HK.out] at a0
  go_wp2_with fail
  clear a0 a1 a2 a3 a4 a5 a6 a7 s0 s1 s2 s3 s4 s5 s6 sf0 sf1 sf2 sf3 sf4 sf5 sf6
  rw [← HW7.out]
  refine Calls.mono HADD.out ?_
  rintro e w8 ⟨t', rfl, hst, hin, hnn, hxx, hb⟩
  have hst2 : (togR (wellF t.st.wells a.pl) out (wellM l a.pl).1).2 = 0 → t'.st = { t.st with wells := wset t.st.wells a.pl (togR (wellF t.st.wells a.pl) out (wellM l a.pl).1).1, held := left } := hst
  have HABw8 : Hid (Ab w w8 w1.heap.size a { t with aoH := aoY, capH := capY, held := left }) := HABw7.out.later hb
  have HABX : Hid (Ab w (put7 w8 w1.heap.size t') w1.heap.size a t') := HABw8.out.box hin hnn hxx
  clear HADD hin hnn hxx hb HABw7 HABw5 HABw6 HX7 HW7 hst
  rw [show (wellF ({ t with aoH := aoY, capH := capY, held := left } : Sm).st.wells a.pl) = wellF t.st.wells a.pl from rfl]
  obtain ⟨e1, he1⟩ : ∃ e1, (togR (wellF t.st.wells a.pl) out (wellM l a.pl).1).2 = e1 := ⟨_, rfl⟩
  rw [he1] at hst2 HPU ⊢
  by_cases he : e1 = 0
  ·subst he
   have HQ : Hid (applyR l s.st a = (t'.st, 0)) := by
    show _ = _
    rw [← HST.out]
    refine ap_ok HYS.out ?_
    rw [HDO.out, HPU.out, hst2 rfl]
    rfl
   clear hst2 he1 HPU
   have ltR := HABw8.out.kr.1
   have ltB := HABw8.out.ks.1
   have ltZ := HABw8.out.kz.1
   have hiB := HABw8.out.hi
   have neR : w.heap.size + 2 ≠ w1.heap.size := by omega
   have neS : w1.heap.size ≠ w.heap.size + 2 := by omega
   have neT : w.heap.size + 2 ≠ w1.heap.size + 1 := by omega
   have neU : w1.heap.size + 1 ≠ w1.heap.size := by omega
   obtain ⟨r0, r1, r2, r3, r4, r5, r6⟩ := (HABw8.out.kr).c7
   obtain ⟨rf0, rf1, rf2, rf3, rf4, rf5, rf6⟩ := (HABw8.out.kr).f7
   obtain ⟨s0, s1, s2, s3, s4, s5, s6⟩ := (HABw8.out.ks).c7
   obtain ⟨sf0, sf1, sf2, sf3, sf4, sf5, sf6⟩ := (HABw8.out.ks).f7
   obtain ⟨z0, z1, z2, z3, z4, z5, z6⟩ := (HABw8.out.kz).c7
   go_wp2
   refine bodyPost_ret (v := .tuple #[smv t', .int .i64 0]) (by simp [results, Tryz.results16, go_sem, r0, r1, r2, r3, r4, r5, r6]) rfl ⟨t', by rw [HQ.out], by rw [HQ.out], (ap_ret HABX.out).1, (ap_ret HABX.out).2⟩
  ·have HQ : Hid (applyR l s.st a = (sta0, e1)) := by
    show _ = _
    rw [← HST.out]
    refine ap_err (x := t.st) HYS.out ?_ he
    rw [HDO.out, HPU.out, if_neg (by simp), if_pos he]
   have h2 : (e1 == 0) = false := by simp [he]
   have h3 : (e1 != 0) = true := by simp [he]
   clear hst2 he1 HPU he
   have ltR := HABw8.out.kr.1
   have ltB := HABw8.out.ks.1
   have ltZ := HABw8.out.kz.1
   have hiB := HABw8.out.hi
   have neR : w.heap.size + 2 ≠ w1.heap.size := by omega
   have neS : w1.heap.size ≠ w.heap.size + 2 := by omega
   have neT : w.heap.size + 2 ≠ w1.heap.size + 1 := by omega
   have neU : w1.heap.size + 1 ≠ w1.heap.size := by omega
   obtain ⟨r0, r1, r2, r3, r4, r5, r6⟩ := (HABw8.out.kr).c7
   obtain ⟨rf0, rf1, rf2, rf3, rf4, rf5, rf6⟩ := (HABw8.out.kr).f7
   obtain ⟨s0, s1, s2, s3, s4, s5, s6⟩ := (HABw8.out.ks).c7
   obtain ⟨sf0, sf1, sf2, sf3, sf4, sf5, sf6⟩ := (HABw8.out.ks).f7
   obtain ⟨z0, z1, z2, z3, z4, z5, z6⟩ := (HABw8.out.kz).c7
   go_wp2
   refine bodyPost_ret (v := .tuple #[smv sm0, .int .i64 e1]) (by simp [results, Tryz.results16, go_sem, r0, r1, r2, r3, r4, r5, r6]) rfl ⟨sm0, by rw [HQ.out], by rw [HQ.out]; rfl, (ap_zero HABX.out.below).1, (ap_zero HABX.out.below).2⟩
end Go.Proofs.YtfadmpnpgiceeaaGreat

/- workcellref: ApplyAction at Draw. -/
namespace Go.Proofs.YtfadmpnpgiceeaaGreat
open Go.RowKit Go.Maps
theorem with_drops {t : List ByteArray} {old : List F.Pc} (ht : F.fref (drops t) = 0) (ho : F.fref old = 0) : (F.withR (drops t) old).1 = true ↔ ∀ x ∈ t, 0 < F.sumL old x.data.toList := by
 rw [withR_iff]
 constructor
 ·rintro ⟨_, _, h⟩ x hx
  unfold F.wthn at h
  have := List.all_eq_true.1 h (x, 1) (mem_drops.2 ⟨hx, rfl⟩)
  simpa using this
 ·intro h
  refine ⟨ht, ho, ?_⟩
  unfold F.wthn
  rw [List.all_eq_true]
  intro p hp
  rw [Bool.or_eq_true]
  exact .inr (decide_eq_true (h p.1 (mem_drops.1 hp).1))
theorem ButL.trans4 {bs : List Nat} {w w1 w2 : World} {r : Option Nat} (h : ButL bs w w1) (hg : w1.grownBy w2 r) (hr : ∀ q, r = some q → w.heap.size ≤ q) : ButL bs w w2 :=
 ⟨hg.os.trans h.os, hg.tape.trans h.tape, hg.output.trans h.output, Nat.le_trans h.size hg.size, fun k hk h3 => (hg.block k (Nat.lt_of_lt_of_le hk h.size) (fun e => by have := hr k e.symm; omega)).trans (h.block k hk h3)⟩
theorem below_butL {B n : Nat} {w w1 w2 : World} (h : Below n w w1) (hb : ButL [B] w1 w2) (hB : n ≤ B) (hn : n ≤ w1.heap.size) : Below n w w2 :=
 ⟨hb.os.trans h.os, hb.tape.trans h.tape, hb.output.trans h.output, Nat.le_trans h.size hb.size, fun k hk => (hb.block k (by omega) (by simp; omega)).trans (h.block k hk)⟩
structure Dr (wA wr : World) (B : Nat) (t2 : Sm) (S : List F.Pc) (k : Nat) (ao : Option Addr) (n cap : Nat) : Prop where
 but : ButL [B] wA wr
 len : n = ((S.map (·.1)).take k).length
 ks : Bk B [.slice t2.aoW t2.wl.length t2.capW, .bool t2.tip, .slice t2.aoH t2.held.length t2.capH, .slice ao n cap, .int .i64 t2.used, .int .i64 t2.heat, .int .i64 t2.clock] wr
 own : OwnR encT wr wA.heap.size (.slice ao n cap) ((S.map (·.1)).take k)
set_option linter.unusedVariables false in
def dfV (ao : Option Addr) (nl cap A B : Nat) (aoH : Option Addr) (nH cH : Nat) (T vo tm : Int) (d : Nat) (v : Value) (_ : World) : Prop :=
 match d with
 | 171 => v = .pointer (some ⟨B, 2, none⟩)
 | 172 => v = .slice aoH nH cH
 | 173 => v = .int .i64 T
 | 174 => v = .pointer (some ⟨A, 5, none⟩)
 | 175 => v = .int .i64 vo
 | 176 => v = .int .i64 (T + vo)
 | 177 => v = .slice ao nl cap
 | 178 => v = .int .i64 tm
 | 179 => v = .bool true
 | _ => True
set_option linter.unusedVariables false in
theorem dfV_mono (ao : Option Addr) (nl cap A B : Nat) (aoH : Option Addr) (nH cH : Nat) (T vo tm : Int) (d : Nat) (v : Value) (w w' : World) (h : dfV ao nl cap A B aoH nH cH T vo tm d v w) (_ : Below w.heap.size w w') : dfV ao nl cap A B aoH nH cH T vo tm d v w' := h
set_option linter.unusedVariables false in
def dgV (ao : Option Addr) (nl cap A B : Nat) (aoH : Option Addr) (nH cH : Nat) (T vo tm : Int) (d : Nat) (v : Value) (_ : World) : Prop :=
 match d with
 | 171 => v = .pointer (some ⟨B, 2, none⟩)
 | 172 => v = .slice aoH nH cH
 | 173 => v = .int .i64 T
 | 174 => v = .pointer (some ⟨A, 5, none⟩)
 | 175 => v = .int .i64 vo
 | 176 => v = .int .i64 (T + vo)
 | 177 => v = .slice ao nl cap
 | 178 => v = .int .i64 tm
 | 179 => v = .bool false
 | _ => True
set_option linter.unusedVariables false in
theorem dgV_mono (ao : Option Addr) (nl cap A B : Nat) (aoH : Option Addr) (nH cH : Nat) (T vo tm : Int) (d : Nat) (v : Value) (w w' : World) (h : dgV ao nl cap A B aoH nH cH T vo tm d v w) (_ : Below w.heap.size w w') : dgV ao nl cap A B aoH nH cH T vo tm d v w' := h
set_option linter.unusedVariables false in
def dhV (B bS oS nS cS k : Nat) (aoT : Option Addr) (nT cT : Nat) (x : ByteArray) (d : Nat) (v : Value) (w : World) : Prop :=
 match d with
 | 212 => v = .pointer (some ⟨B, 3, none⟩)
 | 213 => v = .slice aoT nT cT
 | 214 => v = .slice (some ⟨bS, oS, none⟩) nS cS
 | 215 => v = .int .i64 (k : Int)
 | 216 => v = .pointer (some ⟨bS, oS + k * 2, none⟩)
 | 217 => v = .pointer (some ⟨bS, oS + k * 2, none⟩)
 | 218 => v = .string x
 | 219 => ∃ g, v = .slice (some ⟨g, 0, none⟩) 1 1 ∧ Bk g [.string x] w
 | _ => True
set_option linter.unusedVariables false in
theorem dhV_mono (B bS oS nS cS k : Nat) (aoT : Option Addr) (nT cT : Nat) (x : ByteArray) (d : Nat) (v : Value) (w w' : World) (h : dhV B bS oS nS cS k aoT nT cT x d v w) (hb : Below w.heap.size w w') : dhV B bS oS nS cS k aoT nT cT x d v w' := by
 unfold dhV at h ⊢
 split <;> simp only [] at h <;> first | exact h | (obtain ⟨g, e, hk⟩ := h; exact ⟨g, e, hk.later hb⟩)
set_option maxHeartbeats 12800000 in
set_option maxRecDepth 100000 in
theorem apply_draw (ao : Option Addr) (cap : Nat) (l : List Sit) (s : Sm) (a : Acn) (w : World) (h : ApIn w ao cap l s a) (hk : a.kind = 8) :
  Calls Tryz.prog 16 #[.slice ao l.length cap, smv s, av a] w (ApOk w l s a) := by
 have HA : Hid (ApIn w ao cap l s a) := h
 obtain ⟨hlw, hlf, hlh, hlt⟩ := apIn_lens h
 have HLW : Hid (s.wl.length ≤ 4608) := hlw
 have HLF : Hid (∀ x ∈ s.wl, x.2.2.2.length ≤ 100) := hlf
 have HLH : Hid (s.held.length ≤ 100) := hlh
 have HLT : Hid (s.touched.length ≤ 100) := hlt
 have HK : Hid (a.kind = 8) := hk
 have HAK : Hid (atR kndL a.kind = 3) := by show _ = _; rw [hk]; rfl
 clear hk
 obtain ⟨w0, hw0⟩ : ∃ w0, w0 = ((w.alloc (smo s)).alloc (aobj a)).alloc (.cells z7.toArray 27) := ⟨_, rfl⟩
 have HB0 : Hid (Below w.heap.size w w0) := by show Below _ _ _; rw [hw0]; exact (((brf).alloc (Nat.le_refl _) _).alloc (by simp) _).alloc (by simp; omega) _
 have KA0 : Hid (Bk (w.heap.size + 1) (acl a) w0) := by show Bk _ _ _; rw [hw0]; exact (Bk.new (w.alloc (smo s)) (acl a) 33 (w.heap.size + 1) (by simp)).later ((brf).alloc (Nat.le_refl _) _)
 have HW0 : Hid (w0 = ((w.alloc (smo s)).alloc (aobj a)).alloc (.cells z7.toArray 27)) := hw0
 have HS0 : Hid (SmIn w0 s) := h.sin.next HB0.out
 clear h hlw hlf hlh hlt hw0
 go_enter Tryz.func16, Tryz.ntmps16
 go_wp2_with fail
 rw [← HW0.out]
 refine (stateOf_any s w0 HS0.out HA.out.nil (by have := HLW.out; omega) (fun x hx => by have := HLF.out x hx; omega) (by have := HLH.out; omega) (by have := HLT.out; omega)).mono ?_
 rintro e w1 ⟨t, rfl, hst, hin, hhi, hnn, hb1⟩
 obtain ⟨w2, hw2⟩ : ∃ w2, w2 = ((w1.alloc (smo t)).alloc (.cells z7.toArray 27)).alloc kobj := ⟨_, rfl⟩
 obtain ⟨hab, hkk2⟩ := ap_first HW0.out hb1 hin hhi hnn hw2
 have HST : Hid (t.st = s.st) := hst
 have HABw2 : Hid (Ab w w2 w1.heap.size a t) := hab
 have KK2 : Hid (Bk (w1.heap.size + 2) [.int .i64 5, .int .i64 6, .int .i64 7, .int .i64 8, .int .i64 9, .int .i64 11, .int .i64 12, .int .i64 13, .int .i64 14] w2) := hkk2
 have HW2 : Hid (w2 = ((w1.alloc (smo t)).alloc (.cells z7.toArray 27)).alloc kobj) := hw2
 have hsz1 : w.heap.size + 3 ≤ w1.heap.size := hab.hi
 have HAT := (show Hid _ from at_knd hkk2 a.kind)
 clear hst hab hkk2 hin hhi hnn hb1 hw2
 go_upto_region 4 with fail
 rw [← HW2.out]
 obtain ⟨a0, a1, a2, a3, a4, a5, a6, a7⟩ := (HABw2.out.ka).c8
 go_wp2_with fail
 clear a0 a1 a2 a3 a4 a5 a6 a7 HW2 HS0 KA0 HB0
 refine Calls.mono HAT.out ?_
 rintro e w3 ⟨rfl, hw3⟩
 have hw4 := hw3.symm
 clear hw3 HAT
 subst hw4
 rw [HAK.out]
 obtain ⟨a0, a1, a2, a3, a4, a5, a6, a7⟩ := (HABw2.out.ka).c8
 obtain ⟨s0, s1, s2, s3, s4, s5, s6⟩ := (HABw2.out.ks).c7
 rw [HK.out] at a0
 go_wp2_with fail
 clear a0 a1 a2 a3 a4 a5 a6 a7 s0 s1 s2 s3 s4 s5 s6
 refine (isFlow_any 8 w2).mono ?_
 rintro e w3 ⟨rfl, hw3⟩
 have hw4 := hw3.symm
 clear hw3
 subst hw4
 rw [show isFl 8 = true from rfl]
 have HYS : Hid (mayS l t.st = true) := by show _ = _; rw [HST.out]; exact HA.out.yes
 have HDO : Hid (doA l t.st a = drawA l t.st a) := by show _ = _; unfold doA; rw [HK.out]; rfl
 obtain ⟨a0, a1, a2, a3, a4, a5, a6, a7⟩ := (HABw2.out.ka).c8
 obtain ⟨s0, s1, s2, s3, s4, s5, s6⟩ := (HABw2.out.ks).c7
 rw [HK.out] at a0
 go_wp2_with fail
 clear a0 a1 a2 a3 a4 a5 a6 a7 s0 s1 s2 s3 s4 s5 s6
 refine (wellCap_any ao cap l a.pl w2 (HA.out.deck.next HABw2.out.below) HA.out.dc).mono ?_
 rintro e w5 ⟨rfl, hb⟩
 have HABw5 : Hid (Ab w w5 w1.heap.size a t) := HABw2.out.later hb
 clear hb HABw2
 obtain ⟨⟨mo, e0⟩, hM⟩ : ∃ x, wellM l a.pl = x := ⟨_, rfl⟩
 have HM : Hid (wellM l a.pl = (mo, e0)) := hM
 rw [hM]
 clear hM
 by_cases he : e0 = 0
 rotate_left
 ·have HQ : Hid (applyR l s.st a = (sta0, e0)) := by
   show _ = _
   rw [← HST.out]
   refine ap_err (x := t.st) HYS.out ?_ he
   rw [HDO.out]
   unfold drawA aimR
   rw [HM.out]
   simp [he]
  have h2 : (e0 == 0) = false := by simp [he]
  have h3 : (e0 != 0) = true := by simp [he]
  clear he
  obtain ⟨a0, a1, a2, a3, a4, a5, a6, a7⟩ := (HABw5.out.ka).c8
  obtain ⟨s0, s1, s2, s3, s4, s5, s6⟩ := (HABw5.out.ks).c7
  rw [HK.out] at a0
  have ltR := HABw5.out.kr.1
  have ltZ := HABw5.out.kz.1
  have hiB := HABw5.out.hi
  have neR : w.heap.size + 2 ≠ w1.heap.size + 1 := by omega
  obtain ⟨r0, r1, r2, r3, r4, r5, r6⟩ := (HABw5.out.kr).c7
  obtain ⟨rf0, rf1, rf2, rf3, rf4, rf5, rf6⟩ := (HABw5.out.kr).f7
  obtain ⟨z0, z1, z2, z3, z4, z5, z6⟩ := (HABw5.out.kz).c7
  go_wp2
  refine bodyPost_ret (v := .tuple #[smv sm0, .int .i64 e0]) (by simp [results, Tryz.results16, go_sem, r0, r1, r2, r3, r4, r5, r6]) rfl ⟨sm0, by rw [HQ.out], by rw [HQ.out]; rfl, (ap_zero HABw5.out.below).1, (ap_zero HABw5.out.below).2⟩
 subst he
 simp only
 obtain ⟨a0, a1, a2, a3, a4, a5, a6, a7⟩ := (HABw5.out.ka).c8
 obtain ⟨s0, s1, s2, s3, s4, s5, s6⟩ := (HABw5.out.ks).c7
 rw [HK.out] at a0
 go_wp2_with fail
 clear a0 a1 a2 a3 a4 a5 a6 a7 s0 s1 s2 s3 s4 s5 s6
 refine (rwithin_any 1 a.vol 1000000000 w5).mono ?_
 rintro e w6 ⟨rfl, hw6⟩
 have hw7 := hw6.symm
 clear hw6
 subst hw7
 cases hvl : inR 1 1000000000 a.vol with
 | false =>
  have HQ : Hid (applyR l s.st a = (sta0, 2)) := by
   show _ = _
   rw [← HST.out]
   refine ap_err (x := t.st) HYS.out ?_ (by decide)
   rw [HDO.out]
   unfold drawA aimR
   rw [HM.out, hvl]
   simp
  clear hvl
  obtain ⟨a0, a1, a2, a3, a4, a5, a6, a7⟩ := (HABw5.out.ka).c8
  obtain ⟨s0, s1, s2, s3, s4, s5, s6⟩ := (HABw5.out.ks).c7
  rw [HK.out] at a0
  have ltR := HABw5.out.kr.1
  have ltZ := HABw5.out.kz.1
  have hiB := HABw5.out.hi
  have neR : w.heap.size + 2 ≠ w1.heap.size + 1 := by omega
  obtain ⟨r0, r1, r2, r3, r4, r5, r6⟩ := (HABw5.out.kr).c7
  obtain ⟨rf0, rf1, rf2, rf3, rf4, rf5, rf6⟩ := (HABw5.out.kr).f7
  obtain ⟨z0, z1, z2, z3, z4, z5, z6⟩ := (HABw5.out.kz).c7
  go_wp2
  refine bodyPost_ret (v := .tuple #[smv sm0, .int .i64 2]) (by simp [results, Tryz.results16, go_sem, r0, r1, r2, r3, r4, r5, r6]) rfl ⟨sm0, by rw [HQ.out], by rw [HQ.out]; rfl, (ap_zero HABw5.out.below).1, (ap_zero HABw5.out.below).2⟩
 | true =>
 have HAIM : Hid (aimR l a = (mo, 0)) := by
  show _ = _
  unfold aimR
  rw [HM.out, hvl]
  rfl
 have HVL : Hid (1 ≤ a.vol ∧ a.vol ≤ 1000000000) := inR_iff.1 hvl
 clear hvl
 obtain ⟨hq1, hq2, hq3⟩ := ap_wells HA.out HST.out
 have HQ1 : Hid (t.wl.length ≤ 4608) := hq1
 have HQ2 : Hid (∀ x ∈ t.wl, x.2.2.2.length ≤ 1000000000) := hq2
 have HQ3 : Hid (May l t.st) := hq3
 clear hq1 hq2 hq3
 cases htp : t.tip with
 | false =>
  have HQ : Hid (applyR l s.st a = (sta0, 12)) := by
   show _ = _
   rw [← HST.out]
   refine ap_err (x := t.st) HYS.out ?_ (by decide)
   rw [HDO.out]
   unfold drawA
   rw [HAIM.out, show t.st.tip = t.tip from rfl, htp]
   simp
  obtain ⟨a0, a1, a2, a3, a4, a5, a6, a7⟩ := (HABw5.out.ka).c8
  obtain ⟨s0, s1, s2, s3, s4, s5, s6⟩ := (HABw5.out.ks).c7
  rw [HK.out] at a0
  rw [htp] at s1
  clear htp
  have ltR := HABw5.out.kr.1
  have ltZ := HABw5.out.kz.1
  have hiB := HABw5.out.hi
  have neR : w.heap.size + 2 ≠ w1.heap.size + 1 := by omega
  obtain ⟨r0, r1, r2, r3, r4, r5, r6⟩ := (HABw5.out.kr).c7
  obtain ⟨rf0, rf1, rf2, rf3, rf4, rf5, rf6⟩ := (HABw5.out.kr).f7
  obtain ⟨z0, z1, z2, z3, z4, z5, z6⟩ := (HABw5.out.kz).c7
  go_wp2
  refine bodyPost_ret (v := .tuple #[smv sm0, .int .i64 12]) (by simp [results, Tryz.results16, go_sem, r0, r1, r2, r3, r4, r5, r6]) rfl ⟨sm0, by rw [HQ.out], by rw [HQ.out]; rfl, (ap_zero HABw5.out.below).1, (ap_zero HABw5.out.below).2⟩
 | true =>
  obtain ⟨_, _, htm, htt⟩ := tip_parts HQ3.out (show t.st.tip = true from htp)
  have HFH : Hid (F.fref t.held = 0) := (mayHold_iff.1 htm).1
  have HFD : Hid (F.fref (drops t.touched) = 0) := (withR_iff.1 (mayTouch_iff.1 htt).2.2).2.1
  have HTL2 : Hid (t.touched.length ≤ 100) := (mayTouch_iff.1 htt).1
  obtain ⟨old, hold⟩ : ∃ x, wellF t.st.wells a.pl = x := ⟨_, rfl⟩
  have HOLD : Hid (wellF t.st.wells a.pl = old) := hold
  have HFO : Hid (F.fref old = 0) := by show _ = _; rw [← hold]; exact well_fref HA.out.dc HQ3.out a.pl
  have HDR : Hid (drawA l t.st a = if (F.drawF a.vol old).2.2 ≠ 0 then (t.st, (F.drawF a.vol old).2.2) else if (F.withR (drops t.touched) old).1 = false then (t.st, 11) else if (togR t.held (F.drawF a.vol old).1 (tipM l)).2 ≠ 0 then (t.st, (togR t.held (F.drawF a.vol old).1 (tipM l)).2)
    else ({ t.st with wells := wset t.st.wells a.pl (F.drawF a.vol old).2.1, held := (togR t.held (F.drawF a.vol old).1 (tipM l)).1, touched := labsR old }, 0)) := by
   show _ = _
   unfold drawA
   rw [HAIM.out, if_neg (by simp), if_neg (show ¬ t.st.tip = false by rw [show t.st.tip = t.tip from rfl, htp]; decide), hold]
   rfl
  obtain ⟨a0, a1, a2, a3, a4, a5, a6, a7⟩ := (HABw5.out.ka).c8
  obtain ⟨s0, s1, s2, s3, s4, s5, s6⟩ := (HABw5.out.ks).c7
  rw [HK.out] at a0
  rw [htp] at s1
  clear htp htm htt hold
  go_upto_region 39 with fail
  clear a0 a1 a2 a3 a4 a5 a6 a7 s0 s1 s2 s3 s4 s5 s6
  obtain ⟨a0, a1, a2, a3, a4, a5, a6, a7⟩ := (HABw5.out.ka).c8
  obtain ⟨s0, s1, s2, s3, s4, s5, s6⟩ := (HABw5.out.ks).c7
  rw [HK.out] at a0
  go_wp2_with fail
  clear a0 a1 a2 a3 a4 a5 a6 a7 s0 s1 s2 s3 s4 s5 s6
  refine (wellOf_any t a.pl w5 HABw5.out.sin HABw5.out.nil (by have := HQ1.out; omega) HQ2.out).mono ?_
  rintro e w6 ⟨v6, rfl, ho6, hb⟩
  rw [HOLD.out] at ho6
  have HABw6 : Hid (Ab w w6 w1.heap.size a t) := HABw5.out.later hb
  obtain ⟨ao6, cap6, hv6, hz6, hn6⟩ := fz_own (bs := []) ho6 (F.fine_size HFO.out) (fun k hk => by cases hk)
  subst hv6
  have HO6 : Hid (F.Fl w6 ao6 old) := hz6.1
  clear ho6 hz6 hn6 hb
  obtain ⟨a0, a1, a2, a3, a4, a5, a6, a7⟩ := (HABw6.out.ka).c8
  obtain ⟨s0, s1, s2, s3, s4, s5, s6⟩ := (HABw6.out.ks).c7
  rw [HK.out] at a0
  go_wp2_with fail
  clear a0 a1 a2 a3 a4 a5 a6 a7 s0 s1 s2 s3 s4 s5 s6
  refine (fluidDraw_all ao6 cap6 old a.vol w6 HO6.out HFO.out (by have := HVL.out.1; omega)).mono ?_
  rintro e w7 ⟨vx, vy, rfl, hox, hoy, hb⟩
  have HDF : Hid ((F.drawF a.vol old).2.2 = 0 → (F.fref (F.drawF a.vol old).1 = 0 ∧ F.fref (F.drawF a.vol old).2.1 = 0) ∧ F.tot (F.drawF a.vol old).1 = a.vol) := fun h => by
   have h5 := (tot_drawF h).1
   obtain ⟨hf, h0, h1, e1, e2⟩ := drawF_ok h
   refine ⟨?_, h5⟩
   rw [e1, e2]
   exact F.draw_fine h0 hf
  obtain ⟨⟨taken, left, e1⟩, hdq⟩ : ∃ x, F.drawF a.vol old = x := ⟨_, rfl⟩
  rw [hdq] at hox hoy HDR HDF ⊢
  simp only at hox hoy HDR HDF ⊢
  have HABw7 : Hid (Ab w w7 w1.heap.size a t) := HABw6.out.later hb
  have HO7 : Hid (F.Fl w7 ao6 old) := HO6.out.next hb
  obtain ⟨aoX, capX, hvx⟩ := hox.shape
  obtain ⟨aoY, capY, hvy⟩ := hoy.shape
  subst hvx hvy
  have HOX : Hid (OwnR encC w7 w6.heap.size (.slice aoX taken.length capX) taken) := hox
  have HOY : Hid (OwnR encC w7 w6.heap.size (.slice aoY left.length capY) left) := hoy
  have h6B := HABw6.out.kz.1
  have h6R := HABw6.out.kr.1
  clear hox hoy hb hdq
  by_cases he : e1 = 0
  rotate_left
  ·have HQ : Hid (applyR l s.st a = (sta0, e1)) := by
    show _ = _
    rw [← HST.out]
    refine ap_err (x := t.st) HYS.out ?_ he
    rw [HDO.out, HDR.out, if_pos he]
   have h2 : (e1 == 0) = false := by simp [he]
   have h3 : (e1 != 0) = true := by simp [he]
   clear he
   obtain ⟨a0, a1, a2, a3, a4, a5, a6, a7⟩ := (HABw7.out.ka).c8
   obtain ⟨s0, s1, s2, s3, s4, s5, s6⟩ := (HABw7.out.ks).c7
   rw [HK.out] at a0
   have ltR := HABw7.out.kr.1
   have ltZ := HABw7.out.kz.1
   have hiB := HABw7.out.hi
   have neR : w.heap.size + 2 ≠ w1.heap.size + 1 := by omega
   obtain ⟨r0, r1, r2, r3, r4, r5, r6⟩ := (HABw7.out.kr).c7
   obtain ⟨rf0, rf1, rf2, rf3, rf4, rf5, rf6⟩ := (HABw7.out.kr).f7
   obtain ⟨z0, z1, z2, z3, z4, z5, z6⟩ := (HABw7.out.kz).c7
   go_wp2
   refine bodyPost_ret (v := .tuple #[smv sm0, .int .i64 e1]) (by simp [results, Tryz.results16, go_sem, r0, r1, r2, r3, r4, r5, r6]) rfl ⟨sm0, by rw [HQ.out], by rw [HQ.out]; rfl, (ap_zero HABw7.out.below).1, (ap_zero HABw7.out.below).2⟩
  subst he
  have HFX := (show Hid _ from HDF.out rfl)
  clear HDF
  obtain ⟨a0, a1, a2, a3, a4, a5, a6, a7⟩ := (HABw7.out.ka).c8
  obtain ⟨s0, s1, s2, s3, s4, s5, s6⟩ := (HABw7.out.ks).c7
  rw [HK.out] at a0
  go_wp2_with fail
  clear a0 a1 a2 a3 a4 a5 a6 a7 s0 s1 s2 s3 s4 s5 s6
  go_loopw [18] (fun i wr => ∃ k : Nat, k ≤ t.touched.length ∧ i = .int .i64 k ∧ (∀ x ∈ t.touched.take k, 0 < F.sumL old x.data.toList) ∧ w7 = wr) (fun i _ => t.touched.length - (intOf i).toNat)
  case atStart => exact ⟨0, Nat.zero_le _, rfl, (fun x hx => by simp at hx), rfl⟩
  case round =>
   obtain ⟨k, hk, rfl, hal, hwr⟩ := hrel
   subst hwr
   have HAL : Hid (∀ x ∈ t.touched.take k, 0 < F.sumL old x.data.toList) := hal
   clear hal
   obtain ⟨a0, a1, a2, a3, a4, a5, a6, a7⟩ := (HABw7.out.ka).c8
   obtain ⟨s0, s1, s2, s3, s4, s5, s6⟩ := (HABw7.out.ks).c7
   rw [HK.out] at a0
   have hl100 := HTL2.out
   by_cases hlt : k < t.touched.length
   ·have hki : (k : Int) < (t.touched.length : Int) := by omega
    obtain ⟨b, off, hao, _, c0, _⟩ := HABw7.out.sin.touched.at hlt
    rw [hao] at s3
    have HSU := (show Hid _ from F.labelSum_any ao6 cap6 old (t.touched[k]'hlt) w7 HO7.out HFO.out)
    have hs0 := (F.sumL_in (F.fref_in HFO.out).2.1.nn (t.touched[k]'hlt).data.toList).1
    have HNX : Hid (0 < F.sumL old (t.touched[k]'hlt).data.toList → ∀ x ∈ t.touched.take (k + 1), 0 < F.sumL old x.data.toList) := fun h x hx => by
     rw [List.take_succ_eq_append_getElem hlt] at hx
     rcases List.mem_append.1 hx with hx | hx
     ·exact HAL.out x hx
     ·rw [List.mem_singleton] at hx; rw [hx]; exact h
    have HNO : Hid (F.sumL old (t.touched[k]'hlt).data.toList = 0 → (F.withR (drops t.touched) old).1 = false) := fun h => by
     cases e : (F.withR (drops t.touched) old).1 with
     | false => rfl
     | true =>
      have := (with_drops HFD.out HFO.out).1 e _ (List.getElem_mem hlt)
      omega
    generalize F.sumL old (t.touched[k]'hlt).data.toList = su at *
    generalize t.touched[k]'hlt = x at *
    clear hao HAL
    go_wp2_with fail
    refine Calls.mono HSU.out ?_
    rintro e wz ⟨rfl, hwz⟩
    have hwy := hwz.symm
    clear hwz
    subst hwy
    by_cases hsu : su = 0
    ·have HQ : Hid (applyR l s.st a = (sta0, 11)) := by
      show _ = _
      rw [← HST.out]
      refine ap_err (x := t.st) HYS.out ?_ (by decide)
      rw [HDO.out, HDR.out, if_neg (by simp), if_pos (HNO.out hsu)]
     subst hsu
     clear HSU HNX HNO c0
     have ltR := HABw7.out.kr.1
     have ltZ := HABw7.out.kz.1
     have hiB := HABw7.out.hi
     have neR : w.heap.size + 2 ≠ w1.heap.size + 1 := by omega
     obtain ⟨r0, r1, r2, r3, r4, r5, r6⟩ := (HABw7.out.kr).c7
     obtain ⟨rf0, rf1, rf2, rf3, rf4, rf5, rf6⟩ := (HABw7.out.kr).f7
     obtain ⟨z0, z1, z2, z3, z4, z5, z6⟩ := (HABw7.out.kz).c7
     go_wp2
     refine bodyPost_ret (v := .tuple #[smv sm0, .int .i64 11]) (by simp [results, Tryz.results16, go_sem, r0, r1, r2, r3, r4, r5, r6]) rfl ⟨sm0, by rw [HQ.out], by rw [HQ.out]; rfl, (ap_zero HABw7.out.below).1, (ap_zero HABw7.out.below).2⟩
    ·have HN2 := (show Hid _ from HNX.out (by omega))
     have h2 : (su == 0) = false := by simp [hsu]
     clear HSU HNX HNO hsu
     go_wp2
     go_roundw
     case rel => exact ⟨k + 1, by omega, by go_num, HN2.out, (by first | rfl | trivial)⟩
     case measure => simp [intOf]; omega
   ·have hki : ¬ (k : Int) < (t.touched.length : Int) := by omega
    have HWI : Hid ((F.withR (drops t.touched) old).1 = true) := (with_drops HFD.out HFO.out).2 fun x hx => HAL.out x (by rw [List.take_of_length_le (by omega)]; exact hx)
    have hhi := F.fref_in HFH.out
    have ht0 := F.tot_nonneg hhi.2.1.nn
    have ht1 := hhi.2.2
    have hvl1 := HVL.out.1
    have hvl2 := HVL.out.2
    have htm := tipM_in HA.out.dc
    have HTG := (show Hid _ from tog_is HFH.out HFX.out.1.1 htm.2)
    have HPD := (show Hid _ from fun h => putD_is (f := t.held) (g := taken) htm.2 h)
    rw [HFX.out.2] at HTG HPD
    have HDR2 : Hid (drawA l t.st a = if (togR t.held taken (tipM l)).2 ≠ 0 then (t.st, (togR t.held taken (tipM l)).2) else ({ t.st with wells := wset t.st.wells a.pl left, held := (togR t.held taken (tipM l)).1, touched := labsR old }, 0)) := by
     show _ = _
     rw [HDR.out, if_neg (by simp), if_neg (by rw [HWI.out]; decide)]
    have HFT0 : Hid (∀ W, Below w7.heap.size w7 W → Calls Tryz.prog 47 #[.slice t.aoH t.held.length t.capH] W fun e w' => e = .returned (.int .i64 (F.tot t.held)) ∧ w' = W) := fun W hW => F.fluidTotal_any t.aoH t.capH t.held W (HABw7.out.sin.held.next hW) HFH.out
    have HTC : Hid (∀ W, Below w7.heap.size w7 W → Calls Tryz.prog 34 #[.slice ao l.length cap] W fun e w' => e = .returned (.int .i64 (tipM l)) ∧ Below W.heap.size W w') := fun W hW => tipCap_any ao cap l W ((HA.out.deck.next HABw7.out.below).next hW) HA.out.dc
    have HSUM : Hid (∀ T, F.tot t.held = T → F.tot t.held = T) := fun T h => h
    obtain ⟨T, hT⟩ : ∃ T, F.tot t.held = T := ⟨_, rfl⟩
    have HTT : Hid (F.tot t.held = T) := hT
    rw [hT] at ht0 ht1 HTG HPD HFT0
    have HFT := HFT0
    have hwp : IntKind.i64.wrap (T + a.vol) = T + a.vol := wrap_in (by omega) (by omega)
    have KS : Hid (Bk w1.heap.size (sml t) w7) := HABw7.out.ks
    have KA : Hid (Bk (w.heap.size + 1) (acl a) w7) := HABw7.out.ka
    clear hT HAL HSUM HFT0 hhi HDR HWI
    go_wp2_with fail
    clear a0 a1 a2 a3 a4 a5 a6 a7 s0 s1 s2 s3 s4 s5 s6
    rename_i KK hkk
    have HKK := (show Hid _ from hkk)
    clear hkk
    by_cases hfull : tipM l < T + a.vol
    ·have HQ : Hid (applyR l s.st a = (sta0, 9)) := by
      show _ = _
      rw [← HST.out]
      refine ap_err (x := t.st) HYS.out ?_ (by decide)
      rw [HDO.out, HDR2.out, HTG.out, if_pos hfull]
      rfl
     refine region_inv [zf,zf,zf,zf,zf,zf,zf,zf,zf,zf,zf,zf,zf,zf,zf,zf,zf,zf,zf,zf,zf,zf,zf,zf,zf,zf,zf,zf,zf,zf,zf,zf,zf,zf,zf,zf,zf,zf,zf,zf,zf,zf,zf,zf,zf,zf,zf,zf,zf,zf,zf,zf,zf,zf,zf,zf,zf,zf,zf,zf,zf,zf,zf,zf,zf,zf,zf,zf,zf,zf,zf,zf,zf,zf,zf,zf,zf,zf,zf,zf,zf,zf,zf,zf,zf,zf,zf,zf,zf,zf,zf,zf,zf,zf,zf,zf,zf,zf,zf,zf,zf,zf,zf,zf,zf,zf,zf,zf,zf,zf,zf,zf,zf,zf,zf,zf,zf,zf,zf,zf,zf,zf,zf,zf,zf,zf,zf,zf,zf,zf,zf,zf,zf,zf,zf,zf,zf,zf,zf,zf,zf,zf,zf,zf,zf,zf,zf,zf,zf,zf,zf,zf,zf,zf,zf,zf,zf,zf,zf,zf,zf,zf,zf,zf,zf,zf,zf,zf,zf,zf,zf,zt,zt,zt,zt,zt,zt,zt,zt,zt,zf,zf,zf,zf,zf,zf,zf,zf,zf,zf,zf,zf,zf,zf,zf,zf,zf,zf,zf,zf,zf,zf,zf,zf,zf,zf,zf,zf,zf,zf,zf,zf,zf,zf,zf,zf,zf,zf,zf,zf,zf,zf,zf,zf,zf,zf,zf,zf,zf,zf,zf,zf,zf,zf,zf,zf,zf,zf,zf,zf,zf,zf,zf,zf,zf,zf,zf,zf,zf,zf,zf,zf,zf,zf,zf,zf,zf,zf,zf,zf,zf,zf,zf,zf,zf,zf,zf]
      [(171, [], none), (172, [171], none), (173, [172], none), (174, [], none), (175, [174], none), (176, [173, 175], none), (177, [], none), (178, [177], none), (179, [176, 178], none)]
      (dfV ao l.length cap (w.heap.size + 1) w1.heap.size t.aoH t.held.length t.capH T a.vol (tipM l)) (by kernel_rfl) (by kernel_rfl) (dfV_mono ao l.length cap (w.heap.size + 1) w1.heap.size t.aoH t.held.length t.capH T a.vol (tipM l)) ?_ ?_
     ·refine ⟨?_, ?_, ?_, ?_, ?_, ?_, ?_, ?_, ?_, trivial⟩
      ·intro f wA hb _ K hK
       simp only [over, overL, Nat.reduceAdd]
       go_simp
       exact hK _ _ ⟨_, rfl, by simp only [over, overL, Nat.reduceAdd]; rfl, brf⟩
      ·rintro f wA hb ⟨(h171 : f 171 = _), _⟩ K hK
       have q2 := (KS.out.later hb).c 2 rfl
       simp only [over, overL, Nat.reduceAdd, h171]
       go_simp
       exact hK _ _ ⟨_, rfl, by simp only [over, overL, Nat.reduceAdd, h171]; rfl, brf⟩
      ·rintro f wA hb ⟨(h172 : f 172 = _), _⟩ K hK
       simp only [over, overL, Nat.reduceAdd, h172]
       go_simp
       refine ((HFT.out wA hb).mono) ?_
       rintro e w2 ⟨rfl, hw⟩
       exact hK _ _ ⟨_, rfl, by simp only [over, overL, Nat.reduceAdd, h172]; rfl, (by rw [hw]; exact brf)⟩
      ·intro f wA hb _ K hK
       simp only [over, overL, Nat.reduceAdd]
       go_simp
       exact hK _ _ ⟨_, rfl, by simp only [over, overL, Nat.reduceAdd]; rfl, brf⟩
      ·rintro f wA hb ⟨(h174 : f 174 = _), _⟩ K hK
       have q5 := (KA.out.later hb).c 5 rfl
       simp only [over, overL, Nat.reduceAdd, h174]
       go_simp
       exact hK _ _ ⟨_, rfl, by simp only [over, overL, Nat.reduceAdd, h174]; rfl, brf⟩
      ·rintro f wA hb ⟨(h173 : f 173 = _), (h175 : f 175 = _), _⟩ K hK
       simp only [over, overL, Nat.reduceAdd, h173, h175]
       go_simp
       exact hK _ _ ⟨_, rfl, by simp only [over, overL, Nat.reduceAdd, h173, h175]; rfl, brf⟩
      ·intro f wA hb _ K hK
       simp only [over, overL, Nat.reduceAdd]
       go_simp
       exact hK _ _ ⟨_, rfl, by simp only [over, overL, Nat.reduceAdd]; rfl, brf⟩
      ·rintro f wA hb ⟨(h177 : f 177 = _), _⟩ K hK
       simp only [over, overL, Nat.reduceAdd, h177]
       go_simp
       refine ((HTC.out wA hb).mono) ?_
       rintro e w2 ⟨rfl, hb2⟩
       exact hK _ _ ⟨_, rfl, by simp only [over, overL, Nat.reduceAdd, h177]; rfl, hb2⟩
      ·rintro f wA hb ⟨(h176 : f 176 = _), (h178 : f 178 = _), _⟩ K hK
       simp only [over, overL, Nat.reduceAdd, h176, h178]
       go_simp
       exact hK _ _ ⟨_, rfl, by simp only [over, overL, Nat.reduceAdd, h176, h178]; rfl, brf⟩
     intro f' w8 hbn hv
     have h179 : f' 179 = .bool true := hv.2.2.2.2.2.2.2.2.1
     have HABw8 : Hid (Ab w w8 w1.heap.size a t) := HABw7.out.later hbn
     clear hbn hv
     simp only [over, overL, Nat.reduceAdd, h179, arr_mk]
     clear h179 hfull
     refine HKK.out _ _ ?_
     have ltR := HABw8.out.kr.1
     have ltZ := HABw8.out.kz.1
     have hiB := HABw8.out.hi
     have neR : w.heap.size + 2 ≠ w1.heap.size + 1 := by omega
     obtain ⟨r0, r1, r2, r3, r4, r5, r6⟩ := (HABw8.out.kr).c7
     obtain ⟨rf0, rf1, rf2, rf3, rf4, rf5, rf6⟩ := (HABw8.out.kr).f7
     obtain ⟨z0, z1, z2, z3, z4, z5, z6⟩ := (HABw8.out.kz).c7
     go_wp2
     refine bodyPost_ret (v := .tuple #[smv sm0, .int .i64 9]) (by simp [results, Tryz.results16, go_sem, r0, r1, r2, r3, r4, r5, r6]) rfl ⟨sm0, by rw [HQ.out], by rw [HQ.out]; rfl, (ap_zero HABw8.out.below).1, (ap_zero HABw8.out.below).2⟩
    ·have hfull2 : T + a.vol ≤ tipM l := by omega
     refine region_inv [zf,zf,zf,zf,zf,zf,zf,zf,zf,zf,zf,zf,zf,zf,zf,zf,zf,zf,zf,zf,zf,zf,zf,zf,zf,zf,zf,zf,zf,zf,zf,zf,zf,zf,zf,zf,zf,zf,zf,zf,zf,zf,zf,zf,zf,zf,zf,zf,zf,zf,zf,zf,zf,zf,zf,zf,zf,zf,zf,zf,zf,zf,zf,zf,zf,zf,zf,zf,zf,zf,zf,zf,zf,zf,zf,zf,zf,zf,zf,zf,zf,zf,zf,zf,zf,zf,zf,zf,zf,zf,zf,zf,zf,zf,zf,zf,zf,zf,zf,zf,zf,zf,zf,zf,zf,zf,zf,zf,zf,zf,zf,zf,zf,zf,zf,zf,zf,zf,zf,zf,zf,zf,zf,zf,zf,zf,zf,zf,zf,zf,zf,zf,zf,zf,zf,zf,zf,zf,zf,zf,zf,zf,zf,zf,zf,zf,zf,zf,zf,zf,zf,zf,zf,zf,zf,zf,zf,zf,zf,zf,zf,zf,zf,zf,zf,zf,zf,zf,zf,zf,zf,zt,zt,zt,zt,zt,zt,zt,zt,zt,zf,zf,zf,zf,zf,zf,zf,zf,zf,zf,zf,zf,zf,zf,zf,zf,zf,zf,zf,zf,zf,zf,zf,zf,zf,zf,zf,zf,zf,zf,zf,zf,zf,zf,zf,zf,zf,zf,zf,zf,zf,zf,zf,zf,zf,zf,zf,zf,zf,zf,zf,zf,zf,zf,zf,zf,zf,zf,zf,zf,zf,zf,zf,zf,zf,zf,zf,zf,zf,zf,zf,zf,zf,zf,zf,zf,zf,zf,zf,zf,zf,zf,zf,zf,zf,zf,zf]
      [(171, [], none), (172, [171], none), (173, [172], none), (174, [], none), (175, [174], none), (176, [173, 175], none), (177, [], none), (178, [177], none), (179, [176, 178], none)]
      (dgV ao l.length cap (w.heap.size + 1) w1.heap.size t.aoH t.held.length t.capH T a.vol (tipM l)) (by kernel_rfl) (by kernel_rfl) (dgV_mono ao l.length cap (w.heap.size + 1) w1.heap.size t.aoH t.held.length t.capH T a.vol (tipM l)) ?_ ?_
     ·refine ⟨?_, ?_, ?_, ?_, ?_, ?_, ?_, ?_, ?_, trivial⟩
      ·intro f wA hb _ K hK
       simp only [over, overL, Nat.reduceAdd]
       go_simp
       exact hK _ _ ⟨_, rfl, by simp only [over, overL, Nat.reduceAdd]; rfl, brf⟩
      ·rintro f wA hb ⟨(h171 : f 171 = _), _⟩ K hK
       have q2 := (KS.out.later hb).c 2 rfl
       simp only [over, overL, Nat.reduceAdd, h171]
       go_simp
       exact hK _ _ ⟨_, rfl, by simp only [over, overL, Nat.reduceAdd, h171]; rfl, brf⟩
      ·rintro f wA hb ⟨(h172 : f 172 = _), _⟩ K hK
       simp only [over, overL, Nat.reduceAdd, h172]
       go_simp
       refine ((HFT.out wA hb).mono) ?_
       rintro e w2 ⟨rfl, hw⟩
       exact hK _ _ ⟨_, rfl, by simp only [over, overL, Nat.reduceAdd, h172]; rfl, (by rw [hw]; exact brf)⟩
      ·intro f wA hb _ K hK
       simp only [over, overL, Nat.reduceAdd]
       go_simp
       exact hK _ _ ⟨_, rfl, by simp only [over, overL, Nat.reduceAdd]; rfl, brf⟩
      ·rintro f wA hb ⟨(h174 : f 174 = _), _⟩ K hK
       have q5 := (KA.out.later hb).c 5 rfl
       simp only [over, overL, Nat.reduceAdd, h174]
       go_simp
       exact hK _ _ ⟨_, rfl, by simp only [over, overL, Nat.reduceAdd, h174]; rfl, brf⟩
      ·rintro f wA hb ⟨(h173 : f 173 = _), (h175 : f 175 = _), _⟩ K hK
       simp only [over, overL, Nat.reduceAdd, h173, h175]
       go_simp
       exact hK _ _ ⟨_, rfl, by simp only [over, overL, Nat.reduceAdd, h173, h175]; rfl, brf⟩
      ·intro f wA hb _ K hK
       simp only [over, overL, Nat.reduceAdd]
       go_simp
       exact hK _ _ ⟨_, rfl, by simp only [over, overL, Nat.reduceAdd]; rfl, brf⟩
      ·rintro f wA hb ⟨(h177 : f 177 = _), _⟩ K hK
       simp only [over, overL, Nat.reduceAdd, h177]
       go_simp
       refine ((HTC.out wA hb).mono) ?_
       rintro e w2 ⟨rfl, hb2⟩
       exact hK _ _ ⟨_, rfl, by simp only [over, overL, Nat.reduceAdd, h177]; rfl, hb2⟩
      ·rintro f wA hb ⟨(h176 : f 176 = _), (h178 : f 178 = _), _⟩ K hK
       simp only [over, overL, Nat.reduceAdd, h176, h178]
       go_simp
       exact hK _ _ ⟨_, rfl, by simp only [over, overL, Nat.reduceAdd, h176, h178]; rfl, brf⟩
     intro f' w8 hbn hv
     have h179 : f' 179 = .bool false := hv.2.2.2.2.2.2.2.2.1
     have HABw8 : Hid (Ab w w8 w1.heap.size a t) := HABw7.out.later hbn
     have HO8 : Hid (F.Fl w8 ao6 old) := HO7.out.next hbn
     have HOX8 : Hid (OwnR encC w8 w6.heap.size (.slice aoX taken.length capX) taken) := HOX.out.later hbn
     have HOY8 : Hid (OwnR encC w8 w6.heap.size (.slice aoY left.length capY) left) := HOY.out.later hbn
     clear hbn hv
     simp only [over, overL, Nat.reduceAdd, h179, arr_mk]
     clear h179
     refine HKK.out _ _ ?_
     have HPE := (show Hid _ from HPD.out (by omega))
     have HTE : Hid (togR t.held taken (tipM l) = if 100 < (F.plainL (t.held ++ taken)).length then ([], 7) else (F.plainL (t.held ++ taken), 0)) := by show _ = _; rw [HTG.out, if_neg hfull]
     have HZX : Hid (F.Fl w8 aoX taken) := (fz_own (bs := []) HOX8.out (F.fine_size HFX.out.1.1) (fun k hk => by cases hk)).elim fun ao' h => h.elim fun cap' h => by
      obtain ⟨e', hz, _⟩ := h
      injection e' with e1 _ _
      rw [e1]
      exact hz.1
     clear HTG HPD hwp KS KA HKK HFT HTC
     obtain ⟨a0, a1, a2, a3, a4, a5, a6, a7⟩ := (HABw8.out.ka).c8
     obtain ⟨s0, s1, s2, s3, s4, s5, s6⟩ := (HABw8.out.ks).c7
     rw [HK.out] at a0
     go_wp2_with fail
     clear a0 a1 a2 a3 a4 a5 a6 a7 s0 s1 s2 s3 s4 s5 s6
     refine (F.fluidPut_any t.aoH aoX t.capH capX t.held taken w8 HABw8.out.sin.held HZX.out HABw8.out.nil.held HOX8.out.nilcap HFH.out HFX.out.1.1).mono ?_
     rintro e w9 ⟨v9, rfl, ho9, hb⟩
     rw [HPE.out] at ho9 ⊢
     have HABw9 : Hid (Ab w w9 w1.heap.size a t) := HABw8.out.later hb
     have HO9 : Hid (F.Fl w9 ao6 old) := HO8.out.next hb
     have HOY9 : Hid (OwnR encC w9 w6.heap.size (.slice aoY left.length capY) left) := HOY8.out.later hb
     have h8B := HABw8.out.kz.1
     have h8R := HABw8.out.kr.1
     clear hb HOX8 HZX HO8 HOY8
     obtain ⟨ao9, cap9, hv9⟩ := OwnR.shape (c := encC) ho9
     subst hv9
     by_cases hc : 100 < (F.plainL (t.held ++ taken)).length
     ·have HQ : Hid (applyR l s.st a = (sta0, 7)) := by
       show _ = _
       rw [← HST.out]
       refine ap_err (x := t.st) HYS.out ?_ (by decide)
       rw [HDO.out, HDR2.out, HTE.out, if_pos hc]
       rfl
      rw [if_pos hc] at ho9 ⊢
      simp only at ho9 ⊢
      clear ho9 hc HTE HPE
      obtain ⟨a0, a1, a2, a3, a4, a5, a6, a7⟩ := (HABw9.out.ka).c8
      obtain ⟨s0, s1, s2, s3, s4, s5, s6⟩ := (HABw9.out.ks).c7
      rw [HK.out] at a0
      go_wp2_with fail
      clear a0 a1 a2 a3 a4 a5 a6 a7 s0 s1 s2 s3 s4 s5 s6
      refine (F.fluidSorted_any ao6 cap6 old w9 HO9.out HFO.out).mono ?_
      rintro e wS ⟨vS, S, rfl, hS, hoS, hb⟩
      obtain ⟨aoS, capS, hvS⟩ := OwnR.shape (c := encC) hoS
      subst hvS
      have HABwS : Hid (Ab w wS w1.heap.size a t) := HABw9.out.later hb
      clear hb hoS hS
      have ltR := HABwS.out.kr.1
      have ltZ := HABwS.out.kz.1
      have hiB := HABwS.out.hi
      have neR : w.heap.size + 2 ≠ w1.heap.size + 1 := by omega
      obtain ⟨r0, r1, r2, r3, r4, r5, r6⟩ := (HABwS.out.kr).c7
      obtain ⟨rf0, rf1, rf2, rf3, rf4, rf5, rf6⟩ := (HABwS.out.kr).f7
      obtain ⟨z0, z1, z2, z3, z4, z5, z6⟩ := (HABwS.out.kz).c7
      go_wp2
      refine bodyPost_ret (v := .tuple #[smv sm0, .int .i64 7]) (by simp [results, Tryz.results16, go_sem, r0, r1, r2, r3, r4, r5, r6]) rfl ⟨sm0, by rw [HQ.out], by rw [HQ.out]; rfl, (ap_zero HABwS.out.below).1, (ap_zero HABwS.out.below).2⟩
     ·rw [if_neg hc] at ho9 HTE ⊢
      simp only at ho9 ⊢
      have hszp : F.fref (F.plainL (t.held ++ taken)) = 0 := fref_plain HFH.out HFX.out.1.1 (by omega) (by rw [HTT.out, HFX.out.2]; omega)
      have HO9P : Hid (OwnR encC w9 w8.heap.size (.slice ao9 (F.plainL (t.held ++ taken)).length cap9) (F.plainL (t.held ++ taken))) := ho9
      have HFP : Hid (F.fref (F.plainL (t.held ++ taken)) = 0) := hszp
      generalize F.plainL (t.held ++ taken) = put9 at *
      have HQ : Hid (applyR l s.st a = ({ t.st with wells := wset t.st.wells a.pl left, held := put9, touched := labsR old }, 0)) := by
       show _ = _
       rw [← HST.out]
       refine ap_ok HYS.out ?_
       rw [HDO.out, HDR2.out, HTE.out]
       rfl
      clear ho9 hszp hc HTE HPE HDR2
      obtain ⟨a0, a1, a2, a3, a4, a5, a6, a7⟩ := (HABw9.out.ka).c8
      obtain ⟨s0, s1, s2, s3, s4, s5, s6⟩ := (HABw9.out.ks).c7
      rw [HK.out] at a0
      go_wp2_with fail
      clear a0 a1 a2 a3 a4 a5 a6 a7 s0 s1 s2 s3 s4 s5 s6
      refine (F.fluidSorted_any ao6 cap6 old w9 HO9.out HFO.out).mono ?_
      rintro e wS ⟨vS, S, rfl, hS, hoS, hb⟩
      have HABwS : Hid (Ab w wS w1.heap.size a t) := HABw9.out.later hb
      have HLS : Hid (S.map (·.1) = labsR old) := srt_labs (F.fref_in HFO.out).2.1.nn hS
      have hSl : S.length ≤ 100 := by
       have h1 := congrArg List.length (srt_labs (F.fref_in HFO.out).2.1.nn hS)
       rw [List.length_map] at h1
       have h2 := length_labsR old
       have h3 := (F.fref_in HFO.out).1
       omega
      have HSS : Hid (∀ q ∈ S, q.1.size ≤ maxLen) := F.srt_size HFO.out hS
      obtain ⟨aoS, capS, hvS, hzS, _⟩ := fz_own (bs := [w1.heap.size, w.heap.size + 2]) hoS HSS.out (fun k hk => by
       have h1 := HABw9.out.kz.1
       have h2 := HABw9.out.kr.1
       simp only [List.mem_cons, List.not_mem_nil, or_false] at hk
       rcases hk with rfl | rfl
       ·omega
       ·omega)
      subst hvS
      have HZS : Hid (Fz [w1.heap.size, w.heap.size + 2] wS aoS S) := hzS
      have key : ∀ {ao : Option Addr} {cap base : Nat} {ps : List F.Pc}, OwnR encC w9 base (.slice ao ps.length cap) ps → w1.heap.size < base → w.heap.size + 2 < base → F.fref ps = 0 → Fz [w1.heap.size, w.heap.size + 2] w9 ao ps := fun {ao cap base ps} ho hB hR hr => by
       obtain ⟨ao', cap', e', hz, _⟩ := fz_own (bs := [w1.heap.size, w.heap.size + 2]) ho (F.fine_size hr) (fun k hk => by
        simp only [List.mem_cons, List.not_mem_nil, or_false] at hk
        rcases hk with rfl | rfl
        ·omega
        ·omega)
       injection e' with e1 _ _
       rw [e1]
       exact hz
      have HZY : Hid (Fz [w1.heap.size, w.heap.size + 2] wS aoY left) := (key HOY9.out (by omega) (by omega) HFX.out.1.2).next hb
      have HZP : Hid (Fz [w1.heap.size, w.heap.size + 2] wS ao9 put9) := (key HO9P.out (by omega) (by omega) HFP.out).next hb
      have HNY : Hid (aoY = none → capY = 0) := HOY9.out.nilcap
      have HNP : Hid (ao9 = none → cap9 = 0) := HO9P.out.nilcap
      have hS100 : ¬ (100 : Int) < (S.length : Int) := by omega
      have hS101 : decide ((100 : Int) < (S.length : Int)) = false := by simp; omega
      clear hb hoS hS hzS key HO9 HOY9 HO9P
      obtain ⟨a0, a1, a2, a3, a4, a5, a6, a7⟩ := (HABwS.out.ka).c8
      obtain ⟨s0, s1, s2, s3, s4, s5, s6⟩ := (HABwS.out.ks).c7
      rw [HK.out] at a0
      go_wp2_with fail
      clear a0 a1 a2 a3 a4 a5 a6 a7 s0 s1 s2 s3 s4 s5 s6
      refine (wellSet_any [w1.heap.size, w.heap.size + 2] t a.pl aoY capY left wS (fun k hk => by
       simp only [List.mem_cons, List.not_mem_nil, or_false] at hk
       rcases hk with rfl | rfl
       ·exact HABwS.out.ks.1
       ·exact HABwS.out.kr.1) HABwS.out.sin HABwS.out.nil HABwS.out.apart HZY.out HNY.out HQ1.out).mono ?_
      rintro e wT ⟨t1, rfl, hst1, hin1, hnn1, hxx1, hb⟩
      have HABwT : Hid (Ab w wT w1.heap.size a t) := HABwS.out.later hb
      have HABu : Hid (Ab w (put7 wT w1.heap.size t1) w1.heap.size a t1) := HABwT.out.box hin1 hnn1 hxx1
      have HST1 : Hid (t1.st = { t.st with wells := wset t.st.wells a.pl left }) := hst1
      have hbt : ButL [w1.heap.size, w.heap.size + 2] wT (put7 wT w1.heap.size t1) := butL_put7 (by simp) wT t1
      have hzp1 := fl_butL (HZP.out.next hb) hbt
      have hzs1 := fl_butL (HZS.out.next hb) hbt
      have hbl2 : ButL [w1.heap.size, w.heap.size + 2] (put7 wT w1.heap.size t1) (((put7 wT w1.heap.size t1).setCell ⟨w1.heap.size, 2, none⟩ (.slice ao9 put9.length cap9)).setCell ⟨w1.heap.size, 3, none⟩ (.slice none 0 0)) := (butL_set _ w1.heap.size 2 _ (by simp)).trans (butL_set _ w1.heap.size 3 _ (by simp))
      have HABv0 := (HABu.out.set 2 (.slice ao9 put9.length cap9) { t1 with aoH := ao9, capH := cap9, held := put9 } rfl (fun h => ⟨h.wells, hzp1.1, h.touched⟩) ⟨HABu.out.nil.fl, HNP.out, HABu.out.nil.touched⟩ ⟨HABu.out.apart.row, HABu.out.apart.fl, hzp1.2, HABu.out.apart.touched⟩).set 3 (.slice none 0 0) { t1 with aoH := ao9, capH := cap9, held := put9, aoT := none, capT := 0, touched := [] } rfl (fun h => ⟨h.wells, h.held, Tx.nil _ _⟩) ⟨HABu.out.nil.fl, HNP.out, fun _ => rfl⟩ ⟨HABu.out.apart.row, HABu.out.apart.fl, hzp1.2, .inl rfl⟩
      obtain ⟨wV, hwV⟩ : ∃ wV, wV = (((put7 wT w1.heap.size t1).setCell ⟨w1.heap.size, 2, none⟩ (.slice ao9 put9.length cap9)).setCell ⟨w1.heap.size, 3, none⟩ (.slice none 0 0)) := ⟨_, rfl⟩
      have HABwV : Hid (Ab w wV w1.heap.size a { t1 with aoH := ao9, capH := cap9, held := put9, aoT := none, capT := 0, touched := [] }) := by show Ab _ _ _ _ _; rw [hwV]; exact HABv0
      have HZSV : Hid (Fz [w1.heap.size, w.heap.size + 2] wV aoS S) := by show Fz _ _ _ _; rw [hwV]; exact fl_butL hzs1 hbl2
      have HWV : Hid (wV = (((put7 wT w1.heap.size t1).setCell ⟨w1.heap.size, 2, none⟩ (.slice ao9 put9.length cap9)).setCell ⟨w1.heap.size, 3, none⟩ (.slice none 0 0))) := hwV
      clear hb hst1 hin1 hnn1 hxx1 hbt hzp1 hzs1 hbl2 HABv0 hwV HABu HZP HZS HZY
      have ltR := HABwT.out.kr.1
      have ltB := HABwT.out.ks.1
      have ltZ := HABwT.out.kz.1
      have hiB := HABwT.out.hi
      have neR : w.heap.size + 2 ≠ w1.heap.size := by omega
      have neS : w1.heap.size ≠ w.heap.size + 2 := by omega
      have neT : w.heap.size + 2 ≠ w1.heap.size + 1 := by omega
      have neU : w1.heap.size + 1 ≠ w1.heap.size := by omega
      obtain ⟨r0, r1, r2, r3, r4, r5, r6⟩ := (HABwT.out.kr).c7
      obtain ⟨rf0, rf1, rf2, rf3, rf4, rf5, rf6⟩ := (HABwT.out.kr).f7
      obtain ⟨s0, s1, s2, s3, s4, s5, s6⟩ := (HABwT.out.ks).c7
      obtain ⟨sf0, sf1, sf2, sf3, sf4, sf5, sf6⟩ := (HABwT.out.ks).f7
      obtain ⟨z0, z1, z2, z3, z4, z5, z6⟩ := (HABwT.out.kz).c7
      go_wp2_with fail
      rw [← HWV.out]
      clear r0 r1 r2 r3 r4 r5 r6 rf0 rf1 rf2 rf3 rf4 rf5 rf6 s0 s1 s2 s3 s4 s5 s6 sf0 sf1 sf2 sf3 sf4 sf5 sf6 z0 z1 z2 z3 z4 z5 z6 ltR ltB ltZ neR neS neT neU hiB
      have HD0 : Hid (Dr wV wV w1.heap.size { t1 with aoH := ao9, capH := cap9, held := put9, aoT := none, capT := 0, touched := [] } S 0 none 0 0) := ⟨⟨rfl, rfl, rfl, Nat.le_refl _, fun _ _ _ => rfl⟩, by simp, HABwV.out.ks, by simpa using OwnR.nil encT wV wV.heap.size⟩
      go_loopw [22] (fun i wr => ∃ (k : Nat) (aoT : Option Addr) (nT capT : Nat), k ≤ S.length ∧ i = .int .i64 k ∧ Dr wV wr w1.heap.size { t1 with aoH := ao9, capH := cap9, held := put9, aoT := none, capT := 0, touched := [] } S k aoT nT capT) (fun i _ => S.length - (intOf i).toNat)
      case atStart => exact ⟨0, none, 0, 0, Nat.zero_le _, rfl, HD0.out⟩
      case round =>
       obtain ⟨k, aoT, nT, capT, hk, rfl, hdr⟩ := hrel
       have HDI : Hid (Dr wV wr w1.heap.size { t1 with aoH := ao9, capH := cap9, held := put9, aoT := none, capT := 0, touched := [] } S k aoT nT capT) := hdr
       clear hdr
       by_cases hlt : k < S.length
       ·have hki : (k : Int) < (S.length : Int) := by omega
        obtain ⟨bS, oS, hao, _, c0, _, _⟩ := F.Fl.at (fl_butL HZSV.out ⟨HDI.out.but.os, HDI.out.but.tape, HDI.out.but.output, HDI.out.but.size, fun i h1 h2 => HDI.out.but.block i h1 (fun hm => h2 (by simp at hm ⊢; exact .inl hm))⟩).1 hlt
        subst hao
        have HTS : Hid ((S.map (·.1)).take (k + 1) = (S.map (·.1)).take k ++ [(S[k]'hlt).1]) := by show _ = _; rw [List.take_succ_eq_append_getElem (by simpa using hlt)]; simp
        generalize (S[k]'hlt).1 = x at *
        have KS : Hid (Bk w1.heap.size [.slice t1.aoW t1.wl.length t1.capW, .bool t1.tip, .slice ao9 put9.length cap9, .slice aoT nT capT, .int .i64 t1.used, .int .i64 t1.heat, .int .i64 t1.clock] wr) := HDI.out.ks
        have hln : ((S.map (·.1)).take k).length ≤ 1000000000 := by rw [List.length_take, List.length_map]; omega
        have hsV : wV.heap.size ≤ wr.heap.size := HDI.out.but.size
        have hBV : w1.heap.size < wV.heap.size := HABwV.out.ks.1
        go_wp2_with fail
        refine region_seq 8 [zf,zf,zf,zf,zf,zf,zf,zf,zf,zf,zf,zf,zf,zf,zf,zf,zf,zf,zf,zf,zf,zf,zf,zf,zf,zf,zf,zf,zf,zf,zf,zf,zf,zf,zf,zf,zf,zf,zf,zf,zf,zf,zf,zf,zf,zf,zf,zf,zf,zf,zf,zf,zf,zf,zf,zf,zf,zf,zf,zf,zf,zf,zf,zf,zf,zf,zf,zf,zf,zf,zf,zf,zf,zf,zf,zf,zf,zf,zf,zf,zf,zf,zf,zf,zf,zf,zf,zf,zf,zf,zf,zf,zf,zf,zf,zf,zf,zf,zf,zf,zf,zf,zf,zf,zf,zf,zf,zf,zf,zf,zf,zf,zf,zf,zf,zf,zf,zf,zf,zf,zf,zf,zf,zf,zf,zf,zf,zf,zf,zf,zf,zf,zf,zf,zf,zf,zf,zf,zf,zf,zf,zf,zf,zf,zf,zf,zf,zf,zf,zf,zf,zf,zf,zf,zf,zf,zf,zf,zf,zf,zf,zf,zf,zf,zf,zf,zf,zf,zf,zf,zf,zf,zf,zf,zf,zf,zf,zf,zf,zf,zf,zf,zf,zf,zf,zf,zf,zf,zf,zf,zf,zf,zf,zf,zf,zf,zf,zf,zf,zf,zf,zf,zf,zf,zf,zf,zf,zf,zf,zf,zf,zf,zt,zt,zt,zt,zt,zt,zt,zt,zf,zf,zf,zf,zf,zf,zf,zf,zf,zf,zf,zf,zf,zf,zf,zf,zf,zf,zf,zf,zf,zf,zf,zf,zf,zf,zf,zf,zf,zf,zf,zf,zf,zf,zf,zf,zf,zf,zf,zf,zf,zf,zf,zf,zf,zf,zf]
         [(212, [], none), (213, [212], none), (214, [], none), (215, [], none), (216, [214, 215], none), (217, [216], none), (218, [217], none), (219, [218], none)]
         (dhV w1.heap.size bS oS S.length capS k aoT nT capT x) (by kernel_rfl) (by kernel_rfl) (by kernel_rfl) (by kernel_rfl) (by kernel_rfl) (by decide) (dhV_mono w1.heap.size bS oS S.length capS k aoT nT capT x) ?_ ?_
        ·refine ⟨?_, ?_, ?_, ?_, ?_, ?_, ?_, ?_, trivial⟩
         ·intro f wA hb _ K hK
          simp only [over, overL, Nat.reduceAdd]
          go_simp
          exact hK _ _ ⟨_, rfl, by simp only [over, overL, Nat.reduceAdd]; rfl, brf⟩
         ·rintro f wA hb ⟨(h212 : f 212 = _), _⟩ K hK
          have q3 := (KS.out.later hb).c 3 rfl
          simp only [over, overL, Nat.reduceAdd, h212]
          go_simp
          exact hK _ _ ⟨_, rfl, by simp only [over, overL, Nat.reduceAdd, h212]; rfl, brf⟩
         ·intro f wA hb _ K hK
          simp only [over, overL, Nat.reduceAdd]
          go_simp
          exact hK _ _ ⟨_, rfl, by simp only [over, overL, Nat.reduceAdd]; rfl, brf⟩
         ·intro f wA hb _ K hK
          simp only [over, overL, Nat.reduceAdd]
          go_simp
          exact hK _ _ ⟨_, rfl, by simp only [over, overL, Nat.reduceAdd]; rfl, brf⟩
         ·rintro f wA hb ⟨(h214 : f 214 = _), (h215 : f 215 = _), _⟩ K hK
          simp only [over, overL, Nat.reduceAdd, h214, h215]
          go_simp
          exact hK _ _ ⟨_, rfl, by simp only [over, overL, Nat.reduceAdd, h214, h215]; rfl, brf⟩
         ·rintro f wA hb ⟨(h216 : f 216 = _), _⟩ K hK
          simp only [over, overL, Nat.reduceAdd, h216]
          go_simp
          exact hK _ _ ⟨_, rfl, by simp only [over, overL, Nat.reduceAdd, h216]; rfl, brf⟩
         ·rintro f wA hb ⟨(h217 : f 217 = _), _⟩ K hK
          have q9 := cell_later hb c0
          simp only [over, overL, Nat.reduceAdd, h217]
          go_simp
          exact hK _ _ ⟨_, rfl, by simp only [over, overL, Nat.reduceAdd, h217]; rfl, brf⟩
         ·rintro f wA hb ⟨(h218 : f 218 = _), _⟩ K hK
          simp only [over, overL, Nat.reduceAdd, h218]
          go_simp
          exact hK _ _ ⟨_, ⟨wA.heap.size, rfl, Bk.new wA [.string x] 9 wA.heap.size rfl⟩, by simp only [over, overL, Nat.reduceAdd, h218]; rfl, (brf).alloc (Nat.le_refl _) _⟩
        intro f' w3 hbn hv
        have h213 : f' 213 = _ := hv.2.1
        have h219 : ∃ g, f' 219 = .slice (some ⟨g, 0, none⟩) 1 1 ∧ Bk g [.string x] w3 := hv.2.2.2.2.2.2.2.1
        obtain ⟨g, h219, hkg⟩ := h219
        have KG : Hid (Bk g [.string x] w3) := hkg
        have KS3 : Hid (Bk w1.heap.size [.slice t1.aoW t1.wl.length t1.capW, .bool t1.tip, .slice ao9 put9.length cap9, .slice aoT nT capT, .int .i64 t1.used, .int .i64 t1.heat, .int .i64 t1.clock] w3) := KS.out.later hbn
        have HO3 : Hid (OwnR encT w3 wV.heap.size (.slice aoT nT capT) ((S.map (·.1)).take k)) := HDI.out.own.later hbn
        have HBU3 : Hid (ButL [w1.heap.size] wV w3) := HDI.out.but.trans (butL_below hbn)
        have hl3 : wV.heap.size ≤ w3.heap.size := HBU3.out.size
        clear hbn hv hkg
        simp only [List.drop, over, overL, Nat.reduceAdd, h213, h219]
        clear h213 h219
        go_wp2_with (first
         | (at_builtin; refine wpList_append_row goodT Tryz.underlying25 infoT rfl (by decide) (by decide) _ rfl (.tmp 213) (.tmp 219) rfl wV.heap.size (.slice aoT nT capT) ((S.map (·.1)).take k) rfl HO3.out g x rfl (fun j u hu => KG.out.c j hu) hln hl3 ?_; intro v' w4 ho hg hloc; rw [← HTS.out] at ho; obtain ⟨ac, hac⟩ : ∃ ac, ac = (S.map (·.1)).take (k + 1) := ⟨_, rfl⟩; have HAC : Hid (ac = (S.map (·.1)).take (k + 1)) := hac; rw [← hac] at ho; obtain ⟨aoN, capN, hvN⟩ := ho.shape; subst hvN; have hrw : ∀ q, (Value.slice aoT nT capT).ownBlock = some q → wV.heap.size ≤ q := (fun q hq => (World.ownsRow.lt HO3.out q hq).1); have KS4 : Hid (Bk w1.heap.size [.slice t1.aoW t1.wl.length t1.capW, .bool t1.tip, .slice ao9 put9.length cap9, .slice aoT nT capT, .int .i64 t1.used, .int .i64 t1.heat, .int .i64 t1.clock] w4) := KS3.out.same hg.size (hg.block _ KS3.out.1 (fun e => by have := hrw _ e.symm; omega)); have HBU4 : Hid (ButL [w1.heap.size] wV w4) := HBU3.out.trans4 hg hrw; have HO4 : Hid (OwnR encT w4 wV.heap.size (.slice aoN ac.length capN) ac) := ho; have hrN : Hid (∀ q, (Value.slice aoN ac.length capN).ownBlock = some q → wV.heap.size ≤ q) := (fun q hq => (World.ownsRow.lt ho q hq).1); clear hac ho hg hloc hrw; have s3 := KS4.out.c 3 rfl; have sf3 := KS4.out.f 3 rfl; have lt4 := KS4.out.1)
         | go_in)
        have HDN : Hid (Dr wV (w4.setCell ⟨w1.heap.size, 3, none⟩ (.slice aoN ac.length capN)) w1.heap.size { t1 with aoH := ao9, capH := cap9, held := put9, aoT := none, capT := 0, touched := [] } S (k + 1) aoN ac.length capN) := by
         refine ⟨HBU4.out.trans (butL_set w4 w1.heap.size 3 _ (by simp)), by rw [HAC.out], KS4.out.put 3 _, ?_⟩
         rw [← HAC.out]
         exact HO4.out.kept (grown_set w4 _ 3 _) (.inr fun e => by have := hrN.out _ e; omega)
        clear s3 sf3 lt4
        go_roundw
        case rel => exact ⟨k + 1, aoN, ac.length, capN, by omega, by go_num, HDN.out⟩
        case measure => simp [intOf]; omega
       ·have hki : ¬ (k : Int) < (S.length : Int) := by omega
        have HTK : Hid ((S.map (·.1)).take k = labsR old) := by show _ = _; rw [List.take_of_length_le (by simp; omega), HLS.out]
        have HLN : Hid (nT = (labsR old).length) := by show _ = _; rw [HDI.out.len, HTK.out]
        have hown := HDI.out.own
        rw [HTK.out] at hown
        have HOW : Hid (OwnR encT wr wV.heap.size (.slice aoT nT capT) (labsR old)) := hown
        have HSZ : Hid (∀ q ∈ labsR old, q.size ≤ maxLen) := fun q hq => by
         rw [← HLS.out] at hq
         obtain ⟨r, hr, rfl⟩ := List.mem_map.1 hq
         exact HSS.out r hr
        have hBV : w1.heap.size < wV.heap.size := HABwV.out.ks.1
        have hRV : w.heap.size + 2 < wV.heap.size := HABwV.out.kr.1
        have HABwr : Hid (Ab w wr w1.heap.size a { t1 with aoH := ao9, capH := cap9, held := put9, aoT := aoT, capT := capT, touched := labsR old }) := by
         have hb2 : ButL [w1.heap.size, w.heap.size + 2] wV wr := ⟨HDI.out.but.os, HDI.out.but.tape, HDI.out.but.output, HDI.out.but.size, fun i h1 h2 => HDI.out.but.block i h1 (fun hm => h2 (by simp at hm ⊢; exact .inl hm))⟩
         have hi := HABwV.out.hi
         have hsn := HABwV.out.sin.butL HABwV.out.apart hb2
         have htx : Tx wr aoT (labsR old) := by
          obtain ⟨ao', cap', e', hx'⟩ := tx_of HOW.out HSZ.out
          injection e' with e1 _ _
          rw [e1]
          exact hx'
         refine ⟨HABwV.out.ka.butL HDI.out.but (by simp; omega), HABwV.out.kr.butL HDI.out.but (by simp; omega), ?_, HABwV.out.kz.butL HDI.out.but (by simp), hi, ⟨hsn.wells, hsn.held, htx⟩, ⟨HABwV.out.nil.fl, HABwV.out.nil.held, HOW.out.nilcap⟩, ⟨HABwV.out.apart.row, HABwV.out.apart.fl, HABwV.out.apart.held, .inr fun b hb hm => ?_⟩, ?_⟩
         ·have := HDI.out.ks
          rw [HLN.out] at this
          exact this
         ·have := (HOW.out.hi b hb).1
          simp only [List.mem_cons, List.not_mem_nil, or_false] at hm
          omega
         ·exact below_butL HABwV.out.below HDI.out.but (by omega) HABwV.out.below.size
        have HABX := HABwr
        have HQ2 : Hid (applyR l s.st a = (({ t1 with aoH := ao9, capH := cap9, held := put9, aoT := aoT, capT := capT, touched := labsR old } : Sm).st, 0)) := by
         show _ = _
         rw [HQ.out]
         have h1 := HST1.out
         unfold Sm.st at h1 ⊢
         simp only [Sta.mk.injEq] at h1
         obtain ⟨g1, g2, g3, g4, g5, g6, g7⟩ := h1
         simp only
         rw [g1, g2, g5, g6, g7]
        clear hown
        have ltR := HABwr.out.kr.1
        have ltB := HABwr.out.ks.1
        have ltZ := HABwr.out.kz.1
        have hiB := HABwr.out.hi
        have neR : w.heap.size + 2 ≠ w1.heap.size := by omega
        have neS : w1.heap.size ≠ w.heap.size + 2 := by omega
        have neT : w.heap.size + 2 ≠ w1.heap.size + 1 := by omega
        have neU : w1.heap.size + 1 ≠ w1.heap.size := by omega
        obtain ⟨r0, r1, r2, r3, r4, r5, r6⟩ := (HABwr.out.kr).c7
        obtain ⟨rf0, rf1, rf2, rf3, rf4, rf5, rf6⟩ := (HABwr.out.kr).f7
        obtain ⟨s0, s1, s2, s3, s4, s5, s6⟩ := (HABwr.out.ks).c7
        obtain ⟨sf0, sf1, sf2, sf3, sf4, sf5, sf6⟩ := (HABwr.out.ks).f7
        obtain ⟨z0, z1, z2, z3, z4, z5, z6⟩ := (HABwr.out.kz).c7
        go_wp2
        refine bodyPost_ret (v := .tuple #[smv { t1 with aoH := ao9, capH := cap9, held := put9, aoT := aoT, capT := capT, touched := labsR old }, .int .i64 0]) (by simp [results, Tryz.results16, go_sem, r0, r1, r2, r3, r4, r5, r6]) rfl ⟨{ t1 with aoH := ao9, capH := cap9, held := put9, aoT := aoT, capT := capT, touched := labsR old }, by rw [HQ2.out], by rw [HQ2.out], (ap_ret HABX.out).1, (ap_ret HABX.out).2⟩
end Go.Proofs.YtfadmpnpgiceeaaGreat
