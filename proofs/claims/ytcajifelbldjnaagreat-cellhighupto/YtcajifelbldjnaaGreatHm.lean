import Derived.Test.YtcajifelbldjnaaGreatHl

/- put and draw walked. -/
namespace Go.Proofs.YtcajifelbldjnaaGreat
open Go.RowKit Go.Maps
def puV (b B m : Nat) (s : Sta) (a : Acn) (aoH : Option Addr) (capH : Nat) (gs ls : List F.Pc) (e2 : Int) (d : Nat) (v : Value) (w : World) : Prop :=
  match d with
  | 26 => v = .pointer (some ⟨b, 0, none⟩)
  | 27 => v = .pointer (some ⟨b, 0, none⟩)
  | 28 => v = .pointer (some ⟨b, 5, none⟩)
  | 29 => v = .pointer (some ⟨b, 7, none⟩)
  | 30 => v = .slice aoH s.held.length capH
  | 31 => v = .pointer (some ⟨B, 5, none⟩)
  | 32 => v = .int .i64 a.vol
  | 33 => TG3 b m gs ls e2 v w
  | 25 => TG3 b m gs ls e2 v w
  | 34 => Fr b m gs v w
  | 35 => Fr b m ls v w
  | 36 => v = .int .i64 e2
  | 7 => Fr b m gs v w
  | 8 => Fr b m ls v w
  | 6 => v = .int .i64 e2
  | _ => True
theorem puV_mono (b B m : Nat) (s : Sta) (a : Acn) (aoH : Option Addr) (capH : Nat) (gs ls : List F.Pc) (e2 : Int) (d : Nat) (v : Value) (w w' : World) (h : puV b B m s a aoH capH gs ls e2 d v w) (hb : Below w.heap.size w w') : puV b B m s a aoH capH gs ls e2 d v w' := by
  unfold puV at h ⊢
  split <;> simp only [] at h <;> first | exact h | exact h.later hb
def pvV (b B m : Nat) (a : Acn) (mo : Int) (aog : Option Addr) (capg : Nat) (gs : List F.Pc) (fw : F.Fd) (ps : List F.Pc) (e1 : Int) (d : Nat) (v : Value) (w : World) : Prop :=
  match d with
  | 41 => v = .pointer (some ⟨b, 0, none⟩)
  | 42 => v = .pointer (some ⟨b, 0, none⟩)
  | 43 => v = .pointer (some ⟨b, 4, none⟩)
  | 44 => v = .map (some m)
  | 45 => v = .pointer (some ⟨B, 1, none⟩)
  | 46 => v = .agg #[.int .i64 a.pl.1, .int .i64 a.pl.2.1, .int .i64 a.pl.2.2]
  | 47 => v = .slice fw.1 fw.2.2.length fw.2.1
  | 48 => v = .slice aog gs.length capg
  | 49 => v = .int .i64 mo
  | 50 => TF b m ps e1 v w
  | 40 => TF b m ps e1 v w
  | 51 => Fr b m ps v w
  | 52 => v = .int .i64 e1
  | 9 => Fr b m ps v w
  | 6 => v = .int .i64 e1
  | _ => True
theorem pvV_mono (b B m : Nat) (a : Acn) (mo : Int) (aog : Option Addr) (capg : Nat) (gs : List F.Pc) (fw : F.Fd) (ps : List F.Pc) (e1 : Int) (d : Nat) (v : Value) (w w' : World) (h : pvV b B m a mo aog capg gs fw ps e1 d v w) (hb : Below w.heap.size w w') : pvV b B m a mo aog capg gs fw ps e1 d v w' := by
  unfold pvV at h ⊢
  split <;> simp only [] at h <;> first | exact h | exact h.later hb
set_option maxHeartbeats 6400000 in
set_option maxRecDepth 100000 in
theorem put_any (wB w : World) (ao : Option Addr) (cap : Nat) (l : List Sit) (b m md : Nat) (s : Sta) (a : Acn) (hB : Bn wB w ao cap l b m md s) :
    Calls Tryz.prog 85 #[ptr b, av a] w fun e w' => e = .returned (.int .i64 (putA l s a).2) ∧ Bn wB w' ao cap l b m md (putA l s a).1 := by
  have HBN : Hid (Bn wB w ao cap l b m md s) := hB
  clear hB
  obtain ⟨w0, hw0⟩ : ∃ w0, w0 = w.alloc (aobj a) := ⟨_, rfl⟩
  have b0 : Below w.heap.size w w0 := by rw [hw0]; exact (Below.refl _ _).alloc (Nat.le_refl _) _
  have KA : Hid (Bk w.heap.size (acl a) w0) := by show Bk _ _ _; rw [hw0]; exact Bk.new w (acl a) 59 w.heap.size rfl
  have HB0 : Hid (Bn wB w0 ao cap l b m md s) := HBN.out.next b0
  have HW0 : Hid (w0 = w.alloc (aobj a)) := hw0
  clear hw0 b0
  obtain ⟨cw, aoH, capH, aoT, capT, K, hh, ht⟩ := HB0.out.bk
  have KB : Hid (Bk b (bcs ao cap l md m cw s aoH capH aoT capT) w0) := K
  have HH : Hid (Flx b m w0 aoH s.held) := hh
  have HT : Hid (Txx b m w0 aoT s.touched) := ht
  have hbw : b < w.heap.size := by obtain ⟨_, _, _, _, _, K', _⟩ := HBN.out.bk; exact K'.1
  have hbn : b ≠ w.heap.size := by omega
  have lt0 := KB.out.1
  clear K hh ht
  clear lt0
  go_enter Tryz.func85, Tryz.ntmps85
  go_wp2_with fail
  rw [← HW0.out]
  refine (aim_any wB w0 ao cap l b m md s a HB0.out).mono ?_
  rintro e w1 ⟨rfl, hb1⟩
  have HBn0 := HB0
  have KA0 := KA
  have KB0 := KB
  have HH0 := HH
  have HT0 := HT
  have HBn1 : Hid (Bn wB w1 ao cap l b m md s) := HBn0.out.next hb1
  have KA1 : Hid (Bk w.heap.size (acl a) w1) := KA0.out.later hb1
  have KB1 : Hid (Bk b (bcs ao cap l md m cw s aoH capH aoT capT) w1) := KB0.out.later hb1
  have HH1 : Hid (Flx b m w1 aoH s.held) := HH0.out.next hb1
  have HT1 : Hid (Txx b m w1 aoT s.touched) := HT0.out.next hb1
  clear HBn0 KA0 KB0 HH0 HT0
  have hbo1 : b < w1.heap.size := KB1.out.1
  clear hb1 HB0 KA KB HH HT
  obtain ⟨⟨mo, e0⟩, hM⟩ : ∃ x, aimR l a = x := ⟨_, rfl⟩
  have HA : Hid (aimR l a = (mo, e0)) := hM
  rw [hM]
  clear hM
  by_cases he : e0 = 0
  case neg =>
    have h2 : (e0 == 0) = false := by simp [he]
    have h3 : (e0 != 0) = true := by simp [he]
    have HQ : Hid (putA l s a = (s, e0)) := by
      show _ = _
      simp only [putA, HA.out]
      simp [he]
    clear he
    go_wp2
    go_ret
    exact ⟨by rw [HQ.out]; rfl, by rw [HQ.out]; exact HBn1.out⟩
  subst he
  have HP : Hid (Wf3 a.pl) := wf_place HBn1.out.hd (aim_ok (by rw [HA.out]))
  cases htp : s.tip with
  | false =>
    have HQ : Hid (putA l s a = (s, 12)) := by
      show _ = _
      simp only [putA, HA.out, htp]
      simp
    have k0 := (KB1.out).c 0 rfl
    have k1 := (KB1.out).c 1 rfl
    have k2 := (KB1.out).c 2 rfl
    have k3 := (KB1.out).c 3 rfl
    have k4 := (KB1.out).c 4 rfl
    have k5 := (KB1.out).c 5 rfl
    have k6 := (KB1.out).c 6 rfl
    have k7 := (KB1.out).c 7 rfl
    have k8 := (KB1.out).c 8 rfl
    have k9 := (KB1.out).c 9 rfl
    have k10 := (KB1.out).c 10 rfl
    have k11 := (KB1.out).c 11 rfl
    rw [htp] at k6
    go_wp2
    go_ret
    exact ⟨by rw [HQ.out]; rfl, by rw [HQ.out]; exact HBn1.out⟩
  | true =>
    obtain ⟨u1, u2, u3, u4⟩ := tip_parts HBn1.out.may htp
    have HTP : Hid (s.tip = true) := htp
    have HTT : Hid (s.touched.length ≤ 100 ∧ ∀ p ∈ drops s.touched, p.1.size ≤ maxLen) := ⟨(mayTouch_iff.1 u4).1, F.fine_size (withR_iff.1 (mayTouch_iff.1 u4).2.2).2.1⟩
    clear u1 u2 u3 u4
    have k0 := (KB1.out).c 0 rfl
    have k1 := (KB1.out).c 1 rfl
    have k2 := (KB1.out).c 2 rfl
    have k3 := (KB1.out).c 3 rfl
    have k4 := (KB1.out).c 4 rfl
    have k5 := (KB1.out).c 5 rfl
    have k6 := (KB1.out).c 6 rfl
    have k7 := (KB1.out).c 7 rfl
    have k8 := (KB1.out).c 8 rfl
    have k9 := (KB1.out).c 9 rfl
    have k10 := (KB1.out).c 10 rfl
    have k11 := (KB1.out).c 11 rfl
    rw [htp] at k6
    clear htp
    go_wp2_with fail
    rename_i KK hkk
    have HKK := (show Hid _ from hkk)
    clear hkk
    obtain ⟨⟨gs, ls, e2⟩, hdq⟩ : ∃ x, F.drawF a.vol s.held = x := ⟨_, rfl⟩
    have HDQ : Hid (F.drawF a.vol s.held = (gs, ls, e2)) := hdq
    have HML0 : Hid (m < w1.heap.size) := by obtain ⟨wl, hwm, _, _⟩ := HBn1.out.wells; exact hwm.lt
    have HDR : Hid (∀ W, Below w1.heap.size w1 W → Calls Tryz.prog 111 #[.slice aoH s.held.length capH, .int .i64 a.vol] W fun e w' => ∃ x, e = .returned x ∧ TG3 b m gs ls e2 x w' ∧ Below W.heap.size W w') := fun W hW => by
      have := draw_fr b m aoH capH s.held a.vol W (HH1.out.next hW).1 (Nat.lt_of_lt_of_le KB1.out.1 hW.size) (Nat.lt_of_lt_of_le HML0.out hW.size)
      rw [HDQ.out] at this
      exact this
    clear hdq k0 k1 k2 k3 k4 k5 k6 k7 k8 k9 k10 k11
    refine region_seqE 15 [false, false, false, false, false, false, true, true, true, false, false, false, false, false, false, false, false, false, false, false, false, false, false, false, false, true, true, true, true, true, true, true, true, true, true, true, true, false, false, false, false, false, false, false, false, false, false, false, false, false, false, false, false, false, false, false, false, false, false, false, false, false, false, false, false, false]
      [(26, [], none), (27, [26], none), (28, [27], none), (29, [28], none), (30, [29], none), (31, [], none), (32, [31], none), (33, [30, 32], none), (25, [33], none), (34, [25], none), (35, [25], none), (36, [25], none), (7, [34], none), (8, [35], none), (6, [36], none)]
      (puV b w.heap.size m s a aoH capH gs ls e2) (by kernel_rfl) (by kernel_rfl) (by kernel_rfl) (by kernel_rfl) (by kernel_rfl) (by decide) (puV_mono b w.heap.size m s a aoH capH gs ls e2) ?_ ?_
    · refine ⟨?_, ?_, ?_, ?_, ?_, ?_, ?_, ?_, ?_, ?_, ?_, ?_, ?_, ?_, ?_, trivial⟩
      · intro f wA hb _ K hK
        simp only [over, overL, Nat.reduceAdd]
        go_simp
        exact hK _ _ ⟨_, rfl, by simp only [over, overL, Nat.reduceAdd]; rfl, Below.refl _ _⟩
      · intro f wA hb ⟨h26, _⟩ K hK
        replace h26 : f 26 = _ := h26
        simp only [over, overL, Nat.reduceAdd, h26]
        go_simp
        exact hK _ _ ⟨_, rfl, by simp only [over, overL, Nat.reduceAdd, h26]; rfl, Below.refl _ _⟩
      · intro f wA hb ⟨h27, _⟩ K hK
        replace h27 : f 27 = _ := h27
        simp only [over, overL, Nat.reduceAdd, h27]
        go_simp
        exact hK _ _ ⟨_, rfl, by simp only [over, overL, Nat.reduceAdd, h27]; rfl, Below.refl _ _⟩
      · intro f wA hb ⟨h28, _⟩ K hK
        replace h28 : f 28 = _ := h28
        simp only [over, overL, Nat.reduceAdd, h28]
        go_simp
        exact hK _ _ ⟨_, rfl, by simp only [over, overL, Nat.reduceAdd, h28]; rfl, Below.refl _ _⟩
      · intro f wA hb ⟨h29, _⟩ K hK
        replace h29 : f 29 = _ := h29
        have q7 := (KB1.out.later hb).c 7 rfl
        simp only [over, overL, Nat.reduceAdd, h29]
        go_simp
        exact hK _ _ ⟨_, rfl, by simp only [over, overL, Nat.reduceAdd, h29]; rfl, Below.refl _ _⟩
      · intro f wA hb _ K hK
        simp only [over, overL, Nat.reduceAdd]
        go_simp
        exact hK _ _ ⟨_, rfl, by simp only [over, overL, Nat.reduceAdd]; rfl, Below.refl _ _⟩
      · intro f wA hb ⟨h31, _⟩ K hK
        replace h31 : f 31 = _ := h31
        have q5 := (KA1.out.later hb).c 5 rfl
        simp only [over, overL, Nat.reduceAdd, h31]
        go_simp
        exact hK _ _ ⟨_, rfl, by simp only [over, overL, Nat.reduceAdd, h31]; rfl, Below.refl _ _⟩
      · intro f wA hb ⟨h30, h32, _⟩ K hK
        replace h30 : f 30 = _ := h30
        replace h32 : f 32 = _ := h32
        simp only [over, overL, Nat.reduceAdd, h30, h32]
        go_simp
        refine ((HDR.out wA hb).mono) ?_
        rintro e w2 ⟨x, rfl, ht, hb2⟩
        exact hK _ _ ⟨_, ht, by simp only [over, overL, Nat.reduceAdd, h30, h32]; rfl, hb2⟩
      · intro f wA hb ⟨h33, _⟩ K hK
        simp only [over, overL, Nat.reduceAdd]
        go_simp
        exact hK _ _ ⟨_, h33, by simp only [over, overL, Nat.reduceAdd]; rfl, Below.refl _ _⟩
      · intro f wA hb ⟨h25, _⟩ K hK
        obtain ⟨x, y, h25, hx, hy⟩ := h25
        simp only [over, overL, Nat.reduceAdd, h25]
        go_simp
        exact hK _ _ ⟨_, hx, by simp only [over, overL, Nat.reduceAdd, h25]; rfl, Below.refl _ _⟩
      · intro f wA hb ⟨h25, _⟩ K hK
        obtain ⟨x, y, h25, hx, hy⟩ := h25
        simp only [over, overL, Nat.reduceAdd, h25]
        go_simp
        exact hK _ _ ⟨_, hy, by simp only [over, overL, Nat.reduceAdd, h25]; rfl, Below.refl _ _⟩
      · intro f wA hb ⟨h25, _⟩ K hK
        obtain ⟨x, y, h25, hx, hy⟩ := h25
        simp only [over, overL, Nat.reduceAdd, h25]
        go_simp
        exact hK _ _ ⟨_, rfl, by simp only [over, overL, Nat.reduceAdd, h25]; rfl, Below.refl _ _⟩
      · intro f wA hb ⟨h34, _⟩ K hK
        simp only [over, overL, Nat.reduceAdd]
        go_simp
        exact hK _ _ ⟨_, h34, by simp only [over, overL, Nat.reduceAdd]; rfl, Below.refl _ _⟩
      · intro f wA hb ⟨h35, _⟩ K hK
        simp only [over, overL, Nat.reduceAdd]
        go_simp
        exact hK _ _ ⟨_, h35, by simp only [over, overL, Nat.reduceAdd]; rfl, Below.refl _ _⟩
      · intro f wA hb ⟨h36, _⟩ K hK
        replace h36 : f 36 = _ := h36
        simp only [over, overL, Nat.reduceAdd, h36]
        go_simp
        exact hK _ _ ⟨_, rfl, by simp only [over, overL, Nat.reduceAdd, h36]; rfl, Below.refl _ _⟩
    intro f w2 hb hv
    have h6 : f 6 = _ := hv.2.2.2.2.2.2.2.2.2.2.2.2.2.2.1
    have h7 : Fr b m gs (f 7) w2 := hv.2.2.2.2.2.2.2.2.2.2.2.2.1
    have h8 : Fr b m ls (f 8) w2 := hv.2.2.2.2.2.2.2.2.2.2.2.2.2.1
    obtain ⟨aog, capg, h7, hg⟩ := h7
    obtain ⟨aol, capl, h8, hl⟩ := h8
    have HGS2 : Hid (Flx b m w2 aog gs) := hg
    have HLS2 : Hid (Flx b m w2 aol ls) := hl
    have HBn2 : Hid (Bn wB w2 ao cap l b m md s) := HBn1.out.next hb
    have KA2 : Hid (Bk w.heap.size (acl a) w2) := KA1.out.later hb
    have KB2 : Hid (Bk b (bcs ao cap l md m cw s aoH capH aoT capT) w2) := KB1.out.later hb
    have HH2 : Hid (Flx b m w2 aoH s.held) := HH1.out.next hb
    have HT2 : Hid (Txx b m w2 aoT s.touched) := HT1.out.next hb
    clear HBn1 KA1 KB1 HH1 HT1
    clear hv hb hg hl HDR HML0
    simp only [List.drop, over, overL, Nat.reduceAdd, h6, h7, h8]
    clear h6 h7 h8
    go_wp2
    refine HKK.out _ _ ?_
    clear HKK
    by_cases hc : e2 = 0
    case neg =>
      have h2 : (e2 == 0) = false := by simp [hc]
      have h3 : (e2 != 0) = true := by simp [hc]
      have HQ : Hid (putA l s a = (s, e2)) := by
        show _ = _
        simp only [putA, HA.out, HTP.out, HDQ.out]
        simp [hc]
      clear hc
      go_wp2
      go_ret
      exact ⟨by rw [HQ.out]; rfl, by rw [HQ.out]; exact HBn2.out⟩
    subst hc
    go_wp2_with fail
    rename_i KK hkk
    have HKK := (show Hid _ from hkk)
    clear hkk
    obtain ⟨wl, hwm, hwl, hfl⟩ := HBn2.out.wells
    obtain ⟨fw, hfw⟩ : ∃ x, fdAt wl a.pl = x := ⟨_, rfl⟩
    have hff := flx_at hfl a.pl
    rw [hfw] at hff
    have HFF2 : Hid (Flx b m w2 fw.1 fw.2.2) := hff
    have HLK : Hid (∀ W, Below w2.heap.size w2 W → (Instr.lookup 128 (.map (some m)) (plv a.pl) false).run Tryz.prog W = .ok (.slice fw.1 fw.2.2.length fw.2.1) W) := fun W hW => by
      have := (hwm.next hW).look HP.out
      rw [hfw] at this
      exact this
    have HWF : Hid (wellF s.wells a.pl = fw.2.2) := by show _ = _; rw [← hwl, ← fdAt_whp, hfw]
    have HWM2 : Hid (WM w2 m wl) := hwm
    have HWL : Hid (whp wl = s.wells) := hwl
    have HFL2 : Hid (∀ x ∈ wl, Flx b m w2 x.2.1 x.2.2.2) := hfl
    have HML : Hid (m < w2.heap.size) := hwm.lt
    clear hwm hwl hfl hfw hff
    obtain ⟨⟨ps, e1⟩, htq⟩ : ∃ x, togR fw.2.2 gs mo = x := ⟨_, rfl⟩
    have HTQ : Hid (togR fw.2.2 gs mo = (ps, e1)) := htq
    have HTG : Hid (∀ W, Below w2.heap.size w2 W → Calls Tryz.prog 109 #[.slice fw.1 fw.2.2.length fw.2.1, .slice aog gs.length capg, .int .i64 mo] W fun e w' => ∃ v, e = .returned v ∧ TF b m ps e1 v w' ∧ Below W.heap.size W w') := fun W hW => by
      have := tog_fr b m fw.1 aog fw.2.1 capg fw.2.2 gs mo W (HFF2.out.next hW).1 (HGS2.out.next hW).1 (Nat.lt_of_lt_of_le KB2.out.1 hW.size) (Nat.lt_of_lt_of_le HML.out hW.size)
      rw [HTQ.out] at this
      exact this
    clear htq
    refine region_seqE 15 [false, false, false, false, false, false, true, false, false, true, false, false, false, false, false, false, false, false, false, false, false, false, false, false, false, false, false, false, false, false, false, false, false, false, false, false, false, false, false, false, true, true, true, true, true, true, true, true, true, true, true, true, true, false, false, false, false, false, false, false, false, false, false, false, false, false]
      [(41, [], none), (42, [41], none), (43, [42], none), (44, [43], none), (45, [], none), (46, [45], none), (47, [44, 46], none), (48, [], none), (49, [], none), (50, [47, 48, 49], none), (40, [50], none), (51, [40], none), (52, [40], none), (9, [51], none), (6, [52], none)]
      (pvV b w.heap.size m a mo aog capg gs fw ps e1) (by kernel_rfl) (by kernel_rfl) (by kernel_rfl) (by kernel_rfl) (by kernel_rfl) (by decide) (pvV_mono b w.heap.size m a mo aog capg gs fw ps e1) ?_ ?_
    · refine ⟨?_, ?_, ?_, ?_, ?_, ?_, ?_, ?_, ?_, ?_, ?_, ?_, ?_, ?_, ?_, trivial⟩
      · intro f wA hb _ K hK
        simp only [over, overL, Nat.reduceAdd]
        go_simp
        exact hK _ _ ⟨_, rfl, by simp only [over, overL, Nat.reduceAdd]; rfl, Below.refl _ _⟩
      · intro f wA hb ⟨h41, _⟩ K hK
        replace h41 : f 41 = _ := h41
        simp only [over, overL, Nat.reduceAdd, h41]
        go_simp
        exact hK _ _ ⟨_, rfl, by simp only [over, overL, Nat.reduceAdd, h41]; rfl, Below.refl _ _⟩
      · intro f wA hb ⟨h42, _⟩ K hK
        replace h42 : f 42 = _ := h42
        simp only [over, overL, Nat.reduceAdd, h42]
        go_simp
        exact hK _ _ ⟨_, rfl, by simp only [over, overL, Nat.reduceAdd, h42]; rfl, Below.refl _ _⟩
      · intro f wA hb ⟨h43, _⟩ K hK
        replace h43 : f 43 = _ := h43
        have q4 := (KB2.out.later hb).c 4 rfl
        simp only [over, overL, Nat.reduceAdd, h43]
        go_simp
        exact hK _ _ ⟨_, rfl, by simp only [over, overL, Nat.reduceAdd, h43]; rfl, Below.refl _ _⟩
      · intro f wA hb _ K hK
        simp only [over, overL, Nat.reduceAdd]
        go_simp
        exact hK _ _ ⟨_, rfl, by simp only [over, overL, Nat.reduceAdd]; rfl, Below.refl _ _⟩
      · intro f wA hb ⟨h45, _⟩ K hK
        replace h45 : f 45 = _ := h45
        have q1 := (KA2.out.later hb).c 1 rfl
        have q2 := (KA2.out.later hb).c 2 rfl
        have q3 := (KA2.out.later hb).c 3 rfl
        simp only [over, overL, Nat.reduceAdd, h45]
        go_simp
        exact hK _ _ ⟨_, rfl, by simp only [over, overL, Nat.reduceAdd, h45]; rfl, Below.refl _ _⟩
      · intro f wA hb ⟨h44, h46, _⟩ K hK
        replace h44 : f 44 = _ := h44
        replace h46 : f 46 = _ := h46
        have ql := HLK.out wA hb
        simp only [over, overL, Nat.reduceAdd, h44, h46]
        go_simp
        exact hK _ _ ⟨_, rfl, by simp only [over, overL, Nat.reduceAdd, h44, h46]; rfl, Below.refl _ _⟩
      · intro f wA hb _ K hK
        simp only [over, overL, Nat.reduceAdd]
        go_simp
        exact hK _ _ ⟨_, rfl, by simp only [over, overL, Nat.reduceAdd]; rfl, Below.refl _ _⟩
      · intro f wA hb _ K hK
        simp only [over, overL, Nat.reduceAdd]
        go_simp
        exact hK _ _ ⟨_, rfl, by simp only [over, overL, Nat.reduceAdd]; rfl, Below.refl _ _⟩
      · intro f wA hb ⟨h47, h48, h49, _⟩ K hK
        replace h47 : f 47 = _ := h47
        replace h48 : f 48 = _ := h48
        replace h49 : f 49 = _ := h49
        simp only [over, overL, Nat.reduceAdd, h47, h48, h49]
        go_simp
        refine ((HTG.out wA hb).mono) ?_
        rintro e w2 ⟨x, rfl, ht, hb2⟩
        exact hK _ _ ⟨_, ht, by simp only [over, overL, Nat.reduceAdd, h47, h48, h49]; rfl, hb2⟩
      · intro f wA hb ⟨h50, _⟩ K hK
        simp only [over, overL, Nat.reduceAdd]
        go_simp
        exact hK _ _ ⟨_, h50, by simp only [over, overL, Nat.reduceAdd]; rfl, Below.refl _ _⟩
      · intro f wA hb ⟨h40, _⟩ K hK
        obtain ⟨x, h40, hx⟩ := h40
        simp only [over, overL, Nat.reduceAdd, h40]
        go_simp
        exact hK _ _ ⟨_, hx, by simp only [over, overL, Nat.reduceAdd, h40]; rfl, Below.refl _ _⟩
      · intro f wA hb ⟨h40, _⟩ K hK
        obtain ⟨x, h40, hx⟩ := h40
        simp only [over, overL, Nat.reduceAdd, h40]
        go_simp
        exact hK _ _ ⟨_, rfl, by simp only [over, overL, Nat.reduceAdd, h40]; rfl, Below.refl _ _⟩
      · intro f wA hb ⟨h51, _⟩ K hK
        simp only [over, overL, Nat.reduceAdd]
        go_simp
        exact hK _ _ ⟨_, h51, by simp only [over, overL, Nat.reduceAdd]; rfl, Below.refl _ _⟩
      · intro f wA hb ⟨h52, _⟩ K hK
        replace h52 : f 52 = _ := h52
        simp only [over, overL, Nat.reduceAdd, h52]
        go_simp
        exact hK _ _ ⟨_, rfl, by simp only [over, overL, Nat.reduceAdd, h52]; rfl, Below.refl _ _⟩
    intro f w3 hb hv
    have h6 : f 6 = _ := hv.2.2.2.2.2.2.2.2.2.2.2.2.2.2.1
    have h9 : Fr b m ps (f 9) w3 := hv.2.2.2.2.2.2.2.2.2.2.2.2.2.1
    obtain ⟨aof, capf, h9, hf⟩ := h9
    have HF3 : Hid (Flx b m w3 aof ps) := hf
    have HBn3 : Hid (Bn wB w3 ao cap l b m md s) := HBn2.out.next hb
    have KA3 : Hid (Bk w.heap.size (acl a) w3) := KA2.out.later hb
    have KB3 : Hid (Bk b (bcs ao cap l md m cw s aoH capH aoT capT) w3) := KB2.out.later hb
    have HH3 : Hid (Flx b m w3 aoH s.held) := HH2.out.next hb
    have HT3 : Hid (Txx b m w3 aoT s.touched) := HT2.out.next hb
    have HWM3 : Hid (WM w3 m wl) := HWM2.out.next hb
    have HFL3 : Hid (∀ x ∈ wl, Flx b m w3 x.2.1 x.2.2.2) := fun x hx => (HFL2.out x hx).next hb
    have HLS3 : Hid (Flx b m w3 aol ls) := HLS2.out.next hb
    clear HBn2 KA2 KB2 HH2 HT2 HWM2 HFL2 HLS2
    clear hv hb hf HTG HLK HFF2 HGS2
    simp only [List.drop, over, overL, Nat.reduceAdd, h6, h9]
    clear h6 h9
    go_wp2
    refine HKK.out _ _ ?_
    clear HKK
    by_cases h1 : e1 = 0
    case neg =>
      have h2 : (e1 == 0) = false := by simp [h1]
      have h3 : (e1 != 0) = true := by simp [h1]
      have HQ : Hid (putA l s a = (s, e1)) := by
        show _ = _
        simp only [putA, HA.out, HTP.out, HDQ.out, HWF.out, HTQ.out]
        simp [h1]
      clear h1
      go_wp2
      go_ret
      exact ⟨by rw [HQ.out]; rfl, by rw [HQ.out]; exact HBn3.out⟩
    subst h1
    have HQ : Hid (putA l s a = ({ s with wells := wset s.wells a.pl ps, held := ls }, 0)) := by
      show _ = _
      simp only [putA, HA.out, HTP.out, HDQ.out, HWF.out, HTQ.out]
      simp
    obtain ⟨hon, hfew⟩ := HBn3.out.once HWL.out
    have q0 := (KA3.out).c 0 rfl
    have q1 := (KA3.out).c 1 rfl
    have q2 := (KA3.out).c 2 rfl
    have q3 := (KA3.out).c 3 rfl
    have q4 := (KA3.out).c 4 rfl
    have q5 := (KA3.out).c 5 rfl
    have q6 := (KA3.out).c 6 rfl
    have q7 := (KA3.out).c 7 rfl
    go_wp2_with fail
    refine (keep_any b m _ _ _ _ _ _ _ _ _ _ _ wl a.pl aof capf ps w3 KB3.out HWM3.out hon hfew HP.out).mono ?_
    rintro e w5 ⟨rfl, hwm, hg⟩
    have HWM5 : Hid (WM w5 m (setH wl a.pl (aof, capf, ps))) := hwm
    have HG : Hid (w3.grownBy w5 (some m)) := hg
    have KB5 : Hid (Bk b (bcs ao cap l md m cw s aoH capH aoT capT) w5) := KB3.out.same hg.size (hg.block b KB3.out.1 (by simpa using HBn3.out.ne.1))
    clear hwm hg hon hfew q0 q1 q2 q3 q4 q5 q6 q7
    have k0 := (KB5.out).c 0 rfl
    have kf0 := (KB5.out).f 0 rfl
    have k1 := (KB5.out).c 1 rfl
    have kf1 := (KB5.out).f 1 rfl
    have k2 := (KB5.out).c 2 rfl
    have kf2 := (KB5.out).f 2 rfl
    have k3 := (KB5.out).c 3 rfl
    have kf3 := (KB5.out).f 3 rfl
    have k4 := (KB5.out).c 4 rfl
    have kf4 := (KB5.out).f 4 rfl
    have k5 := (KB5.out).c 5 rfl
    have kf5 := (KB5.out).f 5 rfl
    have k6 := (KB5.out).c 6 rfl
    have kf6 := (KB5.out).f 6 rfl
    have k7 := (KB5.out).c 7 rfl
    have kf7 := (KB5.out).f 7 rfl
    have k8 := (KB5.out).c 8 rfl
    have kf8 := (KB5.out).f 8 rfl
    have k9 := (KB5.out).c 9 rfl
    have kf9 := (KB5.out).f 9 rfl
    have k10 := (KB5.out).c 10 rfl
    have kf10 := (KB5.out).f 10 rfl
    have k11 := (KB5.out).c 11 rfl
    have kf11 := (KB5.out).f 11 rfl
    have lt5 := KB5.out.1
    go_wp2
    go_ret
    have hmay := (may_put HBn3.out.may (by rw [HQ.out] : (putA l s a).2 = 0)).1
    rw [HQ.out] at hmay ⊢
    have hbut : But b m w3 (w5.setCell ⟨b, 7, none⟩ (.slice aol ls.length capl)) := (but_grown HG.out).trans (but_set b m w5 7 _)
    have hmb : m ≠ b := fun e => HBn3.out.ne.1 e.symm
    exact ⟨rfl, HBn3.out.keptTo HWL.out HFL3.out hbut (HWM5.out.same (Below.heap_setCell w5 ⟨b, 7, none⟩ _ m hmb)) (HF3.out.but hbut) hmay rfl (cw := cw) (aoH := aol) (capH := capl) (aoT := aoT) (capT := capT) (KB5.out.put 7 _) (HLS3.out.but hbut) (HT3.out.but hbut)⟩
end Go.Proofs.YtcajifelbldjnaaGreat

/- draw walked. -/
namespace Go.Proofs.YtcajifelbldjnaaGreat
open Go.RowKit Go.Maps
def dwV (b B m : Nat) (a : Acn) (fw : F.Fd) (d : Nat) (v : Value) (_ : World) : Prop :=
  match d with
  | 29 => v = .pointer (some ⟨b, 0, none⟩)
  | 30 => v = .pointer (some ⟨b, 0, none⟩)
  | 31 => v = .pointer (some ⟨b, 4, none⟩)
  | 32 => v = .map (some m)
  | 33 => v = .pointer (some ⟨B, 1, none⟩)
  | 34 => v = .agg #[.int .i64 a.pl.1, .int .i64 a.pl.2.1, .int .i64 a.pl.2.2]
  | 35 => v = .slice fw.1 fw.2.2.length fw.2.1
  | 7 => v = .slice fw.1 fw.2.2.length fw.2.1
  | _ => True
theorem dwV_mono (b B m : Nat) (a : Acn) (fw : F.Fd) (d : Nat) (v : Value) (w w' : World) (h : dwV b B m a fw d v w) (_ : Below w.heap.size w w') : dwV b B m a fw d v w' := h
def dxV (b m : Nat) (l : List Sit) (s : Sta) (aoH : Option Addr) (capH : Nat) (aog : Option Addr) (capg : Nat) (gs : List F.Pc) (ps : List F.Pc) (e1 : Int) (d : Nat) (v : Value) (w : World) : Prop :=
  match d with
  | 61 => v = .pointer (some ⟨b, 0, none⟩)
  | 62 => v = .pointer (some ⟨b, 0, none⟩)
  | 63 => v = .pointer (some ⟨b, 5, none⟩)
  | 64 => v = .pointer (some ⟨b, 7, none⟩)
  | 65 => v = .slice aoH s.held.length capH
  | 66 => v = .slice aog gs.length capg
  | 67 => v = .pointer (some ⟨b, 0, none⟩)
  | 68 => v = .pointer (some ⟨b, 0, none⟩)
  | 69 => v = .pointer (some ⟨b, 0, none⟩)
  | 70 => v = .pointer (some ⟨b, 2, none⟩)
  | 71 => v = .int .i64 (tipM l)
  | 72 => TF b m ps e1 v w
  | 60 => TF b m ps e1 v w
  | 73 => Fr b m ps v w
  | 74 => v = .int .i64 e1
  | 13 => Fr b m ps v w
  | 10 => v = .int .i64 e1
  | _ => True
theorem dxV_mono (b m : Nat) (l : List Sit) (s : Sta) (aoH : Option Addr) (capH : Nat) (aog : Option Addr) (capg : Nat) (gs : List F.Pc) (ps : List F.Pc) (e1 : Int) (d : Nat) (v : Value) (w w' : World) (h : dxV b m l s aoH capH aog capg gs ps e1 d v w) (hb : Below w.heap.size w w') : dxV b m l s aoH capH aog capg gs ps e1 d v w' := by
  unfold dxV at h ⊢
  split <;> simp only [] at h <;> first | exact h | exact h.later hb
set_option maxHeartbeats 6400000 in
set_option maxRecDepth 100000 in
theorem draw_any (wB w : World) (ao : Option Addr) (cap : Nat) (l : List Sit) (b m md : Nat) (s : Sta) (a : Acn) (hB : Bn wB w ao cap l b m md s) :
    Calls Tryz.prog 84 #[ptr b, av a] w fun e w' => e = .returned (.int .i64 (drawA l s a).2) ∧ Bn wB w' ao cap l b m md (drawA l s a).1 := by
  have HBN : Hid (Bn wB w ao cap l b m md s) := hB
  clear hB
  obtain ⟨w0, hw0⟩ : ∃ w0, w0 = w.alloc (aobj a) := ⟨_, rfl⟩
  have b0 : Below w.heap.size w w0 := by rw [hw0]; exact (Below.refl _ _).alloc (Nat.le_refl _) _
  have KA : Hid (Bk w.heap.size (acl a) w0) := by show Bk _ _ _; rw [hw0]; exact Bk.new w (acl a) 59 w.heap.size rfl
  have HB0 : Hid (Bn wB w0 ao cap l b m md s) := HBN.out.next b0
  have HW0 : Hid (w0 = w.alloc (aobj a)) := hw0
  clear hw0 b0
  obtain ⟨cw, aoH, capH, aoT, capT, K, hh, ht⟩ := HB0.out.bk
  have KB : Hid (Bk b (bcs ao cap l md m cw s aoH capH aoT capT) w0) := K
  have HH : Hid (Flx b m w0 aoH s.held) := hh
  have HT : Hid (Txx b m w0 aoT s.touched) := ht
  have hbw : b < w.heap.size := by obtain ⟨_, _, _, _, _, K', _⟩ := HBN.out.bk; exact K'.1
  have hbn : b ≠ w.heap.size := by omega
  have lt0 := KB.out.1
  clear K hh ht
  clear lt0
  go_enter Tryz.func84, Tryz.ntmps84
  go_wp2_with fail
  rw [← HW0.out]
  refine (aim_any wB w0 ao cap l b m md s a HB0.out).mono ?_
  rintro e w1 ⟨rfl, hb1⟩
  have HBn0 := HB0
  have KA0 := KA
  have KB0 := KB
  have HH0 := HH
  have HT0 := HT
  have HBn1 : Hid (Bn wB w1 ao cap l b m md s) := HBn0.out.next hb1
  have KA1 : Hid (Bk w.heap.size (acl a) w1) := KA0.out.later hb1
  have KB1 : Hid (Bk b (bcs ao cap l md m cw s aoH capH aoT capT) w1) := KB0.out.later hb1
  have HH1 : Hid (Flx b m w1 aoH s.held) := HH0.out.next hb1
  have HT1 : Hid (Txx b m w1 aoT s.touched) := HT0.out.next hb1
  clear HBn0 KA0 KB0 HH0 HT0
  have hbo1 : b < w1.heap.size := KB1.out.1
  clear hb1 HB0 KA KB HH HT
  obtain ⟨⟨mo, e0⟩, hM⟩ : ∃ x, aimR l a = x := ⟨_, rfl⟩
  have HA : Hid (aimR l a = (mo, e0)) := hM
  rw [hM]
  clear hM
  by_cases he : e0 = 0
  case neg =>
    have h2 : (e0 == 0) = false := by simp [he]
    have h3 : (e0 != 0) = true := by simp [he]
    have HQ : Hid (drawA l s a = (s, e0)) := by
      show _ = _
      simp only [drawA, HA.out]
      simp [he]
    clear he
    go_wp2
    go_ret
    exact ⟨by rw [HQ.out]; rfl, by rw [HQ.out]; exact HBn1.out⟩
  subst he
  have HP : Hid (Wf3 a.pl) := wf_place HBn1.out.hd (aim_ok (by rw [HA.out]))
  cases htp : s.tip with
  | false =>
    have HQ : Hid (drawA l s a = (s, 12)) := by
      show _ = _
      simp only [drawA, HA.out, htp]
      simp
    have k0 := (KB1.out).c 0 rfl
    have k1 := (KB1.out).c 1 rfl
    have k2 := (KB1.out).c 2 rfl
    have k3 := (KB1.out).c 3 rfl
    have k4 := (KB1.out).c 4 rfl
    have k5 := (KB1.out).c 5 rfl
    have k6 := (KB1.out).c 6 rfl
    have k7 := (KB1.out).c 7 rfl
    have k8 := (KB1.out).c 8 rfl
    have k9 := (KB1.out).c 9 rfl
    have k10 := (KB1.out).c 10 rfl
    have k11 := (KB1.out).c 11 rfl
    rw [htp] at k6
    go_wp2
    go_ret
    exact ⟨by rw [HQ.out]; rfl, by rw [HQ.out]; exact HBn1.out⟩
  | true =>
    obtain ⟨u1, u2, u3, u4⟩ := tip_parts HBn1.out.may htp
    have HTP : Hid (s.tip = true) := htp
    have HTT : Hid (s.touched.length ≤ 100 ∧ ∀ p ∈ drops s.touched, p.1.size ≤ maxLen) := ⟨(mayTouch_iff.1 u4).1, F.fine_size (withR_iff.1 (mayTouch_iff.1 u4).2.2).2.1⟩
    clear u1 u2 u3 u4
    have k0 := (KB1.out).c 0 rfl
    have k1 := (KB1.out).c 1 rfl
    have k2 := (KB1.out).c 2 rfl
    have k3 := (KB1.out).c 3 rfl
    have k4 := (KB1.out).c 4 rfl
    have k5 := (KB1.out).c 5 rfl
    have k6 := (KB1.out).c 6 rfl
    have k7 := (KB1.out).c 7 rfl
    have k8 := (KB1.out).c 8 rfl
    have k9 := (KB1.out).c 9 rfl
    have k10 := (KB1.out).c 10 rfl
    have k11 := (KB1.out).c 11 rfl
    rw [htp] at k6
    clear htp
    go_wp2_with fail
    rename_i KK hkk
    have HKK := (show Hid _ from hkk)
    clear hkk
    obtain ⟨wl, hwm, hwl, hfl⟩ := HBn1.out.wells
    obtain ⟨fw, hfw⟩ : ∃ x, fdAt wl a.pl = x := ⟨_, rfl⟩
    have hff := flx_at hfl a.pl
    rw [hfw] at hff
    have HFF1 : Hid (Flx b m w1 fw.1 fw.2.2) := hff
    have HLK : Hid (∀ W, Below w1.heap.size w1 W → (Instr.lookup 128 (.map (some m)) (plv a.pl) false).run Tryz.prog W = .ok (.slice fw.1 fw.2.2.length fw.2.1) W) := fun W hW => by
      have := (hwm.next hW).look HP.out
      rw [hfw] at this
      exact this
    have HWF : Hid (wellF s.wells a.pl = fw.2.2) := by show _ = _; rw [← hwl, ← fdAt_whp, hfw]
    have HWM1 : Hid (WM w1 m wl) := hwm
    have HWL : Hid (whp wl = s.wells) := hwl
    have HFL1 : Hid (∀ x ∈ wl, Flx b m w1 x.2.1 x.2.2.2) := hfl
    have HML : Hid (m < w1.heap.size) := hwm.lt
    clear hwm hwl hfl hfw hff
    clear k0 k1 k2 k3 k4 k5 k6 k7 k8 k9 k10 k11
    refine region_seqE 8 [false, false, false, false, false, false, false, true, false, false, false, false, false, false, false, false, false, false, false, false, false, false, false, false, false, false, false, false, false, true, true, true, true, true, true, true, false, false, false, false, false, false, false, false, false, false, false, false, false, false, false, false, false, false, false, false, false, false, false, false, false, false, false, false, false, false, false, false, false, false, false, false, false, false, false, false, false, false, false, false, false, false, false, false, false, false, false, false, false, false, false, false, false, false]
      [(29, [], none), (30, [29], none), (31, [30], none), (32, [31], none), (33, [], none), (34, [33], none), (35, [32, 34], none), (7, [35], none)]
      (dwV b w.heap.size m a fw) (by kernel_rfl) (by kernel_rfl) (by kernel_rfl) (by kernel_rfl) (by kernel_rfl) (by decide) (dwV_mono b w.heap.size m a fw) ?_ ?_
    · refine ⟨?_, ?_, ?_, ?_, ?_, ?_, ?_, ?_, trivial⟩
      · intro f wA hb _ K hK
        simp only [over, overL, Nat.reduceAdd]
        go_simp
        exact hK _ _ ⟨_, rfl, by simp only [over, overL, Nat.reduceAdd]; rfl, Below.refl _ _⟩
      · intro f wA hb ⟨h29, _⟩ K hK
        replace h29 : f 29 = _ := h29
        simp only [over, overL, Nat.reduceAdd, h29]
        go_simp
        exact hK _ _ ⟨_, rfl, by simp only [over, overL, Nat.reduceAdd, h29]; rfl, Below.refl _ _⟩
      · intro f wA hb ⟨h30, _⟩ K hK
        replace h30 : f 30 = _ := h30
        simp only [over, overL, Nat.reduceAdd, h30]
        go_simp
        exact hK _ _ ⟨_, rfl, by simp only [over, overL, Nat.reduceAdd, h30]; rfl, Below.refl _ _⟩
      · intro f wA hb ⟨h31, _⟩ K hK
        replace h31 : f 31 = _ := h31
        have q4 := (KB1.out.later hb).c 4 rfl
        simp only [over, overL, Nat.reduceAdd, h31]
        go_simp
        exact hK _ _ ⟨_, rfl, by simp only [over, overL, Nat.reduceAdd, h31]; rfl, Below.refl _ _⟩
      · intro f wA hb _ K hK
        simp only [over, overL, Nat.reduceAdd]
        go_simp
        exact hK _ _ ⟨_, rfl, by simp only [over, overL, Nat.reduceAdd]; rfl, Below.refl _ _⟩
      · intro f wA hb ⟨h33, _⟩ K hK
        replace h33 : f 33 = _ := h33
        have q1 := (KA1.out.later hb).c 1 rfl
        have q2 := (KA1.out.later hb).c 2 rfl
        have q3 := (KA1.out.later hb).c 3 rfl
        simp only [over, overL, Nat.reduceAdd, h33]
        go_simp
        exact hK _ _ ⟨_, rfl, by simp only [over, overL, Nat.reduceAdd, h33]; rfl, Below.refl _ _⟩
      · intro f wA hb ⟨h32, h34, _⟩ K hK
        replace h32 : f 32 = _ := h32
        replace h34 : f 34 = _ := h34
        have ql := HLK.out wA hb
        simp only [over, overL, Nat.reduceAdd, h32, h34]
        go_simp
        exact hK _ _ ⟨_, rfl, by simp only [over, overL, Nat.reduceAdd, h32, h34]; rfl, Below.refl _ _⟩
      · intro f wA hb ⟨h35, _⟩ K hK
        replace h35 : f 35 = _ := h35
        simp only [over, overL, Nat.reduceAdd, h35]
        go_simp
        exact hK _ _ ⟨_, rfl, by simp only [over, overL, Nat.reduceAdd, h35]; rfl, Below.refl _ _⟩
    intro f w2 hb hv
    have h7 : f 7 = _ := hv.2.2.2.2.2.2.2.1
    have HBn2 : Hid (Bn wB w2 ao cap l b m md s) := HBn1.out.next hb
    have KA2 : Hid (Bk w.heap.size (acl a) w2) := KA1.out.later hb
    have KB2 : Hid (Bk b (bcs ao cap l md m cw s aoH capH aoT capT) w2) := KB1.out.later hb
    have HH2 : Hid (Flx b m w2 aoH s.held) := HH1.out.next hb
    have HT2 : Hid (Txx b m w2 aoT s.touched) := HT1.out.next hb
    have HWM2 : Hid (WM w2 m wl) := HWM1.out.next hb
    have HFL2 : Hid (∀ x ∈ wl, Flx b m w2 x.2.1 x.2.2.2) := fun x hx => (HFL1.out x hx).next hb
    have HFF2 : Hid (Flx b m w2 fw.1 fw.2.2) := HFF1.out.next hb
    clear HBn1 KA1 KB1 HH1 HT1 HWM1 HFL1 HFF1
    have HML2 : Hid (m < w2.heap.size) := Nat.lt_of_lt_of_le HML.out hb.size
    clear hv hb HLK HML
    simp only [List.drop, over, overL, Nat.reduceAdd, h7]
    clear h7
    go_wp2
    refine HKK.out _ _ ?_
    clear HKK
    obtain ⟨⟨gs, ls, e2⟩, hdq⟩ : ∃ x, F.drawF a.vol fw.2.2 = x := ⟨_, rfl⟩
    have HDQ : Hid (F.drawF a.vol fw.2.2 = (gs, ls, e2)) := hdq
    clear hdq
    have q0 := (KA2.out).c 0 rfl
    have q1 := (KA2.out).c 1 rfl
    have q2 := (KA2.out).c 2 rfl
    have q3 := (KA2.out).c 3 rfl
    have q4 := (KA2.out).c 4 rfl
    have q5 := (KA2.out).c 5 rfl
    have q6 := (KA2.out).c 6 rfl
    have q7 := (KA2.out).c 7 rfl
    go_wp2_with fail
    clear q0 q1 q2 q3 q4 q5 q6 q7
    refine (draw_fr b m fw.1 fw.2.1 fw.2.2 a.vol w2 HFF2.out.1 KB2.out.1 HML2.out).mono ?_
    rw [HDQ.out]
    rintro e w3 ⟨_, rfl, ⟨_, _, rfl, ⟨aog, capg, rfl, hg⟩, ⟨aol, capl, rfl, hl⟩⟩, hb⟩
    have HGS3 : Hid (Flx b m w3 aog gs) := hg
    have HLS3 : Hid (Flx b m w3 aol ls) := hl
    have HBn3 : Hid (Bn wB w3 ao cap l b m md s) := HBn2.out.next hb
    have KA3 : Hid (Bk w.heap.size (acl a) w3) := KA2.out.later hb
    have KB3 : Hid (Bk b (bcs ao cap l md m cw s aoH capH aoT capT) w3) := KB2.out.later hb
    have HH3 : Hid (Flx b m w3 aoH s.held) := HH2.out.next hb
    have HT3 : Hid (Txx b m w3 aoT s.touched) := HT2.out.next hb
    have HWM3 : Hid (WM w3 m wl) := HWM2.out.next hb
    have HFL3 : Hid (∀ x ∈ wl, Flx b m w3 x.2.1 x.2.2.2) := fun x hx => (HFL2.out x hx).next hb
    have HFF3 : Hid (Flx b m w3 fw.1 fw.2.2) := HFF2.out.next hb
    clear HBn2 KA2 KB2 HH2 HT2 HWM2 HFL2 HFF2
    have HML3 : Hid (m < w3.heap.size) := Nat.lt_of_lt_of_le HML2.out hb.size
    clear hb hg hl HML2
    simp only at HGS3 HLS3 ⊢
    by_cases hc : e2 = 0
    case neg =>
      have h2 : (e2 == 0) = false := by simp [hc]
      have h3 : (e2 != 0) = true := by simp [hc]
      have HQ : Hid (drawA l s a = (s, e2)) := by
        show _ = _
        simp only [drawA, HA.out, HTP.out, HWF.out, HDQ.out]
        simp [hc]
      clear hc
      go_wp2
      go_ret
      exact ⟨by rw [HQ.out]; rfl, by rw [HQ.out]; exact HBn3.out⟩
    subst hc
    have k0 := (KB3.out).c 0 rfl
    have k1 := (KB3.out).c 1 rfl
    have k2 := (KB3.out).c 2 rfl
    have k3 := (KB3.out).c 3 rfl
    have k4 := (KB3.out).c 4 rfl
    have k5 := (KB3.out).c 5 rfl
    have k6 := (KB3.out).c 6 rfl
    have k7 := (KB3.out).c 7 rfl
    have k8 := (KB3.out).c 8 rfl
    have k9 := (KB3.out).c 9 rfl
    have k10 := (KB3.out).c 10 rfl
    have k11 := (KB3.out).c 11 rfl
    go_wp2_with fail
    refine (drops_any aoT capT s.touched w3 HT3.out.1 HTT.out.1).mono ?_
    rintro e w3a ⟨_, rfl, ho, hb⟩
    obtain ⟨aod, capd, rfl, hd⟩ := fl_of ho HTT.out.2
    have HDD : Hid (F.Fl w3a aod (drops s.touched)) := hd
    have HBn3a : Hid (Bn wB w3a ao cap l b m md s) := HBn3.out.next hb
    have KA3a : Hid (Bk w.heap.size (acl a) w3a) := KA3.out.later hb
    have KB3a : Hid (Bk b (bcs ao cap l md m cw s aoH capH aoT capT) w3a) := KB3.out.later hb
    have HH3a : Hid (Flx b m w3a aoH s.held) := HH3.out.next hb
    have HT3a : Hid (Txx b m w3a aoT s.touched) := HT3.out.next hb
    have HWM3a : Hid (WM w3a m wl) := HWM3.out.next hb
    have HFL3a : Hid (∀ x ∈ wl, Flx b m w3a x.2.1 x.2.2.2) := fun x hx => (HFL3.out x hx).next hb
    have HFF3a : Hid (Flx b m w3a fw.1 fw.2.2) := HFF3.out.next hb
    have HGS3a : Hid (Flx b m w3a aog gs) := HGS3.out.next hb
    have HLS3a : Hid (Flx b m w3a aol ls) := HLS3.out.next hb
    clear HBn3 KA3 KB3 HH3 HT3 HWM3 HFL3 HFF3 HGS3 HLS3
    have HML3a : Hid (m < w3a.heap.size) := Nat.lt_of_lt_of_le HML3.out hb.size
    clear hb ho hd HML3 k0 k1 k2 k3 k4 k5 k6 k7 k8 k9 k10 k11
    go_wp2_with fail
    refine (F.withinF_any aod fw.1 capd fw.2.1 (drops s.touched) fw.2.2 w3a HDD.out HFF3a.out.1).mono ?_
    rintro e w4 ⟨rfl, hb⟩
    have HBn4 : Hid (Bn wB w4 ao cap l b m md s) := HBn3a.out.next hb
    have KA4 : Hid (Bk w.heap.size (acl a) w4) := KA3a.out.later hb
    have KB4 : Hid (Bk b (bcs ao cap l md m cw s aoH capH aoT capT) w4) := KB3a.out.later hb
    have HH4 : Hid (Flx b m w4 aoH s.held) := HH3a.out.next hb
    have HT4 : Hid (Txx b m w4 aoT s.touched) := HT3a.out.next hb
    have HWM4 : Hid (WM w4 m wl) := HWM3a.out.next hb
    have HFL4 : Hid (∀ x ∈ wl, Flx b m w4 x.2.1 x.2.2.2) := fun x hx => (HFL3a.out x hx).next hb
    have HFF4 : Hid (Flx b m w4 fw.1 fw.2.2) := HFF3a.out.next hb
    have HGS4 : Hid (Flx b m w4 aog gs) := HGS3a.out.next hb
    have HLS4 : Hid (Flx b m w4 aol ls) := HLS3a.out.next hb
    clear HBn3a KA3a KB3a HH3a HT3a HWM3a HFL3a HFF3a HGS3a HLS3a
    have HML4 : Hid (m < w4.heap.size) := Nat.lt_of_lt_of_le HML3a.out hb.size
    clear hb HDD HML3a
    obtain ⟨⟨cl, e3⟩, hwq⟩ : ∃ x, F.withR (drops s.touched) fw.2.2 = x := ⟨_, rfl⟩
    have HWQ : Hid (F.withR (drops s.touched) fw.2.2 = (cl, e3)) := hwq
    rw [hwq]
    clear hwq
    simp only
    cases cl with
    | false =>
      have HQ : Hid (drawA l s a = (s, 11)) := by
        show _ = _
        simp only [drawA, HA.out, HTP.out, HWF.out, HDQ.out, HWQ.out]
        simp
      go_wp2
      go_ret
      exact ⟨by rw [HQ.out]; rfl, by rw [HQ.out]; exact HBn4.out⟩
    | true =>
    go_wp2_with fail
    rename_i KK hkk
    have HKK := (show Hid _ from hkk)
    clear hkk
    obtain ⟨⟨ps, e1⟩, htq⟩ : ∃ x, togR s.held gs (tipM l) = x := ⟨_, rfl⟩
    have HTQ : Hid (togR s.held gs (tipM l) = (ps, e1)) := htq
    have HTG : Hid (∀ W, Below w4.heap.size w4 W → Calls Tryz.prog 109 #[.slice aoH s.held.length capH, .slice aog gs.length capg, .int .i64 (tipM l)] W fun e w' => ∃ v, e = .returned v ∧ TF b m ps e1 v w' ∧ Below W.heap.size W w') := fun W hW => by
      have := tog_fr b m aoH aog capH capg s.held gs (tipM l) W (HH4.out.next hW).1 (HGS4.out.next hW).1 (Nat.lt_of_lt_of_le KB4.out.1 hW.size) (Nat.lt_of_lt_of_le HML4.out hW.size)
      rw [HTQ.out] at this
      exact this
    clear htq
    refine region_seqE 17 [false, false, false, false, false, false, false, false, false, false, true, false, false, true, false, false, false, false, false, false, false, false, false, false, false, false, false, false, false, false, false, false, false, false, false, false, false, false, false, false, false, false, false, false, false, false, false, false, false, false, false, false, false, false, false, false, false, false, false, false, true, true, true, true, true, true, true, true, true, true, true, true, true, true, true, false, false, false, false, false, false, false, false, false, false, false, false, false, false, false, false, false, false, false]
      [(61, [], none), (62, [61], none), (63, [62], none), (64, [63], none), (65, [64], none), (66, [], none), (67, [], none), (68, [67], none), (69, [68], none), (70, [69], none), (71, [70], none), (72, [65, 66, 71], none), (60, [72], none), (73, [60], none), (74, [60], none), (13, [73], none), (10, [74], none)]
      (dxV b m l s aoH capH aog capg gs ps e1) (by kernel_rfl) (by kernel_rfl) (by kernel_rfl) (by kernel_rfl) (by kernel_rfl) (by decide) (dxV_mono b m l s aoH capH aog capg gs ps e1) ?_ ?_
    · refine ⟨?_, ?_, ?_, ?_, ?_, ?_, ?_, ?_, ?_, ?_, ?_, ?_, ?_, ?_, ?_, ?_, ?_, trivial⟩
      · intro f wA hb _ K hK
        simp only [over, overL, Nat.reduceAdd]
        go_simp
        exact hK _ _ ⟨_, rfl, by simp only [over, overL, Nat.reduceAdd]; rfl, Below.refl _ _⟩
      · intro f wA hb ⟨h61, _⟩ K hK
        replace h61 : f 61 = _ := h61
        simp only [over, overL, Nat.reduceAdd, h61]
        go_simp
        exact hK _ _ ⟨_, rfl, by simp only [over, overL, Nat.reduceAdd, h61]; rfl, Below.refl _ _⟩
      · intro f wA hb ⟨h62, _⟩ K hK
        replace h62 : f 62 = _ := h62
        simp only [over, overL, Nat.reduceAdd, h62]
        go_simp
        exact hK _ _ ⟨_, rfl, by simp only [over, overL, Nat.reduceAdd, h62]; rfl, Below.refl _ _⟩
      · intro f wA hb ⟨h63, _⟩ K hK
        replace h63 : f 63 = _ := h63
        simp only [over, overL, Nat.reduceAdd, h63]
        go_simp
        exact hK _ _ ⟨_, rfl, by simp only [over, overL, Nat.reduceAdd, h63]; rfl, Below.refl _ _⟩
      · intro f wA hb ⟨h64, _⟩ K hK
        replace h64 : f 64 = _ := h64
        have q7 := (KB4.out.later hb).c 7 rfl
        simp only [over, overL, Nat.reduceAdd, h64]
        go_simp
        exact hK _ _ ⟨_, rfl, by simp only [over, overL, Nat.reduceAdd, h64]; rfl, Below.refl _ _⟩
      · intro f wA hb _ K hK
        simp only [over, overL, Nat.reduceAdd]
        go_simp
        exact hK _ _ ⟨_, rfl, by simp only [over, overL, Nat.reduceAdd]; rfl, Below.refl _ _⟩
      · intro f wA hb _ K hK
        simp only [over, overL, Nat.reduceAdd]
        go_simp
        exact hK _ _ ⟨_, rfl, by simp only [over, overL, Nat.reduceAdd]; rfl, Below.refl _ _⟩
      · intro f wA hb ⟨h67, _⟩ K hK
        replace h67 : f 67 = _ := h67
        simp only [over, overL, Nat.reduceAdd, h67]
        go_simp
        exact hK _ _ ⟨_, rfl, by simp only [over, overL, Nat.reduceAdd, h67]; rfl, Below.refl _ _⟩
      · intro f wA hb ⟨h68, _⟩ K hK
        replace h68 : f 68 = _ := h68
        simp only [over, overL, Nat.reduceAdd, h68]
        go_simp
        exact hK _ _ ⟨_, rfl, by simp only [over, overL, Nat.reduceAdd, h68]; rfl, Below.refl _ _⟩
      · intro f wA hb ⟨h69, _⟩ K hK
        replace h69 : f 69 = _ := h69
        simp only [over, overL, Nat.reduceAdd, h69]
        go_simp
        exact hK _ _ ⟨_, rfl, by simp only [over, overL, Nat.reduceAdd, h69]; rfl, Below.refl _ _⟩
      · intro f wA hb ⟨h70, _⟩ K hK
        replace h70 : f 70 = _ := h70
        have q2 := (KB4.out.later hb).c 2 rfl
        simp only [over, overL, Nat.reduceAdd, h70]
        go_simp
        exact hK _ _ ⟨_, rfl, by simp only [over, overL, Nat.reduceAdd, h70]; rfl, Below.refl _ _⟩
      · intro f wA hb ⟨h65, h66, h71, _⟩ K hK
        replace h65 : f 65 = _ := h65
        replace h66 : f 66 = _ := h66
        replace h71 : f 71 = _ := h71
        simp only [over, overL, Nat.reduceAdd, h65, h66, h71]
        go_simp
        refine ((HTG.out wA hb).mono) ?_
        rintro e w2 ⟨x, rfl, ht, hb2⟩
        exact hK _ _ ⟨_, ht, by simp only [over, overL, Nat.reduceAdd, h65, h66, h71]; rfl, hb2⟩
      · intro f wA hb ⟨h72, _⟩ K hK
        simp only [over, overL, Nat.reduceAdd]
        go_simp
        exact hK _ _ ⟨_, h72, by simp only [over, overL, Nat.reduceAdd]; rfl, Below.refl _ _⟩
      · intro f wA hb ⟨h60, _⟩ K hK
        obtain ⟨x, h60, hx⟩ := h60
        simp only [over, overL, Nat.reduceAdd, h60]
        go_simp
        exact hK _ _ ⟨_, hx, by simp only [over, overL, Nat.reduceAdd, h60]; rfl, Below.refl _ _⟩
      · intro f wA hb ⟨h60, _⟩ K hK
        obtain ⟨x, h60, hx⟩ := h60
        simp only [over, overL, Nat.reduceAdd, h60]
        go_simp
        exact hK _ _ ⟨_, rfl, by simp only [over, overL, Nat.reduceAdd, h60]; rfl, Below.refl _ _⟩
      · intro f wA hb ⟨h73, _⟩ K hK
        simp only [over, overL, Nat.reduceAdd]
        go_simp
        exact hK _ _ ⟨_, h73, by simp only [over, overL, Nat.reduceAdd]; rfl, Below.refl _ _⟩
      · intro f wA hb ⟨h74, _⟩ K hK
        replace h74 : f 74 = _ := h74
        simp only [over, overL, Nat.reduceAdd, h74]
        go_simp
        exact hK _ _ ⟨_, rfl, by simp only [over, overL, Nat.reduceAdd, h74]; rfl, Below.refl _ _⟩
    intro f w5 hb hv
    have h10 : f 10 = _ := hv.2.2.2.2.2.2.2.2.2.2.2.2.2.2.2.2.1
    have h13 : Fr b m ps (f 13) w5 := hv.2.2.2.2.2.2.2.2.2.2.2.2.2.2.2.1
    obtain ⟨aof, capf, h13, hf⟩ := h13
    have HF5 : Hid (Flx b m w5 aof ps) := hf
    have HBn5 : Hid (Bn wB w5 ao cap l b m md s) := HBn4.out.next hb
    have KA5 : Hid (Bk w.heap.size (acl a) w5) := KA4.out.later hb
    have KB5 : Hid (Bk b (bcs ao cap l md m cw s aoH capH aoT capT) w5) := KB4.out.later hb
    have HH5 : Hid (Flx b m w5 aoH s.held) := HH4.out.next hb
    have HT5 : Hid (Txx b m w5 aoT s.touched) := HT4.out.next hb
    have HWM5 : Hid (WM w5 m wl) := HWM4.out.next hb
    have HFL5 : Hid (∀ x ∈ wl, Flx b m w5 x.2.1 x.2.2.2) := fun x hx => (HFL4.out x hx).next hb
    have HFF5 : Hid (Flx b m w5 fw.1 fw.2.2) := HFF4.out.next hb
    have HGS5 : Hid (Flx b m w5 aog gs) := HGS4.out.next hb
    have HLS5 : Hid (Flx b m w5 aol ls) := HLS4.out.next hb
    clear HBn4 KA4 KB4 HH4 HT4 HWM4 HFL4 HFF4 HGS4 HLS4
    clear hv hb hf HTG HML4
    simp only [List.drop, over, overL, Nat.reduceAdd, h10, h13]
    clear h10 h13
    go_wp2
    refine HKK.out _ _ ?_
    clear HKK
    by_cases h1 : e1 = 0
    case neg =>
      have h2 : (e1 == 0) = false := by simp [h1]
      have h3 : (e1 != 0) = true := by simp [h1]
      have HQ : Hid (drawA l s a = (s, e1)) := by
        show _ = _
        simp only [drawA, HA.out, HTP.out, HWF.out, HDQ.out, HWQ.out, HTQ.out]
        simp [h1]
      clear h1
      go_wp2
      go_ret
      exact ⟨by rw [HQ.out]; rfl, by rw [HQ.out]; exact HBn5.out⟩
    subst h1
    have HQ : Hid (drawA l s a = ({ s with wells := wset s.wells a.pl ls, held := ps, touched := labsR fw.2.2 }, 0)) := by
      show _ = _
      simp only [drawA, HA.out, HTP.out, HWF.out, HDQ.out, HWQ.out, HTQ.out]
      simp
    have HFR : Hid (F.fref fw.2.2 = 0) := (drawF_ok (by rw [HDQ.out] : (F.drawF a.vol fw.2.2).2.2 = 0)).1
    obtain ⟨hon, hfew⟩ := HBn5.out.once HWL.out
    have q0 := (KA5.out).c 0 rfl
    have q1 := (KA5.out).c 1 rfl
    have q2 := (KA5.out).c 2 rfl
    have q3 := (KA5.out).c 3 rfl
    have q4 := (KA5.out).c 4 rfl
    have q5 := (KA5.out).c 5 rfl
    have q6 := (KA5.out).c 6 rfl
    have q7 := (KA5.out).c 7 rfl
    go_wp2_with fail
    refine (keep_any b m _ _ _ _ _ _ _ _ _ _ _ wl a.pl aol capl ls w5 KB5.out HWM5.out hon hfew HP.out).mono ?_
    rintro e w6 ⟨rfl, hwm, hg⟩
    have hbut : But b m w5 w6 := but_grown hg
    have HWM6 : Hid (WM w6 m (setH wl a.pl (aol, capl, ls))) := hwm
    have KB6 : Hid (Bk b (bcs ao cap l md m cw s aoH capH aoT capT) w6) := KB5.out.same hg.size (hg.block b KB5.out.1 (by simpa using HBn5.out.ne.1))
    have HFF6 : Hid (Flx b m w6 fw.1 fw.2.2) := HFF5.out.but hbut
    have HBU : Hid (But b m w5 w6) := hbut
    clear hwm hg hbut hon hfew q0 q1 q2 q3 q4 q5 q6 q7
    go_wp2_with fail
    refine (labelsOf_any fw.1 fw.2.1 fw.2.2 w6 HFF6.out.1 HFR.out).mono ?_
    rintro e w7 ⟨_, rfl, ho, hb⟩
    have hsz : ∀ x ∈ labsR fw.2.2, x.size ≤ maxLen := fun x hx => by
      obtain ⟨p, hp, rfl, _⟩ := mem_labsR.1 hx
      exact F.fine_size HFR.out p hp
    obtain ⟨aoL, capL, rfl, ht⟩ := txx_of (b := b) (m := m) ho hsz KB6.out.1 HWM6.out.lt
    have HTL : Hid (Txx b m w7 aoL (labsR fw.2.2)) := ht
    have KB7 : Hid (Bk b (bcs ao cap l md m cw s aoH capH aoT capT) w7) := KB6.out.later hb
    have HWM7 : Hid (WM w7 m (setH wl a.pl (aol, capl, ls))) := HWM6.out.next hb
    have HBU7 : Hid (But b m w5 w7) := HBU.out.trans (but_below hb)
    clear ho hsz ht hb
    have k0 := (KB7.out).c 0 rfl
    have kf0 := (KB7.out).f 0 rfl
    have k1 := (KB7.out).c 1 rfl
    have kf1 := (KB7.out).f 1 rfl
    have k2 := (KB7.out).c 2 rfl
    have kf2 := (KB7.out).f 2 rfl
    have k3 := (KB7.out).c 3 rfl
    have kf3 := (KB7.out).f 3 rfl
    have k4 := (KB7.out).c 4 rfl
    have kf4 := (KB7.out).f 4 rfl
    have k5 := (KB7.out).c 5 rfl
    have kf5 := (KB7.out).f 5 rfl
    have k6 := (KB7.out).c 6 rfl
    have kf6 := (KB7.out).f 6 rfl
    have k7 := (KB7.out).c 7 rfl
    have kf7 := (KB7.out).f 7 rfl
    have k8 := (KB7.out).c 8 rfl
    have kf8 := (KB7.out).f 8 rfl
    have k9 := (KB7.out).c 9 rfl
    have kf9 := (KB7.out).f 9 rfl
    have k10 := (KB7.out).c 10 rfl
    have kf10 := (KB7.out).f 10 rfl
    have k11 := (KB7.out).c 11 rfl
    have kf11 := (KB7.out).f 11 rfl
    have lt5 := KB7.out.1
    go_wp2
    go_ret
    have hmay := (may_draw HBn5.out.hd HBn5.out.may (by rw [HQ.out] : (drawA l s a).2 = 0)).1
    rw [HQ.out] at hmay ⊢
    have hst : But b m w7 ((w7.setCell ⟨b, 7, none⟩ (.slice aof ps.length capf)).setCell ⟨b, 8, none⟩ (.slice aoL (labsR fw.2.2).length capL)) := (but_set b m w7 7 _).trans (but_set b m _ 8 _)
    have hbut := HBU7.out.trans hst
    have hmb : m ≠ b := fun e => HBn5.out.ne.1 e.symm
    exact ⟨rfl, HBn5.out.keptTo HWL.out HFL5.out hbut (HWM7.out.same ((Below.heap_setCell _ ⟨b, 8, none⟩ _ m hmb).trans (Below.heap_setCell w7 ⟨b, 7, none⟩ _ m hmb))) (HLS5.out.but hbut) hmay rfl (cw := cw) (aoH := aof) (capH := capf) (aoT := aoL) (capT := capL) ((KB7.out.put 7 _).put 8 _) (HF5.out.but hbut) (HTL.out.but hst)⟩
end Go.Proofs.YtcajifelbldjnaaGreat

/- do and deedsOfKinds walked. -/
namespace Go.Proofs.YtcajifelbldjnaaGreat
open Go.RowKit Go.Maps
set_option maxRecDepth 100000 in
theorem zeroDeed (w : World) : (zeroValue 134).run Tryz.prog w = .ok .nilFunc w := by kernel_rfl
/-- What lies in the table under a number. -/
def deedOf (n : Int) : Value × Bool :=
  if n = 5 then (fv 81, true) else if n = 6 then (fv 82, true) else if n = 7 then (fv 83, true) else if n = 8 then (fv 84, true) else if n = 9 then (fv 85, true) else if n = 11 then (fv 86, true) else if n = 12 then (fv 87, true) else if n = 13 then (fv 88, true) else if n = 14 then (fv 87, true) else (.nilFunc, false)
theorem lit_ne {m n : Int} (h : n ≠ m) : (Lit.int .i64 n) ≠ Lit.int .i64 m := fun e => h (by injection e)
theorem deed_at (n : Int) : Ddeeds.atKey (.int .i64 n) (.held .nilFunc) = .held (deedOf n).1 ∧ has Ddeeds (.int .i64 n) = (deedOf n).2 := by
  unfold deedOf
  by_cases h5 : n = 5
  · subst h5
    exact ⟨by kernel_rfl, by kernel_rfl⟩
  by_cases h6 : n = 6
  · subst h6
    exact ⟨by kernel_rfl, by kernel_rfl⟩
  by_cases h7 : n = 7
  · subst h7
    exact ⟨by kernel_rfl, by kernel_rfl⟩
  by_cases h8 : n = 8
  · subst h8
    exact ⟨by kernel_rfl, by kernel_rfl⟩
  by_cases h9 : n = 9
  · subst h9
    exact ⟨by kernel_rfl, by kernel_rfl⟩
  by_cases h11 : n = 11
  · subst h11
    exact ⟨by kernel_rfl, by kernel_rfl⟩
  by_cases h12 : n = 12
  · subst h12
    exact ⟨by kernel_rfl, by kernel_rfl⟩
  by_cases h13 : n = 13
  · subst h13
    exact ⟨by kernel_rfl, by kernel_rfl⟩
  by_cases h14 : n = 14
  · subst h14
    exact ⟨by kernel_rfl, by kernel_rfl⟩
  rw [if_neg h5, if_neg h6, if_neg h7, if_neg h8, if_neg h9, if_neg h11, if_neg h12, if_neg h13, if_neg h14]
  unfold Ddeeds
  constructor
  · rw [atKey_put_other (lit_ne h14), atKey_put_other (lit_ne h13), atKey_put_other (lit_ne h12), atKey_put_other (lit_ne h11), atKey_put_other (lit_ne h9), atKey_put_other (lit_ne h8), atKey_put_other (lit_ne h7), atKey_put_other (lit_ne h6), atKey_put_other (lit_ne h5)]
    rfl
  · rw [has_put_other (lit_ne h14), has_put_other (lit_ne h13), has_put_other (lit_ne h12), has_put_other (lit_ne h11), has_put_other (lit_ne h9), has_put_other (lit_ne h8), has_put_other (lit_ne h7), has_put_other (lit_ne h6), has_put_other (lit_ne h5)]
    rfl
set_option maxRecDepth 100000 in
theorem DM.look {w : World} {md : Nat} (h : DM w md) {n : Int} (hn : (Lit.int .i64 n).wf = true) : (Instr.lookup 126 (.map (some md)) (.int .i64 n) true).run Tryz.prog w = .ok (.tuple #[(deedOf n).1, .bool (deedOf n).2]) w := by
  obtain ⟨v, ps, hrun, hv⟩ := World.ownsMap.look_ok h (int_keyed Tryz.underlying3) Tryz.underlying126 (zeroDeed w) (zd := .held .nilFunc) (zp := []) rfl (keyOf_int_mk Tryz.underlying3 hn)
  rw [hrun, (deed_at n).2]
  rw [(deed_at n).1] at hv
  simp only [RV, Option.some.injEq, Prod.mk.injEq] at hv
  have := hv.1
  injection this with this
  rw [this]
def doV (b B md : Nat) (a : Acn) (dv : Value) (ok : Bool) (d : Nat) (v : Value) (_ : World) : Prop :=
  match d with
  | 8 => v = .pointer (some ⟨b, 0, none⟩)
  | 9 => v = .pointer (some ⟨b, 0, none⟩)
  | 10 => v = .pointer (some ⟨b, 3, none⟩)
  | 11 => v = .map (some md)
  | 12 => v = .pointer (some ⟨B, 0, none⟩)
  | 13 => v = .int .i64 a.kind
  | 14 => v = .tuple #[dv, .bool ok]
  | 7 => v = .tuple #[dv, .bool ok]
  | 15 => v = dv
  | 16 => v = .bool ok
  | 5 => v = dv
  | 6 => v = .bool ok
  | _ => True
theorem doV_mono (b B md : Nat) (a : Acn) (dv : Value) (ok : Bool) (d : Nat) (v : Value) (w w' : World) (h : doV b B md a dv ok d v w) (_ : Below w.heap.size w w') : doV b B md a dv ok d v w' := h
set_option maxHeartbeats 6400000 in
set_option maxRecDepth 100000 in
theorem do_any (wB w : World) (ao : Option Addr) (cap : Nat) (l : List Sit) (b m md : Nat) (s : Sta) (a : Acn) (hB : Bn wB w ao cap l b m md s) (hlab : a.label.size ≤ maxLen) (hkd : (Lit.int .i64 a.kind).wf = true) :
    Calls Tryz.prog 21 #[ptr b, av a] w fun e w' => e = .returned (.int .i64 (doA l s a).2) ∧ Bn wB w' ao cap l b m md (doA l s a).1 := by
  have HBN : Hid (Bn wB w ao cap l b m md s) := hB
  clear hB
  obtain ⟨w0, hw0⟩ : ∃ w0, w0 = w.alloc (aobj a) := ⟨_, rfl⟩
  have b0 : Below w.heap.size w w0 := by rw [hw0]; exact (Below.refl _ _).alloc (Nat.le_refl _) _
  have KA : Hid (Bk w.heap.size (acl a) w0) := by show Bk _ _ _; rw [hw0]; exact Bk.new w (acl a) 59 w.heap.size rfl
  have HB0 : Hid (Bn wB w0 ao cap l b m md s) := HBN.out.next b0
  have HW0 : Hid (w0 = w.alloc (aobj a)) := hw0
  clear hw0 b0
  obtain ⟨cw, aoH, capH, aoT, capT, K, hh, ht⟩ := HB0.out.bk
  have KB : Hid (Bk b (bcs ao cap l md m cw s aoH capH aoT capT) w0) := K
  have HH : Hid (Flx b m w0 aoH s.held) := hh
  have HT : Hid (Txx b m w0 aoT s.touched) := ht
  have hbw : b < w.heap.size := by obtain ⟨_, _, _, _, _, K', _⟩ := HBN.out.bk; exact K'.1
  have hbn : b ≠ w.heap.size := by omega
  have lt0 := KB.out.1
  clear K hh ht
  clear lt0
  have HLB : Hid (a.label.size ≤ maxLen) := hlab
  have HLK : Hid (∀ W, Below w0.heap.size w0 W → (Instr.lookup 126 (.map (some md)) (.int .i64 a.kind) true).run Tryz.prog W = .ok (.tuple #[(deedOf a.kind).1, .bool (deedOf a.kind).2]) W) := fun W hW => (HB0.out.next hW).deeds.look hkd
  clear hlab hkd
  obtain ⟨⟨dv, ok⟩, hdq⟩ : ∃ x, deedOf a.kind = x := ⟨_, rfl⟩
  have HDO : Hid (deedOf a.kind = (dv, ok)) := hdq
  rw [hdq] at HLK
  simp only at HLK
  clear hdq
  go_enter Tryz.func21, Tryz.ntmps21
  go_wp2_with fail
  rw [← HW0.out]
  rename_i KK hkk
  have HKK := (show Hid _ from hkk)
  clear hkk
  refine region_seqE 12 [false, false, false, false, false, true, true, true, true, true, true, true, true, true, true, true, true, false, false, false, false, false, false]
    [(8, [], none), (9, [8], none), (10, [9], none), (11, [10], none), (12, [], none), (13, [12], none), (14, [11, 13], none), (7, [14], none), (15, [7], none), (16, [7], none), (5, [15], none), (6, [16], none)]
    (doV b w.heap.size md a dv ok) (by kernel_rfl) (by kernel_rfl) (by kernel_rfl) (by kernel_rfl) (by kernel_rfl) (by decide) (doV_mono b w.heap.size md a dv ok) ?_ ?_
  · refine ⟨?_, ?_, ?_, ?_, ?_, ?_, ?_, ?_, ?_, ?_, ?_, ?_, trivial⟩
    · intro f wA hb _ K hK
      simp only [over, overL, Nat.reduceAdd]
      go_simp
      exact hK _ _ ⟨_, rfl, by simp only [over, overL, Nat.reduceAdd]; rfl, Below.refl _ _⟩
    · intro f wA hb ⟨h8, _⟩ K hK
      replace h8 : f 8 = _ := h8
      simp only [over, overL, Nat.reduceAdd, h8]
      go_simp
      exact hK _ _ ⟨_, rfl, by simp only [over, overL, Nat.reduceAdd, h8]; rfl, Below.refl _ _⟩
    · intro f wA hb ⟨h9, _⟩ K hK
      replace h9 : f 9 = _ := h9
      simp only [over, overL, Nat.reduceAdd, h9]
      go_simp
      exact hK _ _ ⟨_, rfl, by simp only [over, overL, Nat.reduceAdd, h9]; rfl, Below.refl _ _⟩
    · intro f wA hb ⟨h10, _⟩ K hK
      replace h10 : f 10 = _ := h10
      have q3 := (KB.out.later hb).c 3 rfl
      simp only [over, overL, Nat.reduceAdd, h10]
      go_simp
      exact hK _ _ ⟨_, rfl, by simp only [over, overL, Nat.reduceAdd, h10]; rfl, Below.refl _ _⟩
    · intro f wA hb _ K hK
      simp only [over, overL, Nat.reduceAdd]
      go_simp
      exact hK _ _ ⟨_, rfl, by simp only [over, overL, Nat.reduceAdd]; rfl, Below.refl _ _⟩
    · intro f wA hb ⟨h12, _⟩ K hK
      replace h12 : f 12 = _ := h12
      have q0 := (KA.out.later hb).c 0 rfl
      simp only [over, overL, Nat.reduceAdd, h12]
      go_simp
      exact hK _ _ ⟨_, rfl, by simp only [over, overL, Nat.reduceAdd, h12]; rfl, Below.refl _ _⟩
    · intro f wA hb ⟨h11, h13, _⟩ K hK
      replace h11 : f 11 = _ := h11
      replace h13 : f 13 = _ := h13
      have ql := HLK.out wA hb
      simp only [over, overL, Nat.reduceAdd, h11, h13]
      go_simp
      exact hK _ _ ⟨_, rfl, by simp only [over, overL, Nat.reduceAdd, h11, h13]; rfl, Below.refl _ _⟩
    · intro f wA hb ⟨h14, _⟩ K hK
      replace h14 : f 14 = _ := h14
      simp only [over, overL, Nat.reduceAdd, h14]
      go_simp
      exact hK _ _ ⟨_, rfl, by simp only [over, overL, Nat.reduceAdd, h14]; rfl, Below.refl _ _⟩
    · intro f wA hb ⟨h7, _⟩ K hK
      replace h7 : f 7 = _ := h7
      simp only [over, overL, Nat.reduceAdd, h7]
      go_simp
      exact hK _ _ ⟨_, rfl, by simp only [over, overL, Nat.reduceAdd, h7]; rfl, Below.refl _ _⟩
    · intro f wA hb ⟨h7, _⟩ K hK
      replace h7 : f 7 = _ := h7
      simp only [over, overL, Nat.reduceAdd, h7]
      go_simp
      exact hK _ _ ⟨_, rfl, by simp only [over, overL, Nat.reduceAdd, h7]; rfl, Below.refl _ _⟩
    · intro f wA hb ⟨h15, _⟩ K hK
      replace h15 : f 15 = _ := h15
      simp only [over, overL, Nat.reduceAdd, h15]
      go_simp
      exact hK _ _ ⟨_, rfl, by simp only [over, overL, Nat.reduceAdd, h15]; rfl, Below.refl _ _⟩
    · intro f wA hb ⟨h16, _⟩ K hK
      replace h16 : f 16 = _ := h16
      simp only [over, overL, Nat.reduceAdd, h16]
      go_simp
      exact hK _ _ ⟨_, rfl, by simp only [over, overL, Nat.reduceAdd, h16]; rfl, Below.refl _ _⟩
  intro f w1 hb hv
  have h5 : f 5 = _ := hv.2.2.2.2.2.2.2.2.2.2.1
  have h6 : f 6 = _ := hv.2.2.2.2.2.2.2.2.2.2.2.1
  have HBn1 : Hid (Bn wB w1 ao cap l b m md s) := HB0.out.next hb
  have KA1 : Hid (Bk w.heap.size (acl a) w1) := KA.out.later hb
  clear hv hb HLK HB0 KA KB HH HT
  simp only [List.drop, over, overL, Nat.reduceAdd, h5, h6]
  clear h5 h6
  go_wp2
  refine HKK.out _ _ ?_
  clear HKK
  have q0 := (KA1.out).c 0 rfl
  have q1 := (KA1.out).c 1 rfl
  have q2 := (KA1.out).c 2 rfl
  have q3 := (KA1.out).c 3 rfl
  have q4 := (KA1.out).c 4 rfl
  have q5 := (KA1.out).c 5 rfl
  have q6 := (KA1.out).c 6 rfl
  have q7 := (KA1.out).c 7 rfl
  have HD1 := HDO.out
  unfold deedOf at HD1
  by_cases c5 : a.kind = 5
  · have HQ : Hid (doA l s a = fillA l s a) := by show _ = _; unfold doA; rw [if_pos c5]
    rw [if_pos c5] at HD1
    obtain ⟨rfl, rfl⟩ := Prod.mk.injEq _ _ _ _ ▸ HD1
    clear c5
    go_wp2_with fail
    refine (fill_any wB _ ao cap l b m md s a HBn1.out HLB.out).mono ?_
    rintro e w2 ⟨rfl, h2⟩
    have HB2 : Hid (Bn wB w2 ao cap l b m md (fillA l s a).1) := h2
    clear h2
    go_wp2
    go_ret
    exact ⟨by rw [HQ.out]; rfl, by rw [HQ.out]; exact HB2.out⟩
  by_cases c6 : a.kind = 6
  · have HQ : Hid (doA l s a = tipA l s) := by show _ = _; unfold doA; rw [if_neg c5, if_pos c6]
    rw [if_neg c5, if_pos c6] at HD1
    obtain ⟨rfl, rfl⟩ := Prod.mk.injEq _ _ _ _ ▸ HD1
    clear c5 c6
    go_wp2_with fail
    refine (tip_any wB _ ao cap l b m md s a HBn1.out).mono ?_
    rintro e w2 ⟨rfl, h2⟩
    have HB2 : Hid (Bn wB w2 ao cap l b m md (tipA l s).1) := h2
    clear h2
    go_wp2
    go_ret
    exact ⟨by rw [HQ.out]; rfl, by rw [HQ.out]; exact HB2.out⟩
  by_cases c7 : a.kind = 7
  · have HQ : Hid (doA l s a = dropA s) := by show _ = _; unfold doA; rw [if_neg c5, if_neg c6, if_pos c7]
    rw [if_neg c5, if_neg c6, if_pos c7] at HD1
    obtain ⟨rfl, rfl⟩ := Prod.mk.injEq _ _ _ _ ▸ HD1
    clear c5 c6 c7
    go_wp2_with fail
    refine (drop_any wB _ ao cap l b m md s a HBn1.out).mono ?_
    rintro e w2 ⟨rfl, h2⟩
    have HB2 : Hid (Bn wB w2 ao cap l b m md (dropA s).1) := h2
    clear h2
    go_wp2
    go_ret
    exact ⟨by rw [HQ.out]; rfl, by rw [HQ.out]; exact HB2.out⟩
  by_cases c8 : a.kind = 8
  · have HQ : Hid (doA l s a = drawA l s a) := by show _ = _; unfold doA; rw [if_neg c5, if_neg c6, if_neg c7, if_pos c8]
    rw [if_neg c5, if_neg c6, if_neg c7, if_pos c8] at HD1
    obtain ⟨rfl, rfl⟩ := Prod.mk.injEq _ _ _ _ ▸ HD1
    clear c5 c6 c7 c8
    go_wp2_with fail
    refine (draw_any wB _ ao cap l b m md s a HBn1.out).mono ?_
    rintro e w2 ⟨rfl, h2⟩
    have HB2 : Hid (Bn wB w2 ao cap l b m md (drawA l s a).1) := h2
    clear h2
    go_wp2
    go_ret
    exact ⟨by rw [HQ.out]; rfl, by rw [HQ.out]; exact HB2.out⟩
  by_cases c9 : a.kind = 9
  · have HQ : Hid (doA l s a = putA l s a) := by show _ = _; unfold doA; rw [if_neg c5, if_neg c6, if_neg c7, if_neg c8, if_pos c9]
    rw [if_neg c5, if_neg c6, if_neg c7, if_neg c8, if_pos c9] at HD1
    obtain ⟨rfl, rfl⟩ := Prod.mk.injEq _ _ _ _ ▸ HD1
    clear c5 c6 c7 c8 c9
    go_wp2_with fail
    refine (put_any wB _ ao cap l b m md s a HBn1.out).mono ?_
    rintro e w2 ⟨rfl, h2⟩
    have HB2 : Hid (Bn wB w2 ao cap l b m md (putA l s a).1) := h2
    clear h2
    go_wp2
    go_ret
    exact ⟨by rw [HQ.out]; rfl, by rw [HQ.out]; exact HB2.out⟩
  by_cases c11 : a.kind = 11
  · have HQ : Hid (doA l s a = warmA s a) := by show _ = _; unfold doA; rw [if_neg c5, if_neg c6, if_neg c7, if_neg c8, if_neg c9, if_pos c11]
    rw [if_neg c5, if_neg c6, if_neg c7, if_neg c8, if_neg c9, if_pos c11] at HD1
    obtain ⟨rfl, rfl⟩ := Prod.mk.injEq _ _ _ _ ▸ HD1
    clear c5 c6 c7 c8 c9 c11
    go_wp2_with fail
    refine (warm_any wB _ ao cap l b m md s a HBn1.out).mono ?_
    rintro e w2 ⟨rfl, h2⟩
    have HB2 : Hid (Bn wB w2 ao cap l b m md (warmA s a).1) := h2
    clear h2
    go_wp2
    go_ret
    exact ⟨by rw [HQ.out]; rfl, by rw [HQ.out]; exact HB2.out⟩
  by_cases c12 : a.kind = 12
  · have HQ : Hid (doA l s a = passA s a) := by show _ = _; unfold doA; rw [if_neg c5, if_neg c6, if_neg c7, if_neg c8, if_neg c9, if_neg c11, if_pos c12]
    rw [if_neg c5, if_neg c6, if_neg c7, if_neg c8, if_neg c9, if_neg c11, if_pos c12] at HD1
    obtain ⟨rfl, rfl⟩ := Prod.mk.injEq _ _ _ _ ▸ HD1
    clear c5 c6 c7 c8 c9 c11 c12
    go_wp2_with fail
    refine (pass_any wB _ ao cap l b m md s a HBn1.out).mono ?_
    rintro e w2 ⟨rfl, h2⟩
    have HB2 : Hid (Bn wB w2 ao cap l b m md (passA s a).1) := h2
    clear h2
    go_wp2
    go_ret
    exact ⟨by rw [HQ.out]; rfl, by rw [HQ.out]; exact HB2.out⟩
  by_cases c13 : a.kind = 13
  · have HQ : Hid (doA l s a = shakeA s a) := by show _ = _; unfold doA; rw [if_neg c5, if_neg c6, if_neg c7, if_neg c8, if_neg c9, if_neg c11, if_neg c12, if_pos c13]
    rw [if_neg c5, if_neg c6, if_neg c7, if_neg c8, if_neg c9, if_neg c11, if_neg c12, if_pos c13] at HD1
    obtain ⟨rfl, rfl⟩ := Prod.mk.injEq _ _ _ _ ▸ HD1
    clear c5 c6 c7 c8 c9 c11 c12 c13
    go_wp2_with fail
    refine (shake_any wB _ ao cap l b m md s a HBn1.out).mono ?_
    rintro e w2 ⟨rfl, h2⟩
    have HB2 : Hid (Bn wB w2 ao cap l b m md (shakeA s a).1) := h2
    clear h2
    go_wp2
    go_ret
    exact ⟨by rw [HQ.out]; rfl, by rw [HQ.out]; exact HB2.out⟩
  by_cases c14 : a.kind = 14
  · have HQ : Hid (doA l s a = passA s a) := by show _ = _; unfold doA; rw [if_neg c5, if_neg c6, if_neg c7, if_neg c8, if_neg c9, if_neg c11, if_neg c12, if_neg c13, if_pos c14]
    rw [if_neg c5, if_neg c6, if_neg c7, if_neg c8, if_neg c9, if_neg c11, if_neg c12, if_neg c13, if_pos c14] at HD1
    obtain ⟨rfl, rfl⟩ := Prod.mk.injEq _ _ _ _ ▸ HD1
    clear c5 c6 c7 c8 c9 c11 c12 c13 c14
    go_wp2_with fail
    refine (pass_any wB _ ao cap l b m md s a HBn1.out).mono ?_
    rintro e w2 ⟨rfl, h2⟩
    have HB2 : Hid (Bn wB w2 ao cap l b m md (passA s a).1) := h2
    clear h2
    go_wp2
    go_ret
    exact ⟨by rw [HQ.out]; rfl, by rw [HQ.out]; exact HB2.out⟩
  have HQ : Hid (doA l s a = (s, 6)) := by show _ = _; unfold doA; rw [if_neg c5, if_neg c6, if_neg c7, if_neg c8, if_neg c9, if_neg c11, if_neg c12, if_neg c13, if_neg c14]
  rw [if_neg c5, if_neg c6, if_neg c7, if_neg c8, if_neg c9, if_neg c11, if_neg c12, if_neg c13, if_neg c14] at HD1
  obtain ⟨rfl, rfl⟩ := Prod.mk.injEq _ _ _ _ ▸ HD1
  clear c5 c6 c7 c8 c9 c11 c12 c13 c14
  go_wp2
  go_ret
  exact ⟨by rw [HQ.out]; rfl, by rw [HQ.out]; exact HBn1.out⟩
theorem deed_put {w : World} {md n : Nat} {D : DataW Value} (h : w.ownsMap Tryz.prog 3 RV md n D) (hn : n < maxLen) (k : Int) (hk : (Lit.int .i64 k).wf = true) (v : Value) :
    ∃ w', (Instr.mapUpdate 126 (.map (some md)) (.int .i64 k) v).run Tryz.prog w = .ok () w' ∧ w'.ownsMap Tryz.prog 3 RV md (n + 1) (D.put (.int .i64 k) (.held v)) ∧ w.grownBy w' (some md) :=
  h.update (int_keyed Tryz.underlying3) Tryz.underlying126 hn (keyOf_int_mk Tryz.underlying3 hk) (d := .held v) (ps := []) rfl
theorem blw_map {b : Nat} {a w w1 : World} (h : Below b a w) (hs : b ≤ w.heap.size) (hg : w.grownBy w1 (some b)) : Below b a w1 ∧ b ≤ w1.heap.size :=
  ⟨h.grown hg hs (fun k hk => by cases hk; exact Nat.le_refl _), Nat.le_trans hs hg.size⟩
set_option maxHeartbeats 3200000 in
set_option maxRecDepth 100000 in
theorem deedsOfKinds_any (w : World) : Calls Tryz.prog 52 #[] w fun e w' => ∃ md, e = .returned (.map (some md)) ∧ w.heap.size ≤ md ∧ DM w' md ∧ Below w.heap.size w w' := by
  have hmm := @run_makeMap Tryz.prog
  have o0 : (w.alloc (.map #[] 0)).ownsMap Tryz.prog 3 RV w.heap.size 0 (.map []) := World.ownsMap_made (H := Value) w Tryz.prog 3 RV
  have b0 : Below w.heap.size w (w.alloc (.map #[] 0)) := (Below.refl _ _).alloc (Nat.le_refl _) _
  have z0 : w.heap.size ≤ (w.alloc (.map #[] 0)).heap.size := by simp
  obtain ⟨w1, r1, o1, g1⟩ := deed_put o0 (by unfold maxLen; omega) 5 (by decide) (fv 81)
  obtain ⟨b1, z1⟩ := blw_map b0 z0 g1
  clear o0 b0 z0 g1
  obtain ⟨w2, r2, o2, g2⟩ := deed_put o1 (by unfold maxLen; omega) 6 (by decide) (fv 82)
  obtain ⟨b2, z2⟩ := blw_map b1 z1 g2
  clear o1 b1 z1 g2
  obtain ⟨w3, r3, o3, g3⟩ := deed_put o2 (by unfold maxLen; omega) 7 (by decide) (fv 83)
  obtain ⟨b3, z3⟩ := blw_map b2 z2 g3
  clear o2 b2 z2 g3
  obtain ⟨w4, r4, o4, g4⟩ := deed_put o3 (by unfold maxLen; omega) 8 (by decide) (fv 84)
  obtain ⟨b4, z4⟩ := blw_map b3 z3 g4
  clear o3 b3 z3 g4
  obtain ⟨w5, r5, o5, g5⟩ := deed_put o4 (by unfold maxLen; omega) 9 (by decide) (fv 85)
  obtain ⟨b5, z5⟩ := blw_map b4 z4 g5
  clear o4 b4 z4 g5
  obtain ⟨w6, r6, o6, g6⟩ := deed_put o5 (by unfold maxLen; omega) 11 (by decide) (fv 86)
  obtain ⟨b6, z6⟩ := blw_map b5 z5 g6
  clear o5 b5 z5 g6
  obtain ⟨w7, r7, o7, g7⟩ := deed_put o6 (by unfold maxLen; omega) 12 (by decide) (fv 87)
  obtain ⟨b7, z7⟩ := blw_map b6 z6 g7
  clear o6 b6 z6 g7
  obtain ⟨w8, r8, o8, g8⟩ := deed_put o7 (by unfold maxLen; omega) 13 (by decide) (fv 88)
  obtain ⟨b8, z8⟩ := blw_map b7 z7 g8
  clear o7 b7 z7 g8
  obtain ⟨w9, r9, o9, g9⟩ := deed_put o8 (by unfold maxLen; omega) 14 (by decide) (fv 87)
  obtain ⟨b9, z9⟩ := blw_map b8 z8 g9
  clear o8 b8 z8 g9
  have HD : Hid (DM w9 w.heap.size) := o9
  have HB : Hid (Below w.heap.size w w9) := b9
  clear o9 b9 z9
  go_enter Tryz.func52, Tryz.ntmps52
  go_wp2
  go_ret
  exact ⟨w.heap.size, rfl, Nat.le_refl _, HD.out, HB.out⟩
end Go.Proofs.YtcajifelbldjnaaGreat

/- newBench walked. -/
namespace Go.Proofs.YtcajifelbldjnaaGreat
open Go.RowKit Go.Maps
theorem DM.next {w w1 : World} {md : Nat} (h : DM w md) (hb : Below w.heap.size w w1) : DM w1 md := h.same (hb.block md h.lt)
theorem dm_wm {w : World} {md m : Nat} (h : DM w md) (h2 : WM w m []) : m ≠ md := by
  rintro rfl
  obtain ⟨es, clock, hb, F, _, hD⟩ := h
  obtain ⟨D2, ⟨es2, clock2, hb2, F2, _, hD2⟩, hr⟩ := h2
  rw [hb] at hb2
  injection hb2 with hb2
  injection hb2 with hb2 _
  subst hb2
  have h1 : Maps.size Ddeeds = es.size := by rw [hD, Maps.size_eq, length_sorted]; simp
  have h2 : Maps.size D2 = es.size := by rw [hD2, Maps.size_eq, length_sorted]; simp
  have h3 : Maps.size Ddeeds = 9 := by kernel_rfl
  have h4 := hr.size
  simp at h4
  omega
def NB10 (M : Nat) (v : Value) (w : World) : Prop := ∃ md, v = .map (some md) ∧ M ≤ md ∧ DM w md
theorem NB10.later {M : Nat} {v : Value} {w w1 : World} (h : NB10 M v w) (hb : Below w.heap.size w w1) : NB10 M v w1 := by
  obtain ⟨md, h1, h2, h3⟩ := h
  exact ⟨md, h1, h2, h3.next hb⟩
def NB11 (M : Nat) (v : Value) (w : World) : Prop := ∃ m, v = .map (some m) ∧ M ≤ m ∧ WM w m []
theorem NB11.later {M : Nat} {v : Value} {w w1 : World} (h : NB11 M v w) (hb : Below w.heap.size w w1) : NB11 M v w1 := by
  obtain ⟨md, h1, h2, h3⟩ := h
  exact ⟨md, h1, h2, h3.next hb⟩
def NB13 (M : Nat) (ao : Option Addr) (cap : Nat) (l : List Sit) (s : Sm) (v : Value) (w : World) : Prop :=
  ∃ md m, v = .agg #[.slice ao l.length cap, .int .i64 ((tipsL l).length : Int), .int .i64 (tipM l), .map (some md), .map (some m), .slice s.aoW s.wl.length s.capW, .bool s.tip, .slice s.aoH s.held.length s.capH, .slice s.aoT s.touched.length s.capT, .int .i64 s.used, .int .i64 s.heat, .int .i64 s.clock] ∧ M ≤ md ∧ M ≤ m ∧ DM w md ∧ WM w m []
theorem NB13.later {M : Nat} {ao : Option Addr} {cap : Nat} {l : List Sit} {s : Sm} {v : Value} {w w1 : World} (h : NB13 M ao cap l s v w) (hb : Below w.heap.size w w1) : NB13 M ao cap l s v w1 := by
  obtain ⟨md, m, h1, h2, h3, h4, h5⟩ := h
  exact ⟨md, m, h1, h2, h3, h4.next hb, h5.next hb⟩
def NB14 (M : Nat) (ao : Option Addr) (cap : Nat) (l : List Sit) (s : Sm) (v : Value) (w : World) : Prop :=
  ∃ b md m, v = ptr b ∧ M ≤ b ∧ M ≤ md ∧ M ≤ m ∧ b ≠ m ∧ b ≠ md ∧ m ≠ md ∧ DM w md ∧ WM w m [] ∧ Bk b (bcs ao cap l md m (s.aoW, s.wl.length, s.capW) s.st s.aoH s.capH s.aoT s.capT) w
theorem NB14.later {M : Nat} {ao : Option Addr} {cap : Nat} {l : List Sit} {s : Sm} {v : Value} {w w1 : World} (h : NB14 M ao cap l s v w) (hb : Below w.heap.size w w1) : NB14 M ao cap l s v w1 := by
  obtain ⟨b, md, m, h1, h2, h3, h4, h5, h6, h7, h8, h9, h10⟩ := h
  exact ⟨b, md, m, h1, h2, h3, h4, h5, h6, h7, h8.next hb, h9.next hb, h10.later hb⟩
theorem insH_last {y : Wh} {l : List Wh} (h : ∀ x ∈ l, pltB x.1 y.1 = true) : insH y l = l ++ [y] := by
  induction l with
  | nil => rfl
  | cons x r ih =>
    have hx := h x (List.mem_cons_self ..)
    have : ¬ pltB y.1 x.1 = true := fun e => plt_ne (plt_trans hx e) rfl
    unfold insH
    rw [if_neg this, ih fun z hz => h z (List.mem_cons_of_mem _ hz)]
    rfl
theorem take_ins {wl : List Wh} (h : Rising (whp wl)) {k : Nat} (hk : k < wl.length) : insH (wl[k]'hk) (delH (wl.take k) (wl[k]'hk).1) = wl.take (k + 1) := by
  have hr : wl.Pairwise fun x y => pltB x.1 y.1 = true := by
    unfold Rising whp at h
    rw [List.pairwise_map] at h
    exact h
  have ha : ∀ x ∈ wl.take k, pltB x.1 (wl[k]'hk).1 = true := by
    intro x hx
    obtain ⟨i, hi, rfl⟩ := List.getElem_of_mem hx
    rw [List.getElem_take]
    have : i < k := by simp at hi; omega
    exact List.pairwise_iff_getElem.1 hr i k (by omega) hk this
  have hd : delH (wl.take k) (wl[k]'hk).1 = wl.take k := by
    unfold delH
    rw [List.filter_eq_self]
    intro x hx
    exact decide_eq_true (plt_ne (ha x hx))
  rw [hd, insH_last ha, List.take_succ_eq_append_getElem hk]
theorem rising_take {wl : List Wh} (h : Rising (whp wl)) (k : Nat) : Rising (whp (wl.take k)) := by
  unfold Rising whp at h ⊢
  rw [List.map_take]
  exact h.sublist (List.take_sublist _ _)
theorem flx_low {b m : Nat} {w w1 : World} {ao : Option Addr} {ps : List F.Pc} (h : F.Fl w ao ps) (hb : Below w.heap.size w w1) (h1 : w.heap.size ≤ b) (h2 : w.heap.size ≤ m) : Flx b m w1 ao ps := by
  refine ⟨h.next hb, ?_⟩
  rcases h.2 with h | ⟨g, off, e, hg, _⟩
  · exact .inl h
  · refine .inr fun a ha => ?_
    rw [e] at ha
    injection ha with ha
    subst ha
    exact ⟨by simp only; omega, by simp only; omega⟩
theorem txx_low {b m : Nat} {w w1 : World} {ao : Option Addr} {ps : List ByteArray} (h : Tx w ao ps) (hb : Below w.heap.size w w1) (h1 : w.heap.size ≤ b) (h2 : w.heap.size ≤ m) : Txx b m w1 ao ps := by
  refine ⟨h.next hb, ?_⟩
  rcases h.2 with h | ⟨g, off, e, hg, _⟩
  · exact .inl h
  · refine .inr fun a ha => ?_
    rw [e] at ha
    injection ha with ha
    subst ha
    exact ⟨by simp only; omega, by simp only; omega⟩
def nbV (M : Nat) (ao : Option Addr) (cap : Nat) (l : List Sit) (s : Sm) (d : Nat) (v : Value) (w : World) : Prop :=
  match d with
  | 8 => v = .slice ao l.length cap
  | 9 => v = .agg #[.slice ao l.length cap, .int .i64 ((tipsL l).length : Int), .int .i64 (tipM l)]
  | 10 => NB10 M v w
  | 11 => NB11 M v w
  | 12 => v = .agg #[.slice s.aoW s.wl.length s.capW, .bool s.tip, .slice s.aoH s.held.length s.capH, .slice s.aoT s.touched.length s.capT, .int .i64 s.used, .int .i64 s.heat, .int .i64 s.clock]
  | 13 => NB13 M ao cap l s v w
  | 14 => NB14 M ao cap l s v w
  | 5 => NB14 M ao cap l s v w
  | _ => True
theorem nbV_mono (M : Nat) (ao : Option Addr) (cap : Nat) (l : List Sit) (s : Sm) (d : Nat) (v : Value) (w w' : World) (h : nbV M ao cap l s d v w) (hb : Below w.heap.size w w') : nbV M ao cap l s d v w' := by
  unfold nbV at h ⊢
  split <;> simp only [] at h <;> first | exact h | exact h.later hb
def nlpV (b Y m : Nat) (y : Wh) (d : Nat) (v : Value) (_ : World) : Prop :=
  match d with
  | 22 => v = .pointer (some ⟨b, 0, none⟩)
  | 23 => v = .pointer (some ⟨b, 0, none⟩)
  | 24 => v = .pointer (some ⟨b, 4, none⟩)
  | 25 => v = .map (some m)
  | 26 => v = .pointer (some ⟨Y, 0, none⟩)
  | 27 => v = .agg #[.int .i64 y.1.1, .int .i64 y.1.2.1, .int .i64 y.1.2.2]
  | 28 => v = .pointer (some ⟨Y, 3, none⟩)
  | 29 => v = .slice y.2.1 y.2.2.2.length y.2.2.1
  | _ => True
theorem nlpV_mono (b Y m : Nat) (y : Wh) (d : Nat) (v : Value) (w w' : World) (h : nlpV b Y m y d v w) (_ : Below w.heap.size w w') : nlpV b Y m y d v w' := h
set_option maxHeartbeats 6400000 in
set_option maxRecDepth 100000 in
theorem newBench_any (ao : Option Addr) (cap : Nat) (l : List Sit) (s : Sm) (w : World) (hD : Dk w ao cap l) (hd : dchk l = 0) (hS : SmIn w s) (hm : May l s.st) :
    Calls Tryz.prog 20 #[.slice ao l.length cap, smv s] w fun e w' => ∃ b m md, e = .returned (ptr b) ∧ Bn w w' ao cap l b m md s.st := by
  have HD : Hid (Dk w ao cap l) := hD
  have HDC : Hid (dchk l = 0) := hd
  have HS : Hid (SmIn w s) := hS
  have HM : Hid (May l s.st) := hm
  have HRI : Hid (Rising (whp s.wl)) := hm.rising
  have hfew : s.wl.length ≤ 4608 := by have := wells_few hd hm; rw [← whp_length]; exact this
  have HWF : Hid (∀ x ∈ s.wl, Wf3 x.1) := fun x hx => wf_place hd (hm.wells (x.1, x.2.2.2) (List.mem_map.2 ⟨x, hx, rfl⟩)).1
  obtain ⟨w0, hw0⟩ : ∃ w0, w0 = w.alloc (smo s) := ⟨_, rfl⟩
  have b0 : Below w.heap.size w w0 := by rw [hw0]; exact (Below.refl _ _).alloc (Nat.le_refl _) _
  have KS : Hid (Bk w.heap.size [.slice s.aoW s.wl.length s.capW, .bool s.tip, .slice s.aoH s.held.length s.capH, .slice s.aoT s.touched.length s.capT, .int .i64 s.used, .int .i64 s.heat, .int .i64 s.clock] w0) := by show Bk _ _ _; rw [hw0]; exact Bk.new w _ 49 w.heap.size rfl
  have HD0 : Hid (Dk w0 ao cap l) := hD.next b0
  have HB0 : Hid (Below w.heap.size w w0) := b0
  have HW0 : Hid (w0 = w.alloc (smo s)) := hw0
  clear hD hd hS hm hw0 b0
  go_enter Tryz.func20, Tryz.ntmps20
  go_wp2_with fail
  rw [← HW0.out]
  rename_i KK hkk
  have HKK := (show Hid _ from hkk)
  clear hkk
  refine region_inv [false, false, false, false, false, true, false, false, true, true, true, true, true, true, true, false, false, false, false, false, false, false, false, false, false, false, false, false, false, false, false, false]
    [(8, [], none), (9, [8], none), (10, [], none), (11, [], none), (12, [], none), (13, [9, 10, 11, 12], none), (14, [13], none), (5, [14], none)]
    (nbV w0.heap.size ao cap l s) (by kernel_rfl) (by kernel_rfl) (nbV_mono w0.heap.size ao cap l s) ?_ ?_
  · refine ⟨?_, ?_, ?_, ?_, ?_, ?_, ?_, ?_, trivial⟩
    · intro f wA hb _ K hK
      simp only [over, overL, Nat.reduceAdd]
      go_simp
      exact hK _ _ ⟨_, rfl, by simp only [over, overL, Nat.reduceAdd]; rfl, Below.refl _ _⟩
    · intro f wA hb ⟨h8, _⟩ K hK
      replace h8 : f 8 = _ := h8
      simp only [over, overL, Nat.reduceAdd, h8]
      go_simp
      refine ((newLayout_any ao cap l wA (HD0.out.next hb) HDC.out).mono) ?_
      rintro e w2 ⟨rfl, hb2⟩
      exact hK _ _ ⟨_, rfl, by simp only [over, overL, Nat.reduceAdd, h8]; rfl, hb2⟩
    · intro f wA hb _ K hK
      simp only [over, overL, Nat.reduceAdd]
      go_simp
      refine ((deedsOfKinds_any wA).mono) ?_
      rintro e w2 ⟨md, rfl, g1, g2, hb2⟩
      exact hK _ _ ⟨_, ⟨md, rfl, Nat.le_trans hb.size g1, g2⟩, by simp only [over, overL, Nat.reduceAdd]; rfl, hb2⟩
    · intro f wA hb _ K hK
      have hmm := @run_makeMap Tryz.prog
      simp only [over, overL, Nat.reduceAdd]
      go_simp
      exact hK _ _ ⟨_, ⟨wA.heap.size, rfl, hb.size, WM.made wA⟩, by simp only [over, overL, Nat.reduceAdd]; rfl, (Below.refl _ _).alloc (Nat.le_refl _) _⟩
    · intro f wA hb _ K hK
      have q0 := (KS.out.later hb).c 0 rfl
      have q1 := (KS.out.later hb).c 1 rfl
      have q2 := (KS.out.later hb).c 2 rfl
      have q3 := (KS.out.later hb).c 3 rfl
      have q4 := (KS.out.later hb).c 4 rfl
      have q5 := (KS.out.later hb).c 5 rfl
      have q6 := (KS.out.later hb).c 6 rfl
      simp only [over, overL, Nat.reduceAdd]
      go_simp
      exact hK _ _ ⟨_, rfl, by simp only [over, overL, Nat.reduceAdd]; rfl, Below.refl _ _⟩
    · intro f wA hb ⟨h9, h10, h11, h12, _⟩ K hK
      replace h9 : f 9 = _ := h9
      replace h12 : f 12 = _ := h12
      obtain ⟨md, h10, g1, g2⟩ := h10
      obtain ⟨m, h11, k1, k2⟩ := h11
      simp only [over, overL, Nat.reduceAdd, h9, h12, h10, h11]
      go_simp
      exact hK _ _ ⟨_, ⟨md, m, rfl, g1, k1, g2, k2⟩, by simp only [over, overL, Nat.reduceAdd, h9, h12, h10, h11]; rfl, Below.refl _ _⟩
    · intro f wA hb ⟨h13, _⟩ K hK
      obtain ⟨md, m, h13, g1, k1, g2, k2⟩ := h13
      have hn := dm_wm g2 k2
      have hl1 := g2.lt
      have hl2 := k2.lt
      have al : Below wA.heap.size wA (wA.alloc (.cells (bcs ao cap l md m (s.aoW, s.wl.length, s.capW) s.st s.aoH s.capH s.aoT s.capT).toArray 130)) := (Below.refl _ _).alloc (Nat.le_refl _) _
      simp only [over, overL, Nat.reduceAdd, h13]
      go_simp
      exact hK _ _ ⟨_, ⟨wA.heap.size, md, m, rfl, hb.size, g1, k1, by omega, by omega, hn, g2.next al, k2.next al, Bk.new wA (bcs ao cap l md m (s.aoW, s.wl.length, s.capW) s.st s.aoH s.capH s.aoT s.capT) 130 wA.heap.size rfl⟩, by simp only [over, overL, Nat.reduceAdd, h13]; rfl, (Below.refl _ _).alloc (Nat.le_refl _) _⟩
    · intro f wA hb ⟨h14, _⟩ K hK
      simp only [over, overL, Nat.reduceAdd]
      go_simp
      exact hK _ _ ⟨_, h14, by simp only [over, overL, Nat.reduceAdd]; rfl, Below.refl _ _⟩
  intro f w1 hb hv
  have h5 : NB14 w0.heap.size ao cap l s (f 5) w1 := hv.2.2.2.2.2.2.2.1
  obtain ⟨b, md, m, h5, g2, g3, g4, g5, g6, g7, g8, g9, g10⟩ := h5
  have HG : Hid (w0.heap.size ≤ b ∧ w0.heap.size ≤ md ∧ w0.heap.size ≤ m ∧ b ≠ m ∧ b ≠ md ∧ m ≠ md) := ⟨g2, g3, g4, g5, g6, g7⟩
  have HDM : Hid (DM w1 md) := g8
  have HWM1 : Hid (WM w1 m []) := g9
  have KB1 : Hid (Bk b (bcs ao cap l md m (s.aoW, s.wl.length, s.capW) s.st s.aoH s.capH s.aoT s.capT) w1) := g10
  have KS1 : Hid (Bk w.heap.size [.slice s.aoW s.wl.length s.capW, .bool s.tip, .slice s.aoH s.held.length s.capH, .slice s.aoT s.touched.length s.capT, .int .i64 s.used, .int .i64 s.heat, .int .i64 s.clock] w1) := KS.out.later hb
  have HB1 : Hid (Below w.heap.size w w1) := HB0.out.trans (hb.mono HB0.out.size)
  clear hv hb g2 g3 g4 g5 g6 g7 g8 g9 g10
  simp only [over, overL, Nat.reduceAdd, h5]
  clear h5
  (try go_wp2)
  refine HKK.out _ _ ?_
  clear HKK
  have q0 := (KS1.out).c 0 rfl
  have q1 := (KS1.out).c 1 rfl
  have q2 := (KS1.out).c 2 rfl
  have q3 := (KS1.out).c 3 rfl
  have q4 := (KS1.out).c 4 rfl
  have q5 := (KS1.out).c 5 rfl
  have q6 := (KS1.out).c 6 rfl
  go_wp2_with fail
  clear q0 q1 q2 q3 q4 q5 q6
  go_loopw [18] (fun i wr => ∃ k : Nat, k ≤ s.wl.length ∧ i = .int .i64 k ∧ But b m w1 wr ∧ WM wr m (s.wl.take k) ∧ Bk b (bcs ao cap l md m (s.aoW, s.wl.length, s.capW) s.st s.aoH s.capH s.aoT s.capT) wr) (fun i _ => s.wl.length - (intOf i).toNat)
  case atStart => exact ⟨0, Nat.zero_le _, rfl, but_below (Below.refl _ _), HWM1.out, KB1.out⟩
  case round =>
    obtain ⟨k, hk, rfl, hbu, hwm, hkb⟩ := hrel
    have HBU : Hid (But b m w1 wr) := hbu
    have HWM : Hid (WM wr m (s.wl.take k)) := hwm
    have KB : Hid (Bk b (bcs ao cap l md m (s.aoW, s.wl.length, s.capW) s.st s.aoH s.capH s.aoT s.capT) wr) := hkb
    have HB : Hid (Below w.heap.size w wr) := hbu.below HB1.out (Nat.le_trans HB0.out.size HG.out.1) (Nat.le_trans HB0.out.size HG.out.2.2.1) HB1.out.size
    clear hbu hwm hkb
    by_cases hlt : k < s.wl.length
    rotate_left
    · go_wp2
      go_ret
      refine ⟨b, m, md, rfl, HD.out, HDC.out, HM.out, HB.out, ⟨Nat.le_trans HB0.out.size HG.out.1, Nat.le_trans HB0.out.size HG.out.2.2.1, Nat.le_trans HB0.out.size HG.out.2.1⟩, ⟨HG.out.2.2.2.1, HG.out.2.2.2.2.1, HG.out.2.2.2.2.2⟩, HDM.out.same (HBU.out.block md HDM.out.lt (fun e => HG.out.2.2.2.2.1 e.symm) (fun e => HG.out.2.2.2.2.2 e.symm)), ⟨s.wl, ?_, rfl, ?_⟩, (s.aoW, s.wl.length, s.capW), s.aoH, s.capH, s.aoT, s.capT, KB.out, ?_, ?_⟩
      · have := HWM.out
        rw [List.take_of_length_le (by omega)] at this
        exact this
      · intro x hx
        obtain ⟨i, hi, rfl⟩ := List.getElem_of_mem hx
        obtain ⟨b', off, _, hat⟩ := HS.out.wells.at hi
        exact flx_low hat.fl HB.out (Nat.le_trans HB0.out.size HG.out.1) (Nat.le_trans HB0.out.size HG.out.2.2.1)
      · exact flx_low HS.out.held HB.out (Nat.le_trans HB0.out.size HG.out.1) (Nat.le_trans HB0.out.size HG.out.2.2.1)
      · exact txx_low HS.out.touched HB.out (Nat.le_trans HB0.out.size HG.out.1) (Nat.le_trans HB0.out.size HG.out.2.2.1)
    · obtain ⟨b', off, hao, hx⟩ := (HS.out.wells.next HB.out).at hlt
      have HAO : Hid (s.aoW = some ⟨b', off, none⟩) := hao
      rw [hao]
      clear hao
      obtain ⟨y, hy⟩ : ∃ y, y = s.wl[k]'hlt := ⟨_, rfl⟩
      rw [← hy] at hx
      obtain ⟨_, c0, c1, c2, c3, _⟩ := hx
      have HTK : Hid (insH y (delH (s.wl.take k) y.1) = s.wl.take (k + 1)) := by show _ = _; rw [hy]; exact take_ins HRI.out hlt
      have HY3 : Hid (Wf3 y.1) := by show Wf3 _; rw [hy]; exact HWF.out _ (List.getElem_mem hlt)
      obtain ⟨w2, hw2⟩ : ∃ w2, w2 = wr.alloc (who y) := ⟨_, rfl⟩
      have b2 : Below wr.heap.size wr w2 := by rw [hw2]; exact (Below.refl _ _).alloc (Nat.le_refl _) _
      have KY : Hid (Bk wr.heap.size [.int .i64 y.1.1, .int .i64 y.1.2.1, .int .i64 y.1.2.2, .slice y.2.1 y.2.2.2.length y.2.2.1] w2) := by show Bk _ _ _; rw [hw2]; exact Bk.new wr _ 132 wr.heap.size rfl
      have KB2 : Hid (Bk b (bcs ao cap l md m (s.aoW, s.wl.length, s.capW) s.st s.aoH s.capH s.aoT s.capT) w2) := KB.out.later b2
      have HB2 : Hid (Below wr.heap.size wr w2) := b2
      have HW2 : Hid (w2 = wr.alloc (who y)) := hw2
      have hki : (k : Int) < (s.wl.length : Int) := by omega
      clear hy hw2 b2
      go_wp2_with fail
      rw [← HW2.out]
      rename_i KK hkk
      have HKK := (show Hid _ from hkk)
      clear hkk
      refine region_seq 8 [false, false, false, false, false, false, false, false, false, false, false, false, false, false, false, false, false, false, false, false, false, false, true, true, true, true, true, true, true, true, false, false]
        [(22, [], none), (23, [22], none), (24, [23], none), (25, [24], none), (26, [], none), (27, [26], none), (28, [], none), (29, [28], none)]
        (nlpV b wr.heap.size m y) (by kernel_rfl) (by kernel_rfl) (by kernel_rfl) (by kernel_rfl) (by kernel_rfl) (by decide) (nlpV_mono b wr.heap.size m y) ?_ ?_
      · refine ⟨?_, ?_, ?_, ?_, ?_, ?_, ?_, ?_, trivial⟩
        · intro f wA hb _ K hK
          simp only [over, overL, Nat.reduceAdd]
          go_simp
          exact hK _ _ ⟨_, rfl, by simp only [over, overL, Nat.reduceAdd]; rfl, Below.refl _ _⟩
        · intro f wA hb ⟨h22, _⟩ K hK
          replace h22 : f 22 = _ := h22
          simp only [over, overL, Nat.reduceAdd, h22]
          go_simp
          exact hK _ _ ⟨_, rfl, by simp only [over, overL, Nat.reduceAdd, h22]; rfl, Below.refl _ _⟩
        · intro f wA hb ⟨h23, _⟩ K hK
          replace h23 : f 23 = _ := h23
          simp only [over, overL, Nat.reduceAdd, h23]
          go_simp
          exact hK _ _ ⟨_, rfl, by simp only [over, overL, Nat.reduceAdd, h23]; rfl, Below.refl _ _⟩
        · intro f wA hb ⟨h24, _⟩ K hK
          replace h24 : f 24 = _ := h24
          have q4 := (KB2.out.later hb).c 4 rfl
          simp only [over, overL, Nat.reduceAdd, h24]
          go_simp
          exact hK _ _ ⟨_, rfl, by simp only [over, overL, Nat.reduceAdd, h24]; rfl, Below.refl _ _⟩
        · intro f wA hb _ K hK
          simp only [over, overL, Nat.reduceAdd]
          go_simp
          exact hK _ _ ⟨_, rfl, by simp only [over, overL, Nat.reduceAdd]; rfl, Below.refl _ _⟩
        · intro f wA hb ⟨h26, _⟩ K hK
          replace h26 : f 26 = _ := h26
          have q0 := (KY.out.later hb).c 0 rfl
          have q1 := (KY.out.later hb).c 1 rfl
          have q2 := (KY.out.later hb).c 2 rfl
          simp only [over, overL, Nat.reduceAdd, h26]
          go_simp
          exact hK _ _ ⟨_, rfl, by simp only [over, overL, Nat.reduceAdd, h26]; rfl, Below.refl _ _⟩
        · intro f wA hb _ K hK
          simp only [over, overL, Nat.reduceAdd]
          go_simp
          exact hK _ _ ⟨_, rfl, by simp only [over, overL, Nat.reduceAdd]; rfl, Below.refl _ _⟩
        · intro f wA hb ⟨h28, _⟩ K hK
          replace h28 : f 28 = _ := h28
          have q3 := (KY.out.later hb).c 3 rfl
          simp only [over, overL, Nat.reduceAdd, h28]
          go_simp
          exact hK _ _ ⟨_, rfl, by simp only [over, overL, Nat.reduceAdd, h28]; rfl, Below.refl _ _⟩
      intro f' w3 hb hv
      have h25 : f' 25 = _ := hv.2.2.2.1
      have h27 : f' 27 = _ := hv.2.2.2.2.2.1
      have h29 : f' 29 = _ := hv.2.2.2.2.2.2.2.1
      have HB3 : Hid (Below wr.heap.size wr w3) := HB2.out.trans (hb.mono HB2.out.size)
      obtain ⟨D, hown, hrd⟩ := HWM.out.next HB3.out
      have HON : Once (s.wl.take k) := once_of (rising_take HRI.out k)
      have HRD : Hid (Reads (D.put (klP y.1) (.held (.slice y.2.1 y.2.2.2.length y.2.2.1))) (s.wl.take (k + 1))) := by
        have := reads_put (x := y) hrd HON HY3.out
        rw [HTK.out] at this
        exact this
      have hsz : Maps.size D < maxLen := by rw [hrd.size]; have : (s.wl.take k).length ≤ s.wl.length := by simp; omega
                                            unfold maxLen; omega
      clear hv hrd hb HON
      simp only [List.drop, over, overL, Nat.reduceAdd, h25, h27, h29]
      go_wp2_with (first | (at_mapUpdate; refine wpList_mapUpdate_own _ rfl _ _ _ 128 rfl 57 46 lawP Tryz.underlying128 RV m (Maps.size D) D rfl hown hsz _ _ _ rfl rfl (keyP_some HY3.out) (.held (.slice y.2.1 y.2.2.2.length y.2.2.1)) [] rfl ?_; intro w4 hown1 hg1) | go_in)
      have HWM4 : Hid (WM w4 m (s.wl.take (k + 1))) := ⟨_, own_tight hown1, HRD.out⟩
      have HBU4 : Hid (But b m w1 w4) := HBU.out.trans ((but_below HB3.out).trans (but_grown hg1))
      have KB4 : Hid (Bk b (bcs ao cap l md m (s.aoW, s.wl.length, s.capW) s.st s.aoH s.capH s.aoT s.capT) w4) := (KB.out.later HB3.out).same hg1.size (hg1.block b (KB.out.later HB3.out).1 (by simpa using HG.out.2.2.2.1))
      clear hown hown1 hg1 h25 h27 h29 hsz
      refine HKK.out _ _ ?_
      go_wp2
      go_roundw
      case rel => exact ⟨k + 1, by omega, by go_num, HBU4.out, HWM4.out, (by have := KB4.out; rw [HAO.out] at this; exact this)⟩
      case measure => simp [intOf]; omega
end Go.Proofs.YtcajifelbldjnaaGreat
