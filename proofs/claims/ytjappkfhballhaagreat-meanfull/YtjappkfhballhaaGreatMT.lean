/- put and draw walked. -/
import Derived.Test.YtjappkfhballhaaGreatMS
namespace Go.Proofs.YtjappkfhballhaaGreat
open Go.RowKit Go.Maps

def puV (b B m : Nat) (s : Sta) (a : Acn) (aoH : Option Addr) (capH : Nat) (gs ls : List F.Pc) (e2 : Int) (d : Nat) (v : Value) (w : World) : Prop :=
  match d with
  | 26 => v = .pointer (some ⟨b, 0, none⟩)
  | 27 => v = .pointer (some ⟨b, 0, none⟩)
  | 28 => v = .pointer (some ⟨b, 5, none⟩)
  | 29 => v = .pointer (some ⟨b, 7, none⟩)
  | 30 => v = .slice aoH s.held.length capH
  | 31 => v = .pointer (some ⟨B, 5, none⟩)
  | 32 => v = .int .i64 a.vol
  | 33 => TG3 b m gs ls e2 v w
  | 25 => TG3 b m gs ls e2 v w
  | 34 => Fr b m gs v w
  | 35 => Fr b m ls v w
  | 36 => v = .int .i64 e2
  | 7 => Fr b m gs v w
  | 8 => Fr b m ls v w
  | 6 => v = .int .i64 e2
  | _ => True
theorem puV_mono (b B m : Nat) (s : Sta) (a : Acn) (aoH : Option Addr) (capH : Nat) (gs ls : List F.Pc) (e2 : Int) (d : Nat) (v : Value) (w w' : World) (h : puV b B m s a aoH capH gs ls e2 d v w) (hb : Below w.heap.size w w') : puV b B m s a aoH capH gs ls e2 d v w' := by
  unfold puV at h ⊢
  split <;> simp only [] at h <;> first | exact h | exact h.later hb
def pvV (b B m : Nat) (a : Acn) (mo : Int) (aog : Option Addr) (capg : Nat) (gs : List F.Pc) (fw : F.Fd) (ps : List F.Pc) (e1 : Int) (d : Nat) (v : Value) (w : World) : Prop :=
  match d with
  | 41 => v = .pointer (some ⟨b, 0, none⟩)
  | 42 => v = .pointer (some ⟨b, 0, none⟩)
  | 43 => v = .pointer (some ⟨b, 4, none⟩)
  | 44 => v = .map (some m)
  | 45 => v = .pointer (some ⟨B, 1, none⟩)
  | 46 => v = .agg #[.int .i64 a.pl.1, .int .i64 a.pl.2.1, .int .i64 a.pl.2.2]
  | 47 => v = .slice fw.1 fw.2.2.length fw.2.1
  | 48 => v = .slice aog gs.length capg
  | 49 => v = .int .i64 mo
  | 50 => TF b m ps e1 v w
  | 40 => TF b m ps e1 v w
  | 51 => Fr b m ps v w
  | 52 => v = .int .i64 e1
  | 9 => Fr b m ps v w
  | 6 => v = .int .i64 e1
  | _ => True
theorem pvV_mono (b B m : Nat) (a : Acn) (mo : Int) (aog : Option Addr) (capg : Nat) (gs : List F.Pc) (fw : F.Fd) (ps : List F.Pc) (e1 : Int) (d : Nat) (v : Value) (w w' : World) (h : pvV b B m a mo aog capg gs fw ps e1 d v w) (hb : Below w.heap.size w w') : pvV b B m a mo aog capg gs fw ps e1 d v w' := by
  unfold pvV at h ⊢
  split <;> simp only [] at h <;> first | exact h | exact h.later hb
set_option maxHeartbeats 6400000 in
set_option maxRecDepth 100000 in
theorem put_any (wB w : World) (ao : Option Addr) (cap : Nat) (l : List Sit) (b m md : Nat) (s : Sta) (a : Acn) (hB : Bn wB w ao cap l b m md s) :
    Calls Tryz.prog 101 #[ptr b, av a] w fun e w' => e = .returned (.int .i64 (putA l s a).2) ∧ Bn wB w' ao cap l b m md (putA l s a).1 := by
  have HBN : Hid (Bn wB w ao cap l b m md s) := hB
  clear hB
  obtain ⟨w0, hw0⟩ : ∃ w0, w0 = w.alloc (aobj a) := ⟨_, rfl⟩
  have b0 : Below w.heap.size w w0 := by rw [hw0]; exact (Below.refl _ _).alloc (Nat.le_refl _) _
  have KA : Hid (Bk w.heap.size (acl a) w0) := by show Bk _ _ _; rw [hw0]; exact Bk.new w (acl a) 33 w.heap.size rfl
  have HB0 : Hid (Bn wB w0 ao cap l b m md s) := HBN.out.next b0
  have HW0 : Hid (w0 = w.alloc (aobj a)) := hw0
  clear hw0 b0
  obtain ⟨cw, aoH, capH, aoT, capT, K, hh, ht⟩ := HB0.out.bk
  have KB : Hid (Bk b (bcs ao cap l md m cw s aoH capH aoT capT) w0) := K
  have HH : Hid (Flx b m w0 aoH s.held) := hh
  have HT : Hid (Txx b m w0 aoT s.touched) := ht
  have hbw : b < w.heap.size := by obtain ⟨_, _, _, _, _, K', _⟩ := HBN.out.bk; exact K'.1
  have hbn : b ≠ w.heap.size := by omega
  have lt0 := KB.out.1
  clear K hh ht
  clear lt0
  go_enter Tryz.func101, Tryz.ntmps101
  go_wp2_with fail
  rw [← HW0.out]
  refine (aim_any wB w0 ao cap l b m md s a HB0.out).mono ?_
  rintro e w1 ⟨rfl, hb1⟩
  have HBn0 := HB0
  have KA0 := KA
  have KB0 := KB
  have HH0 := HH
  have HT0 := HT
  have HBn1 : Hid (Bn wB w1 ao cap l b m md s) := HBn0.out.next hb1
  have KA1 : Hid (Bk w.heap.size (acl a) w1) := KA0.out.later hb1
  have KB1 : Hid (Bk b (bcs ao cap l md m cw s aoH capH aoT capT) w1) := KB0.out.later hb1
  have HH1 : Hid (Flx b m w1 aoH s.held) := HH0.out.next hb1
  have HT1 : Hid (Txx b m w1 aoT s.touched) := HT0.out.next hb1
  clear HBn0 KA0 KB0 HH0 HT0
  have hbo1 : b < w1.heap.size := KB1.out.1
  clear hb1 HB0 KA KB HH HT
  obtain ⟨⟨mo, e0⟩, hM⟩ : ∃ x, aimR l a = x := ⟨_, rfl⟩
  have HA : Hid (aimR l a = (mo, e0)) := hM
  rw [hM]
  clear hM
  by_cases he : e0 = 0
  case neg =>
    have h2 : (e0 == 0) = false := by simp [he]
    have h3 : (e0 != 0) = true := by simp [he]
    have HQ : Hid (putA l s a = (s, e0)) := by
      show _ = _
      simp only [putA, HA.out]
      simp [he]
    clear he
    go_wp2
    go_ret
    exact ⟨by rw [HQ.out]; rfl, by rw [HQ.out]; exact HBn1.out⟩
  subst he
  have HP : Hid (Wf3 a.pl) := wf_place HBn1.out.hd (aim_ok (by rw [HA.out]))
  cases htp : s.tip with
  | false =>
    have HQ : Hid (putA l s a = (s, 12)) := by
      show _ = _
      simp only [putA, HA.out, htp]
      simp
    have k0 := (KB1.out).c 0 rfl
    have k1 := (KB1.out).c 1 rfl
    have k2 := (KB1.out).c 2 rfl
    have k3 := (KB1.out).c 3 rfl
    have k4 := (KB1.out).c 4 rfl
    have k5 := (KB1.out).c 5 rfl
    have k6 := (KB1.out).c 6 rfl
    have k7 := (KB1.out).c 7 rfl
    have k8 := (KB1.out).c 8 rfl
    have k9 := (KB1.out).c 9 rfl
    have k10 := (KB1.out).c 10 rfl
    have k11 := (KB1.out).c 11 rfl
    rw [htp] at k6
    go_wp2
    go_ret
    exact ⟨by rw [HQ.out]; rfl, by rw [HQ.out]; exact HBn1.out⟩
  | true =>
    obtain ⟨u1, u2, u3, u4⟩ := tip_parts HBn1.out.may htp
    have HTP : Hid (s.tip = true) := htp
    have HTT : Hid (s.touched.length ≤ 100 ∧ ∀ p ∈ drops s.touched, p.1.size ≤ maxLen) := ⟨(mayTouch_iff.1 u4).1, F.fine_size (withR_iff.1 (mayTouch_iff.1 u4).2.2).2.1⟩
    clear u1 u2 u3 u4
    have k0 := (KB1.out).c 0 rfl
    have k1 := (KB1.out).c 1 rfl
    have k2 := (KB1.out).c 2 rfl
    have k3 := (KB1.out).c 3 rfl
    have k4 := (KB1.out).c 4 rfl
    have k5 := (KB1.out).c 5 rfl
    have k6 := (KB1.out).c 6 rfl
    have k7 := (KB1.out).c 7 rfl
    have k8 := (KB1.out).c 8 rfl
    have k9 := (KB1.out).c 9 rfl
    have k10 := (KB1.out).c 10 rfl
    have k11 := (KB1.out).c 11 rfl
    rw [htp] at k6
    clear htp
    go_wp2_with fail
    rename_i KK hkk
    have HKK := (show Hid _ from hkk)
    clear hkk
    obtain ⟨⟨gs, ls, e2⟩, hdq⟩ : ∃ x, F.drawF a.vol s.held = x := ⟨_, rfl⟩
    have HDQ : Hid (F.drawF a.vol s.held = (gs, ls, e2)) := hdq
    have HML0 : Hid (m < w1.heap.size) := by obtain ⟨wl, hwm, _, _⟩ := HBn1.out.wells; exact hwm.lt
    have HDR : Hid (∀ W, Below w1.heap.size w1 W → Calls Tryz.prog 122 #[.slice aoH s.held.length capH, .int .i64 a.vol] W fun e w' => ∃ x, e = .returned x ∧ TG3 b m gs ls e2 x w' ∧ Below W.heap.size W w') := fun W hW => by
      have := draw_fr b m aoH capH s.held a.vol W (HH1.out.next hW).1 (Nat.lt_of_lt_of_le KB1.out.1 hW.size) (Nat.lt_of_lt_of_le HML0.out hW.size)
      rw [HDQ.out] at this
      exact this
    clear hdq k0 k1 k2 k3 k4 k5 k6 k7 k8 k9 k10 k11
    refine region_seqE 15 [false, false, false, false, false, false, true, true, true, false, false, false, false, false, false, false, false, false, false, false, false, false, false, false, false, true, true, true, true, true, true, true, true, true, true, true, true, false, false, false, false, false, false, false, false, false, false, false, false, false, false, false, false, false, false, false, false, false, false, false, false, false, false, false, false, false]
      [(26, [], none), (27, [26], none), (28, [27], none), (29, [28], none), (30, [29], none), (31, [], none), (32, [31], none), (33, [30, 32], none), (25, [33], none), (34, [25], none), (35, [25], none), (36, [25], none), (7, [34], none), (8, [35], none), (6, [36], none)]
      (puV b w.heap.size m s a aoH capH gs ls e2) (by kernel_rfl) (by kernel_rfl) (by kernel_rfl) (by kernel_rfl) (by kernel_rfl) (by decide) (puV_mono b w.heap.size m s a aoH capH gs ls e2) ?_ ?_
    · refine ⟨?_, ?_, ?_, ?_, ?_, ?_, ?_, ?_, ?_, ?_, ?_, ?_, ?_, ?_, ?_, trivial⟩
      · intro f wA hb _ K hK
        simp only [over, overL, Nat.reduceAdd]
        go_simp
        exact hK _ _ ⟨_, rfl, by simp only [over, overL, Nat.reduceAdd]; rfl, Below.refl _ _⟩
      · intro f wA hb ⟨h26, _⟩ K hK
        replace h26 : f 26 = _ := h26
        simp only [over, overL, Nat.reduceAdd, h26]
        go_simp
        exact hK _ _ ⟨_, rfl, by simp only [over, overL, Nat.reduceAdd, h26]; rfl, Below.refl _ _⟩
      · intro f wA hb ⟨h27, _⟩ K hK
        replace h27 : f 27 = _ := h27
        simp only [over, overL, Nat.reduceAdd, h27]
        go_simp
        exact hK _ _ ⟨_, rfl, by simp only [over, overL, Nat.reduceAdd, h27]; rfl, Below.refl _ _⟩
      · intro f wA hb ⟨h28, _⟩ K hK
        replace h28 : f 28 = _ := h28
        simp only [over, overL, Nat.reduceAdd, h28]
        go_simp
        exact hK _ _ ⟨_, rfl, by simp only [over, overL, Nat.reduceAdd, h28]; rfl, Below.refl _ _⟩
      · intro f wA hb ⟨h29, _⟩ K hK
        replace h29 : f 29 = _ := h29
        have q7 := (KB1.out.later hb).c 7 rfl
        simp only [over, overL, Nat.reduceAdd, h29]
        go_simp
        exact hK _ _ ⟨_, rfl, by simp only [over, overL, Nat.reduceAdd, h29]; rfl, Below.refl _ _⟩
      · intro f wA hb _ K hK
        simp only [over, overL, Nat.reduceAdd]
        go_simp
        exact hK _ _ ⟨_, rfl, by simp only [over, overL, Nat.reduceAdd]; rfl, Below.refl _ _⟩
      · intro f wA hb ⟨h31, _⟩ K hK
        replace h31 : f 31 = _ := h31
        have q5 := (KA1.out.later hb).c 5 rfl
        simp only [over, overL, Nat.reduceAdd, h31]
        go_simp
        exact hK _ _ ⟨_, rfl, by simp only [over, overL, Nat.reduceAdd, h31]; rfl, Below.refl _ _⟩
      · intro f wA hb ⟨h30, h32, _⟩ K hK
        replace h30 : f 30 = _ := h30
        replace h32 : f 32 = _ := h32
        simp only [over, overL, Nat.reduceAdd, h30, h32]
        go_simp
        refine ((HDR.out wA hb).mono) ?_
        rintro e w2 ⟨x, rfl, ht, hb2⟩
        exact hK _ _ ⟨_, ht, by simp only [over, overL, Nat.reduceAdd, h30, h32]; rfl, hb2⟩
      · intro f wA hb ⟨h33, _⟩ K hK
        simp only [over, overL, Nat.reduceAdd]
        go_simp
        exact hK _ _ ⟨_, h33, by simp only [over, overL, Nat.reduceAdd]; rfl, Below.refl _ _⟩
      · intro f wA hb ⟨h25, _⟩ K hK
        obtain ⟨x, y, h25, hx, hy⟩ := h25
        simp only [over, overL, Nat.reduceAdd, h25]
        go_simp
        exact hK _ _ ⟨_, hx, by simp only [over, overL, Nat.reduceAdd, h25]; rfl, Below.refl _ _⟩
      · intro f wA hb ⟨h25, _⟩ K hK
        obtain ⟨x, y, h25, hx, hy⟩ := h25
        simp only [over, overL, Nat.reduceAdd, h25]
        go_simp
        exact hK _ _ ⟨_, hy, by simp only [over, overL, Nat.reduceAdd, h25]; rfl, Below.refl _ _⟩
      · intro f wA hb ⟨h25, _⟩ K hK
        obtain ⟨x, y, h25, hx, hy⟩ := h25
        simp only [over, overL, Nat.reduceAdd, h25]
        go_simp
        exact hK _ _ ⟨_, rfl, by simp only [over, overL, Nat.reduceAdd, h25]; rfl, Below.refl _ _⟩
      · intro f wA hb ⟨h34, _⟩ K hK
        simp only [over, overL, Nat.reduceAdd]
        go_simp
        exact hK _ _ ⟨_, h34, by simp only [over, overL, Nat.reduceAdd]; rfl, Below.refl _ _⟩
      · intro f wA hb ⟨h35, _⟩ K hK
        simp only [over, overL, Nat.reduceAdd]
        go_simp
        exact hK _ _ ⟨_, h35, by simp only [over, overL, Nat.reduceAdd]; rfl, Below.refl _ _⟩
      · intro f wA hb ⟨h36, _⟩ K hK
        replace h36 : f 36 = _ := h36
        simp only [over, overL, Nat.reduceAdd, h36]
        go_simp
        exact hK _ _ ⟨_, rfl, by simp only [over, overL, Nat.reduceAdd, h36]; rfl, Below.refl _ _⟩
    intro f w2 hb hv
    have h6 : f 6 = _ := hv.2.2.2.2.2.2.2.2.2.2.2.2.2.2.1
    have h7 : Fr b m gs (f 7) w2 := hv.2.2.2.2.2.2.2.2.2.2.2.2.1
    have h8 : Fr b m ls (f 8) w2 := hv.2.2.2.2.2.2.2.2.2.2.2.2.2.1
    obtain ⟨aog, capg, h7, hg⟩ := h7
    obtain ⟨aol, capl, h8, hl⟩ := h8
    have HGS2 : Hid (Flx b m w2 aog gs) := hg
    have HLS2 : Hid (Flx b m w2 aol ls) := hl
    have HBn2 : Hid (Bn wB w2 ao cap l b m md s) := HBn1.out.next hb
    have KA2 : Hid (Bk w.heap.size (acl a) w2) := KA1.out.later hb
    have KB2 : Hid (Bk b (bcs ao cap l md m cw s aoH capH aoT capT) w2) := KB1.out.later hb
    have HH2 : Hid (Flx b m w2 aoH s.held) := HH1.out.next hb
    have HT2 : Hid (Txx b m w2 aoT s.touched) := HT1.out.next hb
    clear HBn1 KA1 KB1 HH1 HT1
    clear hv hb hg hl HDR HML0
    simp only [List.drop, over, overL, Nat.reduceAdd, h6, h7, h8]
    clear h6 h7 h8
    go_wp2
    refine HKK.out _ _ ?_
    clear HKK
    by_cases hc : e2 = 0
    case neg =>
      have h2 : (e2 == 0) = false := by simp [hc]
      have h3 : (e2 != 0) = true := by simp [hc]
      have HQ : Hid (putA l s a = (s, e2)) := by
        show _ = _
        simp only [putA, HA.out, HTP.out, HDQ.out]
        simp [hc]
      clear hc
      go_wp2
      go_ret
      exact ⟨by rw [HQ.out]; rfl, by rw [HQ.out]; exact HBn2.out⟩
    subst hc
    go_wp2_with fail
    rename_i KK hkk
    have HKK := (show Hid _ from hkk)
    clear hkk
    obtain ⟨wl, hwm, hwl, hfl⟩ := HBn2.out.wells
    obtain ⟨fw, hfw⟩ : ∃ x, fdAt wl a.pl = x := ⟨_, rfl⟩
    have hff := flx_at hfl a.pl
    rw [hfw] at hff
    have HFF2 : Hid (Flx b m w2 fw.1 fw.2.2) := hff
    have HLK : Hid (∀ W, Below w2.heap.size w2 W → (Instr.lookup 115 (.map (some m)) (plv a.pl) false).run Tryz.prog W = .ok (.slice fw.1 fw.2.2.length fw.2.1) W) := fun W hW => by
      have := (hwm.next hW).look HP.out
      rw [hfw] at this
      exact this
    have HWF : Hid (wellF s.wells a.pl = fw.2.2) := by show _ = _; rw [← hwl, ← fdAt_whp, hfw]
    have HWM2 : Hid (WM w2 m wl) := hwm
    have HWL : Hid (whp wl = s.wells) := hwl
    have HFL2 : Hid (∀ x ∈ wl, Flx b m w2 x.2.1 x.2.2.2) := hfl
    have HML : Hid (m < w2.heap.size) := hwm.lt
    clear hwm hwl hfl hfw hff
    obtain ⟨⟨ps, e1⟩, htq⟩ : ∃ x, togR fw.2.2 gs mo = x := ⟨_, rfl⟩
    have HTQ : Hid (togR fw.2.2 gs mo = (ps, e1)) := htq
    have HTG : Hid (∀ W, Below w2.heap.size w2 W → Calls Tryz.prog 120 #[.slice fw.1 fw.2.2.length fw.2.1, .slice aog gs.length capg, .int .i64 mo] W fun e w' => ∃ v, e = .returned v ∧ TF b m ps e1 v w' ∧ Below W.heap.size W w') := fun W hW => by
      have := tog_fr b m fw.1 aog fw.2.1 capg fw.2.2 gs mo W (HFF2.out.next hW).1 (HGS2.out.next hW).1 (Nat.lt_of_lt_of_le KB2.out.1 hW.size) (Nat.lt_of_lt_of_le HML.out hW.size)
      rw [HTQ.out] at this
      exact this
    clear htq
    refine region_seqE 15 [false, false, false, false, false, false, true, false, false, true, false, false, false, false, false, false, false, false, false, false, false, false, false, false, false, false, false, false, false, false, false, false, false, false, false, false, false, false, false, false, true, true, true, true, true, true, true, true, true, true, true, true, true, false, false, false, false, false, false, false, false, false, false, false, false, false]
      [(41, [], none), (42, [41], none), (43, [42], none), (44, [43], none), (45, [], none), (46, [45], none), (47, [44, 46], none), (48, [], none), (49, [], none), (50, [47, 48, 49], none), (40, [50], none), (51, [40], none), (52, [40], none), (9, [51], none), (6, [52], none)]
      (pvV b w.heap.size m a mo aog capg gs fw ps e1) (by kernel_rfl) (by kernel_rfl) (by kernel_rfl) (by kernel_rfl) (by kernel_rfl) (by decide) (pvV_mono b w.heap.size m a mo aog capg gs fw ps e1) ?_ ?_
    · refine ⟨?_, ?_, ?_, ?_, ?_, ?_, ?_, ?_, ?_, ?_, ?_, ?_, ?_, ?_, ?_, trivial⟩
      · intro f wA hb _ K hK
        simp only [over, overL, Nat.reduceAdd]
        go_simp
        exact hK _ _ ⟨_, rfl, by simp only [over, overL, Nat.reduceAdd]; rfl, Below.refl _ _⟩
      · intro f wA hb ⟨h41, _⟩ K hK
        replace h41 : f 41 = _ := h41
        simp only [over, overL, Nat.reduceAdd, h41]
        go_simp
        exact hK _ _ ⟨_, rfl, by simp only [over, overL, Nat.reduceAdd, h41]; rfl, Below.refl _ _⟩
      · intro f wA hb ⟨h42, _⟩ K hK
        replace h42 : f 42 = _ := h42
        simp only [over, overL, Nat.reduceAdd, h42]
        go_simp
        exact hK _ _ ⟨_, rfl, by simp only [over, overL, Nat.reduceAdd, h42]; rfl, Below.refl _ _⟩
      · intro f wA hb ⟨h43, _⟩ K hK
        replace h43 : f 43 = _ := h43
        have q4 := (KB2.out.later hb).c 4 rfl
        simp only [over, overL, Nat.reduceAdd, h43]
        go_simp
        exact hK _ _ ⟨_, rfl, by simp only [over, overL, Nat.reduceAdd, h43]; rfl, Below.refl _ _⟩
      · intro f wA hb _ K hK
        simp only [over, overL, Nat.reduceAdd]
        go_simp
        exact hK _ _ ⟨_, rfl, by simp only [over, overL, Nat.reduceAdd]; rfl, Below.refl _ _⟩
      · intro f wA hb ⟨h45, _⟩ K hK
        replace h45 : f 45 = _ := h45
        have q1 := (KA2.out.later hb).c 1 rfl
        have q2 := (KA2.out.later hb).c 2 rfl
        have q3 := (KA2.out.later hb).c 3 rfl
        simp only [over, overL, Nat.reduceAdd, h45]
        go_simp
        exact hK _ _ ⟨_, rfl, by simp only [over, overL, Nat.reduceAdd, h45]; rfl, Below.refl _ _⟩
      · intro f wA hb ⟨h44, h46, _⟩ K hK
        replace h44 : f 44 = _ := h44
        replace h46 : f 46 = _ := h46
        have ql := HLK.out wA hb
        simp only [over, overL, Nat.reduceAdd, h44, h46]
        go_simp
        exact hK _ _ ⟨_, rfl, by simp only [over, overL, Nat.reduceAdd, h44, h46]; rfl, Below.refl _ _⟩
      · intro f wA hb _ K hK
        simp only [over, overL, Nat.reduceAdd]
        go_simp
        exact hK _ _ ⟨_, rfl, by simp only [over, overL, Nat.reduceAdd]; rfl, Below.refl _ _⟩
      · intro f wA hb _ K hK
        simp only [over, overL, Nat.reduceAdd]
        go_simp
        exact hK _ _ ⟨_, rfl, by simp only [over, overL, Nat.reduceAdd]; rfl, Below.refl _ _⟩
      · intro f wA hb ⟨h47, h48, h49, _⟩ K hK
        replace h47 : f 47 = _ := h47
        replace h48 : f 48 = _ := h48
        replace h49 : f 49 = _ := h49
        simp only [over, overL, Nat.reduceAdd, h47, h48, h49]
        go_simp
        refine ((HTG.out wA hb).mono) ?_
        rintro e w2 ⟨x, rfl, ht, hb2⟩
        exact hK _ _ ⟨_, ht, by simp only [over, overL, Nat.reduceAdd, h47, h48, h49]; rfl, hb2⟩
      · intro f wA hb ⟨h50, _⟩ K hK
        simp only [over, overL, Nat.reduceAdd]
        go_simp
        exact hK _ _ ⟨_, h50, by simp only [over, overL, Nat.reduceAdd]; rfl, Below.refl _ _⟩
      · intro f wA hb ⟨h40, _⟩ K hK
        obtain ⟨x, h40, hx⟩ := h40
        simp only [over, overL, Nat.reduceAdd, h40]
        go_simp
        exact hK _ _ ⟨_, hx, by simp only [over, overL, Nat.reduceAdd, h40]; rfl, Below.refl _ _⟩
      · intro f wA hb ⟨h40, _⟩ K hK
        obtain ⟨x, h40, hx⟩ := h40
        simp only [over, overL, Nat.reduceAdd, h40]
        go_simp
        exact hK _ _ ⟨_, rfl, by simp only [over, overL, Nat.reduceAdd, h40]; rfl, Below.refl _ _⟩
      · intro f wA hb ⟨h51, _⟩ K hK
        simp only [over, overL, Nat.reduceAdd]
        go_simp
        exact hK _ _ ⟨_, h51, by simp only [over, overL, Nat.reduceAdd]; rfl, Below.refl _ _⟩
      · intro f wA hb ⟨h52, _⟩ K hK
        replace h52 : f 52 = _ := h52
        simp only [over, overL, Nat.reduceAdd, h52]
        go_simp
        exact hK _ _ ⟨_, rfl, by simp only [over, overL, Nat.reduceAdd, h52]; rfl, Below.refl _ _⟩
    intro f w3 hb hv
    have h6 : f 6 = _ := hv.2.2.2.2.2.2.2.2.2.2.2.2.2.2.1
    have h9 : Fr b m ps (f 9) w3 := hv.2.2.2.2.2.2.2.2.2.2.2.2.2.1
    obtain ⟨aof, capf, h9, hf⟩ := h9
    have HF3 : Hid (Flx b m w3 aof ps) := hf
    have HBn3 : Hid (Bn wB w3 ao cap l b m md s) := HBn2.out.next hb
    have KA3 : Hid (Bk w.heap.size (acl a) w3) := KA2.out.later hb
    have KB3 : Hid (Bk b (bcs ao cap l md m cw s aoH capH aoT capT) w3) := KB2.out.later hb
    have HH3 : Hid (Flx b m w3 aoH s.held) := HH2.out.next hb
    have HT3 : Hid (Txx b m w3 aoT s.touched) := HT2.out.next hb
    have HWM3 : Hid (WM w3 m wl) := HWM2.out.next hb
    have HFL3 : Hid (∀ x ∈ wl, Flx b m w3 x.2.1 x.2.2.2) := fun x hx => (HFL2.out x hx).next hb
    have HLS3 : Hid (Flx b m w3 aol ls) := HLS2.out.next hb
    clear HBn2 KA2 KB2 HH2 HT2 HWM2 HFL2 HLS2
    clear hv hb hf HTG HLK HFF2 HGS2
    simp only [List.drop, over, overL, Nat.reduceAdd, h6, h9]
    clear h6 h9
    go_wp2
    refine HKK.out _ _ ?_
    clear HKK
    by_cases h1 : e1 = 0
    case neg =>
      have h2 : (e1 == 0) = false := by simp [h1]
      have h3 : (e1 != 0) = true := by simp [h1]
      have HQ : Hid (putA l s a = (s, e1)) := by
        show _ = _
        simp only [putA, HA.out, HTP.out, HDQ.out, HWF.out, HTQ.out]
        simp [h1]
      clear h1
      go_wp2
      go_ret
      exact ⟨by rw [HQ.out]; rfl, by rw [HQ.out]; exact HBn3.out⟩
    subst h1
    have HQ : Hid (putA l s a = ({ s with wells := wset s.wells a.pl ps, held := ls }, 0)) := by
      show _ = _
      simp only [putA, HA.out, HTP.out, HDQ.out, HWF.out, HTQ.out]
      simp
    obtain ⟨hon, hfew⟩ := HBn3.out.once HWL.out
    have q0 := (KA3.out).c 0 rfl
    have q1 := (KA3.out).c 1 rfl
    have q2 := (KA3.out).c 2 rfl
    have q3 := (KA3.out).c 3 rfl
    have q4 := (KA3.out).c 4 rfl
    have q5 := (KA3.out).c 5 rfl
    have q6 := (KA3.out).c 6 rfl
    have q7 := (KA3.out).c 7 rfl
    go_wp2_with fail
    refine (keep_any b m _ _ _ _ _ _ _ _ _ _ _ wl a.pl aof capf ps w3 KB3.out HWM3.out hon hfew HP.out).mono ?_
    rintro e w5 ⟨rfl, hwm, hg⟩
    have HWM5 : Hid (WM w5 m (setH wl a.pl (aof, capf, ps))) := hwm
    have HG : Hid (w3.grownBy w5 (some m)) := hg
    have KB5 : Hid (Bk b (bcs ao cap l md m cw s aoH capH aoT capT) w5) := KB3.out.same hg.size (hg.block b KB3.out.1 (by simpa using HBn3.out.ne.1))
    clear hwm hg hon hfew q0 q1 q2 q3 q4 q5 q6 q7
    have k0 := (KB5.out).c 0 rfl
    have kf0 := (KB5.out).f 0 rfl
    have k1 := (KB5.out).c 1 rfl
    have kf1 := (KB5.out).f 1 rfl
    have k2 := (KB5.out).c 2 rfl
    have kf2 := (KB5.out).f 2 rfl
    have k3 := (KB5.out).c 3 rfl
    have kf3 := (KB5.out).f 3 rfl
    have k4 := (KB5.out).c 4 rfl
    have kf4 := (KB5.out).f 4 rfl
    have k5 := (KB5.out).c 5 rfl
    have kf5 := (KB5.out).f 5 rfl
    have k6 := (KB5.out).c 6 rfl
    have kf6 := (KB5.out).f 6 rfl
    have k7 := (KB5.out).c 7 rfl
    have kf7 := (KB5.out).f 7 rfl
    have k8 := (KB5.out).c 8 rfl
    have kf8 := (KB5.out).f 8 rfl
    have k9 := (KB5.out).c 9 rfl
    have kf9 := (KB5.out).f 9 rfl
    have k10 := (KB5.out).c 10 rfl
    have kf10 := (KB5.out).f 10 rfl
    have k11 := (KB5.out).c 11 rfl
    have kf11 := (KB5.out).f 11 rfl
    have lt5 := KB5.out.1
    go_wp2
    go_ret
    have hmay := (may_put HBn3.out.may (by rw [HQ.out] : (putA l s a).2 = 0)).1
    rw [HQ.out] at hmay ⊢
    have hbut : But b m w3 (w5.setCell ⟨b, 7, none⟩ (.slice aol ls.length capl)) := (but_grown HG.out).trans (but_set b m w5 7 _)
    have hmb : m ≠ b := fun e => HBn3.out.ne.1 e.symm
    exact ⟨rfl, HBn3.out.keptTo HWL.out HFL3.out hbut (HWM5.out.same (Below.heap_setCell w5 ⟨b, 7, none⟩ _ m hmb)) (HF3.out.but hbut) hmay rfl (cw := cw) (aoH := aol) (capH := capl) (aoT := aoT) (capT := capT) (KB5.out.put 7 _) (HLS3.out.but hbut) (HT3.out.but hbut)⟩
end Go.Proofs.YtjappkfhballhaaGreat
