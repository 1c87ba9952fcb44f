/- aim, tip, drop, warm, pass, shake walked. -/
import Derived.Test.YtjappkfhballhaaGreatMP
import Derived.Test.YtjappkfhballhaaGreatSeqE
namespace Go.Proofs.YtjappkfhballhaaGreat
open Go.RowKit

abbrev acl (a : Acn) : List Value := [.int .i64 a.kind, .int .i64 a.pl.1, .int .i64 a.pl.2.1, .int .i64 a.pl.2.2, .string a.label, .int .i64 a.vol, .int .i64 a.value, .int .i64 a.time]
theorem tips_few {l : List Sit} (hd : dchk l = 0) : (tipsL l).length ≤ 4608 := by
  have := tipsTo_length hd 12
  rw [tipsTo_all] at this
  omega
def amV (b B : Nat) (ao : Option Addr) (cap : Nat) (l : List Sit) (a : Acn) (d : Nat) (v : Value) (_ : World) : Prop :=
  match d with
  | 9 => v = .pointer (some ⟨b, 0, none⟩)
  | 10 => v = .pointer (some ⟨b, 0, none⟩)
  | 11 => v = .pointer (some ⟨b, 0, none⟩)
  | 12 => v = .agg #[.slice ao l.length cap, .int .i64 ((tipsL l).length : Int), .int .i64 (tipM l)]
  | 13 => v = .pointer (some ⟨B, 1, none⟩)
  | 14 => v = .agg #[.int .i64 a.pl.1, .int .i64 a.pl.2.1, .int .i64 a.pl.2.2]
  | 15 => v = .tuple #[.int .i64 (wellM l a.pl).1, .int .i64 (wellM l a.pl).2]
  | 8 => v = .tuple #[.int .i64 (wellM l a.pl).1, .int .i64 (wellM l a.pl).2]
  | 16 => v = .int .i64 (wellM l a.pl).1
  | 17 => v = .int .i64 (wellM l a.pl).2
  | 6 => v = .int .i64 (wellM l a.pl).1
  | 7 => v = .int .i64 (wellM l a.pl).2
  | _ => True
theorem amV_mono (b B : Nat) (ao : Option Addr) (cap : Nat) (l : List Sit) (a : Acn) (d : Nat) (v : Value) (w w' : World) (h : amV b B ao cap l a d v w) (_ : Below w.heap.size w w') : amV b B ao cap l a d v w' := h
set_option maxHeartbeats 3200000 in
set_option maxRecDepth 100000 in
theorem aim_any (wB w : World) (ao : Option Addr) (cap : Nat) (l : List Sit) (b m md : Nat) (s : Sta) (a : Acn) (hB : Bn wB w ao cap l b m md s) :
    Calls Tryz.prog 119 #[ptr b, av a] w fun e w' => e = .returned (.tuple #[.int .i64 (aimR l a).1, .int .i64 (aimR l a).2]) ∧ Below w.heap.size w w' := by
  have HBN : Hid (Bn wB w ao cap l b m md s) := hB
  clear hB
  obtain ⟨w0, hw0⟩ : ∃ w0, w0 = w.alloc (aobj a) := ⟨_, rfl⟩
  have b0 : Below w.heap.size w w0 := by rw [hw0]; exact (Below.refl _ _).alloc (Nat.le_refl _) _
  have KA : Hid (Bk w.heap.size (acl a) w0) := by show Bk _ _ _; rw [hw0]; exact Bk.new w (acl a) 33 w.heap.size rfl
  have HB0 : Hid (Bn wB w0 ao cap l b m md s) := HBN.out.next b0
  have HW0 : Hid (w0 = w.alloc (aobj a)) := hw0
  clear hw0 b0
  obtain ⟨cw, aoH, capH, aoT, capT, K, hh, ht⟩ := HB0.out.bk
  have KB : Hid (Bk b (bcs ao cap l md m cw s aoH capH aoT capT) w0) := K
  have HH : Hid (Flx b m w0 aoH s.held) := hh
  have HT : Hid (Txx b m w0 aoT s.touched) := ht
  have hbw : b < w.heap.size := by obtain ⟨_, _, _, _, _, K', _⟩ := HBN.out.bk; exact K'.1
  have hbn : b ≠ w.heap.size := by omega
  have lt0 := KB.out.1
  clear K hh ht
  have HBW : Hid (Below w.heap.size w w0) := by show Below _ _ _; rw [HW0.out]; exact (Below.refl _ _).alloc (Nat.le_refl _) _
  have HQ : Hid (aimR l a = if (wellM l a.pl).2 = 0 then (if inR 1 1000000000 a.vol = true then ((wellM l a.pl).1, 0) else ((wellM l a.pl).1, 2)) else wellM l a.pl) := rfl
  go_enter Tryz.func119, Tryz.ntmps119
  go_wp2_with fail
  rename_i KK hkk
  have HKK := (show Hid _ from hkk)
  clear hkk
  rw [← HW0.out]
  refine region_seqE 12 [false, false, false, false, false, false, true, true, true, true, true, true, true, true, true, true, true, true, false, false, false, false, false, false, false, false, false, false]
    [(9, [], none), (10, [9], none), (11, [10], none), (12, [11], none), (13, [], none), (14, [13], none), (15, [12, 14], none), (8, [15], none), (16, [8], none), (17, [8], none), (6, [16], none), (7, [17], none)]
    (amV b w.heap.size ao cap l a) (by kernel_rfl) (by kernel_rfl) (by kernel_rfl) (by kernel_rfl) (by kernel_rfl) (by decide) (amV_mono b w.heap.size ao cap l a) ?_ ?_
  · refine ⟨?_, ?_, ?_, ?_, ?_, ?_, ?_, ?_, ?_, ?_, ?_, ?_, trivial⟩
    · intro f w1 hb _ K hK
      simp only [over, overL, Nat.reduceAdd]
      go_simp
      exact hK _ _ ⟨_, rfl, by simp only [over, overL, Nat.reduceAdd]; rfl, Below.refl _ _⟩
    · intro f w1 hb ⟨h9, _⟩ K hK
      replace h9 : f 9 = _ := h9
      simp only [over, overL, Nat.reduceAdd, h9]
      go_simp
      exact hK _ _ ⟨_, rfl, by simp only [over, overL, Nat.reduceAdd, h9]; rfl, Below.refl _ _⟩
    · intro f w1 hb ⟨h10, _⟩ K hK
      replace h10 : f 10 = _ := h10
      simp only [over, overL, Nat.reduceAdd, h10]
      go_simp
      exact hK _ _ ⟨_, rfl, by simp only [over, overL, Nat.reduceAdd, h10]; rfl, Below.refl _ _⟩
    · intro f w1 hb ⟨h11, _⟩ K hK
      replace h11 : f 11 = _ := h11
      have q0 := (KB.out.later hb).c 0 rfl
      have q1 := (KB.out.later hb).c 1 rfl
      have q2 := (KB.out.later hb).c 2 rfl
      simp only [over, overL, Nat.reduceAdd, h11]
      go_simp
      exact hK _ _ ⟨_, rfl, by simp only [over, overL, Nat.reduceAdd, h11]; rfl, Below.refl _ _⟩
    · intro f w1 hb _ K hK
      simp only [over, overL, Nat.reduceAdd]
      go_simp
      exact hK _ _ ⟨_, rfl, by simp only [over, overL, Nat.reduceAdd]; rfl, Below.refl _ _⟩
    · intro f w1 hb ⟨h13, _⟩ K hK
      replace h13 : f 13 = _ := h13
      have q1 := (KA.out.later hb).c 1 rfl
      have q2 := (KA.out.later hb).c 2 rfl
      have q3 := (KA.out.later hb).c 3 rfl
      simp only [over, overL, Nat.reduceAdd, h13]
      go_simp
      exact hK _ _ ⟨_, rfl, by simp only [over, overL, Nat.reduceAdd, h13]; rfl, Below.refl _ _⟩
    · intro f w1 hb ⟨h12, h14, _⟩ K hK
      replace h12 : f 12 = _ := h12
      replace h14 : f 14 = _ := h14
      simp only [over, overL, Nat.reduceAdd, h12, h14]
      go_simp
      refine (wellMost_any ao cap l a.pl w1 (HB0.out.next hb).dkw HB0.out.hd).mono ?_
      rintro e w2 ⟨rfl, hb2⟩
      exact hK _ _ ⟨_, rfl, by simp only [over, overL, Nat.reduceAdd, h12, h14]; rfl, hb2⟩
    · intro f w1 hb ⟨h15, _⟩ K hK
      replace h15 : f 15 = _ := h15
      simp only [over, overL, Nat.reduceAdd, h15]
      go_simp
      exact hK _ _ ⟨_, rfl, by simp only [over, overL, Nat.reduceAdd, h15]; rfl, Below.refl _ _⟩
    · intro f w1 hb ⟨h8, _⟩ K hK
      replace h8 : f 8 = _ := h8
      simp only [over, overL, Nat.reduceAdd, h8]
      go_simp
      exact hK _ _ ⟨_, rfl, by simp only [over, overL, Nat.reduceAdd, h8]; rfl, Below.refl _ _⟩
    · intro f w1 hb ⟨h8, _⟩ K hK
      replace h8 : f 8 = _ := h8
      simp only [over, overL, Nat.reduceAdd, h8]
      go_simp
      exact hK _ _ ⟨_, rfl, by simp only [over, overL, Nat.reduceAdd, h8]; rfl, Below.refl _ _⟩
    · intro f w1 hb ⟨h16, _⟩ K hK
      replace h16 : f 16 = _ := h16
      simp only [over, overL, Nat.reduceAdd, h16]
      go_simp
      exact hK _ _ ⟨_, rfl, by simp only [over, overL, Nat.reduceAdd, h16]; rfl, Below.refl _ _⟩
    · intro f w1 hb ⟨h17, _⟩ K hK
      replace h17 : f 17 = _ := h17
      simp only [over, overL, Nat.reduceAdd, h17]
      go_simp
      exact hK _ _ ⟨_, rfl, by simp only [over, overL, Nat.reduceAdd, h17]; rfl, Below.refl _ _⟩
  intro f w1 hb hv
  have h6 : f 6 = _ := hv.2.2.2.2.2.2.2.2.2.2.1
  have h7 : f 7 = _ := hv.2.2.2.2.2.2.2.2.2.2.2.1
  have KA1 : Hid (Bk w.heap.size (acl a) w1) := KA.out.later hb
  have HB1 : Hid (Below w.heap.size w w1) := HBW.out.trans (hb.mono HBW.out.size)
  clear hv hb
  simp only [List.drop, over, overL, Nat.reduceAdd, h6, h7]
  clear h6 h7
  go_wp2
  refine HKK.out _ _ ?_
  have q0 := (KA1.out).c 0 rfl
  have q1 := (KA1.out).c 1 rfl
  have q2 := (KA1.out).c 2 rfl
  have q3 := (KA1.out).c 3 rfl
  have q4 := (KA1.out).c 4 rfl
  have q5 := (KA1.out).c 5 rfl
  have q6 := (KA1.out).c 6 rfl
  have q7 := (KA1.out).c 7 rfl
  obtain ⟨⟨mo, e0⟩, hM⟩ : ∃ x, wellM l a.pl = x := ⟨_, rfl⟩
  rw [hM] at HQ ⊢
  simp only at HQ ⊢
  clear hM
  by_cases he : e0 = 0
  · subst he
    cases hv : inR 1 1000000000 a.vol with
    | true =>
      have HQ2 : Hid (aimR l a = (mo, 0)) := by show _ = _; rw [HQ.out, if_pos rfl, if_pos hv]
      go_wp2_with fail
      refine (mwithin_any 1 a.vol 1000000000 w1).mono ?_
      rintro e w2 ⟨rfl, rfl⟩
      rw [hv]
      go_wp2
      go_ret2
      exact ⟨by rw [HQ2.out]; rfl, HB1.out⟩
    | false =>
      have HQ2 : Hid (aimR l a = (mo, 2)) := by show _ = _; rw [HQ.out, if_pos rfl, if_neg (by rw [hv]; decide)]
      go_wp2_with fail
      refine (mwithin_any 1 a.vol 1000000000 w1).mono ?_
      rintro e w2 ⟨rfl, rfl⟩
      rw [hv]
      go_wp2
      go_ret2
      exact ⟨by rw [HQ2.out]; rfl, HB1.out⟩
  · have he2 : (e0 == 0) = false := by simp [he]
    have HQ2 : Hid (aimR l a = (mo, e0)) := by show _ = _; rw [HQ.out, if_neg he]
    clear he
    go_wp2
    go_ret2
    exact ⟨by rw [HQ2.out]; rfl, HB1.out⟩
theorem bn_tip {wB w : World} {ao : Option Addr} {cap : Nat} {l : List Sit} {b m md : Nat} {s : Sta} (h : Bn wB w ao cap l b m md s) (hq : tipA l s = ({ s with tip := true, used := s.used + 1 }, 0)) : Bn wB (((w).setCell ⟨b, 6, none⟩ (.bool true)).setCell ⟨b, 9, none⟩ (.int .i64 (s.used + 1))) ao cap l b m md (tipA l s).1 := by
  obtain ⟨cw, aoH, capH, aoT, capT, K, hh, ht⟩ := h.bk
  have hbut : But b m w (((w).setCell ⟨b, 6, none⟩ (.bool true)).setCell ⟨b, 9, none⟩ (.int .i64 (s.used + 1))) := (but_set b m (w) 6 (.bool true)).trans (but_set b m ((w).setCell ⟨b, 6, none⟩ (.bool true)) 9 (.int .i64 (s.used + 1)))
  obtain ⟨wl, hwm, hwl, hfl⟩ := h.wells
  have hmb : m ≠ b := fun e => h.ne.1 e.symm
  have hmay := (may_tip h.hd h.may (by rw [hq])).1
  rw [hq] at hmay ⊢
  have hwm2 : WM (((w).setCell ⟨b, 6, none⟩ (.bool true)).setCell ⟨b, 9, none⟩ (.int .i64 (s.used + 1))) m wl := hwm.same ((Below.heap_setCell ((w).setCell ⟨b, 6, none⟩ (.bool true)) ⟨b, 9, none⟩ (.int .i64 (s.used + 1)) m hmb).trans (Below.heap_setCell (w) ⟨b, 6, none⟩ (.bool true) m hmb))
  exact h.turned hbut hmay hwm2 hwl (fun x hx => (hfl x hx).but hbut) (cw := cw) (aoH := aoH) (capH := capH) (aoT := aoT) (capT := capT) (((K).put 6 (.bool true)).put 9 (.int .i64 (s.used + 1))) (hh.but hbut) (ht.but hbut)
theorem bn_drop {wB w : World} {ao : Option Addr} {cap : Nat} {l : List Sit} {b m md : Nat} {s : Sta} (h : Bn wB w ao cap l b m md s) (hq : dropA s = ({ s with tip := false, held := [], touched := [] }, 0)) : Bn wB ((((w).setCell ⟨b, 6, none⟩ (.bool false)).setCell ⟨b, 7, none⟩ (.slice none 0 0)).setCell ⟨b, 8, none⟩ (.slice none 0 0)) ao cap l b m md (dropA s).1 := by
  obtain ⟨cw, aoH, capH, aoT, capT, K, hh, ht⟩ := h.bk
  have hbut : But b m w ((((w).setCell ⟨b, 6, none⟩ (.bool false)).setCell ⟨b, 7, none⟩ (.slice none 0 0)).setCell ⟨b, 8, none⟩ (.slice none 0 0)) := ((but_set b m (w) 6 (.bool false)).trans (but_set b m ((w).setCell ⟨b, 6, none⟩ (.bool false)) 7 (.slice none 0 0))).trans (but_set b m (((w).setCell ⟨b, 6, none⟩ (.bool false)).setCell ⟨b, 7, none⟩ (.slice none 0 0)) 8 (.slice none 0 0))
  obtain ⟨wl, hwm, hwl, hfl⟩ := h.wells
  have hmb : m ≠ b := fun e => h.ne.1 e.symm
  have hmay := (may_drop h.may (by rw [hq])).1
  rw [hq] at hmay ⊢
  have hwm2 : WM ((((w).setCell ⟨b, 6, none⟩ (.bool false)).setCell ⟨b, 7, none⟩ (.slice none 0 0)).setCell ⟨b, 8, none⟩ (.slice none 0 0)) m wl := hwm.same ((Below.heap_setCell (((w).setCell ⟨b, 6, none⟩ (.bool false)).setCell ⟨b, 7, none⟩ (.slice none 0 0)) ⟨b, 8, none⟩ (.slice none 0 0) m hmb).trans ((Below.heap_setCell ((w).setCell ⟨b, 6, none⟩ (.bool false)) ⟨b, 7, none⟩ (.slice none 0 0) m hmb).trans (Below.heap_setCell (w) ⟨b, 6, none⟩ (.bool false) m hmb)))
  exact h.turned hbut hmay hwm2 hwl (fun x hx => (hfl x hx).but hbut) (cw := cw) (aoH := none) (capH := 0) (aoT := none) (capT := 0) ((((K).put 6 (.bool false)).put 7 (.slice none 0 0)).put 8 (.slice none 0 0)) ⟨⟨fun p hp => (by simp at hp), .inl rfl⟩, .inl rfl⟩ ⟨⟨fun p hp => (by simp at hp), .inl rfl⟩, .inl rfl⟩
theorem bn_warm {wB w : World} {ao : Option Addr} {cap : Nat} {l : List Sit} {b m md : Nat} {s : Sta} {a : Acn} (h : Bn wB w ao cap l b m md s) (hq : warmA s a = ({ s with heat := a.value }, 0)) : Bn wB ((w).setCell ⟨b, 10, none⟩ (.int .i64 a.value)) ao cap l b m md (warmA s a).1 := by
  obtain ⟨cw, aoH, capH, aoT, capT, K, hh, ht⟩ := h.bk
  have hbut : But b m w ((w).setCell ⟨b, 10, none⟩ (.int .i64 a.value)) := but_set b m (w) 10 (.int .i64 a.value)
  obtain ⟨wl, hwm, hwl, hfl⟩ := h.wells
  have hmb : m ≠ b := fun e => h.ne.1 e.symm
  have hmay := (may_warm h.may (by rw [hq])).1
  rw [hq] at hmay ⊢
  have hwm2 : WM ((w).setCell ⟨b, 10, none⟩ (.int .i64 a.value)) m wl := hwm.same (Below.heap_setCell (w) ⟨b, 10, none⟩ (.int .i64 a.value) m hmb)
  exact h.turned hbut hmay hwm2 hwl (fun x hx => (hfl x hx).but hbut) (cw := cw) (aoH := aoH) (capH := capH) (aoT := aoT) (capT := capT) ((K).put 10 (.int .i64 a.value)) (hh.but hbut) (ht.but hbut)
theorem bn_pass {wB w : World} {ao : Option Addr} {cap : Nat} {l : List Sit} {b m md : Nat} {s : Sta} {a : Acn} (h : Bn wB w ao cap l b m md s) (hq : passA s a = ({ s with clock := s.clock + a.time }, 0)) : Bn wB ((w).setCell ⟨b, 11, none⟩ (.int .i64 (s.clock + a.time))) ao cap l b m md (passA s a).1 := by
  obtain ⟨cw, aoH, capH, aoT, capT, K, hh, ht⟩ := h.bk
  have hbut : But b m w ((w).setCell ⟨b, 11, none⟩ (.int .i64 (s.clock + a.time))) := but_set b m (w) 11 (.int .i64 (s.clock + a.time))
  obtain ⟨wl, hwm, hwl, hfl⟩ := h.wells
  have hmb : m ≠ b := fun e => h.ne.1 e.symm
  have hmay := (may_pass h.may (by rw [hq])).1
  rw [hq] at hmay ⊢
  have hwm2 : WM ((w).setCell ⟨b, 11, none⟩ (.int .i64 (s.clock + a.time))) m wl := hwm.same (Below.heap_setCell (w) ⟨b, 11, none⟩ (.int .i64 (s.clock + a.time)) m hmb)
  exact h.turned hbut hmay hwm2 hwl (fun x hx => (hfl x hx).but hbut) (cw := cw) (aoH := aoH) (capH := capH) (aoT := aoT) (capT := capT) ((K).put 11 (.int .i64 (s.clock + a.time))) (hh.but hbut) (ht.but hbut)
set_option maxHeartbeats 3200000 in
set_option maxRecDepth 100000 in
theorem tip_any (wB w : World) (ao : Option Addr) (cap : Nat) (l : List Sit) (b m md : Nat) (s : Sta) (a : Acn) (hB : Bn wB w ao cap l b m md s) :
    Calls Tryz.prog 98 #[ptr b, av a] w fun e w' => e = .returned (.int .i64 (tipA l s).2) ∧ Bn wB w' ao cap l b m md (tipA l s).1 := by
  have HBN : Hid (Bn wB w ao cap l b m md s) := hB
  have HB0 : Hid (Bn wB (w.alloc (aobj a)) ao cap l b m md s) := hB.next ((Below.refl _ _).alloc (Nat.le_refl _) _)
  clear hB
  obtain ⟨cw, aoH, capH, aoT, capT, K, hh, ht⟩ := HBN.out.bk
  have KB : Hid (Bk b (bcs ao cap l md m cw s aoH capH aoT capT) w) := K
  have hbw := KB.out.1
  have hbn : b ≠ w.heap.size := by omega
  clear K hh ht
  have hfew := tips_few HB0.out.hd
  cases htp : s.tip with
  | true =>
    have HQ : Hid (tipA l s = (s, 12)) := by show _ = _; unfold tipA; rw [if_pos htp]
    have k0 := (KB.out).c 0 rfl
    have k1 := (KB.out).c 1 rfl
    have k2 := (KB.out).c 2 rfl
    have k3 := (KB.out).c 3 rfl
    have k4 := (KB.out).c 4 rfl
    have k5 := (KB.out).c 5 rfl
    have k6 := (KB.out).c 6 rfl
    have k7 := (KB.out).c 7 rfl
    have k8 := (KB.out).c 8 rfl
    have k9 := (KB.out).c 9 rfl
    have k10 := (KB.out).c 10 rfl
    have k11 := (KB.out).c 11 rfl
    rw [htp] at k6
    go_enter Tryz.func98, Tryz.ntmps98
    go_wp2
    go_ret
    exact ⟨by rw [HQ.out]; rfl, by rw [HQ.out]; exact HB0.out⟩
  | false =>
    have htk := HB0.out.may.take
    unfold mayTake at htk
    rw [if_neg (by rw [htp]; decide)] at htk
    simp only [Bool.and_eq_true, inR_iff] at htk
    have u0 := htk.1.1
    have u1 := htk.1.2
    clear htk
    by_cases hu : ((tipsL l).length : Int) ≤ s.used
    · have HQ : Hid (tipA l s = (s, 19)) := by show _ = _; unfold tipA; rw [if_neg (by rw [htp]; decide), if_pos hu]
      have hd : decide (((tipsL l).length : Int) ≤ s.used) = true := decide_eq_true hu
      have k0 := (KB.out).c 0 rfl
      have k1 := (KB.out).c 1 rfl
      have k2 := (KB.out).c 2 rfl
      have k3 := (KB.out).c 3 rfl
      have k4 := (KB.out).c 4 rfl
      have k5 := (KB.out).c 5 rfl
      have k6 := (KB.out).c 6 rfl
      have k7 := (KB.out).c 7 rfl
      have k8 := (KB.out).c 8 rfl
      have k9 := (KB.out).c 9 rfl
      have k10 := (KB.out).c 10 rfl
      have k11 := (KB.out).c 11 rfl
      rw [htp] at k6
      clear hu
      go_enter Tryz.func98, Tryz.ntmps98
      go_wp2_with fail
      go_big_quiet (fail)
      go_wp2
      go_ret
      exact ⟨by rw [HQ.out]; rfl, by rw [HQ.out]; exact HB0.out.next (blw_drewN (Below.refl _ _) _)⟩
    · have HQ : Hid (tipA l s = ({ s with tip := true, used := s.used + 1 }, 0)) := by show _ = _; unfold tipA; rw [if_neg (by rw [htp]; decide), if_neg hu]
      have hd : decide (((tipsL l).length : Int) ≤ s.used) = false := decide_eq_false hu
      have k0 := (KB.out).c 0 rfl
      have kf0 := (KB.out).f 0 rfl
      have k1 := (KB.out).c 1 rfl
      have kf1 := (KB.out).f 1 rfl
      have k2 := (KB.out).c 2 rfl
      have kf2 := (KB.out).f 2 rfl
      have k3 := (KB.out).c 3 rfl
      have kf3 := (KB.out).f 3 rfl
      have k4 := (KB.out).c 4 rfl
      have kf4 := (KB.out).f 4 rfl
      have k5 := (KB.out).c 5 rfl
      have kf5 := (KB.out).f 5 rfl
      have k6 := (KB.out).c 6 rfl
      have kf6 := (KB.out).f 6 rfl
      have k7 := (KB.out).c 7 rfl
      have kf7 := (KB.out).f 7 rfl
      have k8 := (KB.out).c 8 rfl
      have kf8 := (KB.out).f 8 rfl
      have k9 := (KB.out).c 9 rfl
      have kf9 := (KB.out).f 9 rfl
      have k10 := (KB.out).c 10 rfl
      have kf10 := (KB.out).f 10 rfl
      have k11 := (KB.out).c 11 rfl
      have kf11 := (KB.out).f 11 rfl
      rw [htp] at k6
      have hu2 : s.used < ((tipsL l).length : Int) := by omega
      have hwr : IntKind.i64.wrap (s.used + 1) = s.used + 1 := wrap_in (by omega) (by omega)
      clear hu
      go_enter Tryz.func98, Tryz.ntmps98
      go_wp2_with fail
      go_big_quiet (fail)
      go_wp2
      go_ret
      exact ⟨by rw [HQ.out]; rfl, bn_tip (HB0.out.next (blw_drewN (Below.refl _ _) _)) HQ.out⟩
set_option maxHeartbeats 3200000 in
set_option maxRecDepth 100000 in
theorem drop_any (wB w : World) (ao : Option Addr) (cap : Nat) (l : List Sit) (b m md : Nat) (s : Sta) (a : Acn) (hB : Bn wB w ao cap l b m md s) :
    Calls Tryz.prog 99 #[ptr b, av a] w fun e w' => e = .returned (.int .i64 (dropA s).2) ∧ Bn wB w' ao cap l b m md (dropA s).1 := by
  have HBN : Hid (Bn wB w ao cap l b m md s) := hB
  have HB0 : Hid (Bn wB (w.alloc (aobj a)) ao cap l b m md s) := hB.next ((Below.refl _ _).alloc (Nat.le_refl _) _)
  clear hB
  obtain ⟨cw, aoH, capH, aoT, capT, K, hh, ht⟩ := HBN.out.bk
  have KB : Hid (Bk b (bcs ao cap l md m cw s aoH capH aoT capT) w) := K
  have hbw := KB.out.1
  have hbn : b ≠ w.heap.size := by omega
  clear K hh ht
  cases htp : s.tip with
  | false =>
    have HQ : Hid (dropA s = (s, 12)) := by show _ = _; unfold dropA; rw [if_neg (by rw [htp]; decide)]
    have k0 := (KB.out).c 0 rfl
    have k1 := (KB.out).c 1 rfl
    have k2 := (KB.out).c 2 rfl
    have k3 := (KB.out).c 3 rfl
    have k4 := (KB.out).c 4 rfl
    have k5 := (KB.out).c 5 rfl
    have k6 := (KB.out).c 6 rfl
    have k7 := (KB.out).c 7 rfl
    have k8 := (KB.out).c 8 rfl
    have k9 := (KB.out).c 9 rfl
    have k10 := (KB.out).c 10 rfl
    have k11 := (KB.out).c 11 rfl
    rw [htp] at k6
    go_enter Tryz.func99, Tryz.ntmps99
    go_wp2
    go_ret
    exact ⟨by rw [HQ.out]; rfl, by rw [HQ.out]; exact HB0.out⟩
  | true =>
    have HQ : Hid (dropA s = ({ s with tip := false, held := [], touched := [] }, 0)) := by show _ = _; unfold dropA; rw [if_pos htp]
    have k0 := (KB.out).c 0 rfl
    have kf0 := (KB.out).f 0 rfl
    have k1 := (KB.out).c 1 rfl
    have kf1 := (KB.out).f 1 rfl
    have k2 := (KB.out).c 2 rfl
    have kf2 := (KB.out).f 2 rfl
    have k3 := (KB.out).c 3 rfl
    have kf3 := (KB.out).f 3 rfl
    have k4 := (KB.out).c 4 rfl
    have kf4 := (KB.out).f 4 rfl
    have k5 := (KB.out).c 5 rfl
    have kf5 := (KB.out).f 5 rfl
    have k6 := (KB.out).c 6 rfl
    have kf6 := (KB.out).f 6 rfl
    have k7 := (KB.out).c 7 rfl
    have kf7 := (KB.out).f 7 rfl
    have k8 := (KB.out).c 8 rfl
    have kf8 := (KB.out).f 8 rfl
    have k9 := (KB.out).c 9 rfl
    have kf9 := (KB.out).f 9 rfl
    have k10 := (KB.out).c 10 rfl
    have kf10 := (KB.out).f 10 rfl
    have k11 := (KB.out).c 11 rfl
    have kf11 := (KB.out).f 11 rfl
    rw [htp] at k6
    go_enter Tryz.func99, Tryz.ntmps99
    go_wp2
    go_ret
    refine ⟨by rw [HQ.out]; rfl, ?_⟩
    first | exact bn_drop HB0.out HQ.out | exact (bn_drop HBN.out HQ.out).next ((Below.refl _ _).alloc (by simp [World.setCell]) _)
set_option maxHeartbeats 3200000 in
set_option maxRecDepth 100000 in
theorem warm_any (wB w : World) (ao : Option Addr) (cap : Nat) (l : List Sit) (b m md : Nat) (s : Sta) (a : Acn) (hB : Bn wB w ao cap l b m md s) :
    Calls Tryz.prog 102 #[ptr b, av a] w fun e w' => e = .returned (.int .i64 (warmA s a).2) ∧ Bn wB w' ao cap l b m md (warmA s a).1 := by
  have HBN : Hid (Bn wB w ao cap l b m md s) := hB
  have HB0 : Hid (Bn wB (w.alloc (aobj a)) ao cap l b m md s) := hB.next ((Below.refl _ _).alloc (Nat.le_refl _) _)
  clear hB
  obtain ⟨cw, aoH, capH, aoT, capT, K, hh, ht⟩ := HBN.out.bk
  have KB : Hid (Bk b (bcs ao cap l md m cw s aoH capH aoT capT) w) := K
  have hbw := KB.out.1
  have hbn : b ≠ w.heap.size := by omega
  clear K hh ht
  have KA : Hid (Bk w.heap.size (acl a) (w.alloc (aobj a))) := by exact Bk.new w (acl a) 33 w.heap.size rfl
  cases hv : inR 0 1000000000 a.value with
  | false =>
    have HQ : Hid (warmA s a = (s, 2)) := by show _ = _; unfold warmA; rw [if_neg (by rw [hv]; decide)]
    go_enter Tryz.func102, Tryz.ntmps102
    go_wp2_with fail
    refine (mwithin_any 0 a.value 1000000000 _).mono ?_
    rintro e w2 ⟨rfl, rfl⟩
    rw [hv]
    go_wp2
    go_ret
    exact ⟨by rw [HQ.out]; rfl, by rw [HQ.out]; exact HB0.out⟩
  | true =>
    have HQ : Hid (warmA s a = ({ s with heat := a.value }, 0)) := by show _ = _; unfold warmA; rw [if_pos hv]
    have k0 := (KB.out).c 0 rfl
    have kf0 := (KB.out).f 0 rfl
    have k1 := (KB.out).c 1 rfl
    have kf1 := (KB.out).f 1 rfl
    have k2 := (KB.out).c 2 rfl
    have kf2 := (KB.out).f 2 rfl
    have k3 := (KB.out).c 3 rfl
    have kf3 := (KB.out).f 3 rfl
    have k4 := (KB.out).c 4 rfl
    have kf4 := (KB.out).f 4 rfl
    have k5 := (KB.out).c 5 rfl
    have kf5 := (KB.out).f 5 rfl
    have k6 := (KB.out).c 6 rfl
    have kf6 := (KB.out).f 6 rfl
    have k7 := (KB.out).c 7 rfl
    have kf7 := (KB.out).f 7 rfl
    have k8 := (KB.out).c 8 rfl
    have kf8 := (KB.out).f 8 rfl
    have k9 := (KB.out).c 9 rfl
    have kf9 := (KB.out).f 9 rfl
    have k10 := (KB.out).c 10 rfl
    have kf10 := (KB.out).f 10 rfl
    have k11 := (KB.out).c 11 rfl
    have kf11 := (KB.out).f 11 rfl
    go_enter Tryz.func102, Tryz.ntmps102
    go_wp2_with fail
    refine (mwithin_any 0 a.value 1000000000 _).mono ?_
    rintro e w2 ⟨rfl, rfl⟩
    rw [hv]
    go_wp2
    go_ret
    refine ⟨by rw [HQ.out]; rfl, ?_⟩
    first | exact bn_warm (a := a) HB0.out HQ.out | exact (bn_warm (a := a) HBN.out HQ.out).next ((Below.refl _ _).alloc (by simp [World.setCell]) _)
def psV (b B : Nat) (s : Sta) (a : Acn) (d : Nat) (v : Value) (_ : World) : Prop :=
  match d with
  | 18 => v = .pointer (some ⟨b, 0, none⟩)
  | 19 => v = .pointer (some ⟨b, 0, none⟩)
  | 20 => v = .pointer (some ⟨b, 5, none⟩)
  | 21 => v = .pointer (some ⟨b, 11, none⟩)
  | 22 => v = .int .i64 s.clock
  | 23 => v = .pointer (some ⟨B, 7, none⟩)
  | 24 => v = .int .i64 a.time
  | 25 => v = .int .i64 (s.clock + a.time)
  | _ => True
theorem psV_mono (b B : Nat) (s : Sta) (a : Acn) (d : Nat) (v : Value) (w w' : World) (h : psV b B s a d v w) (_ : Below w.heap.size w w') : psV b B s a d v w' := h
set_option maxHeartbeats 3200000 in
set_option maxRecDepth 100000 in
theorem pass_any (wB w : World) (ao : Option Addr) (cap : Nat) (l : List Sit) (b m md : Nat) (s : Sta) (a : Acn) (hB : Bn wB w ao cap l b m md s) :
    Calls Tryz.prog 103 #[ptr b, av a] w fun e w' => e = .returned (.int .i64 (passA s a).2) ∧ Bn wB w' ao cap l b m md (passA s a).1 := by
  have HBN : Hid (Bn wB w ao cap l b m md s) := hB
  have HB0 : Hid (Bn wB (w.alloc (aobj a)) ao cap l b m md s) := hB.next ((Below.refl _ _).alloc (Nat.le_refl _) _)
  clear hB
  obtain ⟨cw, aoH, capH, aoT, capT, K, hh, ht⟩ := HBN.out.bk
  have KB : Hid (Bk b (bcs ao cap l md m cw s aoH capH aoT capT) w) := K
  have hbw := KB.out.1
  have hbn : b ≠ w.heap.size := by omega
  clear K hh ht
  cases hv : inR 0 1000000000 a.time with
  | false =>
    have HQ : Hid (passA s a = (s, 2)) := by show _ = _; unfold passA; rw [if_neg (by rw [hv]; decide)]
    go_enter Tryz.func103, Tryz.ntmps103
    go_wp2_with fail
    refine (mwithin_any 0 a.time 1000000000 _).mono ?_
    rintro e w2 ⟨rfl, rfl⟩
    rw [hv]
    go_wp2
    go_ret
    exact ⟨by rw [HQ.out]; rfl, by rw [HQ.out]; exact HB0.out⟩
  | true =>
    have hcl := HBN.out.may.clock
    have hti := inR_iff.1 hv
    have hwr : IntKind.i64.wrap (s.clock + a.time) = s.clock + a.time := wrap_in (by omega) (by omega)
    by_cases hu : 1000000000 < s.clock + a.time
    · have HQ : Hid (passA s a = (s, 8)) := by show _ = _; unfold passA; rw [if_pos hv, if_pos hu]
      have hd : decide (1000000000 < s.clock + a.time) = true := decide_eq_true hu
      have k0 := (KB.out).c 0 rfl
      have k1 := (KB.out).c 1 rfl
      have k2 := (KB.out).c 2 rfl
      have k3 := (KB.out).c 3 rfl
      have k4 := (KB.out).c 4 rfl
      have k5 := (KB.out).c 5 rfl
      have k6 := (KB.out).c 6 rfl
      have k7 := (KB.out).c 7 rfl
      have k8 := (KB.out).c 8 rfl
      have k9 := (KB.out).c 9 rfl
      have k10 := (KB.out).c 10 rfl
      have k11 := (KB.out).c 11 rfl
      clear hu hcl hti
      go_enter Tryz.func103, Tryz.ntmps103
      go_wp2_with fail
      refine (mwithin_any 0 a.time 1000000000 _).mono ?_
      rintro e w2 ⟨rfl, rfl⟩
      rw [hv]
      go_wp2_with fail
      go_big_quiet (fail)
      go_wp2
      go_ret
      exact ⟨by rw [HQ.out]; rfl, by rw [HQ.out]; exact HB0.out.next (blw_drewN (Below.refl _ _) _)⟩
    · have HQ : Hid (passA s a = ({ s with clock := s.clock + a.time }, 0)) := by show _ = _; unfold passA; rw [if_pos hv, if_neg hu]
      have hd : decide (1000000000 < s.clock + a.time) = false := decide_eq_false hu
      have HWR : Hid (IntKind.i64.wrap (s.clock + a.time) = s.clock + a.time) := hwr
      have k0 := (KB.out).c 0 rfl
      have k1 := (KB.out).c 1 rfl
      have k2 := (KB.out).c 2 rfl
      have k3 := (KB.out).c 3 rfl
      have k4 := (KB.out).c 4 rfl
      have k5 := (KB.out).c 5 rfl
      have k6 := (KB.out).c 6 rfl
      have k7 := (KB.out).c 7 rfl
      have k8 := (KB.out).c 8 rfl
      have k9 := (KB.out).c 9 rfl
      have k10 := (KB.out).c 10 rfl
      have k11 := (KB.out).c 11 rfl
      clear hu hcl hti
      go_enter Tryz.func103, Tryz.ntmps103
      go_wp2_with fail
      refine (mwithin_any 0 a.time 1000000000 _).mono ?_
      rintro e w2 ⟨rfl, rfl⟩
      rw [hv]
      go_wp2_with fail
      go_big_quiet (fail)
      go_wp2_with fail
      rename_i KK hkk
      have HKK := (show Hid _ from hkk)
      clear hkk
      have KB0 : Hid (Bk b (bcs ao cap l md m cw s aoH capH aoT capT) (w.alloc (aobj a))) := KB.out.later ((Below.refl _ _).alloc (Nat.le_refl _) _)
      have KA0 : Hid (Bk w.heap.size (acl a) (w.alloc (aobj a))) := by exact Bk.new w (acl a) 33 w.heap.size rfl
      generalize hw3 : World.drewN (w.alloc (aobj a)) _ = w3
      have hb3 : Below (w.alloc (aobj a)).heap.size (w.alloc (aobj a)) w3 := by rw [← hw3]; exact blw_drewN (Below.refl _ _) _
      have KB1 : Hid (Bk b (bcs ao cap l md m cw s aoH capH aoT capT) w3) := KB0.out.later hb3
      have KA1 : Hid (Bk w.heap.size (acl a) w3) := KA0.out.later hb3
      have HB3 : Hid (Bn wB w3 ao cap l b m md s) := HB0.out.next hb3
      clear hw3 hb3 k0 k1 k2 k3 k4 k5 k6 k7 k8 k9 k10 k11
      refine region_seq 8 [false, false, false, false, false, false, false, false, false, false, false, false, false, false, false, false, false, false, true, true, true, true, true, true, true, true, false, false, false]
        [(18, [], none), (19, [18], none), (20, [19], none), (21, [20], none), (22, [21], none), (23, [], none), (24, [23], none), (25, [22, 24], none)]
        (psV b w.heap.size s a) (by kernel_rfl) (by kernel_rfl) (by kernel_rfl) (by kernel_rfl) (by kernel_rfl) (by decide) (psV_mono b w.heap.size s a) ?_ ?_
      · refine ⟨?_, ?_, ?_, ?_, ?_, ?_, ?_, ?_, trivial⟩
        · intro f w1 hb _ K hK
          simp only [over, overL, Nat.reduceAdd]
          go_simp
          exact hK _ _ ⟨_, rfl, by simp only [over, overL, Nat.reduceAdd]; rfl, Below.refl _ _⟩
        · intro f w1 hb ⟨h18, _⟩ K hK
          replace h18 : f 18 = _ := h18
          simp only [over, overL, Nat.reduceAdd, h18]
          go_simp
          exact hK _ _ ⟨_, rfl, by simp only [over, overL, Nat.reduceAdd, h18]; rfl, Below.refl _ _⟩
        · intro f w1 hb ⟨h19, _⟩ K hK
          replace h19 : f 19 = _ := h19
          simp only [over, overL, Nat.reduceAdd, h19]
          go_simp
          exact hK _ _ ⟨_, rfl, by simp only [over, overL, Nat.reduceAdd, h19]; rfl, Below.refl _ _⟩
        · intro f w1 hb ⟨h20, _⟩ K hK
          replace h20 : f 20 = _ := h20
          simp only [over, overL, Nat.reduceAdd, h20]
          go_simp
          exact hK _ _ ⟨_, rfl, by simp only [over, overL, Nat.reduceAdd, h20]; rfl, Below.refl _ _⟩
        · intro f w1 hb ⟨h21, _⟩ K hK
          replace h21 : f 21 = _ := h21
          have q11 := (KB1.out.later hb).c 11 rfl
          simp only [over, overL, Nat.reduceAdd, h21]
          go_simp
          exact hK _ _ ⟨_, rfl, by simp only [over, overL, Nat.reduceAdd, h21]; rfl, Below.refl _ _⟩
        · intro f w1 hb _ K hK
          simp only [over, overL, Nat.reduceAdd]
          go_simp
          exact hK _ _ ⟨_, rfl, by simp only [over, overL, Nat.reduceAdd]; rfl, Below.refl _ _⟩
        · intro f w1 hb ⟨h23, _⟩ K hK
          replace h23 : f 23 = _ := h23
          have q7 := (KA1.out.later hb).c 7 rfl
          simp only [over, overL, Nat.reduceAdd, h23]
          go_simp
          exact hK _ _ ⟨_, rfl, by simp only [over, overL, Nat.reduceAdd, h23]; rfl, Below.refl _ _⟩
        · intro f w1 hb ⟨h22, h24, _⟩ K hK
          replace h22 : f 22 = _ := h22
          replace h24 : f 24 = _ := h24
          have hwr := HWR.out
          simp only [over, overL, Nat.reduceAdd, h22, h24]
          go_simp
          exact hK _ _ ⟨_, rfl, by simp only [over, overL, Nat.reduceAdd, h22, h24]; rfl, Below.refl _ _⟩
      intro f w1 hb hv
      have h18 : f 18 = _ := hv.1
      have h25 : f 25 = _ := hv.2.2.2.2.2.2.2.1
      have HB4 : Hid (Bn wB w1 ao cap l b m md s) := HB3.out.next hb
      have KB2 : Hid (Bk b (bcs ao cap l md m cw s aoH capH aoT capT) w1) := KB1.out.later hb
      have k0 := (KB2.out).c 0 rfl
      have kf0 := (KB2.out).f 0 rfl
      have k1 := (KB2.out).c 1 rfl
      have kf1 := (KB2.out).f 1 rfl
      have k2 := (KB2.out).c 2 rfl
      have kf2 := (KB2.out).f 2 rfl
      have k3 := (KB2.out).c 3 rfl
      have kf3 := (KB2.out).f 3 rfl
      have k4 := (KB2.out).c 4 rfl
      have kf4 := (KB2.out).f 4 rfl
      have k5 := (KB2.out).c 5 rfl
      have kf5 := (KB2.out).f 5 rfl
      have k6 := (KB2.out).c 6 rfl
      have kf6 := (KB2.out).f 6 rfl
      have k7 := (KB2.out).c 7 rfl
      have kf7 := (KB2.out).f 7 rfl
      have k8 := (KB2.out).c 8 rfl
      have kf8 := (KB2.out).f 8 rfl
      have k9 := (KB2.out).c 9 rfl
      have kf9 := (KB2.out).f 9 rfl
      have k10 := (KB2.out).c 10 rfl
      have kf10 := (KB2.out).f 10 rfl
      have k11 := (KB2.out).c 11 rfl
      have kf11 := (KB2.out).f 11 rfl
      have lt1 := KB2.out.1
      clear hv hb
      simp only [List.drop, over, overL, Nat.reduceAdd, h18, h25]
      clear h18 h25
      go_wp2
      refine HKK.out _ _ ?_
      go_wp2
      go_ret
      exact ⟨by rw [HQ.out]; rfl, bn_pass (a := a) HB4.out HQ.out⟩
set_option maxHeartbeats 3200000 in
set_option maxRecDepth 100000 in
theorem shake_any (wB w : World) (ao : Option Addr) (cap : Nat) (l : List Sit) (b m md : Nat) (s : Sta) (a : Acn) (hB : Bn wB w ao cap l b m md s) :
    Calls Tryz.prog 104 #[ptr b, av a] w fun e w' => e = .returned (.int .i64 (shakeA s a).2) ∧ Bn wB w' ao cap l b m md (shakeA s a).1 := by
  have HBN : Hid (Bn wB w ao cap l b m md s) := hB
  have HB0 : Hid (Bn wB (w.alloc (aobj a)) ao cap l b m md s) := hB.next ((Below.refl _ _).alloc (Nat.le_refl _) _)
  clear hB
  obtain ⟨cw, aoH, capH, aoT, capT, K, hh, ht⟩ := HBN.out.bk
  have KB : Hid (Bk b (bcs ao cap l md m cw s aoH capH aoT capT) w) := K
  have hbw := KB.out.1
  have hbn : b ≠ w.heap.size := by omega
  clear K hh ht
  cases hv : inR 0 1000000000 a.value with
  | false =>
    have HQ : Hid (shakeA s a = (s, 2)) := by show _ = _; unfold shakeA; rw [if_neg (by rw [hv]; decide)]
    go_enter Tryz.func104, Tryz.ntmps104
    go_wp2_with fail
    refine (mwithin_any 0 a.value 1000000000 _).mono ?_
    rintro e w2 ⟨rfl, rfl⟩
    rw [hv]
    go_wp2
    go_ret
    exact ⟨by rw [HQ.out]; rfl, by rw [HQ.out]; exact HB0.out⟩
  | true =>
    have HQ : Hid (shakeA s a = passA s a) := by show _ = _; unfold shakeA; rw [if_pos hv]
    have k0 := (KB.out).c 0 rfl
    have k1 := (KB.out).c 1 rfl
    have k2 := (KB.out).c 2 rfl
    have k3 := (KB.out).c 3 rfl
    have k4 := (KB.out).c 4 rfl
    have k5 := (KB.out).c 5 rfl
    have k6 := (KB.out).c 6 rfl
    have k7 := (KB.out).c 7 rfl
    have k8 := (KB.out).c 8 rfl
    have k9 := (KB.out).c 9 rfl
    have k10 := (KB.out).c 10 rfl
    have k11 := (KB.out).c 11 rfl
    go_enter Tryz.func104, Tryz.ntmps104
    go_wp2_with fail
    refine (mwithin_any 0 a.value 1000000000 _).mono ?_
    rintro e w2 ⟨rfl, rfl⟩
    rw [hv]
    go_wp2_with fail
    refine (pass_any wB _ ao cap l b m md s a HB0.out).mono ?_
    rintro e w2 ⟨rfl, h2⟩
    have HB2 : Hid (Bn wB w2 ao cap l b m md (passA s a).1) := h2
    clear h2
    go_wp2
    go_ret
    exact ⟨by rw [HQ.out]; rfl, by rw [HQ.out]; exact HB2.out⟩
end Go.Proofs.YtjappkfhballhaaGreat
