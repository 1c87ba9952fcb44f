/- do and deedsOfKinds walked. -/
import Derived.Test.YtjappkfhballhaaGreatMU
namespace Go.Proofs.YtjappkfhballhaaGreat
open Go.RowKit Go.Maps

set_option maxRecDepth 100000 in
theorem zeroDeed (w : World) : (zeroValue 119).run Tryz.prog w = .ok .nilFunc w := by kernel_rfl
/-- What lies in the table under a number. -/
def deedOf (n : Int) : Value × Bool :=
  if n = 5 then (fv 97, true) else if n = 6 then (fv 98, true) else if n = 7 then (fv 99, true) else if n = 8 then (fv 100, true) else if n = 9 then (fv 101, true) else if n = 11 then (fv 102, true) else if n = 12 then (fv 103, true) else if n = 13 then (fv 104, true) else if n = 14 then (fv 103, true) else (.nilFunc, false)
theorem lit_ne {m n : Int} (h : n ≠ m) : (Lit.int .i64 n) ≠ Lit.int .i64 m := fun e => h (by injection e)
theorem deed_at (n : Int) : Ddeeds.atKey (.int .i64 n) (.held .nilFunc) = .held (deedOf n).1 ∧ has Ddeeds (.int .i64 n) = (deedOf n).2 := by
  unfold deedOf
  by_cases h5 : n = 5
  · subst h5
    exact ⟨by kernel_rfl, by kernel_rfl⟩
  by_cases h6 : n = 6
  · subst h6
    exact ⟨by kernel_rfl, by kernel_rfl⟩
  by_cases h7 : n = 7
  · subst h7
    exact ⟨by kernel_rfl, by kernel_rfl⟩
  by_cases h8 : n = 8
  · subst h8
    exact ⟨by kernel_rfl, by kernel_rfl⟩
  by_cases h9 : n = 9
  · subst h9
    exact ⟨by kernel_rfl, by kernel_rfl⟩
  by_cases h11 : n = 11
  · subst h11
    exact ⟨by kernel_rfl, by kernel_rfl⟩
  by_cases h12 : n = 12
  · subst h12
    exact ⟨by kernel_rfl, by kernel_rfl⟩
  by_cases h13 : n = 13
  · subst h13
    exact ⟨by kernel_rfl, by kernel_rfl⟩
  by_cases h14 : n = 14
  · subst h14
    exact ⟨by kernel_rfl, by kernel_rfl⟩
  rw [if_neg h5, if_neg h6, if_neg h7, if_neg h8, if_neg h9, if_neg h11, if_neg h12, if_neg h13, if_neg h14]
  unfold Ddeeds
  constructor
  · rw [atKey_put_other (lit_ne h14), atKey_put_other (lit_ne h13), atKey_put_other (lit_ne h12), atKey_put_other (lit_ne h11), atKey_put_other (lit_ne h9), atKey_put_other (lit_ne h8), atKey_put_other (lit_ne h7), atKey_put_other (lit_ne h6), atKey_put_other (lit_ne h5)]
    rfl
  · rw [has_put_other (lit_ne h14), has_put_other (lit_ne h13), has_put_other (lit_ne h12), has_put_other (lit_ne h11), has_put_other (lit_ne h9), has_put_other (lit_ne h8), has_put_other (lit_ne h7), has_put_other (lit_ne h6), has_put_other (lit_ne h5)]
    rfl
set_option maxRecDepth 100000 in
theorem DM.look {w : World} {md : Nat} (h : DM w md) {n : Int} (hn : (Lit.int .i64 n).wf = true) : (Instr.lookup 113 (.map (some md)) (.int .i64 n) true).run Tryz.prog w = .ok (.tuple #[(deedOf n).1, .bool (deedOf n).2]) w := by
  obtain ⟨v, ps, hrun, hv⟩ := World.ownsMap.look_ok h (int_keyed Tryz.underlying3) Tryz.underlying113 (zeroDeed w) (zd := .held .nilFunc) (zp := []) rfl (keyOf_int_mk Tryz.underlying3 hn)
  rw [hrun, (deed_at n).2]
  rw [(deed_at n).1] at hv
  simp only [RV, Option.some.injEq, Prod.mk.injEq] at hv
  have := hv.1
  injection this with this
  rw [this]
def doV (b B md : Nat) (a : Acn) (dv : Value) (ok : Bool) (d : Nat) (v : Value) (_ : World) : Prop :=
  match d with
  | 8 => v = .pointer (some ⟨b, 0, none⟩)
  | 9 => v = .pointer (some ⟨b, 0, none⟩)
  | 10 => v = .pointer (some ⟨b, 3, none⟩)
  | 11 => v = .map (some md)
  | 12 => v = .pointer (some ⟨B, 0, none⟩)
  | 13 => v = .int .i64 a.kind
  | 14 => v = .tuple #[dv, .bool ok]
  | 7 => v = .tuple #[dv, .bool ok]
  | 15 => v = dv
  | 16 => v = .bool ok
  | 5 => v = dv
  | 6 => v = .bool ok
  | _ => True
theorem doV_mono (b B md : Nat) (a : Acn) (dv : Value) (ok : Bool) (d : Nat) (v : Value) (w w' : World) (h : doV b B md a dv ok d v w) (_ : Below w.heap.size w w') : doV b B md a dv ok d v w' := h
set_option maxHeartbeats 6400000 in
set_option maxRecDepth 100000 in
theorem do_any (wB w : World) (ao : Option Addr) (cap : Nat) (l : List Sit) (b m md : Nat) (s : Sta) (a : Acn) (hB : Bn wB w ao cap l b m md s) (hlab : a.label.size ≤ maxLen) (hkd : (Lit.int .i64 a.kind).wf = true) :
    Calls Tryz.prog 32 #[ptr b, av a] w fun e w' => e = .returned (.int .i64 (doA l s a).2) ∧ Bn wB w' ao cap l b m md (doA l s a).1 := by
  have HBN : Hid (Bn wB w ao cap l b m md s) := hB
  clear hB
  obtain ⟨w0, hw0⟩ : ∃ w0, w0 = w.alloc (aobj a) := ⟨_, rfl⟩
  have b0 : Below w.heap.size w w0 := by rw [hw0]; exact (Below.refl _ _).alloc (Nat.le_refl _) _
  have KA : Hid (Bk w.heap.size (acl a) w0) := by show Bk _ _ _; rw [hw0]; exact Bk.new w (acl a) 33 w.heap.size rfl
  have HB0 : Hid (Bn wB w0 ao cap l b m md s) := HBN.out.next b0
  have HW0 : Hid (w0 = w.alloc (aobj a)) := hw0
  clear hw0 b0
  obtain ⟨cw, aoH, capH, aoT, capT, K, hh, ht⟩ := HB0.out.bk
  have KB : Hid (Bk b (bcs ao cap l md m cw s aoH capH aoT capT) w0) := K
  have HH : Hid (Flx b m w0 aoH s.held) := hh
  have HT : Hid (Txx b m w0 aoT s.touched) := ht
  have hbw : b < w.heap.size := by obtain ⟨_, _, _, _, _, K', _⟩ := HBN.out.bk; exact K'.1
  have hbn : b ≠ w.heap.size := by omega
  have lt0 := KB.out.1
  clear K hh ht
  clear lt0
  have HLB : Hid (a.label.size ≤ maxLen) := hlab
  have HLK : Hid (∀ W, Below w0.heap.size w0 W → (Instr.lookup 113 (.map (some md)) (.int .i64 a.kind) true).run Tryz.prog W = .ok (.tuple #[(deedOf a.kind).1, .bool (deedOf a.kind).2]) W) := fun W hW => (HB0.out.next hW).deeds.look hkd
  clear hlab hkd
  obtain ⟨⟨dv, ok⟩, hdq⟩ : ∃ x, deedOf a.kind = x := ⟨_, rfl⟩
  have HDO : Hid (deedOf a.kind = (dv, ok)) := hdq
  rw [hdq] at HLK
  simp only at HLK
  clear hdq
  go_enter Tryz.func32, Tryz.ntmps32
  go_wp2_with fail
  rw [← HW0.out]
  rename_i KK hkk
  have HKK := (show Hid _ from hkk)
  clear hkk
  refine region_seqE 12 [false, false, false, false, false, true, true, true, true, true, true, true, true, true, true, true, true, false, false, false, false, false, false]
    [(8, [], none), (9, [8], none), (10, [9], none), (11, [10], none), (12, [], none), (13, [12], none), (14, [11, 13], none), (7, [14], none), (15, [7], none), (16, [7], none), (5, [15], none), (6, [16], none)]
    (doV b w.heap.size md a dv ok) (by kernel_rfl) (by kernel_rfl) (by kernel_rfl) (by kernel_rfl) (by kernel_rfl) (by decide) (doV_mono b w.heap.size md a dv ok) ?_ ?_
  · refine ⟨?_, ?_, ?_, ?_, ?_, ?_, ?_, ?_, ?_, ?_, ?_, ?_, trivial⟩
    · intro f wA hb _ K hK
      simp only [over, overL, Nat.reduceAdd]
      go_simp
      exact hK _ _ ⟨_, rfl, by simp only [over, overL, Nat.reduceAdd]; rfl, Below.refl _ _⟩
    · intro f wA hb ⟨h8, _⟩ K hK
      replace h8 : f 8 = _ := h8
      simp only [over, overL, Nat.reduceAdd, h8]
      go_simp
      exact hK _ _ ⟨_, rfl, by simp only [over, overL, Nat.reduceAdd, h8]; rfl, Below.refl _ _⟩
    · intro f wA hb ⟨h9, _⟩ K hK
      replace h9 : f 9 = _ := h9
      simp only [over, overL, Nat.reduceAdd, h9]
      go_simp
      exact hK _ _ ⟨_, rfl, by simp only [over, overL, Nat.reduceAdd, h9]; rfl, Below.refl _ _⟩
    · intro f wA hb ⟨h10, _⟩ K hK
      replace h10 : f 10 = _ := h10
      have q3 := (KB.out.later hb).c 3 rfl
      simp only [over, overL, Nat.reduceAdd, h10]
      go_simp
      exact hK _ _ ⟨_, rfl, by simp only [over, overL, Nat.reduceAdd, h10]; rfl, Below.refl _ _⟩
    · intro f wA hb _ K hK
      simp only [over, overL, Nat.reduceAdd]
      go_simp
      exact hK _ _ ⟨_, rfl, by simp only [over, overL, Nat.reduceAdd]; rfl, Below.refl _ _⟩
    · intro f wA hb ⟨h12, _⟩ K hK
      replace h12 : f 12 = _ := h12
      have q0 := (KA.out.later hb).c 0 rfl
      simp only [over, overL, Nat.reduceAdd, h12]
      go_simp
      exact hK _ _ ⟨_, rfl, by simp only [over, overL, Nat.reduceAdd, h12]; rfl, Below.refl _ _⟩
    · intro f wA hb ⟨h11, h13, _⟩ K hK
      replace h11 : f 11 = _ := h11
      replace h13 : f 13 = _ := h13
      have ql := HLK.out wA hb
      simp only [over, overL, Nat.reduceAdd, h11, h13]
      go_simp
      exact hK _ _ ⟨_, rfl, by simp only [over, overL, Nat.reduceAdd, h11, h13]; rfl, Below.refl _ _⟩
    · intro f wA hb ⟨h14, _⟩ K hK
      replace h14 : f 14 = _ := h14
      simp only [over, overL, Nat.reduceAdd, h14]
      go_simp
      exact hK _ _ ⟨_, rfl, by simp only [over, overL, Nat.reduceAdd, h14]; rfl, Below.refl _ _⟩
    · intro f wA hb ⟨h7, _⟩ K hK
      replace h7 : f 7 = _ := h7
      simp only [over, overL, Nat.reduceAdd, h7]
      go_simp
      exact hK _ _ ⟨_, rfl, by simp only [over, overL, Nat.reduceAdd, h7]; rfl, Below.refl _ _⟩
    · intro f wA hb ⟨h7, _⟩ K hK
      replace h7 : f 7 = _ := h7
      simp only [over, overL, Nat.reduceAdd, h7]
      go_simp
      exact hK _ _ ⟨_, rfl, by simp only [over, overL, Nat.reduceAdd, h7]; rfl, Below.refl _ _⟩
    · intro f wA hb ⟨h15, _⟩ K hK
      replace h15 : f 15 = _ := h15
      simp only [over, overL, Nat.reduceAdd, h15]
      go_simp
      exact hK _ _ ⟨_, rfl, by simp only [over, overL, Nat.reduceAdd, h15]; rfl, Below.refl _ _⟩
    · intro f wA hb ⟨h16, _⟩ K hK
      replace h16 : f 16 = _ := h16
      simp only [over, overL, Nat.reduceAdd, h16]
      go_simp
      exact hK _ _ ⟨_, rfl, by simp only [over, overL, Nat.reduceAdd, h16]; rfl, Below.refl _ _⟩
  intro f w1 hb hv
  have h5 : f 5 = _ := hv.2.2.2.2.2.2.2.2.2.2.1
  have h6 : f 6 = _ := hv.2.2.2.2.2.2.2.2.2.2.2.1
  have HBn1 : Hid (Bn wB w1 ao cap l b m md s) := HB0.out.next hb
  have KA1 : Hid (Bk w.heap.size (acl a) w1) := KA.out.later hb
  clear hv hb HLK HB0 KA KB HH HT
  simp only [List.drop, over, overL, Nat.reduceAdd, h5, h6]
  clear h5 h6
  go_wp2
  refine HKK.out _ _ ?_
  clear HKK
  have q0 := (KA1.out).c 0 rfl
  have q1 := (KA1.out).c 1 rfl
  have q2 := (KA1.out).c 2 rfl
  have q3 := (KA1.out).c 3 rfl
  have q4 := (KA1.out).c 4 rfl
  have q5 := (KA1.out).c 5 rfl
  have q6 := (KA1.out).c 6 rfl
  have q7 := (KA1.out).c 7 rfl
  have HD1 := HDO.out
  unfold deedOf at HD1
  by_cases c5 : a.kind = 5
  · have HQ : Hid (doA l s a = fillA l s a) := by show _ = _; unfold doA; rw [if_pos c5]
    rw [if_pos c5] at HD1
    obtain ⟨rfl, rfl⟩ := Prod.mk.injEq _ _ _ _ ▸ HD1
    clear c5
    go_wp2_with fail
    refine (fill_any wB _ ao cap l b m md s a HBn1.out HLB.out).mono ?_
    rintro e w2 ⟨rfl, h2⟩
    have HB2 : Hid (Bn wB w2 ao cap l b m md (fillA l s a).1) := h2
    clear h2
    go_wp2
    go_ret
    exact ⟨by rw [HQ.out]; rfl, by rw [HQ.out]; exact HB2.out⟩
  by_cases c6 : a.kind = 6
  · have HQ : Hid (doA l s a = tipA l s) := by show _ = _; unfold doA; rw [if_neg c5, if_pos c6]
    rw [if_neg c5, if_pos c6] at HD1
    obtain ⟨rfl, rfl⟩ := Prod.mk.injEq _ _ _ _ ▸ HD1
    clear c5 c6
    go_wp2_with fail
    refine (tip_any wB _ ao cap l b m md s a HBn1.out).mono ?_
    rintro e w2 ⟨rfl, h2⟩
    have HB2 : Hid (Bn wB w2 ao cap l b m md (tipA l s).1) := h2
    clear h2
    go_wp2
    go_ret
    exact ⟨by rw [HQ.out]; rfl, by rw [HQ.out]; exact HB2.out⟩
  by_cases c7 : a.kind = 7
  · have HQ : Hid (doA l s a = dropA s) := by show _ = _; unfold doA; rw [if_neg c5, if_neg c6, if_pos c7]
    rw [if_neg c5, if_neg c6, if_pos c7] at HD1
    obtain ⟨rfl, rfl⟩ := Prod.mk.injEq _ _ _ _ ▸ HD1
    clear c5 c6 c7
    go_wp2_with fail
    refine (drop_any wB _ ao cap l b m md s a HBn1.out).mono ?_
    rintro e w2 ⟨rfl, h2⟩
    have HB2 : Hid (Bn wB w2 ao cap l b m md (dropA s).1) := h2
    clear h2
    go_wp2
    go_ret
    exact ⟨by rw [HQ.out]; rfl, by rw [HQ.out]; exact HB2.out⟩
  by_cases c8 : a.kind = 8
  · have HQ : Hid (doA l s a = drawA l s a) := by show _ = _; unfold doA; rw [if_neg c5, if_neg c6, if_neg c7, if_pos c8]
    rw [if_neg c5, if_neg c6, if_neg c7, if_pos c8] at HD1
    obtain ⟨rfl, rfl⟩ := Prod.mk.injEq _ _ _ _ ▸ HD1
    clear c5 c6 c7 c8
    go_wp2_with fail
    refine (draw_any wB _ ao cap l b m md s a HBn1.out).mono ?_
    rintro e w2 ⟨rfl, h2⟩
    have HB2 : Hid (Bn wB w2 ao cap l b m md (drawA l s a).1) := h2
    clear h2
    go_wp2
    go_ret
    exact ⟨by rw [HQ.out]; rfl, by rw [HQ.out]; exact HB2.out⟩
  by_cases c9 : a.kind = 9
  · have HQ : Hid (doA l s a = putA l s a) := by show _ = _; unfold doA; rw [if_neg c5, if_neg c6, if_neg c7, if_neg c8, if_pos c9]
    rw [if_neg c5, if_neg c6, if_neg c7, if_neg c8, if_pos c9] at HD1
    obtain ⟨rfl, rfl⟩ := Prod.mk.injEq _ _ _ _ ▸ HD1
    clear c5 c6 c7 c8 c9
    go_wp2_with fail
    refine (put_any wB _ ao cap l b m md s a HBn1.out).mono ?_
    rintro e w2 ⟨rfl, h2⟩
    have HB2 : Hid (Bn wB w2 ao cap l b m md (putA l s a).1) := h2
    clear h2
    go_wp2
    go_ret
    exact ⟨by rw [HQ.out]; rfl, by rw [HQ.out]; exact HB2.out⟩
  by_cases c11 : a.kind = 11
  · have HQ : Hid (doA l s a = warmA s a) := by show _ = _; unfold doA; rw [if_neg c5, if_neg c6, if_neg c7, if_neg c8, if_neg c9, if_pos c11]
    rw [if_neg c5, if_neg c6, if_neg c7, if_neg c8, if_neg c9, if_pos c11] at HD1
    obtain ⟨rfl, rfl⟩ := Prod.mk.injEq _ _ _ _ ▸ HD1
    clear c5 c6 c7 c8 c9 c11
    go_wp2_with fail
    refine (warm_any wB _ ao cap l b m md s a HBn1.out).mono ?_
    rintro e w2 ⟨rfl, h2⟩
    have HB2 : Hid (Bn wB w2 ao cap l b m md (warmA s a).1) := h2
    clear h2
    go_wp2
    go_ret
    exact ⟨by rw [HQ.out]; rfl, by rw [HQ.out]; exact HB2.out⟩
  by_cases c12 : a.kind = 12
  · have HQ : Hid (doA l s a = passA s a) := by show _ = _; unfold doA; rw [if_neg c5, if_neg c6, if_neg c7, if_neg c8, if_neg c9, if_neg c11, if_pos c12]
    rw [if_neg c5, if_neg c6, if_neg c7, if_neg c8, if_neg c9, if_neg c11, if_pos c12] at HD1
    obtain ⟨rfl, rfl⟩ := Prod.mk.injEq _ _ _ _ ▸ HD1
    clear c5 c6 c7 c8 c9 c11 c12
    go_wp2_with fail
    refine (pass_any wB _ ao cap l b m md s a HBn1.out).mono ?_
    rintro e w2 ⟨rfl, h2⟩
    have HB2 : Hid (Bn wB w2 ao cap l b m md (passA s a).1) := h2
    clear h2
    go_wp2
    go_ret
    exact ⟨by rw [HQ.out]; rfl, by rw [HQ.out]; exact HB2.out⟩
  by_cases c13 : a.kind = 13
  · have HQ : Hid (doA l s a = shakeA s a) := by show _ = _; unfold doA; rw [if_neg c5, if_neg c6, if_neg c7, if_neg c8, if_neg c9, if_neg c11, if_neg c12, if_pos c13]
    rw [if_neg c5, if_neg c6, if_neg c7, if_neg c8, if_neg c9, if_neg c11, if_neg c12, if_pos c13] at HD1
    obtain ⟨rfl, rfl⟩ := Prod.mk.injEq _ _ _ _ ▸ HD1
    clear c5 c6 c7 c8 c9 c11 c12 c13
    go_wp2_with fail
    refine (shake_any wB _ ao cap l b m md s a HBn1.out).mono ?_
    rintro e w2 ⟨rfl, h2⟩
    have HB2 : Hid (Bn wB w2 ao cap l b m md (shakeA s a).1) := h2
    clear h2
    go_wp2
    go_ret
    exact ⟨by rw [HQ.out]; rfl, by rw [HQ.out]; exact HB2.out⟩
  by_cases c14 : a.kind = 14
  · have HQ : Hid (doA l s a = passA s a) := by show _ = _; unfold doA; rw [if_neg c5, if_neg c6, if_neg c7, if_neg c8, if_neg c9, if_neg c11, if_neg c12, if_neg c13, if_pos c14]
    rw [if_neg c5, if_neg c6, if_neg c7, if_neg c8, if_neg c9, if_neg c11, if_neg c12, if_neg c13, if_pos c14] at HD1
    obtain ⟨rfl, rfl⟩ := Prod.mk.injEq _ _ _ _ ▸ HD1
    clear c5 c6 c7 c8 c9 c11 c12 c13 c14
    go_wp2_with fail
    refine (pass_any wB _ ao cap l b m md s a HBn1.out).mono ?_
    rintro e w2 ⟨rfl, h2⟩
    have HB2 : Hid (Bn wB w2 ao cap l b m md (passA s a).1) := h2
    clear h2
    go_wp2
    go_ret
    exact ⟨by rw [HQ.out]; rfl, by rw [HQ.out]; exact HB2.out⟩
  have HQ : Hid (doA l s a = (s, 6)) := by show _ = _; unfold doA; rw [if_neg c5, if_neg c6, if_neg c7, if_neg c8, if_neg c9, if_neg c11, if_neg c12, if_neg c13, if_neg c14]
  rw [if_neg c5, if_neg c6, if_neg c7, if_neg c8, if_neg c9, if_neg c11, if_neg c12, if_neg c13, if_neg c14] at HD1
  obtain ⟨rfl, rfl⟩ := Prod.mk.injEq _ _ _ _ ▸ HD1
  clear c5 c6 c7 c8 c9 c11 c12 c13 c14
  go_wp2
  go_ret
  exact ⟨by rw [HQ.out]; rfl, by rw [HQ.out]; exact HBn1.out⟩
theorem deed_put {w : World} {md n : Nat} {D : DataW Value} (h : w.ownsMap Tryz.prog 3 RV md n D) (hn : n < maxLen) (k : Int) (hk : (Lit.int .i64 k).wf = true) (v : Value) :
    ∃ w', (Instr.mapUpdate 113 (.map (some md)) (.int .i64 k) v).run Tryz.prog w = .ok () w' ∧ w'.ownsMap Tryz.prog 3 RV md (n + 1) (D.put (.int .i64 k) (.held v)) ∧ w.grownBy w' (some md) :=
  h.update (int_keyed Tryz.underlying3) Tryz.underlying113 hn (keyOf_int_mk Tryz.underlying3 hk) (d := .held v) (ps := []) rfl
theorem blw_map {b : Nat} {a w w1 : World} (h : Below b a w) (hs : b ≤ w.heap.size) (hg : w.grownBy w1 (some b)) : Below b a w1 ∧ b ≤ w1.heap.size :=
  ⟨h.grown hg hs (fun k hk => by cases hk; exact Nat.le_refl _), Nat.le_trans hs hg.size⟩
set_option maxHeartbeats 3200000 in
set_option maxRecDepth 100000 in
theorem deedsOfKinds_any (w : World) : Calls Tryz.prog 71 #[] w fun e w' => ∃ md, e = .returned (.map (some md)) ∧ w.heap.size ≤ md ∧ DM w' md ∧ Below w.heap.size w w' := by
  have hmm := @run_makeMap Tryz.prog
  have o0 : (w.alloc (.map #[] 0)).ownsMap Tryz.prog 3 RV w.heap.size 0 (.map []) := World.ownsMap_made (H := Value) w Tryz.prog 3 RV
  have b0 : Below w.heap.size w (w.alloc (.map #[] 0)) := (Below.refl _ _).alloc (Nat.le_refl _) _
  have z0 : w.heap.size ≤ (w.alloc (.map #[] 0)).heap.size := by simp
  obtain ⟨w1, r1, o1, g1⟩ := deed_put o0 (by unfold maxLen; omega) 5 (by decide) (fv 97)
  obtain ⟨b1, z1⟩ := blw_map b0 z0 g1
  clear o0 b0 z0 g1
  obtain ⟨w2, r2, o2, g2⟩ := deed_put o1 (by unfold maxLen; omega) 6 (by decide) (fv 98)
  obtain ⟨b2, z2⟩ := blw_map b1 z1 g2
  clear o1 b1 z1 g2
  obtain ⟨w3, r3, o3, g3⟩ := deed_put o2 (by unfold maxLen; omega) 7 (by decide) (fv 99)
  obtain ⟨b3, z3⟩ := blw_map b2 z2 g3
  clear o2 b2 z2 g3
  obtain ⟨w4, r4, o4, g4⟩ := deed_put o3 (by unfold maxLen; omega) 8 (by decide) (fv 100)
  obtain ⟨b4, z4⟩ := blw_map b3 z3 g4
  clear o3 b3 z3 g4
  obtain ⟨w5, r5, o5, g5⟩ := deed_put o4 (by unfold maxLen; omega) 9 (by decide) (fv 101)
  obtain ⟨b5, z5⟩ := blw_map b4 z4 g5
  clear o4 b4 z4 g5
  obtain ⟨w6, r6, o6, g6⟩ := deed_put o5 (by unfold maxLen; omega) 11 (by decide) (fv 102)
  obtain ⟨b6, z6⟩ := blw_map b5 z5 g6
  clear o5 b5 z5 g6
  obtain ⟨w7, r7, o7, g7⟩ := deed_put o6 (by unfold maxLen; omega) 12 (by decide) (fv 103)
  obtain ⟨b7, z7⟩ := blw_map b6 z6 g7
  clear o6 b6 z6 g7
  obtain ⟨w8, r8, o8, g8⟩ := deed_put o7 (by unfold maxLen; omega) 13 (by decide) (fv 104)
  obtain ⟨b8, z8⟩ := blw_map b7 z7 g8
  clear o7 b7 z7 g8
  obtain ⟨w9, r9, o9, g9⟩ := deed_put o8 (by unfold maxLen; omega) 14 (by decide) (fv 103)
  obtain ⟨b9, z9⟩ := blw_map b8 z8 g9
  clear o8 b8 z8 g9
  have HD : Hid (DM w9 w.heap.size) := o9
  have HB : Hid (Below w.heap.size w w9) := b9
  clear o9 b9 z9
  go_enter Tryz.func71, Tryz.ntmps71
  go_wp2
  go_ret
  exact ⟨w.heap.size, rfl, Nat.le_refl _, HD.out, HB.out⟩
end Go.Proofs.YtjappkfhballhaaGreat
