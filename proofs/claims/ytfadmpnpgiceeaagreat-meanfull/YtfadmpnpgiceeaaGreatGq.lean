import Derived.Test.YtfadmpnpgiceeaaGreatGp

/- MeanKeeps walked. -/
namespace Go.Proofs.YtfadmpnpgiceeaaGreat
open Go.RowKit Go.Maps
theorem dk_nil (w : World) : Dk w none 0 [] := ⟨.inl rfl, Nat.le_refl _, fun s hs => by cases hs⟩
set_option maxRecDepth 100000 in
theorem may_nil : mayS [] sm0.st = true := by decide
theorem may_of {l : List Sit} {s : Sta} (hd : dchk l = 0) (h : May l s) : mayS l s = true := by
  unfold mayS
  rw [decide_eq_true hd, mayB_iff.2 h]
  rfl
theorem may_frefs {l : List Sit} {t : Sm} (h : May l t.st) : (∀ x ∈ t.wl, F.fref x.2.2.2 = 0) ∧ F.fref t.held = 0 := by
  refine ⟨fun x hx => (mayHold_iff.1 (h.wells (x.1, x.2.2.2) (List.mem_map.2 ⟨x, hx, rfl⟩)).2.2).1, ?_⟩
  cases ht : t.st.tip with
  | true => exact (mayHold_iff.1 (tip_parts h ht).2.2.1).1
  | false =>
    have := h.take
    unfold mayTake at this
    rw [if_neg (by rw [ht]; decide)] at this
    simp only [Bool.and_eq_true, decide_eq_true_eq] at this
    have e : t.held = [] := this.2.1
    rw [e]
    rfl
theorem may_smlen {l : List Sit} {t : Sm} (hd : dchk l = 0) (h : May l t.st) : SmLen t ∧ t.wl.length ≤ 4608 := by
  have h1 : t.wl.length ≤ 4608 := by have := wells_few hd h; rw [← whp_length]; exact this
  have h2 : t.touched.length ≤ 100 := (may_lens h).2.1
  exact ⟨⟨by omega, by omega⟩, h1⟩
theorem st_zero {t : Sm} (h : t.st = sta0) : t.wl = [] ∧ t.held = [] ∧ t.used = 0 ∧ t.touched = [] := by
  have h1 : whp t.wl = [] := congrArg Sta.wells h
  have h2 : t.held = [] := congrArg Sta.held h
  have h3 : t.used = 0 := congrArg Sta.used h
  have h4 : t.touched = [] := congrArg Sta.touched h
  exact ⟨List.map_eq_nil_iff.1 h1, h2, h3, h4⟩
theorem liqS_in {l : List Sit} {t : Sm} (hd : dchk l = 0) (h : May l t.st) : 0 ≤ liqS t.st ∧ liqS t.st ≤ 4609000000000 := by
  have h1 := (may_smlen hd h).2
  have h2 := liq_take_in (may_frefs h).1 t.wl.length (Nat.le_refl _)
  rw [List.take_length] at h2
  have h3 := tot_in (may_frefs h).2
  have e : liqS t.st = liq (whp t.wl) + F.tot t.held := rfl
  rw [e]
  omega
theorem apply_ok {l : List Sit} {s : Sta} {a : Acn} (h : (applyR l s a).2 = 0) : mayS l s = true ∧ (doA l s a).2 = 0 ∧ (applyR l s a).1 = (doA l s a).1 := by
  unfold applyR at h ⊢
  split at h
  · rename_i h1
    split at h
    · rename_i h2
      exact ⟨h1, h2, by rw [if_pos h1, if_pos h2]⟩
    · rename_i h2
      exact absurd h h2
  · simp at h
theorem apply_no {l : List Sit} {s : Sta} {a : Acn} (h : (applyR l s a).2 ≠ 0) : (applyR l s a).1 = sta0 := by
  unfold applyR at h ⊢
  split at h
  · rename_i h1
    split at h
    · simp at h
    · rename_i h2
      rw [if_pos h1, if_neg h2]
  · rename_i h1
    rw [if_neg h1]
def mkF (B : Nat) (s t : Sm) (a : Acn) (LS : Int) (d : Nat) (v : Value) (_ : World) : Prop :=
  match d with
  | 65 => v = .agg #[.slice t.aoW t.wl.length t.capW, .bool t.tip, .slice t.aoH t.held.length t.capH, .slice t.aoT t.touched.length t.capT, .int .i64 t.used, .int .i64 t.heat, .int .i64 t.clock]
  | 66 => v = .int .i64 (LS + a.vol)
  | 67 => v = .agg #[.slice s.aoW s.wl.length s.capW, .bool s.tip, .slice s.aoH s.held.length s.capH, .slice s.aoT s.touched.length s.capT, .int .i64 s.used, .int .i64 s.heat, .int .i64 s.clock]
  | 68 => v = .int .i64 LS
  | 69 => v = .pointer (some ⟨B, 5, none⟩)
  | 70 => v = .int .i64 a.vol
  | 71 => v = .int .i64 (LS + a.vol)
  | 72 => v = .bool true
  | 6 => v = .bool true
  | _ => True
theorem mkF_mono (B : Nat) (s t : Sm) (a : Acn) (LS : Int) (d : Nat) (v : Value) (w w' : World) (h : mkF B s t a LS d v w) (_ : Below w.heap.size w w') : mkF B s t a LS d v w' := h
def mkD (X : Nat) (s t : Sm) (LS H : Int) (d : Nat) (v : Value) (_ : World) : Prop :=
  match d with
  | 75 => v = .int .i64 0
  | 76 => v = .bool true
  | 77 => v = .bool true
  | 78 => v = .agg #[.slice t.aoW t.wl.length t.capW, .bool false, .slice t.aoH t.held.length t.capH, .slice t.aoT t.touched.length t.capT, .int .i64 t.used, .int .i64 t.heat, .int .i64 t.clock]
  | 79 => v = .int .i64 (LS - H)
  | 80 => v = .agg #[.slice s.aoW s.wl.length s.capW, .bool s.tip, .slice s.aoH s.held.length s.capH, .slice s.aoT s.touched.length s.capT, .int .i64 s.used, .int .i64 s.heat, .int .i64 s.clock]
  | 81 => v = .int .i64 LS
  | 82 => v = .int .i64 H
  | 83 => v = .int .i64 (LS - H)
  | 84 => v = .bool true
  | 85 => v = .bool true
  | 86 => v = .bool true
  | 87 => v = .pointer (some ⟨X, 1, none⟩)
  | 88 => v = .bool false
  | 89 => v = .bool true
  | 90 => v = .bool true
  | 6 => v = .bool true
  | _ => True
theorem mkD_mono (X : Nat) (s t : Sm) (LS H : Int) (d : Nat) (v : Value) (w w' : World) (h : mkD X s t LS H d v w) (_ : Below w.heap.size w w') : mkD X s t LS H d v w' := h
def mkR (s t : Sm) (LS : Int) (d : Nat) (v : Value) (_ : World) : Prop :=
  match d with
  | 91 => v = .agg #[.slice t.aoW t.wl.length t.capW, .bool t.tip, .slice t.aoH t.held.length t.capH, .slice t.aoT t.touched.length t.capT, .int .i64 t.used, .int .i64 t.heat, .int .i64 t.clock]
  | 92 => v = .int .i64 LS
  | 93 => v = .agg #[.slice s.aoW s.wl.length s.capW, .bool s.tip, .slice s.aoH s.held.length s.capH, .slice s.aoT s.touched.length s.capT, .int .i64 s.used, .int .i64 s.heat, .int .i64 s.clock]
  | 94 => v = .int .i64 LS
  | 95 => v = .bool true
  | 6 => v = .bool true
  | _ => True
theorem mkR_mono (s t : Sm) (LS : Int) (d : Nat) (v : Value) (w w' : World) (h : mkR s t LS d v w) (_ : Below w.heap.size w w') : mkR s t LS d v w' := h
set_option maxHeartbeats 6400000 in
set_option maxRecDepth 100000 in
theorem keeps_any (ao : Option Addr) (cap : Nat) (l : List Sit) (s : Sm) (a : Acn) (w : World) (hD : Dk w ao cap l) (hln : l.length ≤ 9223372036854775807) (hS : SmIn w s) (hl : SmLen s) (hlab : a.label.size ≤ maxLen) (hkd : (Lit.int .i64 a.kind).wf = true) :
    Calls Tryz.prog 4 #[.slice ao l.length cap, smv s, av a] w fun e w' => e = .returned (.bool true) ∧ Below w.heap.size w w' := by
  obtain ⟨w0, hw0⟩ : ∃ w0, w0 = (w.alloc (smo s)).alloc (aobj a) := ⟨_, rfl⟩
  have b0 : Below w.heap.size w w0 := by rw [hw0]; exact ((Below.refl _ _).alloc (Nat.le_refl _) _).alloc (by simp) _
  have KS0 : Hid (Bk w.heap.size (sml s) w0) := by
    show Bk _ _ _
    rw [hw0]
    exact (Bk.new w (sml s) 27 w.heap.size rfl).later ((Below.refl _ _).alloc (Nat.le_refl _) _)
  have KA0 : Hid (Bk (w.heap.size + 1) (acl a) w0) := by show Bk _ _ _; rw [hw0]; exact Bk.new _ (acl a) 33 (w.heap.size + 1) (by simp)
  have HB0 : Hid (Below w.heap.size w w0) := b0
  have HW0 : Hid (w0 = _) := hw0
  have HD0 : Hid (Dk w0 ao cap l) := hD.next b0
  have HS0 : Hid (SmIn w0 s) := hS.next b0
  have HLN : Hid (l.length ≤ 9223372036854775807) := hln
  have HL : Hid (SmLen s) := hl
  have HLB : Hid (a.label.size ≤ maxLen) := hlab
  have HKD : Hid ((Lit.int .i64 a.kind).wf = true) := hkd
  have HM0 : Hid (Calls Tryz.prog 7 #[.slice none 0 0, smv sm0] w0 fun e w' => e = .returned (.bool true) ∧ Below w0.heap.size w0 w') := by
    have := mayF_any none 0 [] sm0 w0 (dk_nil _) (by simp) (SmIn.zero _) ⟨by simp, by simp⟩
    rw [may_nil] at this
    exact this
  clear hD hS hl hlab hkd hw0 b0
  go_enter Tryz.func4, Tryz.ntmps4
  go_wp2_with fail
  rw [← HW0.out]
  refine Calls.mono HM0.out ?_
  rintro e w1 ⟨rfl, hb⟩
  have KS1 : Hid (Bk w.heap.size (sml s) w1) := KS0.out.later hb
  have KA1 : Hid (Bk (w.heap.size + 1) (acl a) w1) := KA0.out.later hb
  have HB1 : Hid (Below w.heap.size w w1) := HB0.out.trans (hb.mono HB0.out.size)
  have HD1 : Hid (Dk w1 ao cap l) := HD0.out.next hb
  have HS1 : Hid (SmIn w1 s) := HS0.out.next hb
  clear hb HM0 HD0 HS0 KS0 KA0 HB0
  have q0 := (KS1.out).c 0 rfl
  have q1 := (KS1.out).c 1 rfl
  have q2 := (KS1.out).c 2 rfl
  have q3 := (KS1.out).c 3 rfl
  have q4 := (KS1.out).c 4 rfl
  have q5 := (KS1.out).c 5 rfl
  have q6 := (KS1.out).c 6 rfl
  have p0 := (KA1.out).c 0 rfl
  have p1 := (KA1.out).c 1 rfl
  have p2 := (KA1.out).c 2 rfl
  have p3 := (KA1.out).c 3 rfl
  have p4 := (KA1.out).c 4 rfl
  have p5 := (KA1.out).c 5 rfl
  have p6 := (KA1.out).c 6 rfl
  have p7 := (KA1.out).c 7 rfl
  go_wp2_with fail
  refine (apply_any ao cap l s a w1 HD1.out HLN.out HS1.out HL.out HLB.out HKD.out).mono ?_
  rintro e w2 ⟨t, rfl, hst, hin, hhi, hb⟩
  obtain ⟨w3, hw3⟩ : ∃ w3, w3 = w2.alloc (smo t) := ⟨_, rfl⟩
  have b3 : Below w2.heap.size w2 w3 := by rw [hw3]; exact (Below.refl _ _).alloc (Nat.le_refl _) _
  have b13 : Below w1.heap.size w1 w3 := hb.trans (b3.mono hb.size)
  have KX3 : Hid (Bk w2.heap.size (sml t) w3) := by show Bk _ _ _; rw [hw3]; exact Bk.new w2 (sml t) 27 w2.heap.size rfl
  have KS2 : Hid (Bk w.heap.size (sml s) w2) := KS1.out.later hb
  have KS3 : Hid (Bk w.heap.size (sml s) w3) := KS1.out.later b13
  have KA3 : Hid (Bk (w.heap.size + 1) (acl a) w3) := KA1.out.later b13
  have HB3 : Hid (Below w.heap.size w w3) := HB1.out.trans (b13.mono HB1.out.size)
  have HD3 : Hid (Dk w3 ao cap l) := HD1.out.next b13
  have HS3 : Hid (SmIn w3 s) := HS1.out.next b13
  have HX3 : Hid (SmIn w3 t) := hin.next b3
  have HST : Hid (t.st = (applyR l s.st a).1) := hst
  have HW3 : Hid (w3 = w2.alloc (smo t)) := hw3
  obtain ⟨e0, he0⟩ : ∃ e0, (applyR l s.st a).2 = e0 := ⟨_, rfl⟩
  have HE0 : Hid ((applyR l s.st a).2 = e0) := he0
  rw [he0]
  have l2 := KX3.out.1
  have l3 := hb.size
  have l4 := HB1.out.size
  have l5 := KA1.out.1
  clear hst hin hhi hb hw3 b3 b13 he0 HD1 HS1 KS1 KA1 q0 q1 q2 q3 q4 q5 q6 p0 p1 p2 p3 p4 p5 p6 p7
  by_cases he : e0 = 0
  rotate_left
  · have h2 : (e0 == 0) = false := by simp [he]
    have h3 : (e0 != 0) = true := by simp [he]
    have hz := st_zero (HST.out.trans (apply_no (by rw [HE0.out]; exact he)))
    have HLX : Hid (Calls Tryz.prog 18 #[smv t] w3 fun e w' => e = .returned (.int .i64 0) ∧ Below w3.heap.size w3 w') := by
      have := liquid_any t w3 HX3.out (by rw [hz.1]; intro x hx; cases hx) (by rw [hz.1]; simp) (by rw [hz.2.1]; rfl)
      rw [show liqS t.st = 0 by unfold liqS Sm.st; rw [hz.1, hz.2.1]; rfl] at this
      exact this
    have HU : Hid (t.used = 0) := hz.2.2.1
    clear he hz
    go_wp2_with fail
    rw [← HW3.out]
    refine Calls.mono HLX.out ?_
    rintro e w4 ⟨rfl, hb⟩
    have KX4 : Hid (Bk w2.heap.size (sml t) w4) := KX3.out.later hb
    have HB4 : Hid (Below w.heap.size w w4) := HB3.out.trans (hb.mono HB3.out.size)
    have x0 := (KX4.out).c 0 rfl
    have x1 := (KX4.out).c 1 rfl
    have x2 := (KX4.out).c 2 rfl
    have x3 := (KX4.out).c 3 rfl
    have x4 := (KX4.out).c 4 rfl
    have x5 := (KX4.out).c 5 rfl
    have x6 := (KX4.out).c 6 rfl
    rw [HU.out] at x4
    clear hb
    go_wp2
    go_ret
    exact ⟨rfl, HB4.out⟩
  · subst he
    obtain ⟨hms, hdo, happ⟩ := apply_ok HE0.out
    have hms2 := hms
    unfold mayS at hms2
    simp only [Bool.and_eq_true, decide_eq_true_eq] at hms2
    have HDC : Hid (dchk l = 0) := hms2.1
    have HMY : Hid (May l s.st) := mayB_iff.1 hms2.2
    have hst : t.st = (doA l s.st a).1 := HST.out.trans happ
    have hlf := left_do HDC.out HMY.out hdo
    rw [← hst] at hlf
    have HLF : Hid (Left l s.st a t.st) := hlf
    have HTL := (show Hid _ from may_smlen HDC.out hlf.may)
    have HSL := (show Hid _ from may_smlen HDC.out HMY.out)
    have HM1 : Hid (Calls Tryz.prog 7 #[.slice ao l.length cap, smv s] w3 fun e w' => e = .returned (.bool true) ∧ Below w3.heap.size w3 w') := by
      have := mayF_any ao cap l s w3 HD3.out HLN.out HS3.out HL.out
      rw [hms] at this
      exact this
    clear hms hdo happ hms2 hst hlf
    have q0 := (KS2.out).c 0 rfl
    have q1 := (KS2.out).c 1 rfl
    have q2 := (KS2.out).c 2 rfl
    have q3 := (KS2.out).c 3 rfl
    have q4 := (KS2.out).c 4 rfl
    have q5 := (KS2.out).c 5 rfl
    have q6 := (KS2.out).c 6 rfl
    have m1 : w.heap.size < w2.heap.size := by omega
    have m2 : w.heap.size + 1 < w2.heap.size := by omega
    have n1 : w.heap.size ≠ w2.heap.size := by omega
    have n2 : w.heap.size + 1 ≠ w2.heap.size := by omega
    go_wp2_with fail
    (try rw [← HW3.out])
    clear m1 m2 n1 n2 q0 q1 q2 q3 q4 q5 q6
    refine Calls.mono HM1.out ?_
    rintro e w4 ⟨rfl, hb⟩
    have KX4 : Hid (Bk w2.heap.size (sml t) w4) := KX3.out.later hb
    have KS4 : Hid (Bk w.heap.size (sml s) w4) := KS3.out.later hb
    have KA4 : Hid (Bk (w.heap.size + 1) (acl a) w4) := KA3.out.later hb
    have HB4 : Hid (Below w.heap.size w w4) := HB3.out.trans (hb.mono HB3.out.size)
    have HD4 : Hid (Dk w4 ao cap l) := HD3.out.next hb
    have HS4 : Hid (SmIn w4 s) := HS3.out.next hb
    have HX4 : Hid (SmIn w4 t) := HX3.out.next hb
    clear hb KX3 KS3 KA3 HB3 HD3 HS3 HX3
    have HM2 : Hid (Calls Tryz.prog 7 #[.slice ao l.length cap, smv t] w4 fun e w' => e = .returned (.bool true) ∧ Below w4.heap.size w4 w') := by
      have := mayF_any ao cap l t w4 HD4.out HLN.out HX4.out HTL.out.1
      rw [may_of HDC.out HLF.out.may] at this
      exact this
    have x0 := (KX4.out).c 0 rfl
    have x1 := (KX4.out).c 1 rfl
    have x2 := (KX4.out).c 2 rfl
    have x3 := (KX4.out).c 3 rfl
    have x4 := (KX4.out).c 4 rfl
    have x5 := (KX4.out).c 5 rfl
    have x6 := (KX4.out).c 6 rfl
    go_wp2_with fail
    clear x0 x1 x2 x3 x4 x5 x6
    refine Calls.mono HM2.out ?_
    rintro e w5 ⟨rfl, hb⟩
    have KX5 : Hid (Bk w2.heap.size (sml t) w5) := KX4.out.later hb
    have KS5 : Hid (Bk w.heap.size (sml s) w5) := KS4.out.later hb
    have KA5 : Hid (Bk (w.heap.size + 1) (acl a) w5) := KA4.out.later hb
    have HB5 : Hid (Below w.heap.size w w5) := HB4.out.trans (hb.mono HB4.out.size)
    have HD5 : Hid (Dk w5 ao cap l) := HD4.out.next hb
    have HS5 : Hid (SmIn w5 s) := HS4.out.next hb
    have HX5 : Hid (SmIn w5 t) := HX4.out.next hb
    clear hb KX4 KS4 KA4 HB4 HD4 HS4 HX4
    have hu1 : decide (t.used < s.used) = false := decide_eq_false (Int.not_lt.2 HLF.out.used)
    have hu2 : decide (t.clock < s.clock) = false := decide_eq_false (Int.not_lt.2 HLF.out.clock)
    have HTR : Hid (F.totR s.held = (F.tot s.held, 0)) := by show _ = _; unfold F.totR; rw [if_pos (may_frefs HMY.out).2]
    have x0 := (KX5.out).c 0 rfl
    have x1 := (KX5.out).c 1 rfl
    have x2 := (KX5.out).c 2 rfl
    have x3 := (KX5.out).c 3 rfl
    have x4 := (KX5.out).c 4 rfl
    have x5 := (KX5.out).c 5 rfl
    have x6 := (KX5.out).c 6 rfl
    have q0 := (KS5.out).c 0 rfl
    have q1 := (KS5.out).c 1 rfl
    have q2 := (KS5.out).c 2 rfl
    have q3 := (KS5.out).c 3 rfl
    have q4 := (KS5.out).c 4 rfl
    have q5 := (KS5.out).c 5 rfl
    have q6 := (KS5.out).c 6 rfl
    go_wp2_with fail
    clear x0 x1 x2 x3 x4 x5 x6 q0 q1 q2 q3 q4 q5 q6 hu1 hu2
    refine (F.totalF_any s.aoH s.capH s.held w5 HS5.out.held).mono ?_
    rw [HTR.out]
    rintro e w6 ⟨rfl, hb⟩
    have KX6 : Hid (Bk w2.heap.size (sml t) w6) := KX5.out.later hb
    have KS6 : Hid (Bk w.heap.size (sml s) w6) := KS5.out.later hb
    have KA6 : Hid (Bk (w.heap.size + 1) (acl a) w6) := KA5.out.later hb
    have HB6 : Hid (Below w.heap.size w w6) := HB5.out.trans (hb.mono HB5.out.size)
    have HD6 : Hid (Dk w6 ao cap l) := HD5.out.next hb
    have HS6 : Hid (SmIn w6 s) := HS5.out.next hb
    have HX6 : Hid (SmIn w6 t) := HX5.out.next hb
    clear hb KX5 KS5 KA5 HB5 HD5 HS5 HX5
    have KX := KX6
    have KS := KS6
    have KA := KA6
    have HB7 := HB6
    obtain ⟨LS, hLS⟩ : ∃ x, liqS s.st = x := ⟨_, rfl⟩
    obtain ⟨H, hH⟩ : ∃ x, F.tot s.held = x := ⟨_, rfl⟩
    have HHq : Hid (F.tot s.held = H) := hH
    have hrS := liqS_in HDC.out HMY.out
    have hrX := liqS_in HDC.out HLF.out.may
    rw [hLS] at hrS
    have HRS : Hid (0 ≤ LS ∧ LS ≤ 4609000000000) := hrS
    have HRX : Hid (0 ≤ liqS t.st ∧ liqS t.st ≤ 4609000000000) := hrX
    have HLSq : Hid (liqS s.st = LS) := hLS
    have HLS : Hid (∀ W, Below w6.heap.size w6 W → Calls Tryz.prog 18 #[smv s] W fun e w' => e = .returned (.int .i64 LS) ∧ Below W.heap.size W w') := fun W hW => by
      have := liquid_any s W (HS6.out.next hW) (may_frefs HMY.out).1 HSL.out.2 (may_frefs HMY.out).2
      rw [HLSq.out] at this
      exact this
    have HLX0 : Hid (∀ W, Below w6.heap.size w6 W → Calls Tryz.prog 18 #[smv t] W fun e w' => e = .returned (.int .i64 (liqS t.st)) ∧ Below W.heap.size W w') := fun W hW => liquid_any t W (HX6.out.next hW) (may_frefs HLF.out.may).1 HTL.out.2 (may_frefs HLF.out.may).2
    clear hrS hrX hLS
    simp only
    rw [hH]
    clear hH
    have p0 := (KA6.out).c 0 rfl
    have p1 := (KA6.out).c 1 rfl
    have p2 := (KA6.out).c 2 rfl
    have p3 := (KA6.out).c 3 rfl
    have p4 := (KA6.out).c 4 rfl
    have p5 := (KA6.out).c 5 rfl
    have p6 := (KA6.out).c 6 rfl
    have p7 := (KA6.out).c 7 rfl
    by_cases k5 : a.kind = 5
    · have hq : liqS t.st = LS + a.vol := by rw [HLF.out.fill k5, HLSq.out]
      have HWR : Hid (IntKind.i64.wrap (LS + a.vol) = LS + a.vol) := by have h1 := HRX.out; rw [hq] at h1; exact wrap_in (by omega) (by omega)
      have HLX : Hid (∀ W, Below w6.heap.size w6 W → Calls Tryz.prog 18 #[smv t] W fun e w' => e = .returned (.int .i64 (LS + a.vol)) ∧ Below W.heap.size W w') := by
        have := HLX0.out
        rw [hq] at this
        exact this
      have hk5 : (a.kind == 5) = true := by simp [k5]
      clear hq HLX0 k5
      go_wp2_with fail
      clear p0 p1 p2 p3 p4 p5 p6 p7 hk5
      rename_i KK hkk
      have HKK := (show Hid _ from hkk)
      clear hkk
      refine region_inv [false, false, false, false, false, false, true, false, false, false, false, false, false, false, false, false, false, false, false, false, false, false, false, false, false, false, false, false, false, false, false, false, false, false, false, false, false, false, false, false, false, false, false, false, false, false, false, false, false, false, false, false, false, false, false, false, false, false, false, false, false, false, false, false, false, true, true, true, true, true, true, true, true, false, false, false, false, false, false, false, false, false, false, false, false, false, false, false, false, false, false, false, false, false, false, false]
        [(65, [], none), (66, [65], none), (67, [], none), (68, [67], none), (69, [], none), (70, [69], none), (71, [68, 70], none), (72, [66, 71], none), (6, [72], none)]
        (mkF (w.heap.size + 1) s t a LS) (by kernel_rfl) (by kernel_rfl) (mkF_mono (w.heap.size + 1) s t a LS) ?_ ?_
      · refine ⟨?_, ?_, ?_, ?_, ?_, ?_, ?_, ?_, ?_, trivial⟩
        · intro f wA hb _ K hK
          have q0 := (KX.out.later hb).c 0 rfl
          have q1 := (KX.out.later hb).c 1 rfl
          have q2 := (KX.out.later hb).c 2 rfl
          have q3 := (KX.out.later hb).c 3 rfl
          have q4 := (KX.out.later hb).c 4 rfl
          have q5 := (KX.out.later hb).c 5 rfl
          have q6 := (KX.out.later hb).c 6 rfl
          simp only [over, overL, Nat.reduceAdd]
          go_simp
          exact hK _ _ ⟨_, rfl, by simp only [over, overL, Nat.reduceAdd]; rfl, Below.refl _ _⟩
        · intro f wA hb ⟨h65, _⟩ K hK
          replace h65 : f 65 = _ := h65
          simp only [over, overL, Nat.reduceAdd, h65]
          go_simp
          refine ((HLX.out wA hb).mono) ?_
          rintro e w2 ⟨rfl, hb2⟩
          exact hK _ _ ⟨_, rfl, by simp only [over, overL, Nat.reduceAdd, h65]; rfl, hb2⟩
        · intro f wA hb _ K hK
          have q0 := (KS.out.later hb).c 0 rfl
          have q1 := (KS.out.later hb).c 1 rfl
          have q2 := (KS.out.later hb).c 2 rfl
          have q3 := (KS.out.later hb).c 3 rfl
          have q4 := (KS.out.later hb).c 4 rfl
          have q5 := (KS.out.later hb).c 5 rfl
          have q6 := (KS.out.later hb).c 6 rfl
          simp only [over, overL, Nat.reduceAdd]
          go_simp
          exact hK _ _ ⟨_, rfl, by simp only [over, overL, Nat.reduceAdd]; rfl, Below.refl _ _⟩
        · intro f wA hb ⟨h67, _⟩ K hK
          replace h67 : f 67 = _ := h67
          simp only [over, overL, Nat.reduceAdd, h67]
          go_simp
          refine ((HLS.out wA hb).mono) ?_
          rintro e w2 ⟨rfl, hb2⟩
          exact hK _ _ ⟨_, rfl, by simp only [over, overL, Nat.reduceAdd, h67]; rfl, hb2⟩
        · intro f wA hb _ K hK
          simp only [over, overL, Nat.reduceAdd]
          go_simp
          exact hK _ _ ⟨_, rfl, by simp only [over, overL, Nat.reduceAdd]; rfl, Below.refl _ _⟩
        · intro f wA hb ⟨h69, _⟩ K hK
          replace h69 : f 69 = _ := h69
          have q5 := (KA.out.later hb).c 5 rfl
          simp only [over, overL, Nat.reduceAdd, h69]
          go_simp
          exact hK _ _ ⟨_, rfl, by simp only [over, overL, Nat.reduceAdd, h69]; rfl, Below.refl _ _⟩
        · intro f wA hb ⟨h68, h70, _⟩ K hK
          replace h68 : f 68 = _ := h68
          replace h70 : f 70 = _ := h70
          have hwr := HWR.out
          simp only [over, overL, Nat.reduceAdd, h68, h70]
          go_simp
          exact hK _ _ ⟨_, rfl, by simp only [over, overL, Nat.reduceAdd, h68, h70]; rfl, Below.refl _ _⟩
        · intro f wA hb ⟨h66, h71, _⟩ K hK
          replace h66 : f 66 = _ := h66
          replace h71 : f 71 = _ := h71
          simp only [over, overL, Nat.reduceAdd, h66, h71]
          go_simp
          exact hK _ _ ⟨_, rfl, by simp only [over, overL, Nat.reduceAdd, h66, h71]; rfl, Below.refl _ _⟩
        · intro f wA hb ⟨h72, _⟩ K hK
          replace h72 : f 72 = _ := h72
          simp only [over, overL, Nat.reduceAdd, h72]
          go_simp
          exact hK _ _ ⟨_, rfl, by simp only [over, overL, Nat.reduceAdd, h72]; rfl, Below.refl _ _⟩
      intro f w9 hb hv
      have h6 : f 6 = _ := hv.2.2.2.2.2.2.2.2.1
      have HB9 : Hid (Below w.heap.size w w9) := HB7.out.trans (hb.mono HB7.out.size)
      clear hv hb
      simp only [over, overL, Nat.reduceAdd, h6]
      clear h6
      (try refine HKK.out _ _ ?_)
      go_wp2
      go_ret
      exact ⟨rfl, HB9.out⟩
    · have hk5 : (a.kind == 5) = false := by simp [k5]
      by_cases k7 : a.kind = 7
      · have hd := HLF.out.drop k7
        have hq : liqS t.st = LS - H := by rw [hd.1, HLSq.out, ← HHq.out]; rfl
        have htp : t.tip = false := hd.2
        have HWR : Hid (IntKind.i64.wrap (LS - H) = LS - H) := by have h1 := HRX.out; rw [hq] at h1; exact wrap_in (by omega) (by omega)
        have HLX : Hid (∀ W, Below w6.heap.size w6 W → Calls Tryz.prog 18 #[smv t] W fun e w' => e = .returned (.int .i64 (LS - H)) ∧ Below W.heap.size W w') := by
          have := HLX0.out
          rw [hq] at this
          exact this
        have hkx : Bk w2.heap.size (sml t) w6 := KX6.out
        have HKX : Hid (Bk w2.heap.size [.slice t.aoW t.wl.length t.capW, .bool false, .slice t.aoH t.held.length t.capH, .slice t.aoT t.touched.length t.capT, .int .i64 t.used, .int .i64 t.heat, .int .i64 t.clock] w6) := by
          show Bk _ _ _
          rw [← htp]
          exact hkx
        have hk7 : (a.kind == 7) = true := by simp [k7]
        have HTP : Hid (t.tip = false) := htp
        clear KX hkx hq HLX0 k7 hd htp
        have KX := HKX
        have HLX1 : Hid (∀ W, Below w6.heap.size w6 W → Calls Tryz.prog 18 #[.agg #[.slice t.aoW t.wl.length t.capW, .bool false, .slice t.aoH t.held.length t.capH, .slice t.aoT t.touched.length t.capT, .int .i64 t.used, .int .i64 t.heat, .int .i64 t.clock]] W fun e w' => e = .returned (.int .i64 (LS - H)) ∧ Below W.heap.size W w') := by
          have := HLX.out
          simp only [smv, smc] at this
          rw [HTP.out] at this
          exact this
        clear HLX
        have HLX := HLX1
        go_wp2_with fail
        clear p0 p1 p2 p3 p4 p5 p6 p7 hk5 hk7
        rename_i KK hkk
        have HKK := (show Hid _ from hkk)
        clear hkk
        refine region_inv [false, false, false, false, false, false, true, false, false, false, false, false, false, false, false, false, false, false, false, false, false, false, false, false, false, false, false, false, false, false, false, false, false, false, false, false, false, false, false, false, false, false, false, false, false, false, false, false, false, false, false, false, false, false, false, false, false, false, false, false, false, false, false, false, false, false, false, false, false, false, false, false, false, false, false, true, true, true, true, true, true, true, true, true, true, true, true, true, true, true, true, false, false, false, false, false]
          [(75, [], none), (76, [75], none), (77, [76], none), (78, [77], some (77, true)), (79, [77, 78], some (77, true)), (80, [77], some (77, true)), (81, [77, 80], some (77, true)), (82, [77], some (77, true)), (83, [77, 81, 82], some (77, true)), (84, [77, 79, 83], some (77, true)), (85, [77, 84], none), (86, [85], none), (87, [86], some (86, true)), (88, [86, 87], some (86, true)), (89, [86, 88], some (86, true)), (90, [86, 89], none), (6, [90], none)]
          (mkD w2.heap.size s t LS H) (by kernel_rfl) (by kernel_rfl) (mkD_mono w2.heap.size s t LS H) ?_ ?_
        · refine ⟨?_, ?_, ?_, ?_, ?_, ?_, ?_, ?_, ?_, ?_, ?_, ?_, ?_, ?_, ?_, ?_, ?_, trivial⟩
          · intro f wA hb _ K hK
            simp only [over, overL, Nat.reduceAdd]
            go_simp
            exact hK _ _ ⟨_, rfl, by simp only [over, overL, Nat.reduceAdd]; rfl, Below.refl _ _⟩
          · intro f wA hb ⟨h75, _⟩ K hK
            replace h75 : f 75 = _ := h75
            simp only [over, overL, Nat.reduceAdd, h75]
            go_simp
            exact hK _ _ ⟨_, rfl, by simp only [over, overL, Nat.reduceAdd, h75]; rfl, Below.refl _ _⟩
          · intro f wA hb ⟨h76, _⟩ K hK
            replace h76 : f 76 = _ := h76
            simp only [over, overL, Nat.reduceAdd, h76]
            go_simp
            exact hK _ _ ⟨_, rfl, by simp only [over, overL, Nat.reduceAdd, h76]; rfl, Below.refl _ _⟩
          · intro f wA hb ⟨h77, _⟩
            replace h77 : f 77 = _ := h77
            refine ⟨fun _ => ?_, fun hg => absurd h77 hg⟩
            intro K hK
            have q0 := (KX.out.later hb).c 0 rfl
            have q1 := (KX.out.later hb).c 1 rfl
            have q2 := (KX.out.later hb).c 2 rfl
            have q3 := (KX.out.later hb).c 3 rfl
            have q4 := (KX.out.later hb).c 4 rfl
            have q5 := (KX.out.later hb).c 5 rfl
            have q6 := (KX.out.later hb).c 6 rfl
            simp only [over, overL, Nat.reduceAdd, h77]
            go_simp
            exact hK _ _ ⟨_, rfl, by simp only [over, overL, Nat.reduceAdd, h77]; rfl, Below.refl _ _⟩
          · intro f wA hb ⟨h77, h78, _⟩
            replace h77 : f 77 = _ := h77
            replace h78 : f 78 = _ := h78
            refine ⟨fun _ => ?_, fun hg => absurd h77 hg⟩
            intro K hK
            simp only [over, overL, Nat.reduceAdd, h77, h78]
            go_simp
            refine ((HLX.out wA hb).mono) ?_
            rintro e w2 ⟨rfl, hb2⟩
            exact hK _ _ ⟨_, rfl, by simp only [over, overL, Nat.reduceAdd, h77, h78]; rfl, hb2⟩
          · intro f wA hb ⟨h77, _⟩
            replace h77 : f 77 = _ := h77
            refine ⟨fun _ => ?_, fun hg => absurd h77 hg⟩
            intro K hK
            have q0 := (KS.out.later hb).c 0 rfl
            have q1 := (KS.out.later hb).c 1 rfl
            have q2 := (KS.out.later hb).c 2 rfl
            have q3 := (KS.out.later hb).c 3 rfl
            have q4 := (KS.out.later hb).c 4 rfl
            have q5 := (KS.out.later hb).c 5 rfl
            have q6 := (KS.out.later hb).c 6 rfl
            simp only [over, overL, Nat.reduceAdd, h77]
            go_simp
            exact hK _ _ ⟨_, rfl, by simp only [over, overL, Nat.reduceAdd, h77]; rfl, Below.refl _ _⟩
          · intro f wA hb ⟨h77, h80, _⟩
            replace h77 : f 77 = _ := h77
            replace h80 : f 80 = _ := h80
            refine ⟨fun _ => ?_, fun hg => absurd h77 hg⟩
            intro K hK
            simp only [over, overL, Nat.reduceAdd, h77, h80]
            go_simp
            refine ((HLS.out wA hb).mono) ?_
            rintro e w2 ⟨rfl, hb2⟩
            exact hK _ _ ⟨_, rfl, by simp only [over, overL, Nat.reduceAdd, h77, h80]; rfl, hb2⟩
          · intro f wA hb ⟨h77, _⟩
            replace h77 : f 77 = _ := h77
            refine ⟨fun _ => ?_, fun hg => absurd h77 hg⟩
            intro K hK
            simp only [over, overL, Nat.reduceAdd, h77]
            go_simp
            exact hK _ _ ⟨_, rfl, by simp only [over, overL, Nat.reduceAdd, h77]; rfl, Below.refl _ _⟩
          · intro f wA hb ⟨h77, h81, h82, _⟩
            replace h77 : f 77 = _ := h77
            replace h81 : f 81 = _ := h81
            replace h82 : f 82 = _ := h82
            refine ⟨fun _ => ?_, fun hg => absurd h77 hg⟩
            intro K hK
            have hwr := HWR.out
            simp only [over, overL, Nat.reduceAdd, h77, h81, h82]
            go_simp
            exact hK _ _ ⟨_, rfl, by simp only [over, overL, Nat.reduceAdd, h77, h81, h82]; rfl, Below.refl _ _⟩
          · intro f wA hb ⟨h77, h79, h83, _⟩
            replace h77 : f 77 = _ := h77
            replace h79 : f 79 = _ := h79
            replace h83 : f 83 = _ := h83
            refine ⟨fun _ => ?_, fun hg => absurd h77 hg⟩
            intro K hK
            simp only [over, overL, Nat.reduceAdd, h77, h79, h83]
            go_simp
            exact hK _ _ ⟨_, rfl, by simp only [over, overL, Nat.reduceAdd, h77, h79, h83]; rfl, Below.refl _ _⟩
          · intro f wA hb ⟨h77, h84, _⟩ K hK
            replace h77 : f 77 = _ := h77
            replace h84 : f 84 = _ := h84
            simp only [over, overL, Nat.reduceAdd, h77, h84]
            go_simp
            exact hK _ _ ⟨_, rfl, by simp only [over, overL, Nat.reduceAdd, h77, h84]; rfl, Below.refl _ _⟩
          · intro f wA hb ⟨h85, _⟩ K hK
            replace h85 : f 85 = _ := h85
            simp only [over, overL, Nat.reduceAdd, h85]
            go_simp
            exact hK _ _ ⟨_, rfl, by simp only [over, overL, Nat.reduceAdd, h85]; rfl, Below.refl _ _⟩
          · intro f wA hb ⟨h86, _⟩
            replace h86 : f 86 = _ := h86
            refine ⟨fun _ => ?_, fun hg => absurd h86 hg⟩
            intro K hK
            simp only [over, overL, Nat.reduceAdd, h86]
            go_simp
            exact hK _ _ ⟨_, rfl, by simp only [over, overL, Nat.reduceAdd, h86]; rfl, Below.refl _ _⟩
          · intro f wA hb ⟨h86, h87, _⟩
            replace h86 : f 86 = _ := h86
            replace h87 : f 87 = _ := h87
            refine ⟨fun _ => ?_, fun hg => absurd h86 hg⟩
            intro K hK
            have q1 := (KX.out.later hb).c 1 rfl
            simp only [over, overL, Nat.reduceAdd, h86, h87]
            go_simp
            exact hK _ _ ⟨_, rfl, by simp only [over, overL, Nat.reduceAdd, h86, h87]; rfl, Below.refl _ _⟩
          · intro f wA hb ⟨h86, h88, _⟩
            replace h86 : f 86 = _ := h86
            replace h88 : f 88 = _ := h88
            refine ⟨fun _ => ?_, fun hg => absurd h86 hg⟩
            intro K hK
            simp only [over, overL, Nat.reduceAdd, h86, h88]
            go_simp
            exact hK _ _ ⟨_, rfl, by simp only [over, overL, Nat.reduceAdd, h86, h88]; rfl, Below.refl _ _⟩
          · intro f wA hb ⟨h86, h89, _⟩ K hK
            replace h86 : f 86 = _ := h86
            replace h89 : f 89 = _ := h89
            simp only [over, overL, Nat.reduceAdd, h86, h89]
            go_simp
            exact hK _ _ ⟨_, rfl, by simp only [over, overL, Nat.reduceAdd, h86, h89]; rfl, Below.refl _ _⟩
          · intro f wA hb ⟨h90, _⟩ K hK
            replace h90 : f 90 = _ := h90
            simp only [over, overL, Nat.reduceAdd, h90]
            go_simp
            exact hK _ _ ⟨_, rfl, by simp only [over, overL, Nat.reduceAdd, h90]; rfl, Below.refl _ _⟩
        intro f w9 hb hv
        have h6 : f 6 = _ := hv.2.2.2.2.2.2.2.2.2.2.2.2.2.2.2.2.1
        have HB9 : Hid (Below w.heap.size w w9) := HB7.out.trans (hb.mono HB7.out.size)
        clear hv hb
        simp only [over, overL, Nat.reduceAdd, h6]
        clear h6
        (try refine HKK.out _ _ ?_)
        go_wp2
        go_ret
        exact ⟨rfl, HB9.out⟩
      · have hq : liqS t.st = LS := by rw [HLF.out.rest k5 k7, HLSq.out]
        have HLX : Hid (∀ W, Below w6.heap.size w6 W → Calls Tryz.prog 18 #[smv t] W fun e w' => e = .returned (.int .i64 LS) ∧ Below W.heap.size W w') := by
          have := HLX0.out
          rw [hq] at this
          exact this
        have hk7 : (a.kind == 7) = false := by simp [k7]
        clear hq HLX0 k5 k7
        go_wp2_with fail
        clear p0 p1 p2 p3 p4 p5 p6 p7 hk5 hk7
        rename_i KK hkk
        have HKK := (show Hid _ from hkk)
        clear hkk
        refine region_inv [false, false, false, false, false, false, true, false, false, false, false, false, false, false, false, false, false, false, false, false, false, false, false, false, false, false, false, false, false, false, false, false, false, false, false, false, false, false, false, false, false, false, false, false, false, false, false, false, false, false, false, false, false, false, false, false, false, false, false, false, false, false, false, false, false, false, false, false, false, false, false, false, false, false, false, false, false, false, false, false, false, false, false, false, false, false, false, false, false, false, false, true, true, true, true, true]
          [(91, [], none), (92, [91], none), (93, [], none), (94, [93], none), (95, [92, 94], none), (6, [95], none)]
          (mkR s t LS) (by kernel_rfl) (by kernel_rfl) (mkR_mono s t LS) ?_ ?_
        · refine ⟨?_, ?_, ?_, ?_, ?_, ?_, trivial⟩
          · intro f wA hb _ K hK
            have q0 := (KX.out.later hb).c 0 rfl
            have q1 := (KX.out.later hb).c 1 rfl
            have q2 := (KX.out.later hb).c 2 rfl
            have q3 := (KX.out.later hb).c 3 rfl
            have q4 := (KX.out.later hb).c 4 rfl
            have q5 := (KX.out.later hb).c 5 rfl
            have q6 := (KX.out.later hb).c 6 rfl
            simp only [over, overL, Nat.reduceAdd]
            go_simp
            exact hK _ _ ⟨_, rfl, by simp only [over, overL, Nat.reduceAdd]; rfl, Below.refl _ _⟩
          · intro f wA hb ⟨h91, _⟩ K hK
            replace h91 : f 91 = _ := h91
            simp only [over, overL, Nat.reduceAdd, h91]
            go_simp
            refine ((HLX.out wA hb).mono) ?_
            rintro e w2 ⟨rfl, hb2⟩
            exact hK _ _ ⟨_, rfl, by simp only [over, overL, Nat.reduceAdd, h91]; rfl, hb2⟩
          · intro f wA hb _ K hK
            have q0 := (KS.out.later hb).c 0 rfl
            have q1 := (KS.out.later hb).c 1 rfl
            have q2 := (KS.out.later hb).c 2 rfl
            have q3 := (KS.out.later hb).c 3 rfl
            have q4 := (KS.out.later hb).c 4 rfl
            have q5 := (KS.out.later hb).c 5 rfl
            have q6 := (KS.out.later hb).c 6 rfl
            simp only [over, overL, Nat.reduceAdd]
            go_simp
            exact hK _ _ ⟨_, rfl, by simp only [over, overL, Nat.reduceAdd]; rfl, Below.refl _ _⟩
          · intro f wA hb ⟨h93, _⟩ K hK
            replace h93 : f 93 = _ := h93
            simp only [over, overL, Nat.reduceAdd, h93]
            go_simp
            refine ((HLS.out wA hb).mono) ?_
            rintro e w2 ⟨rfl, hb2⟩
            exact hK _ _ ⟨_, rfl, by simp only [over, overL, Nat.reduceAdd, h93]; rfl, hb2⟩
          · intro f wA hb ⟨h92, h94, _⟩ K hK
            replace h92 : f 92 = _ := h92
            replace h94 : f 94 = _ := h94
            simp only [over, overL, Nat.reduceAdd, h92, h94]
            go_simp
            exact hK _ _ ⟨_, rfl, by simp only [over, overL, Nat.reduceAdd, h92, h94]; rfl, Below.refl _ _⟩
          · intro f wA hb ⟨h95, _⟩ K hK
            replace h95 : f 95 = _ := h95
            simp only [over, overL, Nat.reduceAdd, h95]
            go_simp
            exact hK _ _ ⟨_, rfl, by simp only [over, overL, Nat.reduceAdd, h95]; rfl, Below.refl _ _⟩
        intro f w9 hb hv
        have h6 : f 6 = _ := hv.2.2.2.2.2.1
        have HB9 : Hid (Below w.heap.size w w9) := HB7.out.trans (hb.mono HB7.out.size)
        clear hv hb
        simp only [over, overL, Nat.reduceAdd, h6]
        clear h6
        (try refine HKK.out _ _ ?_)
        go_wp2
        go_ret
        exact ⟨rfl, HB9.out⟩
end Go.Proofs.YtfadmpnpgiceeaaGreat
