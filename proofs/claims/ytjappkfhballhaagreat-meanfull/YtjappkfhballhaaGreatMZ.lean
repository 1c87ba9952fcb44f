/- Apply walked. -/
import Derived.Test.YtjappkfhballhaaGreatMY
namespace Go.Proofs.YtjappkfhballhaaGreat
open Go.RowKit Go.Maps

/-- Seven cells laid into a block. -/
abbrev put7 (w : World) (R : Nat) (t : Sm) : World := (((((((w).setCell ⟨R, 0, none⟩ (.slice t.aoW t.wl.length t.capW)).setCell ⟨R, 1, none⟩ (.bool t.tip)).setCell ⟨R, 2, none⟩ (.slice t.aoH t.held.length t.capH)).setCell ⟨R, 3, none⟩ (.slice t.aoT t.touched.length t.capT)).setCell ⟨R, 4, none⟩ (.int .i64 t.used)).setCell ⟨R, 5, none⟩ (.int .i64 t.heat)).setCell ⟨R, 6, none⟩ (.int .i64 t.clock)
theorem but_put7 (R : Nat) (w : World) (t : Sm) : But R R w (put7 w R t) :=
  ((((((but_set R R w 0 _).trans (but_set R R _ 1 _)).trans (but_set R R _ 2 _)).trans (but_set R R _ 3 _)).trans (but_set R R _ 4 _)).trans (but_set R R _ 5 _)).trans (but_set R R _ 6 _)
theorem blw_put7 {B R : Nat} {a w : World} (h : Below B a w) (hR : B ≤ R) (t : Sm) : Below B a (put7 w R t) :=
  ((((((h.setCell hR _).setCell hR _).setCell hR _).setCell hR _).setCell hR _).setCell hR _).setCell hR _
theorem SmHi.less {n n' : Nat} {t : Sm} (h : SmHi n t) (hn : n' ≤ n) : SmHi n' t :=
  ⟨h.row.imp id fun h a ha => Nat.le_trans hn (h a ha), fun x hx => (h.fl x hx).imp id fun h a ha => Nat.le_trans hn (h a ha), h.held.imp id fun h a ha => Nat.le_trans hn (h a ha), h.touched.imp id fun h a ha => Nat.le_trans hn (h a ha)⟩
theorem SmHi.zero (n : Nat) : SmHi n sm0 := ⟨.inl rfl, (fun x hx => by cases hx), .inl rfl, .inl rfl⟩
set_option maxHeartbeats 6400000 in
set_option maxRecDepth 100000 in
theorem apply_any (ao : Option Addr) (cap : Nat) (l : List Sit) (s : Sm) (a : Acn) (w : World) (hD : Dk w ao cap l) (hln : l.length ≤ 9223372036854775807) (hS : SmIn w s) (hl : SmLen s) (hlab : a.label.size ≤ maxLen) (hkd : (Lit.int .i64 a.kind).wf = true) :
    Calls Tryz.prog 11 #[.slice ao l.length cap, smv s, av a] w fun e w' => ∃ t : Sm, e = .returned (.tuple #[smv t, .int .i64 (applyR l s.st a).2]) ∧ t.st = (applyR l s.st a).1 ∧ SmIn w' t ∧ SmHi w.heap.size t ∧ Below w.heap.size w w' := by
  obtain ⟨w0, hw0⟩ : ∃ w0, w0 = ((w.alloc (smo s)).alloc (aobj a)).alloc (.cells z7.toArray 27) := ⟨_, rfl⟩
  have b0 : Below w.heap.size w w0 := by rw [hw0]; exact (((Below.refl _ _).alloc (Nat.le_refl _) _).alloc (by simp) _).alloc (by simp; omega) _
  have KS0 : Hid (Bk w.heap.size (sml s) w0) := by
    show Bk _ _ _
    rw [hw0]
    exact ((Bk.new w (sml s) 27 w.heap.size rfl).later ((Below.refl _ _).alloc (Nat.le_refl _) _)).later ((Below.refl _ _).alloc (Nat.le_refl _) _)
  have KA0 : Hid (Bk (w.heap.size + 1) (acl a) w0) := by
    show Bk _ _ _
    rw [hw0]
    exact (Bk.new _ (acl a) 33 (w.heap.size + 1) (by simp)).later ((Below.refl _ _).alloc (Nat.le_refl _) _)
  have KR0 : Hid (Bk (w.heap.size + 2) z7 w0) := by show Bk _ _ _; rw [hw0]; exact Bk.new _ z7 27 (w.heap.size + 2) (by simp)
  have HB0 : Hid (Below w.heap.size w w0) := b0
  have HW0 : Hid (w0 = _) := hw0
  have HD0 : Hid (Dk w0 ao cap l) := hD.next b0
  have HS0 : Hid (SmIn w0 s) := hS.next b0
  have HLB : Hid (a.label.size ≤ maxLen) := hlab
  have HKD : Hid ((Lit.int .i64 a.kind).wf = true) := hkd
  have HMF := (show Hid _ from mayF_any ao cap l s w0 HD0.out hln HS0.out hl)
  clear hD hS hl hlab hkd hw0 b0
  go_enter Tryz.func11, Tryz.ntmps11
  go_wp2_with fail
  rw [← HW0.out]
  refine Calls.mono HMF.out ?_
  rintro e w1 ⟨rfl, hb1⟩
  have KS1 : Hid (Bk w.heap.size (sml s) w1) := KS0.out.later hb1
  have KA1 : Hid (Bk (w.heap.size + 1) (acl a) w1) := KA0.out.later hb1
  have KR1 : Hid (Bk (w.heap.size + 2) z7 w1) := KR0.out.later hb1
  have HB1 : Hid (Below w.heap.size w w1) := HB0.out.trans (hb1.mono HB0.out.size)
  have HD1 : Hid (Dk w1 ao cap l) := HD0.out.next hb1
  have HS1 : Hid (SmIn w1 s) := HS0.out.next hb1
  clear hb1 HMF HD0 HS0 KS0 KA0 KR0 HB0
  cases hm : mayS l s.st with
  | false =>
    have HQ : Hid (applyR l s.st a = (sta0, 17)) := by show _ = _; unfold applyR; rw [if_neg (by rw [hm]; decide)]
    have r0 := (KR1.out).c 0 rfl
    have rf0 := (KR1.out).f 0 rfl
    have r1 := (KR1.out).c 1 rfl
    have rf1 := (KR1.out).f 1 rfl
    have r2 := (KR1.out).c 2 rfl
    have rf2 := (KR1.out).f 2 rfl
    have r3 := (KR1.out).c 3 rfl
    have rf3 := (KR1.out).f 3 rfl
    have r4 := (KR1.out).c 4 rfl
    have rf4 := (KR1.out).f 4 rfl
    have r5 := (KR1.out).c 5 rfl
    have rf5 := (KR1.out).f 5 rfl
    have r6 := (KR1.out).c 6 rfl
    have rf6 := (KR1.out).f 6 rfl
    have lt1 := KR1.out.1
    clear hm
    go_wp2
    refine bodyPost_ret (v := .tuple #[smv sm0, .int .i64 17]) (by simp [results, Tryz.results11, go_sem, r0, r1, r2, r3, r4, r5, r6]) rfl ⟨sm0, ?_, ?_, ?_, ?_, ?_⟩
    · rw [HQ.out]
    · rw [HQ.out]; rfl
    · exact SmIn.zero _
    · exact SmHi.zero _
    · exact blw_put7 HB1.out (by omega) sm0
  | true =>
    have hm2 := hm
    unfold mayS at hm2
    simp only [Bool.and_eq_true, decide_eq_true_eq] at hm2
    have HDC : Hid (dchk l = 0) := hm2.1
    have HMY : Hid (May l s.st) := mayB_iff.1 hm2.2
    have HAQ : Hid (applyR l s.st a = if (doA l s.st a).2 = 0 then ((doA l s.st a).1, 0) else (sta0, (doA l s.st a).2)) := by show _ = _; unfold applyR; rw [if_pos hm]
    clear hm hm2
    have q0 := (KS1.out).c 0 rfl
    have q1 := (KS1.out).c 1 rfl
    have q2 := (KS1.out).c 2 rfl
    have q3 := (KS1.out).c 3 rfl
    have q4 := (KS1.out).c 4 rfl
    have q5 := (KS1.out).c 5 rfl
    have q6 := (KS1.out).c 6 rfl
    go_wp2_with fail
    refine (newBench_any ao cap l s w1 HD1.out HDC.out HS1.out HMY.out).mono ?_
    rintro e w2 ⟨b, m, md, rfl, hB⟩
    have HBn2 : Hid (Bn w1 w2 ao cap l b m md s.st) := hB
    have KA2 : Hid (Bk (w.heap.size + 1) (acl a) w2) := KA1.out.later hB.below
    clear hB q0 q1 q2 q3 q4 q5 q6
    have q0 := (KA2.out).c 0 rfl
    have q1 := (KA2.out).c 1 rfl
    have q2 := (KA2.out).c 2 rfl
    have q3 := (KA2.out).c 3 rfl
    have q4 := (KA2.out).c 4 rfl
    have q5 := (KA2.out).c 5 rfl
    have q6 := (KA2.out).c 6 rfl
    have q7 := (KA2.out).c 7 rfl
    go_wp2_with fail
    refine (do_any w1 w2 ao cap l b m md s.st a HBn2.out HLB.out HKD.out).mono ?_
    rintro e w3 ⟨rfl, hB⟩
    obtain ⟨⟨s', e1⟩, hdq⟩ : ∃ x, doA l s.st a = x := ⟨_, rfl⟩
    have HDQ : Hid (doA l s.st a = (s', e1)) := hdq
    rw [hdq] at hB
    rw [hdq]
    simp only at hB
    have HBn3 : Hid (Bn w1 w3 ao cap l b m md s') := hB
    have KR3 : Hid (Bk (w.heap.size + 2) z7 w3) := KR1.out.later hB.below
    have HB3 : Hid (Below w.heap.size w w3) := HB1.out.trans (hB.below.mono HB1.out.size)
    clear hB hdq q0 q1 q2 q3 q4 q5 q6 q7
    simp only
    by_cases he : e1 = 0
    · subst he
      have HQ : Hid (applyR l s.st a = (s', 0)) := by show _ = _; rw [HAQ.out, HDQ.out]; rfl
      go_wp2_with fail
      refine (told_any w1 w3 ao cap l b m md s' HBn3.out).mono ?_
      rintro e w4 ⟨t, rfl, hst, hin, hhi, hb4⟩
      have KR4 : Hid (Bk (w.heap.size + 2) z7 w4) := KR3.out.later hb4
      have HST : Hid (t.st = s') := hst
      have HIN : Hid (SmIn w4 t) := hin
      have HHI : Hid (SmHi w3.heap.size t) := hhi
      have HB4 : Hid (Below w.heap.size w w4) := HB3.out.trans (hb4.mono HB3.out.size)
      have l3 := KR3.out.1
      clear hst hin hhi hb4
      have r0 := (KR4.out).c 0 rfl
      have rf0 := (KR4.out).f 0 rfl
      have r1 := (KR4.out).c 1 rfl
      have rf1 := (KR4.out).f 1 rfl
      have r2 := (KR4.out).c 2 rfl
      have rf2 := (KR4.out).f 2 rfl
      have r3 := (KR4.out).c 3 rfl
      have rf3 := (KR4.out).f 3 rfl
      have r4 := (KR4.out).c 4 rfl
      have rf4 := (KR4.out).f 4 rfl
      have r5 := (KR4.out).c 5 rfl
      have rf5 := (KR4.out).f 5 rfl
      have r6 := (KR4.out).c 6 rfl
      have rf6 := (KR4.out).f 6 rfl
      have lt1 := KR4.out.1
      go_wp2
      refine bodyPost_ret (v := .tuple #[smv t, .int .i64 0]) (by simp [results, Tryz.results11, go_sem, r0, r1, r2, r3, r4, r5, r6]) rfl ⟨t, ?_, ?_, ?_, ?_, ?_⟩
      · rw [HQ.out]
      · rw [HQ.out]; exact HST.out
      · exact HIN.out.but HHI.out (but_put7 (w.heap.size + 2) w4 t) l3 l3
      · exact HHI.out.less (by omega)
      · exact blw_put7 HB4.out (by omega) t
    · have h2 : (e1 == 0) = false := by simp [he]
      have h3 : (e1 != 0) = true := by simp [he]
      have HQ : Hid (applyR l s.st a = (sta0, e1)) := by show _ = _; rw [HAQ.out, HDQ.out]; exact if_neg he
      have r0 := (KR3.out).c 0 rfl
      have rf0 := (KR3.out).f 0 rfl
      have r1 := (KR3.out).c 1 rfl
      have rf1 := (KR3.out).f 1 rfl
      have r2 := (KR3.out).c 2 rfl
      have rf2 := (KR3.out).f 2 rfl
      have r3 := (KR3.out).c 3 rfl
      have rf3 := (KR3.out).f 3 rfl
      have r4 := (KR3.out).c 4 rfl
      have rf4 := (KR3.out).f 4 rfl
      have r5 := (KR3.out).c 5 rfl
      have rf5 := (KR3.out).f 5 rfl
      have r6 := (KR3.out).c 6 rfl
      have rf6 := (KR3.out).f 6 rfl
      have lt1 := KR3.out.1
      clear he
      go_wp2
      refine bodyPost_ret (v := .tuple #[smv sm0, .int .i64 e1]) (by simp [results, Tryz.results11, go_sem, r0, r1, r2, r3, r4, r5, r6]) rfl ⟨sm0, ?_, ?_, ?_, ?_, ?_⟩
      · rw [HQ.out]
      · rw [HQ.out]; rfl
      · exact SmIn.zero _
      · exact SmHi.zero _
      · exact blw_put7 HB3.out (by omega) sm0
end Go.Proofs.YtjappkfhballhaaGreat
