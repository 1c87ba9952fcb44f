/- readBody walked. -/
import Derived.Test.YtiafppmpjmpdmaaDoorCJ
namespace Go.Proofs.YtiafppmpjmpdmaaDoor
open Go.RowKit Go.Shelf

theorem len_take (t : List UInt8) (s : Rd) : (takeR t s).1.length ≤ s.1.length := Lib.trimPrefix_le _ _
theorem len_num (m : Nat) (s : Rd) : (numR m s).1.length ≤ s.1.length := Nat.le_trans (leftN_le s.1) (unsg_le s.1)
theorem len_rest (s : Rd) : (restR s).1.length ≤ s.1.length := by unfold restR; simp
theorem len_pR (k i : Nat) (s : Rd) : (pR k i s).1.length ≤ s.1.length := by
  unfold pR
  split
  · exact Nat.le_refl _
  · exact Nat.le_trans (len_num _ _) (len_take _ _)
theorem len_sR (k : Nat) (s : Rd) : ∀ i, (sR k s i).1.length ≤ s.1.length
  | 0 => Nat.le_refl _
  | i + 1 => Nat.le_trans (len_pR k i _) (len_sR k s i)
/-- The numbers that are told so far. -/
def nmL (f : Nat → Int) (j : Nat) : List Value := [.int .i64 (if 0 < j then f 0 else 0), .int .i64 (if 1 < j then f 1 else 0), .int .i64 (if 2 < j then f 2 else 0), .int .i64 (if 3 < j then f 3 else 0)]
theorem jx0 (a b c d : List UInt8) (w : World) : (Instr.index 45 (.agg #[sA a, sA b, sA c, sA d]) (.int .i64 0)).run Tryd.prog w = .ok (sA a) w := by kernel_rfl
theorem jx1 (a b c d : List UInt8) (w : World) : (Instr.index 45 (.agg #[sA a, sA b, sA c, sA d]) (.int .i64 1)).run Tryd.prog w = .ok (sA b) w := by kernel_rfl
theorem jx2 (a b c d : List UInt8) (w : World) : (Instr.index 45 (.agg #[sA a, sA b, sA c, sA d]) (.int .i64 2)).run Tryd.prog w = .ok (sA c) w := by kernel_rfl
theorem jx3 (a b c d : List UInt8) (w : World) : (Instr.index 45 (.agg #[sA a, sA b, sA c, sA d]) (.int .i64 3)).run Tryd.prog w = .ok (sA d) w := by kernel_rfl
abbrev z5 : List Value := c5 0 0 0 0 0
theorem take_raw (r : Nat) (s : Rd) (t : List UInt8) (w : World) (h : Rb r s w) : Calls Tryd.prog 40 #[ptr r, .string ((⟨#[32]⟩ : ByteArray) ++ ⟨t.toArray⟩)] w fun e w' => e = .returned (.tuple #[]) ∧ Rb r (takeR (32 :: t) s) w' ∧ Kr r w w' := by
  rw [show (⟨#[32]⟩ : ByteArray) ++ ⟨t.toArray⟩ = ⟨(32 :: t).toArray⟩ from cat_arr [32] t]
  exact take_any r s (32 :: t) w h
/-- The memory of readBody: the result's block, the reader's, what else is kept. -/
structure Bd (w : World) (A r : Nat) (s : Rd) (W : World) : Prop where
  rd : Rb r s W
  res : Bk A z5 W
  tall : Tall W
  low : Below w.heap.size w W
theorem Bd.kept {w : World} {A r : Nat} {s s' : Rd} {W W' : World} (h : Bd w A r s W) (hR : Rb r s' W') (hK : Kr r W W') (h9 : 9 ≤ r) (hA : A ≠ r) (hw : w.heap.size ≤ r) : Bd w A r s' W' :=
  ⟨hR, bk_kpt h.res hK hA, h.tall.kept hK (fun k hk => by omega), h.low.trans (hK.below h.low.size fun k hk => by omega)⟩
theorem Bd.later {w : World} {A r : Nat} {s : Rd} {W W' : World} (h : Bd w A r s W) (hb : Below W.heap.size W W') : Bd w A r s W' :=
  ⟨h.rd.later hb, h.res.later hb, h.tall.later hb, h.low.trans (hb.mono h.low.size)⟩
theorem Bd.put {w : World} {A r q : Nat} {s : Rd} {W : World} (h : Bd w A r s W) (hr : q ≠ r) (hA : q ≠ A) (hw : w.heap.size ≤ q) (h9 : 9 ≤ q) (j : Nat) (v : Value) : Bd w A r s (W.setCell ⟨q, j, none⟩ v) :=
  ⟨h.rd.other (fun e => hr e.symm) j v, h.res.other (fun e => hA e.symm) j v, h.tall.kept (Kpt.set (M := fun k => k = q) rfl j v) (fun k hk => by omega), h.low.setCell hw v⟩
set_option maxHeartbeats 6400000 in
set_option maxRecDepth 100000 in
theorem readBody_any (l : List UInt8) (w : World) (hl : l.length < 4294967281) (hT : Tall w) : Calls Tryd.prog 22 #[sA l] w fun e w' => e = .returned (.tuple #[.int .i64 (bN l), cm (bK l) (bX l 0) (bX l 1) (bX l 2) (bX l 3), .bool (bOk l)]) ∧ Below w.heap.size w w' := by
  have HB0 : Hid (Below w.heap.size w ((w.alloc (o5 0 0 0 0 0)).alloc (.cells #[sA l, .bool false] 76))) := ((Below.refl _ _).alloc (Nat.le_refl _) _).alloc (by simp) _
  have HD0 : Hid (Bd w w.heap.size (w.heap.size + 1) (l, false) ((w.alloc (o5 0 0 0 0 0)).alloc (.cells #[sA l, .bool false] 76))) :=
    ⟨Bk.new (w.alloc (o5 0 0 0 0 0)) [sA l, .bool false] 76 _ (by simp), (Bk.new w z5 23 _ rfl).later ((Below.refl _ _).alloc (Nat.le_refl _) _), hT.later HB0.out, HB0.out⟩
  have h90 := hT.tabs.size
  have HL1 : Hid ((takeR [78] (l, false)).1.length < 4294967281) := Nat.lt_of_le_of_lt (len_take [78] (l, false)) hl
  have HLa : Hid ((aheadR l).1.length < 4294967281) := Nat.lt_of_le_of_lt (Nat.le_trans (len_take _ _) (Nat.le_trans (len_num _ _) (len_take _ _))) hl
  have HLb : Hid (∀ i, (sR (bK l) (bR l) i).1.length < 4294967281) := fun i => Nat.lt_of_le_of_lt (Nat.le_trans (len_sR _ _ i) (len_rest _)) HLa.out
  have HeA : Hid (aheadR l = takeR [32] (numR 10 (takeR [78] (l, false)))) := rfl
  have HeN : Hid (bN l = (numV 10 (takeR [78] (l, false)).1).1) := rfl
  have HeK : Hid (bK l = kindR (wordR (aheadR l))) := rfl
  have HeR : Hid (bR l = restR (aheadR l)) := rfl
  have HeX : Hid (∀ i, bX l i = sN (bK l) (bR l) i) := fun _ => rfl
  have HeO : Hid (bOk l = (doneR (sR (bK l) (bR l) 4) && decide (bK l ≠ 0))) := rfl
  have HK8 : Hid (bK l ≤ 8) := kind_le _
  rw [HeN.out, HeO.out, HeX.out, HeX.out, HeX.out, HeX.out]
  generalize bK l = k at *
  generalize bR l = s0 at *
  clear hT hl HB0 HeN HeX HeO
  go_enter Tryd.func22, Tryd.ntmps22
  go_wp2_with fail
  generalize (w.alloc (o5 0 0 0 0 0)).alloc (.cells #[sA l, .bool false] 76) = w0 at *
  obtain ⟨r, hr⟩ : ∃ r, r = w.heap.size + 1 := ⟨_, rfl⟩
  obtain ⟨A, hA⟩ : ∃ A, A = w.heap.size := ⟨_, rfl⟩
  have HD : Hid (Bd w A r (l, false) w0) := by show Bd _ _ _ _ _; rw [hr, hA]; exact HD0.out
  simp only [← hr]
  simp only [← hA]
  have h9 : 9 ≤ r := by omega
  have hAr : A ≠ r := by omega
  have hwr : w.heap.size ≤ r := by omega
  have hwA : w.heap.size ≤ A := by omega
  clear hr hA HD0 h90
  refine (take_any r (l, false) [78] _ HD.out.rd).mono ?_
  rintro e w1 ⟨rfl, hR, hK⟩
  have HD1 : Hid (Bd w A r (takeR [78] (l, false)) w1) := HD.out.kept hR hK h9 hAr hwr
  clear hR hK HD
  generalize h1 : takeR [78] (l, false) = s1 at *
  have HE1 : Hid (takeR [78] (l, false) = s1) := h1
  clear h1
  go_wp2_with fail
  refine (number_any r 10 s1 _ HD1.out.rd HL1.out (by decide) h9 HD1.out.tall).mono ?_
  rintro e w2 ⟨rfl, hR, hK⟩
  have HD2 : Hid (Bd w A r (numR 10 s1) w2) := HD1.out.kept hR hK h9 hAr hwr
  clear hR hK HD1 HL1
  generalize numR 10 s1 = s2 at *
  generalize hn : (numV 10 s1.1).1 = n at *
  have HEn : Hid ((numV 10 s1.1).1 = n) := hn
  clear hn
  go_wp2_with fail
  refine (take_any r s2 [32] _ HD2.out.rd).mono ?_
  rintro e w3 ⟨rfl, hR, hK⟩
  have HD3 : Hid (Bd w A r (takeR [32] s2) w3) := HD2.out.kept hR hK h9 hAr hwr
  clear hR hK HD2
  rw [← HeA.out] at HD3
  clear HeA
  generalize aheadR l = s3 at *
  go_wp2_with fail
  refine (word_any r s3 _ HD3.out.rd HLa.out HD3.out.tall).mono ?_
  rintro e w4 ⟨rfl, hR, hK⟩
  have HD4 : Hid (Bd w A r (restR s3) w4) := HD3.out.kept hR hK h9 hAr hwr
  clear hR hK HD3
  rw [← HeR.out] at HD4
  clear HeR HLa
  generalize wordR s3 = wo at *
  go_wp2_with fail
  refine (kindOf_any wo _ HD4.out.tall.tabs.words).mono ?_
  rintro e w5 ⟨rfl, hw⟩
  subst hw
  rw [← HeK.out]
  clear HeK
  have k9 : (k : Int) < 9 := by have := HK8.out; omega
  have q1 : w5.cell? ⟨0, k * 5 + 1, none⟩ = some (sA (letW k 0)) := HD4.out.tall.tabs.words.letter k 0 (by have := HK8.out; omega) (by decide)
  have q2 : w5.cell? ⟨0, k * 5 + 1 + 1, none⟩ = some (sA (letW k 1)) := HD4.out.tall.tabs.words.letter k 1 (by have := HK8.out; omega) (by decide)
  have q3 : w5.cell? ⟨0, k * 5 + 1 + 2, none⟩ = some (sA (letW k 2)) := HD4.out.tall.tabs.words.letter k 2 (by have := HK8.out; omega) (by decide)
  have q4 : w5.cell? ⟨0, k * 5 + 1 + 3, none⟩ = some (sA (letW k 3)) := HD4.out.tall.tabs.words.letter k 3 (by have := HK8.out; omega) (by decide)
  have hz : 0 < w5.heap.size := by have := HD4.out.tall.tabs.size; omega
  have HQ0 : Hid (Bk w5.heap.size (nmL (sN k s0) 0) (w5.alloc (o4 0 0 0 0))) := Bk.new w5 (nmL (sN k s0) 0) 42 _ rfl
  have HD5 : Hid (Bd w A r s0 (w5.alloc (o4 0 0 0 0))) := HD4.out.later ((Below.refl _ _).alloc (Nat.le_refl _) _)
  have hq9 : r < w5.heap.size := HD4.out.rd.1
  have hqA : A < w5.heap.size := HD4.out.res.1
  go_wp2_with fail
  clear q1 q2 q3 q4 hz
  generalize w5.alloc (o4 0 0 0 0) = w6 at *
  obtain ⟨q, hq⟩ : ∃ q, q = w5.heap.size := ⟨_, rfl⟩
  rw [← hq] at HQ0
  simp only [← hq]
  have hqr : q ≠ r := by omega
  have hqA2 : q ≠ A := by omega
  have hwq : w.heap.size ≤ q := by omega
  have hq0 : 9 ≤ q := by omega
  clear hq hq9 hqA HD4
  have i0 := jx0 (letW k 0) (letW k 1) (letW k 2) (letW k 3)
  have i1 := jx1 (letW k 0) (letW k 1) (letW k 2) (letW k 3)
  have i2 := jx2 (letW k 0) (letW k 1) (letW k 2) (letW k 3)
  have i3 := jx3 (letW k 0) (letW k 1) (letW k 2) (letW k 3)
  go_loopw [22] (fun i wr => ∃ j : Nat, j ≤ 4 ∧ i = .int .i64 j ∧ Hid (Bd w A r (sR k s0 j) wr ∧ Bk q (nmL (sN k s0) j) wr)) (fun i _ => 4 - (intOf i).toNat)
  case atStart => exact ⟨0, by omega, rfl, (show Hid _ from ⟨HD5.out, HQ0.out⟩)⟩
  case round =>
    obtain ⟨j, hj4, rfl, HG⟩ := hrel
    have HDr : Hid (Bd w A r (sR k s0 j) wr) := HG.out.1
    have HQr : Hid (Bk q (nmL (sN k s0) j) wr) := HG.out.2
    rcases (show j = 0 ∨ j = 1 ∨ j = 2 ∨ j = 3 ∨ j = 4 by omega) with e | e | e | e | e
    · subst e
      have HS : Hid (sR k s0 1 = pR k 0 (sR k s0 0)) := rfl
      have HNj : Hid (sN k s0 0 = pN k 0 (sR k s0 0)) := rfl
      have HLj : Hid ((sR k s0 0).1.length < 4294967281) := HLb.out 0
      have HX : Hid ((nmL (sN k s0) 0).set 0 (.int .i64 (sN k s0 0)) = nmL (sN k s0) 1) := rfl
      by_cases hl : letW k 0 = []
      · have HE : Hid (sR k s0 1 = sR k s0 0) := by show _ = _; rw [HS.out]; unfold pR; rw [if_pos hl]
        have HZ : Hid (nmL (sN k s0) 1 = nmL (sN k s0) 0) := by
          have h0 : sN k s0 0 = 0 := by rw [HNj.out]; unfold pN; rw [if_pos hl]
          show _ = _
          rw [← HX.out, h0]; rfl
        have i9 : ∀ W : World, (Instr.index 45 (.agg #[sA (letW k 0), sA (letW k 1), sA (letW k 2), sA (letW k 3)]) (.int .i64 0)).run Tryd.prog W = .ok (.string ⟨#[]⟩) W := fun W => by rw [i0 W, hl]
        clear hl i0
        go_wp2
        go_roundw
        case rel => exact ⟨1, by omega, by go_num, (show Hid _ from ⟨by rw [HE.out]; exact HDr.out, by rw [HZ.out]; exact HQr.out⟩)⟩
        case measure => simp [intOf]
      · have HE : Hid (sR k s0 1 = numR 10 (takeR (32 :: letW k 0) (sR k s0 0))) := by show _ = _; rw [HS.out]; unfold pR; rw [if_neg hl]
        have HZ : Hid (sN k s0 0 = (numV 10 (takeR (32 :: letW k 0) (sR k s0 0)).1).1) := by show _ = _; rw [HNj.out]; unfold pN; rw [if_neg hl]
        have p1 : (([] : List UInt8) == letW k 0) = false := by rw [beq_eq_false_iff_ne]; exact fun h => hl h.symm
        have p2 : (letW k 0 == []) = false := by rw [beq_eq_false_iff_ne]; exact hl
        have p3 : (letW k 0).isEmpty = false := by simpa using hl
        have p4 : (letW k 0).length ≤ 1 := let_len k 0
        clear hl
        go_wp2_with fail
        refine (take_raw r (sR k s0 0) (letW k 0) _ HDr.out.rd).mono ?_
        rintro e w7 ⟨rfl, hR, hK⟩
        have HD7 : Hid (Bd w A r (takeR (32 :: letW k 0) (sR k s0 0)) w7) := HDr.out.kept hR hK h9 hAr hwr
        have HQ7 : Hid (Bk q (nmL (sN k s0) 0) w7) := bk_kpt HQr.out hK hqr
        have HL7 : Hid ((takeR (32 :: letW k 0) (sR k s0 0)).1.length < 4294967281) := Nat.lt_of_le_of_lt (len_take _ _) HLj.out
        clear hR hK p1 p2 p3 p4
        generalize takeR (32 :: letW k 0) (sR k s0 0) = s7 at *
        go_wp2_with fail
        refine (number_any r 10 s7 _ HD7.out.rd HL7.out (by decide) h9 HD7.out.tall).mono ?_
        rintro e w8 ⟨rfl, hR, hK⟩
        have HD8 : Hid (Bd w A r (numR 10 s7) w8) := HD7.out.kept hR hK h9 hAr hwr
        have HQ8 : Hid (Bk q (nmL (sN k s0) 0) w8) := bk_kpt HQ7.out hK hqr
        clear hR hK
        rw [← HE.out] at HD8
        rw [← HZ.out]
        have c := HQ8.out.c 0 rfl
        have f := HQ8.out.f 0 rfl
        have HD9 : Hid (Bd w A r (sR k s0 1) (w8.setCell ⟨q, 0, none⟩ (.int .i64 (sN k s0 0)))) := HD8.out.put hqr hqA2 hwq hq0 0 _
        have HQ9 : Hid (Bk q (nmL (sN k s0) 1) (w8.setCell ⟨q, 0, none⟩ (.int .i64 (sN k s0 0)))) := by
          show Bk _ _ _
          rw [← HX.out]; exact HQ8.out.put 0 _
        go_wp2
        go_roundw
        case rel => exact ⟨1, by omega, by go_num, (show Hid _ from ⟨HD9.out, HQ9.out⟩)⟩
        case measure => simp [intOf]
    · subst e
      have HS : Hid (sR k s0 2 = pR k 1 (sR k s0 1)) := rfl
      have HNj : Hid (sN k s0 1 = pN k 1 (sR k s0 1)) := rfl
      have HLj : Hid ((sR k s0 1).1.length < 4294967281) := HLb.out 1
      have HX : Hid ((nmL (sN k s0) 1).set 1 (.int .i64 (sN k s0 1)) = nmL (sN k s0) 2) := rfl
      by_cases hl : letW k 1 = []
      · have HE : Hid (sR k s0 2 = sR k s0 1) := by show _ = _; rw [HS.out]; unfold pR; rw [if_pos hl]
        have HZ : Hid (nmL (sN k s0) 2 = nmL (sN k s0) 1) := by
          have h0 : sN k s0 1 = 0 := by rw [HNj.out]; unfold pN; rw [if_pos hl]
          show _ = _
          rw [← HX.out, h0]; rfl
        have i9 : ∀ W : World, (Instr.index 45 (.agg #[sA (letW k 0), sA (letW k 1), sA (letW k 2), sA (letW k 3)]) (.int .i64 1)).run Tryd.prog W = .ok (.string ⟨#[]⟩) W := fun W => by rw [i1 W, hl]
        clear hl i1
        go_wp2
        go_roundw
        case rel => exact ⟨2, by omega, by go_num, (show Hid _ from ⟨by rw [HE.out]; exact HDr.out, by rw [HZ.out]; exact HQr.out⟩)⟩
        case measure => simp [intOf]
      · have HE : Hid (sR k s0 2 = numR 10 (takeR (32 :: letW k 1) (sR k s0 1))) := by show _ = _; rw [HS.out]; unfold pR; rw [if_neg hl]
        have HZ : Hid (sN k s0 1 = (numV 10 (takeR (32 :: letW k 1) (sR k s0 1)).1).1) := by show _ = _; rw [HNj.out]; unfold pN; rw [if_neg hl]
        have p1 : (([] : List UInt8) == letW k 1) = false := by rw [beq_eq_false_iff_ne]; exact fun h => hl h.symm
        have p2 : (letW k 1 == []) = false := by rw [beq_eq_false_iff_ne]; exact hl
        have p3 : (letW k 1).isEmpty = false := by simpa using hl
        have p4 : (letW k 1).length ≤ 1 := let_len k 1
        clear hl
        go_wp2_with fail
        refine (take_raw r (sR k s0 1) (letW k 1) _ HDr.out.rd).mono ?_
        rintro e w7 ⟨rfl, hR, hK⟩
        have HD7 : Hid (Bd w A r (takeR (32 :: letW k 1) (sR k s0 1)) w7) := HDr.out.kept hR hK h9 hAr hwr
        have HQ7 : Hid (Bk q (nmL (sN k s0) 1) w7) := bk_kpt HQr.out hK hqr
        have HL7 : Hid ((takeR (32 :: letW k 1) (sR k s0 1)).1.length < 4294967281) := Nat.lt_of_le_of_lt (len_take _ _) HLj.out
        clear hR hK p1 p2 p3 p4
        generalize takeR (32 :: letW k 1) (sR k s0 1) = s7 at *
        go_wp2_with fail
        refine (number_any r 10 s7 _ HD7.out.rd HL7.out (by decide) h9 HD7.out.tall).mono ?_
        rintro e w8 ⟨rfl, hR, hK⟩
        have HD8 : Hid (Bd w A r (numR 10 s7) w8) := HD7.out.kept hR hK h9 hAr hwr
        have HQ8 : Hid (Bk q (nmL (sN k s0) 1) w8) := bk_kpt HQ7.out hK hqr
        clear hR hK
        rw [← HE.out] at HD8
        rw [← HZ.out]
        have c := HQ8.out.c 1 rfl
        have f := HQ8.out.f 1 rfl
        have HD9 : Hid (Bd w A r (sR k s0 2) (w8.setCell ⟨q, 1, none⟩ (.int .i64 (sN k s0 1)))) := HD8.out.put hqr hqA2 hwq hq0 1 _
        have HQ9 : Hid (Bk q (nmL (sN k s0) 2) (w8.setCell ⟨q, 1, none⟩ (.int .i64 (sN k s0 1)))) := by
          show Bk _ _ _
          rw [← HX.out]; exact HQ8.out.put 1 _
        go_wp2
        go_roundw
        case rel => exact ⟨2, by omega, by go_num, (show Hid _ from ⟨HD9.out, HQ9.out⟩)⟩
        case measure => simp [intOf]
    · subst e
      have HS : Hid (sR k s0 3 = pR k 2 (sR k s0 2)) := rfl
      have HNj : Hid (sN k s0 2 = pN k 2 (sR k s0 2)) := rfl
      have HLj : Hid ((sR k s0 2).1.length < 4294967281) := HLb.out 2
      have HX : Hid ((nmL (sN k s0) 2).set 2 (.int .i64 (sN k s0 2)) = nmL (sN k s0) 3) := rfl
      by_cases hl : letW k 2 = []
      · have HE : Hid (sR k s0 3 = sR k s0 2) := by show _ = _; rw [HS.out]; unfold pR; rw [if_pos hl]
        have HZ : Hid (nmL (sN k s0) 3 = nmL (sN k s0) 2) := by
          have h0 : sN k s0 2 = 0 := by rw [HNj.out]; unfold pN; rw [if_pos hl]
          show _ = _
          rw [← HX.out, h0]; rfl
        have i9 : ∀ W : World, (Instr.index 45 (.agg #[sA (letW k 0), sA (letW k 1), sA (letW k 2), sA (letW k 3)]) (.int .i64 2)).run Tryd.prog W = .ok (.string ⟨#[]⟩) W := fun W => by rw [i2 W, hl]
        clear hl i2
        go_wp2
        go_roundw
        case rel => exact ⟨3, by omega, by go_num, (show Hid _ from ⟨by rw [HE.out]; exact HDr.out, by rw [HZ.out]; exact HQr.out⟩)⟩
        case measure => simp [intOf]
      · have HE : Hid (sR k s0 3 = numR 10 (takeR (32 :: letW k 2) (sR k s0 2))) := by show _ = _; rw [HS.out]; unfold pR; rw [if_neg hl]
        have HZ : Hid (sN k s0 2 = (numV 10 (takeR (32 :: letW k 2) (sR k s0 2)).1).1) := by show _ = _; rw [HNj.out]; unfold pN; rw [if_neg hl]
        have p1 : (([] : List UInt8) == letW k 2) = false := by rw [beq_eq_false_iff_ne]; exact fun h => hl h.symm
        have p2 : (letW k 2 == []) = false := by rw [beq_eq_false_iff_ne]; exact hl
        have p3 : (letW k 2).isEmpty = false := by simpa using hl
        have p4 : (letW k 2).length ≤ 1 := let_len k 2
        clear hl
        go_wp2_with fail
        refine (take_raw r (sR k s0 2) (letW k 2) _ HDr.out.rd).mono ?_
        rintro e w7 ⟨rfl, hR, hK⟩
        have HD7 : Hid (Bd w A r (takeR (32 :: letW k 2) (sR k s0 2)) w7) := HDr.out.kept hR hK h9 hAr hwr
        have HQ7 : Hid (Bk q (nmL (sN k s0) 2) w7) := bk_kpt HQr.out hK hqr
        have HL7 : Hid ((takeR (32 :: letW k 2) (sR k s0 2)).1.length < 4294967281) := Nat.lt_of_le_of_lt (len_take _ _) HLj.out
        clear hR hK p1 p2 p3 p4
        generalize takeR (32 :: letW k 2) (sR k s0 2) = s7 at *
        go_wp2_with fail
        refine (number_any r 10 s7 _ HD7.out.rd HL7.out (by decide) h9 HD7.out.tall).mono ?_
        rintro e w8 ⟨rfl, hR, hK⟩
        have HD8 : Hid (Bd w A r (numR 10 s7) w8) := HD7.out.kept hR hK h9 hAr hwr
        have HQ8 : Hid (Bk q (nmL (sN k s0) 2) w8) := bk_kpt HQ7.out hK hqr
        clear hR hK
        rw [← HE.out] at HD8
        rw [← HZ.out]
        have c := HQ8.out.c 2 rfl
        have f := HQ8.out.f 2 rfl
        have HD9 : Hid (Bd w A r (sR k s0 3) (w8.setCell ⟨q, 2, none⟩ (.int .i64 (sN k s0 2)))) := HD8.out.put hqr hqA2 hwq hq0 2 _
        have HQ9 : Hid (Bk q (nmL (sN k s0) 3) (w8.setCell ⟨q, 2, none⟩ (.int .i64 (sN k s0 2)))) := by
          show Bk _ _ _
          rw [← HX.out]; exact HQ8.out.put 2 _
        go_wp2
        go_roundw
        case rel => exact ⟨3, by omega, by go_num, (show Hid _ from ⟨HD9.out, HQ9.out⟩)⟩
        case measure => simp [intOf]
    · subst e
      have HS : Hid (sR k s0 4 = pR k 3 (sR k s0 3)) := rfl
      have HNj : Hid (sN k s0 3 = pN k 3 (sR k s0 3)) := rfl
      have HLj : Hid ((sR k s0 3).1.length < 4294967281) := HLb.out 3
      have HX : Hid ((nmL (sN k s0) 3).set 3 (.int .i64 (sN k s0 3)) = nmL (sN k s0) 4) := rfl
      by_cases hl : letW k 3 = []
      · have HE : Hid (sR k s0 4 = sR k s0 3) := by show _ = _; rw [HS.out]; unfold pR; rw [if_pos hl]
        have HZ : Hid (nmL (sN k s0) 4 = nmL (sN k s0) 3) := by
          have h0 : sN k s0 3 = 0 := by rw [HNj.out]; unfold pN; rw [if_pos hl]
          show _ = _
          rw [← HX.out, h0]; rfl
        have i9 : ∀ W : World, (Instr.index 45 (.agg #[sA (letW k 0), sA (letW k 1), sA (letW k 2), sA (letW k 3)]) (.int .i64 3)).run Tryd.prog W = .ok (.string ⟨#[]⟩) W := fun W => by rw [i3 W, hl]
        clear hl i3
        go_wp2
        go_roundw
        case rel => exact ⟨4, by omega, by go_num, (show Hid _ from ⟨by rw [HE.out]; exact HDr.out, by rw [HZ.out]; exact HQr.out⟩)⟩
        case measure => simp [intOf]
      · have HE : Hid (sR k s0 4 = numR 10 (takeR (32 :: letW k 3) (sR k s0 3))) := by show _ = _; rw [HS.out]; unfold pR; rw [if_neg hl]
        have HZ : Hid (sN k s0 3 = (numV 10 (takeR (32 :: letW k 3) (sR k s0 3)).1).1) := by show _ = _; rw [HNj.out]; unfold pN; rw [if_neg hl]
        have p1 : (([] : List UInt8) == letW k 3) = false := by rw [beq_eq_false_iff_ne]; exact fun h => hl h.symm
        have p2 : (letW k 3 == []) = false := by rw [beq_eq_false_iff_ne]; exact hl
        have p3 : (letW k 3).isEmpty = false := by simpa using hl
        have p4 : (letW k 3).length ≤ 1 := let_len k 3
        clear hl
        go_wp2_with fail
        refine (take_raw r (sR k s0 3) (letW k 3) _ HDr.out.rd).mono ?_
        rintro e w7 ⟨rfl, hR, hK⟩
        have HD7 : Hid (Bd w A r (takeR (32 :: letW k 3) (sR k s0 3)) w7) := HDr.out.kept hR hK h9 hAr hwr
        have HQ7 : Hid (Bk q (nmL (sN k s0) 3) w7) := bk_kpt HQr.out hK hqr
        have HL7 : Hid ((takeR (32 :: letW k 3) (sR k s0 3)).1.length < 4294967281) := Nat.lt_of_le_of_lt (len_take _ _) HLj.out
        clear hR hK p1 p2 p3 p4
        generalize takeR (32 :: letW k 3) (sR k s0 3) = s7 at *
        go_wp2_with fail
        refine (number_any r 10 s7 _ HD7.out.rd HL7.out (by decide) h9 HD7.out.tall).mono ?_
        rintro e w8 ⟨rfl, hR, hK⟩
        have HD8 : Hid (Bd w A r (numR 10 s7) w8) := HD7.out.kept hR hK h9 hAr hwr
        have HQ8 : Hid (Bk q (nmL (sN k s0) 3) w8) := bk_kpt HQ7.out hK hqr
        clear hR hK
        rw [← HE.out] at HD8
        rw [← HZ.out]
        have c := HQ8.out.c 3 rfl
        have f := HQ8.out.f 3 rfl
        have HD9 : Hid (Bd w A r (sR k s0 4) (w8.setCell ⟨q, 3, none⟩ (.int .i64 (sN k s0 3)))) := HD8.out.put hqr hqA2 hwq hq0 3 _
        have HQ9 : Hid (Bk q (nmL (sN k s0) 4) (w8.setCell ⟨q, 3, none⟩ (.int .i64 (sN k s0 3)))) := by
          show Bk _ _ _
          rw [← HX.out]; exact HQ8.out.put 3 _
        go_wp2
        go_roundw
        case rel => exact ⟨4, by omega, by go_num, (show Hid _ from ⟨HD9.out, HQ9.out⟩)⟩
        case measure => simp [intOf]
    · subst e
      have HC : Hid (∀ W, Calls Tryd.prog 44 #[.int .i64 k, n4 (sN k s0 0) (sN k s0 1) (sN k s0 2) (sN k s0 3)] W fun e w' => e = .returned (cm k (sN k s0 0) (sN k s0 1) (sN k s0 2) (sN k s0 3)) ∧ Below W.heap.size W w') := fun W => (commandOf_any k (sN k s0 0) (sN k s0 1) (sN k s0 2) (sN k s0 3) W).mono fun _ _ ⟨he, hw⟩ => ⟨he, by rw [hw]; exact ((Below.refl _ _).alloc (Nat.le_refl _) _).alloc (by simp) _⟩
      have c0 : wr.cell? ⟨q, 0, none⟩ = some (.int .i64 (sN k s0 0)) := HQr.out.c 0 rfl
      have c1 : wr.cell? ⟨q, 1, none⟩ = some (.int .i64 (sN k s0 1)) := HQr.out.c 1 rfl
      have c2 : wr.cell? ⟨q, 2, none⟩ = some (.int .i64 (sN k s0 2)) := HQr.out.c 2 rfl
      have c3 : wr.cell? ⟨q, 3, none⟩ = some (.int .i64 (sN k s0 3)) := HQr.out.c 3 rfl
      have HDn : Hid (∀ W, Rb r (sR k s0 4) W → Calls Tryd.prog 45 #[ptr r] W fun e w' => e = .returned (.bool (doneR (sR k s0 4))) ∧ w' = W) := fun W h => isDone_any r _ W h
      generalize hE : sN k s0 0 = X at *
      have HEX : Hid (sN k s0 0 = X) := hE
      clear hE
      generalize hE : sN k s0 1 = Y at *
      have HEY : Hid (sN k s0 1 = Y) := hE
      clear hE
      generalize hE : sN k s0 2 = Z at *
      have HEZ : Hid (sN k s0 2 = Z) := hE
      clear hE
      generalize hE : sN k s0 3 = U at *
      have HEU : Hid (sN k s0 3 = U) := hE
      clear hE
      generalize hE : doneR (sR k s0 4) = d at *
      have HEd : Hid (doneR (sR k s0 4) = d) := hE
      clear hE
      go_wp2_with fail
      refine (HC.out _).mono ?_
      rintro e w7 ⟨rfl, hb⟩
      have HD7 : Hid (Bd w A r (sR k s0 4) w7) := HDr.out.later hb
      clear hb c0 c1 c2 c3 HC
      go_wp2_with fail
      refine (HDn.out _ HD7.out.rd).mono ?_
      rintro e w8 ⟨rfl, hw⟩
      subst hw
      have HF := ((((HD7.out.res.put 0 (.int .i64 k)).put 1 (.int .i64 X)).put 2 (.int .i64 Y)).put 3 (.int .i64 Z)).put 4 (.int .i64 U)
      have HFB : Hid (Below w.heap.size w (((((w8.setCell ⟨A, 0, none⟩ (.int .i64 k)).setCell ⟨A, 1, none⟩ (.int .i64 X)).setCell ⟨A, 2, none⟩ (.int .i64 Y)).setCell ⟨A, 3, none⟩ (.int .i64 Z)).setCell ⟨A, 4, none⟩ (.int .i64 U))) := ((((HD7.out.low.setCell hwA _).setCell hwA _).setCell hwA _).setCell hwA _).setCell hwA _
      have HFH : Hid (Bk A (c5 k X Y Z U) (((((w8.setCell ⟨A, 0, none⟩ (.int .i64 k)).setCell ⟨A, 1, none⟩ (.int .i64 X)).setCell ⟨A, 2, none⟩ (.int .i64 Y)).setCell ⟨A, 3, none⟩ (.int .i64 Z)).setCell ⟨A, 4, none⟩ (.int .i64 U))) := HF
      clear HF
      have c0 := HD7.out.res.c 0 rfl
      have g0 := HD7.out.res.f 0 rfl
      have c1 := HD7.out.res.c 1 rfl
      have g1 := HD7.out.res.f 1 rfl
      have c2 := HD7.out.res.c 2 rfl
      have g2 := HD7.out.res.f 2 rfl
      have c3 := HD7.out.res.c 3 rfl
      have g3 := HD7.out.res.f 3 rfl
      have c4 := HD7.out.res.c 4 rfl
      have g4 := HD7.out.res.f 4 rfl
      cases d
      · skip
        go_wp2
        clear c0 c1 c2 c3 c4 g0 g1 g2 g3 g4
        generalize (((((w8.setCell ⟨A, 0, none⟩ (.int .i64 k)).setCell ⟨A, 1, none⟩ (.int .i64 X)).setCell ⟨A, 2, none⟩ (.int .i64 Y)).setCell ⟨A, 3, none⟩ (.int .i64 Z)).setCell ⟨A, 4, none⟩ (.int .i64 U)) = w9 at *
        have r0 := HFH.out.c 0 rfl
        have r1 := HFH.out.c 1 rfl
        have r2 := HFH.out.c 2 rfl
        have r3 := HFH.out.c 3 rfl
        have r4 := HFH.out.c 4 rfl
        refine bodyPost_ret (v := .tuple #[.int .i64 n, cm k X Y Z U, .bool false]) (by simp [results, Tryd.results22, go_sem, r0, r1, r2, r3, r4]) rfl ⟨?_, HFB.out⟩
        rw [HE1.out, HEn.out, HEX.out, HEY.out, HEZ.out, HEU.out, HEd.out]
        rfl
      · by_cases hk : k = 0
        · have hk2 : Hid (k = 0) := hk
          have p0 : ((k : Int) == 0) = true := by rw [hk]; rfl
          have p1 : ((k : Int) != 0) = false := by rw [hk]; rfl
          have p2 : (k == 0) = true := by rw [hk]; rfl
          have p4 : decide ((k : Int) = 0) = true := by rw [hk]; rfl
          clear hk
          go_wp2
          clear c0 c1 c2 c3 c4 g0 g1 g2 g3 g4
          generalize (((((w8.setCell ⟨A, 0, none⟩ (.int .i64 k)).setCell ⟨A, 1, none⟩ (.int .i64 X)).setCell ⟨A, 2, none⟩ (.int .i64 Y)).setCell ⟨A, 3, none⟩ (.int .i64 Z)).setCell ⟨A, 4, none⟩ (.int .i64 U)) = w9 at *
          have r0 := HFH.out.c 0 rfl
          have r1 := HFH.out.c 1 rfl
          have r2 := HFH.out.c 2 rfl
          have r3 := HFH.out.c 3 rfl
          have r4 := HFH.out.c 4 rfl
          refine bodyPost_ret (v := .tuple #[.int .i64 n, cm k X Y Z U, .bool false]) (by simp [results, Tryd.results22, go_sem, r0, r1, r2, r3, r4]) rfl ⟨?_, HFB.out⟩
          rw [HE1.out, HEn.out, HEX.out, HEY.out, HEZ.out, HEU.out, HEd.out]
          simp [hk2.out]
        · have hk2 : Hid (k ≠ 0) := hk
          have p0 : ((k : Int) == 0) = false := by rw [beq_eq_false_iff_ne]; omega
          have p1 : ((k : Int) != 0) = true := by rw [bne_iff_ne]; omega
          have p2 : (k == 0) = false := by rw [beq_eq_false_iff_ne]; exact hk
          have p3 : ¬ ((k : Int) = 0) := by omega
          clear hk
          go_wp2
          clear c0 c1 c2 c3 c4 g0 g1 g2 g3 g4
          generalize (((((w8.setCell ⟨A, 0, none⟩ (.int .i64 k)).setCell ⟨A, 1, none⟩ (.int .i64 X)).setCell ⟨A, 2, none⟩ (.int .i64 Y)).setCell ⟨A, 3, none⟩ (.int .i64 Z)).setCell ⟨A, 4, none⟩ (.int .i64 U)) = w9 at *
          have r0 := HFH.out.c 0 rfl
          have r1 := HFH.out.c 1 rfl
          have r2 := HFH.out.c 2 rfl
          have r3 := HFH.out.c 3 rfl
          have r4 := HFH.out.c 4 rfl
          refine bodyPost_ret (v := .tuple #[.int .i64 n, cm k X Y Z U, .bool true]) (by simp [results, Tryd.results22, go_sem, r0, r1, r2, r3, r4]) rfl ⟨?_, HFB.out⟩
          rw [HE1.out, HEn.out, HEX.out, HEY.out, HEZ.out, HEU.out, HEd.out]
          simp [hk2.out]
end Go.Proofs.YtiafppmpjmpdmaaDoor
