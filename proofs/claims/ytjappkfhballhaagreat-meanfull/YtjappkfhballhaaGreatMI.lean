/- mayHold, together, mayTouch walked. -/
import Derived.Test.YtjappkfhballhaaGreatMH
namespace Go.Proofs.YtjappkfhballhaaGreat
open Go.RowKit

theorem blw_drewN {B : Nat} {a w : World} (h : Below B a w) (n : Nat) : Below B a (w.drewN n) := ⟨h.os, h.tape, h.output, h.size, h.block⟩
theorem plain_sizes {ps : List F.Pc} (hr : F.fref ps = 0) : ∀ p ∈ F.plainL ps, p.1.size ≤ maxLen := by
  obtain ⟨h1, h2, h3⟩ := F.fref_in hr
  refine F.fine_size (F.of_fref (Nat.le_trans (F.length_plainL ps) h1) (F.fine_plainL h2 h3) (by rw [F.tot_plainL]; exact h3))
theorem totR_in (ps : List F.Pc) : 0 ≤ (F.totR ps).1 ∧ (F.totR ps).1 ≤ 1000000000 := by
  unfold F.totR
  split
  · rename_i h
    obtain ⟨_, h2, h3⟩ := F.fref_in h
    exact ⟨F.tot_nonneg h2.nn, h3⟩
  · simp
theorem totR_ok {ps : List F.Pc} (h : F.fref ps = 0) : (F.totR ps).1 = F.tot ps := by unfold F.totR; rw [if_pos h]
set_option maxHeartbeats 3200000 in
theorem mayHold_any (ao : Option Addr) (cap : Nat) (ps : List F.Pc) (m : Int) (w : World) (h : F.Fl w ao ps) :
    Calls Tryz.prog 95 #[.slice ao ps.length cap, .int .i64 m] w fun e w' => e = .returned (.bool (mayHold ps m)) ∧ Below w.heap.size w w' := by
  have HF : Hid (F.Fl w ao ps) := h
  have HC := (show Hid _ from F.plainF_any ao cap ps w h)
  clear h
  by_cases hr : F.fref ps = 0
  rotate_left
  · have HQ : Hid (mayHold ps m = false) := by show _ = _; unfold mayHold; rw [decide_eq_false hr]; rfl
    have HP : Hid (F.plainR ps = ([], F.fref ps)) := if_neg hr
    have hne : (F.fref ps == 0) = false := by simp [hr]
    clear hr
    rw [HP.out] at HC
    generalize F.fref ps = e0 at *
    go_enter Tryz.func95, Tryz.ntmps95
    go_wp2_with fail
    refine Calls.mono HC.out ?_
    rintro e w1 ⟨v, rfl, ho, hb⟩
    obtain ⟨ao1, cap1, rfl⟩ := F.Own.shape ho
    clear ho
    simp only at *
    go_wp2
    go_ret
    exact ⟨ret_bool HQ.out.symm, hb⟩
  have HR : Hid (F.fref ps = 0) := hr
  have HP : Hid (F.plainR ps = (F.plainL ps, 0)) := if_pos hr
  have hl100 := (F.fref_in hr).1
  clear hr
  rw [HP.out] at HC
  have HSz : Hid (∀ p ∈ F.plainL ps, p.1.size ≤ maxLen) := plain_sizes HR.out
  have hpl := F.length_plainL ps
  by_cases he : F.plainL ps = ps
  rotate_left
  · have HQ : Hid (mayHold ps m = false) := by show _ = _; unfold mayHold; rw [decide_eq_false he]; simp
    have HD : Hid (decide (F.plainL ps = ps) = false) := decide_eq_false he
    clear he
    go_enter Tryz.func95, Tryz.ntmps95
    go_wp2_with fail
    refine Calls.mono HC.out ?_
    rintro e w1 ⟨v, rfl, ho, hb⟩
    obtain ⟨ao1, cap1, rfl, hf1⟩ := F.Own.give ho HSz.out
    have HF1 : Hid (F.Fl w1 ao1 (F.plainL ps)) := hf1
    have HB : Hid (Below w.heap.size w w1) := hb
    clear ho hf1 hb HC
    simp only
    go_wp2_with fail
    refine (equal_any ao1 ao cap1 cap (F.plainL ps) ps w1 HF1.out (HF.out.next HB.out) (by omega)).mono ?_
    rintro e w2 ⟨rfl, n2, rfl⟩
    rw [HD.out]
    go_wp2
    go_ret
    exact ⟨ret_bool HQ.out.symm, blw_drewN HB.out n2⟩
  have HQ : Hid (mayHold ps m = decide ((F.totR ps).1 ≤ m)) := by show _ = _; unfold mayHold; rw [decide_eq_true HR.out, decide_eq_true he, totR_ok HR.out]; rfl
  have HD : Hid (decide (F.plainL ps = ps) = true) := decide_eq_true he
  clear he
  go_enter Tryz.func95, Tryz.ntmps95
  go_wp2_with fail
  refine Calls.mono HC.out ?_
  rintro e w1 ⟨v, rfl, ho, hb⟩
  obtain ⟨ao1, cap1, rfl, hf1⟩ := F.Own.give ho HSz.out
  have HF1 : Hid (F.Fl w1 ao1 (F.plainL ps)) := hf1
  have HB : Hid (Below w.heap.size w w1) := hb
  clear ho hf1 hb HC
  simp only
  go_wp2_with fail
  refine (equal_any ao1 ao cap1 cap (F.plainL ps) ps w1 HF1.out (HF.out.next HB.out) (by omega)).mono ?_
  rintro e w2 ⟨rfl, n2, hw2⟩
  have HB2 : Hid (Below w.heap.size w w2) := by show Below _ _ _; rw [hw2]; exact ⟨HB.out.os, HB.out.tape, HB.out.output, HB.out.size, HB.out.block⟩
  rw [HD.out]
  clear hw2
  go_wp2_with fail
  refine (mtotal_any ao cap ps w2 (HF.out.next HB2.out)).mono ?_
  rintro e w3 ⟨rfl, hb3⟩
  have HB3 : Hid (Below w.heap.size w w3) := HB2.out.trans (hb3.mono HB2.out.size)
  clear hb3
  go_wp2
  go_ret
  exact ⟨ret_bool HQ.out.symm, HB3.out⟩
set_option maxHeartbeats 3200000 in
theorem together_any (ao ao' : Option Addr) (cap cap' : Nat) (f g : List F.Pc) (m : Int) (w : World) (h : F.Fl w ao f) (h' : F.Fl w ao' g) :
    Calls Tryz.prog 120 #[.slice ao f.length cap, .slice ao' g.length cap', .int .i64 m] w fun e w' => ∃ v, e = .returned (.tuple #[v, .int .i64 (togR f g m).2]) ∧ F.Own w' w.heap.size v (togR f g m).1 ∧ Below w.heap.size w w' := by
  have HF : Hid (F.Fl w ao f) := h
  have HG : Hid (F.Fl w ao' g) := h'
  clear h h'
  have t1 := totR_in f
  have t2 := totR_in g
  obtain ⟨t10, t11⟩ := t1
  obtain ⟨t20, t21⟩ := t2
  by_cases hm : m < (F.totR f).1 + (F.totR g).1
  · have HQ : Hid (togR f g m = ([], 9)) := if_pos hm
    go_enter Tryz.func120, Tryz.ntmps120
    go_wp2_with fail
    refine (mtotal_any ao cap f w HF.out).mono ?_
    rintro e w1 ⟨rfl, hb1⟩
    have HB1 : Hid (Below w.heap.size w w1) := hb1
    clear hb1
    go_wp2_with fail
    refine (mtotal_any ao' cap' g w1 (HG.out.next HB1.out)).mono ?_
    rintro e w2 ⟨rfl, hb2⟩
    have HB2 : Hid (Below w.heap.size w w2) := HB1.out.trans (hb2.mono HB1.out.size)
    clear hb2
    go_wp2
    go_ret2
    exact ⟨.slice none 0 0, by rw [HQ.out]; rfl, by rw [HQ.out]; exact F.Own.nil _ _, HB2.out⟩
  · have HQ : Hid (togR f g m = F.putR f g) := if_neg hm
    go_enter Tryz.func120, Tryz.ntmps120
    go_wp2_with fail
    refine (mtotal_any ao cap f w HF.out).mono ?_
    rintro e w1 ⟨rfl, hb1⟩
    have HB1 : Hid (Below w.heap.size w w1) := hb1
    clear hb1
    go_wp2_with fail
    refine (mtotal_any ao' cap' g w1 (HG.out.next HB1.out)).mono ?_
    rintro e w2 ⟨rfl, hb2⟩
    have HB2 : Hid (Below w.heap.size w w2) := HB1.out.trans (hb2.mono HB1.out.size)
    clear hb2
    go_wp2_with fail
    refine (F.put_any ao ao' cap cap' f g w2 (HF.out.next HB2.out) (HG.out.next HB2.out)).mono ?_
    rintro e w3 ⟨v, rfl, ho, hb3⟩
    obtain ⟨ao3, cap3, rfl⟩ := F.Own.shape ho
    have HO : Hid (F.Own w3 w.heap.size (.slice ao3 (F.putR f g).1.length cap3) (F.putR f g).1) := F.own_base ho HB2.out.size
    have HB3 : Hid (Below w.heap.size w w3) := HB2.out.trans (hb3.mono HB2.out.size)
    clear ho hb3
    go_wp2
    go_ret2
    exact ⟨.slice ao3 (F.putR f g).1.length cap3, by rw [HQ.out]; rfl, by rw [HQ.out]; exact HO.out, HB3.out⟩
theorem bl_eq : ∀ (x y : List UInt8), Op.bytesLess x y = decide (x < y)
  | [], [] => by simp [Op.bytesLess]
  | _ :: _, [] => by simp [Op.bytesLess]
  | [], _ :: _ => by simp [Op.bytesLess]
  | a :: x, b :: y => by
    rw [Op.bytesLess, bl_eq x y]
    simp only [List.cons_lt_cons_iff]
    by_cases h1 : a < b <;> by_cases h2 : a = b <;> by_cases h3 : x < y <;> simp [h1, h2, h3]
theorem bl_lt (a b : ByteArray) : Op.bytesLess a.toList b.toList = ltT a b := by
  rw [ByteArray.toList_eq, ByteArray.toList_eq, bl_eq]
  rfl
theorem ris_snoc {t : List ByteArray} {k : Nat} (hk : k + 1 < t.length) (h : RisT (t.take (k + 1))) (hlt : ltT (t[k]'(by omega)) (t[k + 1]'hk) = true) : RisT (t.take (k + 1 + 1)) := by
  rw [List.take_succ_eq_append_getElem hk]
  refine List.pairwise_append.2 ⟨h, List.pairwise_singleton _ _, fun a ha b hb => ?_⟩
  simp only [List.mem_singleton] at hb
  subst hb
  rw [List.take_succ_eq_append_getElem (by omega : k < t.length)] at ha h
  rcases List.mem_append.1 ha with ha | ha
  · exact ltT_trans ((List.pairwise_append.1 h).2.2 a ha _ (by simp)) hlt
  · simp only [List.mem_singleton] at ha
    subst ha
    exact hlt
theorem ris_not {t : List ByteArray} {k : Nat} (hk : k + 1 < t.length) (hlt : ltT (t[k]'(by omega)) (t[k + 1]'hk) = false) : ¬ RisT t := by
  intro h
  have := List.pairwise_iff_getElem.1 h k (k + 1) (by omega) hk (by omega)
  rw [hlt] at this
  cases this
set_option maxHeartbeats 3200000 in
theorem mayTouch_any (ao ao' : Option Addr) (cap cap' : Nat) (t : List ByteArray) (ps : List F.Pc) (w : World) (h : Tx w ao t) (h' : F.Fl w ao' ps) (hln : t.length ≤ 9223372036854775807) :
    Calls Tryz.prog 96 #[.slice ao t.length cap, .slice ao' ps.length cap'] w fun e w' => e = .returned (.bool (mayTouch t ps)) ∧ Below w.heap.size w w' := by
  have HF : Hid (Tx w ao t) := h
  have HG : Hid (F.Fl w ao' ps) := h'
  clear h h'
  by_cases hl : 100 < t.length
  · have HQ : Hid (mayTouch t ps = false) := by show _ = _; unfold mayTouch; rw [decide_eq_false (by omega)]; rfl
    go_enter Tryz.func96, Tryz.ntmps96
    go_wp2
    go_ret
    exact ⟨ret_bool HQ.out.symm, Below.refl _ _⟩
  have hl' : t.length ≤ 100 := by omega
  clear hl
  go_enter Tryz.func96, Tryz.ntmps96
  go_wp2
  go_loopw [13] (fun i wr => ∃ k : Nat, k ≤ t.length ∧ i = .int .i64 k ∧ RisT (t.take k) ∧ ∃ n, wr = w.drewN n) (fun i _ => t.length - (intOf i).toNat)
  case atStart => exact ⟨0, Nat.zero_le _, rfl, List.Pairwise.nil, 0, rfl⟩
  case round =>
    obtain ⟨k, hk, rfl, hris, n, rfl⟩ := hrel
    have HRis : Hid (RisT (t.take k)) := hris
    clear hris
    by_cases hlt : k < t.length
    · match k, hk, hlt, HRis with
      | 0, hk, hlt, HRis =>
        have HR1 : Hid (RisT (t.take 1)) := by
          show RisT _
          rw [List.take_succ_eq_append_getElem hlt]
          simp [RisT]
        go_wp2
        go_big_quiet (fail)
        go_wp2
        go_roundw
        case rel => exact ⟨1, by omega, by go_num, HR1.out, n + nq, by simp⟩
        case measure => simp [intOf]; omega
      | j + 1, hk, hlt, HRis =>
        obtain ⟨b, off, rfl, hb, c0, _⟩ := HF.out.at (show j < t.length by omega)
        obtain ⟨b2, off2, e2, hb2, d0, _⟩ := HF.out.at hlt
        injection e2 with e2
        injection e2 with e3 e4 _
        subst e3 e4
        have HS : Hid (ltT (t[j]'(by omega)) (t[j + 1]'hlt) = true → RisT (t.take (j + 1 + 1))) := ris_snoc hlt HRis.out
        have HN : Hid (ltT (t[j]'(by omega)) (t[j + 1]'hlt) = false → ¬ RisT t) := ris_not hlt
        generalize t[j]'(by omega) = x at *
        generalize t[j + 1]'hlt = y at *
        have hbl := bl_lt x y
        cases hxy : ltT x y with
        | true =>
          have HR1 : Hid (RisT (t.take (j + 1 + 1))) := HS.out hxy
          rw [hxy] at hbl
          clear hxy HS HN HRis
          go_wp2
          go_big_quiet (fail)
          go_wp2
          go_roundw
          case rel => exact ⟨j + 1 + 1, by omega, by go_num, HR1.out, n + nq, by simp⟩
          case measure => simp [intOf]; omega
        | false =>
          have HQ : Hid (mayTouch t ps = false) := by show _ = _; unfold mayTouch; rw [decide_eq_false (p := t.Pairwise fun a b => ltT a b = true) (HN.out hxy)]; simp
          rw [hxy] at hbl
          clear hxy HS HN HRis
          go_wp2
          go_big_quiet (fail)
          go_wp2
          go_ret
          exact ⟨ret_bool HQ.out.symm, blw_drewN (blw_drewN (Below.refl _ _) _) _⟩
    · have HQ : Hid (mayTouch t ps = (F.withR ps (drops t)).1) := by
        show _ = _
        unfold mayTouch
        have := HRis.out
        rw [List.take_of_length_le (by omega)] at this
        rw [decide_eq_true hl', decide_eq_true (p := t.Pairwise fun a b => ltT a b = true) this]
        rfl
      have HSz : Hid (∀ p ∈ drops t, p.1.size ≤ maxLen) := fun p hp => HF.out.1 p.1 (mem_drops.1 hp).1
      have HW : Hid ((F.withR ps (drops t)).1 = true → (F.withR ps (drops t)).2 = 0) := fun h => by
        unfold F.withR at h ⊢
        split
        · rename_i h1
          rw [if_pos h1] at h
          split
          · rfl
          · rename_i h2; rw [if_neg h2] at h; cases h
        · rename_i h1; rw [if_neg h1] at h; cases h
      clear HRis
      go_wp2_with fail
      refine (drops_any ao cap t (w.drewN n) HF.out hl').mono ?_
      rintro e w1 ⟨v, rfl, ho, hb1⟩
      obtain ⟨ao1, cap1, rfl, hf1⟩ := fl_of ho HSz.out
      have HF1 : Hid (F.Fl w1 ao1 (drops t)) := hf1
      have HB1 : Hid (Below w.heap.size w w1) := ⟨hb1.os, hb1.tape, hb1.output, hb1.size, hb1.block⟩
      clear ho hf1 hb1
      go_wp2_with fail
      refine (F.withinF_any ao' ao1 cap' cap1 ps (drops t) w1 (HG.out.next HB1.out) HF1.out).mono ?_
      rintro e w2 ⟨rfl, hb2⟩
      have HB2 : Hid (Below w.heap.size w w2) := HB1.out.trans (hb2.mono HB1.out.size)
      clear hb2
      cases hb : (F.withR ps (drops t)).1 with
      | true =>
        rw [hb] at HQ
        rw [HW.out hb]
        go_wp2
        go_ret
        exact ⟨ret_bool HQ.out.symm, HB2.out⟩
      | false =>
        rw [hb] at HQ
        generalize (F.withR ps (drops t)).2 = e0 at *
        go_wp2
        go_ret
        exact ⟨ret_bool HQ.out.symm, HB2.out⟩
end Go.Proofs.YtjappkfhballhaaGreat
