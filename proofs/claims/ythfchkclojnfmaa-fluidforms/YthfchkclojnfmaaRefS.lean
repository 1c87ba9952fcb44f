/- The document's LabelSum, FluidWithin, lowest, FluidShare, walked. -/
import Derived.Test.YthfchkclojnfmaaShr
import Derived.Test.YthfchkclojnfmaaRef
namespace Go.Proofs.Ythfchkclojnfmaa
open Go.RowKit Go.Maps Go.WideMaps

theorem ba_eq {a b : ByteArray} : (a.toList == b.toList) = decide (a.data.toList = b.data.toList) := by
  rw [ByteArray.toList_eq, ByteArray.toList_eq]
  by_cases h : a.data.toList = b.data.toList
  · rw [h]; simp
  · rw [beq_eq_false_iff_ne.2 h, decide_eq_false h]
theorem sumL_succ {ps : List Pc} {m : Nat} (h : m < ps.length) (l : List UInt8) : sumL (ps.take (m + 1)) l = sumL (ps.take m) l + if (ps[m]'h).1.data.toList = l then (ps[m]'h).2 else 0 := by
  rw [List.take_succ_eq_append_getElem h, sumL_snoc]

set_option maxHeartbeats 800000 in
theorem labelSum_any (ao : Option Addr) (cap : Nat) (ps : List Pc) (l : ByteArray) (w : World) (h : Fl w ao ps) (hr : fref ps = 0) :
    Calls Try.prog 37 #[.slice ao ps.length cap, .string l] w fun e w' => e = .returned (.int .i64 (sumL ps l.data.toList)) ∧ w' = w := by
  have HF : Hid (Fl w ao ps) := h
  have HI : Hid (ps.length ≤ 100 ∧ Fine ps ∧ tot ps ≤ 1000000000) := fref_in hr
  have hl := HI.out.1
  clear h hr
  go_enter Try.func37, Try.ntmps37
  go_wp2
  go_loop [5, 6] (fun s i => ∃ m : Nat, m ≤ ps.length ∧ i = .int .i64 m ∧ s = .int .i64 (sumL (ps.take m) l.data.toList)) (fun _ i => ps.length - (intOf i).toNat)
  case atStart => exact ⟨0, Nat.zero_le _, rfl, rfl⟩
  case round =>
    obtain ⟨m, hm, rfl, rfl⟩ := hrel
    have hsi := sumL_in (ps := ps.take m) (HI.out.2.1.nn.take m) l.data.toList
    have htk := tot_take_le HI.out.2.1.nn m
    have ht9 := HI.out.2.2
    have hs0 := hsi.1
    have hs1 : sumL (ps.take m) l.data.toList ≤ 1000000000 := by omega
    clear hsi htk ht9
    by_cases hlt2 : m < ps.length
    · obtain ⟨b2, off, rfl, hb2, c0, c1, _⟩ := HF.out.at hlt2
      have HT : Hid (sumL (ps.take (m + 1)) l.data.toList = sumL (ps.take m) l.data.toList + if (ps[m]'hlt2).1.data.toList = l.data.toList then (ps[m]'hlt2).2 else 0) := sumL_succ hlt2 _
      have hv0 := (HI.out.2.1 _ (List.getElem_mem hlt2)).2.1
      have hv1 := (HI.out.2.1 _ (List.getElem_mem hlt2)).2.2
      generalize (ps[m]'hlt2).1 = l2 at *
      generalize (ps[m]'hlt2).2 = v at *
      generalize sumL (ps.take m) l.data.toList = S at *
      by_cases he : l2.data.toList = l.data.toList
      · have hb : (l2.toList == l.toList) = true := by rw [ba_eq, decide_eq_true he]
        have HE : Hid (l2.data.toList = l.data.toList) := he
        clear he
        go_wp2
        go_round
        case rel => exact ⟨m + 1, by omega, by go_num, by rw [HT.out, if_pos HE.out]⟩
        case measure => simp [intOf]; omega
      · have hb : (l2.toList == l.toList) = false := by rw [ba_eq, decide_eq_false he]
        have HE : Hid (l2.data.toList ≠ l.data.toList) := he
        clear he
        go_wp2
        go_round
        case rel => exact ⟨m + 1, by omega, by go_num, by rw [HT.out, if_neg HE.out, Int.add_zero]⟩
        case measure => simp [intOf]; omega
    · go_wp2
      go_ret
      exact ⟨ret_int (by rw [List.take_of_length_le (by omega)]), rfl⟩

set_option maxHeartbeats 800000 in
theorem fluidWithin_any (ao ao' : Option Addr) (cap cap' : Nat) (ps qs : List Pc) (w : World) (h : Fl w ao ps) (h' : Fl w ao' qs) (hr : fref ps = 0) (hr' : fref qs = 0) :
    Calls Try.prog 27 #[.slice ao ps.length cap, .slice ao' qs.length cap'] w fun e w' => e = .returned (.bool (wthn ps qs)) ∧ w' = w := by
  have HF : Hid (Fl w ao ps) := h
  have HG : Hid (Fl w ao' qs) := h'
  have HR' : Hid (fref qs = 0) := hr'
  have HI : Hid (ps.length ≤ 100 ∧ Fine ps ∧ tot ps ≤ 1000000000) := fref_in hr
  have HI' : Hid (qs.length ≤ 100 ∧ Fine qs ∧ tot qs ≤ 1000000000) := fref_in hr'
  have hl := HI.out.1
  clear h h' hr hr'
  go_enter Try.func27, Try.ntmps27
  go_wp2
  go_loop [5] (fun i => ∃ m : Nat, m ≤ ps.length ∧ i = .int .i64 m ∧ wthn (ps.take m) qs = true) (fun i => ps.length - (intOf i).toNat)
  case atStart => exact ⟨0, Nat.zero_le _, rfl, rfl⟩
  case round =>
    obtain ⟨m, hm, rfl, hW⟩ := hrel
    have HW : Hid (wthn (ps.take m) qs = true) := hW
    clear hW
    by_cases hlt : m < ps.length
    · obtain ⟨b2, off, rfl, hb2, c0, c1, hsz⟩ := HF.out.at hlt
      have HT : Hid (wthn (ps.take (m + 1)) qs = (decide ((ps[m]'hlt).2 ≤ 0) || decide (0 < sumL qs (ps[m]'hlt).1.data.toList))) := wthn_succ hlt HW.out
      have HN : Hid ((decide ((ps[m]'hlt).2 ≤ 0) || decide (0 < sumL qs (ps[m]'hlt).1.data.toList)) = false → wthn ps qs = false) := wthn_no hlt
      obtain ⟨p, hp⟩ : ∃ p, ps[m]'hlt = p := ⟨_, rfl⟩
      rw [hp] at c0 c1 HT HN hsz
      clear hp
      obtain ⟨l, n⟩ := p
      simp only at c0 c1 HT HN hsz
      have hs := sumL_in HI'.out.2.1.nn l.data.toList
      by_cases hn : 0 < n
      · have hnd : decide (0 < n) = true := by simp [hn]
        by_cases hz : sumL qs l.data.toList = 0
        · have HF2 : Hid (wthn ps qs = false) := HN.out (by rw [hz]; simp; omega)
          have hzb : (sumL qs l.data.toList == 0) = true := by simp [hz]
          clear hz
          go_wp2_with (go_at_call 37; refine (labelSum_any ao' cap' qs l w HG.out HR'.out).mono ?_; rintro e w2 ⟨rfl, rfl⟩)
          go_ret
          exact ⟨ret_bool HF2.out.symm, rfl⟩
        · have HT2 : Hid (wthn (ps.take (m + 1)) qs = true) := HT.out.trans (by simp; omega)
          have hzb : (sumL qs l.data.toList == 0) = false := by simp [hz]
          clear hz
          go_wp2_with (go_at_call 37; refine (labelSum_any ao' cap' qs l w HG.out HR'.out).mono ?_; rintro e w2 ⟨rfl, rfl⟩)
          go_round
          case rel => exact ⟨m + 1, by omega, by go_num, HT2.out⟩
          case measure => simp [intOf]; omega
      · have HT2 : Hid (wthn (ps.take (m + 1)) qs = true) := HT.out.trans (by simp; omega)
        have hnd : decide (0 < n) = false := by simp; omega
        clear hn
        go_wp2
        go_round
        case rel => exact ⟨m + 1, by omega, by go_num, HT2.out⟩
        case measure => simp [intOf]; omega
    · have e : Hid (wthn ps qs = true) := by have := HW.out; rw [List.take_of_length_le (by omega)] at this; exact this
      go_wp2
      go_ret
      exact ⟨ret_bool e.out.symm, rfl⟩

set_option maxHeartbeats 800000 in
theorem lowest_any (a b : Nat) (w : World) (ha : a ≤ 1000000000000) (hb : b ≤ 1000000000000) (hb0 : 0 < b) :
    Calls Try.prog 43 #[.int .i64 a, .int .i64 b] w fun e w' => e = .returned (.tuple #[.int .i64 ((a : Int) / (Nat.gcd a b : Nat)), .int .i64 ((b : Int) / (Nat.gcd a b : Nat))]) ∧ ∃ n, w' = w.drewN n := by
  have hgp : 0 < Nat.gcd a b := Nat.gcd_pos_of_pos_right a hb0
  have hgl : Nat.gcd a b ≤ b := Nat.le_of_dvd hb0 (Nat.gcd_dvd_right a b)
  obtain ⟨G, hG⟩ : ∃ G, Nat.gcd a b = G := ⟨_, rfl⟩
  have HGG : Hid (Nat.gcd a b = G) := hG
  rw [hG] at hgp hgl
  clear hG
  go_enter Try.func43, Try.ntmps43
  go_wp2
  go_loopw [6, 7] (fun u v wr => ∃ x y : Nat, x ≤ 1000000000000 ∧ y ≤ 1000000000000 ∧ u = .int .i64 x ∧ v = .int .i64 y ∧ Nat.gcd x y = Nat.gcd a b ∧ ∃ n, wr = w.drewN n) (fun _ v _ => (intOf v).toNat)
  case atStart => exact ⟨a, b, ha, hb, rfl, rfl, rfl, 0, rfl⟩
  case round =>
    obtain ⟨x, y, hx, hy, rfl, rfl, hg, n, rfl⟩ := hrel
    have HG : Hid (Nat.gcd x y = Nat.gcd a b) := hg
    clear hg
    by_cases h0 : y = 0
    · subst h0
      have hxG : x = G := by rw [← HGG.out, ← HG.out, Nat.gcd_zero_right]
      subst hxG
      have hgz : ((x : Int) == 0) = false := by simp; omega
      go_wp2
      go_big_quiet (fail)
      go_wp2
      go_ret2
      refine ⟨?_, n + nq, by simp⟩
      show Ending.returned (.tuple #[.int .i64 (wrap64 ((a : Int) / (x : Int))), .int .i64 (wrap64 ((b : Int) / (x : Int)))]) = _
      rw [HGG.out, div_in (by omega) (by omega) (by omega), div_in (by omega) (by omega) (by omega)]
    · have hz : ((y : Int) == 0) = false := by simp [h0]
      have hyp : 0 < y := by omega
      have hm : x % y < y := Nat.mod_lt _ hyp
      clear h0
      go_wp2
      go_big_quiet (fail)
      go_wp2
      go_roundw
      case rel => exact ⟨y, x % y, hy, by omega, rfl, by simp, by rw [gcd_step]; exact HG.out, n + nq, by simp⟩
      case measure => simp [intOf]; omega
end Go.Proofs.Ythfchkclojnfmaa
