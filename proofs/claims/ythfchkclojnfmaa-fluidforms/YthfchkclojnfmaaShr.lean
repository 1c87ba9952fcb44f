/- fluid.commonDivisor, Share, Within, walked. -/
import Derived.Test.YthfchkclojnfmaaVol
namespace Go.Proofs.Ythfchkclojnfmaa
open Go.RowKit Go.Maps Go.WideMaps

theorem gcd_step (a b : Nat) : Nat.gcd b (a % b) = Nat.gcd a b := by
  rw [Nat.gcd_comm b (a % b), ← Nat.gcd_rec b a, Nat.gcd_comm]

set_option maxHeartbeats 800000 in
theorem divisor_any (a b : Nat) (w : World) (ha : a ≤ 1000000000000) (hb : b ≤ 1000000000000) :
    Calls Try.prog 41 #[.int .i64 a, .int .i64 b] w fun e w' => e = .returned (.int .i64 (Nat.gcd a b)) ∧ ∃ n, w' = w.drewN n := by
  go_enter Try.func41, Try.ntmps41
  go_wp2
  go_loopw [0, 1] (fun u v wr => ∃ x y : Nat, x ≤ 1000000000000 ∧ y ≤ 1000000000000 ∧ u = .int .i64 x ∧ v = .int .i64 y ∧ Nat.gcd x y = Nat.gcd a b ∧ ∃ n, wr = w.drewN n) (fun _ v _ => (intOf v).toNat)
  case atStart => exact ⟨a, b, ha, hb, rfl, rfl, rfl, 0, rfl⟩
  case round =>
    obtain ⟨x, y, hx, hy, rfl, rfl, hg, n, rfl⟩ := hrel
    have HG : Hid (Nat.gcd x y = Nat.gcd a b) := hg
    clear hg
    by_cases h0 : y = 0
    · subst h0
      go_wp2
      go_ret
      exact ⟨ret_int (by rw [← HG.out, Nat.gcd_zero_right]), n, rfl⟩
    · have hz : ((y : Int) == 0) = false := by simp [h0]
      have hz2 : ((y : Int) != 0) = true := by simp [h0]
      have hyp : 0 < y := by omega
      have hm : x % y < y := Nat.mod_lt _ hyp
      clear h0
      go_wp2
      go_big_quiet (fail)
      go_wp2
      go_roundw
      case rel => exact ⟨y, x % y, hy, by omega, rfl, by simp, by rw [gcd_step]; exact HG.out, n + nq, by simp⟩
      case measure => simp [intOf]; omega

/-- Within, plainly. -/
def wthn (f g : List Pc) : Bool := f.all fun p => decide (p.2 ≤ 0) || decide (0 < sumL g p.1.data.toList)
def withR (f g : List Pc) : Bool × Int := if fref f = 0 then (if fref g = 0 then (wthn f g, 0) else (false, fref g)) else (false, fref f)
/-- The greatest common divisor of a label's part and the whole. -/
def gcdL (f : List Pc) (l : ByteArray) : Int := (Nat.gcd (sumL f l.data.toList).toNat (tot f).toNat : Nat)
def shareR (f : List Pc) (l : ByteArray) : Int × Int × Int :=
  if fref f = 0 then (if lab l = true then (if tot f = 0 then (0, 0, 5) else (sumL f l.data.toList / gcdL f l, tot f / gcdL f l, 0)) else (0, 0, 3)) else (0, 0, fref f)
theorem gcdL_pos {f : List Pc} {l : ByteArray} (h : 0 < tot f) : 0 < gcdL f l ∧ gcdL f l ≤ tot f := by
  unfold gcdL
  have h1 : 0 < (tot f).toNat := by omega
  have h2 := Nat.gcd_pos_of_pos_right (sumL f l.data.toList).toNat h1
  have h3 := Nat.le_of_dvd h1 (Nat.gcd_dvd_right (sumL f l.data.toList).toNat (tot f).toNat)
  omega

theorem div_in {a g : Int} (h0 : 0 ≤ a) (h1 : a ≤ 1000000000000) (hg : 0 < g) : wrap64 (a / g) = a / g := by
  have h2 := Int.ediv_nonneg h0 (Int.le_of_lt hg)
  have h3 := Int.ediv_le_self g h0
  exact IntWalk.wrap64_in _ (by omega)
theorem wthn_succ {ps qs : List Pc} {m : Nat} (h : m < ps.length) (hw : wthn (ps.take m) qs = true) : wthn (ps.take (m + 1)) qs = (decide ((ps[m]'h).2 ≤ 0) || decide (0 < sumL qs (ps[m]'h).1.data.toList)) := by
  unfold wthn at hw ⊢
  rw [List.take_succ_eq_append_getElem h, List.all_append, hw]
  simp
theorem wthn_no {ps qs : List Pc} {m : Nat} (h : m < ps.length) (hn : (decide ((ps[m]'h).2 ≤ 0) || decide (0 < sumL qs (ps[m]'h).1.data.toList)) = false) : wthn ps qs = false := by
  unfold wthn
  rw [List.all_eq_false]
  exact ⟨_, List.getElem_mem h, by rw [hn]; decide⟩

set_option maxHeartbeats 800000 in
theorem share_any (ao : Option Addr) (cap : Nat) (ps : List Pc) (l : ByteArray) (w : World) (h : Fl w ao ps) (hl : l.size ≤ maxLen) :
    Calls Try.prog 23 #[.slice ao ps.length cap, .string l] w fun e w' => e = .returned (.tuple #[.int .i64 (shareR ps l).1, .int .i64 (shareR ps l).2.1, .int .i64 (shareR ps l).2.2]) ∧ Below w.heap.size w w' := by
  have HF : Hid (Fl w ao ps) := h
  clear h
  by_cases hr : fref ps = 0
  rotate_left
  · have HQ : Hid (shareR ps l = (0, 0, fref ps)) := if_neg hr
    have hne : (fref ps == 0) = false := by simp [hr]
    have hne2 : (fref ps != 0) = true := by simp [hr]
    clear hr
    go_enter Try.func23, Try.ntmps23
    go_wp2_with fail
    refine (refusal1 ao cap ps w HF.out).mono ?_
    rintro e w1 ⟨rfl, hb⟩
    go_wp2
    go_ret3
    exact ⟨by rw [HQ.out]; rfl, hb⟩
  have HR : Hid (fref ps = 0) := hr
  have hi := fref_in hr
  have ht0 := tot_nonneg hi.2.1.nn
  have ht9 := hi.2.2
  have hs := sumL_in hi.2.1.nn l.data.toList
  have hs0 := hs.1
  have hs1 := hs.2
  clear hr hi hs
  cases hlab : lab l with
  | false =>
    have HL : Hid (lab l = false) := hlab
    have HQ : Hid (shareR ps l = (0, 0, 3)) := by unfold shareR; rw [if_pos HR.out, if_neg (by rw [hlab]; decide)]; rfl
    clear hlab
    go_enter Try.func23, Try.ntmps23
    go_wp2_with fail
    refine (refusal1 ao cap ps w HF.out).mono ?_
    rintro e w1 ⟨rfl, hb⟩
    rw [HR.out]
    have HB : Hid (Below w.heap.size w w1) := hb
    clear hb
    go_wp2_with fail
    refine (isLabel_no l w1 hl HL.out).mono ?_
    rintro e w2 ⟨rfl, hb⟩
    go_wp2
    go_ret3
    exact ⟨by rw [HQ.out]; rfl, HB.out.trans (hb.mono HB.out.size)⟩
  | true =>
    have HL : Hid (lab l = true) := hlab
    clear hlab
    by_cases ht : tot ps = 0
    · have HQ : Hid (shareR ps l = (0, 0, 5)) := by unfold shareR; rw [if_pos HR.out, if_pos HL.out, if_pos ht]; rfl
      have hz : (tot ps == 0) = true := by simp [ht]
      clear ht
      go_enter Try.func23, Try.ntmps23
      go_wp2_with fail
      refine (refusal1 ao cap ps w HF.out).mono ?_
      rintro e w1 ⟨rfl, hb⟩
      rw [HR.out]
      have HB : Hid (Below w.heap.size w w1) := hb
      clear hb
      go_wp2_with fail
      refine (isLabel_yes l w1 hl HL.out).mono ?_
      rintro e w2 ⟨rfl, hb⟩
      have HB2 : Hid (Below w.heap.size w w2) := HB.out.trans (hb.mono HB.out.size)
      clear hb
      go_wp2_with fail
      refine (total1 ao cap ps w2 (HF.out.next HB2.out) HR.out).mono ?_
      rintro e w3 ⟨rfl, hb⟩
      have HB3 : Hid (Below w.heap.size w w3) := HB2.out.trans (hb.mono HB2.out.size)
      clear hb
      go_wp2
      go_ret3
      exact ⟨by rw [HQ.out]; rfl, HB3.out⟩
    · have HQ : Hid (shareR ps l = (sumL ps l.data.toList / gcdL ps l, tot ps / gcdL ps l, 0)) := by unfold shareR; rw [if_pos HR.out, if_pos HL.out, if_neg ht]; rfl
      have hz : (tot ps == 0) = false := by simp [ht]
      have hg := gcdL_pos (f := ps) (l := l) (by omega)
      have hg0 := hg.1
      have hg1 := hg.2
      clear ht hg
      have hgz : (gcdL ps l == 0) = false := by simp; omega
      obtain ⟨sn, hsn⟩ : ∃ n : Nat, sumL ps l.data.toList = (n : Int) := ⟨(sumL ps l.data.toList).toNat, by omega⟩
      obtain ⟨tn, htn⟩ : ∃ n : Nat, tot ps = (n : Int) := ⟨(tot ps).toNat, by omega⟩
      have HG : Hid (gcdL ps l = ((Nat.gcd sn tn : Nat) : Int)) := by unfold gcdL; rw [hsn, htn]; rfl
      have HSN : Hid (sumL ps l.data.toList = (sn : Int)) := hsn
      have HTN : Hid (tot ps = (tn : Int)) := htn
      have hsn2 : sn ≤ 1000000000000 := by omega
      have htn2 : tn ≤ 1000000000000 := by omega
      rw [hsn] at hs0 hs1
      rw [htn] at hs1 ht0 ht9 hg1 hz
      clear hsn htn
      go_enter Try.func23, Try.ntmps23
      go_wp2_with fail
      refine (refusal1 ao cap ps w HF.out).mono ?_
      rintro e w1 ⟨rfl, hb⟩
      rw [HR.out]
      have HB : Hid (Below w.heap.size w w1) := hb
      clear hb
      go_wp2_with fail
      refine (isLabel_yes l w1 hl HL.out).mono ?_
      rintro e w2 ⟨rfl, hb⟩
      have HB2 : Hid (Below w.heap.size w w2) := HB.out.trans (hb.mono HB.out.size)
      clear hb
      go_wp2_with fail
      refine (total1 ao cap ps w2 (HF.out.next HB2.out) HR.out).mono ?_
      rintro e w3 ⟨rfl, hb⟩
      rw [HTN.out]
      have HB3 : Hid (Below w.heap.size w w3) := HB2.out.trans (hb.mono HB2.out.size)
      clear hb
      go_wp2_with fail
      refine (volumes_any ao cap ps w3 (HF.out.next HB3.out) HR.out).mono ?_
      rintro e w4 ⟨rfl, hV, hb⟩
      have HB4 : Hid (Below w.heap.size w w4) := HB3.out.trans (hb.mono HB3.out.size)
      obtain ⟨D, hD, hVo⟩ := hV
      have HAt : Hid (D.atKey (.string l.data.toList) (.lit (.int .i64 0)) = .lit (.int .i64 sn)) := by rw [hVo.2.1, HSN.out]; rfl
      have HD : Hid (w4.ownsMap Try.prog 9 (plainElem Try.prog 3) w3.heap.size ps.length D) := hD
      clear hb hD hVo
      go_wp2_with (at_lookup; refine wpList_lookup_own_int _ rfl (.tmp 26) (.tmp 27) 53 rfl 9 3 .i64 law Try.underlying53 Try.underlying3 (zero3 _) w3.heap.size ps.length D rfl HD.out (.string l) (.string l.data.toList) rfl (keyOf_string_mk Try.underlying9 hl) ?_; intro c hat hwc; obtain rfl : (sn : Int) = c := (by have h := HAt.out.symm.trans hat; simpa using h); clear hat hwc)
      refine (divisor_any sn tn w4 hsn2 htn2).mono ?_
      rintro e w5 ⟨rfl, n5, rfl⟩
      rw [← HG.out]
      generalize gcdL ps l = G at *
      go_wp2
      go_big_quiet (fail)
      go_wp2
      go_ret3
      refine ⟨?_, below_drewN (below_drewN HB4.out n5) nq⟩
      show Ending.returned (.tuple #[.int .i64 (wrap64 (↑sn / G)), .int .i64 (wrap64 (↑tn / G)), .int .i64 0]) = _
      rw [HQ.out, HSN.out, HTN.out, div_in (by omega) (by omega) hg0, div_in (by omega) (by omega) hg0]

set_option maxHeartbeats 800000 in
theorem withinF_any (ao ao' : Option Addr) (cap cap' : Nat) (ps qs : List Pc) (w : World) (h : Fl w ao ps) (h' : Fl w ao' qs) :
    Calls Try.prog 24 #[.slice ao ps.length cap, .slice ao' qs.length cap'] w fun e w' => e = .returned (.tuple #[.bool (withR ps qs).1, .int .i64 (withR ps qs).2]) ∧ Below w.heap.size w w' := by
  have HF : Hid (Fl w ao ps) := h
  have HG : Hid (Fl w ao' qs) := h'
  clear h h'
  by_cases hr : fref ps = 0 ∧ fref qs = 0
  rotate_left
  · obtain ⟨r, hr0, hQ⟩ : ∃ r : Int, (if fref ps = 0 then fref qs else fref ps) = r ∧ r ≠ 0 ∧ withR ps qs = (false, r) := by
      unfold withR
      by_cases h1 : fref ps = 0
      · have h2 : fref qs ≠ 0 := fun e => hr ⟨h1, e⟩
        exact ⟨fref qs, if_pos h1, h2, by rw [if_pos h1, if_neg h2]⟩
      · exact ⟨fref ps, if_neg h1, h1, by rw [if_neg h1]⟩
    have HR : Hid ((if fref ps = 0 then fref qs else fref ps) = r) := hr0
    have HQ : Hid (withR ps qs = (false, r)) := hQ.2
    have hne : (r == 0) = false := by simp [hQ.1]
    have hne2 : (r != 0) = true := by simp [hQ.1]
    clear hr hr0 hQ
    go_enter Try.func24, Try.ntmps24
    go_wp2_with fail
    refine (refusal2 ao ao' cap cap' ps qs w HF.out HG.out).mono ?_
    rintro e w1 ⟨rfl, hb⟩
    rw [HR.out]
    go_wp2
    go_ret2
    exact ⟨by rw [HQ.out]; rfl, hb⟩
  have HR : Hid (fref ps = 0) := hr.1
  have HR' : Hid (fref qs = 0) := hr.2
  have HQ : Hid (withR ps qs = (wthn ps qs, 0)) := by unfold withR; rw [if_pos hr.1, if_pos hr.2]; rfl
  have HI : Hid (ps.length ≤ 100 ∧ Fine ps ∧ tot ps ≤ 1000000000) := fref_in hr.1
  have HI' : Hid (qs.length ≤ 100 ∧ Fine qs ∧ tot qs ≤ 1000000000) := fref_in hr.2
  have hlp := HI.out.1
  clear hr
  go_enter Try.func24, Try.ntmps24
  go_wp2_with fail
  refine (refusal2 ao ao' cap cap' ps qs w HF.out HG.out).mono ?_
  rintro e w1 ⟨rfl, hb⟩
  rw [if_pos HR.out, HR'.out]
  have HB : Hid (Below w.heap.size w w1) := hb
  clear hb
  go_wp2_with fail
  refine (volumes_any ao' cap' qs w1 (HG.out.next HB.out) HR'.out).mono ?_
  rintro e w2 ⟨rfl, hV, hb⟩
  have HB2 : Hid (Below w.heap.size w w2) := HB.out.trans (hb.mono HB.out.size)
  have HV : Hid (VMap w2 w1.heap.size qs) := hV
  clear hb hV
  go_wp2
  go_loopw [21] (fun i wr => ∃ m : Nat, m ≤ ps.length ∧ i = .int .i64 m ∧ wthn (ps.take m) qs = true ∧ Below w2.heap.size w2 wr) (fun i _ => ps.length - (intOf i).toNat)
  case atStart => exact ⟨0, Nat.zero_le _, rfl, rfl, Below.refl _ _⟩
  case round =>
    obtain ⟨m, hm, rfl, hW, hb⟩ := hrel
    have HB3 : Hid (Below w2.heap.size w2 wr) := hb
    have HW : Hid (wthn (ps.take m) qs = true) := hW
    clear hb hW
    have HB4 : Hid (Below w.heap.size w wr) := HB2.out.trans (HB3.out.mono HB2.out.size)
    by_cases hlt : m < ps.length
    · obtain ⟨b2, off, rfl, hb2, c0, c1, hsz⟩ := (HF.out.next HB4.out).at hlt
      have HT : Hid (wthn (ps.take (m + 1)) qs = (decide ((ps[m]'hlt).2 ≤ 0) || decide (0 < sumL qs (ps[m]'hlt).1.data.toList))) := wthn_succ hlt HW.out
      have HN : Hid ((decide ((ps[m]'hlt).2 ≤ 0) || decide (0 < sumL qs (ps[m]'hlt).1.data.toList)) = false → wthn ps qs = false) := wthn_no hlt
      obtain ⟨p, hp⟩ : ∃ p, ps[m]'hlt = p := ⟨_, rfl⟩
      rw [hp] at c0 c1 HT HN hsz
      clear hp
      obtain ⟨l, n⟩ := p
      simp only at c0 c1 HT HN hsz
      have hs := sumL_in HI'.out.2.1.nn l.data.toList
      by_cases hn : 0 < n
      · have hnd : decide (0 < n) = true := by simp [hn]
        obtain ⟨D, hD, hVo⟩ := HV.out.next HB3.out
        obtain ⟨c, hrun, hat, _⟩ := World.ownsMap.lookup_int (hD.alloc (.cells #[.string l, .int .i64 n] 46)) law Try.underlying53 Try.underlying3 (zero3 _) (keyOf_string_mk Try.underlying9 hsz)
        obtain rfl : sumL qs l.data.toList = c := by have h := (hVo.2.1 l.data.toList).symm.trans hat; simpa using h
        clear hD hVo hat
        by_cases hz : sumL qs l.data.toList = 0
        · have HF2 : Hid (wthn ps qs = false) := HN.out (by rw [hz]; simp; omega)
          have hzb : (sumL qs l.data.toList == 0) = true := by simp [hz]
          clear hz
          go_wp2
          go_ret2
          exact ⟨by rw [HQ.out, HF2.out]; rfl, HB4.out.alloc HB4.out.size _⟩
        · have HT2 : Hid (wthn (ps.take (m + 1)) qs = true) := HT.out.trans (by simp; omega)
          have hzb : (sumL qs l.data.toList == 0) = false := by simp [hz]
          clear hz
          go_wp2
          go_roundw
          case rel => exact ⟨m + 1, by omega, by go_num, HT2.out, HB3.out.alloc HB3.out.size _⟩
          case measure => simp [intOf]; omega
      · have HT2 : Hid (wthn (ps.take (m + 1)) qs = true) := HT.out.trans (by simp; omega)
        have hnd : decide (0 < n) = false := by simp; omega
        clear hn
        go_wp2
        go_roundw
        case rel => exact ⟨m + 1, by omega, by go_num, HT2.out, HB3.out.alloc HB3.out.size _⟩
        case measure => simp [intOf]; omega
    · have e : Hid (wthn ps qs = true) := by have := HW.out; rw [List.take_of_length_le (by omega)] at this; exact this
      go_wp2
      go_ret2
      exact ⟨by rw [HQ.out, e.out]; rfl, HB4.out⟩
end Go.Proofs.Ythfchkclojnfmaa
