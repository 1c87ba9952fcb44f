import Derived.Test.YtcajifelbldjnaaGreatDoorIc
import Derived.Maps.Own
import Derived.Maps.OwnOps
import Derived.Maps.OwnSet
import Derived.Maps.Views
import Derived.Sort.KeysCollected
set_option maxRecDepth 100000
set_option maxHeartbeats 25600000
set_option linter.unusedVariables false
namespace Go.Proofs.YtcajifelbldjnaaGreatDoor.F
open Go.RowKit Go.Maps Go.WideMaps
open Go.RowKit Go.Maps Go.WideMaps
def sumL : List Pc → List UInt8 → Int
 | [], _ => 0
 | p :: r, l => (if p.1.data.toList = l then p.2 else 0) + sumL r l
theorem sumL_append (a b : List Pc) (l : List UInt8) : sumL (a ++ b) l = sumL a l + sumL b l := by
 induction a with
 | nil => simp [sumL]
 | cons p a ih => simp only [List.cons_append, sumL, ih]; omega
theorem sumL_snoc (a : List Pc) (p : Pc) (l : List UInt8) : sumL (a ++ [p]) l = sumL a l + if p.1.data.toList = l then p.2 else 0 := by rw [sumL_append]; simp [sumL]
theorem sumL_in {ps : List Pc} (h : Nn ps) (l : List UInt8) : 0 ≤ sumL ps l ∧ sumL ps l ≤ tot ps := by
 induction ps with
 | nil => simp [sumL, tot]
 | cons p ps ih =>
  have := ih (fun q hq => h q (by simp [hq]));have := h p (by simp);simp only [sumL, tot]
  split <;> omega
theorem sumL_pos {ps : List Pc} (h : Nn ps) (l : List UInt8) : 0 < sumL ps l ↔ ∃ p ∈ ps, p.1.data.toList = l ∧ 0 < p.2 := by
 induction ps with
 | nil => simp [sumL]
 | cons p ps ih =>
  have i := ih (fun q hq => h q (by simp [hq]));have i2 := (sumL_in (fun q hq => h q (by simp [hq]) : Nn ps) l).1;have hp := h p (by simp);simp only [sumL];constructor
  ·intro hs
   by_cases e : p.1.data.toList = l
   ·by_cases h0 : 0 < p.2
    ·exact ⟨p, by simp, e, h0⟩
    ·rw [if_pos e] at hs
     obtain ⟨q, hq, r⟩ := i.1 (by omega);exact ⟨q, by simp [hq], r⟩
   ·rw [if_neg e] at hs
    obtain ⟨q, hq, r⟩ := i.1 (by omega);exact ⟨q, by simp [hq], r⟩
  ·rintro ⟨q, hq, e, h0⟩
   rcases List.mem_cons.1 hq with rfl | hq
   ·rw [if_pos e]; omega
   ·have := i.2 ⟨q, hq, e, h0⟩
    split <;> omega
def Vols (D : DataW Unit) (ps : List Pc) : Prop := IsMap D ∧ (∀ l : List UInt8, D.atKey (.string l) (.lit (.int .i64 0)) = .lit (.int .i64 (sumL ps l))) ∧ ∀ l : List UInt8, has D (.string l) = decide (0 < sumL ps l)
theorem vols_nil : Vols (.map []) [] := ⟨isMap_empty, fun _ => rfl, fun _ => rfl⟩
theorem vols_skip {D : DataW Unit} {ps : List Pc} {p : Pc} (h : Vols D ps) (hp : p.2 = 0) : Vols D (ps ++ [p]) := by
 have e : ∀ l, sumL (ps ++ [p]) l = sumL ps l := fun l => by rw [sumL_snoc]; split <;> omega
 exact ⟨h.1, fun l => by rw [e]; exact h.2.1 l, fun l => by rw [e]; exact h.2.2 l⟩
theorem vols_put {D : DataW Unit} {ps : List Pc} {l0 : ByteArray} {n : Int} (h : Vols D ps) (hn : 0 < n) (hs : 0 ≤ sumL ps l0.data.toList) :
  Vols (D.put (.string l0.data.toList) (.lit (.int .i64 (sumL ps l0.data.toList + n)))) (ps ++ [(l0, n)]) := by
 have hk : WideAt.IsKeyLit (.string l0.data.toList) := by trivial
 refine ⟨h.1.put _ _, fun l => ?_, fun l => ?_⟩
 ·rw [sumL_snoc]
  by_cases e : l0.data.toList = l
  ·subst e; rw [atKey_put_same h.1 hk, if_pos rfl]
  ·rw [atKey_put_other (fun h => e (by injection h with h; exact h.symm)), h.2.1 l, if_neg e, Int.add_zero]
 ·rw [sumL_snoc]
  by_cases e : l0.data.toList = l
  ·subst e; rw [has_put_same h.1 hk, if_pos rfl]; symm; simp only [decide_eq_true_eq]; omega
  ·rw [has_put_other (fun h => e (by injection h with h; exact h.symm)), h.2.2 l, if_neg e, Int.add_zero]
theorem law : Keyed Tryz.prog 9 := string_keyed Tryz.underlying9
theorem zero3 (w : World) : (zeroValue 3).run Tryz.prog w = .ok (.int .i64 0) w := by kernel_rfl
theorem i64_wf {n : Int} (h1 : -9223372036854775808 ≤ n) (h2 : n ≤ 9223372036854775807) : (Lit.int .i64 n).wf = true := by
 have e1 : IntKind.i64.min = -9223372036854775808 := rfl;have e2 : IntKind.i64.max = 9223372036854775807 := rfl;simp only [Lit.wf, Bool.and_eq_true, decide_eq_true_eq];omega
def VMap (w : World) (b : Nat) (ps : List Pc) : Prop := ∃ D : DataW Unit, w.ownsMap Tryz.prog 9 (plainElem Tryz.prog 3) b ps.length D ∧ Vols D ps
theorem VMap.next {w w1 : World} {b : Nat} {ps : List Pc} (h : VMap w b ps) (hb : bw w w1) : VMap w1 b ps := by
 obtain ⟨D, ⟨es, clock, h1, h2⟩, hv⟩ := h;have hl : b < w.heap.size := (Array.getElem?_eq_some_iff.1 h1).1;exact ⟨D, ⟨es, clock, (hb.block b hl).trans h1, h2⟩, hv⟩
theorem volumes_any (ao : Option Addr) (cap : Nat) (ps : List Pc) (w : World) (h : Fl w ao ps) (hr : fref ps = 0) :
  Calls Tryz.prog 257 #[.slice ao ps.length cap] w fun e w' => e = .returned (.map (some w.heap.size)) ∧ VMap w' w.heap.size ps ∧ bw w w' := by
 have HF := hdd h;have HI : Hid (ps.length ≤ 100 ∧ Fine ps ∧ tot ps ≤ 1000000000) := fref_in hr;have hl := HI.out.1;clear h hr;have hmm := @run_makeMap Tryz.prog
 go_enter Tryz.func257, Tryz.ntmps257
 go_wp2
 go_loopw [9] (fun i wr => ∃ m : Nat, m ≤ ps.length ∧ i = .int .i64 m ∧ VMap wr w.heap.size (ps.take m) ∧ bw w wr) (fun i _ => ps.length - (intOf i).toNat)
 case atStart => exact ⟨0, Nat.zero_le _, rfl, ⟨_, World.ownsMap_made _ _ _ _, vols_nil⟩, (brf).alloc (Nat.le_refl _) _⟩
 case round =>
  obtain ⟨m, hm, rfl, hV, hb⟩ := hrel;have HB := hdd hb;have HV := hdd hV;clear hb hV
  by_cases hlt : m < ps.length
  ·obtain ⟨b2, off, rfl, hb2, c0, c1, hsz⟩ := (HF.out.next HB.out).at hlt
   have HT : Hid (ps.take (m + 1) = ps.take m ++ [ps[m]'hlt]) := List.take_succ_eq_append_getElem hlt;have hv0 := (HI.out.2.1 _ (List.getElem_mem hlt)).2.1;have hv1 := (HI.out.2.1 _ (List.getElem_mem hlt)).2.2;obtain ⟨p, hp⟩ : ∃ p, ps[m]'hlt = p := ⟨_, rfl⟩;rw [hp] at c0 c1 HT hv0 hv1 hsz;clear hp;obtain ⟨l, n⟩ := p;simp only at c0 c1 hv0 hv1 hsz;have hsl := sumL_in (ps := ps.take m) (HI.out.2.1.nn.take m) l.data.toList;have htk := tot_take_le HI.out.2.1.nn m;have ht9 := HI.out.2.2;have hs0 := hsl.1;have hs1 : sumL (ps.take m) l.data.toList ≤ 1000000000 := by omega
   clear hsl htk ht9;have hws := HB.out.size
   by_cases hn : 0 < n
   ·obtain ⟨D, hD, hVo⟩ := HV.out
    have hml : (ps.take m).length = m := by rw [List.length_take]; omega
    rw [hml] at hD;clear hml;have HD := hdd hD;have HVo := hdd hVo;clear hD hVo HV;have HPut : Hid (Vols (D.put (.string l.data.toList) (.lit (.int .i64 (sumL (ps.take m) l.data.toList + n)))) (ps.take m ++ [(l, n)])) := vols_put HVo.out hn hs0;have HAt : Hid (D.atKey (.string l.data.toList) (.lit (.int .i64 0)) = .lit (.int .i64 (sumL (ps.take m) l.data.toList))) := HVo.out.2.1 _;generalize sumL (ps.take m) l.data.toList = S at *
    go_wp2_with (first | (at_lookup; refine wpList_lookup_own_int _ rfl (.tmp 16) (.tmp 18) 330 rfl 9 3 .i64 law Tryz.underlying330 Tryz.underlying3 (zero3 _) w.heap.size m D rfl (HD.out.alloc _) (.string l) (.string l.data.toList) rfl (keyOf_string_mk Tryz.underlying9 hsz) ?_; intro c hat hwc; obtain rfl : S = c := (by have h := HAt.out.symm.trans hat; simpa using h); clear hat hwc) | (at_mapUpdate; refine wpList_mapUpdate_own _ rfl (.tmp 16) (.tmp 18) (.tmp 22) 330 rfl 9 3 law Tryz.underlying330 (plainElem Tryz.prog 3) w.heap.size m D rfl (HD.out.alloc _) (by unfold maxLen; omega) (.string l) (.int .i64 (S + n)) (.string l.data.toList) rfl rfl (keyOf_string_mk Tryz.underlying9 hsz) (.lit (.int .i64 (S + n))) [] (plainElem_int Tryz.underlying3 (i64_wf (by omega) (by omega))) ?_; intro w1 hown1 hgrow1))
    have HV2 : Hid (VMap w1 w.heap.size (ps.take (m + 1))) := by
     refine ⟨_, hown1.mono (by rw [List.length_take]; omega), ?_⟩;rw [HT.out];exact HPut.out
    have HB2 : Hid (bw w w1) := (HB.out.alloc hws _).grown hgrow1 (by simp; omega) (fun j hj => by cases hj; exact Nat.le_refl _);clear hown1 hgrow1;go_wp2
    go_roundw
    case rel => exact ⟨m + 1, by omega, by go_num, HV2.out, HB2.out⟩
    case measure => simp [intOf]; omega
   ·have hn0 : n = 0 := by omega
    have HV2 : Hid (VMap wr w.heap.size (ps.take (m + 1))) := by
     obtain ⟨D, hD, hVo⟩ := HV.out;have h := vols_skip (p := (l, n)) hVo hn0;rw [← HT.out] at h;exact ⟨D, hD.mono (by rw [List.length_take, List.length_take]; omega), h⟩
    clear hn;subst hn0;go_wp2
    go_roundw
    case rel => exact ⟨m + 1, by omega, by go_num, HV2.out.next ((brf).alloc (Nat.le_refl _) _), HB.out.alloc hws _⟩
    case measure => simp [intOf]; omega
  ·go_wp2
   go_ret;exact ⟨rfl, by have := HV.out; rw [List.take_of_length_le (by omega)] at this; exact this, HB.out⟩
def wthn (f g : List Pc) : Bool := f.all fun p => decide (p.2 ≤ 0) || decide (0 < sumL g p.1.data.toList)
def withR (f g : List Pc) : Bool × Int := if fref f = 0 then (if fref g = 0 then (wthn f g, 0) else (false, fref g)) else (false, fref f)
theorem wthn_succ {ps qs : List Pc} {m : Nat} (h : m < ps.length) (hw : wthn (ps.take m) qs = true) : wthn (ps.take (m + 1)) qs = (decide ((ps[m]'h).2 ≤ 0) || decide (0 < sumL qs (ps[m]'h).1.data.toList)) := by
 unfold wthn at hw ⊢;rw [List.take_succ_eq_append_getElem h, List.all_append, hw];simp
theorem wthn_no {ps qs : List Pc} {m : Nat} (h : m < ps.length) (hn : (decide ((ps[m]'h).2 ≤ 0) || decide (0 < sumL qs (ps[m]'h).1.data.toList)) = false) : wthn ps qs = false := by
 unfold wthn;rw [List.all_eq_false];exact ⟨_, List.getElem_mem h, by rw [hn]; decide⟩
theorem withinF_any (ao ao' : Option Addr) (cap cap' : Nat) (ps qs : List Pc) (w : World) (h : Fl w ao ps) (h' : Fl w ao' qs) :
  CR 212 #[.slice ao ps.length cap, .slice ao' qs.length cap'] w (.tuple #[.bool (withR ps qs).1, .int .i64 (withR ps qs).2]) := by
 have HF := hdd h;have HG := hdd h';clear h h'
 by_cases hr : fref ps = 0 ∧ fref qs = 0
 rotate_left
 ·obtain ⟨r, hr0, hQ⟩ : ∃ r : Int, (if fref ps = 0 then fref qs else fref ps) = r ∧ r ≠ 0 ∧ withR ps qs = (false, r) := by
   unfold withR
   by_cases h1 : fref ps = 0
   ·have h2 : fref qs ≠ 0 := fun e => hr ⟨h1, e⟩
    exact ⟨fref qs, if_pos h1, h2, by rw [if_pos h1, if_neg h2]⟩
   ·exact ⟨fref ps, if_neg h1, h1, by rw [if_neg h1]⟩
  have HR := hdd hr0;have HQ : Hid (withR ps qs = (false, r)) := hQ.2;have hne : (r == 0) = false := by simp [hQ.1]
  have hne2 : (r != 0) = true := by simp [hQ.1]
  clear hr hr0 hQ
  go_enter Tryz.func212, Tryz.ntmps212
  go_wp2_with fail
  refine (refusal2 ao ao' cap cap' ps qs w HF.out HG.out).mono ?_;rintro e w1 ⟨rfl, hb⟩;rw [HR.out];go_wp2
  go_ret2
  exact ⟨by rw [HQ.out]; rfl, hb⟩
 have HR : Hid (fref ps = 0) := hr.1;have HR' : Hid (fref qs = 0) := hr.2;have HQ : Hid (withR ps qs = (wthn ps qs, 0)) := by unfold withR; rw [if_pos hr.1, if_pos hr.2]; rfl
 have HI : Hid (ps.length ≤ 100 ∧ Fine ps ∧ tot ps ≤ 1000000000) := fref_in hr.1;have HI' : Hid (qs.length ≤ 100 ∧ Fine qs ∧ tot qs ≤ 1000000000) := fref_in hr.2;have hlp := HI.out.1;clear hr
 go_enter Tryz.func212, Tryz.ntmps212
 go_wp2_with fail
 refine (refusal2 ao ao' cap cap' ps qs w HF.out HG.out).mono ?_;rintro e w1 ⟨rfl, hb⟩;rw [if_pos HR.out, HR'.out];have HB := hdd hb;clear hb
 go_wp2_with fail
 refine (volumes_any ao' cap' qs w1 (HG.out.next HB.out) HR'.out).mono ?_;rintro e w2 ⟨rfl, hV, hb⟩;have HB2 : Hid (bw w w2) := HB.out.trans (hb.mono HB.out.size);have HV := hdd hV;clear hb hV;go_wp2
 go_loopw [21] (fun i wr => ∃ m : Nat, m ≤ ps.length ∧ i = .int .i64 m ∧ wthn (ps.take m) qs = true ∧ bw w2 wr) (fun i _ => ps.length - (intOf i).toNat)
 case atStart => exact ⟨0, Nat.zero_le _, rfl, rfl, brf⟩
 case round =>
  obtain ⟨m, hm, rfl, hW, hb⟩ := hrel;have HB3 := hdd hb;have HW := hdd hW;clear hb hW;have HB4 : Hid (bw w wr) := HB2.out.trans (HB3.out.mono HB2.out.size)
  by_cases hlt : m < ps.length
  ·obtain ⟨b2, off, rfl, hb2, c0, c1, hsz⟩ := (HF.out.next HB4.out).at hlt
   have HT : Hid (wthn (ps.take (m + 1)) qs = (decide ((ps[m]'hlt).2 ≤ 0) || decide (0 < sumL qs (ps[m]'hlt).1.data.toList))) := wthn_succ hlt HW.out;have HN : Hid ((decide ((ps[m]'hlt).2 ≤ 0) || decide (0 < sumL qs (ps[m]'hlt).1.data.toList)) = false → wthn ps qs = false) := wthn_no hlt;obtain ⟨p, hp⟩ : ∃ p, ps[m]'hlt = p := ⟨_, rfl⟩;rw [hp] at c0 c1 HT HN hsz;clear hp;obtain ⟨l, n⟩ := p;simp only at c0 c1 HT HN hsz;have hs := sumL_in HI'.out.2.1.nn l.data.toList
   by_cases hn : 0 < n
   ·have hnd : decide (0 < n) = true := by simp [hn]
    obtain ⟨D, hD, hVo⟩ := HV.out.next HB3.out;obtain ⟨c, hrun, hat, _⟩ := World.ownsMap.lookup_int (hD.alloc (.cells #[.string l, .int .i64 n] 147)) law Tryz.underlying330 Tryz.underlying3 (zero3 _) (keyOf_string_mk Tryz.underlying9 hsz);obtain rfl : sumL qs l.data.toList = c := by have h := (hVo.2.1 l.data.toList).symm.trans hat; simpa using h
    clear hD hVo hat
    by_cases hz : sumL qs l.data.toList = 0
    ·have HF2 : Hid (wthn ps qs = false) := HN.out (by rw [hz]; simp; omega)
     have hzb : (sumL qs l.data.toList == 0) = true := by simp [hz]
     clear hz;go_wp2
     go_ret2
     exact ⟨by rw [HQ.out, HF2.out]; rfl, HB4.out.alloc HB4.out.size _⟩
    ·have HT2 : Hid (wthn (ps.take (m + 1)) qs = true) := HT.out.trans (by simp; omega)
     have hzb : (sumL qs l.data.toList == 0) = false := by simp [hz]
     clear hz;go_wp2
     go_roundw
     case rel => exact ⟨m + 1, by omega, by go_num, HT2.out, HB3.out.alloc HB3.out.size _⟩
     case measure => simp [intOf]; omega
   ·have HT2 : Hid (wthn (ps.take (m + 1)) qs = true) := HT.out.trans (by simp; omega)
    have hnd : decide (0 < n) = false := by simp; omega
    clear hn;go_wp2
    go_roundw
    case rel => exact ⟨m + 1, by omega, by go_num, HT2.out, HB3.out.alloc HB3.out.size _⟩
    case measure => simp [intOf]; omega
  ·have e : Hid (wthn ps qs = true) := by have := HW.out; rw [List.take_of_length_le (by omega)] at this; exact this
   go_wp2
   go_ret2
   exact ⟨by rw [HQ.out, e.out]; rfl, HB4.out⟩
end Go.Proofs.YtcajifelbldjnaaGreatDoor.F
