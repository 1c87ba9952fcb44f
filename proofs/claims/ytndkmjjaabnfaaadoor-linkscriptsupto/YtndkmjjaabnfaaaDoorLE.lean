/- LinkScripts walked. -/
import Derived.Test.YtndkmjjaabnfaaaDoorLD
import Derived.Test.YtndkmjjaabnfaaaDoorLC
namespace Go.Proofs.YtndkmjjaabnfaaaDoor
open Go.RowKit Go.Shelf

theorem whole (s : ByteArray) : (⟨s.data.toList.toArray⟩ : ByteArray) = s := by cases s; simp
theorem scriptS (s : ByteArray) (w : World) (h : s.size ≤ 1048576) : Calls Tryd.prog 6 #[.string s] w fun e w' => ScP s.data.toList w e w' := by
  have := script_any s.data.toList w (by rw [lenL]; exact h)
  rw [show sA s.data.toList = Value.string s from congrArg Value.string (whole s)] at this
  exact this
theorem worR_no {l : List Int} (h : refS l ≠ 0) : worR l = 0 := if_neg h
theorem worR_yes {l : List Int} (h : refS l = 0) : worR l = ((worstN l l.length : Nat) : Int) := by
  unfold worR
  rw [if_pos h, worst_same]
set_option maxHeartbeats 6400000 in
set_option maxRecDepth 100000 in
theorem linkScripts_any (s : ByteArray) (ao : Option Addr) (cap : Nat) (ps : List Int) (w : World) (hs : s.size ≤ 1048576) (hp : ps.length ≤ 1048576) (hR : RdI w ao ps) (hn : ao = none → cap = 0) :
    Calls Tryd.prog 3 #[.string s, .slice ao ps.length cap] w fun e w' => e = .returned (.bool true) ∧ Below w.heap.size w w' := by
  have HR : Hid (RdI w ao ps) := hR
  have HN : Hid (ao = none → cap = 0) := hn
  have HSc : Hid (∀ W, Calls Tryd.prog 6 #[.string s] W fun e w' => ScP s.data.toList W e w') := fun W => scriptS s W hs
  have HRs : Hid (∀ W, Calls Tryd.prog 9 #[.string s] W fun e w' => ScP s.data.toList W e w') := fun W => readScript_any s W hs
  have hlen := scrL_le s.data.toList
  have HL : Hid (ps.length ≤ 1048576) := hp
  clear hR hn hs
  go_enter Tryd.func3, Tryd.ntmps3
  go_wp2_with fail
  refine (HSc.out _).mono ?_
  rintro e w1 ⟨ao1, cap1, rfl, hr1, hb1⟩
  have HB1 : Hid (Below w.heap.size w w1) := hb1
  have HR1 : Hid (RdI w1 ao1 (scrL s.data.toList)) := hr1
  have HP1 : Hid (RdI w1 ao ps) := HR.out.later hb1
  clear hb1 hr1
  go_wp2_with fail
  refine (ints_any ao cap ps w1 HP1.out HN.out (by omega)).mono ?_
  rintro e w2 ⟨ao2, cap2, rfl, hr2, hb2⟩
  have HB2 : Hid (Below w.heap.size w w2) := HB1.out.trans (hb2.mono HB1.out.size)
  have HR2 : Hid (RdI w2 ao1 (scrL s.data.toList)) := HR1.out.later hb2
  have HP2 : Hid (RdI w2 ao ps) := HP1.out.later hb2
  have HQ2 : Hid (RdI w2 ao2 ps) := hr2
  clear hb2 hr2 HB1 HR1 HP1
  go_wp2_with fail
  refine (worst_any ao2 cap2 ps w2 HQ2.out (by omega)).mono ?_
  rintro e w3 ⟨rfl, hw⟩
  subst w3
  go_wp2_with fail
  refine (HRs.out _).mono ?_
  rintro e w4 ⟨ao4, cap4, rfl, hr4, hb4⟩
  have HB4 : Hid (Below w.heap.size w w4) := HB2.out.trans (hb4.mono HB2.out.size)
  have HR4 : Hid (RdI w4 ao1 (scrL s.data.toList)) := HR2.out.later hb4
  have HS4 : Hid (RdI w4 ao4 (scrL s.data.toList)) := hr4
  have HP4 : Hid (RdI w4 ao ps) := HP2.out.later hb4
  clear hb4 hr4 HB2 HR2 HP2 HQ2
  have HLe : Hid ((scrL s.data.toList).length ≤ 2000) := hlen
  go_wp2_with fail
  refine (sameInts_any (scrL s.data.toList) _ cap1 cap4 ao1 ao4 w4 rfl (by have := HLe.out; omega) HR4.out HS4.out).mono ?_
  rintro e w5 ⟨rfl, hb5⟩
  have HB5 : Hid (Below w.heap.size w w5) := HB4.out.trans (hb5.mono HB4.out.size)
  have HP5 : Hid (RdI w5 ao ps) := HP4.out.later hb5
  clear hb5 HB4 HR4 HS4 HP4
  go_wp2_with fail
  refine (scriptMay_any ao cap ps w5 HP5.out (by omega)).mono ?_
  rintro e w6 ⟨rfl, hw⟩
  subst w6
  by_cases hz : refS ps = 0
  · have HW : Hid (worR ps = ((worstN ps ps.length : Nat) : Int)) := worR_yes hz
    have HO : Hid (Calls Tryd.prog 12 #[.slice ao ps.length cap] w5 fun e w' => e = .returned (.int .i64 (worstN ps ps.length : Nat)) ∧ w' = w5) := worstOf_any ao cap ps w5 HP5.out (refS_len hz)
    rw [hz, HW.out]
    generalize ((worstN ps ps.length : Nat) : Int) = m at *
    clear HW hz
    go_wp2_with fail
    refine HO.out.mono ?_
    rintro e w7 ⟨rfl, hw⟩
    subst w7
    go_wp2
    go_ret
    exact ⟨rfl, HB5.out⟩
  · rw [worR_no hz]
    generalize refS ps = r at *
    go_wp2
    go_ret
    exact ⟨rfl, HB5.out⟩
end Go.Proofs.YtndkmjjaabnfaaaDoor
