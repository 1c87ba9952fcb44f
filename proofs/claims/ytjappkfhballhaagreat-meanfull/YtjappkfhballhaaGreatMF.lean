/- wellMost, total walked. -/
import Derived.Test.YtjappkfhballhaaGreatME
namespace Go.Proofs.YtjappkfhballhaaGreat
open Go.RowKit F

theorem wellM_of (l : List Sit) (p : Plc) : wellM l p = if (wareV l p).2 = 0 then (if (wareV l p).1.kind = 1 then ((wareV l p).1.cap, 0) else (0, 6)) else (0, 5) := by
  unfold wellM wareV
  cases h : wareOf l p <;> simp
theorem wareV_two (l : List Sit) (p : Plc) : (wareV l p).2 = 0 ∨ (wareV l p).2 = 5 := by
  unfold wareV
  split
  · exact .inl rfl
  · exact .inr rfl
set_option maxHeartbeats 3200000 in
theorem wellMost_any (ao : Option Addr) (cap : Nat) (l : List Sit) (p : Plc) (w : World) (hD : Dk w ao cap l) (hd : dchk l = 0) :
    Calls Tryz.prog 94 #[layv ao cap l, plv p] w fun e w' => e = .returned (.tuple #[.int .i64 (wellM l p).1, .int .i64 (wellM l p).2]) ∧ Below w.heap.size w w' := by
  have al : Below w.heap.size w ((w.alloc (layo ao cap l)).alloc (pobj p)) := ((Below.refl _ _).alloc (Nat.le_refl _) _).alloc (by simp) _
  have HC := (show Hid _ from wareAt_any ao cap l p ((tipsL l).length : Int) (tipM l) _ (hD.next al) hd)
  have HM : Hid (_) := wellM_of l p
  have h2 := wareV_two l p
  obtain ⟨⟨a, e0⟩, hV⟩ : ∃ x, wareV l p = x := ⟨_, rfl⟩
  rw [hV] at HC HM h2
  simp only at HC HM h2
  clear hV hD hd
  by_cases h0 : e0 = 0
  · subst h0
    by_cases hk : a.kind = 1
    · have hk2 : (a.kind != 1) = false := by simp [hk]
      have HQ : Hid (wellM l p = (a.cap, 0)) := by show _ = _; rw [HM.out, if_pos rfl, if_pos hk]
      go_enter Tryz.func94, Tryz.ntmps94
      go_wp2_with fail
      refine Calls.mono HC.out ?_
      rintro e w1 ⟨rfl, hb⟩
      go_wp2
      go_ret2
      refine ⟨by rw [HQ.out]; rfl, ?_⟩
      exact (al.trans (hb.mono (by simp; omega))).alloc (by have := hb.size; simp at this; omega) _
    · have hk2 : (a.kind != 1) = true := by simp [hk]
      have HQ : Hid (wellM l p = (0, 6)) := by show _ = _; rw [HM.out, if_pos rfl, if_neg hk]
      go_enter Tryz.func94, Tryz.ntmps94
      go_wp2_with fail
      refine Calls.mono HC.out ?_
      rintro e w1 ⟨rfl, hb⟩
      go_wp2
      go_ret2
      refine ⟨by rw [HQ.out]; rfl, ?_⟩
      exact (al.trans (hb.mono (by simp; omega))).alloc (by have := hb.size; simp at this; omega) _
  · obtain rfl : e0 = 5 := h2.resolve_left h0
    have HQ : Hid (wellM l p = (0, 5)) := by show _ = _; rw [HM.out, if_neg (by decide)]
    go_enter Tryz.func94, Tryz.ntmps94
    go_wp2_with fail
    refine Calls.mono HC.out ?_
    rintro e w1 ⟨rfl, hb⟩
    go_wp2
    go_ret2
    refine ⟨by rw [HQ.out]; rfl, ?_⟩
    exact (al.trans (hb.mono (by simp; omega))).alloc (by have := hb.size; simp at this; omega) _
set_option maxHeartbeats 1600000 in
theorem mtotal_any (ao : Option Addr) (cap : Nat) (ps : List Pc) (w : World) (h : Fl w ao ps) :
    Calls Tryz.prog 116 #[.slice ao ps.length cap] w fun e w' => e = .returned (.int .i64 (totR ps).1) ∧ Below w.heap.size w w' := by
  have HC := (show Hid _ from totalF_any ao cap ps w h)
  clear h
  generalize totR ps = r at *
  go_enter Tryz.func116, Tryz.ntmps116
  go_wp2_with fail
  refine Calls.mono HC.out ?_
  rintro e w1 ⟨rfl, hb⟩
  go_wp2
  go_ret
  exact ⟨rfl, hb⟩
end Go.Proofs.YtjappkfhballhaaGreat
