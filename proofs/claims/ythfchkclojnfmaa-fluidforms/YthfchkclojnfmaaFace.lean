/- fluid.Check, Plain, Total, Put, walked. -/
import Derived.Test.YthfchkclojnfmaaPla
namespace Go.Proofs.Ythfchkclojnfmaa
open Go.RowKit

theorem refusal1 (ao : Option Addr) (cap : Nat) (ps : List Pc) (w : World) (h : Fl w ao ps) :
    Calls Try.prog 30 #[.slice (some ⟨w.heap.size, 0, none⟩) 1 1] (w.alloc (.cells #[.slice ao ps.length cap] 22)) fun e w' => e = .returned (.int .i64 (fref ps)) ∧ Below w.heap.size w w' :=
  (refusal_any w.heap.size 1 [(ao, cap, ps)] _ (FlS.one h) (by simp)).mono fun e w' ⟨he, hb⟩ =>
    ⟨by rw [he]; exact ret_int (frefs_one ps), ((Below.refl _ _).alloc (Nat.le_refl _) _).trans (hb.mono (by simp))⟩
theorem refusal2 (ao ao' : Option Addr) (cap cap' : Nat) (ps ps' : List Pc) (w : World) (h : Fl w ao ps) (h' : Fl w ao' ps') :
    Calls Try.prog 30 #[.slice (some ⟨w.heap.size, 0, none⟩) 2 2] (w.alloc (.cells #[.slice ao ps.length cap, .slice ao' ps'.length cap'] 22)) fun e w' => e = .returned (.int .i64 (if fref ps = 0 then fref ps' else fref ps)) ∧ Below w.heap.size w w' :=
  (refusal_any w.heap.size 2 [(ao, cap, ps), (ao', cap', ps')] _ (FlS.two h h') (by simp)).mono fun e w' ⟨he, hb⟩ =>
    ⟨by rw [he]; exact ret_int (frefs_two ps ps'), ((Below.refl _ _).alloc (Nat.le_refl _) _).trans (hb.mono (by simp))⟩
theorem total1 (ao : Option Addr) (cap : Nat) (ps : List Pc) (w : World) (h : Fl w ao ps) (hr : fref ps = 0) :
    Calls Try.prog 32 #[.slice (some ⟨w.heap.size, 0, none⟩) 1 1] (w.alloc (.cells #[.slice ao ps.length cap] 22)) fun e w' => e = .returned (.int .i64 (tot ps)) ∧ Below w.heap.size w w' :=
  (total_any w.heap.size 1 [(ao, cap, ps)] _ (FlS.one h) (fun f hf => by simp at hf; subst hf; exact (fref_in hr).2.1) (fun f hf => by simp at hf; subst hf; exact (fref_in hr).1) (by simp)).mono fun e w' ⟨he, hb⟩ =>
    ⟨by rw [he, cat_one], ((Below.refl _ _).alloc (Nat.le_refl _) _).trans (hb.mono (by simp))⟩
theorem two_fine {ao ao' : Option Addr} {cap cap' : Nat} {ps ps' : List Pc} (hr : fref ps = 0) (hr' : fref ps' = 0) : (∀ f ∈ [((ao, cap, ps) : Fd), (ao', cap', ps')], Fine f.2.2) ∧ (∀ f ∈ [((ao, cap, ps) : Fd), (ao', cap', ps')], f.2.2.length ≤ 100) := by
  constructor
  all_goals
    intro f hf
    simp only [List.mem_cons, List.mem_nil_iff, or_false] at hf
    rcases hf with rfl | rfl
  · exact (fref_in hr).2.1
  · exact (fref_in hr').2.1
  · exact (fref_in hr).1
  · exact (fref_in hr').1
theorem total2 (ao ao' : Option Addr) (cap cap' : Nat) (ps ps' : List Pc) (w : World) (h : Fl w ao ps) (h' : Fl w ao' ps') (hr : fref ps = 0) (hr' : fref ps' = 0) :
    Calls Try.prog 32 #[.slice (some ⟨w.heap.size, 0, none⟩) 2 2] (w.alloc (.cells #[.slice ao ps.length cap, .slice ao' ps'.length cap'] 22)) fun e w' => e = .returned (.int .i64 (tot ps + tot ps')) ∧ Below w.heap.size w w' :=
  (total_any w.heap.size 2 [(ao, cap, ps), (ao', cap', ps')] _ (FlS.two h h') (two_fine hr hr').1 (two_fine hr hr').2 (by simp)).mono fun e w' ⟨he, hb⟩ =>
    ⟨by rw [he, cat_two, tot_append], ((Below.refl _ _).alloc (Nat.le_refl _) _).trans (hb.mono (by simp))⟩
theorem own_base {w : World} {base base' : Nat} {v : Value} {ps : List Pc} (h : Own w base v ps) (hb : base' ≤ base) : Own w base' v ps := by
  obtain ⟨h1, h2⟩ := h
  refine ⟨h1, h2.imp id ?_⟩
  rintro ⟨g, cap, cur, e, hg, r⟩
  exact ⟨g, cap, cur, e, by omega, r⟩
theorem plain1 (ao : Option Addr) (cap : Nat) (ps : List Pc) (w : World) (h : Fl w ao ps) (hr : fref ps = 0) :
    Calls Try.prog 31 #[.slice (some ⟨w.heap.size, 0, none⟩) 1 1] (w.alloc (.cells #[.slice ao ps.length cap] 22)) fun e w' => ∃ v, e = .returned v ∧ Own w' w.heap.size v (plainL ps) ∧ Below w.heap.size w w' :=
  (plain_any w.heap.size 1 [(ao, cap, ps)] _ (FlS.one h) (fun f hf => by simp at hf; subst hf; exact (fref_in hr).2.1) (fun f hf => by simp at hf; subst hf; exact (fref_in hr).1) (by simp)).mono fun e w' ⟨v, he, ho, hb⟩ =>
    ⟨v, he, by rw [cat_one] at ho; exact own_base ho (by simp), ((Below.refl _ _).alloc (Nat.le_refl _) _).trans (hb.mono (by simp))⟩
theorem plain2 (ao ao' : Option Addr) (cap cap' : Nat) (ps ps' : List Pc) (w : World) (h : Fl w ao ps) (h' : Fl w ao' ps') (hr : fref ps = 0) (hr' : fref ps' = 0) :
    Calls Try.prog 31 #[.slice (some ⟨w.heap.size, 0, none⟩) 2 2] (w.alloc (.cells #[.slice ao ps.length cap, .slice ao' ps'.length cap'] 22)) fun e w' => ∃ v, e = .returned v ∧ Own w' w.heap.size v (plainL (ps ++ ps')) ∧ Below w.heap.size w w' :=
  (plain_any w.heap.size 2 [(ao, cap, ps), (ao', cap', ps')] _ (FlS.two h h') (two_fine hr hr').1 (two_fine hr hr').2 (by simp)).mono fun e w' ⟨v, he, ho, hb⟩ =>
    ⟨v, he, by rw [cat_two] at ho; exact own_base ho (by simp), ((Below.refl _ _).alloc (Nat.le_refl _) _).trans (hb.mono (by simp))⟩

/-- What the calls come to: the document's answers. -/
def plainR (ps : List Pc) : List Pc × Int := if fref ps = 0 then (plainL ps, 0) else ([], fref ps)
def totR (ps : List Pc) : Int × Int := if fref ps = 0 then (tot ps, 0) else (0, fref ps)
def putR (f g : List Pc) : List Pc × Int :=
  if fref f = 0 then (if fref g = 0 then (if 1000000000 < tot f + tot g then ([], 8) else if 100 < (plainL (f ++ g)).length then ([], 7) else (plainL (f ++ g), 0)) else ([], fref g)) else ([], fref f)

set_option maxHeartbeats 800000 in
theorem check_any (ao : Option Addr) (cap : Nat) (ps : List Pc) (w : World) (h : Fl w ao ps) :
    Calls Try.prog 9 #[.slice ao ps.length cap] w fun e w' => e = .returned (.int .i64 (fref ps)) ∧ Below w.heap.size w w' := by
  have HF : Hid (Fl w ao ps) := h
  clear h
  go_enter Try.func9, Try.ntmps9
  go_wp2_with fail
  refine (refusal1 ao cap ps w HF.out).mono ?_
  rintro e w1 ⟨rfl, hb⟩
  go_wp2
  go_ret
  exact ⟨rfl, hb⟩

set_option maxHeartbeats 800000 in
theorem plainF_any (ao : Option Addr) (cap : Nat) (ps : List Pc) (w : World) (h : Fl w ao ps) :
    Calls Try.prog 11 #[.slice ao ps.length cap] w fun e w' => ∃ v, e = .returned (.tuple #[v, .int .i64 (plainR ps).2]) ∧ Own w' w.heap.size v (plainR ps).1 ∧ Below w.heap.size w w' := by
  have HF : Hid (Fl w ao ps) := h
  clear h
  by_cases hr : fref ps = 0
  · have HR : Hid (fref ps = 0) := hr
    have HQ : Hid (plainR ps = (plainL ps, 0)) := if_pos hr
    clear hr
    go_enter Try.func11, Try.ntmps11
    go_wp2_with fail
    refine (refusal1 ao cap ps w HF.out).mono ?_
    rintro e w1 ⟨rfl, hb⟩
    rw [HR.out]
    have HB : Hid (Below w.heap.size w w1) := hb
    clear hb
    go_wp2_with fail
    refine (plain1 ao cap ps w1 (HF.out.next HB.out) HR.out).mono ?_
    rintro e w2 ⟨v, rfl, ho, hb⟩
    go_wp2
    go_ret2
    refine ⟨v, by rw [HQ.out]; rfl, by rw [HQ.out]; exact own_base ho HB.out.size, HB.out.trans (hb.mono HB.out.size)⟩
  · have HQ : Hid (plainR ps = ([], fref ps)) := if_neg hr
    have hne : (fref ps == 0) = false := by simp [hr]
    have hne2 : (fref ps != 0) = true := by simp [hr]
    clear hr
    go_enter Try.func11, Try.ntmps11
    go_wp2_with fail
    refine (refusal1 ao cap ps w HF.out).mono ?_
    rintro e w1 ⟨rfl, hb⟩
    go_wp2
    go_ret2
    refine ⟨.slice none 0 0, by rw [HQ.out]; rfl, by rw [HQ.out]; exact Own.nil _ _, hb⟩

set_option maxHeartbeats 800000 in
theorem totalF_any (ao : Option Addr) (cap : Nat) (ps : List Pc) (w : World) (h : Fl w ao ps) :
    Calls Try.prog 12 #[.slice ao ps.length cap] w fun e w' => e = .returned (.tuple #[.int .i64 (totR ps).1, .int .i64 (totR ps).2]) ∧ Below w.heap.size w w' := by
  have HF : Hid (Fl w ao ps) := h
  clear h
  by_cases hr : fref ps = 0
  · have HR : Hid (fref ps = 0) := hr
    have HQ : Hid (totR ps = (tot ps, 0)) := if_pos hr
    clear hr
    go_enter Try.func12, Try.ntmps12
    go_wp2_with fail
    refine (refusal1 ao cap ps w HF.out).mono ?_
    rintro e w1 ⟨rfl, hb⟩
    rw [HR.out]
    have HB : Hid (Below w.heap.size w w1) := hb
    clear hb
    go_wp2_with fail
    refine (total1 ao cap ps w1 (HF.out.next HB.out) HR.out).mono ?_
    rintro e w2 ⟨rfl, hb⟩
    go_wp2
    go_ret2
    exact ⟨by rw [HQ.out]; rfl, HB.out.trans (hb.mono HB.out.size)⟩
  · have HQ : Hid (totR ps = (0, fref ps)) := if_neg hr
    have hne : (fref ps == 0) = false := by simp [hr]
    have hne2 : (fref ps != 0) = true := by simp [hr]
    clear hr
    go_enter Try.func12, Try.ntmps12
    go_wp2_with fail
    refine (refusal1 ao cap ps w HF.out).mono ?_
    rintro e w1 ⟨rfl, hb⟩
    go_wp2
    go_ret2
    exact ⟨by rw [HQ.out]; rfl, hb⟩

set_option maxHeartbeats 800000 in
theorem put_any (ao ao' : Option Addr) (cap cap' : Nat) (ps ps' : List Pc) (w : World) (h : Fl w ao ps) (h' : Fl w ao' ps') :
    Calls Try.prog 19 #[.slice ao ps.length cap, .slice ao' ps'.length cap'] w fun e w' => ∃ v, e = .returned (.tuple #[v, .int .i64 (putR ps ps').2]) ∧ Own w' w.heap.size v (putR ps ps').1 ∧ Below w.heap.size w w' := by
  have HF : Hid (Fl w ao ps) := h
  have HF' : Hid (Fl w ao' ps') := h'
  clear h h'
  by_cases hr : fref ps = 0 ∧ fref ps' = 0
  rotate_left
  · obtain ⟨r, hr0, hQ⟩ : ∃ r : Int, (if fref ps = 0 then fref ps' else fref ps) = r ∧ r ≠ 0 ∧ putR ps ps' = ([], r) := by
      unfold putR
      by_cases h1 : fref ps = 0
      · have h2 : fref ps' ≠ 0 := fun e => hr ⟨h1, e⟩
        exact ⟨fref ps', if_pos h1, h2, by rw [if_pos h1, if_neg h2]⟩
      · exact ⟨fref ps, if_neg h1, h1, by rw [if_neg h1]⟩
    have HR : Hid ((if fref ps = 0 then fref ps' else fref ps) = r) := hr0
    have HQ : Hid (putR ps ps' = ([], r)) := hQ.2
    have hne : (r == 0) = false := by simp [hQ.1]
    have hne2 : (r != 0) = true := by simp [hQ.1]
    clear hr hr0 hQ
    go_enter Try.func19, Try.ntmps19
    go_wp2_with fail
    refine (refusal2 ao ao' cap cap' ps ps' w HF.out HF'.out).mono ?_
    rintro e w1 ⟨rfl, hb⟩
    rw [HR.out]
    go_wp2
    go_ret2
    exact ⟨.slice none 0 0, by rw [HQ.out]; rfl, by rw [HQ.out]; exact Own.nil _ _, hb⟩
  have HR : Hid (fref ps = 0) := hr.1
  have HR' : Hid (fref ps' = 0) := hr.2
  clear hr
  by_cases ht : 1000000000 < tot ps + tot ps'
  · have HQ : Hid (putR ps ps' = ([], 8)) := by unfold putR; rw [if_pos HR.out, if_pos HR'.out, if_pos ht]; rfl
    go_enter Try.func19, Try.ntmps19
    go_wp2_with fail
    refine (refusal2 ao ao' cap cap' ps ps' w HF.out HF'.out).mono ?_
    rintro e w1 ⟨rfl, hb⟩
    rw [if_pos HR.out, HR'.out]
    have HB : Hid (Below w.heap.size w w1) := hb
    clear hb
    go_wp2_with fail
    refine (total2 ao ao' cap cap' ps ps' w1 (HF.out.next HB.out) (HF'.out.next HB.out) HR.out HR'.out).mono ?_
    rintro e w2 ⟨rfl, hb⟩
    go_wp2
    go_ret2
    exact ⟨.slice none 0 0, by rw [HQ.out]; rfl, by rw [HQ.out]; exact Own.nil _ _, HB.out.trans (hb.mono HB.out.size)⟩
  by_cases hl : 100 < (plainL (ps ++ ps')).length
  all_goals
    go_enter Try.func19, Try.ntmps19
    go_wp2_with fail
    refine (refusal2 ao ao' cap cap' ps ps' w HF.out HF'.out).mono ?_
    rintro e w1 ⟨rfl, hb⟩
    rw [if_pos HR.out, HR'.out]
    have HB : Hid (Below w.heap.size w w1) := hb
    clear hb
    go_wp2_with fail
    refine (total2 ao ao' cap cap' ps ps' w1 (HF.out.next HB.out) (HF'.out.next HB.out) HR.out HR'.out).mono ?_
    rintro e w2 ⟨rfl, hb⟩
    have HB2 : Hid (Below w.heap.size w w2) := HB.out.trans (hb.mono HB.out.size)
    clear hb
    go_wp2_with fail
    refine (plain2 ao ao' cap cap' ps ps' w2 (HF.out.next HB2.out) (HF'.out.next HB2.out) HR.out HR'.out).mono ?_
    rintro e w3 ⟨v, rfl, ho, hb⟩
    have HB3 : Hid (Below w.heap.size w w3) := HB2.out.trans (hb.mono HB2.out.size)
    have HO : Hid (Own w3 w.heap.size v (plainL (ps ++ ps'))) := own_base ho HB2.out.size
    clear hb ho
    obtain ⟨ao2, cap2, rfl⟩ := HO.out.shape
  · have HQ : Hid (putR ps ps' = ([], 7)) := by unfold putR; rw [if_pos HR.out, if_pos HR'.out, if_neg (by omega), if_pos hl]; rfl
    go_wp2
    go_ret2
    exact ⟨.slice none 0 0, by rw [HQ.out]; rfl, by rw [HQ.out]; exact Own.nil _ _, HB3.out⟩
  · have HQ : Hid (putR ps ps' = (plainL (ps ++ ps'), 0)) := by unfold putR; rw [if_pos HR.out, if_pos HR'.out, if_neg (by omega), if_neg (by omega)]; rfl
    go_wp2
    go_ret2
    exact ⟨.slice ao2 (plainL (ps ++ ps')).length cap2, by rw [HQ.out]; rfl, by rw [HQ.out]; exact HO.out, HB3.out⟩
end Go.Proofs.Ythfchkclojnfmaa
