/- fluid.Check, Plain, Total, Put, Draw walked. -/
import Derived.Test.YtjappkfhballhaaGreatFC
namespace Go.Proofs.YtjappkfhballhaaGreat.F
open Go.RowKit


theorem refusal1 (ao : Option Addr) (cap : Nat) (ps : List Pc) (w : World) (h : Fl w ao ps) :
    Calls Tryz.prog 56 #[.slice (some ⟨w.heap.size, 0, none⟩) 1 1] (w.alloc (.cells #[.slice ao ps.length cap] 24)) fun e w' => e = .returned (.int .i64 (fref ps)) ∧ Below w.heap.size w w' :=
  (refusal_any w.heap.size 1 [(ao, cap, ps)] _ (FlS.one h) (by simp)).mono fun e w' ⟨he, hb⟩ =>
    ⟨by rw [he]; exact ret_int (frefs_one ps), ((Below.refl _ _).alloc (Nat.le_refl _) _).trans (hb.mono (by simp))⟩
theorem refusal2 (ao ao' : Option Addr) (cap cap' : Nat) (ps ps' : List Pc) (w : World) (h : Fl w ao ps) (h' : Fl w ao' ps') :
    Calls Tryz.prog 56 #[.slice (some ⟨w.heap.size, 0, none⟩) 2 2] (w.alloc (.cells #[.slice ao ps.length cap, .slice ao' ps'.length cap'] 24)) fun e w' => e = .returned (.int .i64 (if fref ps = 0 then fref ps' else fref ps)) ∧ Below w.heap.size w w' :=
  (refusal_any w.heap.size 2 [(ao, cap, ps), (ao', cap', ps')] _ (FlS.two h h') (by simp)).mono fun e w' ⟨he, hb⟩ =>
    ⟨by rw [he]; exact ret_int (frefs_two ps ps'), ((Below.refl _ _).alloc (Nat.le_refl _) _).trans (hb.mono (by simp))⟩
theorem total1 (ao : Option Addr) (cap : Nat) (ps : List Pc) (w : World) (h : Fl w ao ps) (hr : fref ps = 0) :
    Calls Tryz.prog 57 #[.slice (some ⟨w.heap.size, 0, none⟩) 1 1] (w.alloc (.cells #[.slice ao ps.length cap] 24)) fun e w' => e = .returned (.int .i64 (tot ps)) ∧ Below w.heap.size w w' :=
  (total_any w.heap.size 1 [(ao, cap, ps)] _ (FlS.one h) (fun f hf => by simp at hf; subst hf; exact (fref_in hr).2.1) (fun f hf => by simp at hf; subst hf; exact (fref_in hr).1) (by simp)).mono fun e w' ⟨he, hb⟩ =>
    ⟨by rw [he, cat_one], ((Below.refl _ _).alloc (Nat.le_refl _) _).trans (hb.mono (by simp))⟩
theorem two_fine {ao ao' : Option Addr} {cap cap' : Nat} {ps ps' : List Pc} (hr : fref ps = 0) (hr' : fref ps' = 0) : (∀ f ∈ [((ao, cap, ps) : Fd), (ao', cap', ps')], Fine f.2.2) ∧ (∀ f ∈ [((ao, cap, ps) : Fd), (ao', cap', ps')], f.2.2.length ≤ 100) := by
  constructor
  all_goals
    intro f hf
    simp only [List.mem_cons, List.mem_nil_iff, or_false] at hf
    rcases hf with rfl | rfl
  · exact (fref_in hr).2.1
  · exact (fref_in hr').2.1
  · exact (fref_in hr).1
  · exact (fref_in hr').1
theorem total2 (ao ao' : Option Addr) (cap cap' : Nat) (ps ps' : List Pc) (w : World) (h : Fl w ao ps) (h' : Fl w ao' ps') (hr : fref ps = 0) (hr' : fref ps' = 0) :
    Calls Tryz.prog 57 #[.slice (some ⟨w.heap.size, 0, none⟩) 2 2] (w.alloc (.cells #[.slice ao ps.length cap, .slice ao' ps'.length cap'] 24)) fun e w' => e = .returned (.int .i64 (tot ps + tot ps')) ∧ Below w.heap.size w w' :=
  (total_any w.heap.size 2 [(ao, cap, ps), (ao', cap', ps')] _ (FlS.two h h') (two_fine hr hr').1 (two_fine hr hr').2 (by simp)).mono fun e w' ⟨he, hb⟩ =>
    ⟨by rw [he, cat_two, tot_append], ((Below.refl _ _).alloc (Nat.le_refl _) _).trans (hb.mono (by simp))⟩
theorem own_base {w : World} {base base' : Nat} {v : Value} {ps : List Pc} (h : Own w base v ps) (hb : base' ≤ base) : Own w base' v ps := by
  obtain ⟨h1, h2⟩ := h
  refine ⟨h1, h2.imp id ?_⟩
  rintro ⟨g, cap, cur, e, hg, r⟩
  exact ⟨g, cap, cur, e, by omega, r⟩
theorem plain1 (ao : Option Addr) (cap : Nat) (ps : List Pc) (w : World) (h : Fl w ao ps) (hr : fref ps = 0) :
    Calls Tryz.prog 136 #[.slice (some ⟨w.heap.size, 0, none⟩) 1 1] (w.alloc (.cells #[.slice ao ps.length cap] 24)) fun e w' => ∃ v, e = .returned v ∧ Own w' w.heap.size v (plainL ps) ∧ Below w.heap.size w w' :=
  (plain_any w.heap.size 1 [(ao, cap, ps)] _ (FlS.one h) (fun f hf => by simp at hf; subst hf; exact (fref_in hr).2.1) (fun f hf => by simp at hf; subst hf; exact (fref_in hr).1) (by simp)).mono fun e w' ⟨v, he, ho, hb⟩ =>
    ⟨v, he, by rw [cat_one] at ho; exact own_base ho (by simp), ((Below.refl _ _).alloc (Nat.le_refl _) _).trans (hb.mono (by simp))⟩
theorem plain2 (ao ao' : Option Addr) (cap cap' : Nat) (ps ps' : List Pc) (w : World) (h : Fl w ao ps) (h' : Fl w ao' ps') (hr : fref ps = 0) (hr' : fref ps' = 0) :
    Calls Tryz.prog 136 #[.slice (some ⟨w.heap.size, 0, none⟩) 2 2] (w.alloc (.cells #[.slice ao ps.length cap, .slice ao' ps'.length cap'] 24)) fun e w' => ∃ v, e = .returned v ∧ Own w' w.heap.size v (plainL (ps ++ ps')) ∧ Below w.heap.size w w' :=
  (plain_any w.heap.size 2 [(ao, cap, ps), (ao', cap', ps')] _ (FlS.two h h') (two_fine hr hr').1 (two_fine hr hr').2 (by simp)).mono fun e w' ⟨v, he, ho, hb⟩ =>
    ⟨v, he, by rw [cat_two] at ho; exact own_base ho (by simp), ((Below.refl _ _).alloc (Nat.le_refl _) _).trans (hb.mono (by simp))⟩

/-- What the calls come to: the document's answers. -/
def plainR (ps : List Pc) : List Pc × Int := if fref ps = 0 then (plainL ps, 0) else ([], fref ps)
def totR (ps : List Pc) : Int × Int := if fref ps = 0 then (tot ps, 0) else (0, fref ps)
def putR (f g : List Pc) : List Pc × Int :=
  if fref f = 0 then (if fref g = 0 then (if 1000000000 < tot f + tot g then ([], 8) else if 100 < (plainL (f ++ g)).length then ([], 7) else (plainL (f ++ g), 0)) else ([], fref g)) else ([], fref f)

set_option maxHeartbeats 800000 in
theorem check_any (ao : Option Addr) (cap : Nat) (ps : List Pc) (w : World) (h : Fl w ao ps) :
    Calls Tryz.prog 82 #[.slice ao ps.length cap] w fun e w' => e = .returned (.int .i64 (fref ps)) ∧ Below w.heap.size w w' := by
  have HF : Hid (Fl w ao ps) := h
  clear h
  go_enter Tryz.func82, Tryz.ntmps82
  go_wp2_with fail
  refine (refusal1 ao cap ps w HF.out).mono ?_
  rintro e w1 ⟨rfl, hb⟩
  go_wp2
  go_ret
  exact ⟨rfl, hb⟩

set_option maxHeartbeats 800000 in
theorem plainF_any (ao : Option Addr) (cap : Nat) (ps : List Pc) (w : World) (h : Fl w ao ps) :
    Calls Tryz.prog 114 #[.slice ao ps.length cap] w fun e w' => ∃ v, e = .returned (.tuple #[v, .int .i64 (plainR ps).2]) ∧ Own w' w.heap.size v (plainR ps).1 ∧ Below w.heap.size w w' := by
  have HF : Hid (Fl w ao ps) := h
  clear h
  by_cases hr : fref ps = 0
  · have HR : Hid (fref ps = 0) := hr
    have HQ : Hid (plainR ps = (plainL ps, 0)) := if_pos hr
    clear hr
    go_enter Tryz.func114, Tryz.ntmps114
    go_wp2_with fail
    refine (refusal1 ao cap ps w HF.out).mono ?_
    rintro e w1 ⟨rfl, hb⟩
    rw [HR.out]
    have HB : Hid (Below w.heap.size w w1) := hb
    clear hb
    go_wp2_with fail
    refine (plain1 ao cap ps w1 (HF.out.next HB.out) HR.out).mono ?_
    rintro e w2 ⟨v, rfl, ho, hb⟩
    go_wp2
    go_ret2
    refine ⟨v, by rw [HQ.out]; rfl, by rw [HQ.out]; exact own_base ho HB.out.size, HB.out.trans (hb.mono HB.out.size)⟩
  · have HQ : Hid (plainR ps = ([], fref ps)) := if_neg hr
    have hne : (fref ps == 0) = false := by simp [hr]
    have hne2 : (fref ps != 0) = true := by simp [hr]
    clear hr
    go_enter Tryz.func114, Tryz.ntmps114
    go_wp2_with fail
    refine (refusal1 ao cap ps w HF.out).mono ?_
    rintro e w1 ⟨rfl, hb⟩
    go_wp2
    go_ret2
    refine ⟨.slice none 0 0, by rw [HQ.out]; rfl, by rw [HQ.out]; exact Own.nil _ _, hb⟩

set_option maxHeartbeats 800000 in
theorem totalF_any (ao : Option Addr) (cap : Nat) (ps : List Pc) (w : World) (h : Fl w ao ps) :
    Calls Tryz.prog 24 #[.slice ao ps.length cap] w fun e w' => e = .returned (.tuple #[.int .i64 (totR ps).1, .int .i64 (totR ps).2]) ∧ Below w.heap.size w w' := by
  have HF : Hid (Fl w ao ps) := h
  clear h
  by_cases hr : fref ps = 0
  · have HR : Hid (fref ps = 0) := hr
    have HQ : Hid (totR ps = (tot ps, 0)) := if_pos hr
    clear hr
    go_enter Tryz.func24, Tryz.ntmps24
    go_wp2_with fail
    refine (refusal1 ao cap ps w HF.out).mono ?_
    rintro e w1 ⟨rfl, hb⟩
    rw [HR.out]
    have HB : Hid (Below w.heap.size w w1) := hb
    clear hb
    go_wp2_with fail
    refine (total1 ao cap ps w1 (HF.out.next HB.out) HR.out).mono ?_
    rintro e w2 ⟨rfl, hb⟩
    go_wp2
    go_ret2
    exact ⟨by rw [HQ.out]; rfl, HB.out.trans (hb.mono HB.out.size)⟩
  · have HQ : Hid (totR ps = (0, fref ps)) := if_neg hr
    have hne : (fref ps == 0) = false := by simp [hr]
    have hne2 : (fref ps != 0) = true := by simp [hr]
    clear hr
    go_enter Tryz.func24, Tryz.ntmps24
    go_wp2_with fail
    refine (refusal1 ao cap ps w HF.out).mono ?_
    rintro e w1 ⟨rfl, hb⟩
    go_wp2
    go_ret2
    exact ⟨by rw [HQ.out]; rfl, hb⟩

set_option maxHeartbeats 800000 in
theorem put_any (ao ao' : Option Addr) (cap cap' : Nat) (ps ps' : List Pc) (w : World) (h : Fl w ao ps) (h' : Fl w ao' ps') :
    Calls Tryz.prog 138 #[.slice ao ps.length cap, .slice ao' ps'.length cap'] w fun e w' => ∃ v, e = .returned (.tuple #[v, .int .i64 (putR ps ps').2]) ∧ Own w' w.heap.size v (putR ps ps').1 ∧ Below w.heap.size w w' := by
  have HF : Hid (Fl w ao ps) := h
  have HF' : Hid (Fl w ao' ps') := h'
  clear h h'
  by_cases hr : fref ps = 0 ∧ fref ps' = 0
  rotate_left
  · obtain ⟨r, hr0, hQ⟩ : ∃ r : Int, (if fref ps = 0 then fref ps' else fref ps) = r ∧ r ≠ 0 ∧ putR ps ps' = ([], r) := by
      unfold putR
      by_cases h1 : fref ps = 0
      · have h2 : fref ps' ≠ 0 := fun e => hr ⟨h1, e⟩
        exact ⟨fref ps', if_pos h1, h2, by rw [if_pos h1, if_neg h2]⟩
      · exact ⟨fref ps, if_neg h1, h1, by rw [if_neg h1]⟩
    have HR : Hid ((if fref ps = 0 then fref ps' else fref ps) = r) := hr0
    have HQ : Hid (putR ps ps' = ([], r)) := hQ.2
    have hne : (r == 0) = false := by simp [hQ.1]
    have hne2 : (r != 0) = true := by simp [hQ.1]
    clear hr hr0 hQ
    go_enter Tryz.func138, Tryz.ntmps138
    go_wp2_with fail
    refine (refusal2 ao ao' cap cap' ps ps' w HF.out HF'.out).mono ?_
    rintro e w1 ⟨rfl, hb⟩
    rw [HR.out]
    go_wp2
    go_ret2
    exact ⟨.slice none 0 0, by rw [HQ.out]; rfl, by rw [HQ.out]; exact Own.nil _ _, hb⟩
  have HR : Hid (fref ps = 0) := hr.1
  have HR' : Hid (fref ps' = 0) := hr.2
  clear hr
  by_cases ht : 1000000000 < tot ps + tot ps'
  · have HQ : Hid (putR ps ps' = ([], 8)) := by unfold putR; rw [if_pos HR.out, if_pos HR'.out, if_pos ht]; rfl
    go_enter Tryz.func138, Tryz.ntmps138
    go_wp2_with fail
    refine (refusal2 ao ao' cap cap' ps ps' w HF.out HF'.out).mono ?_
    rintro e w1 ⟨rfl, hb⟩
    rw [if_pos HR.out, HR'.out]
    have HB : Hid (Below w.heap.size w w1) := hb
    clear hb
    go_wp2_with fail
    refine (total2 ao ao' cap cap' ps ps' w1 (HF.out.next HB.out) (HF'.out.next HB.out) HR.out HR'.out).mono ?_
    rintro e w2 ⟨rfl, hb⟩
    go_wp2
    go_ret2
    exact ⟨.slice none 0 0, by rw [HQ.out]; rfl, by rw [HQ.out]; exact Own.nil _ _, HB.out.trans (hb.mono HB.out.size)⟩
  by_cases hl : 100 < (plainL (ps ++ ps')).length
  all_goals
    go_enter Tryz.func138, Tryz.ntmps138
    go_wp2_with fail
    refine (refusal2 ao ao' cap cap' ps ps' w HF.out HF'.out).mono ?_
    rintro e w1 ⟨rfl, hb⟩
    rw [if_pos HR.out, HR'.out]
    have HB : Hid (Below w.heap.size w w1) := hb
    clear hb
    go_wp2_with fail
    refine (total2 ao ao' cap cap' ps ps' w1 (HF.out.next HB.out) (HF'.out.next HB.out) HR.out HR'.out).mono ?_
    rintro e w2 ⟨rfl, hb⟩
    have HB2 : Hid (Below w.heap.size w w2) := HB.out.trans (hb.mono HB.out.size)
    clear hb
    go_wp2_with fail
    refine (plain2 ao ao' cap cap' ps ps' w2 (HF.out.next HB2.out) (HF'.out.next HB2.out) HR.out HR'.out).mono ?_
    rintro e w3 ⟨v, rfl, ho, hb⟩
    have HB3 : Hid (Below w.heap.size w w3) := HB2.out.trans (hb.mono HB2.out.size)
    have HO : Hid (Own w3 w.heap.size v (plainL (ps ++ ps'))) := own_base ho HB2.out.size
    clear hb ho
    obtain ⟨ao2, cap2, rfl⟩ := HO.out.shape
  · have HQ : Hid (putR ps ps' = ([], 7)) := by unfold putR; rw [if_pos HR.out, if_pos HR'.out, if_neg (by omega), if_pos hl]; rfl
    go_wp2
    go_ret2
    exact ⟨.slice none 0 0, by rw [HQ.out]; rfl, by rw [HQ.out]; exact Own.nil _ _, HB3.out⟩
  · have HQ : Hid (putR ps ps' = (plainL (ps ++ ps'), 0)) := by unfold putR; rw [if_pos HR.out, if_pos HR'.out, if_neg (by omega), if_neg (by omega)]; rfl
    go_wp2
    go_ret2
    exact ⟨.slice ao2 (plainL (ps ++ ps')).length cap2, by rw [HQ.out]; rfl, by rw [HQ.out]; exact HO.out, HB3.out⟩

def drawF (v : Int) (ps : List Pc) : List Pc × List Pc × Int :=
  if fref ps = 0 then (if v < 0 then ([], [], 2) else if tot ps < v then ([], [], 10) else ((drawS v ps).1, (drawS v ps).2.1, 0)) else ([], [], fref ps)

/-- Two fluids of the call's own lie apart. -/
def Sep (t l : Value) : Prop := t.ownBlock = none ∨ t.ownBlock ≠ l.ownBlock
theorem Sep.symm {t l : Value} (h : Sep t l) : Sep l t := by
  rcases h with h | h
  · cases e : l.ownBlock with
    | none => exact .inl e
    | some g => exact .inr (by rw [h, e]; simp)
  · exact .inr (Ne.symm h)
theorem Sep.keep {w w' : World} {base : Nat} {t t' l : Value} {ps : List Pc} (h : Sep t l) (hl : Own w base l ps) (hg : w.grownBy w' t.ownBlock) (hloc : Loc w t t') : Own w' base l ps ∧ Sep t' l := by
  refine ⟨hl.kept hg h.symm, ?_⟩
  rcases hloc with e | ⟨g, e, hg⟩
  · rcases h with h | h
    · exact .inl (by rw [e, h])
    · exact .inr (by rw [e]; exact h)
  · refine .inr ?_
    rw [e]
    intro h2
    have := (World.ownsRow.lt hl g h2.symm).2
    omega

theorem draw_ask {v : Int} (hv : 0 ≤ v) {ps : List Pc} (h : Fine ps) (hl : ps.length ≤ 100) (ht : tot ps ≤ 1000000000) :
    ((∀ q ∈ (drawS v ps).1, 0 ≤ q.2 ∧ q.2 ≤ 1000000000000) ∧ (drawS v ps).1.length ≤ 1000000) ∧ ((∀ q ∈ (drawS v ps).2.1, 0 ≤ q.2 ∧ q.2 ≤ 1000000000000) ∧ (drawS v ps).2.1.length ≤ 1000000) := by
  have h1 := drawS_all (C := fun _ => True) hv (ps := ps) (fun q hq => ⟨trivial, h.nn q hq⟩)
  have h2 := tot_drawS v ps
  have h3 := length_drawS v ps
  have n1 : Nn (drawS v ps).1 := fun q hq => (h1.1 q hq).2
  have n2 : Nn (drawS v ps).2.1 := fun q hq => (h1.2 q hq).2
  have t1 := tot_nonneg n1
  have t2 := tot_nonneg n2
  exact ⟨⟨fun q hq => ⟨n1 q hq, by have := le_tot n1 q hq; omega⟩, by omega⟩, ⟨fun q hq => ⟨n2 q hq, by have := le_tot n2 q hq; omega⟩, by omega⟩⟩

set_option maxHeartbeats 1600000 in
theorem draw_ok (ao : Option Addr) (cap : Nat) (ps : List Pc) (v : Int) (w : World) (h : Fl w ao ps) (hr : fref ps = 0) (hv : 0 ≤ v) (hvt : v ≤ tot ps) :
    Calls Tryz.prog 122 #[.slice ao ps.length cap, .int .i64 v] w fun e w' => ∃ x y, e = .returned (.tuple #[x, y, .int .i64 0]) ∧ Own w' w.heap.size x (drawS v ps).1 ∧ Own w' w.heap.size y (drawS v ps).2.1 ∧ Below w.heap.size w w' := by
  have HF : Hid (Fl w ao ps) := h
  have HR : Hid (fref ps = 0) := hr
  clear h hr
  have HI : Hid (ps.length ≤ 100 ∧ Fine ps ∧ tot ps ≤ 1000000000) := fref_in HR.out
  have hl100 := HI.out.1
  have ht9 := HI.out.2.2
  have hd1 : decide (v < 0) = false := by simp; omega
  have hd2 : decide (tot ps < v) = false := by simp; omega
  go_enter Tryz.func122, Tryz.ntmps122
  go_wp2_with fail
  refine (refusal1 ao cap ps w HF.out).mono ?_
  rintro e w1 ⟨rfl, hb⟩
  rw [HR.out]
  have HB : Hid (Below w.heap.size w w1) := hb
  clear hb
  go_wp2_with fail
  refine (total1 ao cap ps w1 (HF.out.next HB.out) HR.out).mono ?_
  rintro e w2 ⟨rfl, hb⟩
  have HB2 : Hid (Below w.heap.size w w2) := HB.out.trans (hb.mono HB.out.size)
  clear hb
  go_wp2
  go_loopw [1, 4, 5, 25] (fun u t l i wr => ∃ k : Nat, k ≤ ps.length ∧ i = .int .i64 k ∧ u = .int .i64 (drawS v (ps.take k)).2.2 ∧ Own wr w.heap.size t (drawS v (ps.take k)).1 ∧ Own wr w.heap.size l (drawS v (ps.take k)).2.1 ∧ Sep t l ∧ Below w.heap.size w wr) (fun _ _ _ i _ => ps.length - (intOf i).toNat)
  case atStart => exact ⟨0, Nat.zero_le _, rfl, rfl, Own.nil _ _, Own.nil _ _, .inl rfl, HB2.out⟩
  case round =>
    obtain ⟨k, hk, rfl, rfl, ht, hl, hs, hb⟩ := hrel
    obtain ⟨ao1, n1, cap1, rfl⟩ := ht.form
    obtain ⟨ao2, n2, cap2, rfl⟩ := hl.form
    have HB3 : Hid (Below w.heap.size w wr) := hb
    have HT : Hid (Own wr w.heap.size (.slice ao1 n1 cap1) (drawS v (ps.take k)).1) := ht
    have HL : Hid (Own wr w.heap.size (.slice ao2 n2 cap2) (drawS v (ps.take k)).2.1) := hl
    have HS : Hid (Sep (.slice ao1 n1 cap1) (.slice ao2 n2 cap2)) := hs
    clear hb ht hl hs
    by_cases hlt : k < ps.length
    · obtain ⟨b2, off, rfl, hb2, c0, c1, _⟩ := (HF.out.next HB3.out).at hlt
      have HD : Hid (drawS v (ps.take (k + 1)) = step (drawS v (ps.take k)) (ps[k]'hlt)) := by
        rw [List.take_succ_eq_append_getElem hlt, drawS_snoc]; rfl
      have hp := HI.out.2.1 _ (List.getElem_mem hlt)
      have hp0 := hp.2.1
      have hp1 := hp.2.2
      clear hp
      have hvv := drawS_v hv (ps := ps.take k) (HI.out.2.1.nn.take k)
      have hv0 := hvv.1
      have hv1 := hvv.2
      clear hvv
      have HA : Hid (_) := draw_ask hv (ps := ps.take k) (fine_take HI.out.2.1 k) (by rw [List.length_take]; omega) (by have := tot_take_le HI.out.2.1.nn k; omega)
      obtain ⟨p, hp⟩ : ∃ p, ps[k]'hlt = p := ⟨_, rfl⟩
      rw [hp] at c0 c1 HD hp0 hp1
      clear hp
      obtain ⟨l, n⟩ := p
      simp only at c0 c1 hp0 hp1
      generalize drawS v (ps.take k) = S at *
      obtain ⟨T, L, V⟩ := S
      simp only at HT HL HA hv0 hv1
      by_cases hc : n ≤ V
      · have HD2 : Hid (drawS v (ps.take (k + 1)) = (behind T (l, n), behind L (l, 0), V - n)) := by
          have e := HD.out
          simp only [step, Int.min_eq_left hc, Int.sub_self] at e
          exact e
        go_wp2_with fail
        refine (behind_any w.heap.size _ T l (n) _ (HT.out.alloc _) hp0 (by omega) HA.out.1.1 HA.out.1.2 (by have := HB3.out.size; simp; omega)).mono ?_
        rintro e w3 ⟨t', rfl, ho, hg, hloc⟩
        obtain ⟨ao3, n3, cap3, rfl⟩ := ho.form
        have hk2 := HS.out.keep (HL.out.alloc _) hg hloc
        have HO3 : Hid (Own w3 w.heap.size (.slice ao3 n3 cap3) (behind T (l, n))) := ho
        have HL3 : Hid (Own w3 w.heap.size (.slice ao2 n2 cap2) L) := hk2.1
        have HS3 : Hid (Sep (.slice ao2 n2 cap2) (.slice ao3 n3 cap3)) := hk2.2.symm
        have HB4 : Hid (Below w.heap.size w w3) := below_grown (HB3.out.alloc HB3.out.size _) (HT.out.alloc _) hg (by have := HB3.out.size; simp; omega)
        have hcl : w3.cell? ⟨wr.heap.size, 0, none⟩ = some (.string l) ∧ w3.cell? ⟨wr.heap.size, 1, none⟩ = some (.int .i64 n) := by
          have hne : (some wr.heap.size : Option Nat) ≠ (Value.slice ao1 n1 cap1).ownBlock := fun e => by have := (World.ownsRow.lt HT.out _ e.symm).2; omega
          exact ⟨hg.cell (a := ⟨wr.heap.size, 0, none⟩) (by go_simp) hne, hg.cell (a := ⟨wr.heap.size, 1, none⟩) (by go_simp) hne⟩
        obtain ⟨d0, d1⟩ := hcl
        clear ho hg hloc hk2
        go_wp2_with fail
        refine (behind_any w.heap.size _ L l (0) _ HL3.out (by omega) (by omega) HA.out.2.1 HA.out.2.2 HB4.out.size).mono ?_
        rintro e w4 ⟨l', rfl, ho, hg, hloc⟩
        obtain ⟨ao4, n4, cap4, rfl⟩ := ho.form
        have hk2 := HS3.out.keep HO3.out hg hloc
        have HO4 : Hid (Own w4 w.heap.size (.slice ao4 n4 cap4) (behind L (l, 0))) := ho
        have HT4 : Hid (Own w4 w.heap.size (.slice ao3 n3 cap3) (behind T (l, n))) := hk2.1
        have HS4 : Hid (Sep (.slice ao3 n3 cap3) (.slice ao4 n4 cap4)) := hk2.2.symm
        have HB5 : Hid (Below w.heap.size w w4) := below_grown HB4.out HL3.out hg HB4.out.size
        clear ho hg hloc hk2
        go_wp2
        go_roundw
        case rel => exact ⟨k + 1, by omega, by go_num, by rw [HD2.out], by rw [HD2.out]; exact HT4.out, by rw [HD2.out]; exact HO4.out, HS4.out, HB5.out⟩
        case measure => simp [intOf]; omega
      · have HD2 : Hid (drawS v (ps.take (k + 1)) = (behind T (l, V), behind L (l, n - V), 0)) := by
          have e := HD.out
          simp only [step, Int.min_eq_right (by omega : V ≤ n), Int.sub_self] at e
          exact e
        go_wp2_with fail
        refine (behind_any w.heap.size _ T l (V) _ (HT.out.alloc _) hv0 (by omega) HA.out.1.1 HA.out.1.2 (by have := HB3.out.size; simp; omega)).mono ?_
        rintro e w3 ⟨t', rfl, ho, hg, hloc⟩
        obtain ⟨ao3, n3, cap3, rfl⟩ := ho.form
        have hk2 := HS.out.keep (HL.out.alloc _) hg hloc
        have HO3 : Hid (Own w3 w.heap.size (.slice ao3 n3 cap3) (behind T (l, V))) := ho
        have HL3 : Hid (Own w3 w.heap.size (.slice ao2 n2 cap2) L) := hk2.1
        have HS3 : Hid (Sep (.slice ao2 n2 cap2) (.slice ao3 n3 cap3)) := hk2.2.symm
        have HB4 : Hid (Below w.heap.size w w3) := below_grown (HB3.out.alloc HB3.out.size _) (HT.out.alloc _) hg (by have := HB3.out.size; simp; omega)
        have hcl : w3.cell? ⟨wr.heap.size, 0, none⟩ = some (.string l) ∧ w3.cell? ⟨wr.heap.size, 1, none⟩ = some (.int .i64 n) := by
          have hne : (some wr.heap.size : Option Nat) ≠ (Value.slice ao1 n1 cap1).ownBlock := fun e => by have := (World.ownsRow.lt HT.out _ e.symm).2; omega
          exact ⟨hg.cell (a := ⟨wr.heap.size, 0, none⟩) (by go_simp) hne, hg.cell (a := ⟨wr.heap.size, 1, none⟩) (by go_simp) hne⟩
        obtain ⟨d0, d1⟩ := hcl
        clear ho hg hloc hk2
        go_wp2_with fail
        refine (behind_any w.heap.size _ L l (n - V) _ HL3.out (by omega) (by omega) HA.out.2.1 HA.out.2.2 HB4.out.size).mono ?_
        rintro e w4 ⟨l', rfl, ho, hg, hloc⟩
        obtain ⟨ao4, n4, cap4, rfl⟩ := ho.form
        have hk2 := HS3.out.keep HO3.out hg hloc
        have HO4 : Hid (Own w4 w.heap.size (.slice ao4 n4 cap4) (behind L (l, n - V))) := ho
        have HT4 : Hid (Own w4 w.heap.size (.slice ao3 n3 cap3) (behind T (l, V))) := hk2.1
        have HS4 : Hid (Sep (.slice ao3 n3 cap3) (.slice ao4 n4 cap4)) := hk2.2.symm
        have HB5 : Hid (Below w.heap.size w w4) := below_grown HB4.out HL3.out hg HB4.out.size
        clear ho hg hloc hk2
        go_wp2
        go_roundw
        case rel => exact ⟨k + 1, by omega, by go_num, by rw [HD2.out], by rw [HD2.out]; exact HT4.out, by rw [HD2.out]; exact HO4.out, HS4.out, HB5.out⟩
        case measure => simp [intOf]; omega
    · go_wp2
      go_ret3
      have e : ps.take k = ps := List.take_of_length_le (by omega)
      exact ⟨.slice ao1 n1 cap1, .slice ao2 n2 cap2, rfl, by have := HT.out; rw [e] at this; exact this, by have := HL.out; rw [e] at this; exact this, HB3.out⟩

set_option maxHeartbeats 800000 in
theorem draw_any (ao : Option Addr) (cap : Nat) (ps : List Pc) (v : Int) (w : World) (h : Fl w ao ps) :
    Calls Tryz.prog 122 #[.slice ao ps.length cap, .int .i64 v] w fun e w' => ∃ x y, e = .returned (.tuple #[x, y, .int .i64 (drawF v ps).2.2]) ∧ Own w' w.heap.size x (drawF v ps).1 ∧ Own w' w.heap.size y (drawF v ps).2.1 ∧ Below w.heap.size w w' := by
  by_cases hr : fref ps = 0
  · by_cases hv : v < 0
    · have HQ : Hid (drawF v ps = ([], [], 2)) := by unfold drawF; rw [if_pos hr, if_pos hv]; rfl
      have HF : Hid (Fl w ao ps) := h
      have HR : Hid (fref ps = 0) := hr
      clear h hr
      go_enter Tryz.func122, Tryz.ntmps122
      go_wp2_with fail
      refine (refusal1 ao cap ps w HF.out).mono ?_
      rintro e w1 ⟨rfl, hb⟩
      rw [HR.out]
      go_wp2
      go_ret3
      exact ⟨.slice none 0 0, .slice none 0 0, by rw [HQ.out]; rfl, by rw [HQ.out]; exact Own.nil _ _, by rw [HQ.out]; exact Own.nil _ _, hb⟩
    · by_cases ht : tot ps < v
      · have HQ : Hid (drawF v ps = ([], [], 10)) := by unfold drawF; rw [if_pos hr, if_neg hv, if_pos ht]; rfl
        have HF : Hid (Fl w ao ps) := h
        have HR : Hid (fref ps = 0) := hr
        clear h hr
        go_enter Tryz.func122, Tryz.ntmps122
        go_wp2_with fail
        refine (refusal1 ao cap ps w HF.out).mono ?_
        rintro e w1 ⟨rfl, hb⟩
        rw [HR.out]
        have HB : Hid (Below w.heap.size w w1) := hb
        clear hb
        go_wp2_with fail
        refine (total1 ao cap ps w1 (HF.out.next HB.out) HR.out).mono ?_
        rintro e w2 ⟨rfl, hb⟩
        go_wp2
        go_ret3
        exact ⟨.slice none 0 0, .slice none 0 0, by rw [HQ.out]; rfl, by rw [HQ.out]; exact Own.nil _ _, by rw [HQ.out]; exact Own.nil _ _, HB.out.trans (hb.mono HB.out.size)⟩
      · have e : drawF v ps = ((drawS v ps).1, (drawS v ps).2.1, 0) := by unfold drawF; rw [if_pos hr, if_neg hv, if_neg ht]
        rw [e]
        exact draw_ok ao cap ps v w h hr (by omega) (by omega)
  · have HQ : Hid (drawF v ps = ([], [], fref ps)) := by unfold drawF; rw [if_neg hr]; rfl
    have HF : Hid (Fl w ao ps) := h
    have hne : (fref ps == 0) = false := by simp [hr]
    have hne2 : (fref ps != 0) = true := by simp [hr]
    clear h hr
    go_enter Tryz.func122, Tryz.ntmps122
    go_wp2_with fail
    refine (refusal1 ao cap ps w HF.out).mono ?_
    rintro e w1 ⟨rfl, hb⟩
    go_wp2
    go_ret3
    exact ⟨.slice none 0 0, .slice none 0 0, by rw [HQ.out]; rfl, by rw [HQ.out]; exact Own.nil _ _, by rw [HQ.out]; exact Own.nil _ _, hb⟩

end Go.Proofs.YtjappkfhballhaaGreat.F
