/- fluid.Draw, walked. -/
import Derived.Test.YthfchkclojnfmaaFace
namespace Go.Proofs.Ythfchkclojnfmaa
open Go.RowKit

def drawF (v : Int) (ps : List Pc) : List Pc × List Pc × Int :=
  if fref ps = 0 then (if v < 0 then ([], [], 2) else if tot ps < v then ([], [], 10) else ((drawS v ps).1, (drawS v ps).2.1, 0)) else ([], [], fref ps)

/-- Two fluids of the call's own lie apart. -/
def Sep (t l : Value) : Prop := t.ownBlock = none ∨ t.ownBlock ≠ l.ownBlock
theorem Sep.symm {t l : Value} (h : Sep t l) : Sep l t := by
  rcases h with h | h
  · cases e : l.ownBlock with
    | none => exact .inl e
    | some g => exact .inr (by rw [h, e]; simp)
  · exact .inr (Ne.symm h)
theorem Sep.keep {w w' : World} {base : Nat} {t t' l : Value} {ps : List Pc} (h : Sep t l) (hl : Own w base l ps) (hg : w.grownBy w' t.ownBlock) (hloc : Loc w t t') : Own w' base l ps ∧ Sep t' l := by
  refine ⟨hl.kept hg h.symm, ?_⟩
  rcases hloc with e | ⟨g, e, hg⟩
  · rcases h with h | h
    · exact .inl (by rw [e, h])
    · exact .inr (by rw [e]; exact h)
  · refine .inr ?_
    rw [e]
    intro h2
    have := (World.ownsRow.lt hl g h2.symm).2
    omega

theorem draw_ask {v : Int} (hv : 0 ≤ v) {ps : List Pc} (h : Fine ps) (hl : ps.length ≤ 100) (ht : tot ps ≤ 1000000000) :
    ((∀ q ∈ (drawS v ps).1, 0 ≤ q.2 ∧ q.2 ≤ 1000000000000) ∧ (drawS v ps).1.length ≤ 1000000) ∧ ((∀ q ∈ (drawS v ps).2.1, 0 ≤ q.2 ∧ q.2 ≤ 1000000000000) ∧ (drawS v ps).2.1.length ≤ 1000000) := by
  have h1 := drawS_all (C := fun _ => True) hv (ps := ps) (fun q hq => ⟨trivial, h.nn q hq⟩)
  have h2 := tot_drawS v ps
  have h3 := length_drawS v ps
  have n1 : Nn (drawS v ps).1 := fun q hq => (h1.1 q hq).2
  have n2 : Nn (drawS v ps).2.1 := fun q hq => (h1.2 q hq).2
  have t1 := tot_nonneg n1
  have t2 := tot_nonneg n2
  exact ⟨⟨fun q hq => ⟨n1 q hq, by have := le_tot n1 q hq; omega⟩, by omega⟩, ⟨fun q hq => ⟨n2 q hq, by have := le_tot n2 q hq; omega⟩, by omega⟩⟩

set_option maxHeartbeats 1600000 in
theorem draw_ok (ao : Option Addr) (cap : Nat) (ps : List Pc) (v : Int) (w : World) (h : Fl w ao ps) (hr : fref ps = 0) (hv : 0 ≤ v) (hvt : v ≤ tot ps) :
    Calls Try.prog 20 #[.slice ao ps.length cap, .int .i64 v] w fun e w' => ∃ x y, e = .returned (.tuple #[x, y, .int .i64 0]) ∧ Own w' w.heap.size x (drawS v ps).1 ∧ Own w' w.heap.size y (drawS v ps).2.1 ∧ Below w.heap.size w w' := by
  have HF : Hid (Fl w ao ps) := h
  have HR : Hid (fref ps = 0) := hr
  clear h hr
  have HI : Hid (ps.length ≤ 100 ∧ Fine ps ∧ tot ps ≤ 1000000000) := fref_in HR.out
  have hl100 := HI.out.1
  have ht9 := HI.out.2.2
  have hd1 : decide (v < 0) = false := by simp; omega
  have hd2 : decide (tot ps < v) = false := by simp; omega
  go_enter Try.func20, Try.ntmps20
  go_wp2_with fail
  refine (refusal1 ao cap ps w HF.out).mono ?_
  rintro e w1 ⟨rfl, hb⟩
  rw [HR.out]
  have HB : Hid (Below w.heap.size w w1) := hb
  clear hb
  go_wp2_with fail
  refine (total1 ao cap ps w1 (HF.out.next HB.out) HR.out).mono ?_
  rintro e w2 ⟨rfl, hb⟩
  have HB2 : Hid (Below w.heap.size w w2) := HB.out.trans (hb.mono HB.out.size)
  clear hb
  go_wp2
  go_loopw [1, 4, 5, 25] (fun u t l i wr => ∃ k : Nat, k ≤ ps.length ∧ i = .int .i64 k ∧ u = .int .i64 (drawS v (ps.take k)).2.2 ∧ Own wr w.heap.size t (drawS v (ps.take k)).1 ∧ Own wr w.heap.size l (drawS v (ps.take k)).2.1 ∧ Sep t l ∧ Below w.heap.size w wr) (fun _ _ _ i _ => ps.length - (intOf i).toNat)
  case atStart => exact ⟨0, Nat.zero_le _, rfl, rfl, Own.nil _ _, Own.nil _ _, .inl rfl, HB2.out⟩
  case round =>
    obtain ⟨k, hk, rfl, rfl, ht, hl, hs, hb⟩ := hrel
    obtain ⟨ao1, n1, cap1, rfl⟩ := ht.form
    obtain ⟨ao2, n2, cap2, rfl⟩ := hl.form
    have HB3 : Hid (Below w.heap.size w wr) := hb
    have HT : Hid (Own wr w.heap.size (.slice ao1 n1 cap1) (drawS v (ps.take k)).1) := ht
    have HL : Hid (Own wr w.heap.size (.slice ao2 n2 cap2) (drawS v (ps.take k)).2.1) := hl
    have HS : Hid (Sep (.slice ao1 n1 cap1) (.slice ao2 n2 cap2)) := hs
    clear hb ht hl hs
    by_cases hlt : k < ps.length
    · obtain ⟨b2, off, rfl, hb2, c0, c1, _⟩ := (HF.out.next HB3.out).at hlt
      have HD : Hid (drawS v (ps.take (k + 1)) = step (drawS v (ps.take k)) (ps[k]'hlt)) := by
        rw [List.take_succ_eq_append_getElem hlt, drawS_snoc]; rfl
      have hp := HI.out.2.1 _ (List.getElem_mem hlt)
      have hp0 := hp.2.1
      have hp1 := hp.2.2
      clear hp
      have hvv := drawS_v hv (ps := ps.take k) (HI.out.2.1.nn.take k)
      have hv0 := hvv.1
      have hv1 := hvv.2
      clear hvv
      have HA : Hid (_) := draw_ask hv (ps := ps.take k) (fine_take HI.out.2.1 k) (by rw [List.length_take]; omega) (by have := tot_take_le HI.out.2.1.nn k; omega)
      obtain ⟨p, hp⟩ : ∃ p, ps[k]'hlt = p := ⟨_, rfl⟩
      rw [hp] at c0 c1 HD hp0 hp1
      clear hp
      obtain ⟨l, n⟩ := p
      simp only at c0 c1 hp0 hp1
      generalize drawS v (ps.take k) = S at *
      obtain ⟨T, L, V⟩ := S
      simp only at HT HL HA hv0 hv1
      by_cases hc : n ≤ V
      · have HD2 : Hid (drawS v (ps.take (k + 1)) = (behind T (l, n), behind L (l, 0), V - n)) := by
          have e := HD.out
          simp only [step, Int.min_eq_left hc, Int.sub_self] at e
          exact e
        go_wp2_with fail
        refine (behind_any w.heap.size _ T l (n) _ (HT.out.alloc _) hp0 (by omega) HA.out.1.1 HA.out.1.2 (by have := HB3.out.size; simp; omega)).mono ?_
        rintro e w3 ⟨t', rfl, ho, hg, hloc⟩
        obtain ⟨ao3, n3, cap3, rfl⟩ := ho.form
        have hk2 := HS.out.keep (HL.out.alloc _) hg hloc
        have HO3 : Hid (Own w3 w.heap.size (.slice ao3 n3 cap3) (behind T (l, n))) := ho
        have HL3 : Hid (Own w3 w.heap.size (.slice ao2 n2 cap2) L) := hk2.1
        have HS3 : Hid (Sep (.slice ao2 n2 cap2) (.slice ao3 n3 cap3)) := hk2.2.symm
        have HB4 : Hid (Below w.heap.size w w3) := below_grown (HB3.out.alloc HB3.out.size _) (HT.out.alloc _) hg (by have := HB3.out.size; simp; omega)
        have hcl : w3.cell? ⟨wr.heap.size, 0, none⟩ = some (.string l) ∧ w3.cell? ⟨wr.heap.size, 1, none⟩ = some (.int .i64 n) := by
          have hne : (some wr.heap.size : Option Nat) ≠ (Value.slice ao1 n1 cap1).ownBlock := fun e => by have := (World.ownsRow.lt HT.out _ e.symm).2; omega
          exact ⟨hg.cell (a := ⟨wr.heap.size, 0, none⟩) (by go_simp) hne, hg.cell (a := ⟨wr.heap.size, 1, none⟩) (by go_simp) hne⟩
        obtain ⟨d0, d1⟩ := hcl
        clear ho hg hloc hk2
        go_wp2_with fail
        refine (behind_any w.heap.size _ L l (0) _ HL3.out (by omega) (by omega) HA.out.2.1 HA.out.2.2 HB4.out.size).mono ?_
        rintro e w4 ⟨l', rfl, ho, hg, hloc⟩
        obtain ⟨ao4, n4, cap4, rfl⟩ := ho.form
        have hk2 := HS3.out.keep HO3.out hg hloc
        have HO4 : Hid (Own w4 w.heap.size (.slice ao4 n4 cap4) (behind L (l, 0))) := ho
        have HT4 : Hid (Own w4 w.heap.size (.slice ao3 n3 cap3) (behind T (l, n))) := hk2.1
        have HS4 : Hid (Sep (.slice ao3 n3 cap3) (.slice ao4 n4 cap4)) := hk2.2.symm
        have HB5 : Hid (Below w.heap.size w w4) := below_grown HB4.out HL3.out hg HB4.out.size
        clear ho hg hloc hk2
        go_wp2
        go_roundw
        case rel => exact ⟨k + 1, by omega, by go_num, by rw [HD2.out], by rw [HD2.out]; exact HT4.out, by rw [HD2.out]; exact HO4.out, HS4.out, HB5.out⟩
        case measure => simp [intOf]; omega
      · have HD2 : Hid (drawS v (ps.take (k + 1)) = (behind T (l, V), behind L (l, n - V), 0)) := by
          have e := HD.out
          simp only [step, Int.min_eq_right (by omega : V ≤ n), Int.sub_self] at e
          exact e
        go_wp2_with fail
        refine (behind_any w.heap.size _ T l (V) _ (HT.out.alloc _) hv0 (by omega) HA.out.1.1 HA.out.1.2 (by have := HB3.out.size; simp; omega)).mono ?_
        rintro e w3 ⟨t', rfl, ho, hg, hloc⟩
        obtain ⟨ao3, n3, cap3, rfl⟩ := ho.form
        have hk2 := HS.out.keep (HL.out.alloc _) hg hloc
        have HO3 : Hid (Own w3 w.heap.size (.slice ao3 n3 cap3) (behind T (l, V))) := ho
        have HL3 : Hid (Own w3 w.heap.size (.slice ao2 n2 cap2) L) := hk2.1
        have HS3 : Hid (Sep (.slice ao2 n2 cap2) (.slice ao3 n3 cap3)) := hk2.2.symm
        have HB4 : Hid (Below w.heap.size w w3) := below_grown (HB3.out.alloc HB3.out.size _) (HT.out.alloc _) hg (by have := HB3.out.size; simp; omega)
        have hcl : w3.cell? ⟨wr.heap.size, 0, none⟩ = some (.string l) ∧ w3.cell? ⟨wr.heap.size, 1, none⟩ = some (.int .i64 n) := by
          have hne : (some wr.heap.size : Option Nat) ≠ (Value.slice ao1 n1 cap1).ownBlock := fun e => by have := (World.ownsRow.lt HT.out _ e.symm).2; omega
          exact ⟨hg.cell (a := ⟨wr.heap.size, 0, none⟩) (by go_simp) hne, hg.cell (a := ⟨wr.heap.size, 1, none⟩) (by go_simp) hne⟩
        obtain ⟨d0, d1⟩ := hcl
        clear ho hg hloc hk2
        go_wp2_with fail
        refine (behind_any w.heap.size _ L l (n - V) _ HL3.out (by omega) (by omega) HA.out.2.1 HA.out.2.2 HB4.out.size).mono ?_
        rintro e w4 ⟨l', rfl, ho, hg, hloc⟩
        obtain ⟨ao4, n4, cap4, rfl⟩ := ho.form
        have hk2 := HS3.out.keep HO3.out hg hloc
        have HO4 : Hid (Own w4 w.heap.size (.slice ao4 n4 cap4) (behind L (l, n - V))) := ho
        have HT4 : Hid (Own w4 w.heap.size (.slice ao3 n3 cap3) (behind T (l, V))) := hk2.1
        have HS4 : Hid (Sep (.slice ao3 n3 cap3) (.slice ao4 n4 cap4)) := hk2.2.symm
        have HB5 : Hid (Below w.heap.size w w4) := below_grown HB4.out HL3.out hg HB4.out.size
        clear ho hg hloc hk2
        go_wp2
        go_roundw
        case rel => exact ⟨k + 1, by omega, by go_num, by rw [HD2.out], by rw [HD2.out]; exact HT4.out, by rw [HD2.out]; exact HO4.out, HS4.out, HB5.out⟩
        case measure => simp [intOf]; omega
    · go_wp2
      go_ret3
      have e : ps.take k = ps := List.take_of_length_le (by omega)
      exact ⟨.slice ao1 n1 cap1, .slice ao2 n2 cap2, rfl, by have := HT.out; rw [e] at this; exact this, by have := HL.out; rw [e] at this; exact this, HB3.out⟩

set_option maxHeartbeats 800000 in
theorem draw_any (ao : Option Addr) (cap : Nat) (ps : List Pc) (v : Int) (w : World) (h : Fl w ao ps) :
    Calls Try.prog 20 #[.slice ao ps.length cap, .int .i64 v] w fun e w' => ∃ x y, e = .returned (.tuple #[x, y, .int .i64 (drawF v ps).2.2]) ∧ Own w' w.heap.size x (drawF v ps).1 ∧ Own w' w.heap.size y (drawF v ps).2.1 ∧ Below w.heap.size w w' := by
  by_cases hr : fref ps = 0
  · by_cases hv : v < 0
    · have HQ : Hid (drawF v ps = ([], [], 2)) := by unfold drawF; rw [if_pos hr, if_pos hv]; rfl
      have HF : Hid (Fl w ao ps) := h
      have HR : Hid (fref ps = 0) := hr
      clear h hr
      go_enter Try.func20, Try.ntmps20
      go_wp2_with fail
      refine (refusal1 ao cap ps w HF.out).mono ?_
      rintro e w1 ⟨rfl, hb⟩
      rw [HR.out]
      go_wp2
      go_ret3
      exact ⟨.slice none 0 0, .slice none 0 0, by rw [HQ.out]; rfl, by rw [HQ.out]; exact Own.nil _ _, by rw [HQ.out]; exact Own.nil _ _, hb⟩
    · by_cases ht : tot ps < v
      · have HQ : Hid (drawF v ps = ([], [], 10)) := by unfold drawF; rw [if_pos hr, if_neg hv, if_pos ht]; rfl
        have HF : Hid (Fl w ao ps) := h
        have HR : Hid (fref ps = 0) := hr
        clear h hr
        go_enter Try.func20, Try.ntmps20
        go_wp2_with fail
        refine (refusal1 ao cap ps w HF.out).mono ?_
        rintro e w1 ⟨rfl, hb⟩
        rw [HR.out]
        have HB : Hid (Below w.heap.size w w1) := hb
        clear hb
        go_wp2_with fail
        refine (total1 ao cap ps w1 (HF.out.next HB.out) HR.out).mono ?_
        rintro e w2 ⟨rfl, hb⟩
        go_wp2
        go_ret3
        exact ⟨.slice none 0 0, .slice none 0 0, by rw [HQ.out]; rfl, by rw [HQ.out]; exact Own.nil _ _, by rw [HQ.out]; exact Own.nil _ _, HB.out.trans (hb.mono HB.out.size)⟩
      · have e : drawF v ps = ((drawS v ps).1, (drawS v ps).2.1, 0) := by unfold drawF; rw [if_pos hr, if_neg hv, if_neg ht]
        rw [e]
        exact draw_ok ao cap ps v w h hr (by omega) (by omega)
  · have HQ : Hid (drawF v ps = ([], [], fref ps)) := by unfold drawF; rw [if_neg hr]; rfl
    have HF : Hid (Fl w ao ps) := h
    have hne : (fref ps == 0) = false := by simp [hr]
    have hne2 : (fref ps != 0) = true := by simp [hr]
    clear h hr
    go_enter Try.func20, Try.ntmps20
    go_wp2_with fail
    refine (refusal1 ao cap ps w HF.out).mono ?_
    rintro e w1 ⟨rfl, hb⟩
    go_wp2
    go_ret3
    exact ⟨.slice none 0 0, .slice none 0 0, by rw [HQ.out]; rfl, by rw [HQ.out]; exact Own.nil _ _, by rw [HQ.out]; exact Own.nil _ _, hb⟩
end Go.Proofs.Ythfchkclojnfmaa
