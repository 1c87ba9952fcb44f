/- The document's FluidMay and FluidTotal, walked; parcels. -/
import Derived.Test.YthfchkclojnfmaaKeeps
import Derived.Laws.AppendOwnNone
namespace Go.Proofs.Ythfchkclojnfmaa
open Go.RowKit

theorem labelMay_yes (s : ByteArray) (w : World) (hs : s.size ≤ maxLen) (h : lab s = true) :
    Calls Try.prog 25 #[.string s] w fun e w' => e = .returned (.bool true) ∧ w' = w :=
  (labelMay_any s w hs).mono fun e w' ⟨he, hw⟩ => ⟨by rw [he, h], hw⟩
theorem labelMay_no (s : ByteArray) (w : World) (hs : s.size ≤ maxLen) (h : lab s = false) :
    Calls Try.prog 25 #[.string s] w fun e w' => e = .returned (.bool false) ∧ w' = w :=
  (labelMay_any s w hs).mono fun e w' ⟨he, hw⟩ => ⟨by rw [he, h], hw⟩

set_option maxHeartbeats 1600000 in
theorem fluidMay_any (ao : Option Addr) (cap : Nat) (ps : List Pc) (w : World) (h : Fl w ao ps) (hlm : ps.length ≤ 1000000000000000) :
    Calls Try.prog 14 #[.slice ao ps.length cap] w fun e w' => e = .returned (.int .i64 (fref ps)) ∧ w' = w := by
  have HF : Hid (Fl w ao ps) := h
  clear h
  by_cases h100 : 100 < ps.length
  · go_enter Try.func14, Try.ntmps14
    go_wp2
    go_ret
    exact ⟨ret_int (fref_many h100).symm, rfl⟩
  have h100' : ps.length ≤ 100 := by omega
  have hd : decide (100 < ps.length) = false := by simp; omega
  clear h100
  go_enter Try.func14, Try.ntmps14
  go_wp2
  go_loop [3, 4] (fun s i => ∃ m : Nat, m ≤ ps.length ∧ i = .int .i64 m ∧ s = .int .i64 (tot (ps.take m)) ∧ badL (ps.take m) = 0) (fun _ i => ps.length - (intOf i).toNat)
  case atStart => exact ⟨0, Nat.zero_le _, rfl, rfl, rfl⟩
  case round =>
    obtain ⟨m, hm, rfl, rfl, hbl⟩ := hrel
    have HBL : Hid (badL (ps.take m) = 0) := hbl
    clear hbl
    have hpi := part_in (ps := ps.take m) (fine_of HBL.out) (by rw [List.length_take]; omega) m
    rw [List.take_take, Nat.min_self] at hpi
    have hp0 := hpi.1
    have hp1 := hpi.2
    clear hpi
    by_cases hlt2 : m < ps.length
    · obtain ⟨b2, off, rfl, hb2, c0, c1, hsz⟩ := HF.out.at hlt2
      have HA : Hid (bad1 (ps[m]'hlt2) ≠ 0 → fref ps = bad1 (ps[m]'hlt2)) := fun h => by
        have e := badL_at hlt2 HBL.out h
        rw [fref_bad h100' (by rw [e]; exact h), e]
      have HS : Hid (bad1 (ps[m]'hlt2) = 0 → badL (ps.take (m + 1)) = 0) := badL_succ hlt2 HBL.out
      have HT : Hid (tot (ps.take (m + 1)) = tot (ps.take m) + (ps[m]'hlt2).2) := take_get hlt2
      obtain ⟨p, hp⟩ : ∃ p, ps[m]'hlt2 = p := ⟨_, rfl⟩
      rw [hp] at c0 c1 HA HS hsz HT
      clear hp
      obtain ⟨l, v⟩ := p
      simp only at c0 c1 hsz HT
      cases hlab : lab l with
      | false =>
        have HL : Hid (lab l = false) := hlab
        clear hlab
        have e3 : Hid (bad1 (l, v) = 3) := bad1_name HL.out
        go_wp2_with (go_at_call 25; refine (labelMay_no _ _ hsz HL.out).mono ?_; rintro e w2 ⟨rfl, rfl⟩)
        go_ret
        exact ⟨ret_int (by rw [HA.out (by rw [e3.out]; decide), e3.out]), rfl⟩
      | true =>
        have HL : Hid (lab l = true) := hlab
        clear hlab
        by_cases hv : v < 0 ∨ 1000000000 < v
        · have e3 : Hid (bad1 (l, v) = 2) := bad1_range HL.out hv
          go_wp2_with (first | (go_at_call 25; refine (labelMay_yes _ _ hsz HL.out).mono ?_; rintro e w2 ⟨rfl, rfl⟩) | (go_at_call 36; refine (within_no _ _ _ _ hv).mono ?_; rintro e w2 ⟨rfl, rfl⟩))
          go_ret
          exact ⟨ret_int (by rw [HA.out (by rw [e3.out]; decide), e3.out]), rfl⟩
        · have hv0 : 0 ≤ v := by omega
          have hv1 : v ≤ 1000000000 := by omega
          clear hv
          have e3 : Hid (bad1 (l, v) = 0) := bad1_ok HL.out hv0 hv1
          go_wp2_with (first | (go_at_call 25; refine (labelMay_yes _ _ hsz HL.out).mono ?_; rintro e w2 ⟨rfl, rfl⟩) | (go_at_call 36; refine (within_yes _ _ _ _ hv0 hv1).mono ?_; rintro e w2 ⟨rfl, rfl⟩))
          go_round
          case rel => exact ⟨m + 1, by omega, by go_num, by rw [HT.out], HS.out e3.out⟩
          case measure => simp [intOf]; omega
    · have e : Hid (ps.take m = ps) := List.take_of_length_le (by omega)
      have HBL2 : Hid (badL ps = 0) := by have := HBL.out; rw [e.out] at this; exact this
      rw [e.out] at hp0 hp1 ⊢
      by_cases ht : 1000000000 < tot ps
      · go_wp2
        go_ret
        exact ⟨ret_int (fref_size h100' HBL2.out ht).symm, rfl⟩
      · go_wp2
        go_ret
        exact ⟨ret_int (fref_ok h100' HBL2.out (by omega)).symm, rfl⟩

set_option maxHeartbeats 800000 in
theorem fluidTotal_any (ao : Option Addr) (cap : Nat) (ps : List Pc) (w : World) (h : Fl w ao ps) (hr : fref ps = 0) :
    Calls Try.prog 17 #[.slice ao ps.length cap] w fun e w' => e = .returned (.int .i64 (tot ps)) ∧ w' = w := by
  have HF : Hid (Fl w ao ps) := h
  have HI : Hid (ps.length ≤ 100 ∧ Fine ps ∧ tot ps ≤ 1000000000) := fref_in hr
  have hl := HI.out.1
  clear h hr
  go_enter Try.func17, Try.ntmps17
  go_wp2
  go_loop [3, 4] (fun s i => ∃ m : Nat, m ≤ ps.length ∧ i = .int .i64 m ∧ s = .int .i64 (tot (ps.take m))) (fun _ i => ps.length - (intOf i).toNat)
  case atStart => exact ⟨0, Nat.zero_le _, rfl, rfl⟩
  case round =>
    obtain ⟨m, hm, rfl, rfl⟩ := hrel
    have hpi := part_in HI.out.2.1 hl m
    have hp0 := hpi.1
    have hp1 := hpi.2
    clear hpi
    by_cases hlt2 : m < ps.length
    · obtain ⟨b2, off, rfl, hb2, c0, c1, _⟩ := HF.out.at hlt2
      have HT : Hid (tot (ps.take (m + 1)) = tot (ps.take m) + (ps[m]'hlt2).2) := take_get hlt2
      have hv0 := (HI.out.2.1 _ (List.getElem_mem hlt2)).2.1
      have hv1 := (HI.out.2.1 _ (List.getElem_mem hlt2)).2.2
      generalize (ps[m]'hlt2).1 = l at *
      generalize (ps[m]'hlt2).2 = v at *
      go_wp2
      go_round
      case rel => exact ⟨m + 1, by omega, by go_num, by rw [HT.out]⟩
      case measure => simp [intOf]; omega
    · go_wp2
      go_ret
      exact ⟨ret_int (by rw [List.take_of_length_le (by omega)]), rfl⟩

theorem cells_one {ps : List Pc} : ∀ u ∈ cellsL ps, u.oneCell' = true := by
  intro u hu
  obtain ⟨p, _, hp⟩ := List.mem_flatMap.1 hu
  simp at hp
  rcases hp with rfl | rfl <;> rfl
theorem Fl.cells {w : World} {a : Addr} {ps : List Pc} (h : Fl w (some a) ps) : ∀ (j : Nat) (u : Value), (cellsL ps)[j]? = some u → w.cell? (a.add j) = some u := by
  intro j u hj
  have hlt : j < ps.length * 2 := by
    have := (List.getElem?_eq_some_iff.1 hj).1
    rw [cellsL_length] at this
    exact this
  rcases h.2 with rfl | ⟨b, off, e, _, hc⟩
  · simp at hlt
  · injection e with e
    subst e
    have hk : j / 2 < ps.length := by omega
    obtain ⟨c0, c1⟩ := hc (j / 2) hk
    obtain ⟨d0, d1⟩ := cellsL_at hk
    rw [Addr.add_lit]
    rcases (show j = j / 2 * 2 ∨ j = j / 2 * 2 + 1 by omega) with e | e
    · rw [e, d0] at hj; rw [e, ← hj]; exact c0
    · rw [e, d1] at hj; rw [e, ← hj]; exact c1

/-- A whole fluid appended to the call's own. -/
theorem wpList_append_fl (w : World) {ops : Array Oper} {rest : List Oper} {o : Oper} {a : Act} {Q : Exit → Act → World → Prop} (hgd : o.guard = none) (s x : Operand)
    (ho : o.op = .call { callee := .builtin .append, args := #[s, x], argTypes := #[22, 22] }) (base : Nat) (v : Value) (ps : List Pc) (hs : a.eval s = v) (hown : Own w base v ps)
    (ad : Addr) (c : Nat) (qs : List Pc) (hx : a.eval x = .slice (some ad) qs.length c) (hq : Fl w (some ad) qs)
    (hlen : (ps.length + qs.length) * 24 ≤ 140737488355328) (hbase : base ≤ w.heap.size)
    (h : ∀ v' w', Own w' base v' (ps ++ qs) → w.grownBy w' v.ownBlock → Loc w v v' → wpList Try.prog ops Q rest (a.put o.dst v') w') :
    wpList Try.prog ops Q (o :: rest) a w := by
  obtain ⟨i0, hi, hz0, hz1, hz2⟩ := info_parts Try.info46
  refine wpList_append_own_at w hgd s x 22 ho base 46 i0 (.agg #[.string ⟨#[]⟩, .int .i64 0]) 2 24 Try.underlying22 hi hz0 hz1 hz2 rfl (by decide) v ps.length (cellsL ps) hs hown ad qs.length c (cellsL qs) hx (cellsL_length qs) hq.cells cells_one ?_ hlen hbase ?_
  · unfold maxLen; omega
  · intro v' w' h1 h2 _ h4
    refine h v' w' ?_ h2 (h4.imp id fun e => ⟨_, e, Nat.le_refl _⟩)
    unfold Own
    rw [cellsL_append, List.length_append]
    exact h1

set_option maxHeartbeats 800000 in
theorem parcels_any (ao : Option Addr) (cap : Nat) (ps : List Pc) (w : World) (h : Fl w ao ps) (hreach : ps.length * 24 ≤ 140737488351232) :
    Calls Try.prog 10 #[.slice ao ps.length cap] w fun e w' => ∃ ao' cap', e = .returned (.slice ao' ps.length cap') ∧ Fl w' ao' ps ∧ Below w.heap.size w w' := by
  have HF : Hid (Fl w ao ps) := h
  clear h
  cases ao with
  | none =>
    obtain rfl : ps = [] := by
      rcases HF.out.2 with h | ⟨b, off, h, _⟩
      · exact h
      · cases h
    simp only [List.length_nil]
    go_enter Try.func10, Try.ntmps10
    go_wp2
    go_ret
    exact ⟨none, 0, rfl, Fl.nil _ _, Below.refl _ _⟩
  | some a =>
    go_enter Try.func10, Try.ntmps10
    go_wp2_with (at_builtin; refine wpList_append_fl _ rfl (.const (.slice none 0 0)) (.tmp 3) rfl w.heap.size (.slice none 0 0) [] rfl (Own.nil _ _) a cap ps rfl HF.out (by simp; omega) (Nat.le_refl _) ?_; intro v' w1 ho hg hloc)
    rw [List.nil_append] at ho
    obtain ⟨ao', cap', rfl⟩ := ho.shape
    go_ret
    exact ⟨ao', cap', rfl, ho.fl HF.out.1, (Below.refl _ _).grown hg (Nat.le_refl _) (fun k hk => by cases hk)⟩
end Go.Proofs.Ythfchkclojnfmaa
