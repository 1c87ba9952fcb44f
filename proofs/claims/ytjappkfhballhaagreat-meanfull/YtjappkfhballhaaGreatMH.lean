/- drops, labelsOf, slices.Clone, slices.Equal walked. -/
import Derived.Test.YtjappkfhballhaaGreatMF
import Derived.Test.YtjappkfhballhaaGreatMG
namespace Go.Proofs.YtjappkfhballhaaGreat
open Go.RowKit

theorem drops_succ {t : List ByteArray} {k : Nat} (h : k < t.length) : drops (t.take (k + 1)) = drops (t.take k) ++ [(t[k]'h, 1)] := by
  unfold drops
  rw [List.take_succ_eq_append_getElem h, List.map_append]
  rfl
theorem drops_length (t : List ByteArray) : (drops t).length = t.length := by simp [drops]
set_option maxHeartbeats 1600000 in
theorem drops_any (ao : Option Addr) (cap : Nat) (t : List ByteArray) (w : World) (h : Tx w ao t) (hl : t.length ≤ 100) :
    Calls Tryz.prog 118 #[.slice ao t.length cap] w fun e w' => ∃ v, e = .returned v ∧ OwnR encC w' w.heap.size v (drops t) ∧ Below w.heap.size w w' := by
  have HF : Hid (Tx w ao t) := h
  clear h
  go_enter Tryz.func118, Tryz.ntmps118
  go_wp2
  go_loopw [3, 8] (fun v i wr => ∃ k : Nat, k ≤ t.length ∧ i = .int .i64 k ∧ OwnR encC wr w.heap.size v (drops (t.take k)) ∧ Below w.heap.size w wr) (fun _ i _ => t.length - (intOf i).toNat)
  case atStart => exact ⟨0, Nat.zero_le _, rfl, OwnR.nil _ _ _, Below.refl _ _⟩
  case round =>
    obtain ⟨k, hk, rfl, hown, hb⟩ := hrel
    obtain ⟨aoV, nV, capV, rfl⟩ := hown.form
    have HO : Hid (OwnR encC wr w.heap.size (.slice aoV nV capV) (drops (t.take k))) := hown
    have HB : Hid (Below w.heap.size w wr) := hb
    clear hown hb
    by_cases hlt : k < t.length
    · obtain ⟨b, off, rfl, hbl, c0, _⟩ := (HF.out.next HB.out).at hlt
      have HS : Hid (drops (t.take (k + 1)) = drops (t.take k) ++ [(t[k]'hlt, 1)]) := drops_succ hlt
      have HL : Hid ((drops (t.take k)).length ≤ 1000000000) := by show _ ≤ _; rw [drops_length, List.length_take]; omega
      generalize t[k]'hlt = x at *
      have hsz := HB.out.size
      go_wp2_with (at_builtin; refine wpList_append_row goodC Tryz.underlying24 infoC rfl (by decide) (by decide) _ rfl (.tmp 12) (.tmp 15) rfl w.heap.size (.slice aoV nV capV) (drops (t.take k)) rfl (HO.out.alloc _) wr.heap.size (x, 1) rfl (fun j u hu => (Bk.new wr _ 65 wr.heap.size rfl).c j hu) HL.out (by simp; omega) ?_; intro v' w5 ho hg hloc)
      have HO5 : Hid (OwnR encC w5 w.heap.size v' (drops (t.take (k + 1)))) := by show OwnR _ _ _ _ _; rw [HS.out]; exact ho
      have HB5 : Hid (Below w.heap.size w w5) := below_row (HB.out.alloc hsz _) (HO.out.alloc _) hg (by simp; omega)
      clear ho hg hloc
      go_roundw
      case rel => exact ⟨k + 1, by omega, by go_num, HO5.out, HB5.out⟩
      case measure => simp [intOf]; omega
    · have HE : Hid (drops (t.take k) = drops t) := by show _ = _; rw [List.take_of_length_le (by omega)]
      go_wp2
      go_ret
      exact ⟨_, rfl, by rw [← HE.out]; exact HO.out, HB.out⟩

theorem labs_take_succ {S : List F.Pc} {k : Nat} (h : k < S.length) : (S.map (·.1)).take (k + 1) = (S.map (·.1)).take k ++ [(S[k]'h).1] := take_map_succ _ h
set_option maxHeartbeats 1600000 in
theorem labelsOf_any (ao : Option Addr) (cap : Nat) (ps : List F.Pc) (w : World) (h : F.Fl w ao ps) (hr : F.fref ps = 0) :
    Calls Tryz.prog 123 #[.slice ao ps.length cap] w fun e w' => ∃ v, e = .returned v ∧ OwnR encT w' w.heap.size v (labsR ps) ∧ Below w.heap.size w w' := by
  have HC := (show Hid _ from F.sorted_ok ao cap ps w h hr)
  have HR : Hid (F.fref ps = 0) := hr
  have hl := (F.fref_in hr).1
  clear h hr
  go_enter Tryz.func123, Tryz.ntmps123
  go_wp2_with fail
  refine Calls.mono HC.out ?_
  rintro e w1 ⟨v, S, rfl, hS, hSl, ho, hb⟩
  obtain ⟨aoS, capS, rfl, hfl⟩ := F.Own.give ho (F.srt_size HR.out hS)
  have HFl : Hid (F.Fl w1 aoS S) := hfl
  have HB1 : Hid (Below w.heap.size w w1) := hb
  have HE : Hid (S.map (·.1) = labsR ps) := srt_labs (F.fref_in HR.out).2.1.nn hS
  have hs1 := HB1.out.size
  clear hS ho hb hfl HC
  go_wp2
  go_loopw [5, 15] (fun v i wr => ∃ k : Nat, k ≤ S.length ∧ i = .int .i64 k ∧ OwnR encT wr w1.heap.size v ((S.map (·.1)).take k) ∧ Below w1.heap.size w1 wr) (fun _ i _ => S.length - (intOf i).toNat)
  case atStart => exact ⟨0, Nat.zero_le _, rfl, OwnR.nil _ _ _, Below.refl _ _⟩
  case round =>
    obtain ⟨k, hk, rfl, hown, hb⟩ := hrel
    obtain ⟨aoV, nV, capV, rfl⟩ := hown.form
    have HO : Hid (OwnR encT wr w1.heap.size (.slice aoV nV capV) ((S.map (·.1)).take k)) := hown
    have HB : Hid (Below w1.heap.size w1 wr) := hb
    clear hown hb
    by_cases hlt : k < S.length
    · obtain ⟨b, off, rfl, hbl, c0, c1, _⟩ := (HFl.out.next HB.out).at hlt
      have HS : Hid ((S.map (·.1)).take (k + 1) = (S.map (·.1)).take k ++ [(S[k]'hlt).1]) := labs_take_succ hlt
      have HL : Hid (((S.map (·.1)).take k).length ≤ 1000000000) := by show _ ≤ _; rw [List.length_take]; simp; omega
      generalize S[k]'hlt = x at *
      have hsz := HB.out.size
      go_wp2_with (at_builtin; refine wpList_append_row goodT Tryz.underlying25 infoT rfl (by decide) (by decide) _ rfl (.tmp 19) (.tmp 22) rfl w1.heap.size (.slice aoV nV capV) ((S.map (·.1)).take k) rfl ((HO.out.alloc _).alloc _) (wr.heap.size + 1) x.1 rfl (fun j u hu => (Bk.new (wr.alloc _) _ 9 (wr.heap.size + 1) (by simp)).c j hu) HL.out (by simp; omega) ?_; intro v' w5 ho hg hloc)
      have HO5 : Hid (OwnR encT w5 w1.heap.size v' ((S.map (·.1)).take (k + 1))) := by show OwnR _ _ _ _ _; rw [HS.out]; exact ho
      have HB5 : Hid (Below w1.heap.size w1 w5) := below_row ((HB.out.alloc hsz _).alloc (by simp; omega) _) ((HO.out.alloc _).alloc _) hg (by simp; omega)
      clear ho hg hloc
      go_roundw
      case rel => exact ⟨k + 1, by omega, by go_num, HO5.out, HB5.out⟩
      case measure => simp [intOf]; omega
    · have HE2 : Hid ((S.map (·.1)).take k = labsR ps) := by show _ = _; rw [List.take_of_length_le (by simp; omega)]; exact HE.out
      go_wp2
      go_ret
      exact ⟨_, rfl, by rw [← HE2.out]; exact HO.out.base hs1, HB1.out.trans (HB.out.mono hs1)⟩

theorem eqlNilC (w : World) (a : Option Addr) (n c n' c' : Nat) : (binOp .eql 24 (.slice a n c) (.slice none n' c')).run Tryz.prog w = .ok (.bool a.isNone) w := Lib.run_eql_slice_nil w _ _ a n c n' c' Tryz.underlying24
theorem eqlNilT (w : World) (a : Option Addr) (n c n' c' : Nat) : (binOp .eql 25 (.slice a n c) (.slice none n' c')).run Tryz.prog w = .ok (.bool a.isNone) w := Lib.run_eql_slice_nil w _ _ a n c n' c' Tryz.underlying25
theorem rd_none {α : Type} {c : Enc α} {w : World} {l : List α} (h : RdR c w none l) : l = [] := by
  rcases h with h | ⟨b, off, e, _⟩
  · exact h
  · cases e
set_option maxHeartbeats 1600000 in
theorem cloneC_any (ao : Option Addr) (cap : Nat) (l : List F.Pc) (w : World) (h : RdR encC w ao l) (hl : l.length ≤ 1000) :
    Calls Tryz.prog 44 #[.slice ao l.length cap] w fun e w' => ∃ v, e = .returned v ∧ OwnR encC w' w.heap.size v l ∧ Below w.heap.size w w' := by
  have HF : Hid (RdR encC w ao l) := h
  have q22 := eqlNilC
  clear h
  cases ao with
  | none =>
    obtain rfl := rd_none HF.out
    simp only [List.length_nil]
    go_enter Tryz.func44, Tryz.ntmps44
    go_wp2
    go_ret
    exact ⟨_, rfl, OwnR.nil _ _ _, Below.refl _ _⟩
  | some a =>
    go_enter Tryz.func44, Tryz.ntmps44
    go_wp2_with (at_builtin; refine wpList_append_list goodC Tryz.underlying24 infoC rfl (by decide) _ rfl (.tmp 5) (.tmp 6) rfl w.heap.size _ [] rfl ?qc1 a cap l rfl ?qc2 ?qc5 ?qc3 ?qc4 ?_)
    case qc1 => exact World.ownsRow_made w #[] 0 (Nat.le_refl _) (Nat.zero_le _) (by simp)
    case qc2 => exact HF.out.next goodC ((Below.refl _ _).alloc (Nat.le_refl _) _)
    case qc3 => simp; omega
    case qc4 => simp
    case qc5 => simp [maxLen]; omega
    intro v' w1 ho hg _
    go_wp2
    go_ret
    exact ⟨v', rfl, by simpa using ho, ((Below.refl _ w).alloc (Nat.le_refl _) _).grown hg (by simp) (by intro k hk; simp [Value.ownBlock] at hk; omega)⟩
set_option maxHeartbeats 1600000 in
theorem cloneT_any (ao : Option Addr) (cap : Nat) (l : List ByteArray) (w : World) (h : RdR encT w ao l) (hl : l.length ≤ 1000) :
    Calls Tryz.prog 74 #[.slice ao l.length cap] w fun e w' => ∃ v, e = .returned v ∧ OwnR encT w' w.heap.size v l ∧ Below w.heap.size w w' := by
  have HF : Hid (RdR encT w ao l) := h
  have q22 := eqlNilT
  clear h
  cases ao with
  | none =>
    obtain rfl := rd_none HF.out
    simp only [List.length_nil]
    go_enter Tryz.func74, Tryz.ntmps74
    go_wp2
    go_ret
    exact ⟨_, rfl, OwnR.nil _ _ _, Below.refl _ _⟩
  | some a =>
    go_enter Tryz.func74, Tryz.ntmps74
    go_wp2_with (at_builtin; refine wpList_append_list goodT Tryz.underlying25 infoT rfl (by decide) _ rfl (.tmp 5) (.tmp 6) rfl w.heap.size _ [] rfl ?qc1 a cap l rfl ?qc2 ?qc5 ?qc3 ?qc4 ?_)
    case qc1 => exact World.ownsRow_made w #[] 0 (Nat.le_refl _) (Nat.zero_le _) (by simp)
    case qc2 => exact HF.out.next goodT ((Below.refl _ _).alloc (Nat.le_refl _) _)
    case qc3 => simp; omega
    case qc4 => simp
    case qc5 => simp [maxLen]; omega
    intro v' w1 ho hg _
    go_wp2
    go_ret
    exact ⟨v', rfl, by simpa using ho, ((Below.refl _ w).alloc (Nat.le_refl _) _).grown hg (by simp) (by intro k hk; simp [Value.ownBlock] at hk; omega)⟩

theorem pc_neq (W : World) (a b : ByteArray) (x y : Int) : (binOp .neq 65 (.agg #[.string a, .int .i64 x]) (.agg #[.string b, .int .i64 y])).run Tryz.prog W = .ok (.bool (!(decide ((a, x) = (b, y))))) W := by
  by_cases h : a = b
  · subst h
    by_cases h2 : x = y
    · subst h2
      go_simp
    · have h3 : (x == y) = false := by simp [h2]
      go_simp
  · have h3 := F.ba_ne h
    go_simp
set_option maxHeartbeats 1600000 in
theorem equal_any (ao ao' : Option Addr) (cap cap' : Nat) (ps qs : List F.Pc) (w : World) (h : F.Fl w ao ps) (h' : F.Fl w ao' qs) (hl : ps.length ≤ 1000000000000) :
    Calls Tryz.prog 115 #[.slice ao ps.length cap, .slice ao' qs.length cap'] w fun e w' => e = .returned (.bool (decide (ps = qs))) ∧ ∃ n, w' = w.drewN n := by
  have HF : Hid (F.Fl w ao ps) := h
  have HF' : Hid (F.Fl w ao' qs) := h'
  clear h h'
  by_cases hlen : ps.length = qs.length
  rotate_left
  · have HQ : Hid (decide (ps = qs) = false) := by show _ = _; rw [decide_eq_false_iff_not]; exact fun e => hlen (by rw [e])
    have hne : ((ps.length : Int) != (qs.length : Int)) = true := by simp; omega
    clear hlen
    go_enter Tryz.func115, Tryz.ntmps115
    go_wp2
    go_ret
    exact ⟨ret_bool HQ.out.symm, 0, rfl⟩
  have HLEN : Hid (ps.length = qs.length) := hlen
  have hne : ((ps.length : Int) != (qs.length : Int)) = false := by simp; omega
  clear hlen
  go_enter Tryz.func115, Tryz.ntmps115
  go_wp2
  go_loopw [13] (fun i wr => ∃ k : Nat, k ≤ ps.length ∧ i = .int .i64 k ∧ ps.take k = qs.take k ∧ ∃ n, wr = w.drewN n) (fun i _ => ps.length - (intOf i).toNat)
  case atStart => exact ⟨0, Nat.zero_le _, rfl, rfl, 0, rfl⟩
  case round =>
    obtain ⟨k, hk, rfl, htk, n, rfl⟩ := hrel
    have HTK : Hid (ps.take k = qs.take k) := htk
    clear htk
    by_cases hlt : k < ps.length
    · have hlt' : k < qs.length := by rw [← HLEN.out]; exact hlt
      obtain ⟨b, off, rfl, hb, c0, c1, _⟩ := HF.out.at hlt
      obtain ⟨b', off', rfl, hb', c0', c1', _⟩ := HF'.out.at hlt'
      have HN : Hid (ps[k]'hlt = qs[k]'hlt' → ps.take (k + 1) = qs.take (k + 1)) := fun e => by rw [List.take_succ_eq_append_getElem hlt, List.take_succ_eq_append_getElem hlt', HTK.out, e]
      have HD : Hid (ps[k]'hlt ≠ qs[k]'hlt' → ps ≠ qs) := fun hne e => hne (by subst e; rfl)
      generalize ps[k]'hlt = p at *
      generalize qs[k]'hlt' = q at *
      obtain ⟨l1, v1⟩ := p
      obtain ⟨l2, v2⟩ := q
      simp only at c0 c1 c0' c1'
      have hpn := fun W => pc_neq W l1 l2 v1 v2
      by_cases he : (l1, v1) = (l2, v2)
      · have HT : Hid (_) := HN.out he
        simp only [he, decide_true, Bool.not_true] at hpn
        clear he HN HD
        go_wp2
        go_big_quiet (fail)
        go_wp2
        go_roundw
        case rel => exact ⟨k + 1, by omega, by go_num, HT.out, n + nq, by simp⟩
        case measure => simp [intOf]; omega
      · have HT : Hid (decide (ps = qs) = false) := by show _ = _; rw [decide_eq_false_iff_not]; exact HD.out he
        simp only [he, decide_false, Bool.not_false] at hpn
        clear he HN HD
        go_wp2
        go_big_quiet (fail)
        go_wp2
        go_ret
        exact ⟨ret_bool HT.out.symm, n + nq, by simp⟩
    · have HT : Hid (decide (ps = qs) = true) := by
        show _ = _
        rw [decide_eq_true_iff]
        have := HTK.out
        rwa [List.take_of_length_le (by omega), List.take_of_length_le (by rw [← HLEN.out]; omega)] at this
      go_wp2
      go_ret
      exact ⟨ret_bool HT.out.symm, n, rfl⟩
end Go.Proofs.YtjappkfhballhaaGreat
