/- slices.Clone at knots, sorted walked. -/
import Derived.Test.YteamcgoemgailaaSrt
namespace Go.Proofs.Yteamcgoemgailaa
open Go.RowKit

theorem eqlNil (w : World) (a : Option Addr) (n c n' c' : Nat) : (binOp .eql 22 (.slice a n c) (.slice none n' c')).run Try.prog w = .ok (.bool a.isNone) w := Lib.run_eql_slice_nil w _ _ a n c n' c' Try.underlying22
set_option maxHeartbeats 1600000 in
theorem clone_any (ao : Option Addr) (cap : Nat) (l : List Kn) (w : World) (h : Kns w ao l) (hn : ao = none → cap = 0) (hreach : l.length ≤ 50) :
    Calls Try.prog 31 #[.slice ao l.length cap] w fun e w' => ∃ v, e = .returned v ∧ OwnK w' w.heap.size v l ∧ Below w.heap.size w w' := by
  have HF : Hid (Kns w ao l) := h
  have q22 := eqlNil
  clear h
  cases ao with
  | none =>
    obtain rfl : l = [] := by
      rcases HF.out with h | ⟨b, off, h, _⟩
      · exact h
      · cases h
    rw [hn rfl]
    have HC : Hid (OwnK w w.heap.size (.slice none 0 0) []) := OwnK.nil _ _
    simp only [List.length_nil]
    go_enter Try.func31, Try.ntmps31
    go_wp2
    go_ret
    exact ⟨_, rfl, HC.out, Below.refl _ _⟩
  | some a =>
    clear hn
    go_enter Try.func31, Try.ntmps31
    go_wp2_with (at_builtin; refine wpList_append_kn _ rfl (.tmp 5) (.tmp 6) rfl w.heap.size _ [] rfl ?qc1 a cap l rfl ?qc2 ?qc3 ?qc4 ?_)
    case qc1 => exact World.ownsRow_made w #[] 0 (Nat.le_refl _) (Nat.zero_le _) (by simp)
    case qc2 => exact HF.out.next ((Below.refl _ _).alloc (Nat.le_refl _) _)
    case qc3 => simp; omega
    case qc4 => simp
    intro v' w1 ho hg _
    go_wp2
    go_ret
    exact ⟨v', rfl, by simpa using ho, ((Below.refl _ w).alloc (Nat.le_refl _) _).grown hg (by simp) (by intro k hk; simp [Value.ownBlock] at hk; omega)⟩
theorem ltK (x y : Kn) : ltOf cmpK x y = true ↔ x.v < y.v ∨ x.v = y.v ∧ x.s < y.s := by
  unfold ltOf cmpK cmpI
  rw [decide_eq_true_iff]
  repeat (first | split | omega)
theorem ltK_no (x y : Kn) : ltOf cmpK x y = false ↔ y.v < x.v ∨ x.v = y.v ∧ y.s ≤ x.s := by
  rw [← Bool.not_eq_true, ltK]; omega
theorem swoK : Go.Sort.SWO (ltOf cmpK) where
  irrefl x := by rw [ltK_no]; omega
  trans x y z h1 h2 := by rw [ltK] at *; omega
  ntrans x y z h1 h2 := by rw [ltK_no] at *; omega
theorem totK (x y : Kn) (h : ltOf cmpK x y = false) (h2 : ltOf cmpK y x = false) : x = y := by
  rw [ltK_no] at h h2
  obtain ⟨a, b⟩ := x
  obtain ⟨c, d⟩ := y
  simp only at h h2
  obtain rfl : a = c := by omega
  obtain rfl : b = d := by omega
  rfl
/-- Knots sorted, by volumes, then steps. -/
def srt (l : List Kn) : List Kn := l.mergeSort fun x y => !ltOf cmpK y x
theorem srt_perm (l : List Kn) : (srt l).Perm l := List.mergeSort_perm _ _
theorem srt_up (l : List Kn) : (srt l).Pairwise fun x y => x.v ≤ y.v := by
  have := List.pairwise_mergeSort (le := fun x y => !ltOf cmpK y x) (fun a b c h1 h2 => by
    simp only [Bool.not_eq_true', ltK_no] at h1 h2 ⊢
    omega) (fun a b => by
    simp only [Bool.or_eq_true, Bool.not_eq_true', ltK_no]
    omega) l
  refine this.imp ?_
  intro a b h
  simp only [Bool.not_eq_true', ltK_no] at h
  omega
theorem below_sortWorld [Inhabited Kn] {B : Nat} {w0 w : World} {g n : Nat} {d : Array Kn} {os : Array Obj} (h : Below B w0 w) (hg : B ≤ g) (hw : B ≤ w.heap.size) : Below B w0 (sortWorldK cellsK1 2 w g 0 n d os) := by
  refine ⟨h.os, h.tape, h.output, ?_, fun k hk => ?_⟩
  · refine Nat.le_trans h.size ?_
    simp [sortWorldK, Go.Sort.grow, Go.Sort.putRowK, Go.Sort.putRow, Go.Sort.mapBlock, Go.Sort.ahead]
  · rw [← h.block k hk]
    simp only [sortWorldK, Go.Sort.grow, Go.Sort.putRowK, Go.Sort.putRow, Go.Sort.mapBlock, Go.Sort.ahead]
    rw [Array.getElem?_append_left (by simp; omega), Array.getElem?_modify, if_neg (by omega)]
theorem en33 : ∀ args w, (callFunc 33 args).run Try.prog w = .ok (.enter 33 args) w := enters_of Try.func33 (by kernel_rfl) rfl
set_option maxHeartbeats 1600000 in
/-- slices.SortFunc at knots of the call's own. -/
theorem sortFunc_any (base : Nat) (v : Value) (l : List Kn) (w : World) (h : OwnK w base v l) (hl : l.length ≤ 50) (hbase : base ≤ w.heap.size) :
    Calls Try.prog 32 #[v, .func (.func 33) #[] #[]] w fun e w' => e = .returned (.tuple #[]) ∧ IsCopy (srt l) v w' ∧ Below base w w' := by
  haveI : Inhabited Kn := ⟨z0⟩
  have hlen : (srt l).length = l.length := (srt_perm l).length_eq
  by_cases h0 : l = []
  · subst h0
    obtain ⟨ao, cap, rfl, _, hc⟩ := h.shape
    have := AnyF.slices_SortFunc_none { Try.sort32 with } ao cap (.func (.func 33) #[] #[]) w
    refine Calls.mono (show Calls Try.prog 32 #[.slice ao 0 cap, .func (.func 33) #[] #[]] w _ from this) ?_
    rintro e w' ⟨rfl, rfl⟩
    exact ⟨rfl, ⟨ao, cap, by rw [hlen], by rw [List.eq_nil_of_length_eq_zero hlen]; exact Kns.nil _ _, by rw [hlen]; exact hc⟩, Below.refl _ _⟩
  · have h' := h
    rcases h.2 with ⟨h1, h2⟩ | ⟨g, cap, cur, rfl, hb, hg, hn, hm, hs, ht⟩
    · exact absurd (List.eq_nil_of_length_eq_zero h2) h0
    have hlt : g < w.heap.size := (Array.getElem?_eq_some_iff.1 hg).1
    have hH : Go.Sort.HoldsK cellsK1 2 w g 0 l.toArray := by
      intro j hj
      rw [Go.Sort.size_flatK] at hj
      have hj2 : j < l.length * 2 := by simpa using hj
      rw [Go.Sort.get_flatK _ _ _ _ hj, Nat.zero_add]
      refine ⟨?_, World.ownsRow.frozenAt h' j⟩
      rw [World.ownsRow.cellAt h' j (by omega)]
      have := cellsK_at (l := l) (k := j / 2) (i := j % 2) (by omega) (by omega)
      rw [show j / 2 * 2 + j % 2 = j by omega] at this
      rw [this]
      have e : (l.toArray[j / 2]!) = l[j / 2]'(by omega) := by rw [getElem!_pos _ _ (by simp; omega)]; simp
      rw [e]
      generalize l[j / 2]'(by omega) = x
      rcases (show j % 2 = 0 ∨ j % 2 = 1 by omega) with e | e <;> rw [e] <;> rfl
    have := AnyQ.slices_SortFunc_total Try.sort32 2 Try.isAgg31 Try.sizeOf31 cellsK1 (fun _ => rfl) (fun x v hv => by simp [cellsK1] at hv; rcases hv with rfl | rfl <;> rfl) cmpK swoK 33 #[] g 0 cap l.toArray w en33 (fun _ _ _ _ x y => closure_any x y _) hH hlt (by simp; omega) totK
    refine Calls.mono (show Calls Try.prog 32 #[.slice (some ⟨g, 0, none⟩) l.length cap, .func (.func 33) #[] #[]] w _ from this) ?_
    rintro e w' ⟨rfl, n, os, rfl⟩
    refine ⟨rfl, ⟨_, cap, by rw [hlen], ?_, by rw [hlen]; exact hn⟩, below_sortWorld (Below.refl _ _) hb hbase⟩
    have hH2 := holdsK_sortWorldK_c cellsK1 2 w g 0 l.toArray (srt l).toArray n os hH hlt (by simp [hlen])
    refine .inr ⟨g, 0, rfl, fun k hk => ?_⟩
    have c0 := (hH2.cell (i := k) (c := 0) (by simpa using hk) (by decide)).1
    have c1 := (hH2.cell (i := k) (c := 1) (by simpa using hk) (by decide)).1
    have e : ((srt l).toArray[k]!) = (srt l)[k]'hk := by rw [getElem!_pos _ _ (by simpa using hk)]; simp
    rw [e] at c0 c1
    refine ⟨?_, c0, c1⟩
    exact Nat.lt_of_lt_of_le hlt (size_sortWorldK_c cellsK1 2 w g 0 n _ os)
set_option maxHeartbeats 1600000 in
theorem sorted_any (ao : Option Addr) (cap : Nat) (l : List Kn) (w : World) (h : Kns w ao l) (hn : ao = none → cap = 0) (hreach : l.length ≤ 50) :
    Calls Try.prog 28 #[.slice ao l.length cap] w fun e w' => ∃ v, e = .returned v ∧ IsCopy (srt l) v w' ∧ Below w.heap.size w w' := by
  have hcall := clone_any ao cap l w h hn hreach
  clear h
  go_enter Try.func28, Try.ntmps28
  go_wp2_with fail
  refine hcall.mono ?_
  rintro e w1 ⟨v, rfl, ho, hb1⟩
  have HB1 : Hid (Below w.heap.size w w1) := hb1
  have HO : Hid (OwnK w1 w.heap.size v l) := ho
  clear hb1 ho
  obtain ⟨ao1, cap1, rfl, _, _⟩ := HO.out.shape
  go_wp2_with fail
  refine (sortFunc_any w.heap.size _ l w1 HO.out hreach HB1.out.size).mono ?_
  rintro e w2 ⟨rfl, hc, hb2⟩
  have HC := (show Hid _ from hc)
  have HB2 : Hid (Below w.heap.size w w2) := HB1.out.trans hb2
  clear hc hb2
  go_wp2
  go_ret
  exact ⟨_, rfl, HC.out, HB2.out⟩
end Go.Proofs.Yteamcgoemgailaa
