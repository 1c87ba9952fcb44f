/- workcellref's small functions walked: PlaceLess, within, lesser, placeIn. -/
import Derived.Test.YtgbnjgenopdmfaaLM
import Derived.Test.YtgbnjgenopdmfaaVA
namespace Go.Proofs.Ytgbnjgenopdmfaa
open Go.RowKit Go.Maps

set_option maxHeartbeats 1600000 in
theorem placeLess_any (p q : Plc) (w : World) : Calls Try.prog 22 #[plv p, plv q] w fun e w' => e = .returned (.bool (pltB p q)) ∧ Below w.heap.size w w' := by
  have hB : Below w.heap.size w ((w.alloc (pobj p)).alloc (pobj q)) := ((Below.refl _ _).alloc (Nat.le_refl _) _).alloc (by simp) _
  have HB : Hid (Below w.heap.size w ((w.alloc (pobj p)).alloc (pobj q))) := hB
  clear hB
  by_cases h1 : p.1 = q.1
  · have n1 : (p.1 != q.1) = false := by simp [h1]
    by_cases h2 : p.2.2 = q.2.2
    · have n2 : (p.2.2 != q.2.2) = false := by simp [h2]
      have HR : Hid (pltB p q = decide (p.2.1 < q.2.1)) := by
        show _ = _
        rw [Bool.eq_iff_iff, plt_iff, decide_eq_true_eq]
        omega
      clear h1 h2
      go_enter Try.func22, Try.ntmps22
      go_wp2
      go_ret
      exact ⟨ret_bool HR.out.symm, HB.out⟩
    · have n2 : (p.2.2 != q.2.2) = true := by simp [h2]
      have HR : Hid (pltB p q = decide (p.2.2 < q.2.2)) := by
        show _ = _
        rw [Bool.eq_iff_iff, plt_iff, decide_eq_true_eq]
        omega
      clear h1 h2
      go_enter Try.func22, Try.ntmps22
      go_wp2
      go_ret
      exact ⟨ret_bool HR.out.symm, HB.out⟩
  · have n1 : (p.1 != q.1) = true := by simp [h1]
    have HR : Hid (pltB p q = decide (p.1 < q.1)) := by
      show _ = _
      rw [Bool.eq_iff_iff, plt_iff, decide_eq_true_eq]
      omega
    clear h1
    go_enter Try.func22, Try.ntmps22
    go_wp2
    go_ret
    exact ⟨ret_bool HR.out.symm, HB.out⟩
theorem pl_sameV (p q : Plc) (W : World) : (binOp .eql 26 (.agg #[.int .i64 p.1, .int .i64 p.2.1, .int .i64 p.2.2]) (.agg #[.int .i64 q.1, .int .i64 q.2.1, .int .i64 q.2.2])).run Try.prog W = .ok (.bool (decide (p = q))) W := by
  obtain ⟨a, b, c⟩ := p
  obtain ⟨d, e, f⟩ := q
  go_simp
  by_cases h1 : a = d <;> by_cases h2 : b = e <;> by_cases h3 : c = f <;> simp [h1, h2, h3]
theorem wp_binopV {P : Program} {o : Oper} {a : Act} {w : World} {K : Act → World → Prop} {Q : Exit → Act → World → Prop} {op : BinOp} {t rt : TypeId} {x y : Operand} {v : Value} (ho : o.op = .binOp op t x y rt) (hg : (eqGuard op t x y (a.eval x) (a.eval y)).run P w = .ok () w) (hr : (binOp op t (a.eval x) (a.eval y)).run P w = .ok v w) (hK : K (a.put o.dst v) w) : o.wp P a w K Q := by
  unfold Oper.wp
  simp [execOp, ho, hg, hr, Result.andThen]
  exact hK
theorem refWithin_any (n a b : Int) (w : World) : Calls Try.prog 32 #[.int .i64 n, .int .i64 a, .int .i64 b] w fun e w' => e = .returned (.bool (decide (a ≤ n) && decide (n ≤ b))) ∧ w' = w := by
  by_cases h : a ≤ n
  · go_enter Try.func32, Try.ntmps32
    go_wp2
    go_ret
    exact ⟨by simp [h], rfl⟩
  · go_enter Try.func32, Try.ntmps32
    go_wp2
    go_ret
    exact ⟨by simp; omega, rfl⟩
theorem lesser_any (a b : Int) (w : World) : Calls Try.prog 34 #[.int .i64 a, .int .i64 b] w fun e w' => e = .returned (.int .i64 (if a < b then a else b)) ∧ w' = w := by
  by_cases h : a < b
  · skip
    go_enter Try.func34, Try.ntmps34
    go_wp2
    go_ret
    exact ⟨rfl, rfl⟩
  · skip
    go_enter Try.func34, Try.ntmps34
    go_wp2
    go_ret
    exact ⟨rfl, rfl⟩
/-- Where a place stands in a list. -/
def piR (ms : List Plc) (p : Plc) : Int := match ms.findIdx? fun x => decide (x = p) with
  | some i => i
  | none => -1
theorem piR_hit {ms : List Plc} {p : Plc} {k : Nat} (hk : k < ms.length) (h : p ∉ ms.take k) (hs : ms[k]'hk = p) : piR ms p = k := by
  unfold piR
  have : ms.findIdx? (fun x => decide (x = p)) = some k := by
    rw [List.findIdx?_eq_some_iff_getElem]
    refine ⟨hk, by simp [hs], fun j hj => ?_⟩
    simp only [decide_eq_true_eq]
    intro e
    exact h (by rw [List.mem_take_iff_getElem]; exact ⟨j, by omega, e⟩)
  rw [this]
theorem piR_none {ms : List Plc} {p : Plc} (h : p ∉ ms) : piR ms p = -1 := by
  unfold piR
  have : ms.findIdx? (fun x => decide (x = p)) = none := by
    rw [List.findIdx?_eq_none_iff]
    intro x hx
    simp only [decide_eq_false_iff_not]
    rintro rfl
    exact h hx
  rw [this]
theorem piR_in (ms : List Plc) (p : Plc) : -1 ≤ piR ms p ∧ piR ms p ≤ ms.length := by
  unfold piR
  split
  · rename_i i h
    have := (List.findIdx?_eq_some_iff_getElem.1 h).1
    omega
  · omega
theorem piR_mem {ms : List Plc} {p : Plc} : 0 ≤ piR ms p ↔ p ∈ ms := by
  constructor
  · intro h
    refine Decidable.by_contra fun hn => ?_
    rw [piR_none hn] at h
    omega
  · intro h
    unfold piR
    split
    · omega
    · rename_i h2
      rw [List.findIdx?_eq_none_iff] at h2
      have := h2 p h
      simp at this
set_option linter.unusedVariables false in
def piV (ga oa na ca k bx : Nat) (x y : Plc) (b : Bool) (d : Nat) (v : Value) (_ : World) : Prop :=
  match d with
  | 12 => v = .slice (some ⟨ga, oa, none⟩) na ca
  | 13 => v = .int .i64 k
  | 14 => v = .pointer (some ⟨ga, oa + k * 3, none⟩)
  | 15 => v = .agg #[.int .i64 x.1, .int .i64 x.2.1, .int .i64 x.2.2]
  | 16 => v = .agg #[.int .i64 y.1, .int .i64 y.2.1, .int .i64 y.2.2]
  | 17 => v = .bool b
  | _ => True
set_option linter.unusedVariables false in
theorem piV_mono (ga oa na ca k bx : Nat) (x y : Plc) (b : Bool) (d : Nat) (v : Value) (w w' : World) (h : piV ga oa na ca k bx x y b d v w) (_ : Below w.heap.size w w') : piV ga oa na ca k bx x y b d v w' := h
set_option maxHeartbeats 1600000 in
set_option maxRecDepth 100000 in
theorem placeIn_any (ao : Option Addr) (cap : Nat) (ms : List Plc) (p : Plc) (w : World) (hM : RdR encP w ao ms) (hl : ms.length ≤ 1000000000) :
    Calls Try.prog 33 #[.slice ao ms.length cap, plv p] w fun e w' => e = .returned (.int .i64 (piR ms p)) ∧ Below w.heap.size w w' := by
  have HM : Hid (RdR encP w ao ms) := hM
  have K0 : Hid (Bk w.heap.size [.int .i64 p.1, .int .i64 p.2.1, .int .i64 p.2.2] (w.alloc (pobj p))) := Bk.new w _ _ w.heap.size rfl
  have HB0 : Hid (Below w.heap.size w (w.alloc (pobj p))) := (Below.refl _ _).alloc (Nat.le_refl _) _
  clear hM
  go_enter Try.func33, Try.ntmps33
  go_wp2
  go_loopw [5] (fun i wr => ∃ k : Nat, k ≤ ms.length ∧ i = .int .i64 k ∧ p ∉ ms.take k ∧ Below w.heap.size w wr ∧ Bk w.heap.size [.int .i64 p.1, .int .i64 p.2.1, .int .i64 p.2.2] wr) (fun i _ => ms.length - (intOf i).toNat)
  case atStart => exact ⟨0, Nat.zero_le _, rfl, (by simp), HB0.out, K0.out⟩
  case round =>
    obtain ⟨k, hk, rfl, hn, hB, hK0⟩ := hrel
    have HN : Hid (p ∉ ms.take k) := hn
    have HB : Hid (Below w.heap.size w wr) := hB
    have HK0 : Hid (Bk w.heap.size [.int .i64 p.1, .int .i64 p.2.1, .int .i64 p.2.2] wr) := hK0
    clear hn hB hK0
    by_cases hlt : k < ms.length
    · have hki : (k : Int) < (ms.length : Int) := by omega
      obtain ⟨ga, oa, rfl, hcs⟩ : ∃ ga oa, ao = some ⟨ga, oa, none⟩ ∧ ∀ j, j < 3 → wr.cell? ⟨ga, oa + k * 3 + j, none⟩ = (encP.enc (ms[k]'hlt))[j]? := by
        rcases HM.out.next goodP HB.out with h | ⟨gp, op, e, _, hc⟩
        · rw [h] at hlt; simp at hlt
        · exact ⟨gp, op, e, fun j hj => hc k hlt j hj⟩
      have HTK : Hid (ms.take (k + 1) = ms.take k ++ [ms[k]'hlt]) := by show _ = _; rw [List.take_succ_eq_append_getElem hlt]
      have HHIT : Hid (ms[k]'hlt = p → piR ms p = k) := fun h => piR_hit hlt HN.out h
      generalize ms[k]'hlt = x at *
      have a0 := hcs 0 (by decide)
      have a1 := hcs 1 (by decide)
      have a2 := hcs 2 (by decide)
      simp only [List.getElem?_cons_zero, List.getElem?_cons_succ, Nat.add_zero] at a0 a1 a2
      have HX : Hid (∀ W1, Below wr.heap.size wr W1 → W1.cell? ⟨ga, oa + k * 3, none⟩ = some (.int .i64 x.1) ∧ W1.cell? ⟨ga, oa + k * 3 + 1, none⟩ = some (.int .i64 x.2.1) ∧ W1.cell? ⟨ga, oa + k * 3 + 2, none⟩ = some (.int .i64 x.2.2)) := fun W1 hb => ⟨cell_later hb a0, cell_later hb a1, cell_later hb a2⟩
      have HY : Hid (∀ W1, Below wr.heap.size wr W1 → W1.cell? ⟨w.heap.size, 0, none⟩ = some (.int .i64 p.1) ∧ W1.cell? ⟨w.heap.size, 1, none⟩ = some (.int .i64 p.2.1) ∧ W1.cell? ⟨w.heap.size, 2, none⟩ = some (.int .i64 p.2.2)) := fun W1 hb => ⟨(HK0.out.later hb).c 0 rfl, (HK0.out.later hb).c 1 rfl, (HK0.out.later hb).c 2 rfl⟩
      have HE : Hid (∀ W1, (binOp .eql 26 (.agg #[.int .i64 x.1, .int .i64 x.2.1, .int .i64 x.2.2]) (.agg #[.int .i64 p.1, .int .i64 p.2.1, .int .i64 p.2.2])).run Try.prog W1 = .ok (.bool (decide (x = p))) W1) := fun W1 => pl_sameV x p W1
      clear a0 a1 a2 hcs
      have HD : Hid (decide (x = p) = decide (x = p)) := rfl
      go_wp2_with fail
      refine region_inv [false, false, false, false, false, false, false, false, false, false, false, false, true, true, true, true, true, true, false]
        [(12, [], none), (13, [], none), (14, [12, 13], none), (15, [14], none), (16, [], none), (17, [15, 16], none)]
        (piV ga oa ms.length cap k w.heap.size x p (decide (x = p))) (by kernel_rfl) (by kernel_rfl) (piV_mono ga oa ms.length cap k w.heap.size x p (decide (x = p))) ?_ ?_
      · refine ⟨?_, ?_, ?_, ?_, ?_, ?_, trivial⟩
        · intro f w1 hb _ K hK
          simp only [over, overL, Nat.reduceAdd]
          go_simp
          exact hK _ _ ⟨_, rfl, by simp only [over, overL, Nat.reduceAdd]; rfl, Below.refl _ _⟩
        · intro f w1 hb _ K hK
          simp only [over, overL, Nat.reduceAdd]
          go_simp
          exact hK _ _ ⟨_, rfl, by simp only [over, overL, Nat.reduceAdd]; rfl, Below.refl _ _⟩
        · intro f w1 hb ⟨h12, h13, _⟩ K hK
          replace h12 : f 12 = _ := h12
          replace h13 : f 13 = _ := h13
          simp only [over, overL, Nat.reduceAdd, h12, h13]
          go_simp
          exact hK _ _ ⟨_, rfl, by simp only [over, overL, Nat.reduceAdd, h12, h13]; rfl, Below.refl _ _⟩
        · intro f w1 hb ⟨h14, _⟩ K hK
          replace h14 : f 14 = _ := h14
          obtain ⟨q0, q1, q2⟩ := HX.out w1 hb
          simp only [over, overL, Nat.reduceAdd, h14]
          go_simp
          exact hK _ _ ⟨_, rfl, by simp only [over, overL, Nat.reduceAdd, h14]; rfl, Below.refl _ _⟩
        · intro f w1 hb _ K hK
          obtain ⟨q0, q1, q2⟩ := HY.out w1 hb
          simp only [over, overL, Nat.reduceAdd]
          go_simp
          exact hK _ _ ⟨_, rfl, by simp only [over, overL, Nat.reduceAdd]; rfl, Below.refl _ _⟩
        · intro f w1 hb ⟨h15, h16, _⟩ K hK
          replace h15 : f 15 = _ := h15
          replace h16 : f 16 = _ := h16
          have q0 := HE.out w1
          simp only [over, overL, Nat.reduceAdd, h15, h16]
          refine wp_binopV rfl (by go_simp) q0 ?_
          exact hK _ _ ⟨_, rfl, by simp only [over, overL, Nat.reduceAdd, h15, h16], Below.refl _ _⟩
      · intro f w2 hb2 hv
        have h17 : f 17 = .bool (decide (x = p)) := hv.2.2.2.2.2.1
        by_cases hx : x = p
        · rw [decide_eq_true hx] at h17
          simp only [over, overL, Nat.reduceAdd, h17]
          go_wp2
          go_ret
          exact ⟨ret_int (HHIT.out hx).symm, below_on HB.out hb2⟩
        · rw [decide_eq_false hx] at h17
          simp only [over, overL, Nat.reduceAdd, h17]
          go_wp2
          go_roundw
          case rel =>
            refine ⟨k + 1, by omega, by go_num, ?_, below_on HB.out hb2, HK0.out.later hb2⟩
            rw [HTK.out, List.mem_append, List.mem_singleton]
            rintro (h | h)
            · exact HN.out h
            · exact hx h.symm
          case measure => simp [intOf]; omega
    · have hki : ¬ (k : Int) < (ms.length : Int) := by omega
      have e : ms.take k = ms := List.take_of_length_le (by omega)
      have HN2 : Hid (p ∉ ms) := by have h := HN.out; rw [e] at h; exact h
      clear e HN
      go_wp2
      go_ret
      exact ⟨ret_int (piR_none HN2.out).symm, HB.out⟩
end Go.Proofs.Ytgbnjgenopdmfaa
