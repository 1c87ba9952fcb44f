import Derived.Test.YtgelbndbkmedlaaGd
import Derived.Test.YtgelbndbkmedlaaGi
import Derived.Test.YtgelbndbkmedlaaGf
import Derived.OwnWalkIn
import Derived.TacticsInMore
import Derived.LoopNIn
import Derived.LoopIn

/- slices.Compact at points walked. -/
namespace Go.Proofs.Ytgelbndbkmedlaa.S
open Go.RowKit
/-- Two points alike. -/
def eqP (p q : Pt) : Bool := (p.x == q.x) && ((p.y == q.y) && (p.z == q.z))
theorem eqP_iff {p q : Pt} : eqP p q = true ↔ p = q := by
  obtain ⟨a, b, c⟩ := p
  obtain ⟨d, e, f⟩ := q
  simp [eqP]
theorem eqP_no {p q : Pt} : eqP p q = false ↔ p ≠ q := by rw [← Bool.not_eq_true, Ne, eqP_iff]
/-- Points alike with the one ahead go. -/
def cmptG : Pt → List Pt → List Pt
  | _, [] => []
  | h, p :: r => if eqP p h = true then cmptG p r else p :: cmptG p r
def cmpt : List Pt → List Pt
  | [] => []
  | p :: r => p :: cmptG p r
theorem cmptG_snoc (x : Pt) : ∀ (l : List Pt) (h : Pt), cmptG h (l ++ [x]) = if eqP x (l.getLast?.getD h) = true then cmptG h l else cmptG h l ++ [x]
  | [], h => by rfl
  | p :: r, h => by
    have e : (p :: r).getLast?.getD h = r.getLast?.getD p := by simp [List.getLast?_cons]
    have ih := cmptG_snoc x r p
    rw [e, List.cons_append]
    simp only [cmptG]
    rw [ih]
    split <;> split <;> simp
theorem cmpt_take {l : List Pt} {k : Nat} (h1 : 1 ≤ k) (hk : k < l.length) : cmpt (l.take (k + 1)) = if eqP (l[k]'hk) (l[k - 1]'(by omega)) = true then cmpt (l.take k) else cmpt (l.take k) ++ [l[k]'hk] := by
  rw [List.take_succ_eq_append_getElem hk]
  have hlast : (l.take k).getLast? = some (l[k - 1]'(by omega)) := by
    rw [List.getLast?_eq_getElem?, List.length_take, Nat.min_eq_left (by omega), List.getElem?_take, if_pos (by omega), List.getElem?_eq_getElem]
  generalize l[k]'hk = x at *
  cases e : l.take k with
  | nil => rw [e] at hlast; simp at hlast
  | cons a t =>
    rw [e] at hlast
    rw [List.getLast?_cons] at hlast
    injection hlast with hlast
    rw [List.cons_append]
    simp only [cmpt]
    rw [cmptG_snoc, hlast]
    split <;> simp
theorem cmpt_one {l : List Pt} (h : 1 ≤ l.length) : cmpt (l.take 1) = l.take 1 := by
  cases l with
  | nil => simp at h
  | cons a t => simp [cmpt, cmptG]
theorem cmpt_short {l : List Pt} (h : l.length < 2) : cmpt l = l := by
  match l, h with
  | [], _ => rfl
  | [a], _ => rfl
theorem pt_eql (p q : Pt) (W : World) : (binOp .eql 24 (pv p) (pv q)).run Try.prog W = .ok (.bool (eqP p q)) W := by
  obtain ⟨a, b, c⟩ := p
  obtain ⟨d, e, f⟩ := q
  go_simp
  by_cases h1 : a = d <;> by_cases h2 : b = e <;> by_cases h3 : c = f <;> simp [eqP, h1, h2, h3]
theorem pt_neq (p q : Pt) (W : World) : (binOp .neq 24 (pv p) (pv q)).run Try.prog W = .ok (.bool (!eqP p q)) W := by
  obtain ⟨a, b, c⟩ := p
  obtain ⟨d, e, f⟩ := q
  go_simp
  by_cases h1 : a = d <;> by_cases h2 : b = e <;> by_cases h3 : c = f <;> simp [eqP, h1, h2, h3]
theorem wp_binop {P : Program} {o : Oper} {a : Act} {w : World} {K : Act → World → Prop} {Q : Exit → Act → World → Prop} {op : BinOp} {t rt : TypeId} {x y : Operand} {v : Value} (ho : o.op = .binOp op t x y rt) (hg : (eqGuard op t x y (a.eval x) (a.eval y)).run P w = .ok () w) (hr : (binOp op t (a.eval x) (a.eval y)).run P w = .ok v w) (hK : K (a.put o.dst v) w) : o.wp P a w K Q := by
  unfold Oper.wp
  simp [execOp, ho, hg, hr, Result.andThen]
  exact hK
theorem cells_set {p : Pt} : ∀ {M : List Pt} {m : Nat}, m < M.length → (((encPt.cells M).set (m * 3) (.int .i64 p.x)).set (m * 3 + 1) (.int .i64 p.y)).set (m * 3 + 2) (.int .i64 p.z) = encPt.cells (M.set m p)
  | [], _, h => absurd h (Nat.not_lt_zero _)
  | q :: M, 0, _ => rfl
  | q :: M, m + 1, h => by
    have ih := cells_set (p := p) (M := M) (m := m) (by simpa using h)
    have e : ∀ (N : List Pt) (q : Pt), encPt.cells (q :: N) = .int .i64 q.x :: .int .i64 q.y :: .int .i64 q.z :: encPt.cells N := fun N q => rfl
    rw [List.set_cons_succ, e, e, ← ih]
    rw [show (m + 1) * 3 = m * 3 + 1 + 1 + 1 by omega, show m * 3 + 1 + 1 + 1 + 1 = m * 3 + 1 + 1 + 1 + 1 from rfl]
    simp only [List.set_cons_succ]
theorem Bk.at3 {g : Nat} {M : List Pt} {w : World} (h : Bk g (encPt.cells M) w) {k : Nat} (hk : k < M.length) :
    w.cell? ⟨g, k * 3, none⟩ = some (.int .i64 (M[k]'hk).x) ∧ w.cell? ⟨g, k * 3 + 1, none⟩ = some (.int .i64 (M[k]'hk).y) ∧ w.cell? ⟨g, k * 3 + 2, none⟩ = some (.int .i64 (M[k]'hk).z) := by
  have e := fun j (hj : j < 3) => cells_at goodPt (ps := M) hk (j := j) hj
  exact ⟨h.c (k * 3) (e 0 (by decide)), h.c (k * 3 + 1) (e 1 (by decide)), h.c (k * 3 + 2) (e 2 (by decide))⟩
theorem Bk.fr3 {g : Nat} {M : List Pt} {w : World} (h : Bk g (encPt.cells M) w) {k : Nat} (hk : k < M.length) :
    w.frozen? ⟨g, k * 3, none⟩ = false ∧ w.frozen? ⟨g, k * 3 + 1, none⟩ = false ∧ w.frozen? ⟨g, k * 3 + 2, none⟩ = false := by
  have e := fun j (hj : j < 3) => cells_at goodPt (ps := M) hk (j := j) hj
  exact ⟨h.f (k * 3) (e 0 (by decide)), h.f (k * 3 + 1) (e 1 (by decide)), h.f (k * 3 + 2) (e 2 (by decide))⟩
abbrev zPt : Value := .agg #[.int .i64 0, .int .i64 0, .int .i64 0]
theorem run_clearP (w : World) (ty : TypeId) (g o n c : Nat) (hn : 0 < n) (hc : ∀ j, j < (Builtin.zeroCells zPt.cells n).toList.length → (w.cell? ⟨g, o + j, none⟩).isSome = true) (hf : ∀ j, j < (Builtin.zeroCells zPt.cells n).toList.length → w.frozen? ⟨g, o + j, none⟩ = false) :
    (Builtin.clear_ #[27] ty #[.slice (some ⟨g, o, none⟩) n c]).run Try.prog w = .ok (.tuple #[]) (w.setCells g o (Builtin.zeroCells zPt.cells n).toList) := by
  have hst := run_storeCells_cells (P := Try.prog) g o (Builtin.zeroCells zPt.cells n).toList 0 w (by simpa using hc) (by simpa using hf) (by
    intro v hv
    simp only [Builtin.zeroCells, Array.toList_map, List.mem_map] at hv
    obtain ⟨k, _, rfl⟩ := hv
    have : k % zPt.cells.size < 3 := Nat.mod_lt _ (by decide)
    generalize k % zPt.cells.size = q at *
    match q, this with
    | 0, _ => rfl
    | 1, _ => rfl
    | 2, _ => rfl)
  simp only [Nat.add_zero] at hst
  obtain ⟨m, rfl⟩ : ∃ m, n = m + 1 := ⟨n - 1, by omega⟩
  have h3 := run_underlying (P := Try.prog) Try.underlying27
  simp [Builtin.clear_, h3, hst]
theorem zeroP_len (n : Nat) : (Builtin.zeroCells zPt.cells n).toList.length = n * 3 := by simp [Builtin.zeroCells, Value.cells]
theorem kpt_setCells (g : Nat) : ∀ (vs : List Value) (o : Nat) (w : World), Kpt (fun k => k = g) w (w.setCells g o vs)
  | [], _, _ => Kpt.refl _ _
  | v :: r, o, w => (Kpt.setCell (M := fun k => k = g) w g o v rfl).trans (kpt_setCells g r (o + 1) (w.setCell ⟨g, o, none⟩ v))
/-- What is left in the front where the rest is cleared. -/
theorem bk_clear {g m : Nat} {M : List Pt} {w : World} (h : Bk g (encPt.cells M) w) (hm : m ≤ M.length) (zs : List Value) : Bk g (encPt.cells (M.take m)) (w.setCells g (m * 3) zs) := by
  refine ⟨Nat.lt_of_lt_of_le h.1 (kpt_setCells g zs _ w).size, fun k v hv => ?_⟩
  have hl : (encPt.cells (M.take m)).length = m * 3 := by rw [cells_length goodPt, List.length_take, Nat.min_eq_left hm]
  have hk : k < m * 3 := by have := (List.getElem?_eq_some_iff.1 hv).1; omega
  have e : (encPt.cells M)[k]? = some v := by
    have e2 : encPt.cells M = encPt.cells (M.take m) ++ encPt.cells (M.drop m) := by rw [← cells_append, List.take_append_drop]
    rw [e2, List.getElem?_append_left (by omega)]
    exact hv
  refine ⟨?_, ?_⟩
  · rw [World.cell?_setCells_out g zs _ _ ⟨g, k, none⟩ (fun _ _ => .inl (by show k < m * 3; omega))]
    exact h.c k e
  · rw [World.frozen?_setCells]
    exact h.f k e
end Go.Proofs.Ytgelbndbkmedlaa.S

/- slices.Compact at points walked. -/
namespace Go.Proofs.Ytgelbndbkmedlaa.S
open Go.RowKit
set_option linter.unusedVariables false in
def cp6V (g n cap k j : Nat) (p q : Pt) (d : Nat) (v : Value) (_ : World) : Prop :=
  match d with
  | 16 => v = .slice (some ⟨g, 0, none⟩) n cap
  | 17 => v = .int .i64 (k : Int)
  | 18 => v = .pointer (some ⟨g, k * 3, none⟩)
  | 19 => v = pv p
  | 20 => v = .slice (some ⟨g, 0, none⟩) n cap
  | 21 => v = .int .i64 (k : Int)
  | 22 => v = .int .i64 (j : Int)
  | 23 => v = .pointer (some ⟨g, j * 3, none⟩)
  | 24 => v = pv q
  | 25 => v = .bool (eqP p q)
  | _ => True
set_option linter.unusedVariables false in
theorem cp6V_mono (g n cap k j : Nat) (p q : Pt) (d : Nat) (v : Value) (w w' : World) (h : cp6V g n cap k j p q d v w) (_ : Below w.heap.size w w') : cp6V g n cap k j p q d v w' := h
set_option linter.unusedVariables false in
def cp11V (g n cap k0 k j : Nat) (p q : Pt) (d : Nat) (v : Value) (_ : World) : Prop :=
  match d with
  | 35 => v = .slice (some ⟨g, k0 * 3, none⟩) (n - k0) (cap - k0)
  | 36 => v = .int .i64 (k : Int)
  | 37 => v = .pointer (some ⟨g, k0 * 3 + k * 3, none⟩)
  | 38 => v = pv p
  | 39 => v = .slice (some ⟨g, k0 * 3, none⟩) (n - k0) (cap - k0)
  | 40 => v = .int .i64 (k : Int)
  | 41 => v = .int .i64 (j : Int)
  | 42 => v = .pointer (some ⟨g, k0 * 3 + j * 3, none⟩)
  | 43 => v = pv q
  | 44 => v = .bool (!eqP p q)
  | _ => True
set_option linter.unusedVariables false in
theorem cp11V_mono (g n cap k0 k j : Nat) (p q : Pt) (d : Nat) (v : Value) (w w' : World) (h : cp11V g n cap k0 k j p q d v w) (_ : Below w.heap.size w w') : cp11V g n cap k0 k j p q d v w' := h
set_option maxHeartbeats 6400000 in
set_option maxRecDepth 100000 in
theorem compact_any (g cap : Nat) (l : List Pt) (w : World) (hB : Bk g (encPt.cells l) w) (hc : l.length ≤ cap) (hm : cap ≤ 9223372036854775807) :
    Calls Try.prog 25 #[.slice (some ⟨g, 0, none⟩) l.length cap] w fun e w' => e = .returned (.slice (some ⟨g, 0, none⟩) (cmpt l).length cap) ∧ Bk g (encPt.cells (cmpt l)) w' ∧ Kpt (fun k => k = g) w w' := by
  have HB : Hid (Bk g (encPt.cells l) w) := hB
  clear hB
  by_cases h2 : l.length < 2
  · have HC : Hid (cmpt l = l) := cmpt_short h2
    go_enter Try.func25, Try.ntmps25
    go_wp2
    go_ret
    rw [HC.out]
    exact ⟨rfl, HB.out, Kpt.refl _ _⟩
  have hl2 : 2 ≤ l.length := by omega
  clear h2
  go_enter Try.func25, Try.ntmps25
  go_wp2
  go_loopw [3] (fun i wr => ∃ k : Nat, 1 ≤ k ∧ k ≤ l.length ∧ i = .int .i64 k ∧ cmpt (l.take k) = l.take k ∧ Bk g (encPt.cells l) wr ∧ Kpt (fun k => k = g) w wr) (fun i _ => l.length - (intOf i).toNat)
  case atStart => exact ⟨1, Nat.le_refl _, by omega, rfl, cmpt_one (by omega), HB.out, Kpt.refl _ _⟩
  case round =>
    obtain ⟨k, hk1, hk, rfl, hck, hbk, hkp⟩ := hrel
    have HCK : Hid (cmpt (l.take k) = l.take k) := hck
    have HBK : Hid (Bk g (encPt.cells l) wr) := hbk
    have HKP : Hid (Kpt (fun k => k = g) w wr) := hkp
    clear hck hbk hkp
    by_cases hlt : k < l.length
    · obtain ⟨j, hj⟩ : ∃ j, j = k - 1 := ⟨_, rfl⟩
      have hjl : j < l.length := by omega
      have HCT : Hid (cmpt (l.take (k + 1)) = if eqP (l[k]'hlt) (l[j]'hjl) = true then cmpt (l.take k) else cmpt (l.take k) ++ [l[k]'hlt]) := by
        have := cmpt_take hk1 hlt
        subst hj
        exact this
      have HTS : Hid (l.take (k + 1) = l.take k ++ [l[k]'hlt]) := List.take_succ_eq_append_getElem hlt
      obtain ⟨p0, p1, p2⟩ := Bk.at3 HBK.out hlt
      obtain ⟨q0, q1, q2⟩ := Bk.at3 HBK.out hjl
      have HV : Hid (Value.int .i64 (IntKind.i64.wrap ((k : Int) - 1)) = .int .i64 (j : Int)) := by
        show _ = _
        rw [wrap_is (by omega) (by omega)]
        congr 1
        omega
      generalize l[k]'hlt = p at *
      generalize l[j]'hjl = q at *
      have HP0 : Hid (wr.cell? ⟨g, k * 3, none⟩ = some (.int .i64 p.x)) := p0
      have HP1 : Hid (wr.cell? ⟨g, k * 3 + 1, none⟩ = some (.int .i64 p.y)) := p1
      have HP2 : Hid (wr.cell? ⟨g, k * 3 + 2, none⟩ = some (.int .i64 p.z)) := p2
      have HQ0 : Hid (wr.cell? ⟨g, j * 3, none⟩ = some (.int .i64 q.x)) := q0
      have HQ1 : Hid (wr.cell? ⟨g, j * 3 + 1, none⟩ = some (.int .i64 q.y)) := q1
      have HQ2 : Hid (wr.cell? ⟨g, j * 3 + 2, none⟩ = some (.int .i64 q.z)) := q2
      have HJ : Hid (j = k - 1) := hj
      have hki : (k : Int) < (l.length : Int) := by omega
      have hji : (j : Int) < (l.length : Int) := by omega
      clear p0 p1 p2 q0 q1 q2 hj
      go_wp2_with fail
      refine region_inv [false, false, false, false, false, false, false, false, false, false, false, false, false, false, false, false, true, true, true, true, true, true, true, true, true, true, false, false, false, false, false, false, false, false, false, false, false, false, false, false, false, false, false, false, false, false, false, false, false, false, false, false, false, false, false, false, false, false, false, false, false]
        [(16, [], none), (17, [], none), (18, [16, 17], none), (19, [18], none), (20, [], none), (21, [], none), (22, [21], none), (23, [20, 22], none), (24, [23], none), (25, [19, 24], none)]
        (cp6V g l.length cap k j p q) (by kernel_rfl) (by kernel_rfl) (cp6V_mono g l.length cap k j p q) ?_ ?_
      · refine ⟨?_, ?_, ?_, ?_, ?_, ?_, ?_, ?_, ?_, ?_, trivial⟩
        · intro f w1 hb _ K hK
          simp only [over, overL, Nat.reduceAdd]
          go_simp
          exact hK _ _ ⟨_, rfl, by simp only [over, overL, Nat.reduceAdd]; rfl, Below.refl _ _⟩
        · intro f w1 hb _ K hK
          simp only [over, overL, Nat.reduceAdd]
          go_simp
          exact hK _ _ ⟨_, rfl, by simp only [over, overL, Nat.reduceAdd]; rfl, Below.refl _ _⟩
        · intro f w1 hb ⟨h16, h17, _⟩ K hK
          replace h16 : f 16 = _ := h16
          replace h17 : f 17 = _ := h17
          simp only [over, overL, Nat.reduceAdd, h16, h17]
          go_simp
          exact hK _ _ ⟨_, rfl, by simp only [over, overL, Nat.reduceAdd, h16, h17]; rfl, Below.refl _ _⟩
        · intro f w1 hb ⟨h18, _⟩ K hK
          replace h18 : f 18 = _ := h18
          have q0 := cell_later hb HP0.out
          have q1 := cell_later hb HP1.out
          have q2 := cell_later hb HP2.out
          simp only [over, overL, Nat.reduceAdd, h18]
          go_simp
          exact hK _ _ ⟨_, rfl, by simp only [over, overL, Nat.reduceAdd, h18]; rfl, Below.refl _ _⟩
        · intro f w1 hb _ K hK
          simp only [over, overL, Nat.reduceAdd]
          go_simp
          exact hK _ _ ⟨_, rfl, by simp only [over, overL, Nat.reduceAdd]; rfl, Below.refl _ _⟩
        · intro f w1 hb _ K hK
          simp only [over, overL, Nat.reduceAdd]
          go_simp
          exact hK _ _ ⟨_, rfl, by simp only [over, overL, Nat.reduceAdd]; rfl, Below.refl _ _⟩
        · intro f w1 hb ⟨h21, _⟩ K hK
          replace h21 : f 21 = _ := h21
          simp only [over, overL, Nat.reduceAdd, h21]
          go_simp
          exact hK _ _ ⟨_, HV.out, by simp only [over, overL, Nat.reduceAdd, h21]; rfl, Below.refl _ _⟩
        · intro f w1 hb ⟨h20, h22, _⟩ K hK
          replace h20 : f 20 = _ := h20
          replace h22 : f 22 = _ := h22
          simp only [over, overL, Nat.reduceAdd, h20, h22]
          go_simp
          exact hK _ _ ⟨_, rfl, by simp only [over, overL, Nat.reduceAdd, h20, h22]; rfl, Below.refl _ _⟩
        · intro f w1 hb ⟨h23, _⟩ K hK
          replace h23 : f 23 = _ := h23
          have q0 := cell_later hb HQ0.out
          have q1 := cell_later hb HQ1.out
          have q2 := cell_later hb HQ2.out
          simp only [over, overL, Nat.reduceAdd, h23]
          go_simp
          exact hK _ _ ⟨_, rfl, by simp only [over, overL, Nat.reduceAdd, h23]; rfl, Below.refl _ _⟩
        · intro f w1 hb ⟨h19, h24, _⟩ K hK
          replace h19 : f 19 = _ := h19
          replace h24 : f 24 = _ := h24
          simp only [over, overL, Nat.reduceAdd, h19, h24]
          refine wp_binop rfl (by go_simp) (pt_eql p q w1) ?_
          exact hK _ _ ⟨_, rfl, by simp only [over, overL, Nat.reduceAdd, h19, h24], Below.refl _ _⟩
      intro f w1 hb hv
      have h25 : f 25 = _ := hv.2.2.2.2.2.2.2.2.2.1
      have HB1 : Hid (Below wr.heap.size wr w1) := hb
      have HBK1 : Hid (Bk g (encPt.cells l) w1) := HBK.out.later hb
      have HKP1 : Hid (Kpt (fun k => k = g) w w1) := HKP.out.trans (Kpt.of_below hb)
      clear hv hb
      simp only [over_eq, overL, h25, Nat.reduceAdd]
      clear h25
      cases heq : eqP p q with
      | false =>
        have HN : Hid (cmpt (l.take (k + 1)) = l.take (k + 1)) := by show _ = _; rw [HCT.out, HTS.out, heq, HCK.out]; rfl
        clear heq
        go_wp2
        go_roundw
        case rel => exact ⟨k + 1, by omega, by omega, by go_num, HN.out, HBK1.out, HKP1.out⟩
        case measure => simp [intOf]; omega
      | true =>
        have HN : Hid (cmpt (l.take (k + 1)) = l.take k) := by show _ = _; rw [HCT.out, heq, HCK.out]; rfl
        obtain ⟨k0, hk0⟩ : ∃ x, x = k := ⟨_, rfl⟩
        rw [← hk0] at HN hlt hk1 hki ⊢
        obtain ⟨wO, hwO⟩ : ∃ x, x = wr := ⟨_, rfl⟩
        have hck : ¬ cap = k0 := by omega
        have hkc : k0 ≤ cap := by omega
        have hkl : k0 ≤ l.length := by omega
        clear heq hk0 hwO HCT HTS HCK HP0 HP1 HP2 HQ0 HQ1 HQ2 HV HJ HB1 HBK HKP hk hji hjl
        go_wp2_with fail
        go_loopw [3, 5] (fun i x wr => ∃ (m jj : Nat) (M : List Pt), k0 ≤ m ∧ m + 1 ≤ k0 + jj ∧ 1 ≤ jj ∧ k0 + jj ≤ l.length ∧ i = .int .i64 m ∧ x = .int .i64 jj ∧ M.length = l.length ∧ M.take m = cmpt (l.take (k0 + jj)) ∧ (∀ c, m ≤ c → M[c]? = l[c]?) ∧ Bk g (encPt.cells M) wr ∧ Kpt (fun k => k = g) w wr) (fun _ x _ => l.length - (intOf x).toNat)
        case atStart => exact ⟨k0, 1, l, Nat.le_refl _, Nat.le_refl _, Nat.le_refl _, by omega, rfl, rfl, rfl, HN.out.symm, fun _ _ => rfl, HBK1.out, HKP1.out⟩
        case round =>
          obtain ⟨m, jj, M, hm0, hm1, hj1, hjl, rfl, rfl, hML, hMt, hMr, hbM, hkM⟩ := hrel
          have HML : Hid (M.length = l.length) := hML
          have HMT : Hid (M.take m = cmpt (l.take (k0 + jj))) := hMt
          have HMR : Hid (∀ c, m ≤ c → M[c]? = l[c]?) := hMr
          have HBM : Hid (Bk g (encPt.cells M) wr) := hbM
          have HKM : Hid (Kpt (fun k => k = g) w wr) := hkM
          clear hML hMt hMr hbM hkM
          by_cases hlt2 : k0 + jj < l.length
          · obtain ⟨j, hjj⟩ : ∃ j, j = jj - 1 := ⟨_, rfl⟩
            have hA : k0 + jj < M.length := by rw [HML.out]; exact hlt2
            have hBq : k0 + j < M.length := by rw [HML.out]; omega
            have hlq : k0 + j < l.length := by omega
            have e1 : M[k0 + jj]'hA = l[k0 + jj]'hlt2 := by have := HMR.out (k0 + jj) (by omega); rw [List.getElem?_eq_getElem hA, List.getElem?_eq_getElem hlt2] at this; injection this
            have e2 : M[k0 + j]'hBq = l[k0 + j]'hlq := by have := HMR.out (k0 + j) (by omega); rw [List.getElem?_eq_getElem hBq, List.getElem?_eq_getElem hlq] at this; injection this
            have HCT : Hid (cmpt (l.take (k0 + (jj + 1))) = if eqP (l[k0 + jj]'hlt2) (l[k0 + j]'hlq) = true then cmpt (l.take (k0 + jj)) else cmpt (l.take (k0 + jj)) ++ [l[k0 + jj]'hlt2]) := by
              have := cmpt_take (k := k0 + jj) (by omega) hlt2
              have e3 : k0 + jj - 1 = k0 + j := by omega
              simp only [e3] at this
              exact this
            have HLG : Hid (l[k0 + jj]? = some (l[k0 + jj]'hlt2)) := List.getElem?_eq_getElem hlt2
            obtain ⟨p0, p1, p2⟩ := Bk.at3 HBM.out hA
            obtain ⟨q0, q1, q2⟩ := Bk.at3 HBM.out hBq
            rw [e1] at p0 p1 p2
            rw [e2] at q0 q1 q2
            have HV : Hid (Value.int .i64 (IntKind.i64.wrap ((jj : Int) - 1)) = .int .i64 (j : Int)) := by
              show _ = _
              rw [wrap_is (by omega) (by omega)]
              congr 1
              omega
            clear e1 e2
            generalize l[k0 + jj]'hlt2 = p at *
            generalize l[k0 + j]'hlq = q at *
            have a1 : (k0 + jj) * 3 = k0 * 3 + jj * 3 := by omega
            have a2 : (k0 + j) * 3 = k0 * 3 + j * 3 := by omega
            rw [a1] at p0 p1 p2
            rw [a2] at q0 q1 q2
            have HP0 : Hid (wr.cell? ⟨g, k0 * 3 + jj * 3, none⟩ = some (.int .i64 p.x)) := p0
            have HP1 : Hid (wr.cell? ⟨g, k0 * 3 + jj * 3 + 1, none⟩ = some (.int .i64 p.y)) := p1
            have HP2 : Hid (wr.cell? ⟨g, k0 * 3 + jj * 3 + 2, none⟩ = some (.int .i64 p.z)) := p2
            have HQ0 : Hid (wr.cell? ⟨g, k0 * 3 + j * 3, none⟩ = some (.int .i64 q.x)) := q0
            have HQ1 : Hid (wr.cell? ⟨g, k0 * 3 + j * 3 + 1, none⟩ = some (.int .i64 q.y)) := q1
            have HQ2 : Hid (wr.cell? ⟨g, k0 * 3 + j * 3 + 2, none⟩ = some (.int .i64 q.z)) := q2
            have hjn : jj < l.length - k0 := by omega
            have hjn2 : j < l.length - k0 := by omega
            have HJ : Hid (j = jj - 1) := hjj
            clear p0 p1 p2 q0 q1 q2 a1 a2 hjj
            go_wp2_with fail
            refine region_inv [false, false, false, false, false, false, false, false, false, false, false, false, false, false, false, false, false, false, false, false, false, false, false, false, false, false, false, false, false, false, false, false, false, false, false, true, true, true, true, true, true, true, true, true, true, false, false, false, false, false, false, false, false, false, false, false, false, false, false, false, false]
              [(35, [], none), (36, [], none), (37, [35, 36], none), (38, [37], none), (39, [], none), (40, [], none), (41, [40], none), (42, [39, 41], none), (43, [42], none), (44, [38, 43], none)]
              (cp11V g l.length cap k0 jj j p q) (by kernel_rfl) (by kernel_rfl) (cp11V_mono g l.length cap k0 jj j p q) ?_ ?_
            · refine ⟨?_, ?_, ?_, ?_, ?_, ?_, ?_, ?_, ?_, ?_, trivial⟩
              · intro f w1 hb _ K hK
                simp only [over, overL, Nat.reduceAdd]
                go_simp
                exact hK _ _ ⟨_, rfl, by simp only [over, overL, Nat.reduceAdd]; rfl, Below.refl _ _⟩
              · intro f w1 hb _ K hK
                simp only [over, overL, Nat.reduceAdd]
                go_simp
                exact hK _ _ ⟨_, rfl, by simp only [over, overL, Nat.reduceAdd]; rfl, Below.refl _ _⟩
              · intro f w1 hb ⟨h35, h36, _⟩ K hK
                replace h35 : f 35 = _ := h35
                replace h36 : f 36 = _ := h36
                simp only [over, overL, Nat.reduceAdd, h35, h36]
                go_simp
                exact hK _ _ ⟨_, rfl, by simp only [over, overL, Nat.reduceAdd, h35, h36]; rfl, Below.refl _ _⟩
              · intro f w1 hb ⟨h37, _⟩ K hK
                replace h37 : f 37 = _ := h37
                have q0 := cell_later hb HP0.out
                have q1 := cell_later hb HP1.out
                have q2 := cell_later hb HP2.out
                simp only [over, overL, Nat.reduceAdd, h37]
                go_simp
                exact hK _ _ ⟨_, rfl, by simp only [over, overL, Nat.reduceAdd, h37]; rfl, Below.refl _ _⟩
              · intro f w1 hb _ K hK
                simp only [over, overL, Nat.reduceAdd]
                go_simp
                exact hK _ _ ⟨_, rfl, by simp only [over, overL, Nat.reduceAdd]; rfl, Below.refl _ _⟩
              · intro f w1 hb _ K hK
                simp only [over, overL, Nat.reduceAdd]
                go_simp
                exact hK _ _ ⟨_, rfl, by simp only [over, overL, Nat.reduceAdd]; rfl, Below.refl _ _⟩
              · intro f w1 hb ⟨h40, _⟩ K hK
                replace h40 : f 40 = _ := h40
                simp only [over, overL, Nat.reduceAdd, h40]
                go_simp
                exact hK _ _ ⟨_, HV.out, by simp only [over, overL, Nat.reduceAdd, h40]; rfl, Below.refl _ _⟩
              · intro f w1 hb ⟨h39, h41, _⟩ K hK
                replace h39 : f 39 = _ := h39
                replace h41 : f 41 = _ := h41
                simp only [over, overL, Nat.reduceAdd, h39, h41]
                go_simp
                exact hK _ _ ⟨_, rfl, by simp only [over, overL, Nat.reduceAdd, h39, h41]; rfl, Below.refl _ _⟩
              · intro f w1 hb ⟨h42, _⟩ K hK
                replace h42 : f 42 = _ := h42
                have q0 := cell_later hb HQ0.out
                have q1 := cell_later hb HQ1.out
                have q2 := cell_later hb HQ2.out
                simp only [over, overL, Nat.reduceAdd, h42]
                go_simp
                exact hK _ _ ⟨_, rfl, by simp only [over, overL, Nat.reduceAdd, h42]; rfl, Below.refl _ _⟩
              · intro f w1 hb ⟨h38, h43, _⟩ K hK
                replace h38 : f 38 = _ := h38
                replace h43 : f 43 = _ := h43
                simp only [over, overL, Nat.reduceAdd, h38, h43]
                refine wp_binop rfl (by go_simp) (pt_neq p q w1) ?_
                exact hK _ _ ⟨_, rfl, by simp only [over, overL, Nat.reduceAdd, h38, h43], Below.refl _ _⟩
            intro f w2 hb hv
            have h44 : f 44 = _ := hv.2.2.2.2.2.2.2.2.2.1
            have HBM1 : Hid (Bk g (encPt.cells M) w2) := HBM.out.later hb
            have HKM1 : Hid (Kpt (fun k => k = g) w w2) := HKM.out.trans (Kpt.of_below hb)
            have HP0 : Hid (w2.cell? ⟨g, k0 * 3 + jj * 3, none⟩ = some (.int .i64 p.x)) := cell_later hb HP0.out
            have HP1 : Hid (w2.cell? ⟨g, k0 * 3 + jj * 3 + 1, none⟩ = some (.int .i64 p.y)) := cell_later hb HP1.out
            have HP2 : Hid (w2.cell? ⟨g, k0 * 3 + jj * 3 + 2, none⟩ = some (.int .i64 p.z)) := cell_later hb HP2.out
            clear hv hb
            simp only [over_eq, overL, h44, Nat.reduceAdd]
            clear h44
            cases heq : eqP p q with
            | true =>
              have HN : Hid (M.take m = cmpt (l.take (k0 + (jj + 1)))) := by show _ = _; rw [HCT.out, heq, HMT.out]; rfl
              clear heq
              go_wp2
              go_roundw
              case rel => exact ⟨m, jj + 1, M, hm0, by omega, by omega, by omega, rfl, by go_num, HML.out, HN.out, HMR.out, HBM1.out, HKM1.out⟩
              case measure => simp [intOf]; omega
            | false =>
              have hmM : m < M.length := by rw [HML.out]; omega
              have HN : Hid ((M.set m p).take (m + 1) = cmpt (l.take (k0 + (jj + 1)))) := by
                show _ = _
                have e1 : (M.set m p).take (m + 1) = M.take m ++ [p] := by
                  rw [List.take_succ_eq_append_getElem (by simpa using hmM), List.getElem_set_self, List.take_set_of_le (Nat.le_refl _)]
                rw [HCT.out, heq, e1, HMT.out]
                rfl
              have HR2 : Hid (∀ c, m + 1 ≤ c → (M.set m p)[c]? = l[c]?) := fun c hc => by rw [List.getElem?_set_ne (by omega)]; exact HMR.out c (by omega)
              have HL2 : Hid ((M.set m p).length = l.length) := by show _ = _; rw [List.length_set]; exact HML.out
              have HB2 : Hid (Bk g (encPt.cells (M.set m p)) (((w2.setCell ⟨g, m * 3, none⟩ (.int .i64 p.x)).setCell ⟨g, m * 3 + 1, none⟩ (.int .i64 p.y)).setCell ⟨g, m * 3 + 2, none⟩ (.int .i64 p.z))) := by
                show Bk _ _ _
                rw [← cells_set hmM]
                exact ((HBM1.out.put _ _).put _ _).put _ _
              have HK2 : Hid (Kpt (fun k => k = g) w (((w2.setCell ⟨g, m * 3, none⟩ (.int .i64 p.x)).setCell ⟨g, m * 3 + 1, none⟩ (.int .i64 p.y)).setCell ⟨g, m * 3 + 2, none⟩ (.int .i64 p.z))) :=
                ((HKM1.out.trans (Kpt.setCell (M := fun k => k = g) _ _ _ _ rfl)).trans (Kpt.setCell (M := fun k => k = g) _ _ _ _ rfl)).trans (Kpt.setCell (M := fun k => k = g) _ _ _ _ rfl)
              obtain ⟨s0, s1, s2⟩ := Bk.at3 HBM1.out hmM
              obtain ⟨f0, f1, f2⟩ := Bk.fr3 HBM1.out hmM
              have hmi : (m : Int) < (l.length : Int) := by omega
              have p0 := HP0.out
              have p1 := HP1.out
              have p2 := HP2.out
              clear heq
              go_wp2
              go_roundw
              case rel => exact ⟨m + 1, jj + 1, M.set m p, by omega, by omega, by omega, by omega, by go_num, by go_num, HL2.out, HN.out, HR2.out, HB2.out, HK2.out⟩
              case measure => simp [intOf]; omega
          · have hjE : k0 + jj = l.length := by omega
            have HMT2 : Hid (M.take m = cmpt l) := by show _ = _; rw [HMT.out, List.take_of_length_le (by omega)]
            have hmM : m ≤ M.length := by rw [HML.out]; omega
            have HLN : Hid ((cmpt l).length = m) := by show _ = _; rw [← HMT2.out, List.length_take, Nat.min_eq_left hmM]
            have hml : m < l.length := by omega
            have HZ : Hid (∀ ty, (Builtin.clear_ #[27] ty #[.slice (some ⟨g, m * 3, none⟩) (l.length - m) (cap - m)]).run Try.prog wr = .ok (.tuple #[]) (wr.setCells g (m * 3) (Builtin.zeroCells zPt.cells (l.length - m)).toList)) := fun ty => by
              have hat : ∀ x, x < (Builtin.zeroCells zPt.cells (l.length - m)).toList.length → ∃ v, (encPt.cells M)[m * 3 + x]? = some v := fun x hx => by
                rw [zeroP_len] at hx
                exact ⟨_, List.getElem?_eq_getElem (by rw [cells_length goodPt, HML.out]; show m * 3 + x < l.length * 3; omega)⟩
              refine run_clearP _ ty g _ _ _ (by omega) (fun x hx => ?_) (fun x hx => ?_)
              · obtain ⟨v, hv⟩ := hat x hx
                rw [HBM.out.c _ hv]; rfl
              · obtain ⟨v, hv⟩ := hat x hx
                exact HBM.out.f _ hv
            have HFB : Hid (Bk g (encPt.cells (cmpt l)) (wr.setCells g (m * 3) (Builtin.zeroCells zPt.cells (l.length - m)).toList)) := by
              show Bk _ _ _
              rw [← HMT2.out]
              exact bk_clear HBM.out hmM _
            have HFK : Hid (Kpt (fun k => k = g) w (wr.setCells g (m * 3) (Builtin.zeroCells zPt.cells (l.length - m)).toList)) := HKM.out.trans (kpt_setCells g _ _ _)
            have hcm : ¬ cap = m := by omega
            have hmc : m ≤ cap := by omega
            have hmle : m ≤ l.length := by omega
            have hz := HZ.out
            have hnl : ¬ jj < l.length - k0 := by omega
            generalize (Builtin.zeroCells zPt.cells (l.length - m)).toList = zs at *
            go_wp2
            go_ret
            rw [HLN.out]
            exact ⟨rfl, HFB.out, HFK.out⟩
    · have HE : Hid (cmpt l = l) := by
        show _ = _
        have := HCK.out
        rwa [List.take_of_length_le (by omega)] at this
      go_wp2
      go_ret
      rw [HE.out]
      exact ⟨rfl, HBK.out, HKP.out⟩
end Go.Proofs.Ytgelbndbkmedlaa.S

/- path.Plan walked. -/
namespace Go.Proofs.Ytgelbndbkmedlaa.S
open Go.RowKit
/-- All points of a way that is planned, at a height. -/
def wayL (p q : Pt) (h : Int) : List Pt := [p] ++ acrossL p q h ++ [q]
/-- What a plan is. -/
structure PlanP (d : List Sit) (t : Bx) (p q : Pt) (l : List Pt) (h : Int) : Prop where
  ref : refuseR d t [p, q] = 0
  eq : l = cmpt (wayL p q h)
  hi : max p.z q.z ≤ h ∧ h ≤ 10000000
  far : l.any (farB t) = false
  free : wrongL (d.map boxOf) t l = -1
/-- A plan that nothing stands in the way of. -/
structure NilOk (d : List Sit) (t : Bx) (p q : Pt) : Prop where
  nil : d = []
  ref : refuseR d t [p, q] = 0
  far : ∀ x ∈ wayL p q (max p.z q.z), farB t x = false
/-- The boxes of a deck that may be are boxes. -/
theorem deck_boxes {d : List Sit} (h : dchk d = 0) : (d.map boxOf).length ≤ 40 ∧ badL (d.map boxOf) = 0 ∧ ∀ b ∈ d.map boxOf, b.lx < b.hx ∧ b.ly < b.hy ∧ b.lz < b.hz := by
  obtain ⟨h12, hs⟩ := dchk_in h
  have key : ∀ b ∈ d.map boxOf, bad1 b = 0 ∧ b.lx < b.hx ∧ b.ly < b.hy ∧ b.lz < b.hz := by
    intro b hb
    obtain ⟨s, hsm, rfl⟩ := List.mem_map.1 hb
    obtain ⟨k, hk, rfl⟩ := List.getElem_of_mem hsm
    obtain ⟨h1, h2, _⟩ := hs k hk
    have hin := chk_inR h2
    have hp := plc_in h1
    have hx := cx_in (n := (d[k]'hk).slot)
    have hy := cy_in hp.1 hp.2.1
    have := hin.w0
    have := hin.w1
    have := hin.l0
    have := hin.l1
    have := hin.h0
    have := hin.h1
    rw [bad1_iff]
    simp only [boxOf]
    omega
  refine ⟨by rw [List.length_map]; omega, badL_zero.2 fun b hb => (key b hb).1, fun b hb => (key b hb).2⟩
theorem tool_good {t : Bx} (h1 : nearB t = true) (h2 : toolB t = true) : bad1 t = 0 := by
  have a := nearB_iff.1 h1
  have b := toolB_iff.1 h2
  rw [bad1_iff]
  omega
theorem own_bk {w : World} {base : Nat} {v : Value} {l : List Pt} (h : OwnR encPt w base v l) (hn : l ≠ []) : ∃ g cap, v = .slice (some ⟨g, 0, none⟩) l.length cap ∧ base ≤ g ∧ l.length ≤ cap ∧ cap ≤ maxLen ∧ Bk g (encPt.cells l) w := by
  rcases h.2 with ⟨_, h2⟩ | ⟨g, cap, cur, h1, h2, h3, h4, h5, h6, h7⟩
  · exact absurd (List.eq_nil_of_length_eq_zero h2) hn
  · refine ⟨g, cap, h1, h2, h4, h5, (Array.getElem?_eq_some_iff.1 h3).1, fun k u hu => ⟨?_, by simp [World.frozen?, h3]⟩⟩
    have hk : k < l.length * 3 := by
      have := (List.getElem?_eq_some_iff.1 hu).1
      rw [cells_length goodPt] at this
      exact this
    subst h1
    rw [World.ownsRow.cellAt h k hk]
    exact hu
theorem own4 {w : World} {base : Nat} {v : Value} {l : List Pt} {n : Nat} (h : OwnR encPt w base v l) (hn : l.length = n) (h0 : 0 < n) : ∃ g cap, v = .slice (some ⟨g, 0, none⟩) n cap ∧ base ≤ g ∧ n ≤ cap ∧ cap ≤ maxLen ∧ Bk g (encPt.cells l) w := by
  subst hn
  exact own_bk h (fun e => by rw [e] at h0; exact absurd h0 (Nat.not_lt_zero _))
theorem pns_bk {w : World} {g : Nat} {l : List Pt} (h : Bk g (encPt.cells l) w) : Pns w (some ⟨g, 0, none⟩) l := by
  refine .inr ⟨g, 0, rfl, fun k hk => ?_⟩
  obtain ⟨h1, h2, h3⟩ := Bk.at3 h hk
  rw [Nat.zero_add]
  exact ⟨h.1, h1, h2, h3⟩
theorem own_one (w : World) (p : Pt) (base : Nat) (hb : base ≤ w.heap.size) : OwnR encPt (w.alloc (po p)) base (.slice (some ⟨w.heap.size, 0, none⟩) 1 1) [p] :=
  World.ownsRow_lit w #[.int .i64 p.x, .int .i64 p.y, .int .i64 p.z] 1 hb (by simp [maxLen]) rfl
theorem cmpt_ne (p q : Pt) (h : Int) : cmpt (wayL p q h) ≠ [] := by
  unfold wayL
  rw [List.append_assoc]
  intro e
  cases e
theorem cmptG_mem {x : Pt} : ∀ {l : List Pt} {h : Pt}, x ∈ cmptG h l → x ∈ l
  | [], _, hx => by cases hx
  | p :: r, h, hx => by
    simp only [cmptG] at hx
    split at hx
    · exact List.mem_cons_of_mem _ (cmptG_mem hx)
    · rcases List.mem_cons.1 hx with rfl | hx
      · exact List.mem_cons_self
      · exact List.mem_cons_of_mem _ (cmptG_mem hx)
theorem cmpt_mem {x : Pt} {l : List Pt} (h : x ∈ cmpt l) : x ∈ l := by
  cases l with
  | nil => exact h
  | cons p r =>
    rcases List.mem_cons.1 h with rfl | hx
    · exact List.mem_cons_self
    · exact List.mem_cons_of_mem _ (cmptG_mem hx)
theorem cmptG_len : ∀ (l : List Pt) (h : Pt), (cmptG h l).length ≤ l.length
  | [], _ => Nat.le_refl _
  | p :: r, h => by
    have := cmptG_len r p
    simp only [cmptG]
    split <;> simp only [List.length_cons] <;> omega
theorem cmpt_len (p q : Pt) (h : Int) : (cmpt (wayL p q h)).length ≤ 5 := by
  have := cmptG_len (acrossL p q h ++ [q]) p
  show (cmptG p (acrossL p q h ++ [q])).length + 1 ≤ 5
  simp only [acrossL, List.length_append, List.length_cons, List.length_nil] at this ⊢
  omega
theorem met_nil {a : Bx} {p q : Pt} (ha : bad1 a = 0) (hp : farB a p = false) (hq : farB a q = false) : metB [] a p q = false := by
  obtain ⟨h1, h2⟩ := sweepT_ok ha hp hq
  unfold metB firstR
  rw [h1, if_pos (rlist_zero.2 ⟨by simp, rfl, by rw [badL_one]; exact h2⟩)]
  rfl
theorem wrongG_nil {a : Bx} (ha : bad1 a = 0) : ∀ (l : List Pt) (h : Pt) (k : Nat), farB a h = false → (∀ p ∈ l, farB a p = false) → wrongG [] a h l k = -1
  | [], _, _, _, _ => rfl
  | p :: r, h, k, hh, hl => by
    have h1 := hl p (by simp)
    rw [wrongG, if_neg (by rw [met_nil ha hh h1]; decide)]
    exact wrongG_nil ha r p (k + 1) h1 fun x hx => hl x (by simp [hx])
theorem wrongL_nil {a : Bx} (ha : bad1 a = 0) {l : List Pt} (hl : ∀ p ∈ l, farB a p = false) : wrongL [] a l = -1 := by
  cases l with
  | nil => rfl
  | cons p r => exact wrongG_nil ha _ p 0 (hl p (by simp)) hl
theorem steps_mem {l : List Pt} {s : Pt × Pt} (h : s ∈ stepsL l) : s.1 ∈ l ∧ s.2 ∈ l := mem_step h
/-- What path.Plan hands back. -/
def PlanR (d : List Sit) (t : Bx) (p q : Pt) (v : Value) (e : Int) (w : World) : Prop :=
  (e ≠ 0 ∧ v = .slice none 0 0 ∧ ¬ NilOk d t p q) ∨ (e = 0 ∧ ∃ l h ao cap, v = .slice ao l.length cap ∧ l.length ≤ cap ∧ Pns w ao l ∧ PlanP d t p q l h ∧ (NilOk d t p q → h = max p.z q.z))
set_option maxHeartbeats 6400000 in
set_option maxRecDepth 100000 in
theorem plan_any (ao : Option Addr) (cap : Nat) (d : List Sit) (t : Bx) (p q : Pt) (w : World) (hD : Dk w ao cap d) :
    Calls Try.prog 8 #[.slice ao d.length cap, bv t, pv p, pv q] w fun e w' => ∃ v e1, e = .returned (.tuple #[v, .int .i64 e1]) ∧ PlanR d t p q v e1 w' ∧ Below w.heap.size w w' := by
  have HD : Hid (Dk w ao cap d) := hD
  clear hD
  obtain ⟨w4, hw4⟩ : ∃ x, x = (((w.alloc (bo t)).alloc (po p)).alloc (po q)).alloc (.cells #[.int .i64 p.x, .int .i64 p.y, .int .i64 p.z, .int .i64 q.x, .int .i64 q.y, .int .i64 q.z] 24) := ⟨_, rfl⟩
  have q1 : ∀ (x : World) (o : Obj), Below x.heap.size x (x.alloc o) := fun x o => (Below.refl _ _).alloc (Nat.le_refl _) _
  have KT0 : Hid (Bk w.heap.size (bcl t) w4) := by show Bk _ _ _; rw [hw4]; exact (((Bk.new w (bcl t) 26 _ rfl).later (q1 _ _)).later (q1 _ _)).later (q1 _ _)
  have KP0 : Hid (Bk (w.heap.size + 1) (pcl p) w4) := by show Bk _ _ _; rw [hw4]; exact ((Bk.new _ (pcl p) 24 _ (by simp)).later (q1 _ _)).later (q1 _ _)
  have KQ0 : Hid (Bk (w.heap.size + 1 + 1) (pcl q) w4) := by show Bk _ _ _; rw [hw4]; exact (Bk.new _ (pcl q) 24 _ (by simp)).later (q1 _ _)
  have HPP : Hid (Pns w4 (some ⟨w.heap.size + 1 + 1 + 1, 0, none⟩) [p, q]) := by
    show Pns _ _ _
    rw [hw4]
    have := Pns.two (((w.alloc (bo t)).alloc (po p)).alloc (po q)) p q
    simpa using this
  have HB0 : Hid (Below w.heap.size w w4) := by show Below _ _ _; rw [hw4]; exact ((((Below.refl _ _).alloc (Nat.le_refl _) _).alloc (by simp) _).alloc (by simp; omega) _).alloc (by simp; omega) _
  have HW4 : Hid (w4 = (((w.alloc (bo t)).alloc (po p)).alloc (po q)).alloc (.cells #[.int .i64 p.x, .int .i64 p.y, .int .i64 p.z, .int .i64 q.x, .int .i64 q.y, .int .i64 q.z] 24)) := hw4
  have HRF : Hid (∀ aoP W, Dk W ao cap d → Pns W aoP [p, q] → Calls Try.prog 21 #[.slice ao d.length cap, bv t, .slice aoP 2 2] W fun e w' => e = .returned (.int .i64 (refuseR d t [p, q])) ∧ Below W.heap.size W w') := fun aoP W h1 h2 => prefusal_any ao aoP cap 2 d t [p, q] W h1 h2 (by simp)
  have HNO : Hid (refuseR d t [p, q] ≠ 0 → ¬ NilOk d t p q) := fun h1 h2 => h1 h2.ref
  have HRZ : Hid (refuseR d t [p, q] = 0 → refuseR d t [p, q] = 0 ∧ dchk d = 0 ∧ (∀ x ∈ [p, q], nearP x = true) ∧ nearB t = true ∧ toolB t = true) := fun h => ⟨h, refuse_zero h⟩
  clear hw4 q1
  obtain ⟨e0, he0⟩ : ∃ x, x = refuseR d t [p, q] := ⟨_, rfl⟩
  rw [← he0] at HRF HNO
  have HE0 : Hid (e0 = refuseR d t [p, q]) := he0
  clear he0
  go_enter Try.func8, Try.ntmps8
  go_wp2_with fail
  rw [← HW4.out]
  refine Calls.mono (HRF.out _ _ (HD.out.next HB0.out) HPP.out) ?_
  rintro e w1 ⟨rfl, hb1⟩
  have HB1 : Hid (Below w.heap.size w w1) := HB0.out.trans (hb1.mono HB0.out.size)
  have KT1 : Hid (Bk w.heap.size (bcl t) w1) := KT0.out.later hb1
  have KP1 : Hid (Bk (w.heap.size + 1) (pcl p) w1) := KP0.out.later hb1
  have KQ1 : Hid (Bk (w.heap.size + 1 + 1) (pcl q) w1) := KQ0.out.later hb1
  clear hb1 HRF KT0 KP0 KQ0 HPP
  by_cases he : e0 = 0
  · subst he
    obtain ⟨hz0, hz1, hz2, hz3, hz4⟩ := HRZ.out HE0.out.symm
    have HREF : Hid (refuseR d t [p, q] = 0) := hz0
    have HD0 : Hid (dchk d = 0) := hz1
    have HNP : Hid (nearP p = true ∧ nearP q = true) := ⟨hz2 p (by simp), hz2 q (by simp)⟩
    have HBT : Hid (bad1 t = 0) := tool_good hz3 hz4
    have HBX := (show Hid _ from boxes_ok ao cap d w1 (HD.out.next HB1.out).sts HD.out.cap HD.out.ok HD0.out)
    have HGB : Hid ((d.map boxOf).length ≤ 40 ∧ badL (d.map boxOf) = 0) := ⟨(deck_boxes hz1).1, (deck_boxes hz1).2.1⟩
    have HNB : Hid (NilOk d t p q → d.map boxOf = []) := fun h => by rw [h.nil]; rfl
    have HPL : Hid (∀ l h, l = cmpt (wayL p q h) → max p.z q.z ≤ h → h ≤ 10000000 → l.any (farB t) = false → wrongL (d.map boxOf) t l = -1 → PlanP d t p q l h) := fun l h h1 h2 h3 h4 h5 => ⟨HREF.out, h1, ⟨h2, h3⟩, h4, h5⟩
    clear hz0 hz1 hz2 hz3 hz4 HRZ HNO HE0
    go_wp2_with fail
    refine Calls.mono HBX.out ?_
    rintro e w2 ⟨v, rfl, hown, hb2⟩
    obtain ⟨aoB, capB, rfl, hbxs, _⟩ := OwnB.shape hown
    have HB2 : Hid (Below w.heap.size w w2) := HB1.out.trans (hb2.mono HB1.out.size)
    have KT2 : Hid (Bk w.heap.size (bcl t) w2) := KT1.out.later hb2
    have KP2 : Hid (Bk (w.heap.size + 1) (pcl p) w2) := KP1.out.later hb2
    have KQ2 : Hid (Bk (w.heap.size + 1 + 1) (pcl q) w2) := KQ1.out.later hb2
    have HBS : Hid (Bxs w2 aoB (d.map boxOf)) := hbxs
    clear hb2 hown hbxs HBX KT1 KP1 KQ1
    generalize d.map boxOf = bs at *
    have t0 := (KT2.out).c 0 rfl
    have t1 := (KT2.out).c 1 rfl
    have t2 := (KT2.out).c 2 rfl
    have t3 := (KT2.out).c 3 rfl
    have t4 := (KT2.out).c 4 rfl
    have t5 := (KT2.out).c 5 rfl
    have p0 := (KP2.out).c 0 rfl
    have p1 := (KP2.out).c 1 rfl
    have p2 := (KP2.out).c 2 rfl
    have q0 := (KQ2.out).c 0 rfl
    have q1 := (KQ2.out).c 1 rfl
    have q2 := (KQ2.out).c 2 rfl
    go_wp2_with fail
    refine Calls.mono (crossing_any aoB capB bs t p q w2 HBS.out HGB.out.1 HGB.out.2 HBT.out HNP.out.1 HNP.out.2) ?_
    rintro e w3 ⟨h, e1, rfl, hcr, hb3⟩
    have HCR : Hid (CrossP bs t p q (max p.z q.z) h e1) := hcr
    have HB3 : Hid (Below w.heap.size w w3) := HB2.out.trans (hb3.mono HB2.out.size)
    have KT3 : Hid (Bk w.heap.size (bcl t) w3) := KT2.out.later hb3
    have KP3 : Hid (Bk (w.heap.size + 1) (pcl p) w3) := KP2.out.later hb3
    have KQ3 : Hid (Bk (w.heap.size + 1 + 1) (pcl q) w3) := KQ2.out.later hb3
    have HBS3 : Hid (Bxs w3 aoB bs) := HBS.out.next hb3
    have HNC : Hid (NilOk d t p q → e1 = 0 ∧ h = max p.z q.z) := fun hn => hcr.nil (HNB.out hn) fun s hs => by
      have := steps_mem hs
      have hw : ∀ x ∈ acrossL p q (max p.z q.z), farB t x = false := fun x hx => hn.far x (by unfold wayL; simp [hx])
      exact ⟨hw _ this.1, hw _ this.2⟩
    clear hcr hb3 KT2 KP2 KQ2 HBS t0 t1 t2 t3 t4 t5 p0 p1 p2 q0 q1 q2
    by_cases he1 : e1 = 0
    · subst he1
      obtain ⟨hh0, hh1⟩ := HCR.out.ok rfl
      have HHI : Hid (max p.z q.z ≤ h ∧ h ≤ 10000000) := ⟨hh0, hh1⟩
      have HNH : Hid (NilOk d t p q → h = max p.z q.z) := fun hn => (HNC.out hn).2
      have HWL : Hid ([p] ++ acrossL p q h ++ [q] = wayL p q h) := rfl
      clear hh0 hh1 HCR HNC
      have p0 := (KP3.out).c 0 rfl
      have p1 := (KP3.out).c 1 rfl
      have p2 := (KP3.out).c 2 rfl
      have HO4 : Hid (OwnR encPt (w3.alloc (po p)) w3.heap.size (.slice (some ⟨w3.heap.size, 0, none⟩) 1 1) [p]) := own_one w3 p _ (Nat.le_refl _)
      have HC4 : Hid (Below w3.heap.size w3 (w3.alloc (po p))) := (Below.refl _ _).alloc (Nat.le_refl _) _
      have pl : w.heap.size + 1 < w3.heap.size := KP3.out.1
      have ql : w.heap.size + 1 + 1 < w3.heap.size := KQ3.out.1
      have q0 := (KQ3.out).c 0 rfl
      have q1 := (KQ3.out).c 1 rfl
      have q2 := (KQ3.out).c 2 rfl
      go_wp2_with fail
      refine Calls.mono (across_any p q h (w3.alloc (po p))) ?_
      rintro e w5 ⟨⟨aoA, rfl, hpa⟩, hb5⟩
      have HPA : Hid (Pns w5 aoA (acrossL p q h)) := hpa
      have HC5 : Hid (Below w3.heap.size w3 w5) := HC4.out.trans (hb5.mono HC4.out.size)
      have HO5 : Hid (OwnR encPt w5 w3.heap.size (.slice (some ⟨w3.heap.size, 0, none⟩) 1 1) [p]) := HO4.out.later hb5
      have HS5 : Hid (w3.heap.size ≤ w5.heap.size) := HC5.out.size
      obtain ⟨adA, rfl⟩ : ∃ ad, aoA = some ad := by
        rcases hpa with h | ⟨b, off, h, _⟩
        · cases h
        · exact ⟨_, h⟩
      clear hpa hb5 HC4 HO4 p0 p1 p2 q0 q1 q2
      go_wp2_with first
        | (at_builtin; refine wpList_append_list goodPt Try.underlying27 infoPt rfl (by decide) w5 rfl (.tmp 42) (.tmp 46) rfl w3.heap.size (.slice (some ⟨w3.heap.size, 0, none⟩) 1 1) [p] rfl HO5.out adA 3 (acrossL p q h) rfl (rd_pns HPA.out) (by simp [acrossL, maxLen]) (by simp [acrossL]) HS5.out ?_; intro v6 w6 ho6 hg6 hloc6; have HC6 : Hid (Below w3.heap.size w3 w6) := below_row HC5.out HO5.out hg6 HS5.out; obtain ⟨g6, cap6, hv6, hg6a, hc6, hm6, hk6⟩ := own4 ho6 (rfl : _ = 4) (by decide); subst hv6; have HO7 : Hid (OwnR encPt (w6.alloc (po q)) w3.heap.size (.slice (some ⟨g6, 0, none⟩) 4 cap6) ([p] ++ acrossL p q h)) := OwnR.alloc ho6 _; have KQ6 : Hid (Bk (w.heap.size + 1 + 1) (pcl q) w6) := KQ3.out.later HC6.out; have HC7 : Hid (Below w3.heap.size w3 (w6.alloc (po q))) := HC6.out.alloc HC6.out.size _; have HS7 : Hid (w3.heap.size ≤ (w6.alloc (po q)).heap.size) := HC7.out.size; have q0 := KQ6.out.c 0 rfl; have q1 := KQ6.out.c 1 rfl; have q2 := KQ6.out.c 2 rfl; have ql6 : w.heap.size + 1 + 1 < w6.heap.size := KQ6.out.1; clear ho6 hg6 hloc6 hk6 hc6 hm6 hg6a)
        | (at_builtin; refine wpList_append_row goodPt Try.underlying27 infoPt rfl (by decide) (by decide) _ rfl (.tmp 48) (.tmp 50) rfl w3.heap.size (.slice (some ⟨g6, 0, none⟩) 4 cap6) ([p] ++ acrossL p q h) rfl HO7.out w6.heap.size q rfl (fun j u hu => (Bk.new w6 _ 24 w6.heap.size rfl).c j hu) (by simp [acrossL]) HS7.out ?_; intro v8 w8 ho8 hg8 hloc8; have HC8 : Hid (Below w3.heap.size w3 w8) := below_row HC7.out HO7.out hg8 HS7.out; obtain ⟨g8, cap8, hv8, hg8a, hc8, hm8, hk8⟩ := own4 ho8 (rfl : _ = 5) (by decide); subst hv8; have HK8 : Hid (Bk g8 (encPt.cells ([p] ++ acrossL p q h ++ [q])) w8) := hk8; clear ho8 hg8 hloc8 hk8 q0 q1 q2)
      have HCP : Hid (Calls Try.prog 25 #[.slice (some ⟨g8, 0, none⟩) 5 cap8] w8 fun e w' => e = .returned (.slice (some ⟨g8, 0, none⟩) (cmpt (wayL p q h)).length cap8) ∧ Bk g8 (encPt.cells (cmpt (wayL p q h))) w' ∧ Kpt (fun k => k = g8) w8 w') := compact_any g8 cap8 (wayL p q h) w8 HK8.out hc8 (by simpa [maxLen] using hm8)
      have HLN : Hid ((cmpt (wayL p q h)).length ≤ 5) := cmpt_len p q h
      have HNE : Hid (cmpt (wayL p q h) ≠ []) := cmpt_ne p q h
      have HCL : Hid ((cmpt (wayL p q h)).length ≤ cap8) := Nat.le_trans (cmpt_len p q h) hc8
      have HFN : Hid (NilOk d t p q → ∀ x ∈ cmpt (wayL p q h), farB t x = false) := fun hn x hx => hn.far x (by rw [← HNH.out hn]; exact cmpt_mem hx)
      have HPR : Hid ((cmpt (wayL p q h)).any (farB t) = false → wrongL bs t (cmpt (wayL p q h)) = -1 → PlanP d t p q (cmpt (wayL p q h)) h) := fun h1 h2 => HPL.out _ h rfl HHI.out.1 HHI.out.2 h1 h2
      refine Calls.mono HCP.out ?_
      rintro e w9 ⟨rfl, hk9, hkp9⟩
      have HC9 : Hid (Below w3.heap.size w3 w9) := HC8.out.trans (hkp9.below HC8.out.size (fun k e => by omega))
      have HK9 : Hid (Bk g8 (encPt.cells (cmpt (wayL p q h))) w9) := hk9
      have KT9 : Hid (Bk w.heap.size (bcl t) w9) := KT3.out.later HC9.out
      have HB9 : Hid (Below w.heap.size w w9) := HB3.out.trans (HC9.out.mono HB3.out.size)
      have HBS9 : Hid (Bxs w9 aoB bs) := HBS3.out.next HC9.out
      clear hk9 hkp9 HCP HK8 HC8 hc8 hm8
      generalize cmpt (wayL p q h) = L at *
      have t0 := (KT9.out).c 0 rfl
      have t1 := (KT9.out).c 1 rfl
      have t2 := (KT9.out).c 2 rfl
      have t3 := (KT9.out).c 3 rfl
      have t4 := (KT9.out).c 4 rfl
      have t5 := (KT9.out).c 5 rfl
      go_wp2_with fail
      refine Calls.mono (tooFar_any t w9) ?_
      rintro e wA ⟨rfl, rfl⟩
      have bA : Below w9.heap.size w9 (w9.alloc (bo t)) := (Below.refl _ _).alloc (Nat.le_refl _) _
      have HBA : Hid (Below w.heap.size w (w9.alloc (bo t))) := HB9.out.trans (bA.mono HB9.out.size)
      have KTA : Hid (Bk w.heap.size (bcl t) (w9.alloc (bo t))) := KT9.out.later bA
      have HKA : Hid (Bk g8 (encPt.cells L) (w9.alloc (bo t))) := HK9.out.later bA
      have HBSA : Hid (Bxs (w9.alloc (bo t)) aoB bs) := HBS9.out.next bA
      clear bA t0 t1 t2 t3 t4 t5
      go_wp2_with fail
      refine Calls.mono (far_any (some ⟨g8, 0, none⟩) cap8 L t w9.heap.size (w9.alloc (bo t)) (bo_at w9 t) (pns_bk HKA.out) (by have := HLN.out; omega)) ?_
      rintro e wB ⟨rfl, hbB⟩
      have HBB : Hid (Below w.heap.size w wB) := HBA.out.trans (hbB.mono HBA.out.size)
      have KTB : Hid (Bk w.heap.size (bcl t) wB) := KTA.out.later hbB
      have HKB : Hid (Bk g8 (encPt.cells L) wB) := HKA.out.later hbB
      have HBSB : Hid (Bxs wB aoB bs) := HBSA.out.next hbB
      clear hbB
      cases hf : L.any (farB t) with
      | true =>
        have HNF : Hid (¬ NilOk d t p q) := fun hn => by
          obtain ⟨x, hx, hx2⟩ := List.any_eq_true.1 hf
          rw [HFN.out hn x hx] at hx2
          cases hx2
        clear hf
        go_wp2
        refine bodyPost_ret (v := .tuple #[.slice none 0 0, .int .i64 13]) (by simp [results, Try.results8, go_sem]) rfl ⟨_, _, rfl, .inl ⟨by decide, rfl, HNF.out⟩, HBB.out⟩
      | false =>
        have HPR2 : Hid (wrongL bs t L = -1 → PlanP d t p q L h) := HPR.out hf
        clear hf
        have t0 := (KTB.out).c 0 rfl
        have t1 := (KTB.out).c 1 rfl
        have t2 := (KTB.out).c 2 rfl
        have t3 := (KTB.out).c 3 rfl
        have t4 := (KTB.out).c 4 rfl
        have t5 := (KTB.out).c 5 rfl
        go_wp2_with fail
        refine Calls.mono (firstWrong_any aoB (some ⟨g8, 0, none⟩) capB cap8 bs t L wB HBSB.out (by have := HGB.out.1; omega) (pns_bk HKB.out) (by have := HLN.out; omega) HNE.out) ?_
        rintro e wC ⟨rfl, hbC⟩
        have HBC : Hid (Below w.heap.size w wC) := HBB.out.trans (hbC.mono HBB.out.size)
        have HKC : Hid (Bk g8 (encPt.cells L) wC) := HKB.out.later hbC
        have HWN : Hid (NilOk d t p q → wrongL bs t L = -1) := fun hn => by rw [HNB.out hn]; exact wrongL_nil HBT.out (HFN.out hn)
        clear hbC t0 t1 t2 t3 t4 t5
        generalize wrongL bs t L = r at *
        by_cases hr : r = -1
        · subst hr
          have HPF := HPR2.out rfl
          have HPFH : Hid (PlanP d t p q L h) := HPF
          clear HPF
          go_wp2
          refine bodyPost_ret (v := .tuple #[.slice (some ⟨g8, 0, none⟩) L.length cap8, .int .i64 0]) (by simp [results, Try.results8, go_sem]) rfl ⟨_, _, rfl, .inr ⟨rfl, L, h, _, _, rfl, HCL.out, pns_bk HKC.out, HPFH.out, HNH.out⟩, HBC.out⟩
        · have hne : (r != -1) = true := by simp [hr]
          have HRN : Hid (r ≠ -1) := hr
          clear hr
          go_wp2
          refine bodyPost_ret (v := .tuple #[.slice none 0 0, .int .i64 13]) (by simp [results, Try.results8, go_sem]) rfl ⟨_, _, rfl, .inl ⟨by decide, rfl, fun hn => HRN.out (HWN.out hn)⟩, HBC.out⟩
    · have HE1 : Hid (e1 ≠ 0) := he1
      have hne : (e1 != 0) = true := by simp [he1]
      clear he1
      go_wp2
      refine bodyPost_ret (v := .tuple #[.slice none 0 0, .int .i64 13]) (by simp [results, Try.results8, go_sem]) rfl ⟨_, _, rfl, .inl ⟨by decide, rfl, fun hn => HE1.out (HNC.out hn).1⟩, HB3.out⟩
  · have HE : Hid (e0 ≠ 0) := he
    have hne : (e0 != 0) = true := by simp [he]
    clear he
    go_wp2
    refine bodyPost_ret (v := .tuple #[.slice none 0 0, .int .i64 e0]) (by simp [results, Try.results8, go_sem]) rfl ⟨_, _, rfl, .inl ⟨HE.out, rfl, HNO.out HE.out⟩, HB1.out⟩
end Go.Proofs.Ytgelbndbkmedlaa.S

/- path.Long walked. -/
namespace Go.Proofs.Ytgelbndbkmedlaa.S
open Go.RowKit
attribute [local go_sem] Oper.semAt_some
def absI (n : Int) : Int := max n (-n)
def lenS (s : Pt × Pt) : Int := absI (s.2.x - s.1.x) + absI (s.2.y - s.1.y) + absI (s.2.z - s.1.z)
def sumS : List (Pt × Pt) → Int
  | [] => 0
  | s :: l => lenS s + sumS l
theorem sumS_append (a b : List (Pt × Pt)) : sumS (a ++ b) = sumS a + sumS b := by
  induction a with
  | nil => simp [sumS]
  | cons x r ih => simp only [List.cons_append, sumS, ih]; omega
theorem sumS_snoc (a : List (Pt × Pt)) (s : Pt × Pt) : sumS (a ++ [s]) = sumS a + lenS s := by rw [sumS_append]; simp [sumS]
def longL (l : List Pt) : Int := sumS (stepsL l)
def longR (l : List Pt) : Int × Int := if l.all nearP = true then (if 1000 < l.length then (0, 7) else (longL l, 0)) else (0, 2)
theorem lenS_in {s : Pt × Pt} (h1 : nearP s.1 = true) (h2 : nearP s.2 = true) : 0 ≤ lenS s ∧ lenS s ≤ 60000000 := by
  have h1 := nearP_iff.1 h1
  have h2 := nearP_iff.1 h2
  unfold lenS absI
  omega
theorem sumS_in {l : List (Pt × Pt)} (h : ∀ s ∈ l, nearP s.1 = true ∧ nearP s.2 = true) : 0 ≤ sumS l ∧ sumS l ≤ 60000000 * l.length := by
  induction l with
  | nil => simp [sumS]
  | cons s r ih =>
    have h1 := h s (by simp)
    have h2 := ih fun x hx => h x (by simp [hx])
    have h3 := lenS_in h1.1 h1.2
    simp only [sumS, List.length_cons]
    omega
theorem kpt_set1 {b : Nat} {W w2 : World} (h : Kpt (fun k => k = b) W w2) (v : Value) : Kpt (fun k => k = b) W (w2.setCell ⟨b, 0, none⟩ v) := h.trans (Kpt.setCell (M := fun k => k = b) _ _ _ _ rfl)
theorem kpt_set3 {b : Nat} {W w2 : World} (h : Below W.heap.size W w2) (v1 v2 v3 : Value) : Kpt (fun k => k = b) W (((w2.setCell ⟨b, 0, none⟩ v1).setCell ⟨b, 0, none⟩ v2).setCell ⟨b, 0, none⟩ v3) :=
  kpt_set1 (kpt_set1 (kpt_set1 (Kpt.of_below h) v1) v2) v3
theorem bk_int {b : Nat} {W : World} {v v' : Int} (h : Bk b [.int .i64 v] W) (e : v = v') : Bk b [.int .i64 v'] W := by rw [← e]; exact h
/-- What holds between two steps. -/
structure LoI (w : World) (b : Nat) (pre : List (Pt × Pt)) (W : World) : Prop where
  bk : Bk b [.int .i64 (sumS pre)] W
  below : Below w.heap.size w W
set_option maxHeartbeats 6400000 in
set_option maxRecDepth 100000 in
theorem long_any (ao : Option Addr) (cap : Nat) (way : List Pt) (w : World) (hA : Pns w ao way) (hl : way.length ≤ 9223372036854775807) :
    Calls Try.prog 14 #[.slice ao way.length cap] w fun e w' => e = .returned (.tuple #[.int .i64 (longR way).1, .int .i64 (longR way).2]) ∧ Below w.heap.size w w' := by
  have HA : Hid (Pns w ao way) := hA
  clear hA
  refine (callsIn_wide (n := 3)).1 (callsIn_of_wp_marks Try.func14 rfl trivial (wpIn_wide.2 ?_) rfl)
  simp only [Try.ntmps14, List.size_toArray, List.length_cons, List.length_nil, Nat.reduceAdd, Nat.reduceSub, Array.replicate_succ, Array.replicate_zero, List.push_toArray, List.append_toArray, List.nil_append, List.cons_append]
  go_wp2_with fail
  refine (pnear_any ao cap way w HA.out hl).mono ?_
  rintro e w0 ⟨rfl, hb0⟩
  have HB0 : Hid (Below w.heap.size w w0) := hb0
  clear hb0
  cases hnr : way.all nearP with
  | false =>
    have HR : Hid (longR way = (0, 2)) := by show _ = _; unfold longR; rw [hnr]; rfl
    clear hnr
    go_wp2
    exact leave_plain (v := .tuple #[.int .i64 0, .int .i64 2]) (by simp [results, Try.results14, go_sem]) ⟨by rw [HR.out], HB0.out⟩
  | true =>
    have HNR : Hid (∀ p ∈ way, nearP p = true) := List.all_eq_true.1 hnr
    by_cases hbig : 1000 < way.length
    · have HR : Hid (longR way = (0, 7)) := by show _ = _; unfold longR; rw [hnr, if_pos rfl, if_pos hbig]
      clear hnr
      go_wp2
      exact leave_plain (v := .tuple #[.int .i64 0, .int .i64 7]) (by simp [results, Try.results14, go_sem]) ⟨by rw [HR.out], HB0.out⟩
    · have HR : Hid (longR way = (longL way, 0)) := by show _ = _; unfold longR; rw [hnr, if_pos rfl, if_neg hbig]
      have hl2 : way.length ≤ 1000 := by omega
      clear hnr hbig
      go_wp2_with fail
      refine (steps_any ao way.length cap _).mono ?_
      rintro e w1 ⟨rfl, rfl⟩
      simp only [World.size_alloc]
      obtain ⟨wR, hwR⟩ : ∃ x, x = (w0.alloc (.cells #[.int .i64 0] 3)).alloc (.cells #[.slice ao way.length cap] 27) := ⟨_, rfl⟩
      have hsR : wR.heap.size = w0.heap.size + 2 := by rw [hwR]; simp
      have bR : Below w0.heap.size w0 wR := by rw [hwR]; exact ((Below.refl _ _).alloc (Nat.le_refl _) _).alloc (by simp) _
      have KR : Hid (Bk w0.heap.size [.int .i64 0] wR) := by
        show Bk _ _ _
        rw [hwR]
        exact (Bk.new w0 [.int .i64 0] 3 w0.heap.size rfl).later ((Below.refl _ _).alloc (Nat.le_refl _) _)
      have KC : Hid (Bk (w0.heap.size + 1) [.slice ao way.length cap] wR) := by
        show Bk _ _ _
        rw [hwR]
        exact Bk.new (w0.alloc (.cells #[.int .i64 0] 3)) [.slice ao way.length cap] 27 (w0.heap.size + 1) (by simp)
      have HBR : Hid (Below w0.heap.size w0 wR) := bR
      have HWS : Hid (w.heap.size ≤ w0.heap.size) := HB0.out.size
      go_wp2_with fail
      rw [← hwR]
      clear hwR bR
      refine range_leave (n := 3) (gf := 64) (lb := #[ptr (w0.heap.size + 1)]) rfl enSt (fun k => k = w0.heap.size)
        (· <+: stepsL way) (· = stepsL way) (fun s : Pt × Pt => #[pv s.1, pv s.2]) (fun _ => rfl) ?_ (by rw [hsR]; omega) (by rw [hsR]; omega)
        (LoI w w0.heap.size) (fun _ _ => False) ?_ (fun _ _ _ h _ => h) ⟨KR.out, HB0.out.trans (HBR.out.mono HWS.out)⟩
        (fun s a1 A => ∃ (g1 g2 : Nat) (v0 v1 v2 v3 v7 v8 v9 v10 v11 v12 v13 v14 v15 v16 v19 v20 v21 v22 v23 v24 v25 v26 v27 v28 v29 v30 v31 v32 : Value), (wR.heap.size + 2 ≤ g1 ∧ wR.heap.size + 2 ≤ g2) ∧ a1 = { tmps := #[v0, v1, v2, v3, ptr w0.heap.size, ptr g1, ptr g2, v7, v8, v9, v10, v11, v12, v13, v14, v15, v16, pv s.1, pv s.2, v19, v20, v21, v22, v23, v24, v25, v26, v27, v28, v29, v30, v31, v32], defers := [] } ∧ Bk g1 (pcl s.1) A ∧ Bk g2 (pcl s.2) A) ?_ ?_ ?_ ?_ (fun _ _ _ h => h.elim)
      · intro W hb hs
        exact steps_lv 2 ao cap way (w0.heap.size + 1) (wR.heap.size + 1) _ W ((KC.out.later hb).c 0 rfl) (by omega) (((HA.out.next HB0.out).next HBR.out).next hb) hl (by omega) (fun hne ad e => by have := HA.out.lt hne ad e; have := HWS.out; omega)
      · rintro s A B ⟨h2, h3⟩ hk
        exact ⟨bk_kpt h2 hk (by omega), h3.trans (hk.below h3.size (fun k e => by have := HWS.out; omega))⟩
      · rintro s a1 A B ⟨g1, g2, v0, v1, v2, v3, v7, v8, v9, v10, v11, v12, v13, v14, v15, v16, v19, v20, v21, v22, v23, v24, v25, v26, v27, v28, v29, v30, v31, v32, hg, h2, h3, h4⟩ hk
        exact ⟨g1, g2, v0, v1, v2, v3, v7, v8, v9, v10, v11, v12, v13, v14, v15, v16, v19, v20, v21, v22, v23, v24, v25, v26, v27, v28, v29, v30, v31, v32, hg, h2, bk_kpt h3 hk (by omega), bk_kpt h4 hk (by omega)⟩
      · intro l pre s W K hI hpre hs hK
        have HKK : Hid _ := hK
        have K1 : Hid (Bk W.heap.size (pcl s.1) ((W.alloc (po s.1)).alloc (po s.2))) := (Bk.new W (pcl s.1) 24 W.heap.size rfl).later ((Below.refl _ _).alloc (Nat.le_refl _) _)
        have K2 : Hid (Bk (W.heap.size + 1) (pcl s.2) ((W.alloc (po s.1)).alloc (po s.2))) := Bk.new (W.alloc (po s.1)) (pcl s.2) 24 (W.heap.size + 1) (by simp)
        clear hK
        gi_wp2
        exact HKK.out _ _ ⟨W.heap.size, W.heap.size + 1, _, _, _, _, _, _, _, _, _, _, _, _, _, _, _, _, _, _, _, _, _, _, _, _, _, _, _, _, by omega, rfl, K1.out, K2.out⟩ (((Below.refl _ _).alloc (Nat.le_refl _) _).alloc (by simp) _)
      · rintro l pre s a1 W ⟨hk1, hb1⟩ hpre hs ⟨g1, g2, v0, v1, v2, v3, v7, v8, v9, v10, v11, v12, v13, v14, v15, v16, v19, v20, v21, v22, v23, v24, v25, v26, v27, v28, v29, v30, v31, v32, hg, rfl, hkA, hkB⟩
        have HK1 : Hid (Bk w0.heap.size [.int .i64 (sumS pre)] W) := hk1
        have HB1 : Hid (Below w.heap.size w W) := hb1
        have hst := mem_step (hpre.subset (show s ∈ pre ++ [s] by simp))
        have hn1 := HNR.out _ hst.1
        have hn2 := HNR.out _ hst.2
        have HC : Hid (∀ X, Calls Try.prog 40 #[pv s.1, pv s.2] X fun e w' => e = .returned (pv (chg s.1 s.2)) ∧ Below X.heap.size X w') := fun X => change_any s.1 s.2 X (nearP_sm hn1) (nearP_sm hn2)
        have hsum := sumS_in (l := pre) fun x hx => by
          have := mem_step (hpre.subset (show x ∈ pre ++ [s] by simp [hx]))
          exact ⟨HNR.out _ this.1, HNR.out _ this.2⟩
        have hplen : pre.length ≤ 1000 := by
          have := hpre.length_le
          rw [List.length_append, stepsL_length] at this
          omega
        have HSN : Hid (sumS (pre ++ [s]) = sumS pre + (absI (chg s.1 s.2).x + absI (chg s.1 s.2).y + absI (chg s.1 s.2).z)) := sumS_snoc pre s
        have hd1 := nearP_iff.1 hn1
        have hd2 := nearP_iff.1 hn2
        have HXI : Hid ((-20000000 ≤ (chg s.1 s.2).x ∧ (chg s.1 s.2).x ≤ 20000000) ∧ (-20000000 ≤ (chg s.1 s.2).y ∧ (chg s.1 s.2).y ≤ 20000000) ∧ (-20000000 ≤ (chg s.1 s.2).z ∧ (chg s.1 s.2).z ≤ 20000000)) := by
          show _ ∧ _
          simp only [chg]
          omega
        have a0 := hkA.c 0 rfl
        have a1 := hkA.c 1 rfl
        have a2 := hkA.c 2 rfl
        have b0 := hkB.c 0 rfl
        have b1 := hkB.c 1 rfl
        have b2 := hkB.c 2 rfl
        clear hk1 hb1 hpre hkA hkB hst hn1 hn2 hd1 hd2
        have hs0 : 0 ≤ sumS pre := hsum.1
        have hs1 : sumS pre ≤ 60000000000 := by omega
        clear hsum hplen
        gi_wp2_with fail
        refine ⟨trivial, ?_⟩
        refine (CallsIn.inRound l (callsIn_wide.2 (HC.out _))).mono ?_
        rintro e w2 ⟨rfl, hb2⟩
        have HK2 : Hid (Bk w0.heap.size [.int .i64 (sumS pre)] w2) := HK1.out.later hb2
        have HB2 : Hid (Below w.heap.size w w2) := HB1.out.trans (hb2.mono HB1.out.size)
        have HB12 : Hid (Below W.heap.size W w2) := hb2
        have m0 := HK2.out.c 0 rfl
        have mf := HK2.out.f 0 rfl
        clear hb2 HC a0 a1 a2 b0 b1 b2
        obtain ⟨⟨hx0, hx1⟩, ⟨hy0, hy1⟩, hz0, hz1⟩ := HXI.out
        clear HXI
        generalize chg s.1 s.2 = c at *
        obtain ⟨x, y, z⟩ := c
        simp only at hx0 hx1 hy0 hy1 hz0 hz1
        generalize sumS pre = s0 at *
        have ex := ix0 x y z
        have ey := ix1 x y z
        have ez := ix2 x y z
        gi_wp2_with fail
        by_cases hx : x < -x
        · have hx2 : x < -x := hx
          by_cases hy : y < -y
          · have hy2 : y < -y := hy
            by_cases hz : z < -z
            · have hz2 : z < -z := hz
              refine wpIn_loop_rounds 4 ?_
              rw [roundsIn_succ]
              gi_wp2
              rw [roundsIn_succ]
              gi_wp2
              rw [roundsIn_succ]
              gi_wp2
              rw [roundsIn_succ]
              gi_wp2
              refine ⟨kpt_set3 HB12.out _ _ _, ⟨bk_int (((HK2.out.put 0 _).put 0 _).put 0 _) ?_, ((HB2.out.setCell HWS.out _).setCell HWS.out _).setCell HWS.out _⟩⟩
              rw [HSN.out]
              simp only [absI]
              omega
            · have hz2 : -z ≤ z := by omega
              refine wpIn_loop_rounds 4 ?_
              rw [roundsIn_succ]
              gi_wp2
              rw [roundsIn_succ]
              gi_wp2
              rw [roundsIn_succ]
              gi_wp2
              rw [roundsIn_succ]
              gi_wp2
              refine ⟨kpt_set3 HB12.out _ _ _, ⟨bk_int (((HK2.out.put 0 _).put 0 _).put 0 _) ?_, ((HB2.out.setCell HWS.out _).setCell HWS.out _).setCell HWS.out _⟩⟩
              rw [HSN.out]
              simp only [absI]
              omega
          · have hy2 : -y ≤ y := by omega
            by_cases hz : z < -z
            · have hz2 : z < -z := hz
              refine wpIn_loop_rounds 4 ?_
              rw [roundsIn_succ]
              gi_wp2
              rw [roundsIn_succ]
              gi_wp2
              rw [roundsIn_succ]
              gi_wp2
              rw [roundsIn_succ]
              gi_wp2
              refine ⟨kpt_set3 HB12.out _ _ _, ⟨bk_int (((HK2.out.put 0 _).put 0 _).put 0 _) ?_, ((HB2.out.setCell HWS.out _).setCell HWS.out _).setCell HWS.out _⟩⟩
              rw [HSN.out]
              simp only [absI]
              omega
            · have hz2 : -z ≤ z := by omega
              refine wpIn_loop_rounds 4 ?_
              rw [roundsIn_succ]
              gi_wp2
              rw [roundsIn_succ]
              gi_wp2
              rw [roundsIn_succ]
              gi_wp2
              rw [roundsIn_succ]
              gi_wp2
              refine ⟨kpt_set3 HB12.out _ _ _, ⟨bk_int (((HK2.out.put 0 _).put 0 _).put 0 _) ?_, ((HB2.out.setCell HWS.out _).setCell HWS.out _).setCell HWS.out _⟩⟩
              rw [HSN.out]
              simp only [absI]
              omega
        · have hx2 : -x ≤ x := by omega
          by_cases hy : y < -y
          · have hy2 : y < -y := hy
            by_cases hz : z < -z
            · have hz2 : z < -z := hz
              refine wpIn_loop_rounds 4 ?_
              rw [roundsIn_succ]
              gi_wp2
              rw [roundsIn_succ]
              gi_wp2
              rw [roundsIn_succ]
              gi_wp2
              rw [roundsIn_succ]
              gi_wp2
              refine ⟨kpt_set3 HB12.out _ _ _, ⟨bk_int (((HK2.out.put 0 _).put 0 _).put 0 _) ?_, ((HB2.out.setCell HWS.out _).setCell HWS.out _).setCell HWS.out _⟩⟩
              rw [HSN.out]
              simp only [absI]
              omega
            · have hz2 : -z ≤ z := by omega
              refine wpIn_loop_rounds 4 ?_
              rw [roundsIn_succ]
              gi_wp2
              rw [roundsIn_succ]
              gi_wp2
              rw [roundsIn_succ]
              gi_wp2
              rw [roundsIn_succ]
              gi_wp2
              refine ⟨kpt_set3 HB12.out _ _ _, ⟨bk_int (((HK2.out.put 0 _).put 0 _).put 0 _) ?_, ((HB2.out.setCell HWS.out _).setCell HWS.out _).setCell HWS.out _⟩⟩
              rw [HSN.out]
              simp only [absI]
              omega
          · have hy2 : -y ≤ y := by omega
            by_cases hz : z < -z
            · have hz2 : z < -z := hz
              refine wpIn_loop_rounds 4 ?_
              rw [roundsIn_succ]
              gi_wp2
              rw [roundsIn_succ]
              gi_wp2
              rw [roundsIn_succ]
              gi_wp2
              rw [roundsIn_succ]
              gi_wp2
              refine ⟨kpt_set3 HB12.out _ _ _, ⟨bk_int (((HK2.out.put 0 _).put 0 _).put 0 _) ?_, ((HB2.out.setCell HWS.out _).setCell HWS.out _).setCell HWS.out _⟩⟩
              rw [HSN.out]
              simp only [absI]
              omega
            · have hz2 : -z ≤ z := by omega
              refine wpIn_loop_rounds 4 ?_
              rw [roundsIn_succ]
              gi_wp2
              rw [roundsIn_succ]
              gi_wp2
              rw [roundsIn_succ]
              gi_wp2
              rw [roundsIn_succ]
              gi_wp2
              refine ⟨kpt_set3 HB12.out _ _ _, ⟨bk_int (((HK2.out.put 0 _).put 0 _).put 0 _) ?_, ((HB2.out.setCell HWS.out _).setCell HWS.out _).setCell HWS.out _⟩⟩
              rw [HSN.out]
              simp only [absI]
              omega
      · rintro xs W rfl ⟨h2, h3⟩ hs hd
        have m0 := h2.c 0 rfl
        have HB : Hid (Below w.heap.size w W) := h3
        have kp : Kpt (fun k => k = wR.heap.size) W (W.putObj wR.heap.size (.deferred none)) := Kpt.putObj _ _ _ _ rfl
        have HF : Hid (Below w.heap.size w (W.putObj wR.heap.size (.deferred none))) := HB.out.trans (kp.below HB.out.size (fun k e => by have := HWS.out; omega))
        clear kp h2 h3
        have HLL : Hid (longL way = sumS (stepsL way)) := rfl
        generalize sumS (stepsL way) = sm at *
        go_wp2
        exact leave_mark hd (v := .tuple #[.int .i64 sm, .int .i64 0]) (by simp [results, Try.results14, go_sem]) ⟨by rw [HR.out, HLL.out], HF.out⟩
end Go.Proofs.Ytgelbndbkmedlaa.S

/- Ways, plainly: what a plan is worth; smaller tools. -/
namespace Go.Proofs.Ytgelbndbkmedlaa.S
open Go.RowKit
theorem stepsL_cons (a b : Pt) (r : List Pt) : stepsL (a :: b :: r) = (a, b) :: stepsL (b :: r) := rfl
theorem stepsL_one (a : Pt) : stepsL [a] = [] := rfl
/-- Points alike with the one ahead, and steps. -/
theorem cmptG_steps : ∀ (l : List Pt) (h : Pt), ∀ s ∈ stepsL (h :: cmptG h l), s ∈ stepsL (h :: l)
  | [], _, s, hs => hs
  | p :: r, h, s, hs => by
    rw [stepsL_cons]
    simp only [cmptG] at hs
    split at hs
    · rename_i he
      have he := eqP_iff.1 he
      subst he
      exact List.mem_cons_of_mem _ (cmptG_steps r p s hs)
    · rw [stepsL_cons] at hs
      rcases List.mem_cons.1 hs with rfl | hs
      · exact List.mem_cons_self
      · exact List.mem_cons_of_mem _ (cmptG_steps r p s hs)
theorem cmptG_sum : ∀ (l : List Pt) (h : Pt), sumS (stepsL (h :: cmptG h l)) = sumS (stepsL (h :: l))
  | [], _ => rfl
  | p :: r, h => by
    have ih := cmptG_sum r p
    rw [stepsL_cons]
    simp only [cmptG]
    split
    · rename_i he
      have he := eqP_iff.1 he
      subst he
      rw [ih]
      simp [sumS, lenS, absI]
    · rw [stepsL_cons]
      simp only [sumS]
      rw [ih]
theorem cmptG_last : ∀ (l : List Pt) (h : Pt), (h :: cmptG h l).getLast? = (h :: l).getLast?
  | [], _ => rfl
  | p :: r, h => by
    have ih := cmptG_last r p
    simp only [cmptG]
    split
    · rename_i he
      have he := eqP_iff.1 he
      subst he
      rw [ih]
      simp [List.getLast?_cons]
    · rw [List.getLast?_cons_cons, List.getLast?_cons_cons, ih]
theorem cmptG_all {x : Pt} : ∀ {l : List Pt} {h : Pt}, x ∈ h :: l → x ∈ h :: cmptG h l
  | [], _, hx => hx
  | p :: r, h, hx => by
    have ih := @cmptG_all x r p
    simp only [cmptG]
    rcases List.mem_cons.1 hx with rfl | hx2
    · exact List.mem_cons_self
    · split
      · rename_i he
        have he := eqP_iff.1 he
        subst he
        exact ih hx2
      · exact List.mem_cons_of_mem _ (ih hx2)
/-- Where nothing is met. -/
theorem wrongG_free {l : List Bx} {a : Bx} : ∀ {r : List Pt} {h : Pt} {k : Nat}, wrongG l a h r k = -1 ↔ ∀ s ∈ stepsL (h :: r), metB l a s.1 s.2 = false
  | [], h, k => by simp [wrongG, stepsL_one]
  | p :: r, h, k => by
    have ih := @wrongG_free l a r p (k + 1)
    rw [stepsL_cons, wrongG]
    cases hm : metB l a h p with
    | true =>
      rw [if_pos rfl]
      constructor
      · intro e; omega
      · intro e
        have := e (h, p) List.mem_cons_self
        rw [hm] at this
        cases this
    | false =>
      rw [if_neg (by decide), ih]
      constructor
      · intro e s hs
        rcases List.mem_cons.1 hs with rfl | hs
        · exact hm
        · exact e s hs
      · exact fun e s hs => e s (List.mem_cons_of_mem _ hs)
theorem wrongL_free {l : List Bx} {a : Bx} {p : Pt} {r : List Pt} : wrongL l a (p :: r) = -1 ↔ metB l a p p = false ∧ ∀ s ∈ stepsL (p :: r), metB l a s.1 s.2 = false := by
  show wrongG l a p (p :: r) 0 = -1 ↔ _
  rw [wrongG_free, stepsL_cons]
  constructor
  · exact fun h => ⟨h (p, p) List.mem_cons_self, fun s hs => h s (List.mem_cons_of_mem _ hs)⟩
  · rintro ⟨h1, h2⟩ s hs
    rcases List.mem_cons.1 hs with rfl | hs
    · exact h1
    · exact h2 s hs
/-- Meeting, told out. -/
theorem idx_ne (f : Bx → Bool) (l : List Bx) : (idx f l != -1) = l.any f := by
  rcases idx_cases f l with ⟨h, ha⟩ | ⟨k, hk, h, hb, _⟩
  · rw [h, show l.any f = false by rw [List.any_eq_false]; intro b hb; simp [ha b hb]]; rfl
  · rw [h, show l.any f = true by rw [List.any_eq_true]; exact ⟨_, List.getElem_mem hk, hb⟩]
    have : ((k : Int) != -1) = true := by rw [bne_iff_ne]; omega
    exact this
theorem metB_any {l : List Bx} {a : Bx} {p q : Pt} (hl : l.length ≤ 40) (hg : badL l = 0) (ha : bad1 a = 0) (hp : farB a p = false) (hq : farB a q = false) :
    metB l a p q = l.any fun b => meet b (hullB (movB a p) (movB a q)) := by
  obtain ⟨h1, h2⟩ := sweepT_ok ha hp hq
  unfold metB firstR
  rw [h1, if_pos (rlist_zero.2 ⟨hl, hg, by rw [badL_one]; exact h2⟩)]
  exact idx_ne _ _
/-- A box within another. -/
structure Within (a b : Bx) : Prop where
  lx : b.lx ≤ a.lx
  ly : b.ly ≤ a.ly
  lz : b.lz ≤ a.lz
  hx : a.hx ≤ b.hx
  hy : a.hy ≤ b.hy
  hz : a.hz ≤ b.hz
theorem within_far {a b : Bx} {p : Pt} (h : Within a b) (ha : bad1 a = 0) (hb : bad1 b = 0) (hf : farB b p = false) : farB a p = false := by
  obtain ⟨h1, h2⟩ := (far_no hb).1 hf
  refine (far_no ha).2 ⟨h1, ?_⟩
  have g := bad1_iff.1 ha
  have h3 := nearB_iff.1 h2
  obtain ⟨a1, a2, a3, a4, a5, a6⟩ := h
  rw [nearB_iff]
  simp only [movB] at h3 ⊢
  omega
theorem within_met {l : List Bx} {a b : Bx} {p q : Pt} (hl : l.length ≤ 40) (hg : badL l = 0) (h : Within a b) (ha : bad1 a = 0) (hb : bad1 b = 0) (hp : farB b p = false) (hq : farB b q = false) (hm : metB l a p q = true) : metB l b p q = true := by
  rw [metB_any hl hg ha (within_far h ha hb hp) (within_far h ha hb hq)] at hm
  rw [metB_any hl hg hb hp hq]
  obtain ⟨c, hc, hm⟩ := List.any_eq_true.1 hm
  refine List.any_eq_true.2 ⟨c, hc, ?_⟩
  obtain ⟨a1, a2, a3, a4, a5, a6⟩ := h
  rw [meet_iff] at hm ⊢
  simp only [hullB, movB] at hm ⊢
  omega
theorem within_wrong {l : List Bx} {a b : Bx} (hl : l.length ≤ 40) (hg : badL l = 0) (h : Within a b) (ha : bad1 a = 0) (hb : bad1 b = 0) : ∀ (r : List Pt) (g : Pt) (k : Nat), farB b g = false → (∀ p ∈ r, farB b p = false) →
    wrongG l a g r k = -1 ∨ ((k : Int) ≤ wrongG l b g r k ∧ wrongG l b g r k ≤ wrongG l a g r k)
  | [], _, _, _, _ => .inl rfl
  | p :: r, g, k, hgf, hr => by
    have hp := hr p (by simp)
    have ih := within_wrong hl hg h ha hb r p (k + 1) hp fun x hx => hr x (by simp [hx])
    simp only [wrongG]
    cases h1 : metB l a g p with
    | true =>
      rw [within_met hl hg h ha hb hgf hp h1]
      exact .inr ⟨Int.le_refl _, Int.le_refl _⟩
    | false =>
      rw [if_neg (by decide : ¬ false = true)]
      rcases ih with ih | ⟨ih1, ih2⟩
      · exact .inl ih
      · refine .inr ?_
        cases h2 : metB l b g p with
        | true => rw [if_pos rfl]; omega
        | false => rw [if_neg (by decide)]; omega
/-- What is checked with a smaller tool. -/
theorem check_less {d : List Sit} {t s : Bx} {way : List Pt} {k : Int} (hk : checkR d t way = (k, 0)) (hs : Within s t) (hst : toolB s = true) :
    ∃ n, checkR d s way = (n, 0) ∧ (k ≠ -1 ∨ n = -1) ∧ (n = -1 ∨ 0 ≤ k ∧ k ≤ n) := by
  unfold checkR at hk
  by_cases h0 : refuseR d t way = 0
  · rw [if_pos h0] at hk
    obtain ⟨hd, hnr, hnt, htt⟩ := refuse_zero h0
    have gt := tool_good hnt htt
    obtain ⟨hb1, hb2, _⟩ := deck_boxes hd
    have e1 := toolB_iff.1 hst
    have e2 := nearB_iff.1 hnt
    have hns : nearB s = true := by
      obtain ⟨a1, a2, a3, a4, a5, a6⟩ := hs
      rw [nearB_iff]
      omega
    have gs := tool_good hns hst
    have h0s : refuseR d s way = 0 := by unfold refuseR; rw [if_pos hd, if_pos ⟨List.all_eq_true.2 hnr, hns⟩, if_pos hst]
    by_cases h1 : way.any (farB t) = true
    · rw [if_pos h1] at hk; cases hk
    · rw [if_neg h1] at hk
      have hf : ∀ p ∈ way, farB t p = false := fun p hp => by
        cases e : farB t p with
        | false => rfl
        | true => exact absurd (List.any_eq_true.2 ⟨p, hp, e⟩) h1
      have h1s : ¬ way.any (farB s) = true := fun e => by
        obtain ⟨p, hp, e⟩ := List.any_eq_true.1 e
        rw [within_far hs gs gt (hf p hp)] at e
        cases e
      by_cases h2 : way.length = 0 ∨ 1000 < way.length
      · rw [if_pos h2] at hk; cases hk
      · rw [if_neg h2] at hk
        by_cases h3 : slant way = true
        · rw [if_pos h3] at hk; cases hk
        · rw [if_neg h3] at hk
          injection hk with hk _
          refine ⟨wrongL (d.map boxOf) s way, ?_, ?_⟩
          · unfold checkR
            rw [if_pos h0s, if_neg h1s, if_neg h2, if_neg h3]
          · cases way with
            | nil => exact absurd (.inl rfl) h2
            | cons p r =>
              have hw := within_wrong hb1 hb2 hs gs gt (p :: r) p 0 (hf p (by simp)) hf
              change wrongG (d.map boxOf) t p (p :: r) 0 = k at hk
              change (k ≠ -1 ∨ wrongG (d.map boxOf) s p (p :: r) 0 = -1) ∧ (wrongG (d.map boxOf) s p (p :: r) 0 = -1 ∨ 0 ≤ k ∧ k ≤ wrongG (d.map boxOf) s p (p :: r) 0)
              rw [hk] at hw
              omega
  · rw [if_neg h0] at hk
    injection hk with _ hk
    exact absurd hk h0
/-- The plan's own worth. -/
theorem wayL_eq (p q : Pt) (h : Int) : wayL p q h = [p, ⟨p.x, p.y, h⟩, ⟨q.x, p.y, h⟩, ⟨q.x, q.y, h⟩, q] := rfl
theorem wayL_steps {p q : Pt} {h : Int} {s : Pt × Pt} (hs : s ∈ stepsL (wayL p q h)) : turnsN s.1 s.2 ≤ 1 := by
  rw [wayL_eq] at hs
  simp only [stepsL_cons, stepsL_one, List.mem_cons, List.not_mem_nil, or_false] at hs
  have o : ∀ n : Int, one n ≤ 1 := fun n => by unfold one; split <;> omega
  have z : one 0 = 0 := rfl
  rcases hs with rfl | rfl | rfl | rfl
  all_goals simp only [turnsN, Int.sub_self, z]
  · have := o (h - p.z); omega
  · have := o (q.x - p.x); omega
  · have := o (q.y - p.y); omega
  · have := o (q.z - h); omega
theorem slant_no {l : List Pt} (h : ∀ s ∈ stepsL l, turnsN s.1 s.2 ≤ 1) : slant l = false := by
  unfold slant
  rw [List.any_eq_false]
  intro s hs
  have := h s hs
  simp only [decide_eq_true_eq]
  omega
theorem plan_shape {d : List Sit} {t : Bx} {p q : Pt} {l : List Pt} {h : Int} (hp : PlanP d t p q l h) : l = p :: cmptG p [⟨p.x, p.y, h⟩, ⟨q.x, p.y, h⟩, ⟨q.x, q.y, h⟩, q] := hp.eq
theorem plan_near {d : List Sit} {t : Bx} {p q : Pt} {l : List Pt} {h : Int} (hp : PlanP d t p q l h) : ∀ x ∈ l, nearP x = true := by
  intro x hx
  rw [hp.eq] at hx
  have hx := cmpt_mem hx
  have hn := (refuse_zero hp.ref).2.1
  have h1 := nearP_iff.1 (hn p (by simp))
  have h2 := nearP_iff.1 (hn q (by simp))
  have h3 := hp.hi
  rw [wayL_eq] at hx
  simp only [List.mem_cons, List.not_mem_nil, or_false] at hx
  rw [nearP_iff]
  rcases hx with rfl | rfl | rfl | rfl | rfl <;> first | omega | (simp only; omega)
theorem plan_len {d : List Sit} {t : Bx} {p q : Pt} {l : List Pt} {h : Int} (hp : PlanP d t p q l h) : 1 ≤ l.length ∧ l.length ≤ 5 := by
  have h1 := cmpt_len p q h
  rw [← hp.eq] at h1
  have := plan_shape hp
  refine ⟨?_, h1⟩
  rw [this]
  simp
theorem plan_turns {d : List Sit} {t : Bx} {p q : Pt} {l : List Pt} {h : Int} (hp : PlanP d t p q l h) : ∀ s ∈ stepsL l, turnsN s.1 s.2 ≤ 1 := by
  intro s hs
  rw [plan_shape hp] at hs
  exact wayL_steps (p := p) (q := q) (h := h) (cmptG_steps _ _ s hs)
theorem plan_check {d : List Sit} {t : Bx} {p q : Pt} {l : List Pt} {h : Int} (hp : PlanP d t p q l h) : checkR d t l = (-1, 0) := by
  obtain ⟨hd, _, hnt, htt⟩ := refuse_zero hp.ref
  have hl := plan_len hp
  unfold checkR
  rw [if_pos (by unfold refuseR; rw [if_pos hd, if_pos ⟨List.all_eq_true.2 (plan_near hp), hnt⟩, if_pos htt]), if_neg (by rw [hp.far]; decide), if_neg (by omega), if_neg (by rw [slant_no (plan_turns hp)]; decide), hp.free]
theorem plan_sum {d : List Sit} {t : Bx} {p q : Pt} {l : List Pt} {h : Int} (hp : PlanP d t p q l h) : longL l = absI (q.x - p.x) + absI (q.y - p.y) + (h - p.z) + (h - q.z) := by
  have h3 := hp.hi
  rw [plan_shape hp]
  unfold longL
  rw [cmptG_sum]
  simp only [stepsL_cons, stepsL_one, sumS, lenS, absI]
  omega
theorem plan_long {d : List Sit} {t : Bx} {p q : Pt} {l : List Pt} {h : Int} (hp : PlanP d t p q l h) : longR l = (longL l, 0) := by
  have hl := plan_len hp
  unfold longR
  rw [if_pos (List.all_eq_true.2 (plan_near hp)), if_neg (by omega)]
theorem plan_head {d : List Sit} {t : Bx} {p q : Pt} {l : List Pt} {h : Int} (hp : PlanP d t p q l h) (hl : 0 < l.length) : l[0]'hl = p := by
  have e := plan_shape hp
  subst e
  rfl
theorem plan_last {d : List Sit} {t : Bx} {p q : Pt} {l : List Pt} {h : Int} (hp : PlanP d t p q l h) (hl : l.length - 1 < l.length) : l[l.length - 1]'hl = q := by
  have e : l.getLast? = some q := by
    rw [plan_shape hp, cmptG_last]
    rfl
  rw [List.getLast?_eq_getElem?, List.getElem?_eq_getElem hl] at e
  injection e
theorem plan_high {d : List Sit} {t : Bx} {p q : Pt} {l : List Pt} {h : Int} (hp : PlanP d t p q l h) : (∀ x ∈ l, x.z ≤ h) ∧ ∃ x ∈ l, x.z = h := by
  have h3 := hp.hi
  constructor
  · intro x hx
    rw [hp.eq] at hx
    have hx := cmpt_mem hx
    rw [wayL_eq] at hx
    simp only [List.mem_cons, List.not_mem_nil, or_false] at hx
    rcases hx with rfl | rfl | rfl | rfl | rfl <;> first | omega | (simp only; omega)
  · refine ⟨⟨p.x, p.y, h⟩, ?_, rfl⟩
    rw [plan_shape hp]
    exact cmptG_all (by simp)
/-- The two points of a way where nothing stands. -/
theorem nil_two : NilOk [] zB ⟨0, 0, 0⟩ ⟨5, 0, 0⟩ := ⟨rfl, by decide, by decide⟩
theorem two_any (w : World) : Calls Try.prog 8 #[.slice none 0 0, bv zB, pv ⟨0, 0, 0⟩, pv ⟨5, 0, 0⟩] w fun e w' => ∃ ao cap, e = .returned (.tuple #[.slice ao 2 cap, .int .i64 0]) ∧ Below w.heap.size w w' := by
  refine (plan_any none 0 [] zB ⟨0, 0, 0⟩ ⟨5, 0, 0⟩ w ⟨.inl rfl, Nat.le_refl _, by decide, fun s hs => by cases hs⟩).mono ?_
  rintro e w' ⟨v, e1, rfl, (⟨_, _, h⟩ | ⟨rfl, l, h, ao, cap, rfl, _, _, hp, hn⟩), hb⟩
  · exact absurd nil_two h
  · have e2 : l.length = 2 := by
      rw [hp.eq, hn nil_two]
      decide
    rw [e2]
    exact ⟨ao, cap, rfl, hb⟩
end Go.Proofs.Ytgelbndbkmedlaa.S
