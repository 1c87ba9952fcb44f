import Derived.Test.YtgbnjgenopdmfaaGreatGl
import Derived.DeepKeys5
import Derived.Maps.OwnSet
import Derived.Maps.OwnOps
import Derived.Maps.RangeWalk
import Derived.Test.YtgbnjgenopdmfaaGreatGi

/- Maps keyed by places. -/
namespace Go.Proofs.YtgbnjgenopdmfaaGreat
open Go.RowKit Go.Maps
/-- Numbers that an int can hold. -/
def Wf1 (n : Int) : Prop := -9223372036854775808 ≤ n ∧ n ≤ 9223372036854775807
def Wf3 (p : Plc) : Prop := Wf1 p.1 ∧ Wf1 p.2.1 ∧ Wf1 p.2.2
theorem wf_lit {n : Int} (h : Wf1 n) : (Lit.int .i64 n).wf = true := F.i64_wf h.1 h.2
theorem lit_wf {n : Int} (h : (Lit.int .i64 n).wf = true) : Wf1 n := by
  have e1 : IntKind.i64.min = -9223372036854775808 := rfl
  have e2 : IntKind.i64.max = 9223372036854775807 := rfl
  simp only [Lit.wf, Bool.and_eq_true, decide_eq_true_eq] at h
  unfold Wf1
  omega
theorem laidOutP : laidOutB Tryz.prog = true := by kernel_rfl
theorem lawP : Keyed Tryz.prog 53 := Keyed.of_law (deep_law_gate laidOutP (of_decide_eq_true (by kernel_rfl)) (of_decide_eq_true (by kernel_rfl)) (by kernel_rfl) (by kernel_rfl))
theorem keyT : Tryz.prog.keyType 53 = true := by kernel_rfl
theorem cellsP : Tryz.prog.cellsOf 53 = 3 := by kernel_rfl
theorem cellsSp : Tryz.prog.cellsOf 51 = 2 := by kernel_rfl
theorem cellsI : Tryz.prog.cellsOf 3 = 1 := by kernel_rfl
theorem sizeT : Tryz.prog.types.size + 1 = 268 := by kernel_rfl
set_option maxRecDepth 100000 in
theorem lits_int (d : Nat) {n : Int} (h : Wf1 n) : Tryz.prog.keyLits (d + 1) 3 [.int .i64 n] = some [.int .i64 n] := by
  unfold Program.keyLits
  rw [Tryz.underlying3]
  simp [wf_lit h]
set_option maxRecDepth 100000 in
theorem lits_int_inv {d : Nat} {cs : List Value} {x : List Lit} (h : Tryz.prog.keyLits (d + 1) 3 cs = some x) : ∃ n, cs = [.int .i64 n] ∧ Wf1 n := by
  unfold Program.keyLits at h
  rw [Tryz.underlying3] at h
  split at h
  · rename_i heq; cases heq
  · rename_i q q' n heq
    injection heq with heq
    injection heq with heq
    subst heq
    split at h
    · rename_i hc
      exact ⟨n, by rw [hc.1], lit_wf hc.2⟩
    · cases h
  · rename_i heq; cases heq
  · rename_i heq; cases heq
  · rename_i heq; cases heq
  · cases h
set_option maxRecDepth 100000 in
theorem lits_spot (d : Nat) {r c : Int} (hr : Wf1 r) (hc : Wf1 c) : Tryz.prog.keyLits (d + 2) 51 [.int .i64 r, .int .i64 c] = some [.int .i64 r, .int .i64 c] := by
  unfold Program.keyLits
  rw [Tryz.underlying51]
  simp [cellsSp, cellsI, lits_int d hr, lits_int d hc]
set_option maxRecDepth 100000 in
theorem lits_place (d : Nat) {p : Plc} (h : Wf3 p) : Tryz.prog.keyLits (d + 3) 53 [.int .i64 p.1, .int .i64 p.2.1, .int .i64 p.2.2] = some [.int .i64 p.1, .int .i64 p.2.1, .int .i64 p.2.2] := by
  unfold Program.keyLits
  rw [Tryz.underlying53]
  simp [cellsP, cellsSp, cellsI, lits_int (d + 1) h.1, lits_spot d h.2.1 h.2.2]
/-- What a place reads as. -/
def klP (p : Plc) : Lit := .string (keyBytes [.int .i64 p.1, .int .i64 p.2.1, .int .i64 p.2.2])
set_option maxRecDepth 100000 in
theorem keyP_some {p : Plc} (h : Wf3 p) : keyOf Tryz.prog 53 (plv p) = some (klP p) := by
  unfold keyOf
  rw [Tryz.underlying53]
  simp only [keyT, sizeT]
  have hf : (plv p).formed Tryz.prog 53 = true := by simp [Value.formed, Tryz.underlying53, cellsP]
  rw [hf]
  simp only [Bool.and_self, if_true, Value.cells, List.toList_toArray]
  rw [show 268 = 265 + 3 from rfl, lits_place 265 h]
  rfl
set_option maxRecDepth 100000 in
theorem keyP_inv {v : Value} {kl : Lit} (h : keyOf Tryz.prog 53 v = some kl) : ∃ p, v = plv p ∧ Wf3 p := by
  unfold keyOf at h
  rw [Tryz.underlying53] at h
  simp only at h
  split at h
  · rename_i hc
    rw [keyT, Bool.true_and] at hc
    cases v with
    | agg cs =>
      simp only [Value.formed, Tryz.underlying53, cellsP, beq_iff_eq] at hc
      obtain ⟨a, b, c, hcs⟩ : ∃ a b c, cs = #[a, b, c] := by
        obtain ⟨l⟩ := cs
        match l, hc with
        | [a, b, c], _ => exact ⟨a, b, c, rfl⟩
      subst hcs
      rw [sizeT, show 268 = 265 + 3 from rfl] at h
      obtain ⟨ls, h1⟩ : ∃ ls, Tryz.prog.keyLits (265 + 3) 53 [a, b, c] = some ls := by
        cases h2 : Tryz.prog.keyLits (265 + 3) 53 [a, b, c] with
        | none => simp only [Value.cells] at h; rw [h2] at h; cases h
        | some ls => exact ⟨ls, rfl⟩
      unfold Program.keyLits at h1
      rw [Tryz.underlying53] at h1
      simp only [cellsP] at h1
      obtain ⟨x, hx⟩ : ∃ x, Tryz.prog.keyLits (265 + 2) 3 [a] = some x := by
        cases h2 : Tryz.prog.keyLits (265 + 2) 3 [a] with
        | none => simp [cellsI, h2] at h1
        | some x => exact ⟨x, rfl⟩
      obtain ⟨y, hy⟩ : ∃ y, Tryz.prog.keyLits (265 + 2) 51 [b, c] = some y := by
        cases h2 : Tryz.prog.keyLits (265 + 2) 51 [b, c] with
        | none => simp [cellsI, cellsSp, hx, h2] at h1
        | some x => exact ⟨x, rfl⟩
      obtain ⟨n, e1, hn⟩ := lits_int_inv (d := 265 + 1) hx
      unfold Program.keyLits at hy
      rw [Tryz.underlying51] at hy
      simp only [cellsSp] at hy
      obtain ⟨x2, hx2⟩ : ∃ x, Tryz.prog.keyLits (265 + 1) 3 [b] = some x := by
        cases h2 : Tryz.prog.keyLits (265 + 1) 3 [b] with
        | none => simp [cellsI, h2] at hy
        | some x => exact ⟨x, rfl⟩
      obtain ⟨x3, hx3⟩ : ∃ x, Tryz.prog.keyLits (265 + 1) 3 [c] = some x := by
        cases h2 : Tryz.prog.keyLits (265 + 1) 3 [c] with
        | none => simp [cellsI, hx2, h2] at hy
        | some x => exact ⟨x, rfl⟩
      obtain ⟨n2, e2, hn2⟩ := lits_int_inv (d := 265) hx2
      obtain ⟨n3, e3, hn3⟩ := lits_int_inv (d := 265) hx3
      injection e1 with e1
      injection e2 with e2
      injection e3 with e3
      subst e1 e2 e3
      exact ⟨(n, n2, n3), rfl, hn, hn2, hn3⟩
    | _ => simp [Value.formed, Tryz.underlying53] at hc
  · cases h
set_option maxRecDepth 100000 in
theorem klP_inj {p q : Plc} (hp : Wf3 p) (hq : Wf3 q) (h : klP p = klP q) : p = q := by
  have := lawP.inj (keyP_some hp) (by rw [h]; exact keyP_some hq)
  injection this with e
  simp at e
  exact Prod.ext e.1 (Prod.ext e.2.1 e.2.2)
set_option maxRecDepth 100000 in
theorem keyP_eq {p : Plc} {kl : Lit} (hp : Wf3 p) (h : keyOf Tryz.prog 53 (plv p) = some kl) : kl = klP p := by
  rw [keyP_some hp] at h
  injection h with h
  exact h.symm

/-- An element as it is. -/
def RV (v : Value) : Option (DataW Value × List MemPlace) := some (.held v, [])
abbrev hdv (f : F.Fd) : Value := .slice f.1 f.2.2.length f.2.1
/-- What a map of wells holds. -/
structure Reads (D : DataW Value) (wl : List Wh) : Prop where
  isMap : Tidy D
  size : Maps.size D = wl.length
  wf : ∀ x ∈ wl, Wf3 x.1
  at' : ∀ x ∈ wl, ∀ z, D.atKey (klP x.1) z = .held (hdv x.2)
  none' : ∀ p, Wf3 p → (∀ x ∈ wl, x.1 ≠ p) → Maps.has D (klP p) = false
/-- Block m is a map of wells. -/
def WM (w : World) (m : Nat) (wl : List Wh) : Prop := ∃ D, w.ownsMap Tryz.prog 53 RV m (Maps.size D) D ∧ Reads D wl
set_option maxRecDepth 100000 in
theorem own_tight {w : World} {k : TypeId} {R : Value → Option (DataW Value × List MemPlace)} {b n : Nat} {D : DataW Value} (h : w.ownsMap Tryz.prog k R b n D) : w.ownsMap Tryz.prog k R b (Maps.size D) D := by
  obtain ⟨es, clock, hb, F, _, hD⟩ := h
  refine ⟨es, clock, hb, F, ?_, hD⟩
  rw [hD, Maps.size_eq, length_sorted]
  simp
theorem WM.lt {w : World} {m : Nat} {wl : List Wh} (h : WM w m wl) : m < w.heap.size := by
  obtain ⟨D, h1, _⟩ := h
  exact h1.lt
theorem WM.same {w w1 : World} {m : Nat} {wl : List Wh} (h : WM w m wl) (hb : w1.heap[m]? = w.heap[m]?) : WM w1 m wl := by
  obtain ⟨D, ⟨es, clock, h1, h2⟩, h3⟩ := h
  exact ⟨D, ⟨es, clock, hb.trans h1, h2⟩, h3⟩
theorem WM.next {w w1 : World} {m : Nat} {wl : List Wh} (h : WM w m wl) (hb : Below w.heap.size w w1) : WM w1 m wl := h.same (hb.block m h.lt)
theorem reads_nil : Reads (.map []) [] := ⟨tidy_empty, rfl, (fun _ h => by cases h), (fun _ h => by cases h), fun _ _ _ => rfl⟩
theorem WM.made (w : World) : WM (w.alloc (.map #[] 0)) w.heap.size [] := ⟨.map [], World.ownsMap_made w _ _ _, reads_nil⟩
/-- Wells without one; with one more. -/
def delH (wl : List Wh) (p : Plc) : List Wh := wl.filter fun x => decide (x.1 ≠ p)
def insH (x : Wh) : List Wh → List Wh
  | [] => [x]
  | y :: r => if pltB x.1 y.1 = true then x :: y :: r else y :: insH x r
theorem mem_insH {x y : Wh} {l : List Wh} : x ∈ insH y l ↔ x = y ∨ x ∈ l := by
  induction l with
  | nil => simp [insH]
  | cons z r ih =>
    unfold insH
    split
    · simp
    · rw [List.mem_cons, ih, List.mem_cons]
      constructor
      · rintro (h | h | h)
        · exact .inr (.inl h)
        · exact .inl h
        · exact .inr (.inr h)
      · rintro (h | h | h)
        · exact .inr (.inl h)
        · exact .inl h
        · exact .inr (.inr h)
theorem insH_length (x : Wh) (l : List Wh) : (insH x l).length = l.length + 1 := by
  induction l with
  | nil => rfl
  | cons y r ih =>
    unfold insH
    split
    · rfl
    · simp [ih]
theorem whp_insH (x : Wh) (l : List Wh) : whp (insH x l) = ins (x.1, x.2.2.2) (whp l) := by
  induction l with
  | nil => rfl
  | cons y r ih =>
    have e : whp (y :: r) = (y.1, y.2.2.2) :: whp r := rfl
    rw [e]
    unfold insH ins
    split
    · rfl
    · have e2 : whp (y :: insH x r) = (y.1, y.2.2.2) :: whp (insH x r) := rfl
      rw [e2, ih]
theorem whp_delH (l : List Wh) (p : Plc) : whp (delH l p) = wdel (whp l) p := by
  unfold whp delH wdel
  rw [List.filter_map]
  rfl
theorem mem_delH {x : Wh} {l : List Wh} {p : Plc} : x ∈ delH l p ↔ x ∈ l ∧ x.1 ≠ p := by simp [delH]
/-- No two of one place. -/
def Once (wl : List Wh) : Prop := wl.Pairwise fun x y => x.1 ≠ y.1
theorem once_of {wl : List Wh} (h : Rising (whp wl)) : Once wl := by
  unfold Rising whp at h
  rw [List.pairwise_map] at h
  exact h.imp fun hlt => plt_ne hlt
theorem once_one {wl : List Wh} (h : Once wl) {x y : Wh} (hx : x ∈ wl) (hy : y ∈ wl) (e : x.1 = y.1) : x = y := by
  induction wl with
  | nil => cases hx
  | cons z r ih =>
    obtain ⟨h1, h2⟩ := List.pairwise_cons.1 h
    rcases List.mem_cons.1 hx with ex | hx
    · rcases List.mem_cons.1 hy with ey | hy
      · rw [ex, ey]
      · exact absurd e (by rw [ex]; exact h1 y hy)
    · rcases List.mem_cons.1 hy with ey | hy
      · exact absurd e.symm (by rw [ey]; exact h1 x hx)
      · exact ih h2 hx hy
theorem delH_length {wl : List Wh} (h : Once wl) (p : Plc) : (delH wl p).length + (if (∃ x ∈ wl, x.1 = p) then 1 else 0) = wl.length := by
  induction wl with
  | nil => simp [delH]
  | cons y r ih =>
    obtain ⟨h1, h2⟩ := List.pairwise_cons.1 h
    have i := ih h2
    by_cases e : y.1 = p
    · have hn : ¬ ∃ x ∈ r, x.1 = p := fun ⟨x, hx, e2⟩ => h1 x hx (by rw [e, e2])
      rw [if_neg hn] at i
      rw [if_pos ⟨y, by simp, e⟩]
      have : delH (y :: r) p = delH r p := by simp [delH, e]
      rw [this]
      simp only [List.length_cons]
      omega
    · have hd : delH (y :: r) p = y :: delH r p := by simp [delH, e]
      rw [hd]
      by_cases hx : ∃ x ∈ r, x.1 = p
      · rw [if_pos hx] at i
        obtain ⟨x, hx1, hx2⟩ := hx
        rw [if_pos ⟨x, by simp [hx1], hx2⟩]
        simp only [List.length_cons]
        omega
      · rw [if_neg hx] at i
        rw [if_neg (by rintro ⟨x, hx1, hx2⟩; rcases List.mem_cons.1 hx1 with rfl | hx1; exact e hx2; exact hx ⟨x, hx1, hx2⟩)]
        simp only [List.length_cons]
        omega
theorem has_iff {D : DataW Value} {wl : List Wh} (h : Reads D wl) {p : Plc} (hp : Wf3 p) : Maps.has D (klP p) = true ↔ ∃ x ∈ wl, x.1 = p := by
  constructor
  · intro hh
    refine Classical.byContradiction fun hn => ?_
    have := h.none' p hp fun x hx e => hn ⟨x, hx, e⟩
    rw [this] at hh
    cases hh
  · rintro ⟨x, hx, rfl⟩
    exact has_true_of_atKey (h.at' x hx)
set_option maxRecDepth 100000 in
theorem reads_put {D : DataW Value} {wl : List Wh} (h : Reads D wl) (ho : Once wl) {x : Wh} (hx : Wf3 x.1) : Reads (D.put (klP x.1) (.held (hdv x.2))) (insH x (delH wl x.1)) := by
  have hk : WideAt.IsKeyLit (klP x.1) := lawP.key (keyP_some hx)
  refine ⟨h.isMap.put hk _, ?_, fun y hy => ?_, fun y hy z => ?_, fun p hp hn => ?_⟩
  · rw [size_put h.isMap, insH_length, h.size]
    have hl := delH_length ho x.1
    by_cases hh : Maps.has D (klP x.1) = true
    · rw [if_pos hh]
      rw [if_pos ((has_iff h hx).1 hh)] at hl
      omega
    · rw [if_neg hh]
      rw [if_neg (fun he => hh ((has_iff h hx).2 he))] at hl
      omega
  · rcases mem_insH.1 hy with rfl | hy
    · exact hx
    · exact h.wf y (mem_delH.1 hy).1
  · rcases mem_insH.1 hy with rfl | hy
    · exact atKey_put_same h.isMap.isMap hk _ _
    · obtain ⟨hy1, hy2⟩ := mem_delH.1 hy
      rw [atKey_put_other (fun e => hy2 (klP_inj (h.wf y hy1) hx e))]
      exact h.at' y hy1 z
  · have hne : p ≠ x.1 := fun e => hn x (mem_insH.2 (.inl rfl)) e.symm
    rw [has_put_other (fun e => hne (klP_inj hp hx e))]
    exact h.none' p hp fun y hy e => hn y (mem_insH.2 (.inr (mem_delH.2 ⟨hy, by rw [e]; exact hne⟩))) e
set_option maxRecDepth 100000 in
theorem reads_del {D : DataW Value} {wl : List Wh} (h : Reads D wl) (ho : Once wl) {p : Plc} (hp : Wf3 p) : Reads (D.del (klP p)) (delH wl p) := by
  refine ⟨h.isMap.del _, ?_, fun y hy => h.wf y (mem_delH.1 hy).1, fun y hy z => ?_, fun q hq hn => ?_⟩
  · have hs := size_del (k := klP p) h.isMap
    have hl := delH_length ho p
    rw [h.size] at hs
    by_cases hh : Maps.has D (klP p) = true
    · rw [if_pos hh] at hs
      rw [if_pos ((has_iff h hp).1 hh)] at hl
      omega
    · rw [if_neg hh] at hs
      rw [if_neg (fun he => hh ((has_iff h hp).2 he))] at hl
      omega
  · obtain ⟨hy1, hy2⟩ := mem_delH.1 hy
    rw [atKey_del_other (fun e => hy2 (klP_inj (h.wf y hy1) hp e))]
    exact h.at' y hy1 z
  · by_cases e : q = p
    · subst e; exact has_del_same
    · rw [has_del_other (fun e2 => e (klP_inj hq hp e2))]
      exact h.none' q hq fun y hy e2 => hn y (mem_delH.2 ⟨hy, by rw [e2]; exact e⟩) e2
/-- What a look-up hands over. -/
def fdAt (wl : List Wh) (p : Plc) : F.Fd := ((wl.find? fun x => x.1 == p).map (·.2)).getD (none, 0, [])
theorem fdAt_cases (wl : List Wh) (p : Plc) : ((∀ x ∈ wl, x.1 ≠ p) ∧ fdAt wl p = (none, 0, [])) ∨ ∃ x ∈ wl, x.1 = p ∧ fdAt wl p = x.2 := by
  cases e : wl.find? (fun x => x.1 == p) with
  | none =>
    have h : ∀ x ∈ wl, x.1 ≠ p := fun x hx => by simpa using List.find?_eq_none.1 e x hx
    exact .inl ⟨h, by unfold fdAt; rw [e]; rfl⟩
  | some x =>
    have h1 := List.mem_of_find?_eq_some e
    have h2 : x.1 = p := by simpa using List.find?_some e
    exact .inr ⟨x, h1, h2, by unfold fdAt; rw [e]; rfl⟩
theorem fdAt_whp (wl : List Wh) (p : Plc) : (fdAt wl p).2.2 = wellF (whp wl) p := by
  unfold fdAt wellF whp
  rw [List.find?_map]
  have e : ((fun x : Plc × List F.Pc => x.1 == p) ∘ fun x : Wh => (x.1, x.2.2.2)) = fun x : Wh => x.1 == p := rfl
  rw [e]
  cases wl.find? (fun x => x.1 == p) <;> rfl
theorem zeroSl (w : World) : (zeroValue 37).run Tryz.prog w = .ok (.slice none 0 0) w := by kernel_rfl
set_option maxRecDepth 100000 in
theorem WM.look {w : World} {m : Nat} {wl : List Wh} (h : WM w m wl) {p : Plc} (hp : Wf3 p) : (Instr.lookup 93 (.map (some m)) (plv p) false).run Tryz.prog w = .ok (hdv (fdAt wl p)) w := by
  obtain ⟨D, h1, h2⟩ := h
  obtain ⟨v, ps, hrun, hv⟩ := h1.lookup lawP Tryz.underlying93 (zeroSl w) (zd := .held (.slice none 0 0)) (zp := []) rfl (keyP_some hp)
  rw [hrun]
  congr 1
  simp only [RV, Option.some.injEq, Prod.mk.injEq] at hv
  have hv1 := hv.1
  rcases fdAt_cases wl p with ⟨hn, e⟩ | ⟨x, hx, hxp, e⟩
  · rw [atKey_of_not_has (h2.none' p hp hn)] at hv1
    injection hv1 with hv1
    rw [hv1, e]
    rfl
  · rw [← hxp, h2.at' x hx] at hv1
    injection hv1 with hv1
    rw [hv1, e]
end Go.Proofs.YtgbnjgenopdmfaaGreat

/- A bench in memory; keep walked. -/
namespace Go.Proofs.YtgbnjgenopdmfaaGreat
open Go.RowKit Go.Maps
/-- Nothing but block m has turned. -/
theorem grown_cell {w w1 : World} {m : Nat} (hg : w.grownBy w1 (some m)) {b o : Nat} (hb : b < w.heap.size) (hne : b ≠ m) : w1.cell? ⟨b, o, none⟩ = w.cell? ⟨b, o, none⟩ :=
  World.cell?_of_block (w := w) (hg.block b hb (by simpa using hne))
/-- A fluid that lies neither in block b nor in block m. -/
def Flx (b m : Nat) (w : World) (ao : Option Addr) (ps : List F.Pc) : Prop := F.Fl w ao ps ∧ (ps = [] ∨ ∀ a, ao = some a → a.block ≠ b ∧ a.block ≠ m)
def Txx (b m : Nat) (w : World) (ao : Option Addr) (t : List ByteArray) : Prop := Tx w ao t ∧ (t = [] ∨ ∀ a, ao = some a → a.block ≠ b ∧ a.block ≠ m)
theorem Flx.next {b m : Nat} {w w1 : World} {ao : Option Addr} {ps : List F.Pc} (h : Flx b m w ao ps) (hb : Below w.heap.size w w1) : Flx b m w1 ao ps := ⟨h.1.next hb, h.2⟩
theorem Txx.next {b m : Nat} {w w1 : World} {ao : Option Addr} {t : List ByteArray} (h : Txx b m w ao t) (hb : Below w.heap.size w w1) : Txx b m w1 ao t := ⟨h.1.next hb, h.2⟩
/-- What two worlds have alike: all but blocks b and m. -/
structure But (b m : Nat) (w w1 : World) : Prop where
  os : w1.os = w.os
  tape : w1.tape = w.tape
  output : w1.output = w.output
  size : w.heap.size ≤ w1.heap.size
  block : ∀ k, k < w.heap.size → k ≠ b → k ≠ m → w1.heap[k]? = w.heap[k]?
theorem But.below {b m B : Nat} {wB w w1 : World} (h : But b m w w1) (hB : Below B wB w) (h1 : B ≤ b) (h2 : B ≤ m) (h3 : B ≤ w.heap.size) : Below B wB w1 :=
  ⟨h.os.trans hB.os, h.tape.trans hB.tape, h.output.trans hB.output, Nat.le_trans hB.size h.size, fun k hk => (h.block k (by omega) (by omega) (by omega)).trans (hB.block k hk)⟩
theorem but_below {b m : Nat} {w w1 : World} (h : Below w.heap.size w w1) : But b m w w1 := ⟨h.os, h.tape, h.output, h.size, fun k hk _ _ => h.block k hk⟩
theorem but_grown {b m : Nat} {w w1 : World} (h : w.grownBy w1 (some m)) : But b m w w1 := ⟨h.os, h.tape, h.output, h.size, fun k hk _ h2 => h.block k hk (by simpa using h2)⟩
theorem but_set (b m : Nat) (w : World) (k : Nat) (v : Value) : But b m w (w.setCell ⟨b, k, none⟩ v) := ⟨rfl, rfl, rfl, by simp [World.setCell], fun i _ h1 _ => Below.heap_setCell w ⟨b, k, none⟩ v i h1⟩
theorem But.trans {b m : Nat} {w w1 w2 : World} (h : But b m w w1) (h2 : But b m w1 w2) : But b m w w2 :=
  ⟨h2.os.trans h.os, h2.tape.trans h.tape, h2.output.trans h.output, Nat.le_trans h.size h2.size, fun k hk h3 h4 => (h2.block k (Nat.lt_of_lt_of_le hk h.size) h3 h4).trans (h.block k hk h3 h4)⟩
theorem Flx.but {b m : Nat} {w w1 : World} {ao : Option Addr} {ps : List F.Pc} (h : Flx b m w ao ps) (hb : But b m w w1) : Flx b m w1 ao ps := by
  obtain ⟨⟨h0, h1⟩, h2⟩ := h
  refine ⟨⟨h0, ?_⟩, h2⟩
  rcases h1 with h1 | ⟨g, off, e, hg, hc⟩
  · exact .inl h1
  · rcases h2 with h2 | h2
    · exact .inl h2
    · obtain ⟨n1, n2⟩ := h2 _ e
      have hbl := hb.block g hg n1 n2
      exact .inr ⟨g, off, e, Nat.lt_of_lt_of_le hg hb.size, fun k hk => ⟨(World.cell?_of_block (w := w) hbl).trans (hc k hk).1, (World.cell?_of_block (w := w) hbl).trans (hc k hk).2⟩⟩
theorem Txx.but {b m : Nat} {w w1 : World} {ao : Option Addr} {t : List ByteArray} (h : Txx b m w ao t) (hb : But b m w w1) : Txx b m w1 ao t := by
  obtain ⟨⟨h0, h1⟩, h2⟩ := h
  refine ⟨⟨h0, ?_⟩, h2⟩
  rcases h1 with h1 | ⟨g, off, e, hg, hc⟩
  · exact .inl h1
  · rcases h2 with h2 | h2
    · exact .inl h2
    · obtain ⟨n1, n2⟩ := h2 _ e
      have hbl := hb.block g hg n1 n2
      exact .inr ⟨g, off, e, Nat.lt_of_lt_of_le hg hb.size, fun k hk => (World.cell?_of_block (w := w) hbl).trans (hc k hk)⟩
theorem flx_of {b m : Nat} {w : World} {base : Nat} {v : Value} {ps : List F.Pc} (h : F.Own w base v ps) (hs : ∀ p ∈ ps, p.1.size ≤ maxLen) (hb : b < base) (hm : m < base) : ∃ ao cap, v = .slice ao ps.length cap ∧ Flx b m w ao ps := by
  obtain ⟨ao, cap, e, hf⟩ := F.Own.give h hs
  refine ⟨ao, cap, e, hf, ?_⟩
  by_cases hn : ps = []
  · exact .inl hn
  · refine .inr fun a ha => ?_
    subst e
    subst ha
    have := (World.ownsRow.lt h a.block rfl).1
    omega
theorem txx_of {b m : Nat} {w : World} {base : Nat} {v : Value} {t : List ByteArray} (h : OwnR encT w base v t) (hs : ∀ x ∈ t, x.size ≤ maxLen) (hb : b < base) (hm : m < base) : ∃ ao cap, v = .slice ao t.length cap ∧ Txx b m w ao t := by
  obtain ⟨ao, cap, e, hf⟩ := tx_of h hs
  refine ⟨ao, cap, e, hf, ?_⟩
  by_cases hn : t = []
  · exact .inl hn
  · refine .inr fun a ha => ?_
    subst e
    subst ha
    have := (World.ownsRow.lt h a.block rfl).1
    omega
/-- What each kind of action does: the table. -/
abbrev fv (n : Nat) : Value := .func (.func n) #[] #[]
def Ddeeds : DataW Value := ((((((((((DataW.map []).put (.int .i64 5) (.held (fv 110))).put (.int .i64 6) (.held (fv 111))).put (.int .i64 7) (.held (fv 112))).put (.int .i64 8) (.held (fv 113))).put (.int .i64 9) (.held (fv 114))).put (.int .i64 11) (.held (fv 115))).put (.int .i64 12) (.held (fv 116))).put (.int .i64 13) (.held (fv 117))).put (.int .i64 14) (.held (fv 116)))
def DM (w : World) (md : Nat) : Prop := w.ownsMap Tryz.prog 3 RV md 9 Ddeeds
theorem DM.lt {w : World} {md : Nat} (h : DM w md) : md < w.heap.size := World.ownsMap.lt h
theorem DM.same {w w1 : World} {md : Nat} (h : DM w md) (hb : w1.heap[md]? = w.heap[md]?) : DM w1 md := by
  obtain ⟨es, clock, h1, h2⟩ := h
  exact ⟨es, clock, hb.trans h1, h2⟩
abbrev bcs (ao : Option Addr) (cap : Nat) (l : List Sit) (md m : Nat) (cw : Option Addr × Nat × Nat) (s : Sta) (aoH : Option Addr) (capH : Nat) (aoT : Option Addr) (capT : Nat) : List Value :=
  [.slice ao l.length cap, .int .i64 ((tipsL l).length : Int), .int .i64 (tipM l), .map (some md), .map (some m), .slice cw.1 cw.2.1 cw.2.2, .bool s.tip, .slice aoH s.held.length capH, .slice aoT s.touched.length capT, .int .i64 s.used, .int .i64 s.heat, .int .i64 s.clock]
/-- A bench: in block b, its wells in block m, its deeds in block md; made behind world wB. -/
structure Bn (wB w : World) (ao : Option Addr) (cap : Nat) (l : List Sit) (b m md : Nat) (s : Sta) : Prop where
  dk : Dk wB ao cap l
  hd : dchk l = 0
  may : May l s
  below : Below wB.heap.size wB w
  lb : wB.heap.size ≤ b ∧ wB.heap.size ≤ m ∧ wB.heap.size ≤ md
  ne : b ≠ m ∧ b ≠ md ∧ m ≠ md
  deeds : DM w md
  wells : ∃ wl, WM w m wl ∧ whp wl = s.wells ∧ ∀ x ∈ wl, Flx b m w x.2.1 x.2.2.2
  bk : ∃ cw aoH capH aoT capT, Bk b (bcs ao cap l md m cw s aoH capH aoT capT) w ∧ Flx b m w aoH s.held ∧ Txx b m w aoT s.touched
theorem Bn.next {wB w w1 : World} {ao : Option Addr} {cap : Nat} {l : List Sit} {b m md : Nat} {s : Sta} (h : Bn wB w ao cap l b m md s) (hb : Below w.heap.size w w1) : Bn wB w1 ao cap l b m md s := by
  obtain ⟨h1, h2, h3, h4, h5, h6, h7, ⟨wl, h8, h9, h10⟩, cw, aoH, capH, aoT, capT, h11, h12, h13⟩ := h
  exact ⟨h1, h2, h3, h4.trans (hb.mono h4.size), h5, h6, h7.same (hb.block _ h7.lt), ⟨wl, h8.next hb, h9, fun x hx => (h10 x hx).next hb⟩, cw, aoH, capH, aoT, capT, h11.later hb, h12.next hb, h13.next hb⟩
theorem Bn.dkw {wB w : World} {ao : Option Addr} {cap : Nat} {l : List Sit} {b m md : Nat} {s : Sta} (h : Bn wB w ao cap l b m md s) : Dk w ao cap l := h.dk.next h.below
/-- A bench behind a change of its own two blocks. -/
theorem Bn.turned {wB w w1 : World} {ao : Option Addr} {cap : Nat} {l : List Sit} {b m md : Nat} {s s' : Sta} (h : Bn wB w ao cap l b m md s) (hbut : But b m w w1) (hmay : May l s') {wl : List Wh} (hwm : WM w1 m wl) (hwl : whp wl = s'.wells) (hfl : ∀ x ∈ wl, Flx b m w1 x.2.1 x.2.2.2)
    {cw : Option Addr × Nat × Nat} {aoH : Option Addr} {capH : Nat} {aoT : Option Addr} {capT : Nat} (hbk : Bk b (bcs ao cap l md m cw s' aoH capH aoT capT) w1) (hh : Flx b m w1 aoH s'.held) (ht : Txx b m w1 aoT s'.touched) : Bn wB w1 ao cap l b m md s' :=
  ⟨h.dk, h.hd, hmay, hbut.below h.below h.lb.1 h.lb.2.1 h.below.size, h.lb, h.ne, h.deeds.same (hbut.block _ h.deeds.lt (fun e => h.ne.2.1 e.symm) (fun e => h.ne.2.2 e.symm)), ⟨wl, hwm, hwl, hfl⟩, cw, aoH, capH, aoT, capT, hbk, hh, ht⟩
theorem wf_place {l : List Sit} (hd : dchk l = 0) {p : Plc} (h : (wellM l p).2 = 0) : Wf3 p := by
  have := wellM_place hd h
  unfold Wf3 Wf1
  omega
theorem Bn.once {wB w : World} {ao : Option Addr} {cap : Nat} {l : List Sit} {b m md : Nat} {s : Sta} (h : Bn wB w ao cap l b m md s) {wl : List Wh} (hwl : whp wl = s.wells) : Once wl ∧ wl.length ≤ 4608 := by
  refine ⟨once_of (by rw [hwl]; exact h.may.rising), ?_⟩
  have := wells_few h.hd h.may
  rw [← hwl, whp_length] at this
  exact this
/-- What a well has from now on. -/
def setH (wl : List Wh) (p : Plc) (f : F.Fd) : List Wh := if f.2.2 = [] then delH wl p else insH (p, f) (delH wl p)
theorem whp_setH (wl : List Wh) (p : Plc) (f : F.Fd) : whp (setH wl p f) = wset (whp wl) p f.2.2 := by
  unfold setH wset
  split
  · exact whp_delH wl p
  · rw [whp_insH, whp_delH]
theorem mem_setH {wl : List Wh} {p : Plc} {f : F.Fd} {x : Wh} (h : x ∈ setH wl p f) : x = (p, f) ∨ x ∈ wl := by
  unfold setH at h
  split at h
  · exact .inr (mem_delH.1 h).1
  · rcases mem_insH.1 h with h | h
    · exact .inl h
    · exact .inr (mem_delH.1 h).1
theorem grown_of {w w1 : World} {r : Option Nat} (h : Below w.heap.size w w1) : w.grownBy w1 r := ⟨h.os, h.tape, h.output, h.size, fun k hk _ => h.block k hk⟩
def kdV (b m : Nat) (p : Plc) (d : Nat) (v : Value) (_ : World) : Prop :=
  match d with
  | 9 => v = .pointer (some ⟨b, 0, none⟩)
  | 10 => v = .pointer (some ⟨b, 0, none⟩)
  | 11 => v = .pointer (some ⟨b, 4, none⟩)
  | 12 => v = .map (some m)
  | 13 => v = .agg #[.int .i64 p.1, .int .i64 p.2.1, .int .i64 p.2.2]
  | _ => True
theorem kdV_mono (b m : Nat) (p : Plc) (d : Nat) (v : Value) (w w' : World) (h : kdV b m p d v w) (_ : Below w.heap.size w w') : kdV b m p d v w' := h
def kuV (b m : Nat) (p : Plc) (ao : Option Addr) (n cap : Nat) (d : Nat) (v : Value) (_ : World) : Prop :=
  match d with
  | 14 => v = .pointer (some ⟨b, 0, none⟩)
  | 15 => v = .pointer (some ⟨b, 0, none⟩)
  | 16 => v = .pointer (some ⟨b, 4, none⟩)
  | 17 => v = .map (some m)
  | 18 => v = .agg #[.int .i64 p.1, .int .i64 p.2.1, .int .i64 p.2.2]
  | 19 => v = .slice ao n cap
  | _ => True
theorem kuV_mono (b m : Nat) (p : Plc) (ao : Option Addr) (n cap : Nat) (d : Nat) (v : Value) (w w' : World) (h : kuV b m p ao n cap d v w) (_ : Below w.heap.size w w') : kuV b m p ao n cap d v w' := h

set_option maxHeartbeats 3200000 in
set_option maxRecDepth 100000 in
theorem keep_any (b m : Nat) (u0 u1 u2 u3 u5 u6 u7 u8 u9 u10 u11 : Value) (wl : List Wh) (p : Plc) (ao : Option Addr) (cap : Nat) (f : List F.Pc) (w : World) (hK : Bk b [u0, u1, u2, u3, .map (some m), u5, u6, u7, u8, u9, u10, u11] w) (hW : WM w m wl) (ho : Once wl) (hl : wl.length ≤ 4608) (hp : Wf3 p) :
    Calls Tryz.prog 144 #[ptr b, plv p, .slice ao f.length cap] w fun e w' => e = .returned (.tuple #[]) ∧ WM w' m (setH wl p (ao, cap, f)) ∧ w.grownBy w' (some m) := by
  obtain ⟨w0, hw0⟩ : ∃ w0, w0 = w.alloc (pobj p) := ⟨_, rfl⟩
  have b0 : Below w.heap.size w w0 := by rw [hw0]; exact (Below.refl _ _).alloc (Nat.le_refl _) _
  have HB : Hid (Below w.heap.size w w0) := b0
  have KB : Hid (Bk b [u0, u1, u2, u3, .map (some m), u5, u6, u7, u8, u9, u10, u11] w0) := hK.later b0
  have KP : Hid (Bk w.heap.size (pcl p) w0) := by show Bk _ _ _; rw [hw0]; exact Bk.new w (pcl p) 53 w.heap.size rfl
  have HWM : Hid (WM w0 m wl) := hW.next b0
  have HON : Hid (Once wl) := ho
  have HL : Hid (wl.length ≤ 4608) := hl
  have HP : Hid (Wf3 p) := hp
  have HW0 : Hid (w0 = w.alloc (pobj p)) := hw0
  have HML : Hid (m < w.heap.size) := hW.lt
  clear hK hW ho hl hp hw0 b0
  by_cases hf : f = []
  · have hf2 := len0_true hf
    have HQ : Hid (setH wl p (ao, cap, f) = delH wl p) := if_pos hf
    clear hf
    go_enter Tryz.func144, Tryz.ntmps144
    go_wp2_with fail
    rename_i KK hkk
    have HKK := (show Hid _ from hkk)
    clear hkk
    rw [← HW0.out]
    refine region_seq 5 [false, false, false, false, false, false, false, false, false, true, true, true, true, true, false, false, false, false, false, false]
      [(9, [], none), (10, [9], none), (11, [10], none), (12, [11], none), (13, [], none)]
      (kdV b m p) (by kernel_rfl) (by kernel_rfl) (by kernel_rfl) (by kernel_rfl) (by kernel_rfl) (by decide) (kdV_mono b m p) ?_ ?_
    · refine ⟨?_, ?_, ?_, ?_, ?_, trivial⟩
      · intro f w1 hb _ K hK
        simp only [over, overL, Nat.reduceAdd]
        go_simp
        exact hK _ _ ⟨_, rfl, by simp only [over, overL, Nat.reduceAdd]; rfl, Below.refl _ _⟩
      · intro f w1 hb ⟨h9, _⟩ K hK
        replace h9 : f 9 = _ := h9
        simp only [over, overL, Nat.reduceAdd, h9]
        go_simp
        exact hK _ _ ⟨_, rfl, by simp only [over, overL, Nat.reduceAdd, h9]; rfl, Below.refl _ _⟩
      · intro f w1 hb ⟨h10, _⟩ K hK
        replace h10 : f 10 = _ := h10
        simp only [over, overL, Nat.reduceAdd, h10]
        go_simp
        exact hK _ _ ⟨_, rfl, by simp only [over, overL, Nat.reduceAdd, h10]; rfl, Below.refl _ _⟩
      · intro f w1 hb ⟨h11, _⟩ K hK
        replace h11 : f 11 = _ := h11
        have q4 := (KB.out.later hb).c 4 rfl
        simp only [over, overL, Nat.reduceAdd, h11]
        go_simp
        exact hK _ _ ⟨_, rfl, by simp only [over, overL, Nat.reduceAdd, h11]; rfl, Below.refl _ _⟩
      · intro f w1 hb _ K hK
        have q0 := (KP.out.later hb).c 0 rfl
        have q1 := (KP.out.later hb).c 1 rfl
        have q2 := (KP.out.later hb).c 2 rfl
        simp only [over, overL, Nat.reduceAdd]
        go_simp
        exact hK _ _ ⟨_, rfl, by simp only [over, overL, Nat.reduceAdd]; rfl, Below.refl _ _⟩
    intro f w1 hb hv
    have h12 : f 12 = _ := hv.2.2.2.1
    have h13 : f 13 = _ := hv.2.2.2.2.1
    obtain ⟨D, hown, hrd⟩ := HWM.out.next hb
    have HRD : Hid (Reads (D.del (klP p)) (delH wl p)) := reads_del hrd HON.out HP.out
    have HB1 : Hid (Below w.heap.size w w1) := HB.out.trans (hb.mono HB.out.size)
    clear hv hrd hb
    simp only [List.drop, over, overL, Nat.reduceAdd, h12, h13]
    go_wp2_with (first | (at_delete; refine wpList_delete_own _ rfl _ _ 93 53 rfl 37 lawP Tryz.underlying93 RV m (Maps.size D) D rfl hown _ _ rfl (keyP_some HP.out) ?_; intro w2 hown1 hturn1) | go_in)
    have HWM2 : Hid (WM w2 m (delH wl p)) := ⟨_, own_tight hown1, HRD.out⟩
    have HG : Hid (w.grownBy w2 (some m)) := (grown_of HB1.out).trans hturn1.grown
    clear hown hown1 hturn1 h12 h13
    refine HKK.out _ _ ?_
    go_wp2
    (try simp only [Exit.inBlock, Exit.then])
    refine bodyPost_ret (results_none rfl _ _ _) rfl ?_
    exact ⟨rfl, by rw [HQ.out]; exact HWM2.out, HG.out⟩
  · have hf2 := len0_false hf
    have HQ : Hid (setH wl p (ao, cap, f) = insH (p, (ao, cap, f)) (delH wl p)) := if_neg hf
    clear hf
    generalize hfl : f.length = n at *
    have HFL : Hid (f.length = n) := hfl
    clear hfl
    go_enter Tryz.func144, Tryz.ntmps144
    go_wp2_with fail
    rw [← HW0.out]
    refine region_seq 6 [false, false, false, false, false, false, false, false, false, false, false, false, false, false, true, true, true, true, true, true]
      [(14, [], none), (15, [14], none), (16, [15], none), (17, [16], none), (18, [], none), (19, [], none)]
      (kuV b m p ao n cap) (by kernel_rfl) (by kernel_rfl) (by kernel_rfl) (by kernel_rfl) (by kernel_rfl) (by decide) (kuV_mono b m p ao n cap) ?_ ?_
    · refine ⟨?_, ?_, ?_, ?_, ?_, ?_, trivial⟩
      · intro f w1 hb _ K hK
        simp only [over, overL, Nat.reduceAdd]
        go_simp
        exact hK _ _ ⟨_, rfl, by simp only [over, overL, Nat.reduceAdd]; rfl, Below.refl _ _⟩
      · intro f w1 hb ⟨h14, _⟩ K hK
        replace h14 : f 14 = _ := h14
        simp only [over, overL, Nat.reduceAdd, h14]
        go_simp
        exact hK _ _ ⟨_, rfl, by simp only [over, overL, Nat.reduceAdd, h14]; rfl, Below.refl _ _⟩
      · intro f w1 hb ⟨h15, _⟩ K hK
        replace h15 : f 15 = _ := h15
        simp only [over, overL, Nat.reduceAdd, h15]
        go_simp
        exact hK _ _ ⟨_, rfl, by simp only [over, overL, Nat.reduceAdd, h15]; rfl, Below.refl _ _⟩
      · intro f w1 hb ⟨h16, _⟩ K hK
        replace h16 : f 16 = _ := h16
        have q4 := (KB.out.later hb).c 4 rfl
        simp only [over, overL, Nat.reduceAdd, h16]
        go_simp
        exact hK _ _ ⟨_, rfl, by simp only [over, overL, Nat.reduceAdd, h16]; rfl, Below.refl _ _⟩
      · intro f w1 hb _ K hK
        have q0 := (KP.out.later hb).c 0 rfl
        have q1 := (KP.out.later hb).c 1 rfl
        have q2 := (KP.out.later hb).c 2 rfl
        simp only [over, overL, Nat.reduceAdd]
        go_simp
        exact hK _ _ ⟨_, rfl, by simp only [over, overL, Nat.reduceAdd]; rfl, Below.refl _ _⟩
      · intro f w1 hb _ K hK
        simp only [over, overL, Nat.reduceAdd]
        go_simp
        exact hK _ _ ⟨_, rfl, by simp only [over, overL, Nat.reduceAdd]; rfl, Below.refl _ _⟩
    intro f' w1 hb hv
    have h17 : f' 17 = _ := hv.2.2.2.1
    have h18 : f' 18 = _ := hv.2.2.2.2.1
    have h19 : f' 19 = _ := hv.2.2.2.2.2.1
    obtain ⟨D, hown, hrd⟩ := HWM.out.next hb
    have HRD : Hid (Reads (D.put (klP p) (.held (.slice ao n cap))) (insH (p, (ao, cap, f)) (delH wl p))) := by
      have := reads_put (x := (p, (ao, cap, f))) hrd HON.out HP.out
      simp only [hdv] at this
      rw [HFL.out] at this
      exact this
    have HB1 : Hid (Below w.heap.size w w1) := HB.out.trans (hb.mono HB.out.size)
    have hsz : Maps.size D < maxLen := by rw [hrd.size]; have := HL.out; unfold maxLen; omega
    clear hv hrd hb
    simp only [List.drop, over, overL, Nat.reduceAdd, h17, h18, h19]
    go_wp2_with (first | (at_mapUpdate; refine wpList_mapUpdate_own _ rfl _ _ _ 93 rfl 53 37 lawP Tryz.underlying93 RV m (Maps.size D) D rfl hown hsz _ _ _ rfl rfl (keyP_some HP.out) (.held (.slice ao n cap)) [] rfl ?_; intro w2 hown1 hg1) | go_in)
    have HWM2 : Hid (WM w2 m (insH (p, (ao, cap, f)) (delH wl p))) := ⟨_, own_tight hown1, HRD.out⟩
    have HG : Hid (w.grownBy w2 (some m)) := (grown_of HB1.out).trans hg1
    clear hown hown1 hg1 h17 h18 h19 hsz
    go_end0
    exact ⟨rfl, by rw [HQ.out]; exact HWM2.out, HG.out⟩
end Go.Proofs.YtgbnjgenopdmfaaGreat

/- Actions that hang on nothing in common may change places. -/
namespace Go.Proofs.YtgbnjgenopdmfaaGreat
open Go.RowKit F
theorem wellF_other {ws : Wls} (h : Rising ws) {p q : Plc} (hne : q ≠ p) (f : List Pc) : wellF (wset ws p f) q = wellF ws q := by
  rcases wellF_cases ws q with ⟨hn, e⟩ | ⟨g, hm, e⟩
  · rw [e]
    refine wellF_none fun x hx => ?_
    rcases mem_wset.1 hx with ⟨rfl, _⟩ | ⟨hx, _⟩
    · exact fun e2 => hne e2.symm
    · exact hn x hx
  · rw [e]
    exact wellF_mem (rising_wset h p f) (mem_wset.2 (.inr ⟨hm, hne⟩))
theorem wset_comm {ws : Wls} (h : Rising ws) {p q : Plc} (hne : p ≠ q) (f g : List Pc) : wset (wset ws p f) q g = wset (wset ws q g) p f := by
  refine rising_unique (rising_wset (rising_wset h p f) q g) (rising_wset (rising_wset h q g) p f) fun x => ?_
  rw [mem_wset, mem_wset, mem_wset, mem_wset]
  constructor
  · rintro (⟨rfl, h1⟩ | ⟨⟨rfl, h1⟩ | ⟨h1, h2⟩, h3⟩)
    · exact .inr ⟨.inl ⟨rfl, h1⟩, fun e => hne e.symm⟩
    · exact .inl ⟨rfl, h1⟩
    · exact .inr ⟨.inr ⟨h1, h3⟩, h2⟩
  · rintro (⟨rfl, h1⟩ | ⟨⟨rfl, h1⟩ | ⟨h1, h2⟩, h3⟩)
    · exact .inr ⟨.inl ⟨rfl, h1⟩, hne⟩
    · exact .inl ⟨rfl, h1⟩
    · exact .inr ⟨.inr ⟨h1, h3⟩, h2⟩

/-- An action, if it may be. -/
def stp (l : List Sit) (a : Acn) (s : Sta) : Option Sta := if (doA l s a).2 = 0 then some (doA l s a).1 else none
def runO (l : List Sit) : List Acn → Sta → Option Sta
  | [], s => some s
  | a :: r, s => (stp l a s).bind (runO l r)
theorem runO_append (l : List Sit) (a b : List Acn) (s : Sta) : runO l (a ++ b) s = (runO l a s).bind (runO l b) := by
  induction a generalizing s with
  | nil => rfl
  | cons x r ih =>
    show (stp l x s).bind (runO l (r ++ b)) = ((stp l x s).bind (runO l r)).bind (runO l b)
    cases stp l x s with
    | none => rfl
    | some t => exact ih t
theorem runA_some {l : List Sit} : ∀ (r : List Acn) (s : Sta) (k : Nat), (runA l s k r).2.2 = 0 → runO l r s = some (runA l s k r).1
  | [], s, k, _ => rfl
  | a :: r, s, k, h => by
    unfold runA at h ⊢
    split at h
    · rename_i h0
      rw [if_pos h0]
      show (stp l a s).bind _ = _
      unfold stp
      rw [if_pos h0]
      exact runA_some r _ _ h
    · rename_i h0; exact absurd h h0
theorem runA_none {l : List Sit} : ∀ (r : List Acn) (s : Sta) (k : Nat), (runA l s k r).2.2 ≠ 0 → runO l r s = none
  | [], s, k, h => absurd rfl h
  | a :: r, s, k, h => by
    unfold runA at h
    show (stp l a s).bind _ = _
    unfold stp
    split at h
    · rename_i h0
      rw [if_pos h0]
      exact runA_none r _ _ h
    · rename_i h0
      rw [if_neg h0]
      rfl
theorem runA_of {l : List Sit} {r : List Acn} {s t : Sta} (k : Nat) (h : runO l r s = some t) : (runA l s k r).2.2 = 0 ∧ (runA l s k r).1 = t := by
  by_cases h0 : (runA l s k r).2.2 = 0
  · have := runA_some r s k h0
    rw [h] at this
    injection this with this
    exact ⟨h0, this.symm⟩
  · rw [runA_none r s k h0] at h
    cases h

abbrev Tp4 := Bool × List Pc × List ByteArray × Int
def Sta.tp (s : Sta) : Tp4 := (s.tip, s.held, s.touched, s.used)
def Sta.withTp (s : Sta) (y : Tp4) : Sta := { s with tip := y.1, held := y.2.1, touched := y.2.2.1, used := y.2.2.2 }
def OnWell (p : Plc) (f : Sta → Option Sta) : Prop := ∃ φ : List Pc → Option (List Pc), ∀ s, f s = (φ (wellF s.wells p)).map fun x => { s with wells := wset s.wells p x }
def OnTip (f : Sta → Option Sta) : Prop := ∃ τ : Tp4 → Option Tp4, ∀ s, f s = (τ s.tp).map fun y => s.withTp y
def OnBoth (p : Plc) (f : Sta → Option Sta) : Prop := ∃ ψ : List Pc → Tp4 → Option (List Pc × Tp4), ∀ s, f s = (ψ (wellF s.wells p) s.tp).map fun z => { (s.withTp z.2) with wells := wset s.wells p z.1 }
def OnHeat (f : Sta → Option Sta) : Prop := ∃ η : Int → Int → Option (Int × Int), ∀ s, f s = (η s.heat s.clock).map fun z => { s with heat := z.1, clock := z.2 }
def OnNone (f : Sta → Option Sta) : Prop := ∀ s, f s = none
def Comm (f g : Sta → Option Sta) : Prop := ∀ s, Rising s.wells → (f s).bind g = (g s).bind f
theorem Comm.symm {f g : Sta → Option Sta} (h : Comm f g) : Comm g f := fun s hs => (h s hs).symm
theorem comm_none {f g : Sta → Option Sta} (h : OnNone f) : Comm f g := fun s _ => by
  rw [h s]
  cases e : g s with
  | none => rfl
  | some t => exact (h t).symm
theorem OnWell.both {p : Plc} {f : Sta → Option Sta} (h : OnWell p f) : OnBoth p f := by
  obtain ⟨φ, h⟩ := h
  refine ⟨fun x y => (φ x).map fun x => (x, y), fun s => ?_⟩
  rw [h]
  show _ = ((φ (wellF s.wells p)).map fun x => (x, s.tp)).map _
  cases φ (wellF s.wells p) <;> rfl
theorem comm_heat_both {p : Plc} {f g : Sta → Option Sta} (hf : OnHeat f) (hg : OnBoth p g) : Comm f g := by
  obtain ⟨η, hf⟩ := hf
  obtain ⟨ψ, hg⟩ := hg
  intro s _
  rw [hf, hg]
  cases h1 : η s.heat s.clock with
  | none =>
    cases h2 : ψ (wellF s.wells p) s.tp with
    | none => rfl
    | some z => simp [hf, h1, Sta.withTp]
  | some y =>
    cases h2 : ψ (wellF s.wells p) s.tp with
    | none =>
      have e : ({ s with heat := y.1, clock := y.2 } : Sta).tp = s.tp := rfl
      simp [hg, e, h2]
    | some z =>
      have e : ({ s with heat := y.1, clock := y.2 } : Sta).tp = s.tp := rfl
      simp [hg, hf, e, h1, h2, Sta.withTp]
theorem comm_heat_tip {f g : Sta → Option Sta} (hf : OnHeat f) (hg : OnTip g) : Comm f g := by
  obtain ⟨η, hf⟩ := hf
  obtain ⟨τ, hg⟩ := hg
  intro s _
  rw [hf, hg]
  cases h1 : η s.heat s.clock with
  | none =>
    cases h2 : τ s.tp with
    | none => rfl
    | some z => simp [hf, h1, Sta.withTp]
  | some y =>
    have e : ({ s with heat := y.1, clock := y.2 } : Sta).tp = s.tp := rfl
    cases h2 : τ s.tp with
    | none => simp [hg, e, h2]
    | some z => simp [hg, hf, e, h1, h2, Sta.withTp]
theorem comm_well_tip {p : Plc} {f g : Sta → Option Sta} (hf : OnWell p f) (hg : OnTip g) : Comm f g := by
  obtain ⟨φ, hf⟩ := hf
  obtain ⟨τ, hg⟩ := hg
  intro s _
  rw [hf, hg]
  cases h1 : φ (wellF s.wells p) with
  | none =>
    cases h2 : τ s.tp with
    | none => rfl
    | some z => simp [hf, h1, Sta.withTp]
  | some y =>
    have e : ({ s with wells := wset s.wells p y } : Sta).tp = s.tp := rfl
    cases h2 : τ s.tp with
    | none => simp [hg, e, h2]
    | some z => simp [hg, hf, e, h1, h2, Sta.withTp]
theorem comm_well_both {p q : Plc} (hne : p ≠ q) {f g : Sta → Option Sta} (hf : OnWell p f) (hg : OnBoth q g) : Comm f g := by
  obtain ⟨φ, hf⟩ := hf
  obtain ⟨ψ, hg⟩ := hg
  intro s hs
  rw [hf, hg]
  cases h1 : φ (wellF s.wells p) with
  | none =>
    cases h2 : ψ (wellF s.wells q) s.tp with
    | none => rfl
    | some z => simp [hf, wellF_other hs hne, h1]
  | some y =>
    have e : ({ s with wells := wset s.wells p y } : Sta).tp = s.tp := rfl
    cases h2 : ψ (wellF s.wells q) s.tp with
    | none => simp [hg, e, wellF_other hs (Ne.symm hne), h2]
    | some z => simp [hg, hf, e, wellF_other hs (Ne.symm hne), wellF_other hs hne, h1, h2, Sta.withTp, wset_comm hs hne]
theorem onBoth_rising {p : Plc} {f : Sta → Option Sta} (h : OnBoth p f) {s t : Sta} (hs : Rising s.wells) (e : f s = some t) : Rising t.wells := by
  obtain ⟨ψ, h⟩ := h
  rw [h] at e
  cases h2 : ψ (wellF s.wells p) s.tp with
  | none => rw [h2] at e; cases e
  | some z => rw [h2] at e; injection e with e; subst e; exact rising_wset hs p z.1
theorem onTip_rising {f : Sta → Option Sta} (h : OnTip f) {s t : Sta} (hs : Rising s.wells) (e : f s = some t) : Rising t.wells := by
  obtain ⟨τ, h⟩ := h
  rw [h] at e
  cases h2 : τ s.tp with
  | none => rw [h2] at e; cases e
  | some z => rw [h2] at e; injection e with e; subst e; exact hs
theorem onHeat_rising {f : Sta → Option Sta} (h : OnHeat f) {s t : Sta} (hs : Rising s.wells) (e : f s = some t) : Rising t.wells := by
  obtain ⟨η, h⟩ := h
  rw [h] at e
  cases h2 : η s.heat s.clock with
  | none => rw [h2] at e; cases e
  | some z => rw [h2] at e; injection e with e; subst e; exact hs

/-! ### which is which -/
theorem do_5 (l : List Sit) (s : Sta) {a : Acn} (hk : a.kind = 5) : doA l s a = fillA l s a := by unfold doA; rw [if_pos hk]
theorem do_6 (l : List Sit) (s : Sta) {a : Acn} (hk : a.kind = 6) : doA l s a = tipA l s := by unfold doA; rw [if_neg (show ¬ a.kind = 5 by omega), if_pos hk]
theorem do_7 (l : List Sit) (s : Sta) {a : Acn} (hk : a.kind = 7) : doA l s a = dropA s := by unfold doA; rw [if_neg (show ¬ a.kind = 5 by omega), if_neg (show ¬ a.kind = 6 by omega), if_pos hk]
theorem do_8 (l : List Sit) (s : Sta) {a : Acn} (hk : a.kind = 8) : doA l s a = drawA l s a := by unfold doA; rw [if_neg (show ¬ a.kind = 5 by omega), if_neg (show ¬ a.kind = 6 by omega), if_neg (show ¬ a.kind = 7 by omega), if_pos hk]
theorem do_9 (l : List Sit) (s : Sta) {a : Acn} (hk : a.kind = 9) : doA l s a = putA l s a := by unfold doA; rw [if_neg (show ¬ a.kind = 5 by omega), if_neg (show ¬ a.kind = 6 by omega), if_neg (show ¬ a.kind = 7 by omega), if_neg (show ¬ a.kind = 8 by omega), if_pos hk]
theorem do_11 (l : List Sit) (s : Sta) {a : Acn} (hk : a.kind = 11) : doA l s a = warmA s a := by unfold doA; rw [if_neg (show ¬ a.kind = 5 by omega), if_neg (show ¬ a.kind = 6 by omega), if_neg (show ¬ a.kind = 7 by omega), if_neg (show ¬ a.kind = 8 by omega), if_neg (show ¬ a.kind = 9 by omega), if_pos hk]
theorem do_12 (l : List Sit) (s : Sta) {a : Acn} (hk : a.kind = 12) : doA l s a = passA s a := by unfold doA; rw [if_neg (show ¬ a.kind = 5 by omega), if_neg (show ¬ a.kind = 6 by omega), if_neg (show ¬ a.kind = 7 by omega), if_neg (show ¬ a.kind = 8 by omega), if_neg (show ¬ a.kind = 9 by omega), if_neg (show ¬ a.kind = 11 by omega), if_pos hk]
theorem do_13 (l : List Sit) (s : Sta) {a : Acn} (hk : a.kind = 13) : doA l s a = shakeA s a := by unfold doA; rw [if_neg (show ¬ a.kind = 5 by omega), if_neg (show ¬ a.kind = 6 by omega), if_neg (show ¬ a.kind = 7 by omega), if_neg (show ¬ a.kind = 8 by omega), if_neg (show ¬ a.kind = 9 by omega), if_neg (show ¬ a.kind = 11 by omega), if_neg (show ¬ a.kind = 12 by omega), if_pos hk]
theorem do_14 (l : List Sit) (s : Sta) {a : Acn} (hk : a.kind = 14) : doA l s a = passA s a := by unfold doA; rw [if_neg (show ¬ a.kind = 5 by omega), if_neg (show ¬ a.kind = 6 by omega), if_neg (show ¬ a.kind = 7 by omega), if_neg (show ¬ a.kind = 8 by omega), if_neg (show ¬ a.kind = 9 by omega), if_neg (show ¬ a.kind = 11 by omega), if_neg (show ¬ a.kind = 12 by omega), if_neg (show ¬ a.kind = 13 by omega), if_pos hk]
theorem do_no (l : List Sit) (s : Sta) {a : Acn} (h : ¬ (5 ≤ a.kind ∧ a.kind ≤ 9) ∧ ¬ (11 ≤ a.kind ∧ a.kind ≤ 14)) : doA l s a = (s, 6) := by unfold doA; rw [if_neg (show ¬ a.kind = 5 by omega), if_neg (show ¬ a.kind = 6 by omega), if_neg (show ¬ a.kind = 7 by omega), if_neg (show ¬ a.kind = 8 by omega), if_neg (show ¬ a.kind = 9 by omega), if_neg (show ¬ a.kind = 11 by omega), if_neg (show ¬ a.kind = 12 by omega), if_neg (show ¬ a.kind = 13 by omega), if_neg (show ¬ a.kind = 14 by omega)]
theorem stp_fill {l : List Sit} {a : Acn} (hk : a.kind = 5) : OnWell a.pl (stp l a) := by
  refine ⟨fun f => if (aimR l a).2 ≠ 0 then none else if fref [(a.label, a.vol)] ≠ 0 then none else if (togR f [(a.label, a.vol)] (aimR l a).1).2 ≠ 0 then none else some (togR f [(a.label, a.vol)] (aimR l a).1).1, fun s => ?_⟩
  unfold stp
  rw [do_5 l s hk]
  unfold fillA
  by_cases h1 : (aimR l a).2 ≠ 0
  · simp only [if_pos h1]; rw [if_neg h1]; rfl
  · by_cases h2 : fref [(a.label, a.vol)] ≠ 0
    · simp only [if_neg h1, if_pos h2]; rw [if_neg h2]; rfl
    · by_cases h3 : (togR (wellF s.wells a.pl) [(a.label, a.vol)] (aimR l a).1).2 ≠ 0
      · simp only [if_neg h1, if_neg h2, if_pos h3]; rw [if_neg h3]; rfl
      · simp only [if_neg h1, if_neg h2, if_neg h3]; rfl
theorem stp_tip {l : List Sit} {a : Acn} (hk : a.kind = 6) : OnTip (stp l a) := by
  refine ⟨fun y => if y.1 = true then none else if ((tipsL l).length : Int) ≤ y.2.2.2 then none else some (true, y.2.1, y.2.2.1, y.2.2.2 + 1), fun s => ?_⟩
  unfold stp
  rw [do_6 l s hk]
  unfold tipA Sta.tp
  by_cases h1 : s.tip = true
  · simp [h1]
  · by_cases h2 : ((tipsL l).length : Int) ≤ s.used
    · simp [h1, h2]
    · simp [h1, h2, Sta.withTp]
theorem stp_drop {l : List Sit} {a : Acn} (hk : a.kind = 7) : OnTip (stp l a) := by
  refine ⟨fun y => if y.1 = true then some (false, [], [], y.2.2.2) else none, fun s => ?_⟩
  unfold stp
  rw [do_7 l s hk]
  unfold dropA Sta.tp
  by_cases h1 : s.tip = true
  · simp [h1, Sta.withTp]
  · simp [h1]
theorem stp_draw {l : List Sit} {a : Acn} (hk : a.kind = 8) : OnBoth a.pl (stp l a) := by
  refine ⟨fun f y => if (aimR l a).2 ≠ 0 then none else if y.1 = false then none else if (drawF a.vol f).2.2 ≠ 0 then none else if (withR (drops y.2.2.1) f).1 = false then none
    else if (togR y.2.1 (drawF a.vol f).1 (tipM l)).2 ≠ 0 then none else some ((drawF a.vol f).2.1, y.1, (togR y.2.1 (drawF a.vol f).1 (tipM l)).1, labsR f, y.2.2.2), fun s => ?_⟩
  unfold stp
  rw [do_8 l s hk]
  unfold drawA Sta.tp
  by_cases h1 : (aimR l a).2 ≠ 0
  · simp only [if_pos h1]; rw [if_neg h1]; rfl
  · by_cases h2 : s.tip = false
    · simp only [if_neg h1, if_pos h2]; rfl
    · by_cases h3 : (drawF a.vol (wellF s.wells a.pl)).2.2 ≠ 0
      · simp only [if_neg h1, if_neg h2, if_pos h3]; rw [if_neg h3]; rfl
      · by_cases h4 : (withR (drops s.touched) (wellF s.wells a.pl)).1 = false
        · simp only [if_neg h1, if_neg h2, if_neg h3, if_pos h4]; rfl
        · by_cases h5 : (togR s.held (drawF a.vol (wellF s.wells a.pl)).1 (tipM l)).2 ≠ 0
          · simp only [if_neg h1, if_neg h2, if_neg h3, if_neg h4, if_pos h5]; rw [if_neg h5]; rfl
          · simp only [if_neg h1, if_neg h2, if_neg h3, if_neg h4, if_neg h5]; rfl
theorem stp_put {l : List Sit} {a : Acn} (hk : a.kind = 9) : OnBoth a.pl (stp l a) := by
  refine ⟨fun f y => if (aimR l a).2 ≠ 0 then none else if y.1 = false then none else if (drawF a.vol y.2.1).2.2 ≠ 0 then none
    else if (togR f (drawF a.vol y.2.1).1 (aimR l a).1).2 ≠ 0 then none else some ((togR f (drawF a.vol y.2.1).1 (aimR l a).1).1, y.1, (drawF a.vol y.2.1).2.1, y.2.2.1, y.2.2.2), fun s => ?_⟩
  unfold stp
  rw [do_9 l s hk]
  unfold putA Sta.tp
  by_cases h1 : (aimR l a).2 ≠ 0
  · simp only [if_pos h1]; rw [if_neg h1]; rfl
  · by_cases h2 : s.tip = false
    · simp only [if_neg h1, if_pos h2]; rfl
    · by_cases h3 : (drawF a.vol s.held).2.2 ≠ 0
      · simp only [if_neg h1, if_neg h2, if_pos h3]; rw [if_neg h3]; rfl
      · by_cases h5 : (togR (wellF s.wells a.pl) (drawF a.vol s.held).1 (aimR l a).1).2 ≠ 0
        · simp only [if_neg h1, if_neg h2, if_neg h3, if_pos h5]; rw [if_neg h5]; rfl
        · simp only [if_neg h1, if_neg h2, if_neg h3, if_neg h5]; rfl
theorem pass_on (a : Acn) : OnHeat fun s => if (passA s a).2 = 0 then some (passA s a).1 else none := by
  refine ⟨fun h c => if inR 0 1000000000 a.time = true then (if 1000000000 < c + a.time then none else some (h, c + a.time)) else none, fun s => ?_⟩
  unfold passA
  by_cases h1 : inR 0 1000000000 a.time = true
  · by_cases h2 : 1000000000 < s.clock + a.time
    · simp [h1, h2]
    · simp [h1, h2]
  · simp [h1]
theorem stp_heat {l : List Sit} {a : Acn} (hk : 11 ≤ a.kind ∧ a.kind ≤ 14) : OnHeat (stp l a) := by
  have hp := pass_on a
  by_cases h11 : a.kind = 11
  · refine ⟨fun h c => if inR 0 1000000000 a.value = true then some (a.value, c) else none, fun s => ?_⟩
    unfold stp
    rw [do_11 l s h11]
    unfold warmA
    by_cases h1 : inR 0 1000000000 a.value = true
    · simp [h1]
    · simp [h1]
  · by_cases h13 : a.kind = 13
    · by_cases h1 : inR 0 1000000000 a.value = true
      · obtain ⟨η, h⟩ := hp
        refine ⟨η, fun s => ?_⟩
        rw [← h]
        unfold stp
        rw [do_13 l s h13]
        unfold shakeA
        rw [if_pos h1]
      · refine ⟨fun _ _ => none, fun s => ?_⟩
        unfold stp
        rw [do_13 l s h13]
        unfold shakeA
        rw [if_neg h1]
        rfl
    · obtain ⟨η, h⟩ := hp
      refine ⟨η, fun s => ?_⟩
      rw [← h]
      unfold stp
      by_cases h12 : a.kind = 12
      · rw [do_12 l s h12]
      · rw [do_14 l s (by omega)]
theorem stp_none {l : List Sit} {a : Acn} (h : ¬ (5 ≤ a.kind ∧ a.kind ≤ 9) ∧ ¬ (11 ≤ a.kind ∧ a.kind ≤ 14)) : OnNone (stp l a) := by
  intro s
  unfold stp
  rw [do_no l s h]
  rfl

/-! ### what hangs on what -/
def tipd (k : Int) : Bool := decide (6 ≤ k) && decide (k ≤ 9)
def timd (k : Int) : Bool := decide (11 ≤ k) && decide (k ≤ 14)
def flwd (k : Int) : Bool := decide (k = 5) || (decide (k = 8) || decide (k = 9))
def hangB (a b : Acn) : Bool := (tipd a.kind && tipd b.kind) || ((timd a.kind && timd b.kind) || ((flwd a.kind && flwd b.kind) && decide (a.pl = b.pl)))
theorem hang_iff {a b : Acn} : hangB a b = true ↔ (6 ≤ a.kind ∧ a.kind ≤ 9 ∧ 6 ≤ b.kind ∧ b.kind ≤ 9) ∨ (11 ≤ a.kind ∧ a.kind ≤ 14 ∧ 11 ≤ b.kind ∧ b.kind ≤ 14) ∨
    ((a.kind = 5 ∨ a.kind = 8 ∨ a.kind = 9) ∧ (b.kind = 5 ∨ b.kind = 8 ∨ b.kind = 9) ∧ a.pl = b.pl) := by
  simp [hangB, tipd, timd, flwd, and_assoc]
theorem hang_symm {a b : Acn} (h : hangB a b = true) : hangB b a = true := by
  rw [hang_iff] at *
  rcases h with h | h | ⟨h1, h2, h3⟩
  · exact .inl ⟨h.2.2.1, h.2.2.2, h.1, h.2.1⟩
  · exact .inr (.inl ⟨h.2.2.1, h.2.2.2, h.1, h.2.1⟩)
  · exact .inr (.inr ⟨h2, h1, h3.symm⟩)
theorem kinds (a : Acn) : (a.kind = 5) ∨ (a.kind = 6) ∨ (a.kind = 7) ∨ (a.kind = 8) ∨ (a.kind = 9) ∨ (11 ≤ a.kind ∧ a.kind ≤ 14) ∨ (¬ (5 ≤ a.kind ∧ a.kind ≤ 9) ∧ ¬ (11 ≤ a.kind ∧ a.kind ≤ 14)) := by omega
theorem stp_comm (l : List Sit) {a b : Acn} (h : hangB a b = false) : Comm (stp l a) (stp l b) := by
  have hn : ¬ hangB a b = true := by rw [h]; decide
  rw [hang_iff] at hn
  have h1 : ¬ (6 ≤ a.kind ∧ a.kind ≤ 9 ∧ 6 ≤ b.kind ∧ b.kind ≤ 9) := fun x => hn (.inl x)
  have h2 : ¬ (11 ≤ a.kind ∧ a.kind ≤ 14 ∧ 11 ≤ b.kind ∧ b.kind ≤ 14) := fun x => hn (.inr (.inl x))
  have h3 : ∀ (_ : a.kind = 5 ∨ a.kind = 8 ∨ a.kind = 9) (_ : b.kind = 5 ∨ b.kind = 8 ∨ b.kind = 9), a.pl ≠ b.pl := fun x y z => hn (.inr (.inr ⟨x, y, z⟩))
  clear hn h
  rcases kinds a with ha | ha | ha | ha | ha | ha | ha
  · rcases kinds b with hb | hb | hb | hb | hb | hb | hb
    · exact comm_well_both (h3 (.inl ha) (.inl hb)) (stp_fill ha) (stp_fill hb).both
    · exact comm_well_tip (stp_fill ha) (stp_tip hb)
    · exact comm_well_tip (stp_fill ha) (stp_drop hb)
    · exact comm_well_both (h3 (.inl ha) (.inr (.inl hb))) (stp_fill ha) (stp_draw hb)
    · exact comm_well_both (h3 (.inl ha) (.inr (.inr hb))) (stp_fill ha) (stp_put hb)
    · exact (comm_heat_both (stp_heat hb) (stp_fill ha).both).symm
    · exact (comm_none (stp_none hb)).symm
  · rcases kinds b with hb | hb | hb | hb | hb | hb | hb
    · exact (comm_well_tip (stp_fill hb) (stp_tip ha)).symm
    · omega
    · omega
    · omega
    · omega
    · exact (comm_heat_tip (stp_heat hb) (stp_tip ha)).symm
    · exact (comm_none (stp_none hb)).symm
  · rcases kinds b with hb | hb | hb | hb | hb | hb | hb
    · exact (comm_well_tip (stp_fill hb) (stp_drop ha)).symm
    · omega
    · omega
    · omega
    · omega
    · exact (comm_heat_tip (stp_heat hb) (stp_drop ha)).symm
    · exact (comm_none (stp_none hb)).symm
  · rcases kinds b with hb | hb | hb | hb | hb | hb | hb
    · exact (comm_well_both (Ne.symm (h3 (.inr (.inl ha)) (.inl hb))) (stp_fill hb) (stp_draw ha)).symm
    · omega
    · omega
    · omega
    · omega
    · exact (comm_heat_both (stp_heat hb) (stp_draw ha)).symm
    · exact (comm_none (stp_none hb)).symm
  · rcases kinds b with hb | hb | hb | hb | hb | hb | hb
    · exact (comm_well_both (Ne.symm (h3 (.inr (.inr ha)) (.inl hb))) (stp_fill hb) (stp_put ha)).symm
    · omega
    · omega
    · omega
    · omega
    · exact (comm_heat_both (stp_heat hb) (stp_put ha)).symm
    · exact (comm_none (stp_none hb)).symm
  · rcases kinds b with hb | hb | hb | hb | hb | hb | hb
    · exact comm_heat_both (stp_heat ha) (stp_fill hb).both
    · exact comm_heat_tip (stp_heat ha) (stp_tip hb)
    · exact comm_heat_tip (stp_heat ha) (stp_drop hb)
    · exact comm_heat_both (stp_heat ha) (stp_draw hb)
    · exact comm_heat_both (stp_heat ha) (stp_put hb)
    · omega
    · exact (comm_none (stp_none hb)).symm
  · exact comm_none (stp_none ha)
theorem stp_rising {l : List Sit} {a : Acn} {s t : Sta} (hs : Rising s.wells) (e : stp l a s = some t) : Rising t.wells := by
  rcases kinds a with ha | ha | ha | ha | ha | ha | ha
  · exact onBoth_rising (stp_fill ha).both hs e
  · exact onTip_rising (stp_tip ha) hs e
  · exact onTip_rising (stp_drop ha) hs e
  · exact onBoth_rising (stp_draw ha) hs e
  · exact onBoth_rising (stp_put ha) hs e
  · exact onHeat_rising (stp_heat ha) hs e
  · rw [stp_none ha s] at e; cases e

/-! ### other orders -/
theorem run_pull (l : List Sit) (x : Acn) : ∀ (a b : List Acn) (s : Sta), Rising s.wells → (∀ y ∈ a, hangB y x = false) → runO l (a ++ x :: b) s = runO l (x :: (a ++ b)) s
  | [], b, s, _, _ => rfl
  | y :: a, b, s, hs, h => by
    show (stp l y s).bind (runO l (a ++ x :: b)) = (stp l x s).bind fun t => (stp l y t).bind (runO l (a ++ b))
    have hc := stp_comm l (h y (by simp)) s hs
    cases hy : stp l y s with
    | none =>
      rw [hy] at hc
      cases hx : stp l x s with
      | none => rfl
      | some t =>
        rw [hx] at hc
        show none = (stp l y t).bind _
        have hc2 : none = stp l y t := hc
        rw [← hc2]
        rfl
    | some t =>
      rw [hy] at hc
      show runO l (a ++ x :: b) t = _
      rw [run_pull l x a b t (stp_rising hs hy) fun z hz => h z (by simp [hz])]
      show (stp l x t).bind (runO l (a ++ b)) = _
      have hc2 : stp l x t = (stp l x s).bind (stp l y) := hc
      rw [hc2]
      cases stp l x s with
      | none => rfl
      | some u => rfl
theorem sub_pair {i j x : Nat} {r : List Nat} (h : [i, j].Sublist (x :: r)) (hi : i ≠ x) : [i, j].Sublist r := by
  cases h with
  | cons _ h => exact h
  | cons_cons _ h => exact absurd rfl hi
theorem run_perm (l : List Sit) (acs : Nat → Acn) : ∀ (ys xs : List Nat) (s : Sta), Rising s.wells → ys.Perm xs → xs.Nodup →
    (∀ i j, hangB (acs i) (acs j) = true → [i, j].Sublist xs → [i, j].Sublist ys) → runO l (ys.map acs) s = runO l (xs.map acs) s
  | [], xs, s, _, hp, _, _ => by rw [List.Perm.nil_eq hp]
  | x :: r, xs, s, hs, hp, hn, hd => by
    have hx : x ∈ xs := hp.mem_iff.1 (by simp)
    obtain ⟨a, b, e⟩ := List.append_of_mem hx
    subst e
    have hny : (x :: r).Nodup := hp.nodup_iff.2 hn
    have hxr : x ∉ r := (List.nodup_cons.1 hny).1
    have hpr : r.Perm (a ++ b) := (hp.trans List.perm_middle).cons_inv
    have hxab : x ∉ a ++ b := fun h => hxr (hpr.mem_iff.2 h)
    have hnab : (a ++ b).Nodup := hpr.nodup_iff.1 (List.nodup_cons.1 hny).2
    have ha : ∀ y ∈ a.map acs, hangB y (acs x) = false := by
      intro y hy
      obtain ⟨k, hk, rfl⟩ := List.mem_map.1 hy
      cases h : hangB (acs k) (acs x) with
      | false => rfl
      | true =>
        have hsub : [k, x].Sublist (a ++ x :: b) := by
          have h1 : [k].Sublist a := List.singleton_sublist.2 hk
          have h2 : [x].Sublist (x :: b) := List.singleton_sublist.2 (by simp)
          exact h1.append h2
        have h3 := hd k x h hsub
        have hkx : k ≠ x := fun e => hxab (e ▸ (by simp [hk]))
        have h4 := sub_pair h3 hkx
        exact absurd (h4.subset (by simp)) hxr
    rw [List.map_append, List.map_cons (l := b), run_pull l (acs x) _ _ s hs ha]
    show (stp l (acs x) s).bind (runO l (r.map acs)) = (stp l (acs x) s).bind _
    cases h : stp l (acs x) s with
    | none => rfl
    | some t =>
      show runO l (r.map acs) t = runO l (a.map acs ++ b.map acs) t
      rw [← List.map_append]
      refine run_perm l acs r (a ++ b) t (stp_rising hs h) hpr hnab fun i j hij hsub => ?_
      have h1 : [i, j].Sublist (a ++ x :: b) := hsub.trans (List.Sublist.append (List.Sublist.refl _) (List.sublist_cons_self _ _))
      have hi : i ≠ x := fun e => hxab (e ▸ hsub.subset (by simp))
      exact sub_pair (hd i j hij h1) hi
end Go.Proofs.YtgbnjgenopdmfaaGreat

/- Levels, plainly. -/
namespace Go.Proofs.YtgbnjgenopdmfaaGreat
open Go.RowKit F
/-- Something on which actions hang: 1 the tip, 2 heat and time, 3 a well. -/
abbrev Std := Int × Plc
def strR (a : Acn) : List Std :=
  if a.kind = 5 then [(3, a.pl)] else if a.kind = 6 ∨ a.kind = 7 then [(1, 0, 0, 0)] else if a.kind = 8 ∨ a.kind = 9 then [(1, 0, 0, 0), (3, a.pl)]
  else if a.kind = 11 ∨ a.kind = 12 ∨ a.kind = 13 ∨ a.kind = 14 then [(2, 0, 0, 0)] else []
theorem str_5 {a : Acn} (h : a.kind = 5) : strR a = [(3, a.pl)] := by unfold strR; rw [if_pos h]
theorem str_67 {a : Acn} (h : a.kind = 6 ∨ a.kind = 7) : strR a = [(1, 0, 0, 0)] := by unfold strR; rw [if_neg (show ¬ a.kind = 5 by omega), if_pos h]
theorem str_89 {a : Acn} (h : a.kind = 8 ∨ a.kind = 9) : strR a = [(1, 0, 0, 0), (3, a.pl)] := by unfold strR; rw [if_neg (show ¬ a.kind = 5 by omega), if_neg (show ¬ (a.kind = 6 ∨ a.kind = 7) by omega), if_pos h]
theorem str_heat {a : Acn} (h : 11 ≤ a.kind ∧ a.kind ≤ 14) : strR a = [(2, 0, 0, 0)] := by
  unfold strR
  rw [if_neg (show ¬ a.kind = 5 by omega), if_neg (show ¬ (a.kind = 6 ∨ a.kind = 7) by omega), if_neg (show ¬ (a.kind = 8 ∨ a.kind = 9) by omega), if_pos (show a.kind = 11 ∨ a.kind = 12 ∨ a.kind = 13 ∨ a.kind = 14 by omega)]
theorem str_no {a : Acn} (h : ¬ (5 ≤ a.kind ∧ a.kind ≤ 9) ∧ ¬ (11 ≤ a.kind ∧ a.kind ≤ 14)) : strR a = [] := by
  unfold strR
  rw [if_neg (show ¬ a.kind = 5 by omega), if_neg (show ¬ (a.kind = 6 ∨ a.kind = 7) by omega), if_neg (show ¬ (a.kind = 8 ∨ a.kind = 9) by omega), if_neg (show ¬ (a.kind = 11 ∨ a.kind = 12 ∨ a.kind = 13 ∨ a.kind = 14) by omega)]
theorem mem_str {a : Acn} {s : Std} : s ∈ strR a ↔ (s = (1, 0, 0, 0) ∧ 6 ≤ a.kind ∧ a.kind ≤ 9) ∨ (s = (2, 0, 0, 0) ∧ 11 ≤ a.kind ∧ a.kind ≤ 14) ∨ (s = (3, a.pl) ∧ (a.kind = 5 ∨ a.kind = 8 ∨ a.kind = 9)) := by
  rcases kinds a with h | h | h | h | h | h | h
  · rw [str_5 h]; simp [h]
  · rw [str_67 (.inl h)]; simp [h]
  · rw [str_67 (.inr h)]; simp [h]
  · rw [str_89 (.inl h)]; simp [h]
  · rw [str_89 (.inr h)]; simp [h]
  · rw [str_heat h]
    have h1 : ¬ (6 ≤ a.kind ∧ a.kind ≤ 9) := by omega
    have h2 : ¬ (a.kind = 5 ∨ a.kind = 8 ∨ a.kind = 9) := by omega
    simp [h, h1, h2]
  · rw [str_no h]
    have h1 : ¬ (6 ≤ a.kind ∧ a.kind ≤ 9) := by omega
    have h2 : ¬ (a.kind = 5 ∨ a.kind = 8 ∨ a.kind = 9) := by omega
    simp [h.2, h1, h2]
theorem hang_str {a b : Acn} : hangB a b = true ↔ ∃ s, s ∈ strR a ∧ s ∈ strR b := by
  rw [hang_iff]
  constructor
  · rintro (h | h | ⟨h1, h2, h3⟩)
    · exact ⟨(1, 0, 0, 0), mem_str.2 (.inl ⟨rfl, h.1, h.2.1⟩), mem_str.2 (.inl ⟨rfl, h.2.2.1, h.2.2.2⟩)⟩
    · exact ⟨(2, 0, 0, 0), mem_str.2 (.inr (.inl ⟨rfl, h.1, h.2.1⟩)), mem_str.2 (.inr (.inl ⟨rfl, h.2.2.1, h.2.2.2⟩))⟩
    · exact ⟨(3, a.pl), mem_str.2 (.inr (.inr ⟨rfl, h1⟩)), mem_str.2 (.inr (.inr ⟨by rw [h3], h2⟩))⟩
  · rintro ⟨s, h1, h2⟩
    rcases mem_str.1 h1 with ⟨e, h1⟩ | ⟨e, h1⟩ | ⟨e, h1⟩
    · rcases mem_str.1 h2 with ⟨e2, h2⟩ | ⟨e2, h2⟩ | ⟨e2, h2⟩
      · exact .inl ⟨h1.1, h1.2, h2⟩
      · rw [e] at e2; cases e2
      · rw [e] at e2; cases e2
    · rcases mem_str.1 h2 with ⟨e2, h2⟩ | ⟨e2, h2⟩ | ⟨e2, h2⟩
      · rw [e] at e2; cases e2
      · exact .inr (.inl ⟨h1.1, h1.2, h2⟩)
      · rw [e] at e2; cases e2
    · rcases mem_str.1 h2 with ⟨e2, h2⟩ | ⟨e2, h2⟩ | ⟨e2, h2⟩
      · rw [e] at e2; cases e2
      · rw [e] at e2; cases e2
      · rw [e] at e2
        exact .inr (.inr ⟨h1, h2, by injection e2⟩)

/-- The level of what hangs on strands. -/
def lvl (f : Std → Nat) : List Std → Nat
  | [] => 0
  | s :: r => max (f s) (lvl f r)
def upN (f : Std → Nat) (ss : List Std) (v : Nat) : Std → Nat := fun s => if s ∈ ss then v else f s
theorem lvl_ge {f : Std → Nat} {ss : List Std} {s : Std} (h : s ∈ ss) : f s ≤ lvl f ss := by
  induction ss with
  | nil => cases h
  | cons x r ih =>
    show f s ≤ max (f x) (lvl f r)
    rcases List.mem_cons.1 h with rfl | h
    · omega
    · have := ih h; omega
theorem lvl_cases (f : Std → Nat) (ss : List Std) : lvl f ss = 0 ∨ ∃ s ∈ ss, lvl f ss = f s := by
  induction ss with
  | nil => exact .inl rfl
  | cons x r ih =>
    show max (f x) (lvl f r) = 0 ∨ ∃ s ∈ x :: r, max (f x) (lvl f r) = f s
    by_cases h : lvl f r ≤ f x
    · exact .inr ⟨x, by simp, by omega⟩
    · rcases ih with ih | ⟨s, hs, e⟩
      · omega
      · exact .inr ⟨s, by simp [hs], by omega⟩
def nxF : (Std → Nat) → List Acn → Std → Nat
  | f, [] => f
  | f, a :: r => nxF (upN f (strR a) (lvl f (strR a) + 1)) r
def lvF : (Std → Nat) → List Acn → List Nat
  | _, [] => []
  | f, a :: r => lvl f (strR a) :: lvF (upN f (strR a) (lvl f (strR a) + 1)) r
def nx0 : Std → Nat := fun _ => 0
abbrev nxs (l : List Acn) : Std → Nat := nxF nx0 l
abbrev lvs (l : List Acn) : List Nat := lvF nx0 l
theorem nxF_append (f : Std → Nat) (a b : List Acn) : nxF f (a ++ b) = nxF (nxF f a) b := by
  induction a generalizing f with
  | nil => rfl
  | cons x r ih => exact ih _
theorem lvF_append (f : Std → Nat) (a b : List Acn) : lvF f (a ++ b) = lvF f a ++ lvF (nxF f a) b := by
  induction a generalizing f with
  | nil => rfl
  | cons x r ih => show _ :: lvF _ (r ++ b) = _ :: (lvF _ r ++ _); rw [ih]; rfl
theorem nxs_snoc (l : List Acn) (a : Acn) : nxs (l ++ [a]) = upN (nxs l) (strR a) (lvl (nxs l) (strR a) + 1) := by rw [nxs, nxF_append]; rfl
theorem lvs_snoc (l : List Acn) (a : Acn) : lvs (l ++ [a]) = lvs l ++ [lvl (nxs l) (strR a)] := by rw [lvs, lvF_append]; rfl
theorem lvF_length (f : Std → Nat) (l : List Acn) : (lvF f l).length = l.length := by
  induction l generalizing f with
  | nil => rfl
  | cons x r ih => show (lvF _ r).length + 1 = r.length + 1; rw [ih]
theorem lvs_length (l : List Acn) : (lvs l).length = l.length := lvF_length _ _
theorem snocI {α : Type} {p : List α → Prop} (h0 : p []) (h1 : ∀ l a, p l → p (l ++ [a])) : ∀ l, p l := by
  have : ∀ n, ∀ l : List α, l.length = n → p l := by
    intro n
    induction n with
    | zero => intro l hl; rw [List.eq_nil_of_length_eq_zero hl]; exact h0
    | succ n ih =>
      intro l hl
      have hne : l ≠ [] := by intro e; rw [e] at hl; cases hl
      rw [← List.dropLast_concat_getLast hne]
      exact h1 _ _ (ih _ (by rw [List.length_dropLast]; omega))
  exact fun l => this _ l rfl
/-- What hangs next on a strand stands behind all that hang on it, and right behind one of them. -/
theorem nxs_at (l : List Acn) : (∀ i (h : i < l.length) s, s ∈ strR (l[i]'h) → (lvs l)[i]'(by rw [lvs_length]; exact h) + 1 ≤ nxs l s) ∧
    ∀ s, nxs l s = 0 ∨ ∃ i, ∃ h : i < l.length, s ∈ strR (l[i]'h) ∧ nxs l s = (lvs l)[i]'(by rw [lvs_length]; exact h) + 1 := by
  induction l using snocI with
  | h0 => exact ⟨fun i h => absurd h (Nat.not_lt_zero i), fun s => .inl rfl⟩
  | h1 l a ih =>
    obtain ⟨ih1, ih2⟩ := ih
    have mono : ∀ s, nxs l s ≤ nxs (l ++ [a]) s := fun s => by
      rw [nxs_snoc]
      unfold upN
      split
      · rename_i h; have := lvl_ge (f := nxs l) h; omega
      · exact Nat.le_refl _
    have hl := lvs_length l
    constructor
    · intro i h s hs
      by_cases hi : i < l.length
      · have e1 : (l ++ [a])[i]'h = l[i]'hi := List.getElem_append_left hi
        rw [e1] at hs
        have h2 := ih1 i hi s hs
        have e2 : (lvs (l ++ [a]))[i]'(by rw [lvs_length]; exact h) = (lvs l)[i]'(by omega) := by simp only [lvs_snoc]; exact List.getElem_append_left (by omega)
        rw [e2]
        exact Nat.le_trans h2 (mono s)
      · have e : i = l.length := by simp at h; omega
        subst e
        have e1 : (l ++ [a])[l.length]'h = a := by simp
        rw [e1] at hs
        have e2 : (lvs (l ++ [a]))[l.length]'(by rw [lvs_length]; exact h) = lvl (nxs l) (strR a) := by simp only [lvs_snoc]; rw [List.getElem_append_right (by omega)]; simp [hl]
        rw [e2, nxs_snoc]
        unfold upN
        rw [if_pos hs]
        exact Nat.le_refl _
    · intro s
      by_cases hs : s ∈ strR a
      · refine .inr ⟨l.length, by simp, ?_, ?_⟩
        · simpa using hs
        · have e2 : (lvs (l ++ [a]))[l.length]'(by rw [lvs_length]; simp) = lvl (nxs l) (strR a) := by simp only [lvs_snoc]; rw [List.getElem_append_right (by omega)]; simp [hl]
          rw [e2, nxs_snoc]
          unfold upN
          rw [if_pos hs]
      · have e : nxs (l ++ [a]) s = nxs l s := by rw [nxs_snoc]; unfold upN; rw [if_neg hs]
        rw [e]
        rcases ih2 s with h | ⟨i, h, h1, h2⟩
        · exact .inl h
        · refine .inr ⟨i, by simp; omega, ?_, ?_⟩
          · rw [List.getElem_append_left h]; exact h1
          · rw [h2]
            have e2 : (lvs (l ++ [a]))[i]'(by rw [lvs_length]; simp; omega) = (lvs l)[i]'(by omega) := by simp only [lvs_snoc]; exact List.getElem_append_left (by omega)
            rw [e2]
theorem lvs_take {l : List Acn} {n : Nat} (hn : n ≤ l.length) : lvs (l.take n) = (lvs l).take n := by
  have e : l = l.take n ++ l.drop n := (List.take_append_drop n l).symm
  have e2 : lvs l = lvs (l.take n) ++ lvF (nxF nx0 (l.take n)) (l.drop n) := by conv => lhs; rw [e, lvs, lvF_append]
  have hln : (lvs (l.take n)).length = n := by rw [lvs_length, List.length_take]; omega
  rw [e2, List.take_append_of_le_length (by omega)]
  exact (List.take_of_length_le (by omega)).symm
theorem lvs_next {l : List Acn} {n : Nat} (hn : n < l.length) : (lvs l)[n]'(by rw [lvs_length]; exact hn) = lvl (nxs (l.take n)) (strR (l[n]'hn)) := by
  have e : l.take (n + 1) = l.take n ++ [l[n]'hn] := by rw [List.take_succ_eq_append_getElem]
  have h1 := lvs_take (l := l) (n := n + 1) hn
  rw [e, lvs_snoc] at h1
  have h2 : ((lvs l).take (n + 1))[n]? = some (lvl (nxs (l.take n)) (strR (l[n]'hn))) := by
    rw [← h1, List.getElem?_append_right (by rw [lvs_length, List.length_take]; omega)]
    simp [lvs_length, Nat.min_eq_left (Nat.le_of_lt hn)]
  rw [List.getElem?_take] at h2
  rw [if_pos (by omega)] at h2
  exact (List.getElem?_eq_some_iff.1 h2).2
/-- What hangs on another stands behind it. -/
theorem lvs_hang {l : List Acn} {i j : Nat} (hj : j < l.length) (hij : i < j) (h : hangB (l[i]'(by omega)) (l[j]'hj) = true) :
    (lvs l)[i]'(by rw [lvs_length]; omega) < (lvs l)[j]'(by rw [lvs_length]; exact hj) := by
  obtain ⟨s, h1, h2⟩ := hang_str.1 h
  rw [lvs_next hj]
  have h3 := (nxs_at (l.take j)).1 i (by rw [List.length_take]; omega) s (by simpa using h1)
  have h4 := lvl_ge (f := nxs (l.take j)) h2
  have e : (lvs (l.take j))[i]'(by rw [lvs_length, List.length_take]; omega) = (lvs l)[i]'(by rw [lvs_length]; omega) := by simp only [lvs_take (Nat.le_of_lt hj)]; simp
  rw [e] at h3
  omega

/-! ### levels -/
def addG (g : List (List Nat)) (i n : Nat) : List (List Nat) := if n = g.length then g ++ [[i]] else g.set n ((g[n]?.getD []) ++ [i])
def grpF : List (List Nat) → Nat → List Nat → List (List Nat)
  | g, _, [] => g
  | g, i, n :: r => grpF (addG g i n) (i + 1) r
abbrev grp (ls : List Nat) : List (List Nat) := grpF [] 0 ls
theorem grpF_append (g : List (List Nat)) (i : Nat) (a b : List Nat) : grpF g i (a ++ b) = grpF (grpF g i a) (i + a.length) b := by
  induction a generalizing g i with
  | nil => rfl
  | cons x r ih => show grpF _ _ (r ++ b) = _; rw [ih]; show _ = grpF _ (i + (r.length + 1)) b; rw [show i + 1 + r.length = i + (r.length + 1) from by omega]; rfl
theorem grp_snoc (ls : List Nat) (n : Nat) : grp (ls ++ [n]) = addG (grp ls) ls.length n := by
  rw [grp, grpF_append, Nat.zero_add]; rfl
structure GInv (g : List (List Nat)) (ls : List Nat) : Prop where
  each : ∀ k (h : k < g.length), g[k]'h ≠ [] ∧ (g[k]'h).Pairwise (· < ·) ∧ ∀ i, i ∈ g[k]'h ↔ ls[i]? = some k
  all : ∀ (i n : Nat), ls[i]? = some n → n < g.length
theorem GInv.nil : GInv [] [] := ⟨fun k h => absurd h (Nat.not_lt_zero k), fun i n h => by simp at h⟩
theorem GInv.add {g : List (List Nat)} {ls : List Nat} (h : GInv g ls) {n : Nat} (hn : n ≤ g.length) : GInv (addG g ls.length n) (ls ++ [n]) := by
  have hnew : ∀ i k, (ls ++ [n])[i]? = some k ↔ (ls[i]? = some k ∨ (i = ls.length ∧ k = n)) := by
    intro i k
    by_cases hi : i < ls.length
    · rw [List.getElem?_append_left hi]
      constructor
      · exact .inl
      · rintro (h | ⟨h, _⟩)
        · exact h
        · omega
    · rw [List.getElem?_append_right (by omega)]
      by_cases e : i = ls.length
      · subst e
        have h0 : ls[ls.length]? = none := List.getElem?_eq_none (Nat.le_refl _)
        rw [Nat.sub_self, h0]
        constructor
        · intro h1; simp at h1; exact .inr ⟨rfl, h1.symm⟩
        · rintro (h1 | ⟨_, h1⟩)
          · cases h1
          · rw [h1]; rfl
      · have h0 : ls[i]? = none := List.getElem?_eq_none (by omega)
        rw [h0, List.getElem?_eq_none (by simp; omega)]
        constructor
        · intro h1; cases h1
        · rintro (h1 | ⟨h1, _⟩)
          · cases h1
          · exact absurd h1 e
  have hlt : ∀ (k : Nat) (hk : k < g.length), ∀ x ∈ g[k]'hk, x < ls.length := fun k hk x hx => by
    have := ((h.each k hk).2.2 x).1 hx
    exact (List.getElem?_eq_some_iff.1 this).1
  unfold addG
  split
  · rename_i e
    subst e
    constructor
    · intro k hk
      by_cases hk2 : k < g.length
      · rw [List.getElem_append_left hk2]
        obtain ⟨h1, h2, h3⟩ := h.each k hk2
        refine ⟨h1, h2, fun i => ?_⟩
        rw [h3, hnew]
        constructor
        · exact .inl
        · rintro (h4 | ⟨_, h4⟩)
          · exact h4
          · omega
      · have e : k = g.length := by simp at hk; omega
        subst e
        have e1 : (g ++ [[ls.length]])[g.length]'hk = [ls.length] := by simp
        rw [e1]
        refine ⟨by simp, by simp, fun i => ?_⟩
        rw [hnew, List.mem_singleton]
        constructor
        · exact fun h4 => .inr ⟨h4, rfl⟩
        · rintro (h4 | ⟨h4, _⟩)
          · have := h.all i _ h4; omega
          · exact h4
    · intro i k hk
      rw [List.length_append]
      rcases (hnew i k).1 hk with h4 | ⟨_, h4⟩
      · have := h.all i k h4; omega
      · simp; omega
  · rename_i e
    have hn2 : n < g.length := by omega
    have eg : g[n]?.getD [] = g[n]'hn2 := by rw [List.getElem?_eq_getElem hn2]; rfl
    rw [eg]
    constructor
    · intro k hk
      have hk2 : k < g.length := by simpa using hk
      rw [List.getElem_set]
      split
      · rename_i e2
        subst e2
        obtain ⟨h1, h2, h3⟩ := h.each n hn2
        refine ⟨by simp, ?_, fun i => ?_⟩
        · rw [List.pairwise_append]
          exact ⟨h2, by simp, fun x hx y hy => by simp at hy; rw [hy]; exact hlt n hn2 x hx⟩
        · rw [List.mem_append, h3, hnew, List.mem_singleton]
          constructor
          · rintro (h4 | h4)
            · exact .inl h4
            · exact .inr ⟨h4, rfl⟩
          · rintro (h4 | ⟨h4, _⟩)
            · exact .inl h4
            · exact .inr h4
      · rename_i e2
        obtain ⟨h1, h2, h3⟩ := h.each k hk2
        refine ⟨h1, h2, fun i => ?_⟩
        rw [h3, hnew]
        constructor
        · exact .inl
        · rintro (h4 | ⟨_, h4⟩)
          · exact h4
          · exact absurd h4.symm e2
    · intro i k hk
      rw [List.length_set]
      rcases (hnew i k).1 hk with h4 | ⟨_, h4⟩
      · exact h.all i k h4
      · omega
theorem lvs_inv (l : List Acn) : GInv (grp (lvs l)) (lvs l) ∧ ∀ s, nxs l s ≤ (grp (lvs l)).length := by
  induction l using snocI with
  | h0 => exact ⟨GInv.nil, fun s => Nat.le_refl 0⟩
  | h1 l a ih =>
    obtain ⟨h1, h2⟩ := ih
    have hle : lvl (nxs l) (strR a) ≤ (grp (lvs l)).length := by
      rcases lvl_cases (nxs l) (strR a) with h | ⟨s, _, h⟩
      · omega
      · rw [h]; exact h2 s
    have h3 := h1.add hle
    rw [← grp_snoc, ← lvs_snoc] at h3
    refine ⟨h3, fun s => ?_⟩
    rcases (nxs_at (l ++ [a])).2 s with h | ⟨i, hi, _, h⟩
    · omega
    · rw [h]
      have := h3.all i _ (List.getElem?_eq_getElem (by rw [lvs_length]; exact hi))
      omega
theorem lvl_le (l : List Acn) (a : Acn) : lvl (nxs l) (strR a) ≤ (grp (lvs l)).length := by
  rcases lvl_cases (nxs l) (strR a) with h | ⟨s, _, h⟩
  · omega
  · rw [h]; exact (lvs_inv l).2 s
abbrev levR (l : List Acn) : List (List Nat) := grp (lvs l)
theorem levR_snoc (l : List Acn) (a : Acn) : levR (l ++ [a]) = addG (levR l) l.length (lvl (nxs l) (strR a)) := by
  rw [levR, lvs_snoc, grp_snoc, lvs_length]

/-! ### one behind the other, whichever of a level is first -/
structure GPart (g : List (List Nat)) (ls : List Nat) : Prop where
  each : ∀ k (h : k < g.length), (g[k]'h).Nodup ∧ ∀ i, i ∈ g[k]'h ↔ ls[i]? = some k
  all : ∀ (i n : Nat), ls[i]? = some n → n < g.length
theorem GPart.perm {g : List (List Nat)} {ls : List Nat} (h : GPart g ls) : g.flatten.Perm (List.range ls.length) := by
  have hnd : g.flatten.Nodup := by
    unfold List.Nodup
    rw [List.pairwise_flatten]
    constructor
    · intro l hl
      obtain ⟨k, hk, rfl⟩ := List.mem_iff_getElem.1 hl
      exact (h.each k hk).1
    · rw [List.pairwise_iff_getElem]
      intro i j hi hj hij x hx y hy e
      have h1 := ((h.each i hi).2 x).1 hx
      have h2 := ((h.each j hj).2 y).1 hy
      rw [e, h2] at h1
      injection h1 with h1
      omega
  refine (List.perm_ext_iff_of_nodup hnd List.nodup_range).2 fun i => ?_
  rw [List.mem_range, List.mem_flatten]
  constructor
  · rintro ⟨l, hl, hi⟩
    obtain ⟨k, hk, rfl⟩ := List.mem_iff_getElem.1 hl
    exact (List.getElem?_eq_some_iff.1 (((h.each k hk).2 i).1 hi)).1
  · intro hi
    have h1 : ls[i]? = some (ls[i]'hi) := List.getElem?_eq_getElem hi
    have h2 := h.all i _ h1
    exact ⟨g[ls[i]'hi]'h2, List.getElem_mem h2, ((h.each _ h2).2 i).2 h1⟩
theorem GPart.sub {g : List (List Nat)} {ls : List Nat} (h : GPart g ls) {i j a b : Nat} (hi : ls[i]? = some a) (hj : ls[j]? = some b) (hab : a < b) : [i, j].Sublist g.flatten := by
  have hb := h.all j b hj
  have ha : a < g.length := by omega
  have e : g.flatten = (g.take (a + 1)).flatten ++ (g.drop (a + 1)).flatten := by rw [← List.flatten_append, List.take_append_drop]
  rw [e]
  have h1 : [i].Sublist (g.take (a + 1)).flatten := List.singleton_sublist.2 (List.mem_flatten.2 ⟨g[a]'ha, by rw [List.mem_iff_getElem]; exact ⟨a, by simp; omega, by simp⟩, ((h.each a ha).2 i).2 hi⟩)
  have h2 : [j].Sublist (g.drop (a + 1)).flatten := List.singleton_sublist.2 (List.mem_flatten.2 ⟨g[b]'hb, by rw [List.mem_iff_getElem]; exact ⟨b - (a + 1), by simp; omega, by simp; congr 1; omega⟩, ((h.each b hb).2 j).2 hj⟩)
  exact h1.append h2
theorem pair_range {i j n : Nat} (h : [i, j].Sublist (List.range n)) : i < j ∧ j < n := by
  have h1 : (List.range n).Pairwise (· < ·) := List.pairwise_lt_range
  have h2 := h1.sublist h
  exact ⟨by simpa using h2, by have := h.subset (show j ∈ [i, j] by simp); simpa using this⟩
def acAt (l : List Acn) (i : Nat) : Acn := (l[i]?).getD ⟨0, (0, 0, 0), ⟨#[]⟩, 0, 0, 0⟩
theorem acAt_lt {l : List Acn} {i : Nat} (h : i < l.length) : acAt l i = l[i]'h := by simp [acAt, List.getElem?_eq_getElem h]
theorem map_acAt (l : List Acn) : (List.range l.length).map (acAt l) = l := by
  apply List.ext_getElem (by simp)
  intro i h1 h2
  simp [acAt_lt h2]
/-- Level by level all comes to the same. -/
theorem levels_same (d : List Sit) {l : List Acn} {g : List (List Nat)} (h : GPart g (lvs l)) {s : Sta} (hs : Rising s.wells) : runO d (g.flatten.map (acAt l)) s = runO d l s := by
  have hp := h.perm
  rw [lvs_length] at hp
  have := run_perm d (acAt l) g.flatten (List.range l.length) s hs hp List.nodup_range fun i j hij hsub => by
    obtain ⟨h1, h2⟩ := pair_range hsub
    rw [acAt_lt h2, acAt_lt (show i < l.length by omega)] at hij
    exact h.sub (List.getElem?_eq_getElem (by rw [lvs_length]; omega)) (List.getElem?_eq_getElem (by rw [lvs_length]; exact h2)) (lvs_hang h2 h1 hij)
  rw [this, map_acAt]
/-- A level, from one of its actions on. -/
def rotL (f : Nat) (l : List Nat) : List Nat := l.drop f ++ l.take f
theorem rot_part {ls : List Nat} {g : List (List Nat)} (h : GInv g ls) (f : List Nat → Nat) : GPart (g.map fun l => rotL (f l) l) ls := by
  constructor
  · intro k hk
    have hk2 : k < g.length := by simpa using hk
    rw [List.getElem_map]
    obtain ⟨_, h2, h3⟩ := h.each k hk2
    have hp : (rotL (f (g[k]'hk2)) (g[k]'hk2)).Perm (g[k]'hk2) := by
      unfold rotL
      exact List.perm_append_comm.trans (by rw [List.take_append_drop])
    have hn : (g[k]'hk2).Nodup := h2.imp fun h => Nat.ne_of_lt h
    exact ⟨hp.nodup_iff.2 hn, fun i => by rw [hp.mem_iff, h3]⟩
  · intro i n hi
    rw [List.length_map]
    exact h.all i n hi
end Go.Proofs.YtgbnjgenopdmfaaGreat
