/- Maps keyed by places. -/
import Derived.Test.YtjappkfhballhaaGreatMN
import Derived.DeepKeys5
import Derived.Maps.OwnSet
import Derived.Maps.OwnOps
import Derived.Maps.RangeWalk
namespace Go.Proofs.YtjappkfhballhaaGreat
open Go.RowKit Go.Maps

/-- Numbers that an int can hold. -/
def Wf1 (n : Int) : Prop := -9223372036854775808 ≤ n ∧ n ≤ 9223372036854775807
def Wf3 (p : Plc) : Prop := Wf1 p.1 ∧ Wf1 p.2.1 ∧ Wf1 p.2.2
theorem wf_lit {n : Int} (h : Wf1 n) : (Lit.int .i64 n).wf = true := F.i64_wf h.1 h.2
theorem lit_wf {n : Int} (h : (Lit.int .i64 n).wf = true) : Wf1 n := by
  have e1 : IntKind.i64.min = -9223372036854775808 := rfl
  have e2 : IntKind.i64.max = 9223372036854775807 := rfl
  simp only [Lit.wf, Bool.and_eq_true, decide_eq_true_eq] at h
  unfold Wf1
  omega
theorem laidOutP : laidOutB Tryz.prog = true := by kernel_rfl
theorem lawP : Keyed Tryz.prog 31 := Keyed.of_law (deep_law_gate laidOutP (of_decide_eq_true (by kernel_rfl)) (of_decide_eq_true (by kernel_rfl)) (by kernel_rfl) (by kernel_rfl))
theorem keyT : Tryz.prog.keyType 31 = true := by kernel_rfl
theorem cellsP : Tryz.prog.cellsOf 31 = 3 := by kernel_rfl
theorem cellsSp : Tryz.prog.cellsOf 29 = 2 := by kernel_rfl
theorem cellsI : Tryz.prog.cellsOf 3 = 1 := by kernel_rfl
theorem sizeT : Tryz.prog.types.size + 1 = 217 := by kernel_rfl
set_option maxRecDepth 100000 in
theorem lits_int (d : Nat) {n : Int} (h : Wf1 n) : Tryz.prog.keyLits (d + 1) 3 [.int .i64 n] = some [.int .i64 n] := by
  unfold Program.keyLits
  rw [Tryz.underlying3]
  simp [wf_lit h]
set_option maxRecDepth 100000 in
theorem lits_int_inv {d : Nat} {cs : List Value} {x : List Lit} (h : Tryz.prog.keyLits (d + 1) 3 cs = some x) : ∃ n, cs = [.int .i64 n] ∧ Wf1 n := by
  unfold Program.keyLits at h
  rw [Tryz.underlying3] at h
  split at h
  · rename_i heq; cases heq
  · rename_i q q' n heq
    injection heq with heq
    injection heq with heq
    subst heq
    split at h
    · rename_i hc
      exact ⟨n, by rw [hc.1], lit_wf hc.2⟩
    · cases h
  · rename_i heq; cases heq
  · rename_i heq; cases heq
  · rename_i heq; cases heq
  · cases h
set_option maxRecDepth 100000 in
theorem lits_spot (d : Nat) {r c : Int} (hr : Wf1 r) (hc : Wf1 c) : Tryz.prog.keyLits (d + 2) 29 [.int .i64 r, .int .i64 c] = some [.int .i64 r, .int .i64 c] := by
  unfold Program.keyLits
  rw [Tryz.underlying29]
  simp [cellsSp, cellsI, lits_int d hr, lits_int d hc]
set_option maxRecDepth 100000 in
theorem lits_place (d : Nat) {p : Plc} (h : Wf3 p) : Tryz.prog.keyLits (d + 3) 31 [.int .i64 p.1, .int .i64 p.2.1, .int .i64 p.2.2] = some [.int .i64 p.1, .int .i64 p.2.1, .int .i64 p.2.2] := by
  unfold Program.keyLits
  rw [Tryz.underlying31]
  simp [cellsP, cellsSp, cellsI, lits_int (d + 1) h.1, lits_spot d h.2.1 h.2.2]
/-- What a place reads as. -/
def klP (p : Plc) : Lit := .string (keyBytes [.int .i64 p.1, .int .i64 p.2.1, .int .i64 p.2.2])
set_option maxRecDepth 100000 in
theorem keyP_some {p : Plc} (h : Wf3 p) : keyOf Tryz.prog 31 (plv p) = some (klP p) := by
  unfold keyOf
  rw [Tryz.underlying31]
  simp only [keyT, sizeT]
  have hf : (plv p).formed Tryz.prog 31 = true := by simp [Value.formed, Tryz.underlying31, cellsP]
  rw [hf]
  simp only [Bool.and_self, if_true, Value.cells, List.toList_toArray]
  rw [show 217 = 214 + 3 from rfl, lits_place 214 h]
  rfl
set_option maxRecDepth 100000 in
theorem keyP_inv {v : Value} {kl : Lit} (h : keyOf Tryz.prog 31 v = some kl) : ∃ p, v = plv p ∧ Wf3 p := by
  unfold keyOf at h
  rw [Tryz.underlying31] at h
  simp only at h
  split at h
  · rename_i hc
    rw [keyT, Bool.true_and] at hc
    cases v with
    | agg cs =>
      simp only [Value.formed, Tryz.underlying31, cellsP, beq_iff_eq] at hc
      obtain ⟨a, b, c, hcs⟩ : ∃ a b c, cs = #[a, b, c] := by
        obtain ⟨l⟩ := cs
        match l, hc with
        | [a, b, c], _ => exact ⟨a, b, c, rfl⟩
      subst hcs
      rw [sizeT, show 217 = 214 + 3 from rfl] at h
      obtain ⟨ls, h1⟩ : ∃ ls, Tryz.prog.keyLits (214 + 3) 31 [a, b, c] = some ls := by
        cases h2 : Tryz.prog.keyLits (214 + 3) 31 [a, b, c] with
        | none => simp only [Value.cells] at h; rw [h2] at h; cases h
        | some ls => exact ⟨ls, rfl⟩
      unfold Program.keyLits at h1
      rw [Tryz.underlying31] at h1
      simp only [cellsP] at h1
      obtain ⟨x, hx⟩ : ∃ x, Tryz.prog.keyLits (214 + 2) 3 [a] = some x := by
        cases h2 : Tryz.prog.keyLits (214 + 2) 3 [a] with
        | none => simp [cellsI, h2] at h1
        | some x => exact ⟨x, rfl⟩
      obtain ⟨y, hy⟩ : ∃ y, Tryz.prog.keyLits (214 + 2) 29 [b, c] = some y := by
        cases h2 : Tryz.prog.keyLits (214 + 2) 29 [b, c] with
        | none => simp [cellsI, cellsSp, hx, h2] at h1
        | some x => exact ⟨x, rfl⟩
      obtain ⟨n, e1, hn⟩ := lits_int_inv (d := 214 + 1) hx
      unfold Program.keyLits at hy
      rw [Tryz.underlying29] at hy
      simp only [cellsSp] at hy
      obtain ⟨x2, hx2⟩ : ∃ x, Tryz.prog.keyLits (214 + 1) 3 [b] = some x := by
        cases h2 : Tryz.prog.keyLits (214 + 1) 3 [b] with
        | none => simp [cellsI, h2] at hy
        | some x => exact ⟨x, rfl⟩
      obtain ⟨x3, hx3⟩ : ∃ x, Tryz.prog.keyLits (214 + 1) 3 [c] = some x := by
        cases h2 : Tryz.prog.keyLits (214 + 1) 3 [c] with
        | none => simp [cellsI, hx2, h2] at hy
        | some x => exact ⟨x, rfl⟩
      obtain ⟨n2, e2, hn2⟩ := lits_int_inv (d := 214) hx2
      obtain ⟨n3, e3, hn3⟩ := lits_int_inv (d := 214) hx3
      injection e1 with e1
      injection e2 with e2
      injection e3 with e3
      subst e1 e2 e3
      exact ⟨(n, n2, n3), rfl, hn, hn2, hn3⟩
    | _ => simp [Value.formed, Tryz.underlying31] at hc
  · cases h
set_option maxRecDepth 100000 in
theorem klP_inj {p q : Plc} (hp : Wf3 p) (hq : Wf3 q) (h : klP p = klP q) : p = q := by
  have := lawP.inj (keyP_some hp) (by rw [h]; exact keyP_some hq)
  injection this with e
  simp at e
  exact Prod.ext e.1 (Prod.ext e.2.1 e.2.2)
set_option maxRecDepth 100000 in
theorem keyP_eq {p : Plc} {kl : Lit} (hp : Wf3 p) (h : keyOf Tryz.prog 31 (plv p) = some kl) : kl = klP p := by
  rw [keyP_some hp] at h
  injection h with h
  exact h.symm

/-- An element as it is. -/
def RV (v : Value) : Option (DataW Value × List MemPlace) := some (.held v, [])
abbrev hdv (f : F.Fd) : Value := .slice f.1 f.2.2.length f.2.1
/-- What a map of wells holds. -/
structure Reads (D : DataW Value) (wl : List Wh) : Prop where
  isMap : Tidy D
  size : Maps.size D = wl.length
  wf : ∀ x ∈ wl, Wf3 x.1
  at' : ∀ x ∈ wl, ∀ z, D.atKey (klP x.1) z = .held (hdv x.2)
  none' : ∀ p, Wf3 p → (∀ x ∈ wl, x.1 ≠ p) → Maps.has D (klP p) = false
/-- Block m is a map of wells. -/
def WM (w : World) (m : Nat) (wl : List Wh) : Prop := ∃ D, w.ownsMap Tryz.prog 31 RV m (Maps.size D) D ∧ Reads D wl
set_option maxRecDepth 100000 in
theorem own_tight {w : World} {k : TypeId} {R : Value → Option (DataW Value × List MemPlace)} {b n : Nat} {D : DataW Value} (h : w.ownsMap Tryz.prog k R b n D) : w.ownsMap Tryz.prog k R b (Maps.size D) D := by
  obtain ⟨es, clock, hb, F, _, hD⟩ := h
  refine ⟨es, clock, hb, F, ?_, hD⟩
  rw [hD, Maps.size_eq, length_sorted]
  simp
theorem WM.lt {w : World} {m : Nat} {wl : List Wh} (h : WM w m wl) : m < w.heap.size := by
  obtain ⟨D, h1, _⟩ := h
  exact h1.lt
theorem WM.same {w w1 : World} {m : Nat} {wl : List Wh} (h : WM w m wl) (hb : w1.heap[m]? = w.heap[m]?) : WM w1 m wl := by
  obtain ⟨D, ⟨es, clock, h1, h2⟩, h3⟩ := h
  exact ⟨D, ⟨es, clock, hb.trans h1, h2⟩, h3⟩
theorem WM.next {w w1 : World} {m : Nat} {wl : List Wh} (h : WM w m wl) (hb : Below w.heap.size w w1) : WM w1 m wl := h.same (hb.block m h.lt)
theorem reads_nil : Reads (.map []) [] := ⟨tidy_empty, rfl, (fun _ h => by cases h), (fun _ h => by cases h), fun _ _ _ => rfl⟩
theorem WM.made (w : World) : WM (w.alloc (.map #[] 0)) w.heap.size [] := ⟨.map [], World.ownsMap_made w _ _ _, reads_nil⟩
/-- Wells without one; with one more. -/
def delH (wl : List Wh) (p : Plc) : List Wh := wl.filter fun x => decide (x.1 ≠ p)
def insH (x : Wh) : List Wh → List Wh
  | [] => [x]
  | y :: r => if pltB x.1 y.1 = true then x :: y :: r else y :: insH x r
theorem mem_insH {x y : Wh} {l : List Wh} : x ∈ insH y l ↔ x = y ∨ x ∈ l := by
  induction l with
  | nil => simp [insH]
  | cons z r ih =>
    unfold insH
    split
    · simp
    · rw [List.mem_cons, ih, List.mem_cons]
      constructor
      · rintro (h | h | h)
        · exact .inr (.inl h)
        · exact .inl h
        · exact .inr (.inr h)
      · rintro (h | h | h)
        · exact .inr (.inl h)
        · exact .inl h
        · exact .inr (.inr h)
theorem insH_length (x : Wh) (l : List Wh) : (insH x l).length = l.length + 1 := by
  induction l with
  | nil => rfl
  | cons y r ih =>
    unfold insH
    split
    · rfl
    · simp [ih]
theorem whp_insH (x : Wh) (l : List Wh) : whp (insH x l) = ins (x.1, x.2.2.2) (whp l) := by
  induction l with
  | nil => rfl
  | cons y r ih =>
    have e : whp (y :: r) = (y.1, y.2.2.2) :: whp r := rfl
    rw [e]
    unfold insH ins
    split
    · rfl
    · have e2 : whp (y :: insH x r) = (y.1, y.2.2.2) :: whp (insH x r) := rfl
      rw [e2, ih]
theorem whp_delH (l : List Wh) (p : Plc) : whp (delH l p) = wdel (whp l) p := by
  unfold whp delH wdel
  rw [List.filter_map]
  rfl
theorem mem_delH {x : Wh} {l : List Wh} {p : Plc} : x ∈ delH l p ↔ x ∈ l ∧ x.1 ≠ p := by simp [delH]
/-- No two of one place. -/
def Once (wl : List Wh) : Prop := wl.Pairwise fun x y => x.1 ≠ y.1
theorem once_of {wl : List Wh} (h : Rising (whp wl)) : Once wl := by
  unfold Rising whp at h
  rw [List.pairwise_map] at h
  exact h.imp fun hlt => plt_ne hlt
theorem once_one {wl : List Wh} (h : Once wl) {x y : Wh} (hx : x ∈ wl) (hy : y ∈ wl) (e : x.1 = y.1) : x = y := by
  induction wl with
  | nil => cases hx
  | cons z r ih =>
    obtain ⟨h1, h2⟩ := List.pairwise_cons.1 h
    rcases List.mem_cons.1 hx with ex | hx
    · rcases List.mem_cons.1 hy with ey | hy
      · rw [ex, ey]
      · exact absurd e (by rw [ex]; exact h1 y hy)
    · rcases List.mem_cons.1 hy with ey | hy
      · exact absurd e.symm (by rw [ey]; exact h1 x hx)
      · exact ih h2 hx hy
theorem delH_length {wl : List Wh} (h : Once wl) (p : Plc) : (delH wl p).length + (if (∃ x ∈ wl, x.1 = p) then 1 else 0) = wl.length := by
  induction wl with
  | nil => simp [delH]
  | cons y r ih =>
    obtain ⟨h1, h2⟩ := List.pairwise_cons.1 h
    have i := ih h2
    by_cases e : y.1 = p
    · have hn : ¬ ∃ x ∈ r, x.1 = p := fun ⟨x, hx, e2⟩ => h1 x hx (by rw [e, e2])
      rw [if_neg hn] at i
      rw [if_pos ⟨y, by simp, e⟩]
      have : delH (y :: r) p = delH r p := by simp [delH, e]
      rw [this]
      simp only [List.length_cons]
      omega
    · have hd : delH (y :: r) p = y :: delH r p := by simp [delH, e]
      rw [hd]
      by_cases hx : ∃ x ∈ r, x.1 = p
      · rw [if_pos hx] at i
        obtain ⟨x, hx1, hx2⟩ := hx
        rw [if_pos ⟨x, by simp [hx1], hx2⟩]
        simp only [List.length_cons]
        omega
      · rw [if_neg hx] at i
        rw [if_neg (by rintro ⟨x, hx1, hx2⟩; rcases List.mem_cons.1 hx1 with rfl | hx1; exact e hx2; exact hx ⟨x, hx1, hx2⟩)]
        simp only [List.length_cons]
        omega
theorem has_iff {D : DataW Value} {wl : List Wh} (h : Reads D wl) {p : Plc} (hp : Wf3 p) : Maps.has D (klP p) = true ↔ ∃ x ∈ wl, x.1 = p := by
  constructor
  · intro hh
    refine Classical.byContradiction fun hn => ?_
    have := h.none' p hp fun x hx e => hn ⟨x, hx, e⟩
    rw [this] at hh
    cases hh
  · rintro ⟨x, hx, rfl⟩
    exact has_true_of_atKey (h.at' x hx)
set_option maxRecDepth 100000 in
theorem reads_put {D : DataW Value} {wl : List Wh} (h : Reads D wl) (ho : Once wl) {x : Wh} (hx : Wf3 x.1) : Reads (D.put (klP x.1) (.held (hdv x.2))) (insH x (delH wl x.1)) := by
  have hk : WideAt.IsKeyLit (klP x.1) := lawP.key (keyP_some hx)
  refine ⟨h.isMap.put hk _, ?_, fun y hy => ?_, fun y hy z => ?_, fun p hp hn => ?_⟩
  · rw [size_put h.isMap, insH_length, h.size]
    have hl := delH_length ho x.1
    by_cases hh : Maps.has D (klP x.1) = true
    · rw [if_pos hh]
      rw [if_pos ((has_iff h hx).1 hh)] at hl
      omega
    · rw [if_neg hh]
      rw [if_neg (fun he => hh ((has_iff h hx).2 he))] at hl
      omega
  · rcases mem_insH.1 hy with rfl | hy
    · exact hx
    · exact h.wf y (mem_delH.1 hy).1
  · rcases mem_insH.1 hy with rfl | hy
    · exact atKey_put_same h.isMap.isMap hk _ _
    · obtain ⟨hy1, hy2⟩ := mem_delH.1 hy
      rw [atKey_put_other (fun e => hy2 (klP_inj (h.wf y hy1) hx e))]
      exact h.at' y hy1 z
  · have hne : p ≠ x.1 := fun e => hn x (mem_insH.2 (.inl rfl)) e.symm
    rw [has_put_other (fun e => hne (klP_inj hp hx e))]
    exact h.none' p hp fun y hy e => hn y (mem_insH.2 (.inr (mem_delH.2 ⟨hy, by rw [e]; exact hne⟩))) e
set_option maxRecDepth 100000 in
theorem reads_del {D : DataW Value} {wl : List Wh} (h : Reads D wl) (ho : Once wl) {p : Plc} (hp : Wf3 p) : Reads (D.del (klP p)) (delH wl p) := by
  refine ⟨h.isMap.del _, ?_, fun y hy => h.wf y (mem_delH.1 hy).1, fun y hy z => ?_, fun q hq hn => ?_⟩
  · have hs := size_del (k := klP p) h.isMap
    have hl := delH_length ho p
    rw [h.size] at hs
    by_cases hh : Maps.has D (klP p) = true
    · rw [if_pos hh] at hs
      rw [if_pos ((has_iff h hp).1 hh)] at hl
      omega
    · rw [if_neg hh] at hs
      rw [if_neg (fun he => hh ((has_iff h hp).2 he))] at hl
      omega
  · obtain ⟨hy1, hy2⟩ := mem_delH.1 hy
    rw [atKey_del_other (fun e => hy2 (klP_inj (h.wf y hy1) hp e))]
    exact h.at' y hy1 z
  · by_cases e : q = p
    · subst e; exact has_del_same
    · rw [has_del_other (fun e2 => e (klP_inj hq hp e2))]
      exact h.none' q hq fun y hy e2 => hn y (mem_delH.2 ⟨hy, by rw [e2]; exact e⟩) e2
/-- What a look-up hands over. -/
def fdAt (wl : List Wh) (p : Plc) : F.Fd := ((wl.find? fun x => x.1 == p).map (·.2)).getD (none, 0, [])
theorem fdAt_cases (wl : List Wh) (p : Plc) : ((∀ x ∈ wl, x.1 ≠ p) ∧ fdAt wl p = (none, 0, [])) ∨ ∃ x ∈ wl, x.1 = p ∧ fdAt wl p = x.2 := by
  cases e : wl.find? (fun x => x.1 == p) with
  | none =>
    have h : ∀ x ∈ wl, x.1 ≠ p := fun x hx => by simpa using List.find?_eq_none.1 e x hx
    exact .inl ⟨h, by unfold fdAt; rw [e]; rfl⟩
  | some x =>
    have h1 := List.mem_of_find?_eq_some e
    have h2 : x.1 = p := by simpa using List.find?_some e
    exact .inr ⟨x, h1, h2, by unfold fdAt; rw [e]; rfl⟩
theorem fdAt_whp (wl : List Wh) (p : Plc) : (fdAt wl p).2.2 = wellF (whp wl) p := by
  unfold fdAt wellF whp
  rw [List.find?_map]
  have e : ((fun x : Plc × List F.Pc => x.1 == p) ∘ fun x : Wh => (x.1, x.2.2.2)) = fun x : Wh => x.1 == p := rfl
  rw [e]
  cases wl.find? (fun x => x.1 == p) <;> rfl
theorem zeroSl (w : World) : (zeroValue 24).run Tryz.prog w = .ok (.slice none 0 0) w := by kernel_rfl
set_option maxRecDepth 100000 in
theorem WM.look {w : World} {m : Nat} {wl : List Wh} (h : WM w m wl) {p : Plc} (hp : Wf3 p) : (Instr.lookup 115 (.map (some m)) (plv p) false).run Tryz.prog w = .ok (hdv (fdAt wl p)) w := by
  obtain ⟨D, h1, h2⟩ := h
  obtain ⟨v, ps, hrun, hv⟩ := h1.lookup lawP Tryz.underlying115 (zeroSl w) (zd := .held (.slice none 0 0)) (zp := []) rfl (keyP_some hp)
  rw [hrun]
  congr 1
  simp only [RV, Option.some.injEq, Prod.mk.injEq] at hv
  have hv1 := hv.1
  rcases fdAt_cases wl p with ⟨hn, e⟩ | ⟨x, hx, hxp, e⟩
  · rw [atKey_of_not_has (h2.none' p hp hn)] at hv1
    injection hv1 with hv1
    rw [hv1, e]
    rfl
  · rw [← hxp, h2.at' x hx] at hv1
    injection hv1 with hv1
    rw [hv1, e]
end Go.Proofs.YtjappkfhballhaaGreat
