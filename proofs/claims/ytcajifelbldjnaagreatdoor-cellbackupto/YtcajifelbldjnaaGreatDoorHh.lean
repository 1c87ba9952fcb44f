import Derived.Test.YtcajifelbldjnaaGreatDoorHg
import Derived.DeepKeys5
import Derived.Maps.OwnSet
import Derived.Maps.OwnOps
import Derived.Maps.RangeWalk
set_option maxRecDepth 100000
set_option maxHeartbeats 25600000
set_option linter.unusedVariables false
namespace Go.Proofs.YtcajifelbldjnaaGreatDoor
open Go.RowKit Go.Maps
def Wf1 (n : Int) : Prop := -9223372036854775808 ≤ n ∧ n ≤ 9223372036854775807
def Wf3 (p : Plc) : Prop := Wf1 p.1 ∧ Wf1 p.2.1 ∧ Wf1 p.2.2
theorem wf_lit {n : Int} (h : Wf1 n) : (Lit.int .i64 n).wf = true := F.i64_wf h.1 h.2
theorem lit_wf {n : Int} (h : (Lit.int .i64 n).wf = true) : Wf1 n := by
 have e1 : IntKind.i64.min = -9223372036854775808 := rfl;have e2 : IntKind.i64.max = 9223372036854775807 := rfl;simp only [Lit.wf, Bool.and_eq_true, decide_eq_true_eq] at h;unfold Wf1;omega
theorem laidOutP : laidOutB Tryz.prog = true := by kernel_rfl
theorem lawP : Keyed Tryz.prog 55 := Keyed.of_law (deep_law_gate laidOutP (of_decide_eq_true (by kernel_rfl)) (of_decide_eq_true (by kernel_rfl)) (by kernel_rfl) (by kernel_rfl))
theorem keyT : Tryz.prog.keyType 55 = true := by kernel_rfl
theorem cellsP : Tryz.prog.cellsOf 55 = 3 := by kernel_rfl
theorem cellsSp : Tryz.prog.cellsOf 53 = 2 := by kernel_rfl
theorem cellsI : Tryz.prog.cellsOf 3 = 1 := by kernel_rfl
theorem sizeT : Tryz.prog.types.size + 1 = 430 := by kernel_rfl
theorem lits_int (d : Nat) {n : Int} (h : Wf1 n) : Tryz.prog.keyLits (d + 1) 3 [.int .i64 n] = some [.int .i64 n] := by
 unfold Program.keyLits;rw [Tryz.underlying3];simp [wf_lit h]
theorem lits_int_inv {d : Nat} {cs : List Value} {x : List Lit} (h : Tryz.prog.keyLits (d + 1) 3 cs = some x) : ∃ n, cs = [.int .i64 n] ∧ Wf1 n := by
 unfold Program.keyLits at h;rw [Tryz.underlying3] at h
 split at h
 ·rename_i heq; cases heq
 ·rename_i q q' n heq
  injection heq with heq;injection heq with heq;subst heq
  split at h
  ·rename_i hc
   exact ⟨n, by rw [hc.1], lit_wf hc.2⟩
  ·cases h
 ·rename_i heq; cases heq
 ·rename_i heq; cases heq
 ·rename_i heq; cases heq
 ·cases h
theorem lits_spot (d : Nat) {r c : Int} (hr : Wf1 r) (hc : Wf1 c) : Tryz.prog.keyLits (d + 2) 53 [.int .i64 r, .int .i64 c] = some [.int .i64 r, .int .i64 c] := by
 unfold Program.keyLits;rw [Tryz.underlying53];simp [cellsSp, cellsI, lits_int d hr, lits_int d hc]
theorem lits_place (d : Nat) {p : Plc} (h : Wf3 p) : Tryz.prog.keyLits (d + 3) 55 [.int .i64 p.1, .int .i64 p.2.1, .int .i64 p.2.2] = some [.int .i64 p.1, .int .i64 p.2.1, .int .i64 p.2.2] := by
 unfold Program.keyLits;rw [Tryz.underlying55];simp [cellsP, cellsSp, cellsI, lits_int (d + 1) h.1, lits_spot d h.2.1 h.2.2]
def klP (p : Plc) : Lit := .string (keyBytes [.int .i64 p.1, .int .i64 p.2.1, .int .i64 p.2.2])
theorem keyP_some {p : Plc} (h : Wf3 p) : keyOf Tryz.prog 55 (plv p) = some (klP p) := by
 unfold keyOf;rw [Tryz.underlying55];simp only [keyT, sizeT];have hf : (plv p).formed Tryz.prog 55 = true := by simp [Value.formed, Tryz.underlying55, cellsP]
 rw [hf];simp only [Bool.and_self, if_true, Value.cells, List.toList_toArray];rw [show 430 = 427 + 3 from rfl, lits_place 427 h]
 rfl
theorem keyP_inv {v : Value} {kl : Lit} (h : keyOf Tryz.prog 55 v = some kl) : ∃ p, v = plv p ∧ Wf3 p := by
 unfold keyOf at h;rw [Tryz.underlying55] at h;simp only at h
 split at h
 ·rename_i hc
  rw [keyT, Bool.true_and] at hc
  cases v with
  | agg cs =>
   simp only [Value.formed, Tryz.underlying55, cellsP, beq_iff_eq] at hc
   obtain ⟨a, b, c, hcs⟩ : ∃ a b c, cs = #[a, b, c] := by
    obtain ⟨l⟩ := cs
    match l, hc with
    | [a, b, c], _ => exact ⟨a, b, c, rfl⟩
   subst hcs;rw [sizeT, show 430 = 427 + 3 from rfl] at h
   obtain ⟨ls, h1⟩ : ∃ ls, Tryz.prog.keyLits (427 + 3) 55 [a, b, c] = some ls := by
    cases h2 : Tryz.prog.keyLits (427 + 3) 55 [a, b, c] with
    | none => simp only [Value.cells] at h; rw [h2] at h; cases h
    | some ls => exact ⟨ls, rfl⟩
   unfold Program.keyLits at h1;rw [Tryz.underlying55] at h1;simp only [cellsP] at h1
   obtain ⟨x, hx⟩ : ∃ x, Tryz.prog.keyLits (427 + 2) 3 [a] = some x := by
    cases h2 : Tryz.prog.keyLits (427 + 2) 3 [a] with
    | none => simp [cellsI, h2] at h1
    | some x => exact ⟨x, rfl⟩
   obtain ⟨y, hy⟩ : ∃ y, Tryz.prog.keyLits (427 + 2) 53 [b, c] = some y := by
    cases h2 : Tryz.prog.keyLits (427 + 2) 53 [b, c] with
    | none => simp [cellsI, cellsSp, hx, h2] at h1
    | some x => exact ⟨x, rfl⟩
   obtain ⟨n, e1, hn⟩ := lits_int_inv (d := 427 + 1) hx;unfold Program.keyLits at hy;rw [Tryz.underlying53] at hy;simp only [cellsSp] at hy
   obtain ⟨x2, hx2⟩ : ∃ x, Tryz.prog.keyLits (427 + 1) 3 [b] = some x := by
    cases h2 : Tryz.prog.keyLits (427 + 1) 3 [b] with
    | none => simp [cellsI, h2] at hy
    | some x => exact ⟨x, rfl⟩
   obtain ⟨x3, hx3⟩ : ∃ x, Tryz.prog.keyLits (427 + 1) 3 [c] = some x := by
    cases h2 : Tryz.prog.keyLits (427 + 1) 3 [c] with
    | none => simp [cellsI, hx2, h2] at hy
    | some x => exact ⟨x, rfl⟩
   obtain ⟨n2, e2, hn2⟩ := lits_int_inv (d := 427) hx2;obtain ⟨n3, e3, hn3⟩ := lits_int_inv (d := 427) hx3;injection e1 with e1;injection e2 with e2;injection e3 with e3;subst e1 e2 e3;exact ⟨(n, n2, n3), rfl, hn, hn2, hn3⟩
  | _ => simp [Value.formed, Tryz.underlying55] at hc
 ·cases h
theorem klP_inj {p q : Plc} (hp : Wf3 p) (hq : Wf3 q) (h : klP p = klP q) : p = q := by
 have := lawP.inj (keyP_some hp) (by rw [h]; exact keyP_some hq);injection this with e;simp at e;exact Prod.ext e.1 (Prod.ext e.2.1 e.2.2)
def RV (v : Value) : Option (DataW Value × List MemPlace) := some (.held v, [])
abbrev hdv (f : F.Fd) : Value := .slice f.1 f.2.2.length f.2.1
structure Reads (D : DataW Value) (wl : List Wh) : Prop where
 isMap : Tidy D
 size : Maps.size D = wl.length
 wf : ∀ x ∈ wl, Wf3 x.1
 at' : ∀ x ∈ wl, ∀ z, D.atKey (klP x.1) z = .held (hdv x.2)
 none' : ∀ p, Wf3 p → (∀ x ∈ wl, x.1 ≠ p) → Maps.has D (klP p) = false
def WM (w : World) (m : Nat) (wl : List Wh) : Prop := ∃ D, w.ownsMap Tryz.prog 55 RV m (Maps.size D) D ∧ Reads D wl
theorem own_tight {w : World} {k : TypeId} {R : Value → Option (DataW Value × List MemPlace)} {b n : Nat} {D : DataW Value} (h : w.ownsMap Tryz.prog k R b n D) : w.ownsMap Tryz.prog k R b (Maps.size D) D := by
 obtain ⟨es, clock, hb, F, _, hD⟩ := h;refine ⟨es, clock, hb, F, ?_, hD⟩;rw [hD, Maps.size_eq, length_sorted];simp
theorem WM.lt {w : World} {m : Nat} {wl : List Wh} (h : WM w m wl) : m < w.heap.size := by
 obtain ⟨D, h1, _⟩ := h;exact h1.lt
theorem WM.same {w w1 : World} {m : Nat} {wl : List Wh} (h : WM w m wl) (hb : w1.heap[m]? = w.heap[m]?) : WM w1 m wl := by
 obtain ⟨D, ⟨es, clock, h1, h2⟩, h3⟩ := h;exact ⟨D, ⟨es, clock, hb.trans h1, h2⟩, h3⟩
theorem WM.next {w w1 : World} {m : Nat} {wl : List Wh} (h : WM w m wl) (hb : bw w w1) : WM w1 m wl := h.same (hb.block m h.lt)
theorem reads_nil : Reads (.map []) [] := ⟨tidy_empty, rfl, (fun _ h => by cases h), (fun _ h => by cases h), fun _ _ _ => rfl⟩
theorem WM.made (w : World) : WM (w.alloc (.map #[] 0)) w.heap.size [] := ⟨.map [], World.ownsMap_made w _ _ _, reads_nil⟩
def delH (wl : List Wh) (p : Plc) : List Wh := wl.filter fun x => decide (x.1 ≠ p)
def insH (x : Wh) : List Wh → List Wh
 | [] => [x]
 | y :: r => if pltB x.1 y.1 = true then x :: y :: r else y :: insH x r
theorem mem_insH {x y : Wh} {l : List Wh} : x ∈ insH y l ↔ x = y ∨ x ∈ l := by
 induction l with
 | nil => simp [insH]
 | cons z r ih =>
  unfold insH
  split
  ·simp
  ·rw [List.mem_cons, ih, List.mem_cons]
   constructor
   ·rintro (h | h | h)
    ·exact .inr (.inl h)
    ·exact .inl h
    ·exact .inr (.inr h)
   ·rintro (h | h | h)
    ·exact .inr (.inl h)
    ·exact .inl h
    ·exact .inr (.inr h)
theorem insH_length (x : Wh) (l : List Wh) : (insH x l).length = l.length + 1 := by
 induction l with
 | nil => rfl
 | cons y r ih =>
  unfold insH
  split
  ·rfl
  ·simp [ih]
theorem whp_insH (x : Wh) (l : List Wh) : whp (insH x l) = ins (x.1, x.2.2.2) (whp l) := by
 induction l with
 | nil => rfl
 | cons y r ih =>
  have e : whp (y :: r) = (y.1, y.2.2.2) :: whp r := rfl;rw [e];unfold insH ins
  split
  ·rfl
  ·have e2 : whp (y :: insH x r) = (y.1, y.2.2.2) :: whp (insH x r) := rfl
   rw [e2, ih]
theorem whp_delH (l : List Wh) (p : Plc) : whp (delH l p) = wdel (whp l) p := by
 unfold whp delH wdel;rw [List.filter_map]
 rfl
theorem mem_delH {x : Wh} {l : List Wh} {p : Plc} : x ∈ delH l p ↔ x ∈ l ∧ x.1 ≠ p := by simp [delH]
def Once (wl : List Wh) : Prop := wl.Pairwise fun x y => x.1 ≠ y.1
theorem once_of {wl : List Wh} (h : Rising (whp wl)) : Once wl := by
 unfold Rising whp at h;rw [List.pairwise_map] at h;exact h.imp fun hlt => plt_ne hlt
theorem delH_length {wl : List Wh} (h : Once wl) (p : Plc) : (delH wl p).length + (if (∃ x ∈ wl, x.1 = p) then 1 else 0) = wl.length := by
 induction wl with
 | nil => simp [delH]
 | cons y r ih =>
  obtain ⟨h1, h2⟩ := List.pairwise_cons.1 h;have i := ih h2
  by_cases e : y.1 = p
  ·have hn : ¬ ∃ x ∈ r, x.1 = p := fun ⟨x, hx, e2⟩ => h1 x hx (by rw [e, e2])
   rw [if_neg hn] at i;rw [if_pos ⟨y, by simp, e⟩];have : delH (y :: r) p = delH r p := by simp [delH, e]
   rw [this];simp only [List.length_cons];omega
  ·have hd : delH (y :: r) p = y :: delH r p := by simp [delH, e]
   rw [hd]
   by_cases hx : ∃ x ∈ r, x.1 = p
   ·rw [if_pos hx] at i
    obtain ⟨x, hx1, hx2⟩ := hx;rw [if_pos ⟨x, by simp [hx1], hx2⟩];simp only [List.length_cons];omega
   ·rw [if_neg hx] at i
    rw [if_neg (by rintro ⟨x, hx1, hx2⟩; rcases List.mem_cons.1 hx1 with rfl | hx1; exact e hx2; exact hx ⟨x, hx1, hx2⟩)];simp only [List.length_cons];omega
theorem has_iff {D : DataW Value} {wl : List Wh} (h : Reads D wl) {p : Plc} (hp : Wf3 p) : Maps.has D (klP p) = true ↔ ∃ x ∈ wl, x.1 = p := by
 constructor
 ·intro hh
  refine Classical.byContradiction fun hn => ?_;have := h.none' p hp fun x hx e => hn ⟨x, hx, e⟩;rw [this] at hh
  cases hh
 ·rintro ⟨x, hx, rfl⟩
  exact has_true_of_atKey (h.at' x hx)
theorem reads_put {D : DataW Value} {wl : List Wh} (h : Reads D wl) (ho : Once wl) {x : Wh} (hx : Wf3 x.1) : Reads (D.put (klP x.1) (.held (hdv x.2))) (insH x (delH wl x.1)) := by
 have hk : WideAt.IsKeyLit (klP x.1) := lawP.key (keyP_some hx);refine ⟨h.isMap.put hk _, ?_, fun y hy => ?_, fun y hy z => ?_, fun p hp hn => ?_⟩
 ·rw [size_put h.isMap, insH_length, h.size]
  have hl := delH_length ho x.1
  by_cases hh : Maps.has D (klP x.1) = true
  ·rw [if_pos hh]
   rw [if_pos ((has_iff h hx).1 hh)] at hl;omega
  ·rw [if_neg hh]
   rw [if_neg (fun he => hh ((has_iff h hx).2 he))] at hl;omega
 ·rcases mem_insH.1 hy with rfl | hy
  ·exact hx
  ·exact h.wf y (mem_delH.1 hy).1
 ·rcases mem_insH.1 hy with rfl | hy
  ·exact atKey_put_same h.isMap.isMap hk _ _
  ·obtain ⟨hy1, hy2⟩ := mem_delH.1 hy
   rw [atKey_put_other (fun e => hy2 (klP_inj (h.wf y hy1) hx e))];exact h.at' y hy1 z
 ·have hne : p ≠ x.1 := fun e => hn x (mem_insH.2 (.inl rfl)) e.symm
  rw [has_put_other (fun e => hne (klP_inj hp hx e))];exact h.none' p hp fun y hy e => hn y (mem_insH.2 (.inr (mem_delH.2 ⟨hy, by rw [e]; exact hne⟩))) e
theorem reads_del {D : DataW Value} {wl : List Wh} (h : Reads D wl) (ho : Once wl) {p : Plc} (hp : Wf3 p) : Reads (D.del (klP p)) (delH wl p) := by
 refine ⟨h.isMap.del _, ?_, fun y hy => h.wf y (mem_delH.1 hy).1, fun y hy z => ?_, fun q hq hn => ?_⟩
 ·have hs := size_del (k := klP p) h.isMap
  have hl := delH_length ho p;rw [h.size] at hs
  by_cases hh : Maps.has D (klP p) = true
  ·rw [if_pos hh] at hs
   rw [if_pos ((has_iff h hp).1 hh)] at hl;omega
  ·rw [if_neg hh] at hs
   rw [if_neg (fun he => hh ((has_iff h hp).2 he))] at hl;omega
 ·obtain ⟨hy1, hy2⟩ := mem_delH.1 hy
  rw [atKey_del_other (fun e => hy2 (klP_inj (h.wf y hy1) hp e))];exact h.at' y hy1 z
 ·by_cases e : q = p
  ·subst e; exact has_del_same
  ·rw [has_del_other (fun e2 => e (klP_inj hq hp e2))]
   exact h.none' q hq fun y hy e2 => hn y (mem_delH.2 ⟨hy, by rw [e2]; exact e⟩) e2
def fdAt (wl : List Wh) (p : Plc) : F.Fd := ((wl.find? fun x => x.1 == p).map (·.2)).getD (none, 0, [])
theorem fdAt_cases (wl : List Wh) (p : Plc) : ((∀ x ∈ wl, x.1 ≠ p) ∧ fdAt wl p = (none, 0, [])) ∨ ∃ x ∈ wl, x.1 = p ∧ fdAt wl p = x.2 := by
 cases e : wl.find? (fun x => x.1 == p) with
 | none =>
  have h : ∀ x ∈ wl, x.1 ≠ p := fun x hx => by simpa using List.find?_eq_none.1 e x hx
  exact .inl ⟨h, by unfold fdAt; rw [e]; rfl⟩
 | some x =>
  have h1 := List.mem_of_find?_eq_some e;have h2 : x.1 = p := by simpa using List.find?_some e
  exact .inr ⟨x, h1, h2, by unfold fdAt; rw [e]; rfl⟩
theorem fdAt_whp (wl : List Wh) (p : Plc) : (fdAt wl p).2.2 = wellF (whp wl) p := by
 unfold fdAt wellF whp;rw [List.find?_map];have e : ((fun x : Plc × List F.Pc => x.1 == p) ∘ fun x : Wh => (x.1, x.2.2.2)) = fun x : Wh => x.1 == p := rfl;rw [e]
 cases wl.find? (fun x => x.1 == p) <;> rfl
theorem zeroSl (w : World) : (zeroValue 70).run Tryz.prog w = .ok (.slice none 0 0) w := by kernel_rfl
theorem WM.look {w : World} {m : Nat} {wl : List Wh} (h : WM w m wl) {p : Plc} (hp : Wf3 p) : (Instr.lookup 201 (.map (some m)) (plv p) false).run Tryz.prog w = .ok (hdv (fdAt wl p)) w := by
 obtain ⟨D, h1, h2⟩ := h;obtain ⟨v, ps, hrun, hv⟩ := h1.lookup lawP Tryz.underlying201 (zeroSl w) (zd := .held (.slice none 0 0)) (zp := []) rfl (keyP_some hp);rw [hrun]
 congr 1
 simp only [RV, Option.some.injEq, Prod.mk.injEq] at hv;have hv1 := hv.1
 rcases fdAt_cases wl p with ⟨hn, e⟩ | ⟨x, hx, hxp, e⟩
 ·rw [atKey_of_not_has (h2.none' p hp hn)] at hv1
  injection hv1 with hv1;rw [hv1, e]
  rfl
 ·rw [← hxp, h2.at' x hx] at hv1
  injection hv1 with hv1;rw [hv1, e]
def Flx (b m : Nat) (w : World) (ao : Option Addr) (ps : List F.Pc) : Prop := F.Fl w ao ps ∧ (ps = [] ∨ ∀ a, ao = some a → a.block ≠ b ∧ a.block ≠ m)
def Txx (b m : Nat) (w : World) (ao : Option Addr) (t : List ByteArray) : Prop := Tx w ao t ∧ (t = [] ∨ ∀ a, ao = some a → a.block ≠ b ∧ a.block ≠ m)
theorem Flx.next {b m : Nat} {w w1 : World} {ao : Option Addr} {ps : List F.Pc} (h : Flx b m w ao ps) (hb : bw w w1) : Flx b m w1 ao ps := ⟨h.1.next hb, h.2⟩
theorem Txx.next {b m : Nat} {w w1 : World} {ao : Option Addr} {t : List ByteArray} (h : Txx b m w ao t) (hb : bw w w1) : Txx b m w1 ao t := ⟨h.1.next hb, h.2⟩
structure But (b m : Nat) (w w1 : World) : Prop where
 os : w1.os = w.os
 tape : w1.tape = w.tape
 output : w1.output = w.output
 size : w.heap.size ≤ w1.heap.size
 block : ∀ k, k < w.heap.size → k ≠ b → k ≠ m → w1.heap[k]? = w.heap[k]?
theorem But.below {b m B : Nat} {wB w w1 : World} (h : But b m w w1) (hB : Below B wB w) (h1 : B ≤ b) (h2 : B ≤ m) (h3 : B ≤ w.heap.size) : Below B wB w1 :=
 ⟨h.os.trans hB.os, h.tape.trans hB.tape, h.output.trans hB.output, Nat.le_trans hB.size h.size, fun k hk => (h.block k (by omega) (by omega) (by omega)).trans (hB.block k hk)⟩
theorem but_below {b m : Nat} {w w1 : World} (h : bw w w1) : But b m w w1 := ⟨h.os, h.tape, h.output, h.size, fun k hk _ _ => h.block k hk⟩
theorem but_grown {b m : Nat} {w w1 : World} (h : w.grownBy w1 (some m)) : But b m w w1 := ⟨h.os, h.tape, h.output, h.size, fun k hk _ h2 => h.block k hk (by simpa using h2)⟩
theorem but_set (b m : Nat) (w : World) (k : Nat) (v : Value) : But b m w (w.setCell ⟨b, k, none⟩ v) := ⟨rfl, rfl, rfl, by simp [World.setCell], fun i _ h1 _ => Below.heap_setCell w ⟨b, k, none⟩ v i h1⟩
theorem But.trans {b m : Nat} {w w1 w2 : World} (h : But b m w w1) (h2 : But b m w1 w2) : But b m w w2 :=
 ⟨h2.os.trans h.os, h2.tape.trans h.tape, h2.output.trans h.output, Nat.le_trans h.size h2.size, fun k hk h3 h4 => (h2.block k (Nat.lt_of_lt_of_le hk h.size) h3 h4).trans (h.block k hk h3 h4)⟩
theorem Flx.but {b m : Nat} {w w1 : World} {ao : Option Addr} {ps : List F.Pc} (h : Flx b m w ao ps) (hb : But b m w w1) : Flx b m w1 ao ps := by
 obtain ⟨⟨h0, h1⟩, h2⟩ := h;refine ⟨⟨h0, ?_⟩, h2⟩
 rcases h1 with h1 | ⟨g, off, e, hg, hc⟩
 ·exact .inl h1
 ·rcases h2 with h2 | h2
  ·exact .inl h2
  ·obtain ⟨n1, n2⟩ := h2 _ e
   have hbl := hb.block g hg n1 n2;exact .inr ⟨g, off, e, Nat.lt_of_lt_of_le hg hb.size, fun k hk => ⟨(World.cell?_of_block (w := w) hbl).trans (hc k hk).1, (World.cell?_of_block (w := w) hbl).trans (hc k hk).2⟩⟩
theorem Txx.but {b m : Nat} {w w1 : World} {ao : Option Addr} {t : List ByteArray} (h : Txx b m w ao t) (hb : But b m w w1) : Txx b m w1 ao t := by
 obtain ⟨⟨h0, h1⟩, h2⟩ := h;refine ⟨⟨h0, ?_⟩, h2⟩
 rcases h1 with h1 | ⟨g, off, e, hg, hc⟩
 ·exact .inl h1
 ·rcases h2 with h2 | h2
  ·exact .inl h2
  ·obtain ⟨n1, n2⟩ := h2 _ e
   have hbl := hb.block g hg n1 n2;exact .inr ⟨g, off, e, Nat.lt_of_lt_of_le hg hb.size, fun k hk => (World.cell?_of_block (w := w) hbl).trans (hc k hk)⟩
theorem flx_of {b m : Nat} {w : World} {base : Nat} {v : Value} {ps : List F.Pc} (h : F.Own w base v ps) (hs : ∀ p ∈ ps, p.1.size ≤ maxLen) (hb : b < base) (hm : m < base) : ∃ ao cap, v = .slice ao ps.length cap ∧ Flx b m w ao ps := by
 obtain ⟨ao, cap, e, hf⟩ := F.Own.give h hs;refine ⟨ao, cap, e, hf, ?_⟩
 by_cases hn : ps = []
 ·exact .inl hn
 ·refine .inr fun a ha => ?_
  subst e;subst ha;have := (World.ownsRow.lt h a.block rfl).1;omega
theorem txx_of {b m : Nat} {w : World} {base : Nat} {v : Value} {t : List ByteArray} (h : OwnR encT w base v t) (hs : ∀ x ∈ t, x.size ≤ maxLen) (hb : b < base) (hm : m < base) : ∃ ao cap, v = .slice ao t.length cap ∧ Txx b m w ao t := by
 obtain ⟨ao, cap, e, hf⟩ := tx_of h hs;refine ⟨ao, cap, e, hf, ?_⟩
 by_cases hn : t = []
 ·exact .inl hn
 ·refine .inr fun a ha => ?_
  subst e;subst ha;have := (World.ownsRow.lt h a.block rfl).1;omega
abbrev fv (n : Nat) : Value := .func (.func n) #[] #[]
def Ddeeds : DataW Value := ((((((((((DataW.map []).put (.int .i64 5) (.held (fv 176))).put (.int .i64 6) (.held (fv 177))).put (.int .i64 7) (.held (fv 178))).put (.int .i64 8) (.held (fv 179))).put (.int .i64 9) (.held (fv 180))).put (.int .i64 11) (.held (fv 181))).put (.int .i64 12) (.held (fv 182))).put (.int .i64 13) (.held (fv 183))).put (.int .i64 14) (.held (fv 182)))
def DM (w : World) (md : Nat) : Prop := w.ownsMap Tryz.prog 3 RV md 9 Ddeeds
theorem DM.lt {w : World} {md : Nat} (h : DM w md) : md < w.heap.size := World.ownsMap.lt h
theorem DM.same {w w1 : World} {md : Nat} (h : DM w md) (hb : w1.heap[md]? = w.heap[md]?) : DM w1 md := by
 obtain ⟨es, clock, h1, h2⟩ := h;exact ⟨es, clock, hb.trans h1, h2⟩
abbrev bcs (ao : Option Addr) (cap : Nat) (l : List Sit) (md m : Nat) (cw : Option Addr × Nat × Nat) (s : Sta) (aoH : Option Addr) (capH : Nat) (aoT : Option Addr) (capT : Nat) : List Value :=
 [.slice ao l.length cap, .int .i64 ((tipsL l).length : Int), .int .i64 (tipM l), .map (some md), .map (some m), .slice cw.1 cw.2.1 cw.2.2, .bool s.tip, .slice aoH s.held.length capH, .slice aoT s.touched.length capT, .int .i64 s.used, .int .i64 s.heat, .int .i64 s.clock]
structure Bn (wB w : World) (ao : Option Addr) (cap : Nat) (l : List Sit) (b m md : Nat) (s : Sta) : Prop where
 dk : Dk wB ao cap l
 hd : dchk l = 0
 may : May l s
 below : bw wB w
 lb : wB.heap.size ≤ b ∧ wB.heap.size ≤ m ∧ wB.heap.size ≤ md
 ne : b ≠ m ∧ b ≠ md ∧ m ≠ md
 deeds : DM w md
 wells : ∃ wl, WM w m wl ∧ whp wl = s.wells ∧ ∀ x ∈ wl, Flx b m w x.2.1 x.2.2.2
 bk : ∃ cw aoH capH aoT capT, Bk b (bcs ao cap l md m cw s aoH capH aoT capT) w ∧ Flx b m w aoH s.held ∧ Txx b m w aoT s.touched
theorem Bn.next {wB w w1 : World} {ao : Option Addr} {cap : Nat} {l : List Sit} {b m md : Nat} {s : Sta} (h : Bn wB w ao cap l b m md s) (hb : bw w w1) : Bn wB w1 ao cap l b m md s := by
 obtain ⟨h1, h2, h3, h4, h5, h6, h7, ⟨wl, h8, h9, h10⟩, cw, aoH, capH, aoT, capT, h11, h12, h13⟩ := h;exact ⟨h1, h2, h3, h4.trans (hb.mono h4.size), h5, h6, h7.same (hb.block _ h7.lt), ⟨wl, h8.next hb, h9, fun x hx => (h10 x hx).next hb⟩, cw, aoH, capH, aoT, capT, h11.later hb, h12.next hb, h13.next hb⟩
theorem Bn.dkw {wB w : World} {ao : Option Addr} {cap : Nat} {l : List Sit} {b m md : Nat} {s : Sta} (h : Bn wB w ao cap l b m md s) : Dk w ao cap l := h.dk.next h.below
theorem Bn.turned {wB w w1 : World} {ao : Option Addr} {cap : Nat} {l : List Sit} {b m md : Nat} {s s' : Sta} (h : Bn wB w ao cap l b m md s) (hbut : But b m w w1) (hmay : May l s') {wl : List Wh} (hwm : WM w1 m wl) (hwl : whp wl = s'.wells) (hfl : ∀ x ∈ wl, Flx b m w1 x.2.1 x.2.2.2)
  {cw : Option Addr × Nat × Nat} {aoH : Option Addr} {capH : Nat} {aoT : Option Addr} {capT : Nat} (hbk : Bk b (bcs ao cap l md m cw s' aoH capH aoT capT) w1) (hh : Flx b m w1 aoH s'.held) (ht : Txx b m w1 aoT s'.touched) : Bn wB w1 ao cap l b m md s' :=
 ⟨h.dk, h.hd, hmay, hbut.below h.below h.lb.1 h.lb.2.1 h.below.size, h.lb, h.ne, h.deeds.same (hbut.block _ h.deeds.lt (fun e => h.ne.2.1 e.symm) (fun e => h.ne.2.2 e.symm)), ⟨wl, hwm, hwl, hfl⟩, cw, aoH, capH, aoT, capT, hbk, hh, ht⟩
theorem wf_place {l : List Sit} (hd : dchk l = 0) {p : Plc} (h : (wellM l p).2 = 0) : Wf3 p := by
 have := wellM_place hd h;unfold Wf3 Wf1;omega
theorem Bn.once {wB w : World} {ao : Option Addr} {cap : Nat} {l : List Sit} {b m md : Nat} {s : Sta} (h : Bn wB w ao cap l b m md s) {wl : List Wh} (hwl : whp wl = s.wells) : Once wl ∧ wl.length ≤ 4608 := by
 refine ⟨once_of (by rw [hwl]; exact h.may.rising), ?_⟩;have := wells_few h.hd h.may;rw [← hwl, whp_length] at this;exact this
def setH (wl : List Wh) (p : Plc) (f : F.Fd) : List Wh := if f.2.2 = [] then delH wl p else insH (p, f) (delH wl p)
theorem whp_setH (wl : List Wh) (p : Plc) (f : F.Fd) : whp (setH wl p f) = wset (whp wl) p f.2.2 := by
 unfold setH wset
 split
 ·exact whp_delH wl p
 ·rw [whp_insH, whp_delH]
theorem mem_setH {wl : List Wh} {p : Plc} {f : F.Fd} {x : Wh} (h : x ∈ setH wl p f) : x = (p, f) ∨ x ∈ wl := by
 unfold setH at h
 split at h
 ·exact .inr (mem_delH.1 h).1
 ·rcases mem_insH.1 h with h | h
  ·exact .inl h
  ·exact .inr (mem_delH.1 h).1
theorem grown_of {w w1 : World} {r : Option Nat} (h : bw w w1) : w.grownBy w1 r := ⟨h.os, h.tape, h.output, h.size, fun k hk _ => h.block k hk⟩
def kdV (b m : Nat) (p : Plc) (d : Nat) (v : Value) (_ : World) : Prop :=
 match d with
 | 9 | 10 => v = .pointer (some ⟨b, 0, none⟩)
 | 11 => v = .pointer (some ⟨b, 4, none⟩)
 | 12 => v = .map (some m)
 | 13 => v = .agg #[.int .i64 p.1, .int .i64 p.2.1, .int .i64 p.2.2]
 | _ => True
theorem kdV_mono (b m : Nat) (p : Plc) (d : Nat) (v : Value) (w w' : World) (h : kdV b m p d v w) (_ : bw w w') : kdV b m p d v w' := h
def kuV (b m : Nat) (p : Plc) (ao : Option Addr) (n cap : Nat) (d : Nat) (v : Value) (_ : World) : Prop :=
 match d with
 | 14 | 15 => v = .pointer (some ⟨b, 0, none⟩)
 | 16 => v = .pointer (some ⟨b, 4, none⟩)
 | 17 => v = .map (some m)
 | 18 => v = .agg #[.int .i64 p.1, .int .i64 p.2.1, .int .i64 p.2.2]
 | 19 => v = .slice ao n cap
 | _ => True
theorem kuV_mono (b m : Nat) (p : Plc) (ao : Option Addr) (n cap : Nat) (d : Nat) (v : Value) (w w' : World) (h : kuV b m p ao n cap d v w) (_ : bw w w') : kuV b m p ao n cap d v w' := h
theorem keep_any (b m : Nat) (u0 u1 u2 u3 u5 u6 u7 u8 u9 u10 u11 : Value) (wl : List Wh) (p : Plc) (ao : Option Addr) (cap : Nat) (f : List F.Pc) (w : World) (hK : Bk b [u0, u1, u2, u3, .map (some m), u5, u6, u7, u8, u9, u10, u11] w) (hW : WM w m wl) (ho : Once wl) (hl : wl.length ≤ 4608) (hp : Wf3 p) :
  Calls Tryz.prog 210 #[ptr b, plv p, .slice ao f.length cap] w fun e w' => e = .returned (.tuple #[]) ∧ WM w' m (setH wl p (ao, cap, f)) ∧ w.grownBy w' (some m) := by
 obtain ⟨w0, hw0⟩ : ∃ w0, w0 = w.alloc (pobj p) := ⟨_, rfl⟩;have b0 : bw w w0 := by rw [hw0]; exact (brf).alloc (Nat.le_refl _) _
 have HB : Hid (bw w w0) := b0;have KB : Hid (Bk b [u0, u1, u2, u3, .map (some m), u5, u6, u7, u8, u9, u10, u11] w0) := hK.later b0;have KP : Hid (Bk w.heap.size (pcl p) w0) := by show Bk _ _ _; rw [hw0]; exact Bk.new w (pcl p) 55 w.heap.size rfl
 have HWM : Hid (WM w0 m wl) := hW.next b0;have HON := hdd ho;have HL := hdd hl;have HP := hdd hp;have HW0 := hdd hw0;have HML : Hid (m < w.heap.size) := hW.lt;clear hK hW ho hl hp hw0 b0
 by_cases hf : f = []
 ·have hf2 := len0_true hf
  have HQ : Hid (setH wl p (ao, cap, f) = delH wl p) := if_pos hf;clear hf
  go_enter Tryz.func210, Tryz.ntmps210
  go_wp2_with fail
  rename_i KK hkk;have HKK := (show Hid _ from hkk);clear hkk;rw [← HW0.out]
  refine region_seq 5 [zf,zf,zf,zf,zf,zf,zf,zf,zf,zt,zt,zt,zt,zt,zf,zf,zf,zf,zf,zf]
   [(9, [], none), (10, [9], none), (11, [10], none), (12, [11], none), (13, [], none)]
   (kdV b m p) (by kernel_rfl) (by kernel_rfl) (by kernel_rfl) (by kernel_rfl) (by kernel_rfl) (by decide) (kdV_mono b m p) ?_ ?_
  ·refine ⟨?_, ?_, ?_, ?_, ?_, trivial⟩
   ·intro f w1 hb _ K hK
    simp only [ov, oL];go_simp;exact hK _ _ ⟨_, rfl, by simp only [ov, oL]; rfl, brf⟩
   ·rintro f w1 hb ⟨(h9 : f 9 = _), _⟩ K hK
    simp only [ov, oL, h9];go_simp;exact hK _ _ ⟨_, rfl, by simp only [ov, oL, h9]; rfl, brf⟩
   ·rintro f w1 hb ⟨(h10 : f 10 = _), _⟩ K hK
    simp only [ov, oL, h10];go_simp;exact hK _ _ ⟨_, rfl, by simp only [ov, oL, h10]; rfl, brf⟩
   ·rintro f w1 hb ⟨(h11 : f 11 = _), _⟩ K hK
    have q4 := (KB.out.later hb).c 4 rfl;simp only [ov, oL, h11];go_simp;exact hK _ _ ⟨_, rfl, by simp only [ov, oL, h11]; rfl, brf⟩
   ·intro f w1 hb _ K hK
    have q0 := (KP.out.later hb).c 0 rfl;have q1 := (KP.out.later hb).c 1 rfl;have q2 := (KP.out.later hb).c 2 rfl;simp only [ov, oL];go_simp;exact hK _ _ ⟨_, rfl, by simp only [ov, oL]; rfl, brf⟩
  intro f w1 hb hv;have h12 : f 12 = _ := hv.2.2.2.1;have h13 : f 13 = _ := hv.2.2.2.2.1;obtain ⟨D, hown, hrd⟩ := HWM.out.next hb;have HRD : Hid (Reads (D.del (klP p)) (delH wl p)) := reads_del hrd HON.out HP.out;have HB1 := hdd (HB.out.trans (hb.mono HB.out.size));clear hv hrd hb;simp only [List.drop, ov, oL, h12, h13]
  go_wp2_with (first | (at_delete; refine wpList_delete_own _ rfl _ _ 201 55 rfl 70 lawP Tryz.underlying201 RV m (Maps.size D) D rfl hown _ _ rfl (keyP_some HP.out) ?_; intro w2 hown1 hturn1) | go_in)
  have HWM2 : Hid (WM w2 m (delH wl p)) := ⟨_, own_tight hown1, HRD.out⟩;have HG : Hid (w.grownBy w2 (some m)) := (grown_of HB1.out).trans hturn1.grown;clear hown hown1 hturn1 h12 h13;refine HKK.out _ _ ?_;go_wp2
  (try simp only [Exit.inBlock, Exit.then])
  refine bodyPost_ret (results_none rfl _ _ _) rfl ?_;exact ⟨rfl, by rw [HQ.out]; exact HWM2.out, HG.out⟩
 ·have hf2 := len0_false hf
  have HQ : Hid (setH wl p (ao, cap, f) = insH (p, (ao, cap, f)) (delH wl p)) := if_neg hf;clear hf;generalize hfl : f.length = n at *;have HFL := hdd hfl;clear hfl
  go_enter Tryz.func210, Tryz.ntmps210
  go_wp2_with fail
  rw [← HW0.out]
  refine region_seq 6 [zf,zf,zf,zf,zf,zf,zf,zf,zf,zf,zf,zf,zf,zf,zt,zt,zt,zt,zt,zt]
   [(14, [], none), (15, [14], none), (16, [15], none), (17, [16], none), (18, [], none), (19, [], none)]
   (kuV b m p ao n cap) (by kernel_rfl) (by kernel_rfl) (by kernel_rfl) (by kernel_rfl) (by kernel_rfl) (by decide) (kuV_mono b m p ao n cap) ?_ ?_
  ·refine ⟨?_, ?_, ?_, ?_, ?_, ?_, trivial⟩
   ·intro f w1 hb _ K hK
    simp only [ov, oL];go_simp;exact hK _ _ ⟨_, rfl, by simp only [ov, oL]; rfl, brf⟩
   ·rintro f w1 hb ⟨(h14 : f 14 = _), _⟩ K hK
    simp only [ov, oL, h14];go_simp;exact hK _ _ ⟨_, rfl, by simp only [ov, oL, h14]; rfl, brf⟩
   ·rintro f w1 hb ⟨(h15 : f 15 = _), _⟩ K hK
    simp only [ov, oL, h15];go_simp;exact hK _ _ ⟨_, rfl, by simp only [ov, oL, h15]; rfl, brf⟩
   ·rintro f w1 hb ⟨(h16 : f 16 = _), _⟩ K hK
    have q4 := (KB.out.later hb).c 4 rfl;simp only [ov, oL, h16];go_simp;exact hK _ _ ⟨_, rfl, by simp only [ov, oL, h16]; rfl, brf⟩
   ·intro f w1 hb _ K hK
    have q0 := (KP.out.later hb).c 0 rfl;have q1 := (KP.out.later hb).c 1 rfl;have q2 := (KP.out.later hb).c 2 rfl;simp only [ov, oL];go_simp;exact hK _ _ ⟨_, rfl, by simp only [ov, oL]; rfl, brf⟩
   ·intro f w1 hb _ K hK
    simp only [ov, oL];go_simp;exact hK _ _ ⟨_, rfl, by simp only [ov, oL]; rfl, brf⟩
  intro f' w1 hb hv;have h17 : f' 17 = _ := hv.2.2.2.1;have h18 : f' 18 = _ := hv.2.2.2.2.1;have h19 : f' 19 = _ := hv.2.2.2.2.2.1;obtain ⟨D, hown, hrd⟩ := HWM.out.next hb
  have HRD : Hid (Reads (D.put (klP p) (.held (.slice ao n cap))) (insH (p, (ao, cap, f)) (delH wl p))) := by
   have := reads_put (x := (p, (ao, cap, f))) hrd HON.out HP.out;simp only [hdv] at this;rw [HFL.out] at this;exact this
  have HB1 := hdd (HB.out.trans (hb.mono HB.out.size));have hsz : Maps.size D < maxLen := by rw [hrd.size]; have := HL.out; unfold maxLen; omega
  clear hv hrd hb;simp only [List.drop, ov, oL, h17, h18, h19]
  go_wp2_with (first | (at_mapUpdate; refine wpList_mapUpdate_own _ rfl _ _ _ 201 rfl 55 70 lawP Tryz.underlying201 RV m (Maps.size D) D rfl hown hsz _ _ _ rfl rfl (keyP_some HP.out) (.held (.slice ao n cap)) [] rfl ?_; intro w2 hown1 hg1) | go_in)
  have HWM2 : Hid (WM w2 m (insH (p, (ao, cap, f)) (delH wl p))) := ⟨_, own_tight hown1, HRD.out⟩;have HG : Hid (w.grownBy w2 (some m)) := (grown_of HB1.out).trans hg1;clear hown hown1 hg1 h17 h18 h19 hsz
  go_end0
  exact ⟨rfl, by rw [HQ.out]; exact HWM2.out, HG.out⟩
end Go.Proofs.YtcajifelbldjnaaGreatDoor
namespace Go.Proofs.YtcajifelbldjnaaGreatDoor
open Go.RowKit
abbrev acl (a : Acn) : List Value := [.int .i64 a.kind, .int .i64 a.pl.1, .int .i64 a.pl.2.1, .int .i64 a.pl.2.2, .string a.label, .int .i64 a.vol, .int .i64 a.value, .int .i64 a.time]
theorem tips_few {l : List Sit} (hd : dchk l = 0) : (tipsL l).length ≤ 4608 := by
 have := tipsTo_length hd 12;rw [tipsTo_all] at this;omega
def amV (b B : Nat) (ao : Option Addr) (cap : Nat) (l : List Sit) (a : Acn) (d : Nat) (v : Value) (_ : World) : Prop :=
 match d with
 | 9 | 10 | 11 => v = .pointer (some ⟨b, 0, none⟩)
 | 12 => v = .agg #[.slice ao l.length cap, .int .i64 ((tipsL l).length : Int), .int .i64 (tipM l)]
 | 13 => v = .pointer (some ⟨B, 1, none⟩)
 | 14 => v = .agg #[.int .i64 a.pl.1, .int .i64 a.pl.2.1, .int .i64 a.pl.2.2]
 | 15 | 8 => v = .tuple #[.int .i64 (wellM l a.pl).1, .int .i64 (wellM l a.pl).2]
 | 16 | 6 => v = .int .i64 (wellM l a.pl).1
 | 17 | 7 => v = .int .i64 (wellM l a.pl).2
 | _ => True
theorem amV_mono (b B : Nat) (ao : Option Addr) (cap : Nat) (l : List Sit) (a : Acn) (d : Nat) (v : Value) (w w' : World) (h : amV b B ao cap l a d v w) (_ : bw w w') : amV b B ao cap l a d v w' := h
theorem aim_any (wB w : World) (ao : Option Addr) (cap : Nat) (l : List Sit) (b m md : Nat) (s : Sta) (a : Acn) (hB : Bn wB w ao cap l b m md s) :
  CR 208 #[ptr b, av a] w (.tuple #[.int .i64 (aimR l a).1, .int .i64 (aimR l a).2]) := by
 have HBN := hdd hB;clear hB;obtain ⟨w0, hw0⟩ : ∃ w0, w0 = w.alloc (aobj a) := ⟨_, rfl⟩;have b0 : bw w w0 := by rw [hw0]; exact (brf).alloc (Nat.le_refl _) _
 have KA : Hid (Bk w.heap.size (acl a) w0) := by show Bk _ _ _; rw [hw0]; exact Bk.new w (acl a) 57 w.heap.size rfl
 have HB0 : Hid (Bn wB w0 ao cap l b m md s) := HBN.out.next b0;have HW0 := hdd hw0;clear hw0 b0;obtain ⟨cw, aoH, capH, aoT, capT, K, hh, ht⟩ := HB0.out.bk;have KB : Hid (Bk b (bcs ao cap l md m cw s aoH capH aoT capT) w0) := K;have HH := hdd hh;have HT := hdd ht;have hbw : b < w.heap.size := by obtain ⟨_, _, _, _, _, K', _⟩ := HBN.out.bk; exact K'.1
 have hbn : b ≠ w.heap.size := by omega
 have lt0 := KB.out.1;clear K hh ht;have HBW : Hid (bw w w0) := by show Below _ _ _; rw [HW0.out]; exact (brf).alloc (Nat.le_refl _) _
 have HQ : Hid (aimR l a = if (wellM l a.pl).2 = 0 then (if inR 1 1000000000 a.vol = true then ((wellM l a.pl).1, 0) else ((wellM l a.pl).1, 2)) else wellM l a.pl) := rfl
 go_enter Tryz.func208, Tryz.ntmps208
 go_wp2_with fail
 rename_i KK hkk;have HKK := (show Hid _ from hkk);clear hkk;rw [← HW0.out]
 refine region_seqE 12 [zf,zf,zf,zf,zf,zf,zt,zt,zt,zt,zt,zt,zt,zt,zt,zt,zt,zt,zf,zf,zf,zf,zf,zf,zf,zf,zf,zf]
  [(9, [], none), (10, [9], none), (11, [10], none), (12, [11], none), (13, [], none), (14, [13], none), (15, [12, 14], none), (8, [15], none), (16, [8], none), (17, [8], none), (6, [16], none), (7, [17], none)]
  (amV b w.heap.size ao cap l a) (by kernel_rfl) (by kernel_rfl) (by kernel_rfl) (by kernel_rfl) (by kernel_rfl) (by decide) (amV_mono b w.heap.size ao cap l a) ?_ ?_
 ·refine ⟨?_, ?_, ?_, ?_, ?_, ?_, ?_, ?_, ?_, ?_, ?_, ?_, trivial⟩
  any_goals first | (intro f w1 hb _ K hK; simp only [ov, oL, Nat.reduceAdd]; go_simp; exact hK _ _ ⟨_, rfl, by simp only [ov, oL, Nat.reduceAdd]; rfl, brf⟩) | fail
  ·rintro f w1 hb ⟨(h9 : f 9 = _), _⟩ K hK
   simp only [ov, oL, Nat.reduceAdd, h9];go_simp;exact hK _ _ ⟨_, rfl, by simp only [ov, oL, Nat.reduceAdd, h9]; rfl, brf⟩
  ·rintro f w1 hb ⟨(h10 : f 10 = _), _⟩ K hK
   simp only [ov, oL, Nat.reduceAdd, h10];go_simp;exact hK _ _ ⟨_, rfl, by simp only [ov, oL, Nat.reduceAdd, h10]; rfl, brf⟩
  ·rintro f w1 hb ⟨(h11 : f 11 = _), _⟩ K hK
   have q0 := (KB.out.later hb).c 0 rfl;have q1 := (KB.out.later hb).c 1 rfl;have q2 := (KB.out.later hb).c 2 rfl;simp only [ov, oL, Nat.reduceAdd, h11];go_simp;exact hK _ _ ⟨_, rfl, by simp only [ov, oL, Nat.reduceAdd, h11]; rfl, brf⟩
  ·rintro f w1 hb ⟨(h13 : f 13 = _), _⟩ K hK
   have q1 := (KA.out.later hb).c 1 rfl;have q2 := (KA.out.later hb).c 2 rfl;have q3 := (KA.out.later hb).c 3 rfl;simp only [ov, oL, Nat.reduceAdd, h13];go_simp;exact hK _ _ ⟨_, rfl, by simp only [ov, oL, Nat.reduceAdd, h13]; rfl, brf⟩
  ·rintro f w1 hb ⟨(h12 : f 12 = _), (h14 : f 14 = _), _⟩ K hK
   simp only [ov, oL, Nat.reduceAdd, h12, h14];go_simp;refine (wellMost_any ao cap l a.pl w1 (HB0.out.next hb).dkw HB0.out.hd).mono ?_;rintro e w2 ⟨rfl, hb2⟩;exact hK _ _ ⟨_, rfl, by simp only [ov, oL, Nat.reduceAdd, h12, h14]; rfl, hb2⟩
  ·rintro f w1 hb ⟨(h15 : f 15 = _), _⟩ K hK
   simp only [ov, oL, Nat.reduceAdd, h15];go_simp;exact hK _ _ ⟨_, rfl, by simp only [ov, oL, Nat.reduceAdd, h15]; rfl, brf⟩
  ·rintro f w1 hb ⟨(h8 : f 8 = _), _⟩ K hK
   simp only [ov, oL, Nat.reduceAdd, h8];go_simp;exact hK _ _ ⟨_, rfl, by simp only [ov, oL, Nat.reduceAdd, h8]; rfl, brf⟩
  ·rintro f w1 hb ⟨(h8 : f 8 = _), _⟩ K hK
   simp only [ov, oL, Nat.reduceAdd, h8];go_simp;exact hK _ _ ⟨_, rfl, by simp only [ov, oL, Nat.reduceAdd, h8]; rfl, brf⟩
  ·rintro f w1 hb ⟨(h16 : f 16 = _), _⟩ K hK
   simp only [ov, oL, Nat.reduceAdd, h16];go_simp;exact hK _ _ ⟨_, rfl, by simp only [ov, oL, Nat.reduceAdd, h16]; rfl, brf⟩
  ·rintro f w1 hb ⟨(h17 : f 17 = _), _⟩ K hK
   simp only [ov, oL, Nat.reduceAdd, h17];go_simp;exact hK _ _ ⟨_, rfl, by simp only [ov, oL, Nat.reduceAdd, h17]; rfl, brf⟩
 intro f w1 hb hv;have h6 : f 6 = _ := hv.2.2.2.2.2.2.2.2.2.2.1;have h7 : f 7 = _ := hv.2.2.2.2.2.2.2.2.2.2.2.1;have KA1 : Hid (Bk w.heap.size (acl a) w1) := KA.out.later hb;have HB1 : Hid (bw w w1) := HBW.out.trans (hb.mono HBW.out.size);clear hv hb;simp only [List.drop, ov, oL, Nat.reduceAdd, h6, h7];clear h6 h7;go_wp2;refine HKK.out _ _ ?_;obtain ⟨q0, q1, q2, q3, q4, q5, q6, q7⟩ := (KA1.out).c8;obtain ⟨⟨mo, e0⟩, hM⟩ : ∃ x, wellM l a.pl = x := ⟨_, rfl⟩;rw [hM] at HQ ⊢;simp only at HQ ⊢;clear hM
 by_cases he : e0 = 0
 ·subst he
  cases hv : inR 1 1000000000 a.vol with
  | true =>
   have HQ2 : Hid (aimR l a = (mo, 0)) := by show _ = _; rw [HQ.out, if_pos rfl, if_pos hv]
   go_wp2_with fail
   refine (mwithin_any 1 a.vol 1000000000 w1).mono ?_;rintro e w2 ⟨rfl, rfl⟩;rw [hv];go_wp2
   go_ret2
   exact ⟨by rw [HQ2.out]; rfl, HB1.out⟩
  | false =>
   have HQ2 : Hid (aimR l a = (mo, 2)) := by show _ = _; rw [HQ.out, if_pos rfl, if_neg (by rw [hv]; decide)]
   go_wp2_with fail
   refine (mwithin_any 1 a.vol 1000000000 w1).mono ?_;rintro e w2 ⟨rfl, rfl⟩;rw [hv];go_wp2
   go_ret2
   exact ⟨by rw [HQ2.out]; rfl, HB1.out⟩
 ·have he2 : (e0 == 0) = false := by simp [he]
  have HQ2 : Hid (aimR l a = (mo, e0)) := by show _ = _; rw [HQ.out, if_neg he]
  clear he;go_wp2
  go_ret2
  exact ⟨by rw [HQ2.out]; rfl, HB1.out⟩
theorem bn_tip {wB w : World} {ao : Option Addr} {cap : Nat} {l : List Sit} {b m md : Nat} {s : Sta} (h : Bn wB w ao cap l b m md s) (hq : tipA l s = ({ s with tip := true, used := s.used + 1 }, 0)) : Bn wB (((w).setCell ⟨b, 6, none⟩ (.bool true)).setCell ⟨b, 9, none⟩ (.int .i64 (s.used + 1))) ao cap l b m md (tipA l s).1 := by
 obtain ⟨cw, aoH, capH, aoT, capT, K, hh, ht⟩ := h.bk;have hbut : But b m w (((w).setCell ⟨b, 6, none⟩ (.bool true)).setCell ⟨b, 9, none⟩ (.int .i64 (s.used + 1))) := (but_set b m (w) 6 (.bool true)).trans (but_set b m ((w).setCell ⟨b, 6, none⟩ (.bool true)) 9 (.int .i64 (s.used + 1)));obtain ⟨wl, hwm, hwl, hfl⟩ := h.wells;have hmb : m ≠ b := fun e => h.ne.1 e.symm;have hmay := (may_tip h.hd h.may (by rw [hq])).1;rw [hq] at hmay ⊢;have hwm2 : WM (((w).setCell ⟨b, 6, none⟩ (.bool true)).setCell ⟨b, 9, none⟩ (.int .i64 (s.used + 1))) m wl := hwm.same ((Below.heap_setCell ((w).setCell ⟨b, 6, none⟩ (.bool true)) ⟨b, 9, none⟩ (.int .i64 (s.used + 1)) m hmb).trans (Below.heap_setCell (w) ⟨b, 6, none⟩ (.bool true) m hmb));exact h.turned hbut hmay hwm2 hwl (fun x hx => (hfl x hx).but hbut) (cw := cw) (aoH := aoH) (capH := capH) (aoT := aoT) (capT := capT) (((K).put 6 (.bool true)).put 9 (.int .i64 (s.used + 1))) (hh.but hbut) (ht.but hbut)
theorem bn_drop {wB w : World} {ao : Option Addr} {cap : Nat} {l : List Sit} {b m md : Nat} {s : Sta} (h : Bn wB w ao cap l b m md s) (hq : dropA s = ({ s with tip := false, held := [], touched := [] }, 0)) : Bn wB ((((w).setCell ⟨b, 6, none⟩ (.bool false)).setCell ⟨b, 7, none⟩ (.slice none 0 0)).setCell ⟨b, 8, none⟩ (.slice none 0 0)) ao cap l b m md (dropA s).1 := by
 obtain ⟨cw, aoH, capH, aoT, capT, K, hh, ht⟩ := h.bk;have hbut : But b m w ((((w).setCell ⟨b, 6, none⟩ (.bool false)).setCell ⟨b, 7, none⟩ (.slice none 0 0)).setCell ⟨b, 8, none⟩ (.slice none 0 0)) := ((but_set b m (w) 6 (.bool false)).trans (but_set b m ((w).setCell ⟨b, 6, none⟩ (.bool false)) 7 (.slice none 0 0))).trans (but_set b m (((w).setCell ⟨b, 6, none⟩ (.bool false)).setCell ⟨b, 7, none⟩ (.slice none 0 0)) 8 (.slice none 0 0));obtain ⟨wl, hwm, hwl, hfl⟩ := h.wells;have hmb : m ≠ b := fun e => h.ne.1 e.symm;have hmay := (may_drop h.may (by rw [hq])).1;rw [hq] at hmay ⊢;have hwm2 : WM ((((w).setCell ⟨b, 6, none⟩ (.bool false)).setCell ⟨b, 7, none⟩ (.slice none 0 0)).setCell ⟨b, 8, none⟩ (.slice none 0 0)) m wl := hwm.same ((Below.heap_setCell (((w).setCell ⟨b, 6, none⟩ (.bool false)).setCell ⟨b, 7, none⟩ (.slice none 0 0)) ⟨b, 8, none⟩ (.slice none 0 0) m hmb).trans ((Below.heap_setCell ((w).setCell ⟨b, 6, none⟩ (.bool false)) ⟨b, 7, none⟩ (.slice none 0 0) m hmb).trans (Below.heap_setCell (w) ⟨b, 6, none⟩ (.bool false) m hmb)));exact h.turned hbut hmay hwm2 hwl (fun x hx => (hfl x hx).but hbut) (cw := cw) (aoH := none) (capH := 0) (aoT := none) (capT := 0) ((((K).put 6 (.bool false)).put 7 (.slice none 0 0)).put 8 (.slice none 0 0)) ⟨⟨fun p hp => (by simp at hp), .inl rfl⟩, .inl rfl⟩ ⟨⟨fun p hp => (by simp at hp), .inl rfl⟩, .inl rfl⟩
theorem bn_warm {wB w : World} {ao : Option Addr} {cap : Nat} {l : List Sit} {b m md : Nat} {s : Sta} {a : Acn} (h : Bn wB w ao cap l b m md s) (hq : warmA s a = ({ s with heat := a.value }, 0)) : Bn wB ((w).setCell ⟨b, 10, none⟩ (.int .i64 a.value)) ao cap l b m md (warmA s a).1 := by
 obtain ⟨cw, aoH, capH, aoT, capT, K, hh, ht⟩ := h.bk;have hbut : But b m w ((w).setCell ⟨b, 10, none⟩ (.int .i64 a.value)) := but_set b m (w) 10 (.int .i64 a.value);obtain ⟨wl, hwm, hwl, hfl⟩ := h.wells;have hmb : m ≠ b := fun e => h.ne.1 e.symm;have hmay := (may_warm h.may (by rw [hq])).1;rw [hq] at hmay ⊢;have hwm2 : WM ((w).setCell ⟨b, 10, none⟩ (.int .i64 a.value)) m wl := hwm.same (Below.heap_setCell (w) ⟨b, 10, none⟩ (.int .i64 a.value) m hmb);exact h.turned hbut hmay hwm2 hwl (fun x hx => (hfl x hx).but hbut) (cw := cw) (aoH := aoH) (capH := capH) (aoT := aoT) (capT := capT) ((K).put 10 (.int .i64 a.value)) (hh.but hbut) (ht.but hbut)
theorem bn_pass {wB w : World} {ao : Option Addr} {cap : Nat} {l : List Sit} {b m md : Nat} {s : Sta} {a : Acn} (h : Bn wB w ao cap l b m md s) (hq : passA s a = ({ s with clock := s.clock + a.time }, 0)) : Bn wB ((w).setCell ⟨b, 11, none⟩ (.int .i64 (s.clock + a.time))) ao cap l b m md (passA s a).1 := by
 obtain ⟨cw, aoH, capH, aoT, capT, K, hh, ht⟩ := h.bk;have hbut : But b m w ((w).setCell ⟨b, 11, none⟩ (.int .i64 (s.clock + a.time))) := but_set b m (w) 11 (.int .i64 (s.clock + a.time));obtain ⟨wl, hwm, hwl, hfl⟩ := h.wells;have hmb : m ≠ b := fun e => h.ne.1 e.symm;have hmay := (may_pass h.may (by rw [hq])).1;rw [hq] at hmay ⊢;have hwm2 : WM ((w).setCell ⟨b, 11, none⟩ (.int .i64 (s.clock + a.time))) m wl := hwm.same (Below.heap_setCell (w) ⟨b, 11, none⟩ (.int .i64 (s.clock + a.time)) m hmb);exact h.turned hbut hmay hwm2 hwl (fun x hx => (hfl x hx).but hbut) (cw := cw) (aoH := aoH) (capH := capH) (aoT := aoT) (capT := capT) ((K).put 11 (.int .i64 (s.clock + a.time))) (hh.but hbut) (ht.but hbut)
theorem tip_any (wB w : World) (ao : Option Addr) (cap : Nat) (l : List Sit) (b m md : Nat) (s : Sta) (a : Acn) (hB : Bn wB w ao cap l b m md s) :
  Calls Tryz.prog 177 #[ptr b, av a] w fun e w' => e = .returned (.int .i64 (tipA l s).2) ∧ Bn wB w' ao cap l b m md (tipA l s).1 := by
 have HBN := hdd hB;have HB0 : Hid (Bn wB (w.alloc (aobj a)) ao cap l b m md s) := hB.next ((brf).alloc (Nat.le_refl _) _);clear hB;obtain ⟨cw, aoH, capH, aoT, capT, K, hh, ht⟩ := HBN.out.bk;have KB : Hid (Bk b (bcs ao cap l md m cw s aoH capH aoT capT) w) := K;have hbw := KB.out.1;have hbn : b ≠ w.heap.size := by omega
 clear K hh ht;have hfew := tips_few HB0.out.hd
 cases htp : s.tip with
 | true =>
  have HQ : Hid (tipA l s = (s, 12)) := by show _ = _; unfold tipA; rw [if_pos htp]
  obtain ⟨k0, k1, k2, k3, k4, k5, k6, k7, k8, k9, k10, k11⟩ := (KB.out).c12;rw [htp] at k6
  go_enter Tryz.func177, Tryz.ntmps177
  go_wp2;go_ret;exact ⟨by rw [HQ.out]; rfl, by rw [HQ.out]; exact HB0.out⟩
 | false =>
  have htk := HB0.out.may.take;unfold mayTake at htk;rw [if_neg (by rw [htp]; decide)] at htk;simp only [Bool.and_eq_true, inR_iff] at htk;have u0 := htk.1.1;have u1 := htk.1.2;clear htk
  by_cases hu : ((tipsL l).length : Int) ≤ s.used
  ·have HQ : Hid (tipA l s = (s, 19)) := by show _ = _; unfold tipA; rw [if_neg (by rw [htp]; decide), if_pos hu]
   have hd : decide (((tipsL l).length : Int) ≤ s.used) = true := decide_eq_true hu;obtain ⟨k0, k1, k2, k3, k4, k5, k6, k7, k8, k9, k10, k11⟩ := (KB.out).c12;rw [htp] at k6;clear hu
   go_enter Tryz.func177, Tryz.ntmps177
   go_wp2_with fail
   go_big_quiet (fail)
   go_wp2;go_ret;exact ⟨by rw [HQ.out]; rfl, by rw [HQ.out]; exact HB0.out.next (blw_drewN (brf) _)⟩
  ·have HQ : Hid (tipA l s = ({ s with tip := true, used := s.used + 1 }, 0)) := by show _ = _; unfold tipA; rw [if_neg (by rw [htp]; decide), if_neg hu]
   have hd : decide (((tipsL l).length : Int) ≤ s.used) = false := decide_eq_false hu;obtain ⟨k0, k1, k2, k3, k4, k5, k6, k7, k8, k9, k10, k11⟩ := (KB.out).c12;obtain ⟨kf0, kf1, kf2, kf3, kf4, kf5, kf6, kf7, kf8, kf9, kf10, kf11⟩ := (KB.out).f12;rw [htp] at k6;have hu2 : s.used < ((tipsL l).length : Int) := by omega
   have hwr : IntKind.i64.wrap (s.used + 1) = s.used + 1 := wrap_in (by omega) (by omega);clear hu
   go_enter Tryz.func177, Tryz.ntmps177
   go_wp2_with fail
   go_big_quiet (fail)
   go_wp2;go_ret;exact ⟨by rw [HQ.out]; rfl, bn_tip (HB0.out.next (blw_drewN (brf) _)) HQ.out⟩
theorem drop_any (wB w : World) (ao : Option Addr) (cap : Nat) (l : List Sit) (b m md : Nat) (s : Sta) (a : Acn) (hB : Bn wB w ao cap l b m md s) :
  Calls Tryz.prog 178 #[ptr b, av a] w fun e w' => e = .returned (.int .i64 (dropA s).2) ∧ Bn wB w' ao cap l b m md (dropA s).1 := by
 have HBN := hdd hB;have HB0 : Hid (Bn wB (w.alloc (aobj a)) ao cap l b m md s) := hB.next ((brf).alloc (Nat.le_refl _) _);clear hB;obtain ⟨cw, aoH, capH, aoT, capT, K, hh, ht⟩ := HBN.out.bk;have KB : Hid (Bk b (bcs ao cap l md m cw s aoH capH aoT capT) w) := K;have hbw := KB.out.1;have hbn : b ≠ w.heap.size := by omega
 clear K hh ht
 cases htp : s.tip with
 | false =>
  have HQ : Hid (dropA s = (s, 12)) := by show _ = _; unfold dropA; rw [if_neg (by rw [htp]; decide)]
  obtain ⟨k0, k1, k2, k3, k4, k5, k6, k7, k8, k9, k10, k11⟩ := (KB.out).c12;rw [htp] at k6
  go_enter Tryz.func178, Tryz.ntmps178
  go_wp2;go_ret;exact ⟨by rw [HQ.out]; rfl, by rw [HQ.out]; exact HB0.out⟩
 | true =>
  have HQ : Hid (dropA s = ({ s with tip := false, held := [], touched := [] }, 0)) := by show _ = _; unfold dropA; rw [if_pos htp]
  obtain ⟨k0, k1, k2, k3, k4, k5, k6, k7, k8, k9, k10, k11⟩ := (KB.out).c12;obtain ⟨kf0, kf1, kf2, kf3, kf4, kf5, kf6, kf7, kf8, kf9, kf10, kf11⟩ := (KB.out).f12;rw [htp] at k6
  go_enter Tryz.func178, Tryz.ntmps178
  go_wp2;go_ret;refine ⟨by rw [HQ.out]; rfl, ?_⟩
  first | exact bn_drop HB0.out HQ.out | exact (bn_drop HBN.out HQ.out).next ((brf).alloc (by simp [World.setCell]) _)
theorem warm_any (wB w : World) (ao : Option Addr) (cap : Nat) (l : List Sit) (b m md : Nat) (s : Sta) (a : Acn) (hB : Bn wB w ao cap l b m md s) :
  Calls Tryz.prog 181 #[ptr b, av a] w fun e w' => e = .returned (.int .i64 (warmA s a).2) ∧ Bn wB w' ao cap l b m md (warmA s a).1 := by
 have HBN := hdd hB;have HB0 : Hid (Bn wB (w.alloc (aobj a)) ao cap l b m md s) := hB.next ((brf).alloc (Nat.le_refl _) _);clear hB;obtain ⟨cw, aoH, capH, aoT, capT, K, hh, ht⟩ := HBN.out.bk;have KB : Hid (Bk b (bcs ao cap l md m cw s aoH capH aoT capT) w) := K;have hbw := KB.out.1;have hbn : b ≠ w.heap.size := by omega
 clear K hh ht;have KA : Hid (Bk w.heap.size (acl a) (w.alloc (aobj a))) := by exact Bk.new w (acl a) 57 w.heap.size rfl
 cases hv : inR 0 1000000000 a.value with
 | false =>
  have HQ : Hid (warmA s a = (s, 2)) := by show _ = _; unfold warmA; rw [if_neg (by rw [hv]; decide)]
  go_enter Tryz.func181, Tryz.ntmps181
  go_wp2_with fail
  refine (mwithin_any 0 a.value 1000000000 _).mono ?_;rintro e w2 ⟨rfl, rfl⟩;rw [hv];go_wp2;go_ret;exact ⟨by rw [HQ.out]; rfl, by rw [HQ.out]; exact HB0.out⟩
 | true =>
  have HQ : Hid (warmA s a = ({ s with heat := a.value }, 0)) := by show _ = _; unfold warmA; rw [if_pos hv]
  obtain ⟨k0, k1, k2, k3, k4, k5, k6, k7, k8, k9, k10, k11⟩ := (KB.out).c12;obtain ⟨kf0, kf1, kf2, kf3, kf4, kf5, kf6, kf7, kf8, kf9, kf10, kf11⟩ := (KB.out).f12
  go_enter Tryz.func181, Tryz.ntmps181
  go_wp2_with fail
  refine (mwithin_any 0 a.value 1000000000 _).mono ?_;rintro e w2 ⟨rfl, rfl⟩;rw [hv];go_wp2;go_ret;refine ⟨by rw [HQ.out]; rfl, ?_⟩
  first | exact bn_warm (a := a) HB0.out HQ.out | exact (bn_warm (a := a) HBN.out HQ.out).next ((brf).alloc (by simp [World.setCell]) _)
def psV (b B : Nat) (s : Sta) (a : Acn) (d : Nat) (v : Value) (_ : World) : Prop :=
 match d with
 | 18 | 19 => v = .pointer (some ⟨b, 0, none⟩)
 | 20 => v = .pointer (some ⟨b, 5, none⟩)
 | 21 => v = .pointer (some ⟨b, 11, none⟩)
 | 22 => v = .int .i64 s.clock
 | 23 => v = .pointer (some ⟨B, 7, none⟩)
 | 24 => v = .int .i64 a.time
 | 25 => v = .int .i64 (s.clock + a.time)
 | _ => True
theorem psV_mono (b B : Nat) (s : Sta) (a : Acn) (d : Nat) (v : Value) (w w' : World) (h : psV b B s a d v w) (_ : bw w w') : psV b B s a d v w' := h
theorem pass_any (wB w : World) (ao : Option Addr) (cap : Nat) (l : List Sit) (b m md : Nat) (s : Sta) (a : Acn) (hB : Bn wB w ao cap l b m md s) :
  Calls Tryz.prog 182 #[ptr b, av a] w fun e w' => e = .returned (.int .i64 (passA s a).2) ∧ Bn wB w' ao cap l b m md (passA s a).1 := by
 have HBN := hdd hB;have HB0 : Hid (Bn wB (w.alloc (aobj a)) ao cap l b m md s) := hB.next ((brf).alloc (Nat.le_refl _) _);clear hB;obtain ⟨cw, aoH, capH, aoT, capT, K, hh, ht⟩ := HBN.out.bk;have KB : Hid (Bk b (bcs ao cap l md m cw s aoH capH aoT capT) w) := K;have hbw := KB.out.1;have hbn : b ≠ w.heap.size := by omega
 clear K hh ht
 cases hv : inR 0 1000000000 a.time with
 | false =>
  have HQ : Hid (passA s a = (s, 2)) := by show _ = _; unfold passA; rw [if_neg (by rw [hv]; decide)]
  go_enter Tryz.func182, Tryz.ntmps182
  go_wp2_with fail
  refine (mwithin_any 0 a.time 1000000000 _).mono ?_;rintro e w2 ⟨rfl, rfl⟩;rw [hv];go_wp2;go_ret;exact ⟨by rw [HQ.out]; rfl, by rw [HQ.out]; exact HB0.out⟩
 | true =>
  have hcl := HBN.out.may.clock;have hti := inR_iff.1 hv;have hwr : IntKind.i64.wrap (s.clock + a.time) = s.clock + a.time := wrap_in (by omega) (by omega)
  by_cases hu : 1000000000 < s.clock + a.time
  ·have HQ : Hid (passA s a = (s, 8)) := by show _ = _; unfold passA; rw [if_pos hv, if_pos hu]
   have hd : decide (1000000000 < s.clock + a.time) = true := decide_eq_true hu;obtain ⟨k0, k1, k2, k3, k4, k5, k6, k7, k8, k9, k10, k11⟩ := (KB.out).c12;clear hu hcl hti
   go_enter Tryz.func182, Tryz.ntmps182
   go_wp2_with fail
   refine (mwithin_any 0 a.time 1000000000 _).mono ?_;rintro e w2 ⟨rfl, rfl⟩;rw [hv]
   go_wp2_with fail
   go_big_quiet (fail)
   go_wp2;go_ret;exact ⟨by rw [HQ.out]; rfl, by rw [HQ.out]; exact HB0.out.next (blw_drewN (brf) _)⟩
  ·have HQ : Hid (passA s a = ({ s with clock := s.clock + a.time }, 0)) := by show _ = _; unfold passA; rw [if_pos hv, if_neg hu]
   have hd : decide (1000000000 < s.clock + a.time) = false := decide_eq_false hu;have HWR := hdd hwr;obtain ⟨k0, k1, k2, k3, k4, k5, k6, k7, k8, k9, k10, k11⟩ := (KB.out).c12;clear hu hcl hti
   go_enter Tryz.func182, Tryz.ntmps182
   go_wp2_with fail
   refine (mwithin_any 0 a.time 1000000000 _).mono ?_;rintro e w2 ⟨rfl, rfl⟩;rw [hv]
   go_wp2_with fail
   go_big_quiet (fail)
   go_wp2_with fail
   rename_i KK hkk;have HKK := (show Hid _ from hkk);clear hkk;have KB0 : Hid (Bk b (bcs ao cap l md m cw s aoH capH aoT capT) (w.alloc (aobj a))) := KB.out.later ((brf).alloc (Nat.le_refl _) _);have KA0 : Hid (Bk w.heap.size (acl a) (w.alloc (aobj a))) := by exact Bk.new w (acl a) 57 w.heap.size rfl
   generalize hw3 : World.drewN (w.alloc (aobj a)) _ = w3;have hb3 : Below (w.alloc (aobj a)).heap.size (w.alloc (aobj a)) w3 := by rw [← hw3]; exact blw_drewN (brf) _
   have KB1 : Hid (Bk b (bcs ao cap l md m cw s aoH capH aoT capT) w3) := KB0.out.later hb3;have KA1 : Hid (Bk w.heap.size (acl a) w3) := KA0.out.later hb3;have HB3 : Hid (Bn wB w3 ao cap l b m md s) := HB0.out.next hb3;clear hw3 hb3 k0 k1 k2 k3 k4 k5 k6 k7 k8 k9 k10 k11
   refine region_seq 8 [zf,zf,zf,zf,zf,zf,zf,zf,zf,zf,zf,zf,zf,zf,zf,zf,zf,zf,zt,zt,zt,zt,zt,zt,zt,zt,zf,zf,zf]
    [(18, [], none), (19, [18], none), (20, [19], none), (21, [20], none), (22, [21], none), (23, [], none), (24, [23], none), (25, [22, 24], none)]
    (psV b w.heap.size s a) (by kernel_rfl) (by kernel_rfl) (by kernel_rfl) (by kernel_rfl) (by kernel_rfl) (by decide) (psV_mono b w.heap.size s a) ?_ ?_
   ·refine ⟨?_, ?_, ?_, ?_, ?_, ?_, ?_, ?_, trivial⟩
    any_goals first | (intro f w1 hb _ K hK; simp only [ov, oL, Nat.reduceAdd]; go_simp; exact hK _ _ ⟨_, rfl, by simp only [ov, oL, Nat.reduceAdd]; rfl, brf⟩) | fail
    ·rintro f w1 hb ⟨(h18 : f 18 = _), _⟩ K hK
     simp only [ov, oL, Nat.reduceAdd, h18];go_simp;exact hK _ _ ⟨_, rfl, by simp only [ov, oL, Nat.reduceAdd, h18]; rfl, brf⟩
    ·rintro f w1 hb ⟨(h19 : f 19 = _), _⟩ K hK
     simp only [ov, oL, Nat.reduceAdd, h19];go_simp;exact hK _ _ ⟨_, rfl, by simp only [ov, oL, Nat.reduceAdd, h19]; rfl, brf⟩
    ·rintro f w1 hb ⟨(h20 : f 20 = _), _⟩ K hK
     simp only [ov, oL, Nat.reduceAdd, h20];go_simp;exact hK _ _ ⟨_, rfl, by simp only [ov, oL, Nat.reduceAdd, h20]; rfl, brf⟩
    ·rintro f w1 hb ⟨(h21 : f 21 = _), _⟩ K hK
     have q11 := (KB1.out.later hb).c 11 rfl;simp only [ov, oL, Nat.reduceAdd, h21];go_simp;exact hK _ _ ⟨_, rfl, by simp only [ov, oL, Nat.reduceAdd, h21]; rfl, brf⟩
    ·rintro f w1 hb ⟨(h23 : f 23 = _), _⟩ K hK
     have q7 := (KA1.out.later hb).c 7 rfl;simp only [ov, oL, Nat.reduceAdd, h23];go_simp;exact hK _ _ ⟨_, rfl, by simp only [ov, oL, Nat.reduceAdd, h23]; rfl, brf⟩
    ·rintro f w1 hb ⟨(h22 : f 22 = _), (h24 : f 24 = _), _⟩ K hK
     have hwr := HWR.out;simp only [ov, oL, Nat.reduceAdd, h22, h24];go_simp;exact hK _ _ ⟨_, rfl, by simp only [ov, oL, Nat.reduceAdd, h22, h24]; rfl, brf⟩
   intro f w1 hb hv;have h18 : f 18 = _ := hv.1;have h25 : f 25 = _ := hv.2.2.2.2.2.2.2.1;have HB4 : Hid (Bn wB w1 ao cap l b m md s) := HB3.out.next hb;have KB2 : Hid (Bk b (bcs ao cap l md m cw s aoH capH aoT capT) w1) := KB1.out.later hb;obtain ⟨k0, k1, k2, k3, k4, k5, k6, k7, k8, k9, k10, k11⟩ := (KB2.out).c12;obtain ⟨kf0, kf1, kf2, kf3, kf4, kf5, kf6, kf7, kf8, kf9, kf10, kf11⟩ := (KB2.out).f12;have lt1 := KB2.out.1;clear hv hb;simp only [List.drop, ov, oL, Nat.reduceAdd, h18, h25];clear h18 h25;go_wp2;refine HKK.out _ _ ?_;go_wp2;go_ret;exact ⟨by rw [HQ.out]; rfl, bn_pass (a := a) HB4.out HQ.out⟩
theorem shake_any (wB w : World) (ao : Option Addr) (cap : Nat) (l : List Sit) (b m md : Nat) (s : Sta) (a : Acn) (hB : Bn wB w ao cap l b m md s) :
  Calls Tryz.prog 183 #[ptr b, av a] w fun e w' => e = .returned (.int .i64 (shakeA s a).2) ∧ Bn wB w' ao cap l b m md (shakeA s a).1 := by
 have HBN := hdd hB;have HB0 : Hid (Bn wB (w.alloc (aobj a)) ao cap l b m md s) := hB.next ((brf).alloc (Nat.le_refl _) _);clear hB;obtain ⟨cw, aoH, capH, aoT, capT, K, hh, ht⟩ := HBN.out.bk;have KB : Hid (Bk b (bcs ao cap l md m cw s aoH capH aoT capT) w) := K;have hbw := KB.out.1;have hbn : b ≠ w.heap.size := by omega
 clear K hh ht
 cases hv : inR 0 1000000000 a.value with
 | false =>
  have HQ : Hid (shakeA s a = (s, 2)) := by show _ = _; unfold shakeA; rw [if_neg (by rw [hv]; decide)]
  go_enter Tryz.func183, Tryz.ntmps183
  go_wp2_with fail
  refine (mwithin_any 0 a.value 1000000000 _).mono ?_;rintro e w2 ⟨rfl, rfl⟩;rw [hv];go_wp2;go_ret;exact ⟨by rw [HQ.out]; rfl, by rw [HQ.out]; exact HB0.out⟩
 | true =>
  have HQ : Hid (shakeA s a = passA s a) := by show _ = _; unfold shakeA; rw [if_pos hv]
  obtain ⟨k0, k1, k2, k3, k4, k5, k6, k7, k8, k9, k10, k11⟩ := (KB.out).c12
  go_enter Tryz.func183, Tryz.ntmps183
  go_wp2_with fail
  refine (mwithin_any 0 a.value 1000000000 _).mono ?_;rintro e w2 ⟨rfl, rfl⟩;rw [hv]
  go_wp2_with fail
  refine (pass_any wB _ ao cap l b m md s a HB0.out).mono ?_;rintro e w2 ⟨rfl, h2⟩;have HB2 := hdd h2;clear h2;go_wp2;go_ret;exact ⟨by rw [HQ.out]; rfl, by rw [HQ.out]; exact HB2.out⟩
end Go.Proofs.YtcajifelbldjnaaGreatDoor
namespace Go.Proofs.YtcajifelbldjnaaGreatDoor
open Go.RowKit Go.Maps
def Fr (b m : Nat) (ps : List F.Pc) (v : Value) (w : World) : Prop := ∃ ao cap, v = .slice ao ps.length cap ∧ Flx b m w ao ps
theorem Fr.later {b m : Nat} {ps : List F.Pc} {v : Value} {w w1 : World} (h : Fr b m ps v w) (hb : bw w w1) : Fr b m ps v w1 := by
 obtain ⟨ao, cap, e, hf⟩ := h;exact ⟨ao, cap, e, hf.next hb⟩
def TF (b m : Nat) (ps : List F.Pc) (e : Int) (v : Value) (w : World) : Prop := ∃ x, v = .tuple #[x, .int .i64 e] ∧ Fr b m ps x w
theorem TF.later {b m : Nat} {ps : List F.Pc} {e : Int} {v : Value} {w w1 : World} (h : TF b m ps e v w) (hb : bw w w1) : TF b m ps e v w1 := by
 obtain ⟨x, h1, h2⟩ := h;exact ⟨x, h1, h2.later hb⟩
def TG3 (b m : Nat) (ps qs : List F.Pc) (e : Int) (v : Value) (w : World) : Prop := ∃ x y, v = .tuple #[x, y, .int .i64 e] ∧ Fr b m ps x w ∧ Fr b m qs y w
theorem TG3.later {b m : Nat} {ps qs : List F.Pc} {e : Int} {v : Value} {w w1 : World} (h : TG3 b m ps qs e v w) (hb : bw w w1) : TG3 b m ps qs e v w1 := by
 obtain ⟨x, y, h1, h2, h3⟩ := h;exact ⟨x, y, h1, h2.later hb, h3.later hb⟩
theorem tog_sizes (f g : List F.Pc) (m : Int) : ∀ p ∈ (togR f g m).1, p.1.size ≤ maxLen := by
 by_cases h : (togR f g m).2 = 0
 ·exact F.fine_size (mayHold_iff.1 (mayHold_tog h)).1
 ·have : (togR f g m).1 = [] := by
   unfold togR at h ⊢
   split at h
   ·rename_i h1; rw [if_pos h1]
   ·rename_i h1
    rw [if_neg h1];unfold F.putR at h ⊢
    repeat' split at h
    all_goals first | (exfalso; exact h rfl) | (repeat' split) <;> simp_all
  rw [this];intro p hp;simp at hp
theorem draw_sizes (v : Int) (f : List F.Pc) : (∀ p ∈ (F.drawF v f).1, p.1.size ≤ maxLen) ∧ ∀ p ∈ (F.drawF v f).2.1, p.1.size ≤ maxLen := by
 by_cases h : (F.drawF v f).2.2 = 0
 ·obtain ⟨h1, h2, h3, h4, h5⟩ := drawF_ok h
  obtain ⟨g1, g2⟩ := F.draw_fine h2 h1;rw [h4, h5];exact ⟨F.fine_size g1, F.fine_size g2⟩
 ·have : (F.drawF v f).1 = [] ∧ (F.drawF v f).2.1 = [] := by
   unfold F.drawF at h ⊢
   repeat' split at h
   all_goals first | (exfalso; exact h rfl) | (repeat' split) <;> simp_all
  rw [this.1, this.2];exact ⟨fun p hp => by simp at hp, fun p hp => by simp at hp⟩
theorem tog_fr (b m : Nat) (ao ao' : Option Addr) (cap cap' : Nat) (f g : List F.Pc) (mo : Int) (w : World) (h : F.Fl w ao f) (h' : F.Fl w ao' g) (hb : b < w.heap.size) (hm : m < w.heap.size) :
  Calls Tryz.prog 209 #[.slice ao f.length cap, .slice ao' g.length cap', .int .i64 mo] w fun e w' => ∃ v, e = .returned v ∧ TF b m (togR f g mo).1 (togR f g mo).2 v w' ∧ bw w w' := by
 refine (together_any ao ao' cap cap' f g mo w h h').mono ?_;rintro e w' ⟨v, rfl, ho, hb'⟩;exact ⟨_, rfl, ⟨v, rfl, flx_of ho (tog_sizes f g mo) hb hm⟩, hb'⟩
theorem draw_fr (b m : Nat) (ao : Option Addr) (cap : Nat) (ps : List F.Pc) (v : Int) (w : World) (h : F.Fl w ao ps) (hb : b < w.heap.size) (hm : m < w.heap.size) :
  Calls Tryz.prog 211 #[.slice ao ps.length cap, .int .i64 v] w fun e w' => ∃ x, e = .returned x ∧ TG3 b m (F.drawF v ps).1 (F.drawF v ps).2.1 (F.drawF v ps).2.2 x w' ∧ bw w w' := by
 refine (F.draw_any ao cap ps v w h).mono ?_;rintro e w' ⟨x, y, rfl, h1, h2, hb'⟩;exact ⟨_, rfl, ⟨x, y, rfl, flx_of h1 (draw_sizes v ps).1 hb hm, flx_of h2 (draw_sizes v ps).2 hb hm⟩, hb'⟩
theorem Bn.keptTo {wB w w1 : World} {ao : Option Addr} {cap : Nat} {l : List Sit} {b m md : Nat} {s s' : Sta} (h : Bn wB w ao cap l b m md s) {wl : List Wh} (hwl : whp wl = s.wells) (hfl : ∀ x ∈ wl, Flx b m w x.2.1 x.2.2.2) {p : Plc} {aof : Option Addr} {capf : Nat} {f : List F.Pc} (hbut : But b m w w1) (hwm : WM w1 m (setH wl p (aof, capf, f))) (hf : Flx b m w1 aof f) (hmay : May l s') (hs : s'.wells = wset s.wells p f)
  {cw : Option Addr × Nat × Nat} {aoH : Option Addr} {capH : Nat} {aoT : Option Addr} {capT : Nat} (hbk : Bk b (bcs ao cap l md m cw s' aoH capH aoT capT) w1) (hh : Flx b m w1 aoH s'.held) (ht : Txx b m w1 aoT s'.touched) : Bn wB w1 ao cap l b m md s' :=
 h.turned hbut hmay hwm (by rw [whp_setH, hwl, hs]) (fun x hx => by rcases mem_setH hx with rfl | hx; exact hf; exact (hfl x hx).but hbut) hbk hh ht
theorem flx_at {b m : Nat} {w : World} {wl : List Wh} (h : ∀ x ∈ wl, Flx b m w x.2.1 x.2.2.2) (p : Plc) : Flx b m w (fdAt wl p).1 (fdAt wl p).2.2 := by
 rcases fdAt_cases wl p with ⟨_, e⟩ | ⟨x, hx, _, e⟩
 ·rw [e]
  exact ⟨⟨fun p hp => by simp at hp, .inl rfl⟩, .inl rfl⟩
 ·rw [e]
  exact h x hx
theorem aim_ok {l : List Sit} {a : Acn} (h : (aimR l a).2 = 0) : (wellM l a.pl).2 = 0 := by
 unfold aimR at h
 split at h
 ·assumption
 ·exact h
def fiV (b B m c : Nat) (a : Acn) (mo : Int) (fw : F.Fd) (ps : List F.Pc) (e1 : Int) (d : Nat) (v : Value) (w : World) : Prop :=
 match d with
 | 31 | 32 => v = .pointer (some ⟨b, 0, none⟩)
 | 33 => v = .pointer (some ⟨b, 4, none⟩)
 | 34 => v = .map (some m)
 | 35 => v = .pointer (some ⟨B, 1, none⟩)
 | 36 => v = .agg #[.int .i64 a.pl.1, .int .i64 a.pl.2.1, .int .i64 a.pl.2.2]
 | 37 => v = .slice fw.1 fw.2.2.length fw.2.1
 | 38 => v = .slice (some ⟨c, 0, none⟩) 1 1
 | 39 => v = .int .i64 mo
 | 40 | 30 => TF b m ps e1 v w
 | 41 | 9 => Fr b m ps v w
 | 42 | 6 => v = .int .i64 e1
 | _ => True
theorem fiV_mono (b B m c : Nat) (a : Acn) (mo : Int) (fw : F.Fd) (ps : List F.Pc) (e1 : Int) (d : Nat) (v : Value) (w w' : World) (h : fiV b B m c a mo fw ps e1 d v w) (hb : bw w w') : fiV b B m c a mo fw ps e1 d v w' := by
 unfold fiV at h ⊢
 split <;> simp only [] at h <;> first | exact h | exact h.later hb
theorem fill_any (wB w : World) (ao : Option Addr) (cap : Nat) (l : List Sit) (b m md : Nat) (s : Sta) (a : Acn) (hB : Bn wB w ao cap l b m md s) (hlab : a.label.size ≤ maxLen) :
  Calls Tryz.prog 176 #[ptr b, av a] w fun e w' => e = .returned (.int .i64 (fillA l s a).2) ∧ Bn wB w' ao cap l b m md (fillA l s a).1 := by
 have HBN := hdd hB;clear hB;obtain ⟨w0, hw0⟩ : ∃ w0, w0 = w.alloc (aobj a) := ⟨_, rfl⟩;have b0 : bw w w0 := by rw [hw0]; exact (brf).alloc (Nat.le_refl _) _
 have KA : Hid (Bk w.heap.size (acl a) w0) := by show Bk _ _ _; rw [hw0]; exact Bk.new w (acl a) 57 w.heap.size rfl
 have HB0 := hdd (HBN.out.next b0);have HW0 := hdd hw0;clear hw0 b0;obtain ⟨cw, aoH, capH, aoT, capT, K, hh, ht⟩ := HB0.out.bk;have KB : Hid (Bk b (bcs ao cap l md m cw s aoH capH aoT capT) w0) := K;have HH := hdd hh;have HT := hdd ht;have hbw : b < w.heap.size := by obtain ⟨_, _, _, _, _, K', _⟩ := HBN.out.bk; exact K'.1
 have hbn : b ≠ w.heap.size := by omega
 have lt0 := KB.out.1;clear K hh ht;clear lt0;have HLB := hdd hlab;clear hlab
 go_enter Tryz.func176, Tryz.ntmps176
 go_wp2_with fail
 rw [← HW0.out];refine (aim_any wB w0 ao cap l b m md s a HB0.out).mono ?_;rintro e w1 ⟨rfl, hb1⟩;have HBB := hdd (HB0.out.next hb1);have KA1 := hdd (KA.out.later hb1);have KB1 := hdd (KB.out.later hb1);have HH1 := hdd (HH.out.next hb1);have HT1 := hdd (HT.out.next hb1);have ltA := KA1.out.1;have ltB := KB1.out.1;clear hb1;obtain ⟨q0, q1, q2, q3, q4, q5, q6, q7⟩ := (KA1.out).c8;obtain ⟨⟨mo, e0⟩, hM⟩ : ∃ x, aimR l a = x := ⟨_, rfl⟩;have HA := hdd hM;rw [hM];clear hM
 by_cases he : e0 = 0
 ·subst he
  have HP : Hid (Wf3 a.pl) := wf_place HB0.out.hd (aim_ok (by rw [HA.out]))
  go_wp2_with fail
  have KC : Hid (Bk w1.heap.size [.string a.label, .int .i64 a.vol] (w1.alloc (.cells #[.string a.label, .int .i64 a.vol] 147))) := Bk.new w1 [.string a.label, .int .i64 a.vol] 147 w1.heap.size rfl;have HB2 : Hid (bw w1 (w1.alloc (.cells #[.string a.label, .int .i64 a.vol] 147))) := (brf).alloc (Nat.le_refl _) _
  have hpf : F.Fl (w1.alloc (.cells #[.string a.label, .int .i64 a.vol] 147)) (some ⟨w1.heap.size, 0, none⟩) [(a.label, a.vol)] := by
   refine ⟨fun p hp => by simp at hp; rw [hp]; exact HLB.out, .inr ⟨_, 0, rfl, KC.out.1, fun k hk => ?_⟩⟩;have : k = 0 := by simp at hk; exact hk
   subst this;exact ⟨KC.out.c 0 rfl, KC.out.c 1 rfl⟩
  have HPF := (show Hid _ from hpf);clear hpf;refine (F.check_any (some ⟨w1.heap.size, 0, none⟩) 1 [(a.label, a.vol)] _ HPF.out).mono ?_;rintro e w3 ⟨rfl, hb3⟩;have hb13 : bw w1 w3 := HB2.out.trans (hb3.mono HB2.out.size);have HB3 := hdd (HBB.out.next hb13);have KA3 := hdd (KA1.out.later hb13);have KB3 := hdd (KB1.out.later hb13);have HH3 := hdd (HH1.out.next hb13);have HT3 := hdd (HT1.out.next hb13);have HP3 : Hid (F.Fl w3 (some ⟨w1.heap.size, 0, none⟩) [(a.label, a.vol)]) := F.Fl.next HPF.out hb3;clear HPF HB2 KC hb13 hb3 HBB KA1 KB1 HH1 HT1 q0 q1 q2 q3 q4 q5 q6 q7;obtain ⟨e2, hcq⟩ : ∃ e2, F.fref [(a.label, a.vol)] = e2 := ⟨_, rfl⟩;have HCK := hdd hcq;rw [hcq];clear hcq
  by_cases hc : e2 = 0
  ·subst hc
   go_wp2_with fail
   rename_i KK hkk;have HKK := (show Hid _ from hkk);clear hkk;obtain ⟨wl, hwm, hwl, hfl⟩ := HB3.out.wells;obtain ⟨fw, hfw⟩ : ∃ x, fdAt wl a.pl = x := ⟨_, rfl⟩;have hff := flx_at hfl a.pl;rw [hfw] at hff;have HFF := hdd hff
   have HLK : Hid (∀ W, bw w3 W → (Instr.lookup 201 (.map (some m)) (plv a.pl) false).run Tryz.prog W = .ok (.slice fw.1 fw.2.2.length fw.2.1) W) := fun W hW => by
    have := (hwm.next hW).look HP.out;rw [hfw] at this;exact this
   have HWF : Hid (wellF s.wells a.pl = fw.2.2) := by show _ = _; rw [← hwl, ← fdAt_whp, hfw]
   have HWM := hdd hwm;have HWL := hdd hwl;have HFL := hdd hfl;have HML : Hid (m < w3.heap.size) := hwm.lt;obtain ⟨⟨ps, e1⟩, htq⟩ : ∃ x, togR fw.2.2 [(a.label, a.vol)] mo = x := ⟨_, rfl⟩;have HTQ := hdd htq
   have HTG : Hid (∀ W, bw w3 W → Calls Tryz.prog 209 #[.slice fw.1 fw.2.2.length fw.2.1, .slice (some ⟨w1.heap.size, 0, none⟩) 1 1, .int .i64 mo] W fun e w' => ∃ v, e = .returned v ∧ TF b m ps e1 v w' ∧ bw W w') := fun W hW => by
    have := tog_fr b m fw.1 (some ⟨w1.heap.size, 0, none⟩) fw.2.1 1 fw.2.2 [(a.label, a.vol)] mo W (HFF.out.next hW).1 (HP3.out.next hW) (Nat.lt_of_lt_of_le KB3.out.1 hW.size) (Nat.lt_of_lt_of_le HML.out hW.size);rw [HTQ.out] at this;exact this
   clear hwm hwl hfl hfw hff htq
   refine region_seqE 15 [zf,zf,zf,zf,zf,zf,zt,zf,zf,zt,zf,zf,zf,zf,zf,zf,zf,zf,zf,zf,zf,zf,zf,zf,zf,zf,zf,zf,zf,zf,zt,zt,zt,zt,zt,zt,zt,zt,zt,zt,zt,zt,zt,zf,zf,zf,zf,zf,zf,zf,zf]
    [(31, [], none), (32, [31], none), (33, [32], none), (34, [33], none), (35, [], none), (36, [35], none), (37, [34, 36], none), (38, [], none), (39, [], none), (40, [37, 38, 39], none), (30, [40], none), (41, [30], none), (42, [30], none), (9, [41], none), (6, [42], none)]
    (fiV b w.heap.size m w1.heap.size a mo fw ps e1) (by kernel_rfl) (by kernel_rfl) (by kernel_rfl) (by kernel_rfl) (by kernel_rfl) (by decide) (fiV_mono b w.heap.size m w1.heap.size a mo fw ps e1) ?_ ?_
   ·refine ⟨?_, ?_, ?_, ?_, ?_, ?_, ?_, ?_, ?_, ?_, ?_, ?_, ?_, ?_, ?_, trivial⟩
    any_goals first | (intro f w1 hb _ K hK; simp only [ov, oL]; go_simp; exact hK _ _ ⟨_, rfl, by simp only [ov, oL]; rfl, brf⟩) | fail
    ·rintro f w1 hb ⟨(h31 : f 31 = _), _⟩ K hK
     simp only [ov, oL, h31];go_simp;exact hK _ _ ⟨_, rfl, by simp only [ov, oL, h31]; rfl, brf⟩
    ·rintro f w1 hb ⟨(h32 : f 32 = _), _⟩ K hK
     simp only [ov, oL, h32];go_simp;exact hK _ _ ⟨_, rfl, by simp only [ov, oL, h32]; rfl, brf⟩
    ·rintro f w1 hb ⟨(h33 : f 33 = _), _⟩ K hK
     have q4 := (KB3.out.later hb).c 4 rfl;simp only [ov, oL, h33];go_simp;exact hK _ _ ⟨_, rfl, by simp only [ov, oL, h33]; rfl, brf⟩
    ·rintro f w1 hb ⟨(h35 : f 35 = _), _⟩ K hK
     have q1 := (KA3.out.later hb).c 1 rfl;have q2 := (KA3.out.later hb).c 2 rfl;have q3 := (KA3.out.later hb).c 3 rfl;simp only [ov, oL, h35];go_simp;exact hK _ _ ⟨_, rfl, by simp only [ov, oL, h35]; rfl, brf⟩
    ·rintro f w1 hb ⟨(h34 : f 34 = _), (h36 : f 36 = _), _⟩ K hK
     have ql := HLK.out w1 hb;simp only [ov, oL, h34, h36];go_simp;exact hK _ _ ⟨_, rfl, by simp only [ov, oL, h34, h36]; rfl, brf⟩
    ·rintro f w1 hb ⟨(h37 : f 37 = _), (h38 : f 38 = _), (h39 : f 39 = _), _⟩ K hK
     simp only [ov, oL, h37, h38, h39];go_simp;refine ((HTG.out w1 hb).mono) ?_;rintro e w2 ⟨x, rfl, ht, hb2⟩;exact hK _ _ ⟨_, ht, by simp only [ov, oL, h37, h38, h39]; rfl, hb2⟩
    ·intro f w1 hb ⟨h40, _⟩ K hK
     simp only [ov, oL];go_simp;exact hK _ _ ⟨_, h40, by simp only [ov, oL]; rfl, brf⟩
    ·intro f w1 hb ⟨h30, _⟩ K hK
     obtain ⟨x, h30, hx⟩ := h30;simp only [ov, oL, h30];go_simp;exact hK _ _ ⟨_, hx, by simp only [ov, oL, h30]; rfl, brf⟩
    ·intro f w1 hb ⟨h30, _⟩ K hK
     obtain ⟨x, h30, hx⟩ := h30;simp only [ov, oL, h30];go_simp;exact hK _ _ ⟨_, rfl, by simp only [ov, oL, h30]; rfl, brf⟩
    ·intro f w1 hb ⟨h41, _⟩ K hK
     simp only [ov, oL];go_simp;exact hK _ _ ⟨_, h41, by simp only [ov, oL]; rfl, brf⟩
    ·rintro f w1 hb ⟨(h42 : f 42 = _), _⟩ K hK
     simp only [ov, oL, h42];go_simp;exact hK _ _ ⟨_, rfl, by simp only [ov, oL, h42]; rfl, brf⟩
   intro f w4 hb hv;have h6 : f 6 = _ := hv.2.2.2.2.2.2.2.2.2.2.2.2.2.2.1;have h9 : Fr b m ps (f 9) w4 := hv.2.2.2.2.2.2.2.2.2.2.2.2.2.1;obtain ⟨aof, capf, h9, hf⟩ := h9;have HF4 := hdd hf;have HB4 := hdd (HB3.out.next hb);have KA4 := hdd (KA3.out.later hb);have KB4 := hdd (KB3.out.later hb);have HH4 := hdd (HH3.out.next hb);have HT4 := hdd (HT3.out.next hb);have HWM4 := hdd (HWM.out.next hb);have HFL4 : Hid (∀ x ∈ wl, Flx b m w4 x.2.1 x.2.2.2) := fun x hx => (HFL.out x hx).next hb;clear hv hb hf HB3 KA3 KB3 HH3 HT3 HWM HFL HFF HLK HTG HP3;simp only [List.drop, ov, oL, h6, h9];clear h6 h9;go_wp2;refine HKK.out _ _ ?_;obtain ⟨q0, q1, q2, q3, q4, q5, q6, q7⟩ := (KA4.out).c8
   by_cases h1 : e1 = 0
   ·subst h1
    have HQ : Hid (fillA l s a = ({ s with wells := wset s.wells a.pl ps }, 0)) := by
     show _ = _;simp only [fillA, HA.out, HWF.out, HCK.out, HTQ.out];simp
    obtain ⟨hon, hfew⟩ := HB4.out.once HWL.out
    go_wp2_with fail
    refine (keep_any b m _ _ _ _ _ _ _ _ _ _ _ wl a.pl aof capf ps w4 KB4.out HWM4.out hon hfew HP.out).mono ?_;rintro e w5 ⟨rfl, hwm, hg⟩;have HWM5 := hdd hwm;have HG := hdd hg;clear hwm hg hon hfew q0 q1 q2 q3 q4 q5 q6 q7;go_wp2;go_ret;have hmay := (may_fill HB4.out.may (by rw [HQ.out] : (fillA l s a).2 = 0)).1;rw [HQ.out] at hmay ⊢;have hbut : But b m w4 w5 := but_grown HG.out;exact ⟨rfl, HB4.out.keptTo HWL.out HFL4.out hbut HWM5.out (HF4.out.but hbut) hmay rfl (cw := cw) (KB4.out.same HG.out.size (HG.out.block b KB4.out.1 (by simpa using HB4.out.ne.1))) (HH4.out.but hbut) (HT4.out.but hbut)⟩
   ·have h2 : (e1 == 0) = false := by simp [h1]
    have h3 : (e1 != 0) = true := by simp [h1]
    have HQ : Hid (fillA l s a = (s, e1)) := by
     show _ = _;simp only [fillA, HA.out, HWF.out, HCK.out, HTQ.out];simp [h1]
    clear h1;go_wp2;go_ret;exact ⟨by rw [HQ.out]; rfl, by rw [HQ.out]; exact HB4.out⟩
  ·have h2 : (e2 == 0) = false := by simp [hc]
   have h3 : (e2 != 0) = true := by simp [hc]
   have HQ : Hid (fillA l s a = (s, e2)) := by
    show _ = _;simp only [fillA, HA.out, HCK.out];simp [hc]
   clear hc;go_wp2;go_ret;exact ⟨by rw [HQ.out]; rfl, by rw [HQ.out]; exact HB3.out⟩
 ·have h2 : (e0 == 0) = false := by simp [he]
  have h3 : (e0 != 0) = true := by simp [he]
  have HQ : Hid (fillA l s a = (s, e0)) := by
   show _ = _;simp only [fillA, HA.out];simp [he]
  clear he;go_wp2;go_ret;exact ⟨by rw [HQ.out]; rfl, by rw [HQ.out]; exact HBB.out⟩
def puV (b B m : Nat) (s : Sta) (a : Acn) (aoH : Option Addr) (capH : Nat) (gs ls : List F.Pc) (e2 : Int) (d : Nat) (v : Value) (w : World) : Prop :=
 match d with
 | 26 | 27 => v = .pointer (some ⟨b, 0, none⟩)
 | 28 => v = .pointer (some ⟨b, 5, none⟩)
 | 29 => v = .pointer (some ⟨b, 7, none⟩)
 | 30 => v = .slice aoH s.held.length capH
 | 31 => v = .pointer (some ⟨B, 5, none⟩)
 | 32 => v = .int .i64 a.vol
 | 33 | 25 => TG3 b m gs ls e2 v w
 | 34 | 7 => Fr b m gs v w
 | 35 | 8 => Fr b m ls v w
 | 36 | 6 => v = .int .i64 e2
 | _ => True
theorem puV_mono (b B m : Nat) (s : Sta) (a : Acn) (aoH : Option Addr) (capH : Nat) (gs ls : List F.Pc) (e2 : Int) (d : Nat) (v : Value) (w w' : World) (h : puV b B m s a aoH capH gs ls e2 d v w) (hb : bw w w') : puV b B m s a aoH capH gs ls e2 d v w' := by
 unfold puV at h ⊢
 split <;> simp only [] at h <;> first | exact h | exact h.later hb
def pvV (b B m : Nat) (a : Acn) (mo : Int) (aog : Option Addr) (capg : Nat) (gs : List F.Pc) (fw : F.Fd) (ps : List F.Pc) (e1 : Int) (d : Nat) (v : Value) (w : World) : Prop :=
 match d with
 | 41 | 42 => v = .pointer (some ⟨b, 0, none⟩)
 | 43 => v = .pointer (some ⟨b, 4, none⟩)
 | 44 => v = .map (some m)
 | 45 => v = .pointer (some ⟨B, 1, none⟩)
 | 46 => v = .agg #[.int .i64 a.pl.1, .int .i64 a.pl.2.1, .int .i64 a.pl.2.2]
 | 47 => v = .slice fw.1 fw.2.2.length fw.2.1
 | 48 => v = .slice aog gs.length capg
 | 49 => v = .int .i64 mo
 | 50 | 40 => TF b m ps e1 v w
 | 51 | 9 => Fr b m ps v w
 | 52 | 6 => v = .int .i64 e1
 | _ => True
theorem pvV_mono (b B m : Nat) (a : Acn) (mo : Int) (aog : Option Addr) (capg : Nat) (gs : List F.Pc) (fw : F.Fd) (ps : List F.Pc) (e1 : Int) (d : Nat) (v : Value) (w w' : World) (h : pvV b B m a mo aog capg gs fw ps e1 d v w) (hb : bw w w') : pvV b B m a mo aog capg gs fw ps e1 d v w' := by
 unfold pvV at h ⊢
 split <;> simp only [] at h <;> first | exact h | exact h.later hb
theorem put_any (wB w : World) (ao : Option Addr) (cap : Nat) (l : List Sit) (b m md : Nat) (s : Sta) (a : Acn) (hB : Bn wB w ao cap l b m md s) :
  Calls Tryz.prog 180 #[ptr b, av a] w fun e w' => e = .returned (.int .i64 (putA l s a).2) ∧ Bn wB w' ao cap l b m md (putA l s a).1 := by
 have HBN := hdd hB;clear hB;obtain ⟨w0, hw0⟩ : ∃ w0, w0 = w.alloc (aobj a) := ⟨_, rfl⟩;have b0 : bw w w0 := by rw [hw0]; exact (brf).alloc (Nat.le_refl _) _
 have KA : Hid (Bk w.heap.size (acl a) w0) := by show Bk _ _ _; rw [hw0]; exact Bk.new w (acl a) 57 w.heap.size rfl
 have HB0 := hdd (HBN.out.next b0);have HW0 := hdd hw0;clear hw0 b0;obtain ⟨cw, aoH, capH, aoT, capT, K, hh, ht⟩ := HB0.out.bk;have KB : Hid (Bk b (bcs ao cap l md m cw s aoH capH aoT capT) w0) := K;have HH := hdd hh;have HT := hdd ht;have hbw : b < w.heap.size := by obtain ⟨_, _, _, _, _, K', _⟩ := HBN.out.bk; exact K'.1
 have hbn : b ≠ w.heap.size := by omega
 have lt0 := KB.out.1;clear K hh ht;clear lt0
 go_enter Tryz.func180, Tryz.ntmps180
 go_wp2_with fail
 rw [← HW0.out];refine (aim_any wB w0 ao cap l b m md s a HB0.out).mono ?_;rintro e w1 ⟨rfl, hb1⟩;have HBn0 := HB0;have KA0 := KA;have KB0 := KB;have HH0 := HH;have HT0 := HT;have HBn1 := hdd (HBn0.out.next hb1);have KA1 := hdd (KA0.out.later hb1);have KB1 := hdd (KB0.out.later hb1);have HH1 := hdd (HH0.out.next hb1);have HT1 := hdd (HT0.out.next hb1);clear HBn0 KA0 KB0 HH0 HT0;have hbo1 : b < w1.heap.size := KB1.out.1;clear hb1 HB0 KA KB HH HT;obtain ⟨⟨mo, e0⟩, hM⟩ : ∃ x, aimR l a = x := ⟨_, rfl⟩;have HA := hdd hM;rw [hM];clear hM
 by_cases he : e0 = 0
 case neg =>
  have h2 : (e0 == 0) = false := by simp [he]
  have h3 : (e0 != 0) = true := by simp [he]
  have HQ : Hid (putA l s a = (s, e0)) := by
   show _ = _;simp only [putA, HA.out];simp [he]
  clear he;go_wp2;go_ret;exact ⟨by rw [HQ.out]; rfl, by rw [HQ.out]; exact HBn1.out⟩
 subst he;have HP : Hid (Wf3 a.pl) := wf_place HBn1.out.hd (aim_ok (by rw [HA.out]))
 cases htp : s.tip with
 | false =>
  have HQ : Hid (putA l s a = (s, 12)) := by
   show _ = _;simp only [putA, HA.out, htp];simp
  obtain ⟨k0, k1, k2, k3, k4, k5, k6, k7, k8, k9, k10, k11⟩ := (KB1.out).c12;rw [htp] at k6;go_wp2;go_ret;exact ⟨by rw [HQ.out]; rfl, by rw [HQ.out]; exact HBn1.out⟩
 | true =>
  obtain ⟨u1, u2, u3, u4⟩ := tip_parts HBn1.out.may htp;have HTP := hdd htp;have HTT : Hid (s.touched.length ≤ 100 ∧ ∀ p ∈ drops s.touched, p.1.size ≤ maxLen) := ⟨(mayTouch_iff.1 u4).1, F.fine_size (withR_iff.1 (mayTouch_iff.1 u4).2.2).2.1⟩;clear u1 u2 u3 u4;obtain ⟨k0, k1, k2, k3, k4, k5, k6, k7, k8, k9, k10, k11⟩ := (KB1.out).c12;rw [htp] at k6;clear htp
  go_wp2_with fail
  rename_i KK hkk;have HKK := (show Hid _ from hkk);clear hkk;obtain ⟨⟨gs, ls, e2⟩, hdq⟩ : ∃ x, F.drawF a.vol s.held = x := ⟨_, rfl⟩;have HDQ := hdd hdq;have HML0 : Hid (m < w1.heap.size) := by obtain ⟨wl, hwm, _, _⟩ := HBn1.out.wells; exact hwm.lt
  have HDR : Hid (∀ W, bw w1 W → Calls Tryz.prog 211 #[.slice aoH s.held.length capH, .int .i64 a.vol] W fun e w' => ∃ x, e = .returned x ∧ TG3 b m gs ls e2 x w' ∧ bw W w') := fun W hW => by
   have := draw_fr b m aoH capH s.held a.vol W (HH1.out.next hW).1 (Nat.lt_of_lt_of_le KB1.out.1 hW.size) (Nat.lt_of_lt_of_le HML0.out hW.size);rw [HDQ.out] at this;exact this
  clear hdq k0 k1 k2 k3 k4 k5 k6 k7 k8 k9 k10 k11
  refine region_seqE 15 [zf,zf,zf,zf,zf,zf,zt,zt,zt,zf,zf,zf,zf,zf,zf,zf,zf,zf,zf,zf,zf,zf,zf,zf,zf,zt,zt,zt,zt,zt,zt,zt,zt,zt,zt,zt,zt,zf,zf,zf,zf,zf,zf,zf,zf,zf,zf,zf,zf,zf,zf,zf,zf,zf,zf,zf,zf,zf,zf,zf,zf,zf,zf,zf,zf,zf]
   [(26, [], none), (27, [26], none), (28, [27], none), (29, [28], none), (30, [29], none), (31, [], none), (32, [31], none), (33, [30, 32], none), (25, [33], none), (34, [25], none), (35, [25], none), (36, [25], none), (7, [34], none), (8, [35], none), (6, [36], none)]
   (puV b w.heap.size m s a aoH capH gs ls e2) (by kernel_rfl) (by kernel_rfl) (by kernel_rfl) (by kernel_rfl) (by kernel_rfl) (by decide) (puV_mono b w.heap.size m s a aoH capH gs ls e2) ?_ ?_
  ·refine ⟨?_, ?_, ?_, ?_, ?_, ?_, ?_, ?_, ?_, ?_, ?_, ?_, ?_, ?_, ?_, trivial⟩
   any_goals first | (intro f w1 hb _ K hK; simp only [ov, oL]; go_simp; exact hK _ _ ⟨_, rfl, by simp only [ov, oL]; rfl, brf⟩) | fail
   ·rintro f wA hb ⟨(h26 : f 26 = _), _⟩ K hK
    simp only [ov, oL, h26];go_simp;exact hK _ _ ⟨_, rfl, by simp only [ov, oL, h26]; rfl, brf⟩
   ·rintro f wA hb ⟨(h27 : f 27 = _), _⟩ K hK
    simp only [ov, oL, h27];go_simp;exact hK _ _ ⟨_, rfl, by simp only [ov, oL, h27]; rfl, brf⟩
   ·rintro f wA hb ⟨(h28 : f 28 = _), _⟩ K hK
    simp only [ov, oL, h28];go_simp;exact hK _ _ ⟨_, rfl, by simp only [ov, oL, h28]; rfl, brf⟩
   ·rintro f wA hb ⟨(h29 : f 29 = _), _⟩ K hK
    have q7 := (KB1.out.later hb).c 7 rfl;simp only [ov, oL, h29];go_simp;exact hK _ _ ⟨_, rfl, by simp only [ov, oL, h29]; rfl, brf⟩
   ·rintro f wA hb ⟨(h31 : f 31 = _), _⟩ K hK
    have q5 := (KA1.out.later hb).c 5 rfl;simp only [ov, oL, h31];go_simp;exact hK _ _ ⟨_, rfl, by simp only [ov, oL, h31]; rfl, brf⟩
   ·rintro f wA hb ⟨(h30 : f 30 = _), (h32 : f 32 = _), _⟩ K hK
    simp only [ov, oL, h30, h32];go_simp;refine ((HDR.out wA hb).mono) ?_;rintro e w2 ⟨x, rfl, ht, hb2⟩;exact hK _ _ ⟨_, ht, by simp only [ov, oL, h30, h32]; rfl, hb2⟩
   ·intro f wA hb ⟨h33, _⟩ K hK
    simp only [ov, oL];go_simp;exact hK _ _ ⟨_, h33, by simp only [ov, oL]; rfl, brf⟩
   ·intro f wA hb ⟨h25, _⟩ K hK
    obtain ⟨x, y, h25, hx, hy⟩ := h25;simp only [ov, oL, h25];go_simp;exact hK _ _ ⟨_, hx, by simp only [ov, oL, h25]; rfl, brf⟩
   ·intro f wA hb ⟨h25, _⟩ K hK
    obtain ⟨x, y, h25, hx, hy⟩ := h25;simp only [ov, oL, h25];go_simp;exact hK _ _ ⟨_, hy, by simp only [ov, oL, h25]; rfl, brf⟩
   ·intro f wA hb ⟨h25, _⟩ K hK
    obtain ⟨x, y, h25, hx, hy⟩ := h25;simp only [ov, oL, h25];go_simp;exact hK _ _ ⟨_, rfl, by simp only [ov, oL, h25]; rfl, brf⟩
   ·intro f wA hb ⟨h34, _⟩ K hK
    simp only [ov, oL];go_simp;exact hK _ _ ⟨_, h34, by simp only [ov, oL]; rfl, brf⟩
   ·intro f wA hb ⟨h35, _⟩ K hK
    simp only [ov, oL];go_simp;exact hK _ _ ⟨_, h35, by simp only [ov, oL]; rfl, brf⟩
   ·rintro f wA hb ⟨(h36 : f 36 = _), _⟩ K hK
    simp only [ov, oL, h36];go_simp;exact hK _ _ ⟨_, rfl, by simp only [ov, oL, h36]; rfl, brf⟩
  intro f w2 hb hv;have h6 : f 6 = _ := hv.2.2.2.2.2.2.2.2.2.2.2.2.2.2.1;have h7 : Fr b m gs (f 7) w2 := hv.2.2.2.2.2.2.2.2.2.2.2.2.1;have h8 : Fr b m ls (f 8) w2 := hv.2.2.2.2.2.2.2.2.2.2.2.2.2.1;obtain ⟨aog, capg, h7, hg⟩ := h7;obtain ⟨aol, capl, h8, hl⟩ := h8;have HGS2 := hdd hg;have HLS2 := hdd hl;have HBn2 := hdd (HBn1.out.next hb);have KA2 := hdd (KA1.out.later hb);have KB2 := hdd (KB1.out.later hb);have HH2 := hdd (HH1.out.next hb);have HT2 := hdd (HT1.out.next hb);clear HBn1 KA1 KB1 HH1 HT1;clear hv hb hg hl HDR HML0;simp only [List.drop, ov, oL, h6, h7, h8];clear h6 h7 h8;go_wp2;refine HKK.out _ _ ?_;clear HKK
  by_cases hc : e2 = 0
  case neg =>
   have h2 : (e2 == 0) = false := by simp [hc]
   have h3 : (e2 != 0) = true := by simp [hc]
   have HQ : Hid (putA l s a = (s, e2)) := by
    show _ = _;simp only [putA, HA.out, HTP.out, HDQ.out];simp [hc]
   clear hc;go_wp2;go_ret;exact ⟨by rw [HQ.out]; rfl, by rw [HQ.out]; exact HBn2.out⟩
  subst hc
  go_wp2_with fail
  rename_i KK hkk;have HKK := (show Hid _ from hkk);clear hkk;obtain ⟨wl, hwm, hwl, hfl⟩ := HBn2.out.wells;obtain ⟨fw, hfw⟩ : ∃ x, fdAt wl a.pl = x := ⟨_, rfl⟩;have hff := flx_at hfl a.pl;rw [hfw] at hff;have HFF2 := hdd hff
  have HLK : Hid (∀ W, bw w2 W → (Instr.lookup 201 (.map (some m)) (plv a.pl) false).run Tryz.prog W = .ok (.slice fw.1 fw.2.2.length fw.2.1) W) := fun W hW => by
   have := (hwm.next hW).look HP.out;rw [hfw] at this;exact this
  have HWF : Hid (wellF s.wells a.pl = fw.2.2) := by show _ = _; rw [← hwl, ← fdAt_whp, hfw]
  have HWM2 := hdd hwm;have HWL := hdd hwl;have HFL2 := hdd hfl;have HML : Hid (m < w2.heap.size) := hwm.lt;clear hwm hwl hfl hfw hff;obtain ⟨⟨ps, e1⟩, htq⟩ : ∃ x, togR fw.2.2 gs mo = x := ⟨_, rfl⟩;have HTQ := hdd htq
  have HTG : Hid (∀ W, bw w2 W → Calls Tryz.prog 209 #[.slice fw.1 fw.2.2.length fw.2.1, .slice aog gs.length capg, .int .i64 mo] W fun e w' => ∃ v, e = .returned v ∧ TF b m ps e1 v w' ∧ bw W w') := fun W hW => by
   have := tog_fr b m fw.1 aog fw.2.1 capg fw.2.2 gs mo W (HFF2.out.next hW).1 (HGS2.out.next hW).1 (Nat.lt_of_lt_of_le KB2.out.1 hW.size) (Nat.lt_of_lt_of_le HML.out hW.size);rw [HTQ.out] at this;exact this
  clear htq
  refine region_seqE 15 [zf,zf,zf,zf,zf,zf,zt,zf,zf,zt,zf,zf,zf,zf,zf,zf,zf,zf,zf,zf,zf,zf,zf,zf,zf,zf,zf,zf,zf,zf,zf,zf,zf,zf,zf,zf,zf,zf,zf,zf,zt,zt,zt,zt,zt,zt,zt,zt,zt,zt,zt,zt,zt,zf,zf,zf,zf,zf,zf,zf,zf,zf,zf,zf,zf,zf]
   [(41, [], none), (42, [41], none), (43, [42], none), (44, [43], none), (45, [], none), (46, [45], none), (47, [44, 46], none), (48, [], none), (49, [], none), (50, [47, 48, 49], none), (40, [50], none), (51, [40], none), (52, [40], none), (9, [51], none), (6, [52], none)]
   (pvV b w.heap.size m a mo aog capg gs fw ps e1) (by kernel_rfl) (by kernel_rfl) (by kernel_rfl) (by kernel_rfl) (by kernel_rfl) (by decide) (pvV_mono b w.heap.size m a mo aog capg gs fw ps e1) ?_ ?_
  ·refine ⟨?_, ?_, ?_, ?_, ?_, ?_, ?_, ?_, ?_, ?_, ?_, ?_, ?_, ?_, ?_, trivial⟩
   any_goals first | (intro f w1 hb _ K hK; simp only [ov, oL]; go_simp; exact hK _ _ ⟨_, rfl, by simp only [ov, oL]; rfl, brf⟩) | fail
   ·rintro f wA hb ⟨(h41 : f 41 = _), _⟩ K hK
    simp only [ov, oL, h41];go_simp;exact hK _ _ ⟨_, rfl, by simp only [ov, oL, h41]; rfl, brf⟩
   ·rintro f wA hb ⟨(h42 : f 42 = _), _⟩ K hK
    simp only [ov, oL, h42];go_simp;exact hK _ _ ⟨_, rfl, by simp only [ov, oL, h42]; rfl, brf⟩
   ·rintro f wA hb ⟨(h43 : f 43 = _), _⟩ K hK
    have q4 := (KB2.out.later hb).c 4 rfl;simp only [ov, oL, h43];go_simp;exact hK _ _ ⟨_, rfl, by simp only [ov, oL, h43]; rfl, brf⟩
   ·rintro f wA hb ⟨(h45 : f 45 = _), _⟩ K hK
    have q1 := (KA2.out.later hb).c 1 rfl;have q2 := (KA2.out.later hb).c 2 rfl;have q3 := (KA2.out.later hb).c 3 rfl;simp only [ov, oL, h45];go_simp;exact hK _ _ ⟨_, rfl, by simp only [ov, oL, h45]; rfl, brf⟩
   ·rintro f wA hb ⟨(h44 : f 44 = _), (h46 : f 46 = _), _⟩ K hK
    have ql := HLK.out wA hb;simp only [ov, oL, h44, h46];go_simp;exact hK _ _ ⟨_, rfl, by simp only [ov, oL, h44, h46]; rfl, brf⟩
   ·rintro f wA hb ⟨(h47 : f 47 = _), (h48 : f 48 = _), (h49 : f 49 = _), _⟩ K hK
    simp only [ov, oL, h47, h48, h49];go_simp;refine ((HTG.out wA hb).mono) ?_;rintro e w2 ⟨x, rfl, ht, hb2⟩;exact hK _ _ ⟨_, ht, by simp only [ov, oL, h47, h48, h49]; rfl, hb2⟩
   ·intro f wA hb ⟨h50, _⟩ K hK
    simp only [ov, oL];go_simp;exact hK _ _ ⟨_, h50, by simp only [ov, oL]; rfl, brf⟩
   ·intro f wA hb ⟨h40, _⟩ K hK
    obtain ⟨x, h40, hx⟩ := h40;simp only [ov, oL, h40];go_simp;exact hK _ _ ⟨_, hx, by simp only [ov, oL, h40]; rfl, brf⟩
   ·intro f wA hb ⟨h40, _⟩ K hK
    obtain ⟨x, h40, hx⟩ := h40;simp only [ov, oL, h40];go_simp;exact hK _ _ ⟨_, rfl, by simp only [ov, oL, h40]; rfl, brf⟩
   ·intro f wA hb ⟨h51, _⟩ K hK
    simp only [ov, oL];go_simp;exact hK _ _ ⟨_, h51, by simp only [ov, oL]; rfl, brf⟩
   ·rintro f wA hb ⟨(h52 : f 52 = _), _⟩ K hK
    simp only [ov, oL, h52];go_simp;exact hK _ _ ⟨_, rfl, by simp only [ov, oL, h52]; rfl, brf⟩
  intro f w3 hb hv;have h6 : f 6 = _ := hv.2.2.2.2.2.2.2.2.2.2.2.2.2.2.1;have h9 : Fr b m ps (f 9) w3 := hv.2.2.2.2.2.2.2.2.2.2.2.2.2.1;obtain ⟨aof, capf, h9, hf⟩ := h9;have HF3 := hdd hf;have HBn3 := hdd (HBn2.out.next hb);have KA3 := hdd (KA2.out.later hb);have KB3 := hdd (KB2.out.later hb);have HH3 := hdd (HH2.out.next hb);have HT3 := hdd (HT2.out.next hb);have HWM3 := hdd (HWM2.out.next hb);have HFL3 : Hid (∀ x ∈ wl, Flx b m w3 x.2.1 x.2.2.2) := fun x hx => (HFL2.out x hx).next hb;have HLS3 := hdd (HLS2.out.next hb);clear HBn2 KA2 KB2 HH2 HT2 HWM2 HFL2 HLS2;clear hv hb hf HTG HLK HFF2 HGS2;simp only [List.drop, ov, oL, h6, h9];clear h6 h9;go_wp2;refine HKK.out _ _ ?_;clear HKK
  by_cases h1 : e1 = 0
  case neg =>
   have h2 : (e1 == 0) = false := by simp [h1]
   have h3 : (e1 != 0) = true := by simp [h1]
   have HQ : Hid (putA l s a = (s, e1)) := by
    show _ = _;simp only [putA, HA.out, HTP.out, HDQ.out, HWF.out, HTQ.out];simp [h1]
   clear h1;go_wp2;go_ret;exact ⟨by rw [HQ.out]; rfl, by rw [HQ.out]; exact HBn3.out⟩
  subst h1
  have HQ : Hid (putA l s a = ({ s with wells := wset s.wells a.pl ps, held := ls }, 0)) := by
   show _ = _;simp only [putA, HA.out, HTP.out, HDQ.out, HWF.out, HTQ.out];simp
  obtain ⟨hon, hfew⟩ := HBn3.out.once HWL.out;obtain ⟨q0, q1, q2, q3, q4, q5, q6, q7⟩ := (KA3.out).c8
  go_wp2_with fail
  refine (keep_any b m _ _ _ _ _ _ _ _ _ _ _ wl a.pl aof capf ps w3 KB3.out HWM3.out hon hfew HP.out).mono ?_;rintro e w5 ⟨rfl, hwm, hg⟩;have HWM5 := hdd hwm;have HG := hdd hg;have KB5 := hdd (KB3.out.same hg.size (hg.block b KB3.out.1 (by simpa using HBn3.out.ne.1)));clear hwm hg hon hfew q0 q1 q2 q3 q4 q5 q6 q7;obtain ⟨k0, k1, k2, k3, k4, k5, k6, k7, k8, k9, k10, k11⟩ := (KB5.out).c12;obtain ⟨kf0, kf1, kf2, kf3, kf4, kf5, kf6, kf7, kf8, kf9, kf10, kf11⟩ := (KB5.out).f12;have lt5 := KB5.out.1;go_wp2;go_ret;have hmay := (may_put HBn3.out.may (by rw [HQ.out] : (putA l s a).2 = 0)).1;rw [HQ.out] at hmay ⊢;have hbut : But b m w3 (w5.setCell ⟨b, 7, none⟩ (.slice aol ls.length capl)) := (but_grown HG.out).trans (but_set b m w5 7 _);have hmb : m ≠ b := fun e => HBn3.out.ne.1 e.symm;exact ⟨rfl, HBn3.out.keptTo HWL.out HFL3.out hbut (HWM5.out.same (Below.heap_setCell w5 ⟨b, 7, none⟩ _ m hmb)) (HF3.out.but hbut) hmay rfl (cw := cw) (aoH := aol) (capH := capl) (aoT := aoT) (capT := capT) (KB5.out.put 7 _) (HLS3.out.but hbut) (HT3.out.but hbut)⟩
def dwV (b B m : Nat) (a : Acn) (fw : F.Fd) (d : Nat) (v : Value) (_ : World) : Prop :=
 match d with
 | 29 | 30 => v = .pointer (some ⟨b, 0, none⟩)
 | 31 => v = .pointer (some ⟨b, 4, none⟩)
 | 32 => v = .map (some m)
 | 33 => v = .pointer (some ⟨B, 1, none⟩)
 | 34 => v = .agg #[.int .i64 a.pl.1, .int .i64 a.pl.2.1, .int .i64 a.pl.2.2]
 | 35 | 7 => v = .slice fw.1 fw.2.2.length fw.2.1
 | _ => True
theorem dwV_mono (b B m : Nat) (a : Acn) (fw : F.Fd) (d : Nat) (v : Value) (w w' : World) (h : dwV b B m a fw d v w) (_ : bw w w') : dwV b B m a fw d v w' := h
def dxV (b m : Nat) (l : List Sit) (s : Sta) (aoH : Option Addr) (capH : Nat) (aog : Option Addr) (capg : Nat) (gs : List F.Pc) (ps : List F.Pc) (e1 : Int) (d : Nat) (v : Value) (w : World) : Prop :=
 match d with
 | 61 | 62 | 67 | 68 | 69 => v = .pointer (some ⟨b, 0, none⟩)
 | 63 => v = .pointer (some ⟨b, 5, none⟩)
 | 64 => v = .pointer (some ⟨b, 7, none⟩)
 | 65 => v = .slice aoH s.held.length capH
 | 66 => v = .slice aog gs.length capg
 | 70 => v = .pointer (some ⟨b, 2, none⟩)
 | 71 => v = .int .i64 (tipM l)
 | 72 | 60 => TF b m ps e1 v w
 | 73 | 13 => Fr b m ps v w
 | 74 | 10 => v = .int .i64 e1
 | _ => True
theorem dxV_mono (b m : Nat) (l : List Sit) (s : Sta) (aoH : Option Addr) (capH : Nat) (aog : Option Addr) (capg : Nat) (gs : List F.Pc) (ps : List F.Pc) (e1 : Int) (d : Nat) (v : Value) (w w' : World) (h : dxV b m l s aoH capH aog capg gs ps e1 d v w) (hb : bw w w') : dxV b m l s aoH capH aog capg gs ps e1 d v w' := by
 unfold dxV at h ⊢
 split <;> simp only [] at h <;> first | exact h | exact h.later hb
theorem draw_any (wB w : World) (ao : Option Addr) (cap : Nat) (l : List Sit) (b m md : Nat) (s : Sta) (a : Acn) (hB : Bn wB w ao cap l b m md s) :
  Calls Tryz.prog 179 #[ptr b, av a] w fun e w' => e = .returned (.int .i64 (drawA l s a).2) ∧ Bn wB w' ao cap l b m md (drawA l s a).1 := by
 have HBN := hdd hB;clear hB;obtain ⟨w0, hw0⟩ : ∃ w0, w0 = w.alloc (aobj a) := ⟨_, rfl⟩;have b0 : bw w w0 := by rw [hw0]; exact (brf).alloc (Nat.le_refl _) _
 have KA : Hid (Bk w.heap.size (acl a) w0) := by show Bk _ _ _; rw [hw0]; exact Bk.new w (acl a) 57 w.heap.size rfl
 have HB0 := hdd (HBN.out.next b0);have HW0 := hdd hw0;clear hw0 b0;obtain ⟨cw, aoH, capH, aoT, capT, K, hh, ht⟩ := HB0.out.bk;have KB : Hid (Bk b (bcs ao cap l md m cw s aoH capH aoT capT) w0) := K;have HH := hdd hh;have HT := hdd ht;have hbw : b < w.heap.size := by obtain ⟨_, _, _, _, _, K', _⟩ := HBN.out.bk; exact K'.1
 have hbn : b ≠ w.heap.size := by omega
 have lt0 := KB.out.1;clear K hh ht;clear lt0
 go_enter Tryz.func179, Tryz.ntmps179
 go_wp2_with fail
 rw [← HW0.out];refine (aim_any wB w0 ao cap l b m md s a HB0.out).mono ?_;rintro e w1 ⟨rfl, hb1⟩;have HBn0 := HB0;have KA0 := KA;have KB0 := KB;have HH0 := HH;have HT0 := HT;have HBn1 := hdd (HBn0.out.next hb1);have KA1 := hdd (KA0.out.later hb1);have KB1 := hdd (KB0.out.later hb1);have HH1 := hdd (HH0.out.next hb1);have HT1 := hdd (HT0.out.next hb1);clear HBn0 KA0 KB0 HH0 HT0;have hbo1 : b < w1.heap.size := KB1.out.1;clear hb1 HB0 KA KB HH HT;obtain ⟨⟨mo, e0⟩, hM⟩ : ∃ x, aimR l a = x := ⟨_, rfl⟩;have HA := hdd hM;rw [hM];clear hM
 by_cases he : e0 = 0
 case neg =>
  have h2 : (e0 == 0) = false := by simp [he]
  have h3 : (e0 != 0) = true := by simp [he]
  have HQ : Hid (drawA l s a = (s, e0)) := by
   show _ = _;simp only [drawA, HA.out];simp [he]
  clear he;go_wp2;go_ret;exact ⟨by rw [HQ.out]; rfl, by rw [HQ.out]; exact HBn1.out⟩
 subst he;have HP : Hid (Wf3 a.pl) := wf_place HBn1.out.hd (aim_ok (by rw [HA.out]))
 cases htp : s.tip with
 | false =>
  have HQ : Hid (drawA l s a = (s, 12)) := by
   show _ = _;simp only [drawA, HA.out, htp];simp
  obtain ⟨k0, k1, k2, k3, k4, k5, k6, k7, k8, k9, k10, k11⟩ := (KB1.out).c12;rw [htp] at k6;go_wp2;go_ret;exact ⟨by rw [HQ.out]; rfl, by rw [HQ.out]; exact HBn1.out⟩
 | true =>
  obtain ⟨u1, u2, u3, u4⟩ := tip_parts HBn1.out.may htp;have HTP := hdd htp;have HTT : Hid (s.touched.length ≤ 100 ∧ ∀ p ∈ drops s.touched, p.1.size ≤ maxLen) := ⟨(mayTouch_iff.1 u4).1, F.fine_size (withR_iff.1 (mayTouch_iff.1 u4).2.2).2.1⟩;clear u1 u2 u3 u4;obtain ⟨k0, k1, k2, k3, k4, k5, k6, k7, k8, k9, k10, k11⟩ := (KB1.out).c12;rw [htp] at k6;clear htp
  go_wp2_with fail
  rename_i KK hkk;have HKK := (show Hid _ from hkk);clear hkk;obtain ⟨wl, hwm, hwl, hfl⟩ := HBn1.out.wells;obtain ⟨fw, hfw⟩ : ∃ x, fdAt wl a.pl = x := ⟨_, rfl⟩;have hff := flx_at hfl a.pl;rw [hfw] at hff;have HFF1 := hdd hff
  have HLK : Hid (∀ W, bw w1 W → (Instr.lookup 201 (.map (some m)) (plv a.pl) false).run Tryz.prog W = .ok (.slice fw.1 fw.2.2.length fw.2.1) W) := fun W hW => by
   have := (hwm.next hW).look HP.out;rw [hfw] at this;exact this
  have HWF : Hid (wellF s.wells a.pl = fw.2.2) := by show _ = _; rw [← hwl, ← fdAt_whp, hfw]
  have HWM1 := hdd hwm;have HWL := hdd hwl;have HFL1 := hdd hfl;have HML : Hid (m < w1.heap.size) := hwm.lt;clear hwm hwl hfl hfw hff;clear k0 k1 k2 k3 k4 k5 k6 k7 k8 k9 k10 k11
  refine region_seqE 8 [zf,zf,zf,zf,zf,zf,zf,zt,zf,zf,zf,zf,zf,zf,zf,zf,zf,zf,zf,zf,zf,zf,zf,zf,zf,zf,zf,zf,zf,zt,zt,zt,zt,zt,zt,zt,zf,zf,zf,zf,zf,zf,zf,zf,zf,zf,zf,zf,zf,zf,zf,zf,zf,zf,zf,zf,zf,zf,zf,zf,zf,zf,zf,zf,zf,zf,zf,zf,zf,zf,zf,zf,zf,zf,zf,zf,zf,zf,zf,zf,zf,zf,zf,zf,zf,zf,zf,zf,zf,zf,zf,zf,zf,zf]
   [(29, [], none), (30, [29], none), (31, [30], none), (32, [31], none), (33, [], none), (34, [33], none), (35, [32, 34], none), (7, [35], none)]
   (dwV b w.heap.size m a fw) (by kernel_rfl) (by kernel_rfl) (by kernel_rfl) (by kernel_rfl) (by kernel_rfl) (by decide) (dwV_mono b w.heap.size m a fw) ?_ ?_
  ·refine ⟨?_, ?_, ?_, ?_, ?_, ?_, ?_, ?_, trivial⟩
   any_goals first | (intro f w1 hb _ K hK; simp only [ov, oL]; go_simp; exact hK _ _ ⟨_, rfl, by simp only [ov, oL]; rfl, brf⟩) | fail
   ·rintro f wA hb ⟨(h29 : f 29 = _), _⟩ K hK
    simp only [ov, oL, h29];go_simp;exact hK _ _ ⟨_, rfl, by simp only [ov, oL, h29]; rfl, brf⟩
   ·rintro f wA hb ⟨(h30 : f 30 = _), _⟩ K hK
    simp only [ov, oL, h30];go_simp;exact hK _ _ ⟨_, rfl, by simp only [ov, oL, h30]; rfl, brf⟩
   ·rintro f wA hb ⟨(h31 : f 31 = _), _⟩ K hK
    have q4 := (KB1.out.later hb).c 4 rfl;simp only [ov, oL, h31];go_simp;exact hK _ _ ⟨_, rfl, by simp only [ov, oL, h31]; rfl, brf⟩
   ·rintro f wA hb ⟨(h33 : f 33 = _), _⟩ K hK
    have q1 := (KA1.out.later hb).c 1 rfl;have q2 := (KA1.out.later hb).c 2 rfl;have q3 := (KA1.out.later hb).c 3 rfl;simp only [ov, oL, h33];go_simp;exact hK _ _ ⟨_, rfl, by simp only [ov, oL, h33]; rfl, brf⟩
   ·rintro f wA hb ⟨(h32 : f 32 = _), (h34 : f 34 = _), _⟩ K hK
    have ql := HLK.out wA hb;simp only [ov, oL, h32, h34];go_simp;exact hK _ _ ⟨_, rfl, by simp only [ov, oL, h32, h34]; rfl, brf⟩
   ·rintro f wA hb ⟨(h35 : f 35 = _), _⟩ K hK
    simp only [ov, oL, h35];go_simp;exact hK _ _ ⟨_, rfl, by simp only [ov, oL, h35]; rfl, brf⟩
  intro f w2 hb hv;have h7 : f 7 = _ := hv.2.2.2.2.2.2.2.1;have HBn2 := hdd (HBn1.out.next hb);have KA2 := hdd (KA1.out.later hb);have KB2 := hdd (KB1.out.later hb);have HH2 := hdd (HH1.out.next hb);have HT2 := hdd (HT1.out.next hb);have HWM2 := hdd (HWM1.out.next hb);have HFL2 : Hid (∀ x ∈ wl, Flx b m w2 x.2.1 x.2.2.2) := fun x hx => (HFL1.out x hx).next hb;have HFF2 := hdd (HFF1.out.next hb);clear HBn1 KA1 KB1 HH1 HT1 HWM1 HFL1 HFF1;have HML2 : Hid (m < w2.heap.size) := Nat.lt_of_lt_of_le HML.out hb.size;clear hv hb HLK HML;simp only [List.drop, ov, oL, h7];clear h7;go_wp2;refine HKK.out _ _ ?_;clear HKK;obtain ⟨⟨gs, ls, e2⟩, hdq⟩ : ∃ x, F.drawF a.vol fw.2.2 = x := ⟨_, rfl⟩;have HDQ := hdd hdq;clear hdq;obtain ⟨q0, q1, q2, q3, q4, q5, q6, q7⟩ := (KA2.out).c8
  go_wp2_with fail
  clear q0 q1 q2 q3 q4 q5 q6 q7;refine (draw_fr b m fw.1 fw.2.1 fw.2.2 a.vol w2 HFF2.out.1 KB2.out.1 HML2.out).mono ?_;rw [HDQ.out];rintro e w3 ⟨_, rfl, ⟨_, _, rfl, ⟨aog, capg, rfl, hg⟩, ⟨aol, capl, rfl, hl⟩⟩, hb⟩;have HGS3 := hdd hg;have HLS3 := hdd hl;have HBn3 := hdd (HBn2.out.next hb);have KA3 := hdd (KA2.out.later hb);have KB3 := hdd (KB2.out.later hb);have HH3 := hdd (HH2.out.next hb);have HT3 := hdd (HT2.out.next hb);have HWM3 := hdd (HWM2.out.next hb);have HFL3 : Hid (∀ x ∈ wl, Flx b m w3 x.2.1 x.2.2.2) := fun x hx => (HFL2.out x hx).next hb;have HFF3 := hdd (HFF2.out.next hb);clear HBn2 KA2 KB2 HH2 HT2 HWM2 HFL2 HFF2;have HML3 : Hid (m < w3.heap.size) := Nat.lt_of_lt_of_le HML2.out hb.size;clear hb hg hl HML2;simp only at HGS3 HLS3 ⊢
  by_cases hc : e2 = 0
  case neg =>
   have h2 : (e2 == 0) = false := by simp [hc]
   have h3 : (e2 != 0) = true := by simp [hc]
   have HQ : Hid (drawA l s a = (s, e2)) := by
    show _ = _;simp only [drawA, HA.out, HTP.out, HWF.out, HDQ.out];simp [hc]
   clear hc;go_wp2;go_ret;exact ⟨by rw [HQ.out]; rfl, by rw [HQ.out]; exact HBn3.out⟩
  subst hc;obtain ⟨k0, k1, k2, k3, k4, k5, k6, k7, k8, k9, k10, k11⟩ := (KB3.out).c12
  go_wp2_with fail
  refine (drops_any aoT capT s.touched w3 HT3.out.1 HTT.out.1).mono ?_;rintro e w3a ⟨_, rfl, ho, hb⟩;obtain ⟨aod, capd, rfl, hd⟩ := fl_of ho HTT.out.2;have HDD := hdd hd;have HBn3a := hdd (HBn3.out.next hb);have KA3a := hdd (KA3.out.later hb);have KB3a := hdd (KB3.out.later hb);have HH3a := hdd (HH3.out.next hb);have HT3a := hdd (HT3.out.next hb);have HWM3a := hdd (HWM3.out.next hb);have HFL3a : Hid (∀ x ∈ wl, Flx b m w3a x.2.1 x.2.2.2) := fun x hx => (HFL3.out x hx).next hb;have HFF3a := hdd (HFF3.out.next hb);have HGS3a := hdd (HGS3.out.next hb);have HLS3a := hdd (HLS3.out.next hb);clear HBn3 KA3 KB3 HH3 HT3 HWM3 HFL3 HFF3 HGS3 HLS3;have HML3a : Hid (m < w3a.heap.size) := Nat.lt_of_lt_of_le HML3.out hb.size;clear hb ho hd HML3 k0 k1 k2 k3 k4 k5 k6 k7 k8 k9 k10 k11
  go_wp2_with fail
  refine (F.withinF_any aod fw.1 capd fw.2.1 (drops s.touched) fw.2.2 w3a HDD.out HFF3a.out.1).mono ?_;rintro e w4 ⟨rfl, hb⟩;have HBn4 := hdd (HBn3a.out.next hb);have KA4 := hdd (KA3a.out.later hb);have KB4 := hdd (KB3a.out.later hb);have HH4 := hdd (HH3a.out.next hb);have HT4 := hdd (HT3a.out.next hb);have HWM4 := hdd (HWM3a.out.next hb);have HFL4 : Hid (∀ x ∈ wl, Flx b m w4 x.2.1 x.2.2.2) := fun x hx => (HFL3a.out x hx).next hb;have HFF4 := hdd (HFF3a.out.next hb);have HGS4 := hdd (HGS3a.out.next hb);have HLS4 := hdd (HLS3a.out.next hb);clear HBn3a KA3a KB3a HH3a HT3a HWM3a HFL3a HFF3a HGS3a HLS3a;have HML4 : Hid (m < w4.heap.size) := Nat.lt_of_lt_of_le HML3a.out hb.size;clear hb HDD HML3a;obtain ⟨⟨cl, e3⟩, hwq⟩ : ∃ x, F.withR (drops s.touched) fw.2.2 = x := ⟨_, rfl⟩;have HWQ := hdd hwq;rw [hwq];clear hwq;simp only
  cases cl with
  | false =>
   have HQ : Hid (drawA l s a = (s, 11)) := by
    show _ = _;simp only [drawA, HA.out, HTP.out, HWF.out, HDQ.out, HWQ.out];simp
   go_wp2;go_ret;exact ⟨by rw [HQ.out]; rfl, by rw [HQ.out]; exact HBn4.out⟩
  | true =>
  go_wp2_with fail
  rename_i KK hkk;have HKK := (show Hid _ from hkk);clear hkk;obtain ⟨⟨ps, e1⟩, htq⟩ : ∃ x, togR s.held gs (tipM l) = x := ⟨_, rfl⟩;have HTQ := hdd htq
  have HTG : Hid (∀ W, bw w4 W → Calls Tryz.prog 209 #[.slice aoH s.held.length capH, .slice aog gs.length capg, .int .i64 (tipM l)] W fun e w' => ∃ v, e = .returned v ∧ TF b m ps e1 v w' ∧ bw W w') := fun W hW => by
   have := tog_fr b m aoH aog capH capg s.held gs (tipM l) W (HH4.out.next hW).1 (HGS4.out.next hW).1 (Nat.lt_of_lt_of_le KB4.out.1 hW.size) (Nat.lt_of_lt_of_le HML4.out hW.size);rw [HTQ.out] at this;exact this
  clear htq
  refine region_seqE 17 [zf,zf,zf,zf,zf,zf,zf,zf,zf,zf,zt,zf,zf,zt,zf,zf,zf,zf,zf,zf,zf,zf,zf,zf,zf,zf,zf,zf,zf,zf,zf,zf,zf,zf,zf,zf,zf,zf,zf,zf,zf,zf,zf,zf,zf,zf,zf,zf,zf,zf,zf,zf,zf,zf,zf,zf,zf,zf,zf,zf,zt,zt,zt,zt,zt,zt,zt,zt,zt,zt,zt,zt,zt,zt,zt,zf,zf,zf,zf,zf,zf,zf,zf,zf,zf,zf,zf,zf,zf,zf,zf,zf,zf,zf]
   [(61, [], none), (62, [61], none), (63, [62], none), (64, [63], none), (65, [64], none), (66, [], none), (67, [], none), (68, [67], none), (69, [68], none), (70, [69], none), (71, [70], none), (72, [65, 66, 71], none), (60, [72], none), (73, [60], none), (74, [60], none), (13, [73], none), (10, [74], none)]
   (dxV b m l s aoH capH aog capg gs ps e1) (by kernel_rfl) (by kernel_rfl) (by kernel_rfl) (by kernel_rfl) (by kernel_rfl) (by decide) (dxV_mono b m l s aoH capH aog capg gs ps e1) ?_ ?_
  ·refine ⟨?_, ?_, ?_, ?_, ?_, ?_, ?_, ?_, ?_, ?_, ?_, ?_, ?_, ?_, ?_, ?_, ?_, trivial⟩
   any_goals first | (intro f w1 hb _ K hK; simp only [ov, oL]; go_simp; exact hK _ _ ⟨_, rfl, by simp only [ov, oL]; rfl, brf⟩) | fail
   any_goals first | (intro f w1 hb hh K hK; have q := KB4.out.later hb; have q2 := q.c 2 rfl; have q7 := q.c 7 rfl; clear q; simp only [AllV, dxV] at hh; simp only [ov, oL, hh]; go_simp; exact hK _ _ ⟨_, rfl, by simp only [ov, oL, hh]; rfl, brf⟩) | fail
   ·rintro f wA hb ⟨(h65 : f 65 = _), (h66 : f 66 = _), (h71 : f 71 = _), _⟩ K hK
    simp only [ov, oL, h65, h66, h71];go_simp;refine ((HTG.out wA hb).mono) ?_;rintro e w2 ⟨x, rfl, ht, hb2⟩;exact hK _ _ ⟨_, ht, by simp only [ov, oL, h65, h66, h71]; rfl, hb2⟩
   ·intro f wA hb ⟨h72, _⟩ K hK
    simp only [ov, oL];go_simp;exact hK _ _ ⟨_, h72, by simp only [ov, oL]; rfl, brf⟩
   ·intro f wA hb ⟨h60, _⟩ K hK
    obtain ⟨x, h60, hx⟩ := h60;simp only [ov, oL, h60];go_simp;exact hK _ _ ⟨_, hx, by simp only [ov, oL, h60]; rfl, brf⟩
   ·intro f wA hb ⟨h60, _⟩ K hK
    obtain ⟨x, h60, hx⟩ := h60;simp only [ov, oL, h60];go_simp;exact hK _ _ ⟨_, rfl, by simp only [ov, oL, h60]; rfl, brf⟩
   ·intro f wA hb ⟨h73, _⟩ K hK
    simp only [ov, oL];go_simp;exact hK _ _ ⟨_, h73, by simp only [ov, oL]; rfl, brf⟩
  intro f w5 hb hv;have h10 : f 10 = _ := hv.2.2.2.2.2.2.2.2.2.2.2.2.2.2.2.2.1;have h13 : Fr b m ps (f 13) w5 := hv.2.2.2.2.2.2.2.2.2.2.2.2.2.2.2.1;obtain ⟨aof, capf, h13, hf⟩ := h13;have HF5 := hdd hf;have HBn5 := hdd (HBn4.out.next hb);have KA5 := hdd (KA4.out.later hb);have KB5 := hdd (KB4.out.later hb);have HH5 := hdd (HH4.out.next hb);have HT5 := hdd (HT4.out.next hb);have HWM5 := hdd (HWM4.out.next hb);have HFL5 : Hid (∀ x ∈ wl, Flx b m w5 x.2.1 x.2.2.2) := fun x hx => (HFL4.out x hx).next hb;have HFF5 := hdd (HFF4.out.next hb);have HGS5 := hdd (HGS4.out.next hb);have HLS5 := hdd (HLS4.out.next hb);clear HBn4 KA4 KB4 HH4 HT4 HWM4 HFL4 HFF4 HGS4 HLS4;clear hv hb hf HTG HML4;simp only [List.drop, ov, oL, h10, h13];clear h10 h13;go_wp2;refine HKK.out _ _ ?_;clear HKK
  by_cases h1 : e1 = 0
  case neg =>
   have h2 : (e1 == 0) = false := by simp [h1]
   have h3 : (e1 != 0) = true := by simp [h1]
   have HQ : Hid (drawA l s a = (s, e1)) := by
    show _ = _;simp only [drawA, HA.out, HTP.out, HWF.out, HDQ.out, HWQ.out, HTQ.out];simp [h1]
   clear h1;go_wp2;go_ret;exact ⟨by rw [HQ.out]; rfl, by rw [HQ.out]; exact HBn5.out⟩
  subst h1
  have HQ : Hid (drawA l s a = ({ s with wells := wset s.wells a.pl ls, held := ps, touched := labsR fw.2.2 }, 0)) := by
   show _ = _;simp only [drawA, HA.out, HTP.out, HWF.out, HDQ.out, HWQ.out, HTQ.out];simp
  have HFR : Hid (F.fref fw.2.2 = 0) := (drawF_ok (by rw [HDQ.out] : (F.drawF a.vol fw.2.2).2.2 = 0)).1;obtain ⟨hon, hfew⟩ := HBn5.out.once HWL.out;obtain ⟨q0, q1, q2, q3, q4, q5, q6, q7⟩ := (KA5.out).c8
  go_wp2_with fail
  refine (keep_any b m _ _ _ _ _ _ _ _ _ _ _ wl a.pl aol capl ls w5 KB5.out HWM5.out hon hfew HP.out).mono ?_;rintro e w6 ⟨rfl, hwm, hg⟩;have hbut : But b m w5 w6 := but_grown hg;have HWM6 := hdd hwm;have KB6 := hdd (KB5.out.same hg.size (hg.block b KB5.out.1 (by simpa using HBn5.out.ne.1)));have HFF6 := hdd (HFF5.out.but hbut);have HBU := hdd hbut;clear hwm hg hbut hon hfew q0 q1 q2 q3 q4 q5 q6 q7
  go_wp2_with fail
  refine (labelsOf_any fw.1 fw.2.1 fw.2.2 w6 HFF6.out.1 HFR.out).mono ?_;rintro e w7 ⟨_, rfl, ho, hb⟩
  have hsz : ∀ x ∈ labsR fw.2.2, x.size ≤ maxLen := fun x hx => by
   obtain ⟨p, hp, rfl, _⟩ := mem_labsR.1 hx;exact F.fine_size HFR.out p hp
  obtain ⟨aoL, capL, rfl, ht⟩ := txx_of (b := b) (m := m) ho hsz KB6.out.1 HWM6.out.lt;have HTL := hdd ht;have KB7 := hdd (KB6.out.later hb);have HWM7 := hdd (HWM6.out.next hb);have HBU7 := hdd (HBU.out.trans (but_below hb));clear ho hsz ht hb;obtain ⟨k0, k1, k2, k3, k4, k5, k6, k7, k8, k9, k10, k11⟩ := (KB7.out).c12;obtain ⟨kf0, kf1, kf2, kf3, kf4, kf5, kf6, kf7, kf8, kf9, kf10, kf11⟩ := (KB7.out).f12;have lt5 := KB7.out.1;go_wp2;go_ret;have hmay := (may_draw HBn5.out.hd HBn5.out.may (by rw [HQ.out] : (drawA l s a).2 = 0)).1;rw [HQ.out] at hmay ⊢;have hst : But b m w7 ((w7.setCell ⟨b, 7, none⟩ (.slice aof ps.length capf)).setCell ⟨b, 8, none⟩ (.slice aoL (labsR fw.2.2).length capL)) := (but_set b m w7 7 _).trans (but_set b m _ 8 _);have hbut := HBU7.out.trans hst;have hmb : m ≠ b := fun e => HBn5.out.ne.1 e.symm;exact ⟨rfl, HBn5.out.keptTo HWL.out HFL5.out hbut (HWM7.out.same ((Below.heap_setCell _ ⟨b, 8, none⟩ _ m hmb).trans (Below.heap_setCell w7 ⟨b, 7, none⟩ _ m hmb))) (HLS5.out.but hbut) hmay rfl (cw := cw) (aoH := aof) (capH := capf) (aoT := aoL) (capT := capL) ((KB7.out.put 7 _).put 8 _) (HF5.out.but hbut) (HTL.out.but hst)⟩
theorem zeroDeed (w : World) : (zeroValue 207).run Tryz.prog w = .ok .nilFunc w := by kernel_rfl
def deedOf (n : Int) : Value × Bool :=
 if n = 5 then (fv 176, true) else if n = 6 then (fv 177, true) else if n = 7 then (fv 178, true) else if n = 8 then (fv 179, true) else if n = 9 then (fv 180, true) else if n = 11 then (fv 181, true) else if n = 12 then (fv 182, true) else if n = 13 then (fv 183, true) else if n = 14 then (fv 182, true) else (.nilFunc, false)
theorem lit_ne {m n : Int} (h : n ≠ m) : (Lit.int .i64 n) ≠ Lit.int .i64 m := fun e => h (by injection e)
theorem deed_at (n : Int) : Ddeeds.atKey (.int .i64 n) (.held .nilFunc) = .held (deedOf n).1 ∧ has Ddeeds (.int .i64 n) = (deedOf n).2 := by
 unfold deedOf
 by_cases h5 : n = 5
 ·subst h5
  exact ⟨by kernel_rfl, by kernel_rfl⟩
 by_cases h6 : n = 6
 ·subst h6
  exact ⟨by kernel_rfl, by kernel_rfl⟩
 by_cases h7 : n = 7
 ·subst h7
  exact ⟨by kernel_rfl, by kernel_rfl⟩
 by_cases h8 : n = 8
 ·subst h8
  exact ⟨by kernel_rfl, by kernel_rfl⟩
 by_cases h9 : n = 9
 ·subst h9
  exact ⟨by kernel_rfl, by kernel_rfl⟩
 by_cases h11 : n = 11
 ·subst h11
  exact ⟨by kernel_rfl, by kernel_rfl⟩
 by_cases h12 : n = 12
 ·subst h12
  exact ⟨by kernel_rfl, by kernel_rfl⟩
 by_cases h13 : n = 13
 ·subst h13
  exact ⟨by kernel_rfl, by kernel_rfl⟩
 by_cases h14 : n = 14
 ·subst h14
  exact ⟨by kernel_rfl, by kernel_rfl⟩
 rw [if_neg h5, if_neg h6, if_neg h7, if_neg h8, if_neg h9, if_neg h11, if_neg h12, if_neg h13, if_neg h14];unfold Ddeeds;constructor
 ·rw [atKey_put_other (lit_ne h14), atKey_put_other (lit_ne h13), atKey_put_other (lit_ne h12), atKey_put_other (lit_ne h11), atKey_put_other (lit_ne h9), atKey_put_other (lit_ne h8), atKey_put_other (lit_ne h7), atKey_put_other (lit_ne h6), atKey_put_other (lit_ne h5)]
  rfl
 ·rw [has_put_other (lit_ne h14), has_put_other (lit_ne h13), has_put_other (lit_ne h12), has_put_other (lit_ne h11), has_put_other (lit_ne h9), has_put_other (lit_ne h8), has_put_other (lit_ne h7), has_put_other (lit_ne h6), has_put_other (lit_ne h5)]
  rfl
theorem DM.look {w : World} {md : Nat} (h : DM w md) {n : Int} (hn : (Lit.int .i64 n).wf = true) : (Instr.lookup 199 (.map (some md)) (.int .i64 n) true).run Tryz.prog w = .ok (.tuple #[(deedOf n).1, .bool (deedOf n).2]) w := by
 obtain ⟨v, ps, hrun, hv⟩ := World.ownsMap.look_ok h (int_keyed Tryz.underlying3) Tryz.underlying199 (zeroDeed w) (zd := .held .nilFunc) (zp := []) rfl (keyOf_int_mk Tryz.underlying3 hn);rw [hrun, (deed_at n).2];rw [(deed_at n).1] at hv;simp only [RV, Option.some.injEq, Prod.mk.injEq] at hv;have := hv.1;injection this with this;rw [this]
def doV (b B md : Nat) (a : Acn) (dv : Value) (ok : Bool) (d : Nat) (v : Value) (_ : World) : Prop :=
 match d with
 | 8 | 9 => v = .pointer (some ⟨b, 0, none⟩)
 | 10 => v = .pointer (some ⟨b, 3, none⟩)
 | 11 => v = .map (some md)
 | 12 => v = .pointer (some ⟨B, 0, none⟩)
 | 13 => v = .int .i64 a.kind
 | 14 | 7 => v = .tuple #[dv, .bool ok]
 | 15 | 5 => v = dv
 | 16 | 6 => v = .bool ok
 | _ => True
theorem doV_mono (b B md : Nat) (a : Acn) (dv : Value) (ok : Bool) (d : Nat) (v : Value) (w w' : World) (h : doV b B md a dv ok d v w) (_ : bw w w') : doV b B md a dv ok d v w' := h
theorem do_any (wB w : World) (ao : Option Addr) (cap : Nat) (l : List Sit) (b m md : Nat) (s : Sta) (a : Acn) (hB : Bn wB w ao cap l b m md s) (hlab : a.label.size ≤ maxLen) (hkd : (Lit.int .i64 a.kind).wf = true) :
  Calls Tryz.prog 55 #[ptr b, av a] w fun e w' => e = .returned (.int .i64 (doA l s a).2) ∧ Bn wB w' ao cap l b m md (doA l s a).1 := by
 have HBN := hdd hB;clear hB;obtain ⟨w0, hw0⟩ : ∃ w0, w0 = w.alloc (aobj a) := ⟨_, rfl⟩;have b0 : bw w w0 := by rw [hw0]; exact (brf).alloc (Nat.le_refl _) _
 have KA : Hid (Bk w.heap.size (acl a) w0) := by show Bk _ _ _; rw [hw0]; exact Bk.new w (acl a) 57 w.heap.size rfl
 have HB0 := hdd (HBN.out.next b0);have HW0 := hdd hw0;clear hw0 b0;obtain ⟨cw, aoH, capH, aoT, capT, K, hh, ht⟩ := HB0.out.bk;have KB : Hid (Bk b (bcs ao cap l md m cw s aoH capH aoT capT) w0) := K;have HH := hdd hh;have HT := hdd ht;have hbw : b < w.heap.size := by obtain ⟨_, _, _, _, _, K', _⟩ := HBN.out.bk; exact K'.1
 have hbn : b ≠ w.heap.size := by omega
 have lt0 := KB.out.1;clear K hh ht;clear lt0;have HLB := hdd hlab;have HLK : Hid (∀ W, bw w0 W → (Instr.lookup 199 (.map (some md)) (.int .i64 a.kind) true).run Tryz.prog W = .ok (.tuple #[(deedOf a.kind).1, .bool (deedOf a.kind).2]) W) := fun W hW => (HB0.out.next hW).deeds.look hkd;clear hlab hkd;obtain ⟨⟨dv, ok⟩, hdq⟩ : ∃ x, deedOf a.kind = x := ⟨_, rfl⟩;have HDO := hdd hdq;rw [hdq] at HLK;simp only at HLK;clear hdq
 go_enter Tryz.func55, Tryz.ntmps55
 go_wp2_with fail
 rw [← HW0.out];rename_i KK hkk;have HKK := (show Hid _ from hkk);clear hkk
 refine region_seqE 12 [zf,zf,zf,zf,zf,zt,zt,zt,zt,zt,zt,zt,zt,zt,zt,zt,zt,zf,zf,zf,zf,zf,zf]
  [(8, [], none), (9, [8], none), (10, [9], none), (11, [10], none), (12, [], none), (13, [12], none), (14, [11, 13], none), (7, [14], none), (15, [7], none), (16, [7], none), (5, [15], none), (6, [16], none)]
  (doV b w.heap.size md a dv ok) (by kernel_rfl) (by kernel_rfl) (by kernel_rfl) (by kernel_rfl) (by kernel_rfl) (by decide) (doV_mono b w.heap.size md a dv ok) ?_ ?_
 ·refine ⟨?_, ?_, ?_, ?_, ?_, ?_, ?_, ?_, ?_, ?_, ?_, ?_, trivial⟩
  any_goals first | (intro f w1 hb _ K hK; simp only [ov, oL]; go_simp; exact hK _ _ ⟨_, rfl, by simp only [ov, oL]; rfl, brf⟩) | fail
  ·rintro f wA hb ⟨(h8 : f 8 = _), _⟩ K hK
   simp only [ov, oL, h8];go_simp;exact hK _ _ ⟨_, rfl, by simp only [ov, oL, h8]; rfl, brf⟩
  ·rintro f wA hb ⟨(h9 : f 9 = _), _⟩ K hK
   simp only [ov, oL, h9];go_simp;exact hK _ _ ⟨_, rfl, by simp only [ov, oL, h9]; rfl, brf⟩
  ·rintro f wA hb ⟨(h10 : f 10 = _), _⟩ K hK
   have q3 := (KB.out.later hb).c 3 rfl;simp only [ov, oL, h10];go_simp;exact hK _ _ ⟨_, rfl, by simp only [ov, oL, h10]; rfl, brf⟩
  ·rintro f wA hb ⟨(h12 : f 12 = _), _⟩ K hK
   have q0 := (KA.out.later hb).c 0 rfl;simp only [ov, oL, h12];go_simp;exact hK _ _ ⟨_, rfl, by simp only [ov, oL, h12]; rfl, brf⟩
  ·rintro f wA hb ⟨(h11 : f 11 = _), (h13 : f 13 = _), _⟩ K hK
   have ql := HLK.out wA hb;simp only [ov, oL, h11, h13];go_simp;exact hK _ _ ⟨_, rfl, by simp only [ov, oL, h11, h13]; rfl, brf⟩
  ·rintro f wA hb ⟨(h14 : f 14 = _), _⟩ K hK
   simp only [ov, oL, h14];go_simp;exact hK _ _ ⟨_, rfl, by simp only [ov, oL, h14]; rfl, brf⟩
  ·rintro f wA hb ⟨(h7 : f 7 = _), _⟩ K hK
   simp only [ov, oL, h7];go_simp;exact hK _ _ ⟨_, rfl, by simp only [ov, oL, h7]; rfl, brf⟩
  ·rintro f wA hb ⟨(h7 : f 7 = _), _⟩ K hK
   simp only [ov, oL, h7];go_simp;exact hK _ _ ⟨_, rfl, by simp only [ov, oL, h7]; rfl, brf⟩
  ·rintro f wA hb ⟨(h15 : f 15 = _), _⟩ K hK
   simp only [ov, oL, h15];go_simp;exact hK _ _ ⟨_, rfl, by simp only [ov, oL, h15]; rfl, brf⟩
  ·rintro f wA hb ⟨(h16 : f 16 = _), _⟩ K hK
   simp only [ov, oL, h16];go_simp;exact hK _ _ ⟨_, rfl, by simp only [ov, oL, h16]; rfl, brf⟩
 intro f w1 hb hv;have h5 : f 5 = _ := hv.2.2.2.2.2.2.2.2.2.2.1;have h6 : f 6 = _ := hv.2.2.2.2.2.2.2.2.2.2.2.1;have HBn1 := hdd (HB0.out.next hb);have KA1 := hdd (KA.out.later hb);clear hv hb HLK HB0 KA KB HH HT;simp only [List.drop, ov, oL, h5, h6];clear h5 h6;go_wp2;refine HKK.out _ _ ?_;clear HKK;obtain ⟨q0, q1, q2, q3, q4, q5, q6, q7⟩ := (KA1.out).c8;have HD1 := HDO.out;unfold deedOf at HD1
 by_cases c5 : a.kind = 5
 ·have HQ : Hid (doA l s a = fillA l s a) := by show _ = _; unfold doA; rw [if_pos c5]
  rw [if_pos c5] at HD1;obtain ⟨rfl, rfl⟩ := Prod.mk.injEq _ _ _ _ ▸ HD1;clear c5
  go_wp2_with fail
  refine (fill_any wB _ ao cap l b m md s a HBn1.out HLB.out).mono ?_;rintro e w2 ⟨rfl, h2⟩;have HB2 := hdd h2;clear h2;go_wp2;go_ret;exact ⟨by rw [HQ.out]; rfl, by rw [HQ.out]; exact HB2.out⟩
 by_cases c6 : a.kind = 6
 ·have HQ : Hid (doA l s a = tipA l s) := by show _ = _; unfold doA; rw [if_neg c5, if_pos c6]
  rw [if_neg c5, if_pos c6] at HD1;obtain ⟨rfl, rfl⟩ := Prod.mk.injEq _ _ _ _ ▸ HD1;clear c5 c6
  go_wp2_with fail
  refine (tip_any wB _ ao cap l b m md s a HBn1.out).mono ?_;rintro e w2 ⟨rfl, h2⟩;have HB2 := hdd h2;clear h2;go_wp2;go_ret;exact ⟨by rw [HQ.out]; rfl, by rw [HQ.out]; exact HB2.out⟩
 by_cases c7 : a.kind = 7
 ·have HQ : Hid (doA l s a = dropA s) := by show _ = _; unfold doA; rw [if_neg c5, if_neg c6, if_pos c7]
  rw [if_neg c5, if_neg c6, if_pos c7] at HD1;obtain ⟨rfl, rfl⟩ := Prod.mk.injEq _ _ _ _ ▸ HD1;clear c5 c6 c7
  go_wp2_with fail
  refine (drop_any wB _ ao cap l b m md s a HBn1.out).mono ?_;rintro e w2 ⟨rfl, h2⟩;have HB2 := hdd h2;clear h2;go_wp2;go_ret;exact ⟨by rw [HQ.out]; rfl, by rw [HQ.out]; exact HB2.out⟩
 by_cases c8 : a.kind = 8
 ·have HQ : Hid (doA l s a = drawA l s a) := by show _ = _; unfold doA; rw [if_neg c5, if_neg c6, if_neg c7, if_pos c8]
  rw [if_neg c5, if_neg c6, if_neg c7, if_pos c8] at HD1;obtain ⟨rfl, rfl⟩ := Prod.mk.injEq _ _ _ _ ▸ HD1;clear c5 c6 c7 c8
  go_wp2_with fail
  refine (draw_any wB _ ao cap l b m md s a HBn1.out).mono ?_;rintro e w2 ⟨rfl, h2⟩;have HB2 := hdd h2;clear h2;go_wp2;go_ret;exact ⟨by rw [HQ.out]; rfl, by rw [HQ.out]; exact HB2.out⟩
 by_cases c9 : a.kind = 9
 ·have HQ : Hid (doA l s a = putA l s a) := by show _ = _; unfold doA; rw [if_neg c5, if_neg c6, if_neg c7, if_neg c8, if_pos c9]
  rw [if_neg c5, if_neg c6, if_neg c7, if_neg c8, if_pos c9] at HD1;obtain ⟨rfl, rfl⟩ := Prod.mk.injEq _ _ _ _ ▸ HD1;clear c5 c6 c7 c8 c9
  go_wp2_with fail
  refine (put_any wB _ ao cap l b m md s a HBn1.out).mono ?_;rintro e w2 ⟨rfl, h2⟩;have HB2 := hdd h2;clear h2;go_wp2;go_ret;exact ⟨by rw [HQ.out]; rfl, by rw [HQ.out]; exact HB2.out⟩
 by_cases c11 : a.kind = 11
 ·have HQ : Hid (doA l s a = warmA s a) := by show _ = _; unfold doA; rw [if_neg c5, if_neg c6, if_neg c7, if_neg c8, if_neg c9, if_pos c11]
  rw [if_neg c5, if_neg c6, if_neg c7, if_neg c8, if_neg c9, if_pos c11] at HD1;obtain ⟨rfl, rfl⟩ := Prod.mk.injEq _ _ _ _ ▸ HD1;clear c5 c6 c7 c8 c9 c11
  go_wp2_with fail
  refine (warm_any wB _ ao cap l b m md s a HBn1.out).mono ?_;rintro e w2 ⟨rfl, h2⟩;have HB2 := hdd h2;clear h2;go_wp2;go_ret;exact ⟨by rw [HQ.out]; rfl, by rw [HQ.out]; exact HB2.out⟩
 by_cases c12 : a.kind = 12
 ·have HQ : Hid (doA l s a = passA s a) := by show _ = _; unfold doA; rw [if_neg c5, if_neg c6, if_neg c7, if_neg c8, if_neg c9, if_neg c11, if_pos c12]
  rw [if_neg c5, if_neg c6, if_neg c7, if_neg c8, if_neg c9, if_neg c11, if_pos c12] at HD1;obtain ⟨rfl, rfl⟩ := Prod.mk.injEq _ _ _ _ ▸ HD1;clear c5 c6 c7 c8 c9 c11 c12
  go_wp2_with fail
  refine (pass_any wB _ ao cap l b m md s a HBn1.out).mono ?_;rintro e w2 ⟨rfl, h2⟩;have HB2 := hdd h2;clear h2;go_wp2;go_ret;exact ⟨by rw [HQ.out]; rfl, by rw [HQ.out]; exact HB2.out⟩
 by_cases c13 : a.kind = 13
 ·have HQ : Hid (doA l s a = shakeA s a) := by show _ = _; unfold doA; rw [if_neg c5, if_neg c6, if_neg c7, if_neg c8, if_neg c9, if_neg c11, if_neg c12, if_pos c13]
  rw [if_neg c5, if_neg c6, if_neg c7, if_neg c8, if_neg c9, if_neg c11, if_neg c12, if_pos c13] at HD1;obtain ⟨rfl, rfl⟩ := Prod.mk.injEq _ _ _ _ ▸ HD1;clear c5 c6 c7 c8 c9 c11 c12 c13
  go_wp2_with fail
  refine (shake_any wB _ ao cap l b m md s a HBn1.out).mono ?_;rintro e w2 ⟨rfl, h2⟩;have HB2 := hdd h2;clear h2;go_wp2;go_ret;exact ⟨by rw [HQ.out]; rfl, by rw [HQ.out]; exact HB2.out⟩
 by_cases c14 : a.kind = 14
 ·have HQ : Hid (doA l s a = passA s a) := by show _ = _; unfold doA; rw [if_neg c5, if_neg c6, if_neg c7, if_neg c8, if_neg c9, if_neg c11, if_neg c12, if_neg c13, if_pos c14]
  rw [if_neg c5, if_neg c6, if_neg c7, if_neg c8, if_neg c9, if_neg c11, if_neg c12, if_neg c13, if_pos c14] at HD1;obtain ⟨rfl, rfl⟩ := Prod.mk.injEq _ _ _ _ ▸ HD1;clear c5 c6 c7 c8 c9 c11 c12 c13 c14
  go_wp2_with fail
  refine (pass_any wB _ ao cap l b m md s a HBn1.out).mono ?_;rintro e w2 ⟨rfl, h2⟩;have HB2 := hdd h2;clear h2;go_wp2;go_ret;exact ⟨by rw [HQ.out]; rfl, by rw [HQ.out]; exact HB2.out⟩
 have HQ : Hid (doA l s a = (s, 6)) := by show _ = _; unfold doA; rw [if_neg c5, if_neg c6, if_neg c7, if_neg c8, if_neg c9, if_neg c11, if_neg c12, if_neg c13, if_neg c14]
 rw [if_neg c5, if_neg c6, if_neg c7, if_neg c8, if_neg c9, if_neg c11, if_neg c12, if_neg c13, if_neg c14] at HD1;obtain ⟨rfl, rfl⟩ := Prod.mk.injEq _ _ _ _ ▸ HD1;clear c5 c6 c7 c8 c9 c11 c12 c13 c14;go_wp2;go_ret;exact ⟨by rw [HQ.out]; rfl, by rw [HQ.out]; exact HBn1.out⟩
theorem deed_put {w : World} {md n : Nat} {D : DataW Value} (h : w.ownsMap Tryz.prog 3 RV md n D) (hn : n < maxLen) (k : Int) (hk : (Lit.int .i64 k).wf = true) (v : Value) :
  ∃ w', (Instr.mapUpdate 199 (.map (some md)) (.int .i64 k) v).run Tryz.prog w = .ok () w' ∧ w'.ownsMap Tryz.prog 3 RV md (n + 1) (D.put (.int .i64 k) (.held v)) ∧ w.grownBy w' (some md) :=
 h.update (int_keyed Tryz.underlying3) Tryz.underlying199 hn (keyOf_int_mk Tryz.underlying3 hk) (d := .held v) (ps := []) rfl
theorem blw_map {b : Nat} {a w w1 : World} (h : Below b a w) (hs : b ≤ w.heap.size) (hg : w.grownBy w1 (some b)) : Below b a w1 ∧ b ≤ w1.heap.size :=
 ⟨h.grown hg hs (fun k hk => by cases hk; exact Nat.le_refl _), Nat.le_trans hs hg.size⟩
theorem deedsOfKinds_any (w : World) : Calls Tryz.prog 114 #[] w fun e w' => ∃ md, e = .returned (.map (some md)) ∧ w.heap.size ≤ md ∧ DM w' md ∧ bw w w' := by
 have hmm := @run_makeMap Tryz.prog;have o0 : (w.alloc (.map #[] 0)).ownsMap Tryz.prog 3 RV w.heap.size 0 (.map []) := World.ownsMap_made (H := Value) w Tryz.prog 3 RV;have b0 : bw w (w.alloc (.map #[] 0)) := (brf).alloc (Nat.le_refl _) _;have z0 : w.heap.size ≤ (w.alloc (.map #[] 0)).heap.size := by simp
 obtain ⟨w1, r1, o1, g1⟩ := deed_put o0 (by unfold maxLen; omega) 5 (by decide) (fv 176);obtain ⟨b1, z1⟩ := blw_map b0 z0 g1;clear o0 b0 z0 g1;obtain ⟨w2, r2, o2, g2⟩ := deed_put o1 (by unfold maxLen; omega) 6 (by decide) (fv 177);obtain ⟨b2, z2⟩ := blw_map b1 z1 g2;clear o1 b1 z1 g2;obtain ⟨w3, r3, o3, g3⟩ := deed_put o2 (by unfold maxLen; omega) 7 (by decide) (fv 178);obtain ⟨b3, z3⟩ := blw_map b2 z2 g3;clear o2 b2 z2 g3;obtain ⟨w4, r4, o4, g4⟩ := deed_put o3 (by unfold maxLen; omega) 8 (by decide) (fv 179);obtain ⟨b4, z4⟩ := blw_map b3 z3 g4;clear o3 b3 z3 g4;obtain ⟨w5, r5, o5, g5⟩ := deed_put o4 (by unfold maxLen; omega) 9 (by decide) (fv 180);obtain ⟨b5, z5⟩ := blw_map b4 z4 g5;clear o4 b4 z4 g5;obtain ⟨w6, r6, o6, g6⟩ := deed_put o5 (by unfold maxLen; omega) 11 (by decide) (fv 181);obtain ⟨b6, z6⟩ := blw_map b5 z5 g6;clear o5 b5 z5 g6;obtain ⟨w7, r7, o7, g7⟩ := deed_put o6 (by unfold maxLen; omega) 12 (by decide) (fv 182);obtain ⟨b7, z7⟩ := blw_map b6 z6 g7;clear o6 b6 z6 g7;obtain ⟨w8, r8, o8, g8⟩ := deed_put o7 (by unfold maxLen; omega) 13 (by decide) (fv 183);obtain ⟨b8, z8⟩ := blw_map b7 z7 g8;clear o7 b7 z7 g8;obtain ⟨w9, r9, o9, g9⟩ := deed_put o8 (by unfold maxLen; omega) 14 (by decide) (fv 182);obtain ⟨b9, z9⟩ := blw_map b8 z8 g9;clear o8 b8 z8 g9;have HD : Hid (DM w9 w.heap.size) := o9;have HB : Hid (bw w w9) := b9;clear o9 b9 z9
 go_enter Tryz.func114, Tryz.ntmps114
 go_wp2;go_ret;exact ⟨w.heap.size, rfl, Nat.le_refl _, HD.out, HB.out⟩
theorem DM.next {w w1 : World} {md : Nat} (h : DM w md) (hb : bw w w1) : DM w1 md := h.same (hb.block md h.lt)
theorem dm_wm {w : World} {md m : Nat} (h : DM w md) (h2 : WM w m []) : m ≠ md := by
 rintro rfl;obtain ⟨es, clock, hb, F, _, hD⟩ := h;obtain ⟨D2, ⟨es2, clock2, hb2, F2, _, hD2⟩, hr⟩ := h2;rw [hb] at hb2;injection hb2 with hb2;injection hb2 with hb2 _;subst hb2;have h1 : Maps.size Ddeeds = es.size := by rw [hD, Maps.size_eq, length_sorted]; simp
 have h2 : Maps.size D2 = es.size := by rw [hD2, Maps.size_eq, length_sorted]; simp
 have h3 : Maps.size Ddeeds = 9 := by kernel_rfl
 have h4 := hr.size;simp at h4;omega
def NB10 (M : Nat) (v : Value) (w : World) : Prop := ∃ md, v = .map (some md) ∧ M ≤ md ∧ DM w md
theorem NB10.later {M : Nat} {v : Value} {w w1 : World} (h : NB10 M v w) (hb : bw w w1) : NB10 M v w1 := by
 obtain ⟨md, h1, h2, h3⟩ := h;exact ⟨md, h1, h2, h3.next hb⟩
def NB11 (M : Nat) (v : Value) (w : World) : Prop := ∃ m, v = .map (some m) ∧ M ≤ m ∧ WM w m []
theorem NB11.later {M : Nat} {v : Value} {w w1 : World} (h : NB11 M v w) (hb : bw w w1) : NB11 M v w1 := by
 obtain ⟨md, h1, h2, h3⟩ := h;exact ⟨md, h1, h2, h3.next hb⟩
def NB13 (M : Nat) (ao : Option Addr) (cap : Nat) (l : List Sit) (s : Sm) (v : Value) (w : World) : Prop :=
 ∃ md m, v = .agg #[.slice ao l.length cap, .int .i64 ((tipsL l).length : Int), .int .i64 (tipM l), .map (some md), .map (some m), .slice s.aoW s.wl.length s.capW, .bool s.tip, .slice s.aoH s.held.length s.capH, .slice s.aoT s.touched.length s.capT, .int .i64 s.used, .int .i64 s.heat, .int .i64 s.clock] ∧ M ≤ md ∧ M ≤ m ∧ DM w md ∧ WM w m []
theorem NB13.later {M : Nat} {ao : Option Addr} {cap : Nat} {l : List Sit} {s : Sm} {v : Value} {w w1 : World} (h : NB13 M ao cap l s v w) (hb : bw w w1) : NB13 M ao cap l s v w1 := by
 obtain ⟨md, m, h1, h2, h3, h4, h5⟩ := h;exact ⟨md, m, h1, h2, h3, h4.next hb, h5.next hb⟩
def NB14 (M : Nat) (ao : Option Addr) (cap : Nat) (l : List Sit) (s : Sm) (v : Value) (w : World) : Prop :=
 ∃ b md m, v = ptr b ∧ M ≤ b ∧ M ≤ md ∧ M ≤ m ∧ b ≠ m ∧ b ≠ md ∧ m ≠ md ∧ DM w md ∧ WM w m [] ∧ Bk b (bcs ao cap l md m (s.aoW, s.wl.length, s.capW) s.st s.aoH s.capH s.aoT s.capT) w
theorem NB14.later {M : Nat} {ao : Option Addr} {cap : Nat} {l : List Sit} {s : Sm} {v : Value} {w w1 : World} (h : NB14 M ao cap l s v w) (hb : bw w w1) : NB14 M ao cap l s v w1 := by
 obtain ⟨b, md, m, h1, h2, h3, h4, h5, h6, h7, h8, h9, h10⟩ := h;exact ⟨b, md, m, h1, h2, h3, h4, h5, h6, h7, h8.next hb, h9.next hb, h10.later hb⟩
theorem insH_last {y : Wh} {l : List Wh} (h : ∀ x ∈ l, pltB x.1 y.1 = true) : insH y l = l ++ [y] := by
 induction l with
 | nil => rfl
 | cons x r ih =>
  have hx := h x (List.mem_cons_self ..);have : ¬ pltB y.1 x.1 = true := fun e => plt_ne (plt_trans hx e) rfl;unfold insH;rw [if_neg this, ih fun z hz => h z (List.mem_cons_of_mem _ hz)]
  rfl
theorem take_ins {wl : List Wh} (h : Rising (whp wl)) {k : Nat} (hk : k < wl.length) : insH (wl[k]'hk) (delH (wl.take k) (wl[k]'hk).1) = wl.take (k + 1) := by
 have hr : wl.Pairwise fun x y => pltB x.1 y.1 = true := by
  unfold Rising whp at h;rw [List.pairwise_map] at h;exact h
 have ha : ∀ x ∈ wl.take k, pltB x.1 (wl[k]'hk).1 = true := by
  intro x hx;obtain ⟨i, hi, rfl⟩ := List.getElem_of_mem hx;rw [List.getElem_take];have : i < k := by simp at hi; omega
  exact List.pairwise_iff_getElem.1 hr i k (by omega) hk this
 have hd : delH (wl.take k) (wl[k]'hk).1 = wl.take k := by
  unfold delH;rw [List.filter_eq_self];intro x hx;exact decide_eq_true (plt_ne (ha x hx))
 rw [hd, insH_last ha, List.take_succ_eq_append_getElem hk]
theorem rising_take {wl : List Wh} (h : Rising (whp wl)) (k : Nat) : Rising (whp (wl.take k)) := by
 unfold Rising whp at h ⊢;rw [List.map_take];exact h.sublist (List.take_sublist _ _)
theorem flx_low {b m : Nat} {w w1 : World} {ao : Option Addr} {ps : List F.Pc} (h : F.Fl w ao ps) (hb : bw w w1) (h1 : w.heap.size ≤ b) (h2 : w.heap.size ≤ m) : Flx b m w1 ao ps := by
 refine ⟨h.next hb, ?_⟩
 rcases h.2 with h | ⟨g, off, e, hg, _⟩
 ·exact .inl h
 ·refine .inr fun a ha => ?_
  rw [e] at ha;injection ha with ha;subst ha;exact ⟨by simp only; omega, by simp only; omega⟩
theorem txx_low {b m : Nat} {w w1 : World} {ao : Option Addr} {ps : List ByteArray} (h : Tx w ao ps) (hb : bw w w1) (h1 : w.heap.size ≤ b) (h2 : w.heap.size ≤ m) : Txx b m w1 ao ps := by
 refine ⟨h.next hb, ?_⟩
 rcases h.2 with h | ⟨g, off, e, hg, _⟩
 ·exact .inl h
 ·refine .inr fun a ha => ?_
  rw [e] at ha;injection ha with ha;subst ha;exact ⟨by simp only; omega, by simp only; omega⟩
def nbV (M : Nat) (ao : Option Addr) (cap : Nat) (l : List Sit) (s : Sm) (d : Nat) (v : Value) (w : World) : Prop :=
 match d with
 | 8 => v = .slice ao l.length cap
 | 9 => v = .agg #[.slice ao l.length cap, .int .i64 ((tipsL l).length : Int), .int .i64 (tipM l)]
 | 10 => NB10 M v w
 | 11 => NB11 M v w
 | 12 => v = .agg #[.slice s.aoW s.wl.length s.capW, .bool s.tip, .slice s.aoH s.held.length s.capH, .slice s.aoT s.touched.length s.capT, .int .i64 s.used, .int .i64 s.heat, .int .i64 s.clock]
 | 13 => NB13 M ao cap l s v w
 | 14 | 5 => NB14 M ao cap l s v w
 | _ => True
theorem nbV_mono (M : Nat) (ao : Option Addr) (cap : Nat) (l : List Sit) (s : Sm) (d : Nat) (v : Value) (w w' : World) (h : nbV M ao cap l s d v w) (hb : bw w w') : nbV M ao cap l s d v w' := by
 unfold nbV at h ⊢
 split <;> simp only [] at h <;> first | exact h | exact h.later hb
def nlpV (b Y m : Nat) (y : Wh) (d : Nat) (v : Value) (_ : World) : Prop :=
 match d with
 | 22 | 23 => v = .pointer (some ⟨b, 0, none⟩)
 | 24 => v = .pointer (some ⟨b, 4, none⟩)
 | 25 => v = .map (some m)
 | 26 => v = .pointer (some ⟨Y, 0, none⟩)
 | 27 => v = .agg #[.int .i64 y.1.1, .int .i64 y.1.2.1, .int .i64 y.1.2.2]
 | 28 => v = .pointer (some ⟨Y, 3, none⟩)
 | 29 => v = .slice y.2.1 y.2.2.2.length y.2.2.1
 | _ => True
theorem nlpV_mono (b Y m : Nat) (y : Wh) (d : Nat) (v : Value) (w w' : World) (h : nlpV b Y m y d v w) (_ : bw w w') : nlpV b Y m y d v w' := h
theorem newBench_any (ao : Option Addr) (cap : Nat) (l : List Sit) (s : Sm) (w : World) (hD : Dk w ao cap l) (hd : dchk l = 0) (hS : SmIn w s) (hm : May l s.st) :
  Calls Tryz.prog 54 #[.slice ao l.length cap, smv s] w fun e w' => ∃ b m md, e = .returned (ptr b) ∧ Bn w w' ao cap l b m md s.st := by
 have HD := hdd hD;have HDC := hdd hd;have HS := hdd hS;have HM := hdd hm;have HRI : Hid (Rising (whp s.wl)) := hm.rising;have hfew : s.wl.length ≤ 4608 := by have := wells_few hd hm; rw [← whp_length]; exact this
 have HWF : Hid (∀ x ∈ s.wl, Wf3 x.1) := fun x hx => wf_place hd (hm.wells (x.1, x.2.2.2) (List.mem_map.2 ⟨x, hx, rfl⟩)).1;obtain ⟨w0, hw0⟩ : ∃ w0, w0 = w.alloc (smo s) := ⟨_, rfl⟩;have b0 : bw w w0 := by rw [hw0]; exact (brf).alloc (Nat.le_refl _) _
 have KS : Hid (Bk w.heap.size [.slice s.aoW s.wl.length s.capW, .bool s.tip, .slice s.aoH s.held.length s.capH, .slice s.aoT s.touched.length s.capT, .int .i64 s.used, .int .i64 s.heat, .int .i64 s.clock] w0) := by show Bk _ _ _; rw [hw0]; exact Bk.new w _ 73 w.heap.size rfl
 have HD0 : Hid (Dk w0 ao cap l) := hD.next b0;have HB0 : Hid (bw w w0) := b0;have HW0 := hdd hw0;clear hD hd hS hm hw0 b0
 go_enter Tryz.func54, Tryz.ntmps54
 go_wp2_with fail
 rw [← HW0.out];rename_i KK hkk;have HKK := (show Hid _ from hkk);clear hkk
 refine region_inv [zf,zf,zf,zf,zf,zt,zf,zf,zt,zt,zt,zt,zt,zt,zt,zf,zf,zf,zf,zf,zf,zf,zf,zf,zf,zf,zf,zf,zf,zf,zf,zf]
  [(8, [], none), (9, [8], none), (10, [], none), (11, [], none), (12, [], none), (13, [9, 10, 11, 12], none), (14, [13], none), (5, [14], none)]
  (nbV w0.heap.size ao cap l s) (by kernel_rfl) (by kernel_rfl) (nbV_mono w0.heap.size ao cap l s) ?_ ?_
 ·refine ⟨?_, ?_, ?_, ?_, ?_, ?_, ?_, ?_, trivial⟩
  ·intro f wA hb _ K hK
   simp only [ov, oL];go_simp;exact hK _ _ ⟨_, rfl, by simp only [ov, oL]; rfl, brf⟩
  ·rintro f wA hb ⟨(h8 : f 8 = _), _⟩ K hK
   simp only [ov, oL, h8];go_simp;refine ((newLayout_any ao cap l wA (HD0.out.next hb) HDC.out).mono) ?_;rintro e w2 ⟨rfl, hb2⟩;exact hK _ _ ⟨_, rfl, by simp only [ov, oL, h8]; rfl, hb2⟩
  ·intro f wA hb _ K hK
   simp only [ov, oL];go_simp;refine ((deedsOfKinds_any wA).mono) ?_;rintro e w2 ⟨md, rfl, g1, g2, hb2⟩;exact hK _ _ ⟨_, ⟨md, rfl, Nat.le_trans hb.size g1, g2⟩, by simp only [ov, oL]; rfl, hb2⟩
  ·intro f wA hb _ K hK
   have hmm := @run_makeMap Tryz.prog;simp only [ov, oL];go_simp;exact hK _ _ ⟨_, ⟨wA.heap.size, rfl, hb.size, WM.made wA⟩, by simp only [ov, oL]; rfl, (brf).alloc (Nat.le_refl _) _⟩
  ·intro f wA hb _ K hK
   obtain ⟨q0, q1, q2, q3, q4, q5, q6⟩ := (KS.out.later hb).c7;simp only [ov, oL];go_simp;exact hK _ _ ⟨_, rfl, by simp only [ov, oL]; rfl, brf⟩
  ·rintro f wA hb ⟨(h9 : f 9 = _), h10, h11, (h12 : f 12 = _), _⟩ K hK
   obtain ⟨md, h10, g1, g2⟩ := h10;obtain ⟨m, h11, k1, k2⟩ := h11;simp only [ov, oL, h9, h12, h10, h11];go_simp;exact hK _ _ ⟨_, ⟨md, m, rfl, g1, k1, g2, k2⟩, by simp only [ov, oL, h9, h12, h10, h11]; rfl, brf⟩
  ·intro f wA hb ⟨h13, _⟩ K hK
   obtain ⟨md, m, h13, g1, k1, g2, k2⟩ := h13;have hn := dm_wm g2 k2;have hl1 := g2.lt;have hl2 := k2.lt;have al : bw wA (wA.alloc (.cells (bcs ao cap l md m (s.aoW, s.wl.length, s.capW) s.st s.aoH s.capH s.aoT s.capT).toArray 203)) := (brf).alloc (Nat.le_refl _) _;simp only [ov, oL, h13];go_simp;exact hK _ _ ⟨_, ⟨wA.heap.size, md, m, rfl, hb.size, g1, k1, by omega, by omega, hn, g2.next al, k2.next al, Bk.new wA (bcs ao cap l md m (s.aoW, s.wl.length, s.capW) s.st s.aoH s.capH s.aoT s.capT) 203 wA.heap.size rfl⟩, by simp only [ov, oL, h13]; rfl, (brf).alloc (Nat.le_refl _) _⟩
  ·intro f wA hb ⟨h14, _⟩ K hK
   simp only [ov, oL];go_simp;exact hK _ _ ⟨_, h14, by simp only [ov, oL]; rfl, brf⟩
 intro f w1 hb hv;have h5 : NB14 w0.heap.size ao cap l s (f 5) w1 := hv.2.2.2.2.2.2.2.1;obtain ⟨b, md, m, h5, g2, g3, g4, g5, g6, g7, g8, g9, g10⟩ := h5;have HG : Hid (w0.heap.size ≤ b ∧ w0.heap.size ≤ md ∧ w0.heap.size ≤ m ∧ b ≠ m ∧ b ≠ md ∧ m ≠ md) := ⟨g2, g3, g4, g5, g6, g7⟩;have HDM : Hid (DM w1 md) := g8;have HWM1 : Hid (WM w1 m []) := g9;have KB1 : Hid (Bk b (bcs ao cap l md m (s.aoW, s.wl.length, s.capW) s.st s.aoH s.capH s.aoT s.capT) w1) := g10;have KS1 := hdd (KS.out.later hb);have HB1 := hdd (HB0.out.trans (hb.mono HB0.out.size));clear hv hb g2 g3 g4 g5 g6 g7 g8 g9 g10;simp only [ov, oL, h5];clear h5
 (try go_wp2)
 refine HKK.out _ _ ?_;clear HKK;obtain ⟨q0, q1, q2, q3, q4, q5, q6⟩ := (KS1.out).c7
 go_wp2_with fail
 clear q0 q1 q2 q3 q4 q5 q6
 go_loopw [18] (fun i wr => ∃ k : Nat, k ≤ s.wl.length ∧ i = .int .i64 k ∧ But b m w1 wr ∧ WM wr m (s.wl.take k) ∧ Bk b (bcs ao cap l md m (s.aoW, s.wl.length, s.capW) s.st s.aoH s.capH s.aoT s.capT) wr) (fun i _ => s.wl.length - (intOf i).toNat)
 case atStart => exact ⟨0, Nat.zero_le _, rfl, but_below (brf), HWM1.out, KB1.out⟩
 case round =>
  obtain ⟨k, hk, rfl, hbu, hwm, hkb⟩ := hrel;have HBU := hdd hbu;have HWM := hdd hwm;have KB := hdd hkb;have HB : Hid (bw w wr) := hbu.below HB1.out (Nat.le_trans HB0.out.size HG.out.1) (Nat.le_trans HB0.out.size HG.out.2.2.1) HB1.out.size;clear hbu hwm hkb
  by_cases hlt : k < s.wl.length
  rotate_left
  ·go_wp2
   go_ret;refine ⟨b, m, md, rfl, HD.out, HDC.out, HM.out, HB.out, ⟨Nat.le_trans HB0.out.size HG.out.1, Nat.le_trans HB0.out.size HG.out.2.2.1, Nat.le_trans HB0.out.size HG.out.2.1⟩, ⟨HG.out.2.2.2.1, HG.out.2.2.2.2.1, HG.out.2.2.2.2.2⟩, HDM.out.same (HBU.out.block md HDM.out.lt (fun e => HG.out.2.2.2.2.1 e.symm) (fun e => HG.out.2.2.2.2.2 e.symm)), ⟨s.wl, ?_, rfl, ?_⟩, (s.aoW, s.wl.length, s.capW), s.aoH, s.capH, s.aoT, s.capT, KB.out, ?_, ?_⟩
   ·have := HWM.out
    rw [List.take_of_length_le (by omega)] at this;exact this
   ·intro x hx
    obtain ⟨i, hi, rfl⟩ := List.getElem_of_mem hx;obtain ⟨b', off, _, hat⟩ := HS.out.wells.at hi;exact flx_low hat.fl HB.out (Nat.le_trans HB0.out.size HG.out.1) (Nat.le_trans HB0.out.size HG.out.2.2.1)
   ·exact flx_low HS.out.held HB.out (Nat.le_trans HB0.out.size HG.out.1) (Nat.le_trans HB0.out.size HG.out.2.2.1)
   ·exact txx_low HS.out.touched HB.out (Nat.le_trans HB0.out.size HG.out.1) (Nat.le_trans HB0.out.size HG.out.2.2.1)
  ·obtain ⟨b', off, hao, hx⟩ := (HS.out.wells.next HB.out).at hlt
   have HAO := hdd hao;rw [hao];clear hao;obtain ⟨y, hy⟩ : ∃ y, y = s.wl[k]'hlt := ⟨_, rfl⟩;rw [← hy] at hx;obtain ⟨_, c0, c1, c2, c3, _⟩ := hx;have HTK : Hid (insH y (delH (s.wl.take k) y.1) = s.wl.take (k + 1)) := by show _ = _; rw [hy]; exact take_ins HRI.out hlt
   have HY3 : Hid (Wf3 y.1) := by show Wf3 _; rw [hy]; exact HWF.out _ (List.getElem_mem hlt)
   obtain ⟨w2, hw2⟩ : ∃ w2, w2 = wr.alloc (who y) := ⟨_, rfl⟩;have b2 : bw wr w2 := by rw [hw2]; exact (brf).alloc (Nat.le_refl _) _
   have KY : Hid (Bk wr.heap.size [.int .i64 y.1.1, .int .i64 y.1.2.1, .int .i64 y.1.2.2, .slice y.2.1 y.2.2.2.length y.2.2.1] w2) := by show Bk _ _ _; rw [hw2]; exact Bk.new wr _ 205 wr.heap.size rfl
   have KB2 := hdd (KB.out.later b2);have HB2 : Hid (bw wr w2) := b2;have HW2 := hdd hw2;have hki : (k : Int) < (s.wl.length : Int) := by omega
   clear hy hw2 b2
   go_wp2_with fail
   rw [← HW2.out];rename_i KK hkk;have HKK := (show Hid _ from hkk);clear hkk
   refine region_seq 8 [zf,zf,zf,zf,zf,zf,zf,zf,zf,zf,zf,zf,zf,zf,zf,zf,zf,zf,zf,zf,zf,zf,zt,zt,zt,zt,zt,zt,zt,zt,zf,zf]
    [(22, [], none), (23, [22], none), (24, [23], none), (25, [24], none), (26, [], none), (27, [26], none), (28, [], none), (29, [28], none)]
    (nlpV b wr.heap.size m y) (by kernel_rfl) (by kernel_rfl) (by kernel_rfl) (by kernel_rfl) (by kernel_rfl) (by decide) (nlpV_mono b wr.heap.size m y) ?_ ?_
   ·refine ⟨?_, ?_, ?_, ?_, ?_, ?_, ?_, ?_, trivial⟩
    any_goals first | (intro f w1 hb _ K hK; simp only [ov, oL]; go_simp; exact hK _ _ ⟨_, rfl, by simp only [ov, oL]; rfl, brf⟩) | fail
    ·rintro f wA hb ⟨(h22 : f 22 = _), _⟩ K hK
     simp only [ov, oL, h22];go_simp;exact hK _ _ ⟨_, rfl, by simp only [ov, oL, h22]; rfl, brf⟩
    ·rintro f wA hb ⟨(h23 : f 23 = _), _⟩ K hK
     simp only [ov, oL, h23];go_simp;exact hK _ _ ⟨_, rfl, by simp only [ov, oL, h23]; rfl, brf⟩
    ·rintro f wA hb ⟨(h24 : f 24 = _), _⟩ K hK
     have q4 := (KB2.out.later hb).c 4 rfl;simp only [ov, oL, h24];go_simp;exact hK _ _ ⟨_, rfl, by simp only [ov, oL, h24]; rfl, brf⟩
    ·rintro f wA hb ⟨(h26 : f 26 = _), _⟩ K hK
     have q0 := (KY.out.later hb).c 0 rfl;have q1 := (KY.out.later hb).c 1 rfl;have q2 := (KY.out.later hb).c 2 rfl;simp only [ov, oL, h26];go_simp;exact hK _ _ ⟨_, rfl, by simp only [ov, oL, h26]; rfl, brf⟩
    ·rintro f wA hb ⟨(h28 : f 28 = _), _⟩ K hK
     have q3 := (KY.out.later hb).c 3 rfl;simp only [ov, oL, h28];go_simp;exact hK _ _ ⟨_, rfl, by simp only [ov, oL, h28]; rfl, brf⟩
   intro f' w3 hb hv;have h25 : f' 25 = _ := hv.2.2.2.1;have h27 : f' 27 = _ := hv.2.2.2.2.2.1;have h29 : f' 29 = _ := hv.2.2.2.2.2.2.2.1;have HB3 := hdd (HB2.out.trans (hb.mono HB2.out.size));obtain ⟨D, hown, hrd⟩ := HWM.out.next HB3.out;have HON : Once (s.wl.take k) := once_of (rising_take HRI.out k)
   have HRD : Hid (Reads (D.put (klP y.1) (.held (.slice y.2.1 y.2.2.2.length y.2.2.1))) (s.wl.take (k + 1))) := by
    have := reads_put (x := y) hrd HON HY3.out;rw [HTK.out] at this;exact this
   have hsz : Maps.size D < maxLen := by rw [hrd.size]; have : (s.wl.take k).length ≤ s.wl.length := by simp; omega
                                         unfold maxLen; omega
   clear hv hrd hb HON;simp only [List.drop, ov, oL, h25, h27, h29]
   go_wp2_with (first | (at_mapUpdate; refine wpList_mapUpdate_own _ rfl _ _ _ 201 rfl 55 70 lawP Tryz.underlying201 RV m (Maps.size D) D rfl hown hsz _ _ _ rfl rfl (keyP_some HY3.out) (.held (.slice y.2.1 y.2.2.2.length y.2.2.1)) [] rfl ?_; intro w4 hown1 hg1) | go_in)
   have HWM4 : Hid (WM w4 m (s.wl.take (k + 1))) := ⟨_, own_tight hown1, HRD.out⟩;have HBU4 := hdd (HBU.out.trans ((but_below HB3.out).trans (but_grown hg1)));have KB4 := hdd ((KB.out.later HB3.out).same hg1.size (hg1.block b (KB.out.later HB3.out).1 (by simpa using HG.out.2.2.2.1)));clear hown hown1 hg1 h25 h27 h29 hsz;refine HKK.out _ _ ?_;go_wp2
   go_roundw
   case rel => exact ⟨k + 1, by omega, by go_num, HBU4.out, HWM4.out, (by have := KB4.out; rw [HAO.out] at this; exact this)⟩
   case measure => simp [intOf]; omega
end Go.Proofs.YtcajifelbldjnaaGreatDoor
