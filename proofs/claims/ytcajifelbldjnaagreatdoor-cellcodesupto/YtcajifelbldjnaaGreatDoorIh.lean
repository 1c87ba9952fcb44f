import Derived.Test.YtcajifelbldjnaaGreatDoorIg
import Derived.DeepKeys5
import Derived.Maps.OwnSet
import Derived.Maps.OwnOps
import Derived.Maps.RangeWalk
import Derived.Test.YtcajifelbldjnaaGreatDoorIf
set_option maxRecDepth 100000
set_option maxHeartbeats 25600000
set_option linter.unusedVariables false
namespace Go.Proofs.YtcajifelbldjnaaGreatDoor
open Go.RowKit Go.Maps
def Wf1 (n : Int) : Prop := -9223372036854775808 ≤ n ∧ n ≤ 9223372036854775807
def Wf3 (p : Plc) : Prop := Wf1 p.1 ∧ Wf1 p.2.1 ∧ Wf1 p.2.2
theorem wf_lit {n : Int} (h : Wf1 n) : (Lit.int .i64 n).wf = true := F.i64_wf h.1 h.2
theorem lit_wf {n : Int} (h : (Lit.int .i64 n).wf = true) : Wf1 n := by
 have e1 : IntKind.i64.min = -9223372036854775808 := rfl;have e2 : IntKind.i64.max = 9223372036854775807 := rfl;simp only [Lit.wf, Bool.and_eq_true, decide_eq_true_eq] at h;unfold Wf1;omega
theorem laidOutP : laidOutB Tryz.prog = true := by kernel_rfl
theorem lawP : Keyed Tryz.prog 55 := Keyed.of_law (deep_law_gate laidOutP (of_decide_eq_true (by kernel_rfl)) (of_decide_eq_true (by kernel_rfl)) (by kernel_rfl) (by kernel_rfl))
theorem keyT : Tryz.prog.keyType 55 = true := by kernel_rfl
theorem cellsP : Tryz.prog.cellsOf 55 = 3 := by kernel_rfl
theorem cellsSp : Tryz.prog.cellsOf 53 = 2 := by kernel_rfl
theorem cellsI : Tryz.prog.cellsOf 3 = 1 := by kernel_rfl
theorem sizeT : Tryz.prog.types.size + 1 = 430 := by kernel_rfl
theorem lits_int (d : Nat) {n : Int} (h : Wf1 n) : Tryz.prog.keyLits (d + 1) 3 [.int .i64 n] = some [.int .i64 n] := by
 unfold Program.keyLits;rw [Tryz.underlying3];simp [wf_lit h]
theorem lits_int_inv {d : Nat} {cs : List Value} {x : List Lit} (h : Tryz.prog.keyLits (d + 1) 3 cs = some x) : ∃ n, cs = [.int .i64 n] ∧ Wf1 n := by
 unfold Program.keyLits at h;rw [Tryz.underlying3] at h
 split at h
 ·rename_i heq; cases heq
 ·rename_i q q' n heq
  injection heq with heq;injection heq with heq;subst heq
  split at h
  ·rename_i hc
   exact ⟨n, by rw [hc.1], lit_wf hc.2⟩
  ·cases h
 ·rename_i heq; cases heq
 ·rename_i heq; cases heq
 ·rename_i heq; cases heq
 ·cases h
theorem lits_spot (d : Nat) {r c : Int} (hr : Wf1 r) (hc : Wf1 c) : Tryz.prog.keyLits (d + 2) 53 [.int .i64 r, .int .i64 c] = some [.int .i64 r, .int .i64 c] := by
 unfold Program.keyLits;rw [Tryz.underlying53];simp [cellsSp, cellsI, lits_int d hr, lits_int d hc]
theorem lits_place (d : Nat) {p : Plc} (h : Wf3 p) : Tryz.prog.keyLits (d + 3) 55 [.int .i64 p.1, .int .i64 p.2.1, .int .i64 p.2.2] = some [.int .i64 p.1, .int .i64 p.2.1, .int .i64 p.2.2] := by
 unfold Program.keyLits;rw [Tryz.underlying55];simp [cellsP, cellsSp, cellsI, lits_int (d + 1) h.1, lits_spot d h.2.1 h.2.2]
def klP (p : Plc) : Lit := .string (keyBytes [.int .i64 p.1, .int .i64 p.2.1, .int .i64 p.2.2])
theorem keyP_some {p : Plc} (h : Wf3 p) : keyOf Tryz.prog 55 (plv p) = some (klP p) := by
 unfold keyOf;rw [Tryz.underlying55];simp only [keyT, sizeT];have hf : (plv p).formed Tryz.prog 55 = true := by simp [Value.formed, Tryz.underlying55, cellsP]
 rw [hf];simp only [Bool.and_self, if_true, Value.cells, List.toList_toArray];rw [show 430 = 427 + 3 from rfl, lits_place 427 h]
 rfl
theorem keyP_inv {v : Value} {kl : Lit} (h : keyOf Tryz.prog 55 v = some kl) : ∃ p, v = plv p ∧ Wf3 p := by
 unfold keyOf at h;rw [Tryz.underlying55] at h;simp only at h
 split at h
 ·rename_i hc
  rw [keyT, Bool.true_and] at hc
  cases v with
  | agg cs =>
   simp only [Value.formed, Tryz.underlying55, cellsP, beq_iff_eq] at hc
   obtain ⟨a, b, c, hcs⟩ : ∃ a b c, cs = #[a, b, c] := by
    obtain ⟨l⟩ := cs
    match l, hc with
    | [a, b, c], _ => exact ⟨a, b, c, rfl⟩
   subst hcs;rw [sizeT, show 430 = 427 + 3 from rfl] at h
   obtain ⟨ls, h1⟩ : ∃ ls, Tryz.prog.keyLits (427 + 3) 55 [a, b, c] = some ls := by
    cases h2 : Tryz.prog.keyLits (427 + 3) 55 [a, b, c] with
    | none => simp only [Value.cells] at h; rw [h2] at h; cases h
    | some ls => exact ⟨ls, rfl⟩
   unfold Program.keyLits at h1;rw [Tryz.underlying55] at h1;simp only [cellsP] at h1
   obtain ⟨x, hx⟩ : ∃ x, Tryz.prog.keyLits (427 + 2) 3 [a] = some x := by
    cases h2 : Tryz.prog.keyLits (427 + 2) 3 [a] with
    | none => simp [cellsI, h2] at h1
    | some x => exact ⟨x, rfl⟩
   obtain ⟨y, hy⟩ : ∃ y, Tryz.prog.keyLits (427 + 2) 53 [b, c] = some y := by
    cases h2 : Tryz.prog.keyLits (427 + 2) 53 [b, c] with
    | none => simp [cellsI, cellsSp, hx, h2] at h1
    | some x => exact ⟨x, rfl⟩
   obtain ⟨n, e1, hn⟩ := lits_int_inv (d := 427 + 1) hx;unfold Program.keyLits at hy;rw [Tryz.underlying53] at hy;simp only [cellsSp] at hy
   obtain ⟨x2, hx2⟩ : ∃ x, Tryz.prog.keyLits (427 + 1) 3 [b] = some x := by
    cases h2 : Tryz.prog.keyLits (427 + 1) 3 [b] with
    | none => simp [cellsI, h2] at hy
    | some x => exact ⟨x, rfl⟩
   obtain ⟨x3, hx3⟩ : ∃ x, Tryz.prog.keyLits (427 + 1) 3 [c] = some x := by
    cases h2 : Tryz.prog.keyLits (427 + 1) 3 [c] with
    | none => simp [cellsI, hx2, h2] at hy
    | some x => exact ⟨x, rfl⟩
   obtain ⟨n2, e2, hn2⟩ := lits_int_inv (d := 427) hx2;obtain ⟨n3, e3, hn3⟩ := lits_int_inv (d := 427) hx3;injection e1 with e1;injection e2 with e2;injection e3 with e3;subst e1 e2 e3;exact ⟨(n, n2, n3), rfl, hn, hn2, hn3⟩
  | _ => simp [Value.formed, Tryz.underlying55] at hc
 ·cases h
theorem klP_inj {p q : Plc} (hp : Wf3 p) (hq : Wf3 q) (h : klP p = klP q) : p = q := by
 have := lawP.inj (keyP_some hp) (by rw [h]; exact keyP_some hq);injection this with e;simp at e;exact Prod.ext e.1 (Prod.ext e.2.1 e.2.2)
def RV (v : Value) : Option (DataW Value × List MemPlace) := some (.held v, [])
abbrev hdv (f : F.Fd) : Value := .slice f.1 f.2.2.length f.2.1
structure Reads (D : DataW Value) (wl : List Wh) : Prop where
 isMap : Tidy D
 size : Maps.size D = wl.length
 wf : ∀ x ∈ wl, Wf3 x.1
 at' : ∀ x ∈ wl, ∀ z, D.atKey (klP x.1) z = .held (hdv x.2)
 none' : ∀ p, Wf3 p → (∀ x ∈ wl, x.1 ≠ p) → Maps.has D (klP p) = false
def WM (w : World) (m : Nat) (wl : List Wh) : Prop := ∃ D, w.ownsMap Tryz.prog 55 RV m (Maps.size D) D ∧ Reads D wl
theorem own_tight {w : World} {k : TypeId} {R : Value → Option (DataW Value × List MemPlace)} {b n : Nat} {D : DataW Value} (h : w.ownsMap Tryz.prog k R b n D) : w.ownsMap Tryz.prog k R b (Maps.size D) D := by
 obtain ⟨es, clock, hb, F, _, hD⟩ := h;refine ⟨es, clock, hb, F, ?_, hD⟩;rw [hD, Maps.size_eq, length_sorted];simp
theorem WM.lt {w : World} {m : Nat} {wl : List Wh} (h : WM w m wl) : m < w.heap.size := by
 obtain ⟨D, h1, _⟩ := h;exact h1.lt
theorem WM.same {w w1 : World} {m : Nat} {wl : List Wh} (h : WM w m wl) (hb : w1.heap[m]? = w.heap[m]?) : WM w1 m wl := by
 obtain ⟨D, ⟨es, clock, h1, h2⟩, h3⟩ := h;exact ⟨D, ⟨es, clock, hb.trans h1, h2⟩, h3⟩
theorem WM.next {w w1 : World} {m : Nat} {wl : List Wh} (h : WM w m wl) (hb : bw w w1) : WM w1 m wl := h.same (hb.block m h.lt)
theorem reads_nil : Reads (.map []) [] := ⟨tidy_empty, rfl, (fun _ h => by cases h), (fun _ h => by cases h), fun _ _ _ => rfl⟩
theorem WM.made (w : World) : WM (w.alloc (.map #[] 0)) w.heap.size [] := ⟨.map [], World.ownsMap_made w _ _ _, reads_nil⟩
def delH (wl : List Wh) (p : Plc) : List Wh := wl.filter fun x => decide (x.1 ≠ p)
def insH (x : Wh) : List Wh → List Wh
 | [] => [x]
 | y :: r => if pltB x.1 y.1 = true then x :: y :: r else y :: insH x r
theorem mem_insH {x y : Wh} {l : List Wh} : x ∈ insH y l ↔ x = y ∨ x ∈ l := by
 induction l with
 | nil => simp [insH]
 | cons z r ih =>
  unfold insH
  split
  ·simp
  ·rw [List.mem_cons, ih, List.mem_cons]
   constructor
   ·rintro (h | h | h)
    ·exact .inr (.inl h)
    ·exact .inl h
    ·exact .inr (.inr h)
   ·rintro (h | h | h)
    ·exact .inr (.inl h)
    ·exact .inl h
    ·exact .inr (.inr h)
theorem insH_length (x : Wh) (l : List Wh) : (insH x l).length = l.length + 1 := by
 induction l with
 | nil => rfl
 | cons y r ih =>
  unfold insH
  split
  ·rfl
  ·simp [ih]
theorem whp_insH (x : Wh) (l : List Wh) : whp (insH x l) = ins (x.1, x.2.2.2) (whp l) := by
 induction l with
 | nil => rfl
 | cons y r ih =>
  have e : whp (y :: r) = (y.1, y.2.2.2) :: whp r := rfl;rw [e];unfold insH ins
  split
  ·rfl
  ·have e2 : whp (y :: insH x r) = (y.1, y.2.2.2) :: whp (insH x r) := rfl
   rw [e2, ih]
theorem whp_delH (l : List Wh) (p : Plc) : whp (delH l p) = wdel (whp l) p := by
 unfold whp delH wdel;rw [List.filter_map]
 rfl
theorem mem_delH {x : Wh} {l : List Wh} {p : Plc} : x ∈ delH l p ↔ x ∈ l ∧ x.1 ≠ p := by simp [delH]
def Once (wl : List Wh) : Prop := wl.Pairwise fun x y => x.1 ≠ y.1
theorem once_of {wl : List Wh} (h : Rising (whp wl)) : Once wl := by
 unfold Rising whp at h;rw [List.pairwise_map] at h;exact h.imp fun hlt => plt_ne hlt
theorem delH_length {wl : List Wh} (h : Once wl) (p : Plc) : (delH wl p).length + (if (∃ x ∈ wl, x.1 = p) then 1 else 0) = wl.length := by
 induction wl with
 | nil => simp [delH]
 | cons y r ih =>
  obtain ⟨h1, h2⟩ := List.pairwise_cons.1 h;have i := ih h2
  by_cases e : y.1 = p
  ·have hn : ¬ ∃ x ∈ r, x.1 = p := fun ⟨x, hx, e2⟩ => h1 x hx (by rw [e, e2])
   rw [if_neg hn] at i;rw [if_pos ⟨y, by simp, e⟩];have : delH (y :: r) p = delH r p := by simp [delH, e]
   rw [this];simp only [List.length_cons];omega
  ·have hd : delH (y :: r) p = y :: delH r p := by simp [delH, e]
   rw [hd]
   by_cases hx : ∃ x ∈ r, x.1 = p
   ·rw [if_pos hx] at i
    obtain ⟨x, hx1, hx2⟩ := hx;rw [if_pos ⟨x, by simp [hx1], hx2⟩];simp only [List.length_cons];omega
   ·rw [if_neg hx] at i
    rw [if_neg (by rintro ⟨x, hx1, hx2⟩; rcases List.mem_cons.1 hx1 with rfl | hx1; exact e hx2; exact hx ⟨x, hx1, hx2⟩)];simp only [List.length_cons];omega
theorem has_iff {D : DataW Value} {wl : List Wh} (h : Reads D wl) {p : Plc} (hp : Wf3 p) : Maps.has D (klP p) = true ↔ ∃ x ∈ wl, x.1 = p := by
 constructor
 ·intro hh
  refine Classical.byContradiction fun hn => ?_;have := h.none' p hp fun x hx e => hn ⟨x, hx, e⟩;rw [this] at hh
  cases hh
 ·rintro ⟨x, hx, rfl⟩
  exact has_true_of_atKey (h.at' x hx)
theorem reads_put {D : DataW Value} {wl : List Wh} (h : Reads D wl) (ho : Once wl) {x : Wh} (hx : Wf3 x.1) : Reads (D.put (klP x.1) (.held (hdv x.2))) (insH x (delH wl x.1)) := by
 have hk : WideAt.IsKeyLit (klP x.1) := lawP.key (keyP_some hx);refine ⟨h.isMap.put hk _, ?_, fun y hy => ?_, fun y hy z => ?_, fun p hp hn => ?_⟩
 ·rw [size_put h.isMap, insH_length, h.size]
  have hl := delH_length ho x.1
  by_cases hh : Maps.has D (klP x.1) = true
  ·rw [if_pos hh]
   rw [if_pos ((has_iff h hx).1 hh)] at hl;omega
  ·rw [if_neg hh]
   rw [if_neg (fun he => hh ((has_iff h hx).2 he))] at hl;omega
 ·rcases mem_insH.1 hy with rfl | hy
  ·exact hx
  ·exact h.wf y (mem_delH.1 hy).1
 ·rcases mem_insH.1 hy with rfl | hy
  ·exact atKey_put_same h.isMap.isMap hk _ _
  ·obtain ⟨hy1, hy2⟩ := mem_delH.1 hy
   rw [atKey_put_other (fun e => hy2 (klP_inj (h.wf y hy1) hx e))];exact h.at' y hy1 z
 ·have hne : p ≠ x.1 := fun e => hn x (mem_insH.2 (.inl rfl)) e.symm
  rw [has_put_other (fun e => hne (klP_inj hp hx e))];exact h.none' p hp fun y hy e => hn y (mem_insH.2 (.inr (mem_delH.2 ⟨hy, by rw [e]; exact hne⟩))) e
theorem reads_del {D : DataW Value} {wl : List Wh} (h : Reads D wl) (ho : Once wl) {p : Plc} (hp : Wf3 p) : Reads (D.del (klP p)) (delH wl p) := by
 refine ⟨h.isMap.del _, ?_, fun y hy => h.wf y (mem_delH.1 hy).1, fun y hy z => ?_, fun q hq hn => ?_⟩
 ·have hs := size_del (k := klP p) h.isMap
  have hl := delH_length ho p;rw [h.size] at hs
  by_cases hh : Maps.has D (klP p) = true
  ·rw [if_pos hh] at hs
   rw [if_pos ((has_iff h hp).1 hh)] at hl;omega
  ·rw [if_neg hh] at hs
   rw [if_neg (fun he => hh ((has_iff h hp).2 he))] at hl;omega
 ·obtain ⟨hy1, hy2⟩ := mem_delH.1 hy
  rw [atKey_del_other (fun e => hy2 (klP_inj (h.wf y hy1) hp e))];exact h.at' y hy1 z
 ·by_cases e : q = p
  ·subst e; exact has_del_same
  ·rw [has_del_other (fun e2 => e (klP_inj hq hp e2))]
   exact h.none' q hq fun y hy e2 => hn y (mem_delH.2 ⟨hy, by rw [e2]; exact e⟩) e2
def fdAt (wl : List Wh) (p : Plc) : F.Fd := ((wl.find? fun x => x.1 == p).map (·.2)).getD (none, 0, [])
theorem fdAt_cases (wl : List Wh) (p : Plc) : ((∀ x ∈ wl, x.1 ≠ p) ∧ fdAt wl p = (none, 0, [])) ∨ ∃ x ∈ wl, x.1 = p ∧ fdAt wl p = x.2 := by
 cases e : wl.find? (fun x => x.1 == p) with
 | none =>
  have h : ∀ x ∈ wl, x.1 ≠ p := fun x hx => by simpa using List.find?_eq_none.1 e x hx
  exact .inl ⟨h, by unfold fdAt; rw [e]; rfl⟩
 | some x =>
  have h1 := List.mem_of_find?_eq_some e;have h2 : x.1 = p := by simpa using List.find?_some e
  exact .inr ⟨x, h1, h2, by unfold fdAt; rw [e]; rfl⟩
theorem fdAt_whp (wl : List Wh) (p : Plc) : (fdAt wl p).2.2 = wellF (whp wl) p := by
 unfold fdAt wellF whp;rw [List.find?_map];have e : ((fun x : Plc × List F.Pc => x.1 == p) ∘ fun x : Wh => (x.1, x.2.2.2)) = fun x : Wh => x.1 == p := rfl;rw [e]
 cases wl.find? (fun x => x.1 == p) <;> rfl
theorem zeroSl (w : World) : (zeroValue 70).run Tryz.prog w = .ok (.slice none 0 0) w := by kernel_rfl
theorem WM.look {w : World} {m : Nat} {wl : List Wh} (h : WM w m wl) {p : Plc} (hp : Wf3 p) : (Instr.lookup 201 (.map (some m)) (plv p) false).run Tryz.prog w = .ok (hdv (fdAt wl p)) w := by
 obtain ⟨D, h1, h2⟩ := h;obtain ⟨v, ps, hrun, hv⟩ := h1.lookup lawP Tryz.underlying201 (zeroSl w) (zd := .held (.slice none 0 0)) (zp := []) rfl (keyP_some hp);rw [hrun]
 congr 1
 simp only [RV, Option.some.injEq, Prod.mk.injEq] at hv;have hv1 := hv.1
 rcases fdAt_cases wl p with ⟨hn, e⟩ | ⟨x, hx, hxp, e⟩
 ·rw [atKey_of_not_has (h2.none' p hp hn)] at hv1
  injection hv1 with hv1;rw [hv1, e]
  rfl
 ·rw [← hxp, h2.at' x hx] at hv1
  injection hv1 with hv1;rw [hv1, e]
def Flx (b m : Nat) (w : World) (ao : Option Addr) (ps : List F.Pc) : Prop := F.Fl w ao ps ∧ (ps = [] ∨ ∀ a, ao = some a → a.block ≠ b ∧ a.block ≠ m)
def Txx (b m : Nat) (w : World) (ao : Option Addr) (t : List ByteArray) : Prop := Tx w ao t ∧ (t = [] ∨ ∀ a, ao = some a → a.block ≠ b ∧ a.block ≠ m)
theorem Flx.next {b m : Nat} {w w1 : World} {ao : Option Addr} {ps : List F.Pc} (h : Flx b m w ao ps) (hb : bw w w1) : Flx b m w1 ao ps := ⟨h.1.next hb, h.2⟩
theorem Txx.next {b m : Nat} {w w1 : World} {ao : Option Addr} {t : List ByteArray} (h : Txx b m w ao t) (hb : bw w w1) : Txx b m w1 ao t := ⟨h.1.next hb, h.2⟩
structure But (b m : Nat) (w w1 : World) : Prop where
 os : w1.os = w.os
 tape : w1.tape = w.tape
 output : w1.output = w.output
 size : w.heap.size ≤ w1.heap.size
 block : ∀ k, k < w.heap.size → k ≠ b → k ≠ m → w1.heap[k]? = w.heap[k]?
theorem But.below {b m B : Nat} {wB w w1 : World} (h : But b m w w1) (hB : Below B wB w) (h1 : B ≤ b) (h2 : B ≤ m) (h3 : B ≤ w.heap.size) : Below B wB w1 :=
 ⟨h.os.trans hB.os, h.tape.trans hB.tape, h.output.trans hB.output, Nat.le_trans hB.size h.size, fun k hk => (h.block k (by omega) (by omega) (by omega)).trans (hB.block k hk)⟩
theorem but_below {b m : Nat} {w w1 : World} (h : bw w w1) : But b m w w1 := ⟨h.os, h.tape, h.output, h.size, fun k hk _ _ => h.block k hk⟩
theorem but_grown {b m : Nat} {w w1 : World} (h : w.grownBy w1 (some m)) : But b m w w1 := ⟨h.os, h.tape, h.output, h.size, fun k hk _ h2 => h.block k hk (by simpa using h2)⟩
theorem but_set (b m : Nat) (w : World) (k : Nat) (v : Value) : But b m w (w.setCell ⟨b, k, none⟩ v) := ⟨rfl, rfl, rfl, by simp [World.setCell], fun i _ h1 _ => Below.heap_setCell w ⟨b, k, none⟩ v i h1⟩
theorem But.trans {b m : Nat} {w w1 w2 : World} (h : But b m w w1) (h2 : But b m w1 w2) : But b m w w2 :=
 ⟨h2.os.trans h.os, h2.tape.trans h.tape, h2.output.trans h.output, Nat.le_trans h.size h2.size, fun k hk h3 h4 => (h2.block k (Nat.lt_of_lt_of_le hk h.size) h3 h4).trans (h.block k hk h3 h4)⟩
theorem Flx.but {b m : Nat} {w w1 : World} {ao : Option Addr} {ps : List F.Pc} (h : Flx b m w ao ps) (hb : But b m w w1) : Flx b m w1 ao ps := by
 obtain ⟨⟨h0, h1⟩, h2⟩ := h;refine ⟨⟨h0, ?_⟩, h2⟩
 rcases h1 with h1 | ⟨g, off, e, hg, hc⟩
 ·exact .inl h1
 ·rcases h2 with h2 | h2
  ·exact .inl h2
  ·obtain ⟨n1, n2⟩ := h2 _ e
   have hbl := hb.block g hg n1 n2;exact .inr ⟨g, off, e, Nat.lt_of_lt_of_le hg hb.size, fun k hk => ⟨(World.cell?_of_block (w := w) hbl).trans (hc k hk).1, (World.cell?_of_block (w := w) hbl).trans (hc k hk).2⟩⟩
theorem Txx.but {b m : Nat} {w w1 : World} {ao : Option Addr} {t : List ByteArray} (h : Txx b m w ao t) (hb : But b m w w1) : Txx b m w1 ao t := by
 obtain ⟨⟨h0, h1⟩, h2⟩ := h;refine ⟨⟨h0, ?_⟩, h2⟩
 rcases h1 with h1 | ⟨g, off, e, hg, hc⟩
 ·exact .inl h1
 ·rcases h2 with h2 | h2
  ·exact .inl h2
  ·obtain ⟨n1, n2⟩ := h2 _ e
   have hbl := hb.block g hg n1 n2;exact .inr ⟨g, off, e, Nat.lt_of_lt_of_le hg hb.size, fun k hk => (World.cell?_of_block (w := w) hbl).trans (hc k hk)⟩
theorem flx_of {b m : Nat} {w : World} {base : Nat} {v : Value} {ps : List F.Pc} (h : F.Own w base v ps) (hs : ∀ p ∈ ps, p.1.size ≤ maxLen) (hb : b < base) (hm : m < base) : ∃ ao cap, v = .slice ao ps.length cap ∧ Flx b m w ao ps := by
 obtain ⟨ao, cap, e, hf⟩ := F.Own.give h hs;refine ⟨ao, cap, e, hf, ?_⟩
 by_cases hn : ps = []
 ·exact .inl hn
 ·refine .inr fun a ha => ?_
  subst e;subst ha;have := (World.ownsRow.lt h a.block rfl).1;omega
theorem txx_of {b m : Nat} {w : World} {base : Nat} {v : Value} {t : List ByteArray} (h : OwnR encT w base v t) (hs : ∀ x ∈ t, x.size ≤ maxLen) (hb : b < base) (hm : m < base) : ∃ ao cap, v = .slice ao t.length cap ∧ Txx b m w ao t := by
 obtain ⟨ao, cap, e, hf⟩ := tx_of h hs;refine ⟨ao, cap, e, hf, ?_⟩
 by_cases hn : t = []
 ·exact .inl hn
 ·refine .inr fun a ha => ?_
  subst e;subst ha;have := (World.ownsRow.lt h a.block rfl).1;omega
abbrev fv (n : Nat) : Value := .func (.func n) #[] #[]
def Ddeeds : DataW Value := ((((((((((DataW.map []).put (.int .i64 5) (.held (fv 176))).put (.int .i64 6) (.held (fv 177))).put (.int .i64 7) (.held (fv 178))).put (.int .i64 8) (.held (fv 179))).put (.int .i64 9) (.held (fv 180))).put (.int .i64 11) (.held (fv 181))).put (.int .i64 12) (.held (fv 182))).put (.int .i64 13) (.held (fv 183))).put (.int .i64 14) (.held (fv 182)))
def DM (w : World) (md : Nat) : Prop := w.ownsMap Tryz.prog 3 RV md 9 Ddeeds
theorem DM.lt {w : World} {md : Nat} (h : DM w md) : md < w.heap.size := World.ownsMap.lt h
theorem DM.same {w w1 : World} {md : Nat} (h : DM w md) (hb : w1.heap[md]? = w.heap[md]?) : DM w1 md := by
 obtain ⟨es, clock, h1, h2⟩ := h;exact ⟨es, clock, hb.trans h1, h2⟩
abbrev bcs (ao : Option Addr) (cap : Nat) (l : List Sit) (md m : Nat) (cw : Option Addr × Nat × Nat) (s : Sta) (aoH : Option Addr) (capH : Nat) (aoT : Option Addr) (capT : Nat) : List Value :=
 [.slice ao l.length cap, .int .i64 ((tipsL l).length : Int), .int .i64 (tipM l), .map (some md), .map (some m), .slice cw.1 cw.2.1 cw.2.2, .bool s.tip, .slice aoH s.held.length capH, .slice aoT s.touched.length capT, .int .i64 s.used, .int .i64 s.heat, .int .i64 s.clock]
structure Bn (wB w : World) (ao : Option Addr) (cap : Nat) (l : List Sit) (b m md : Nat) (s : Sta) : Prop where
 dk : Dk wB ao cap l
 hd : dchk l = 0
 may : May l s
 below : bw wB w
 lb : wB.heap.size ≤ b ∧ wB.heap.size ≤ m ∧ wB.heap.size ≤ md
 ne : b ≠ m ∧ b ≠ md ∧ m ≠ md
 deeds : DM w md
 wells : ∃ wl, WM w m wl ∧ whp wl = s.wells ∧ ∀ x ∈ wl, Flx b m w x.2.1 x.2.2.2
 bk : ∃ cw aoH capH aoT capT, Bk b (bcs ao cap l md m cw s aoH capH aoT capT) w ∧ Flx b m w aoH s.held ∧ Txx b m w aoT s.touched
theorem Bn.next {wB w w1 : World} {ao : Option Addr} {cap : Nat} {l : List Sit} {b m md : Nat} {s : Sta} (h : Bn wB w ao cap l b m md s) (hb : bw w w1) : Bn wB w1 ao cap l b m md s := by
 obtain ⟨h1, h2, h3, h4, h5, h6, h7, ⟨wl, h8, h9, h10⟩, cw, aoH, capH, aoT, capT, h11, h12, h13⟩ := h;exact ⟨h1, h2, h3, h4.trans (hb.mono h4.size), h5, h6, h7.same (hb.block _ h7.lt), ⟨wl, h8.next hb, h9, fun x hx => (h10 x hx).next hb⟩, cw, aoH, capH, aoT, capT, h11.later hb, h12.next hb, h13.next hb⟩
theorem Bn.dkw {wB w : World} {ao : Option Addr} {cap : Nat} {l : List Sit} {b m md : Nat} {s : Sta} (h : Bn wB w ao cap l b m md s) : Dk w ao cap l := h.dk.next h.below
theorem Bn.turned {wB w w1 : World} {ao : Option Addr} {cap : Nat} {l : List Sit} {b m md : Nat} {s s' : Sta} (h : Bn wB w ao cap l b m md s) (hbut : But b m w w1) (hmay : May l s') {wl : List Wh} (hwm : WM w1 m wl) (hwl : whp wl = s'.wells) (hfl : ∀ x ∈ wl, Flx b m w1 x.2.1 x.2.2.2)
  {cw : Option Addr × Nat × Nat} {aoH : Option Addr} {capH : Nat} {aoT : Option Addr} {capT : Nat} (hbk : Bk b (bcs ao cap l md m cw s' aoH capH aoT capT) w1) (hh : Flx b m w1 aoH s'.held) (ht : Txx b m w1 aoT s'.touched) : Bn wB w1 ao cap l b m md s' :=
 ⟨h.dk, h.hd, hmay, hbut.below h.below h.lb.1 h.lb.2.1 h.below.size, h.lb, h.ne, h.deeds.same (hbut.block _ h.deeds.lt (fun e => h.ne.2.1 e.symm) (fun e => h.ne.2.2 e.symm)), ⟨wl, hwm, hwl, hfl⟩, cw, aoH, capH, aoT, capT, hbk, hh, ht⟩
theorem wf_place {l : List Sit} (hd : dchk l = 0) {p : Plc} (h : (wellM l p).2 = 0) : Wf3 p := by
 have := wellM_place hd h;unfold Wf3 Wf1;omega
theorem Bn.once {wB w : World} {ao : Option Addr} {cap : Nat} {l : List Sit} {b m md : Nat} {s : Sta} (h : Bn wB w ao cap l b m md s) {wl : List Wh} (hwl : whp wl = s.wells) : Once wl ∧ wl.length ≤ 4608 := by
 refine ⟨once_of (by rw [hwl]; exact h.may.rising), ?_⟩;have := wells_few h.hd h.may;rw [← hwl, whp_length] at this;exact this
def setH (wl : List Wh) (p : Plc) (f : F.Fd) : List Wh := if f.2.2 = [] then delH wl p else insH (p, f) (delH wl p)
theorem whp_setH (wl : List Wh) (p : Plc) (f : F.Fd) : whp (setH wl p f) = wset (whp wl) p f.2.2 := by
 unfold setH wset
 split
 ·exact whp_delH wl p
 ·rw [whp_insH, whp_delH]
theorem mem_setH {wl : List Wh} {p : Plc} {f : F.Fd} {x : Wh} (h : x ∈ setH wl p f) : x = (p, f) ∨ x ∈ wl := by
 unfold setH at h
 split at h
 ·exact .inr (mem_delH.1 h).1
 ·rcases mem_insH.1 h with h | h
  ·exact .inl h
  ·exact .inr (mem_delH.1 h).1
theorem grown_of {w w1 : World} {r : Option Nat} (h : bw w w1) : w.grownBy w1 r := ⟨h.os, h.tape, h.output, h.size, fun k hk _ => h.block k hk⟩
def kdV (b m : Nat) (p : Plc) (d : Nat) (v : Value) (_ : World) : Prop :=
 match d with
 | 9 | 10 => v = .pointer (some ⟨b, 0, none⟩)
 | 11 => v = .pointer (some ⟨b, 4, none⟩)
 | 12 => v = .map (some m)
 | 13 => v = .agg #[.int .i64 p.1, .int .i64 p.2.1, .int .i64 p.2.2]
 | _ => True
theorem kdV_mono (b m : Nat) (p : Plc) (d : Nat) (v : Value) (w w' : World) (h : kdV b m p d v w) (_ : bw w w') : kdV b m p d v w' := h
def kuV (b m : Nat) (p : Plc) (ao : Option Addr) (n cap : Nat) (d : Nat) (v : Value) (_ : World) : Prop :=
 match d with
 | 14 | 15 => v = .pointer (some ⟨b, 0, none⟩)
 | 16 => v = .pointer (some ⟨b, 4, none⟩)
 | 17 => v = .map (some m)
 | 18 => v = .agg #[.int .i64 p.1, .int .i64 p.2.1, .int .i64 p.2.2]
 | 19 => v = .slice ao n cap
 | _ => True
theorem kuV_mono (b m : Nat) (p : Plc) (ao : Option Addr) (n cap : Nat) (d : Nat) (v : Value) (w w' : World) (h : kuV b m p ao n cap d v w) (_ : bw w w') : kuV b m p ao n cap d v w' := h
theorem keep_any (b m : Nat) (u0 u1 u2 u3 u5 u6 u7 u8 u9 u10 u11 : Value) (wl : List Wh) (p : Plc) (ao : Option Addr) (cap : Nat) (f : List F.Pc) (w : World) (hK : Bk b [u0, u1, u2, u3, .map (some m), u5, u6, u7, u8, u9, u10, u11] w) (hW : WM w m wl) (ho : Once wl) (hl : wl.length ≤ 4608) (hp : Wf3 p) :
  Calls Tryz.prog 210 #[ptr b, plv p, .slice ao f.length cap] w fun e w' => e = .returned (.tuple #[]) ∧ WM w' m (setH wl p (ao, cap, f)) ∧ w.grownBy w' (some m) := by
 obtain ⟨w0, hw0⟩ : ∃ w0, w0 = w.alloc (pobj p) := ⟨_, rfl⟩;have b0 : bw w w0 := by rw [hw0]; exact (brf).alloc (Nat.le_refl _) _
 have HB : Hid (bw w w0) := b0;have KB : Hid (Bk b [u0, u1, u2, u3, .map (some m), u5, u6, u7, u8, u9, u10, u11] w0) := hK.later b0;have KP : Hid (Bk w.heap.size (pcl p) w0) := by show Bk _ _ _; rw [hw0]; exact Bk.new w (pcl p) 55 w.heap.size rfl
 have HWM : Hid (WM w0 m wl) := hW.next b0;have HON := hdd ho;have HL := hdd hl;have HP := hdd hp;have HW0 := hdd hw0;have HML : Hid (m < w.heap.size) := hW.lt;clear hK hW ho hl hp hw0 b0
 by_cases hf : f = []
 ·have hf2 := len0_true hf
  have HQ : Hid (setH wl p (ao, cap, f) = delH wl p) := if_pos hf;clear hf
  go_enter Tryz.func210, Tryz.ntmps210
  go_wp2_with fail
  rename_i KK hkk;have HKK := (show Hid _ from hkk);clear hkk;rw [← HW0.out]
  refine region_seq 5 [zf,zf,zf,zf,zf,zf,zf,zf,zf,zt,zt,zt,zt,zt,zf,zf,zf,zf,zf,zf]
   [(9, [], none), (10, [9], none), (11, [10], none), (12, [11], none), (13, [], none)]
   (kdV b m p) (by kernel_rfl) (by kernel_rfl) (by kernel_rfl) (by kernel_rfl) (by kernel_rfl) (by decide) (kdV_mono b m p) ?_ ?_
  ·refine ⟨?_, ?_, ?_, ?_, ?_, trivial⟩
   ·intro f w1 hb _ K hK
    simp only [over, overL];go_simp;exact hK _ _ ⟨_, rfl, by simp only [over, overL]; rfl, brf⟩
   ·rintro f w1 hb ⟨(h9 : f 9 = _), _⟩ K hK
    simp only [over, overL, h9];go_simp;exact hK _ _ ⟨_, rfl, by simp only [over, overL, h9]; rfl, brf⟩
   ·rintro f w1 hb ⟨(h10 : f 10 = _), _⟩ K hK
    simp only [over, overL, h10];go_simp;exact hK _ _ ⟨_, rfl, by simp only [over, overL, h10]; rfl, brf⟩
   ·rintro f w1 hb ⟨(h11 : f 11 = _), _⟩ K hK
    have q4 := (KB.out.later hb).c 4 rfl;simp only [over, overL, h11];go_simp;exact hK _ _ ⟨_, rfl, by simp only [over, overL, h11]; rfl, brf⟩
   ·intro f w1 hb _ K hK
    have q0 := (KP.out.later hb).c 0 rfl;have q1 := (KP.out.later hb).c 1 rfl;have q2 := (KP.out.later hb).c 2 rfl;simp only [over, overL];go_simp;exact hK _ _ ⟨_, rfl, by simp only [over, overL]; rfl, brf⟩
  intro f w1 hb hv;have h12 : f 12 = _ := hv.2.2.2.1;have h13 : f 13 = _ := hv.2.2.2.2.1;obtain ⟨D, hown, hrd⟩ := HWM.out.next hb;have HRD : Hid (Reads (D.del (klP p)) (delH wl p)) := reads_del hrd HON.out HP.out;have HB1 := hdd (HB.out.trans (hb.mono HB.out.size));clear hv hrd hb;simp only [List.drop, over, overL, h12, h13]
  go_wp2_with (first | (at_delete; refine wpList_delete_own _ rfl _ _ 201 55 rfl 70 lawP Tryz.underlying201 RV m (Maps.size D) D rfl hown _ _ rfl (keyP_some HP.out) ?_; intro w2 hown1 hturn1) | go_in)
  have HWM2 : Hid (WM w2 m (delH wl p)) := ⟨_, own_tight hown1, HRD.out⟩;have HG : Hid (w.grownBy w2 (some m)) := (grown_of HB1.out).trans hturn1.grown;clear hown hown1 hturn1 h12 h13;refine HKK.out _ _ ?_;go_wp2
  (try simp only [Exit.inBlock, Exit.then])
  refine bodyPost_ret (results_none rfl _ _ _) rfl ?_;exact ⟨rfl, by rw [HQ.out]; exact HWM2.out, HG.out⟩
 ·have hf2 := len0_false hf
  have HQ : Hid (setH wl p (ao, cap, f) = insH (p, (ao, cap, f)) (delH wl p)) := if_neg hf;clear hf;generalize hfl : f.length = n at *;have HFL := hdd hfl;clear hfl
  go_enter Tryz.func210, Tryz.ntmps210
  go_wp2_with fail
  rw [← HW0.out]
  refine region_seq 6 [zf,zf,zf,zf,zf,zf,zf,zf,zf,zf,zf,zf,zf,zf,zt,zt,zt,zt,zt,zt]
   [(14, [], none), (15, [14], none), (16, [15], none), (17, [16], none), (18, [], none), (19, [], none)]
   (kuV b m p ao n cap) (by kernel_rfl) (by kernel_rfl) (by kernel_rfl) (by kernel_rfl) (by kernel_rfl) (by decide) (kuV_mono b m p ao n cap) ?_ ?_
  ·refine ⟨?_, ?_, ?_, ?_, ?_, ?_, trivial⟩
   ·intro f w1 hb _ K hK
    simp only [over, overL];go_simp;exact hK _ _ ⟨_, rfl, by simp only [over, overL]; rfl, brf⟩
   ·rintro f w1 hb ⟨(h14 : f 14 = _), _⟩ K hK
    simp only [over, overL, h14];go_simp;exact hK _ _ ⟨_, rfl, by simp only [over, overL, h14]; rfl, brf⟩
   ·rintro f w1 hb ⟨(h15 : f 15 = _), _⟩ K hK
    simp only [over, overL, h15];go_simp;exact hK _ _ ⟨_, rfl, by simp only [over, overL, h15]; rfl, brf⟩
   ·rintro f w1 hb ⟨(h16 : f 16 = _), _⟩ K hK
    have q4 := (KB.out.later hb).c 4 rfl;simp only [over, overL, h16];go_simp;exact hK _ _ ⟨_, rfl, by simp only [over, overL, h16]; rfl, brf⟩
   ·intro f w1 hb _ K hK
    have q0 := (KP.out.later hb).c 0 rfl;have q1 := (KP.out.later hb).c 1 rfl;have q2 := (KP.out.later hb).c 2 rfl;simp only [over, overL];go_simp;exact hK _ _ ⟨_, rfl, by simp only [over, overL]; rfl, brf⟩
   ·intro f w1 hb _ K hK
    simp only [over, overL];go_simp;exact hK _ _ ⟨_, rfl, by simp only [over, overL]; rfl, brf⟩
  intro f' w1 hb hv;have h17 : f' 17 = _ := hv.2.2.2.1;have h18 : f' 18 = _ := hv.2.2.2.2.1;have h19 : f' 19 = _ := hv.2.2.2.2.2.1;obtain ⟨D, hown, hrd⟩ := HWM.out.next hb
  have HRD : Hid (Reads (D.put (klP p) (.held (.slice ao n cap))) (insH (p, (ao, cap, f)) (delH wl p))) := by
   have := reads_put (x := (p, (ao, cap, f))) hrd HON.out HP.out;simp only [hdv] at this;rw [HFL.out] at this;exact this
  have HB1 := hdd (HB.out.trans (hb.mono HB.out.size));have hsz : Maps.size D < maxLen := by rw [hrd.size]; have := HL.out; unfold maxLen; omega
  clear hv hrd hb;simp only [List.drop, over, overL, h17, h18, h19]
  go_wp2_with (first | (at_mapUpdate; refine wpList_mapUpdate_own _ rfl _ _ _ 201 rfl 55 70 lawP Tryz.underlying201 RV m (Maps.size D) D rfl hown hsz _ _ _ rfl rfl (keyP_some HP.out) (.held (.slice ao n cap)) [] rfl ?_; intro w2 hown1 hg1) | go_in)
  have HWM2 : Hid (WM w2 m (insH (p, (ao, cap, f)) (delH wl p))) := ⟨_, own_tight hown1, HRD.out⟩;have HG : Hid (w.grownBy w2 (some m)) := (grown_of HB1.out).trans hg1;clear hown hown1 hg1 h17 h18 h19 hsz
  go_end0
  exact ⟨rfl, by rw [HQ.out]; exact HWM2.out, HG.out⟩
end Go.Proofs.YtcajifelbldjnaaGreatDoor
namespace Go.Proofs.YtcajifelbldjnaaGreatDoor
open Go.RowKit
def cx (n : Int) : Int := (n - 1) % 3 * 137500
def cy (n : Int) : Int := (n - 1) / 3 * 95500
theorem cx_in {n : Int} : 0 ≤ cx n ∧ cx n ≤ 275000 := by unfold cx; omega
theorem cy_in {n : Int} (h : 1 ≤ n) (h2 : n ≤ 12) : 0 ≤ cy n ∧ cy n ≤ 286500 := by unfold cy; omega
theorem slot_cases {n : Int} (h : 1 ≤ n) (h2 : n ≤ 12) : n = 1 ∨ n = 2 ∨ n = 3 ∨ n = 4 ∨ n = 5 ∨ n = 6 ∨ n = 7 ∨ n = 8 ∨ n = 9 ∨ n = 10 ∨ n = 11 ∨ n = 12 := by omega
theorem corner_any (n : Int) (w : World) (h : 1 ≤ n) (h2 : n ≤ 12) :
  CR 175 #[.int .i64 n] w (.agg #[.int .i64 (cx n), .int .i64 (cy n), .int .i64 0]) := by
 have h0 : 0 ≤ n - 1 := by omega
 rcases slot_cases h h2 with e | e | e | e | e | e | e | e | e | e | e | e
 all_goals
  subst e
  go_enter Tryz.func175, Tryz.ntmps175
  go_wp2
  refine bodyPost_ret (v := .agg #[.int .i64 (cx _), .int .i64 (cy _), .int .i64 0]) (by simp [results, Tryz.results175, go_sem, cx, cy]; try decide) rfl ⟨rfl, (brf).alloc (Nat.le_refl _) _⟩
theorem added_any (x y z x' y' z' : Int) (w : World) (h : ∀ n ∈ [x, y, z, x', y', z'], 0 ≤ n ∧ n ≤ 1000000000000) :
  CR 174 #[.agg #[.int .i64 x, .int .i64 y, .int .i64 z], .agg #[.int .i64 x', .int .i64 y', .int .i64 z']] w (.agg #[.int .i64 (x + x'), .int .i64 (y + y'), .int .i64 (z + z')]) := by
 have h0 := h x (by simp);have h1 := h y (by simp);have h2 := h z (by simp);have h3 := h x' (by simp);have h4 := h y' (by simp);have h5 := h z' (by simp);clear h
 go_enter Tryz.func174, Tryz.ntmps174
 go_wp2;refine bodyPost_ret (v := .agg #[.int .i64 (x + x'), .int .i64 (y + y'), .int .i64 (z + z')]) (by simp [results, Tryz.results174, go_sem]) rfl ⟨rfl, (((brf).alloc (Nat.le_refl _) _).alloc (by simp) _).alloc (by simp; omega) _⟩
abbrev pto (x y z : Int) : Obj := .cells #[.int .i64 x, .int .i64 y, .int .i64 z] 31
abbrev ptv (x y z : Int) : Value := .agg #[.int .i64 x, .int .i64 y, .int .i64 z]
end Go.Proofs.YtcajifelbldjnaaGreatDoor
