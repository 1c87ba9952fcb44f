import Derived.Test.YtcajifelbldjnaaGreatDoorHg
import Derived.ProofKit
import Derived.OpenShut
import Derived.ShutString
import Derived.SizedLaws
import Derived.Deep.SlicePairs
import Derived.Deep.Strs
import Derived.Lib.SmallJoins
import Derived.Test.YtcajifelbldjnaaGreatDoorHk
import Derived.OwnWalkIn
import Derived.TacticsInMore
import Derived.LoopNIn
import Derived.LoopIn
import Derived.Shelf.Abstract
set_option maxRecDepth 100000
set_option maxHeartbeats 25600000
set_option linter.unusedVariables false
namespace Go.Proofs.YtcajifelbldjnaaGreatDoor
open Go.ChangeShapes Go.WideShapes Go.ChangeAt Go.RowKit Go.Joins Go.Deep
open Go.ChangeMaps (open_string shut_string)
theorem Tryz.cells84 : Tryz.prog.cellsOf 84 = 12 := by kernel_rfl
theorem Tryz.cells9 : Tryz.prog.cellsOf 9 = 1 := by kernel_rfl
theorem Tryz.cells3 : Tryz.prog.cellsOf 3 = 1 := by kernel_rfl
theorem list12 {α : Type} {l : List α} (h : l.length = 12) : ∃ c0 c1 c2 c3 c4 c5 c6 c7 c8 c9 c10 c11, l = [c0, c1, c2, c3, c4, c5, c6, c7, c8, c9, c10, c11] := by
 match l, h with
 | [c0, c1, c2, c3, c4, c5, c6, c7, c8, c9, c10, c11], _ => exact ⟨c0, c1, c2, c3, c4, c5, c6, c7, c8, c9, c10, c11, rfl⟩
def wd {H : Type} (a : Wr) : DataW H := .agg [.lit (.string a.name.data.toList), .lit (.int .i64 a.kind), .lit (.int .i64 a.rows), .lit (.int .i64 a.cols), .lit (.int .i64 a.x), .lit (.int .i64 a.y), .lit (.int .i64 a.pitch), .lit (.int .i64 a.wid), .lit (.int .i64 a.len), .lit (.int .i64 a.hei), .lit (.int .i64 a.deep), .lit (.int .i64 a.cap)]
def WrOk (a : Wr) : Prop := a.name.size ≤ maxLen ∧ (Lit.int .i64 a.kind).wf = true ∧ (Lit.int .i64 a.rows).wf = true ∧ (Lit.int .i64 a.cols).wf = true ∧ (Lit.int .i64 a.x).wf = true ∧ (Lit.int .i64 a.y).wf = true ∧ (Lit.int .i64 a.pitch).wf = true ∧ (Lit.int .i64 a.wid).wf = true ∧ (Lit.int .i64 a.len).wf = true ∧ (Lit.int .i64 a.hei).wf = true ∧ (Lit.int .i64 a.deep).wf = true ∧ (Lit.int .i64 a.cap).wf = true
open Go.ChangeShapes Go.WideShapes Go.ChangeAt Go.RowKit Go.Joins Go.Deep
open Go.ChangeMaps (open_string shut_string)
theorem Tryz.cells86 : Tryz.prog.cellsOf 86 = 14 := by kernel_rfl
theorem list14 {α : Type} {l : List α} (h : l.length = 14) : ∃ c0 c1 c2 c3 c4 c5 c6 c7 c8 c9 c10 c11 c12 c13, l = [c0, c1, c2, c3, c4, c5, c6, c7, c8, c9, c10, c11, c12, c13] := by
 match l, h with
 | [c0, c1, c2, c3, c4, c5, c6, c7, c8, c9, c10, c11, c12, c13], _ => exact ⟨c0, c1, c2, c3, c4, c5, c6, c7, c8, c9, c10, c11, c12, c13, rfl⟩
def sd {H : Type} (s : Sit) : DataW H := .agg [.lit (.int .i64 s.slot), wd s.ware, .lit (.string s.name.data.toList)]
section
variable {H : Type} {enc : TypeId × Value → H} {W : World} {sp : Nat → Bool}
theorem trod_ware {fuel : Nat} {c0 c1 c2 c3 c4 c5 c6 c7 c8 c9 c10 c11 : Value} {y : DataW H × List MemPlace} (hf : DataW.trod enc Tryz.prog W 0 sp true fuel 84 [c0, c1, c2, c3, c4, c5, c6, c7, c8, c9, c10, c11] = some y) :
  ∃ a : Wr, [c0, c1, c2, c3, c4, c5, c6, c7, c8, c9, c10, c11] = (wcs a).toList ∧ y = (wd a, []) ∧ WrOk a := by
 obtain ⟨xs, n, _, hx, _, hlen, hg⟩ := DataW.trod_struct Tryz.underlying84 hf;obtain ⟨y0, y1, y2, y3, y4, y5, y6, y7, y8, y9, y10, y11, rfl⟩ := list12 (l := xs) (by simpa using hlen);have g0 : DataW.trod enc Tryz.prog W 0 sp true n 9 [c0] = some y0 := by have := hg 0 _ rfl; simpa [Tryz.cells9] using this
 have g1 : DataW.trod enc Tryz.prog W 0 sp true n 3 [c1] = some y1 := by have := hg 1 _ rfl; simpa [Tryz.cells3] using this
 have g2 : DataW.trod enc Tryz.prog W 0 sp true n 3 [c2] = some y2 := by have := hg 2 _ rfl; simpa [Tryz.cells3] using this
 have g3 : DataW.trod enc Tryz.prog W 0 sp true n 3 [c3] = some y3 := by have := hg 3 _ rfl; simpa [Tryz.cells3] using this
 have g4 : DataW.trod enc Tryz.prog W 0 sp true n 3 [c4] = some y4 := by have := hg 4 _ rfl; simpa [Tryz.cells3] using this
 have g5 : DataW.trod enc Tryz.prog W 0 sp true n 3 [c5] = some y5 := by have := hg 5 _ rfl; simpa [Tryz.cells3] using this
 have g6 : DataW.trod enc Tryz.prog W 0 sp true n 3 [c6] = some y6 := by have := hg 6 _ rfl; simpa [Tryz.cells3] using this
 have g7 : DataW.trod enc Tryz.prog W 0 sp true n 3 [c7] = some y7 := by have := hg 7 _ rfl; simpa [Tryz.cells3] using this
 have g8 : DataW.trod enc Tryz.prog W 0 sp true n 3 [c8] = some y8 := by have := hg 8 _ rfl; simpa [Tryz.cells3] using this
 have g9 : DataW.trod enc Tryz.prog W 0 sp true n 3 [c9] = some y9 := by have := hg 9 _ rfl; simpa [Tryz.cells3] using this
 have g10 : DataW.trod enc Tryz.prog W 0 sp true n 3 [c10] = some y10 := by have := hg 10 _ rfl; simpa [Tryz.cells3] using this
 have g11 : DataW.trod enc Tryz.prog W 0 sp true n 3 [c11] = some y11 := by have := hg 11 _ rfl; simpa [Tryz.cells3] using this
 obtain ⟨s, e0, z0, hs⟩ := DataW.trod_string Tryz.underlying9 g0;obtain ⟨a1, e1, z1, w1⟩ := DataW.trod_int Tryz.underlying3 g1;obtain ⟨a2, e2, z2, w2⟩ := DataW.trod_int Tryz.underlying3 g2;obtain ⟨a3, e3, z3, w3⟩ := DataW.trod_int Tryz.underlying3 g3;obtain ⟨a4, e4, z4, w4⟩ := DataW.trod_int Tryz.underlying3 g4;obtain ⟨a5, e5, z5, w5⟩ := DataW.trod_int Tryz.underlying3 g5;obtain ⟨a6, e6, z6, w6⟩ := DataW.trod_int Tryz.underlying3 g6;obtain ⟨a7, e7, z7, w7⟩ := DataW.trod_int Tryz.underlying3 g7;obtain ⟨a8, e8, z8, w8⟩ := DataW.trod_int Tryz.underlying3 g8;obtain ⟨a9, e9, z9, w9⟩ := DataW.trod_int Tryz.underlying3 g9;obtain ⟨a10, e10, z10, w10⟩ := DataW.trod_int Tryz.underlying3 g10;obtain ⟨a11, e11, z11, w11⟩ := DataW.trod_int Tryz.underlying3 g11;simp only [List.cons.injEq, and_true] at e0 e1 e2 e3 e4 e5 e6 e7 e8 e9 e10 e11;subst e0 e1 e2 e3 e4 e5 e6 e7 e8 e9 e10 e11 z0 z1 z2 z3 z4 z5 z6 z7 z8 z9 z10 z11;simp only [List.map_cons, List.map_nil, List.flatMap_cons, List.flatMap_nil, List.append_nil] at hx;exact ⟨⟨s, a1, a2, a3, a4, a5, a6, a7, a8, a9, a10, a11⟩, rfl, hx, hs, w1, w2, w3, w4, w5, w6, w7, w8, w9, w10, w11⟩
theorem trod_seat {n : Nat} {cs : List Value} {y : DataW H × List MemPlace} (h : DataW.trod enc Tryz.prog W 0 sp true n 86 cs = some y) :
  ∃ s : Sit, cs = (scs s).toList ∧ y = (sd s, []) ∧ SOk s := by
 obtain ⟨y0, y1, y2, m, rfl, hl, h0, h1, h2⟩ := trod_struct3 Tryz.underlying86 h;obtain ⟨c0, c1, c2, c3, c4, c5, c6, c7, c8, c9, c10, c11, c12, c13, rfl⟩ := list14 (l := cs) (hl.trans Tryz.cells86);have g0 : DataW.trod enc Tryz.prog W 0 sp true m 3 [c0] = some y0 := by simpa [Tryz.cells3] using h0
 have g1 : DataW.trod enc Tryz.prog W 0 sp true m 84 [c1, c2, c3, c4, c5, c6, c7, c8, c9, c10, c11, c12] = some y1 := by simpa [Tryz.cells84] using h1
 have g2 : DataW.trod enc Tryz.prog W 0 sp true m 9 [c13] = some y2 := by simpa [Tryz.cells9] using h2
 obtain ⟨a0, e0, z0, w0⟩ := DataW.trod_int Tryz.underlying3 g0;obtain ⟨a1, e1, z1, w1⟩ := trod_ware g1;obtain ⟨a2, e2, z2, w2⟩ := DataW.trod_string Tryz.underlying9 g2;simp only [List.cons.injEq, and_true] at e0 e1 e2;obtain ⟨u0, u1, u2, u3, u4, u5, u6, u7, u8, u9, u10, u11⟩ := e1;subst e0 e2 z0 z1 z2 u0 u1 u2 u3 u4 u5 u6 u7 u8 u9 u10 u11;exact ⟨⟨a0, a1, a2⟩, rfl, rfl, w1.1, w2⟩
end
theorem open_seats {H : Type} {enc : TypeId × Value → H} {W : World} {base : Nat} {v : Value} {d : DataW H} {p : List MemPlace} (hv : Value.okWide Tryz.prog W .any base 22 v)
  (h : DataW.Trod enc Tryz.prog W 0 (fun _ => true) true 22 v d p) (hlt : ∀ x ∈ p, x.block < W.heap.size) :
  ∃ ao ps cap, v = .slice ao ps.length cap ∧ Sts W ao ps ∧ ps.length ≤ cap ∧ ps.length ≤ 9223372036854775807 ∧ (∀ s ∈ ps, SOk s) := by
 obtain ⟨a0, len, cap, rfl⟩ := okWide_slice Tryz.underlying22 hv;obtain ⟨fuel, hf⟩ := h
 rcases open_slice Tryz.underlying22 hf with ⟨hcs, hx⟩ | ⟨a, len', cap', m, n, D, Pl, hcs, _, hl, hm, hmm, hx, hcell⟩
 ·simp [Value.cells] at hcs
  obtain ⟨rfl, rfl, rfl⟩ := hcs;exact ⟨none, [], 0, rfl, Sts.nil _ _, Nat.le_refl _, by decide, fun s hs => by simp at hs⟩
 ·simp [Value.cells] at hcs
  obtain ⟨rfl, rfl, rfl⟩ := hcs;simp only [Prod.mk.injEq] at hx;obtain ⟨rfl, rfl⟩ := hx;simp only [if_true] at hmm;subst hmm;rw [Tryz.cells86] at hcell
  have each : ∀ i, i < len → ∃ q : Sit, (∀ j u, (scs q).toList[j]? = some u → W.cell? (a.add (i * 14 + j)) = some u) ∧ SOk q := by
   intro i hi;obtain ⟨cs', h1, h2⟩ := hcell i (by omega);obtain ⟨_, hlen, hc⟩ := World.cells?_some h1;obtain ⟨q, rfl, _, hok⟩ := trod_seat h2;refine ⟨q, fun j u hj => ?_, hok⟩;have hj14 : j < 14 := (List.getElem?_eq_some_iff.1 hj).1;have e := hc j (by omega);rw [add_add] at e;rw [e]; exact hj
  haveI : Inhabited Sit := ⟨zSt⟩
  obtain ⟨q, hq⟩ := choose_lt each;have hle : len ≤ 9223372036854775807 := by unfold maxLen at hm; omega
  refine ⟨some a, (List.range len).map q, m, by simp, ?_, by simpa using hl, by simpa using hle, fun s hs => ?_⟩
  ·by_cases h0 : len = 0
   ·subst h0; exact .inl rfl
   ·obtain ⟨b, off, spot⟩ := a
    have hspot : spot = none := by simpa [Addr.add] using World.cell?_spot ((hq 0 (by omega)).1 0 _ rfl)
    subst hspot;have hbW : b < W.heap.size := hlt (.cell b off) (List.mem_append_left _ (MemPlace.mem_row.2 ⟨0, by rw [Tryz.cells86]; omega, by simp⟩));refine .inr ⟨b, off, rfl, fun k hk => ?_⟩;have hk' : k < len := by simpa using hk
    have hc := (hq k hk').1;simp only [List.getElem_map, List.getElem_range]
    have e : ∀ j u, (scs (q k)).toList[j]? = some u → W.cell? ⟨b, off + k * 14 + j, none⟩ = some u := fun j u hj => by
     have := hc j u hj;rw [add_plain, ← Nat.add_assoc] at this;exact this
    exact ⟨hbW, e 0 _ rfl, e 1 _ rfl, e 2 _ rfl, e 3 _ rfl, e 4 _ rfl, e 5 _ rfl, e 6 _ rfl, e 7 _ rfl, e 8 _ rfl, e 9 _ rfl, e 10 _ rfl, e 11 _ rfl, e 12 _ rfl, e 13 _ rfl⟩
  ·obtain ⟨i, hi, rfl⟩ := List.mem_map.1 hs
   exact (hq i (List.mem_range.1 hi)).2
end Go.Proofs.YtcajifelbldjnaaGreatDoor
namespace Go.Proofs.YtcajifelbldjnaaGreatDoor.K
open Go.RowKit
section
variable {P : Program} {Q : Exit → Act → World → Prop} {a : Act} {m : List Bool} {V : Nat → Value → World → Prop} {w0 : World} {ops : Array Oper} {plan : Plan} {k n L : Nat}
theorem seq_stepI (hdf : noDefer ops = true) (hmono : ∀ d v w w', V d v w → bw w w' → V d v w') (hnd : nodupB (plan.map (·.1)) = true) (hall : planAll ops m a.tmps.size (ops.toList.take k) plan = true) (hob : Obls P Q a m V w0 (ops.toList.take k) plan)
  {listed : Array Bool} {i : Nat} (hik : i < k) (hsu : ∀ j, k ≤ j → listed[j]? ≠ some true) (hi : i ∈ Region.ready .any ops listed) {a' : Act} {w : World} (h : Inv a m V w0 ops listed a' w) :
  wpOpIn (Fence.wide.inRound L) n P ops Q i (fun a2 w2 => Inv a m V w0 ops (listed.setIfInBounds i true) a2 w2) a' w := by
 obtain ⟨hlt, hun, hpre⟩ := ready_pre hi;obtain ⟨o, ho⟩ : ∃ o, ops[i]? = some o := ⟨ops[i], by simp [hlt]⟩;have hpre := hpre o ho;have hoL : (ops.toList.take k)[i]? = some o := by rw [List.getElem?_take, if_pos hik]; simpa using ho
 obtain ⟨p, hp, h1⟩ := planAll_at hall hoL;have hO := obls_at hob hoL hp;simp only [planOne, Bool.and_eq_true] at h1;obtain ⟨⟨⟨⟨hd, hm⟩, hdn⟩, hps⟩, hg⟩ := h1;have hd' : o.dst = some p.1 := by simpa using hd
 have hm' := getD_true hm;obtain ⟨f, rfl, hb, hV⟩ := h
 have hav : ∀ l : List Nat, (∀ d ∈ l, d ∈ p.2.1) → AllV V f w l := by
  intro l
  induction l with
  | nil => intro _; trivial
  | cons d l ih =>
   intro hl;refine ⟨?_, ih fun x hx => hl x (by simp [hx])⟩;have h2 := List.all_eq_true.1 hps d (hl d (by simp));obtain ⟨e, he, h3⟩ := Array.any_eq_true'.1 h2;simp only [Bool.and_eq_true] at h3;have h5 : (ops[e.on]?).bind (·.dst) = some d := by simpa using h3.2
   obtain ⟨oe, hoe, hde⟩ := Option.bind_eq_some_iff.1 h5;exact hV e.on oe d hoe hde (hpre e he h3.1)
 have hav := hav p.2.1 fun _ h => h
 have hfin : ∀ v w2, V p.1 v w2 → bw w w2 → Inv a m V w0 ops (listed.setIfInBounds i true) ((ov a m f).put (some p.1) v) w2 := by
  intro v w2 hv hb2;refine ⟨upd f p.1 v, over_put a m f p.1 v hm', hb.trans (hb2.mono hb.size), ?_⟩;intro j oj d hj hdj hlj
  by_cases e : j = i
  ·subst e
   rw [ho] at hj; cases hj;rw [hd'] at hdj; cases hdj;rw [upd_same]; exact hv
  ·have hlj2 : listed[j]? = some true := by simpa [Array.getElem?_setIfInBounds, Ne.symm e] using hlj
   have hjk : j < k := by
    by_cases h : j < k
    ·exact h
    ·exact absurd hlj2 (hsu j (by omega))
   have hne : d ≠ p.1 := by
    intro e2; subst e2;obtain ⟨pj, hpj, h1j⟩ := planAll_at hall (i := j) (o := oj) (by rw [List.getElem?_take, if_pos hjk]; simpa using hj);simp only [planOne, Bool.and_eq_true] at h1j;have hdj2 : oj.dst = some pj.1 := by simpa using h1j.1.1.1.1
    rw [hdj] at hdj2;refine e (nodup_at hnd (i := j) (j := i) (d := p.1) ?_ ?_)
    ·simp only [List.getElem?_map, hpj, Option.map_some, Option.some.injEq]; exact (Option.some.inj hdj2).symm
    ·simp only [List.getElem?_map, hp, Option.map_some]
   rw [upd_other hne];exact hmono _ _ _ _ (hV j oj d hj hdj hlj2) hb2
 have hDoes : Does P Q a m V o p.1 f w → o.wp P (ov a m f) w (fun a2 w2 => Inv a m V w0 ops (listed.setIfInBounds i true) a2 w2) Q := fun hD =>
  hD _ fun a2 w2 ⟨v, hv, ha, hb2⟩ => by subst ha; exact hfin v w2 hv hb2
 have hO := hO f w hb hav;unfold wpOpIn;rw [ho];simp only
 cases hgo : o.guard with
 | none =>
  rw [hgo] at hg;have hw : Region.wanted o (yielded ops (ov a m f).tmps) = true := by simp [Region.wanted, hgo]
  rw [if_pos hw]
  cases hp2 : p.2.2 with
  | none => rw [hp2] at hO; exact oper_round L n (hDoes hO) (noDefer_at hdf ho)
  | some x => rw [hp2] at hg; simp at hg
 | some jb =>
  obtain ⟨j, b⟩ := jb;rw [hgo] at hg
  cases hp2 : p.2.2 with
  | none => rw [hp2] at hg; simp at hg
  | some sb =>
   obtain ⟨s, b'⟩ := sb;rw [hp2] at hg hO;simp only [Bool.and_eq_true] at hg;obtain ⟨⟨⟨hs, hbb⟩, hms⟩, hsn⟩ := hg;have hbb : b = b' := by simpa using hbb
   subst hbb;have hs : (ops[j]?).bind (·.dst) = some s := by simpa using hs
   have hgs : (ov a m f).tmps[s]? = some (f s) := by
    have := overL_at f m 0 s a.tmps.toList (getD_true hms) (by simpa using hsn)
    simpa [ov] using this
   have hy : yielded ops (ov a m f).tmps j = match f s with | .bool x => some x | _ => none := by
    unfold yielded;rw [hs];simp only [Option.bind_some, hgs]
    cases f s <;> rfl
   by_cases hw : f s = .bool b
   ·have : Region.wanted o (yielded ops (ov a m f).tmps) = true := by simp [Region.wanted, hgo, hy, hw]
    rw [if_pos this];exact oper_round L n (hDoes (hO.1 hw)) (noDefer_at hdf ho)
   ·have : ¬ Region.wanted o (yielded ops (ov a m f).tmps) = true := by
     simp only [Region.wanted, hgo, hy, beq_iff_eq]
     cases e : f s <;> simp
     rename_i x;intro e2; subst e2; exact hw e
    rw [if_neg this, hd'];exact ⟨fun _ _ => trivial, hfin _ _ (hO.2 hw) (brf)⟩
def StI (L n : Nat) (P : Program) (Q : Exit → Act → World → Prop) (a : Act) (m : List Bool) (V : Nat → Value → World → Prop) (w0 : World) (ops : Array Oper) (k : Nat) (listed : Array Bool) (a' : Act) (w : World) : Prop :=
 Closed ops listed ∧ (((∀ j, k ≤ j → listed[j]? ≠ some true) ∧ Inv a m V w0 ops listed a' w) ∨ ∃ i, k ≤ i ∧ (∀ j, j < ops.size → (listed[j]? = some true ↔ j < i)) ∧ wpListIn (Fence.wide.inRound L) n P ops Q (ops.toList.drop i) a' w)
theorem seq_anyI (hdf : noDefer ops = true) (hmono : ∀ d v w w', V d v w → bw w w' → V d v w') (hback : backB 0 ops.toList = true) (hnd : nodupB (plan.map (·.1)) = true) (hall : planAll ops m a.tmps.size (ops.toList.take k) plan = true) (hseq : seqB ops k = true) (hk : k ≤ ops.size)
  (hob : Obls P Q a m V w0 (ops.toList.take k) plan) (hsuf : ∀ f w, bw w0 w → AllP V f w plan → wpListIn (Fence.wide.inRound L) n P ops Q (ops.toList.drop k) (ov a m f) w) :
  ∀ (fuel : Nat) (listed : Array Bool) (a' : Act) (w : World), listed.size = ops.size → listed.toList.count false ≤ fuel → StI L n P Q a m V w0 ops k listed a' w → wpAnyIn (Fence.wide.inRound L) n P .any ops Q fuel listed a' w := by
 have hcov : ∀ {listed : Array Bool}, Closed ops listed → ∀ {i : Nat}, i ∈ Region.ready .any ops listed → k ≤ i → ∀ j, j < i → listed[j]? = some true := by
  intro listed hc i hi hki j hj;obtain ⟨hlt, _, hp⟩ := ready_pre hi;unfold seqB at hseq;have h1 := List.all_eq_true.1 hseq i (by simpa using hlt);rw [Bool.or_eq_true] at h1
  rcases h1 with h1 | h1
  ·simp at h1; omega
  ·exact covers_listed hc _ i j hp (List.all_eq_true.1 h1 j (by simpa using hj))
 have htoSuf : ∀ {listed : Array Bool} {a' : Act} {w : World}, Inv a m V w0 ops listed a' w → (∀ j, j < k → listed[j]? = some true) → wpListIn (Fence.wide.inRound L) n P ops Q (ops.toList.drop k) a' w := by
  rintro listed a' w ⟨f, rfl, hb, hV⟩ hl;refine hsuf f w hb (allP_of hall fun i o d ho hd => ?_)
  have hik : i < k := by
   by_cases h : i < k
   ·exact h
   ·rw [List.getElem?_take, if_neg h] at ho; cases ho
  rw [List.getElem?_take, if_pos hik] at ho;exact hV i o d (by simpa using ho) hd (hl i hik)
 have hend : ∀ (listed : Array Bool) (a' : Act) (w : World), listed.size = ops.size → StI L n P Q a m V w0 ops k listed a' w → Region.ready .any ops listed = [] → Q .normal a' w := by
  rintro listed a' w hsz ⟨_, h⟩ hr;have hal := all_listed hback hsz hr
  rcases h with ⟨hs, hI⟩ | ⟨i, hki, hl, hw⟩
  ·have hks : k = ops.size := by
    by_cases h : k < ops.size
    ·exact absurd (hal k h) (hs k (Nat.le_refl _))
    ·omega
   have := htoSuf hI fun j hj => hal j (by omega);rw [List.drop_eq_nil_of_le (by simp; omega)] at this;exact this
  ·have : ops.size ≤ i := by
    by_cases h : i < ops.size
    ·have := (hl i h).1 (hal i h); omega
    ·omega
   rw [List.drop_eq_nil_of_le (by simpa using this)] at hw;exact hw
 have hstepL : ∀ {listed : Array Bool} {a' : Act} {w : World} {i : Nat}, i < ops.size → k ≤ i → (∀ j, j < ops.size → (listed[j]? = some true ↔ j < i)) → Closed ops (listed.setIfInBounds i true) → listed.size = ops.size → wpListIn (Fence.wide.inRound L) n P ops Q (ops.toList.drop i) a' w →
   wpOpIn (Fence.wide.inRound L) n P ops Q i (fun a2 w2 => StI L n P Q a m V w0 ops k (listed.setIfInBounds i true) a2 w2) a' w := by
  intro listed a' w i hi hki hl hc hsz hw
  have hd : ops.toList.drop i = ops[i] :: ops.toList.drop (i + 1) := by
   rw [List.drop_eq_getElem_cons (by simpa using hi)]; simp
  have hnext : ∀ a2 w2, wpListIn (Fence.wide.inRound L) n P ops Q (ops.toList.drop (i + 1)) a2 w2 → StI L n P Q a m V w0 ops k (listed.setIfInBounds i true) a2 w2 := fun a2 w2 h =>
   ⟨hc, .inr ⟨i + 1, by omega, fun j hj => by
    rw [Array.getElem?_setIfInBounds]
    by_cases e : i = j
    ·subst e; rw [if_pos rfl, if_pos (by omega)]; simp
    ·rw [if_neg e, hl j hj]; omega, h⟩⟩
  rw [hd] at hw;unfold wpListIn at hw;unfold wpOpIn;rw [show ops[i]? = some ops[i] by simp [hi]];simp only
  split
  ·rename_i hwn
   rw [if_pos hwn] at hw;exact Oper.wpIn_mono hnext hw
  ·rename_i hwn
   rw [if_neg hwn] at hw;exact ⟨fun _ _ => trivial, hnext _ _ hw.2⟩
 intro fuel
 induction fuel with
 | zero =>
  intro listed a' w hsz hc hI
  have hr : Region.ready .any ops listed = [] := by
   rw [List.eq_nil_iff_forall_not_mem];intro i hi;obtain ⟨hlt, h1, _⟩ := ready_pre hi;have h0 : listed.toList.count false = 0 := by omega
   rw [List.count_eq_zero] at h0;have hlt2 : i < listed.size := by omega
   simp only [Array.getD_eq_getD_getElem?, Array.getElem?_eq_getElem hlt2, Option.getD_some] at h1;exact h0 (by rw [← h1]; simp)
  exact ⟨hr, hend listed a' w hsz hI hr⟩
 | succ fuel ih =>
  intro listed a' w hsz hc hI;refine ⟨hend listed a' w hsz hI, fun i hi => ?_⟩;have hrp := ready_pre hi;have hlt2 : i < listed.size := by omega
  have h1 := hrp.2.1;simp only [Array.getD_eq_getD_getElem?, Array.getElem?_eq_getElem hlt2, Option.getD_some] at h1
  have hcount : (listed.setIfInBounds i true).toList.count false ≤ fuel := by
   have hl : i < listed.toList.length := by simpa using hlt2
   have h2 : listed.toList[i] = false := by simpa using h1
   rw [Array.toList_setIfInBounds, List.count_set hl, h2];have hp : 0 < listed.toList.count false := List.count_pos_iff.2 (by rw [← h2]; exact List.getElem_mem _);rw [if_pos (by rfl), if_neg (by decide)];omega
  have hnl : listed[i]? ≠ some true := by rw [Array.getElem?_eq_getElem hlt2, h1]; simp
  refine wpOpIn_mono (K := fun a2 w2 => StI L n P Q a m V w0 ops k (listed.setIfInBounds i true) a2 w2) (fun a2 w2 h2 => ih _ _ _ (by simpa using hsz) hcount h2) ?_;obtain ⟨hcl, hS⟩ := hI;have hcl2 := closed_next hcl hi
  rcases hS with ⟨hsu, hI⟩ | ⟨i0, hki, hl, hw⟩
  ·by_cases hik : i < k
   ·refine wpOpIn_mono (fun a2 w2 h2 => ⟨hcl2, .inl ⟨fun j hj => ?_, h2⟩⟩) (seq_stepI hdf hmono hnd hall hob hik hsu hi hI)
    rw [Array.getElem?_setIfInBounds, if_neg (by omega)];exact hsu j hj
   ·have hlow := hcov hcl hi (by omega)
    have he : i = k := by
     by_cases h : i = k
     ·exact h
     ·exact absurd (hlow k (by omega)) (hsu k (Nat.le_refl _))
    subst he;refine hstepL hrp.1 (Nat.le_refl _) (fun j hj => ⟨fun h => ?_, fun h => hlow j h⟩) hcl2 hsz (htoSuf hI hlow)
    by_cases h2 : j < i
    ·exact h2
    ·exact absurd h (hsu j (by omega))
  ·have hge : i0 ≤ i := by
    by_cases h : i < i0
    ·exact absurd ((hl i hrp.1).2 h) hnl
    ·omega
   have hlow := hcov hcl hi (by omega)
   have he : i = i0 := by
    by_cases h : i = i0
    ·exact h
    ·have := (hl i0 (by omega)).1 (hlow i0 (by omega)); omega
   subst he;exact hstepL hrp.1 hki hl hcl2 hsz hw
theorem region_seqI {id : Nat} (hdf : noDefer ops = true) (k : Nat) (m : List Bool) (plan : Plan) (V : Nat → Value → World → Prop) (hmix : P.follows .mixedOrders = true) (hback : backB 0 ops.toList = true) (hnd : nodupB (plan.map (·.1)) = true) (hall : planAll ops m a.tmps.size (ops.toList.take k) plan = true)
  (hseq : seqB ops k = true) (hk : k ≤ ops.size) (hmono : ∀ d v w w', V d v w → bw w w' → V d v w') (hob : Obls P Q a m V w0 (ops.toList.take k) plan)
  (hsuf : ∀ f w, bw w0 w → AllP V f w plan → wpListIn (Fence.wide.inRound L) n P ops Q (ops.toList.drop k) (ov a m f) w) : (Code.region id ops true).wpIn (Fence.wide.inRound L) n P Q a w0 := by
 refine wpIn_region_any hmix (seq_anyI hdf hmono hback hnd hall hseq hk hob hsuf _ _ _ _ (by simp) (by simp) ⟨?_, .inl ⟨?_, fun k => (a.tmps.toList[k]?).getD undef, (over_start a m).symm, ⟨rfl, rfl, rfl, Nat.le_refl _, fun _ _ => rfl⟩, ?_⟩⟩)
 ·intro i o _ h
  simp [Array.getElem?_replicate] at h
 ·intro j _ h
  simp [Array.getElem?_replicate] at h
 ·intro i o d _ _ h
  simp [Array.getElem?_replicate] at h
end
def Gives (P : Program) (n g : Nat) (lb : Array Value) (xs : List Int) (It M : Nat → Prop) (l : Nat) (W : World) : Prop :=
 ∀ J Jx : Nat → World → Prop, (∀ s A B, J s A → Kpt It A B → J s B) → (∀ s A B, Jx s A → Kpt It A B → Jx s B) →
  (∀ k (h : k < xs.length) W1, J k W1 → W.heap.size ≤ W1.heap.size → YieldAt Fence.wide (n - 1) P l #[.int .i64 (xs[k]'h)] W1 fun e W' => (e = .returned (.bool true) ∧ J (k + 1) W' ∧ Kpt (fun k => M k ∨ k = l) W1 W') ∨ (e = .returned (.bool false) ∧ Jx (k + 1) W' ∧ Kpt (fun k => M k ∨ k = l) W1 W')) →
  J 0 W → CallsIn Fence.wide n P g (#[.func (.yield l) #[] #[]] ++ lb) W fun e W' => (∃ v, e = .returned v) ∧ (J xs.length W' ∨ ∃ k, k < xs.length ∧ Jx (k + 1) W')
theorem Gives.mono {P : Program} {n g : Nat} {lb : Array Value} {xs : List Int} {It It' M : Nat → Prop} {l : Nat} {W : World} (h : Gives P n g lb xs It M l W) (hi : ∀ k, It k → It' k) : Gives P n g lb xs It' M l W :=
 fun J Jx hJ hJx hY h0 => h J Jx (fun s A B a b => hJ s A B a (b.mono hi)) (fun s A B a b => hJx s A B a (b.mono hi)) hY h0
theorem room_wide0 (k : Nat) : Fence.wide.room k := fun d h => by cases h
theorem round_any {m m' : Nat} {P : Program} {l : Nat} {f : FuncId} {tmps : Array Value} {assign body : Code} {w : World} {R : Ending → World → Prop} (h : RoundIn Fence.wide m P l f tmps assign body w R) : RoundIn Fence.wide m' P l f tmps assign body w R :=
 ⟨h.1, fun c cs _ => h.2 c cs (room_wide0 _)⟩
theorem yield_any {m : Nat} (m' : Nat) {P : Program} {l : Nat} {args : Array Value} {W : World} {R : Ending → World → Prop} (h : YieldAt Fence.wide m P l args W R) : YieldAt Fence.wide m' P l args W R := by
 obtain ⟨fn, tmps, assign, body, hy, hR⟩ := h;exact ⟨fn, tmps, assign, body, hy, round_any hR⟩
section
variable {P : Program} {n : Nat}
theorem range_it {g : Operand} {ps : Array Tmp} {assign body : Code} {Q : Exit → Act → World → Prop} {a : Act} {w : World}
  {gf : Nat} {lb : Array Value} (hg : a.eval g = .func (.func gf) #[] lb) (eg : ∀ args w, (callFunc gf args).run P w = .ok (.enter gf args) w)
  (xs : List Int) (It M : Nat → Prop) (hps : ps.size = 1)
  (hseq : ∀ W, bw w W → W.heap.size = w.heap.size + 2 → Gives P (n - 1) gf lb xs It M (w.heap.size + 1) W)
  (hIt : ∀ k, It k → w.heap.size + 2 ≤ k) (hM0 : ¬ M w.heap.size) (hM1 : ¬ M (w.heap.size + 1))
  (I Ix : Nat → World → Prop) (hI : ∀ s A B, I s A → Kpt (fun k => k = w.heap.size + 1 ∨ It k) A B → I s B) (hIx : ∀ s A B, Ix s A → Kpt (fun k => k = w.heap.size + 1 ∨ It k) A B → Ix s B) (h0 : I 0 w)
  (a1 : Int → Act) (cx : Code) (ex : Exit) (hcx : (cx = .ret ∧ ex = .ret) ∨ ∃ id, cx = .exit id ∧ ex = .exit id)
  (hassign : ∀ (l : Nat) (x : Int) (W : World) (K : Act → World → Prop), K (a1 x) W →
   assign.wpIn (Fence.wide.inRound l) (n - 1 - 1) P (Exit.then K (fun _ _ _ => False)) { tmps := (ps.zip #[.int .i64 x]).foldl (fun t (p, v) => t.setIfInBounds p v) a.tmps, defers := [] } W)
  (hbody : ∀ (l k : Nat) (h : k < xs.length) (W : World), I k W → w.heap.size + 2 ≤ W.heap.size →
   body.wpIn (Fence.wide.inRound l) (n - 1 - 1) P (fun e _ W' => (e = .normal ∧ Kpt M W W' ∧ I (k + 1) W') ∨ (e = ex ∧ Kpt M W W' ∧ Ix (k + 1) W')) (a1 (xs[k]'h)) W)
  (hdone : ∀ W, I xs.length W → w.heap.size + 2 ≤ W.heap.size → W.heap[w.heap.size]? = some (.deferred (some [])) → Q .normal { a with defers := { target := .collected w.heap.size, args := #[] } :: a.defers } W)
  (hstop : ∀ k W, k < xs.length → Ix (k + 1) W → w.heap.size + 2 ≤ W.heap.size → W.heap[w.heap.size]? = some (.deferred (some [])) → cx.wpIn Fence.wide n P Q { a with defers := { target := .collected w.heap.size, args := #[] } :: a.defers } W) :
  (Code.rangeFunc g ps assign body).wpIn Fence.wide n P Q a w := by
 refine wpIn_rangeFunc ?_;intro fn hfn;have hIb : ∀ {s A B}, I s A → bw A B → I s B := fun h hb => hI _ _ _ h (Kpt.of_below hb);have hIl : ∀ {s A} (o : Obj), I s A → I s (A.putObj (w.heap.size + 1) o) := fun o h => hI _ _ _ h (Kpt.putObj _ _ _ _ (.inl rfl));have hXl : ∀ {s A} (o : Obj), Ix s A → Ix s (A.putObj (w.heap.size + 1) o) := fun o h => hIx _ _ _ h (Kpt.putObj _ _ _ _ (.inl rfl));obtain ⟨rec, hrec⟩ : ∃ rec : LoopState → Option Code → Loop, rec = fun st pe => { state := st, pending := pe, fn, tmps := a.tmps, params := ps, assign, body, defers := w.heap.size } := ⟨_, rfl⟩;obtain ⟨W1, hW1⟩ : ∃ W1, (w.alloc (.deferred (some []))).alloc (.loop (rec .ready none)) = W1 := ⟨_, rfl⟩;have hsz : W1.heap.size = w.heap.size + 2 := by rw [← hW1]; simp
 have hL1 : W1.heap[w.heap.size + 1]? = some (.loop (rec .ready none)) := by
  rw [← hW1]; have := World.alloc_heap_new (w.alloc (.deferred (some []))) (.loop (rec .ready none)); rwa [World.size_alloc] at this
 have hK1 : W1.heap[w.heap.size]? = some (.deferred (some [])) := by
  rw [← hW1]; exact (Below.heap_alloc _ _ _ (by simp)).trans (World.alloc_heap_new w _)
 have hb1 : bw w W1 := by rw [← hW1]; exact ((Below.refl _ w).alloc (Nat.le_refl _) _).alloc (by simp) _
 have hItn : ∀ {j}, j < w.heap.size + 2 → ¬ It j := fun hj e => by have := hIt _ e; omega
 refine ⟨w.heap.size + 1, [{ target := .collected w.heap.size, args := #[] }], W1, { target := .fn (.func gf) lb, args := #[.func (.yield (w.heap.size + 1)) #[] #[]] }, W1, gf,
  #[.func (.yield (w.heap.size + 1)) #[] #[]] ++ lb, W1, ?_, ?_, fun _ _ => trivial, ?_, fun hc => (by cases hc), ?_⟩
 ·rw [← hW1, hrec]; exact run_enterLoop_outer _ _ _ _ _
 ·simp only [resolve, hg]
  simp [go_sem]
 ·simp [invoke, go_sem, eg]
 ·refine (hseq W1 hb1 hsz (fun k W => I k W ∧ W.heap[w.heap.size + 1]? = some (.loop (rec .ready none)) ∧ W.heap[w.heap.size]? = some (.deferred (some [])) ∧ w.heap.size + 2 ≤ W.heap.size)
   (fun k W => Ix k W ∧ W.heap[w.heap.size + 1]? = some (.loop (rec .done (some cx))) ∧ W.heap[w.heap.size]? = some (.deferred (some [])) ∧ w.heap.size + 2 ≤ W.heap.size) ?_ ?_ ?_ ⟨hIb h0 hb1, hL1, hK1, by omega⟩).mono ?_
  ·rintro s A B ⟨h1, h2, h3, h4⟩ hAB
   exact ⟨hI _ _ _ h1 (hAB.mono fun _ e => .inr e), (hAB.block _ (by omega) (hItn (by omega))).trans h2, (hAB.block _ (by omega) (hItn (by omega))).trans h3, Nat.le_trans h4 hAB.size⟩
  ·rintro s A B ⟨h1, h2, h3, h4⟩ hAB
   exact ⟨hIx _ _ _ h1 (hAB.mono fun _ e => .inr e), (hAB.block _ (by omega) (hItn (by omega))).trans h2, (hAB.block _ (by omega) (hItn (by omega))).trans h3, Nat.le_trans h4 hAB.size⟩
  ·rintro k hkx W ⟨hi, hl, hk, hs⟩ hsize
   have hy := run_yield (P := P) (args := #[.int .i64 (xs[k]'hkx)]) hl (by rw [hrec]; exact hps.symm);rw [hrec] at hy;refine ⟨fn, _, assign, body, hy, roundIn_of_wpIn hfn (hassign _ _ W _ ?_)⟩;refine ⟨_, run_beginRound hl (by rw [hrec]), ?_⟩;obtain ⟨W3, hW3⟩ : ∃ W3, W.putObj (w.heap.size + 1) (.loop { rec .ready none with state := .busy }) = W3 := ⟨_, rfl⟩;rw [hW3];have k23 : Kpt (fun k => k = w.heap.size + 1) W W3 := by rw [← hW3]; exact Kpt.putObj _ _ _ _ rfl
   have hl3 : W3.heap[w.heap.size + 1]? = some (.loop { rec .ready none with state := .busy }) := by rw [← hW3]; exact World.putObj_heap_same (by omega)
   have hk3 : W3.heap[w.heap.size]? = some (.deferred (some [])) := (k23.block _ (by omega) (by omega)).trans hk;have hi3 : I k W3 := hI _ _ _ hi (k23.mono fun k e => .inl e);have hs3 : w.heap.size + 2 ≤ W3.heap.size := Nat.le_trans hs k23.size;refine wpIn_mono (hbody _ k hkx W3 hi3 hs3) ?_
   have fin : ∀ (jump : Option Code) (W4 : World), Kpt M W3 W4 →
     (Instr.endRound (w.heap.size + 1) jump).run P W4 = .ok (.bool jump.isNone) (W4.putObj (w.heap.size + 1) (.loop (rec (if jump.isNone then .ready else .done) jump))) ∧
     (W4.putObj (w.heap.size + 1) (.loop (rec (if jump.isNone then .ready else .done) jump))).heap[w.heap.size + 1]? = some (.loop (rec (if jump.isNone then .ready else .done) jump)) ∧
     (W4.putObj (w.heap.size + 1) (.loop (rec (if jump.isNone then .ready else .done) jump))).heap[w.heap.size]? = some (.deferred (some [])) ∧
     w.heap.size + 2 ≤ (W4.putObj (w.heap.size + 1) (.loop (rec (if jump.isNone then .ready else .done) jump))).heap.size ∧
     Kpt (fun k => M k ∨ k = w.heap.size + 1) W (W4.putObj (w.heap.size + 1) (.loop (rec (if jump.isNone then .ready else .done) jump))) := fun jump W4 k34 => by
    have hl4 : W4.heap[w.heap.size + 1]? = some (.loop { rec .ready none with state := .busy }) := (k34.block _ (by omega) hM1).trans hl3;have hk4 : W4.heap[w.heap.size]? = some (.deferred (some [])) := (k34.block _ (by omega) hM0).trans hk3;have hs4 : w.heap.size + 2 ≤ W4.heap.size := Nat.le_trans hs3 k34.size;have hend := run_endRound (P := P) jump hl4;rw [hrec] at hend ⊢;exact ⟨hend, World.putObj_heap_same (by omega), (World.putObj_heap_other (by omega)).trans hk4, by simpa using hs4, (k23.mono fun k e => .inr e).trans ((k34.mono fun k e => .inl e).trans (Kpt.putObj _ _ _ _ (.inr rfl)))⟩
   rintro e a4 W4 (⟨rfl, k34, hi4⟩ | ⟨rfl, k34, hi4⟩)
   ·obtain ⟨f1, f2, f3, f4, f5⟩ := fin none W4 k34
    exact ⟨_, _, f1, .inl ⟨rfl, ⟨hIl _ hi4, f2, f3, f4⟩, f5⟩⟩
   ·obtain ⟨f1, f2, f3, f4, f5⟩ := fin (some cx) W4 k34
    rcases hcx with ⟨rfl, rfl⟩ | ⟨id, rfl, rfl⟩
    ·exact ⟨_, _, f1, .inr ⟨rfl, ⟨hXl _ hi4, f2, f3, f4⟩, f5⟩⟩
    ·exact ⟨_, _, f1, .inr ⟨rfl, ⟨hXl _ hi4, f2, f3, f4⟩, f5⟩⟩
  ·rintro e W2 ⟨⟨v, rfl⟩, (⟨hi, hl, hk, hs⟩ | ⟨k, hP, hi, hl, hk, hs⟩)⟩
   ·exact ⟨none, _, by have := run_endLoop (P := P) hl (by rw [hrec]; simp); rw [hrec] at this; exact this, hdone _ (hIl _ hi) (by simpa using hs) ((World.putObj_heap_other (by omega)).trans hk)⟩
   ·exact ⟨some cx, _, by have := run_endLoop (P := P) hl (by rw [hrec]; simp); rw [hrec] at this; exact this, hstop k _ hP (hXl _ hi) (by simpa using hs) ((World.putObj_heap_other (by omega)).trans hk)⟩
end
structure Rp where
 c : Int
 f : Int
 m : Int
 r : Int
abbrev rv (r : Rp) : Value := .agg #[.int .i64 r.c, .int .i64 r.f, .int .i64 r.m, .int .i64 r.r]
abbrev ro (r : Rp) : Obj := .cells #[.int .i64 r.c, .int .i64 r.f, .int .i64 r.m, .int .i64 r.r] 33
abbrev rcl (r : Rp) : List Value := [.int .i64 r.c, .int .i64 r.f, .int .i64 r.m, .int .i64 r.r]
abbrev io (x : Int) : Obj := .cells #[.int .i64 x] 3
abbrev ptr (b : Nat) : Value := .pointer (some ⟨b, 0, none⟩)
def rpOk (r : Rp) : Bool := decide (1 ≤ r.f ∧ r.f ≤ r.m ∧ r.m ≤ r.c ∧ r.c ≤ 100000000 ∧ 0 ≤ r.r ∧ r.r ≤ 100000)
theorem rpOk_iff {r : Rp} : rpOk r = true ↔ 1 ≤ r.f ∧ r.f ≤ r.m ∧ r.m ≤ r.c ∧ r.c ≤ 100000000 ∧ 0 ≤ r.r ∧ r.r ≤ 100000 := by simp [rpOk]
theorem rpOk_no {r : Rp} (h : ¬ (1 ≤ r.f ∧ r.f ≤ r.m ∧ r.m ≤ r.c ∧ r.c ≤ 100000000 ∧ 0 ≤ r.r ∧ r.r ≤ 100000)) : rpOk r = false := by simp only [rpOk, decide_eq_false_iff_not]; exact h
theorem rpOk_yes {r : Rp} (h : 1 ≤ r.f ∧ r.f ≤ r.m ∧ r.m ≤ r.c ∧ r.c ≤ 100000000 ∧ 0 ≤ r.r ∧ r.r ≤ 100000) : rpOk r = true := rpOk_iff.2 h
theorem bk_kpt {M : Nat → Prop} {b : Nat} {cs : List Value} {w w1 : World} (h : Bk b cs w) (hk : Kpt M w w1) (hM : ¬ M b) : Bk b cs w1 := h.same hk.size (hk.block b h.1 hM)
def spA (r : Rp) (k : Nat) : Int := min (r.f + r.r * k) r.m
theorem mul_bd {r : Rp} (h : rpOk r = true) {k : Nat} (hk : k ≤ 20000) : 0 ≤ r.r * (k : Int) ∧ r.r * (k : Int) ≤ 2000000000 := by
 obtain ⟨_, _, _, _, h5, h6⟩ := rpOk_iff.1 h;refine ⟨Int.mul_nonneg h5 (by omega), ?_⟩;exact Int.le_trans (Int.mul_le_mul_of_nonneg_right h6 (by omega : (0 : Int) ≤ k)) (by omega)
theorem spA_bd {r : Rp} (h : rpOk r = true) {k : Nat} (hk : k ≤ 20000) : r.f ≤ spA r k ∧ spA r k ≤ r.m := by
 have := mul_bd h hk;have := rpOk_iff.1 h;unfold spA;omega
theorem isRamp_any (r : Rp) (w : World) :
  Calls Tryz.prog 264 #[rv r] w fun e w' => e = .returned (.bool (rpOk r)) ∧ w' = w.alloc (ro r) := by
 obtain ⟨c, f, m, x⟩ := r
 by_cases h1 : 1 ≤ f
 ·by_cases h2 : f ≤ m
  ·by_cases h3 : m ≤ c
   ·by_cases h4 : c ≤ 100000000
    ·by_cases h5 : 0 ≤ x
     ·by_cases h6 : x ≤ 100000
      ·go_enter Tryz.func264, Tryz.ntmps264
       go_wp2;go_ret;exact ⟨ret_bool (rpOk_yes (by simp only; omega)).symm, rfl⟩
      ·go_enter Tryz.func264, Tryz.ntmps264
       go_wp2;go_ret;exact ⟨ret_bool (rpOk_no (by simp only; omega)).symm, rfl⟩
     ·go_enter Tryz.func264, Tryz.ntmps264
      go_wp2;go_ret;exact ⟨ret_bool (rpOk_no (by simp only; omega)).symm, rfl⟩
    ·go_enter Tryz.func264, Tryz.ntmps264
     go_wp2;go_ret;exact ⟨ret_bool (rpOk_no (by simp only; omega)).symm, rfl⟩
   ·go_enter Tryz.func264, Tryz.ntmps264
    go_wp2;go_ret;exact ⟨ret_bool (rpOk_no (by simp only; omega)).symm, rfl⟩
  ·go_enter Tryz.func264, Tryz.ntmps264
   go_wp2;go_ret;exact ⟨ret_bool (rpOk_no (by simp only; omega)).symm, rfl⟩
 ·go_enter Tryz.func264, Tryz.ntmps264
  go_wp2;go_ret;exact ⟨ret_bool (rpOk_no (by simp only; omega)).symm, rfl⟩
def refR (r : Rp) (n : Int) : Int := if rpOk r = true then if 0 ≤ n ∧ n ≤ 20000 then 0 else 7 else 2
theorem refusal_any (r : Rp) (n : Int) (w : World) :
  CR 230 #[rv r, .int .i64 n] w (.int .i64 (refR r n)) := by
 have HC : Hid (∀ W, Calls Tryz.prog 264 #[rv r] W fun e w' => e = .returned (.bool (rpOk r)) ∧ w' = W.alloc (ro r)) := isRamp_any r;have HR : Hid (refR r n = if rpOk r = true then if 0 ≤ n ∧ n ≤ 20000 then 0 else 7 else 2) := rfl;have HB : Hid (bw w ((w.alloc (ro r)).alloc (ro r))) := ((brf).alloc (Nat.le_refl _) _).alloc (by simp) _
 go_enter Tryz.func230, Tryz.ntmps230
 go_wp2_with fail
 refine Calls.mono (HC.out _) ?_;rintro e w1 ⟨rfl, rfl⟩
 cases hok : rpOk r with
 | false =>
  rw [hok] at HR;go_wp2;go_ret;exact ⟨ret_int (by rw [HR.out]; simp), HB.out⟩
 | true =>
  rw [hok] at HR
  by_cases h0 : n < 0
  ·go_wp2
   go_ret;exact ⟨ret_int (by rw [HR.out, if_pos trivial, if_neg (by omega)]), HB.out⟩
  ·by_cases h1 : 20000 < n
   ·go_wp2
    go_ret;exact ⟨ret_int (by rw [HR.out, if_pos trivial, if_neg (by omega)]), HB.out⟩
   ·go_wp2
    go_ret;exact ⟨ret_int (by rw [HR.out, if_pos trivial, if_pos (by omega)]), HB.out⟩
theorem speedAt_any (r : Rp) (k : Nat) (hr : rpOk r = true) (hk : k ≤ 20000) (w : World) :
  Calls Tryz.prog 267 #[rv r, .int .i64 (k : Int)] w fun e w' => e = .returned (.int .i64 (spA r k)) ∧ w' = w.alloc (ro r) := by
 obtain ⟨hm0, hm1⟩ := mul_bd hr hk;obtain ⟨h1, h2, h3, h4, h5, h6⟩ := rpOk_iff.1 hr;have HS : Hid (spA r k = min (r.f + r.r * k) r.m) := rfl;clear hr;obtain ⟨c, f, m, x⟩ := r;simp only at *
 go_enter Tryz.func267, Tryz.ntmps267
 go_wp2
 all_goals
  go_ret
  exact ⟨ret_int (by rw [HS.out] <;> omega), rfl⟩
abbrev spC (n r : Nat) : Value := .func (.func 266) #[] #[ptr n, ptr r]
abbrev tmC (s r : Nat) : Value := .func (.func 265) #[] #[ptr s, ptr r]
theorem speeds_any (r : Rp) (n : Int) (w : World) :
  Calls Tryz.prog 232 #[rv r, .int .i64 n] w fun e w' => e = .returned (spC (w.heap.size + 1) w.heap.size) ∧ w' = (w.alloc (ro r)).alloc (io n) := by
 go_enter Tryz.func232, Tryz.ntmps232
 go_wp2;go_ret;exact ⟨rfl, rfl⟩
theorem times_any (r : Rp) (f : Nat) (lb : Array Value) (w : World) :
  Calls Tryz.prog 231 #[rv r, .func (.func f) #[] lb] w fun e w' => e = .returned (tmC (w.heap.size + 1) w.heap.size) ∧ w' = (w.alloc (ro r)).alloc (.cells #[.func (.func f) #[] lb] 309) := by
 go_enter Tryz.func231, Tryz.ntmps231
 go_wp2;go_ret;exact ⟨rfl, rfl⟩
attribute [local go_sem] Oper.semAt_some
def speedsL (r : Rp) (n : Nat) : List Int := (List.range n).map fun i => spA r (min i (n - 1 - i))
theorem speedsL_length (r : Rp) (n : Nat) : (speedsL r n).length = n := by simp [speedsL]
theorem speedsL_at (r : Rp) (n : Nat) {k : Nat} (h : k < (speedsL r n).length) : (speedsL r n)[k]'h = spA r (min k (n - 1 - k)) := by simp [speedsL]
theorem enSp : ∀ args w, (callFunc 266 args).run Tryz.prog w = .ok (.enter 266 args) w := enters_of Tryz.func266 (by kernel_rfl) rfl
theorem enTm : ∀ args w, (callFunc 265 args).run Tryz.prog w = .ok (.enter 265 args) w := enters_of Tryz.func265 (by kernel_rfl) rfl
theorem speedAt_at (r : Rp) (x : Int) (k : Nat) (hx : x = k) (hr : rpOk r = true) (hk : k ≤ 20000) (w : World) :
  Calls Tryz.prog 267 #[rv r, .int .i64 x] w fun e w' => e = .returned (.int .i64 (spA r k)) ∧ w' = w.alloc (ro r) := by
 subst hx;exact speedAt_any r k hr hk w
abbrev yv (l : Nat) : Value := .func (.yield l) #[] #[]
theorem speeds_gives (N0 : Nat) (r : Rp) (n A B l : Nat) (M : Nat → Prop) (W : World) (hr : rpOk r = true) (hn : n ≤ 20000) (hA : Bk A (rcl r) W) (hB : Bk B [.int .i64 n] W) (hAM : ¬ (M A ∨ A = l)) (hBM : ¬ (M B ∨ B = l)) :
  Gives Tryz.prog N0 266 #[ptr B, ptr A] (speedsL r n) (fun _ => False) M l W := by
 intro J Jx hJ hJx hY h0;have HA := hdd hA;have HB := hdd hB;have HAM := hdd hAM;have HBM := hdd hBM;have HY := hdd hY;have HJ := hdd hJ;have H0 := hdd h0;have HS : Hid (∀ x k, x = ((k : Nat) : Int) → k ≤ 20000 → ∀ w, Calls Tryz.prog 267 #[rv r, .int .i64 x] w fun e w' => e = .returned (.int .i64 (spA r k)) ∧ w' = w.alloc (ro r)) := fun x k hx hk w => speedAt_at r x k hx hr hk w;have HL : Hid ((speedsL r n).length = n) := speedsL_length r n;have HE : Hid (∀ k (h : k < (speedsL r n).length), (speedsL r n)[k]'h = spA r (min k (n - 1 - k))) := fun k h => speedsL_at r n h;clear hA hB hAM hBM hY hJ hJx h0 hr;refine callsIn_of_wp Tryz.func266 rfl trivial ?_ rfl;simp only [Tryz.ntmps266, List.size_toArray, List.length_cons, List.length_nil, Nat.reduceAdd, Nat.reduceSub, Array.replicate_succ, Array.replicate_zero, List.push_toArray, List.append_toArray, List.nil_append, List.cons_append];have cB := HB.out.c 0 rfl
 gi_wp2
 clear cB
 gi_loopw [6] (fun i wr => ∃ k : Nat, k ≤ n ∧ i = .int .i64 ((k : Nat) : Int) ∧ J k wr ∧ Kpt (fun x => M x ∨ x = l) W wr) (fun i _ => n - (intOf i).toNat)
 case atStart => exact ⟨0, Nat.zero_le _, rfl, H0.out, Kpt.refl _ _⟩
 case round =>
  obtain ⟨k, hk, rfl, hj, hkp⟩ := hrel;have HJ1 := hdd hj;have HKP := hdd hkp;have kA := bk_kpt HA.out hkp HAM.out;have kB := bk_kpt HB.out hkp HBM.out;have c0 := kB.c 0 rfl;have a0 := kA.c 0 rfl;have a1 := kA.c 1 rfl;have a2 := kA.c 2 rfl;have a3 := kA.c 3 rfl;clear hj hkp kA kB
  by_cases hlt : k < n
  ·have HK : Hid (k < (speedsL r n).length) := by show _ < _; rw [HL.out]; exact hlt
   have hjw : J k (wr.alloc (ro r)) := HJ.out _ _ _ HJ1.out (Kpt.of_below ((brf).alloc (Nat.le_refl _) _));have HKP1 : Hid (Kpt (fun x => M x ∨ x = l) W (wr.alloc (ro r))) := HKP.out.trans (Kpt.of_below ((brf).alloc (Nat.le_refl _) _));obtain ⟨fn, tmps, assign, body, hy, hR⟩ := HY.out k HK.out (wr.alloc (ro r)) hjw HKP1.out.size;rw [HE.out] at hy;obtain ⟨j, hj⟩ : ∃ j, j = min k (n - 1 - k) := ⟨_, rfl⟩;rw [← hj] at hy;have HR := hdd hR;have HJJ := hdd hj;clear hj hjw hR
   by_cases hm : (k : Int) ≤ (n : Int) - 1 - k
   ·have HX : Hid (min (k : Int) ((n : Int) - 1 - k) = ((j : Nat) : Int)) := by show _ = _; rw [HJJ.out]; omega
    gi_wp2_with fail
    refine ⟨trivial, (fun h => by cases h), (callsIn_wide.2 (HS.out _ j HX.out (by have := HJJ.out; omega) _)).mono ?_⟩;rintro e w1 ⟨rfl, rfl⟩
    gi_wp2
    refine ⟨(fun h => by cases h), HR.out.mono ?_⟩;rintro e w4 (⟨rfl, hJ4, hk4⟩ | ⟨rfl, hJ4, hk4⟩)
    ·have HJ4 := hdd hJ4
     have HK4 : Hid (Kpt (fun x => M x ∨ x = l) W w4) := HKP1.out.trans hk4;clear hJ4 hk4
     gi_wp2
     go_roundw
     case rel => exact ⟨k + 1, by omega, by go_num, HJ4.out, HK4.out⟩
     case measure => simp [intOf]; omega
    ·have HJ4 := hdd hJ4
     clear hJ4 hk4
     gi_wp2
     refine bodyPost_ret (v := .tuple #[]) (results_none (by kernel_rfl) _ _ _) rfl ?_;exact ⟨⟨_, rfl⟩, .inr ⟨k, HK.out, HJ4.out⟩⟩
   ·have HX : Hid (min (k : Int) ((n : Int) - 1 - k) = ((j : Nat) : Int)) := by show _ = _; rw [HJJ.out]; omega
    gi_wp2_with fail
    refine ⟨trivial, (fun h => by cases h), (callsIn_wide.2 (HS.out _ j HX.out (by have := HJJ.out; omega) _)).mono ?_⟩;rintro e w1 ⟨rfl, rfl⟩
    gi_wp2
    refine ⟨(fun h => by cases h), HR.out.mono ?_⟩;rintro e w4 (⟨rfl, hJ4, hk4⟩ | ⟨rfl, hJ4, hk4⟩)
    ·have HJ4 := hdd hJ4
     have HK4 : Hid (Kpt (fun x => M x ∨ x = l) W w4) := HKP1.out.trans hk4;clear hJ4 hk4
     gi_wp2
     go_roundw
     case rel => exact ⟨k + 1, by omega, by go_num, HJ4.out, HK4.out⟩
     case measure => simp [intOf]; omega
    ·have HJ4 := hdd hJ4
     clear hJ4 hk4
     gi_wp2
     refine bodyPost_ret (v := .tuple #[]) (results_none (by kernel_rfl) _ _ _) rfl ?_;exact ⟨⟨_, rfl⟩, .inr ⟨k, HK.out, HJ4.out⟩⟩
  ·gi_wp2
   go_end0
   have := HJ1.out;refine ⟨⟨_, rfl⟩, .inl ?_⟩;rw [HL.out, show n = k by omega];exact this
attribute [local go_sem] Oper.semAt_some
theorem oeq (a : Act) (m : List Bool) (f : Nat → Value) : ov a m f = { tmps := (oL f m 0 a.tmps.toList).toArray, defers := a.defers } := rfl
def GivesAt (gf : Nat) (lb : Array Value) (xs : List Int) (z lo : Nat) (w : World) : Prop :=
 (∀ args w, (callFunc gf args).run Tryz.prog w = .ok (.enter gf args) w) ∧ ∀ n M l W, bw w W → (∀ k, M k → (k < lo ∨ w.heap.size ≤ k) ∧ ¬ (W.heap.size ≤ k ∧ k < W.heap.size + z)) → (l < lo ∨ w.heap.size ≤ l) → l < W.heap.size →
  Gives Tryz.prog n gf lb xs (fun k => W.heap.size ≤ k ∧ k < W.heap.size + z) M l W
theorem GivesAt.later {gf : Nat} {lb : Array Value} {xs : List Int} {z lo : Nat} {w w1 : World} (h : GivesAt gf lb xs z lo w) (hb : bw w w1) : GivesAt gf lb xs z lo w1 :=
 ⟨h.1, fun n M l W hbW hM hl hl2 => h.2 n M l W (hb.trans (hbW.mono hb.size)) (fun k hk => ⟨by have := (hM k hk).1; have := hb.size; omega, (hM k hk).2⟩) (by have := hb.size; omega) hl2⟩
theorem speeds_at (r : Rp) (n : Nat) (A B lo : Nat) (w : World) (hr : rpOk r = true) (hn : n ≤ 20000) (hA : Bk A (rcl r) w) (hB : Bk B [.int .i64 n] w) (h1 : lo ≤ A) (h2 : lo ≤ B) : GivesAt 266 #[ptr B, ptr A] (speedsL r n) 0 lo w :=
 ⟨enSp, fun N0 M l W hb hM hl _ => (speeds_gives N0 r n A B l M W hr hn (hA.same hb.size (hb.block A hA.1)) (hB.same hb.size (hb.block B hB.1))
  (fun e => e.elim (fun e => absurd (hM A e).1 (by have := hA.1; omega)) fun e => by have := hA.1; omega) (fun e => e.elim (fun e => absurd (hM B e).1 (by have := hB.1; omega)) fun e => by have := hB.1; omega)).mono fun _ e => e.elim⟩
def timesL (r : Rp) (xs : List Int) : List Int := xs.map fun x => Int.tdiv r.c x
theorem timesL_length (r : Rp) (xs : List Int) : (timesL r xs).length = xs.length := by simp [timesL]
def tmV (l A : Nat) (c x : Int) (d : Nat) (v : Value) (_ : World) : Prop :=
 match d with
 | 7 => v = yv l
 | 8 => v = ptr A
 | 9 => v = .int .i64 c
 | 10 => v = .int .i64 x
 | 11 => v = .int .i64 (Int.tdiv c x)
 | _ => True
theorem tmV_mono (l A : Nat) (c x : Int) (d : Nat) (v : Value) (w w' : World) (h : tmV l A c x d v w) (_ : bw w w') : tmV l A c x d v w' := h
structure TmI (J : Nat → World → Prop) (r : Rp) (A l N : Nat) (k : Nat) (W : World) : Prop where
 j : J k W
 a : Bk A (rcl r) W
 y : Bk N [yv l] W
theorem times_at {gf : Nat} {lb : Array Value} {xs : List Int} {z lo : Nat} (r : Rp) (hr : rpOk r = true) (hx : ∀ x ∈ xs, 1 ≤ x) (w w1 : World) (A B : Nat) (h : GivesAt gf lb xs z lo w) (hb : bw w w1) (hA : Bk A (rcl r) w1) (hB : Bk B [.func (.func gf) #[] lb] w1) (hlA : lo ≤ A) :
  GivesAt 265 #[ptr B, ptr A] (timesL r xs) (z + 3) lo w1 := by
 refine ⟨enTm, fun N0 M l W hbW hM hl0 hl1 J Jx hJ hJx hY h0 => ?_⟩;have HA : Hid (Bk A (rcl r) W) := hA.same hbW.size (hbW.block A hA.1);have HB : Hid (Bk B [.func (.func gf) #[] lb] W) := hB.same hbW.size (hbW.block B hB.1);have HAw : Hid (A < w1.heap.size) := hA.1;have HG := hdd h;have HBW : Hid (bw w W) := hb.trans (hbW.mono hb.size);have HWS : Hid (w.heap.size ≤ w1.heap.size) := hb.size;have HM := hdd hM;have HSZ : Hid (w1.heap.size ≤ W.heap.size) := hbW.size;have HY := hdd hY;have HJ := hdd hJ;have HJX := hdd hJx;have H0 := hdd h0;have HX := hdd hx;have HC : Hid (1 ≤ r.c ∧ r.c ≤ 100000000) := by show _ ∧ _; have := rpOk_iff.1 hr; omega
 clear hA hB hM hY hJ hJx h0 hr h hb hbW hx;refine callsIn_of_wp_marks Tryz.func265 rfl trivial (wpIn_wide.2 ?_) rfl;simp only [Tryz.ntmps265, List.size_toArray, List.length_cons, List.length_nil, Nat.reduceAdd, Nat.reduceSub, Array.replicate_succ, Array.replicate_zero, List.push_toArray, List.append_toArray, List.nil_append, List.cons_append];have cB := HB.out.c 0 rfl;have lB := HB.out.1
 go_wp2_with fail
 obtain ⟨wR, hwR⟩ : ∃ x, x = W.alloc (.cells #[yv l] 143) := ⟨_, rfl⟩;have hsR : wR.heap.size = W.heap.size + 1 := by rw [hwR]; simp
 have bR : bw W wR := by rw [hwR]; exact (brf).alloc (Nat.le_refl _) _
 have KY : Hid (Bk W.heap.size [yv l] wR) := by show Bk _ _ _; rw [hwR]; exact Bk.new W [yv l] 143 W.heap.size rfl
 have KA : Hid (Bk A (rcl r) wR) := HA.out.later bR;have HBR : Hid (bw W wR) := bR;rw [← hwR];clear hwR bR cB lB
 refine (wpIn_wide (n := N0)).1 (range_it (n := N0) (gf := gf) (lb := lb) rfl HG.out.1 xs (fun k => wR.heap.size + 2 ≤ k ∧ k < wR.heap.size + 2 + z) (fun k => M k ∨ k = l) rfl ?_ (fun k e => e.1) ?_ ?_
  (TmI J r A l W.heap.size) Jx ?_ ?_ ⟨HJ.out _ _ _ H0.out (Kpt.of_below HBR.out), KA.out, KY.out⟩
  (fun x => { tmps := #[yv l, ptr B, ptr A, ptr W.heap.size, .int .i64 x, .func (.func gf) #[] lb, .int .i64 x, undef, undef, undef, undef, undef, undef, undef], defers := [] }) .ret .ret (.inl ⟨rfl, rfl⟩) ?_ ?_ ?_ ?_)
 ·intro W2 hb2 hs2
  have hws := HWS.out;have := HG.out.2 (N0 - 1) (fun k => M k ∨ k = l) (wR.heap.size + 1) W2 (HBW.out.trans ((HBR.out.trans (hb2.mono HBR.out.size)).mono HBW.out.size)) ?_ (by have := HSZ.out; omega) (by omega)
  ·rw [hs2] at this
   exact this
  ·rintro k (e | e)
   ·have := HM.out k e; omega
   ·omega
 ·rintro (e | e)
  ·have := HM.out _ e; omega
  ·omega
 ·rintro (e | e)
  ·have := HM.out _ e; omega
  ·omega
 ·rintro s A2 B2 ⟨h1, h2, h3⟩ hk
  have q1 := HAw.out;have q2 := HSZ.out;exact ⟨HJ.out _ _ _ h1 (hk.mono fun k e => by omega), bk_kpt h2 hk (by omega), bk_kpt h3 hk (by omega)⟩
 ·rintro s A2 B2 h1 hk
  exact HJX.out _ _ _ h1 (hk.mono fun k e => by omega)
 ·intro l2 x W2 K hK
  have HK := hdd hK;clear hK
  gi_wp2
  exact HK.out
 ·rintro l2 k hk W2 ⟨hj, ha, hy0⟩ hs
  have HKT : Hid (k < (timesL r xs).length) := by show _ < _; rw [timesL_length]; exact hk
  have HE : Hid ((timesL r xs)[k]'HKT.out = Int.tdiv r.c (xs[k]'hk)) := by show _ = _; simp [timesL]
  have hx1 : 1 ≤ xs[k]'hk := HX.out _ (List.getElem_mem hk);obtain ⟨x, hxe⟩ : ∃ x, x = xs[k]'hk := ⟨_, rfl⟩;rw [← hxe] at hx1 HE ⊢;have HJ2 := hdd hj;have HA2 := hdd ha;have HY2 := hdd hy0;have HS2 := hdd hs;have hx0 : x ≠ 0 := by omega
  obtain ⟨hc1, hc2⟩ := HC.out
  have HD : Hid (Value.int .i64 (IntKind.i64.wrap (Int.tdiv r.c x)) = .int .i64 (Int.tdiv r.c x)) := by
   show _ = _;rw [wrap_in]
   ·rw [Int.tdiv_eq_ediv_of_nonneg (by omega)]; have := Int.ediv_nonneg (a := r.c) (b := x) (by omega) (by omega); omega
   ·rw [Int.tdiv_eq_ediv_of_nonneg (by omega)]; have := Int.ediv_le_self x (a := r.c) (by omega); omega
  clear hj ha hy0 hs hxe hk
  gi_wp2_with fail
  refine region_seqI (by kernel_rfl) 5 [zf,zf,zf,zf,zf,zf,zf,zt,zt,zt,zt,zt,zf,zf]
   [(7, [], none), (8, [], none), (9, [8], none), (10, [], none), (11, [9, 10], none)]
   (tmV l A r.c x) (by kernel_rfl) (by kernel_rfl) (by kernel_rfl) (by kernel_rfl) (by kernel_rfl) (by decide) (tmV_mono l A r.c x) ?_ ?_
  ·refine ⟨?_, ?_, ?_, ?_, ?_, trivial⟩
   ·intro f w3 hb _ K hK
    have q0 := cell_later hb (HY2.out.c 0 rfl);simp only [ov, oL, Nat.reduceAdd];go_simp;exact hK _ _ ⟨_, rfl, by simp only [ov, oL, Nat.reduceAdd]; rfl, brf⟩
   ·intro f w3 hb _ K hK
    have q0 := cell_later hb (HA2.out.c 0 rfl);simp only [ov, oL, Nat.reduceAdd];go_simp;exact hK _ _ ⟨_, rfl, by simp only [ov, oL, Nat.reduceAdd]; rfl, brf⟩
   ·rintro f w3 hb ⟨(h8 : f 8 = _), _⟩ K hK
    have q0 := cell_later hb (HA2.out.c 0 rfl);simp only [ov, oL, Nat.reduceAdd, h8];go_simp;exact hK _ _ ⟨_, rfl, by simp only [ov, oL, Nat.reduceAdd, h8]; rfl, brf⟩
   ·intro f w3 hb _ K hK
    simp only [ov, oL, Nat.reduceAdd];go_simp;exact hK _ _ ⟨_, rfl, by simp only [ov, oL, Nat.reduceAdd]; rfl, brf⟩
   ·rintro f w3 hb ⟨(h9 : f 9 = _), (h10 : f 10 = _), _⟩ K hK
    simp only [ov, oL, Nat.reduceAdd, h9, h10];go_simp;exact hK _ _ ⟨_, HD.out, by simp only [ov, oL, Nat.reduceAdd, h9, h10]; rfl, brf⟩
  ·intro f w3 hb hv
   have h7 : f 7 = _ := hv.1;have h11 : f 11 = _ := hv.2.2.2.2.1;have hj3 : J k w3 := HJ.out _ _ _ HJ2.out (Kpt.of_below hb);obtain ⟨fn, tmps, assign, body, hy, hR⟩ := yield_any (N0 - 1 - 1 - 1) (HY.out k HKT.out w3 hj3 (by have := HS2.out; have := hb.size; omega));rw [HE.out] at hy;have HB3 := hdd hb;have HR := hdd hR;clear hv hb hR hj3;simp only [oeq, oL, h7, h11, Nat.reduceAdd, List.drop_succ_cons, List.drop_zero]
   gi_wp2
   refine ⟨(fun h => by cases h), RoundIn.mono HR.out ?_⟩;rintro e w4 (⟨rfl, hJ4, hk4⟩ | ⟨rfl, hJ4, hk4⟩)
   ·have HJ4 := hdd hJ4
    have HK4 : Hid (Kpt (fun k => M k ∨ k = l) W2 w4) := (Kpt.of_below HB3.out).trans hk4;clear hJ4 hk4
    gi_wp2
    have q1 := HAw.out;have q2 := HSZ.out;exact ⟨HK4.out, HJ4.out, bk_kpt HA2.out HK4.out (fun e => e.elim (fun e => by have := HM.out _ e; omega) (fun e => by omega)), bk_kpt HY2.out HK4.out (fun e => e.elim (fun e => by have := HM.out _ e; omega) (fun e => by omega))⟩
   ·have HJ4 := hdd hJ4
    have HK4 : Hid (Kpt (fun k => M k ∨ k = l) W2 w4) := (Kpt.of_below HB3.out).trans hk4;clear hJ4 hk4
    gi_wp2
    exact ⟨HK4.out, HJ4.out⟩
 ·rintro W2 ⟨h1, h2, h3⟩ hs hd
  have HJ2 : Hid (J (timesL r xs).length (W2.putObj wR.heap.size (.deferred none))) := by show J _ _; rw [timesL_length]; exact HJ.out _ _ _ h1 (Kpt.putObj _ _ _ _ (by omega))
  clear h1 h2 h3;go_wp2;exact leave_mark hd (v := .tuple #[]) (results_none (by kernel_rfl) _ _ _) ⟨⟨_, rfl⟩, .inl HJ2.out⟩
 ·rintro k W2 hk h1 hs hd
  have HJ2 : Hid (Jx (k + 1) (W2.putObj wR.heap.size (.deferred none))) := HJX.out _ _ _ h1 (Kpt.putObj _ _ _ _ (by omega));clear h1;refine wpIn_wide.2 ?_;go_wp2;exact leave_mark hd (v := .tuple #[]) (results_none (by kernel_rfl) _ _ _) ⟨⟨_, rfl⟩, .inr ⟨k, by rw [timesL_length]; exact hk, HJ2.out⟩⟩
theorem _root_.Go.Proofs.YtcajifelbldjnaaGreatDoor.Kpt.belowB {M : Nat → Prop} {w A B : World} (h : bw w A) (hk : Kpt M A B) (hM : ∀ k, M k → w.heap.size ≤ k) : bw w B := h.trans (hk.below h.size hM)
attribute [local go_sem] Oper.semAt_some
def FnV (xs : List Int) (z lo : Nat) (v : Value) (w : World) : Prop := ∃ gf lb, v = .func (.func gf) #[] lb ∧ GivesAt gf lb xs z lo w
theorem FnV.later {xs : List Int} {z lo : Nat} {v : Value} {w w1 : World} (h : FnV xs z lo v w) (hb : bw w w1) : FnV xs z lo v w1 := by
 obtain ⟨gf, lb, e, h⟩ := h;exact ⟨gf, lb, e, h.later hb⟩
theorem speeds_fn (r : Rp) (n lo : Nat) (w : World) (hr : rpOk r = true) (hn : n ≤ 20000) (hlo : lo ≤ w.heap.size) :
  Calls Tryz.prog 232 #[rv r, .int .i64 (n : Int)] w fun e w' => ∃ v, e = .returned v ∧ FnV (speedsL r n) 0 lo v w' ∧ bw w w' := by
 refine (speeds_any r n w).mono ?_;rintro e w1 ⟨rfl, rfl⟩;refine ⟨_, rfl, ⟨_, _, rfl, speeds_at r n w.heap.size (w.heap.size + 1) lo _ hr hn ?_ ?_ hlo (by omega)⟩, ((brf).alloc (Nat.le_refl _) _).alloc (by simp) _⟩
 ·exact (Bk.new w (rcl r) 33 w.heap.size rfl).later ((brf).alloc (Nat.le_refl _) _)
 ·exact Bk.new (w.alloc (ro r)) [.int .i64 (n : Int)] 3 (w.heap.size + 1) (by simp)
theorem times_fn {xs : List Int} {z lo : Nat} {v : Value} (r : Rp) (w : World) (hr : rpOk r = true) (hx : ∀ x ∈ xs, 1 ≤ x) (hlo : lo ≤ w.heap.size) (h : FnV xs z lo v w) :
  Calls Tryz.prog 231 #[rv r, v] w fun e w' => ∃ v, e = .returned v ∧ FnV (timesL r xs) (z + 3) lo v w' ∧ bw w w' := by
 obtain ⟨gf, lb, rfl, h⟩ := h;refine (times_any r gf lb w).mono ?_;rintro e w1 ⟨rfl, rfl⟩;have hb : bw w ((w.alloc (ro r)).alloc (.cells #[.func (.func gf) #[] lb] 309)) := ((brf).alloc (Nat.le_refl _) _).alloc (by simp) _;refine ⟨_, rfl, ⟨_, _, rfl, times_at r hr hx w _ w.heap.size (w.heap.size + 1) h hb ?_ ?_ hlo⟩, hb⟩
 ·exact (Bk.new w (rcl r) 33 w.heap.size rfl).later ((brf).alloc (Nat.le_refl _) _)
 ·exact Bk.new (w.alloc (ro r)) [.func (.func gf) #[] lb] 309 (w.heap.size + 1) (by simp)
theorem spA_pos {r : Rp} (hr : rpOk r = true) {k : Nat} (hk : k ≤ 20000) : 1 ≤ spA r k := by have := spA_bd hr hk; have := rpOk_iff.1 hr; omega
theorem speedsL_pos {r : Rp} {n : Nat} (hr : rpOk r = true) (hn : n ≤ 20000) : ∀ x ∈ speedsL r n, 1 ≤ x := by
 intro x hx;unfold speedsL at hx;obtain ⟨i, hi, rfl⟩ := List.mem_map.1 hx;have := List.mem_range.1 hi;exact spA_pos hr (by omega)
theorem tdiv_bd {c x : Int} (hc : 0 ≤ c) (hx : 1 ≤ x) : 0 ≤ Int.tdiv c x ∧ Int.tdiv c x ≤ c := by
 rw [Int.tdiv_eq_ediv_of_nonneg hc];exact ⟨Int.ediv_nonneg hc (by omega), Int.ediv_le_self x hc⟩
theorem timesL_bd {r : Rp} {xs : List Int} (hr : rpOk r = true) (hx : ∀ x ∈ xs, 1 ≤ x) : ∀ x ∈ timesL r xs, 0 ≤ x ∧ x ≤ 100000000 := by
 intro x h;unfold timesL at h;obtain ⟨i, hi, rfl⟩ := List.mem_map.1 h;have h1 := rpOk_iff.1 hr;have := tdiv_bd (c := r.c) (by omega) (hx i hi);omega
theorem sum_take {xs : List Int} {k : Nat} (h : k < xs.length) : (xs.take (k + 1)).sum = (xs.take k).sum + xs[k]'h := by
 rw [List.take_succ_eq_append_getElem h, List.sum_append];simp
theorem sum_bd {xs : List Int} (hx : ∀ x ∈ xs, 0 ≤ x ∧ x ≤ 100000000) : 0 ≤ xs.sum ∧ xs.sum ≤ 100000000 * (xs.length : Int) := by
 induction xs with
 | nil => simp
 | cons x xs ih =>
  have h1 := hx x (by simp);have h2 := ih fun y hy => hx y (by simp [hy]);simp only [List.sum_cons, List.length_cons];omega
structure ToI (w : World) (T : Nat) (xs : List Int) (k : Nat) (W : World) : Prop where
 tot : Bk T [.int .i64 (xs.take k).sum] W
 below : bw w W
def totR (r : Rp) (n : Nat) : Int := (timesL r (speedsL r n)).sum
def toV (r : Rp) (n lo : Nat) (d : Nat) (v : Value) (w : World) : Prop :=
 match d with
 | 15 | 16 => v = rv r
 | 17 => v = .int .i64 (n : Int)
 | 18 => FnV (speedsL r n) 0 lo v w
 | 19 => FnV (timesL r (speedsL r n)) 3 lo v w
 | _ => True
theorem toV_mono (r : Rp) (n lo : Nat) (d : Nat) (v : Value) (w w' : World) (h : toV r n lo d v w) (hb : bw w w') : toV r n lo d v w' := by
 unfold toV at h ⊢
 split <;> simp only [] at h <;> first | exact h | exact FnV.later h hb
theorem total_yes (r : Rp) (n : Nat) (w : World) (hr : rpOk r = true) (hn : n ≤ 20000) :
  CR 193 #[rv r, .int .i64 (n : Int)] w (.tuple #[.int .i64 (totR r n), .int .i64 0]) := by
 have HF : Hid (∀ W, CR 230 #[rv r, .int .i64 (n : Int)] W (.int .i64 0)) := fun W => (refusal_any r n W).mono fun e w' ⟨h1, h2⟩ => ⟨by rw [h1]; unfold refR; rw [if_pos hr, if_pos (by omega)], h2⟩;have HS : Hid (∀ lo W, lo ≤ W.heap.size → Calls Tryz.prog 232 #[rv r, .int .i64 (n : Int)] W fun e w' => ∃ v, e = .returned v ∧ FnV (speedsL r n) 0 lo v w' ∧ bw W w') := fun lo W h => speeds_fn r n lo W hr hn h;have HT : Hid (∀ lo W v, lo ≤ W.heap.size → FnV (speedsL r n) 0 lo v W → Calls Tryz.prog 231 #[rv r, v] W fun e w' => ∃ v, e = .returned v ∧ FnV (timesL r (speedsL r n)) 3 lo v w' ∧ bw W w') := fun lo W v h0 h => times_fn r W hr (speedsL_pos hr hn) h0 h;have HX : Hid (∀ x ∈ timesL r (speedsL r n), 0 ≤ x ∧ x ≤ 100000000) := timesL_bd hr (speedsL_pos hr hn);have HL : Hid ((timesL r (speedsL r n)).length = n) := by show _ = _; rw [timesL_length, speedsL_length]
 have HR : Hid (totR r n = (timesL r (speedsL r n)).sum) := rfl;have HB0 : Hid (bw w (w.alloc (ro r))) := (brf).alloc (Nat.le_refl _) _;have KR0 : Hid (Bk w.heap.size (rcl r) (w.alloc (ro r))) := Bk.new w (rcl r) 33 w.heap.size rfl;clear hr;refine (callsIn_wide (n := 9)).1 (callsIn_of_wp_marks Tryz.func193 rfl trivial (wpIn_wide.2 ?_) rfl);simp only [Tryz.ntmps193, List.size_toArray, List.length_cons, List.length_nil, Nat.reduceAdd, Nat.reduceSub, Array.replicate_succ, Array.replicate_zero, List.push_toArray, List.append_toArray, List.nil_append, List.cons_append]
 go_wp2_with fail
 refine Calls.mono (HF.out _) ?_;rintro e w1 ⟨rfl, hb1⟩;have HB1 := hdd (HB0.out.trans (hb1.mono HB0.out.size));have KR1 := hdd (KR0.out.later hb1);have hs1 : w.heap.size < w1.heap.size := KR1.out.1;clear hb1
 go_wp2_with fail
 obtain ⟨T, hT⟩ : ∃ T, T = w1.heap.size := ⟨_, rfl⟩;obtain ⟨w2, hw2⟩ : ∃ x, x = w1.alloc (io 0) := ⟨_, rfl⟩;have hb2 : bw w1 w2 := by rw [hw2]; exact (brf).alloc (Nat.le_refl _) _
 have KT : Hid (Bk T [.int .i64 0] w2) := by show Bk _ _ _; rw [hw2, hT]; exact Bk.new w1 [.int .i64 0] 3 w1.heap.size rfl
 have KR := hdd (KR1.out.later hb2);have HB2 := hdd (HB1.out.trans (hb2.mono HB1.out.size));have HTT : Hid (w.heap.size < T) := by show _ < _; omega
 rw [← hT, ← hw2];clear hT hw2 hb2;rename_i KK hkk;have HKK := (show Hid _ from hkk);clear hkk
 refine region_inv [zf,zf,zf,zf,zf,zf,zf,zf,zf,zf,zf,zf,zf,zf,zf,zt,zt,zt,zt,zt,zf,zf,zf,zf,zf]
  [(15, [], none), (16, [], none), (17, [], none), (18, [16, 17], none), (19, [15, 18], none)]
  (toV r n w2.heap.size) (by kernel_rfl) (by kernel_rfl) (toV_mono r n w2.heap.size) ?_ ?_
 ·refine ⟨?_, ?_, ?_, ?_, ?_, trivial⟩
  ·intro f w1 hb _ K hK
   have q0 := cell_later hb (KR.out.c 0 rfl);have q1 := cell_later hb (KR.out.c 1 rfl);have q2 := cell_later hb (KR.out.c 2 rfl);have q3 := cell_later hb (KR.out.c 3 rfl);simp only [ov, oL];go_simp;exact hK _ _ ⟨_, rfl, by simp only [ov, oL]; rfl, brf⟩
  ·intro f w1 hb _ K hK
   have q0 := cell_later hb (KR.out.c 0 rfl);have q1 := cell_later hb (KR.out.c 1 rfl);have q2 := cell_later hb (KR.out.c 2 rfl);have q3 := cell_later hb (KR.out.c 3 rfl);simp only [ov, oL];go_simp;exact hK _ _ ⟨_, rfl, by simp only [ov, oL]; rfl, brf⟩
  ·intro f w1 hb _ K hK
   simp only [ov, oL];go_simp;exact hK _ _ ⟨_, rfl, by simp only [ov, oL]; rfl, brf⟩
  ·rintro f w1 hb ⟨(h16 : f 16 = _), (h17 : f 17 = _), _⟩ K hK
   simp only [ov, oL, h16, h17];go_simp;refine Calls.mono (HS.out w2.heap.size _ hb.size) ?_;rintro e w9 ⟨v, rfl, h1, hb2⟩;exact hK _ _ ⟨_, h1, by simp only [ov, oL, h16, h17]; rfl, hb2⟩
  ·rintro f w1 hb ⟨(h15 : f 15 = _), h18, _⟩ K hK
   replace h18 : FnV (speedsL r n) 0 w2.heap.size (f 18) w1 := h18;simp only [ov, oL, h15];go_simp;refine Calls.mono (HT.out w2.heap.size _ _ hb.size h18) ?_;rintro e w9 ⟨v, rfl, h1, hb2⟩;exact hK _ _ ⟨_, h1, by simp only [ov, oL, h15]; rfl, hb2⟩
 intro f w3 hb hv;obtain ⟨gf, lb, h19, HG0⟩ : FnV (timesL r (speedsL r n)) 3 w2.heap.size (f 19) w3 := hv.2.2.2.2.1;have HG : Hid (GivesAt gf lb (timesL r (speedsL r n)) 3 w2.heap.size w3) := HG0;have KT3 := hdd (KT.out.later hb);have HB3 := hdd (HB2.out.trans (hb.mono HB2.out.size));have hT2 : T < w2.heap.size := KT.out.1;have hT3 : T < w3.heap.size := KT3.out.1;have hwT := HTT.out;clear hv hb HG0;generalize timesL r (speedsL r n) = xs at *;refine HKK.out _ _ ?_;simp only [oeq, oL, h19, Nat.reduceAdd]
 go_wp2_with fail
 refine (wpIn_wide (n := 9)).1 (range_it (n := 9) (gf := gf) (lb := lb) rfl HG.out.1 xs (fun k => w3.heap.size + 2 ≤ k ∧ k < w3.heap.size + 2 + 3) (fun k => k = T) rfl ?_ (fun k e => e.1) (by omega) (by omega)
  (ToI w T xs) (fun _ _ => False) ?_ (fun _ _ _ h _ => h) ⟨by simpa using KT3.out, HB3.out⟩
  (fun x => { tmps := #[rv r, .int .i64 (n : Int), ptr w.heap.size, undef, .int .i64 0, .int .i64 0, .int .i64 0, ptr T, .int .i64 x, rv r, .int .i64 (n : Int), .int .i64 0, .int .i64 0, .bool false, undef, f 15, f 16, f 17, f 18, .func (.func gf) #[] lb, .int .i64 x, undef, undef, undef, undef], defers := [] }) .ret .ret (.inl ⟨rfl, rfl⟩) ?_ ?_ ?_ (fun _ _ _ h => h.elim))
 ·intro W2 hb2 hs2
  have := HG.out.2 (9 - 1) (fun k => k = T) (w3.heap.size + 1) W2 hb2 (by rintro k e; omega) (by omega) (by omega);rw [hs2] at this;exact this
 ·rintro s A2 B2 ⟨h5, h6⟩ hk
  exact ⟨bk_kpt h5 hk (by omega), Kpt.belowB h6 hk (fun k e => by omega)⟩
 ·intro l2 x W2 K hK
  have HK : Hid _ := hK;clear hK
  gi_wp2
  exact HK.out
 ·rintro l2 k hk W2 ⟨h5, h6⟩ hs
  have hx0 := HX.out _ (List.getElem_mem hk);have hq := sum_bd (xs := xs.take k) (fun x hx => HX.out x (List.mem_of_mem_take hx));have hl : (xs.take k).length ≤ 20000 := by rw [List.length_take]; have := HL.out; omega
  have HE : Hid ((xs.take (k + 1)).sum = (xs.take k).sum + xs[k]'hk) := sum_take hk;obtain ⟨x, hxe⟩ : ∃ x, x = xs[k]'hk := ⟨_, rfl⟩;rw [← hxe] at hx0 HE ⊢;obtain ⟨q, hqe⟩ : ∃ q, q = (xs.take k).sum := ⟨_, rfl⟩;rw [← hqe] at h5 hq HE;have hq0 : 0 ≤ q := hq.1;have hq1 : q ≤ 2000000000000 := by omega
  obtain ⟨hx1, hx2⟩ := hx0;have H5 := hdd h5;have H6 := hdd h6;have c5 := h5.c 0 rfl;have f5 := h5.f 0 rfl;clear h5 h6 hxe hqe hs hk hq hl
  gi_wp2
  refine ⟨Kpt.setCell _ _ _ _ rfl, ?_, H6.out.setCell (by show w.heap.size ≤ T; omega) _⟩;rw [HE.out];exact H5.out.put 0 _
 ·rintro W2 ⟨h5, h6⟩ hs hd
  rw [List.take_length] at h5;have HF2 : Hid (bw w (W2.putObj w3.heap.size (.deferred none))) := Kpt.belowB h6 (Kpt.putObj (fun k => k = w3.heap.size) _ _ _ rfl) (fun k e => by omega);have HR2 := hdd (HR.out.symm);have c5 := h5.c 0 rfl;clear h5 h6;generalize xs.sum = q at *;go_wp2;exact leave_mark hd (v := .tuple #[.int .i64 q, .int .i64 0]) (by simp [results, Tryz.results193, go_sem]) ⟨by rw [HR2.out], HF2.out⟩
end Go.Proofs.YtcajifelbldjnaaGreatDoor.K
