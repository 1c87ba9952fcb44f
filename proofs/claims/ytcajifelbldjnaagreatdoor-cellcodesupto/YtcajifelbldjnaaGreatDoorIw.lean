import Derived.Test.YtcajifelbldjnaaGreatDoorIg
import Derived.ProofKit
import Derived.OpenShut
import Derived.ShutString
import Derived.SizedLaws
import Derived.Deep.SlicePairs
import Derived.Deep.Strs
import Derived.Lib.SmallJoins
import Derived.Test.YtcajifelbldjnaaGreatDoorRows
import Derived.Test.YtcajifelbldjnaaGreatDoorIl
set_option maxRecDepth 100000
set_option maxHeartbeats 25600000
set_option linter.unusedVariables false
namespace Go.Proofs.YtcajifelbldjnaaGreatDoor
open Go.ChangeShapes Go.WideShapes Go.ChangeAt Go.RowKit Go.Joins Go.Deep
open Go.ChangeMaps (open_string shut_string)
theorem Tryz.cells84 : Tryz.prog.cellsOf 84 = 12 := by kernel_rfl
theorem Tryz.cells9 : Tryz.prog.cellsOf 9 = 1 := by kernel_rfl
theorem Tryz.cells3 : Tryz.prog.cellsOf 3 = 1 := by kernel_rfl
theorem list12 {α : Type} {l : List α} (h : l.length = 12) : ∃ c0 c1 c2 c3 c4 c5 c6 c7 c8 c9 c10 c11, l = [c0, c1, c2, c3, c4, c5, c6, c7, c8, c9, c10, c11] := by
 match l, h with
 | [c0, c1, c2, c3, c4, c5, c6, c7, c8, c9, c10, c11], _ => exact ⟨c0, c1, c2, c3, c4, c5, c6, c7, c8, c9, c10, c11, rfl⟩
def wd {H : Type} (a : Wr) : DataW H := .agg [.lit (.string a.name.data.toList), .lit (.int .i64 a.kind), .lit (.int .i64 a.rows), .lit (.int .i64 a.cols), .lit (.int .i64 a.x), .lit (.int .i64 a.y), .lit (.int .i64 a.pitch), .lit (.int .i64 a.wid), .lit (.int .i64 a.len), .lit (.int .i64 a.hei), .lit (.int .i64 a.deep), .lit (.int .i64 a.cap)]
def WrOk (a : Wr) : Prop := a.name.size ≤ maxLen ∧ (Lit.int .i64 a.kind).wf = true ∧ (Lit.int .i64 a.rows).wf = true ∧ (Lit.int .i64 a.cols).wf = true ∧ (Lit.int .i64 a.x).wf = true ∧ (Lit.int .i64 a.y).wf = true ∧ (Lit.int .i64 a.pitch).wf = true ∧ (Lit.int .i64 a.wid).wf = true ∧ (Lit.int .i64 a.len).wf = true ∧ (Lit.int .i64 a.hei).wf = true ∧ (Lit.int .i64 a.deep).wf = true ∧ (Lit.int .i64 a.cap).wf = true
open Go.ChangeShapes Go.WideShapes Go.ChangeAt Go.RowKit Go.Joins Go.Deep
open Go.ChangeMaps (open_string shut_string)
theorem Tryz.cells86 : Tryz.prog.cellsOf 86 = 14 := by kernel_rfl
theorem list14 {α : Type} {l : List α} (h : l.length = 14) : ∃ c0 c1 c2 c3 c4 c5 c6 c7 c8 c9 c10 c11 c12 c13, l = [c0, c1, c2, c3, c4, c5, c6, c7, c8, c9, c10, c11, c12, c13] := by
 match l, h with
 | [c0, c1, c2, c3, c4, c5, c6, c7, c8, c9, c10, c11, c12, c13], _ => exact ⟨c0, c1, c2, c3, c4, c5, c6, c7, c8, c9, c10, c11, c12, c13, rfl⟩
def sd {H : Type} (s : Sit) : DataW H := .agg [.lit (.int .i64 s.slot), wd s.ware, .lit (.string s.name.data.toList)]
section
variable {H : Type} {enc : TypeId × Value → H} {W : World} {sp : Nat → Bool}
theorem trod_ware {fuel : Nat} {c0 c1 c2 c3 c4 c5 c6 c7 c8 c9 c10 c11 : Value} {y : DataW H × List MemPlace} (hf : DataW.trod enc Tryz.prog W 0 sp true fuel 84 [c0, c1, c2, c3, c4, c5, c6, c7, c8, c9, c10, c11] = some y) :
  ∃ a : Wr, [c0, c1, c2, c3, c4, c5, c6, c7, c8, c9, c10, c11] = (wcs a).toList ∧ y = (wd a, []) ∧ WrOk a := by
 obtain ⟨xs, n, _, hx, _, hlen, hg⟩ := DataW.trod_struct Tryz.underlying84 hf;obtain ⟨y0, y1, y2, y3, y4, y5, y6, y7, y8, y9, y10, y11, rfl⟩ := list12 (l := xs) (by simpa using hlen);have g0 : DataW.trod enc Tryz.prog W 0 sp true n 9 [c0] = some y0 := by have := hg 0 _ rfl; simpa [Tryz.cells9] using this
 have g1 : DataW.trod enc Tryz.prog W 0 sp true n 3 [c1] = some y1 := by have := hg 1 _ rfl; simpa [Tryz.cells3] using this
 have g2 : DataW.trod enc Tryz.prog W 0 sp true n 3 [c2] = some y2 := by have := hg 2 _ rfl; simpa [Tryz.cells3] using this
 have g3 : DataW.trod enc Tryz.prog W 0 sp true n 3 [c3] = some y3 := by have := hg 3 _ rfl; simpa [Tryz.cells3] using this
 have g4 : DataW.trod enc Tryz.prog W 0 sp true n 3 [c4] = some y4 := by have := hg 4 _ rfl; simpa [Tryz.cells3] using this
 have g5 : DataW.trod enc Tryz.prog W 0 sp true n 3 [c5] = some y5 := by have := hg 5 _ rfl; simpa [Tryz.cells3] using this
 have g6 : DataW.trod enc Tryz.prog W 0 sp true n 3 [c6] = some y6 := by have := hg 6 _ rfl; simpa [Tryz.cells3] using this
 have g7 : DataW.trod enc Tryz.prog W 0 sp true n 3 [c7] = some y7 := by have := hg 7 _ rfl; simpa [Tryz.cells3] using this
 have g8 : DataW.trod enc Tryz.prog W 0 sp true n 3 [c8] = some y8 := by have := hg 8 _ rfl; simpa [Tryz.cells3] using this
 have g9 : DataW.trod enc Tryz.prog W 0 sp true n 3 [c9] = some y9 := by have := hg 9 _ rfl; simpa [Tryz.cells3] using this
 have g10 : DataW.trod enc Tryz.prog W 0 sp true n 3 [c10] = some y10 := by have := hg 10 _ rfl; simpa [Tryz.cells3] using this
 have g11 : DataW.trod enc Tryz.prog W 0 sp true n 3 [c11] = some y11 := by have := hg 11 _ rfl; simpa [Tryz.cells3] using this
 obtain ⟨s, e0, z0, hs⟩ := DataW.trod_string Tryz.underlying9 g0;obtain ⟨a1, e1, z1, w1⟩ := DataW.trod_int Tryz.underlying3 g1;obtain ⟨a2, e2, z2, w2⟩ := DataW.trod_int Tryz.underlying3 g2;obtain ⟨a3, e3, z3, w3⟩ := DataW.trod_int Tryz.underlying3 g3;obtain ⟨a4, e4, z4, w4⟩ := DataW.trod_int Tryz.underlying3 g4;obtain ⟨a5, e5, z5, w5⟩ := DataW.trod_int Tryz.underlying3 g5;obtain ⟨a6, e6, z6, w6⟩ := DataW.trod_int Tryz.underlying3 g6;obtain ⟨a7, e7, z7, w7⟩ := DataW.trod_int Tryz.underlying3 g7;obtain ⟨a8, e8, z8, w8⟩ := DataW.trod_int Tryz.underlying3 g8;obtain ⟨a9, e9, z9, w9⟩ := DataW.trod_int Tryz.underlying3 g9;obtain ⟨a10, e10, z10, w10⟩ := DataW.trod_int Tryz.underlying3 g10;obtain ⟨a11, e11, z11, w11⟩ := DataW.trod_int Tryz.underlying3 g11;simp only [List.cons.injEq, and_true] at e0 e1 e2 e3 e4 e5 e6 e7 e8 e9 e10 e11;subst e0 e1 e2 e3 e4 e5 e6 e7 e8 e9 e10 e11 z0 z1 z2 z3 z4 z5 z6 z7 z8 z9 z10 z11;simp only [List.map_cons, List.map_nil, List.flatMap_cons, List.flatMap_nil, List.append_nil] at hx;exact ⟨⟨s, a1, a2, a3, a4, a5, a6, a7, a8, a9, a10, a11⟩, rfl, hx, hs, w1, w2, w3, w4, w5, w6, w7, w8, w9, w10, w11⟩
theorem trod_seat {n : Nat} {cs : List Value} {y : DataW H × List MemPlace} (h : DataW.trod enc Tryz.prog W 0 sp true n 86 cs = some y) :
  ∃ s : Sit, cs = (scs s).toList ∧ y = (sd s, []) ∧ SOk s := by
 obtain ⟨y0, y1, y2, m, rfl, hl, h0, h1, h2⟩ := trod_struct3 Tryz.underlying86 h;obtain ⟨c0, c1, c2, c3, c4, c5, c6, c7, c8, c9, c10, c11, c12, c13, rfl⟩ := list14 (l := cs) (hl.trans Tryz.cells86);have g0 : DataW.trod enc Tryz.prog W 0 sp true m 3 [c0] = some y0 := by simpa [Tryz.cells3] using h0
 have g1 : DataW.trod enc Tryz.prog W 0 sp true m 84 [c1, c2, c3, c4, c5, c6, c7, c8, c9, c10, c11, c12] = some y1 := by simpa [Tryz.cells84] using h1
 have g2 : DataW.trod enc Tryz.prog W 0 sp true m 9 [c13] = some y2 := by simpa [Tryz.cells9] using h2
 obtain ⟨a0, e0, z0, w0⟩ := DataW.trod_int Tryz.underlying3 g0;obtain ⟨a1, e1, z1, w1⟩ := trod_ware g1;obtain ⟨a2, e2, z2, w2⟩ := DataW.trod_string Tryz.underlying9 g2;simp only [List.cons.injEq, and_true] at e0 e1 e2;obtain ⟨u0, u1, u2, u3, u4, u5, u6, u7, u8, u9, u10, u11⟩ := e1;subst e0 e2 z0 z1 z2 u0 u1 u2 u3 u4 u5 u6 u7 u8 u9 u10 u11;exact ⟨⟨a0, a1, a2⟩, rfl, rfl, w1.1, w2⟩
end
theorem open_seats {H : Type} {enc : TypeId × Value → H} {W : World} {base : Nat} {v : Value} {d : DataW H} {p : List MemPlace} (hv : Value.okWide Tryz.prog W .any base 22 v)
  (h : DataW.Trod enc Tryz.prog W 0 (fun _ => true) true 22 v d p) (hlt : ∀ x ∈ p, x.block < W.heap.size) :
  ∃ ao ps cap, v = .slice ao ps.length cap ∧ Sts W ao ps ∧ ps.length ≤ cap ∧ ps.length ≤ 9223372036854775807 ∧ (∀ s ∈ ps, SOk s) := by
 obtain ⟨a0, len, cap, rfl⟩ := okWide_slice Tryz.underlying22 hv;obtain ⟨fuel, hf⟩ := h
 rcases open_slice Tryz.underlying22 hf with ⟨hcs, hx⟩ | ⟨a, len', cap', m, n, D, Pl, hcs, _, hl, hm, hmm, hx, hcell⟩
 ·simp [Value.cells] at hcs
  obtain ⟨rfl, rfl, rfl⟩ := hcs;exact ⟨none, [], 0, rfl, Sts.nil _ _, Nat.le_refl _, by decide, fun s hs => by simp at hs⟩
 ·simp [Value.cells] at hcs
  obtain ⟨rfl, rfl, rfl⟩ := hcs;simp only [Prod.mk.injEq] at hx;obtain ⟨rfl, rfl⟩ := hx;simp only [if_true] at hmm;subst hmm;rw [Tryz.cells86] at hcell
  have each : ∀ i, i < len → ∃ q : Sit, (∀ j u, (scs q).toList[j]? = some u → W.cell? (a.add (i * 14 + j)) = some u) ∧ SOk q := by
   intro i hi;obtain ⟨cs', h1, h2⟩ := hcell i (by omega);obtain ⟨_, hlen, hc⟩ := World.cells?_some h1;obtain ⟨q, rfl, _, hok⟩ := trod_seat h2;refine ⟨q, fun j u hj => ?_, hok⟩;have hj14 : j < 14 := (List.getElem?_eq_some_iff.1 hj).1;have e := hc j (by omega);rw [add_add] at e;rw [e]; exact hj
  haveI : Inhabited Sit := ⟨zSt⟩
  obtain ⟨q, hq⟩ := choose_lt each;have hle : len ≤ 9223372036854775807 := by unfold maxLen at hm; omega
  refine ⟨some a, (List.range len).map q, m, by simp, ?_, by simpa using hl, by simpa using hle, fun s hs => ?_⟩
  ·by_cases h0 : len = 0
   ·subst h0; exact .inl rfl
   ·obtain ⟨b, off, spot⟩ := a
    have hspot : spot = none := by simpa [Addr.add] using World.cell?_spot ((hq 0 (by omega)).1 0 _ rfl)
    subst hspot;have hbW : b < W.heap.size := hlt (.cell b off) (List.mem_append_left _ (MemPlace.mem_row.2 ⟨0, by rw [Tryz.cells86]; omega, by simp⟩));refine .inr ⟨b, off, rfl, fun k hk => ?_⟩;have hk' : k < len := by simpa using hk
    have hc := (hq k hk').1;simp only [List.getElem_map, List.getElem_range]
    have e : ∀ j u, (scs (q k)).toList[j]? = some u → W.cell? ⟨b, off + k * 14 + j, none⟩ = some u := fun j u hj => by
     have := hc j u hj;rw [add_plain, ← Nat.add_assoc] at this;exact this
    exact ⟨hbW, e 0 _ rfl, e 1 _ rfl, e 2 _ rfl, e 3 _ rfl, e 4 _ rfl, e 5 _ rfl, e 6 _ rfl, e 7 _ rfl, e 8 _ rfl, e 9 _ rfl, e 10 _ rfl, e 11 _ rfl, e 12 _ rfl, e 13 _ rfl⟩
  ·obtain ⟨i, hi, rfl⟩ := List.mem_map.1 hs
   exact (hq i (List.mem_range.1 hi)).2
theorem Tryz.own : ownKnob Tryz.prog.godebug = none := by kernel_rfl
theorem Tryz.cells55 : Tryz.prog.cellsOf 55 = 3 := by kernel_rfl
theorem Tryz.cells53 : Tryz.prog.cellsOf 53 = 2 := by kernel_rfl
theorem Tryz.cells57 : Tryz.prog.cellsOf 57 = 8 := by kernel_rfl
theorem list8 {α : Type} {l : List α} (h : l.length = 8) : ∃ c0 c1 c2 c3 c4 c5 c6 c7, l = [c0, c1, c2, c3, c4, c5, c6, c7] := by
 match l, h with
 | [c0, c1, c2, c3, c4, c5, c6, c7], _ => exact ⟨c0, c1, c2, c3, c4, c5, c6, c7, rfl⟩
theorem list6 {α : Type} {l : List α} (h : l.length = 6) : ∃ c0 c1 c2 c3 c4 c5, l = [c0, c1, c2, c3, c4, c5] := by
 match l, h with
 | [c0, c1, c2, c3, c4, c5], _ => exact ⟨c0, c1, c2, c3, c4, c5, rfl⟩
theorem bulk_pos {H : Type} (d : DataW H) : 1 ≤ Rows.uptoBulk d := by
 cases d with
 | lit x => cases x <;> simp only [Rows.uptoBulk] <;> omega
 | _ => simp only [Rows.uptoBulk]; omega
theorem bulkAll_len {H : Type} : ∀ l : List (DataW H), l.length ≤ Rows.uptoBulkAll l
 | [] => by simp [Rows.uptoBulkAll]
 | d :: l => by
  have h1 := bulk_pos d;have h2 := bulkAll_len l;simp only [Rows.uptoBulkAll, List.length_cons];omega
theorem bulkAll_mem {H : Type} : ∀ (l : List (DataW H)) (d : DataW H), d ∈ l → Rows.uptoBulk d ≤ Rows.uptoBulkAll l
 | [], _, h => by cases h
 | x :: l, d, h => by
  simp only [Rows.uptoBulkAll]
  rcases List.mem_cons.1 h with rfl | h
  ·omega
  ·have := bulkAll_mem l d h
   omega
section
variable {H : Type} {enc : TypeId × Value → H} {W : World}
theorem open_rowsB {α : Type} [Inhabited α] (c : Enc α) (hgc : Good c) (Q : α → Nat → Prop) (hQ : ∀ x m n, m ≤ n → Q x m → Q x n) {t : TypeId} (hu : Tryz.prog.underlying t = some (.slice c.E)) (hcells : Tryz.prog.cellsOf c.E = c.sz) (hs0 : 0 < c.sz)
  (hE : ∀ n cs y, DataW.trod enc Tryz.prog W 0 (fun _ => true) true n c.E cs = some y → ∃ x : α, cs = c.enc x ∧ Q x (Rows.uptoBulk y.1)) {n : Nat} {cs : List Value} {y : DataW H × List MemPlace} (h : DataW.trod enc Tryz.prog W 0 (fun _ => true) true n t cs = some y) :
  ∃ ao l cap, cs = [.slice ao l.length cap] ∧ RdR c W ao l ∧ (∀ x ∈ l, Q x (Rows.uptoBulk y.1)) ∧ l.length ≤ cap ∧ l.length ≤ Rows.uptoBulk y.1 ∧ (ao = none → cap = 0) := by
 rcases open_slice hu h with ⟨hcs, _⟩ | ⟨a, len, cap, m, n', D, Pl, hcs, _, hl, hm, hmm, hx, hcell⟩
 ·exact ⟨none, [], 0, hcs, .inl rfl, fun x hx => (by cases hx), Nat.le_refl _, Nat.zero_le _, fun _ => rfl⟩
 ·simp only [if_true] at hmm
  subst hmm;rw [hcells] at hcell
  have hbulk : Rows.uptoBulkAll ((List.range len).map D) ≤ Rows.uptoBulk y.1 := by
   rw [hx];simp only [Rows.uptoBulk];omega
  have each : ∀ i, i < len → ∃ q : α, (∀ j u, (c.enc q)[j]? = some u → W.cell? (a.add (i * c.sz + j)) = some u) ∧ Q q (Rows.uptoBulk y.1) := by
   intro i hi;obtain ⟨cs', h1, h2⟩ := hcell i (by omega);obtain ⟨_, hlen, hc⟩ := World.cells?_some h1;obtain ⟨q, rfl, hok⟩ := hE _ _ _ h2;refine ⟨q, fun j u hj => ?_, hQ _ _ _ (Nat.le_trans (bulkAll_mem _ _ (List.mem_map.2 ⟨i, List.mem_range.2 hi, rfl⟩)) hbulk) hok⟩;have hj14 : j < c.sz := by rw [← hgc.len q]; exact (List.getElem?_eq_some_iff.1 hj).1
   have e := hc j (by omega);rw [add_add] at e;rw [e]; exact hj
  obtain ⟨q, hq⟩ := choose_lt each;refine ⟨some a, (List.range len).map q, m, by simpa using hcs, ?_, fun x hx => ?_, by simpa using hl, ?_, fun e => by cases e⟩
  ·by_cases h0 : len = 0
   ·subst h0; exact .inl rfl
   ·obtain ⟨b, off, spot⟩ := a
    have hlen0 : 0 < (c.enc (q 0)).length := by rw [hgc.len]; exact hs0
    have h00 := (hq 0 (by omega)).1 0 _ (List.getElem?_eq_getElem hlen0);have hspot : spot = none := by simpa [Addr.add] using World.cell?_spot h00
    subst hspot
    have hbW : b < W.heap.size := by
     have := World.block_lt_of_cell? W _ h00;rw [add_plain] at this;exact this
    refine .inr ⟨b, off, rfl, hbW, fun k hk j hj => ?_⟩;have hk' : k < len := by simpa using hk
    simp only [List.getElem_map, List.getElem_range];have hjl : j < (c.enc (q k)).length := by rw [hgc.len]; exact hj
    have := (hq k hk').1 j _ (List.getElem?_eq_getElem hjl);rw [add_plain, ← Nat.add_assoc] at this;rw [this, List.getElem?_eq_getElem hjl]
  ·obtain ⟨i, hi, rfl⟩ := List.mem_map.1 hx
   exact (hq i (List.mem_range.1 hi)).2
  ·have := bulkAll_len ((List.range len).map D)
   rw [List.length_map, List.length_range] at this ⊢;omega
theorem trod_place {n : Nat} {c0 c1 c2 : Value} {y : DataW H × List MemPlace} (h : DataW.trod enc Tryz.prog W 0 (fun _ => true) true n 55 [c0, c1, c2] = some y) :
  ∃ p : Plc, c0 = .int .i64 p.1 ∧ c1 = .int .i64 p.2.1 ∧ c2 = .int .i64 p.2.2 := by
 obtain ⟨y0, y1, m, hy, hl, h0, h1⟩ := trod_struct2 Tryz.underlying55 h;have g0 : DataW.trod enc Tryz.prog W 0 (fun _ => true) true m 3 [c0] = some y0 := by simpa [Tryz.cells3] using h0
 have g1 : DataW.trod enc Tryz.prog W 0 (fun _ => true) true m 53 [c1, c2] = some y1 := by simpa [Tryz.cells53] using h1
 obtain ⟨z0, z1, m2, _, _, k0, k1⟩ := trod_struct2 Tryz.underlying53 g1;have f0 : DataW.trod enc Tryz.prog W 0 (fun _ => true) true m2 3 [c1] = some z0 := by simpa [Tryz.cells3] using k0
 have f1 : DataW.trod enc Tryz.prog W 0 (fun _ => true) true m2 3 [c2] = some z1 := by simpa [Tryz.cells3] using k1
 obtain ⟨a0, e0, _, _⟩ := DataW.trod_int Tryz.underlying3 g0;obtain ⟨a1, e1, _, _⟩ := DataW.trod_int Tryz.underlying3 f0;obtain ⟨a2, e2, _, _⟩ := DataW.trod_int Tryz.underlying3 f1;simp only [List.cons.injEq, and_true] at e0 e1 e2;exact ⟨(a0, a1, a2), e0, e1, e2⟩
theorem trod_action (n : Nat) (cs : List Value) (y : DataW H × List MemPlace) (h : DataW.trod enc Tryz.prog W 0 (fun _ => true) true n 57 cs = some y) : ∃ a : Acn, cs = encA.enc a ∧ (a.label.size ≤ maxLen ∧ (Lit.int .i64 a.kind).wf = true) := by
 obtain ⟨xs, m, _, _, hl, hlen, hg⟩ := DataW.trod_struct Tryz.underlying57 h;obtain ⟨c0, c1, c2, c3, c4, c5, c6, c7, rfl⟩ := list8 (l := cs) (hl.trans Tryz.cells57);obtain ⟨y0, y1, y2, y3, y4, y5, rfl⟩ := list6 (l := xs) (by simpa using hlen);have g0 : DataW.trod enc Tryz.prog W 0 (fun _ => true) true m 3 [c0] = some y0 := by have := hg 0 _ rfl; simpa [Tryz.cells3] using this
 have g1 : DataW.trod enc Tryz.prog W 0 (fun _ => true) true m 55 [c1, c2, c3] = some y1 := by have := hg 1 _ rfl; simpa [Tryz.cells55] using this
 have g2 : DataW.trod enc Tryz.prog W 0 (fun _ => true) true m 9 [c4] = some y2 := by have := hg 2 _ rfl; simpa [Tryz.cells9] using this
 have g3 : DataW.trod enc Tryz.prog W 0 (fun _ => true) true m 3 [c5] = some y3 := by have := hg 3 _ rfl; simpa [Tryz.cells3] using this
 have g4 : DataW.trod enc Tryz.prog W 0 (fun _ => true) true m 3 [c6] = some y4 := by have := hg 4 _ rfl; simpa [Tryz.cells3] using this
 have g5 : DataW.trod enc Tryz.prog W 0 (fun _ => true) true m 3 [c7] = some y5 := by have := hg 5 _ rfl; simpa [Tryz.cells3] using this
 obtain ⟨a0, e0, _, w0⟩ := DataW.trod_int Tryz.underlying3 g0;obtain ⟨p, rfl, rfl, rfl⟩ := trod_place g1;obtain ⟨a2, e2, _, w2⟩ := DataW.trod_string Tryz.underlying9 g2;obtain ⟨a3, e3, _, _⟩ := DataW.trod_int Tryz.underlying3 g3;obtain ⟨a4, e4, _, _⟩ := DataW.trod_int Tryz.underlying3 g4;obtain ⟨a5, e5, _, _⟩ := DataW.trod_int Tryz.underlying3 g5;simp only [List.cons.injEq, and_true] at e0 e2 e3 e4 e5;subst e0 e2 e3 e4 e5;exact ⟨⟨a0, p, a2, a3, a4, a5⟩, rfl, w2, w0⟩
theorem open_actionsB {b0 : Nat} {v : Value} {d : DataW H} {p : List MemPlace} (hv : Value.okWide Tryz.prog W .any b0 23 v) (h : DataW.Trod enc Tryz.prog W 0 (fun _ => true) true 23 v d p) (hb : Rows.uptoBulk d ≤ 1048576) : ∃ ao acs cap, v = .slice ao acs.length cap ∧ Acs W ao acs ∧ acs.length ≤ 1048576 := by
 obtain ⟨a0, len, cap, rfl⟩ := okWide_slice Tryz.underlying23 hv;obtain ⟨fuel, hf⟩ := h
 haveI : Inhabited Acn := ⟨⟨0, (0, 0, 0), ⟨#[]⟩, 0, 0, 0⟩⟩
 obtain ⟨ao, l, cap', e, hr, hq, _, hl, _⟩ := open_rowsB encA goodA (fun a _ => a.label.size ≤ maxLen ∧ (Lit.int .i64 a.kind).wf = true) (fun _ _ _ _ h => h) Tryz.underlying23 Tryz.cells57 (by decide) trod_action hf;simp only [Value.cells] at e;have e' : Value.slice a0 len cap = Value.slice ao l.length cap' := by simpa using e
 rw [e'];simp only at hl;exact ⟨ao, l, cap', rfl, ⟨hr, hq⟩, by omega⟩
end
end Go.Proofs.YtcajifelbldjnaaGreatDoor
