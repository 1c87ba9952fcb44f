import Derived.Test.YtfadmpnpgiceeaaGreatKi
import Derived.ProofKit
import Derived.OpenShut
import Derived.ShutString
import Derived.SizedLaws
import Derived.Deep.SlicePairs
import Derived.Deep.Strs
import Derived.Lib.SmallJoins
import Derived.Test.YtfadmpnpgiceeaaGreatRows
import Derived.Test.YtfadmpnpgiceeaaGreatKx

/- Arguments that are slices of seats, opened. -/
namespace Go.Proofs.YtfadmpnpgiceeaaGreat
open Go.ChangeShapes Go.WideShapes Go.ChangeAt Go.RowKit Go.Joins Go.Deep
open Go.ChangeMaps (open_string shut_string)
theorem Tryz.cells60 : Tryz.prog.cellsOf 60 = 12 := by kernel_rfl
theorem Tryz.cells9 : Tryz.prog.cellsOf 9 = 1 := by kernel_rfl
theorem Tryz.cells3 : Tryz.prog.cellsOf 3 = 1 := by kernel_rfl
theorem list12 {α : Type} {l : List α} (h : l.length = 12) : ∃ c0 c1 c2 c3 c4 c5 c6 c7 c8 c9 c10 c11, l = [c0, c1, c2, c3, c4, c5, c6, c7, c8, c9, c10, c11] := by
 match l, h with
 | [c0, c1, c2, c3, c4, c5, c6, c7, c8, c9, c10, c11], _ => exact ⟨c0, c1, c2, c3, c4, c5, c6, c7, c8, c9, c10, c11, rfl⟩
def wd {H : Type} (a : Wr) : DataW H := .agg [.lit (.string a.name.data.toList), .lit (.int .i64 a.kind), .lit (.int .i64 a.rows), .lit (.int .i64 a.cols), .lit (.int .i64 a.x), .lit (.int .i64 a.y), .lit (.int .i64 a.pitch), .lit (.int .i64 a.wid), .lit (.int .i64 a.len), .lit (.int .i64 a.hei), .lit (.int .i64 a.deep), .lit (.int .i64 a.cap)]
def WrOk (a : Wr) : Prop := a.name.size ≤ maxLen ∧ (Lit.int .i64 a.kind).wf = true ∧ (Lit.int .i64 a.rows).wf = true ∧ (Lit.int .i64 a.cols).wf = true ∧ (Lit.int .i64 a.x).wf = true ∧ (Lit.int .i64 a.y).wf = true ∧ (Lit.int .i64 a.pitch).wf = true ∧ (Lit.int .i64 a.wid).wf = true ∧ (Lit.int .i64 a.len).wf = true ∧ (Lit.int .i64 a.hei).wf = true ∧ (Lit.int .i64 a.deep).wf = true ∧ (Lit.int .i64 a.cap).wf = true
open Go.ChangeShapes Go.WideShapes Go.ChangeAt Go.RowKit Go.Joins Go.Deep
open Go.ChangeMaps (open_string shut_string)
theorem Tryz.laidOut : laidOutB Tryz.prog = true := by kernel_rfl
theorem Tryz.cells62 : Tryz.prog.cellsOf 62 = 14 := by kernel_rfl
theorem list14 {α : Type} {l : List α} (h : l.length = 14) : ∃ c0 c1 c2 c3 c4 c5 c6 c7 c8 c9 c10 c11 c12 c13, l = [c0, c1, c2, c3, c4, c5, c6, c7, c8, c9, c10, c11, c12, c13] := by
 match l, h with
 | [c0, c1, c2, c3, c4, c5, c6, c7, c8, c9, c10, c11, c12, c13], _ => exact ⟨c0, c1, c2, c3, c4, c5, c6, c7, c8, c9, c10, c11, c12, c13, rfl⟩
theorem list3 {α : Type} {l : List α} (h : l.length = 3) : ∃ c0 c1 c2, l = [c0, c1, c2] := by
 match l, h with
 | [c0, c1, c2], _ => exact ⟨c0, c1, c2, rfl⟩
def sd {H : Type} (s : Sit) : DataW H := .agg [.lit (.int .i64 s.slot), wd s.ware, .lit (.string s.name.data.toList)]
section
variable {H : Type} {enc : TypeId × Value → H} {W : World} {sp : Nat → Bool}
set_option maxHeartbeats 800000 in
set_option maxRecDepth 100000 in
theorem trod_ware {fuel : Nat} {c0 c1 c2 c3 c4 c5 c6 c7 c8 c9 c10 c11 : Value} {y : DataW H × List MemPlace} (hf : DataW.trod enc Tryz.prog W 0 sp true fuel 60 [c0, c1, c2, c3, c4, c5, c6, c7, c8, c9, c10, c11] = some y) :
  ∃ a : Wr, [c0, c1, c2, c3, c4, c5, c6, c7, c8, c9, c10, c11] = (wcs a).toList ∧ y = (wd a, []) ∧ WrOk a := by
 obtain ⟨xs, n, _, hx, _, hlen, hg⟩ := DataW.trod_struct Tryz.underlying60 hf
 obtain ⟨y0, y1, y2, y3, y4, y5, y6, y7, y8, y9, y10, y11, rfl⟩ := list12 (l := xs) (by simpa using hlen)
 have g0 : DataW.trod enc Tryz.prog W 0 sp true n 9 [c0] = some y0 := by have := hg 0 _ rfl; simpa [Tryz.cells9] using this
 have g1 : DataW.trod enc Tryz.prog W 0 sp true n 3 [c1] = some y1 := by have := hg 1 _ rfl; simpa [Tryz.cells3] using this
 have g2 : DataW.trod enc Tryz.prog W 0 sp true n 3 [c2] = some y2 := by have := hg 2 _ rfl; simpa [Tryz.cells3] using this
 have g3 : DataW.trod enc Tryz.prog W 0 sp true n 3 [c3] = some y3 := by have := hg 3 _ rfl; simpa [Tryz.cells3] using this
 have g4 : DataW.trod enc Tryz.prog W 0 sp true n 3 [c4] = some y4 := by have := hg 4 _ rfl; simpa [Tryz.cells3] using this
 have g5 : DataW.trod enc Tryz.prog W 0 sp true n 3 [c5] = some y5 := by have := hg 5 _ rfl; simpa [Tryz.cells3] using this
 have g6 : DataW.trod enc Tryz.prog W 0 sp true n 3 [c6] = some y6 := by have := hg 6 _ rfl; simpa [Tryz.cells3] using this
 have g7 : DataW.trod enc Tryz.prog W 0 sp true n 3 [c7] = some y7 := by have := hg 7 _ rfl; simpa [Tryz.cells3] using this
 have g8 : DataW.trod enc Tryz.prog W 0 sp true n 3 [c8] = some y8 := by have := hg 8 _ rfl; simpa [Tryz.cells3] using this
 have g9 : DataW.trod enc Tryz.prog W 0 sp true n 3 [c9] = some y9 := by have := hg 9 _ rfl; simpa [Tryz.cells3] using this
 have g10 : DataW.trod enc Tryz.prog W 0 sp true n 3 [c10] = some y10 := by have := hg 10 _ rfl; simpa [Tryz.cells3] using this
 have g11 : DataW.trod enc Tryz.prog W 0 sp true n 3 [c11] = some y11 := by have := hg 11 _ rfl; simpa [Tryz.cells3] using this
 obtain ⟨s, e0, z0, hs⟩ := DataW.trod_string Tryz.underlying9 g0
 obtain ⟨a1, e1, z1, w1⟩ := DataW.trod_int Tryz.underlying3 g1
 obtain ⟨a2, e2, z2, w2⟩ := DataW.trod_int Tryz.underlying3 g2
 obtain ⟨a3, e3, z3, w3⟩ := DataW.trod_int Tryz.underlying3 g3
 obtain ⟨a4, e4, z4, w4⟩ := DataW.trod_int Tryz.underlying3 g4
 obtain ⟨a5, e5, z5, w5⟩ := DataW.trod_int Tryz.underlying3 g5
 obtain ⟨a6, e6, z6, w6⟩ := DataW.trod_int Tryz.underlying3 g6
 obtain ⟨a7, e7, z7, w7⟩ := DataW.trod_int Tryz.underlying3 g7
 obtain ⟨a8, e8, z8, w8⟩ := DataW.trod_int Tryz.underlying3 g8
 obtain ⟨a9, e9, z9, w9⟩ := DataW.trod_int Tryz.underlying3 g9
 obtain ⟨a10, e10, z10, w10⟩ := DataW.trod_int Tryz.underlying3 g10
 obtain ⟨a11, e11, z11, w11⟩ := DataW.trod_int Tryz.underlying3 g11
 simp only [List.cons.injEq, and_true] at e0 e1 e2 e3 e4 e5 e6 e7 e8 e9 e10 e11
 subst e0 e1 e2 e3 e4 e5 e6 e7 e8 e9 e10 e11 z0 z1 z2 z3 z4 z5 z6 z7 z8 z9 z10 z11
 simp only [List.map_cons, List.map_nil, List.flatMap_cons, List.flatMap_nil, List.append_nil] at hx
 exact ⟨⟨s, a1, a2, a3, a4, a5, a6, a7, a8, a9, a10, a11⟩, rfl, hx, hs, w1, w2, w3, w4, w5, w6, w7, w8, w9, w10, w11⟩
set_option maxRecDepth 100000 in
theorem trod_seat {n : Nat} {cs : List Value} {y : DataW H × List MemPlace} (h : DataW.trod enc Tryz.prog W 0 sp true n 62 cs = some y) :
  ∃ s : Sit, cs = (scs s).toList ∧ y = (sd s, []) ∧ SOk s := by
 obtain ⟨y0, y1, y2, m, rfl, hl, h0, h1, h2⟩ := trod_struct3 Tryz.underlying62 h
 obtain ⟨c0, c1, c2, c3, c4, c5, c6, c7, c8, c9, c10, c11, c12, c13, rfl⟩ := list14 (l := cs) (hl.trans Tryz.cells62)
 have g0 : DataW.trod enc Tryz.prog W 0 sp true m 3 [c0] = some y0 := by simpa [Tryz.cells3] using h0
 have g1 : DataW.trod enc Tryz.prog W 0 sp true m 60 [c1, c2, c3, c4, c5, c6, c7, c8, c9, c10, c11, c12] = some y1 := by simpa [Tryz.cells60] using h1
 have g2 : DataW.trod enc Tryz.prog W 0 sp true m 9 [c13] = some y2 := by simpa [Tryz.cells9] using h2
 obtain ⟨a0, e0, z0, w0⟩ := DataW.trod_int Tryz.underlying3 g0
 obtain ⟨a1, e1, z1, w1⟩ := trod_ware g1
 obtain ⟨a2, e2, z2, w2⟩ := DataW.trod_string Tryz.underlying9 g2
 simp only [List.cons.injEq, and_true] at e0 e1 e2
 obtain ⟨u0, u1, u2, u3, u4, u5, u6, u7, u8, u9, u10, u11⟩ := e1
 subst e0 e2 z0 z1 z2 u0 u1 u2 u3 u4 u5 u6 u7 u8 u9 u10 u11
 exact ⟨⟨a0, a1, a2⟩, rfl, rfl, w1.1, w2⟩
end
end Go.Proofs.YtfadmpnpgiceeaaGreat

/- Arguments that are seats, states, actions, places, opened, with what their bulk says. -/
namespace Go.Proofs.YtfadmpnpgiceeaaGreat
open Go.ChangeShapes Go.WideShapes Go.ChangeAt Go.RowKit Go.Joins Go.Deep
theorem Tryz.own : ownKnob Tryz.prog.godebug = none := by kernel_rfl
theorem Tryz.cells31 : Tryz.prog.cellsOf 31 = 3 := by kernel_rfl
theorem Tryz.cells29 : Tryz.prog.cellsOf 29 = 2 := by kernel_rfl
theorem Tryz.cells33 : Tryz.prog.cellsOf 33 = 8 := by kernel_rfl
theorem Tryz.cells27 : Tryz.prog.cellsOf 27 = 7 := by kernel_rfl
theorem Tryz.cells58 : Tryz.prog.cellsOf 58 = 4 := by kernel_rfl
theorem Tryz.cells64 : Tryz.prog.cellsOf 64 = 2 := by kernel_rfl
theorem Tryz.cells4 : Tryz.prog.cellsOf 4 = 1 := by kernel_rfl
theorem Tryz.cells23 : Tryz.prog.cellsOf 23 = 1 := by kernel_rfl
theorem Tryz.cells24 : Tryz.prog.cellsOf 24 = 1 := by kernel_rfl
theorem Tryz.cells25 : Tryz.prog.cellsOf 25 = 1 := by kernel_rfl
theorem list8 {α : Type} {l : List α} (h : l.length = 8) : ∃ c0 c1 c2 c3 c4 c5 c6 c7, l = [c0, c1, c2, c3, c4, c5, c6, c7] := by
 match l, h with
 | [c0, c1, c2, c3, c4, c5, c6, c7], _ => exact ⟨c0, c1, c2, c3, c4, c5, c6, c7, rfl⟩
theorem list7 {α : Type} {l : List α} (h : l.length = 7) : ∃ c0 c1 c2 c3 c4 c5 c6, l = [c0, c1, c2, c3, c4, c5, c6] := by
 match l, h with
 | [c0, c1, c2, c3, c4, c5, c6], _ => exact ⟨c0, c1, c2, c3, c4, c5, c6, rfl⟩
theorem list6 {α : Type} {l : List α} (h : l.length = 6) : ∃ c0 c1 c2 c3 c4 c5, l = [c0, c1, c2, c3, c4, c5] := by
 match l, h with
 | [c0, c1, c2, c3, c4, c5], _ => exact ⟨c0, c1, c2, c3, c4, c5, rfl⟩
theorem list4 {α : Type} {l : List α} (h : l.length = 4) : ∃ c0 c1 c2 c3, l = [c0, c1, c2, c3] := by
 match l, h with
 | [c0, c1, c2, c3], _ => exact ⟨c0, c1, c2, c3, rfl⟩
theorem list2 {α : Type} {l : List α} (h : l.length = 2) : ∃ c0 c1, l = [c0, c1] := by
 match l, h with
 | [c0, c1], _ => exact ⟨c0, c1, rfl⟩
theorem bulk_pos {H : Type} (d : DataW H) : 1 ≤ Rows.uptoBulk d := by
 cases d with
 | lit x => cases x <;> simp only [Rows.uptoBulk] <;> omega
 | _ => simp only [Rows.uptoBulk]; omega
theorem bulkAll_len {H : Type} : ∀ l : List (DataW H), l.length ≤ Rows.uptoBulkAll l
 | [] => by simp [Rows.uptoBulkAll]
 | d :: l => by
  have h1 := bulk_pos d
  have h2 := bulkAll_len l
  simp only [Rows.uptoBulkAll, List.length_cons]
  omega
theorem bulkAll_mem {H : Type} : ∀ (l : List (DataW H)) (d : DataW H), d ∈ l → Rows.uptoBulk d ≤ Rows.uptoBulkAll l
 | [], _, h => by cases h
 | x :: l, d, h => by
  simp only [Rows.uptoBulkAll]
  rcases List.mem_cons.1 h with rfl | h
  ·omega
  ·have := bulkAll_mem l d h
   omega
section
variable {H : Type} {enc : TypeId × Value → H} {W : World}
set_option maxRecDepth 100000 in
theorem trod_place {n : Nat} {c0 c1 c2 : Value} {y : DataW H × List MemPlace} (h : DataW.trod enc Tryz.prog W 0 (fun _ => true) true n 31 [c0, c1, c2] = some y) :
  ∃ p : Plc, c0 = .int .i64 p.1 ∧ c1 = .int .i64 p.2.1 ∧ c2 = .int .i64 p.2.2 := by
 obtain ⟨y0, y1, m, hy, hl, h0, h1⟩ := trod_struct2 Tryz.underlying31 h
 have g0 : DataW.trod enc Tryz.prog W 0 (fun _ => true) true m 3 [c0] = some y0 := by simpa [Tryz.cells3] using h0
 have g1 : DataW.trod enc Tryz.prog W 0 (fun _ => true) true m 29 [c1, c2] = some y1 := by simpa [Tryz.cells29] using h1
 obtain ⟨z0, z1, m2, _, _, k0, k1⟩ := trod_struct2 Tryz.underlying29 g1
 have f0 : DataW.trod enc Tryz.prog W 0 (fun _ => true) true m2 3 [c1] = some z0 := by simpa [Tryz.cells3] using k0
 have f1 : DataW.trod enc Tryz.prog W 0 (fun _ => true) true m2 3 [c2] = some z1 := by simpa [Tryz.cells3] using k1
 obtain ⟨a0, e0, _, _⟩ := DataW.trod_int Tryz.underlying3 g0
 obtain ⟨a1, e1, _, _⟩ := DataW.trod_int Tryz.underlying3 f0
 obtain ⟨a2, e2, _, _⟩ := DataW.trod_int Tryz.underlying3 f1
 simp only [List.cons.injEq, and_true] at e0 e1 e2
 exact ⟨(a0, a1, a2), e0, e1, e2⟩
set_option maxRecDepth 100000 in
theorem open_rowsB {α : Type} [Inhabited α] (c : Enc α) (hgc : Good c) (Q : α → Nat → Prop) (hQ : ∀ x m n, m ≤ n → Q x m → Q x n) {t : TypeId} (hu : Tryz.prog.underlying t = some (.slice c.E)) (hcells : Tryz.prog.cellsOf c.E = c.sz) (hs0 : 0 < c.sz)
  (hE : ∀ n cs y, DataW.trod enc Tryz.prog W 0 (fun _ => true) true n c.E cs = some y → ∃ x : α, cs = c.enc x ∧ Q x (Rows.uptoBulk y.1)) {n : Nat} {cs : List Value} {y : DataW H × List MemPlace} (h : DataW.trod enc Tryz.prog W 0 (fun _ => true) true n t cs = some y) :
  ∃ ao l cap, cs = [.slice ao l.length cap] ∧ RdR c W ao l ∧ (∀ x ∈ l, Q x (Rows.uptoBulk y.1)) ∧ l.length ≤ cap ∧ l.length ≤ Rows.uptoBulk y.1 ∧ (ao = none → cap = 0) := by
 rcases open_slice hu h with ⟨hcs, _⟩ | ⟨a, len, cap, m, n', D, Pl, hcs, _, hl, hm, hmm, hx, hcell⟩
 ·exact ⟨none, [], 0, hcs, .inl rfl, fun x hx => (by cases hx), Nat.le_refl _, Nat.zero_le _, fun _ => rfl⟩
 ·simp only [if_true] at hmm
  subst hmm
  rw [hcells] at hcell
  have hbulk : Rows.uptoBulkAll ((List.range len).map D) ≤ Rows.uptoBulk y.1 := by
   rw [hx]
   simp only [Rows.uptoBulk]
   omega
  have each : ∀ i, i < len → ∃ q : α, (∀ j u, (c.enc q)[j]? = some u → W.cell? (a.add (i * c.sz + j)) = some u) ∧ Q q (Rows.uptoBulk y.1) := by
   intro i hi
   obtain ⟨cs', h1, h2⟩ := hcell i (by omega)
   obtain ⟨_, hlen, hc⟩ := World.cells?_some h1
   obtain ⟨q, rfl, hok⟩ := hE _ _ _ h2
   refine ⟨q, fun j u hj => ?_, hQ _ _ _ (Nat.le_trans (bulkAll_mem _ _ (List.mem_map.2 ⟨i, List.mem_range.2 hi, rfl⟩)) hbulk) hok⟩
   have hj14 : j < c.sz := by rw [← hgc.len q]; exact (List.getElem?_eq_some_iff.1 hj).1
   have e := hc j (by omega)
   rw [add_add] at e
   rw [e]; exact hj
  obtain ⟨q, hq⟩ := choose_lt each
  refine ⟨some a, (List.range len).map q, m, by simpa using hcs, ?_, fun x hx => ?_, by simpa using hl, ?_, fun e => by cases e⟩
  ·by_cases h0 : len = 0
   ·subst h0; exact .inl rfl
   ·obtain ⟨b, off, spot⟩ := a
    have hlen0 : 0 < (c.enc (q 0)).length := by rw [hgc.len]; exact hs0
    have h00 := (hq 0 (by omega)).1 0 _ (List.getElem?_eq_getElem hlen0)
    have hspot : spot = none := by simpa [Addr.add] using World.cell?_spot h00
    subst hspot
    have hbW : b < W.heap.size := by
     have := World.block_lt_of_cell? W _ h00
     rw [add_plain] at this
     exact this
    refine .inr ⟨b, off, rfl, hbW, fun k hk j hj => ?_⟩
    have hk' : k < len := by simpa using hk
    simp only [List.getElem_map, List.getElem_range]
    have hjl : j < (c.enc (q k)).length := by rw [hgc.len]; exact hj
    have := (hq k hk').1 j _ (List.getElem?_eq_getElem hjl)
    rw [add_plain, ← Nat.add_assoc] at this
    rw [this, List.getElem?_eq_getElem hjl]
  ·obtain ⟨i, hi, rfl⟩ := List.mem_map.1 hx
   exact (hq i (List.mem_range.1 hi)).2
  ·have := bulkAll_len ((List.range len).map D)
   rw [List.length_map, List.length_range] at this ⊢
   omega
set_option maxRecDepth 100000 in
theorem trod_parcel (n : Nat) (cs : List Value) (y : DataW H × List MemPlace) (h : DataW.trod enc Tryz.prog W 0 (fun _ => true) true n 64 cs = some y) : ∃ p : F.Pc, cs = encC.enc p ∧ p.1.size ≤ maxLen := by
 obtain ⟨y0, y1, m, _, hl, h0, h1⟩ := trod_struct2 Tryz.underlying64 h
 obtain ⟨c0, c1, rfl⟩ := list2 (l := cs) (hl.trans Tryz.cells64)
 have g0 : DataW.trod enc Tryz.prog W 0 (fun _ => true) true m 9 [c0] = some y0 := by simpa [Tryz.cells9] using h0
 have g1 : DataW.trod enc Tryz.prog W 0 (fun _ => true) true m 3 [c1] = some y1 := by simpa [Tryz.cells3] using h1
 obtain ⟨a0, e0, _, w0⟩ := DataW.trod_string Tryz.underlying9 g0
 obtain ⟨a1, e1, _, _⟩ := DataW.trod_int Tryz.underlying3 g1
 simp only [List.cons.injEq, and_true] at e0 e1
 subst e0 e1
 exact ⟨(a0, a1), rfl, w0⟩
theorem trod_text (n : Nat) (cs : List Value) (y : DataW H × List MemPlace) (h : DataW.trod enc Tryz.prog W 0 (fun _ => true) true n 9 cs = some y) : ∃ p : ByteArray, cs = encT.enc p ∧ p.size ≤ maxLen := by
 obtain ⟨a0, e0, _, w0⟩ := DataW.trod_string Tryz.underlying9 h
 exact ⟨a0, e0, w0⟩
theorem fl_of_rd {ao : Option Addr} {l : List F.Pc} (h : RdR encC W ao l) (hs : ∀ p ∈ l, p.1.size ≤ maxLen) : F.Fl W ao l := by
 refine ⟨hs, ?_⟩
 rcases h with h | ⟨b, off, e, hlt, hc⟩
 ·exact .inl h
 ·exact .inr ⟨b, off, e, hlt, fun k hk => ⟨hc k hk 0 (by decide), hc k hk 1 (by decide)⟩⟩
theorem tx_of_rd {ao : Option Addr} {l : List ByteArray} (h : RdR encT W ao l) (hs : ∀ p ∈ l, p.size ≤ maxLen) : Tx W ao l := by
 refine ⟨hs, ?_⟩
 rcases h with h | ⟨b, off, e, hlt, hc⟩
 ·exact .inl h
 ·refine .inr ⟨b, off, e, hlt, fun k hk => ?_⟩
  have := hc k hk 0 (by decide)
  simpa using this
theorem trod_fluidB {n : Nat} {cs : List Value} {y : DataW H × List MemPlace} (h : DataW.trod enc Tryz.prog W 0 (fun _ => true) true n 24 cs = some y) : ∃ ao l cap, cs = [.slice ao l.length cap] ∧ F.Fl W ao l ∧ l.length ≤ Rows.uptoBulk y.1 ∧ (ao = none → cap = 0) := by
 obtain ⟨ao, l, cap, e, hr, hq, _, hl, hn⟩ := open_rowsB encC goodC (fun p _ => p.1.size ≤ maxLen) (fun _ _ _ _ h => h) Tryz.underlying24 Tryz.cells64 (by decide) trod_parcel h
 exact ⟨ao, l, cap, e, fl_of_rd hr hq, hl, hn⟩
set_option maxRecDepth 100000 in
theorem trod_filledB (n : Nat) (cs : List Value) (y : DataW H × List MemPlace) (h : DataW.trod enc Tryz.prog W 0 (fun _ => true) true n 58 cs = some y) : ∃ x : Wh, cs = encW.enc x ∧ (F.Fl W x.2.1 x.2.2.2 ∧ (x.2.1 = none → x.2.2.1 = 0) ∧ x.2.2.2.length ≤ Rows.uptoBulk y.1) := by
 obtain ⟨y0, y1, m, hy, hl, h0, h1⟩ := trod_struct2 Tryz.underlying58 h
 obtain ⟨c0, c1, c2, c3, rfl⟩ := list4 (l := cs) (hl.trans Tryz.cells58)
 have g0 : DataW.trod enc Tryz.prog W 0 (fun _ => true) true m 31 [c0, c1, c2] = some y0 := by simpa [Tryz.cells31] using h0
 have g1 : DataW.trod enc Tryz.prog W 0 (fun _ => true) true m 24 [c3] = some y1 := by simpa [Tryz.cells24] using h1
 obtain ⟨p, rfl, rfl, rfl⟩ := trod_place g0
 obtain ⟨ao, l, cap, e, hf, hle, hn⟩ := trod_fluidB g1
 simp only [List.cons.injEq, and_true] at e
 subst e
 refine ⟨(p, (ao, cap, l)), rfl, hf, hn, ?_⟩
 rw [hy]
 simp only [Rows.uptoBulk, Rows.uptoBulkAll]
 omega
set_option maxHeartbeats 800000 in
set_option maxRecDepth 100000 in
theorem open_actionB {b0 : Nat} {v : Value} {d : DataW H} {p : List MemPlace} (hv : Value.okWide Tryz.prog W .any b0 33 v) (h : DataW.Trod enc Tryz.prog W 0 (fun _ => true) true 33 v d p) : ∃ a : Acn, v = av a ∧ a.label.size ≤ maxLen ∧ (Lit.int .i64 a.kind).wf = true := by
 obtain ⟨cs, rfl, hsz⟩ := okWide_struct Tryz.underlying33 hv
 obtain ⟨l⟩ := cs
 obtain ⟨fuel, hf⟩ := h
 have hf : DataW.trod enc Tryz.prog W 0 (fun _ => true) true fuel 33 l = some (d, p) := hf
 obtain ⟨xs, m, _, _, hl, hlen, hg⟩ := DataW.trod_struct Tryz.underlying33 hf
 obtain ⟨c0, c1, c2, c3, c4, c5, c6, c7, rfl⟩ := list8 (l := l) (hl.trans Tryz.cells33)
 obtain ⟨y0, y1, y2, y3, y4, y5, rfl⟩ := list6 (l := xs) (by simpa using hlen)
 have g0 : DataW.trod enc Tryz.prog W 0 (fun _ => true) true m 3 [c0] = some y0 := by have := hg 0 _ rfl; simpa [Tryz.cells3] using this
 have g1 : DataW.trod enc Tryz.prog W 0 (fun _ => true) true m 31 [c1, c2, c3] = some y1 := by have := hg 1 _ rfl; simpa [Tryz.cells31] using this
 have g2 : DataW.trod enc Tryz.prog W 0 (fun _ => true) true m 9 [c4] = some y2 := by have := hg 2 _ rfl; simpa [Tryz.cells9] using this
 have g3 : DataW.trod enc Tryz.prog W 0 (fun _ => true) true m 3 [c5] = some y3 := by have := hg 3 _ rfl; simpa [Tryz.cells3] using this
 have g4 : DataW.trod enc Tryz.prog W 0 (fun _ => true) true m 3 [c6] = some y4 := by have := hg 4 _ rfl; simpa [Tryz.cells3] using this
 have g5 : DataW.trod enc Tryz.prog W 0 (fun _ => true) true m 3 [c7] = some y5 := by have := hg 5 _ rfl; simpa [Tryz.cells3] using this
 obtain ⟨a0, e0, _, w0⟩ := DataW.trod_int Tryz.underlying3 g0
 obtain ⟨pp, rfl, rfl, rfl⟩ := trod_place g1
 obtain ⟨a2, e2, _, w2⟩ := DataW.trod_string Tryz.underlying9 g2
 obtain ⟨a3, e3, _, _⟩ := DataW.trod_int Tryz.underlying3 g3
 obtain ⟨a4, e4, _, _⟩ := DataW.trod_int Tryz.underlying3 g4
 obtain ⟨a5, e5, _, _⟩ := DataW.trod_int Tryz.underlying3 g5
 simp only [List.cons.injEq, and_true] at e0 e2 e3 e4 e5
 subst e0 e2 e3 e4 e5
 exact ⟨⟨a0, pp, a2, a3, a4, a5⟩, rfl, w2, w0⟩
set_option maxRecDepth 100000 in
theorem open_placeB {b0 : Nat} {v : Value} {d : DataW H} {p : List MemPlace} (hv : Value.okWide Tryz.prog W .any b0 31 v) (h : DataW.Trod enc Tryz.prog W 0 (fun _ => true) true 31 v d p) : ∃ q : Plc, v = plv q := by
 obtain ⟨cs, rfl, hsz⟩ := okWide_struct Tryz.underlying31 hv
 obtain ⟨l⟩ := cs
 obtain ⟨fuel, hf⟩ := h
 have hf : DataW.trod enc Tryz.prog W 0 (fun _ => true) true fuel 31 l = some (d, p) := hf
 obtain ⟨y0, y1, m, _, hl, _, _⟩ := trod_struct2 Tryz.underlying31 hf
 obtain ⟨c0, c1, c2, rfl⟩ := list3 (l := l) (hl.trans Tryz.cells31)
 obtain ⟨q, rfl, rfl, rfl⟩ := trod_place hf
 exact ⟨q, rfl⟩
set_option maxRecDepth 100000 in
theorem open_seatsB {b0 : Nat} {v : Value} {d : DataW H} {p : List MemPlace} (hv : Value.okWide Tryz.prog W .any b0 22 v) (h : DataW.Trod enc Tryz.prog W 0 (fun _ => true) true 22 v d p) (hb : Rows.uptoBulk d ≤ 1048576) :
  ∃ ao l cap, v = .slice ao l.length cap ∧ Dk W ao cap l ∧ l.length ≤ 1000000000 ∧ (ao = none → cap = 0) := by
 obtain ⟨a0, len, cap, rfl⟩ := okWide_slice Tryz.underlying22 hv
 obtain ⟨fuel, hf⟩ := h
 haveI : Inhabited Sit := ⟨zSt⟩
 obtain ⟨ao, l, cap', e, hr, hq, hle, hl, hn⟩ := open_rowsB encSt goodSt (fun s _ => SOk s) (fun _ _ _ _ h => h) Tryz.underlying22 Tryz.cells62 (by decide) (fun n cs y h => by
  obtain ⟨s, e, _, hok⟩ := trod_seat h
  exact ⟨s, e, hok⟩) hf
 simp only [Value.cells] at e
 have e' : Value.slice a0 len cap = Value.slice ao l.length cap' := by simpa using e
 rw [e']
 refine ⟨ao, l, cap', rfl, ⟨sts_rd hr, hle, hq⟩, ?_, hn⟩
 simp only at hl
 omega
set_option maxHeartbeats 800000 in
set_option maxRecDepth 100000 in
theorem open_stateB {b0 : Nat} {v : Value} {d : DataW H} {p : List MemPlace} (hv : Value.okWide Tryz.prog W .any b0 27 v) (h : DataW.Trod enc Tryz.prog W 0 (fun _ => true) true 27 v d p) (hb : Rows.uptoBulk d ≤ 1048576) : ∃ s : Sm, v = smv s ∧ SmIn W s ∧ SmN s ∧ SmB s := by
 obtain ⟨cs, rfl, hsz⟩ := okWide_struct Tryz.underlying27 hv
 obtain ⟨l⟩ := cs
 obtain ⟨fuel, hf⟩ := h
 have hf : DataW.trod enc Tryz.prog W 0 (fun _ => true) true fuel 27 l = some (d, p) := hf
 obtain ⟨xs, m, _, hx, hl, hlen, hg⟩ := DataW.trod_struct Tryz.underlying27 hf
 obtain ⟨c0, c1, c2, c3, c4, c5, c6, rfl⟩ := list7 (l := l) (hl.trans Tryz.cells27)
 obtain ⟨y0, y1, y2, y3, y4, y5, y6, rfl⟩ := list7 (l := xs) (by simpa using hlen)
 have g0 : DataW.trod enc Tryz.prog W 0 (fun _ => true) true m 23 [c0] = some y0 := by have := hg 0 _ rfl; simpa [Tryz.cells23] using this
 have g1 : DataW.trod enc Tryz.prog W 0 (fun _ => true) true m 4 [c1] = some y1 := by have := hg 1 _ rfl; simpa [Tryz.cells4] using this
 have g2 : DataW.trod enc Tryz.prog W 0 (fun _ => true) true m 24 [c2] = some y2 := by have := hg 2 _ rfl; simpa [Tryz.cells24] using this
 have g3 : DataW.trod enc Tryz.prog W 0 (fun _ => true) true m 25 [c3] = some y3 := by have := hg 3 _ rfl; simpa [Tryz.cells25] using this
 have g4 : DataW.trod enc Tryz.prog W 0 (fun _ => true) true m 3 [c4] = some y4 := by have := hg 4 _ rfl; simpa [Tryz.cells3] using this
 have g5 : DataW.trod enc Tryz.prog W 0 (fun _ => true) true m 3 [c5] = some y5 := by have := hg 5 _ rfl; simpa [Tryz.cells3] using this
 have g6 : DataW.trod enc Tryz.prog W 0 (fun _ => true) true m 3 [c6] = some y6 := by have := hg 6 _ rfl; simpa [Tryz.cells3] using this
 obtain ⟨ao0, l0, cap0, e0, hr0, hq0, _, hl0, _⟩ := open_rowsB encW goodW (fun x m => F.Fl W x.2.1 x.2.2.2 ∧ (x.2.1 = none → x.2.2.1 = 0) ∧ x.2.2.2.length ≤ m) (fun _ _ _ hm h => ⟨h.1, h.2.1, Nat.le_trans h.2.2 hm⟩) Tryz.underlying23 Tryz.cells58 (by decide) trod_filledB g0
 obtain ⟨a1, e1, _⟩ := DataW.trod_bool Tryz.underlying4 g1
 obtain ⟨ao2, l2, cap2, e2, hf2, hl2, hn2⟩ := trod_fluidB g2
 obtain ⟨ao3, l3, cap3, e3, hr3, hq3, _, hl3, hn3⟩ := open_rowsB encT goodT (fun x _ => x.size ≤ maxLen) (fun _ _ _ _ h => h) Tryz.underlying25 Tryz.cells9 (by decide) trod_text g3
 obtain ⟨a4, e4, _, _⟩ := DataW.trod_int Tryz.underlying3 g4
 obtain ⟨a5, e5, _, _⟩ := DataW.trod_int Tryz.underlying3 g5
 obtain ⟨a6, e6, _, _⟩ := DataW.trod_int Tryz.underlying3 g6
 simp only [List.cons.injEq, and_true] at e0 e1 e2 e3 e4 e5 e6
 subst e0 e1 e2 e3 e4 e5 e6
 simp only [List.map_cons, List.map_nil, Prod.mk.injEq] at hx
 rw [hx.1] at hb
 simp only [Rows.uptoBulk, Rows.uptoBulkAll] at hb
 exact ⟨⟨ao0, cap0, l0, a1, ao2, cap2, l2, ao3, cap3, l3, a4, a5, a6⟩, rfl, ⟨whs_of hr0 fun x hx => (hq0 x hx).1, hf2, tx_of_rd hr3 hq3⟩, ⟨fun x hx => (hq0 x hx).2.1, hn2, hn3⟩, ⟨by simp only; omega, fun x hx => by have := (hq0 x hx).2.2; simp only at hx; omega, by simp only; omega, by simp only; omega⟩⟩
end
end Go.Proofs.YtfadmpnpgiceeaaGreat
