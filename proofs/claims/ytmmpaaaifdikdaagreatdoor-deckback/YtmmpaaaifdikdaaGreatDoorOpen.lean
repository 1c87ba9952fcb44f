/- Arguments that are wares or spots, opened and shut. -/
import Derived.Test.YtmmpaaaifdikdaaGreatDoorWare
import Derived.ProofKit
import Derived.OpenShut
import Derived.ShutString
import Derived.Lib.SmallJoins
namespace Go.Proofs.YtmmpaaaifdikdaaGreatDoor
open Go.ChangeShapes Go.WideShapes Go.ChangeAt Go.RowKit Go.Joins
open Go.ChangeMaps (open_string shut_string)

theorem Tryz.cells50 : Tryz.prog.cellsOf 50 = 2 := by kernel_rfl
theorem Tryz.cells34 : Tryz.prog.cellsOf 34 = 12 := by kernel_rfl
theorem Tryz.cells9 : Tryz.prog.cellsOf 9 = 1 := by kernel_rfl
theorem Tryz.cells3 : Tryz.prog.cellsOf 3 = 1 := by kernel_rfl
theorem list12 {α : Type} {l : List α} (h : l.length = 12) : ∃ c0 c1 c2 c3 c4 c5 c6 c7 c8 c9 c10 c11, l = [c0, c1, c2, c3, c4, c5, c6, c7, c8, c9, c10, c11] := by
  match l, h with
  | [c0, c1, c2, c3, c4, c5, c6, c7, c8, c9, c10, c11], _ => exact ⟨c0, c1, c2, c3, c4, c5, c6, c7, c8, c9, c10, c11, rfl⟩
/-- What is read of a ware. -/
def wd {H : Type} (a : Wr) : DataW H := .agg [.lit (.string a.name.data.toList), .lit (.int .i64 a.kind), .lit (.int .i64 a.rows), .lit (.int .i64 a.cols), .lit (.int .i64 a.x), .lit (.int .i64 a.y), .lit (.int .i64 a.pitch), .lit (.int .i64 a.wid), .lit (.int .i64 a.len), .lit (.int .i64 a.hei), .lit (.int .i64 a.deep), .lit (.int .i64 a.cap)]
/-- All numbers of a ware are ints. -/
def WrOk (a : Wr) : Prop := a.name.size ≤ maxLen ∧ (Lit.int .i64 a.kind).wf = true ∧ (Lit.int .i64 a.rows).wf = true ∧ (Lit.int .i64 a.cols).wf = true ∧ (Lit.int .i64 a.x).wf = true ∧ (Lit.int .i64 a.y).wf = true ∧ (Lit.int .i64 a.pitch).wf = true ∧ (Lit.int .i64 a.wid).wf = true ∧ (Lit.int .i64 a.len).wf = true ∧ (Lit.int .i64 a.hei).wf = true ∧ (Lit.int .i64 a.deep).wf = true ∧ (Lit.int .i64 a.cap).wf = true
theorem i64_in {a : Int} (h : (Lit.int .i64 a).wf = true) : -9223372036854775808 ≤ a ∧ a ≤ 9223372036854775807 := by
  have h1 : IntKind.i64.min = -9223372036854775808 := rfl
  have h2 : IntKind.i64.max = 9223372036854775807 := rfl
  simp only [Lit.wf, Bool.and_eq_true, decide_eq_true_eq] at h
  omega
set_option maxRecDepth 100000 in
theorem open_spot {H : Type} {enc : TypeId × Value → H} {W : World} {b0 : Nat} {v : Value} {d : DataW H} {p : List MemPlace} {sp : Nat → Bool} (hv : Value.okWide Tryz.prog W .any b0 50 v) (h : DataW.Trod enc Tryz.prog W 0 sp true 50 v d p) :
    ∃ r c : Int, v = .agg #[.int .i64 r, .int .i64 c] ∧ d = .agg [.lit (.int .i64 r), .lit (.int .i64 c)] ∧ p = [] ∧ (Lit.int .i64 r).wf = true ∧ (Lit.int .i64 c).wf = true := by
  obtain ⟨c0, c1, y0, y1, m0, rfl, rfl, rfl, hy0, hy1⟩ := open_agg2 Tryz.underlying50 (by kernel_rfl) Tryz.cells50 hv h
  obtain ⟨a0, e0, rfl, wa0⟩ := DataW.trod_int Tryz.underlying3 hy0
  obtain ⟨a1, e1, rfl, wa1⟩ := DataW.trod_int Tryz.underlying3 hy1
  simp at e0 e1
  subst e0 e1
  exact ⟨a0, a1, rfl, rfl, rfl, wa0, wa1⟩
set_option maxRecDepth 100000 in
theorem shut_spot {H : Type} {enc : TypeId × Value → H} {W : World} {sp : Nat → Bool} {r c : Int} (wa : (Lit.int .i64 r).wf = true) (wb : (Lit.int .i64 c).wf = true) :
    DataW.Trod enc Tryz.prog W 0 sp true 50 (.agg #[.int .i64 r, .int .i64 c]) (.agg [.lit (.int .i64 r), .lit (.int .i64 c)]) [] :=
  shut_agg2 (y0 := (.lit (.int .i64 r), [])) (y1 := (.lit (.int .i64 c), [])) Tryz.underlying50 (by kernel_rfl) Tryz.cells50 ⟨1, by simp [DataW.trod, Tryz.underlying3, wa]⟩ ⟨1, by simp [DataW.trod, Tryz.underlying3, wb]⟩

set_option maxHeartbeats 800000 in
set_option maxRecDepth 100000 in
theorem open_ware {H : Type} {enc : TypeId × Value → H} {W : World} {b0 : Nat} {v : Value} {d : DataW H} {p : List MemPlace} {sp : Nat → Bool} (hv : Value.okWide Tryz.prog W .any b0 34 v) (h : DataW.Trod enc Tryz.prog W 0 sp true 34 v d p) :
    ∃ a : Wr, v = wv a ∧ d = wd a ∧ p = [] ∧ WrOk a := by
  obtain ⟨cs, rfl, hsz⟩ := okWide_struct Tryz.underlying34 hv
  obtain ⟨l⟩ := cs
  obtain ⟨c0, c1, c2, c3, c4, c5, c6, c7, c8, c9, c10, c11, rfl⟩ := list12 (l := l) (hsz.trans Tryz.cells34)
  obtain ⟨fuel, hf⟩ := h
  obtain ⟨xs, n, _, hx, _, hlen, hg⟩ := DataW.trod_struct Tryz.underlying34 hf
  obtain ⟨y0, y1, y2, y3, y4, y5, y6, y7, y8, y9, y10, y11, rfl⟩ := list12 (l := xs) (by simpa using hlen)
  have g0 : DataW.trod enc Tryz.prog W 0 sp true n 9 [c0] = some y0 := by have := hg 0 _ rfl; simpa [Value.cells, Tryz.cells9] using this
  have g1 : DataW.trod enc Tryz.prog W 0 sp true n 3 [c1] = some y1 := by have := hg 1 _ rfl; simpa [Value.cells, Tryz.cells3] using this
  have g2 : DataW.trod enc Tryz.prog W 0 sp true n 3 [c2] = some y2 := by have := hg 2 _ rfl; simpa [Value.cells, Tryz.cells3] using this
  have g3 : DataW.trod enc Tryz.prog W 0 sp true n 3 [c3] = some y3 := by have := hg 3 _ rfl; simpa [Value.cells, Tryz.cells3] using this
  have g4 : DataW.trod enc Tryz.prog W 0 sp true n 3 [c4] = some y4 := by have := hg 4 _ rfl; simpa [Value.cells, Tryz.cells3] using this
  have g5 : DataW.trod enc Tryz.prog W 0 sp true n 3 [c5] = some y5 := by have := hg 5 _ rfl; simpa [Value.cells, Tryz.cells3] using this
  have g6 : DataW.trod enc Tryz.prog W 0 sp true n 3 [c6] = some y6 := by have := hg 6 _ rfl; simpa [Value.cells, Tryz.cells3] using this
  have g7 : DataW.trod enc Tryz.prog W 0 sp true n 3 [c7] = some y7 := by have := hg 7 _ rfl; simpa [Value.cells, Tryz.cells3] using this
  have g8 : DataW.trod enc Tryz.prog W 0 sp true n 3 [c8] = some y8 := by have := hg 8 _ rfl; simpa [Value.cells, Tryz.cells3] using this
  have g9 : DataW.trod enc Tryz.prog W 0 sp true n 3 [c9] = some y9 := by have := hg 9 _ rfl; simpa [Value.cells, Tryz.cells3] using this
  have g10 : DataW.trod enc Tryz.prog W 0 sp true n 3 [c10] = some y10 := by have := hg 10 _ rfl; simpa [Value.cells, Tryz.cells3] using this
  have g11 : DataW.trod enc Tryz.prog W 0 sp true n 3 [c11] = some y11 := by have := hg 11 _ rfl; simpa [Value.cells, Tryz.cells3] using this
  obtain ⟨s, e0, z0, hs⟩ := DataW.trod_string Tryz.underlying9 g0
  obtain ⟨a1, e1, z1, w1⟩ := DataW.trod_int Tryz.underlying3 g1
  obtain ⟨a2, e2, z2, w2⟩ := DataW.trod_int Tryz.underlying3 g2
  obtain ⟨a3, e3, z3, w3⟩ := DataW.trod_int Tryz.underlying3 g3
  obtain ⟨a4, e4, z4, w4⟩ := DataW.trod_int Tryz.underlying3 g4
  obtain ⟨a5, e5, z5, w5⟩ := DataW.trod_int Tryz.underlying3 g5
  obtain ⟨a6, e6, z6, w6⟩ := DataW.trod_int Tryz.underlying3 g6
  obtain ⟨a7, e7, z7, w7⟩ := DataW.trod_int Tryz.underlying3 g7
  obtain ⟨a8, e8, z8, w8⟩ := DataW.trod_int Tryz.underlying3 g8
  obtain ⟨a9, e9, z9, w9⟩ := DataW.trod_int Tryz.underlying3 g9
  obtain ⟨a10, e10, z10, w10⟩ := DataW.trod_int Tryz.underlying3 g10
  obtain ⟨a11, e11, z11, w11⟩ := DataW.trod_int Tryz.underlying3 g11
  simp only [List.cons.injEq, and_true] at e0 e1 e2 e3 e4 e5 e6 e7 e8 e9 e10 e11
  subst e0 e1 e2 e3 e4 e5 e6 e7 e8 e9 e10 e11 z0 z1 z2 z3 z4 z5 z6 z7 z8 z9 z10 z11
  simp only [Prod.mk.injEq, List.map_cons, List.map_nil, List.flatMap_cons, List.flatMap_nil, List.append_nil] at hx
  exact ⟨⟨s, a1, a2, a3, a4, a5, a6, a7, a8, a9, a10, a11⟩, rfl, hx.1, hx.2, hs, w1, w2, w3, w4, w5, w6, w7, w8, w9, w10, w11⟩

set_option maxHeartbeats 800000 in
set_option maxRecDepth 100000 in
theorem shut_ware {H : Type} {enc : TypeId × Value → H} {W : World} {sp : Nat → Bool} {a : Wr} (h : WrOk a) : DataW.Trod enc Tryz.prog W 0 sp true 34 (wv a) (wd a) [] := by
  obtain ⟨hs, w1, w2, w3, w4, w5, w6, w7, w8, w9, w10, w11⟩ := h
  have ts := trod_struct_mk (enc := enc) (w := W) (base := 0) (spare := sp) (held := true) (n := 1) (cs := (wcs a).toList) (xs := [(.lit (.string a.name.data.toList), []), (.lit (.int .i64 a.kind), []), (.lit (.int .i64 a.rows), []), (.lit (.int .i64 a.cols), []), (.lit (.int .i64 a.x), []), (.lit (.int .i64 a.y), []), (.lit (.int .i64 a.pitch), []), (.lit (.int .i64 a.wid), []), (.lit (.int .i64 a.len), []), (.lit (.int .i64 a.hei), []), (.lit (.int .i64 a.deep), []), (.lit (.int .i64 a.cap), [])]) Tryz.underlying34 (by simp [Tryz.cells34])
    (by simp [Tryz.cells9, Tryz.cells3, DataW.trod, Tryz.underlying9, Tryz.underlying3, hs, w1, w2, w3, w4, w5, w6, w7, w8, w9, w10, w11])
  exact ⟨_, by simpa [Value.cells, wd] using ts⟩
end Go.Proofs.YtmmpaaaifdikdaaGreatDoor
