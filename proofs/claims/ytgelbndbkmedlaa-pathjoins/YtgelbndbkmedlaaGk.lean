import Derived.Test.YtgelbndbkmedlaaGh
import Derived.ProofKit
import Derived.OpenShut
import Derived.ShutString
import Derived.SizedLaws
import Derived.Deep.SlicePairs
import Derived.Deep.Strs
import Derived.Lib.SmallJoins
import Derived.Test.YtgelbndbkmedlaaGb
import Derived.Test.YtgelbndbkmedlaaGd

/- Arguments that are slices of seats, opened. -/
namespace Go.Proofs.Ytgelbndbkmedlaa
open Go.ChangeShapes Go.WideShapes Go.ChangeAt Go.RowKit Go.Joins Go.Deep
open Go.ChangeMaps (open_string shut_string)
theorem Try.cells77 : Try.prog.cellsOf 77 = 12 := by kernel_rfl
theorem Try.cells9 : Try.prog.cellsOf 9 = 1 := by kernel_rfl
theorem Try.cells3 : Try.prog.cellsOf 3 = 1 := by kernel_rfl
theorem list12 {α : Type} {l : List α} (h : l.length = 12) : ∃ c0 c1 c2 c3 c4 c5 c6 c7 c8 c9 c10 c11, l = [c0, c1, c2, c3, c4, c5, c6, c7, c8, c9, c10, c11] := by
  match l, h with
  | [c0, c1, c2, c3, c4, c5, c6, c7, c8, c9, c10, c11], _ => exact ⟨c0, c1, c2, c3, c4, c5, c6, c7, c8, c9, c10, c11, rfl⟩
/-- What is read of a ware. -/
def wd {H : Type} (a : Wr) : DataW H := .agg [.lit (.string a.name.data.toList), .lit (.int .i64 a.kind), .lit (.int .i64 a.rows), .lit (.int .i64 a.cols), .lit (.int .i64 a.x), .lit (.int .i64 a.y), .lit (.int .i64 a.pitch), .lit (.int .i64 a.wid), .lit (.int .i64 a.len), .lit (.int .i64 a.hei), .lit (.int .i64 a.deep), .lit (.int .i64 a.cap)]
/-- All numbers of a ware are ints. -/
def WrOk (a : Wr) : Prop := a.name.size ≤ maxLen ∧ (Lit.int .i64 a.kind).wf = true ∧ (Lit.int .i64 a.rows).wf = true ∧ (Lit.int .i64 a.cols).wf = true ∧ (Lit.int .i64 a.x).wf = true ∧ (Lit.int .i64 a.y).wf = true ∧ (Lit.int .i64 a.pitch).wf = true ∧ (Lit.int .i64 a.wid).wf = true ∧ (Lit.int .i64 a.len).wf = true ∧ (Lit.int .i64 a.hei).wf = true ∧ (Lit.int .i64 a.deep).wf = true ∧ (Lit.int .i64 a.cap).wf = true
theorem i64_in {a : Int} (h : (Lit.int .i64 a).wf = true) : -9223372036854775808 ≤ a ∧ a ≤ 9223372036854775807 := by
  have h1 : IntKind.i64.min = -9223372036854775808 := rfl
  have h2 : IntKind.i64.max = 9223372036854775807 := rfl
  simp only [Lit.wf, Bool.and_eq_true, decide_eq_true_eq] at h
  omega
open Go.ChangeShapes Go.WideShapes Go.ChangeAt Go.RowKit Go.Joins Go.Deep
open Go.ChangeMaps (open_string shut_string)
theorem Try.laidOut : laidOutB Try.prog = true := by kernel_rfl
theorem Try.cells79 : Try.prog.cellsOf 79 = 14 := by kernel_rfl
theorem list14 {α : Type} {l : List α} (h : l.length = 14) : ∃ c0 c1 c2 c3 c4 c5 c6 c7 c8 c9 c10 c11 c12 c13, l = [c0, c1, c2, c3, c4, c5, c6, c7, c8, c9, c10, c11, c12, c13] := by
  match l, h with
  | [c0, c1, c2, c3, c4, c5, c6, c7, c8, c9, c10, c11, c12, c13], _ => exact ⟨c0, c1, c2, c3, c4, c5, c6, c7, c8, c9, c10, c11, c12, c13, rfl⟩
theorem list3 {α : Type} {l : List α} (h : l.length = 3) : ∃ c0 c1 c2, l = [c0, c1, c2] := by
  match l, h with
  | [c0, c1, c2], _ => exact ⟨c0, c1, c2, rfl⟩
/-- What is read of a seat, of a place. -/
def sd {H : Type} (s : Sit) : DataW H := .agg [.lit (.int .i64 s.slot), wd s.ware, .lit (.string s.name.data.toList)]
section
variable {H : Type} {enc : TypeId × Value → H} {W : World} {sp : Nat → Bool}
set_option maxHeartbeats 800000 in
set_option maxRecDepth 100000 in
theorem trod_ware {fuel : Nat} {c0 c1 c2 c3 c4 c5 c6 c7 c8 c9 c10 c11 : Value} {y : DataW H × List MemPlace} (hf : DataW.trod enc Try.prog W 0 sp true fuel 77 [c0, c1, c2, c3, c4, c5, c6, c7, c8, c9, c10, c11] = some y) :
    ∃ a : Wr, [c0, c1, c2, c3, c4, c5, c6, c7, c8, c9, c10, c11] = (wcs a).toList ∧ y = (wd a, []) ∧ WrOk a := by
  obtain ⟨xs, n, _, hx, _, hlen, hg⟩ := DataW.trod_struct Try.underlying77 hf
  obtain ⟨y0, y1, y2, y3, y4, y5, y6, y7, y8, y9, y10, y11, rfl⟩ := list12 (l := xs) (by simpa using hlen)
  have g0 : DataW.trod enc Try.prog W 0 sp true n 9 [c0] = some y0 := by have := hg 0 _ rfl; simpa [Try.cells9] using this
  have g1 : DataW.trod enc Try.prog W 0 sp true n 3 [c1] = some y1 := by have := hg 1 _ rfl; simpa [Try.cells3] using this
  have g2 : DataW.trod enc Try.prog W 0 sp true n 3 [c2] = some y2 := by have := hg 2 _ rfl; simpa [Try.cells3] using this
  have g3 : DataW.trod enc Try.prog W 0 sp true n 3 [c3] = some y3 := by have := hg 3 _ rfl; simpa [Try.cells3] using this
  have g4 : DataW.trod enc Try.prog W 0 sp true n 3 [c4] = some y4 := by have := hg 4 _ rfl; simpa [Try.cells3] using this
  have g5 : DataW.trod enc Try.prog W 0 sp true n 3 [c5] = some y5 := by have := hg 5 _ rfl; simpa [Try.cells3] using this
  have g6 : DataW.trod enc Try.prog W 0 sp true n 3 [c6] = some y6 := by have := hg 6 _ rfl; simpa [Try.cells3] using this
  have g7 : DataW.trod enc Try.prog W 0 sp true n 3 [c7] = some y7 := by have := hg 7 _ rfl; simpa [Try.cells3] using this
  have g8 : DataW.trod enc Try.prog W 0 sp true n 3 [c8] = some y8 := by have := hg 8 _ rfl; simpa [Try.cells3] using this
  have g9 : DataW.trod enc Try.prog W 0 sp true n 3 [c9] = some y9 := by have := hg 9 _ rfl; simpa [Try.cells3] using this
  have g10 : DataW.trod enc Try.prog W 0 sp true n 3 [c10] = some y10 := by have := hg 10 _ rfl; simpa [Try.cells3] using this
  have g11 : DataW.trod enc Try.prog W 0 sp true n 3 [c11] = some y11 := by have := hg 11 _ rfl; simpa [Try.cells3] using this
  obtain ⟨s, e0, z0, hs⟩ := DataW.trod_string Try.underlying9 g0
  obtain ⟨a1, e1, z1, w1⟩ := DataW.trod_int Try.underlying3 g1
  obtain ⟨a2, e2, z2, w2⟩ := DataW.trod_int Try.underlying3 g2
  obtain ⟨a3, e3, z3, w3⟩ := DataW.trod_int Try.underlying3 g3
  obtain ⟨a4, e4, z4, w4⟩ := DataW.trod_int Try.underlying3 g4
  obtain ⟨a5, e5, z5, w5⟩ := DataW.trod_int Try.underlying3 g5
  obtain ⟨a6, e6, z6, w6⟩ := DataW.trod_int Try.underlying3 g6
  obtain ⟨a7, e7, z7, w7⟩ := DataW.trod_int Try.underlying3 g7
  obtain ⟨a8, e8, z8, w8⟩ := DataW.trod_int Try.underlying3 g8
  obtain ⟨a9, e9, z9, w9⟩ := DataW.trod_int Try.underlying3 g9
  obtain ⟨a10, e10, z10, w10⟩ := DataW.trod_int Try.underlying3 g10
  obtain ⟨a11, e11, z11, w11⟩ := DataW.trod_int Try.underlying3 g11
  simp only [List.cons.injEq, and_true] at e0 e1 e2 e3 e4 e5 e6 e7 e8 e9 e10 e11
  subst e0 e1 e2 e3 e4 e5 e6 e7 e8 e9 e10 e11 z0 z1 z2 z3 z4 z5 z6 z7 z8 z9 z10 z11
  simp only [List.map_cons, List.map_nil, List.flatMap_cons, List.flatMap_nil, List.append_nil] at hx
  exact ⟨⟨s, a1, a2, a3, a4, a5, a6, a7, a8, a9, a10, a11⟩, rfl, hx, hs, w1, w2, w3, w4, w5, w6, w7, w8, w9, w10, w11⟩
set_option maxRecDepth 100000 in
theorem trod_seat {n : Nat} {cs : List Value} {y : DataW H × List MemPlace} (h : DataW.trod enc Try.prog W 0 sp true n 79 cs = some y) :
    ∃ s : Sit, cs = (scs s).toList ∧ y = (sd s, []) ∧ SOk s := by
  obtain ⟨y0, y1, y2, m, rfl, hl, h0, h1, h2⟩ := trod_struct3 Try.underlying79 h
  obtain ⟨c0, c1, c2, c3, c4, c5, c6, c7, c8, c9, c10, c11, c12, c13, rfl⟩ := list14 (l := cs) (hl.trans Try.cells79)
  have g0 : DataW.trod enc Try.prog W 0 sp true m 3 [c0] = some y0 := by simpa [Try.cells3] using h0
  have g1 : DataW.trod enc Try.prog W 0 sp true m 77 [c1, c2, c3, c4, c5, c6, c7, c8, c9, c10, c11, c12] = some y1 := by simpa [Try.cells77] using h1
  have g2 : DataW.trod enc Try.prog W 0 sp true m 9 [c13] = some y2 := by simpa [Try.cells9] using h2
  obtain ⟨a0, e0, z0, w0⟩ := DataW.trod_int Try.underlying3 g0
  obtain ⟨a1, e1, z1, w1⟩ := trod_ware g1
  obtain ⟨a2, e2, z2, w2⟩ := DataW.trod_string Try.underlying9 g2
  simp only [List.cons.injEq, and_true] at e0 e1 e2
  obtain ⟨u0, u1, u2, u3, u4, u5, u6, u7, u8, u9, u10, u11⟩ := e1
  subst e0 e2 z0 z1 z2 u0 u1 u2 u3 u4 u5 u6 u7 u8 u9 u10 u11
  exact ⟨⟨a0, a1, a2⟩, rfl, rfl, w1.1, w2⟩

end
set_option maxRecDepth 100000 in
/-- A slice of seats that came in: its seats lie in memory. -/
theorem open_seats {H : Type} {enc : TypeId × Value → H} {W : World} {base : Nat} {v : Value} {d : DataW H} {p : List MemPlace} (hv : Value.okWide Try.prog W .any base 22 v)
    (h : DataW.Trod enc Try.prog W 0 (fun _ => true) true 22 v d p) (hlt : ∀ x ∈ p, x.block < W.heap.size) :
    ∃ ao ps cap, v = .slice ao ps.length cap ∧ Sts W ao ps ∧ ps.length ≤ cap ∧ ps.length ≤ 9223372036854775807 ∧ (∀ s ∈ ps, SOk s) := by
  obtain ⟨a0, len, cap, rfl⟩ := okWide_slice Try.underlying22 hv
  obtain ⟨fuel, hf⟩ := h
  rcases open_slice Try.underlying22 hf with ⟨hcs, hx⟩ | ⟨a, len', cap', m, n, D, Pl, hcs, _, hl, hm, hmm, hx, hcell⟩
  · simp [Value.cells] at hcs
    obtain ⟨rfl, rfl, rfl⟩ := hcs
    exact ⟨none, [], 0, rfl, Sts.nil _ _, Nat.le_refl _, by decide, fun s hs => by simp at hs⟩
  · simp [Value.cells] at hcs
    obtain ⟨rfl, rfl, rfl⟩ := hcs
    simp only [Prod.mk.injEq] at hx
    obtain ⟨rfl, rfl⟩ := hx
    simp only [if_true] at hmm
    subst hmm
    rw [Try.cells79] at hcell
    have each : ∀ i, i < len → ∃ q : Sit, (∀ j u, (scs q).toList[j]? = some u → W.cell? (a.add (i * 14 + j)) = some u) ∧ SOk q := by
      intro i hi
      obtain ⟨cs', h1, h2⟩ := hcell i (by omega)
      obtain ⟨_, hlen, hc⟩ := World.cells?_some h1
      obtain ⟨q, rfl, _, hok⟩ := trod_seat h2
      refine ⟨q, fun j u hj => ?_, hok⟩
      have hj14 : j < 14 := (List.getElem?_eq_some_iff.1 hj).1
      have e := hc j (by omega)
      rw [add_add] at e
      rw [e]; exact hj
    haveI : Inhabited Sit := ⟨zSt⟩
    obtain ⟨q, hq⟩ := choose_lt each
    have hle : len ≤ 9223372036854775807 := by unfold maxLen at hm; omega
    refine ⟨some a, (List.range len).map q, m, by simp, ?_, by simpa using hl, by simpa using hle, fun s hs => ?_⟩
    · by_cases h0 : len = 0
      · subst h0; exact .inl rfl
      · obtain ⟨b, off, spot⟩ := a
        have hspot : spot = none := by simpa [Addr.add] using World.cell?_spot ((hq 0 (by omega)).1 0 _ rfl)
        subst hspot
        have hbW : b < W.heap.size := hlt (.cell b off) (List.mem_append_left _ (MemPlace.mem_row.2 ⟨0, by rw [Try.cells79]; omega, by simp⟩))
        refine .inr ⟨b, off, rfl, fun k hk => ?_⟩
        have hk' : k < len := by simpa using hk
        have hc := (hq k hk').1
        simp only [List.getElem_map, List.getElem_range]
        have e : ∀ j u, (scs (q k)).toList[j]? = some u → W.cell? ⟨b, off + k * 14 + j, none⟩ = some u := fun j u hj => by
          have := hc j u hj
          rw [add_plain, ← Nat.add_assoc] at this
          exact this
        exact ⟨hbW, e 0 _ rfl, e 1 _ rfl, e 2 _ rfl, e 3 _ rfl, e 4 _ rfl, e 5 _ rfl, e 6 _ rfl, e 7 _ rfl, e 8 _ rfl, e 9 _ rfl, e 10 _ rfl, e 11 _ rfl, e 12 _ rfl, e 13 _ rfl⟩
    · obtain ⟨i, hi, rfl⟩ := List.mem_map.1 hs
      exact (hq i (List.mem_range.1 hi)).2

end Go.Proofs.Ytgelbndbkmedlaa

/- Arguments that are boxes, points, opened. -/
namespace Go.Proofs.Ytgelbndbkmedlaa.S
open Go.ChangeShapes Go.WideShapes Go.ChangeAt Go.RowKit Go.Deep
theorem Try.own : ownKnob Try.prog.godebug = none := by kernel_rfl
theorem Try.laidOut : laidOutB Try.prog = true := by kernel_rfl
theorem Try.cells24 : Try.prog.cellsOf 24 = 3 := by kernel_rfl
theorem Try.cells26 : Try.prog.cellsOf 26 = 6 := by kernel_rfl
theorem Try.cells3 : Try.prog.cellsOf 3 = 1 := by kernel_rfl
theorem Try.bytes26 : Try.prog.bytesOf 25 = 48 := by kernel_rfl

theorem i64_in {a : Int} (h : (Lit.int .i64 a).wf = true) : -9223372036854775808 ≤ a ∧ a ≤ 9223372036854775807 := by
  have h1 : IntKind.i64.min = -9223372036854775808 := rfl
  have h2 : IntKind.i64.max = 9223372036854775807 := rfl
  simp only [Lit.wf, Bool.and_eq_true, decide_eq_true_eq] at h
  omega
theorem list3 {α : Type} {l : List α} (h : l.length = 3) : ∃ c0 c1 c2, l = [c0, c1, c2] := by
  match l, h with
  | [c0, c1, c2], _ => exact ⟨c0, c1, c2, rfl⟩
theorem list6 {α : Type} {l : List α} (h : l.length = 6) : ∃ c0 c1 c2 c3 c4 c5, l = [c0, c1, c2, c3, c4, c5] := by
  match l, h with
  | [c0, c1, c2, c3, c4, c5], _ => exact ⟨c0, c1, c2, c3, c4, c5, rfl⟩
/-- What is read of a point, of a box. -/
def pd {H : Type} (p : Pt) : DataW H := .agg [.lit (.int .i64 p.x), .lit (.int .i64 p.y), .lit (.int .i64 p.z)]
def bd {H : Type} (b : Bx) : DataW H := .agg [pd b.lo, pd b.hi]
def PtOk (p : Pt) : Prop := (Lit.int .i64 p.x).wf = true ∧ (Lit.int .i64 p.y).wf = true ∧ (Lit.int .i64 p.z).wf = true
def BxOk (b : Bx) : Prop := PtOk b.lo ∧ PtOk b.hi

section
variable {H : Type} {enc : TypeId × Value → H} {W : World} {sp : Nat → Bool}
set_option maxRecDepth 100000 in
theorem trod_point {n : Nat} {c0 c1 c2 : Value} {y : DataW H × List MemPlace} (h : DataW.trod enc Try.prog W 0 sp true n 24 [c0, c1, c2] = some y) :
    ∃ p : Pt, c0 = .int .i64 p.x ∧ c1 = .int .i64 p.y ∧ c2 = .int .i64 p.z ∧ y = (pd p, []) ∧ PtOk p := by
  obtain ⟨y0, y1, y2, m, rfl, _, h0, h1, h2⟩ := trod_struct3 Try.underlying24 h
  have g0 : DataW.trod enc Try.prog W 0 sp true m 3 [c0] = some y0 := by simpa [Try.cells3] using h0
  have g1 : DataW.trod enc Try.prog W 0 sp true m 3 [c1] = some y1 := by simpa [Try.cells3] using h1
  have g2 : DataW.trod enc Try.prog W 0 sp true m 3 [c2] = some y2 := by simpa [Try.cells3] using h2
  obtain ⟨a0, e0, z0, w0⟩ := DataW.trod_int Try.underlying3 g0
  obtain ⟨a1, e1, z1, w1⟩ := DataW.trod_int Try.underlying3 g1
  obtain ⟨a2, e2, z2, w2⟩ := DataW.trod_int Try.underlying3 g2
  simp only [List.cons.injEq, and_true] at e0 e1 e2
  subst e0 e1 e2 z0 z1 z2
  exact ⟨⟨a0, a1, a2⟩, rfl, rfl, rfl, rfl, w0, w1, w2⟩
set_option maxRecDepth 100000 in
theorem trod_box {n : Nat} {cs : List Value} {y : DataW H × List MemPlace} (h : DataW.trod enc Try.prog W 0 sp true n 26 cs = some y) :
    ∃ b : Bx, cs = [.int .i64 b.lx, .int .i64 b.ly, .int .i64 b.lz, .int .i64 b.hx, .int .i64 b.hy, .int .i64 b.hz] ∧ y = (bd b, []) ∧ BxOk b := by
  obtain ⟨y0, y1, m, rfl, hl, h0, h1⟩ := trod_struct2 Try.underlying26 h
  obtain ⟨c0, c1, c2, c3, c4, c5, rfl⟩ := list6 (l := cs) (hl.trans Try.cells26)
  have g0 : DataW.trod enc Try.prog W 0 sp true m 24 [c0, c1, c2] = some y0 := by simpa [Try.cells24] using h0
  have g1 : DataW.trod enc Try.prog W 0 sp true m 24 [c3, c4, c5] = some y1 := by simpa [Try.cells24] using h1
  obtain ⟨p, rfl, rfl, rfl, rfl, hp⟩ := trod_point g0
  obtain ⟨q, rfl, rfl, rfl, rfl, hq⟩ := trod_point g1
  exact ⟨⟨p.x, p.y, p.z, q.x, q.y, q.z⟩, rfl, rfl, hp, hq⟩
set_option maxRecDepth 100000 in
theorem open_point {b0 : Nat} {v : Value} {d : DataW H} {p : List MemPlace} (hv : Value.okWide Try.prog W .any b0 24 v) (h : DataW.Trod enc Try.prog W 0 sp true 24 v d p) :
    ∃ a : Pt, v = pv a ∧ d = pd a ∧ p = [] ∧ PtOk a := by
  obtain ⟨cs, rfl, hsz⟩ := okWide_struct Try.underlying24 hv
  obtain ⟨l⟩ := cs
  obtain ⟨c0, c1, c2, rfl⟩ := list3 (l := l) (hsz.trans Try.cells24)
  obtain ⟨fuel, hf⟩ := h
  obtain ⟨a, rfl, rfl, rfl, hx, ok⟩ := trod_point hf
  simp only [Prod.mk.injEq] at hx
  exact ⟨a, rfl, hx.1, hx.2, ok⟩
set_option maxRecDepth 100000 in
theorem open_box {b0 : Nat} {v : Value} {d : DataW H} {p : List MemPlace} (hv : Value.okWide Try.prog W .any b0 26 v) (h : DataW.Trod enc Try.prog W 0 sp true 26 v d p) :
    ∃ a : Bx, v = bv a ∧ d = bd a ∧ p = [] ∧ BxOk a := by
  obtain ⟨cs, rfl, hsz⟩ := okWide_struct Try.underlying26 hv
  obtain ⟨l⟩ := cs
  obtain ⟨fuel, hf⟩ := h
  obtain ⟨a, hl, hx, ok⟩ := trod_box hf
  have hl : l = _ := hl
  subst hl
  simp only [Prod.mk.injEq] at hx
  exact ⟨a, rfl, hx.1, hx.2, ok⟩
end
end Go.Proofs.Ytgelbndbkmedlaa.S

/- Slices of points, opened. -/
namespace Go.Proofs.Ytgelbndbkmedlaa.S
open Go.ChangeShapes Go.WideShapes Go.ChangeAt Go.RowKit Go.Deep
set_option maxRecDepth 100000 in
theorem open_points {H : Type} {enc : TypeId × Value → H} {W : World} {base : Nat} {v : Value} {d : DataW H} {p : List MemPlace} (hv : Value.okWide Try.prog W .any base 27 v)
    (h : DataW.Trod enc Try.prog W 0 (fun _ => true) true 27 v d p) (hlt : ∀ x ∈ p, x.block < W.heap.size) :
    ∃ ao ps cap, v = .slice ao ps.length cap ∧ Pns W ao ps ∧ ps.length ≤ 9223372036854775807 := by
  obtain ⟨a0, len, cap, rfl⟩ := okWide_slice Try.underlying27 hv
  obtain ⟨fuel, hf⟩ := h
  rcases open_slice Try.underlying27 hf with ⟨hcs, hx⟩ | ⟨a, len', cap', m, n, D, Pl, hcs, _, hl, hm, hmm, hx, hcell⟩
  · simp [Value.cells] at hcs
    obtain ⟨rfl, rfl, rfl⟩ := hcs
    exact ⟨none, [], 0, rfl, Pns.nil _ _, by decide⟩
  · simp [Value.cells] at hcs
    obtain ⟨rfl, rfl, rfl⟩ := hcs
    simp only [Prod.mk.injEq] at hx
    obtain ⟨rfl, rfl⟩ := hx
    simp only [if_true] at hmm
    subst hmm
    rw [Try.cells24] at hcell
    have each : ∀ i, i < len → ∃ q : Pt, W.cell? (a.add (i * 3)) = some (.int .i64 q.x) ∧ W.cell? (a.add (i * 3 + 1)) = some (.int .i64 q.y) ∧ W.cell? (a.add (i * 3 + 2)) = some (.int .i64 q.z) := by
      intro i hi
      obtain ⟨cs', h1, h2⟩ := hcell i (by omega)
      obtain ⟨_, hlen, hc⟩ := World.cells?_some h1
      obtain ⟨c0, c1, c2, rfl⟩ := list3 hlen
      obtain ⟨q, rfl, rfl, rfl, _, _⟩ := trod_point h2
      have e0 := hc 0 (by omega)
      have e1 := hc 1 (by omega)
      have e2 := hc 2 (by omega)
      rw [add_add] at e0 e1 e2
      exact ⟨q, by simpa using e0, by simpa using e1, by simpa using e2⟩
    haveI : Inhabited Pt := ⟨⟨0, 0, 0⟩⟩
    obtain ⟨q, hq⟩ := choose_lt each
    have hle : len ≤ 9223372036854775807 := by unfold maxLen at hm; omega
    refine ⟨some a, (List.range len).map q, m, by simp, ?_, by simpa using hle⟩
    by_cases h0 : len = 0
    · subst h0; exact .inl rfl
    · obtain ⟨b, off, spot⟩ := a
      have hspot : spot = none := by simpa [Addr.add] using World.cell?_spot (hq 0 (by omega)).1
      subst hspot
      have hbW : b < W.heap.size := hlt (.cell b off) (List.mem_append_left _ (MemPlace.mem_row.2 ⟨0, by rw [Try.cells24]; omega, by simp⟩))
      refine .inr ⟨b, off, rfl, fun k hk => ?_⟩
      have hk' : k < len := by simpa using hk
      obtain ⟨h0', h1, h2⟩ := hq k hk'
      rw [add_plain] at h0' h1 h2
      simp only [List.getElem_map, List.getElem_range]
      exact ⟨hbW, h0', by rw [← Nat.add_assoc] at h1; exact h1, by rw [← Nat.add_assoc] at h2; exact h2⟩
end Go.Proofs.Ytgelbndbkmedlaa.S
