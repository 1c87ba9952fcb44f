/- Arguments that are rigs, states, points, commands, opened and shut. -/
import Derived.Test.YtgahlhfgpkklaaaDoorFNH
import Derived.ProofKit
import Derived.OpenShut
import Derived.ShutString
import Derived.Lib.SmallJoins
namespace Go.Proofs.YtgahlhfgpkklaaaDoor
open Go.ChangeShapes Go.WideShapes Go.ChangeAt Go.RowKit Go.Joins
open Go.ChangeMaps (open_string shut_string)

theorem Tryd.cells3 : Tryd.prog.cellsOf 3 = 1 := by kernel_rfl
theorem Tryd.cells4 : Tryd.prog.cellsOf 4 = 1 := by kernel_rfl
theorem Tryd.cells23 : Tryd.prog.cellsOf 23 = 3 := by kernel_rfl
theorem Tryd.cells25 : Tryd.prog.cellsOf 25 = 4 := by kernel_rfl
theorem Tryd.cells27 : Tryd.prog.cellsOf 27 = 12 := by kernel_rfl
theorem Tryd.cells29 : Tryd.prog.cellsOf 29 = 9 := by kernel_rfl
theorem Tryd.cells31 : Tryd.prog.cellsOf 31 = 5 := by kernel_rfl
theorem i64_in {a : Int} (h : (Lit.int .i64 a).wf = true) : -9223372036854775808 ≤ a ∧ a ≤ 9223372036854775807 := by
  have h1 : IntKind.i64.min = -9223372036854775808 := rfl
  have h2 : IntKind.i64.max = 9223372036854775807 := rfl
  simp only [Lit.wf, Bool.and_eq_true, decide_eq_true_eq] at h
  omega
theorem list3 {α : Type} {l : List α} (h : l.length = 3) : ∃ c0 c1 c2, l = [c0, c1, c2] := by
  match l, h with
  | [c0, c1, c2], _ => exact ⟨c0, c1, c2, rfl⟩
theorem list4 {α : Type} {l : List α} (h : l.length = 4) : ∃ c0 c1 c2 c3, l = [c0, c1, c2, c3] := by
  match l, h with
  | [c0, c1, c2, c3], _ => exact ⟨c0, c1, c2, c3, rfl⟩
theorem list5 {α : Type} {l : List α} (h : l.length = 5) : ∃ c0 c1 c2 c3 c4, l = [c0, c1, c2, c3, c4] := by
  match l, h with
  | [c0, c1, c2, c3, c4], _ => exact ⟨c0, c1, c2, c3, c4, rfl⟩
theorem list7 {α : Type} {l : List α} (h : l.length = 7) : ∃ c0 c1 c2 c3 c4 c5 c6, l = [c0, c1, c2, c3, c4, c5, c6] := by
  match l, h with
  | [c0, c1, c2, c3, c4, c5, c6], _ => exact ⟨c0, c1, c2, c3, c4, c5, c6, rfl⟩
theorem list9 {α : Type} {l : List α} (h : l.length = 9) : ∃ c0 c1 c2 c3 c4 c5 c6 c7 c8, l = [c0, c1, c2, c3, c4, c5, c6, c7, c8] := by
  match l, h with
  | [c0, c1, c2, c3, c4, c5, c6, c7, c8], _ => exact ⟨c0, c1, c2, c3, c4, c5, c6, c7, c8, rfl⟩
theorem list12 {α : Type} {l : List α} (h : l.length = 12) : ∃ c0 c1 c2 c3 c4 c5 c6 c7 c8 c9 c10 c11, l = [c0, c1, c2, c3, c4, c5, c6, c7, c8, c9, c10, c11] := by
  match l, h with
  | [c0, c1, c2, c3, c4, c5, c6, c7, c8, c9, c10, c11], _ => exact ⟨c0, c1, c2, c3, c4, c5, c6, c7, c8, c9, c10, c11, rfl⟩
section
variable {H : Type} {enc : TypeId × Value → H} {W : World} {sp : Nat → Bool}
theorem trod_pt {m : Nat} {c0 c1 c2 : Value} {y : DataW H × List MemPlace} (h : DataW.trod enc Tryd.prog W 0 sp true m 23 [c0, c1, c2] = some y) :
    ∃ p : Pt, c0 = .int .i64 p.x ∧ c1 = .int .i64 p.y ∧ c2 = .int .i64 p.z ∧ y = (.agg [.lit (.int .i64 p.x), .lit (.int .i64 p.y), .lit (.int .i64 p.z)], []) ∧ (Lit.int .i64 p.x).wf = true ∧ (Lit.int .i64 p.y).wf = true ∧ (Lit.int .i64 p.z).wf = true := by
  obtain ⟨xs, n, _, hx, _, hlen, hg⟩ := DataW.trod_struct Tryd.underlying23 h
  obtain ⟨y0, y1, y2, rfl⟩ := list3 (l := xs) (by simpa using hlen)
  have g0 : DataW.trod enc Tryd.prog W 0 sp true n 3 [c0] = some y0 := by have := hg 0 _ rfl; simpa [Tryd.cells3] using this
  have g1 : DataW.trod enc Tryd.prog W 0 sp true n 3 [c1] = some y1 := by have := hg 1 _ rfl; simpa [Tryd.cells3] using this
  have g2 : DataW.trod enc Tryd.prog W 0 sp true n 3 [c2] = some y2 := by have := hg 2 _ rfl; simpa [Tryd.cells3] using this
  obtain ⟨a0, e0, rfl, w0⟩ := DataW.trod_int Tryd.underlying3 g0
  obtain ⟨a1, e1, rfl, w1⟩ := DataW.trod_int Tryd.underlying3 g1
  obtain ⟨a2, e2, rfl, w2⟩ := DataW.trod_int Tryd.underlying3 g2
  simp only [List.cons.injEq, and_true] at e0 e1 e2
  refine ⟨⟨a0, a1, a2⟩, e0, e1, e2, ?_, w0, w1, w2⟩
  rw [hx]
  simp
theorem trod_rp {m : Nat} {c0 c1 c2 c3 : Value} {y : DataW H × List MemPlace} (h : DataW.trod enc Tryd.prog W 0 sp true m 25 [c0, c1, c2, c3] = some y) :
    ∃ p : Rp, c0 = .int .i64 p.c ∧ c1 = .int .i64 p.f ∧ c2 = .int .i64 p.m ∧ c3 = .int .i64 p.r ∧ y = (.agg [.lit (.int .i64 p.c), .lit (.int .i64 p.f), .lit (.int .i64 p.m), .lit (.int .i64 p.r)], []) ∧ (Lit.int .i64 p.c).wf = true ∧ (Lit.int .i64 p.f).wf = true ∧ (Lit.int .i64 p.m).wf = true ∧ (Lit.int .i64 p.r).wf = true := by
  obtain ⟨xs, n, _, hx, _, hlen, hg⟩ := DataW.trod_struct Tryd.underlying25 h
  obtain ⟨y0, y1, y2, y3, rfl⟩ := list4 (l := xs) (by simpa using hlen)
  have g0 : DataW.trod enc Tryd.prog W 0 sp true n 3 [c0] = some y0 := by have := hg 0 _ rfl; simpa [Tryd.cells3] using this
  have g1 : DataW.trod enc Tryd.prog W 0 sp true n 3 [c1] = some y1 := by have := hg 1 _ rfl; simpa [Tryd.cells3] using this
  have g2 : DataW.trod enc Tryd.prog W 0 sp true n 3 [c2] = some y2 := by have := hg 2 _ rfl; simpa [Tryd.cells3] using this
  have g3 : DataW.trod enc Tryd.prog W 0 sp true n 3 [c3] = some y3 := by have := hg 3 _ rfl; simpa [Tryd.cells3] using this
  obtain ⟨a0, e0, rfl, w0⟩ := DataW.trod_int Tryd.underlying3 g0
  obtain ⟨a1, e1, rfl, w1⟩ := DataW.trod_int Tryd.underlying3 g1
  obtain ⟨a2, e2, rfl, w2⟩ := DataW.trod_int Tryd.underlying3 g2
  obtain ⟨a3, e3, rfl, w3⟩ := DataW.trod_int Tryd.underlying3 g3
  simp only [List.cons.injEq, and_true] at e0 e1 e2 e3
  refine ⟨⟨a0, a1, a2, a3⟩, e0, e1, e2, e3, ?_, w0, w1, w2, w3⟩
  rw [hx]
  simp
set_option maxHeartbeats 1600000 in
set_option maxRecDepth 100000 in
theorem open_rig {b0 : Nat} {v : Value} {d : DataW H} {p : List MemPlace} (hv : Value.okWide Tryd.prog W .any b0 27 v) (h : DataW.Trod enc Tryd.prog W 0 sp true 27 v d p) : ∃ r : Rg, v = rgv r ∧ p = [] := by
  obtain ⟨cs, rfl, hsz⟩ := okWide_struct Tryd.underlying27 hv
  obtain ⟨l⟩ := cs
  obtain ⟨c0, c1, c2, c3, c4, c5, c6, c7, c8, c9, c10, c11, rfl⟩ := list12 (l := l) (hsz.trans Tryd.cells27)
  obtain ⟨fuel, hf⟩ := h
  obtain ⟨xs, n, _, hx, _, hlen, hg⟩ := DataW.trod_struct Tryd.underlying27 hf
  obtain ⟨y0, y1, y2, y3, y4, rfl⟩ := list5 (l := xs) (by simpa using hlen)
  have g0 : DataW.trod enc Tryd.prog W 0 sp true n 23 [c0, c1, c2] = some y0 := by have := hg 0 _ rfl; simpa [Value.cells, Tryd.cells23] using this
  have g1 : DataW.trod enc Tryd.prog W 0 sp true n 23 [c3, c4, c5] = some y1 := by have := hg 1 _ rfl; simpa [Value.cells, Tryd.cells23] using this
  have g2 : DataW.trod enc Tryd.prog W 0 sp true n 25 [c6, c7, c8, c9] = some y2 := by have := hg 2 _ rfl; simpa [Value.cells, Tryd.cells25] using this
  have g3 : DataW.trod enc Tryd.prog W 0 sp true n 3 [c10] = some y3 := by have := hg 3 _ rfl; simpa [Value.cells, Tryd.cells3] using this
  have g4 : DataW.trod enc Tryd.prog W 0 sp true n 3 [c11] = some y4 := by have := hg 4 _ rfl; simpa [Value.cells, Tryd.cells3] using this
  obtain ⟨lo, rfl, rfl, rfl, rfl, _⟩ := trod_pt g0
  obtain ⟨hi, rfl, rfl, rfl, rfl, _⟩ := trod_pt g1
  obtain ⟨rp, rfl, rfl, rfl, rfl, rfl, _⟩ := trod_rp g2
  obtain ⟨a3, e3, rfl, _⟩ := DataW.trod_int Tryd.underlying3 g3
  obtain ⟨a4, e4, rfl, _⟩ := DataW.trod_int Tryd.underlying3 g4
  simp only [List.cons.injEq, and_true] at e3 e4
  subst e3 e4
  have hx2 := congrArg Prod.snd hx
  simp at hx2
  exact ⟨⟨lo, hi, rp, a3, a4⟩, rfl, hx2⟩
set_option maxHeartbeats 1600000 in
set_option maxRecDepth 100000 in
theorem open_fm {b0 : Nat} {v : Value} {d : DataW H} {p : List MemPlace} (hv : Value.okWide Tryd.prog W .any b0 29 v) (h : DataW.Trod enc Tryd.prog W 0 sp true 29 v d p) : ∃ f : Fm, v = fv f ∧ p = [] := by
  obtain ⟨cs, rfl, hsz⟩ := okWide_struct Tryd.underlying29 hv
  obtain ⟨l⟩ := cs
  obtain ⟨c0, c1, c2, c3, c4, c5, c6, c7, c8, rfl⟩ := list9 (l := l) (hsz.trans Tryd.cells29)
  obtain ⟨fuel, hf⟩ := h
  obtain ⟨xs, n, _, hx, _, hlen, hg⟩ := DataW.trod_struct Tryd.underlying29 hf
  obtain ⟨y0, y1, y2, y3, y4, y5, y6, rfl⟩ := list7 (l := xs) (by simpa using hlen)
  have g0 : DataW.trod enc Tryd.prog W 0 sp true n 4 [c0] = some y0 := by have := hg 0 _ rfl; simpa [Value.cells, Tryd.cells4] using this
  have g1 : DataW.trod enc Tryd.prog W 0 sp true n 23 [c1, c2, c3] = some y1 := by have := hg 1 _ rfl; simpa [Value.cells, Tryd.cells23] using this
  have g2 : DataW.trod enc Tryd.prog W 0 sp true n 3 [c4] = some y2 := by have := hg 2 _ rfl; simpa [Value.cells, Tryd.cells3] using this
  have g3 : DataW.trod enc Tryd.prog W 0 sp true n 4 [c5] = some y3 := by have := hg 3 _ rfl; simpa [Value.cells, Tryd.cells4] using this
  have g4 : DataW.trod enc Tryd.prog W 0 sp true n 3 [c6] = some y4 := by have := hg 4 _ rfl; simpa [Value.cells, Tryd.cells3] using this
  have g5 : DataW.trod enc Tryd.prog W 0 sp true n 3 [c7] = some y5 := by have := hg 5 _ rfl; simpa [Value.cells, Tryd.cells3] using this
  have g6 : DataW.trod enc Tryd.prog W 0 sp true n 3 [c8] = some y6 := by have := hg 6 _ rfl; simpa [Value.cells, Tryd.cells3] using this
  obtain ⟨a0, e0, rfl⟩ := DataW.trod_bool Tryd.underlying4 g0
  obtain ⟨pt, rfl, rfl, rfl, rfl, _⟩ := trod_pt g1
  obtain ⟨a2, e2, rfl, _⟩ := DataW.trod_int Tryd.underlying3 g2
  obtain ⟨a3, e3, rfl⟩ := DataW.trod_bool Tryd.underlying4 g3
  obtain ⟨a4, e4, rfl, _⟩ := DataW.trod_int Tryd.underlying3 g4
  obtain ⟨a5, e5, rfl, _⟩ := DataW.trod_int Tryd.underlying3 g5
  obtain ⟨a6, e6, rfl, _⟩ := DataW.trod_int Tryd.underlying3 g6
  simp only [List.cons.injEq, and_true] at e0 e2 e3 e4 e5 e6
  subst e0 e2 e3 e4 e5 e6
  have hx2 := congrArg Prod.snd hx
  simp at hx2
  exact ⟨⟨a0, pt, a2, a3, a4, a5, a6⟩, rfl, hx2⟩
set_option maxHeartbeats 800000 in
set_option maxRecDepth 100000 in
theorem open_cm {b0 : Nat} {v : Value} {d : DataW H} {p : List MemPlace} (hv : Value.okWide Tryd.prog W .any b0 31 v) (h : DataW.Trod enc Tryd.prog W 0 sp true 31 v d p) : ∃ c : Cm, v = cmv c ∧ p = [] := by
  obtain ⟨cs, rfl, hsz⟩ := okWide_struct Tryd.underlying31 hv
  obtain ⟨l⟩ := cs
  obtain ⟨c0, c1, c2, c3, c4, rfl⟩ := list5 (l := l) (hsz.trans Tryd.cells31)
  obtain ⟨fuel, hf⟩ := h
  obtain ⟨xs, n, _, hx, _, hlen, hg⟩ := DataW.trod_struct Tryd.underlying31 hf
  obtain ⟨y0, y1, y2, y3, y4, rfl⟩ := list5 (l := xs) (by simpa using hlen)
  have g0 : DataW.trod enc Tryd.prog W 0 sp true n 3 [c0] = some y0 := by have := hg 0 _ rfl; simpa [Value.cells, Tryd.cells3] using this
  have g1 : DataW.trod enc Tryd.prog W 0 sp true n 3 [c1] = some y1 := by have := hg 1 _ rfl; simpa [Value.cells, Tryd.cells3] using this
  have g2 : DataW.trod enc Tryd.prog W 0 sp true n 3 [c2] = some y2 := by have := hg 2 _ rfl; simpa [Value.cells, Tryd.cells3] using this
  have g3 : DataW.trod enc Tryd.prog W 0 sp true n 3 [c3] = some y3 := by have := hg 3 _ rfl; simpa [Value.cells, Tryd.cells3] using this
  have g4 : DataW.trod enc Tryd.prog W 0 sp true n 3 [c4] = some y4 := by have := hg 4 _ rfl; simpa [Value.cells, Tryd.cells3] using this
  obtain ⟨a0, e0, rfl, _⟩ := DataW.trod_int Tryd.underlying3 g0
  obtain ⟨a1, e1, rfl, _⟩ := DataW.trod_int Tryd.underlying3 g1
  obtain ⟨a2, e2, rfl, _⟩ := DataW.trod_int Tryd.underlying3 g2
  obtain ⟨a3, e3, rfl, _⟩ := DataW.trod_int Tryd.underlying3 g3
  obtain ⟨a4, e4, rfl, _⟩ := DataW.trod_int Tryd.underlying3 g4
  simp only [List.cons.injEq, and_true] at e0 e1 e2 e3 e4
  subst e0 e1 e2 e3 e4
  have hx2 := congrArg Prod.snd hx
  simp at hx2
  exact ⟨⟨a0, a1, a2, a3, a4⟩, rfl, hx2⟩
set_option maxRecDepth 100000 in
theorem open_pt {b0 : Nat} {v : Value} {d : DataW H} {p : List MemPlace} (hv : Value.okWide Tryd.prog W .any b0 23 v) (h : DataW.Trod enc Tryd.prog W 0 sp true 23 v d p) : ∃ q : Pt, v = v3 q ∧ p = [] := by
  obtain ⟨cs, rfl, hsz⟩ := okWide_struct Tryd.underlying23 hv
  obtain ⟨l⟩ := cs
  obtain ⟨c0, c1, c2, rfl⟩ := list3 (l := l) (hsz.trans Tryd.cells23)
  obtain ⟨fuel, hf⟩ := h
  obtain ⟨q, rfl, rfl, rfl, hy, _⟩ := trod_pt hf
  exact ⟨q, rfl, congrArg Prod.snd hy⟩
end
end Go.Proofs.YtgahlhfgpkklaaaDoor
