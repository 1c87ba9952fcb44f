/- Arguments that are plates, opened. -/
import Derived.Test.YtjpjkkjklghpgaaHB
import Derived.ProofKit
import Derived.OpenShut
import Derived.ShutString
import Derived.SizedLaws
import Derived.Deep.SlicePairs
import Derived.Deep.Strs
import Derived.Lib.SmallJoins
namespace Go.Proofs.Ytjpjkkjklghpgaa
open Go.ChangeShapes Go.WideShapes Go.ChangeAt Go.RowKit Go.Joins Go.Deep

theorem Try.own : ownKnob Try.prog.godebug = none := by kernel_rfl
theorem Try.laidOut : laidOutB Try.prog = true := by kernel_rfl
theorem Try.cells23 : Try.prog.cellsOf 23 = 4 := by kernel_rfl
theorem Try.cells3 : Try.prog.cellsOf 3 = 1 := by kernel_rfl
theorem i64_in {a : Int} (h : (Lit.int .i64 a).wf = true) : -9223372036854775808 ≤ a ∧ a ≤ 9223372036854775807 := by
  have h1 : IntKind.i64.min = -9223372036854775808 := rfl
  have h2 : IntKind.i64.max = 9223372036854775807 := rfl
  simp only [Lit.wf, Bool.and_eq_true, decide_eq_true_eq] at h
  omega
theorem list4 {α : Type} {l : List α} (h : l.length = 4) : ∃ c0 c1 c2 c3, l = [c0, c1, c2, c3] := by
  match l, h with
  | [c0, c1, c2, c3], _ => exact ⟨c0, c1, c2, c3, rfl⟩
section
variable {H : Type} {enc : TypeId × Value → H} {W : World} {sp : Nat → Bool}
set_option maxRecDepth 100000 in
theorem open_hot {b0 : Nat} {v : Value} {d : DataW H} {p : List MemPlace} (hw : Value.okWide Try.prog W .any b0 23 v) (h : DataW.Trod enc Try.prog W 0 sp true 23 v d p) :
    ∃ a : Ht, v = hv a := by
  obtain ⟨cs, rfl, hsz⟩ := okWide_struct Try.underlying23 hw
  obtain ⟨l⟩ := cs
  obtain ⟨c0, c1, c2, c3, rfl⟩ := list4 (l := l) (hsz.trans Try.cells23)
  obtain ⟨fuel, hf⟩ := h
  obtain ⟨y0, y1, y2, y3, m, _, _, h0, h1, h2, h3⟩ := trod_struct4 Try.underlying23 hf
  have g0 : DataW.trod enc Try.prog W 0 sp true m 3 [c0] = some y0 := by simpa [Try.cells3, Value.cells] using h0
  have g1 : DataW.trod enc Try.prog W 0 sp true m 3 [c1] = some y1 := by simpa [Try.cells3, Value.cells] using h1
  have g2 : DataW.trod enc Try.prog W 0 sp true m 3 [c2] = some y2 := by simpa [Try.cells3, Value.cells] using h2
  have g3 : DataW.trod enc Try.prog W 0 sp true m 3 [c3] = some y3 := by simpa [Try.cells3, Value.cells] using h3
  obtain ⟨a0, e0, z0, w0⟩ := DataW.trod_int Try.underlying3 g0
  obtain ⟨a1, e1, z1, w1⟩ := DataW.trod_int Try.underlying3 g1
  obtain ⟨a2, e2, z2, w2⟩ := DataW.trod_int Try.underlying3 g2
  obtain ⟨a3, e3, z3, w3⟩ := DataW.trod_int Try.underlying3 g3
  simp only [List.cons.injEq, and_true] at e0 e1 e2 e3
  subst e0 e1 e2 e3
  exact ⟨⟨a0, a1, a2, a3⟩, rfl⟩
end
end Go.Proofs.Ytjpjkkjklghpgaa
