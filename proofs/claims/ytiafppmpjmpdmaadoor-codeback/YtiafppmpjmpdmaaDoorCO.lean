/- Arguments that are commands, opened and shut. -/
import Derived.Test.YtiafppmpjmpdmaaDoorCC
import Derived.ProofKit
import Derived.OpenShut
import Derived.ShutString
import Derived.Lib.SmallJoins
namespace Go.Proofs.YtiafppmpjmpdmaaDoor
open Go.ChangeShapes Go.WideShapes Go.ChangeAt Go.RowKit Go.Joins
open Go.ChangeMaps (open_string shut_string)

theorem Tryd.cells23 : Tryd.prog.cellsOf 23 = 5 := by kernel_rfl
theorem Tryd.cells3 : Tryd.prog.cellsOf 3 = 1 := by kernel_rfl
theorem list5 {α : Type} {l : List α} (h : l.length = 5) : ∃ c0 c1 c2 c3 c4, l = [c0, c1, c2, c3, c4] := by
  match l, h with
  | [c0, c1, c2, c3, c4], _ => exact ⟨c0, c1, c2, c3, c4, rfl⟩
theorem i64_in {a : Int} (h : (Lit.int .i64 a).wf = true) : -9223372036854775808 ≤ a ∧ a ≤ 9223372036854775807 := by
  have h1 : IntKind.i64.min = -9223372036854775808 := rfl
  have h2 : IntKind.i64.max = 9223372036854775807 := rfl
  simp only [Lit.wf, Bool.and_eq_true, decide_eq_true_eq] at h
  omega
/-- What is read of a command. -/
def cd {H : Type} (k x y z u : Int) : DataW H := .agg [.lit (.int .i64 k), .lit (.int .i64 x), .lit (.int .i64 y), .lit (.int .i64 z), .lit (.int .i64 u)]
/-- All numbers of a command are ints. -/
def CmOk (k x y z u : Int) : Prop := (Lit.int .i64 k).wf = true ∧ (Lit.int .i64 x).wf = true ∧ (Lit.int .i64 y).wf = true ∧ (Lit.int .i64 z).wf = true ∧ (Lit.int .i64 u).wf = true
set_option maxHeartbeats 800000 in
set_option maxRecDepth 100000 in
theorem open_cmd {H : Type} {enc : TypeId × Value → H} {W : World} {b0 : Nat} {v : Value} {d : DataW H} {p : List MemPlace} {sp : Nat → Bool} (hv : Value.okWide Tryd.prog W .any b0 23 v) (h : DataW.Trod enc Tryd.prog W 0 sp true 23 v d p) :
    ∃ k x y z u : Int, v = cm k x y z u ∧ d = cd k x y z u ∧ p = [] ∧ CmOk k x y z u := by
  obtain ⟨cs, rfl, hsz⟩ := okWide_struct Tryd.underlying23 hv
  obtain ⟨l⟩ := cs
  obtain ⟨c0, c1, c2, c3, c4, rfl⟩ := list5 (l := l) (hsz.trans Tryd.cells23)
  obtain ⟨fuel, hf⟩ := h
  obtain ⟨xs, n, _, hx, _, hlen, hg⟩ := DataW.trod_struct Tryd.underlying23 hf
  obtain ⟨y0, y1, y2, y3, y4, rfl⟩ := list5 (l := xs) (by simpa using hlen)
  have g0 : DataW.trod enc Tryd.prog W 0 sp true n 3 [c0] = some y0 := by have := hg 0 _ rfl; simpa [Value.cells, Tryd.cells3] using this
  have g1 : DataW.trod enc Tryd.prog W 0 sp true n 3 [c1] = some y1 := by have := hg 1 _ rfl; simpa [Value.cells, Tryd.cells3] using this
  have g2 : DataW.trod enc Tryd.prog W 0 sp true n 3 [c2] = some y2 := by have := hg 2 _ rfl; simpa [Value.cells, Tryd.cells3] using this
  have g3 : DataW.trod enc Tryd.prog W 0 sp true n 3 [c3] = some y3 := by have := hg 3 _ rfl; simpa [Value.cells, Tryd.cells3] using this
  have g4 : DataW.trod enc Tryd.prog W 0 sp true n 3 [c4] = some y4 := by have := hg 4 _ rfl; simpa [Value.cells, Tryd.cells3] using this
  obtain ⟨a0, e0, rfl, w0⟩ := DataW.trod_int Tryd.underlying3 g0
  obtain ⟨a1, e1, rfl, w1⟩ := DataW.trod_int Tryd.underlying3 g1
  obtain ⟨a2, e2, rfl, w2⟩ := DataW.trod_int Tryd.underlying3 g2
  obtain ⟨a3, e3, rfl, w3⟩ := DataW.trod_int Tryd.underlying3 g3
  obtain ⟨a4, e4, rfl, w4⟩ := DataW.trod_int Tryd.underlying3 g4
  simp only [List.cons.injEq, and_true] at e0 e1 e2 e3 e4
  subst e0 e1 e2 e3 e4
  have hx1 := congrArg Prod.fst hx
  have hx2 := congrArg Prod.snd hx
  simp at hx1 hx2
  exact ⟨a0, a1, a2, a3, a4, rfl, hx1, hx2, w0, w1, w2, w3, w4⟩
set_option maxHeartbeats 800000 in
set_option maxRecDepth 100000 in
theorem shut_cmd {H : Type} {enc : TypeId × Value → H} {W : World} {sp : Nat → Bool} {k x y z u : Int} (h : CmOk k x y z u) :
    DataW.Trod enc Tryd.prog W 0 sp true 23 (cm k x y z u) (cd k x y z u) [] := by
  obtain ⟨h0, h1, h2, h3, h4⟩ := h
  have ts := trod_struct_mk (enc := enc) (w := W) (base := 0) (spare := sp) (held := true) (n := 1) (cs := c5 k x y z u) (xs := [(.lit (.int .i64 k), []), (.lit (.int .i64 x), []), (.lit (.int .i64 y), []), (.lit (.int .i64 z), []), (.lit (.int .i64 u), [])]) Tryd.underlying23 (by kernel_rfl)
    (by simp [Tryd.cells3, DataW.trod, Tryd.underlying3, h0, h1, h2, h3, h4])
  exact ⟨_, by simpa [Value.cells, cd] using ts⟩
end Go.Proofs.YtiafppmpjmpdmaaDoor
