/- Arguments that are boxes, points, slices of boxes, opened and shut. -/
import Derived.Test.YtiafcgbohckmmaaPf
import Derived.ProofKit
import Derived.OpenShut
import Derived.ShutString
import Derived.SizedLaws
import Derived.Deep.SlicePairs
import Derived.Deep.Strs
namespace Go.Proofs.Ytiafcgbohckmmaa
open Go.ChangeShapes Go.WideShapes Go.ChangeAt Go.RowKit Go.Deep

theorem Try.own : ownKnob Try.prog.godebug = none := by kernel_rfl
theorem Try.laidOut : laidOutB Try.prog = true := by kernel_rfl
theorem Try.cells23 : Try.prog.cellsOf 23 = 3 := by kernel_rfl
theorem Try.cells25 : Try.prog.cellsOf 25 = 6 := by kernel_rfl
theorem Try.cells3 : Try.prog.cellsOf 3 = 1 := by kernel_rfl
theorem Try.bytes25 : Try.prog.bytesOf 25 = 48 := by kernel_rfl

theorem i64_in {a : Int} (h : (Lit.int .i64 a).wf = true) : -9223372036854775808 ≤ a ∧ a ≤ 9223372036854775807 := by
  have h1 : IntKind.i64.min = -9223372036854775808 := rfl
  have h2 : IntKind.i64.max = 9223372036854775807 := rfl
  simp only [Lit.wf, Bool.and_eq_true, decide_eq_true_eq] at h
  omega
theorem list3 {α : Type} {l : List α} (h : l.length = 3) : ∃ c0 c1 c2, l = [c0, c1, c2] := by
  match l, h with
  | [c0, c1, c2], _ => exact ⟨c0, c1, c2, rfl⟩
theorem list6 {α : Type} {l : List α} (h : l.length = 6) : ∃ c0 c1 c2 c3 c4 c5, l = [c0, c1, c2, c3, c4, c5] := by
  match l, h with
  | [c0, c1, c2, c3, c4, c5], _ => exact ⟨c0, c1, c2, c3, c4, c5, rfl⟩
/-- What is read of a point, of a box. -/
def pd {H : Type} (p : Pt) : DataW H := .agg [.lit (.int .i64 p.x), .lit (.int .i64 p.y), .lit (.int .i64 p.z)]
def bd {H : Type} (b : Bx) : DataW H := .agg [pd b.lo, pd b.hi]
def PtOk (p : Pt) : Prop := (Lit.int .i64 p.x).wf = true ∧ (Lit.int .i64 p.y).wf = true ∧ (Lit.int .i64 p.z).wf = true
def BxOk (b : Bx) : Prop := PtOk b.lo ∧ PtOk b.hi

section
variable {H : Type} {enc : TypeId × Value → H} {W : World} {sp : Nat → Bool}
set_option maxRecDepth 100000 in
theorem trod_point {n : Nat} {c0 c1 c2 : Value} {y : DataW H × List MemPlace} (h : DataW.trod enc Try.prog W 0 sp true n 23 [c0, c1, c2] = some y) :
    ∃ p : Pt, c0 = .int .i64 p.x ∧ c1 = .int .i64 p.y ∧ c2 = .int .i64 p.z ∧ y = (pd p, []) ∧ PtOk p := by
  obtain ⟨y0, y1, y2, m, rfl, _, h0, h1, h2⟩ := trod_struct3 Try.underlying23 h
  have g0 : DataW.trod enc Try.prog W 0 sp true m 3 [c0] = some y0 := by simpa [Try.cells3] using h0
  have g1 : DataW.trod enc Try.prog W 0 sp true m 3 [c1] = some y1 := by simpa [Try.cells3] using h1
  have g2 : DataW.trod enc Try.prog W 0 sp true m 3 [c2] = some y2 := by simpa [Try.cells3] using h2
  obtain ⟨a0, e0, z0, w0⟩ := DataW.trod_int Try.underlying3 g0
  obtain ⟨a1, e1, z1, w1⟩ := DataW.trod_int Try.underlying3 g1
  obtain ⟨a2, e2, z2, w2⟩ := DataW.trod_int Try.underlying3 g2
  simp only [List.cons.injEq, and_true] at e0 e1 e2
  subst e0 e1 e2 z0 z1 z2
  exact ⟨⟨a0, a1, a2⟩, rfl, rfl, rfl, rfl, w0, w1, w2⟩
set_option maxRecDepth 100000 in
theorem trod_box {n : Nat} {cs : List Value} {y : DataW H × List MemPlace} (h : DataW.trod enc Try.prog W 0 sp true n 25 cs = some y) :
    ∃ b : Bx, cs = [.int .i64 b.lx, .int .i64 b.ly, .int .i64 b.lz, .int .i64 b.hx, .int .i64 b.hy, .int .i64 b.hz] ∧ y = (bd b, []) ∧ BxOk b := by
  obtain ⟨y0, y1, m, rfl, hl, h0, h1⟩ := trod_struct2 Try.underlying25 h
  obtain ⟨c0, c1, c2, c3, c4, c5, rfl⟩ := list6 (l := cs) (hl.trans Try.cells25)
  have g0 : DataW.trod enc Try.prog W 0 sp true m 23 [c0, c1, c2] = some y0 := by simpa [Try.cells23] using h0
  have g1 : DataW.trod enc Try.prog W 0 sp true m 23 [c3, c4, c5] = some y1 := by simpa [Try.cells23] using h1
  obtain ⟨p, rfl, rfl, rfl, rfl, hp⟩ := trod_point g0
  obtain ⟨q, rfl, rfl, rfl, rfl, hq⟩ := trod_point g1
  exact ⟨⟨p.x, p.y, p.z, q.x, q.y, q.z⟩, rfl, rfl, hp, hq⟩
theorem open_point {b0 : Nat} {v : Value} {d : DataW H} {p : List MemPlace} (hv : Value.okWide Try.prog W .any b0 23 v) (h : DataW.Trod enc Try.prog W 0 sp true 23 v d p) :
    ∃ a : Pt, v = pv a ∧ d = pd a ∧ p = [] ∧ PtOk a := by
  obtain ⟨cs, rfl, hsz⟩ := okWide_struct Try.underlying23 hv
  obtain ⟨l⟩ := cs
  obtain ⟨c0, c1, c2, rfl⟩ := list3 (l := l) (hsz.trans Try.cells23)
  obtain ⟨fuel, hf⟩ := h
  obtain ⟨a, rfl, rfl, rfl, hx, ok⟩ := trod_point hf
  simp only [Prod.mk.injEq] at hx
  exact ⟨a, rfl, hx.1, hx.2, ok⟩
theorem open_box {b0 : Nat} {v : Value} {d : DataW H} {p : List MemPlace} (hv : Value.okWide Try.prog W .any b0 25 v) (h : DataW.Trod enc Try.prog W 0 sp true 25 v d p) :
    ∃ a : Bx, v = bv a ∧ d = bd a ∧ p = [] ∧ BxOk a := by
  obtain ⟨cs, rfl, hsz⟩ := okWide_struct Try.underlying25 hv
  obtain ⟨l⟩ := cs
  obtain ⟨fuel, hf⟩ := h
  obtain ⟨a, hl, hx, ok⟩ := trod_box hf
  have hl : l = _ := hl
  subst hl
  simp only [Prod.mk.injEq] at hx
  exact ⟨a, rfl, hx.1, hx.2, ok⟩
set_option maxRecDepth 100000 in
theorem point_mk {a : Pt} (h : PtOk a) (n : Nat) : DataW.trod enc Try.prog W 0 sp true (n + 2) 23 [.int .i64 a.x, .int .i64 a.y, .int .i64 a.z] = some (pd a, []) := by
  have ts := trod_struct_mk (enc := enc) (w := W) (base := 0) (spare := sp) (held := true) (n := n + 1) (cs := [.int .i64 a.x, .int .i64 a.y, .int .i64 a.z]) (xs := [(.lit (.int .i64 a.x), []), (.lit (.int .i64 a.y), []), (.lit (.int .i64 a.z), [])]) Try.underlying23 (by simp [Try.cells23])
    (by simp [Try.cells3, DataW.trod, Try.underlying3, h.1, h.2.1, h.2.2])
  simpa [pd] using ts
theorem shut_point {a : Pt} (h : PtOk a) : DataW.Trod enc Try.prog W 0 sp true 23 (pv a) (pd a) [] := ⟨_, point_mk h 0⟩
set_option maxRecDepth 100000 in
theorem shut_box {a : Bx} (h : BxOk a) : DataW.Trod enc Try.prog W 0 sp true 25 (bv a) (bd a) [] := by
  have h0 := point_mk (enc := enc) (W := W) (sp := sp) h.1 0
  have h1 := point_mk (enc := enc) (W := W) (sp := sp) h.2 0
  have ts := trod_struct_mk (enc := enc) (w := W) (base := 0) (spare := sp) (held := true) (n := 2) (cs := [.int .i64 a.lx, .int .i64 a.ly, .int .i64 a.lz, .int .i64 a.hx, .int .i64 a.hy, .int .i64 a.hz]) (xs := [(pd a.lo, []), (pd a.hi, [])]) Try.underlying25 (by simp [Try.cells25])
    (by
      simp only [Try.cells23, List.mapM_cons, List.mapM_nil, List.drop_zero, List.drop_succ_cons, List.take_succ_cons, List.take_zero]
      simp only [Nat.zero_add] at h0 h1
      simp [h0, h1])
  exact ⟨_, by simpa [Value.cells, bd] using ts⟩
end
theorem BxOk.in {b : Bx} (h : BxOk b) : ∀ x ∈ [b.lx, b.ly, b.lz, b.hx, b.hy, b.hz], -9223372036854775808 ≤ x ∧ x ≤ 9223372036854775807 := by
  obtain ⟨⟨h0, h1, h2⟩, h3, h4, h5⟩ := h
  intro x hx
  simp only [List.mem_cons, List.mem_nil_iff, or_false] at hx
  rcases hx with rfl | rfl | rfl | rfl | rfl | rfl
  all_goals (exact i64_in (by assumption))
end Go.Proofs.Ytiafcgbohckmmaa
