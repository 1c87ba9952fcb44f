/- Arguments that are slices of knots, opened; what was read of them. -/
import Derived.Test.YteamcgoemgailaaBase
import Derived.ProofKit
import Derived.OpenShut
import Derived.ShutString
import Derived.SizedLaws
import Derived.Deep.SlicePairs
import Derived.Deep.Strs
namespace Go.Proofs.Yteamcgoemgailaa
open Go.ChangeShapes Go.WideShapes Go.ChangeAt Go.RowKit Go.Deep

theorem Try.own : ownKnob Try.prog.godebug = none := by kernel_rfl
theorem Try.laidOut : laidOutB Try.prog = true := by kernel_rfl
theorem Try.cells31 : Try.prog.cellsOf 31 = 2 := by kernel_rfl
theorem Try.cells3 : Try.prog.cellsOf 3 = 1 := by kernel_rfl
theorem Try.bytes31 : Try.prog.bytesOf 31 = 16 := by kernel_rfl

theorem i64_in {a : Int} (h : (Lit.int .i64 a).wf = true) : -9223372036854775808 ≤ a ∧ a ≤ 9223372036854775807 := by
  have h1 : IntKind.i64.min = -9223372036854775808 := rfl
  have h2 : IntKind.i64.max = 9223372036854775807 := rfl
  simp only [Lit.wf, Bool.and_eq_true, decide_eq_true_eq] at h
  omega
theorem list2 {α : Type} {l : List α} (h : l.length = 2) : ∃ c0 c1, l = [c0, c1] := by
  match l, h with
  | [c0, c1], _ => exact ⟨c0, c1, rfl⟩
set_option maxRecDepth 100000 in
theorem trod_knot {H : Type} {enc : TypeId × Value → H} {W : World} {sp : Nat → Bool} {n : Nat} {cs : List Value} {y : DataW H × List MemPlace} (h : DataW.trod enc Try.prog W 0 sp true n 31 cs = some y) :
    ∃ k : Kn, cs = [.int .i64 k.v, .int .i64 k.s] := by
  obtain ⟨y0, y1, m, rfl, hl, h0, h1⟩ := trod_struct2 Try.underlying31 h
  obtain ⟨c0, c1, rfl⟩ := list2 (l := cs) (hl.trans Try.cells31)
  have g0 : DataW.trod enc Try.prog W 0 sp true m 3 [c0] = some y0 := by simpa [Try.cells3] using h0
  have g1 : DataW.trod enc Try.prog W 0 sp true m 3 [c1] = some y1 := by simpa [Try.cells3] using h1
  obtain ⟨a0, e0, z0, w0⟩ := DataW.trod_int Try.underlying3 g0
  obtain ⟨a1, e1, z1, w1⟩ := DataW.trod_int Try.underlying3 g1
  simp only [List.cons.injEq, and_true] at e0 e1
  subst e0 e1
  exact ⟨⟨a0, a1⟩, rfl⟩
/-- A slice of knots that came in: its knots lie in memory; what is read of it has as many. -/
theorem open_knots {H : Type} {enc : TypeId × Value → H} {W : World} {base : Nat} {v : Value} {d : DataW H} {p : List MemPlace} (hv : Value.okWide Try.prog W .any base 22 v)
    (h : DataW.Trod enc Try.prog W 0 (fun _ => true) true 22 v d p) (hlt : ∀ x ∈ p, x.block < W.heap.size) :
    ∃ ao ps cap, v = .slice ao ps.length cap ∧ Kns W ao ps ∧ ((d = .nil ∧ ps = []) ∨ ∃ es sp, d = .slice es sp ∧ es.length = ps.length) ∧ (ao = none → cap = 0) := by
  obtain ⟨a0, len, cap, rfl⟩ := okWide_slice Try.underlying22 hv
  obtain ⟨fuel, hf⟩ := h
  rcases open_slice Try.underlying22 hf with ⟨hcs, hx⟩ | ⟨a, len', cap', m, n, D, Pl, hcs, _, hl, hm, hmm, hx, hcell⟩
  · simp [Value.cells] at hcs
    obtain ⟨rfl, rfl, rfl⟩ := hcs
    simp only [Prod.mk.injEq] at hx
    exact ⟨none, [], 0, rfl, Kns.nil _ _, .inl ⟨hx.1, rfl⟩, fun _ => rfl⟩
  · simp [Value.cells] at hcs
    obtain ⟨rfl, rfl, rfl⟩ := hcs
    simp only [Prod.mk.injEq] at hx
    obtain ⟨rfl, rfl⟩ := hx
    simp only [if_true] at hmm
    subst hmm
    rw [Try.cells31] at hcell
    have each : ∀ i, i < len → ∃ q : Kn, W.cell? (a.add (i * 2)) = some (.int .i64 q.v) ∧ W.cell? (a.add (i * 2 + 1)) = some (.int .i64 q.s) := by
      intro i hi
      obtain ⟨cs', h1, h2⟩ := hcell i (by omega)
      obtain ⟨_, hlen, hc⟩ := World.cells?_some h1
      obtain ⟨q, rfl⟩ := trod_knot h2
      have e0 := hc 0 (by omega)
      have e1 := hc 1 (by omega)
      rw [add_add] at e0 e1
      exact ⟨q, by simpa using e0, by simpa using e1⟩
    haveI : Inhabited Kn := ⟨⟨0, 0⟩⟩
    obtain ⟨q, hq⟩ := choose_lt each
    refine ⟨some a, (List.range len).map q, m, by simp, ?_, .inr ⟨_, _, rfl, by simp⟩, fun e => by cases e⟩
    by_cases h0 : len = 0
    · subst h0; exact .inl rfl
    · obtain ⟨b, off, spot⟩ := a
      have hspot : spot = none := by simpa [Addr.add] using World.cell?_spot (hq 0 (by omega)).1
      subst hspot
      have hbW : b < W.heap.size := hlt (.cell b off) (List.mem_append_left _ (MemPlace.mem_row.2 ⟨0, by rw [Try.cells31]; omega, by simp⟩))
      refine .inr ⟨b, off, rfl, fun k hk => ?_⟩
      have hk' : k < len := by simpa using hk
      obtain ⟨h0', h1⟩ := hq k hk'
      rw [add_plain] at h0' h1
      simp only [List.getElem_map, List.getElem_range]
      exact ⟨hbW, h0', by rw [← Nat.add_assoc] at h1; exact h1⟩
/-- What was read takes no more room than the form lets it. -/
theorem knots_reach {H : Type} {d : DataW H} {ps : List Kn} (h : ∀ es sp, d = .slice es sp → (es.length + sp.length) * Try.prog.bytesOf 31 ≤ reachBytes) (hd : (d = .nil ∧ ps = []) ∨ ∃ es sp, d = .slice es sp ∧ es.length = ps.length) : ps.length * 16 ≤ 140737488351232 := by
  rcases hd with ⟨_, rfl⟩ | ⟨es, sp, e, hl⟩
  · decide
  · have := h es sp e
    rw [Try.bytes31] at this
    simp only [reachBytes] at this
    omega
end Go.Proofs.Yteamcgoemgailaa
