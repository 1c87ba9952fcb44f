/- Slices of commands, opened. -/
import Derived.Test.YtgahlhfgpkklaaaDoorOAH
import Derived.Test.YtgahlhfgpkklaaaDoorFUH
import Derived.SizedLaws
import Derived.Deep.SlicePairs
import Derived.Deep.Strs
namespace Go.Proofs.YtgahlhfgpkklaaaDoor
open Go.ChangeShapes Go.WideShapes Go.ChangeAt Go.RowKit Go.Deep

theorem Tryd.bytes31 : Tryd.prog.bytesOf 31 = 40 := by kernel_rfl
theorem trod_cm {H : Type} {enc : TypeId × Value → H} {W : World} {sp : Nat → Bool} {m : Nat} {c0 c1 c2 c3 c4 : Value} {y : DataW H × List MemPlace} (h : DataW.trod enc Tryd.prog W 0 sp true m 31 [c0, c1, c2, c3, c4] = some y) :
    ∃ q : Cm, c0 = .int .i64 q.k ∧ c1 = .int .i64 q.x ∧ c2 = .int .i64 q.y ∧ c3 = .int .i64 q.z ∧ c4 = .int .i64 q.v := by
  obtain ⟨xs, n, _, hx, _, hlen, hg⟩ := DataW.trod_struct Tryd.underlying31 h
  obtain ⟨y0, y1, y2, y3, y4, rfl⟩ := list5 (l := xs) (by simpa using hlen)
  have g0 : DataW.trod enc Tryd.prog W 0 sp true n 3 [c0] = some y0 := by have := hg 0 _ rfl; simpa [Value.cells, Tryd.cells3] using this
  have g1 : DataW.trod enc Tryd.prog W 0 sp true n 3 [c1] = some y1 := by have := hg 1 _ rfl; simpa [Value.cells, Tryd.cells3] using this
  have g2 : DataW.trod enc Tryd.prog W 0 sp true n 3 [c2] = some y2 := by have := hg 2 _ rfl; simpa [Value.cells, Tryd.cells3] using this
  have g3 : DataW.trod enc Tryd.prog W 0 sp true n 3 [c3] = some y3 := by have := hg 3 _ rfl; simpa [Value.cells, Tryd.cells3] using this
  have g4 : DataW.trod enc Tryd.prog W 0 sp true n 3 [c4] = some y4 := by have := hg 4 _ rfl; simpa [Value.cells, Tryd.cells3] using this
  obtain ⟨a0, e0, _, _⟩ := DataW.trod_int Tryd.underlying3 g0
  obtain ⟨a1, e1, _, _⟩ := DataW.trod_int Tryd.underlying3 g1
  obtain ⟨a2, e2, _, _⟩ := DataW.trod_int Tryd.underlying3 g2
  obtain ⟨a3, e3, _, _⟩ := DataW.trod_int Tryd.underlying3 g3
  obtain ⟨a4, e4, _, _⟩ := DataW.trod_int Tryd.underlying3 g4
  simp only [List.cons.injEq, and_true] at e0 e1 e2 e3 e4
  exact ⟨⟨a0, a1, a2, a3, a4⟩, e0, e1, e2, e3, e4⟩
set_option maxHeartbeats 800000 in
set_option maxRecDepth 100000 in
theorem open_cmds {H : Type} {enc : TypeId × Value → H} {W : World} {base : Nat} {v : Value} {d : DataW H} {p : List MemPlace} (hv : Value.okWide Tryd.prog W .any base 42 v)
    (h : DataW.Trod enc Tryd.prog W 0 (fun _ => true) true 42 v d p) (hlt : ∀ x ∈ p, x.block < W.heap.size) :
    ∃ ao, ∃ ps : List Cm, ∃ cap, v = .slice ao ps.length cap ∧ RdC W ao ps ∧ ((d = .nil ∧ ps = []) ∨ ∃ es sp, d = .slice es sp ∧ es.length = ps.length) ∧ (ao = none → cap = 0) ∧ ps.length ≤ cap := by
  obtain ⟨a0, len, cap, rfl⟩ := okWide_slice Tryd.underlying42 hv
  obtain ⟨fuel, hf⟩ := h
  rcases open_slice Tryd.underlying42 hf with ⟨hcs, hx⟩ | ⟨a, len', cap', m, n, D, Pl, hcs, _, hl, hm, hmm, hx, hcell⟩
  · simp [Value.cells] at hcs
    obtain ⟨rfl, rfl, rfl⟩ := hcs
    simp only [Prod.mk.injEq] at hx
    exact ⟨none, [], 0, rfl, .inl rfl, .inl ⟨hx.1, rfl⟩, fun _ => rfl, Nat.le_refl _⟩
  · simp [Value.cells] at hcs
    obtain ⟨rfl, rfl, rfl⟩ := hcs
    simp only [Prod.mk.injEq] at hx
    obtain ⟨rfl, rfl⟩ := hx
    simp only [if_true] at hmm
    subst hmm
    rw [Tryd.cells31] at hcell
    have each : ∀ i, i < len → ∃ q : Cm, W.cell? (a.add (i * 5)) = some (.int .i64 q.k) ∧ W.cell? (a.add (i * 5 + 1)) = some (.int .i64 q.x) ∧ W.cell? (a.add (i * 5 + 2)) = some (.int .i64 q.y) ∧ W.cell? (a.add (i * 5 + 3)) = some (.int .i64 q.z) ∧ W.cell? (a.add (i * 5 + 4)) = some (.int .i64 q.v) := by
      intro i hi
      obtain ⟨cs', h1, h2⟩ := hcell i (by omega)
      obtain ⟨_, hlen, hc⟩ := World.cells?_some h1
      obtain ⟨c0, c1, c2, c3, c4, rfl⟩ := list5 hlen
      obtain ⟨q, rfl, rfl, rfl, rfl, rfl⟩ := trod_cm h2
      have e0 := hc 0 (by omega)
      have e1 := hc 1 (by omega)
      have e2 := hc 2 (by omega)
      have e3 := hc 3 (by omega)
      have e4 := hc 4 (by omega)
      rw [add_add] at e0 e1 e2 e3 e4
      exact ⟨q, by simpa using e0, by simpa using e1, by simpa using e2, by simpa using e3, by simpa using e4⟩
    haveI : Inhabited Cm := ⟨⟨0, 0, 0, 0, 0⟩⟩
    obtain ⟨q, hq⟩ := choose_lt each
    refine ⟨some a, (List.range len).map q, m, by simp, ?_, .inr ⟨_, _, rfl, by simp⟩, (fun e => by cases e), by simpa using hl⟩
    by_cases h0 : len = 0
    · subst h0; exact .inl rfl
    · obtain ⟨b, off, spot⟩ := a
      have hspot : spot = none := by simpa [Addr.add] using World.cell?_spot (hq 0 (by omega)).1
      subst hspot
      have hbW : b < W.heap.size := hlt (.cell b off) (List.mem_append_left _ (MemPlace.mem_row.2 ⟨0, by rw [Tryd.cells31]; omega, by simp⟩))
      refine .inr ⟨b, off, rfl, hbW, fun k hk => ?_⟩
      have hk' : k < len := by simpa using hk
      have h0' := hq k hk'
      simp only [add_plain] at h0'
      simp only [List.getElem_map, List.getElem_range]
      exact h0'
theorem cmds_reach {H : Type} {d : DataW H} {ps : List Cm} (h : ∀ es sp, d = .slice es sp → (es.length + sp.length) * Tryd.prog.bytesOf 31 ≤ reachBytes) (hd : (d = .nil ∧ ps = []) ∨ ∃ es sp, d = .slice es sp ∧ es.length = ps.length) : ps.length * 40 ≤ 140737488351232 := by
  rcases hd with ⟨_, rfl⟩ | ⟨es, sp, e, hl⟩
  · decide
  · have := h es sp e
    rw [Tryd.bytes31] at this
    simp only [reachBytes] at this
    omega
end Go.Proofs.YtgahlhfgpkklaaaDoor
