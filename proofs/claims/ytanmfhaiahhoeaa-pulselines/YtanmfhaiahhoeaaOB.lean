/- Slices of numbers, opened. -/
import Derived.Test.YtanmfhaiahhoeaaOA
import Derived.Test.YtanmfhaiahhoeaaQK
namespace Go.Proofs.Ytanmfhaiahhoeaa
open Go.ChangeShapes Go.WideShapes Go.ChangeAt Go.RowKit Go.Deep

theorem Try.bytes3 : Try.prog.bytesOf 3 = 8 := by kernel_rfl
set_option maxRecDepth 100000 in
theorem open_list {H : Type} {enc : TypeId × Value → H} {W : World} {base : Nat} {v : Value} {d : DataW H} {p : List MemPlace} (hv : Value.okWide Try.prog W .any base 24 v)
    (h : DataW.Trod enc Try.prog W 0 (fun _ => true) true 24 v d p) (hlt : ∀ x ∈ p, x.block < W.heap.size) :
    ∃ ao, ∃ ps : List Int, ∃ cap, v = .slice ao ps.length cap ∧ RdI W ao ps ∧ ((d = .nil ∧ ps = []) ∨ ∃ es sp, d = .slice es sp ∧ es.length = ps.length) ∧ (ao = none → cap = 0) := by
  obtain ⟨a0, len, cap, rfl⟩ := okWide_slice Try.underlying24 hv
  obtain ⟨fuel, hf⟩ := h
  rcases open_slice Try.underlying24 hf with ⟨hcs, hx⟩ | ⟨a, len', cap', m, n, D, Pl, hcs, _, hl, hm, hmm, hx, hcell⟩
  · simp [Value.cells] at hcs
    obtain ⟨rfl, rfl, rfl⟩ := hcs
    simp only [Prod.mk.injEq] at hx
    exact ⟨none, [], 0, rfl, .inl rfl, .inl ⟨hx.1, rfl⟩, fun _ => rfl⟩
  · simp [Value.cells] at hcs
    obtain ⟨rfl, rfl, rfl⟩ := hcs
    simp only [Prod.mk.injEq] at hx
    obtain ⟨rfl, rfl⟩ := hx
    simp only [if_true] at hmm
    subst hmm
    rw [Try.cells3] at hcell
    have each : ∀ i, i < len → ∃ q : Int, W.cell? (a.add i) = some (.int .i64 q) := by
      intro i hi
      obtain ⟨cs', h1, h2⟩ := hcell i (by omega)
      obtain ⟨_, hlen, hc⟩ := World.cells?_some h1
      have e0 := hc 0 (by omega)
      obtain ⟨c0, rfl⟩ : ∃ c0, cs' = [c0] := List.length_eq_one_iff.1 hlen
      obtain ⟨q, e1, _, _⟩ := DataW.trod_int Try.underlying3 h2
      simp only [List.cons.injEq, and_true] at e1
      subst e1
      rw [add_add] at e0
      exact ⟨q, by simpa using e0⟩
    haveI : Inhabited Int := ⟨0⟩
    obtain ⟨q, hq⟩ := choose_lt each
    refine ⟨some a, (List.range len).map q, m, by simp, ?_, .inr ⟨_, _, rfl, by simp⟩, fun e => by cases e⟩
    by_cases h0 : len = 0
    · subst h0; exact .inl rfl
    · obtain ⟨b, off, spot⟩ := a
      have hspot : spot = none := by simpa [Addr.add] using World.cell?_spot (hq 0 (by omega))
      subst hspot
      have hbW : b < W.heap.size := hlt (.cell b off) (List.mem_append_left _ (MemPlace.mem_row.2 ⟨0, by rw [Try.cells3]; omega, by simp⟩))
      refine .inr ⟨b, off, rfl, hbW, fun k hk => ?_⟩
      have hk' : k < len := by simpa using hk
      have h0' := hq k hk'
      rw [add_plain] at h0'
      simp only [List.getElem_map, List.getElem_range]
      exact h0'
theorem list_reach {H : Type} {d : DataW H} {ps : List Int} (h : ∀ es sp, d = .slice es sp → (es.length + sp.length) * Try.prog.bytesOf 3 ≤ reachBytes) (hd : (d = .nil ∧ ps = []) ∨ ∃ es sp, d = .slice es sp ∧ es.length = ps.length) : ps.length * 8 ≤ 140737488351232 := by
  rcases hd with ⟨_, rfl⟩ | ⟨es, sp, e, hl⟩
  · decide
  · have := h es sp e
    rw [Try.bytes3] at this
    simp only [reachBytes] at this
    omega
end Go.Proofs.Ytanmfhaiahhoeaa
