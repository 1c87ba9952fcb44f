/- The law SpaceLists walked; a slice of boxes, opened. -/
import Derived.Test.YtiafcgbohckmmaaLs1
import Derived.Test.YtiafcgbohckmmaaLs2a
import Derived.Test.YtiafcgbohckmmaaLs2b
import Derived.Test.YtiafcgbohckmmaaLs2c
import Derived.Test.YtiafcgbohckmmaaLs2d
namespace Go.Proofs.Ytiafcgbohckmmaa
open Go.ChangeShapes Go.WideShapes Go.ChangeAt Go.RowKit Go.Deep

theorem lists_any (ao : Option Addr) (cap : Nat) (l : List Bx) (a : Bx) (p : Pt) (w : World) (hL : Bxs w ao l) (hn0 : ao = none → cap = 0) (hreach : l.length * 48 ≤ 140737488351232) :
    Calls Try.prog 4 #[.slice ao l.length cap, bv a, pv p] w fun e w' => e = .returned (.bool true) ∧ Below w.heap.size w w' := by
  by_cases hr : rlist l [] = 0
  · obtain ⟨I, J, hA⟩ := apt_exists l
    by_cases ha : bad1 a = 0
    · cases hp : nearP p with
      | false => exact ls_2b ao cap l a p w hL hn0 hreach I J hr hA ha hp
      | true =>
        obtain ⟨H, hH⟩ := least_exists l (wayX a p) (wayY a p) (safe_facts ha hp).hz
        cases hn : nearB (movB (endB a p) ⟨0, 0, H⟩) with
        | false => exact ls_2c ao cap l a p w hL hn0 hreach I J hr hA ha hp H hH hn
        | true => exact ls_2d ao cap l a p w hL hn0 hreach I J hr hA ha hp H hH hn
    · exact ls_2a ao cap l a p w hL hn0 hreach I J hr hA ha
  · exact ls_1 ao cap l a p w hL hn0 hreach hr

/-- A slice of boxes that came in: its boxes lie in memory; what is read of it has as many. -/
theorem open_boxes {H : Type} {enc : TypeId × Value → H} {W : World} {base : Nat} {v : Value} {d : DataW H} {p : List MemPlace} (hv : Value.okWide Try.prog W .any base 38 v)
    (h : DataW.Trod enc Try.prog W 0 (fun _ => true) true 38 v d p) (hlt : ∀ x ∈ p, x.block < W.heap.size) :
    ∃ ao ps cap, v = .slice ao ps.length cap ∧ Bxs W ao ps ∧ ((d = .nil ∧ ps = []) ∨ ∃ es sp, d = .slice es sp ∧ es.length = ps.length) ∧ (ao = none → cap = 0) := by
  obtain ⟨a0, len, cap, rfl⟩ := okWide_slice Try.underlying38 hv
  obtain ⟨fuel, hf⟩ := h
  rcases open_slice Try.underlying38 hf with ⟨hcs, hx⟩ | ⟨a, len', cap', m, n, D, Pl, hcs, _, hl, hm, hmm, hx, hcell⟩
  · simp [Value.cells] at hcs
    obtain ⟨rfl, rfl, rfl⟩ := hcs
    simp only [Prod.mk.injEq] at hx
    exact ⟨none, [], 0, rfl, Bxs.nil _ _, .inl ⟨hx.1, rfl⟩, fun _ => rfl⟩
  · simp [Value.cells] at hcs
    obtain ⟨rfl, rfl, rfl⟩ := hcs
    simp only [Prod.mk.injEq] at hx
    obtain ⟨rfl, rfl⟩ := hx
    simp only [if_true] at hmm
    subst hmm
    rw [Try.cells25] at hcell
    have each : ∀ i, i < len → ∃ q : Bx, W.cell? (a.add (i * 6)) = some (.int .i64 q.lx) ∧ W.cell? (a.add (i * 6 + 1)) = some (.int .i64 q.ly) ∧ W.cell? (a.add (i * 6 + 2)) = some (.int .i64 q.lz) ∧ W.cell? (a.add (i * 6 + 3)) = some (.int .i64 q.hx) ∧ W.cell? (a.add (i * 6 + 4)) = some (.int .i64 q.hy) ∧ W.cell? (a.add (i * 6 + 5)) = some (.int .i64 q.hz) := by
      intro i hi
      obtain ⟨cs', h1, h2⟩ := hcell i (by omega)
      obtain ⟨_, hlen, hc⟩ := World.cells?_some h1
      obtain ⟨q, rfl, _, _⟩ := trod_box h2
      have e0 := hc 0 (by omega)
      have e1 := hc 1 (by omega)
      have e2 := hc 2 (by omega)
      have e3 := hc 3 (by omega)
      have e4 := hc 4 (by omega)
      have e5 := hc 5 (by omega)
      rw [add_add] at e0 e1 e2 e3 e4 e5
      exact ⟨q, by simpa using e0, by simpa using e1, by simpa using e2, by simpa using e3, by simpa using e4, by simpa using e5⟩
    haveI : Inhabited Bx := ⟨⟨0, 0, 0, 0, 0, 0⟩⟩
    obtain ⟨q, hq⟩ := choose_lt each
    refine ⟨some a, (List.range len).map q, m, by simp, ?_, .inr ⟨_, _, rfl, by simp⟩, fun e => by cases e⟩
    by_cases h0 : len = 0
    · subst h0; exact .inl rfl
    · obtain ⟨b, off, spot⟩ := a
      have hspot : spot = none := by simpa [Addr.add] using World.cell?_spot (hq 0 (by omega)).1
      subst hspot
      have hbW : b < W.heap.size := hlt (.cell b off) (List.mem_append_left _ (MemPlace.mem_row.2 ⟨0, by rw [Try.cells25]; omega, by simp⟩))
      refine .inr ⟨b, off, rfl, fun k hk => ?_⟩
      have hk' : k < len := by simpa using hk
      obtain ⟨h0', h1, h2, h3, h4, h5⟩ := hq k hk'
      rw [add_plain] at h0' h1 h2 h3 h4 h5
      simp only [List.getElem_map, List.getElem_range]
      exact ⟨hbW, h0', by rw [← Nat.add_assoc] at h1; exact h1, by rw [← Nat.add_assoc] at h2; exact h2, by rw [← Nat.add_assoc] at h3; exact h3, by rw [← Nat.add_assoc] at h4; exact h4, by rw [← Nat.add_assoc] at h5; exact h5⟩
/-- What was read takes no more room than the form lets it. -/
theorem boxes_reach {H : Type} {d : DataW H} {ps : List Bx} (h : ∀ es sp, d = .slice es sp → (es.length + sp.length) * Try.prog.bytesOf 25 ≤ reachBytes) (hd : (d = .nil ∧ ps = []) ∨ ∃ es sp, d = .slice es sp ∧ es.length = ps.length) : ps.length * 48 ≤ 140737488351232 := by
  rcases hd with ⟨_, rfl⟩ | ⟨es, sp, e, hl⟩
  · decide
  · have := h es sp e
    rw [Try.bytes25] at this
    simp only [reachBytes] at this
    omega
end Go.Proofs.Ytiafcgbohckmmaa
