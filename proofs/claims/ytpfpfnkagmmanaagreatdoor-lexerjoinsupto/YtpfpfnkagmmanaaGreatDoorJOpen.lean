/- A slice of tokens that came in, opened; what its bulk says. -/
import Derived.Test.YtpfpfnkagmmanaaGreatDoorRows
import Derived.Test.YtpfpfnkagmmanaaGreatDoorLxT
import Derived.WalkKit
import Derived.ProofKit
import Derived.OpenShut
import Derived.ShutString
import Derived.SizedLaws
import Derived.Deep.SlicePairs
import Derived.Deep.Strs
namespace Go.Proofs.YtpfpfnkagmmanaaGreatDoor
open Go.ChangeShapes Go.WideShapes Go.ChangeAt Go.RowKit Go.Deep

theorem Tryz.laidOut : laidOutB Tryz.prog = true := by kernel_rfl
theorem Tryz.cellsTok : Tryz.prog.cellsOf 36 = 3 := by kernel_rfl
theorem Tryz.cellsI : Tryz.prog.cellsOf 3 = 1 := by kernel_rfl
theorem Tryz.cellsS : Tryz.prog.cellsOf 9 = 1 := by kernel_rfl
theorem list3 {α : Type} {l : List α} (h : l.length = 3) : ∃ c0 c1 c2, l = [c0, c1, c2] := by
  match l, h with
  | [c0, c1, c2], _ => exact ⟨c0, c1, c2, rfl⟩
/-- What is read of a token. -/
def td {H : Type} (p : Tk) : DataW H := .agg [.lit (.int .i64 p.k), .lit (.string p.t), .lit (.int .i64 p.n)]
set_option maxRecDepth 100000 in
theorem trod_tok {H : Type} {enc : TypeId × Value → H} {W : World} {sp : Nat → Bool} {n : Nat} {cs : List Value} {y : DataW H × List MemPlace} (h : DataW.trod enc Tryz.prog W 0 sp true n 36 cs = some y) :
    ∃ p : Tk, cs = [.int .i64 p.k, .string ⟨p.t.toArray⟩, .int .i64 p.n] ∧ y = (td p, []) := by
  obtain ⟨y0, y1, y2, m, rfl, hl, h0, h1, h2⟩ := trod_struct3 Tryz.underlying36 h
  obtain ⟨c0, c1, c2, rfl⟩ := list3 (l := cs) (hl.trans Tryz.cellsTok)
  have g0 : DataW.trod enc Tryz.prog W 0 sp true m 3 [c0] = some y0 := by simpa [Tryz.cellsI] using h0
  have g1 : DataW.trod enc Tryz.prog W 0 sp true m 9 [c1] = some y1 := by simpa [Tryz.cellsS] using h1
  have g2 : DataW.trod enc Tryz.prog W 0 sp true m 3 [c2] = some y2 := by simpa [Tryz.cellsI] using h2
  obtain ⟨a0, e0, z0, w0⟩ := DataW.trod_int Tryz.underlying3 g0
  obtain ⟨s, e1, z1, w1⟩ := DataW.trod_string Tryz.underlying9 g1
  obtain ⟨a2, e2, z2, w2⟩ := DataW.trod_int Tryz.underlying3 g2
  simp only [List.cons.injEq, and_true] at e0 e1 e2
  subst e0 e1 e2 z0 z1 z2
  exact ⟨⟨a0, s.data.toList, a2⟩, rfl, rfl⟩
set_option maxRecDepth 100000 in
theorem open_toks {H : Type} {enc : TypeId × Value → H} {W : World} {base : Nat} {v : Value} {d : DataW H} {p : List MemPlace} (hv : Value.okWide Tryz.prog W .any base 22 v)
    (h : DataW.Trod enc Tryz.prog W 0 (fun _ => true) true 22 v d p) (hlt : ∀ x ∈ p, x.block < W.heap.size) :
    ∃ ao ps cap, v = .slice ao ps.length cap ∧ Tks W ao ps ∧ (ao = none → cap = 0) ∧ ((d = .nil ∧ ps = []) ∨ ∃ sp, d = .slice (ps.map td) sp) := by
  obtain ⟨a0, len, cap, rfl⟩ := okWide_slice Tryz.underlying22 hv
  obtain ⟨fuel, hf⟩ := h
  rcases open_slice Tryz.underlying22 hf with ⟨hcs, hx⟩ | ⟨a, len', cap', m, n, D, Pl, hcs, _, hl, hm, hmm, hx, hcell⟩
  · simp [Value.cells] at hcs
    obtain ⟨rfl, rfl, rfl⟩ := hcs
    simp only [Prod.mk.injEq] at hx
    exact ⟨none, [], 0, rfl, Tks.nil _ _, fun _ => rfl, .inl ⟨hx.1, rfl⟩⟩
  · simp [Value.cells] at hcs
    obtain ⟨rfl, rfl, rfl⟩ := hcs
    simp only [Prod.mk.injEq] at hx
    obtain ⟨rfl, rfl⟩ := hx
    simp only [if_true] at hmm
    subst hmm
    rw [Tryz.cellsTok] at hcell
    have each : ∀ i, i < len → ∃ q : Tk, (W.cell? (a.add (i * 3)) = some (.int .i64 q.k) ∧ W.cell? (a.add (i * 3 + 1)) = some (.string ⟨q.t.toArray⟩) ∧ W.cell? (a.add (i * 3 + 2)) = some (.int .i64 q.n)) ∧ D i = td q := by
      intro i hi
      obtain ⟨cs', h1, h2⟩ := hcell i (by omega)
      obtain ⟨_, hlen, hc⟩ := World.cells?_some h1
      obtain ⟨q, rfl, hy⟩ := trod_tok h2
      have e0 := hc 0 (by omega)
      have e1 := hc 1 (by omega)
      have e2 := hc 2 (by omega)
      rw [add_add] at e0 e1 e2
      simp only [Prod.mk.injEq] at hy
      exact ⟨q, ⟨by simpa using e0, by simpa using e1, by simpa using e2⟩, hy.1⟩
    haveI : Inhabited Tk := ⟨⟨0, [], 0⟩⟩
    obtain ⟨q, hq⟩ := choose_lt each
    refine ⟨some a, (List.range len).map q, m, by simp, ?_, (fun e => by cases e), .inr ⟨(List.range (m - len)).map fun j => D (len + j), ?_⟩⟩
    · by_cases h0 : len = 0
      · subst h0; exact .inl rfl
      · obtain ⟨b, off, spot⟩ := a
        have hspot : spot = none := by simpa [Addr.add] using World.cell?_spot (hq 0 (by omega)).1.1
        subst hspot
        have hbW : b < W.heap.size := hlt (.cell b off) (List.mem_append_left _ (MemPlace.mem_row.2 ⟨0, by rw [Tryz.cellsTok]; omega, by simp⟩))
        refine .inr ⟨b, off, rfl, fun k hk => ?_⟩
        have hk' : k < len := by simpa using hk
        obtain ⟨⟨c0, c1, c2⟩, _⟩ := hq k hk'
        rw [add_plain] at c0 c1 c2
        simp only [List.getElem_map, List.getElem_range]
        exact ⟨hbW, c0, by rw [← Nat.add_assoc] at c1; exact c1, by rw [← Nat.add_assoc] at c2; exact c2⟩
    · rw [List.map_map]
      congr 1
      exact List.map_congr_left fun i hi => (hq i (List.mem_range.1 hi)).2
/-! ### what the bulk says -/
theorem bulk_td {H : Type} (p : Tk) : Rows.uptoBulk (td (H := H) p) = p.t.length + 4 := by
  simp only [td, Rows.uptoBulkAll, Rows.uptoBulk]
  omega
theorem bulk_len {H : Type} : ∀ ps : List Tk, ps.length ≤ Rows.uptoBulkAll (ps.map (td (H := H)))
  | [] => by simp [Rows.uptoBulkAll]
  | p :: ps => by
    have := bulk_len (H := H) ps
    simp only [List.map_cons, Rows.uptoBulkAll, bulk_td, List.length_cons]
    omega
theorem bulk_mem {H : Type} : ∀ (ps : List Tk) (p : Tk), p ∈ ps → p.t.length ≤ Rows.uptoBulkAll (ps.map (td (H := H)))
  | [], _, h => by simp at h
  | x :: ps, p, h => by
    simp only [List.map_cons, Rows.uptoBulkAll, bulk_td]
    rcases List.mem_cons.1 h with rfl | h
    · omega
    · have := bulk_mem (H := H) ps p h
      omega
theorem bulk_toks {H : Type} {d : DataW H} {s : List UInt8} {n : Int} {ps : List Tk} (hk : Rows.uptoSmall H [d, .lit (.string s), .lit (.int .i64 n)] = true) (hd : (d = .nil ∧ ps = []) ∨ ∃ sp, d = .slice (ps.map td) sp) :
    ps.length ≤ 1048576 ∧ (∀ p ∈ ps, p.t.length ≤ 1048576) ∧ s.length ≤ 1048576 := by
  have h : Rows.uptoBulkAll [d, DataW.lit (H := H) (.string s), .lit (.int .i64 n)] ≤ 1048576 := of_decide_eq_true hk
  simp only [Rows.uptoBulkAll, Rows.uptoBulk] at h
  rcases hd with ⟨rfl, rfl⟩ | ⟨sp, rfl⟩
  · exact ⟨by simp, fun p hp => by simp at hp, by omega⟩
  · simp only [Rows.uptoBulk] at h
    have h1 := bulk_len (H := H) ps
    exact ⟨by omega, fun p hp => by have := bulk_mem (H := H) ps p hp; omega, by omega⟩
end Go.Proofs.YtpfpfnkagmmanaaGreatDoor
