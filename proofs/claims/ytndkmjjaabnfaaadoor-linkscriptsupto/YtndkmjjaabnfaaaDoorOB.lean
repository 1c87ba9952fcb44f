/- Slices of numbers, opened. -/
import Derived.Test.YtndkmjjaabnfaaaDoorLI
import Derived.Test.YtndkmjjaabnfaaaDoorRows
import Derived.ProofKit
import Derived.OpenShut
import Derived.ShutString
import Derived.SizedLaws
import Derived.Deep.SlicePairs
import Derived.Deep.Strs
import Derived.Lib.SmallJoins
namespace Go.Proofs.YtndkmjjaabnfaaaDoor
open Go.ChangeShapes Go.WideShapes Go.ChangeAt Go.RowKit Go.Deep

theorem Tryd.laidOut : laidOutB Tryd.prog = true := by kernel_rfl
theorem Tryd.cells3 : Tryd.prog.cellsOf 3 = 1 := by kernel_rfl
theorem Tryd.bytes3 : Tryd.prog.bytesOf 3 = 8 := by kernel_rfl
set_option maxRecDepth 100000 in
theorem open_list {H : Type} {enc : TypeId × Value → H} {W : World} {base : Nat} {v : Value} {d : DataW H} {p : List MemPlace} (hv : Value.okWide Tryd.prog W .any base 22 v)
    (h : DataW.Trod enc Tryd.prog W 0 (fun _ => true) true 22 v d p) (hlt : ∀ x ∈ p, x.block < W.heap.size) :
    ∃ ao, ∃ ps : List Int, ∃ cap, v = .slice ao ps.length cap ∧ RdI W ao ps ∧ ((d = .nil ∧ ps = []) ∨ ∃ es sp, d = .slice es sp ∧ es.length = ps.length) ∧ (ao = none → cap = 0) := by
  obtain ⟨a0, len, cap, rfl⟩ := okWide_slice Tryd.underlying22 hv
  obtain ⟨fuel, hf⟩ := h
  rcases open_slice Tryd.underlying22 hf with ⟨hcs, hx⟩ | ⟨a, len', cap', m, n, D, Pl, hcs, _, hl, hm, hmm, hx, hcell⟩
  · simp [Value.cells] at hcs
    obtain ⟨rfl, rfl, rfl⟩ := hcs
    simp only [Prod.mk.injEq] at hx
    exact ⟨none, [], 0, rfl, .inl rfl, .inl ⟨hx.1, rfl⟩, fun _ => rfl⟩
  · simp [Value.cells] at hcs
    obtain ⟨rfl, rfl, rfl⟩ := hcs
    simp only [Prod.mk.injEq] at hx
    obtain ⟨rfl, rfl⟩ := hx
    simp only [if_true] at hmm
    subst hmm
    rw [Tryd.cells3] at hcell
    have each : ∀ i, i < len → ∃ q : Int, W.cell? (a.add i) = some (.int .i64 q) := by
      intro i hi
      obtain ⟨cs', h1, h2⟩ := hcell i (by omega)
      obtain ⟨_, hlen, hc⟩ := World.cells?_some h1
      have e0 := hc 0 (by omega)
      obtain ⟨c0, rfl⟩ : ∃ c0, cs' = [c0] := List.length_eq_one_iff.1 hlen
      obtain ⟨q, e1, _, _⟩ := DataW.trod_int Tryd.underlying3 h2
      simp only [List.cons.injEq, and_true] at e1
      subst e1
      rw [add_add] at e0
      exact ⟨q, by simpa using e0⟩
    haveI : Inhabited Int := ⟨0⟩
    obtain ⟨q, hq⟩ := choose_lt each
    refine ⟨some a, (List.range len).map q, m, by simp, ?_, .inr ⟨_, _, rfl, by simp⟩, fun e => by cases e⟩
    by_cases h0 : len = 0
    · subst h0; exact .inl rfl
    · obtain ⟨b, off, spot⟩ := a
      have hspot : spot = none := by simpa [Addr.add] using World.cell?_spot (hq 0 (by omega))
      subst hspot
      have hbW : b < W.heap.size := hlt (.cell b off) (List.mem_append_left _ (MemPlace.mem_row.2 ⟨0, by rw [Tryd.cells3]; omega, by simp⟩))
      refine .inr ⟨b, off, rfl, hbW, fun k hk => ?_⟩
      have hk' : k < len := by simpa using hk
      have h0' := hq k hk'
      rw [add_plain] at h0'
      simp only [List.getElem_map, List.getElem_range]
      exact h0'
theorem list_reach {H : Type} {d : DataW H} {ps : List Int} (h : ∀ es sp, d = .slice es sp → (es.length + sp.length) * Tryd.prog.bytesOf 3 ≤ reachBytes) (hd : (d = .nil ∧ ps = []) ∨ ∃ es sp, d = .slice es sp ∧ es.length = ps.length) : ps.length * 8 ≤ 140737488351232 := by
  rcases hd with ⟨_, rfl⟩ | ⟨es, sp, e, hl⟩
  · decide
  · have := h es sp e
    rw [Tryd.bytes3] at this
    simp only [reachBytes] at this
    omega
/-! ### how much is read -/
theorem bulk_pos {H : Type} (d : DataW H) : 1 ≤ Rows.uptoBulk d := by
  cases d with
  | lit l => cases l <;> simp [Rows.uptoBulk]
  | _ => simp [Rows.uptoBulk]
theorem bulk_len {H : Type} : ∀ es : List (DataW H), es.length ≤ Rows.uptoBulkAll es
  | [] => Nat.zero_le _
  | d :: es => by
    have h1 := bulk_pos d
    have h2 := bulk_len es
    simp only [Rows.uptoBulkAll, List.length_cons]
    omega
theorem short {H : Type} {d : DataW H} {s : ByteArray} {ps : List Int} (hk : Rows.uptoSmall H [.lit (.string s.data.toList), d] = true) (hd : (d = .nil ∧ ps = []) ∨ ∃ es sp, d = .slice es sp ∧ es.length = ps.length) : s.size ≤ 1048576 ∧ ps.length ≤ 1048576 := by
  have h : Rows.uptoBulkAll [DataW.lit (H := H) (.string s.data.toList), d] ≤ 1048576 := of_decide_eq_true hk
  simp only [Rows.uptoBulkAll, Rows.uptoBulk] at h
  have hl : s.data.toList.length = s.size := by simp
  rw [hl] at h
  refine ⟨by omega, ?_⟩
  rcases hd with ⟨_, rfl⟩ | ⟨es, sp, e, hl2⟩
  · exact Nat.zero_le _
  · subst e
    simp only [Rows.uptoBulk] at h
    have := bulk_len es
    omega
end Go.Proofs.YtndkmjjaabnfaaaDoor
