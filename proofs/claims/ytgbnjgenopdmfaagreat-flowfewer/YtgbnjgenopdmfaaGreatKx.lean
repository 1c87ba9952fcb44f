import Derived.Test.YtgbnjgenopdmfaaGreatKj
import Derived.Test.YtgbnjgenopdmfaaGreatKw
import Derived.ProofKit
import Derived.OpenShut
import Derived.ShutString
import Derived.SizedLaws
import Derived.Deep.SlicePairs
import Derived.Deep.Strs
import Derived.ChangeSame
import Derived.Deep.Slices

/- Arguments that are slices of actions, places, ints, opened. -/
namespace Go.Proofs.YtgbnjgenopdmfaaGreat
namespace U
open Go.ChangeShapes Go.WideShapes Go.ChangeAt Go.RowKit Go.Deep
theorem Tryz.own : ownKnob Tryz.prog.godebug = none := by kernel_rfl
theorem Tryz.laidOut : laidOutB Tryz.prog = true := by kernel_rfl
theorem Tryz.cells9 : Tryz.prog.cellsOf 9 = 1 := by kernel_rfl
theorem Tryz.cells3 : Tryz.prog.cellsOf 3 = 1 := by kernel_rfl
theorem Tryz.cells53 : Tryz.prog.cellsOf 53 = 3 := by kernel_rfl
theorem Tryz.cells51 : Tryz.prog.cellsOf 51 = 2 := by kernel_rfl
theorem Tryz.cells55 : Tryz.prog.cellsOf 55 = 8 := by kernel_rfl
theorem i64_in {a : Int} (h : (Lit.int .i64 a).wf = true) : -9223372036854775808 ≤ a ∧ a ≤ 9223372036854775807 := by
  have h1 : IntKind.i64.min = -9223372036854775808 := rfl
  have h2 : IntKind.i64.max = 9223372036854775807 := rfl
  simp only [Lit.wf, Bool.and_eq_true, decide_eq_true_eq] at h
  omega
theorem list8 {α : Type} {l : List α} (h : l.length = 8) : ∃ c0 c1 c2 c3 c4 c5 c6 c7, l = [c0, c1, c2, c3, c4, c5, c6, c7] := by
  match l, h with
  | [c0, c1, c2, c3, c4, c5, c6, c7], _ => exact ⟨c0, c1, c2, c3, c4, c5, c6, c7, rfl⟩
theorem list6 {α : Type} {l : List α} (h : l.length = 6) : ∃ c0 c1 c2 c3 c4 c5, l = [c0, c1, c2, c3, c4, c5] := by
  match l, h with
  | [c0, c1, c2, c3, c4, c5], _ => exact ⟨c0, c1, c2, c3, c4, c5, rfl⟩
section
variable {H : Type} {enc : TypeId × Value → H} {W : World}
set_option maxRecDepth 100000 in
theorem trod_place {n : Nat} {c0 c1 c2 : Value} {y : DataW H × List MemPlace} (h : DataW.trod enc Tryz.prog W 0 (fun _ => true) true n 53 [c0, c1, c2] = some y) :
    ∃ p : Plc, c0 = .int .i64 p.1 ∧ c1 = .int .i64 p.2.1 ∧ c2 = .int .i64 p.2.2 ∧ Wf3 p := by
  obtain ⟨y0, y1, m, hy, hl, h0, h1⟩ := trod_struct2 Tryz.underlying53 h
  have g0 : DataW.trod enc Tryz.prog W 0 (fun _ => true) true m 3 [c0] = some y0 := by simpa [Tryz.cells3] using h0
  have g1 : DataW.trod enc Tryz.prog W 0 (fun _ => true) true m 51 [c1, c2] = some y1 := by simpa [Tryz.cells51] using h1
  obtain ⟨z0, z1, m2, _, _, k0, k1⟩ := trod_struct2 Tryz.underlying51 g1
  have f0 : DataW.trod enc Tryz.prog W 0 (fun _ => true) true m2 3 [c1] = some z0 := by simpa [Tryz.cells3] using k0
  have f1 : DataW.trod enc Tryz.prog W 0 (fun _ => true) true m2 3 [c2] = some z1 := by simpa [Tryz.cells3] using k1
  obtain ⟨a0, e0, _, w0⟩ := DataW.trod_int Tryz.underlying3 g0
  obtain ⟨a1, e1, _, w1⟩ := DataW.trod_int Tryz.underlying3 f0
  obtain ⟨a2, e2, _, w2⟩ := DataW.trod_int Tryz.underlying3 f1
  simp only [List.cons.injEq, and_true] at e0 e1 e2
  exact ⟨(a0, a1, a2), e0, e1, e2, i64_in w0, i64_in w1, i64_in w2⟩
set_option maxRecDepth 100000 in
/-- A slice that came in, whatever its elements are. -/
theorem open_rows {α : Type} [Inhabited α] (c : Enc α) (hgc : Good c) (Q : α → Prop) {t : TypeId} (hu : Tryz.prog.underlying t = some (.slice c.E)) (hcells : Tryz.prog.cellsOf c.E = c.sz) (hs0 : 0 < c.sz)
    (hE : ∀ n cs y, DataW.trod enc Tryz.prog W 0 (fun _ => true) true n c.E cs = some y → ∃ x : α, cs = c.enc x ∧ Q x) {n : Nat} {cs : List Value} {y : DataW H × List MemPlace} (h : DataW.trod enc Tryz.prog W 0 (fun _ => true) true n t cs = some y) :
    ∃ ao l cap, cs = [.slice ao l.length cap] ∧ RdR c W ao l ∧ (∀ x ∈ l, Q x) ∧ l.length ≤ cap ∧ l.length ≤ 9223372036854775807 ∧ (ao = none → cap = 0) := by
  rcases open_slice hu h with ⟨hcs, _⟩ | ⟨a, len, cap, m, n', D, Pl, hcs, _, hl, hm, hmm, _, hcell⟩
  · exact ⟨none, [], 0, hcs, .inl rfl, fun x hx => (by cases hx), Nat.le_refl _, Nat.zero_le _, fun _ => rfl⟩
  · simp only [if_true] at hmm
    subst hmm
    rw [hcells] at hcell
    have each : ∀ i, i < len → ∃ q : α, (∀ j u, (c.enc q)[j]? = some u → W.cell? (a.add (i * c.sz + j)) = some u) ∧ Q q := by
      intro i hi
      obtain ⟨cs', h1, h2⟩ := hcell i (by omega)
      obtain ⟨_, hlen, hc⟩ := World.cells?_some h1
      obtain ⟨q, rfl, hok⟩ := hE _ _ _ h2
      refine ⟨q, fun j u hj => ?_, hok⟩
      have hj14 : j < c.sz := by rw [← hgc.len q]; exact (List.getElem?_eq_some_iff.1 hj).1
      have e := hc j (by omega)
      rw [add_add] at e
      rw [e]; exact hj
    obtain ⟨q, hq⟩ := choose_lt each
    refine ⟨some a, (List.range len).map q, m, by simpa using hcs, ?_, fun x hx => ?_, by simpa using hl, by unfold maxLen at hm; simp; omega, fun h => (by cases h)⟩
    · by_cases h0 : len = 0
      · subst h0; exact .inl rfl
      · obtain ⟨b, off, spot⟩ := a
        have hlen0 : 0 < (c.enc (q 0)).length := by rw [hgc.len]; exact hs0
        have h00 := (hq 0 (by omega)).1 0 _ (List.getElem?_eq_getElem hlen0)
        have hspot : spot = none := by simpa [Addr.add] using World.cell?_spot h00
        subst hspot
        have hbW : b < W.heap.size := by
          have := World.block_lt_of_cell? W _ h00
          rw [add_plain] at this
          exact this
        refine .inr ⟨b, off, rfl, hbW, fun k hk j hj => ?_⟩
        have hk' : k < len := by simpa using hk
        simp only [List.getElem_map, List.getElem_range]
        have hjl : j < (c.enc (q k)).length := by rw [hgc.len]; exact hj
        have := (hq k hk').1 j _ (List.getElem?_eq_getElem hjl)
        rw [add_plain, ← Nat.add_assoc] at this
        rw [this, List.getElem?_eq_getElem hjl]
    · obtain ⟨i, hi, rfl⟩ := List.mem_map.1 hx
      exact (hq i (List.mem_range.1 hi)).2
set_option maxHeartbeats 800000 in
set_option maxRecDepth 100000 in
theorem trod_action (n : Nat) (cs : List Value) (y : DataW H × List MemPlace) (h : DataW.trod enc Tryz.prog W 0 (fun _ => true) true n 55 cs = some y) : ∃ a : Acn, cs = encA.enc a ∧ ((a.label.size ≤ maxLen ∧ (Lit.int .i64 a.kind).wf = true) ∧ Wf3 a.pl) := by
  obtain ⟨xs, m, _, _, hl, hlen, hg⟩ := DataW.trod_struct Tryz.underlying55 h
  obtain ⟨c0, c1, c2, c3, c4, c5, c6, c7, rfl⟩ := list8 (l := cs) (hl.trans Tryz.cells55)
  obtain ⟨y0, y1, y2, y3, y4, y5, rfl⟩ := list6 (l := xs) (by simpa using hlen)
  have g0 : DataW.trod enc Tryz.prog W 0 (fun _ => true) true m 3 [c0] = some y0 := by have := hg 0 _ rfl; simpa [Tryz.cells3] using this
  have g1 : DataW.trod enc Tryz.prog W 0 (fun _ => true) true m 53 [c1, c2, c3] = some y1 := by have := hg 1 _ rfl; simpa [Tryz.cells53] using this
  have g2 : DataW.trod enc Tryz.prog W 0 (fun _ => true) true m 9 [c4] = some y2 := by have := hg 2 _ rfl; simpa [Tryz.cells9] using this
  have g3 : DataW.trod enc Tryz.prog W 0 (fun _ => true) true m 3 [c5] = some y3 := by have := hg 3 _ rfl; simpa [Tryz.cells3] using this
  have g4 : DataW.trod enc Tryz.prog W 0 (fun _ => true) true m 3 [c6] = some y4 := by have := hg 4 _ rfl; simpa [Tryz.cells3] using this
  have g5 : DataW.trod enc Tryz.prog W 0 (fun _ => true) true m 3 [c7] = some y5 := by have := hg 5 _ rfl; simpa [Tryz.cells3] using this
  obtain ⟨a0, e0, _, w0⟩ := DataW.trod_int Tryz.underlying3 g0
  obtain ⟨p, rfl, rfl, rfl, hp⟩ := trod_place g1
  obtain ⟨a2, e2, _, w2⟩ := DataW.trod_string Tryz.underlying9 g2
  obtain ⟨a3, e3, _, _⟩ := DataW.trod_int Tryz.underlying3 g3
  obtain ⟨a4, e4, _, _⟩ := DataW.trod_int Tryz.underlying3 g4
  obtain ⟨a5, e5, _, _⟩ := DataW.trod_int Tryz.underlying3 g5
  simp only [List.cons.injEq, and_true] at e0 e2 e3 e4 e5
  subst e0 e2 e3 e4 e5
  exact ⟨⟨a0, p, a2, a3, a4, a5⟩, rfl, ⟨w2, w0⟩, hp⟩
set_option maxRecDepth 100000 in
theorem open_actions {b0 : Nat} {v : Value} {d : DataW H} {p : List MemPlace} (hv : Value.okWide Tryz.prog W .any b0 23 v) (h : DataW.Trod enc Tryz.prog W 0 (fun _ => true) true 23 v d p) : ∃ ao acs cap, v = .slice ao acs.length cap ∧ Acs W ao acs ∧ (∀ a ∈ acs, Wf3 a.pl) ∧ acs.length ≤ cap ∧ (ao = none → cap = 0) ∧ acs.length ≤ 9223372036854775807 := by
  obtain ⟨a0, len, cap, rfl⟩ := okWide_slice Tryz.underlying23 hv
  obtain ⟨fuel, hf⟩ := h
  haveI : Inhabited Acn := ⟨⟨0, (0, 0, 0), ⟨#[]⟩, 0, 0, 0⟩⟩
  obtain ⟨ao, l, cap', e, hr, hq, hc, hl, hn⟩ := open_rows encA goodA (fun a => (a.label.size ≤ maxLen ∧ (Lit.int .i64 a.kind).wf = true) ∧ Wf3 a.pl) Tryz.underlying23 Tryz.cells55 (by decide) trod_action hf
  simp only [Value.cells] at e
  have e' : Value.slice a0 len cap = Value.slice ao l.length cap' := by simpa using e
  rw [e']
  exact ⟨ao, l, cap', rfl, ⟨hr, fun a ha => (hq a ha).1⟩, fun a ha => (hq a ha).2, hc, hn, hl⟩
end
end U
end Go.Proofs.YtgbnjgenopdmfaaGreat
