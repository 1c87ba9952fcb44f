/- Arguments that are states, actions, slices of actions, opened. -/
import Derived.Test.YtjappkfhballhaaGreatNA
import Derived.Test.YtjappkfhballhaaGreatOA
namespace Go.Proofs.YtjappkfhballhaaGreat
open Go.ChangeShapes Go.WideShapes Go.ChangeAt Go.RowKit Go.Joins Go.Deep

theorem Tryz.own : ownKnob Tryz.prog.godebug = none := by kernel_rfl
theorem Tryz.cells31 : Tryz.prog.cellsOf 31 = 3 := by kernel_rfl
theorem Tryz.cells29 : Tryz.prog.cellsOf 29 = 2 := by kernel_rfl
theorem Tryz.cells33 : Tryz.prog.cellsOf 33 = 8 := by kernel_rfl
theorem Tryz.cells27 : Tryz.prog.cellsOf 27 = 7 := by kernel_rfl
theorem Tryz.cells59 : Tryz.prog.cellsOf 59 = 4 := by kernel_rfl
theorem Tryz.cells65 : Tryz.prog.cellsOf 65 = 2 := by kernel_rfl
theorem Tryz.cells4 : Tryz.prog.cellsOf 4 = 1 := by kernel_rfl
theorem Tryz.cells23 : Tryz.prog.cellsOf 23 = 1 := by kernel_rfl
theorem Tryz.cells24 : Tryz.prog.cellsOf 24 = 1 := by kernel_rfl
theorem Tryz.cells25 : Tryz.prog.cellsOf 25 = 1 := by kernel_rfl
theorem list8 {α : Type} {l : List α} (h : l.length = 8) : ∃ c0 c1 c2 c3 c4 c5 c6 c7, l = [c0, c1, c2, c3, c4, c5, c6, c7] := by
  match l, h with
  | [c0, c1, c2, c3, c4, c5, c6, c7], _ => exact ⟨c0, c1, c2, c3, c4, c5, c6, c7, rfl⟩
theorem list7 {α : Type} {l : List α} (h : l.length = 7) : ∃ c0 c1 c2 c3 c4 c5 c6, l = [c0, c1, c2, c3, c4, c5, c6] := by
  match l, h with
  | [c0, c1, c2, c3, c4, c5, c6], _ => exact ⟨c0, c1, c2, c3, c4, c5, c6, rfl⟩
theorem list6 {α : Type} {l : List α} (h : l.length = 6) : ∃ c0 c1 c2 c3 c4 c5, l = [c0, c1, c2, c3, c4, c5] := by
  match l, h with
  | [c0, c1, c2, c3, c4, c5], _ => exact ⟨c0, c1, c2, c3, c4, c5, rfl⟩
theorem list4 {α : Type} {l : List α} (h : l.length = 4) : ∃ c0 c1 c2 c3, l = [c0, c1, c2, c3] := by
  match l, h with
  | [c0, c1, c2, c3], _ => exact ⟨c0, c1, c2, c3, rfl⟩
theorem list2 {α : Type} {l : List α} (h : l.length = 2) : ∃ c0 c1, l = [c0, c1] := by
  match l, h with
  | [c0, c1], _ => exact ⟨c0, c1, rfl⟩
section
variable {H : Type} {enc : TypeId × Value → H} {W : World}
set_option maxRecDepth 100000 in
theorem trod_place {n : Nat} {c0 c1 c2 : Value} {y : DataW H × List MemPlace} (h : DataW.trod enc Tryz.prog W 0 (fun _ => true) true n 31 [c0, c1, c2] = some y) :
    ∃ p : Plc, c0 = .int .i64 p.1 ∧ c1 = .int .i64 p.2.1 ∧ c2 = .int .i64 p.2.2 := by
  obtain ⟨y0, y1, m, hy, hl, h0, h1⟩ := trod_struct2 Tryz.underlying31 h
  have g0 : DataW.trod enc Tryz.prog W 0 (fun _ => true) true m 3 [c0] = some y0 := by simpa [Tryz.cells3] using h0
  have g1 : DataW.trod enc Tryz.prog W 0 (fun _ => true) true m 29 [c1, c2] = some y1 := by simpa [Tryz.cells29] using h1
  obtain ⟨z0, z1, m2, _, _, k0, k1⟩ := trod_struct2 Tryz.underlying29 g1
  have f0 : DataW.trod enc Tryz.prog W 0 (fun _ => true) true m2 3 [c1] = some z0 := by simpa [Tryz.cells3] using k0
  have f1 : DataW.trod enc Tryz.prog W 0 (fun _ => true) true m2 3 [c2] = some z1 := by simpa [Tryz.cells3] using k1
  obtain ⟨a0, e0, _, _⟩ := DataW.trod_int Tryz.underlying3 g0
  obtain ⟨a1, e1, _, _⟩ := DataW.trod_int Tryz.underlying3 f0
  obtain ⟨a2, e2, _, _⟩ := DataW.trod_int Tryz.underlying3 f1
  simp only [List.cons.injEq, and_true] at e0 e1 e2
  exact ⟨(a0, a1, a2), e0, e1, e2⟩
set_option maxRecDepth 100000 in
/-- A slice that came in, whatever its elements are. -/
theorem open_rows {α : Type} [Inhabited α] (c : Enc α) (hgc : Good c) (Q : α → Prop) {t : TypeId} (hu : Tryz.prog.underlying t = some (.slice c.E)) (hcells : Tryz.prog.cellsOf c.E = c.sz) (hs0 : 0 < c.sz)
    (hE : ∀ n cs y, DataW.trod enc Tryz.prog W 0 (fun _ => true) true n c.E cs = some y → ∃ x : α, cs = c.enc x ∧ Q x) {n : Nat} {cs : List Value} {y : DataW H × List MemPlace} (h : DataW.trod enc Tryz.prog W 0 (fun _ => true) true n t cs = some y) :
    ∃ ao l cap, cs = [.slice ao l.length cap] ∧ RdR c W ao l ∧ (∀ x ∈ l, Q x) ∧ l.length ≤ cap ∧ l.length ≤ 9223372036854775807 := by
  rcases open_slice hu h with ⟨hcs, _⟩ | ⟨a, len, cap, m, n', D, Pl, hcs, _, hl, hm, hmm, _, hcell⟩
  · exact ⟨none, [], 0, hcs, .inl rfl, fun x hx => (by cases hx), Nat.le_refl _, Nat.zero_le _⟩
  · simp only [if_true] at hmm
    subst hmm
    rw [hcells] at hcell
    have each : ∀ i, i < len → ∃ q : α, (∀ j u, (c.enc q)[j]? = some u → W.cell? (a.add (i * c.sz + j)) = some u) ∧ Q q := by
      intro i hi
      obtain ⟨cs', h1, h2⟩ := hcell i (by omega)
      obtain ⟨_, hlen, hc⟩ := World.cells?_some h1
      obtain ⟨q, rfl, hok⟩ := hE _ _ _ h2
      refine ⟨q, fun j u hj => ?_, hok⟩
      have hj14 : j < c.sz := by rw [← hgc.len q]; exact (List.getElem?_eq_some_iff.1 hj).1
      have e := hc j (by omega)
      rw [add_add] at e
      rw [e]; exact hj
    obtain ⟨q, hq⟩ := choose_lt each
    refine ⟨some a, (List.range len).map q, m, by simpa using hcs, ?_, fun x hx => ?_, by simpa using hl, by unfold maxLen at hm; simp; omega⟩
    · by_cases h0 : len = 0
      · subst h0; exact .inl rfl
      · obtain ⟨b, off, spot⟩ := a
        have hlen0 : 0 < (c.enc (q 0)).length := by rw [hgc.len]; exact hs0
        have h00 := (hq 0 (by omega)).1 0 _ (List.getElem?_eq_getElem hlen0)
        have hspot : spot = none := by simpa [Addr.add] using World.cell?_spot h00
        subst hspot
        have hbW : b < W.heap.size := by
          have := World.block_lt_of_cell? W _ h00
          rw [add_plain] at this
          exact this
        refine .inr ⟨b, off, rfl, hbW, fun k hk j hj => ?_⟩
        have hk' : k < len := by simpa using hk
        simp only [List.getElem_map, List.getElem_range]
        have hjl : j < (c.enc (q k)).length := by rw [hgc.len]; exact hj
        have := (hq k hk').1 j _ (List.getElem?_eq_getElem hjl)
        rw [add_plain, ← Nat.add_assoc] at this
        rw [this, List.getElem?_eq_getElem hjl]
    · obtain ⟨i, hi, rfl⟩ := List.mem_map.1 hx
      exact (hq i (List.mem_range.1 hi)).2
set_option maxRecDepth 100000 in
theorem trod_parcel (n : Nat) (cs : List Value) (y : DataW H × List MemPlace) (h : DataW.trod enc Tryz.prog W 0 (fun _ => true) true n 65 cs = some y) : ∃ p : F.Pc, cs = encC.enc p ∧ p.1.size ≤ maxLen := by
  obtain ⟨y0, y1, m, _, hl, h0, h1⟩ := trod_struct2 Tryz.underlying65 h
  obtain ⟨c0, c1, rfl⟩ := list2 (l := cs) (hl.trans Tryz.cells65)
  have g0 : DataW.trod enc Tryz.prog W 0 (fun _ => true) true m 9 [c0] = some y0 := by simpa [Tryz.cells9] using h0
  have g1 : DataW.trod enc Tryz.prog W 0 (fun _ => true) true m 3 [c1] = some y1 := by simpa [Tryz.cells3] using h1
  obtain ⟨a0, e0, _, w0⟩ := DataW.trod_string Tryz.underlying9 g0
  obtain ⟨a1, e1, _, _⟩ := DataW.trod_int Tryz.underlying3 g1
  simp only [List.cons.injEq, and_true] at e0 e1
  subst e0 e1
  exact ⟨(a0, a1), rfl, w0⟩
theorem trod_text (n : Nat) (cs : List Value) (y : DataW H × List MemPlace) (h : DataW.trod enc Tryz.prog W 0 (fun _ => true) true n 9 cs = some y) : ∃ p : ByteArray, cs = encT.enc p ∧ p.size ≤ maxLen := by
  obtain ⟨a0, e0, _, w0⟩ := DataW.trod_string Tryz.underlying9 h
  exact ⟨a0, e0, w0⟩
theorem fl_of_rd {ao : Option Addr} {l : List F.Pc} (h : RdR encC W ao l) (hs : ∀ p ∈ l, p.1.size ≤ maxLen) : F.Fl W ao l := by
  refine ⟨hs, ?_⟩
  rcases h with h | ⟨b, off, e, hlt, hc⟩
  · exact .inl h
  · exact .inr ⟨b, off, e, hlt, fun k hk => ⟨hc k hk 0 (by decide), hc k hk 1 (by decide)⟩⟩
theorem tx_of_rd {ao : Option Addr} {l : List ByteArray} (h : RdR encT W ao l) (hs : ∀ p ∈ l, p.size ≤ maxLen) : Tx W ao l := by
  refine ⟨hs, ?_⟩
  rcases h with h | ⟨b, off, e, hlt, hc⟩
  · exact .inl h
  · refine .inr ⟨b, off, e, hlt, fun k hk => ?_⟩
    have := hc k hk 0 (by decide)
    simpa using this
theorem trod_fluid {n : Nat} {cs : List Value} {y : DataW H × List MemPlace} (h : DataW.trod enc Tryz.prog W 0 (fun _ => true) true n 24 cs = some y) : ∃ ao l cap, cs = [.slice ao l.length cap] ∧ F.Fl W ao l := by
  obtain ⟨ao, l, cap, e, hr, hq, _, _⟩ := open_rows encC goodC (fun p => p.1.size ≤ maxLen) Tryz.underlying24 Tryz.cells65 (by decide) trod_parcel h
  exact ⟨ao, l, cap, e, fl_of_rd hr hq⟩
set_option maxRecDepth 100000 in
theorem trod_filled (n : Nat) (cs : List Value) (y : DataW H × List MemPlace) (h : DataW.trod enc Tryz.prog W 0 (fun _ => true) true n 59 cs = some y) : ∃ x : Wh, cs = encW.enc x ∧ F.Fl W x.2.1 x.2.2.2 := by
  obtain ⟨y0, y1, m, _, hl, h0, h1⟩ := trod_struct2 Tryz.underlying59 h
  obtain ⟨c0, c1, c2, c3, rfl⟩ := list4 (l := cs) (hl.trans Tryz.cells59)
  have g0 : DataW.trod enc Tryz.prog W 0 (fun _ => true) true m 31 [c0, c1, c2] = some y0 := by simpa [Tryz.cells31] using h0
  have g1 : DataW.trod enc Tryz.prog W 0 (fun _ => true) true m 24 [c3] = some y1 := by simpa [Tryz.cells24] using h1
  obtain ⟨p, rfl, rfl, rfl⟩ := trod_place g0
  obtain ⟨ao, l, cap, e, hf⟩ := trod_fluid g1
  simp only [List.cons.injEq, and_true] at e
  subst e
  exact ⟨(p, (ao, cap, l)), rfl, hf⟩
set_option maxHeartbeats 800000 in
set_option maxRecDepth 100000 in
theorem trod_action (n : Nat) (cs : List Value) (y : DataW H × List MemPlace) (h : DataW.trod enc Tryz.prog W 0 (fun _ => true) true n 33 cs = some y) : ∃ a : Acn, cs = encA.enc a ∧ (a.label.size ≤ maxLen ∧ (Lit.int .i64 a.kind).wf = true) := by
  obtain ⟨xs, m, _, _, hl, hlen, hg⟩ := DataW.trod_struct Tryz.underlying33 h
  obtain ⟨c0, c1, c2, c3, c4, c5, c6, c7, rfl⟩ := list8 (l := cs) (hl.trans Tryz.cells33)
  obtain ⟨y0, y1, y2, y3, y4, y5, rfl⟩ := list6 (l := xs) (by simpa using hlen)
  have g0 : DataW.trod enc Tryz.prog W 0 (fun _ => true) true m 3 [c0] = some y0 := by have := hg 0 _ rfl; simpa [Tryz.cells3] using this
  have g1 : DataW.trod enc Tryz.prog W 0 (fun _ => true) true m 31 [c1, c2, c3] = some y1 := by have := hg 1 _ rfl; simpa [Tryz.cells31] using this
  have g2 : DataW.trod enc Tryz.prog W 0 (fun _ => true) true m 9 [c4] = some y2 := by have := hg 2 _ rfl; simpa [Tryz.cells9] using this
  have g3 : DataW.trod enc Tryz.prog W 0 (fun _ => true) true m 3 [c5] = some y3 := by have := hg 3 _ rfl; simpa [Tryz.cells3] using this
  have g4 : DataW.trod enc Tryz.prog W 0 (fun _ => true) true m 3 [c6] = some y4 := by have := hg 4 _ rfl; simpa [Tryz.cells3] using this
  have g5 : DataW.trod enc Tryz.prog W 0 (fun _ => true) true m 3 [c7] = some y5 := by have := hg 5 _ rfl; simpa [Tryz.cells3] using this
  obtain ⟨a0, e0, _, w0⟩ := DataW.trod_int Tryz.underlying3 g0
  obtain ⟨p, rfl, rfl, rfl⟩ := trod_place g1
  obtain ⟨a2, e2, _, w2⟩ := DataW.trod_string Tryz.underlying9 g2
  obtain ⟨a3, e3, _, _⟩ := DataW.trod_int Tryz.underlying3 g3
  obtain ⟨a4, e4, _, _⟩ := DataW.trod_int Tryz.underlying3 g4
  obtain ⟨a5, e5, _, _⟩ := DataW.trod_int Tryz.underlying3 g5
  simp only [List.cons.injEq, and_true] at e0 e2 e3 e4 e5
  subst e0 e2 e3 e4 e5
  exact ⟨⟨a0, p, a2, a3, a4, a5⟩, rfl, w2, w0⟩
set_option maxRecDepth 100000 in
theorem open_action {b0 : Nat} {v : Value} {d : DataW H} {p : List MemPlace} (hv : Value.okWide Tryz.prog W .any b0 33 v) (h : DataW.Trod enc Tryz.prog W 0 (fun _ => true) true 33 v d p) : ∃ a : Acn, v = av a ∧ a.label.size ≤ maxLen ∧ (Lit.int .i64 a.kind).wf = true := by
  obtain ⟨cs, rfl, hsz⟩ := okWide_struct Tryz.underlying33 hv
  obtain ⟨l⟩ := cs
  obtain ⟨fuel, hf⟩ := h
  obtain ⟨a, e, hq⟩ := trod_action fuel l _ hf
  subst e
  exact ⟨a, rfl, hq⟩
set_option maxRecDepth 100000 in
theorem open_actions {b0 : Nat} {v : Value} {d : DataW H} {p : List MemPlace} (hv : Value.okWide Tryz.prog W .any b0 45 v) (h : DataW.Trod enc Tryz.prog W 0 (fun _ => true) true 45 v d p) : ∃ ao acs cap, v = .slice ao acs.length cap ∧ Acs W ao acs ∧ acs.length ≤ 9223372036854775807 := by
  obtain ⟨a0, len, cap, rfl⟩ := okWide_slice Tryz.underlying45 hv
  obtain ⟨fuel, hf⟩ := h
  haveI : Inhabited Acn := ⟨⟨0, (0, 0, 0), ⟨#[]⟩, 0, 0, 0⟩⟩
  obtain ⟨ao, l, cap', e, hr, hq, _, hl⟩ := open_rows encA goodA (fun a => a.label.size ≤ maxLen ∧ (Lit.int .i64 a.kind).wf = true) Tryz.underlying45 Tryz.cells33 (by decide) trod_action hf
  simp only [Value.cells] at e
  have e' : Value.slice a0 len cap = Value.slice ao l.length cap' := by simpa using e
  rw [e']
  exact ⟨ao, l, cap', rfl, ⟨hr, hq⟩, hl⟩
set_option maxHeartbeats 800000 in
set_option maxRecDepth 100000 in
theorem open_state {b0 : Nat} {v : Value} {d : DataW H} {p : List MemPlace} (hv : Value.okWide Tryz.prog W .any b0 27 v) (h : DataW.Trod enc Tryz.prog W 0 (fun _ => true) true 27 v d p) : ∃ s : Sm, v = smv s ∧ SmIn W s ∧ SmLen s := by
  obtain ⟨cs, rfl, hsz⟩ := okWide_struct Tryz.underlying27 hv
  obtain ⟨l⟩ := cs
  obtain ⟨fuel, hf⟩ := h
  have hf : DataW.trod enc Tryz.prog W 0 (fun _ => true) true fuel 27 l = some (d, p) := hf
  obtain ⟨xs, m, _, _, hl, hlen, hg⟩ := DataW.trod_struct Tryz.underlying27 hf
  obtain ⟨c0, c1, c2, c3, c4, c5, c6, rfl⟩ := list7 (l := l) (hl.trans Tryz.cells27)
  obtain ⟨y0, y1, y2, y3, y4, y5, y6, rfl⟩ := list7 (l := xs) (by simpa using hlen)
  have g0 : DataW.trod enc Tryz.prog W 0 (fun _ => true) true m 23 [c0] = some y0 := by have := hg 0 _ rfl; simpa [Tryz.cells23] using this
  have g1 : DataW.trod enc Tryz.prog W 0 (fun _ => true) true m 4 [c1] = some y1 := by have := hg 1 _ rfl; simpa [Tryz.cells4] using this
  have g2 : DataW.trod enc Tryz.prog W 0 (fun _ => true) true m 24 [c2] = some y2 := by have := hg 2 _ rfl; simpa [Tryz.cells24] using this
  have g3 : DataW.trod enc Tryz.prog W 0 (fun _ => true) true m 25 [c3] = some y3 := by have := hg 3 _ rfl; simpa [Tryz.cells25] using this
  have g4 : DataW.trod enc Tryz.prog W 0 (fun _ => true) true m 3 [c4] = some y4 := by have := hg 4 _ rfl; simpa [Tryz.cells3] using this
  have g5 : DataW.trod enc Tryz.prog W 0 (fun _ => true) true m 3 [c5] = some y5 := by have := hg 5 _ rfl; simpa [Tryz.cells3] using this
  have g6 : DataW.trod enc Tryz.prog W 0 (fun _ => true) true m 3 [c6] = some y6 := by have := hg 6 _ rfl; simpa [Tryz.cells3] using this
  obtain ⟨ao0, l0, cap0, e0, hr0, hq0, _, hl0⟩ := open_rows encW goodW (fun x => F.Fl W x.2.1 x.2.2.2) Tryz.underlying23 Tryz.cells59 (by decide) trod_filled g0
  obtain ⟨a1, e1, _⟩ := DataW.trod_bool Tryz.underlying4 g1
  obtain ⟨ao2, l2, cap2, e2, hf2⟩ := trod_fluid g2
  obtain ⟨ao3, l3, cap3, e3, hr3, hq3, _, hl3⟩ := open_rows encT goodT (fun x => x.size ≤ maxLen) Tryz.underlying25 Tryz.cells9 (by decide) trod_text g3
  obtain ⟨a4, e4, _, _⟩ := DataW.trod_int Tryz.underlying3 g4
  obtain ⟨a5, e5, _, _⟩ := DataW.trod_int Tryz.underlying3 g5
  obtain ⟨a6, e6, _, _⟩ := DataW.trod_int Tryz.underlying3 g6
  simp only [List.cons.injEq, and_true] at e0 e1 e2 e3 e4 e5 e6
  subst e0 e1 e2 e3 e4 e5 e6
  exact ⟨⟨ao0, cap0, l0, a1, ao2, cap2, l2, ao3, cap3, l3, a4, a5, a6⟩, rfl, ⟨whs_of hr0 hq0, hf2, tx_of_rd hr3 hq3⟩, ⟨hl0, hl3⟩⟩
end
end Go.Proofs.YtjappkfhballhaaGreat
