import Derived.Test.YtgbnjgenopdmfaaGreatKo
import Derived.Shelf.SlMaps.Clone
import Derived.Test.YtgbnjgenopdmfaaGreatKm

/- maps.Clone at wells, copied walked. -/
namespace Go.Proofs.YtgbnjgenopdmfaaGreat
open Go.RowKit Go.Maps
set_option maxHeartbeats 1600000 in
set_option maxRecDepth 100000 in
theorem cloneM_any (m : Nat) (wl : List Wh) (w : World) (h : WM w m wl) :
    Calls Tryz.prog 123 #[.map (some m)] w fun e w' => e = .returned (.map (some w.heap.size)) ∧ WM w' w.heap.size wl ∧ Below w.heap.size w w' := by
  obtain ⟨D, ⟨es, clock, hb, F, hs, hD⟩, hr⟩ := h
  have hq := fun w => run_eql_map_nil_sl (P := Tryz.prog) w 93 _ _ (some m) Tryz.underlying93
  have HR : Hid (Reads D wl) := hr
  have HF : Hid (∀ W : World, W.heap[w.heap.size]? = some (.map es clock) → W.ownsMap Tryz.prog 53 RV w.heap.size (Maps.size D) D) := fun W hW => ⟨es, clock, hW, F, hs, hD⟩
  clear hr F hs hD
  go_enter Tryz.func123, Tryz.ntmps123
  go_wp2
  rw [run_callFunc_extern Tryz.func158 (by kernel_rfl) (by kernel_rfl) (by kernel_rfl) (e := Extern.MapsClone.clone) (by kernel_rfl), run_maps_clone_sl w 93 hb]
  simp only [Result.andThen]
  rw [Oper.upon_value]
  go_wp2
  rw [run_typeAssert_map_sl _ 93 20 _ _ _ Tryz.underlying93]
  simp only [Result.andThen]
  rw [Oper.upon_value]
  go_wp2
  go_ret
  exact ⟨rfl, ⟨D, HF.out _ (MapKept.heap_alloc w _).1, HR.out⟩, (Below.refl _ w).alloc (Nat.le_refl _) _⟩
set_option linter.unusedVariables false in
def cpV (b m n nl cap nH capH nT capT : Nat) (ao aoH aoT : Option Addr) (s : Sta) (wl : List Wh) (i : Nat) (l : List Value) (w : World) : Prop :=
  match i, l with
  | 0, [v] => v = .pointer (some ⟨b, 0, none⟩)
  | 1, [v] => v = .pointer (some ⟨b, 0, none⟩)
  | 2, [v] => v = .pointer (some ⟨b, 0, none⟩)
  | 3, [v] => v = .slice ao nl cap
  | 4, [v] => v = .pointer (some ⟨b, 0, none⟩)
  | 5, [v] => v = .pointer (some ⟨b, 0, none⟩)
  | 6, [v] => v = .pointer (some ⟨b, 1, none⟩)
  | 7, [v] => v = .map (some m)
  | 8, [v] => ∃ m2, v = .map (some m2) ∧ n ≤ m2 ∧ WM w m2 wl
  | 9, [v] => v = .pointer (some ⟨b, 0, none⟩)
  | 10, [v] => v = .pointer (some ⟨b, 0, none⟩)
  | 11, [v] => v = .pointer (some ⟨b, 2, none⟩)
  | 12, [v] => v = .agg #[.slice none 0 0, .bool s.tip, .slice aoH nH capH, .slice aoT nT capT, .int .i64 s.used, .int .i64 s.heat, .int .i64 s.clock]
  | 13, [v] => ∃ m2, v = .agg #[.slice ao nl cap, .map (some m2), .slice none 0 0, .bool s.tip, .slice aoH nH capH, .slice aoT nT capT, .int .i64 s.used, .int .i64 s.heat, .int .i64 s.clock] ∧ n ≤ m2 ∧ WM w m2 wl
  | 14, [v] => ∃ b2 m2, v = ptr b2 ∧ Bk b2 [.slice ao nl cap, .map (some m2), .slice none 0 0, .bool s.tip, .slice aoH nH capH, .slice aoT nT capT, .int .i64 s.used, .int .i64 s.heat, .int .i64 s.clock] w ∧ n ≤ b2 ∧ n ≤ m2 ∧ b2 ≠ m2 ∧ WM w m2 wl
  | 15, [v] => ∃ b2 m2, v = ptr b2 ∧ Bk b2 [.slice ao nl cap, .map (some m2), .slice none 0 0, .bool s.tip, .slice aoH nH capH, .slice aoT nT capT, .int .i64 s.used, .int .i64 s.heat, .int .i64 s.clock] w ∧ n ≤ b2 ∧ n ≤ m2 ∧ b2 ≠ m2 ∧ WM w m2 wl
  | _, _ => True
set_option linter.unusedVariables false in
theorem cpV_mono (b m n nl cap nH capH nT capT : Nat) (ao aoH aoT : Option Addr) (s : Sta) (wl : List Wh) (i : Nat) (l : List Value) (w w' : World) (h : cpV b m n nl cap nH capH nT capT ao aoH aoT s wl i l w) (hb : Below w.heap.size w w') : cpV b m n nl cap nH capH nT capT ao aoH aoT s wl i l w' := by
  unfold cpV at h ⊢
  split <;> simp only [] at h <;> first | exact h | (obtain ⟨m2, h1, h2, h3⟩ := h; exact ⟨m2, h1, h2, h3.next hb⟩) | (obtain ⟨b2, m2, h1, h2, h3, h4, h5, h6⟩ := h; exact ⟨b2, m2, h1, h2.later hb, h3, h4, h5, h6.next hb⟩)
set_option maxHeartbeats 3200000 in
set_option maxRecDepth 100000 in
theorem copied_any (X : Nat → Prop) (wB w : World) (ao : Option Addr) (cap : Nat) (l : List Sit) (b m : Nat) (s : Sta) (h : Fb X wB w ao cap l b m s) :
    Calls Tryz.prog 85 #[ptr b] w fun e w' => ∃ b2 m2, e = .returned (ptr b2) ∧ Below w.heap.size w w' ∧ (w.heap.size ≤ b2 ∧ b2 < w'.heap.size) ∧ (w.heap.size ≤ m2 ∧ m2 < w'.heap.size) ∧
      ∀ Y : Nat → Prop, (∀ k, Y k → X k ∨ w.heap.size ≤ k) → (∀ k, Y k → k < w'.heap.size) → Y b2 → Y m2 → Fb Y wB w' ao cap l b2 m2 s := by
  have HFB : Hid (Fb X wB w ao cap l b m s) := h
  obtain ⟨wl, hwm, hwl, hfl⟩ := h.wells
  obtain ⟨aoH, capH, aoT, capT, hK, hH, hT⟩ := h.bk
  have HWM : Hid (WM w m wl) := hwm
  have HWL : Hid (whp wl = s.wells) := hwl
  have HFL : Hid (∀ x ∈ wl, FlX X w x.2.1 x.2.2.2) := hfl
  have KB : Hid (Bk b (fcs ao cap l m s aoH capH aoT capT) w) := hK
  have HH : Hid (FlX X w aoH s.held ∧ TxX X w aoT s.touched) := ⟨hH, hT⟩
  clear h hwm hwl hfl hK hH hT
  go_enter Tryz.func85, Tryz.ntmps85
  go_wp2_with fail
  refine region_all [false, false, true, true, true, true, true, true, true, true, true, true, true, true, true, true, true, true]
    [([], [3], none), ([0], [4], none), ([1], [5], none), ([2], [6], none), ([], [7], none), ([4], [8], none), ([5], [9], none), ([6], [10], none), ([7], [11], none), ([], [12], none), ([9], [13], none), ([10], [14], none), ([11], [15], none), ([3, 8, 12], [16], none), ([13], [17], none), ([14], [2], none)]
    (cpV b m w.heap.size l.length cap s.held.length capH s.touched.length capT ao aoH aoT s wl) (fun _ _ => True) (by kernel_rfl) (by kernel_rfl) (fun _ _ => trivial) ?_ ?_
  · refine ⟨?_, ?_, ?_, ?_, ?_, ?_, ?_, ?_, ?_, ?_, ?_, ?_, ?_, ?_, ?_, ?_, trivial⟩
    · intro f w1 hb hJ _ K hK
      simp only [over, overL, Nat.reduceAdd]
      go_simp
      exact hK _ _ ⟨_, by simp only [over, overL, Nat.reduceAdd]; rfl, rfl, hb, trivial, fun _ h => h⟩
    · intro f w1 hb hJ ⟨h3, _⟩ K hK
      replace h3 : f 3 = _ := h3
      simp only [over, overL, Nat.reduceAdd, h3]
      go_simp
      exact hK _ _ ⟨_, by simp only [over, overL, Nat.reduceAdd, h3]; rfl, rfl, hb, trivial, fun _ h => h⟩
    · intro f w1 hb hJ ⟨h4, _⟩ K hK
      replace h4 : f 4 = _ := h4
      simp only [over, overL, Nat.reduceAdd, h4]
      go_simp
      exact hK _ _ ⟨_, by simp only [over, overL, Nat.reduceAdd, h4]; rfl, rfl, hb, trivial, fun _ h => h⟩
    · intro f w1 hb hJ ⟨h5, _⟩ K hK
      replace h5 : f 5 = _ := h5
      have q0 := (KB.out.later hb).c 0 rfl
      simp only [over, overL, Nat.reduceAdd, h5]
      go_simp
      exact hK _ _ ⟨_, by simp only [over, overL, Nat.reduceAdd, h5]; rfl, rfl, hb, trivial, fun _ h => h⟩
    · intro f w1 hb hJ _ K hK
      simp only [over, overL, Nat.reduceAdd]
      go_simp
      exact hK _ _ ⟨_, by simp only [over, overL, Nat.reduceAdd]; rfl, rfl, hb, trivial, fun _ h => h⟩
    · intro f w1 hb hJ ⟨h7, _⟩ K hK
      replace h7 : f 7 = _ := h7
      simp only [over, overL, Nat.reduceAdd, h7]
      go_simp
      exact hK _ _ ⟨_, by simp only [over, overL, Nat.reduceAdd, h7]; rfl, rfl, hb, trivial, fun _ h => h⟩
    · intro f w1 hb hJ ⟨h8, _⟩ K hK
      replace h8 : f 8 = _ := h8
      simp only [over, overL, Nat.reduceAdd, h8]
      go_simp
      exact hK _ _ ⟨_, by simp only [over, overL, Nat.reduceAdd, h8]; rfl, rfl, hb, trivial, fun _ h => h⟩
    · intro f w1 hb hJ ⟨h9, _⟩ K hK
      replace h9 : f 9 = _ := h9
      have q1 := (KB.out.later hb).c 1 rfl
      simp only [over, overL, Nat.reduceAdd, h9]
      go_simp
      exact hK _ _ ⟨_, by simp only [over, overL, Nat.reduceAdd, h9]; rfl, rfl, hb, trivial, fun _ h => h⟩
    · intro f w1 hb hJ ⟨h10, _⟩ K hK
      replace h10 : f 10 = _ := h10
      simp only [over, overL, Nat.reduceAdd, h10]
      go_simp
      refine (cloneM_any m wl w1 (HWM.out.next hb)).mono ?_
      rintro e w2 ⟨rfl, hm, hb2⟩
      exact hK _ _ ⟨_, by simp only [over, overL, Nat.reduceAdd, h10]; rfl, ⟨w1.heap.size, rfl, hb.size, hm⟩, below_on hb hb2, trivial, fun j h => cpV_mono b m w.heap.size l.length cap s.held.length capH s.touched.length capT ao aoH aoT s wl j _ _ _ h hb2⟩
    · intro f w1 hb hJ _ K hK
      simp only [over, overL, Nat.reduceAdd]
      go_simp
      exact hK _ _ ⟨_, by simp only [over, overL, Nat.reduceAdd]; rfl, rfl, hb, trivial, fun _ h => h⟩
    · intro f w1 hb hJ ⟨h12, _⟩ K hK
      replace h12 : f 12 = _ := h12
      simp only [over, overL, Nat.reduceAdd, h12]
      go_simp
      exact hK _ _ ⟨_, by simp only [over, overL, Nat.reduceAdd, h12]; rfl, rfl, hb, trivial, fun _ h => h⟩
    · intro f w1 hb hJ ⟨h13, _⟩ K hK
      replace h13 : f 13 = _ := h13
      simp only [over, overL, Nat.reduceAdd, h13]
      go_simp
      exact hK _ _ ⟨_, by simp only [over, overL, Nat.reduceAdd, h13]; rfl, rfl, hb, trivial, fun _ h => h⟩
    · intro f w1 hb hJ ⟨h14, _⟩ K hK
      replace h14 : f 14 = _ := h14
      have q2 := (KB.out.later hb).c 2 rfl
      have q3 := (KB.out.later hb).c 3 rfl
      have q4 := (KB.out.later hb).c 4 rfl
      have q5 := (KB.out.later hb).c 5 rfl
      have q6 := (KB.out.later hb).c 6 rfl
      have q7 := (KB.out.later hb).c 7 rfl
      have q8 := (KB.out.later hb).c 8 rfl
      simp only [over, overL, Nat.reduceAdd, h14]
      go_simp
      exact hK _ _ ⟨_, by simp only [over, overL, Nat.reduceAdd, h14]; rfl, rfl, hb, trivial, fun _ h => h⟩
    · intro f w1 hb hJ ⟨h6, h11, h15, _⟩ K hK
      replace h6 : f 6 = _ := h6
      replace h15 : f 15 = _ := h15
      obtain ⟨m2, h11, hn, hm⟩ := (show ∃ m2, f 11 = .map (some m2) ∧ w.heap.size ≤ m2 ∧ WM w1 m2 wl from h11)
      simp only [over, overL, Nat.reduceAdd, h6, h15, h11]
      go_simp
      exact hK _ _ ⟨_, by simp only [over, overL, Nat.reduceAdd, h6, h15, h11]; rfl, ⟨m2, rfl, hn, hm⟩, hb, trivial, fun _ h => h⟩
    · intro f w1 hb hJ ⟨h16, _⟩ K hK
      obtain ⟨m2, h16, hn, hm⟩ := (show ∃ m2, f 16 = .agg #[.slice ao l.length cap, .map (some m2), .slice none 0 0, .bool s.tip, .slice aoH s.held.length capH, .slice aoT s.touched.length capT, .int .i64 s.used, .int .i64 s.heat, .int .i64 s.clock] ∧ w.heap.size ≤ m2 ∧ WM w1 m2 wl from h16)
      simp only [over, overL, Nat.reduceAdd, h16]
      go_simp
      exact hK _ _ ⟨_, by simp only [over, overL, Nat.reduceAdd, h16]; rfl, ⟨w1.heap.size, m2, rfl, Bk.new w1 [.slice ao l.length cap, .map (some m2), .slice none 0 0, .bool s.tip, .slice aoH s.held.length capH, .slice aoT s.touched.length capT, .int .i64 s.used, .int .i64 s.heat, .int .i64 s.clock] 95 w1.heap.size rfl, hb.size, hn, by have := hm.lt; omega, hm.next ((Below.refl _ _).alloc (Nat.le_refl _) _)⟩, below_on hb ((Below.refl _ _).alloc (Nat.le_refl _) _), trivial, fun j h => cpV_mono b m w.heap.size l.length cap s.held.length capH s.touched.length capT ao aoH aoT s wl j _ _ _ h ((Below.refl _ _).alloc (Nat.le_refl _) _)⟩
    · intro f w1 hb hJ ⟨h17, _⟩ K hK
      obtain ⟨b2, m2, h17, h⟩ := (show ∃ b2 m2, f 17 = ptr b2 ∧ Bk b2 [.slice ao l.length cap, .map (some m2), .slice none 0 0, .bool s.tip, .slice aoH s.held.length capH, .slice aoT s.touched.length capT, .int .i64 s.used, .int .i64 s.heat, .int .i64 s.clock] w1 ∧ w.heap.size ≤ b2 ∧ w.heap.size ≤ m2 ∧ b2 ≠ m2 ∧ WM w1 m2 wl from h17)
      simp only [over, overL, Nat.reduceAdd, h17]
      go_simp
      exact hK _ _ ⟨_, by simp only [over, overL, Nat.reduceAdd, h17]; rfl, ⟨b2, m2, rfl, h⟩, hb, trivial, fun _ h => h⟩
  intro f w1 hb _ hv
  obtain ⟨b2, m2, h2, hK2, hb2, hm2, hne, hwm2⟩ := (show ∃ b2 m2, f 2 = ptr b2 ∧ Bk b2 [.slice ao l.length cap, .map (some m2), .slice none 0 0, .bool s.tip, .slice aoH s.held.length capH, .slice aoT s.touched.length capT, .int .i64 s.used, .int .i64 s.heat, .int .i64 s.clock] w1 ∧ w.heap.size ≤ b2 ∧ w.heap.size ≤ m2 ∧ b2 ≠ m2 ∧ WM w1 m2 wl from hv.2.2.2.2.2.2.2.2.2.2.2.2.2.2.2.1)
  have HE : Hid (Below w.heap.size w w1 ∧ (w.heap.size ≤ b2 ∧ b2 < w1.heap.size) ∧ (w.heap.size ≤ m2 ∧ m2 < w1.heap.size) ∧
      ∀ Y : Nat → Prop, (∀ k, Y k → X k ∨ w.heap.size ≤ k) → (∀ k, Y k → k < w1.heap.size) → Y b2 → Y m2 → Fb Y wB w1 ao cap l b2 m2 s) := by
    refine ⟨hb, ⟨hb2, hK2.1⟩, ⟨hm2, hwm2.lt⟩, fun Y hY hlo hYb hYm => ?_⟩
    have hs := HFB.out.below.size
    exact ⟨HFB.out.dk, HFB.out.hd, HFB.out.may, HFB.out.below.trans (hb.mono hs), ⟨by omega, by omega⟩, hne, ⟨hYb, hYm⟩, hlo, ⟨wl, hwm2, HWL.out, fun x hx => ((HFL.out x hx).more hY).next hb⟩, aoH, capH, aoT, capT, hK2, (HH.out.1.more hY).next hb, (HH.out.2.more hY).next hb⟩
  clear hv hb hK2 hb2 hm2 hne hwm2
  simp only [over, overL, Nat.reduceAdd, h2]
  clear h2
  go_wp2
  go_ret
  first | exact ⟨b2, rfl, m2, HE.out⟩ | exact ⟨b2, m2, rfl, HE.out⟩
/-- More blocks that it lies in none of. -/
theorem Fb.more {X Y : Nat → Prop} {wB w w1 : World} {ao : Option Addr} {cap : Nat} {l : List Sit} {b m : Nat} {s : Sta} (h : Fb X wB w ao cap l b m s) (hb : Below w.heap.size w w1) (hY : ∀ k, Y k → X k ∨ w.heap.size ≤ k) (hlo : ∀ k, Y k → k < w1.heap.size) (hx : Y b ∧ Y m) : Fb Y wB w1 ao cap l b m s := by
  obtain ⟨h1, h2, h3, h4, h5, h6, h7, h8, ⟨wl, h9, h10, h11⟩, aoH, capH, aoT, capT, h12, h13, h14⟩ := h
  exact ⟨h1, h2, h3, h4.trans (hb.mono h4.size), h5, h6, hx, hlo, ⟨wl, h9.next hb, h10, fun x hx2 => ((h11 x hx2).more hY).next hb⟩, aoH, capH, aoT, capT, h12.later hb, (h13.more hY).next hb, (h14.more hY).next hb⟩
end Go.Proofs.YtgbnjgenopdmfaaGreat

/- A saver in memory. -/
namespace Go.Proofs.YtgbnjgenopdmfaaGreat
open Go.RowKit Go.Maps
abbrev svc (ao : Option Addr) (cap : Nat) (l : List Sit) (g capA n : Nat) (e : Sm) (b : Nat) : List Value :=
  [.slice ao l.length cap, .slice (some ⟨g, 0, none⟩) n capA, .slice e.aoW e.wl.length e.capW, .bool e.tip, .slice e.aoH e.held.length e.capH, .slice e.aoT e.touched.length e.capT, .int .i64 e.used, .int .i64 e.heat, .int .i64 e.clock, ptr b]
/-- A saver: in block sb; its trace in block g, its bench in blocks b and m. -/
structure Sv (X : Nat → Prop) (wB w : World) (ao : Option Addr) (cap : Nat) (l : List Sit) (sb g capA b m : Nat) (acs : List Acn) (e : Sm) (st : Sta) : Prop where
  bk : Bk sb (svc ao cap l g capA acs.length e b) w
  lf : Lf w g acs
  capA : acs.length ≤ capA ∧ capA ≤ maxLen
  fb : Fb X wB w ao cap l b m st
  eoff : ∀ k, X k → SmOff k e
  e : SmIn w e
  off : X g ∧ X sb
  ne : g ≠ sb ∧ (g ≠ b ∧ g ≠ m) ∧ sb ≠ b ∧ sb ≠ m
  lb : wB.heap.size ≤ g ∧ wB.heap.size ≤ sb
  few : acs.length ≤ 3000
  ok : ∀ a ∈ acs, a.label.size ≤ maxLen ∧ (Lit.int .i64 a.kind).wf = true ∧ Wf3 a.pl
theorem Sv.next {X : Nat → Prop} {wB w w1 : World} {ao : Option Addr} {cap : Nat} {l : List Sit} {sb g capA b m : Nat} {acs : List Acn} {e : Sm} {st : Sta} (h : Sv X wB w ao cap l sb g capA b m acs e st) (hb : Below w.heap.size w w1) : Sv X wB w1 ao cap l sb g capA b m acs e st :=
  ⟨h.bk.later hb, h.lf.next hb, h.capA, h.fb.next hb, h.eoff, h.e.next hb, h.off, h.ne, h.lb, h.few, h.ok⟩
/-- A part of the trace. -/
theorem Sv.part {X : Nat → Prop} {wB w : World} {ao : Option Addr} {cap : Nat} {l : List Sit} {sb g capA b m : Nat} {acs : List Acn} {e : Sm} {st : Sta} (h : Sv X wB w ao cap l sb g capA b m acs e st) (i n : Nat) : Acs w (some ⟨g, i * 8, none⟩) ((acs.drop i).take n) :=
  ⟨h.lf.part i n, fun a ha => ⟨(h.ok a (List.mem_of_mem_drop (List.mem_of_mem_take ha))).1, (h.ok a (List.mem_of_mem_drop (List.mem_of_mem_take ha))).2.1⟩⟩
theorem until_take (l : List Acn) : untilR l = l.take (untilR l).length := by
  obtain ⟨r, h, _⟩ := until_split l
  have h2 := congrArg (List.take (untilR l).length) h
  rw [List.take_left] at h2
  exact h2.symm
/-- A bench does a part of the trace. -/
theorem Sv.doP {X : Nat → Prop} {wB w : World} {ao : Option Addr} {cap : Nat} {l : List Sit} {sb g capA b m : Nat} {acs : List Acn} {e : Sm} {st : Sta} (h : Sv X wB w ao cap l sb g capA b m acs e st) {Y : Nat → Prop} {W : World} (hb : Below w.heap.size w W) {b1 m1 : Nat} {s1 : Sta} (hF : Fb Y wB W ao cap l b1 m1 s1) (hg : g ≠ b1 ∧ g ≠ m1) (i n k cp : Nat) (hk : ((acs.drop i).take n).length = k) :
    Calls Tryz.prog 48 #[ptr b1, .slice (some ⟨g, i * 8, none⟩) k cp] W fun r w' => ∃ c s', r = .returned (.int .i64 c) ∧ Fb Y wB w' ao cap l b1 m1 s' ∧ But b1 m1 W w' ∧ ((runO l ((acs.drop i).take n) s1 = some s' ∧ c = 0) ∨ (runO l ((acs.drop i).take n) s1 = none ∧ c ≠ 0)) := by
  subst hk
  exact doF_any Y wB W ao cap l b1 m1 s1 _ cp _ hF ((h.next hb).part i n) (fun a ha => (h.ok a (List.mem_of_mem_drop (List.mem_of_mem_take ha))).2.2) (fun a ha => by injection ha with ha; subst ha; exact hg) (by have := h.few; rw [List.length_take, List.length_drop]; omega)
theorem lf_acs {w : World} {base : Nat} {v : Value} {acs : List Acn} (h : OwnR encA w base v acs) (ok : ∀ a ∈ acs, a.label.size ≤ maxLen ∧ (Lit.int .i64 a.kind).wf = true) : ∃ ao cp, v = .slice ao acs.length cp ∧ Acs w ao acs := by
  obtain ⟨ao, cp, rfl⟩ := h.shape
  exact ⟨ao, cp, rfl, h.rd goodA, ok⟩
/-- Both parts of the trace, one behind the other. -/
theorem Sv.cat {X : Nat → Prop} {wB w : World} {ao : Option Addr} {cap : Nat} {l : List Sit} {sb g capA b m : Nat} {acs : List Acn} {e : Sm} {st : Sta} (h : Sv X wB w ao cap l sb g capA b m acs e st) {W : World} (hb : Below w.heap.size w W) {i j n B : Nat} (hn : acs.length = n) (hi : i ≤ n) (hB : Bk B [.slice (some ⟨g, 0, none⟩) i capA, .slice (some ⟨g, j * 8, none⟩) (n - j) (capA - j)] W) :
    Calls Tryz.prog 87 #[.slice (some ⟨B, 0, none⟩) 2 2] W fun r w' => ∃ aoC cp, r = .returned (.slice aoC (acs.take i ++ acs.drop j).length cp) ∧ Acs w' aoC (acs.take i ++ acs.drop j) ∧ Below W.heap.size W w' := by
  have hW := h.next hb
  have hfew := h.few
  have r1 : RdR encA W (some ⟨g, 0, none⟩) (acs.take i) := by have := hW.lf.part 0 i; rw [Nat.zero_mul, List.drop_zero] at this; exact this
  have r2 : RdR encA W (some ⟨g, j * 8, none⟩) (acs.drop j) := by have := hW.lf.part j (n - j); rw [List.take_of_length_le (by rw [List.length_drop]; omega)] at this; exact this
  have e1 : (acs.take i).length = i := by rw [List.length_take]; omega
  have e2 : (acs.drop j).length = n - j := by rw [List.length_drop, hn]
  have ec : catA [(⟨g, 0, none⟩, capA, acs.take i), (⟨g, j * 8, none⟩, capA - j, acs.drop j)] = acs.take i ++ acs.drop j := by simp [catA]
  have hok : ∀ a ∈ acs.take i ++ acs.drop j, a.label.size ≤ maxLen ∧ (Lit.int .i64 a.kind).wf = true := fun a ha => by
    rcases List.mem_append.1 ha with ha | ha
    · exact ⟨(h.ok a (List.mem_of_mem_take ha)).1, (h.ok a (List.mem_of_mem_take ha)).2.1⟩
    · exact ⟨(h.ok a (List.mem_of_mem_drop ha)).1, (h.ok a (List.mem_of_mem_drop ha)).2.1⟩
  refine (concat_any B 2 [(⟨g, 0, none⟩, capA, acs.take i), (⟨g, j * 8, none⟩, capA - j, acs.drop j)] W (fun k hk => ?_) (fun s hs => ?_) (by simp) (fun k => ?_)).mono ?_
  · match k, hk with
    | 0, _ => exact (hB.c 0 rfl).trans (by simp only [List.getElem_cons_zero, e1])
    | 1, _ => exact (hB.c 1 rfl).trans (by simp only [List.getElem_cons_succ, List.getElem_cons_zero, e2])
  · rcases List.mem_cons.1 hs with rfl | hs
    · exact r1
    · rcases List.mem_cons.1 hs with rfl | hs
      · exact r2
      · cases hs
  · match k with
    | 0 => simp [catA]
    | 1 => simp [catA]; omega
    | k + 2 => simp [catA]; omega
  · rintro r w' ⟨v, rfl, ho, hb'⟩
    rw [ec] at ho
    obtain ⟨aoC, cp, rfl, ha⟩ := lf_acs ho hok
    exact ⟨aoC, cp, rfl, ha, hb'⟩
theorem Fb.grow {X : Nat → Prop} {n0 : Nat} {wB w w1 : World} {ao : Option Addr} {cap : Nat} {l : List Sit} {b m : Nat} {s : Sta} (h : Fb (fun k => X k ∨ (n0 ≤ k ∧ k < w.heap.size)) wB w ao cap l b m s) (hb : Below w.heap.size w w1) : Fb (fun k => X k ∨ (n0 ≤ k ∧ k < w1.heap.size)) wB w1 ao cap l b m s := by
  refine h.more hb (fun k hk => ?_) (fun k hk => ?_) ⟨?_, ?_⟩
  · by_cases e : k < w.heap.size
    · exact .inl (hk.imp id fun h2 => ⟨h2.1, e⟩)
    · exact .inr (by omega)
  · rcases hk with hk | hk
    · exact Nat.lt_of_lt_of_le (h.low k (.inl hk)) hb.size
    · exact hk.2
  · exact h.x.1.imp id fun h2 => ⟨h2.1, Nat.lt_of_lt_of_le h2.2 hb.size⟩
  · exact h.x.2.imp id fun h2 => ⟨h2.1, Nat.lt_of_lt_of_le h2.2 hb.size⟩
set_option linter.unusedVariables false in
def mgV (X : Nat → Prop) (wB : World) (sb b n0 : Nat) (ao : Option Addr) (cap : Nat) (ld : List Sit) (st : Sta) (i : Nat) (l : List Value) (w : World) : Prop :=
  match i, l with
  | 0, [v] => v = .pointer (some ⟨sb, 0, none⟩)
  | 1, [v] => v = .pointer (some ⟨sb, 0, none⟩)
  | 2, [v] => v = .pointer (some ⟨sb, 9, none⟩)
  | 3, [v] => v = ptr b
  | 4, [v] => ∃ b1 m1, v = ptr b1 ∧ (n0 ≤ b1 ∧ b1 < w.heap.size) ∧ (n0 ≤ m1 ∧ m1 < w.heap.size) ∧ Fb (fun k => X k ∨ (n0 ≤ k ∧ k < w.heap.size)) wB w ao cap ld b1 m1 st
  | 5, [v] => v = .pointer (some ⟨sb, 0, none⟩)
  | 6, [v] => v = .pointer (some ⟨sb, 0, none⟩)
  | 7, [v] => v = .pointer (some ⟨sb, 9, none⟩)
  | 8, [v] => v = ptr b
  | 9, [u, v] => ∃ b1 m1 b2 m2, u = ptr b1 ∧ v = ptr b2 ∧ (n0 ≤ b1 ∧ b1 < w.heap.size) ∧ (n0 ≤ m1 ∧ m1 < w.heap.size) ∧ (n0 ≤ b2 ∧ b2 < w.heap.size) ∧ (n0 ≤ m2 ∧ m2 < w.heap.size) ∧ ((b1 ≠ b2 ∧ b1 ≠ m2) ∧ m1 ≠ b2 ∧ m1 ≠ m2) ∧ Fb (fun k => X k ∨ (n0 ≤ k ∧ k < w.heap.size)) wB w ao cap ld b1 m1 st ∧ Fb (fun k => X k ∨ (n0 ≤ k ∧ k < w.heap.size)) wB w ao cap ld b2 m2 st
  | 10, [u, v] => v = u
  | 11, [u, v] => v = u
  | _, _ => True
set_option linter.unusedVariables false in
theorem mgV_mono (X : Nat → Prop) (wB : World) (sb b n0 : Nat) (ao : Option Addr) (cap : Nat) (ld : List Sit) (st : Sta) (i : Nat) (l : List Value) (w w' : World) (h : mgV X wB sb b n0 ao cap ld st i l w) (hb : Below w.heap.size w w') : mgV X wB sb b n0 ao cap ld st i l w' := by
  unfold mgV at h ⊢
  split <;> simp only [] at h <;> first | exact h | (obtain ⟨b1, m1, h1, h2, h3, h4⟩ := h; exact ⟨b1, m1, h1, ⟨h2.1, Nat.lt_of_lt_of_le h2.2 hb.size⟩, ⟨h3.1, Nat.lt_of_lt_of_le h3.2 hb.size⟩, h4.grow hb⟩) | (obtain ⟨b1, m1, b2, m2, h1, h2, h3, h4, h5, h6, h7, h8, h9⟩ := h; exact ⟨b1, m1, b2, m2, h1, h2, ⟨h3.1, Nat.lt_of_lt_of_le h3.2 hb.size⟩, ⟨h4.1, Nat.lt_of_lt_of_le h4.2 hb.size⟩, ⟨h5.1, Nat.lt_of_lt_of_le h5.2 hb.size⟩, ⟨h6.1, Nat.lt_of_lt_of_le h6.2 hb.size⟩, h7, h8.grow hb, h9.grow hb⟩)
end Go.Proofs.YtgbnjgenopdmfaaGreat

/- mayGo walked. -/
namespace Go.Proofs.YtgbnjgenopdmfaaGreat
open Go.RowKit Go.Maps
theorem Fb.hi {X : Nat → Prop} {wB w w1 : World} {ao : Option Addr} {cap : Nat} {l : List Sit} {b m : Nat} {s : Sta} (h : Fb X wB w ao cap l b m s) (hb : Below w.heap.size w w1) : Fb (fun k => X k ∨ (w.heap.size ≤ k ∧ k < w1.heap.size)) wB w1 ao cap l b m s :=
  h.more hb (fun _ hk => hk.imp id fun h2 => h2.1) (fun k hk => hk.elim (fun h2 => Nat.lt_of_lt_of_le (h.low k h2) hb.size) fun h2 => h2.2) ⟨.inl h.x.1, .inl h.x.2⟩
/-- Another one, beside what is there. -/
theorem copyHi_any (X : Nat → Prop) (wB wn w1 : World) (ao : Option Addr) (cap : Nat) (l : List Sit) (b m : Nat) (s : Sta) (h : Fb X wB wn ao cap l b m s) (hb : Below wn.heap.size wn w1) :
    Calls Tryz.prog 85 #[ptr b] w1 fun e w' => ∃ b2 m2, e = .returned (ptr b2) ∧ Below w1.heap.size w1 w' ∧ (w1.heap.size ≤ b2 ∧ b2 < w'.heap.size) ∧ (w1.heap.size ≤ m2 ∧ m2 < w'.heap.size) ∧ Fb (fun k => X k ∨ (wn.heap.size ≤ k ∧ k < w'.heap.size)) wB w' ao cap l b2 m2 s := by
  refine (copied_any _ wB w1 ao cap l b m s (h.hi hb)).mono ?_
  rintro e w' ⟨b2, m2, rfl, hb2, hB, hM, hcp⟩
  have hs := hb.size
  refine ⟨b2, m2, rfl, hb2, hB, hM, hcp _ (fun k hk => ?_) (fun k hk => ?_) (.inr ⟨by omega, hB.2⟩) (.inr ⟨by omega, hM.2⟩)⟩
  · by_cases e : k < w1.heap.size
    · exact .inl (hk.imp id fun h2 => ⟨h2.1, e⟩)
    · exact .inr (by omega)
  · rcases hk with hk | hk
    · exact Nat.lt_of_lt_of_le (h.low k hk) (Nat.le_trans hs hb2.size)
    · exact hk.2
set_option linter.unusedVariables false in
def m8V (sb g capA n nl cap ix jx k1 : Nat) (ao : Option Addr) (e1 : Int) (i : Nat) (l : List Value) (w : World) : Prop :=
  match i, l with
  | 0, [v] => v = .pointer (some ⟨sb, 0, none⟩)
  | 1, [v] => v = .pointer (some ⟨sb, 0, none⟩)
  | 2, [v] => v = .pointer (some ⟨sb, 0, none⟩)
  | 3, [v] => v = .slice ao nl cap
  | 4, [v] => v = .pointer (some ⟨sb, 0, none⟩)
  | 5, [v] => v = .pointer (some ⟨sb, 0, none⟩)
  | 6, [v] => v = .pointer (some ⟨sb, 1, none⟩)
  | 7, [v] => v = .slice (some ⟨g, 0, none⟩) n capA
  | 8, [v] => v = .int .i64 (ix : Int)
  | 9, [v] => v = .slice (some ⟨g, 0, none⟩) ix capA
  | 10, [v] => v = .pointer (some ⟨sb, 0, none⟩)
  | 11, [v] => v = .pointer (some ⟨sb, 0, none⟩)
  | 12, [v] => v = .pointer (some ⟨sb, 1, none⟩)
  | 13, [v] => v = .slice (some ⟨g, 0, none⟩) n capA
  | 14, [v] => v = .int .i64 (ix : Int)
  | 15, [v] => v = .int .i64 (jx : Int)
  | 16, [v] => v = .slice (some ⟨g, jx * 8, none⟩) (n - jx) (capA - jx)
  | 17, [_] => True
  | 18, [_] => True
  | 19, [_] => True
  | 20, [u, v] => v = u ∧ ∃ t : Sm, u = .tuple #[smv t, .int .i64 (k1 : Int), .int .i64 e1]
  | 21, [u, v] => ∃ t : Sm, u = .tuple #[smv t, .int .i64 (k1 : Int), .int .i64 e1] ∧ v = smv t
  | 22, [v] => v = .int .i64 (k1 : Int)
  | 23, [v] => v = .int .i64 e1
  | 24, [_] => True
  | 26, [v] => v = .int .i64 (k1 : Int)
  | 27, [v] => v = .int .i64 e1
  | _, _ => True
set_option linter.unusedVariables false in
theorem m8V_free (sb g capA n nl cap ix jx k1 : Nat) (ao : Option Addr) (e1 : Int) (x : Nat) (l : List Value) (w w' : World) (h : m8V sb g capA n nl cap ix jx k1 ao e1 x l w) : m8V sb g capA n nl cap ix jx k1 ao e1 x l w' := h
/-- What is so while both parts are put together and done, in whatever order the region goes. -/
def m8J (n0 : Nat) (cs : List Value) (A : List Acn) (st1 : Sta) (k1 : Nat) (e1 : Int) (dn : Nat → Bool) (f : Nat → Value) (w : World) : Prop :=
  (dn 18 = false → dn 17 = true → ∃ B, f 67 = .slice (some ⟨B, 0, none⟩) 2 2 ∧ Bk B cs w) ∧
  (dn 19 = false → dn 18 = true → ∃ aoC cp, f 68 = .slice aoC A.length cp ∧ Acs w aoC A) ∧
  (dn 19 = true → dn 18 = true ∧ ∃ t : Sm, f 69 = .tuple #[smv t, .int .i64 (k1 : Int), .int .i64 e1] ∧ t.st = st1 ∧ SmIn w t ∧ SmHi n0 t ∧ (dn 24 = true → ∀ B, f 8 = ptr B → SmOff B t)) ∧
  (dn 24 = true → ∃ B, f 8 = ptr B ∧ n0 ≤ B ∧ B < w.heap.size ∧ ∃ u0 u1 u2 u3 u4 u5 u6, Bk B [u0, u1, u2, u3, u4, u5, u6] w) ∧
  (dn 25 = true → dn 19 = true ∧ dn 24 = true ∧ ∃ B, ∃ t : Sm, f 8 = ptr B ∧ f 69 = .tuple #[smv t, .int .i64 (k1 : Int), .int .i64 e1] ∧ Bk B (sml t) w)
theorem ptr_inj {a b : Nat} (h : ptr a = ptr b) : a = b := by injection h with h; injection h with h; injection h
section
variable {n0 : Nat} {cs : List Value} {A : List Acn} {st1 : Sta} {k1 : Nat} {e1 : Int} {dn : Nat → Bool} {f g : Nat → Value} {w w2 : World}
theorem m8J.same {i : Nat} (h : m8J n0 cs A st1 k1 e1 dn f w) (hi : i ≠ 17 ∧ i ≠ 18 ∧ i ≠ 19 ∧ i ≠ 24 ∧ i ≠ 25) (hg : g 67 = f 67 ∧ g 68 = f 68 ∧ g 69 = f 69 ∧ g 8 = f 8) (hb : Below w.heap.size w w2) : m8J n0 cs A st1 k1 e1 (setD dn i) g w2 := by
  obtain ⟨h1, h2, h3, h4, h5⟩ := h
  unfold m8J
  rw [setD_other (Ne.symm hi.1), setD_other (Ne.symm hi.2.1), setD_other (Ne.symm hi.2.2.1), setD_other (Ne.symm hi.2.2.2.1), setD_other (Ne.symm hi.2.2.2.2), hg.1, hg.2.1, hg.2.2.1, hg.2.2.2]
  refine ⟨fun a b => ?_, fun a b => ?_, fun a => ?_, fun a => ?_, fun a => ?_⟩
  · obtain ⟨B, u1, u2⟩ := h1 a b; exact ⟨B, u1, u2.later hb⟩
  · obtain ⟨x, y, u1, u2⟩ := h2 a b; exact ⟨x, y, u1, u2.next hb⟩
  · obtain ⟨y, t, u1, u2, u3, u4, u5⟩ := h3 a; exact ⟨y, t, u1, u2, u3.next hb, u4, u5⟩
  · obtain ⟨B, u1, u2, u3, v0, v1, v2, v3, v4, v5, v6, u4⟩ := h4 a; exact ⟨B, u1, u2, Nat.lt_of_lt_of_le u3 hb.size, v0, v1, v2, v3, v4, v5, v6, u4.later hb⟩
  · obtain ⟨x, y, B, t, u1, u2, u3⟩ := h5 a; exact ⟨x, y, B, t, u1, u2, u3.later hb⟩
theorem m8J.built {B : Nat} (h : m8J n0 cs A st1 k1 e1 dn f w) (hg : g 67 = .slice (some ⟨B, 0, none⟩) 2 2 ∧ g 68 = f 68 ∧ g 69 = f 69 ∧ g 8 = f 8) (hB : Bk B cs w2) (hb : Below w.heap.size w w2) : m8J n0 cs A st1 k1 e1 (setD dn 17) g w2 := by
  obtain ⟨h1, h2, h3, h4, h5⟩ := h
  unfold m8J
  rw [setD_same, setD_other (show 18 ≠ 17 by decide), setD_other (show 19 ≠ 17 by decide), setD_other (show 24 ≠ 17 by decide), setD_other (show 25 ≠ 17 by decide), hg.1, hg.2.1, hg.2.2.1, hg.2.2.2]
  refine ⟨fun _ _ => ⟨B, rfl, hB⟩, fun a b => ?_, fun a => ?_, fun a => ?_, fun a => ?_⟩
  · obtain ⟨x, y, u1, u2⟩ := h2 a b; exact ⟨x, y, u1, u2.next hb⟩
  · obtain ⟨y, t, u1, u2, u3, u4, u5⟩ := h3 a; exact ⟨y, t, u1, u2, u3.next hb, u4, u5⟩
  · obtain ⟨B, u1, u2, u3, v0, v1, v2, v3, v4, v5, v6, u4⟩ := h4 a; exact ⟨B, u1, u2, Nat.lt_of_lt_of_le u3 hb.size, v0, v1, v2, v3, v4, v5, v6, u4.later hb⟩
  · obtain ⟨x, y, B, t, u1, u2, u3⟩ := h5 a; exact ⟨x, y, B, t, u1, u2, u3.later hb⟩
theorem m8J.put {aoC : Option Addr} {cp : Nat} (h : m8J n0 cs A st1 k1 e1 dn f w) (hg : g 68 = .slice aoC A.length cp ∧ g 69 = f 69 ∧ g 8 = f 8) (hA : Acs w2 aoC A) (hb : Below w.heap.size w w2) : m8J n0 cs A st1 k1 e1 (setD dn 18) g w2 := by
  obtain ⟨h1, h2, h3, h4, h5⟩ := h
  unfold m8J
  rw [setD_same, setD_other (show 19 ≠ 18 by decide), setD_other (show 17 ≠ 18 by decide), setD_other (show 24 ≠ 18 by decide), setD_other (show 25 ≠ 18 by decide), hg.1, hg.2.1, hg.2.2]
  refine ⟨fun b _ => (by cases b), fun _ _ => ⟨aoC, cp, rfl, hA⟩, fun a => ?_, fun a => ?_, fun a => ?_⟩
  · obtain ⟨y, t, u1, u2, u3, u4, u5⟩ := h3 a; exact ⟨rfl, t, u1, u2, u3.next hb, u4, u5⟩
  · obtain ⟨B, u1, u2, u3, v0, v1, v2, v3, v4, v5, v6, u4⟩ := h4 a; exact ⟨B, u1, u2, Nat.lt_of_lt_of_le u3 hb.size, v0, v1, v2, v3, v4, v5, v6, u4.later hb⟩
  · obtain ⟨x, y, B, t, u1, u2, u3⟩ := h5 a; exact ⟨x, y, B, t, u1, u2, u3.later hb⟩
theorem m8J.ran {t : Sm} (h : m8J n0 cs A st1 k1 e1 dn f w) (h19 : dn 19 = false) (h18 : dn 18 = true) (hg : g 69 = .tuple #[smv t, .int .i64 (k1 : Int), .int .i64 e1] ∧ g 8 = f 8) (hs : t.st = st1) (hin : SmIn w2 t) (hhi : SmHi w.heap.size t) (hn : n0 ≤ w.heap.size) (hb : Below w.heap.size w w2) : m8J n0 cs A st1 k1 e1 (setD dn 19) g w2 := by
  obtain ⟨h1, h2, h3, h4, h5⟩ := h
  unfold m8J
  rw [setD_same, setD_other (show 18 ≠ 19 by decide), setD_other (show 24 ≠ 19 by decide), setD_other (show 25 ≠ 19 by decide), hg.1, hg.2]
  refine ⟨fun a => (by rw [h18] at a; cases a), fun a => (by cases a), fun _ => ⟨h18, t, rfl, hs, hin, hhi.less hn, fun a B hB => ?_⟩, fun a => ?_, fun a => ?_⟩
  · obtain ⟨B', u1, _, u3, _⟩ := h4 a
    rw [u1] at hB
    have := ptr_inj hB
    exact hhi.off (by omega)
  · obtain ⟨B, u1, u2, u3, v0, v1, v2, v3, v4, v5, v6, u4⟩ := h4 a; exact ⟨B, u1, u2, Nat.lt_of_lt_of_le u3 hb.size, v0, v1, v2, v3, v4, v5, v6, u4.later hb⟩
  · obtain ⟨x, _⟩ := h5 a; rw [h19] at x; cases x
theorem m8J.alloc (h : m8J n0 cs A st1 k1 e1 dn f w) (h24 : dn 24 = false) (hg : g 8 = ptr w.heap.size ∧ g 67 = f 67 ∧ g 68 = f 68 ∧ g 69 = f 69) (hn : n0 ≤ w.heap.size) : m8J n0 cs A st1 k1 e1 (setD dn 24) g (w.alloc (.cells z7.toArray 40)) := by
  obtain ⟨h1, h2, h3, h4, h5⟩ := h
  have hb : Below w.heap.size w (w.alloc (.cells z7.toArray 40)) := (Below.refl _ _).alloc (Nat.le_refl _) _
  unfold m8J
  rw [setD_same, setD_other (show 19 ≠ 24 by decide), setD_other (show 18 ≠ 24 by decide), setD_other (show 17 ≠ 24 by decide), setD_other (show 25 ≠ 24 by decide), hg.1, hg.2.1, hg.2.2.1, hg.2.2.2]
  refine ⟨fun a b => ?_, fun a b => ?_, fun a => ?_, fun a => ?_, fun a => ?_⟩
  · obtain ⟨B, u1, u2⟩ := h1 a b; exact ⟨B, u1, u2.later hb⟩
  · obtain ⟨x, y, u1, u2⟩ := h2 a b; exact ⟨x, y, u1, u2.next hb⟩
  · obtain ⟨y, t, u1, u2, u3, u4, _⟩ := h3 a
    exact ⟨y, t, u1, u2, u3.next hb, u4, fun _ B hB => u3.off (by have := ptr_inj hB; omega)⟩
  · exact ⟨w.heap.size, rfl, hn, by simp, _, _, _, _, _, _, _, Bk.new w z7 40 w.heap.size rfl⟩
  · obtain ⟨_, x, _⟩ := h5 a; rw [h24] at x; cases x
theorem m8J.store {B : Nat} {t : Sm} {u0 u1 u2 u3 u4 u5 u6 : Value} (h : m8J n0 cs A st1 k1 e1 dn f w) (h19 : dn 19 = true) (h24 : dn 24 = true) (hf : f 8 = ptr B ∧ f 69 = .tuple #[smv t, .int .i64 (k1 : Int), .int .i64 e1]) (hB : n0 ≤ B) (hK : Bk B [u0, u1, u2, u3, u4, u5, u6] w) : m8J n0 cs A st1 k1 e1 (setD dn 25) f (put7 w B t) := by
  obtain ⟨h1, h2, h3, h4, h5⟩ := h
  have hlt : B < (put7 w B t).heap.size := by simpa [World.setCell] using hK.1
  have K7 : Bk B (sml t) (put7 w B t) := ((((((hK.put 0 (.slice t.aoW t.wl.length t.capW)).put 1 (.bool t.tip)).put 2 (.slice t.aoH t.held.length t.capH)).put 3 (.slice t.aoT t.touched.length t.capT)).put 4 (.int .i64 t.used)).put 5 (.int .i64 t.heat)).put 6 (.int .i64 t.clock)
  unfold m8J
  rw [setD_same, setD_other (show 19 ≠ 25 by decide), setD_other (show 18 ≠ 25 by decide), setD_other (show 17 ≠ 25 by decide), setD_other (show 24 ≠ 25 by decide), hf.1, hf.2]
  refine ⟨fun a => (by rw [(h3 h19).1] at a; cases a), fun a => (by rw [h19] at a; cases a), fun a => ?_, fun _ => ⟨B, rfl, hB, hlt, _, _, _, _, _, _, _, K7⟩, fun _ => ⟨h19, h24, B, t, rfl, rfl, K7⟩⟩
  obtain ⟨y, t2, u1, u2, u3, u4, u5⟩ := h3 a
  have u6 := u5 h24 B hf.1
  refine ⟨y, t2, by rw [← u1, hf.2], u2, u3.but' u6 (but_put7 B w t), u4, fun _ B2 hB2 => ?_⟩
  rw [← ptr_inj hB2]
  exact u6
end
/-- What comes of it without the change, by the run of both parts. -/
theorem goR_run {l : List Sit} {e : Sta} {acs : List Acn} {i j : Nat} (hd : dchk l = 0) (hj : j = i + 2) : ((runR l (acs.take i ++ acs.drop j)).2.2 = 0 → goR l e acs i = alikeB (runR l (acs.take i ++ acs.drop j)).1 e ∧ May l (runR l (acs.take i ++ acs.drop j)).1) ∧ ((runR l (acs.take i ++ acs.drop j)).2.2 ≠ 0 → goR l e acs i = false) := by
  subst hj
  have e1 : runR l (acs.take i ++ acs.drop (i + 2)) = runA l sta0 0 (acs.take i ++ acs.drop (i + 2)) := if_pos hd
  rw [e1]
  unfold goR
  constructor
  · intro h
    have h2 := runA_some _ _ _ h
    rw [h2]
    exact ⟨rfl, runO_may hd _ _ _ (may_sta0 l) h2⟩
  · intro h
    rw [runA_none _ _ _ h]
set_option linter.unusedVariables false in
def m9V (sb B : Nat) (t e : Sm) (d : Nat) (v : Value) (_ : World) : Prop :=
  match d with
  | 73 => v = .int .i64 0
  | 74 => v = .bool true
  | 75 => v = .bool true
  | 76 => v = .agg #[.slice t.aoW t.wl.length t.capW, .bool t.tip, .slice t.aoH t.held.length t.capH, .slice t.aoT t.touched.length t.capT, .int .i64 t.used, .int .i64 t.heat, .int .i64 t.clock]
  | 77 => v = .pointer (some ⟨sb, 0, none⟩)
  | 78 => v = .pointer (some ⟨sb, 0, none⟩)
  | 79 => v = .pointer (some ⟨sb, 2, none⟩)
  | 80 => v = .agg #[.slice e.aoW e.wl.length e.capW, .bool e.tip, .slice e.aoH e.held.length e.capH, .slice e.aoT e.touched.length e.capT, .int .i64 e.used, .int .i64 e.heat, .int .i64 e.clock]
  | 81 => v = .bool (alikeB t.st e.st)
  | 82 => v = .bool (alikeB t.st e.st)
  | 4 => v = .bool (alikeB t.st e.st)
  | _ => True
set_option linter.unusedVariables false in
theorem m9V_mono (sb B : Nat) (t e : Sm) (d : Nat) (v : Value) (w w' : World) (h : m9V sb B t e d v w) (_ : Below w.heap.size w w') : m9V sb B t e d v w' := h
set_option linter.unusedVariables false in
def m9W (e1 : Int) (d : Nat) (v : Value) (_ : World) : Prop :=
  match d with
  | 73 => v = .int .i64 e1
  | 74 => v = .bool false
  | 75 => v = .bool false
  | 82 => v = .bool false
  | 4 => v = .bool false
  | _ => True
set_option linter.unusedVariables false in
theorem m9W_mono (e1 : Int) (d : Nat) (v : Value) (w w' : World) (h : m9W e1 d v w) (_ : Below w.heap.size w w') : m9W e1 d v w' := h
set_option maxHeartbeats 25600000 in
set_option maxRecDepth 100000 in
theorem mayGo_any (X : Nat → Prop) (wB w : World) (ao : Option Addr) (cap : Nat) (l : List Sit) (sb g capA b m : Nat) (acs : List Acn) (e : Sm) (st tE : Sta) (i j n : Nat) (hS : Sv X wB w ao cap l sb g capA b m acs e st) (hn : acs.length = n) (hc : Chg acs i) (hj : j = i + 2) (hjn : j < n)
    (hst : runO l (acs.take i) sta0 = some st) (hrun : runO l acs sta0 = some tE) (hal : alikeB tE e.st = true) :
    Calls Tryz.prog 46 #[ptr sb, .int .i64 (i : Int)] w fun r w' => r = .returned (.bool (goR l e.st acs i)) ∧ Below w.heap.size w w' := by
  have HSV : Hid (Sv X wB w ao cap l sb g capA b m acs e st) := hS
  obtain ⟨st', c, hst', hcr, hno, hyes⟩ := go_iff hc hrun hal
  rw [hst] at hst'
  injection hst' with hst'
  subst hst'
  rw [← hj] at hcr hno hyes
  obtain ⟨u, hu⟩ : ∃ u, u = (untilR (acs.drop j)).length := ⟨_, rfl⟩
  have hut : untilR (acs.drop j) = (acs.drop j).take u := by rw [hu]; exact until_take _
  have hul : u ≤ n - j := by
    have h1 := congrArg List.length hut
    rw [List.length_take, List.length_drop, hn, ← hu] at h1
    omega
  rw [← hu] at hcr
  rw [hut] at hno hyes
  have HU : Hid (∀ W, Below w.heap.size w W → Calls Tryz.prog 45 #[.slice (some ⟨g, j * 8, none⟩) (n - j) (capA - j)] W fun e w' => e = .returned (.slice (some ⟨g, j * 8, none⟩) u (capA - j)) ∧ Below W.heap.size W w') := fun W hb => by
    have h1 := (hS.next hb).part j (n - j)
    rw [List.take_of_length_le (by rw [List.length_drop]; omega)] at h1
    have h2 := untilDrop_any (some ⟨g, j * 8, none⟩) (capA - j) (acs.drop j) W h1 (by rw [List.length_drop]; have := hS.few; omega) (by rw [List.length_drop]; have := hS.capA.1; omega)
    rw [List.length_drop, hn, ← hu] at h2
    exact h2
  have KS : Hid (Bk sb (svc ao cap l g capA n e b) w) := by rw [← hn]; exact hS.bk
  have hfw : n ≤ 3000 := by rw [← hn]; exact hS.few
  have hci : capA ≤ 9223372036854775807 := hS.capA.2
  have hnc : n ≤ capA := by rw [← hn]; exact hS.capA.1
  have hcj : ¬ capA = j := by omega
  have hci2 : ¬ capA = i := by omega
  have hc0 : ¬ capA = 0 := by omega
  have hjn2 : j ≤ n := by omega
  have hic : i ≤ capA := by omega
  have HJU : Hid (i ≤ i + 2 + u ∧ i + 2 + u ≤ capA ∧ i + 2 + u ≤ 9223372036854775807) := ⟨by omega, by omega, by omega⟩
  have hw1 : wrap64 ((i : Int) + 2) = (j : Int) := by rw [IntWalk.wrap64_in _ ⟨by omega, by omega⟩]; omega
  have HKI : Hid (((acs.drop i).take (2 + u)).length = i + 2 + u - i) := by show _ = _; rw [List.length_take, List.length_drop, hn]; omega
  have HKU : Hid (((acs.drop j).take u).length = u) := by show _ = _; rw [List.length_take, List.length_drop, hn]; omega
  have HCR : Hid (runO l ((acs.drop i).take (2 + u)) st = some c) := hcr
  have HNO : Hid (runO l ((acs.drop j).take u) st = none → goR l e.st acs i = false) := hno
  have HYES : Hid (∀ q, runO l ((acs.drop j).take u) st = some q → q.wells = c.wells → goR l e.st acs i = true) := hyes
  have HN : Hid (acs.length = n) := hn
  have HIJ : Hid (Value.int .i64 (IntKind.i64.wrap ((i : Int) + 2)) = .int .i64 (j : Int)) := by show _ = _; rw [IntWalk.i64_left, hw1]
  have HIN : Hid (i ≤ n) := by show _ ≤ _; omega
  have HD0 : Hid (dchk l = 0) := hS.fb.hd
  obtain ⟨AA, hAA⟩ : ∃ x, x = acs.take i ++ acs.drop j := ⟨_, rfl⟩
  have HAA : Hid (AA = acs.take i ++ acs.drop j) := hAA
  have HGO : Hid (((runR l AA).2.2 = 0 → goR l e.st acs i = alikeB (runR l AA).1 e.st ∧ May l (runR l AA).1) ∧ ((runR l AA).2.2 ≠ 0 → goR l e.st acs i = false)) := by rw [hAA]; exact goR_run hS.fb.hd hj
  obtain ⟨⟨st1, k1, e1⟩, hrr⟩ : ∃ x, runR l AA = x := ⟨_, rfl⟩
  have HRR : Hid (runR l AA = (st1, k1, e1)) := hrr
  have HLA : Hid (AA.length ≤ 9223372036854775807) := by show _ ≤ _; rw [hAA, List.length_append, List.length_take, List.length_drop]; omega
  have HLN : Hid (l.length ≤ 9223372036854775807) := by have := dk_len hS.fb.hd; show _ ≤ _; omega
  clear hS hj hn hc hst hrun hal hcr hno hyes hu hut hrr hAA
  have z0 := (KS.out).c 0 rfl
  have z1 := (KS.out).c 1 rfl
  have z2 := (KS.out).c 2 rfl
  have z3 := (KS.out).c 3 rfl
  have z4 := (KS.out).c 4 rfl
  have z5 := (KS.out).c 5 rfl
  have z6 := (KS.out).c 6 rfl
  have z7 := (KS.out).c 7 rfl
  have z8 := (KS.out).c 8 rfl
  have z9 := (KS.out).c 9 rfl
  go_enter Tryz.func46, Tryz.ntmps46
  go_wp2_with fail
  refine (HU.out w (Below.refl _ _)).mono ?_
  rintro r wn ⟨rfl, hbn⟩
  have HBN : Hid (Below w.heap.size w wn) := hbn
  have HSN : Hid (Sv X wB wn ao cap l sb g capA b m acs e st) := HSV.out.next hbn
  have HFB : Hid (Fb X wB wn ao cap l b m st) := HSN.out.fb
  obtain ⟨ks, hks⟩ : ∃ ks : Hid (Bk sb (svc ao cap l g capA n e b) wn), True := ⟨KS.out.later hbn, trivial⟩
  clear KS hks hbn z0 z1 z2 z3 z4 z5 z6 z7 z8 z9
  have KS := ks
  clear ks
  go_wp2_with fail
  refine region_all [false, false, false, false, false, false, true, true, false, false, false, false, false, false, false, false, false, false, false, true, true, true, true, true, true, true, true, true, true, false, false, false, false, false, false, false, false, false, false, false, false, false, false, false, false, false, false, false, false, false, false, false, false, false, false, false, false, false, false, false, false, false, false, false, false, false, false, false, false, false, false, false, false, false, false, false, false, false, false, false, false, false, false]
    [([], [19], none), ([0], [20], none), ([1], [21], none), ([2], [22], none), ([3], [23], none), ([], [24], none), ([5], [25], none), ([6], [26], none), ([7], [27], none), ([8, 4], [23, 28], none), ([4], [23, 6], none), ([9], [28, 7], none)]
    (mgV X wB sb b wn.heap.size ao cap l st) (fun _ _ => True) (by kernel_rfl) (by kernel_rfl) (fun _ _ => trivial) ?_ ?_
  · refine ⟨?_, ?_, ?_, ?_, ?_, ?_, ?_, ?_, ?_, ?_, ?_, ?_, trivial⟩
    · intro f w1 hb hJ _ K hK
      simp only [over, overL, Nat.reduceAdd]
      go_simp
      exact hK _ _ ⟨_, by simp only [over, overL, Nat.reduceAdd]; rfl, rfl, hb, trivial, fun _ h => h⟩
    · intro f w1 hb hJ ⟨h19, _⟩ K hK
      replace h19 : f 19 = _ := h19
      simp only [over, overL, Nat.reduceAdd, h19]
      go_simp
      exact hK _ _ ⟨_, by simp only [over, overL, Nat.reduceAdd, h19]; rfl, rfl, hb, trivial, fun _ h => h⟩
    · intro f w1 hb hJ ⟨h20, _⟩ K hK
      replace h20 : f 20 = _ := h20
      simp only [over, overL, Nat.reduceAdd, h20]
      go_simp
      exact hK _ _ ⟨_, by simp only [over, overL, Nat.reduceAdd, h20]; rfl, rfl, hb, trivial, fun _ h => h⟩
    · intro f w1 hb hJ ⟨h21, _⟩ K hK
      replace h21 : f 21 = _ := h21
      have q9 := (KS.out.later hb).c 9 rfl
      simp only [over, overL, Nat.reduceAdd, h21]
      go_simp
      exact hK _ _ ⟨_, by simp only [over, overL, Nat.reduceAdd, h21]; rfl, rfl, hb, trivial, fun _ h => h⟩
    · intro f w1 hb hJ ⟨h22, _⟩ K hK
      replace h22 : f 22 = _ := h22
      simp only [over, overL, Nat.reduceAdd, h22]
      go_simp
      refine (copyHi_any X wB wn w1 ao cap l b m st HFB.out hb).mono ?_
      rintro e w2 ⟨b1, m1, rfl, hb2, hB1, hM1, hcp⟩
      have hs1 := hb.size
      exact hK _ _ ⟨_, by simp only [over, overL, Nat.reduceAdd, h22]; rfl, ⟨b1, m1, rfl, ⟨by omega, hB1.2⟩, ⟨by omega, hM1.2⟩, hcp⟩, below_on hb hb2, trivial, fun j h => mgV_mono X wB sb b wn.heap.size ao cap l st j _ _ _ h hb2⟩
    · intro f w1 hb hJ _ K hK
      simp only [over, overL, Nat.reduceAdd]
      go_simp
      exact hK _ _ ⟨_, by simp only [over, overL, Nat.reduceAdd]; rfl, rfl, hb, trivial, fun _ h => h⟩
    · intro f w1 hb hJ ⟨h24, _⟩ K hK
      replace h24 : f 24 = _ := h24
      simp only [over, overL, Nat.reduceAdd, h24]
      go_simp
      exact hK _ _ ⟨_, by simp only [over, overL, Nat.reduceAdd, h24]; rfl, rfl, hb, trivial, fun _ h => h⟩
    · intro f w1 hb hJ ⟨h25, _⟩ K hK
      replace h25 : f 25 = _ := h25
      simp only [over, overL, Nat.reduceAdd, h25]
      go_simp
      exact hK _ _ ⟨_, by simp only [over, overL, Nat.reduceAdd, h25]; rfl, rfl, hb, trivial, fun _ h => h⟩
    · intro f w1 hb hJ ⟨h26, _⟩ K hK
      replace h26 : f 26 = _ := h26
      have q9 := (KS.out.later hb).c 9 rfl
      simp only [over, overL, Nat.reduceAdd, h26]
      go_simp
      exact hK _ _ ⟨_, by simp only [over, overL, Nat.reduceAdd, h26]; rfl, rfl, hb, trivial, fun _ h => h⟩
    · intro f w1 hb hJ ⟨h27, j4, _⟩ K hK
      replace h27 : f 27 = _ := h27
      obtain ⟨b1, m1, h23, hB1, hM1, hF1⟩ := (show ∃ b1 m1, f 23 = ptr b1 ∧ (wn.heap.size ≤ b1 ∧ b1 < w1.heap.size) ∧ (wn.heap.size ≤ m1 ∧ m1 < w1.heap.size) ∧ Fb (fun k => X k ∨ (wn.heap.size ≤ k ∧ k < w1.heap.size)) wB w1 ao cap l b1 m1 st from j4)
      have H23 : Hid (f 23 = _) := h23
      clear h23
      simp only [over, overL, Nat.reduceAdd, h27]
      go_simp
      refine (copyHi_any X wB wn w1 ao cap l b m st HFB.out hb).mono ?_
      rintro e w2 ⟨b2, m2, rfl, hb2, hB2, hM2, hcp⟩
      have hs1 := hb.size
      have hs2 := hb2.size
      exact hK _ _ ⟨_, by simp only [over, overL, Nat.reduceAdd, h27]; rfl, ⟨b1, m1, b2, m2, H23.out, rfl, ⟨hB1.1, by omega⟩, ⟨hM1.1, by omega⟩, ⟨by omega, hB2.2⟩, ⟨by omega, hM2.2⟩, ⟨⟨by omega, by omega⟩, by omega, by omega⟩, hF1.grow hb2, hcp⟩, below_on hb hb2, trivial, fun j h => mgV_mono X wB sb b wn.heap.size ao cap l st j _ _ _ h hb2⟩
    · intro f w1 hb hJ ⟨h23, _⟩ K hK
      simp only [over, overL, Nat.reduceAdd]
      go_simp
      exact hK _ _ ⟨_, by simp only [over, overL, Nat.reduceAdd]; rfl, rfl, hb, trivial, fun _ h => h⟩
    · intro f w1 hb hJ ⟨h28, _⟩ K hK
      simp only [over, overL, Nat.reduceAdd]
      go_simp
      exact hK _ _ ⟨_, by simp only [over, overL, Nat.reduceAdd]; rfl, rfl, hb, trivial, fun _ h => h⟩
  intro f w2 hb _ hv
  obtain ⟨b1, m1, b2, m2, h23, h28, hB1, hM1, hB2, hM2, hNE, hF1, hF2⟩ := (show ∃ b1 m1 b2 m2, f 23 = ptr b1 ∧ f 28 = ptr b2 ∧ (wn.heap.size ≤ b1 ∧ b1 < w2.heap.size) ∧ (wn.heap.size ≤ m1 ∧ m1 < w2.heap.size) ∧ (wn.heap.size ≤ b2 ∧ b2 < w2.heap.size) ∧ (wn.heap.size ≤ m2 ∧ m2 < w2.heap.size) ∧ ((b1 ≠ b2 ∧ b1 ≠ m2) ∧ m1 ≠ b2 ∧ m1 ≠ m2) ∧ Fb (fun k => X k ∨ (wn.heap.size ≤ k ∧ k < w2.heap.size)) wB w2 ao cap l b1 m1 st ∧ Fb (fun k => X k ∨ (wn.heap.size ≤ k ∧ k < w2.heap.size)) wB w2 ao cap l b2 m2 st from hv.2.2.2.2.2.2.2.2.2.1)
  have h6 : f 6 = ptr b1 := (show f 6 = f 23 from hv.2.2.2.2.2.2.2.2.2.2.1).trans h23
  have h7 : f 7 = ptr b2 := (show f 7 = f 28 from hv.2.2.2.2.2.2.2.2.2.2.2.1).trans h28
  obtain ⟨Y, hY⟩ : ∃ Y : Nat → Prop, Y = (fun k => X k ∨ (wn.heap.size ≤ k ∧ k < w2.heap.size)) := ⟨_, rfl⟩
  rw [← hY] at hF1 hF2
  have HY : Hid ((Y b1 ∧ Y m1) ∧ Y b2 ∧ Y m2) := by subst hY; exact ⟨⟨.inr hB1, .inr hM1⟩, .inr hB2, .inr hM2⟩
  have hgl := HSN.out.lf.1
  have HG1 : Hid (g ≠ b1 ∧ g ≠ m1) := ⟨by omega, by omega⟩
  have HG2 : Hid (g ≠ b2 ∧ g ≠ m2) := ⟨by omega, by omega⟩
  have HL1 : Hid (wn.heap.size ≤ b1 ∧ wn.heap.size ≤ m1) := ⟨hB1.1, hM1.1⟩
  have HL2 : Hid (wn.heap.size ≤ b2 ∧ wn.heap.size ≤ m2) := ⟨hB2.1, hM2.1⟩
  have HNE : Hid ((b1 ≠ b2 ∧ b1 ≠ m2) ∧ m1 ≠ b2 ∧ m1 ≠ m2) := hNE
  have HB2 : Hid (Below wn.heap.size wn w2) := hb
  have HF1 : Hid (Fb Y wB w2 ao cap l b1 m1 st) := hF1
  have HF2 : Hid (Fb Y wB w2 ao cap l b2 m2 st) := hF2
  obtain ⟨ks, hks⟩ : ∃ ks : Hid (Bk sb (svc ao cap l g capA n e b) w2), True := ⟨KS.out.later hb, trivial⟩
  clear KS hks hb hv h23 h28 hB1 hM1 hB2 hM2 hNE hF1 hF2 hY hgl
  simp only [over, overL, Nat.reduceAdd, h6, h7]
  clear h6 h7
  have z0 := (ks.out).c 0 rfl
  have z1 := (ks.out).c 1 rfl
  have z2 := (ks.out).c 2 rfl
  have z3 := (ks.out).c 3 rfl
  have z4 := (ks.out).c 4 rfl
  have z5 := (ks.out).c 5 rfl
  have z6 := (ks.out).c 6 rfl
  have z7 := (ks.out).c 7 rfl
  have z8 := (ks.out).c 8 rfl
  have z9 := (ks.out).c 9 rfl
  obtain ⟨hju1, hju2, hju3⟩ := HJU.out
  go_wp2_with fail
  refine (HSN.out.doP HB2.out HF1.out HG1.out i (2 + u) (i + 2 + u - i) (capA - i) HKI.out).mono ?_
  rintro r w3 ⟨c1, s1, rfl, hf3, hbu3, hr3⟩
  obtain ⟨rfl, rfl⟩ : s1 = c ∧ c1 = 0 := by
    rcases hr3 with ⟨h1, h2⟩ | ⟨h1, _⟩
    · rw [HCR.out] at h1; injection h1 with h1; exact ⟨h1.symm, h2⟩
    · rw [HCR.out] at h1; cases h1
  have HB3 : Hid (Below wn.heap.size wn w3) := hbu3.below HB2.out HL1.out.1 HL1.out.2 HB2.out.size
  have HF3 : Hid (Fb Y wB w3 ao cap l b1 m1 s1) := hf3
  have HF4 : Hid (Fb Y wB w3 ao cap l b2 m2 st) := HF2.out.but hbu3 HY.out.1 HF1.out.lb ⟨⟨Ne.symm HNE.out.1.1, Ne.symm HNE.out.2.1⟩, Ne.symm HNE.out.1.2, Ne.symm HNE.out.2.2⟩
  clear hr3 hf3 hbu3 HF1 HF2 ks z0 z1 z2 z3 z4 z5 z6 z7 z8 z9 hju1 hju2 hju3
  go_wp2_with fail
  refine (HSN.out.doP HB3.out HF4.out HG2.out j u u (capA - j) HKU.out).mono ?_
  rintro r w4 ⟨c2, q, rfl, hf4, hbu4, hr4⟩
  have HB4 : Hid (Below wn.heap.size wn w4) := hbu4.below HB3.out HL2.out.1 HL2.out.2 HB3.out.size
  have HF5 : Hid (Fb Y wB w4 ao cap l b2 m2 q) := hf4
  have HF6 : Hid (Fb Y wB w4 ao cap l b1 m1 s1) := HF3.out.but hbu4 HY.out.2 HF4.out.lb HNE.out
  clear hf4 hbu4 HF3 HF4
  rcases hr4 with ⟨hq, rfl⟩ | ⟨hq, hc2⟩
  rotate_left
  · have h2 : (c2 == 0) = false := by simp [hc2]
    have h3 : (c2 != 0) = true := by simp [hc2]
    have HGA : Hid (goR l e.st acs i = false) := HNO.out hq
    clear hq hc2
    go_wp2
    go_ret
    exact ⟨ret_bool HGA.out.symm, below_on HBN.out HB4.out⟩
  have HQ : Hid (runO l ((acs.drop j).take u) st = some q) := hq
  clear hq
  go_wp2_with fail
  refine (hasWells_any Y Y wB wB w4 ao ao cap cap l l b2 m2 b1 m1 q s1 HF5.out HF6.out).mono ?_
  rintro r w5 ⟨rfl, hb5⟩
  have HB5 : Hid (Below wn.heap.size wn w5) := below_on HB4.out hb5
  clear hb5
  by_cases hwl : q.wells = s1.wells
  · have hd : decide (q.wells = s1.wells) = true := by simp [hwl]
    have HGA : Hid (goR l e.st acs i = true) := HYES.out q HQ.out hwl
    clear hwl
    rw [hd]
    clear hd
    go_wp2
    go_ret
    exact ⟨ret_bool HGA.out.symm, below_on HBN.out HB5.out⟩
  · have hd : decide (q.wells = s1.wells) = false := by simp [hwl]
    clear hwl
    rw [hd]
    clear hd
    have KS5 : Hid (Bk sb (svc ao cap l g capA n e b) w5) := by have := (HSN.out.next HB5.out).bk; rw [HN.out] at this; exact this
    have HDK : Hid (Dk w5 ao cap l) := (HSN.out.next HB5.out).fb.dkw
    go_wp2_with fail
    refine region_done [false, false, false, false, false, false, false, false, true, true, true, false, false, false, false, false, false, false, false, false, false, false, false, false, false, false, false, false, false, false, false, false, false, false, false, false, false, false, false, false, false, false, false, false, false, false, false, false, false, true, true, true, true, true, true, true, true, true, true, true, true, true, true, true, true, true, true, true, true, true, true, true, true, false, false, false, false, false, false, false, false, false, false]
      [([], [50], none), ([0], [51], none), ([1], [52], none), ([2], [53], none), ([], [54], none), ([4], [55], none), ([5], [56], none), ([6], [57], none), ([], [58], none), ([7, 8], [59], none), ([], [60], none), ([10], [61], none), ([11], [62], none), ([12], [63], none), ([], [64], none), ([14], [65], none), ([13, 15], [66], none), ([9, 16], [67], none), ([17], [68], none), ([3, 18], [69], none), ([19], [69, 49], none), ([20], [69, 70], none), ([20], [71], none), ([20], [72], none), ([], [8], none), ([24, 21, 19], [], none), ([22], [9], none), ([23], [10], none)]
      (m8V sb g capA n l.length cap i j k1 ao e1) (m8J w5.heap.size [.slice (some ⟨g, 0, none⟩) i capA, .slice (some ⟨g, j * 8, none⟩) (n - j) (capA - j)] AA st1 k1 e1) (by kernel_rfl) (by kernel_rfl) (fun dn f w hd _ => ⟨fun _ h => absurd ((hd 17).symm.trans h) (by decide), fun _ h => absurd ((hd 18).symm.trans h) (by decide), fun h => absurd ((hd 19).symm.trans h) (by decide), fun h => absurd ((hd 24).symm.trans h) (by decide), fun h => absurd ((hd 25).symm.trans h) (by decide)⟩) ?_ ?_
    · refine ⟨?_, ?_, ?_, ?_, ?_, ?_, ?_, ?_, ?_, ?_, ?_, ?_, ?_, ?_, ?_, ?_, ?_, ?_, ?_, ?_, ?_, ?_, ?_, ?_, ?_, ?_, ?_, ?_, trivial⟩
      · intro dn f w1 hdn hpn hb hJ _ K hK
        simp only [over, overL, Nat.reduceAdd]
        go_simp
        exact hK _ _ ⟨_, by simp only [over, overL, Nat.reduceAdd]; rfl, rfl, hb, hJ.same ⟨by decide, by decide, by decide, by decide, by decide⟩ ⟨updO_other (by decide), updO_other (by decide), updO_other (by decide), updO_other (by decide)⟩ (Below.refl _ _), fun _ h => h⟩
      · intro dn f w1 hdn hpn hb hJ ⟨h50, _⟩ K hK
        replace h50 : f 50 = _ := h50
        simp only [over, overL, Nat.reduceAdd, h50]
        go_simp
        exact hK _ _ ⟨_, by simp only [over, overL, Nat.reduceAdd, h50]; rfl, rfl, hb, hJ.same ⟨by decide, by decide, by decide, by decide, by decide⟩ ⟨updO_other (by decide), updO_other (by decide), updO_other (by decide), updO_other (by decide)⟩ (Below.refl _ _), fun _ h => h⟩
      · intro dn f w1 hdn hpn hb hJ ⟨h51, _⟩ K hK
        replace h51 : f 51 = _ := h51
        simp only [over, overL, Nat.reduceAdd, h51]
        go_simp
        exact hK _ _ ⟨_, by simp only [over, overL, Nat.reduceAdd, h51]; rfl, rfl, hb, hJ.same ⟨by decide, by decide, by decide, by decide, by decide⟩ ⟨updO_other (by decide), updO_other (by decide), updO_other (by decide), updO_other (by decide)⟩ (Below.refl _ _), fun _ h => h⟩
      · intro dn f w1 hdn hpn hb hJ ⟨h52, _⟩ K hK
        replace h52 : f 52 = _ := h52
        have q0 := (KS5.out.later hb).c 0 rfl
        simp only [over, overL, Nat.reduceAdd, h52]
        go_simp
        exact hK _ _ ⟨_, by simp only [over, overL, Nat.reduceAdd, h52]; rfl, rfl, hb, hJ.same ⟨by decide, by decide, by decide, by decide, by decide⟩ ⟨updO_other (by decide), updO_other (by decide), updO_other (by decide), updO_other (by decide)⟩ (Below.refl _ _), fun _ h => h⟩
      · intro dn f w1 hdn hpn hb hJ _ K hK
        simp only [over, overL, Nat.reduceAdd]
        go_simp
        exact hK _ _ ⟨_, by simp only [over, overL, Nat.reduceAdd]; rfl, rfl, hb, hJ.same ⟨by decide, by decide, by decide, by decide, by decide⟩ ⟨updO_other (by decide), updO_other (by decide), updO_other (by decide), updO_other (by decide)⟩ (Below.refl _ _), fun _ h => h⟩
      · intro dn f w1 hdn hpn hb hJ ⟨h54, _⟩ K hK
        replace h54 : f 54 = _ := h54
        simp only [over, overL, Nat.reduceAdd, h54]
        go_simp
        exact hK _ _ ⟨_, by simp only [over, overL, Nat.reduceAdd, h54]; rfl, rfl, hb, hJ.same ⟨by decide, by decide, by decide, by decide, by decide⟩ ⟨updO_other (by decide), updO_other (by decide), updO_other (by decide), updO_other (by decide)⟩ (Below.refl _ _), fun _ h => h⟩
      · intro dn f w1 hdn hpn hb hJ ⟨h55, _⟩ K hK
        replace h55 : f 55 = _ := h55
        simp only [over, overL, Nat.reduceAdd, h55]
        go_simp
        exact hK _ _ ⟨_, by simp only [over, overL, Nat.reduceAdd, h55]; rfl, rfl, hb, hJ.same ⟨by decide, by decide, by decide, by decide, by decide⟩ ⟨updO_other (by decide), updO_other (by decide), updO_other (by decide), updO_other (by decide)⟩ (Below.refl _ _), fun _ h => h⟩
      · intro dn f w1 hdn hpn hb hJ ⟨h56, _⟩ K hK
        replace h56 : f 56 = _ := h56
        have q1 := (KS5.out.later hb).c 1 rfl
        simp only [over, overL, Nat.reduceAdd, h56]
        go_simp
        exact hK _ _ ⟨_, by simp only [over, overL, Nat.reduceAdd, h56]; rfl, rfl, hb, hJ.same ⟨by decide, by decide, by decide, by decide, by decide⟩ ⟨updO_other (by decide), updO_other (by decide), updO_other (by decide), updO_other (by decide)⟩ (Below.refl _ _), fun _ h => h⟩
      · intro dn f w1 hdn hpn hb hJ _ K hK
        simp only [over, overL, Nat.reduceAdd]
        go_simp
        exact hK _ _ ⟨_, by simp only [over, overL, Nat.reduceAdd]; rfl, rfl, hb, hJ.same ⟨by decide, by decide, by decide, by decide, by decide⟩ ⟨updO_other (by decide), updO_other (by decide), updO_other (by decide), updO_other (by decide)⟩ (Below.refl _ _), fun _ h => h⟩
      · intro dn f w1 hdn hpn hb hJ ⟨h57, h58, _⟩ K hK
        replace h57 : f 57 = _ := h57
        replace h58 : f 58 = _ := h58
        simp only [over, overL, Nat.reduceAdd, h57, h58]
        go_simp
        exact hK _ _ ⟨_, by simp only [over, overL, Nat.reduceAdd, h57, h58]; rfl, rfl, hb, hJ.same ⟨by decide, by decide, by decide, by decide, by decide⟩ ⟨updO_other (by decide), updO_other (by decide), updO_other (by decide), updO_other (by decide)⟩ (Below.refl _ _), fun _ h => h⟩
      · intro dn f w1 hdn hpn hb hJ _ K hK
        simp only [over, overL, Nat.reduceAdd]
        go_simp
        exact hK _ _ ⟨_, by simp only [over, overL, Nat.reduceAdd]; rfl, rfl, hb, hJ.same ⟨by decide, by decide, by decide, by decide, by decide⟩ ⟨updO_other (by decide), updO_other (by decide), updO_other (by decide), updO_other (by decide)⟩ (Below.refl _ _), fun _ h => h⟩
      · intro dn f w1 hdn hpn hb hJ ⟨h60, _⟩ K hK
        replace h60 : f 60 = _ := h60
        simp only [over, overL, Nat.reduceAdd, h60]
        go_simp
        exact hK _ _ ⟨_, by simp only [over, overL, Nat.reduceAdd, h60]; rfl, rfl, hb, hJ.same ⟨by decide, by decide, by decide, by decide, by decide⟩ ⟨updO_other (by decide), updO_other (by decide), updO_other (by decide), updO_other (by decide)⟩ (Below.refl _ _), fun _ h => h⟩
      · intro dn f w1 hdn hpn hb hJ ⟨h61, _⟩ K hK
        replace h61 : f 61 = _ := h61
        simp only [over, overL, Nat.reduceAdd, h61]
        go_simp
        exact hK _ _ ⟨_, by simp only [over, overL, Nat.reduceAdd, h61]; rfl, rfl, hb, hJ.same ⟨by decide, by decide, by decide, by decide, by decide⟩ ⟨updO_other (by decide), updO_other (by decide), updO_other (by decide), updO_other (by decide)⟩ (Below.refl _ _), fun _ h => h⟩
      · intro dn f w1 hdn hpn hb hJ ⟨h62, _⟩ K hK
        replace h62 : f 62 = _ := h62
        have q1 := (KS5.out.later hb).c 1 rfl
        simp only [over, overL, Nat.reduceAdd, h62]
        go_simp
        exact hK _ _ ⟨_, by simp only [over, overL, Nat.reduceAdd, h62]; rfl, rfl, hb, hJ.same ⟨by decide, by decide, by decide, by decide, by decide⟩ ⟨updO_other (by decide), updO_other (by decide), updO_other (by decide), updO_other (by decide)⟩ (Below.refl _ _), fun _ h => h⟩
      · intro dn f w1 hdn hpn hb hJ _ K hK
        simp only [over, overL, Nat.reduceAdd]
        go_simp
        exact hK _ _ ⟨_, by simp only [over, overL, Nat.reduceAdd]; rfl, rfl, hb, hJ.same ⟨by decide, by decide, by decide, by decide, by decide⟩ ⟨updO_other (by decide), updO_other (by decide), updO_other (by decide), updO_other (by decide)⟩ (Below.refl _ _), fun _ h => h⟩
      · intro dn f w1 hdn hpn hb hJ ⟨h64, _⟩ K hK
        replace h64 : f 64 = _ := h64
        simp only [over, overL, Nat.reduceAdd, h64]
        go_simp
        exact hK _ _ ⟨_, by simp only [over, overL, Nat.reduceAdd, h64]; rfl, HIJ.out, hb, hJ.same ⟨by decide, by decide, by decide, by decide, by decide⟩ ⟨updO_other (by decide), updO_other (by decide), updO_other (by decide), updO_other (by decide)⟩ (Below.refl _ _), fun _ h => h⟩
      · intro dn f w1 hdn hpn hb hJ ⟨h63, h65, _⟩ K hK
        replace h63 : f 63 = _ := h63
        replace h65 : f 65 = _ := h65
        simp only [over, overL, Nat.reduceAdd, h63, h65]
        go_simp
        exact hK _ _ ⟨_, by simp only [over, overL, Nat.reduceAdd, h63, h65]; rfl, rfl, hb, hJ.same ⟨by decide, by decide, by decide, by decide, by decide⟩ ⟨updO_other (by decide), updO_other (by decide), updO_other (by decide), updO_other (by decide)⟩ (Below.refl _ _), fun _ h => h⟩
      · intro dn f w1 hdn hpn hb hJ ⟨h59, h66, _⟩ K hK
        replace h59 : f 59 = _ := h59
        replace h66 : f 66 = _ := h66
        simp only [over, overL, Nat.reduceAdd, h59, h66]
        go_simp
        exact hK _ _ ⟨_, by simp only [over, overL, Nat.reduceAdd, h59, h66]; rfl, trivial, below_on hb ((Below.refl _ _).alloc (Nat.le_refl _) _), hJ.built (B := w1.heap.size) ⟨rfl, updO_other (by decide), updO_other (by decide), updO_other (by decide)⟩ (Bk.new w1 [.slice (some ⟨g, 0, none⟩) i capA, .slice (some ⟨g, j * 8, none⟩) (n - j) (capA - j)] 23 w1.heap.size rfl) ((Below.refl _ _).alloc (Nat.le_refl _) _), fun q_ h => m8V_free sb g capA n l.length cap i j k1 ao e1 q_ _ _ _ h⟩
      · intro dn f w1 hdn hpn hb hJ ⟨h67, _⟩ K hK
        obtain ⟨B, h67, hB⟩ := hJ.1 hdn (hpn 17 (by simp))
        simp only [over, overL, Nat.reduceAdd, h67]
        go_simp
        refine (HSN.out.cat (below_on HB5.out hb) HN.out HIN.out hB).mono ?_
        rintro e w2 ⟨aoC, cp, rfl, hA, hb2⟩
        rw [← HAA.out] at hA
        rw [← HAA.out]
        exact hK _ _ ⟨_, by simp only [over, overL, Nat.reduceAdd, h67]; rfl, trivial, below_on hb hb2, hJ.put ⟨rfl, updO_other (by decide), updO_other (by decide)⟩ hA hb2, fun q_ h => m8V_free sb g capA n l.length cap i j k1 ao e1 q_ _ _ _ h⟩
      · intro dn f w1 hdn hpn hb hJ ⟨h53, h68, _⟩ K hK
        replace h53 : f 53 = _ := h53
        obtain ⟨aoC, cp, h68, hA⟩ := hJ.2.1 hdn (hpn 18 (by simp))
        simp only [over, overL, Nat.reduceAdd, h53, h68]
        go_simp
        refine (run_any ao cap l aoC cp _ w1 (HDK.out.next hb) HLN.out hA HLA.out).mono ?_
        rintro e w2 ⟨t2, rfl, hst2, hin2, hhi2, hb2⟩
        rw [HRR.out] at hst2
        rw [HRR.out]
        exact hK _ _ ⟨_, by simp only [over, overL, Nat.reduceAdd, h53, h68]; rfl, trivial, below_on hb hb2, hJ.ran hdn (hpn 18 (by simp)) ⟨rfl, updO_other (by decide)⟩ hst2 hin2 hhi2 hb.size hb2, fun q_ h => m8V_free sb g capA n l.length cap i j k1 ao e1 q_ _ _ _ h⟩
      · intro dn f w1 hdn hpn hb hJ ⟨h69, _⟩ K hK
        obtain ⟨_, t, h69, _⟩ := hJ.2.2.1 (hpn 19 (by simp))
        simp only [over, overL, Nat.reduceAdd, h69]
        go_simp
        exact hK _ _ ⟨_, by simp only [over, overL, Nat.reduceAdd, h69]; rfl, ⟨by show _ = f 69; rw [h69]; rfl, t, h69⟩, hb, hJ.same ⟨by decide, by decide, by decide, by decide, by decide⟩ ⟨updO_other (by decide), updO_other (by decide), updO_other (by decide), updO_other (by decide)⟩ (Below.refl _ _), fun _ h => h⟩
      · intro dn f w1 hdn hpn hb hJ ⟨h49, _⟩ K hK
        obtain ⟨h49, t, h69⟩ := (show f 49 = f 69 ∧ ∃ t : Sm, f 69 = .tuple #[smv t, .int .i64 (k1 : Int), .int .i64 e1] from h49)
        rw [h69] at h49
        have H69 : Hid (f 69 = _) := h69
        clear h69
        simp only [over, overL, Nat.reduceAdd, h49]
        go_simp
        exact hK _ _ ⟨_, by simp only [over, overL, Nat.reduceAdd, h49]; rfl, ⟨t, H69.out, rfl⟩, hb, hJ.same ⟨by decide, by decide, by decide, by decide, by decide⟩ ⟨updO_other (by decide), updO_other (by decide), updO_other (by decide), updO_other (by decide)⟩ (Below.refl _ _), fun _ h => h⟩
      · intro dn f w1 hdn hpn hb hJ ⟨h49, _⟩ K hK
        obtain ⟨h49, t, h69⟩ := (show f 49 = f 69 ∧ ∃ t : Sm, f 69 = .tuple #[smv t, .int .i64 (k1 : Int), .int .i64 e1] from h49)
        rw [h69] at h49
        have H69 : Hid (f 69 = _) := h69
        clear h69
        simp only [over, overL, Nat.reduceAdd, h49]
        go_simp
        exact hK _ _ ⟨_, by simp only [over, overL, Nat.reduceAdd, h49]; rfl, rfl, hb, hJ.same ⟨by decide, by decide, by decide, by decide, by decide⟩ ⟨updO_other (by decide), updO_other (by decide), updO_other (by decide), updO_other (by decide)⟩ (Below.refl _ _), fun _ h => h⟩
      · intro dn f w1 hdn hpn hb hJ ⟨h49, _⟩ K hK
        obtain ⟨h49, t, h69⟩ := (show f 49 = f 69 ∧ ∃ t : Sm, f 69 = .tuple #[smv t, .int .i64 (k1 : Int), .int .i64 e1] from h49)
        rw [h69] at h49
        have H69 : Hid (f 69 = _) := h69
        clear h69
        simp only [over, overL, Nat.reduceAdd, h49]
        go_simp
        exact hK _ _ ⟨_, by simp only [over, overL, Nat.reduceAdd, h49]; rfl, rfl, hb, hJ.same ⟨by decide, by decide, by decide, by decide, by decide⟩ ⟨updO_other (by decide), updO_other (by decide), updO_other (by decide), updO_other (by decide)⟩ (Below.refl _ _), fun _ h => h⟩
      · intro dn f w1 hdn hpn hb hJ _ K hK
        simp only [over, overL, Nat.reduceAdd]
        go_simp
        exact hK _ _ ⟨_, by simp only [over, overL, Nat.reduceAdd]; rfl, trivial, below_on hb ((Below.refl _ _).alloc (Nat.le_refl _) _), hJ.alloc hdn ⟨rfl, updO_other (by decide), updO_other (by decide), updO_other (by decide)⟩ hb.size, fun q_ h => m8V_free sb g capA n l.length cap i j k1 ao e1 q_ _ _ _ h⟩
      · intro dn f w1 hdn hpn hb hJ ⟨h8, h70, j19, _⟩ K hK
        obtain ⟨t, h69, h70⟩ := (show ∃ t : Sm, f 69 = .tuple #[smv t, .int .i64 (k1 : Int), .int .i64 e1] ∧ f 70 = smv t from h70)
        have H69 : Hid (f 69 = _) := h69
        clear h69
        obtain ⟨B, h8, hB, _, u0, u1, u2, u3, u4, u5, u6, AB⟩ := hJ.2.2.2.1 (hpn 24 (by simp))
        have q0 := AB.c 0 rfl
        have q1 := AB.c 1 rfl
        have q2 := AB.c 2 rfl
        have q3 := AB.c 3 rfl
        have q4 := AB.c 4 rfl
        have q5 := AB.c 5 rfl
        have q6 := AB.c 6 rfl
        have qf0 := AB.f 0 rfl
        have qf1 := AB.f 1 rfl
        have qf2 := AB.f 2 rfl
        have qf3 := AB.f 3 rfl
        have qf4 := AB.f 4 rfl
        have qf5 := AB.f 5 rfl
        have qf6 := AB.f 6 rfl
        simp only [over, overL, Nat.reduceAdd, h8, h70]
        go_simp
        refine hK _ _ ⟨undef, by simp only [over, overL, Nat.reduceAdd, h8, h70]; rfl, trivial, blw_put7 hb hB t, hJ.store (hpn 19 (by simp)) (hpn 24 (by simp)) ⟨h8, H69.out⟩ hB AB, fun q_ h => m8V_free sb g capA n l.length cap i j k1 ao e1 q_ _ _ _ h⟩
      · intro dn f w1 hdn hpn hb hJ ⟨h71, _⟩ K hK
        replace h71 : f 71 = _ := h71
        simp only [over, overL, Nat.reduceAdd, h71]
        go_simp
        exact hK _ _ ⟨_, by simp only [over, overL, Nat.reduceAdd, h71]; rfl, rfl, hb, hJ.same ⟨by decide, by decide, by decide, by decide, by decide⟩ ⟨updO_other (by decide), updO_other (by decide), updO_other (by decide), updO_other (by decide)⟩ (Below.refl _ _), fun _ h => h⟩
      · intro dn f w1 hdn hpn hb hJ ⟨h72, _⟩ K hK
        replace h72 : f 72 = _ := h72
        simp only [over, overL, Nat.reduceAdd, h72]
        go_simp
        exact hK _ _ ⟨_, by simp only [over, overL, Nat.reduceAdd, h72]; rfl, rfl, hb, hJ.same ⟨by decide, by decide, by decide, by decide, by decide⟩ ⟨updO_other (by decide), updO_other (by decide), updO_other (by decide), updO_other (by decide)⟩ (Below.refl _ _), fun _ h => h⟩
    intro dn f w7 hdn hb7 hJ hv
    obtain ⟨_, t, h69, hst, hin, hhi, hoff⟩ := hJ.2.2.1 (hdn 19 (by simp))
    obtain ⟨_, _, B, t', h8, h69', hK7⟩ := hJ.2.2.2.2 (hdn 25 (by simp))
    have hsm : sml t' = sml t := by
      rw [h69] at h69'
      injection h69' with h69'
      have h9 := congrArg (fun x : Array Value => x[0]?) h69'
      simp only [List.getElem?_toArray, List.getElem?_cons_zero, Option.some.injEq] at h9
      injection h9 with h9
      exact (congrArg Array.toList h9).symm
    rw [hsm] at hK7
    have h10 : f 10 = .int .i64 e1 := hv.2.2.2.2.2.2.2.2.2.2.2.2.2.2.2.2.2.2.2.2.2.2.2.2.2.2.2.1
    have HB7 : Hid (Below wn.heap.size wn w7) := below_on HB5.out hb7
    have KT7 : Hid (Bk B (sml t) w7) := hK7
    have KS7 : Hid (Bk sb (svc ao cap l g capA n e b) w7) := KS5.out.later hb7
    have HE7 : Hid (SmIn w7 e) := HSN.out.e.next HB7.out
    have HT7 : Hid (SmIn w7 t) := hin
    have HST : Hid (t.st = st1) := hst
    clear hJ hv hb7 hdn hst hin hhi hoff hK7 hsm h69 h69'
    simp only [over, overL, Nat.reduceAdd, h8, h10]
    clear h8 h10
    by_cases he1 : e1 = 0
    · subst he1
      have hgo := HGO.out.1 (by rw [HRR.out])
      rw [HRR.out] at hgo
      have HMT : Hid (May l t.st) := by show May _ _; rw [HST.out]; exact hgo.2
      have HGA : Hid (goR l e.st acs i = alikeB t.st e.st) := by show _ = _; rw [HST.out]; exact hgo.1
      have HTL : Hid (t.wl.length ≤ 1000000000) := by have := (may_smlen HD0.out HMT.out).2; show _ ≤ _; omega
      have HTF : Hid (∀ x ∈ t.wl, x.2.2.2.length ≤ 1000) := fun x hx => by have := (F.fref_in ((may_frefs HMT.out).1 x hx)).1; omega
      clear hgo
      go_wp2_with fail
      refine region_inv [false, false, false, false, true, false, false, false, false, false, false, false, false, false, false, false, false, false, false, false, false, false, false, false, false, false, false, false, false, false, false, false, false, false, false, false, false, false, false, false, false, false, false, false, false, false, false, false, false, false, false, false, false, false, false, false, false, false, false, false, false, false, false, false, false, false, false, false, false, false, false, false, false, true, true, true, true, true, true, true, true, true, true]
        [(73, [], none), (74, [73], none), (75, [74], none), (76, [75], some (75, true)), (77, [75], some (75, true)), (78, [75, 77], some (75, true)), (79, [75, 78], some (75, true)), (80, [75, 79], some (75, true)), (81, [75, 76, 80], some (75, true)), (82, [75, 81], none), (4, [82], none)]
        (m9V sb B t e) (by kernel_rfl) (by kernel_rfl) (m9V_mono sb B t e) ?_ ?_
      · refine ⟨?_, ?_, ?_, ?_, ?_, ?_, ?_, ?_, ?_, ?_, ?_, trivial⟩
        · intro f w1 hb _ K hK
          simp only [over, overL, Nat.reduceAdd]
          go_simp
          exact hK _ _ ⟨_, rfl, by simp only [over, overL, Nat.reduceAdd]; rfl, Below.refl _ _⟩
        · intro f w1 hb ⟨h73, _⟩ K hK
          replace h73 : f 73 = _ := h73
          simp only [over, overL, Nat.reduceAdd, h73]
          go_simp
          exact hK _ _ ⟨_, rfl, by simp only [over, overL, Nat.reduceAdd, h73]; rfl, Below.refl _ _⟩
        · intro f w1 hb ⟨h74, _⟩ K hK
          replace h74 : f 74 = _ := h74
          simp only [over, overL, Nat.reduceAdd, h74]
          go_simp
          exact hK _ _ ⟨_, rfl, by simp only [over, overL, Nat.reduceAdd, h74]; rfl, Below.refl _ _⟩
        · intro f w1 hb ⟨h75, _⟩
          replace h75 : f 75 = _ := h75
          refine ⟨fun _ => ?_, fun hg => absurd h75 hg⟩
          intro K hK
          have q0 := (KT7.out.later hb).c 0 rfl
          have q1 := (KT7.out.later hb).c 1 rfl
          have q2 := (KT7.out.later hb).c 2 rfl
          have q3 := (KT7.out.later hb).c 3 rfl
          have q4 := (KT7.out.later hb).c 4 rfl
          have q5 := (KT7.out.later hb).c 5 rfl
          have q6 := (KT7.out.later hb).c 6 rfl
          simp only [over, overL, Nat.reduceAdd, h75]
          go_simp
          exact hK _ _ ⟨_, rfl, by simp only [over, overL, Nat.reduceAdd, h75]; rfl, Below.refl _ _⟩
        · intro f w1 hb ⟨h75, _⟩
          replace h75 : f 75 = _ := h75
          refine ⟨fun _ => ?_, fun hg => absurd h75 hg⟩
          intro K hK
          simp only [over, overL, Nat.reduceAdd, h75]
          go_simp
          exact hK _ _ ⟨_, rfl, by simp only [over, overL, Nat.reduceAdd, h75]; rfl, Below.refl _ _⟩
        · intro f w1 hb ⟨h75, h77, _⟩
          replace h75 : f 75 = _ := h75
          replace h77 : f 77 = _ := h77
          refine ⟨fun _ => ?_, fun hg => absurd h75 hg⟩
          intro K hK
          simp only [over, overL, Nat.reduceAdd, h75, h77]
          go_simp
          exact hK _ _ ⟨_, rfl, by simp only [over, overL, Nat.reduceAdd, h75, h77]; rfl, Below.refl _ _⟩
        · intro f w1 hb ⟨h75, h78, _⟩
          replace h75 : f 75 = _ := h75
          replace h78 : f 78 = _ := h78
          refine ⟨fun _ => ?_, fun hg => absurd h75 hg⟩
          intro K hK
          simp only [over, overL, Nat.reduceAdd, h75, h78]
          go_simp
          exact hK _ _ ⟨_, rfl, by simp only [over, overL, Nat.reduceAdd, h75, h78]; rfl, Below.refl _ _⟩
        · intro f w1 hb ⟨h75, h79, _⟩
          replace h75 : f 75 = _ := h75
          replace h79 : f 79 = _ := h79
          refine ⟨fun _ => ?_, fun hg => absurd h75 hg⟩
          intro K hK
          have q2 := (KS7.out.later hb).c 2 rfl
          have q3 := (KS7.out.later hb).c 3 rfl
          have q4 := (KS7.out.later hb).c 4 rfl
          have q5 := (KS7.out.later hb).c 5 rfl
          have q6 := (KS7.out.later hb).c 6 rfl
          have q7 := (KS7.out.later hb).c 7 rfl
          have q8 := (KS7.out.later hb).c 8 rfl
          simp only [over, overL, Nat.reduceAdd, h75, h79]
          go_simp
          exact hK _ _ ⟨_, rfl, by simp only [over, overL, Nat.reduceAdd, h75, h79]; rfl, Below.refl _ _⟩
        · intro f w1 hb ⟨h75, h76, h80, _⟩
          replace h75 : f 75 = _ := h75
          replace h76 : f 76 = _ := h76
          replace h80 : f 80 = _ := h80
          refine ⟨fun _ => ?_, fun hg => absurd h75 hg⟩
          intro K hK
          simp only [over, overL, Nat.reduceAdd, h75, h76, h80]
          go_simp
          refine (isAlike_any t e w1 (HT7.out.next hb) (HE7.out.next hb) HTL.out HTF.out).mono ?_
          rintro e w2 ⟨rfl, hb2⟩
          exact hK _ _ ⟨_, rfl, by simp only [over, overL, Nat.reduceAdd, h75, h76, h80]; rfl, hb2⟩
        · intro f w1 hb ⟨h75, h81, _⟩ K hK
          replace h75 : f 75 = _ := h75
          replace h81 : f 81 = _ := h81
          simp only [over, overL, Nat.reduceAdd, h75, h81]
          go_simp
          exact hK _ _ ⟨_, rfl, by simp only [over, overL, Nat.reduceAdd, h75, h81]; rfl, Below.refl _ _⟩
        · intro f w1 hb ⟨h82, _⟩ K hK
          replace h82 : f 82 = _ := h82
          simp only [over, overL, Nat.reduceAdd, h82]
          go_simp
          exact hK _ _ ⟨_, rfl, by simp only [over, overL, Nat.reduceAdd, h82]; rfl, Below.refl _ _⟩
      intro f w8 hb8 hv
      have h4 : f 4 = .bool (alikeB t.st e.st) := hv.2.2.2.2.2.2.2.2.2.2.1
      have HB8 : Hid (Below w7.heap.size w7 w8) := hb8
      clear hv hb8
      simp only [over, overL, Nat.reduceAdd, h4]
      clear h4
      go_wp2
      go_ret
      exact ⟨ret_bool (HGA.out.symm), below_on HBN.out (below_on HB7.out HB8.out)⟩
    · have h2 : (e1 == 0) = false := by simp [he1]
      have HGA : Hid (goR l e.st acs i = false) := HGO.out.2 (by rw [HRR.out]; exact he1)
      clear he1
      go_wp2_with fail
      refine region_inv [false, false, false, false, true, false, false, false, false, false, false, false, false, false, false, false, false, false, false, false, false, false, false, false, false, false, false, false, false, false, false, false, false, false, false, false, false, false, false, false, false, false, false, false, false, false, false, false, false, false, false, false, false, false, false, false, false, false, false, false, false, false, false, false, false, false, false, false, false, false, false, false, false, true, true, true, true, true, true, true, true, true, true]
        [(73, [], none), (74, [73], none), (75, [74], none), (76, [75], some (75, true)), (77, [75], some (75, true)), (78, [75, 77], some (75, true)), (79, [75, 78], some (75, true)), (80, [75, 79], some (75, true)), (81, [75, 76, 80], some (75, true)), (82, [75, 81], none), (4, [82], none)]
        (m9W e1) (by kernel_rfl) (by kernel_rfl) (m9W_mono e1) ?_ ?_
      · refine ⟨?_, ?_, ?_, ?_, ?_, ?_, ?_, ?_, ?_, ?_, ?_, trivial⟩
        · intro f w1 hb _ K hK
          simp only [over, overL, Nat.reduceAdd]
          go_simp
          exact hK _ _ ⟨_, rfl, by simp only [over, overL, Nat.reduceAdd]; rfl, Below.refl _ _⟩
        · intro f w1 hb ⟨h73, _⟩ K hK
          replace h73 : f 73 = _ := h73
          simp only [over, overL, Nat.reduceAdd, h73]
          go_simp
          exact hK _ _ ⟨_, rfl, by simp only [over, overL, Nat.reduceAdd, h73]; rfl, Below.refl _ _⟩
        · intro f w1 hb ⟨h74, _⟩ K hK
          replace h74 : f 74 = _ := h74
          simp only [over, overL, Nat.reduceAdd, h74]
          go_simp
          exact hK _ _ ⟨_, rfl, by simp only [over, overL, Nat.reduceAdd, h74]; rfl, Below.refl _ _⟩
        · intro f w1 hb ⟨h75, _⟩
          replace h75 : f 75 = _ := h75
          exact ⟨fun hg => absurd (h75.symm.trans hg) (by simp), fun _ => trivial⟩
        · intro f w1 hb ⟨h75, _⟩
          replace h75 : f 75 = _ := h75
          exact ⟨fun hg => absurd (h75.symm.trans hg) (by simp), fun _ => trivial⟩
        · intro f w1 hb ⟨h75, h77, _⟩
          replace h75 : f 75 = _ := h75
          exact ⟨fun hg => absurd (h75.symm.trans hg) (by simp), fun _ => trivial⟩
        · intro f w1 hb ⟨h75, h78, _⟩
          replace h75 : f 75 = _ := h75
          exact ⟨fun hg => absurd (h75.symm.trans hg) (by simp), fun _ => trivial⟩
        · intro f w1 hb ⟨h75, h79, _⟩
          replace h75 : f 75 = _ := h75
          exact ⟨fun hg => absurd (h75.symm.trans hg) (by simp), fun _ => trivial⟩
        · intro f w1 hb ⟨h75, h76, h80, _⟩
          replace h75 : f 75 = _ := h75
          exact ⟨fun hg => absurd (h75.symm.trans hg) (by simp), fun _ => trivial⟩
        · intro f w1 hb ⟨h75, h81, _⟩ K hK
          replace h75 : f 75 = _ := h75
          simp only [over, overL, Nat.reduceAdd, h75]
          go_simp
          exact hK _ _ ⟨_, rfl, by simp only [over, overL, Nat.reduceAdd, h75]; rfl, Below.refl _ _⟩
        · intro f w1 hb ⟨h82, _⟩ K hK
          replace h82 : f 82 = _ := h82
          simp only [over, overL, Nat.reduceAdd, h82]
          go_simp
          exact hK _ _ ⟨_, rfl, by simp only [over, overL, Nat.reduceAdd, h82]; rfl, Below.refl _ _⟩
      intro f w8 hb8 hv
      have h4 : f 4 = .bool false := hv.2.2.2.2.2.2.2.2.2.2.1
      have HB8 : Hid (Below w7.heap.size w7 w8) := hb8
      clear hv hb8
      simp only [over, overL, Nat.reduceAdd, h4]
      clear h4
      go_wp2
      go_ret
      exact ⟨ret_bool (HGA.out.symm), below_on HBN.out (below_on HB7.out HB8.out)⟩
end Go.Proofs.YtgbnjgenopdmfaaGreat
