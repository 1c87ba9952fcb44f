/- Lists in memory; what appends to them. -/
import Derived.Test.YtanmfhaiahhoeaaQF
import Derived.Test.YtanmfhaiahhoeaaQD
import Derived.OwnWalk
import Derived.Laws.MakeOwn
namespace Go.Proofs.Ytanmfhaiahhoeaa
open Go.RowKit

/-- A point. -/
structure V3 where
  x : Int
  y : Int
  z : Int
abbrev V3.v (p : V3) : Value := v3 p.x p.y p.z
def encI : Enc Int := ⟨3, 1, fun x => [.int .i64 x]⟩
def encP : Enc V3 := ⟨23, 3, fun p => [.int .i64 p.x, .int .i64 p.y, .int .i64 p.z]⟩
theorem goodI : Good encI := ⟨fun _ => rfl, fun x u hu => by simp [encI] at hu; subst hu; rfl⟩
theorem goodP : Good encP := ⟨fun _ => rfl, fun x u hu => by simp [encP] at hu; rcases hu with hu | hu | hu <;> (subst hu; rfl)⟩
theorem infoI : (Try.prog.info? 3).map (fun i => (i.zero, i.size, i.bytes)) = some (some (.int .i64 0), 1, 8) := by kernel_rfl
theorem infoP : (Try.prog.info? 23).map (fun i => (i.zero, i.size, i.bytes)) = some (some (v3 0 0 0), 3, 24) := by kernel_rfl
/-- A made slice, empty, with room. -/
theorem make_roomI (n : Nat) (hn : n ≤ 20000) : ∃ cs : Array Value, cs.size = n ∧ ∀ W : World, (Instr.makeSlice 24 (.int .i64 0) (.int .i64 (n : Int))).run Try.prog W = .ok (.slice (some ⟨W.heap.size, 0, none⟩) 0 n) (W.alloc (.cells cs 3)) := by
  obtain ⟨i0, hi, hz0, hz1, hz2⟩ := info_parts infoI
  refine ⟨madeCells (Value.int .i64 0).cells (n * 1), by simp [size_madeCells], fun W => ?_⟩
  have := run_make (P := Try.prog) W 24 3 i0 (.int .i64 0) Try.underlying24 hi hz0 .i64 .i64 0 n (Int.le_refl _) (by omega) (by rw [hz2]; omega) (by omega)
  rw [hz1] at this
  simpa using this
theorem make_roomP (n : Nat) (hn : n ≤ 20000) : ∃ cs : Array Value, cs.size = n * 3 ∧ ∀ W : World, (Instr.makeSlice 31 (.int .i64 0) (.int .i64 (n : Int))).run Try.prog W = .ok (.slice (some ⟨W.heap.size, 0, none⟩) 0 n) (W.alloc (.cells cs 23)) := by
  obtain ⟨i0, hi, hz0, hz1, hz2⟩ := info_parts infoP
  refine ⟨madeCells (v3 0 0 0).cells (n * 3), by simp [size_madeCells], fun W => ?_⟩
  have := run_make (P := Try.prog) W 31 23 i0 (v3 0 0 0) Try.underlying31 hi hz0 .i64 .i64 0 n (Int.le_refl _) (by omega) (by rw [hz2]; omega) (by omega)
  rw [hz1] at this
  simpa using this
theorem own_other {α : Type} {c : Enc α} {w w1 : World} {G n k : Nat} {xs : List α} {M : Nat → Prop} (h : OwnR c w G (.slice (some ⟨G, 0, none⟩) k n) xs) (hk : Kpt M w w1) (hG : ¬ M G) : OwnR c w1 G (.slice (some ⟨G, 0, none⟩) k n) xs := by
  obtain ⟨q1, q2⟩ := h
  refine ⟨q1, q2.imp id ?_⟩
  rintro ⟨g, cap, cur, e, hg, hh, r⟩
  have eg : g = G := by injection e with e; injection e with e; injection e with e; exact e.symm
  subst eg
  exact ⟨g, cap, cur, e, hg, (hk.block g (Array.getElem?_eq_some_iff.1 hh).1 hG).trans hh, r⟩
theorem bk_add {b : Nat} {cs : List Value} {w : World} (h : Bk b cs w) : ∀ j u, cs[j]? = some u → w.cell? ((⟨b, 0, none⟩ : Addr).add j) = some u := by
  intro j u hj
  have hj2 := (h.2 j u hj).1
  by_cases e : j = 0
  · subst e; simpa [Addr.add] using hj2
  · simpa [Addr.add, e] using hj2
/-- Between two rounds that append. -/
structure ApR {α : Type} (c : Enc α) (w : World) (G T n : Nat) (xs : List α) (k : Nat) (W : World) : Prop where
  box : Bk T [.slice (some ⟨G, 0, none⟩) k n] W
  own : OwnR c W G (.slice (some ⟨G, 0, none⟩) k n) (xs.take k)
  below : Below w.heap.size w W
theorem ApR.kpt {α : Type} {c : Enc α} {w : World} {G T n : Nat} {xs : List α} {k : Nat} {A B : World} {M : Nat → Prop} (h : ApR c w G T n xs k A) (hk : Kpt M A B) (hG : ¬ M G) (hT : ¬ M T) (hM : ∀ k, M k → w.heap.size ≤ k) : ApR c w G T n xs k B :=
  ⟨bk_kpt h.box hk hT, own_other h.own hk hG, Kpt.belowB h.below hk hM⟩
/-- The elements can be read. -/
def Ints (xs : List Int) (G : Nat) (w : World) : Prop := G < w.heap.size ∧ ∀ k (h : k < xs.length), w.cell? ⟨G, k, none⟩ = some (.int .i64 (xs[k]'h))
theorem Ints.later {xs : List Int} {G : Nat} {w w1 : World} (h : Ints xs G w) (hb : Below w.heap.size w w1) : Ints xs G w1 := ⟨Nat.lt_of_lt_of_le h.1 hb.size, fun k hk => cell_later hb (h.2 k hk)⟩
def Pnts (xs : List V3) (G : Nat) (w : World) : Prop := G < w.heap.size ∧ ∀ k (h : k < xs.length), w.cell? ⟨G, k * 3, none⟩ = some (.int .i64 (xs[k]'h).x) ∧ w.cell? ⟨G, k * 3 + 1, none⟩ = some (.int .i64 (xs[k]'h).y) ∧ w.cell? ⟨G, k * 3 + 2, none⟩ = some (.int .i64 (xs[k]'h).z)
theorem Pnts.later {xs : List V3} {G : Nat} {w w1 : World} (h : Pnts xs G w) (hb : Below w.heap.size w w1) : Pnts xs G w1 := ⟨Nat.lt_of_lt_of_le h.1 hb.size, fun k hk => ⟨cell_later hb (h.2 k hk).1, cell_later hb (h.2 k hk).2.1, cell_later hb (h.2 k hk).2.2⟩⟩
theorem ints_of {xs : List Int} {G n B : Nat} {w : World} (hG : G < w.heap.size) (h : OwnR encI w B (.slice (some ⟨G, 0, none⟩) xs.length n) xs) : Ints xs G w := by
  refine ⟨hG, fun k hk => ?_⟩
  rcases h.read goodI with ⟨rfl, _⟩ | ⟨g, cap, e, _, _, _, hc⟩
  · simp at hk
  · have eg : g = G := by injection e with e; injection e with e; injection e with e; exact e.symm
    subst eg
    have := hc k hk 0 (by decide)
    simpa [encI] using this
theorem pnts_of {xs : List V3} {G n B : Nat} {w : World} (hG : G < w.heap.size) (h : OwnR encP w B (.slice (some ⟨G, 0, none⟩) xs.length n) xs) : Pnts xs G w := by
  refine ⟨hG, fun k hk => ?_⟩
  rcases h.read goodP with ⟨rfl, _⟩ | ⟨g, cap, e, _, _, _, hc⟩
  · simp at hk
  · have eg : g = G := by injection e with e; injection e with e; injection e with e; exact e.symm
    subst eg
    have h0 := hc k hk 0 (by decide)
    have h1 := hc k hk 1 (by decide)
    have h2 := hc k hk 2 (by decide)
    exact ⟨by simpa [encP] using h0, by simpa [encP] using h1, by simpa [encP] using h2⟩
set_option linter.unusedVariables false in
def c24V (x y z : Int) (T G B k n : Nat) (d : Nat) (v : Value) (w : World) : Prop :=
  match d with
  | 3 => v = .slice (some ⟨G, 0, none⟩) k n
  | 4 => v = .agg #[.int .i64 x, .int .i64 y, .int .i64 z]
  | 5 => v = .int .i64 (pu x y z)
  | 6 => ∃ b, v = .slice (some ⟨b, 0, none⟩) 1 1 ∧ Bk b [.int .i64 (pu x y z)] w
  | _ => True
set_option linter.unusedVariables false in
theorem c24V_mono (x y z : Int) (T G B k n : Nat) (d : Nat) (v : Value) (w w' : World) (h : c24V x y z T G B k n d v w) (hb : Below w.heap.size w w') : c24V x y z T G B k n d v w' := by
  unfold c24V at h ⊢
  split <;> simp only [] at h <;> first | exact h | (obtain ⟨b, h1, h2⟩ := h; exact ⟨b, h1, h2.later hb⟩)
set_option maxHeartbeats 6400000 in
set_option maxRecDepth 100000 in
theorem clo24 (x y z : Int) (T G n k : Nat) (xs : List Int) (W : World) (hkn : k + 1 ≤ n) (h1 : Bk T [.slice (some ⟨G, 0, none⟩) k n] W) (h2 : OwnR encI W G (.slice (some ⟨G, 0, none⟩) k n) xs) (hl : xs.length = k) (hGT : T ≠ G) :
    Calls Try.prog 24 #[v3 x y z, ptr T] W fun e W' => (∃ v, e = .returned v) ∧ Bk T [.slice (some ⟨G, 0, none⟩) (k + 1) n] W' ∧ OwnR encI W' G (.slice (some ⟨G, 0, none⟩) (k + 1) n) (xs ++ [pu x y z]) ∧ Kpt (fun q => q = G ∨ q = T) W W' := by
  have HCL : Hid (∀ W, Calls Try.prog 25 #[v3 x y z] W fun e w' => e = .returned (.int .i64 (pu x y z)) ∧ Below W.heap.size W w') := pulseOf_any x y z
  obtain ⟨i0, hi, hz0, hz1, hz2⟩ := info_parts infoI
  have HI0 : Hid (Try.prog.info? 3 = some i0) := hi
  have HI1 : Hid (i0.size = 1) := hz1
  have HL : Hid (xs.length = k) := hl
  have hb0 : Below W.heap.size W (W.alloc (o3 x y z 49)) := (Below.refl _ _).alloc (Nat.le_refl _) _
  have hT : T < W.heap.size := h1.1
  clear hz0 hz1 hz2 hi hl
  go_enter Try.func24, Try.ntmps24
  go_wp2_with fail
  obtain ⟨B, hB⟩ : ∃ B, B = W.heap.size := ⟨_, rfl⟩
  obtain ⟨w0, hw0⟩ : ∃ w0, w0 = W.alloc (o3 x y z 49) := ⟨_, rfl⟩
  have KT : Hid (Bk T [.slice (some ⟨G, 0, none⟩) k n] w0) := by show Bk _ _ _; rw [hw0]; exact h1.later hb0
  have KD : Hid (Bk B [.int .i64 x, .int .i64 y, .int .i64 z] w0) := by show Bk _ _ _; rw [hw0, hB]; exact Bk.new W [.int .i64 x, .int .i64 y, .int .i64 z] 49 _ rfl
  have KO : Hid (OwnR encI w0 G (.slice (some ⟨G, 0, none⟩) k n) xs) := by show OwnR _ _ _ _ _; rw [hw0]; exact h2.later hb0
  have K0 : Hid (Kpt (fun q => q = G ∨ q = T) W w0) := by show Kpt _ _ _; rw [hw0]; exact Kpt.of_below hb0
  simp only [← hB]
  rw [← hw0]
  clear h1 h2 hb0 hw0 hB
  refine region_seq 4 [false, false, false, true, true, true, true, false]
    [(3, [], none), (4, [], none), (5, [4], none), (6, [5], none)]
    (c24V x y z T G B k n) (by kernel_rfl) (by kernel_rfl) (by kernel_rfl) (by kernel_rfl) (by kernel_rfl) (by decide) (c24V_mono x y z T G B k n) ?_ ?_
  · refine ⟨?_, ?_, ?_, ?_, trivial⟩
    · intro f w1 hb _ K hK
      have q0 := (KT.out.later hb).c 0 rfl
      simp only [over, overL, Nat.reduceAdd]
      go_simp
      exact hK _ _ ⟨_, rfl, by simp only [over, overL, Nat.reduceAdd]; rfl, Below.refl _ _⟩
    · intro f w1 hb _ K hK
      have q0 := (KD.out.later hb).c 0 rfl
      have q1 := (KD.out.later hb).c 1 rfl
      have q2 := (KD.out.later hb).c 2 rfl
      simp only [over, overL, Nat.reduceAdd]
      go_simp
      exact hK _ _ ⟨_, rfl, by simp only [over, overL, Nat.reduceAdd]; rfl, Below.refl _ _⟩
    · intro f w1 hb ⟨h4, _⟩ K hK
      replace h4 : f 4 = _ := h4
      simp only [over, overL, Nat.reduceAdd, h4]
      go_simp
      refine (HCL.out w1).mono ?_
      rintro e w2 ⟨rfl, hb2⟩
      exact hK _ _ ⟨_, rfl, by simp only [over, overL, Nat.reduceAdd, h4]; rfl, hb2⟩
    · intro f w1 hb ⟨h5, _⟩ K hK
      replace h5 : f 5 = _ := h5
      simp only [over, overL, Nat.reduceAdd, h5]
      go_simp
      exact hK _ _ ⟨_, ⟨_, rfl, Bk.new w1 [.int .i64 (pu x y z)] 3 _ rfl⟩, by simp only [over, overL, Nat.reduceAdd, h5]; rfl, (Below.refl _ _).alloc (Nat.le_refl _) _⟩
  intro f w1 hb hv
  have h3 : f 3 = .slice (some ⟨G, 0, none⟩) k n := hv.1
  obtain ⟨b, h6, hbb⟩ := (show ∃ b, f 6 = .slice (some ⟨b, 0, none⟩) 1 1 ∧ Bk b [.int .i64 (pu x y z)] w1 from hv.2.2.2.1)
  have HBB : Hid (Bk b [.int .i64 (pu x y z)] w1) := hbb
  have KT1 : Hid (Bk T [.slice (some ⟨G, 0, none⟩) k n] w1) := KT.out.later hb
  have KO1 : Hid (OwnR encI w1 G (.slice (some ⟨G, 0, none⟩) k n) xs) := KO.out.later hb
  have K1 : Hid (Kpt (fun q => q = G ∨ q = T) W w1) := K0.out.trans (Kpt.of_below hb)
  have HNE : Hid (T ≠ G) := hGT
  simp only [over_eq, overL, h3, h6, Nat.reduceAdd, List.drop_succ_cons, List.drop_zero]
  clear hv h3 h6 hbb hb hGT hT
  refine wpList_append_fits _ rfl _ _ 24 rfl G 3 i0 1 Try.underlying24 HI0.out HI1.out G k n (encI.cells xs) rfl (by have := KO1.out; unfold OwnR at this; rw [HL.out] at this; exact this) ⟨b, 0, none⟩ 1 1 [.int .i64 (pu x y z)] rfl rfl (bk_add HBB.out) (by simp [Value.oneCell']) hkn ?_
  intro w4 ho hg
  have hbx : Bk T [.slice (some ⟨G, 0, none⟩) k n] w4 := KT1.out.same hg.size (hg.block _ KT1.out.1 (fun e => by injection e with e; exact HNE.out e))
  have e0 := hbx.c 0 rfl
  have ef0 := hbx.f 0 rfl
  have HO := (show Hid _ from ho)
  have HG := (show Hid _ from hg)
  have HBX := (show Hid _ from hbx)
  clear ho hg hbx
  go_wp2
  have ho := HO.out
  have hg := HG.out
  have hbx := HBX.out
  have k1 : Kpt (fun q => q = G ∨ q = T) W w4 := K1.out.trans (Kpt.grown hg fun q e => .inl (by injection e with e; exact e.symm))
  have k2 : Kpt (fun q => q = G ∨ q = T) W (w4.setCell ⟨T, 0, none⟩ (.slice (some ⟨G, 0, none⟩) (k + 1) n)) := k1.trans (Kpt.setCell _ _ _ _ (.inr rfl))
  have ho2 : OwnR encI w4 G (.slice (some ⟨G, 0, none⟩) (k + 1) n) (xs ++ [pu x y z]) := by
    unfold OwnR
    rw [cells_append, List.length_append, HL.out]
    exact ho
  refine bodyPost_end (v := .tuple #[]) (by simp [results, Try.results24, go_sem]) rfl ⟨⟨_, rfl⟩, Bk.put (cs := [.slice (some ⟨G, 0, none⟩) k n]) hbx 0 _, own_other ho2 (Kpt.setCell (M := fun q => q = T) _ _ _ _ rfl) (fun e => HNE.out e.symm), k2⟩
set_option linter.unusedVariables false in
def c30V (x y z : Int) (T G B k n : Nat) (d : Nat) (v : Value) (w : World) : Prop :=
  match d with
  | 3 => v = .slice (some ⟨G, 0, none⟩) k n
  | 4 => v = .agg #[.int .i64 x, .int .i64 y, .int .i64 z]
  | 5 => v = v3 x y z
  | 6 => ∃ b, v = .slice (some ⟨b, 0, none⟩) 1 1 ∧ Bk b [.int .i64 x, .int .i64 y, .int .i64 z] w
  | _ => True
set_option linter.unusedVariables false in
theorem c30V_mono (x y z : Int) (T G B k n : Nat) (d : Nat) (v : Value) (w w' : World) (h : c30V x y z T G B k n d v w) (hb : Below w.heap.size w w') : c30V x y z T G B k n d v w' := by
  unfold c30V at h ⊢
  split <;> simp only [] at h <;> first | exact h | (obtain ⟨b, h1, h2⟩ := h; exact ⟨b, h1, h2.later hb⟩)
set_option maxHeartbeats 6400000 in
set_option maxRecDepth 100000 in
theorem clo30 (x y z : Int) (T G n k : Nat) (xs : List V3) (W : World) (hkn : k + 1 ≤ n) (h1 : Bk T [.slice (some ⟨G, 0, none⟩) k n] W) (h2 : OwnR encP W G (.slice (some ⟨G, 0, none⟩) k n) xs) (hl : xs.length = k) (hGT : T ≠ G) :
    Calls Try.prog 30 #[v3 x y z, ptr T] W fun e W' => (∃ v, e = .returned v) ∧ Bk T [.slice (some ⟨G, 0, none⟩) (k + 1) n] W' ∧ OwnR encP W' G (.slice (some ⟨G, 0, none⟩) (k + 1) n) (xs ++ [⟨x, y, z⟩]) ∧ Kpt (fun q => q = G ∨ q = T) W W' := by
  have HCL : Hid (∀ W, Calls Try.prog 29 #[v3 x y z] W fun e w' => e = .returned (v3 x y z) ∧ Below W.heap.size W w') := fun W => (pointOf_any x y z W).mono fun e w' ⟨h1, h2⟩ => ⟨h1, h2 ▸ two_new _ _ _⟩
  obtain ⟨i0, hi, hz0, hz1, hz2⟩ := info_parts infoP
  have HI0 : Hid (Try.prog.info? 23 = some i0) := hi
  have HI1 : Hid (i0.size = 3) := hz1
  have HL : Hid (xs.length = k) := hl
  have hb0 : Below W.heap.size W (W.alloc (o3 x y z 49)) := (Below.refl _ _).alloc (Nat.le_refl _) _
  have hT : T < W.heap.size := h1.1
  clear hz0 hz1 hz2 hi hl
  go_enter Try.func30, Try.ntmps30
  go_wp2_with fail
  obtain ⟨B, hB⟩ : ∃ B, B = W.heap.size := ⟨_, rfl⟩
  obtain ⟨w0, hw0⟩ : ∃ w0, w0 = W.alloc (o3 x y z 49) := ⟨_, rfl⟩
  have KT : Hid (Bk T [.slice (some ⟨G, 0, none⟩) k n] w0) := by show Bk _ _ _; rw [hw0]; exact h1.later hb0
  have KD : Hid (Bk B [.int .i64 x, .int .i64 y, .int .i64 z] w0) := by show Bk _ _ _; rw [hw0, hB]; exact Bk.new W [.int .i64 x, .int .i64 y, .int .i64 z] 49 _ rfl
  have KO : Hid (OwnR encP w0 G (.slice (some ⟨G, 0, none⟩) k n) xs) := by show OwnR _ _ _ _ _; rw [hw0]; exact h2.later hb0
  have K0 : Hid (Kpt (fun q => q = G ∨ q = T) W w0) := by show Kpt _ _ _; rw [hw0]; exact Kpt.of_below hb0
  simp only [← hB]
  rw [← hw0]
  clear h1 h2 hb0 hw0 hB
  refine region_seq 4 [false, false, false, true, true, true, true, false]
    [(3, [], none), (4, [], none), (5, [4], none), (6, [5], none)]
    (c30V x y z T G B k n) (by kernel_rfl) (by kernel_rfl) (by kernel_rfl) (by kernel_rfl) (by kernel_rfl) (by decide) (c30V_mono x y z T G B k n) ?_ ?_
  · refine ⟨?_, ?_, ?_, ?_, trivial⟩
    · intro f w1 hb _ K hK
      have q0 := (KT.out.later hb).c 0 rfl
      simp only [over, overL, Nat.reduceAdd]
      go_simp
      exact hK _ _ ⟨_, rfl, by simp only [over, overL, Nat.reduceAdd]; rfl, Below.refl _ _⟩
    · intro f w1 hb _ K hK
      have q0 := (KD.out.later hb).c 0 rfl
      have q1 := (KD.out.later hb).c 1 rfl
      have q2 := (KD.out.later hb).c 2 rfl
      simp only [over, overL, Nat.reduceAdd]
      go_simp
      exact hK _ _ ⟨_, rfl, by simp only [over, overL, Nat.reduceAdd]; rfl, Below.refl _ _⟩
    · intro f w1 hb ⟨h4, _⟩ K hK
      replace h4 : f 4 = _ := h4
      simp only [over, overL, Nat.reduceAdd, h4]
      go_simp
      refine (HCL.out w1).mono ?_
      rintro e w2 ⟨rfl, hb2⟩
      exact hK _ _ ⟨_, rfl, by simp only [over, overL, Nat.reduceAdd, h4]; rfl, hb2⟩
    · intro f w1 hb ⟨h5, _⟩ K hK
      replace h5 : f 5 = _ := h5
      simp only [over, overL, Nat.reduceAdd, h5]
      go_simp
      exact hK _ _ ⟨_, ⟨_, rfl, Bk.new w1 [.int .i64 x, .int .i64 y, .int .i64 z] 23 _ rfl⟩, by simp only [over, overL, Nat.reduceAdd, h5]; rfl, (Below.refl _ _).alloc (Nat.le_refl _) _⟩
  intro f w1 hb hv
  have h3 : f 3 = .slice (some ⟨G, 0, none⟩) k n := hv.1
  obtain ⟨b, h6, hbb⟩ := (show ∃ b, f 6 = .slice (some ⟨b, 0, none⟩) 1 1 ∧ Bk b [.int .i64 x, .int .i64 y, .int .i64 z] w1 from hv.2.2.2.1)
  have HBB : Hid (Bk b [.int .i64 x, .int .i64 y, .int .i64 z] w1) := hbb
  have KT1 : Hid (Bk T [.slice (some ⟨G, 0, none⟩) k n] w1) := KT.out.later hb
  have KO1 : Hid (OwnR encP w1 G (.slice (some ⟨G, 0, none⟩) k n) xs) := KO.out.later hb
  have K1 : Hid (Kpt (fun q => q = G ∨ q = T) W w1) := K0.out.trans (Kpt.of_below hb)
  have HNE : Hid (T ≠ G) := hGT
  simp only [over_eq, overL, h3, h6, Nat.reduceAdd, List.drop_succ_cons, List.drop_zero]
  clear hv h3 h6 hbb hb hGT hT
  refine wpList_append_fits _ rfl _ _ 31 rfl G 23 i0 3 Try.underlying31 HI0.out HI1.out G k n (encP.cells xs) rfl (by have := KO1.out; unfold OwnR at this; rw [HL.out] at this; exact this) ⟨b, 0, none⟩ 1 1 [.int .i64 x, .int .i64 y, .int .i64 z] rfl rfl (bk_add HBB.out) (by simp [Value.oneCell']) hkn ?_
  intro w4 ho hg
  have hbx : Bk T [.slice (some ⟨G, 0, none⟩) k n] w4 := KT1.out.same hg.size (hg.block _ KT1.out.1 (fun e => by injection e with e; exact HNE.out e))
  have e0 := hbx.c 0 rfl
  have ef0 := hbx.f 0 rfl
  have HO := (show Hid _ from ho)
  have HG := (show Hid _ from hg)
  have HBX := (show Hid _ from hbx)
  clear ho hg hbx
  go_wp2
  have ho := HO.out
  have hg := HG.out
  have hbx := HBX.out
  have k1 : Kpt (fun q => q = G ∨ q = T) W w4 := K1.out.trans (Kpt.grown hg fun q e => .inl (by injection e with e; exact e.symm))
  have k2 : Kpt (fun q => q = G ∨ q = T) W (w4.setCell ⟨T, 0, none⟩ (.slice (some ⟨G, 0, none⟩) (k + 1) n)) := k1.trans (Kpt.setCell _ _ _ _ (.inr rfl))
  have ho2 : OwnR encP w4 G (.slice (some ⟨G, 0, none⟩) (k + 1) n) (xs ++ [⟨x, y, z⟩]) := by
    unfold OwnR
    rw [cells_append, List.length_append, HL.out]
    exact ho
  refine bodyPost_end (v := .tuple #[]) (by simp [results, Try.results30, go_sem]) rfl ⟨⟨_, rfl⟩, Bk.put (cs := [.slice (some ⟨G, 0, none⟩) k n]) hbx 0 _, own_other ho2 (Kpt.setCell (M := fun q => q = T) _ _ _ _ rfl) (fun e => HNE.out e.symm), k2⟩
set_option linter.unusedVariables false in
def c31V (x y z : Int) (T G B k n : Nat) (d : Nat) (v : Value) (w : World) : Prop :=
  match d with
  | 3 => v = .slice (some ⟨G, 0, none⟩) k n
  | 4 => v = .agg #[.int .i64 x, .int .i64 y, .int .i64 z]
  | 5 => v = v3 x y z
  | 6 => ∃ b, v = .slice (some ⟨b, 0, none⟩) 1 1 ∧ Bk b [.int .i64 x, .int .i64 y, .int .i64 z] w
  | _ => True
set_option linter.unusedVariables false in
theorem c31V_mono (x y z : Int) (T G B k n : Nat) (d : Nat) (v : Value) (w w' : World) (h : c31V x y z T G B k n d v w) (hb : Below w.heap.size w w') : c31V x y z T G B k n d v w' := by
  unfold c31V at h ⊢
  split <;> simp only [] at h <;> first | exact h | (obtain ⟨b, h1, h2⟩ := h; exact ⟨b, h1, h2.later hb⟩)
set_option maxHeartbeats 6400000 in
set_option maxRecDepth 100000 in
theorem clo31 (x y z : Int) (T G n k : Nat) (xs : List V3) (W : World) (hkn : k + 1 ≤ n) (h1 : Bk T [.slice (some ⟨G, 0, none⟩) k n] W) (h2 : OwnR encP W G (.slice (some ⟨G, 0, none⟩) k n) xs) (hl : xs.length = k) (hGT : T ≠ G) :
    Calls Try.prog 31 #[v3 x y z, ptr T] W fun e W' => (∃ v, e = .returned v) ∧ Bk T [.slice (some ⟨G, 0, none⟩) (k + 1) n] W' ∧ OwnR encP W' G (.slice (some ⟨G, 0, none⟩) (k + 1) n) (xs ++ [⟨x, y, z⟩]) ∧ Kpt (fun q => q = G ∨ q = T) W W' := by
  have HCL : Hid (∀ W, Calls Try.prog 29 #[v3 x y z] W fun e w' => e = .returned (v3 x y z) ∧ Below W.heap.size W w') := fun W => (pointOf_any x y z W).mono fun e w' ⟨h1, h2⟩ => ⟨h1, h2 ▸ two_new _ _ _⟩
  obtain ⟨i0, hi, hz0, hz1, hz2⟩ := info_parts infoP
  have HI0 : Hid (Try.prog.info? 23 = some i0) := hi
  have HI1 : Hid (i0.size = 3) := hz1
  have HL : Hid (xs.length = k) := hl
  have hb0 : Below W.heap.size W (W.alloc (o3 x y z 49)) := (Below.refl _ _).alloc (Nat.le_refl _) _
  have hT : T < W.heap.size := h1.1
  clear hz0 hz1 hz2 hi hl
  go_enter Try.func31, Try.ntmps31
  go_wp2_with fail
  obtain ⟨B, hB⟩ : ∃ B, B = W.heap.size := ⟨_, rfl⟩
  obtain ⟨w0, hw0⟩ : ∃ w0, w0 = W.alloc (o3 x y z 49) := ⟨_, rfl⟩
  have KT : Hid (Bk T [.slice (some ⟨G, 0, none⟩) k n] w0) := by show Bk _ _ _; rw [hw0]; exact h1.later hb0
  have KD : Hid (Bk B [.int .i64 x, .int .i64 y, .int .i64 z] w0) := by show Bk _ _ _; rw [hw0, hB]; exact Bk.new W [.int .i64 x, .int .i64 y, .int .i64 z] 49 _ rfl
  have KO : Hid (OwnR encP w0 G (.slice (some ⟨G, 0, none⟩) k n) xs) := by show OwnR _ _ _ _ _; rw [hw0]; exact h2.later hb0
  have K0 : Hid (Kpt (fun q => q = G ∨ q = T) W w0) := by show Kpt _ _ _; rw [hw0]; exact Kpt.of_below hb0
  simp only [← hB]
  rw [← hw0]
  clear h1 h2 hb0 hw0 hB
  refine region_seq 4 [false, false, false, true, true, true, true, false]
    [(3, [], none), (4, [], none), (5, [4], none), (6, [5], none)]
    (c31V x y z T G B k n) (by kernel_rfl) (by kernel_rfl) (by kernel_rfl) (by kernel_rfl) (by kernel_rfl) (by decide) (c31V_mono x y z T G B k n) ?_ ?_
  · refine ⟨?_, ?_, ?_, ?_, trivial⟩
    · intro f w1 hb _ K hK
      have q0 := (KT.out.later hb).c 0 rfl
      simp only [over, overL, Nat.reduceAdd]
      go_simp
      exact hK _ _ ⟨_, rfl, by simp only [over, overL, Nat.reduceAdd]; rfl, Below.refl _ _⟩
    · intro f w1 hb _ K hK
      have q0 := (KD.out.later hb).c 0 rfl
      have q1 := (KD.out.later hb).c 1 rfl
      have q2 := (KD.out.later hb).c 2 rfl
      simp only [over, overL, Nat.reduceAdd]
      go_simp
      exact hK _ _ ⟨_, rfl, by simp only [over, overL, Nat.reduceAdd]; rfl, Below.refl _ _⟩
    · intro f w1 hb ⟨h4, _⟩ K hK
      replace h4 : f 4 = _ := h4
      simp only [over, overL, Nat.reduceAdd, h4]
      go_simp
      refine (HCL.out w1).mono ?_
      rintro e w2 ⟨rfl, hb2⟩
      exact hK _ _ ⟨_, rfl, by simp only [over, overL, Nat.reduceAdd, h4]; rfl, hb2⟩
    · intro f w1 hb ⟨h5, _⟩ K hK
      replace h5 : f 5 = _ := h5
      simp only [over, overL, Nat.reduceAdd, h5]
      go_simp
      exact hK _ _ ⟨_, ⟨_, rfl, Bk.new w1 [.int .i64 x, .int .i64 y, .int .i64 z] 23 _ rfl⟩, by simp only [over, overL, Nat.reduceAdd, h5]; rfl, (Below.refl _ _).alloc (Nat.le_refl _) _⟩
  intro f w1 hb hv
  have h3 : f 3 = .slice (some ⟨G, 0, none⟩) k n := hv.1
  obtain ⟨b, h6, hbb⟩ := (show ∃ b, f 6 = .slice (some ⟨b, 0, none⟩) 1 1 ∧ Bk b [.int .i64 x, .int .i64 y, .int .i64 z] w1 from hv.2.2.2.1)
  have HBB : Hid (Bk b [.int .i64 x, .int .i64 y, .int .i64 z] w1) := hbb
  have KT1 : Hid (Bk T [.slice (some ⟨G, 0, none⟩) k n] w1) := KT.out.later hb
  have KO1 : Hid (OwnR encP w1 G (.slice (some ⟨G, 0, none⟩) k n) xs) := KO.out.later hb
  have K1 : Hid (Kpt (fun q => q = G ∨ q = T) W w1) := K0.out.trans (Kpt.of_below hb)
  have HNE : Hid (T ≠ G) := hGT
  simp only [over_eq, overL, h3, h6, Nat.reduceAdd, List.drop_succ_cons, List.drop_zero]
  clear hv h3 h6 hbb hb hGT hT
  refine wpList_append_fits _ rfl _ _ 31 rfl G 23 i0 3 Try.underlying31 HI0.out HI1.out G k n (encP.cells xs) rfl (by have := KO1.out; unfold OwnR at this; rw [HL.out] at this; exact this) ⟨b, 0, none⟩ 1 1 [.int .i64 x, .int .i64 y, .int .i64 z] rfl rfl (bk_add HBB.out) (by simp [Value.oneCell']) hkn ?_
  intro w4 ho hg
  have hbx : Bk T [.slice (some ⟨G, 0, none⟩) k n] w4 := KT1.out.same hg.size (hg.block _ KT1.out.1 (fun e => by injection e with e; exact HNE.out e))
  have e0 := hbx.c 0 rfl
  have ef0 := hbx.f 0 rfl
  have HO := (show Hid _ from ho)
  have HG := (show Hid _ from hg)
  have HBX := (show Hid _ from hbx)
  clear ho hg hbx
  go_wp2
  have ho := HO.out
  have hg := HG.out
  have hbx := HBX.out
  have k1 : Kpt (fun q => q = G ∨ q = T) W w4 := K1.out.trans (Kpt.grown hg fun q e => .inl (by injection e with e; exact e.symm))
  have k2 : Kpt (fun q => q = G ∨ q = T) W (w4.setCell ⟨T, 0, none⟩ (.slice (some ⟨G, 0, none⟩) (k + 1) n)) := k1.trans (Kpt.setCell _ _ _ _ (.inr rfl))
  have ho2 : OwnR encP w4 G (.slice (some ⟨G, 0, none⟩) (k + 1) n) (xs ++ [⟨x, y, z⟩]) := by
    unfold OwnR
    rw [cells_append, List.length_append, HL.out]
    exact ho
  refine bodyPost_end (v := .tuple #[]) (by simp [results, Try.results31, go_sem]) rfl ⟨⟨_, rfl⟩, Bk.put (cs := [.slice (some ⟨G, 0, none⟩) k n]) hbx 0 _, own_other ho2 (Kpt.setCell (M := fun q => q = T) _ _ _ _ rfl) (fun e => HNE.out e.symm), k2⟩
end Go.Proofs.Ytanmfhaiahhoeaa
