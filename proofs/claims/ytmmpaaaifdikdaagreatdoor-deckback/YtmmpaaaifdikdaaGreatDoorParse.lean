/- ware.parse walked: the state of its memory; the ways out ahead of its loop. -/
import Derived.Test.YtmmpaaaifdikdaaGreatDoorShow
import Derived.Test.YtmmpaaaifdikdaaGreatDoorSeq
namespace Go.Proofs.YtmmpaaaifdikdaaGreatDoor
open Go.RowKit Go.Shelf

/-- The memory of parse: the result's box R, the ware's box B with its cells cs, the words in hw, the ten pointers in b. -/
structure PSt (R B hw b : Nat) (ws : List ByteArray) (cs : List Value) (w : World) : Prop where
  len : cs.length = 12
  res : ∀ j, j < 12 → ∃ u, w.cell? ⟨R, j, none⟩ = some u
  resf : ∀ j, j < 12 → w.frozen? ⟨R, j, none⟩ = false
  box : ∀ j u, cs[j]? = some u → w.cell? ⟨B, j, none⟩ = some u
  boxf : ∀ j, j < 12 → w.frozen? ⟨B, j, none⟩ = false
  wrd : ∀ (j : Nat) x, ws[j]? = some x → w.cell? ⟨hw, j, none⟩ = some (.string x)
  ptr : ∀ j, j < 10 → w.cell? ⟨b, j, none⟩ = some (.pointer (some ⟨B, j + 2, none⟩))
  kw : KW w
  rb : R ≠ B
  hb : hw ≠ B
  bb : b ≠ B
  b0 : B ≠ 0
  rlt : R < w.heap.size
  blt : B < w.heap.size
theorem PSt.later {R B hw b : Nat} {ws : List ByteArray} {cs : List Value} {w w' : World} (h : PSt R B hw b ws cs w) (hbw : Below w.heap.size w w') : PSt R B hw b ws cs w' where
  len := h.len
  res := fun j hj => (h.res j hj).imp fun _ hu => cell_later hbw hu
  resf := fun j hj => (hbw.frozen (p := ⟨R, j, none⟩) h.rlt).trans (h.resf j hj)
  box := fun j u hu => cell_later hbw (h.box j u hu)
  boxf := fun j hj => (hbw.frozen (p := ⟨B, j, none⟩) h.blt).trans (h.boxf j hj)
  wrd := fun j x hx => cell_later hbw (h.wrd j x hx)
  ptr := fun j hj => cell_later hbw (h.ptr j hj)
  kw := h.kw.later hbw
  rb := h.rb
  hb := h.hb
  bb := h.bb
  b0 := h.b0
  rlt := Nat.lt_of_lt_of_le h.rlt hbw.size
  blt := Nat.lt_of_lt_of_le h.blt hbw.size
theorem other_set {w : World} {B g j i : Nat} {u v : Value} (hne : g ≠ B) (h : w.cell? ⟨g, i, none⟩ = some u) : (w.setCell ⟨B, j, none⟩ v).cell? ⟨g, i, none⟩ = some u :=
  (World.cell?_setCell_other _ _ _ _ (fun e => hne (congrArg Addr.block e).symm)).trans h
theorem PSt.set {R B hw b : Nat} {ws : List ByteArray} {cs : List Value} {w : World} (h : PSt R B hw b ws cs w) {j : Nat} (hj : j < 12) (v : Value) : PSt R B hw b ws (cs.set j v) (w.setCell ⟨B, j, none⟩ v) where
  len := by rw [List.length_set]; exact h.len
  res := fun i hi => (h.res i hi).imp fun _ hu => other_set h.rb hu
  resf := fun i hi => (World.frozen?_setCell _ _ _ _).trans (h.resf i hi)
  box := fun i u hu => by
    by_cases e : j = i
    · subst e
      have hl : j < cs.length := by rw [h.len]; exact hj
      rw [List.getElem?_set_self hl] at hu
      obtain rfl := Option.some.inj hu
      exact World.cell?_setCell_same _ _ _ (h.box j cs[j] (by simp))
    · rw [List.getElem?_set_ne e] at hu
      exact (World.cell?_setCell_other _ _ _ _ (fun h2 => e (congrArg Addr.off h2))).trans (h.box i u hu)
  boxf := fun i hi => (World.frozen?_setCell _ _ _ _).trans (h.boxf i hi)
  wrd := fun i x hx => other_set h.hb (h.wrd i x hx)
  ptr := fun i hi => other_set h.bb (h.ptr i hi)
  kw := fun k l hk => other_set (fun e => h.b0 e.symm) (h.kw k l hk)
  rb := h.rb
  hb := h.hb
  bb := h.bb
  b0 := h.b0
  rlt := by simpa [World.setCell] using h.rlt
  blt := by simpa [World.setCell] using h.blt

def par7V (x0 x1 : ByteArray) (hw n cap : Nat) (d : Nat) (v : Value) (_ : World) : Prop :=
  match d with
  | 25 => v = .slice (some ⟨hw, 0, none⟩) n cap
  | 26 => v = .pointer (some ⟨hw, 0, none⟩)
  | 27 => v = .string x0
  | 28 => v = .slice (some ⟨hw, 0, none⟩) n cap
  | 29 => v = .pointer (some ⟨hw, 1, none⟩)
  | 30 => v = .string x1
  | 31 => v = .int .i64 (kindN x1.data.toList)
  | _ => True

/-- The words that a text is split into. -/
def wordsB (s : ByteArray) : List ByteArray := Lib.splitB ⟨#[32]⟩ 0 (min 13 (s.size + 1) - 1) s

theorem wordsB_le (s : ByteArray) : (wordsB s).length ≤ min 13 (s.size + 1) := by
  have := Lib.splitB_length_le ⟨#[32]⟩ 0 (min 13 (s.size + 1) - 1) s
  unfold wordsB
  omega
theorem cellsOf_at {l : List ByteArray} {M j : Nat} {x : ByteArray} (h : l[j]? = some x) : (Lib.cellsOf l M)[j]? = some (.string x) := by
  unfold Lib.cellsOf
  have hl := (List.getElem?_eq_some_iff.1 h).1
  rw [List.getElem?_toArray, List.getElem?_append_left (by simpa using hl), List.getElem?_map, h]; rfl
def zW : Wr := ⟨⟨#[]⟩, 0, 0, 0, 0, 0, 0, 0, 0, 0, 0, 0⟩
abbrev zeroW : List Value := (wcs zW).toList
set_option maxHeartbeats 6400000 in
set_option maxRecDepth 100000 in
theorem parse_len (s : ByteArray) (w : World) (hs : s.size < 4294967281) (hT : Tabs w) (hl : (wordsB s).length ≠ 12) :
    Calls Tryz.prog 99 #[.string s] w fun e w' => ∃ g : Wr, e = .returned (.tuple #[wv g, .bool false]) ∧ Below w.heap.size w w' := by
  have HT : Hid (Tabs w) := hT
  clear hT
  go_enter Tryz.func99, Tryz.ntmps99
  go_wp2_with fail
  refine (numbers_any _ _).mono ?_
  rintro e w1 ⟨vp, rfl, ⟨b, rfl, hptr⟩, hb1⟩
  have hB1 : Below w.heap.size w w1 := (((Below.refl _ _).alloc (Nat.le_refl _) _).alloc (by simp) _).trans (hb1.mono (by simp; omega))
  obtain ⟨m, hm⟩ := (HT.out.next hB1).most
  have hP1 : ∀ (ws : List ByteArray) (o : Obj), (∀ (j : Nat) x, ws[j]? = some x → (w1.alloc o).cell? ⟨w1.heap.size, j, none⟩ = some (.string x)) → PSt w.heap.size (w.heap.size + 1) w1.heap.size b ws zeroW (w1.alloc o) := fun ws o hw => by
    have hlt : w.heap.size + 1 + 1 ≤ w1.heap.size := by have := hb1.size; simp at this; omega
    have al : Below w1.heap.size w1 (w1.alloc o) := (Below.refl _ _).alloc (Nat.le_refl _) _
    have hbb : b ≠ w.heap.size + 1 := fun e => by
      have h1 := hptr 0 (by decide)
      rw [e] at h1
      have h2 : w1.cell? ⟨w.heap.size + 1, 0, none⟩ = some (.string ⟨#[]⟩) := cell_later hb1 (by go_simp)
      rw [h1] at h2; cases h2
    refine ⟨rfl, fun j hj => ?_, fun j hj => ?_, fun j u hu => ?_, fun j hj => ?_, hw, fun j hj => cell_later al (hptr j hj), ((HT.out.next hB1).kw).later al, by omega, by omega, hbb, by omega, by simp; omega, by simp; omega⟩
    · rcases (show j = 0 ∨ j = 1 ∨ j = 2 ∨ j = 3 ∨ j = 4 ∨ j = 5 ∨ j = 6 ∨ j = 7 ∨ j = 8 ∨ j = 9 ∨ j = 10 ∨ j = 11 by omega) with e | e | e | e | e | e | e | e | e | e | e | e
      · exact ⟨.string ⟨#[]⟩, cell_later al (cell_later hb1 (by subst e; go_simp))⟩
      all_goals exact ⟨.int .i64 0, cell_later al (cell_later hb1 (by subst e; go_simp))⟩
    · refine ((al.frozen (p := ⟨w.heap.size, j, none⟩) (by show w.heap.size < _; omega)).trans (hb1.frozen (p := ⟨w.heap.size, j, none⟩) (by simp; omega))).trans ?_
      rcases (show j = 0 ∨ j = 1 ∨ j = 2 ∨ j = 3 ∨ j = 4 ∨ j = 5 ∨ j = 6 ∨ j = 7 ∨ j = 8 ∨ j = 9 ∨ j = 10 ∨ j = 11 by omega) with e | e | e | e | e | e | e | e | e | e | e | e
      all_goals (subst e; go_simp)
    · have hj : j < 12 := (List.getElem?_eq_some_iff.1 hu).1
      rcases (show j = 0 ∨ j = 1 ∨ j = 2 ∨ j = 3 ∨ j = 4 ∨ j = 5 ∨ j = 6 ∨ j = 7 ∨ j = 8 ∨ j = 9 ∨ j = 10 ∨ j = 11 by omega) with e | e | e | e | e | e | e | e | e | e | e | e
      all_goals (subst e; simp [zW] at hu; subst hu; exact cell_later al (cell_later hb1 (by go_simp)))
    · refine ((al.frozen (p := ⟨w.heap.size + 1, j, none⟩) (by show w.heap.size + 1 < _; omega)).trans (hb1.frozen (p := ⟨w.heap.size + 1, j, none⟩) (by simp))).trans ?_
      rcases (show j = 0 ∨ j = 1 ∨ j = 2 ∨ j = 3 ∨ j = 4 ∨ j = 5 ∨ j = 6 ∨ j = 7 ∨ j = 8 ∨ j = 9 ∨ j = 10 ∨ j = 11 by omega) with e | e | e | e | e | e | e | e | e | e | e | e
      all_goals (subst e; go_simp)
  have HP1 := (show Hid _ from hP1)
  clear hP1 hptr hb1
  go_wp2_with fail
  refine (Tryz.strings_SplitN s ⟨#[32]⟩ 13 m _ hs hm (by decide) (by decide) (by decide)).mono ?_
  rintro e w2 ⟨rfl, hw2⟩
  have hB2 : Below w.heap.size w w2 := by rw [hw2]; exact hB1.alloc hB1.size _
  have hP : PSt w.heap.size (w.heap.size + 1) w1.heap.size b [] (wcs zW).toList w2 := by rw [hw2]; exact HP1.out [] _ (fun j x h => by simp at h)
  clear hw2 HP1
  rw [show Lib.splitB ⟨#[32]⟩ 0 (min 13 (s.size + 1) - 1) s = wordsB s from rfl]
  obtain ⟨n, hn⟩ : ∃ n, n = (wordsB s).length := ⟨_, rfl⟩
  have hne : ((n : Int) != 12) = true := by simp; omega
  rw [← hn]
  clear hn hl
  generalize min 13 (s.size + 1) = cap
  have b0 : w2.cell? ⟨w.heap.size + 1, 0, none⟩ = some (.string zW.name) := hP.box 0 _ rfl
  have b1 : w2.cell? ⟨w.heap.size + 1, 1, none⟩ = some (.int .i64 zW.kind) := hP.box 1 _ rfl
  have b2 : w2.cell? ⟨w.heap.size + 1, 2, none⟩ = some (.int .i64 zW.rows) := hP.box 2 _ rfl
  have b3 : w2.cell? ⟨w.heap.size + 1, 3, none⟩ = some (.int .i64 zW.cols) := hP.box 3 _ rfl
  have b4 : w2.cell? ⟨w.heap.size + 1, 4, none⟩ = some (.int .i64 zW.x) := hP.box 4 _ rfl
  have b5 : w2.cell? ⟨w.heap.size + 1, 5, none⟩ = some (.int .i64 zW.y) := hP.box 5 _ rfl
  have b6 : w2.cell? ⟨w.heap.size + 1, 6, none⟩ = some (.int .i64 zW.pitch) := hP.box 6 _ rfl
  have b7 : w2.cell? ⟨w.heap.size + 1, 7, none⟩ = some (.int .i64 zW.wid) := hP.box 7 _ rfl
  have b8 : w2.cell? ⟨w.heap.size + 1, 8, none⟩ = some (.int .i64 zW.len) := hP.box 8 _ rfl
  have b9 : w2.cell? ⟨w.heap.size + 1, 9, none⟩ = some (.int .i64 zW.hei) := hP.box 9 _ rfl
  have b10 : w2.cell? ⟨w.heap.size + 1, 10, none⟩ = some (.int .i64 zW.deep) := hP.box 10 _ rfl
  have b11 : w2.cell? ⟨w.heap.size + 1, 11, none⟩ = some (.int .i64 zW.cap) := hP.box 11 _ rfl
  obtain ⟨u0, r0⟩ := hP.res 0 (by decide)
  have f0 := hP.resf 0 (by decide)
  obtain ⟨u1, r1⟩ := hP.res 1 (by decide)
  have f1 := hP.resf 1 (by decide)
  obtain ⟨u2, r2⟩ := hP.res 2 (by decide)
  have f2 := hP.resf 2 (by decide)
  obtain ⟨u3, r3⟩ := hP.res 3 (by decide)
  have f3 := hP.resf 3 (by decide)
  obtain ⟨u4, r4⟩ := hP.res 4 (by decide)
  have f4 := hP.resf 4 (by decide)
  obtain ⟨u5, r5⟩ := hP.res 5 (by decide)
  have f5 := hP.resf 5 (by decide)
  obtain ⟨u6, r6⟩ := hP.res 6 (by decide)
  have f6 := hP.resf 6 (by decide)
  obtain ⟨u7, r7⟩ := hP.res 7 (by decide)
  have f7 := hP.resf 7 (by decide)
  obtain ⟨u8, r8⟩ := hP.res 8 (by decide)
  have f8 := hP.resf 8 (by decide)
  obtain ⟨u9, r9⟩ := hP.res 9 (by decide)
  have f9 := hP.resf 9 (by decide)
  obtain ⟨u10, r10⟩ := hP.res 10 (by decide)
  have f10 := hP.resf 10 (by decide)
  obtain ⟨u11, r11⟩ := hP.res 11 (by decide)
  have f11 := hP.resf 11 (by decide)
  have ltR := hP.rlt
  go_wp2
  refine bodyPost_ret (v := .tuple #[wv zW, .bool false]) (by simp [results, Tryz.results99, go_sem, r0, r1, r2, r3, r4, r5, r6, r7, r8, r9, r10, r11]) rfl ⟨zW, rfl, ?_⟩
  exact ((((((((((((hB2.setCell (Nat.le_refl _) _).setCell (Nat.le_refl _) _).setCell (Nat.le_refl _) _).setCell (Nat.le_refl _) _).setCell (Nat.le_refl _) _).setCell (Nat.le_refl _) _).setCell (Nat.le_refl _) _).setCell (Nat.le_refl _) _).setCell (Nat.le_refl _) _).setCell (Nat.le_refl _) _).setCell (Nat.le_refl _) _).setCell (Nat.le_refl _) _)
end Go.Proofs.YtmmpaaaifdikdaaGreatDoor
