/- ware.parse walked: twelve words. -/
import Derived.Test.YtmmpaaaifdikdaaGreatDoorParse
namespace Go.Proofs.YtmmpaaaifdikdaaGreatDoor
open Go.RowKit Go.Shelf

/-- A number of a ware, set. -/
def setN (g : Wr) (k : Nat) (n : Int) : Wr :=
  match k with
  | 0 => { g with rows := n }
  | 1 => { g with cols := n }
  | 2 => { g with x := n }
  | 3 => { g with y := n }
  | 4 => { g with pitch := n }
  | 5 => { g with wid := n }
  | 6 => { g with len := n }
  | 7 => { g with hei := n }
  | 8 => { g with deep := n }
  | 9 => { g with cap := n }
  | _ => g
theorem setN_cells (g : Wr) {k : Nat} (hk : k < 10) (n : Int) : (wcs g).toList.set (k + 2) (.int .i64 n) = (wcs (setN g k n)).toList := by
  rcases (show k = 0 ∨ k = 1 ∨ k = 2 ∨ k = 3 ∨ k = 4 ∨ k = 5 ∨ k = 6 ∨ k = 7 ∨ k = 8 ∨ k = 9 by omega) with e | e | e | e | e | e | e | e | e | e
  all_goals (subst e; rfl)
/-- The first k numbers set as the words tell them. -/
def fillN (g : Wr) (xs : List ByteArray) : Nat → Wr
  | 0 => g
  | k + 1 => setN (fillN g xs k) k (numV ((xs[k]?).getD ⟨#[]⟩).data.toList)
/-- The ware that twelve words tell. -/
def pW (x0 x1 : ByteArray) (xs : List ByteArray) : Wr := fillN ⟨x0, kindN x1.data.toList, 0, 0, 0, 0, 0, 0, 0, 0, 0, 0⟩ xs 10
def pOk (x0 x1 : ByteArray) (xs : List ByteArray) : Bool := lab x0 && !(kindN x1.data.toList == 0) && xs.all fun x => numOk x.data.toList

set_option maxHeartbeats 12800000 in
set_option maxRecDepth 100000 in
theorem parse_12 (s : ByteArray) (w : World) (hs : s.size < 4294967281) (hT : Tabs w) (x0 x1 : ByteArray) (xs : List ByteArray) (hws : wordsB s = x0 :: x1 :: xs) (hx10 : xs.length = 10) (hsz : ∀ x ∈ wordsB s, x.size ≤ maxLen) :
    Calls Tryz.prog 99 #[.string s] w fun e w' => ∃ g : Wr, e = .returned (.tuple #[wv g, .bool (pOk x0 x1 xs)]) ∧ (pOk x0 x1 xs = true → g = pW x0 x1 xs) ∧ Below w.heap.size w w' := by
  have HT : Hid (Tabs w) := hT
  have HX : Hid (xs.length = 10) := hx10
  have HSZ : Hid (∀ x ∈ x0 :: x1 :: xs, x.size ≤ maxLen) := by rw [← hws]; exact hsz
  have H12 : Hid ((wordsB s).length = 12) := show _ = _ by rw [hws]; simp [hx10]
  have HWS : Hid (wordsB s = x0 :: x1 :: xs) := hws
  have hcap : 12 ≤ min 13 (s.size + 1) := by have := wordsB_le s; rw [H12.out] at this; exact this
  clear hT hws hx10 hsz
  go_enter Tryz.func99, Tryz.ntmps99
  go_wp2_with fail
  refine (numbers_any _ _).mono ?_
  rintro e wz ⟨vp, rfl, ⟨b, rfl, hptr⟩, hb1⟩
  have hB1 : Below w.heap.size w wz := (((Below.refl _ _).alloc (Nat.le_refl _) _).alloc (by simp) _).trans (hb1.mono (by simp; omega))
  obtain ⟨m, hm⟩ := (HT.out.next hB1).most
  have hP1 : ∀ (ws : List ByteArray) (o : Obj), (∀ (j : Nat) x, ws[j]? = some x → (wz.alloc o).cell? ⟨wz.heap.size, j, none⟩ = some (.string x)) → PSt w.heap.size (w.heap.size + 1) wz.heap.size b ws zeroW (wz.alloc o) := fun ws o hw => by
    have hlt : w.heap.size + 1 + 1 ≤ wz.heap.size := by have := hb1.size; simp at this; omega
    have al : Below wz.heap.size wz (wz.alloc o) := (Below.refl _ _).alloc (Nat.le_refl _) _
    have hbb : b ≠ w.heap.size + 1 := fun e => by
      have h1 := hptr 0 (by decide)
      rw [e] at h1
      have h2 : wz.cell? ⟨w.heap.size + 1, 0, none⟩ = some (.string ⟨#[]⟩) := cell_later hb1 (by go_simp)
      rw [h1] at h2; cases h2
    refine ⟨rfl, fun j hj => ?_, fun j hj => ?_, fun j u hu => ?_, fun j hj => ?_, hw, fun j hj => cell_later al (hptr j hj), ((HT.out.next hB1).kw).later al, by omega, by omega, hbb, by omega, by simp; omega, by simp; omega⟩
    · rcases (show j = 0 ∨ j = 1 ∨ j = 2 ∨ j = 3 ∨ j = 4 ∨ j = 5 ∨ j = 6 ∨ j = 7 ∨ j = 8 ∨ j = 9 ∨ j = 10 ∨ j = 11 by omega) with e | e | e | e | e | e | e | e | e | e | e | e
      · exact ⟨.string ⟨#[]⟩, cell_later al (cell_later hb1 (by subst e; go_simp))⟩
      all_goals exact ⟨.int .i64 0, cell_later al (cell_later hb1 (by subst e; go_simp))⟩
    · refine ((al.frozen (p := ⟨w.heap.size, j, none⟩) (by show w.heap.size < _; omega)).trans (hb1.frozen (p := ⟨w.heap.size, j, none⟩) (by simp; omega))).trans ?_
      rcases (show j = 0 ∨ j = 1 ∨ j = 2 ∨ j = 3 ∨ j = 4 ∨ j = 5 ∨ j = 6 ∨ j = 7 ∨ j = 8 ∨ j = 9 ∨ j = 10 ∨ j = 11 by omega) with e | e | e | e | e | e | e | e | e | e | e | e
      all_goals (subst e; go_simp)
    · have hj : j < 12 := (List.getElem?_eq_some_iff.1 hu).1
      rcases (show j = 0 ∨ j = 1 ∨ j = 2 ∨ j = 3 ∨ j = 4 ∨ j = 5 ∨ j = 6 ∨ j = 7 ∨ j = 8 ∨ j = 9 ∨ j = 10 ∨ j = 11 by omega) with e | e | e | e | e | e | e | e | e | e | e | e
      all_goals (subst e; simp [zW] at hu; subst hu; exact cell_later al (cell_later hb1 (by go_simp)))
    · refine ((al.frozen (p := ⟨w.heap.size + 1, j, none⟩) (by show w.heap.size + 1 < _; omega)).trans (hb1.frozen (p := ⟨w.heap.size + 1, j, none⟩) (by simp))).trans ?_
      rcases (show j = 0 ∨ j = 1 ∨ j = 2 ∨ j = 3 ∨ j = 4 ∨ j = 5 ∨ j = 6 ∨ j = 7 ∨ j = 8 ∨ j = 9 ∨ j = 10 ∨ j = 11 by omega) with e | e | e | e | e | e | e | e | e | e | e | e
      all_goals (subst e; go_simp)
  have HP1 := (show Hid _ from hP1)
  clear hP1 hptr hb1
  go_wp2_with fail
  refine (Tryz.strings_SplitN s ⟨#[32]⟩ 13 m _ hs hm (by decide) (by decide) (by decide)).mono ?_
  rintro e w2 ⟨rfl, hw2⟩
  have hB2 : Below w.heap.size w w2 := by rw [hw2]; exact hB1.alloc hB1.size _
  have hP : PSt w.heap.size (w.heap.size + 1) wz.heap.size b (x0 :: x1 :: xs) (wcs zW).toList w2 := by
    rw [hw2]
    refine HP1.out _ _ fun j x h => ?_
    rw [World.cell?_alloc_mark]
    refine cellsOf_at ?_
    rw [show Lib.splitB ⟨#[32]⟩ 0 (min 13 (s.size + 1) - 1) s = wordsB s from rfl, HWS.out]
    exact h
  clear hw2 HP1
  rw [show Lib.splitB ⟨#[32]⟩ 0 (min 13 (s.size + 1) - 1) s = wordsB s from rfl, H12.out]
  generalize min 13 (s.size + 1) = cap at *
  generalize wz.heap.size = hw at *
  have i0 : (12 : Int) ≤ (cap : Int) := by omega
  go_wp2_with fail
  refine region_seq 7 [false, false, false, false, false, false, false, false, false, false, false, false, false, false, false, false, false, false, false, false, false, false, false, false, false, true, true, true, true, true, true, true, false, false, false, false, false, false, false, false, false, false, false, false, false, false, false, false, false, false, false, false, false, false, false, false, false, false, false, false, false, false, false, false, false, false, false, false]
    [(25, [], none), (26, [25], none), (27, [26], none), (28, [], none), (29, [28], none), (30, [29], none), (31, [30], none)]
    (par7V x0 x1 hw 12 cap) (by kernel_rfl) (by kernel_rfl) (by kernel_rfl) (by kernel_rfl) (by kernel_rfl) (by decide) (fun _ _ _ _ h _ => h) ?_ ?_
  · refine ⟨?_, ?_, ?_, ?_, ?_, ?_, ?_, trivial⟩
    · intro f wa hb _ K hK
      simp only [over, overL, Nat.reduceAdd]
      go_simp
      exact hK _ _ ⟨_, rfl, by simp only [over, overL, Nat.reduceAdd]; rfl, Below.refl _ _⟩
    · intro f wa hb ⟨h25, _⟩ K hK
      have h25 : f 25 = _ := h25
      simp only [over, overL, Nat.reduceAdd, h25]
      go_simp
      exact hK _ _ ⟨_, rfl, by simp only [over, overL, Nat.reduceAdd, h25]; rfl, Below.refl _ _⟩
    · intro f wa hb ⟨h26, _⟩ K hK
      have h26 : f 26 = _ := h26
      have cl : wa.cell? ⟨hw, 0, none⟩ = some (.string x0) := cell_later hb (hP.wrd 0 x0 rfl)
      simp only [over, overL, Nat.reduceAdd, h26]
      go_simp
      exact hK _ _ ⟨_, rfl, by simp only [over, overL, Nat.reduceAdd, h26]; rfl, Below.refl _ _⟩
    · intro f wa hb _ K hK
      simp only [over, overL, Nat.reduceAdd]
      go_simp
      exact hK _ _ ⟨_, rfl, by simp only [over, overL, Nat.reduceAdd]; rfl, Below.refl _ _⟩
    · intro f wa hb ⟨h28, _⟩ K hK
      have h28 : f 28 = _ := h28
      simp only [over, overL, Nat.reduceAdd, h28]
      go_simp
      exact hK _ _ ⟨_, rfl, by simp only [over, overL, Nat.reduceAdd, h28]; rfl, Below.refl _ _⟩
    · intro f wa hb ⟨h29, _⟩ K hK
      have h29 : f 29 = _ := h29
      have cl : wa.cell? ⟨hw, 1, none⟩ = some (.string x1) := cell_later hb (hP.wrd 1 x1 rfl)
      simp only [over, overL, Nat.reduceAdd, h29]
      go_simp
      exact hK _ _ ⟨_, rfl, by simp only [over, overL, Nat.reduceAdd, h29]; rfl, Below.refl _ _⟩
    · intro f wa hb ⟨h30, _⟩ K hK
      have h30 : f 30 = _ := h30
      have HKW1 : KW wa := hP.kw.later hb
      have hxx : (⟨x1.data.toList.toArray⟩ : ByteArray) = x1 := by cases x1; simp
      have hcall := kindOf_any x1.data.toList wa HKW1
      rw [hxx] at hcall
      simp only [over, overL, Nat.reduceAdd, h30]
      go_simp
      refine hcall.mono ?_
      rintro e w5 ⟨rfl, hw⟩
      exact hK _ _ ⟨_, rfl, by simp only [over, overL, Nat.reduceAdd, h30]; rfl, hw ▸ Below.refl _ _⟩
  · intro f w3 hb3 h
    have h27 : f 27 = .string x0 := h.2.2.1
    have h31 : f 31 = .int .i64 (kindN x1.data.toList) := h.2.2.2.2.2.2.1
    have hP3 := hP.later hb3
    have hB3 : Below w.heap.size w w3 := hB2.trans (hb3.mono hB2.size)
    simp only [over_eq, overL, h27, h31, Nat.reduceAdd, List.drop_succ_cons, List.drop_zero]
    have c0 : w3.cell? ⟨w.heap.size + 1, 0, none⟩ = some (.string ⟨#[]⟩) := hP3.box 0 _ rfl
    have c1 : w3.cell? ⟨w.heap.size + 1, 1, none⟩ = some (.int .i64 0) := hP3.box 1 _ rfl
    have f0 := hP3.boxf 0 (by decide)
    have f1 := hP3.boxf 1 (by decide)
    have HF : Hid (w.heap.size + 1 < w3.heap.size) := hP3.blt
    obtain ⟨kd, hkd⟩ : ∃ kd, kd = kindN x1.data.toList := ⟨_, rfl⟩
    have HKD : Hid (kd = kindN x1.data.toList) := hkd
    rw [← hkd]
    have hP4 : PSt w.heap.size (w.heap.size + 1) hw b (x0 :: x1 :: xs) (wcs (⟨x0, kd, 0, 0, 0, 0, 0, 0, 0, 0, 0, 0⟩ : Wr)).toList ((w3.setCell ⟨w.heap.size + 1, 0, none⟩ (.string x0)).setCell ⟨w.heap.size + 1, 1, none⟩ (.int .i64 kd)) :=
      (hP3.set (j := 0) (by decide) (.string x0)).set (j := 1) (by decide) (.int .i64 kd)
    have hB4 : Below w.heap.size w ((w3.setCell ⟨w.heap.size + 1, 0, none⟩ (.string x0)).setCell ⟨w.heap.size + 1, 1, none⟩ (.int .i64 kd)) := (hB3.setCell (by show w.heap.size ≤ w.heap.size + 1; omega) _).setCell (by show w.heap.size ≤ w.heap.size + 1; omega) _
    clear hkd
    go_wp2_with fail
    clear c0 c1 f0 f1
    generalize ((w3.setCell ⟨w.heap.size + 1, 0, none⟩ (.string x0)).setCell ⟨w.heap.size + 1, 1, none⟩ (.int .i64 kd)) = w4 at *
    refine (isLabel_any x0 _ (HSZ.out x0 (by simp))).mono ?_
    rintro e w5 ⟨rfl, hb5⟩
    have hP5 := hP4.later hb5
    have hB5 : Below w.heap.size w w5 := hB4.trans (hb5.mono hB4.size)
    have k1 : w5.cell? ⟨w.heap.size + 1, 1, none⟩ = some (.int .i64 kd) := hP5.box 1 _ rfl
    clear hb5 hP4 hP3 hP hB4 hB3 hB2
    obtain ⟨g1, hg1⟩ : ∃ g1 : Wr, g1 = ⟨x0, kd, 0, 0, 0, 0, 0, 0, 0, 0, 0, 0⟩ := ⟨_, rfl⟩
    have HG1 : Hid (g1 = ⟨x0, kd, 0, 0, 0, 0, 0, 0, 0, 0, 0, 0⟩) := hg1
    have hP5 : PSt w.heap.size (w.heap.size + 1) hw b (x0 :: x1 :: xs) (wcs g1).toList w5 := by rw [hg1]; exact hP5
    clear hg1
    cases hlab : lab x0 with
    | false =>
      have HOK : Hid (pOk x0 x1 xs = false) := show _ = _ by simp [pOk, hlab]
      have HP5 : Hid (PSt w.heap.size (w.heap.size + 1) hw b (x0 :: x1 :: xs) (wcs ⟨x0, kd, 0, 0, 0, 0, 0, 0, 0, 0, 0, 0⟩).toList w5) := by rw [← HG1.out]; exact hP5
      clear hP5
      have b0 : w5.cell? ⟨w.heap.size + 1, 0, none⟩ = some (.string x0) := HP5.out.box 0 _ rfl
      have b1 : w5.cell? ⟨w.heap.size + 1, 1, none⟩ = some (.int .i64 kd) := HP5.out.box 1 _ rfl
      have b2 : w5.cell? ⟨w.heap.size + 1, 2, none⟩ = some (.int .i64 0) := HP5.out.box 2 _ rfl
      have b3 : w5.cell? ⟨w.heap.size + 1, 3, none⟩ = some (.int .i64 0) := HP5.out.box 3 _ rfl
      have b4 : w5.cell? ⟨w.heap.size + 1, 4, none⟩ = some (.int .i64 0) := HP5.out.box 4 _ rfl
      have b5 : w5.cell? ⟨w.heap.size + 1, 5, none⟩ = some (.int .i64 0) := HP5.out.box 5 _ rfl
      have b6 : w5.cell? ⟨w.heap.size + 1, 6, none⟩ = some (.int .i64 0) := HP5.out.box 6 _ rfl
      have b7 : w5.cell? ⟨w.heap.size + 1, 7, none⟩ = some (.int .i64 0) := HP5.out.box 7 _ rfl
      have b8 : w5.cell? ⟨w.heap.size + 1, 8, none⟩ = some (.int .i64 0) := HP5.out.box 8 _ rfl
      have b9 : w5.cell? ⟨w.heap.size + 1, 9, none⟩ = some (.int .i64 0) := HP5.out.box 9 _ rfl
      have b10 : w5.cell? ⟨w.heap.size + 1, 10, none⟩ = some (.int .i64 0) := HP5.out.box 10 _ rfl
      have b11 : w5.cell? ⟨w.heap.size + 1, 11, none⟩ = some (.int .i64 0) := HP5.out.box 11 _ rfl
      obtain ⟨u0, r0⟩ := HP5.out.res 0 (by decide)
      have f0 := HP5.out.resf 0 (by decide)
      obtain ⟨u1, r1⟩ := HP5.out.res 1 (by decide)
      have f1 := HP5.out.resf 1 (by decide)
      obtain ⟨u2, r2⟩ := HP5.out.res 2 (by decide)
      have f2 := HP5.out.resf 2 (by decide)
      obtain ⟨u3, r3⟩ := HP5.out.res 3 (by decide)
      have f3 := HP5.out.resf 3 (by decide)
      obtain ⟨u4, r4⟩ := HP5.out.res 4 (by decide)
      have f4 := HP5.out.resf 4 (by decide)
      obtain ⟨u5, r5⟩ := HP5.out.res 5 (by decide)
      have f5 := HP5.out.resf 5 (by decide)
      obtain ⟨u6, r6⟩ := HP5.out.res 6 (by decide)
      have f6 := HP5.out.resf 6 (by decide)
      obtain ⟨u7, r7⟩ := HP5.out.res 7 (by decide)
      have f7 := HP5.out.resf 7 (by decide)
      obtain ⟨u8, r8⟩ := HP5.out.res 8 (by decide)
      have f8 := HP5.out.resf 8 (by decide)
      obtain ⟨u9, r9⟩ := HP5.out.res 9 (by decide)
      have f9 := HP5.out.resf 9 (by decide)
      obtain ⟨u10, r10⟩ := HP5.out.res 10 (by decide)
      have f10 := HP5.out.resf 10 (by decide)
      obtain ⟨u11, r11⟩ := HP5.out.res 11 (by decide)
      have f11 := HP5.out.resf 11 (by decide)
      have ltR := HP5.out.rlt
      go_wp2
      refine bodyPost_ret (v := .tuple #[wv ⟨x0, kd, 0, 0, 0, 0, 0, 0, 0, 0, 0, 0⟩, .bool false]) (by simp [results, Tryz.results99, go_sem, r0, r1, r2, r3, r4, r5, r6, r7, r8, r9, r10, r11]) rfl ⟨⟨x0, kd, 0, 0, 0, 0, 0, 0, 0, 0, 0, 0⟩, by rw [HOK.out], (fun h => by rw [HOK.out] at h; cases h), ?_⟩
      exact ((((((((((((hB5.setCell (Nat.le_refl _) _).setCell (Nat.le_refl _) _).setCell (Nat.le_refl _) _).setCell (Nat.le_refl _) _).setCell (Nat.le_refl _) _).setCell (Nat.le_refl _) _).setCell (Nat.le_refl _) _).setCell (Nat.le_refl _) _).setCell (Nat.le_refl _) _).setCell (Nat.le_refl _) _).setCell (Nat.le_refl _) _).setCell (Nat.le_refl _) _)
    | true =>
      cases hk0 : (kd == 0) with
      | true =>
        have HOK : Hid (pOk x0 x1 xs = false) := show _ = _ by simp [pOk, ← HKD.out, hk0]
        have HP5 : Hid (PSt w.heap.size (w.heap.size + 1) hw b (x0 :: x1 :: xs) (wcs ⟨x0, kd, 0, 0, 0, 0, 0, 0, 0, 0, 0, 0⟩).toList w5) := by rw [← HG1.out]; exact hP5
        clear hP5
        have b0 : w5.cell? ⟨w.heap.size + 1, 0, none⟩ = some (.string x0) := HP5.out.box 0 _ rfl
        have b1 : w5.cell? ⟨w.heap.size + 1, 1, none⟩ = some (.int .i64 kd) := HP5.out.box 1 _ rfl
        have b2 : w5.cell? ⟨w.heap.size + 1, 2, none⟩ = some (.int .i64 0) := HP5.out.box 2 _ rfl
        have b3 : w5.cell? ⟨w.heap.size + 1, 3, none⟩ = some (.int .i64 0) := HP5.out.box 3 _ rfl
        have b4 : w5.cell? ⟨w.heap.size + 1, 4, none⟩ = some (.int .i64 0) := HP5.out.box 4 _ rfl
        have b5 : w5.cell? ⟨w.heap.size + 1, 5, none⟩ = some (.int .i64 0) := HP5.out.box 5 _ rfl
        have b6 : w5.cell? ⟨w.heap.size + 1, 6, none⟩ = some (.int .i64 0) := HP5.out.box 6 _ rfl
        have b7 : w5.cell? ⟨w.heap.size + 1, 7, none⟩ = some (.int .i64 0) := HP5.out.box 7 _ rfl
        have b8 : w5.cell? ⟨w.heap.size + 1, 8, none⟩ = some (.int .i64 0) := HP5.out.box 8 _ rfl
        have b9 : w5.cell? ⟨w.heap.size + 1, 9, none⟩ = some (.int .i64 0) := HP5.out.box 9 _ rfl
        have b10 : w5.cell? ⟨w.heap.size + 1, 10, none⟩ = some (.int .i64 0) := HP5.out.box 10 _ rfl
        have b11 : w5.cell? ⟨w.heap.size + 1, 11, none⟩ = some (.int .i64 0) := HP5.out.box 11 _ rfl
        obtain ⟨u0, r0⟩ := HP5.out.res 0 (by decide)
        have f0 := HP5.out.resf 0 (by decide)
        obtain ⟨u1, r1⟩ := HP5.out.res 1 (by decide)
        have f1 := HP5.out.resf 1 (by decide)
        obtain ⟨u2, r2⟩ := HP5.out.res 2 (by decide)
        have f2 := HP5.out.resf 2 (by decide)
        obtain ⟨u3, r3⟩ := HP5.out.res 3 (by decide)
        have f3 := HP5.out.resf 3 (by decide)
        obtain ⟨u4, r4⟩ := HP5.out.res 4 (by decide)
        have f4 := HP5.out.resf 4 (by decide)
        obtain ⟨u5, r5⟩ := HP5.out.res 5 (by decide)
        have f5 := HP5.out.resf 5 (by decide)
        obtain ⟨u6, r6⟩ := HP5.out.res 6 (by decide)
        have f6 := HP5.out.resf 6 (by decide)
        obtain ⟨u7, r7⟩ := HP5.out.res 7 (by decide)
        have f7 := HP5.out.resf 7 (by decide)
        obtain ⟨u8, r8⟩ := HP5.out.res 8 (by decide)
        have f8 := HP5.out.resf 8 (by decide)
        obtain ⟨u9, r9⟩ := HP5.out.res 9 (by decide)
        have f9 := HP5.out.resf 9 (by decide)
        obtain ⟨u10, r10⟩ := HP5.out.res 10 (by decide)
        have f10 := HP5.out.resf 10 (by decide)
        obtain ⟨u11, r11⟩ := HP5.out.res 11 (by decide)
        have f11 := HP5.out.resf 11 (by decide)
        have ltR := HP5.out.rlt
        go_wp2
        refine bodyPost_ret (v := .tuple #[wv ⟨x0, kd, 0, 0, 0, 0, 0, 0, 0, 0, 0, 0⟩, .bool false]) (by simp [results, Tryz.results99, go_sem, r0, r1, r2, r3, r4, r5, r6, r7, r8, r9, r10, r11]) rfl ⟨⟨x0, kd, 0, 0, 0, 0, 0, 0, 0, 0, 0, 0⟩, by rw [HOK.out], (fun h => by rw [HOK.out] at h; cases h), ?_⟩
        exact ((((((((((((hB5.setCell (Nat.le_refl _) _).setCell (Nat.le_refl _) _).setCell (Nat.le_refl _) _).setCell (Nat.le_refl _) _).setCell (Nat.le_refl _) _).setCell (Nat.le_refl _) _).setCell (Nat.le_refl _) _).setCell (Nat.le_refl _) _).setCell (Nat.le_refl _) _).setCell (Nat.le_refl _) _).setCell (Nat.le_refl _) _).setCell (Nat.le_refl _) _)
      | false =>
        have HP5 : Hid (PSt w.heap.size (w.heap.size + 1) hw b (x0 :: x1 :: xs) (wcs g1).toList w5) := hP5
        clear hP5
        go_wp2_with fail
        go_loopw [47] (fun i wr => ∃ k : Nat, k ≤ 10 ∧ i = .int .i64 k ∧ PSt w.heap.size (w.heap.size + 1) hw b (x0 :: x1 :: xs) (wcs (fillN g1 xs k)).toList wr ∧ Below w.heap.size w wr ∧ ∀ (j : Nat) x, j < k → xs[j]? = some x → numOk x.data.toList = true) (fun i _ => 10 - (intOf i).toNat)
        case atStart => exact ⟨0, by omega, rfl, HP5.out, hB5, fun j x h => absurd h (Nat.not_lt_zero _)⟩
        case round =>
          obtain ⟨k, hk10, rfl, hPr, hBr, hno⟩ := hrel
          have HPR : Hid (PSt w.heap.size (w.heap.size + 1) hw b (x0 :: x1 :: xs) (wcs (fillN g1 xs k)).toList wr) := hPr
          have HNO : Hid (∀ (j : Nat) x, j < k → xs[j]? = some x → numOk x.data.toList = true) := hno
          clear hPr hno
          by_cases hk : k < 10
          · obtain ⟨x, hx⟩ : ∃ x, xs[k]? = some x := ⟨xs[k]'(by rw [HX.out]; exact hk), by simp⟩
            have HXK : Hid (xs[k]? = some x) := hx
            have hcx : wr.cell? ⟨hw, 2 + k, none⟩ = some (.string x) := by
              rw [Nat.add_comm]
              exact HPR.out.wrd (k + 2) x (by simpa using hx)
            have hxm : x.size ≤ maxLen := HSZ.out x (by have := List.mem_of_getElem? hx; simp [this])
            have z1 : (0 : Int) ≤ (k : Int) := by omega
            have z2 : (k : Int) < 10 := by omega
            clear hx
            go_wp2_with fail
            refine (number_any x _ hxm).mono ?_
            rintro e w6 ⟨rfl, hb6⟩
            have HP6 : Hid (PSt w.heap.size (w.heap.size + 1) hw b (x0 :: x1 :: xs) (wcs (fillN g1 xs k)).toList w6) := HPR.out.later hb6
            have hB6 : Below w.heap.size w w6 := hBr.trans (hb6.mono hBr.size)
            clear hb6
            cases hnk : numOk x.data.toList with
            | false =>
              have HOK : Hid (pOk x0 x1 xs = false) := show _ = _ by
                have : (xs.all fun x => numOk x.data.toList) = false := List.all_eq_false.2 ⟨x, List.mem_of_getElem? HXK.out, by simp [hnk]⟩
                simp [pOk, this]
              obtain ⟨gk, hgk⟩ : ∃ gk, gk = fillN g1 xs k := ⟨_, rfl⟩
              have HP7 : Hid (PSt w.heap.size (w.heap.size + 1) hw b (x0 :: x1 :: xs) (wcs gk).toList w6) := by rw [hgk]; exact HP6.out
              clear hgk
              have b0 : w6.cell? ⟨w.heap.size + 1, 0, none⟩ = some (.string gk.name) := HP7.out.box 0 _ rfl
              have b1 : w6.cell? ⟨w.heap.size + 1, 1, none⟩ = some (.int .i64 gk.kind) := HP7.out.box 1 _ rfl
              have b2 : w6.cell? ⟨w.heap.size + 1, 2, none⟩ = some (.int .i64 gk.rows) := HP7.out.box 2 _ rfl
              have b3 : w6.cell? ⟨w.heap.size + 1, 3, none⟩ = some (.int .i64 gk.cols) := HP7.out.box 3 _ rfl
              have b4 : w6.cell? ⟨w.heap.size + 1, 4, none⟩ = some (.int .i64 gk.x) := HP7.out.box 4 _ rfl
              have b5 : w6.cell? ⟨w.heap.size + 1, 5, none⟩ = some (.int .i64 gk.y) := HP7.out.box 5 _ rfl
              have b6 : w6.cell? ⟨w.heap.size + 1, 6, none⟩ = some (.int .i64 gk.pitch) := HP7.out.box 6 _ rfl
              have b7 : w6.cell? ⟨w.heap.size + 1, 7, none⟩ = some (.int .i64 gk.wid) := HP7.out.box 7 _ rfl
              have b8 : w6.cell? ⟨w.heap.size + 1, 8, none⟩ = some (.int .i64 gk.len) := HP7.out.box 8 _ rfl
              have b9 : w6.cell? ⟨w.heap.size + 1, 9, none⟩ = some (.int .i64 gk.hei) := HP7.out.box 9 _ rfl
              have b10 : w6.cell? ⟨w.heap.size + 1, 10, none⟩ = some (.int .i64 gk.deep) := HP7.out.box 10 _ rfl
              have b11 : w6.cell? ⟨w.heap.size + 1, 11, none⟩ = some (.int .i64 gk.cap) := HP7.out.box 11 _ rfl
              obtain ⟨u0, r0⟩ := HP7.out.res 0 (by decide)
              have f0 := HP7.out.resf 0 (by decide)
              obtain ⟨u1, r1⟩ := HP7.out.res 1 (by decide)
              have f1 := HP7.out.resf 1 (by decide)
              obtain ⟨u2, r2⟩ := HP7.out.res 2 (by decide)
              have f2 := HP7.out.resf 2 (by decide)
              obtain ⟨u3, r3⟩ := HP7.out.res 3 (by decide)
              have f3 := HP7.out.resf 3 (by decide)
              obtain ⟨u4, r4⟩ := HP7.out.res 4 (by decide)
              have f4 := HP7.out.resf 4 (by decide)
              obtain ⟨u5, r5⟩ := HP7.out.res 5 (by decide)
              have f5 := HP7.out.resf 5 (by decide)
              obtain ⟨u6, r6⟩ := HP7.out.res 6 (by decide)
              have f6 := HP7.out.resf 6 (by decide)
              obtain ⟨u7, r7⟩ := HP7.out.res 7 (by decide)
              have f7 := HP7.out.resf 7 (by decide)
              obtain ⟨u8, r8⟩ := HP7.out.res 8 (by decide)
              have f8 := HP7.out.resf 8 (by decide)
              obtain ⟨u9, r9⟩ := HP7.out.res 9 (by decide)
              have f9 := HP7.out.resf 9 (by decide)
              obtain ⟨u10, r10⟩ := HP7.out.res 10 (by decide)
              have f10 := HP7.out.resf 10 (by decide)
              obtain ⟨u11, r11⟩ := HP7.out.res 11 (by decide)
              have f11 := HP7.out.resf 11 (by decide)
              have ltR := HP7.out.rlt
              go_wp2
              refine bodyPost_ret (v := .tuple #[wv gk, .bool false]) (by simp [results, Tryz.results99, go_sem, r0, r1, r2, r3, r4, r5, r6, r7, r8, r9, r10, r11]) rfl ⟨gk, by rw [HOK.out], (fun h => by rw [HOK.out] at h; cases h), ?_⟩
              exact ((((((((((((hB6.setCell (Nat.le_refl _) _).setCell (Nat.le_refl _) _).setCell (Nat.le_refl _) _).setCell (Nat.le_refl _) _).setCell (Nat.le_refl _) _).setCell (Nat.le_refl _) _).setCell (Nat.le_refl _) _).setCell (Nat.le_refl _) _).setCell (Nat.le_refl _) _).setCell (Nat.le_refl _) _).setCell (Nat.le_refl _) _).setCell (Nat.le_refl _) _)
            | true =>
              have hpt : w6.cell? ⟨b, k, none⟩ = some (.pointer (some ⟨w.heap.size + 1, k + 2, none⟩)) := HP6.out.ptr k hk
              obtain ⟨uo, huo⟩ : ∃ uo, w6.cell? ⟨w.heap.size + 1, k + 2, none⟩ = some uo := ⟨(wcs (fillN g1 xs k)).toList[k + 2]'(by simp; omega), HP6.out.box (k + 2) _ (by simp)⟩
              have fz := HP6.out.boxf (k + 2) (by omega)
              obtain ⟨nv, hnv⟩ : ∃ nv, nv = numV x.data.toList := ⟨_, rfl⟩
              have HNV : Hid (nv = numV x.data.toList) := hnv
              rw [← hnv]
              clear hnv
              go_wp2
              go_roundw
              case rel =>
                refine ⟨k + 1, by omega, by go_num, ?_, hB6.setCell (by show w.heap.size ≤ w.heap.size + 1; omega) _, fun j y hj hy => ?_⟩
                · have h1 := HP6.out.set (j := k + 2) (by omega) (.int .i64 nv)
                  rw [setN_cells _ hk] at h1
                  have h2 : fillN g1 xs (k + 1) = setN (fillN g1 xs k) k nv := by
                    show setN _ k _ = _
                    rw [HXK.out, HNV.out]; rfl
                  rw [h2]; exact h1
                · rcases Nat.lt_succ_iff_lt_or_eq.1 hj with h | h
                  · exact HNO.out j y h hy
                  · subst h
                    rw [HXK.out] at hy
                    obtain rfl := Option.some.inj hy
                    exact hnk
              case measure => simp [intOf]; omega
          · have HK10 : Hid (k = 10) := by show _ = _; omega
            have HOK : Hid (pOk x0 x1 xs = true) := show _ = _ by
              have h1 : (xs.all fun x => numOk x.data.toList) = true := List.all_eq_true.2 fun x hx => by
                obtain ⟨j, hj, e⟩ := List.getElem_of_mem hx
                exact HNO.out j x (by have := HX.out; have := HK10.out; omega) (by rw [← e]; simp)
              simp [pOk, ← HKD.out, hk0, hlab, h1]
            obtain ⟨gk, hgk⟩ : ∃ gk, gk = fillN g1 xs k := ⟨_, rfl⟩
            have HGK : Hid (gk = pW x0 x1 xs) := show _ = _ by rw [hgk, HK10.out, HG1.out, HKD.out]; rfl
            have HP7 : Hid (PSt w.heap.size (w.heap.size + 1) hw b (x0 :: x1 :: xs) (wcs gk).toList wr) := by rw [hgk]; exact HPR.out
            clear hgk
            have b0 : wr.cell? ⟨w.heap.size + 1, 0, none⟩ = some (.string gk.name) := HP7.out.box 0 _ rfl
            have b1 : wr.cell? ⟨w.heap.size + 1, 1, none⟩ = some (.int .i64 gk.kind) := HP7.out.box 1 _ rfl
            have b2 : wr.cell? ⟨w.heap.size + 1, 2, none⟩ = some (.int .i64 gk.rows) := HP7.out.box 2 _ rfl
            have b3 : wr.cell? ⟨w.heap.size + 1, 3, none⟩ = some (.int .i64 gk.cols) := HP7.out.box 3 _ rfl
            have b4 : wr.cell? ⟨w.heap.size + 1, 4, none⟩ = some (.int .i64 gk.x) := HP7.out.box 4 _ rfl
            have b5 : wr.cell? ⟨w.heap.size + 1, 5, none⟩ = some (.int .i64 gk.y) := HP7.out.box 5 _ rfl
            have b6 : wr.cell? ⟨w.heap.size + 1, 6, none⟩ = some (.int .i64 gk.pitch) := HP7.out.box 6 _ rfl
            have b7 : wr.cell? ⟨w.heap.size + 1, 7, none⟩ = some (.int .i64 gk.wid) := HP7.out.box 7 _ rfl
            have b8 : wr.cell? ⟨w.heap.size + 1, 8, none⟩ = some (.int .i64 gk.len) := HP7.out.box 8 _ rfl
            have b9 : wr.cell? ⟨w.heap.size + 1, 9, none⟩ = some (.int .i64 gk.hei) := HP7.out.box 9 _ rfl
            have b10 : wr.cell? ⟨w.heap.size + 1, 10, none⟩ = some (.int .i64 gk.deep) := HP7.out.box 10 _ rfl
            have b11 : wr.cell? ⟨w.heap.size + 1, 11, none⟩ = some (.int .i64 gk.cap) := HP7.out.box 11 _ rfl
            obtain ⟨u0, r0⟩ := HP7.out.res 0 (by decide)
            have f0 := HP7.out.resf 0 (by decide)
            obtain ⟨u1, r1⟩ := HP7.out.res 1 (by decide)
            have f1 := HP7.out.resf 1 (by decide)
            obtain ⟨u2, r2⟩ := HP7.out.res 2 (by decide)
            have f2 := HP7.out.resf 2 (by decide)
            obtain ⟨u3, r3⟩ := HP7.out.res 3 (by decide)
            have f3 := HP7.out.resf 3 (by decide)
            obtain ⟨u4, r4⟩ := HP7.out.res 4 (by decide)
            have f4 := HP7.out.resf 4 (by decide)
            obtain ⟨u5, r5⟩ := HP7.out.res 5 (by decide)
            have f5 := HP7.out.resf 5 (by decide)
            obtain ⟨u6, r6⟩ := HP7.out.res 6 (by decide)
            have f6 := HP7.out.resf 6 (by decide)
            obtain ⟨u7, r7⟩ := HP7.out.res 7 (by decide)
            have f7 := HP7.out.resf 7 (by decide)
            obtain ⟨u8, r8⟩ := HP7.out.res 8 (by decide)
            have f8 := HP7.out.resf 8 (by decide)
            obtain ⟨u9, r9⟩ := HP7.out.res 9 (by decide)
            have f9 := HP7.out.resf 9 (by decide)
            obtain ⟨u10, r10⟩ := HP7.out.res 10 (by decide)
            have f10 := HP7.out.resf 10 (by decide)
            obtain ⟨u11, r11⟩ := HP7.out.res 11 (by decide)
            have f11 := HP7.out.resf 11 (by decide)
            have ltR := HP7.out.rlt
            go_wp2
            refine bodyPost_ret (v := .tuple #[wv gk, .bool true]) (by simp [results, Tryz.results99, go_sem, r0, r1, r2, r3, r4, r5, r6, r7, r8, r9, r10, r11]) rfl ⟨gk, by rw [HOK.out], fun _ => HGK.out, ?_⟩
            exact ((((((((((((hBr.setCell (Nat.le_refl _) _).setCell (Nat.le_refl _) _).setCell (Nat.le_refl _) _).setCell (Nat.le_refl _) _).setCell (Nat.le_refl _) _).setCell (Nat.le_refl _) _).setCell (Nat.le_refl _) _).setCell (Nat.le_refl _) _).setCell (Nat.le_refl _) _).setCell (Nat.le_refl _) _).setCell (Nat.le_refl _) _).setCell (Nat.le_refl _) _)
end Go.Proofs.YtmmpaaaifdikdaaGreatDoor
