/- A ware out of a text, the document's way: ReadWare's grounds. -/
import Derived.Test.YtefjeohhdmmboaaDoorSplit
import Derived.Test.YtefjeohhdmmboaaDoorParse2
namespace Go.Proofs.YtefjeohhdmmboaaDoor
open Go.RowKit Go.Shelf

/-- The box of an answer, zero as yet. -/
structure ZBox (B : Nat) (w : World) : Prop where
  cell : ∀ (j : Nat) v, zeroW[j]? = some v → w.cell? ⟨B, j, none⟩ = some v
  frz : ∀ j, j < 12 → w.frozen? ⟨B, j, none⟩ = false
  lt : B < w.heap.size
theorem ZBox.later {B base : Nat} {w w' : World} (h : ZBox B w) (hb : Below base w w') (hB : B < base) : ZBox B w' :=
  ⟨fun j v hj => (hb.cell (p := ⟨B, j, none⟩) hB).trans (h.cell j v hj), fun j hj => (hb.frozen (p := ⟨B, j, none⟩) hB).trans (h.frz j hj), Nat.lt_of_lt_of_le h.lt hb.size⟩
theorem new_zbox (w : World) (t : Nat) : ZBox w.heap.size (w.alloc (.cells (wcs zW) t)) := by
  refine ⟨fun j v hj => ?_, fun j hj => ?_, by simp⟩
  · have hl : j < 12 := (List.getElem?_eq_some_iff.1 hj).1
    rcases (show j = 0 ∨ j = 1 ∨ j = 2 ∨ j = 3 ∨ j = 4 ∨ j = 5 ∨ j = 6 ∨ j = 7 ∨ j = 8 ∨ j = 9 ∨ j = 10 ∨ j = 11 by omega) with e | e | e | e | e | e | e | e | e | e | e | e
    all_goals (subst e; simp at hj; subst hj; simp [go_sem])
  · rcases (show j = 0 ∨ j = 1 ∨ j = 2 ∨ j = 3 ∨ j = 4 ∨ j = 5 ∨ j = 6 ∨ j = 7 ∨ j = 8 ∨ j = 9 ∨ j = 10 ∨ j = 11 by omega) with e | e | e | e | e | e | e | e | e | e | e | e
    all_goals (subst e; simp [go_sem])
theorem Tryd.info3 : (Tryd.prog.info? 3).map (fun i => (i.zero, i.size, i.bytes)) = some (some (.int .i64 0), 1, 8) := by kernel_rfl
/-- The call's own numbers. -/
def OwnI (w : World) (base : Nat) (v : Value) (ns : List Int) : Prop := w.ownsRow base 3 1 v ns.length (ns.map (Value.int .i64))
theorem OwnI.nil (w : World) (base : Nat) : OwnI w base (.slice none 0 0) [] := World.ownsRow_nil w base 3 1
theorem OwnI.later {w w' : World} {base : Nat} {v : Value} {xs : List Int} (h : OwnI w base v xs) (hb : Below w.heap.size w w') : OwnI w' base v xs := by
  refine ⟨h.1, h.2.elim .inl fun ⟨g, cap, cur, h1, h2, h3, h4⟩ => .inr ⟨g, cap, cur, h1, h2, ?_, h4⟩⟩
  rw [hb.block g (Array.getElem?_eq_some_iff.1 h3).1]; exact h3
theorem OwnI.read {w : World} {base : Nat} {v : Value} {xs : List Int} (h : OwnI w base v xs) (hne : xs ≠ []) : ∃ g cap, v = .slice (some ⟨g, 0, none⟩) xs.length cap ∧
    ∀ (j : Nat) x, xs[j]? = some x → w.cell? ⟨g, j, none⟩ = some (.int .i64 x) := by
  rcases h.2 with ⟨h1, h2⟩ | ⟨g, cap', cur, h1, h2, h3, h4, h5⟩
  · exact absurd (List.eq_nil_of_length_eq_zero h2) hne
  · subst h1
    refine ⟨g, cap', rfl, fun j x hj => ?_⟩
    have hl := (List.getElem?_eq_some_iff.1 hj).1
    have e1 := World.ownsRow.cellAt h j (by omega)
    rw [e1, List.getElem?_map, hj]; rfl
/-- One number appended to the call's own. -/
theorem wpList_append_num (w : World) {ops : Array Oper} {rest : List Oper} {o : Oper} {a : Act} {Q : Exit → Act → World → Prop} (hgd : o.guard = none) (s x : Operand)
    (ho : o.op = .call { callee := .builtin .append, args := #[s, x], argTypes := #[70, 70] }) (base : Nat) (v : Value) (xs : List Int) (hs : a.eval s = v) (hown : OwnI w base v xs)
    (b : Nat) (y : Int) (hx : a.eval x = .slice (some ⟨b, 0, none⟩) 1 1) (h0 : w.cell? ⟨b, 0, none⟩ = some (.int .i64 y)) (hlen : xs.length ≤ 1000000) (hbase : base ≤ w.heap.size)
    (h : ∀ v' w', OwnI w' base v' (xs ++ [y]) → w.grownBy w' v.ownBlock → (v'.ownBlock = v.ownBlock ∨ v'.ownBlock = some w.heap.size) → wpList Tryd.prog ops Q rest (a.put o.dst v') w') :
    wpList Tryd.prog ops Q (o :: rest) a w := by
  obtain ⟨i0, hi, hz0, hz1, hz2⟩ := info_parts Tryd.info3
  refine wpList_append_own_at w hgd s x 70 ho base 3 i0 (.int .i64 0) 1 8 Tryd.underlying70 hi hz0 hz1 hz2 rfl (by decide) v xs.length (xs.map (Value.int .i64)) hs hown ⟨b, 0, none⟩ 1 1 [.int .i64 y] hx rfl ?_ ?_ ?_ ?_ hbase ?_
  · intro j u hj
    match j, hj with
    | 0, hj => simp at hj; subst hj; simpa [Addr.add] using h0
  · intro u hu
    simp at hu
    subst hu; rfl
  · unfold maxLen; omega
  · omega
  · intro v' w' h1 h2 _ h4
    refine h v' w' ?_ h2 h4
    unfold OwnI
    rw [List.map_append, List.length_append]
    exact h1
/-- What ReadWare answers, of its words. -/
def rdOut (x0 x1 : ByteArray) (ys : List ByteArray) : Value :=
  if pOk x0 x1 ys = true then (if chk (pW x0 x1 ys) = 0 then .tuple #[wv (pW x0 x1 ys), .int .i64 0] else .tuple #[wv zW, .int .i64 (chk (pW x0 x1 ys))]) else .tuple #[wv zW, .int .i64 1]
theorem rdOut_no {x0 x1 : ByteArray} {ys : List ByteArray} (h : pOk x0 x1 ys = false) : rdOut x0 x1 ys = .tuple #[wv zW, .int .i64 1] := by simp [rdOut, h]
theorem rdOut_err {x0 x1 : ByteArray} {ys : List ByteArray} (h : pOk x0 x1 ys = true) (h2 : chk (pW x0 x1 ys) ≠ 0) : rdOut x0 x1 ys = .tuple #[wv zW, .int .i64 (chk (pW x0 x1 ys))] := by simp [rdOut, h, h2]
theorem rdOut_yes {x0 x1 : ByteArray} {ys : List ByteArray} (h : pOk x0 x1 ys = true) (h2 : chk (pW x0 x1 ys) = 0) : rdOut x0 x1 ys = .tuple #[wv (pW x0 x1 ys), .int .i64 0] := by simp [rdOut, h, h2]
theorem at_two {x0 x1 : ByteArray} {ys : List ByteArray} {j : Nat} (h : 2 ≤ j) : (x0 :: x1 :: ys)[j]? = ys[j - 2]? := by
  obtain ⟨k, rfl⟩ : ∃ k, j = k + 2 := ⟨j - 2, by omega⟩
  simp
theorem numV_nonneg (l : List UInt8) : 0 ≤ numV l := by
  unfold numV
  split
  · rename_i h
    refine (digs_in l fun b hb => ?_).1
    unfold numOk at h
    simp only [Bool.and_eq_true, List.all_eq_true] at h
    exact h.2 b hb
  · exact Int.le_refl _
/-- A new box of a ware. -/
def NewW (base : Nat) (v : Value) (w : World) : Prop := ∃ b, v = .pointer (some ⟨b, 0, none⟩) ∧ base ≤ b ∧ (∀ (j : Nat) v, zeroW[j]? = some v → w.cell? ⟨b, j, none⟩ = some v) ∧ (∀ j, j < 12 → w.frozen? ⟨b, j, none⟩ = false) ∧ b < w.heap.size
theorem NewW.later {base : Nat} {v : Value} {w w' : World} (h : NewW base v w) (hb : Below w.heap.size w w') : NewW base v w' := by
  obtain ⟨b, rfl, h1, h2, h3, h4⟩ := h
  exact ⟨b, rfl, h1, fun j v hj => cell_later hb (h2 j v hj), fun j hj => (hb.frozen (p := ⟨b, j, none⟩) h4).trans (h3 j hj), Nat.lt_of_lt_of_le h4 hb.size⟩
theorem new_w (base : Nat) (w : World) (t : Nat) (h : base ≤ w.heap.size) : NewW base (.pointer (some ⟨w.heap.size, 0, none⟩)) (w.alloc (.cells (wcs zW) t)) :=
  ⟨_, rfl, h, (new_zbox w t).cell, (new_zbox w t).frz, (new_zbox w t).lt⟩
set_option maxHeartbeats 6400000 in
set_option maxRecDepth 100000 in
theorem rw_len (s : ByteArray) (w : World) (hs : s.size ≤ 1048576) (hl : (wordsA s).length ≠ 12) :
    Calls Tryd.prog 10 #[.string s] w fun e w' => e = .returned (.tuple #[wv zW, .int .i64 1]) ∧ Below w.heap.size w w' := by
  go_enter Tryd.func10, Tryd.ntmps10
  go_wp2_with fail
  refine (splitAt_any s _ hs).mono ?_
  rintro e w1 ⟨v, rfl, hown, hsz, hlen, hb1⟩
  have hB1 : Below w.heap.size w w1 := ((Below.refl _ _).alloc (Nat.le_refl _) _).trans (hb1.mono (by simp))
  have hZ : ZBox w.heap.size w1 := (new_zbox w 23).later hb1 (by simp)
  obtain ⟨ao, cap, rfl⟩ := hown.shape
  obtain ⟨n, hn⟩ : ∃ n, n = (wordsA s).length := ⟨_, rfl⟩
  have hne : ((n : Int) != 12) = true := by simp; omega
  rw [← hn]
  clear hn hl hown hsz hlen hb1
  have r0 : w1.cell? ⟨w.heap.size, 0, none⟩ = some (.string ⟨#[]⟩) := hZ.cell 0 _ rfl
  have f0 : w1.frozen? ⟨w.heap.size, 0, none⟩ = false := hZ.frz 0 (by decide)
  have r1 : w1.cell? ⟨w.heap.size, 1, none⟩ = some (.int .i64 0) := hZ.cell 1 _ rfl
  have f1 : w1.frozen? ⟨w.heap.size, 1, none⟩ = false := hZ.frz 1 (by decide)
  have r2 : w1.cell? ⟨w.heap.size, 2, none⟩ = some (.int .i64 0) := hZ.cell 2 _ rfl
  have f2 : w1.frozen? ⟨w.heap.size, 2, none⟩ = false := hZ.frz 2 (by decide)
  have r3 : w1.cell? ⟨w.heap.size, 3, none⟩ = some (.int .i64 0) := hZ.cell 3 _ rfl
  have f3 : w1.frozen? ⟨w.heap.size, 3, none⟩ = false := hZ.frz 3 (by decide)
  have r4 : w1.cell? ⟨w.heap.size, 4, none⟩ = some (.int .i64 0) := hZ.cell 4 _ rfl
  have f4 : w1.frozen? ⟨w.heap.size, 4, none⟩ = false := hZ.frz 4 (by decide)
  have r5 : w1.cell? ⟨w.heap.size, 5, none⟩ = some (.int .i64 0) := hZ.cell 5 _ rfl
  have f5 : w1.frozen? ⟨w.heap.size, 5, none⟩ = false := hZ.frz 5 (by decide)
  have r6 : w1.cell? ⟨w.heap.size, 6, none⟩ = some (.int .i64 0) := hZ.cell 6 _ rfl
  have f6 : w1.frozen? ⟨w.heap.size, 6, none⟩ = false := hZ.frz 6 (by decide)
  have r7 : w1.cell? ⟨w.heap.size, 7, none⟩ = some (.int .i64 0) := hZ.cell 7 _ rfl
  have f7 : w1.frozen? ⟨w.heap.size, 7, none⟩ = false := hZ.frz 7 (by decide)
  have r8 : w1.cell? ⟨w.heap.size, 8, none⟩ = some (.int .i64 0) := hZ.cell 8 _ rfl
  have f8 : w1.frozen? ⟨w.heap.size, 8, none⟩ = false := hZ.frz 8 (by decide)
  have r9 : w1.cell? ⟨w.heap.size, 9, none⟩ = some (.int .i64 0) := hZ.cell 9 _ rfl
  have f9 : w1.frozen? ⟨w.heap.size, 9, none⟩ = false := hZ.frz 9 (by decide)
  have r10 : w1.cell? ⟨w.heap.size, 10, none⟩ = some (.int .i64 0) := hZ.cell 10 _ rfl
  have f10 : w1.frozen? ⟨w.heap.size, 10, none⟩ = false := hZ.frz 10 (by decide)
  have r11 : w1.cell? ⟨w.heap.size, 11, none⟩ = some (.int .i64 0) := hZ.cell 11 _ rfl
  have f11 : w1.frozen? ⟨w.heap.size, 11, none⟩ = false := hZ.frz 11 (by decide)
  have lt := hZ.lt
  clear hZ
  go_wp2
  refine bodyPost_ret (v := .tuple #[wv zW, .int .i64 1]) (by simp [results, Tryd.results10, go_sem, r0, r1, r2, r3, r4, r5, r6, r7, r8, r9, r10, r11, zW]) rfl ⟨rfl, ?_⟩
  exact ((((((((((((hB1.setCell (Nat.le_refl _) _).setCell (Nat.le_refl _) _).setCell (Nat.le_refl _) _).setCell (Nat.le_refl _) _).setCell (Nat.le_refl _) _).setCell (Nat.le_refl _) _).setCell (Nat.le_refl _) _).setCell (Nat.le_refl _) _).setCell (Nat.le_refl _) _).setCell (Nat.le_refl _) _).setCell (Nat.le_refl _) _).setCell (Nat.le_refl _) _)
set_option maxHeartbeats 6400000 in
set_option maxRecDepth 100000 in
theorem rw_lab (s : ByteArray) (w : World) (hs : s.size ≤ 1048576) (x0 x1 : ByteArray) (ys : List ByteArray) (HW : Hid (wordsA s = x0 :: x1 :: ys)) (HY : Hid (ys.length = 10)) (hl : lab x0 = false) :
    Calls Tryd.prog 10 #[.string s] w fun e w' => e = .returned (.tuple #[wv zW, .int .i64 1]) ∧ Below w.heap.size w w' := by
  go_enter Tryd.func10, Tryd.ntmps10
  go_wp2_with fail
  refine (splitAt_any s _ hs).mono ?_
  rintro e w1 ⟨v, rfl, hown, hsz, hlen, hb1⟩
  have hB1 : Below w.heap.size w w1 := ((Below.refl _ _).alloc (Nat.le_refl _) _).trans (hb1.mono (by simp))
  have hZ : ZBox w.heap.size w1 := (new_zbox w 23).later hb1 (by simp)
  rw [HW.out] at hown hsz
  obtain ⟨g, cap, rfl, hg, hcap, hc⟩ := hown.read (by simp)
  have hl12 : (x0 :: x1 :: ys).length = 12 := by simp [HY.out]
  rw [hl12]
  have c0 : w1.cell? ⟨g, 0, none⟩ = some (.string x0) := hc 0 x0 rfl
  have c1 : w1.cell? ⟨g, 1, none⟩ = some (.string x1) := hc 1 x1 rfl
  have HCELL : Hid (∀ (j : Nat) x, (x0 :: x1 :: ys)[j]? = some x → w1.cell? ⟨g, 0 + j, none⟩ = some (.string x)) := hc
  have HSZ : Hid (∀ x ∈ x0 :: x1 :: ys, x.size ≤ maxLen) := fun x hx => Nat.le_trans (hsz x hx) (by unfold maxLen; omega)
  clear hc hown hsz hlen hb1 hl12 hcap
  have r0 : w1.cell? ⟨w.heap.size, 0, none⟩ = some (.string ⟨#[]⟩) := hZ.cell 0 _ rfl
  have f0 : w1.frozen? ⟨w.heap.size, 0, none⟩ = false := hZ.frz 0 (by decide)
  have r1 : w1.cell? ⟨w.heap.size, 1, none⟩ = some (.int .i64 0) := hZ.cell 1 _ rfl
  have f1 : w1.frozen? ⟨w.heap.size, 1, none⟩ = false := hZ.frz 1 (by decide)
  have r2 : w1.cell? ⟨w.heap.size, 2, none⟩ = some (.int .i64 0) := hZ.cell 2 _ rfl
  have f2 : w1.frozen? ⟨w.heap.size, 2, none⟩ = false := hZ.frz 2 (by decide)
  have r3 : w1.cell? ⟨w.heap.size, 3, none⟩ = some (.int .i64 0) := hZ.cell 3 _ rfl
  have f3 : w1.frozen? ⟨w.heap.size, 3, none⟩ = false := hZ.frz 3 (by decide)
  have r4 : w1.cell? ⟨w.heap.size, 4, none⟩ = some (.int .i64 0) := hZ.cell 4 _ rfl
  have f4 : w1.frozen? ⟨w.heap.size, 4, none⟩ = false := hZ.frz 4 (by decide)
  have r5 : w1.cell? ⟨w.heap.size, 5, none⟩ = some (.int .i64 0) := hZ.cell 5 _ rfl
  have f5 : w1.frozen? ⟨w.heap.size, 5, none⟩ = false := hZ.frz 5 (by decide)
  have r6 : w1.cell? ⟨w.heap.size, 6, none⟩ = some (.int .i64 0) := hZ.cell 6 _ rfl
  have f6 : w1.frozen? ⟨w.heap.size, 6, none⟩ = false := hZ.frz 6 (by decide)
  have r7 : w1.cell? ⟨w.heap.size, 7, none⟩ = some (.int .i64 0) := hZ.cell 7 _ rfl
  have f7 : w1.frozen? ⟨w.heap.size, 7, none⟩ = false := hZ.frz 7 (by decide)
  have r8 : w1.cell? ⟨w.heap.size, 8, none⟩ = some (.int .i64 0) := hZ.cell 8 _ rfl
  have f8 : w1.frozen? ⟨w.heap.size, 8, none⟩ = false := hZ.frz 8 (by decide)
  have r9 : w1.cell? ⟨w.heap.size, 9, none⟩ = some (.int .i64 0) := hZ.cell 9 _ rfl
  have f9 : w1.frozen? ⟨w.heap.size, 9, none⟩ = false := hZ.frz 9 (by decide)
  have r10 : w1.cell? ⟨w.heap.size, 10, none⟩ = some (.int .i64 0) := hZ.cell 10 _ rfl
  have f10 : w1.frozen? ⟨w.heap.size, 10, none⟩ = false := hZ.frz 10 (by decide)
  have r11 : w1.cell? ⟨w.heap.size, 11, none⟩ = some (.int .i64 0) := hZ.cell 11 _ rfl
  have f11 : w1.frozen? ⟨w.heap.size, 11, none⟩ = false := hZ.frz 11 (by decide)
  have lt := hZ.lt
  clear hZ
  go_wp2_with (go_at_call 33; refine (labelMay_any x0 _ (HSZ.out x0 (by simp))).mono ?_; rintro e w2 ⟨rfl, hw2⟩; subst hw2; rw [hl])
  refine bodyPost_ret (v := .tuple #[wv zW, .int .i64 1]) (by simp [results, Tryd.results10, go_sem, r0, r1, r2, r3, r4, r5, r6, r7, r8, r9, r10, r11, zW]) rfl ⟨rfl, ?_⟩
  exact ((((((((((((hB1.setCell (Nat.le_refl _) _).setCell (Nat.le_refl _) _).setCell (Nat.le_refl _) _).setCell (Nat.le_refl _) _).setCell (Nat.le_refl _) _).setCell (Nat.le_refl _) _).setCell (Nat.le_refl _) _).setCell (Nat.le_refl _) _).setCell (Nat.le_refl _) _).setCell (Nat.le_refl _) _).setCell (Nat.le_refl _) _).setCell (Nat.le_refl _) _)
set_option maxHeartbeats 6400000 in
set_option maxRecDepth 100000 in
theorem rw_kind (s : ByteArray) (w : World) (hs : s.size ≤ 1048576) (x0 : ByteArray) (l : List UInt8) (ys : List ByteArray) (HW : Hid (wordsA s = x0 :: ⟨l.toArray⟩ :: ys)) (HY : Hid (ys.length = 10)) (hl : lab x0 = true) (hk : kindN l = 0) :
    Calls Tryd.prog 10 #[.string s] w fun e w' => e = .returned (.tuple #[wv zW, .int .i64 1]) ∧ Below w.heap.size w w' := by
  have n1 : l ≠ [112, 108, 97, 116, 101] := fun e => by rw [e] at hk; exact absurd hk (by decide)
  have n2 : l ≠ [114, 97, 99, 107] := fun e => by rw [e] at hk; exact absurd hk (by decide)
  have n3 : l ≠ [116, 114, 97, 115, 104] := fun e => by rw [e] at hk; exact absurd hk (by decide)
  have q1 : (l == [112, 108, 97, 116, 101]) = false := by rw [beq_eq_false_iff_ne]; exact n1
  have q2 : (l == [114, 97, 99, 107]) = false := by rw [beq_eq_false_iff_ne]; exact n2
  have q3 : (l == [116, 114, 97, 115, 104]) = false := by rw [beq_eq_false_iff_ne]; exact n3
  clear n1 n2 n3 hk
  go_enter Tryd.func10, Tryd.ntmps10
  go_wp2_with fail
  refine (splitAt_any s _ hs).mono ?_
  rintro e w1 ⟨v, rfl, hown, hsz, hlen, hb1⟩
  have hB1 : Below w.heap.size w w1 := ((Below.refl _ _).alloc (Nat.le_refl _) _).trans (hb1.mono (by simp))
  have hZ : ZBox w.heap.size w1 := (new_zbox w 23).later hb1 (by simp)
  rw [HW.out] at hown hsz
  obtain ⟨g, cap, rfl, hg, hcap, hc⟩ := hown.read (by simp)
  have hl12 : (x0 :: (⟨l.toArray⟩ : ByteArray) :: ys).length = 12 := by simp [HY.out]
  rw [hl12]
  have c0 : w1.cell? ⟨g, 0, none⟩ = some (.string x0) := hc 0 x0 rfl
  have c1 : w1.cell? ⟨g, 1, none⟩ = some (.string (⟨l.toArray⟩ : ByteArray)) := hc 1 (⟨l.toArray⟩ : ByteArray) rfl
  have HCELL : Hid (∀ (j : Nat) x, (x0 :: (⟨l.toArray⟩ : ByteArray) :: ys)[j]? = some x → w1.cell? ⟨g, 0 + j, none⟩ = some (.string x)) := hc
  have HSZ : Hid (∀ x ∈ x0 :: (⟨l.toArray⟩ : ByteArray) :: ys, x.size ≤ maxLen) := fun x hx => Nat.le_trans (hsz x hx) (by unfold maxLen; omega)
  clear hc hown hsz hlen hb1 hl12 hcap
  have r0 : w1.cell? ⟨w.heap.size, 0, none⟩ = some (.string ⟨#[]⟩) := hZ.cell 0 _ rfl
  have f0 : w1.frozen? ⟨w.heap.size, 0, none⟩ = false := hZ.frz 0 (by decide)
  have r1 : w1.cell? ⟨w.heap.size, 1, none⟩ = some (.int .i64 0) := hZ.cell 1 _ rfl
  have f1 : w1.frozen? ⟨w.heap.size, 1, none⟩ = false := hZ.frz 1 (by decide)
  have r2 : w1.cell? ⟨w.heap.size, 2, none⟩ = some (.int .i64 0) := hZ.cell 2 _ rfl
  have f2 : w1.frozen? ⟨w.heap.size, 2, none⟩ = false := hZ.frz 2 (by decide)
  have r3 : w1.cell? ⟨w.heap.size, 3, none⟩ = some (.int .i64 0) := hZ.cell 3 _ rfl
  have f3 : w1.frozen? ⟨w.heap.size, 3, none⟩ = false := hZ.frz 3 (by decide)
  have r4 : w1.cell? ⟨w.heap.size, 4, none⟩ = some (.int .i64 0) := hZ.cell 4 _ rfl
  have f4 : w1.frozen? ⟨w.heap.size, 4, none⟩ = false := hZ.frz 4 (by decide)
  have r5 : w1.cell? ⟨w.heap.size, 5, none⟩ = some (.int .i64 0) := hZ.cell 5 _ rfl
  have f5 : w1.frozen? ⟨w.heap.size, 5, none⟩ = false := hZ.frz 5 (by decide)
  have r6 : w1.cell? ⟨w.heap.size, 6, none⟩ = some (.int .i64 0) := hZ.cell 6 _ rfl
  have f6 : w1.frozen? ⟨w.heap.size, 6, none⟩ = false := hZ.frz 6 (by decide)
  have r7 : w1.cell? ⟨w.heap.size, 7, none⟩ = some (.int .i64 0) := hZ.cell 7 _ rfl
  have f7 : w1.frozen? ⟨w.heap.size, 7, none⟩ = false := hZ.frz 7 (by decide)
  have r8 : w1.cell? ⟨w.heap.size, 8, none⟩ = some (.int .i64 0) := hZ.cell 8 _ rfl
  have f8 : w1.frozen? ⟨w.heap.size, 8, none⟩ = false := hZ.frz 8 (by decide)
  have r9 : w1.cell? ⟨w.heap.size, 9, none⟩ = some (.int .i64 0) := hZ.cell 9 _ rfl
  have f9 : w1.frozen? ⟨w.heap.size, 9, none⟩ = false := hZ.frz 9 (by decide)
  have r10 : w1.cell? ⟨w.heap.size, 10, none⟩ = some (.int .i64 0) := hZ.cell 10 _ rfl
  have f10 : w1.frozen? ⟨w.heap.size, 10, none⟩ = false := hZ.frz 10 (by decide)
  have r11 : w1.cell? ⟨w.heap.size, 11, none⟩ = some (.int .i64 0) := hZ.cell 11 _ rfl
  have f11 : w1.frozen? ⟨w.heap.size, 11, none⟩ = false := hZ.frz 11 (by decide)
  have lt := hZ.lt
  clear hZ
  go_wp2_with (go_at_call 33; refine (labelMay_any x0 _ (HSZ.out x0 (by simp))).mono ?_; rintro e w2 ⟨rfl, hw2⟩; subst hw2; rw [hl])
  refine bodyPost_ret (v := .tuple #[wv zW, .int .i64 1]) (by simp [results, Tryd.results10, go_sem, r0, r1, r2, r3, r4, r5, r6, r7, r8, r9, r10, r11, zW]) rfl ⟨rfl, ?_⟩
  exact ((((((((((((hB1.setCell (Nat.le_refl _) _).setCell (Nat.le_refl _) _).setCell (Nat.le_refl _) _).setCell (Nat.le_refl _) _).setCell (Nat.le_refl _) _).setCell (Nat.le_refl _) _).setCell (Nat.le_refl _) _).setCell (Nat.le_refl _) _).setCell (Nat.le_refl _) _).setCell (Nat.le_refl _) _).setCell (Nat.le_refl _) _).setCell (Nat.le_refl _) _)
end Go.Proofs.YtefjeohhdmmboaaDoor
