/- readSeat walked, at the line of a seat. -/
import Derived.Test.YtmmpaaaifdikdaaGreatDoorDG
namespace Go.Proofs.YtmmpaaaifdikdaaGreatDoor
open Go.RowKit Go.Shelf

theorem words_none {s : Sit} (hp : plc s = 0) (h0 : chk s.ware = 0) : Lib.containsS ((lwordsB s).take 14) ⟨#[]⟩ = false := by
  obtain ⟨hl, hf⟩ := lwords_fine hp h0
  rw [List.take_of_length_le (by simp [lwordsB]; omega)]
  cases h : Lib.containsS (lwordsB s) ⟨#[]⟩ with
  | false => rfl
  | true =>
    have := (Lib.containsS_iff _ _).1 h
    obtain ⟨y, hy, e⟩ := List.mem_map.1 this
    have h1 := (hf y hy).2.2
    have h2 : y = [] := by have := congrArg (fun b : ByteArray => b.data.toList) e; simpa using this
    rw [h2] at h1
    simp at h1
theorem lwordsB_0 (s : Sit) : (lwordsB s)[0]? = some ⟨(Lib.itoa s.slot).toArray⟩ := by simp [lwordsB, lwords]
theorem lwordsB_1 (s : Sit) : (lwordsB s)[1]? = some s.name := by simp [lwordsB, lwords]
theorem lwordsB_2 (s : Sit) (j : Nat) : (lwordsB s)[2 + j]? = ((wordsL s.ware).map fun x => (⟨x.toArray⟩ : ByteArray))[j]? := by
  rw [Nat.add_comm]; simp [lwordsB, lwords]
theorem itoa_slot {n : Int} (h : 1 ≤ n) (h2 : n ≤ 12) : ∃ i : Nat, n = i ∧ i < 13 ∧ Lib.itoa n = Lib.decDigits i := by
  refine ⟨n.toNat, by omega, by omega, ?_⟩
  unfold Lib.itoa
  rw [if_neg (by omega)]
abbrev put12 (w : World) (b : Nat) (g : Wr) : World := (((((((((((w.setCell ⟨b, 1, none⟩ (.string g.name)).setCell ⟨b, 2, none⟩ (.int .i64 g.kind)).setCell ⟨b, 3, none⟩ (.int .i64 g.rows)).setCell ⟨b, 4, none⟩ (.int .i64 g.cols)).setCell ⟨b, 5, none⟩ (.int .i64 g.x)).setCell ⟨b, 6, none⟩ (.int .i64 g.y)).setCell ⟨b, 7, none⟩ (.int .i64 g.pitch)).setCell ⟨b, 8, none⟩ (.int .i64 g.wid)).setCell ⟨b, 9, none⟩ (.int .i64 g.len)).setCell ⟨b, 10, none⟩ (.int .i64 g.hei)).setCell ⟨b, 11, none⟩ (.int .i64 g.deep)).setCell ⟨b, 12, none⟩ (.int .i64 g.cap)
theorem below_put12 {n b : Nat} {w w' : World} {g : Wr} (h : Below n w w') (hn : n ≤ b) : Below n w (put12 w' b g) :=
  (((((((((((h.setCell hn _).setCell hn _).setCell hn _).setCell hn _).setCell hn _).setCell hn _).setCell hn _).setCell hn _).setCell hn _).setCell hn _).setCell hn _).setCell hn _
set_option maxHeartbeats 12800000 in
set_option maxRecDepth 100000 in
theorem readSeat_any (s : Sit) (w : World) (hT : Tabs w) (hp : plc s = 0) (h0 : chk s.ware = 0) :
    Calls Tryz.prog 60 #[.string ⟨(lineL s).toArray⟩] w fun e w' => e = .returned (.tuple #[sv s, .int .i64 0]) ∧ Below w.heap.size w w' := by
  have HT : Hid (Tabs w) := hT
  have al0 : Below w.heap.size w (w.alloc (sobj zSt)) := (Below.refl _ _).alloc (Nat.le_refl _) _
  have hsz := line_size hp h0
  obtain ⟨m, hm⟩ := (hT.next al0).most
  have hsp := Tryz.strings_SplitN ⟨(lineL s).toArray⟩ ⟨#[32]⟩ 15 m (w.alloc (sobj zSt)) (by simp [ByteArray.size]; omega) hm (by decide) (by decide) (by decide)
  rw [line_split hp h0] at hsp
  have hlen : (lwordsB s).length = 14 := by simp [lwordsB, (lwords_fine hp h0).1]
  have hcp : min 15 ((⟨(lineL s).toArray⟩ : ByteArray).size + 1) = 15 := by simp [ByteArray.size]; omega
  rw [hlen, hcp] at hsp
  obtain ⟨w2, hw2⟩ : ∃ w2, w2 = (w.alloc (sobj zSt)).alloc (.cells (Lib.cellsOf (lwordsB s) 15) 9) := ⟨_, rfl⟩
  have HSP : Hid (Calls Tryz.prog 80 #[.string ⟨(lineL s).toArray⟩, .string ⟨#[32]⟩, .int .i64 15] (w.alloc (sobj zSt)) fun e w' => e = .returned (.slice (some ⟨w.heap.size + 1, 0, none⟩) 14 15) ∧ w' = w2) := by
    rw [hw2]
    exact Calls.mono hsp fun e w' ⟨h1, h2⟩ => ⟨by rw [h1]; simp, h2⟩
  have HW : Hid (∀ (j : Nat) y, (lwordsB s)[j]? = some y → w2.cell? ⟨w.heap.size + 1, j, none⟩ = some (.string y)) := fun j y hj => by
    have h1 := cellsOf_at (M := 15) hj
    rw [hw2]
    generalize Lib.cellsOf (lwordsB s) 15 = cs at *
    have hsz : (w.alloc (sobj zSt)).heap.size = w.heap.size + 1 := by simp
    have := World.cell?_alloc_at (w := w.alloc (sobj zSt)) cs 9 (w.heap.size + 1) j hsz.symm
    rw [this]
    exact h1
  have HB2 : Hid (Below w.heap.size w w2) := by show Below _ _ _; rw [hw2]; exact al0.alloc (by simp) _
  have KR2 : Hid (Sf w.heap.size zSt w2) := by show Sf _ _ _; rw [hw2]; exact (Sf.new w zSt).later ((Below.refl _ _).alloc (Nat.le_refl _) _)
  have L2 : Hid (w.heap.size + 1 < w2.heap.size) := by show _ < _; rw [hw2]; simp
  clear hw2 hsp hm hT hcp hsz al0
  have HCT : Hid (Calls Tryz.prog 81 #[.slice (some ⟨w.heap.size + 1, 0, none⟩) 14 15, .string ⟨#[]⟩] w2 fun e w' => e = .returned (.bool false) ∧ w' = w2) := by
    have := Tryz.slices_Contains_string (w.heap.size + 1) 0 14 15 (lwordsB s) ⟨#[]⟩ w2 (by omega) (by decide) (fun j hj => by
      rw [Nat.zero_add]
      refine HW.out j _ ?_
      rw [List.getD_eq_getElem?_getD, List.getElem?_eq_getElem hj]; rfl)
    rw [words_none hp h0] at this
    exact this
  have HPL : Hid (1 ≤ s.slot ∧ s.slot ≤ 12 ∧ lab s.name = true) := plc_in hp
  obtain ⟨i, hi, hi13, hti⟩ := itoa_slot HPL.out.1 HPL.out.2.1
  have HNAME : Hid (s.name.size ≤ maxLen) := by have := lab_in HPL.out.2.2; show _ ≤ _; unfold maxLen; omega
  have W0 : w2.cell? ⟨w.heap.size + 1, 0, none⟩ = some (.string ⟨(Lib.decDigits i).toArray⟩) := by rw [← hti]; exact HW.out 0 _ (lwordsB_0 s)
  have HRN : Hid (∀ W : World, Calls Tryz.prog 82 #[.string ⟨(Lib.decDigits i).toArray⟩] W fun e w' => e = .returned (.tuple #[.int .i64 s.slot, .bool true]) ∧ Below W.heap.size W w') := fun W => by rw [hi]; exact readNumber_any i hi13 W
  have HPC : Hid (∀ W : World, Calls Tryz.prog 20 #[sv ⟨s.slot, zWr, s.name⟩] W fun e w' => e = .returned (.int .i64 0) ∧ Below W.heap.size W w') := fun W => by
    have := placing_any ⟨s.slot, zWr, s.name⟩ W ⟨Nat.zero_le _, HNAME.out⟩
    rw [show plc ⟨s.slot, zWr, s.name⟩ = 0 from hp] at this
    exact this
  have hjl := show_size h0
  have hw12 : (wordsL s.ware).length = 12 := by have := (lwords_fine hp h0).1; unfold lwords at this; simpa using this
  have hjd : ((wordsL s.ware).map fun x => (⟨x.toArray⟩ : ByteArray)).map (·.data.toList) = wordsL s.ware := by simp [Function.comp_def]
  have HJN : Hid (∀ W : World, Below w2.heap.size w2 W → Calls Tryz.prog 56 #[.slice (some ⟨w.heap.size + 1, 2, none⟩) 12 13, .string ⟨#[32]⟩] W fun e w' => e = .returned (.string ⟨(showL s.ware).toArray⟩) ∧ Below W.heap.size W w') := fun W hW => by
    have := Tryz.strings_Join (w.heap.size + 1) 2 13 ((wordsL s.ware).map fun x => (⟨x.toArray⟩ : ByteArray)) ⟨#[32]⟩ W (fun j y hj => by
      refine cell_later hW (HW.out (2 + j) y ?_)
      rw [lwordsB_2]; exact hj) (Nat.lt_of_lt_of_le L2.out hW.size) (by simp [hw12]) (by simp [hw12]) (by
      rw [hjd]
      have := hjl.1
      show (showL s.ware).length ≤ _
      omega)
    rw [hjd, List.length_map, hw12] at this
    exact this
  have HRS : Hid (∀ W : World, Below w2.heap.size w2 W → Calls Tryz.prog 83 #[.string ⟨(showL s.ware).toArray⟩] W fun e w' => e = .returned (.tuple #[wv s.ware, .int .i64 0]) ∧ Below W.heap.size W w') := fun W hW => read_show s.ware W h0 ((HT.out.next HB2.out).next hW)
  have W1 : Hid (w2.cell? ⟨w.heap.size + 1, 1, none⟩ = some (.string s.name)) := HW.out 1 _ (lwordsB_1 s)
  clear hp h0 hlen hjl hw12 hjd hi hi13 hti
  generalize Lib.decDigits i = dg at *
  generalize lineL s = tx at *
  generalize showL s.ware = sh at *
  go_enter Tryz.func60, Tryz.ntmps60
  go_wp2_with fail
  refine Calls.mono HSP.out ?_
  rintro e wx ⟨rfl, hx⟩
  have hx := hx.symm
  subst hx
  go_wp2_with fail
  refine Calls.mono HCT.out ?_
  rintro e wx ⟨rfl, hx⟩
  have hx := hx.symm
  subst hx
  go_wp2_with fail
  refine Calls.mono (HRN.out _) ?_
  rintro e w3 ⟨rfl, hb3⟩
  have HB3 : Hid (Below w2.heap.size w2 w3) := hb3
  have W13 : w3.cell? ⟨w.heap.size + 1, 1, none⟩ = some (.string s.name) := cell_later hb3 W1.out
  clear hb3 W0 HCT HRN HSP
  go_wp2_with fail
  refine Calls.mono (HPC.out (w3.alloc (sobj ⟨s.slot, zWr, s.name⟩))) ?_
  rintro e w4 ⟨rfl, hb4⟩
  have al3 : Below w2.heap.size w2 (w3.alloc (sobj ⟨s.slot, zWr, s.name⟩)) := HB3.out.alloc HB3.out.size _
  have KQ4 : Hid (Sf w3.heap.size ⟨s.slot, zWr, s.name⟩ w4) := (Sf.new w3 ⟨s.slot, zWr, s.name⟩).later hb4
  have HB4 : Hid (Below w2.heap.size w2 w4) := al3.trans (hb4.mono (by have := HB3.out.size; simp; omega))
  clear hb4 al3 W13 HPC
  go_wp2_with fail
  refine Calls.mono (HJN.out w4 HB4.out) ?_
  rintro e w5 ⟨rfl, hb5⟩
  have HB5 : Hid (Below w2.heap.size w2 w5) := HB4.out.trans (hb5.mono HB4.out.size)
  have KQ5 : Hid (Sf w3.heap.size ⟨s.slot, zWr, s.name⟩ w5) := KQ4.out.later hb5
  clear hb5 HJN KQ4 HB4
  go_wp2_with fail
  refine Calls.mono (HRS.out w5 HB5.out) ?_
  rintro e w6 ⟨rfl, hb6⟩
  have HB6 : Hid (Below w2.heap.size w2 w6) := HB5.out.trans (hb6.mono HB5.out.size)
  obtain ⟨⟨ql, q0, q1, q2, q3, q4, q5, q6, q7, q8, q9, q10, q11, q12, q13⟩, g0, g1, g2, g3, g4, g5, g6, g7, g8, g9, g10, g11, g12, g13⟩ := KQ5.out.later hb6
  obtain ⟨⟨rl, r0, r1, r2, r3, r4, r5, r6, r7, r8, r9, r10, r11, r12, r13⟩, y0, y1, y2, y3, y4, y5, y6, y7, y8, y9, y10, y11, y12, y13⟩ := KR2.out.later HB6.out
  simp only [Nat.zero_add] at q1 q2 q3 q4 q5 q6 q7 q8 q9 q10 q11 q12 q13 r1 r2 r3 r4 r5 r6 r7 r8 r9 r10 r11 r12 r13
  have L3 := HB3.out.size
  have L2' := L2.out
  have hne : w.heap.size ≠ w3.heap.size := by omega
  have hne2 : w3.heap.size ≠ w.heap.size := by omega
  clear hb6 KQ5 HRS HB5
  have HBW : Hid (Below w.heap.size w w6) := HB2.out.trans (HB6.out.mono HB2.out.size)
  go_wp2
  refine bodyPost_ret (v := .tuple #[sv s, .int .i64 0]) (by simp [results, Tryz.results60, go_sem, r0, r1, r2, r3, r4, r5, r6, r7, r8, r9, r10, r11, r12, r13, rl]) rfl ⟨rfl, ?_⟩
  exact (below_put14 (s := s) (below_put12 (g := s.ware) HBW.out (by omega)) (Nat.le_refl _)).alloc (by have := HBW.out.size; simp [World.setCell]; omega) _

end Go.Proofs.YtmmpaaaifdikdaaGreatDoor
