/- A ware out of a text, the document's way: kind 2. -/
import Derived.Test.YtefjeohhdmmboaaDoorRWareV
import Derived.Test.YtefjeohhdmmboaaDoorSeq
import Derived.Test.YtefjeohhdmmboaaDoorRefs
namespace Go.Proofs.YtefjeohhdmmboaaDoor
open Go.RowKit Go.Shelf
set_option maxHeartbeats 6400000 in
set_option maxRecDepth 100000 in
theorem rw_good2 (s : ByteArray) (w : World) (hs : s.size ≤ 1048576) (x0 y0 y1 y2 y3 y4 y5 y6 y7 y8 y9 : ByteArray) (hW : wordsA s = x0 :: (⟨#[114, 97, 99, 107]⟩ : ByteArray) :: [y0, y1, y2, y3, y4, y5, y6, y7, y8, y9]) (hl : lab x0 = true) :
    Calls Tryd.prog 10 #[.string s] w fun e w' => e = .returned (rdOut x0 (⟨#[114, 97, 99, 107]⟩ : ByteArray) [y0, y1, y2, y3, y4, y5, y6, y7, y8, y9]) ∧ Below w.heap.size w w' := by
  obtain ⟨ys, hys⟩ : ∃ ys, ys = [y0, y1, y2, y3, y4, y5, y6, y7, y8, y9] := ⟨_, rfl⟩
  have HYS : Hid (ys = [y0, y1, y2, y3, y4, y5, y6, y7, y8, y9]) := hys
  rw [← hys] at hW ⊢
  have HW : Hid (wordsA s = x0 :: (⟨#[114, 97, 99, 107]⟩ : ByteArray) :: ys) := hW
  have HY : Hid (ys.length = 10) := show _ = _ by rw [hys]; rfl
  have HLB : Hid (lab x0 = true) := hl
  clear hW hys
  go_enter Tryd.func10, Tryd.ntmps10
  go_wp2_with fail
  refine (splitAt_any s _ hs).mono ?_
  rintro e w1 ⟨v, rfl, hown, hsz, hlen, hb1⟩
  have hB1 : Below w.heap.size w w1 := ((Below.refl _ _).alloc (Nat.le_refl _) _).trans (hb1.mono (by simp))
  have hZ : ZBox w.heap.size w1 := (new_zbox w 23).later hb1 (by simp)
  rw [HW.out] at hown hsz
  obtain ⟨g, cap, rfl, hg, hcap, hc⟩ := hown.read (by simp)
  have hl12 : (x0 :: (⟨#[114, 97, 99, 107]⟩ : ByteArray) :: ys).length = 12 := by simp [HY.out]
  rw [hl12]
  have c0 : w1.cell? ⟨g, 0, none⟩ = some (.string x0) := hc 0 x0 rfl
  have c1 : w1.cell? ⟨g, 1, none⟩ = some (.string (⟨#[114, 97, 99, 107]⟩ : ByteArray)) := hc 1 (⟨#[114, 97, 99, 107]⟩ : ByteArray) rfl
  have HCELL : Hid (∀ (j : Nat) x, (x0 :: (⟨#[114, 97, 99, 107]⟩ : ByteArray) :: ys)[j]? = some x → w1.cell? ⟨g, 0 + j, none⟩ = some (.string x)) := hc
  have HSZ : Hid (∀ x ∈ x0 :: (⟨#[114, 97, 99, 107]⟩ : ByteArray) :: ys, x.size ≤ maxLen) := fun x hx => Nat.le_trans (hsz x hx) (by unfold maxLen; omega)
  clear hc hown hsz hlen hb1 hl12 hcap
  go_wp2_with (go_at_call 33; refine (labelMay_any x0 _ (HSZ.out x0 (by simp))).mono ?_; rintro e w2 ⟨rfl, hw2⟩; subst hw2; rw [hl])
  go_loopw [6, 7] (fun n i wr => ∃ j : Nat, 2 ≤ j ∧ j ≤ 12 ∧ i = .int .i64 j ∧ OwnI wr w2.heap.size n ((ys.take (j - 2)).map fun y => numV y.data.toList) ∧ Below w2.heap.size w2 wr ∧ ∀ y ∈ ys.take (j - 2), numOk y.data.toList = true) (fun _ i _ => 12 - (intOf i).toNat)
  case atStart => exact ⟨2, by omega, by omega, rfl, OwnI.nil _ _, Below.refl _ _, by simp⟩
  case round =>
    obtain ⟨j, hj2, hj12, rfl, hown, hbr, hgood⟩ := hrel
    have HO : Hid (OwnI wr w2.heap.size u6 ((ys.take (j - 2)).map fun y => numV y.data.toList)) := hown
    have HBR : Hid (Below w2.heap.size w2 wr) := hbr
    have HG : Hid (∀ y ∈ ys.take (j - 2), numOk y.data.toList = true) := hgood
    have hZr : ZBox w.heap.size wr := hZ.later hbr hZ.lt
    have HBW : Hid (Below w.heap.size w wr) := hB1.trans (hbr.mono hB1.size)
    clear hown hbr hgood
    by_cases hj : j < 12
    · obtain ⟨y, hy⟩ : ∃ y, ys[j - 2]? = some y := ⟨ys[j - 2]'(by rw [HY.out]; omega), by simp⟩
      have HYJ : Hid (ys[j - 2]? = some y) := hy
      have hc : wr.cell? ⟨g, j, none⟩ = some (.string y) := by
        have := HCELL.out j y ((at_two hj2).trans hy)
        rw [Nat.zero_add] at this
        exact cell_later HBR.out this
      have hym : y ∈ ys := List.mem_of_getElem? hy
      have hyz : y.size ≤ maxLen := HSZ.out y (by simp [hym])
      have HYM : Hid (y ∈ ys) := hym
      have i0 : (0 : Int) ≤ (j : Int) := by omega
      have i1 : (j : Int) < 12 := by omega
      clear hy hym
      cases hok : numOk y.data.toList with
      | false =>
        have HBAD : Hid (pOk x0 (⟨#[114, 97, 99, 107]⟩ : ByteArray) ys = false) := show _ = _ by
          unfold pOk
          have : (ys.all fun x => numOk x.data.toList) = false := by
            rw [List.all_eq_false]
            exact ⟨y, HYM.out, by simp [hok]⟩
          rw [this]; simp
        have HD : Hid (numD y.data.toList = -1) := numD_no hok
        clear hok
        have r0 : wr.cell? ⟨w.heap.size, 0, none⟩ = some (.string ⟨#[]⟩) := hZr.cell 0 _ rfl
        have f0 : wr.frozen? ⟨w.heap.size, 0, none⟩ = false := hZr.frz 0 (by decide)
        have r1 : wr.cell? ⟨w.heap.size, 1, none⟩ = some (.int .i64 0) := hZr.cell 1 _ rfl
        have f1 : wr.frozen? ⟨w.heap.size, 1, none⟩ = false := hZr.frz 1 (by decide)
        have r2 : wr.cell? ⟨w.heap.size, 2, none⟩ = some (.int .i64 0) := hZr.cell 2 _ rfl
        have f2 : wr.frozen? ⟨w.heap.size, 2, none⟩ = false := hZr.frz 2 (by decide)
        have r3 : wr.cell? ⟨w.heap.size, 3, none⟩ = some (.int .i64 0) := hZr.cell 3 _ rfl
        have f3 : wr.frozen? ⟨w.heap.size, 3, none⟩ = false := hZr.frz 3 (by decide)
        have r4 : wr.cell? ⟨w.heap.size, 4, none⟩ = some (.int .i64 0) := hZr.cell 4 _ rfl
        have f4 : wr.frozen? ⟨w.heap.size, 4, none⟩ = false := hZr.frz 4 (by decide)
        have r5 : wr.cell? ⟨w.heap.size, 5, none⟩ = some (.int .i64 0) := hZr.cell 5 _ rfl
        have f5 : wr.frozen? ⟨w.heap.size, 5, none⟩ = false := hZr.frz 5 (by decide)
        have r6 : wr.cell? ⟨w.heap.size, 6, none⟩ = some (.int .i64 0) := hZr.cell 6 _ rfl
        have f6 : wr.frozen? ⟨w.heap.size, 6, none⟩ = false := hZr.frz 6 (by decide)
        have r7 : wr.cell? ⟨w.heap.size, 7, none⟩ = some (.int .i64 0) := hZr.cell 7 _ rfl
        have f7 : wr.frozen? ⟨w.heap.size, 7, none⟩ = false := hZr.frz 7 (by decide)
        have r8 : wr.cell? ⟨w.heap.size, 8, none⟩ = some (.int .i64 0) := hZr.cell 8 _ rfl
        have f8 : wr.frozen? ⟨w.heap.size, 8, none⟩ = false := hZr.frz 8 (by decide)
        have r9 : wr.cell? ⟨w.heap.size, 9, none⟩ = some (.int .i64 0) := hZr.cell 9 _ rfl
        have f9 : wr.frozen? ⟨w.heap.size, 9, none⟩ = false := hZr.frz 9 (by decide)
        have r10 : wr.cell? ⟨w.heap.size, 10, none⟩ = some (.int .i64 0) := hZr.cell 10 _ rfl
        have f10 : wr.frozen? ⟨w.heap.size, 10, none⟩ = false := hZr.frz 10 (by decide)
        have r11 : wr.cell? ⟨w.heap.size, 11, none⟩ = some (.int .i64 0) := hZr.cell 11 _ rfl
        have f11 : wr.frozen? ⟨w.heap.size, 11, none⟩ = false := hZr.frz 11 (by decide)
        have lt := hZr.lt
        clear hZr hZ
        go_wp2_with (go_at_call 34; refine (digitsOf_any y _ hyz).mono ?_; rintro e wx ⟨rfl, hwx⟩; subst hwx; rw [HD.out])
        refine bodyPost_ret (v := .tuple #[wv zW, .int .i64 1]) (by simp [results, Tryd.results10, go_sem, r0, r1, r2, r3, r4, r5, r6, r7, r8, r9, r10, r11, zW]) rfl ⟨by rw [rdOut_no HBAD.out], ?_⟩
        exact ((((((((((((HBW.out.setCell (Nat.le_refl _) _).setCell (Nat.le_refl _) _).setCell (Nat.le_refl _) _).setCell (Nat.le_refl _) _).setCell (Nat.le_refl _) _).setCell (Nat.le_refl _) _).setCell (Nat.le_refl _) _).setCell (Nat.le_refl _) _).setCell (Nat.le_refl _) _).setCell (Nat.le_refl _) _).setCell (Nat.le_refl _) _).setCell (Nat.le_refl _) _)
      | true =>
        obtain ⟨n, hn⟩ : ∃ n, n = numV y.data.toList := ⟨_, rfl⟩
        have n0 : 0 ≤ n := by rw [hn]; exact numV_nonneg _
        have HD : Hid (numD y.data.toList = n) := show _ = _ by rw [hn]; exact numD_yes hok
        have HN : Hid (n = numV y.data.toList) := hn
        have HOK : Hid (numOk y.data.toList = true) := hok
        have HSW : Hid (w2.heap.size ≤ wr.heap.size) := HBR.out.size
        clear hok hn hZr hZ
        go_wp2_with fail
        refine (digitsOf_any y _ hyz).mono ?_
        rintro e wx ⟨rfl, hwx⟩
        subst hwx
        rw [HD.out]
        go_wp2_with (at_builtin; refine wpList_append_num _ rfl (.tmp 49) (.tmp 51) rfl w2.heap.size u6 _ rfl (HO.out.later ((Below.refl _ _).alloc (Nat.le_refl _) _)) wx.heap.size n rfl (by go_simp) (by simp; omega) (by have h1 := HSW.out; simp; omega) ?_; intro v' w6 hown1 hg1 hloc)
        go_roundw
        case rel =>
          have hw5 : Below w2.heap.size w2 (wx.alloc (.cells #[.int .i64 n] 3)) := HBR.out.alloc HSW.out _
          have et : ys.take (j + 1 - 2) = ys.take (j - 2) ++ [y] := by
            rw [show j + 1 - 2 = (j - 2) + 1 by omega, List.take_add_one, HYJ.out]; rfl
          refine ⟨j + 1, by omega, by omega, by go_num, ?_, hw5.grown hg1 (by have h1 := HSW.out; simp; omega) (fun g hg => (World.ownsRow.lt HO.out g hg).1), ?_⟩
          · rw [et, List.map_append]
            simpa [← HN.out] using hown1
          · rw [et]
            intro z hz
            rcases List.mem_append.1 hz with h | h
            · exact HG.out z h
            · rw [List.mem_singleton.1 h]; exact HOK.out
        case measure => simp [intOf]; omega
    · have ht : ys.take (j - 2) = ys := List.take_of_length_le (by rw [HY.out]; omega)
      have hO := HO.out
      have hG := HG.out
      rw [ht] at hO hG
      obtain ⟨A, hA⟩ : ∃ A, A = pW x0 (⟨#[114, 97, 99, 107]⟩ : ByteArray) ys := ⟨_, rfl⟩
      have HA : Hid (A = pW x0 (⟨#[114, 97, 99, 107]⟩ : ByteArray) ys) := hA
      have HPO : Hid (pOk x0 (⟨#[114, 97, 99, 107]⟩ : ByteArray) ys = true) := show _ = _ by
        unfold pOk
        have : (ys.all fun x => numOk x.data.toList) = true := by
          rw [List.all_eq_true]; exact hG
        rw [this, HLB.out]; rfl
      obtain ⟨g6, cap6, rfl, hd⟩ := hO.read (by rw [HYS.out]; simp)
      rw [HYS.out] at hA hd
      have hAn : A.name = x0 := by rw [hA]; rfl
      have hAk : A.kind = 2 := by rw [hA]; rfl
      have d0 : wr.cell? ⟨g6, 0, none⟩ = some (.int .i64 A.rows) := by rw [hA]; exact hd 0 _ rfl
      have d1 : wr.cell? ⟨g6, 1, none⟩ = some (.int .i64 A.cols) := by rw [hA]; exact hd 1 _ rfl
      have d2 : wr.cell? ⟨g6, 2, none⟩ = some (.int .i64 A.x) := by rw [hA]; exact hd 2 _ rfl
      have d3 : wr.cell? ⟨g6, 3, none⟩ = some (.int .i64 A.y) := by rw [hA]; exact hd 3 _ rfl
      have d4 : wr.cell? ⟨g6, 4, none⟩ = some (.int .i64 A.pitch) := by rw [hA]; exact hd 4 _ rfl
      have d5 : wr.cell? ⟨g6, 5, none⟩ = some (.int .i64 A.wid) := by rw [hA]; exact hd 5 _ rfl
      have d6 : wr.cell? ⟨g6, 6, none⟩ = some (.int .i64 A.len) := by rw [hA]; exact hd 6 _ rfl
      have d7 : wr.cell? ⟨g6, 7, none⟩ = some (.int .i64 A.hei) := by rw [hA]; exact hd 7 _ rfl
      have d8 : wr.cell? ⟨g6, 8, none⟩ = some (.int .i64 A.deep) := by rw [hA]; exact hd 8 _ rfl
      have d9 : wr.cell? ⟨g6, 9, none⟩ = some (.int .i64 A.cap) := by rw [hA]; exact hd 9 _ rfl
      have hl10 : (ys.map fun y => numV y.data.toList).length = 10 := by rw [List.length_map]; exact HY.out
      rw [hl10]
      have c0 : wr.cell? ⟨g, 0, none⟩ = some (.string A.name) := by rw [hAn]; exact cell_later HBR.out c0
      have HAS : Hid (A.name.size ≤ maxLen) := show _ ≤ _ by rw [hAn]; exact HSZ.out x0 (by simp)
      have HAK : Hid (A.kind = 2) := hAk
      have HZR : Hid (ZBox w.heap.size wr) := hZr
      clear hA hd ht hO hG hAn hAk hZr hZ hl10
      clear c1
      go_wp2_with fail
      refine region_seq 36 [false, false, false, false, false, false, false, false, false, true, false, false, false, false, false, false, false, false, false, false, false, false, false, false, false, false, false, false, false, false, false, false, false, false, false, false, false, false, false, false, false, false, false, false, false, false, false, false, false, false, false, false, false, true, true, true, true, true, true, true, true, true, true, true, true, true, true, true, true, true, true, true, true, true, true, true, true, true, true, true, true, true, true, true, true, true, true, true, false, false, false, false, false, false, false]
        [(53, [], none), (54, [53], none), (55, [54], none), (56, [], none), (57, [], none), (58, [57], none), (59, [58], none), (60, [], none), (61, [60], none), (62, [61], none), (63, [], none), (64, [63], none), (65, [64], none), (66, [], none), (67, [66], none), (68, [67], none), (69, [], none), (70, [69], none), (71, [70], none), (72, [], none), (73, [72], none), (74, [73], none), (75, [], none), (76, [75], none), (77, [76], none), (78, [], none), (79, [78], none), (80, [79], none), (81, [], none), (82, [81], none), (83, [82], none), (84, [], none), (85, [84], none), (86, [85], none), (87, [55, 56, 59, 62, 65, 68, 71, 74, 77, 80, 83, 86], none), (9, [], none)]
        (rwV A 2 g cap g6 cap6 wr.heap.size) (by kernel_rfl) (by kernel_rfl) (by kernel_rfl) (by kernel_rfl) (by kernel_rfl) (by decide) (rwV_mono A 2 g cap g6 cap6 wr.heap.size) ?_ ?_
      · refine ⟨?_, ?_, ?_, ?_, ?_, ?_, ?_, ?_, ?_, ?_, ?_, ?_, ?_, ?_, ?_, ?_, ?_, ?_, ?_, ?_, ?_, ?_, ?_, ?_, ?_, ?_, ?_, ?_, ?_, ?_, ?_, ?_, ?_, ?_, ?_, ?_, trivial⟩
        · intro f wq hb _ K hK
          simp only [over, overL, Nat.reduceAdd]
          go_simp
          exact hK _ _ ⟨_, rfl, by simp only [over, overL, Nat.reduceAdd]; rfl, Below.refl _ _⟩
        · intro f wq hb ⟨h53, _⟩ K hK
          have h53 : f 53 = _ := h53
          simp only [over, overL, Nat.reduceAdd, h53]
          go_simp
          exact hK _ _ ⟨_, rfl, by simp only [over, overL, Nat.reduceAdd, h53]; rfl, Below.refl _ _⟩
        · intro f wq hb ⟨h54, _⟩ K hK
          have cl : wq.cell? ⟨g, 0, none⟩ = some (.string A.name) := cell_later hb c0
          have h54 : f 54 = _ := h54
          simp only [over, overL, Nat.reduceAdd, h54]
          go_simp
          exact hK _ _ ⟨_, rfl, by simp only [over, overL, Nat.reduceAdd, h54]; rfl, Below.refl _ _⟩
        · intro f wq hb _ K hK
          simp only [over, overL, Nat.reduceAdd]
          go_simp
          exact hK _ _ ⟨_, rfl, by simp only [over, overL, Nat.reduceAdd]; rfl, Below.refl _ _⟩
        · intro f wq hb _ K hK
          simp only [over, overL, Nat.reduceAdd]
          go_simp
          exact hK _ _ ⟨_, rfl, by simp only [over, overL, Nat.reduceAdd]; rfl, Below.refl _ _⟩
        · intro f wq hb ⟨h57, _⟩ K hK
          have h57 : f 57 = _ := h57
          simp only [over, overL, Nat.reduceAdd, h57]
          go_simp
          exact hK _ _ ⟨_, rfl, by simp only [over, overL, Nat.reduceAdd, h57]; rfl, Below.refl _ _⟩
        · intro f wq hb ⟨h58, _⟩ K hK
          have cl : wq.cell? ⟨g6, 0, none⟩ = some (.int .i64 A.rows) := cell_later hb d0
          have h58 : f 58 = _ := h58
          simp only [over, overL, Nat.reduceAdd, h58]
          go_simp
          exact hK _ _ ⟨_, rfl, by simp only [over, overL, Nat.reduceAdd, h58]; rfl, Below.refl _ _⟩
        · intro f wq hb _ K hK
          simp only [over, overL, Nat.reduceAdd]
          go_simp
          exact hK _ _ ⟨_, rfl, by simp only [over, overL, Nat.reduceAdd]; rfl, Below.refl _ _⟩
        · intro f wq hb ⟨h60, _⟩ K hK
          have h60 : f 60 = _ := h60
          simp only [over, overL, Nat.reduceAdd, h60]
          go_simp
          exact hK _ _ ⟨_, rfl, by simp only [over, overL, Nat.reduceAdd, h60]; rfl, Below.refl _ _⟩
        · intro f wq hb ⟨h61, _⟩ K hK
          have cl : wq.cell? ⟨g6, 1, none⟩ = some (.int .i64 A.cols) := cell_later hb d1
          have h61 : f 61 = _ := h61
          simp only [over, overL, Nat.reduceAdd, h61]
          go_simp
          exact hK _ _ ⟨_, rfl, by simp only [over, overL, Nat.reduceAdd, h61]; rfl, Below.refl _ _⟩
        · intro f wq hb _ K hK
          simp only [over, overL, Nat.reduceAdd]
          go_simp
          exact hK _ _ ⟨_, rfl, by simp only [over, overL, Nat.reduceAdd]; rfl, Below.refl _ _⟩
        · intro f wq hb ⟨h63, _⟩ K hK
          have h63 : f 63 = _ := h63
          simp only [over, overL, Nat.reduceAdd, h63]
          go_simp
          exact hK _ _ ⟨_, rfl, by simp only [over, overL, Nat.reduceAdd, h63]; rfl, Below.refl _ _⟩
        · intro f wq hb ⟨h64, _⟩ K hK
          have cl : wq.cell? ⟨g6, 2, none⟩ = some (.int .i64 A.x) := cell_later hb d2
          have h64 : f 64 = _ := h64
          simp only [over, overL, Nat.reduceAdd, h64]
          go_simp
          exact hK _ _ ⟨_, rfl, by simp only [over, overL, Nat.reduceAdd, h64]; rfl, Below.refl _ _⟩
        · intro f wq hb _ K hK
          simp only [over, overL, Nat.reduceAdd]
          go_simp
          exact hK _ _ ⟨_, rfl, by simp only [over, overL, Nat.reduceAdd]; rfl, Below.refl _ _⟩
        · intro f wq hb ⟨h66, _⟩ K hK
          have h66 : f 66 = _ := h66
          simp only [over, overL, Nat.reduceAdd, h66]
          go_simp
          exact hK _ _ ⟨_, rfl, by simp only [over, overL, Nat.reduceAdd, h66]; rfl, Below.refl _ _⟩
        · intro f wq hb ⟨h67, _⟩ K hK
          have cl : wq.cell? ⟨g6, 3, none⟩ = some (.int .i64 A.y) := cell_later hb d3
          have h67 : f 67 = _ := h67
          simp only [over, overL, Nat.reduceAdd, h67]
          go_simp
          exact hK _ _ ⟨_, rfl, by simp only [over, overL, Nat.reduceAdd, h67]; rfl, Below.refl _ _⟩
        · intro f wq hb _ K hK
          simp only [over, overL, Nat.reduceAdd]
          go_simp
          exact hK _ _ ⟨_, rfl, by simp only [over, overL, Nat.reduceAdd]; rfl, Below.refl _ _⟩
        · intro f wq hb ⟨h69, _⟩ K hK
          have h69 : f 69 = _ := h69
          simp only [over, overL, Nat.reduceAdd, h69]
          go_simp
          exact hK _ _ ⟨_, rfl, by simp only [over, overL, Nat.reduceAdd, h69]; rfl, Below.refl _ _⟩
        · intro f wq hb ⟨h70, _⟩ K hK
          have cl : wq.cell? ⟨g6, 4, none⟩ = some (.int .i64 A.pitch) := cell_later hb d4
          have h70 : f 70 = _ := h70
          simp only [over, overL, Nat.reduceAdd, h70]
          go_simp
          exact hK _ _ ⟨_, rfl, by simp only [over, overL, Nat.reduceAdd, h70]; rfl, Below.refl _ _⟩
        · intro f wq hb _ K hK
          simp only [over, overL, Nat.reduceAdd]
          go_simp
          exact hK _ _ ⟨_, rfl, by simp only [over, overL, Nat.reduceAdd]; rfl, Below.refl _ _⟩
        · intro f wq hb ⟨h72, _⟩ K hK
          have h72 : f 72 = _ := h72
          simp only [over, overL, Nat.reduceAdd, h72]
          go_simp
          exact hK _ _ ⟨_, rfl, by simp only [over, overL, Nat.reduceAdd, h72]; rfl, Below.refl _ _⟩
        · intro f wq hb ⟨h73, _⟩ K hK
          have cl : wq.cell? ⟨g6, 5, none⟩ = some (.int .i64 A.wid) := cell_later hb d5
          have h73 : f 73 = _ := h73
          simp only [over, overL, Nat.reduceAdd, h73]
          go_simp
          exact hK _ _ ⟨_, rfl, by simp only [over, overL, Nat.reduceAdd, h73]; rfl, Below.refl _ _⟩
        · intro f wq hb _ K hK
          simp only [over, overL, Nat.reduceAdd]
          go_simp
          exact hK _ _ ⟨_, rfl, by simp only [over, overL, Nat.reduceAdd]; rfl, Below.refl _ _⟩
        · intro f wq hb ⟨h75, _⟩ K hK
          have h75 : f 75 = _ := h75
          simp only [over, overL, Nat.reduceAdd, h75]
          go_simp
          exact hK _ _ ⟨_, rfl, by simp only [over, overL, Nat.reduceAdd, h75]; rfl, Below.refl _ _⟩
        · intro f wq hb ⟨h76, _⟩ K hK
          have cl : wq.cell? ⟨g6, 6, none⟩ = some (.int .i64 A.len) := cell_later hb d6
          have h76 : f 76 = _ := h76
          simp only [over, overL, Nat.reduceAdd, h76]
          go_simp
          exact hK _ _ ⟨_, rfl, by simp only [over, overL, Nat.reduceAdd, h76]; rfl, Below.refl _ _⟩
        · intro f wq hb _ K hK
          simp only [over, overL, Nat.reduceAdd]
          go_simp
          exact hK _ _ ⟨_, rfl, by simp only [over, overL, Nat.reduceAdd]; rfl, Below.refl _ _⟩
        · intro f wq hb ⟨h78, _⟩ K hK
          have h78 : f 78 = _ := h78
          simp only [over, overL, Nat.reduceAdd, h78]
          go_simp
          exact hK _ _ ⟨_, rfl, by simp only [over, overL, Nat.reduceAdd, h78]; rfl, Below.refl _ _⟩
        · intro f wq hb ⟨h79, _⟩ K hK
          have cl : wq.cell? ⟨g6, 7, none⟩ = some (.int .i64 A.hei) := cell_later hb d7
          have h79 : f 79 = _ := h79
          simp only [over, overL, Nat.reduceAdd, h79]
          go_simp
          exact hK _ _ ⟨_, rfl, by simp only [over, overL, Nat.reduceAdd, h79]; rfl, Below.refl _ _⟩
        · intro f wq hb _ K hK
          simp only [over, overL, Nat.reduceAdd]
          go_simp
          exact hK _ _ ⟨_, rfl, by simp only [over, overL, Nat.reduceAdd]; rfl, Below.refl _ _⟩
        · intro f wq hb ⟨h81, _⟩ K hK
          have h81 : f 81 = _ := h81
          simp only [over, overL, Nat.reduceAdd, h81]
          go_simp
          exact hK _ _ ⟨_, rfl, by simp only [over, overL, Nat.reduceAdd, h81]; rfl, Below.refl _ _⟩
        · intro f wq hb ⟨h82, _⟩ K hK
          have cl : wq.cell? ⟨g6, 8, none⟩ = some (.int .i64 A.deep) := cell_later hb d8
          have h82 : f 82 = _ := h82
          simp only [over, overL, Nat.reduceAdd, h82]
          go_simp
          exact hK _ _ ⟨_, rfl, by simp only [over, overL, Nat.reduceAdd, h82]; rfl, Below.refl _ _⟩
        · intro f wq hb _ K hK
          simp only [over, overL, Nat.reduceAdd]
          go_simp
          exact hK _ _ ⟨_, rfl, by simp only [over, overL, Nat.reduceAdd]; rfl, Below.refl _ _⟩
        · intro f wq hb ⟨h84, _⟩ K hK
          have h84 : f 84 = _ := h84
          simp only [over, overL, Nat.reduceAdd, h84]
          go_simp
          exact hK _ _ ⟨_, rfl, by simp only [over, overL, Nat.reduceAdd, h84]; rfl, Below.refl _ _⟩
        · intro f wq hb ⟨h85, _⟩ K hK
          have cl : wq.cell? ⟨g6, 9, none⟩ = some (.int .i64 A.cap) := cell_later hb d9
          have h85 : f 85 = _ := h85
          simp only [over, overL, Nat.reduceAdd, h85]
          go_simp
          exact hK _ _ ⟨_, rfl, by simp only [over, overL, Nat.reduceAdd, h85]; rfl, Below.refl _ _⟩
        · intro f wq hb ⟨h55, h56, h59, h62, h65, h68, h71, h74, h77, h80, h83, h86, _⟩ K hK
          have h55 : f 55 = _ := h55
          have h56 : f 56 = _ := h56
          have h59 : f 59 = _ := h59
          have h62 : f 62 = _ := h62
          have h65 : f 65 = _ := h65
          have h68 : f 68 = _ := h68
          have h71 : f 71 = _ := h71
          have h74 : f 74 = _ := h74
          have h77 : f 77 = _ := h77
          have h80 : f 80 = _ := h80
          have h83 : f 83 = _ := h83
          have h86 : f 86 = _ := h86
          simp only [over, overL, Nat.reduceAdd, h55, h56, h59, h62, h65, h68, h71, h74, h77, h80, h83, h86]
          go_simp
          exact hK _ _ ⟨_, rfl, by simp only [over, overL, Nat.reduceAdd, h55, h56, h59, h62, h65, h68, h71, h74, h77, h80, h83, h86]; rfl, Below.refl _ _⟩
        · intro f wq hb _ K hK
          simp only [over, overL, Nat.reduceAdd]
          go_simp
          exact hK _ _ ⟨_, new_w _ _ _ hb.size, by simp only [over, overL, Nat.reduceAdd]; rfl, (Below.refl _ _).alloc (Nat.le_refl _) _⟩
      · intro f w3 hb3 h
        have h87 : f 87 = wv A := rwV_87 _ _ _ _ _ _ _ _ _ HAK.out h.2.2.2.2.2.2.2.2.2.2.2.2.2.2.2.2.2.2.2.2.2.2.2.2.2.2.2.2.2.2.2.2.2.2.1
        obtain ⟨b, h9, hbb, hzz, hfz, hbs⟩ := rwV_9 _ _ _ _ _ _ _ _ _ h.2.2.2.2.2.2.2.2.2.2.2.2.2.2.2.2.2.2.2.2.2.2.2.2.2.2.2.2.2.2.2.2.2.2.2.1
        have z0 : w3.cell? ⟨b, 0, none⟩ = some (.string ⟨#[]⟩) := hzz 0 _ rfl
        have y0 : w3.frozen? ⟨b, 0, none⟩ = false := hfz 0 (by decide)
        have z1 : w3.cell? ⟨b, 1, none⟩ = some (.int .i64 0) := hzz 1 _ rfl
        have y1 : w3.frozen? ⟨b, 1, none⟩ = false := hfz 1 (by decide)
        have z2 : w3.cell? ⟨b, 2, none⟩ = some (.int .i64 0) := hzz 2 _ rfl
        have y2 : w3.frozen? ⟨b, 2, none⟩ = false := hfz 2 (by decide)
        have z3 : w3.cell? ⟨b, 3, none⟩ = some (.int .i64 0) := hzz 3 _ rfl
        have y3 : w3.frozen? ⟨b, 3, none⟩ = false := hfz 3 (by decide)
        have z4 : w3.cell? ⟨b, 4, none⟩ = some (.int .i64 0) := hzz 4 _ rfl
        have y4 : w3.frozen? ⟨b, 4, none⟩ = false := hfz 4 (by decide)
        have z5 : w3.cell? ⟨b, 5, none⟩ = some (.int .i64 0) := hzz 5 _ rfl
        have y5 : w3.frozen? ⟨b, 5, none⟩ = false := hfz 5 (by decide)
        have z6 : w3.cell? ⟨b, 6, none⟩ = some (.int .i64 0) := hzz 6 _ rfl
        have y6 : w3.frozen? ⟨b, 6, none⟩ = false := hfz 6 (by decide)
        have z7 : w3.cell? ⟨b, 7, none⟩ = some (.int .i64 0) := hzz 7 _ rfl
        have y7 : w3.frozen? ⟨b, 7, none⟩ = false := hfz 7 (by decide)
        have z8 : w3.cell? ⟨b, 8, none⟩ = some (.int .i64 0) := hzz 8 _ rfl
        have y8 : w3.frozen? ⟨b, 8, none⟩ = false := hfz 8 (by decide)
        have z9 : w3.cell? ⟨b, 9, none⟩ = some (.int .i64 0) := hzz 9 _ rfl
        have y9 : w3.frozen? ⟨b, 9, none⟩ = false := hfz 9 (by decide)
        have z10 : w3.cell? ⟨b, 10, none⟩ = some (.int .i64 0) := hzz 10 _ rfl
        have y10 : w3.frozen? ⟨b, 10, none⟩ = false := hfz 10 (by decide)
        have z11 : w3.cell? ⟨b, 11, none⟩ = some (.int .i64 0) := hzz 11 _ rfl
        have y11 : w3.frozen? ⟨b, 11, none⟩ = false := hfz 11 (by decide)
        have HB3 : Hid (Below w.heap.size w w3) := HBW.out.trans (hb3.mono HBW.out.size)
        have HLE : Hid (w.heap.size < wr.heap.size) := HZR.out.lt
        have HZ3 : Hid (ZBox w.heap.size w3) := HZR.out.later hb3 HZR.out.lt
        have HBB : Hid (wr.heap.size ≤ b) := hbb
        simp only [over_eq, overL, Nat.reduceAdd, List.drop_succ_cons, List.drop_zero, h87, h9]
        clear h hb3 h87 h9 hzz hfz hbb d0 d1 d2 d3 d4 d5 d6 d7 d8 d9 c0
        go_wp2_with fail
        obtain ⟨w5, hw5⟩ : ∃ w5, w5 = ((((((((((((w3.setCell ⟨b, 0, none⟩ (.string A.name)).setCell ⟨b, 1, none⟩ (.int .i64 A.kind)).setCell ⟨b, 2, none⟩ (.int .i64 A.rows)).setCell ⟨b, 3, none⟩ (.int .i64 A.cols)).setCell ⟨b, 4, none⟩ (.int .i64 A.x)).setCell ⟨b, 5, none⟩ (.int .i64 A.y)).setCell ⟨b, 6, none⟩ (.int .i64 A.pitch)).setCell ⟨b, 7, none⟩ (.int .i64 A.wid)).setCell ⟨b, 8, none⟩ (.int .i64 A.len)).setCell ⟨b, 9, none⟩ (.int .i64 A.hei)).setCell ⟨b, 10, none⟩ (.int .i64 A.deep)).setCell ⟨b, 11, none⟩ (.int .i64 A.cap)) := ⟨_, rfl⟩
        have q0 : w5.cell? ⟨b, 0, none⟩ = some (.string A.name) := by rw [hw5]; simp [go_sem, z0]
        have q1 : w5.cell? ⟨b, 1, none⟩ = some (.int .i64 A.kind) := by rw [hw5]; simp [go_sem, z1]
        have q2 : w5.cell? ⟨b, 2, none⟩ = some (.int .i64 A.rows) := by rw [hw5]; simp [go_sem, z2]
        have q3 : w5.cell? ⟨b, 3, none⟩ = some (.int .i64 A.cols) := by rw [hw5]; simp [go_sem, z3]
        have q4 : w5.cell? ⟨b, 4, none⟩ = some (.int .i64 A.x) := by rw [hw5]; simp [go_sem, z4]
        have q5 : w5.cell? ⟨b, 5, none⟩ = some (.int .i64 A.y) := by rw [hw5]; simp [go_sem, z5]
        have q6 : w5.cell? ⟨b, 6, none⟩ = some (.int .i64 A.pitch) := by rw [hw5]; simp [go_sem, z6]
        have q7 : w5.cell? ⟨b, 7, none⟩ = some (.int .i64 A.wid) := by rw [hw5]; simp [go_sem, z7]
        have q8 : w5.cell? ⟨b, 8, none⟩ = some (.int .i64 A.len) := by rw [hw5]; simp [go_sem, z8]
        have q9 : w5.cell? ⟨b, 9, none⟩ = some (.int .i64 A.hei) := by rw [hw5]; simp [go_sem, z9]
        have q10 : w5.cell? ⟨b, 10, none⟩ = some (.int .i64 A.deep) := by rw [hw5]; simp [go_sem, z10]
        have q11 : w5.cell? ⟨b, 11, none⟩ = some (.int .i64 A.cap) := by rw [hw5]; simp [go_sem, z11]
        have HB5 : Hid (Below w.heap.size w w5) := by
          have hle : w.heap.size ≤ b := by have h1 := HLE.out; have h2 := HBB.out; omega
          rw [hw5]
          exact ((((((((((((HB3.out.setCell hle _).setCell hle _).setCell hle _).setCell hle _).setCell hle _).setCell hle _).setCell hle _).setCell hle _).setCell hle _).setCell hle _).setCell hle _).setCell hle _)
        have HZ5 : Hid (ZBox w.heap.size w5) := by
          have hle : w.heap.size + 1 ≤ b := by have h1 := HLE.out; have h2 := HBB.out; omega
          refine HZ3.out.later (base := w.heap.size + 1) ?_ (by omega)
          rw [hw5]
          exact (((((((((((((Below.refl _ _).setCell hle _).setCell hle _).setCell hle _).setCell hle _).setCell hle _).setCell hle _).setCell hle _).setCell hle _).setCell hle _).setCell hle _).setCell hle _).setCell hle _)
        rw [← hw5]
        clear hw5 z0 y0 z1 y1 z2 y2 z3 y3 z4 y4 z5 y5 z6 y6 z7 y7 z8 y8 z9 y9 z10 y10 z11 y11
        refine (wareMay_any A _ HAS.out).mono ?_
        rintro e w6 ⟨rfl, hb6⟩
        have q0 : w6.cell? ⟨b, 0, none⟩ = some (.string A.name) := cell_later hb6 q0
        have q1 : w6.cell? ⟨b, 1, none⟩ = some (.int .i64 A.kind) := cell_later hb6 q1
        have q2 : w6.cell? ⟨b, 2, none⟩ = some (.int .i64 A.rows) := cell_later hb6 q2
        have q3 : w6.cell? ⟨b, 3, none⟩ = some (.int .i64 A.cols) := cell_later hb6 q3
        have q4 : w6.cell? ⟨b, 4, none⟩ = some (.int .i64 A.x) := cell_later hb6 q4
        have q5 : w6.cell? ⟨b, 5, none⟩ = some (.int .i64 A.y) := cell_later hb6 q5
        have q6 : w6.cell? ⟨b, 6, none⟩ = some (.int .i64 A.pitch) := cell_later hb6 q6
        have q7 : w6.cell? ⟨b, 7, none⟩ = some (.int .i64 A.wid) := cell_later hb6 q7
        have q8 : w6.cell? ⟨b, 8, none⟩ = some (.int .i64 A.len) := cell_later hb6 q8
        have q9 : w6.cell? ⟨b, 9, none⟩ = some (.int .i64 A.hei) := cell_later hb6 q9
        have q10 : w6.cell? ⟨b, 10, none⟩ = some (.int .i64 A.deep) := cell_later hb6 q10
        have q11 : w6.cell? ⟨b, 11, none⟩ = some (.int .i64 A.cap) := cell_later hb6 q11
        have HB6 : Hid (Below w.heap.size w w6) := HB5.out.trans (hb6.mono HB5.out.size)
        have hZ6 : ZBox w.heap.size w6 := HZ5.out.later hb6 HZ5.out.lt
        clear hb6
        have r0 : w6.cell? ⟨w.heap.size, 0, none⟩ = some (.string ⟨#[]⟩) := hZ6.cell 0 _ rfl
        have f0 : w6.frozen? ⟨w.heap.size, 0, none⟩ = false := hZ6.frz 0 (by decide)
        have r1 : w6.cell? ⟨w.heap.size, 1, none⟩ = some (.int .i64 0) := hZ6.cell 1 _ rfl
        have f1 : w6.frozen? ⟨w.heap.size, 1, none⟩ = false := hZ6.frz 1 (by decide)
        have r2 : w6.cell? ⟨w.heap.size, 2, none⟩ = some (.int .i64 0) := hZ6.cell 2 _ rfl
        have f2 : w6.frozen? ⟨w.heap.size, 2, none⟩ = false := hZ6.frz 2 (by decide)
        have r3 : w6.cell? ⟨w.heap.size, 3, none⟩ = some (.int .i64 0) := hZ6.cell 3 _ rfl
        have f3 : w6.frozen? ⟨w.heap.size, 3, none⟩ = false := hZ6.frz 3 (by decide)
        have r4 : w6.cell? ⟨w.heap.size, 4, none⟩ = some (.int .i64 0) := hZ6.cell 4 _ rfl
        have f4 : w6.frozen? ⟨w.heap.size, 4, none⟩ = false := hZ6.frz 4 (by decide)
        have r5 : w6.cell? ⟨w.heap.size, 5, none⟩ = some (.int .i64 0) := hZ6.cell 5 _ rfl
        have f5 : w6.frozen? ⟨w.heap.size, 5, none⟩ = false := hZ6.frz 5 (by decide)
        have r6 : w6.cell? ⟨w.heap.size, 6, none⟩ = some (.int .i64 0) := hZ6.cell 6 _ rfl
        have f6 : w6.frozen? ⟨w.heap.size, 6, none⟩ = false := hZ6.frz 6 (by decide)
        have r7 : w6.cell? ⟨w.heap.size, 7, none⟩ = some (.int .i64 0) := hZ6.cell 7 _ rfl
        have f7 : w6.frozen? ⟨w.heap.size, 7, none⟩ = false := hZ6.frz 7 (by decide)
        have r8 : w6.cell? ⟨w.heap.size, 8, none⟩ = some (.int .i64 0) := hZ6.cell 8 _ rfl
        have f8 : w6.frozen? ⟨w.heap.size, 8, none⟩ = false := hZ6.frz 8 (by decide)
        have r9 : w6.cell? ⟨w.heap.size, 9, none⟩ = some (.int .i64 0) := hZ6.cell 9 _ rfl
        have f9 : w6.frozen? ⟨w.heap.size, 9, none⟩ = false := hZ6.frz 9 (by decide)
        have r10 : w6.cell? ⟨w.heap.size, 10, none⟩ = some (.int .i64 0) := hZ6.cell 10 _ rfl
        have f10 : w6.frozen? ⟨w.heap.size, 10, none⟩ = false := hZ6.frz 10 (by decide)
        have r11 : w6.cell? ⟨w.heap.size, 11, none⟩ = some (.int .i64 0) := hZ6.cell 11 _ rfl
        have f11 : w6.frozen? ⟨w.heap.size, 11, none⟩ = false := hZ6.frz 11 (by decide)
        have lt := hZ6.lt
        clear hZ6
        by_cases hch : chk A = 0
        · have HCK : Hid (chk A = 0) := hch
          rw [hch]
          clear hch
          go_wp2
          refine bodyPost_ret (v := .tuple #[wv A, .int .i64 0]) (by simp [results, Tryd.results10, go_sem, r0, r1, r2, r3, r4, r5, r6, r7, r8, r9, r10, r11]) rfl ⟨by rw [rdOut_yes HPO.out (by rw [← HA.out]; exact HCK.out), ← HA.out], ?_⟩
          exact ((((((((((((HB6.out.setCell (Nat.le_refl _) _).setCell (Nat.le_refl _) _).setCell (Nat.le_refl _) _).setCell (Nat.le_refl _) _).setCell (Nat.le_refl _) _).setCell (Nat.le_refl _) _).setCell (Nat.le_refl _) _).setCell (Nat.le_refl _) _).setCell (Nat.le_refl _) _).setCell (Nat.le_refl _) _).setCell (Nat.le_refl _) _).setCell (Nat.le_refl _) _)
        · have HCK : Hid (chk A ≠ 0) := hch
          have hne : (chk A != 0) = true := by simp [hch]
          clear hch
          go_wp2
          refine bodyPost_ret (v := .tuple #[wv zW, .int .i64 (chk A)]) (by simp [results, Tryd.results10, go_sem, r0, r1, r2, r3, r4, r5, r6, r7, r8, r9, r10, r11, zW]) rfl ⟨by rw [rdOut_err HPO.out (by rw [← HA.out]; exact HCK.out), ← HA.out], ?_⟩
          exact ((((((((((((HB6.out.setCell (Nat.le_refl _) _).setCell (Nat.le_refl _) _).setCell (Nat.le_refl _) _).setCell (Nat.le_refl _) _).setCell (Nat.le_refl _) _).setCell (Nat.le_refl _) _).setCell (Nat.le_refl _) _).setCell (Nat.le_refl _) _).setCell (Nat.le_refl _) _).setCell (Nat.le_refl _) _).setCell (Nat.le_refl _) _).setCell (Nat.le_refl _) _)
end Go.Proofs.YtefjeohhdmmboaaDoor
