/- The law DeckFewer walked. -/
import Derived.Test.YtmmpaaaifdikdaaGreatDoorDM
namespace Go.Proofs.YtmmpaaaifdikdaaGreatDoor
open Go.RowKit Go.Shelf

theorem con_arr : (⟨#[50, 32, 116, 32, 116, 32, 116, 114, 97, 115, 104, 32, 49, 32, 49, 32, 53, 32, 53, 32, 48, 32, 49, 48, 32, 49, 48, 32, 49, 48, 32, 53, 32, 48]⟩ : ByteArray) = ⟨conL.toArray⟩ := rfl
def few13V (b o : Nat) (n m : Int) (P : Nat) (v0 : Value) (k : Nat) (d : Nat) (v : Value) (_ : World) : Prop :=
  match d with
  | 77 => v = v0
  | 78 => v = .int .i64 k
  | 79 => v = .pointer (some ⟨b, o, none⟩)
  | 80 => v = .pointer (some ⟨b, o, none⟩)
  | 81 => v = .int .i64 m
  | 82 => v = .pointer (some ⟨P, 0, none⟩)
  | 83 => v = .int .i64 n
  | 84 => v = .bool (m == n)
  | _ => True
theorem less_some {l : List Sit} {w : World} {b off cap : Nat} (h : Sts w (some ⟨b, off, none⟩) l) (k : Nat) (hk : k < l.length) (hcap : l.length ≤ cap) : ∃ ad, (if cap = k + 1 then (some ⟨b, off, none⟩ : Option Addr) else some ⟨b, off + (k + 1) * 14, none⟩) = some ad ∧ Sts w (some ad) (l.drop (k + 1)) := by
  by_cases h1 : cap = k + 1
  · exact ⟨_, if_pos h1, .inl (List.drop_eq_nil_of_le (by omega))⟩
  · exact ⟨_, if_neg h1, h.drop (k + 1)⟩
set_option maxHeartbeats 12800000 in
set_option maxRecDepth 100000 in
theorem fewer_any (ao : Option Addr) (cap : Nat) (l : List Sit) (g n r c : Int) (w : World) (hT : Tabs w) (hL : Sts w ao l) (hcap : l.length ≤ cap) (hl : l.length ≤ 9223372036854775807) (hok : ∀ s ∈ l, SOk s) (hg0 : -9223372036854775808 ≤ g) (hg1 : g ≤ 9223372036854775807) :
    Calls Tryz.prog 5 #[.slice ao l.length cap, .int .i64 g, ptv n r c] w fun e w' => e = .returned (.bool true) ∧ Below w.heap.size w w' := by
  obtain ⟨X, Y, Z, e0, hA, hAt⟩ := at_is l n r c hok hl
  have HA : Hid (AtIs l n r c X Y Z e0) := hA
  have HAt : Hid (∀ (w : World), Sts w ao l → Calls Tryz.prog 17 #[.slice ao l.length cap, ptv n r c] w fun e' w' => e' = .returned (.tuple #[ptv X Y Z, .int .i64 e0]) ∧ Below w.heap.size w w') := fun w h => hAt ao cap w h hcap
  have HT : Hid (Tabs w) := hT
  have HL : Hid (Sts w ao l) := hL
  have HOK : Hid (∀ s ∈ l, SOk s) := hok
  have al0 : Below w.heap.size w (w.alloc (plo n r c)) := (Below.refl _ _).alloc (Nat.le_refl _) _
  have HBX : Hid (Calls Tryz.prog 14 #[.slice none 0 0] (w.alloc (plo n r c)) fun e w' => ∃ v, e = .returned (.tuple #[v, .int .i64 0]) ∧ S.OwnB w' (w.alloc (plo n r c)).heap.size v [] ∧ Below (w.alloc (plo n r c)).heap.size (w.alloc (plo n r c)) w') :=
    boxes_ok none 0 [] (w.alloc (plo n r c)) (Sts.nil _ _) (Nat.le_refl _) (fun s hs => by simp at hs) (dchk_zero.2 ⟨by decide, fun s hs => by simp at hs, List.Pairwise.nil⟩)
  clear hA hAt hT hL hok
  generalize hnnq : l.length = nn at *
  have HNN : Hid (l.length = nn) := hnnq
  clear hnnq
  go_enter Tryz.func5, Tryz.ntmps5
  go_wp2_with fail
  refine Calls.mono HBX.out ?_
  rintro e w1 ⟨v1, rfl, ho1, hb1⟩
  have HB1 : Hid (Below w.heap.size w w1) := al0.trans (hb1.mono (by simp))
  have TP1 : Hid (T3 w.heap.size n r c w1) := (T3.new w n r c 53 w.heap.size rfl).later hb1
  obtain ⟨ao1, cap1, rfl, _, _⟩ := ho1.shape
  simp only [List.length_nil]
  clear ho1 hb1 HBX al0
  go_wp2_with fail
  rw [con_arr]
  refine Calls.mono (con_read w1 (HT.out.next HB1.out)) ?_
  rintro e w2 ⟨v2, rfl, ⟨base2, _, ho2⟩, hb2⟩
  have HB2 : Hid (Below w.heap.size w w2) := HB1.out.trans (hb2.mono HB1.out.size)
  have TP2 : Hid (T3 w.heap.size n r c w2) := TP1.out.later hb2
  obtain ⟨ao2, cap2, rfl, _, _⟩ := ho2.shape
  simp only [List.length_cons, List.length_nil, Nat.zero_add]
  clear ho2 hb2 TP1 HB1
  obtain ⟨_, p0, p1, p2, _, _, _⟩ := TP2.out
  go_wp2_with fail
  refine Calls.mono (HAt.out w2 (HL.out.next HB2.out)) ?_
  rintro e w3 ⟨rfl, hb3⟩
  have HB3 : Hid (Below w.heap.size w w3) := HB2.out.trans (hb3.mono HB2.out.size)
  have TP3 : Hid (T3 w.heap.size n r c w3) := TP2.out.later hb3
  clear hb3 TP2 HB2 HAt p0 p1 p2
  by_cases he : e0 = 0
  rotate_left
  · have hne : (e0 != 0) = true := by simp [he]
    have HZ : Hid (X = 0 ∧ Y = 0 ∧ Z = 0) := by
      rcases HA.out with ⟨_, h1, h2, h3, _⟩ | ⟨_, ⟨_, h1, h2, h3, _⟩ | ⟨h, _⟩⟩
      · exact ⟨h1, h2, h3⟩
      · exact ⟨h1, h2, h3⟩
      · exact absurd h he
    rw [HZ.out.1, HZ.out.2.1, HZ.out.2.2]
    clear he
    go_wp2
    go_ret
    exact ⟨rfl, HB3.out.alloc HB3.out.size _⟩
  subst he
  have hgood : Good l := by
    rcases HA.out with ⟨h1, _, _, _, h2⟩ | ⟨h, _⟩
    · exact absurd h2.symm h1
    · exact h
  have hnn1 : 1 ≤ nn ∧ nn ≤ 12 := by
    refine ⟨?_, by rw [← HNN.out]; exact hgood.len⟩
    rcases HA.out with ⟨h1, _, _, _, h2⟩ | ⟨h, ⟨h1, _⟩ | ⟨_, s, hs, _⟩⟩
    · exact absurd h2.symm h1
    · omega
    · rw [← HNN.out]; exact List.length_pos_of_mem hs
  obtain ⟨hnn1, hnn2⟩ := hnn1
  have HGD : Hid (Good l) := hgood
  clear hgood
  obtain ⟨b, off, rfl, _⟩ := HL.out.at (k := 0) (by rw [HNN.out]; omega)
  go_wp2_with fail
  obtain ⟨w4, hw4⟩ : ∃ w4, w4 = w3.alloc (pto X Y Z) := ⟨_, rfl⟩
  have al3 : Below w3.heap.size w3 w4 := by rw [hw4]; exact (Below.refl _ _).alloc (Nat.le_refl _) _
  have TX4 : Hid (T3 w3.heap.size X Y Z w4) := by show T3 _ _ _ _ _; rw [hw4]; exact T3.new w3 X Y Z 46 _ rfl
  have TP4 : Hid (T3 w.heap.size n r c w4) := TP3.out.later al3
  have HB4 : Hid (Below w.heap.size w w4) := HB3.out.trans (al3.mono HB3.out.size)
  have HS4 : Hid (Sts w4 (some ⟨b, off, none⟩) l) := HL.out.next HB4.out
  rw [← hw4]
  clear hw4 al3 TP3 HB3
  refine (picked_any g nn w4 hg0 hg1 (by omega) (by omega)).mono ?_
  rintro e wx ⟨k, hk, rfl, hx⟩
  have hx := hx.symm
  subst hx
  have hkl : k < l.length := by rw [HNN.out]; omega
  obtain ⟨X', Y', Z', e', hA', hAt'⟩ := at_is (l.take k ++ l.drop (k + 1)) n r c (fun s hs => HOK.out s (by rcases List.mem_append.1 hs with h | h; exact List.mem_of_mem_take h; exact List.mem_of_mem_drop h)) (by rw [List.length_append, List.length_take, List.length_drop, HNN.out]; omega)
  obtain ⟨ls, hls⟩ : ∃ ls, ls = l.take k ++ l.drop (k + 1) := ⟨_, rfl⟩
  have HLS : Hid (ls = l.take k ++ l.drop (k + 1)) := hls
  rw [← hls] at hAt'
  clear hls
  have HAt2 : Hid (∀ (ao : Option Addr) (cap : Nat) (w : World), Sts w ao ls → ls.length ≤ cap → Calls Tryz.prog 17 #[.slice ao ls.length cap, ptv n r c] w fun e'' w' => e'' = .returned (.tuple #[ptv X' Y' Z', .int .i64 e']) ∧ Below w.heap.size w w') := hAt'
  have HTK : Hid (k = (l.take k).length) := by show _ = _; rw [List.length_take]; omega
  have HDL : Hid (nn - (k + 1) = (l.drop (k + 1)).length) := by show _ = _; rw [List.length_drop, HNN.out]
  obtain ⟨m, hm⟩ : ∃ m, m = (l[k]'hkl).slot := ⟨_, rfl⟩
  have HAL : Hid ((m = n → e' = 5) ∧ (m ≠ n → e' = 0 ∧ X' = X ∧ Y' = Y ∧ Z' = Z)) := by show _ ∧ _; rw [hm]; exact at_less hkl HA.out hA'
  have HM : Hid (∀ W : World, Sts W (some ⟨b, off, none⟩) l → W.cell? ⟨b, off + k * 14, none⟩ = some (.int .i64 m)) := fun W hW => by
    obtain ⟨b', off', e, h⟩ := hW.at hkl
    simp only [Option.some.injEq, Addr.mk.injEq, and_true] at e
    obtain ⟨rfl, rfl⟩ := e
    rw [hm]; exact h.c0
  clear hA' hAt' hkl hm
  have hkc : (k : Int) ≤ (cap : Int) := by omega
  have hkn : (k : Int) + 1 ≤ (nn : Int) := by omega
  have hw : IntKind.i64.wrap ((k : Int) + 1) = (k : Int) + 1 := by rw [IntWalk.i64_left]; exact IntWalk.wrap64_in _ ⟨by omega, by omega⟩
  by_cases hcp : cap = k + 1
  · subst hcp
    have HD4 : Hid (∀ W : World, Below w4.heap.size w4 W → Sts W (some ⟨b, off, none⟩) (l.drop (k + 1))) := fun W hW => .inl (List.drop_eq_nil_of_le (by rw [HNN.out]; omega))
    go_wp2_with (at_builtin; first
      | (refine wpList_append_seats _ rfl (.tmp 60) (.tmp 63) rfl w4.heap.size (.slice none 0 0) [] rfl (OwnD.nil _ _) ⟨b, off, none⟩ k (k + 1) (l.take k) HTK.out rfl (HS4.out.take k) (by simp) (by rw [← HTK.out]; omega) (Nat.le_refl _) ?_; intro v5 w5 ho5 hg5; have hb5 : Below w4.heap.size w4 w5 := below_owns (Below.refl _ _) (OwnD.nil w4 w4.heap.size) hg5 (Nat.le_refl _))
      | (refine wpList_append_seats _ rfl (.tmp 65) (.tmp 69) rfl w4.heap.size v5 ([] ++ l.take k) rfl ho5 ⟨b, off, none⟩ _ _ (l.drop (k + 1)) (by first | exact HDL.out | (have := HDL.out; omega)) rfl (HD4.out w5 hb5) (by rw [List.nil_append, ← HTK.out]; omega) (by rw [← HDL.out]; omega) hb5.size ?_; intro v6 w6 ho6 hg6; have hb6 : Below w4.heap.size w4 w6 := below_owns hb5 ho5 hg6 hb5.size; rw [List.nil_append, ← HLS.out] at ho6; obtain ⟨ao6, cap6, rfl, hs6, hc6⟩ := ho6.shape; obtain ⟨_, p0, p1, p2, _, _, _⟩ := TP4.out.later hb6))
    refine Calls.mono (HAt2.out ao6 cap6 w6 hs6 hc6) ?_
    rintro e w7 ⟨rfl, hb7⟩
    have HB7 : Hid (Below w4.heap.size w4 w7) := hb6.trans (hb7.mono hb6.size)
    clear hb7 hb6 hs6 hc6 p0 p1 p2 hb5 ho5 hg5 ho6 hg6
    go_wp2_with fail
    obtain ⟨w8, hw8⟩ : ∃ w8, w8 = w7.alloc (pto X' Y' Z') := ⟨_, rfl⟩
    have al7 : Below w7.heap.size w7 w8 := by rw [hw8]; exact (Below.refl _ _).alloc (Nat.le_refl _) _
    have HB8 : Hid (Below w4.heap.size w4 w8) := HB7.out.trans (al7.mono HB7.out.size)
    have TY8 : Hid (T3 w7.heap.size X' Y' Z' w8) := by show T3 _ _ _ _ _; rw [hw8]; exact T3.new w7 X' Y' Z' 46 _ rfl
    have TX8 : Hid (T3 w3.heap.size X Y Z w8) := TX4.out.later HB8.out
    have TP8 : Hid (T3 w.heap.size n r c w8) := TP4.out.later HB8.out
    have CM8 : Hid (w8.cell? ⟨b, off + k * 14, none⟩ = some (.int .i64 m)) := HM.out w8 (HS4.out.next HB8.out)
    rw [← hw8]
    clear hw8 al7 HB7 HS4 TX4 TP4 HM HD4
    rename_i KK hkk
    have HKK := (show Hid _ from hkk)
    clear hkk
    refine region_inv [false, false, false, false, false, false, false, false, false, false, false, false, false, false, false, false, false, false, false, false, false, false, false, false, false, false, false, false, false, false, false, false, false, false, false, false, false, false, false, false, false, false, false, false, false, false, false, false, false, false, false, false, false, false, false, false, false, false, false, false, false, false, false, false, false, false, false, false, false, false, false, false, false, false, false, false, false, true, true, true, true, true, true, true, true, false, false, false, false, false, false, false, false, false]
      [(77, [], none), (78, [], none), (79, [77, 78], none), (80, [79], none), (81, [80], none), (82, [], none), (83, [82], none), (84, [81, 83], none)]
      (few13V b (off + k * 14) n m w.heap.size (.slice (some ⟨b, off, none⟩) nn (k + 1)) k) (by kernel_rfl) (by kernel_rfl) (fun _ _ _ _ h _ => h) ?_ ?_
    · refine ⟨?_, ?_, ?_, ?_, ?_, ?_, ?_, ?_, trivial⟩
      · intro f w1 hb _ K hK
        simp only [over, overL, Nat.reduceAdd]
        go_simp
        exact hK _ _ ⟨_, rfl, by simp only [over, overL, Nat.reduceAdd]; rfl, Below.refl _ _⟩
      · intro f w1 hb _ K hK
        simp only [over, overL, Nat.reduceAdd]
        go_simp
        exact hK _ _ ⟨_, rfl, by simp only [over, overL, Nat.reduceAdd]; rfl, Below.refl _ _⟩
      · intro f w1 hb ⟨h77, h78, _⟩ K hK
        have h77 : f 77 = _ := h77
        have h78 : f 78 = _ := h78
        simp only [over, overL, Nat.reduceAdd, h77, h78]
        go_simp
        exact hK _ _ ⟨_, rfl, by simp only [over, overL, Nat.reduceAdd, h77, h78]; rfl, Below.refl _ _⟩
      · intro f w1 hb ⟨h79, _⟩ K hK
        have h79 : f 79 = _ := h79
        simp only [over, overL, Nat.reduceAdd, h79]
        go_simp
        exact hK _ _ ⟨_, rfl, by simp only [over, overL, Nat.reduceAdd, h79]; rfl, Below.refl _ _⟩
      · intro f w1 hb ⟨h80, _⟩ K hK
        have h80 : f 80 = _ := h80
        have cm := cell_later hb CM8.out
        simp only [over, overL, Nat.reduceAdd, h80]
        go_simp
        exact hK _ _ ⟨_, rfl, by simp only [over, overL, Nat.reduceAdd, h80]; rfl, Below.refl _ _⟩
      · intro f w1 hb _ K hK
        simp only [over, overL, Nat.reduceAdd]
        go_simp
        exact hK _ _ ⟨_, rfl, by simp only [over, overL, Nat.reduceAdd]; rfl, Below.refl _ _⟩
      · intro f w1 hb ⟨h82, _⟩ K hK
        have h82 : f 82 = _ := h82
        obtain ⟨_, t0, t1, t2, _, _, _⟩ := TP8.out.later hb
        simp only [over, overL, Nat.reduceAdd, h82]
        go_simp
        exact hK _ _ ⟨_, rfl, by simp only [over, overL, Nat.reduceAdd, h82]; rfl, Below.refl _ _⟩
      · intro f w1 hb ⟨h81, h83, _⟩ K hK
        have h81 : f 81 = _ := h81
        have h83 : f 83 = _ := h83
        simp only [over, overL, Nat.reduceAdd, h81, h83]
        go_simp
        exact hK _ _ ⟨_, rfl, by simp only [over, overL, Nat.reduceAdd, h81, h83]; rfl, Below.refl _ _⟩
    intro f w9 hb9 hv
    have h84 : f 84 = .bool (m == n) := hv.2.2.2.2.2.2.2.1
    have HB9 : Hid (Below w.heap.size w w9) := HB4.out.trans ((HB8.out.trans (hb9.mono HB8.out.size)).mono HB4.out.size)
    obtain ⟨_, x0, x1, x2, _, _, _⟩ := TX8.out.later hb9
    obtain ⟨_, y0, y1, y2, _, _, _⟩ := TY8.out.later hb9
    clear hb9 hv TX8 TY8 TP8 CM8
    simp only [over, overL, h84, Nat.reduceAdd]
    clear h84
    refine HKK.out _ _ ?_
    by_cases hmn : m = n
    · have hq : (m == n) = true := by simp [hmn]
      have HE := (show Hid _ from HAL.out.1 hmn)
      clear hmn
      rw [HE.out]
      go_wp2
      go_ret
      exact ⟨rfl, HB9.out⟩
    · have hq : (m == n) = false := by simp [hmn]
      obtain ⟨h1, h2, h3, h4⟩ := HAL.out.2 hmn
      subst h1 h2 h3 h4
      clear hmn
      go_wp2
      go_ret
      exact ⟨ret_bool (by simp), HB9.out⟩
  · have HD4 : Hid (∀ W : World, Below w4.heap.size w4 W → Sts W (some ⟨b, off + (k + 1) * 14, none⟩) (l.drop (k + 1))) := fun W hW => (HS4.out.next hW).drop (k + 1)
    go_wp2_with (at_builtin; first
      | (refine wpList_append_seats _ rfl (.tmp 60) (.tmp 63) rfl w4.heap.size (.slice none 0 0) [] rfl (OwnD.nil _ _) ⟨b, off, none⟩ k (cap) (l.take k) HTK.out rfl (HS4.out.take k) (by simp) (by rw [← HTK.out]; omega) (Nat.le_refl _) ?_; intro v5 w5 ho5 hg5; have hb5 : Below w4.heap.size w4 w5 := below_owns (Below.refl _ _) (OwnD.nil w4 w4.heap.size) hg5 (Nat.le_refl _))
      | (refine wpList_append_seats _ rfl (.tmp 65) (.tmp 69) rfl w4.heap.size v5 ([] ++ l.take k) rfl ho5 ⟨b, off + (k + 1) * 14, none⟩ _ _ (l.drop (k + 1)) (by first | exact HDL.out | (have := HDL.out; omega)) rfl (HD4.out w5 hb5) (by rw [List.nil_append, ← HTK.out]; omega) (by rw [← HDL.out]; omega) hb5.size ?_; intro v6 w6 ho6 hg6; have hb6 : Below w4.heap.size w4 w6 := below_owns hb5 ho5 hg6 hb5.size; rw [List.nil_append, ← HLS.out] at ho6; obtain ⟨ao6, cap6, rfl, hs6, hc6⟩ := ho6.shape; obtain ⟨_, p0, p1, p2, _, _, _⟩ := TP4.out.later hb6))
    refine Calls.mono (HAt2.out ao6 cap6 w6 hs6 hc6) ?_
    rintro e w7 ⟨rfl, hb7⟩
    have HB7 : Hid (Below w4.heap.size w4 w7) := hb6.trans (hb7.mono hb6.size)
    clear hb7 hb6 hs6 hc6 p0 p1 p2 hb5 ho5 hg5 ho6 hg6
    go_wp2_with fail
    obtain ⟨w8, hw8⟩ : ∃ w8, w8 = w7.alloc (pto X' Y' Z') := ⟨_, rfl⟩
    have al7 : Below w7.heap.size w7 w8 := by rw [hw8]; exact (Below.refl _ _).alloc (Nat.le_refl _) _
    have HB8 : Hid (Below w4.heap.size w4 w8) := HB7.out.trans (al7.mono HB7.out.size)
    have TY8 : Hid (T3 w7.heap.size X' Y' Z' w8) := by show T3 _ _ _ _ _; rw [hw8]; exact T3.new w7 X' Y' Z' 46 _ rfl
    have TX8 : Hid (T3 w3.heap.size X Y Z w8) := TX4.out.later HB8.out
    have TP8 : Hid (T3 w.heap.size n r c w8) := TP4.out.later HB8.out
    have CM8 : Hid (w8.cell? ⟨b, off + k * 14, none⟩ = some (.int .i64 m)) := HM.out w8 (HS4.out.next HB8.out)
    rw [← hw8]
    clear hw8 al7 HB7 HS4 TX4 TP4 HM HD4
    rename_i KK hkk
    have HKK := (show Hid _ from hkk)
    clear hkk
    refine region_inv [false, false, false, false, false, false, false, false, false, false, false, false, false, false, false, false, false, false, false, false, false, false, false, false, false, false, false, false, false, false, false, false, false, false, false, false, false, false, false, false, false, false, false, false, false, false, false, false, false, false, false, false, false, false, false, false, false, false, false, false, false, false, false, false, false, false, false, false, false, false, false, false, false, false, false, false, false, true, true, true, true, true, true, true, true, false, false, false, false, false, false, false, false, false]
      [(77, [], none), (78, [], none), (79, [77, 78], none), (80, [79], none), (81, [80], none), (82, [], none), (83, [82], none), (84, [81, 83], none)]
      (few13V b (off + k * 14) n m w.heap.size (.slice (some ⟨b, off, none⟩) nn (cap)) k) (by kernel_rfl) (by kernel_rfl) (fun _ _ _ _ h _ => h) ?_ ?_
    · refine ⟨?_, ?_, ?_, ?_, ?_, ?_, ?_, ?_, trivial⟩
      · intro f w1 hb _ K hK
        simp only [over, overL, Nat.reduceAdd]
        go_simp
        exact hK _ _ ⟨_, rfl, by simp only [over, overL, Nat.reduceAdd]; rfl, Below.refl _ _⟩
      · intro f w1 hb _ K hK
        simp only [over, overL, Nat.reduceAdd]
        go_simp
        exact hK _ _ ⟨_, rfl, by simp only [over, overL, Nat.reduceAdd]; rfl, Below.refl _ _⟩
      · intro f w1 hb ⟨h77, h78, _⟩ K hK
        have h77 : f 77 = _ := h77
        have h78 : f 78 = _ := h78
        simp only [over, overL, Nat.reduceAdd, h77, h78]
        go_simp
        exact hK _ _ ⟨_, rfl, by simp only [over, overL, Nat.reduceAdd, h77, h78]; rfl, Below.refl _ _⟩
      · intro f w1 hb ⟨h79, _⟩ K hK
        have h79 : f 79 = _ := h79
        simp only [over, overL, Nat.reduceAdd, h79]
        go_simp
        exact hK _ _ ⟨_, rfl, by simp only [over, overL, Nat.reduceAdd, h79]; rfl, Below.refl _ _⟩
      · intro f w1 hb ⟨h80, _⟩ K hK
        have h80 : f 80 = _ := h80
        have cm := cell_later hb CM8.out
        simp only [over, overL, Nat.reduceAdd, h80]
        go_simp
        exact hK _ _ ⟨_, rfl, by simp only [over, overL, Nat.reduceAdd, h80]; rfl, Below.refl _ _⟩
      · intro f w1 hb _ K hK
        simp only [over, overL, Nat.reduceAdd]
        go_simp
        exact hK _ _ ⟨_, rfl, by simp only [over, overL, Nat.reduceAdd]; rfl, Below.refl _ _⟩
      · intro f w1 hb ⟨h82, _⟩ K hK
        have h82 : f 82 = _ := h82
        obtain ⟨_, t0, t1, t2, _, _, _⟩ := TP8.out.later hb
        simp only [over, overL, Nat.reduceAdd, h82]
        go_simp
        exact hK _ _ ⟨_, rfl, by simp only [over, overL, Nat.reduceAdd, h82]; rfl, Below.refl _ _⟩
      · intro f w1 hb ⟨h81, h83, _⟩ K hK
        have h81 : f 81 = _ := h81
        have h83 : f 83 = _ := h83
        simp only [over, overL, Nat.reduceAdd, h81, h83]
        go_simp
        exact hK _ _ ⟨_, rfl, by simp only [over, overL, Nat.reduceAdd, h81, h83]; rfl, Below.refl _ _⟩
    intro f w9 hb9 hv
    have h84 : f 84 = .bool (m == n) := hv.2.2.2.2.2.2.2.1
    have HB9 : Hid (Below w.heap.size w w9) := HB4.out.trans ((HB8.out.trans (hb9.mono HB8.out.size)).mono HB4.out.size)
    obtain ⟨_, x0, x1, x2, _, _, _⟩ := TX8.out.later hb9
    obtain ⟨_, y0, y1, y2, _, _, _⟩ := TY8.out.later hb9
    clear hb9 hv TX8 TY8 TP8 CM8
    simp only [over, overL, h84, Nat.reduceAdd]
    clear h84
    refine HKK.out _ _ ?_
    by_cases hmn : m = n
    · have hq : (m == n) = true := by simp [hmn]
      have HE := (show Hid _ from HAL.out.1 hmn)
      clear hmn
      rw [HE.out]
      go_wp2
      go_ret
      exact ⟨rfl, HB9.out⟩
    · have hq : (m == n) = false := by simp [hmn]
      obtain ⟨h1, h2, h3, h4⟩ := HAL.out.2 hmn
      subst h1 h2 h3 h4
      clear hmn
      go_wp2
      go_ret
      exact ⟨ret_bool (by simp), HB9.out⟩

end Go.Proofs.YtmmpaaaifdikdaaGreatDoor
