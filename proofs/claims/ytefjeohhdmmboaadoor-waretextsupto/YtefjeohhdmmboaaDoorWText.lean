/- A ware's text, the document's way: WareText, walked. -/
import Derived.Test.YtefjeohhdmmboaaDoorShow
namespace Go.Proofs.YtefjeohhdmmboaaDoor
open Go.RowKit Go.Shelf

/-- A new slice of the kinds' words. -/
def IsKws (v : Value) (w : World) : Prop := ∃ b, v = .slice (some ⟨b, 0, none⟩) 4 4 ∧ ∀ (k : Nat) l, kwL[k]? = some l → w.cell? ⟨b, k, none⟩ = some (.string ⟨l.toArray⟩)
theorem new_kws (w : World) (t : Nat) : IsKws (.slice (some ⟨w.heap.size, 0, none⟩) 4 4) (w.alloc (.cells #[.string ⟨#[]⟩, .string ⟨#[112, 108, 97, 116, 101]⟩, .string ⟨#[114, 97, 99, 107]⟩, .string ⟨#[116, 114, 97, 115, 104]⟩] t)) := by
  refine ⟨_, rfl, fun k l hk => ?_⟩
  have hk4 : k < 4 := (List.getElem?_eq_some_iff.1 hk).1
  rcases (show k = 0 ∨ k = 1 ∨ k = 2 ∨ k = 3 by omega) with e | e | e | e
  all_goals (subst e; simp [kwL] at hk; subst hk; simp [go_sem])
def IsKwAt (kd : Nat) (kw : List UInt8) (v : Value) (w : World) : Prop := ∃ b, v = .pointer (some ⟨b, kd, none⟩) ∧ w.cell? ⟨b, kd, none⟩ = some (.string ⟨kw.toArray⟩)
def wtV (a : Wr) (kd : Nat) (kw : List UInt8) (B : Nat) (d : Nat) (v : Value) (w : World) : Prop :=
  match d with
  | 6 => v = .pointer (some ⟨B, 0, none⟩)
  | 7 => v = .string a.name
  | 8 => v = .string (a.name ++ ⟨#[32]⟩)
  | 9 => IsKws v w
  | 10 => v = .pointer (some ⟨B, 1, none⟩)
  | 11 => v = .int .i64 (kd : Int)
  | 12 => IsKwAt kd kw v w
  | 13 => v = .string ⟨kw.toArray⟩
  | 14 => v = .string (a.name ++ ⟨#[32]⟩ ++ ⟨kw.toArray⟩)
  | 3 => v = .string (a.name ++ ⟨#[32]⟩ ++ ⟨kw.toArray⟩)
  | _ => True
theorem wtV_mono (a : Wr) (kd : Nat) (kw : List UInt8) (B : Nat) (d : Nat) (v : Value) (w w' : World) (h : wtV a kd kw B d v w) (hb : Below w.heap.size w w') : wtV a kd kw B d v w' := by
  unfold wtV at h ⊢
  split <;> simp only [] at h
  case h_4 => obtain ⟨b, h1, h2⟩ := h; exact ⟨b, h1, fun k l hk => cell_later hb (h2 k l hk)⟩
  case h_7 => obtain ⟨b, h1, h2⟩ := h; exact ⟨b, h1, cell_later hb h2⟩
  all_goals exact h

theorem dec_short2 (u : Nat) (h : u ≤ 1000000000) : (Lib.decDigits u).length ≤ 10 := by
  have h1 : ∀ (n u : Nat), u < 10 ^ (n + 1) → (Lib.decDigits u).length ≤ n + 1 := by
    intro n
    induction n with
    | zero => intro u hu; rw [Lib.decDigits_one (by omega)]; simp
    | succ n ih =>
      intro u hu
      by_cases h1 : u < 10
      · rw [Lib.decDigits_one h1]; simp
      · rw [Lib.decDigits, dif_neg h1, List.length_append]
        have := ih (u / 10) (by rw [Nat.pow_succ] at hu; omega)
        simp only [List.length_singleton]
        omega
  exact h1 9 u (by omega)

set_option maxHeartbeats 3200000 in
set_option maxRecDepth 20000 in
theorem wareText_ok (a : Wr) (w : World) (h0 : chk a = 0) :
    Calls Tryd.prog 12 #[wv a] w fun e w' => e = .returned (.string ⟨(showL a).toArray⟩) ∧ Below w.heap.size w w' := by
  have hk13 := inR_iff.1 (chk_in h0).2.1
  obtain ⟨kd, hK⟩ : ∃ kd : Nat, a.kind = kd := ⟨a.kind.toNat, by omega⟩
  have hK1 : 1 ≤ kd := by omega
  have hK3 : kd < 4 := by omega
  obtain ⟨kw, hkw⟩ : ∃ kw, kwL[kd]? = some kw := ⟨kwL[kd]'(by simpa [kwL] using hK3), by simp⟩
  have HKW : Hid (kwL.getD a.kind.toNat [] = kw) := show _ = _ by rw [hK, Int.toNat_natCast, List.getD_eq_getElem?_getD, hkw]; rfl
  have hn16 : a.name.size ≤ 16 := (lab_in (chk_in h0).1).2
  have hkl : kw.length ≤ 5 := by
    have hm := List.mem_of_getElem? hkw
    exact (by decide : ∀ x ∈ kwL, x.length ≤ 5) kw hm
  have HNS : Hid (∀ n ∈ numsL a, 0 ≤ n ∧ n ≤ 1000000000) := chk_nums h0
  have HKQ : Hid (kwL[kd]? = some kw) := hkw
  have i0 : (0 : Int) ≤ (kd : Int) := by omega
  have i1 : (kd : Int) < 4 := by omega
  have z1 : ¬ 9223372036854775807 < a.name.size + 1 := by omega
  have z2 : ¬ 9223372036854775807 < a.name.size + 1 + kw.length := by omega
  have ek0 : (w.alloc (wobj a)).cell? ⟨w.heap.size, 1, none⟩ = some (.int .i64 (kd : Int)) := by rw [← hK]; simp [go_sem]
  have HEK : Hid ((w.alloc (wobj a)).cell? ⟨w.heap.size, 1, none⟩ = some (.int .i64 (kd : Int))) := ek0
  clear hk13 hK hkw h0 ek0
  go_enter Tryd.func12, Tryd.ntmps12
  go_wp2_with fail
  obtain ⟨w2, hw2⟩ : ∃ w2, w2 = w.alloc (wobj a) := ⟨_, rfl⟩
  have e0 : w2.cell? ⟨w.heap.size, 0, none⟩ = some (.string a.name) := by rw [hw2]; simp [go_sem]
  have e1 : w2.cell? ⟨w.heap.size, 1, none⟩ = some (.int .i64 (kd : Int)) := by rw [hw2]; exact HEK.out
  have e2 : w2.cell? ⟨w.heap.size, 2, none⟩ = some (.int .i64 a.rows) := by rw [hw2]; simp [go_sem]
  have e3 : w2.cell? ⟨w.heap.size, 3, none⟩ = some (.int .i64 a.cols) := by rw [hw2]; simp [go_sem]
  have e4 : w2.cell? ⟨w.heap.size, 4, none⟩ = some (.int .i64 a.x) := by rw [hw2]; simp [go_sem]
  have e5 : w2.cell? ⟨w.heap.size, 5, none⟩ = some (.int .i64 a.y) := by rw [hw2]; simp [go_sem]
  have e6 : w2.cell? ⟨w.heap.size, 6, none⟩ = some (.int .i64 a.pitch) := by rw [hw2]; simp [go_sem]
  have e7 : w2.cell? ⟨w.heap.size, 7, none⟩ = some (.int .i64 a.wid) := by rw [hw2]; simp [go_sem]
  have e8 : w2.cell? ⟨w.heap.size, 8, none⟩ = some (.int .i64 a.len) := by rw [hw2]; simp [go_sem]
  have e9 : w2.cell? ⟨w.heap.size, 9, none⟩ = some (.int .i64 a.hei) := by rw [hw2]; simp [go_sem]
  have e10 : w2.cell? ⟨w.heap.size, 10, none⟩ = some (.int .i64 a.deep) := by rw [hw2]; simp [go_sem]
  have e11 : w2.cell? ⟨w.heap.size, 11, none⟩ = some (.int .i64 a.cap) := by rw [hw2]; simp [go_sem]
  have hB2 : Below w.heap.size w w2 := by rw [hw2]; exact (Below.refl _ _).alloc (Nat.le_refl _) _
  rw [← hw2]
  clear hw2 HEK
  refine region_inv [false, false, false, true, false, false, true, true, true, true, true, true, true, true, true, false, false, false, false, false, false, false, false, false, false, false, false, false, false, false, false, false, false, false, false, false, false, false, false, false, false, false, false, false, false, false, false, false, false, false, false]
    [(6, [], none), (7, [6], none), (8, [7], none), (9, [], none), (10, [], none), (11, [10], none), (12, [9, 11], none), (13, [12], none), (14, [8, 13], none), (3, [14], none)]
    (wtV a kd kw w.heap.size) (by kernel_rfl) (by kernel_rfl) (wtV_mono a kd kw w.heap.size) ?_ ?_
  · refine ⟨?_, ?_, ?_, ?_, ?_, ?_, ?_, ?_, ?_, ?_, trivial⟩
    · intro f w1 hb _ K hK
      simp only [over, overL, Nat.reduceAdd]
      go_simp
      exact hK _ _ ⟨_, rfl, by simp only [over, overL, Nat.reduceAdd]; rfl, Below.refl _ _⟩
    · intro f w1 hb ⟨h6, _⟩ K hK
      have h6 : f 6 = _ := h6
      have cl : w1.cell? ⟨w.heap.size, 0, none⟩ = some (.string a.name) := cell_later hb e0
      simp only [over, overL, Nat.reduceAdd, h6]
      go_simp
      exact hK _ _ ⟨_, rfl, by simp only [over, overL, Nat.reduceAdd, h6]; rfl, Below.refl _ _⟩
    · intro f w1 hb ⟨h7, _⟩ K hK
      have h7 : f 7 = _ := h7
      simp only [over, overL, Nat.reduceAdd, h7]
      go_simp
      exact hK _ _ ⟨_, rfl, by simp only [over, overL, Nat.reduceAdd, h7]; rfl, Below.refl _ _⟩
    · intro f w1 hb _ K hK
      simp only [over, overL, Nat.reduceAdd]
      go_simp
      exact hK _ _ ⟨_, new_kws _ _, by simp only [over, overL, Nat.reduceAdd]; rfl, (Below.refl _ _).alloc (Nat.le_refl _) _⟩
    · intro f w1 hb _ K hK
      simp only [over, overL, Nat.reduceAdd]
      go_simp
      exact hK _ _ ⟨_, rfl, by simp only [over, overL, Nat.reduceAdd]; rfl, Below.refl _ _⟩
    · intro f w1 hb ⟨h10, _⟩ K hK
      have h10 : f 10 = _ := h10
      have cl : w1.cell? ⟨w.heap.size, 1, none⟩ = some (.int .i64 (kd : Int)) := cell_later hb e1
      simp only [over, overL, Nat.reduceAdd, h10]
      go_simp
      exact hK _ _ ⟨_, rfl, by simp only [over, overL, Nat.reduceAdd, h10]; rfl, Below.refl _ _⟩
    · intro f w1 hb ⟨h9, h11, _⟩ K hK
      have h11 : f 11 = _ := h11
      obtain ⟨b, h9, hc⟩ := h9
      simp only [over, overL, Nat.reduceAdd, h9, h11]
      go_simp
      exact hK _ _ ⟨_, ⟨b, rfl, hc kd kw HKQ.out⟩, by simp only [over, overL, Nat.reduceAdd, h9, h11]; rfl, Below.refl _ _⟩
    · intro f w1 hb ⟨h12, _⟩ K hK
      obtain ⟨b, h12, hc⟩ := h12
      simp only [over, overL, Nat.reduceAdd, h12]
      go_simp
      exact hK _ _ ⟨_, rfl, by simp only [over, overL, Nat.reduceAdd, h12]; rfl, Below.refl _ _⟩
    · intro f w1 hb ⟨h8, h13, _⟩ K hK
      have h8 : f 8 = _ := h8
      have h13 : f 13 = _ := h13
      simp only [over, overL, Nat.reduceAdd, h8, h13]
      go_simp
      exact hK _ _ ⟨_, rfl, by simp only [over, overL, Nat.reduceAdd, h8, h13]; rfl, Below.refl _ _⟩
    · intro f w1 hb ⟨h14, _⟩ K hK
      have h14 : f 14 = _ := h14
      simp only [over, overL, Nat.reduceAdd, h14]
      go_simp
      exact hK _ _ ⟨_, rfl, by simp only [over, overL, Nat.reduceAdd, h14]; rfl, Below.refl _ _⟩
  · intro f w3 hb3 h
    have h3 : f 3 = .string (a.name ++ ⟨#[32]⟩ ++ ⟨kw.toArray⟩) := h.2.2.2.2.2.2.2.2.2.1
    simp only [over_eq, overL, h3, Nat.reduceAdd]
    have hB3 : Below w.heap.size w w3 := hB2.trans (hb3.mono hB2.size)
    have g2 : w3.cell? ⟨w.heap.size, 2, none⟩ = some (.int .i64 a.rows) := cell_later hb3 e2
    have g3 : w3.cell? ⟨w.heap.size, 3, none⟩ = some (.int .i64 a.cols) := cell_later hb3 e3
    have g4 : w3.cell? ⟨w.heap.size, 4, none⟩ = some (.int .i64 a.x) := cell_later hb3 e4
    have g5 : w3.cell? ⟨w.heap.size, 5, none⟩ = some (.int .i64 a.y) := cell_later hb3 e5
    have g6 : w3.cell? ⟨w.heap.size, 6, none⟩ = some (.int .i64 a.pitch) := cell_later hb3 e6
    have g7 : w3.cell? ⟨w.heap.size, 7, none⟩ = some (.int .i64 a.wid) := cell_later hb3 e7
    have g8 : w3.cell? ⟨w.heap.size, 8, none⟩ = some (.int .i64 a.len) := cell_later hb3 e8
    have g9 : w3.cell? ⟨w.heap.size, 9, none⟩ = some (.int .i64 a.hei) := cell_later hb3 e9
    have g10 : w3.cell? ⟨w.heap.size, 10, none⟩ = some (.int .i64 a.deep) := cell_later hb3 e10
    have g11 : w3.cell? ⟨w.heap.size, 11, none⟩ = some (.int .i64 a.cap) := cell_later hb3 e11
    obtain ⟨s0, hs0⟩ : ∃ s0 : ByteArray, s0 = a.name ++ ⟨#[32]⟩ ++ ⟨kw.toArray⟩ := ⟨_, rfl⟩
    have hz0 : s0.size ≤ 30 := by
      have q1 : (⟨#[32]⟩ : ByteArray).size = 1 := rfl
      have q2 : (⟨kw.toArray⟩ : ByteArray).size = kw.length := by simp [ByteArray.size]
      rw [hs0, ByteArray.size_append, ByteArray.size_append, q1, q2]; omega
    have HS0 : Hid (s0.data.toList = a.name.data.toList ++ Lib.joinTail [32] (kw :: ((numsL a).take 0).map Lib.itoa)) := show _ = _ by rw [hs0]; simp [Lib.joinTail]
    rw [← hs0]
    clear h hb3 h3 hs0 e0 e1 e2 e3 e4 e5 e6 e7 e8 e9 e10 e11
    go_wp2_with fail
    obtain ⟨W, hW⟩ : ∃ W, W = w3.alloc (.cells #[.int .i64 a.rows, .int .i64 a.cols, .int .i64 a.x, .int .i64 a.y, .int .i64 a.pitch, .int .i64 a.wid, .int .i64 a.len, .int .i64 a.hei, .int .i64 a.deep, .int .i64 a.cap] 3) := ⟨_, rfl⟩
    have HL : Hid (∀ k, k < 10 → W.cell? ⟨w3.heap.size, k, none⟩ = some (.int .i64 ((numsL a).getD k 0))) := by
      intro k hk
      rw [hW]
      rcases (show k = 0 ∨ k = 1 ∨ k = 2 ∨ k = 3 ∨ k = 4 ∨ k = 5 ∨ k = 6 ∨ k = 7 ∨ k = 8 ∨ k = 9 by omega) with e | e | e | e | e | e | e | e | e | e
      all_goals (subst e; simp [go_sem, numsL])
    have HBW : Hid (Below w.heap.size w W) := by rw [hW]; exact hB3.alloc hB3.size _
    rw [← hW]
    clear hW hB3 hB2 g2 g3 g4 g5 g6 g7 g8 g9 g10 g11
    generalize w3.heap.size = L at *
    go_loopw [3, 5] (fun v i wr => ∃ (k : Nat) (sv : ByteArray), k ≤ 10 ∧ v = .string sv ∧ i = .int .i64 k ∧ sv.size ≤ 30 + 12 * k ∧ sv.data.toList = a.name.data.toList ++ Lib.joinTail [32] (kw :: ((numsL a).take k).map Lib.itoa) ∧ Below W.heap.size W wr) (fun _ i _ => 10 - (intOf i).toNat)
    case atStart => exact ⟨0, s0, by omega, rfl, rfl, hz0, HS0.out, Below.refl _ _⟩
    case round =>
      obtain ⟨k, sv, hk10, rfl, rfl, hsz, hsv, hbr⟩ := hrel
      have HSV : Hid (sv.data.toList = a.name.data.toList ++ Lib.joinTail [32] (kw :: ((numsL a).take k).map Lib.itoa)) := hsv
      have HBR : Hid (Below W.heap.size W wr) := hbr
      clear hsv hbr
      by_cases hk : k < 10
      · have hc : wr.cell? ⟨L, k, none⟩ = some (.int .i64 ((numsL a).getD k 0)) := cell_later HBR.out (HL.out k hk)
        have hnl : (numsL a)[k]? = some ((numsL a).getD k 0) := by
          rw [List.getD_eq_getElem?_getD]
          have hl : k < (numsL a).length := by simpa [numsL] using hk
          rw [List.getElem?_eq_getElem hl]; rfl
        generalize (numsL a).getD k 0 = n at *
        have HNL : Hid ((numsL a)[k]? = some n) := hnl
        have hn01 := HNS.out n (List.mem_of_getElem? hnl)
        obtain ⟨m, rfl⟩ := Int.eq_ofNat_of_zero_le hn01.1
        have hm : m ≤ 1000000000 := by omega
        have hdl : (Lib.decDigits m).length ≤ 10 := dec_short2 m hm
        have z3 : ¬ 9223372036854775807 < sv.size + 1 := by omega
        have z4 : ¬ 9223372036854775807 < sv.size + 1 + (Lib.decDigits m).length := by omega
        clear hnl hn01
        go_wp2_with fail
        refine (decN m hm _).mono ?_
        rintro e w5 ⟨rfl, hb5⟩
        go_wp2
        go_roundw
        case rel =>
          have q1 : (⟨#[32]⟩ : ByteArray).size = 1 := rfl
          have q2 : (⟨(Lib.decDigits m).toArray⟩ : ByteArray).size = (Lib.decDigits m).length := by simp [ByteArray.size]
          refine ⟨k + 1, _, by omega, rfl, by go_num, ?_, ?_, HBR.out.trans (hb5.mono HBR.out.size)⟩
          · rw [ByteArray.size_append, ByteArray.size_append, q1, q2]; omega
          · rw [List.take_add_one, HNL.out]
            simp [HSV.out, Lib.joinTail, Lib.itoa_nonneg]
        case measure => simp [intOf]; omega
      · have HE : Hid (sv = ⟨(showL a).toArray⟩) := show _ = _ by
          have e : sv = ⟨sv.data.toList.toArray⟩ := by cases sv; simp
          rw [e, HSV.out, List.take_of_length_le (by simp [numsL]; omega), showL, wordsL, HKW.out, Lib.join_cons]
        go_wp2
        go_ret
        exact ⟨by rw [HE.out]; rfl, HBW.out.trans (HBR.out.mono HBW.out.size)⟩
end Go.Proofs.YtefjeohhdmmboaaDoor
