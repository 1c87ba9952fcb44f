/- Both ways of splitting a text come to one; ware.Read and ReadWare come to one answer. -/
import Derived.Test.YtefjeohhdmmboaaDoorBackM
import Derived.Test.YtefjeohhdmmboaaDoorRWare1
import Derived.Test.YtefjeohhdmmboaaDoorRWare2
import Derived.Test.YtefjeohhdmmboaaDoorRWare3
namespace Go.Proofs.YtefjeohhdmmboaaDoor
open Go.RowKit Go.Shelf

theorem splitAll_none : ∀ (l cur : List UInt8), (32 : UInt8) ∉ l → splitAll cur l = [cur ++ l]
  | [], cur, _ => by simp [splitAll]
  | b :: l, cur, h => by
    have hb : ¬ b = 32 := fun e => h (by simp [e])
    have hl : (32 : UInt8) ∉ l := fun e => h (by simp [e])
    rw [splitAll, if_neg hb, splitAll_none l _ hl]; simp
theorem splitAll_some : ∀ (w r cur : List UInt8), (32 : UInt8) ∉ w → splitAll cur (w ++ 32 :: r) = (cur ++ w) :: splitAll [] r
  | [], r, cur, _ => by simp [splitAll]
  | b :: w, r, cur, h => by
    have hb : ¬ b = 32 := fun e => h (by simp [e])
    have hl : (32 : UInt8) ∉ w := fun e => h (by simp [e])
    rw [List.cons_append, splitAll, if_neg hb, splitAll_some w r _ hl]; simp
theorem splitAll_len : ∀ (l cur : List UInt8), (splitAll cur l).length ≤ l.length + 1 ∧ 1 ≤ (splitAll cur l).length
  | [], cur => by simp [splitAll]
  | b :: l, cur => by
    rw [splitAll]
    split
    · have := splitAll_len l []
      simp only [List.length_cons]; omega
    · have := splitAll_len l (cur ++ [b])
      simp only [List.length_cons]; omega
theorem splitAll_size : ∀ (l cur x : List UInt8), x ∈ splitAll cur l → x.length ≤ cur.length + l.length
  | [], cur, x, h => by simp [splitAll] at h; simp [h]
  | b :: l, cur, x, h => by
    rw [splitAll] at h
    split at h
    · rcases List.mem_cons.1 h with e | e
      · rw [e]; simp
      · have := splitAll_size l [] x e
        simp at this ⊢; omega
    · have := splitAll_size l (cur ++ [b]) x h
      simp at this ⊢; omega
theorem splitK_all : ∀ (k : Nat) (l : List UInt8), ((splitAll [] l).length ≤ k + 1 → Lib.splitK [32] 0 k l = splitAll [] l) ∧ (k + 1 < (splitAll [] l).length → (Lib.splitK [32] 0 k l).length = k + 1)
  | k, l => by
    by_cases hm : (32 : UInt8) ∈ l
    · obtain ⟨w, r, rfl, hw⟩ := List.eq_append_cons_of_mem hm
      rw [splitAll_some w r [] hw]
      cases k with
      | zero =>
        have := (splitAll_len r []).2
        refine ⟨fun h => ?_, fun _ => rfl⟩
        simp only [List.length_cons] at h; omega
      | succ k =>
        have ih := splitK_all k r
        have hd : (w ++ 32 :: r).drop ((w.length : Int).toNat + [(32 : UInt8)].length) = r := by
          have h2 : ((w.length : Int).toNat + [(32 : UInt8)].length) = w.length + 1 := by simp
          rw [h2, List.drop_append]; simp
        have h4 : (w ++ 32 :: r).take ((w.length : Int).toNat + 0) = w := by simp
        have e : Lib.splitK [32] 0 (k + 1) (w ++ 32 :: r) = w :: Lib.splitK [32] 0 k r := by
          conv => lhs; unfold Lib.splitK
          rw [Lib.index_one, ib_some hw, if_neg (by simp), hd, h4]
        rw [e]
        simp only [List.length_cons, List.nil_append]
        exact ⟨fun h => by rw [ih.1 (by omega)], fun h => by rw [ih.2 (by omega)]⟩
    · rw [splitAll_none l [] hm]
      refine ⟨fun _ => ?_, fun h => ?_⟩
      · cases k with
        | zero => rfl
        | succ k =>
          unfold Lib.splitK
          rw [Lib.index_one, ib_none hm]; rfl
      · simp at h
theorem wordsA_data (s : ByteArray) : (wordsA s).map (·.data.toList) = splitAll [] s.data.toList := by
  unfold wordsA
  rw [List.map_map]
  conv => rhs; rw [← List.map_id (splitAll [] s.data.toList)]
  exact List.map_congr_left fun x _ => by simp
theorem wordsB_data (s : ByteArray) : (wordsB s).map (·.data.toList) = Lib.splitK [32] 0 (min 13 (s.size + 1) - 1) s.data.toList := by
  unfold wordsB
  rw [Lib.splitB_data]
theorem words_eq (s : ByteArray) (h : (wordsA s).length = 12 ∨ (wordsB s).length = 12) : wordsB s = wordsA s := by
  have hA : (splitAll [] s.data.toList).length = (wordsA s).length := by rw [← wordsA_data, List.length_map]
  have hB : (Lib.splitK [32] 0 (min 13 (s.size + 1) - 1) s.data.toList).length = (wordsB s).length := by rw [← wordsB_data, List.length_map]
  have hK := splitK_all (min 13 (s.size + 1) - 1) s.data.toList
  have hL := (splitAll_len s.data.toList []).1
  rw [lenL] at hL
  rw [hA, hB] at hK
  rw [hA] at hL
  have h2 : (wordsA s).length ≤ min 13 (s.size + 1) - 1 + 1 := by
    by_cases e : (wordsA s).length ≤ min 13 (s.size + 1) - 1 + 1
    · exact e
    · have := hK.2 (by omega)
      omega
  have h3 := hK.1 h2
  exact wordsA_of (by rw [wordsB_data]; exact h3)
theorem wordsA_size (s : ByteArray) : ∀ x ∈ wordsA s, x.size ≤ s.size := by
  intro x hx
  unfold wordsA at hx
  obtain ⟨l, hl, rfl⟩ := List.mem_map.1 hx
  have := splitAll_size _ _ _ hl
  rw [lenL, List.length_nil, Nat.zero_add] at this
  show l.toArray.size ≤ s.size
  rw [List.size_toArray]; exact this

/-- What a text tells: a ware, or an error. -/
def outP (s : ByteArray) : Wr × Int :=
  match wordsA s with
  | x0 :: x1 :: ys => if ys.length = 10 ∧ pOk x0 x1 ys = true then (if chk (pW x0 x1 ys) = 0 then (pW x0 x1 ys, 0) else (zW, chk (pW x0 x1 ys))) else (zW, 1)
  | _ => (zW, 1)
theorem outP_len {s : ByteArray} (h : (wordsA s).length ≠ 12) : outP s = (zW, 1) := by
  unfold outP
  split
  · rename_i x0 x1 ys e
    rw [if_neg]
    rintro ⟨h1, _⟩
    rw [e] at h
    simp [h1] at h
  · rfl
theorem outP_12 {s x0 x1 : ByteArray} {ys : List ByteArray} (h : wordsA s = x0 :: x1 :: ys) (hy : ys.length = 10) : rdOut x0 x1 ys = .tuple #[wv (outP s).1, .int .i64 (outP s).2] := by
  have e : outP s = if ys.length = 10 ∧ pOk x0 x1 ys = true then (if chk (pW x0 x1 ys) = 0 then (pW x0 x1 ys, 0) else (zW, chk (pW x0 x1 ys))) else (zW, 1) := by
    unfold outP
    rw [h]
  rw [e]
  unfold rdOut
  clear e h
  generalize pW x0 x1 ys = A
  generalize chk A = c
  generalize pOk x0 x1 ys = b
  cases b with
  | false => rw [if_neg (by decide), if_neg (fun h => absurd h.2 (by decide))]
  | true =>
    rw [if_pos rfl, if_pos (show ys.length = 10 ∧ true = true from ⟨hy, rfl⟩)]
    by_cases hc : c = 0
    · rw [if_pos hc, if_pos hc]
    · rw [if_neg hc, if_neg hc]
theorem two_of {s : ByteArray} (h : (wordsA s).length = 12) : ∃ x0 x1 ys, wordsA s = x0 :: x1 :: ys ∧ ys.length = 10 := by
  match e : wordsA s, h with
  | x0 :: x1 :: ys, h => exact ⟨x0, x1, ys, rfl, by simpa using h⟩
theorem pW_name (x0 x1 : ByteArray) (ys : List ByteArray) : (pW x0 x1 ys).name = x0 := rfl

theorem read_any (s : ByteArray) (w : World) (hs : s.size ≤ 1048576) (hT : Tabs w) :
    Calls Tryd.prog 9 #[.string s] w fun e w' => e = .returned (.tuple #[wv (outP s).1, .int .i64 (outP s).2]) ∧ Below w.heap.size w w' := by
  by_cases hl : (wordsA s).length = 12
  · obtain ⟨x0, x1, ys, hA, hy⟩ := two_of hl
    have hB := words_eq s (.inl hl)
    have hsz : ∀ x ∈ wordsB s, x.size ≤ maxLen := by
      rw [hB]; intro x hx
      have := wordsA_size s x hx
      unfold maxLen; omega
    have hP := fun (w' : World) (hT' : Tabs w') => parse_12 s w' (by omega) hT' x0 x1 ys (hB.trans hA) hy hsz
    rw [← outP_12 hA hy]
    have hn : (pW x0 x1 ys).name.size ≤ maxLen := by
      rw [pW_name]; exact hsz x0 (by rw [hB, hA]; simp)
    cases hok : pOk x0 x1 ys with
    | false =>
      rw [rdOut_no hok]
      refine read_form s w hT fun w' hT' => (hP w' hT').mono ?_
      rintro e w2 ⟨g, he, _, hb⟩
      rw [hok] at he
      exact ⟨g, he, hb⟩
    | true =>
      have hP2 : ∀ w' : World, Tabs w' → Calls Tryd.prog 31 #[.string s] w' fun e w2 => e = .returned (.tuple #[wv (pW x0 x1 ys), .bool true]) ∧ Below w'.heap.size w' w2 := fun w' hT' => (hP w' hT').mono (by
        rintro e w2 ⟨g, he, hg, hb⟩
        rw [hok, hg hok] at he
        exact ⟨he, hb⟩)
      by_cases hc : chk (pW x0 x1 ys) = 0
      · rw [rdOut_yes hok hc]
        exact read_ok s w hT _ hn hP2 hc
      · rw [rdOut_err hok hc]
        exact read_chk s w hT _ hn hP2 hc
  · rw [outP_len hl]
    refine read_form s w hT fun w' hT' => parse_len s w' (by omega) hT' fun h => hl ?_
    rw [← words_eq s (.inr h)]; exact h

theorem readWare_any (s : ByteArray) (w : World) (hs : s.size ≤ 1048576) :
    Calls Tryd.prog 10 #[.string s] w fun e w' => e = .returned (.tuple #[wv (outP s).1, .int .i64 (outP s).2]) ∧ Below w.heap.size w w' := by
  by_cases hl : (wordsA s).length = 12
  · obtain ⟨x0, x1, ys, hA, hy⟩ := two_of hl
    rw [← outP_12 hA hy]
    cases hlb : lab x0 with
    | false =>
      rw [rdOut_no (by unfold pOk; rw [hlb]; rfl)]
      exact rw_lab s w hs x0 x1 ys hA hy hlb
    | true =>
      by_cases hk : kindN x1.data.toList = 0
      · rw [rdOut_no (by unfold pOk; rw [hk]; simp)]
        have e : x1 = ⟨x1.data.toList.toArray⟩ := by cases x1; simp
        exact rw_kind s w hs x0 x1.data.toList ys (by rw [← e]; exact hA) hy hlb hk
      · obtain ⟨y0, y1, y2, y3, y4, y5, y6, y7, y8, y9, rfl⟩ : ∃ y0 y1 y2 y3 y4 y5 y6 y7 y8 y9, ys = [y0, y1, y2, y3, y4, y5, y6, y7, y8, y9] := by
          match ys, hy with
          | [y0, y1, y2, y3, y4, y5, y6, y7, y8, y9], _ => exact ⟨y0, y1, y2, y3, y4, y5, y6, y7, y8, y9, rfl⟩
        have hx : x1.data.toList = [112, 108, 97, 116, 101] ∨ x1.data.toList = [114, 97, 99, 107] ∨ x1.data.toList = [116, 114, 97, 115, 104] := by
          unfold kindN at hk
          split at hk
          · exact absurd rfl hk
          · split at hk
            · exact .inl ‹_›
            · split at hk
              · exact .inr (.inl ‹_›)
              · split at hk
                · exact .inr (.inr ‹_›)
                · exact absurd rfl hk
        have hx1 : ∀ l : Array UInt8, x1.data.toList = l.toList → x1 = ⟨l⟩ := fun l h => by cases x1; exact congrArg _ (Array.ext' h)
        rcases hx with h | h | h
        · rw [hx1 #[112, 108, 97, 116, 101] h] at hA ⊢
          exact rw_good1 s w hs x0 y0 y1 y2 y3 y4 y5 y6 y7 y8 y9 hA hlb
        · rw [hx1 #[114, 97, 99, 107] h] at hA ⊢
          exact rw_good2 s w hs x0 y0 y1 y2 y3 y4 y5 y6 y7 y8 y9 hA hlb
        · rw [hx1 #[116, 114, 97, 115, 104] h] at hA ⊢
          exact rw_good3 s w hs x0 y0 y1 y2 y3 y4 y5 y6 y7 y8 y9 hA hlb
  · rw [outP_len hl]
    exact rw_len s w hs hl
end Go.Proofs.YtefjeohhdmmboaaDoor
