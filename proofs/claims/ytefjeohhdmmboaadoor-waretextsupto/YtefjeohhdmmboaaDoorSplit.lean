/- Splitting, the document's way: splitAt, walked. -/
import Derived.Test.YtefjeohhdmmboaaDoorShow
import Derived.Test.YtefjeohhdmmboaaDoorDigs
namespace Go.Proofs.YtefjeohhdmmboaaDoor
open Go.RowKit Go.Shelf

/-- All words between blanks; cur: what is read of the first. -/
def splitAll (cur : List UInt8) : List UInt8 → List (List UInt8)
  | [] => [cur]
  | b :: r => if b = 32 then cur :: splitAll [] r else splitAll (cur ++ [b]) r
theorem OwnS.nil (w : World) (base : Nat) : OwnS w base (.slice none 0 0) [] := World.ownsRow_nil w base 9 1
theorem drop_at {s : ByteArray} {k : Nat} (h : k < s.size) : s.data.toList.drop k = (s[k]'h) :: s.data.toList.drop (k + 1) := by
  rw [List.drop_eq_getElem_cons (by rw [lenL]; exact h)]
  rfl
theorem ext_one {s : ByteArray} {k : Nat} (h : k < s.size) : s.extract k (k + 1) = ⟨#[s[k]'h]⟩ := by
  apply ByteArray.ext
  rw [ByteArray.data_extract]
  have h' : k < s.data.size := h
  apply Array.ext
  · simp; omega
  · intro i h1 h2
    simp at h2
    subst h2
    simp
    rfl
theorem cat_one (c : ByteArray) (b : UInt8) : (c ++ (⟨#[b]⟩ : ByteArray)).data.toList = c.data.toList ++ [b] := by
  rw [ByteArray.data_append]; simp
theorem cat_size (c : ByteArray) (b : UInt8) : (c ++ (⟨#[b]⟩ : ByteArray)).size = c.size + 1 := by
  rw [ByteArray.size_append]; rfl

/-- The words that a text is split into, the document's way. -/
def wordsA (s : ByteArray) : List ByteArray := (splitAll [] s.data.toList).map fun l => ⟨l.toArray⟩
theorem wordsA_of {xs : List ByteArray} {s : ByteArray} (h : xs.map (·.data.toList) = splitAll [] s.data.toList) : xs = wordsA s := by
  unfold wordsA
  rw [← h, List.map_map]
  conv => lhs; rw [← List.map_id xs]
  exact List.map_congr_left fun x _ => by cases x; simp

set_option maxHeartbeats 3200000 in
theorem splitAt_any (s : ByteArray) (w : World) (hs : s.size ≤ 1048576) :
    Calls Tryd.prog 32 #[.string s, .int .u8 32] w fun e w' => ∃ v, e = .returned v ∧ OwnS w' w.heap.size v (wordsA s) ∧ (∀ x ∈ wordsA s, x.size ≤ s.size) ∧ (wordsA s).length ≤ s.size + 1 ∧ Below w.heap.size w w' := by
  go_enter Tryd.func32, Tryd.ntmps32
  go_wp2_with fail
  go_loopw [5, 6, 7] (fun v c i wr => ∃ (pos : Nat) (xs : List ByteArray) (cur : ByteArray), pos ≤ s.size ∧ c = .string cur ∧ i = .int .i64 pos ∧ cur.size ≤ pos ∧ xs.length ≤ pos ∧ OwnS wr w.heap.size v xs ∧ Below w.heap.size w wr ∧ (∀ x ∈ xs, x.size ≤ s.size) ∧ xs.map (·.data.toList) ++ splitAll cur.data.toList (s.data.toList.drop pos) = splitAll [] s.data.toList) (fun _ _ i _ => s.size - (intOf i).toNat)
  case atStart => exact ⟨0, [], ⟨#[]⟩, Nat.zero_le _, rfl, rfl, Nat.le_refl _, Nat.le_refl _, OwnS.nil _ _, Below.refl _ _, by simp, by simp⟩
  case round =>
    obtain ⟨pos, xs, cur, hpos, rfl, rfl, hcs, hxl, hown, hbr, hxs, heq⟩ := hrel
    have HO : Hid (OwnS wr w.heap.size u5 xs) := hown
    have HB : Hid (Below w.heap.size w wr) := hbr
    have HX : Hid (∀ x ∈ xs, x.size ≤ s.size) := hxs
    have HE : Hid (xs.map (·.data.toList) ++ splitAll cur.data.toList (s.data.toList.drop pos) = splitAll [] s.data.toList) := heq
    have HL : Hid (xs.length ≤ pos) := hxl
    have HSZ : Hid (w.heap.size ≤ wr.heap.size) := hbr.size
    clear hown hbr hxs heq hxl
    by_cases hp : pos < s.size
    · obtain ⟨c, hc⟩ : ∃ c : UInt8, s[pos]'hp = c := ⟨_, rfl⟩
      have HC : Hid (s[pos]'hp = c) := hc
      by_cases h32 : c = 32
      · have HC2 : Hid (c = 32) := h32
        have he : ((c.toNat : Int) == 32) = true := by rw [h32]; decide
        clear h32
        go_wp2_with (at_builtin; refine wpList_append_str _ rfl (.tmp 19) (.tmp 21) rfl w.heap.size u5 _ rfl (HO.out.later ((Below.refl _ _).alloc (Nat.le_refl _) _)) wr.heap.size cur rfl (by go_simp) (by have := HL.out; omega) (by have h1 := HSZ.out; simp; omega) ?_; intro v' w6 hown1 hg hloc)
        go_roundw
        case rel =>
          have hw5 : Below w.heap.size w (wr.alloc (.cells #[.string cur] 9)) := HB.out.alloc HSZ.out _
          refine ⟨pos + 1, xs ++ [cur], ⟨#[]⟩, by omega, rfl, by go_num, Nat.zero_le _, by have := HL.out; simp; omega, hown1, hw5.grown hg (by have h1 := HSZ.out; simp; omega) (fun g hg => (World.ownsRow.lt HO.out g hg).1), ?_, ?_⟩
          · intro x hx
            rcases List.mem_append.1 hx with h | h
            · exact HX.out x h
            · rw [List.mem_singleton.1 h]; omega
          · rw [← HE.out, drop_at hp, HC.out, HC2.out, splitAll, if_pos rfl]
            simp
        case measure => simp [intOf]; omega
      · have HC2 : Hid (c ≠ 32) := h32
        have he : ((c.toNat : Int) == 32) = false := by
          have : c.toNat ≠ 32 := fun e => h32 (UInt8.toNat.inj e)
          simp; omega
        have hx1 := ext_one hp
        rw [hc] at hx1
        have hcz := cat_size cur c
        clear h32
        go_wp2
        go_roundw
        case rel =>
          refine ⟨pos + 1, xs, cur ++ ⟨#[c]⟩, by omega, rfl, by go_num, by rw [cat_size]; omega, by have := HL.out; omega, HO.out, HB.out, HX.out, ?_⟩
          rw [← HE.out, drop_at hp, HC.out, cat_one]
          conv => rhs; rw [splitAll, if_neg HC2.out]
        case measure => simp [intOf]; omega
    · have hpe : s.data.toList.drop pos = [] := List.drop_eq_nil_of_le (by rw [lenL]; omega)
      have HD : Hid (s.data.toList.drop pos = []) := hpe
      clear hpe
      go_wp2_with (at_builtin; refine wpList_append_str _ rfl (.tmp 30) (.tmp 32) rfl w.heap.size u5 _ rfl (HO.out.later ((Below.refl _ _).alloc (Nat.le_refl _) _)) wr.heap.size cur rfl (by go_simp) (by have := HL.out; omega) (by have h1 := HSZ.out; simp; omega) ?_; intro v' w6 hown1 hg hloc)
      go_ret
      have hw5 : Below w.heap.size w (wr.alloc (.cells #[.string cur] 9)) := HB.out.alloc HSZ.out _
      have hA : xs ++ [cur] = wordsA s := wordsA_of (by rw [← HE.out, HD.out, splitAll]; simp)
      rw [← hA]
      refine ⟨v', rfl, hown1, ?_, ?_, hw5.grown hg (by have h1 := HSZ.out; simp; omega) (fun g hg => (World.ownsRow.lt HO.out g hg).1)⟩
      · intro x hx
        rcases List.mem_append.1 hx with h | h
        · exact HX.out x h
        · rw [List.mem_singleton.1 h]; omega
      · have := HL.out; simp; omega
end Go.Proofs.YtefjeohhdmmboaaDoor
