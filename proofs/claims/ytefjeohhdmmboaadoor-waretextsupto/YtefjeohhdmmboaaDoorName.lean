/- Names of spots: ware.Name walked. -/
import Derived.Test.YtefjeohhdmmboaaDoorSpotA
import Derived.Test.YtefjeohhdmmboaaDoorShelf
import Derived.Lib.ItoaMem
namespace Go.Proofs.YtefjeohhdmmboaaDoor
open Go.RowKit

/-- A row's letter. -/
def letterB (r : Nat) : UInt8 := UInt8.ofNat (65 + r)
/-- A spot's name. -/
def nameL (r c : Nat) : List UInt8 := letterB r :: Lib.decDigits (c + 1)
theorem encode_letter (r : Nat) (h : r < 16) : Utf8.encode (65 + (r : Int)) = ⟨#[letterB r]⟩ := by
  have : ∀ r : Nat, r < 16 → Utf8.encode (65 + (r : Int)) = ⟨#[letterB r]⟩ := by decide
  exact this r h

theorem dec_len {i : Nat} (h : i < 100) : (Lib.decDigits i).length = if i < 10 then 1 else 2 := by
  by_cases h1 : i < 10
  · rw [Lib.decDigits_one h1, if_pos h1]; rfl
  · rw [Lib.decDigits_two h1 h, if_neg h1]; rfl

def nameV (r c B : Nat) (d : Nat) (v : Value) (_ : World) : Prop :=
  match d with
  | 7 => v = .pointer (some ⟨B, 0, none⟩)
  | 8 => v = .int .i64 r
  | 9 => v = .int .i64 (65 + r)
  | 10 => v = .int .i32 (65 + r)
  | 11 => v = .string ⟨#[letterB r]⟩
  | 12 => v = .pointer (some ⟨B, 1, none⟩)
  | 13 => v = .int .i64 c
  | 14 => v = .int .i64 ((c + 1 : Nat) : Int)
  | 15 => v = .string ⟨(Lib.decDigits (c + 1)).toArray⟩
  | 16 => v = .string (⟨#[letterB r]⟩ ++ ⟨(Lib.decDigits (c + 1)).toArray⟩)
  | 2 => v = .string (⟨#[letterB r]⟩ ++ ⟨(Lib.decDigits (c + 1)).toArray⟩)
  | 3 => v = .int .i64 0
  | _ => True

set_option maxHeartbeats 1600000 in
theorem name_ok (r c : Nat) (w : World) (hr : r < 16) (hc : c < 24) :
    Calls Tryd.prog 13 #[.agg #[.int .i64 r, .int .i64 c]] w fun e w' => e = .returned (.tuple #[.string ⟨(nameL r c).toArray⟩, .int .i64 0]) ∧ Below w.heap.size w w' := by
  have hw1 : IntKind.i64.wrap (65 + (r : Int)) = 65 + r := wrap_in (by omega) (by omega)
  have hw2 : IntKind.i64.wrap ((c : Int) + 1) = ((c + 1 : Nat) : Int) := by rw [wrap_in (by omega) (by omega)]; simp
  have hw3 : IntKind.i32.wrap (65 + (r : Int)) = 65 + r := by
    have : ∀ r : Nat, r < 16 → IntKind.i32.wrap (65 + (r : Int)) = 65 + r := by decide
    exact this r hr
  have henc := encode_letter r hr
  have hdl : ¬ 9223372036854775807 < 1 + (Lib.decDigits (c + 1)).length := by rw [dec_len (by omega)]; split <;> omega
  have hs : spotOk r c 16 24 = true := spotOk_iff.2 ⟨⟨by omega, by omega⟩, by omega, by omega⟩
  go_enter Tryd.func13, Tryd.ntmps13
  go_wp2_with (go_at_call 37; refine (isSpot_any r c 16 24 _ (by decide) (by decide) (by decide) (by decide)).mono ?_; rintro e w2 ⟨rfl, hB⟩; rw [hs])
  refine region_inv [false, false, true, true, false, false, false, true, true, true, true, true, true, true, true, true, true]
    [(7, [], none), (8, [7], none), (9, [8], none), (10, [9], none), (11, [10], none), (12, [], none), (13, [12], none), (14, [13], none), (15, [14], none), (16, [11, 15], none), (2, [16], none), (3, [], none)]
    (nameV r c w.heap.size) (by kernel_rfl) (by kernel_rfl) (fun _ _ _ _ h _ => h) ?_ ?_
  · refine ⟨?_, ?_, ?_, ?_, ?_, ?_, ?_, ?_, ?_, ?_, ?_, ?_, trivial⟩
    · intro f w1 hb _ K hK
      simp only [over, overL, Nat.reduceAdd]
      go_simp
      exact hK _ _ ⟨_, rfl, by simp only [over, overL, Nat.reduceAdd]; rfl, Below.refl _ _⟩
    · intro f w1 hb ⟨h7, _⟩ K hK
      have h7 : f 7 = _ := h7
      have c0 : w1.cell? ⟨w.heap.size, 0, none⟩ = some (.int .i64 r) := cell_later hb (cell_later hB (by go_simp))
      have c1 : w1.cell? ⟨w.heap.size, 1, none⟩ = some (.int .i64 c) := cell_later hb (cell_later hB (by go_simp))
      simp only [over, overL, Nat.reduceAdd, h7]
      go_simp
      exact hK _ _ ⟨_, rfl, by simp only [over, overL, Nat.reduceAdd, h7]; rfl, Below.refl _ _⟩
    · intro f w1 hb ⟨h8, _⟩ K hK
      have h8 : f 8 = _ := h8
      simp only [over, overL, Nat.reduceAdd, h8]
      go_simp
      exact hK _ _ ⟨_, rfl, by simp only [over, overL, Nat.reduceAdd, h8]; rfl, Below.refl _ _⟩
    · intro f w1 hb ⟨h9, _⟩ K hK
      have h9 : f 9 = _ := h9
      simp only [over, overL, Nat.reduceAdd, h9]
      go_simp
      exact hK _ _ ⟨_, rfl, by simp only [over, overL, Nat.reduceAdd, h9]; rfl, Below.refl _ _⟩
    · intro f w1 hb ⟨h10, _⟩ K hK
      have h10 : f 10 = _ := h10
      simp only [over, overL, Nat.reduceAdd, h10]
      go_simp
      exact hK _ _ ⟨_, rfl, by simp only [over, overL, Nat.reduceAdd, h10]; rfl, Below.refl _ _⟩
    · intro f w1 hb _ K hK
      simp only [over, overL, Nat.reduceAdd]
      go_simp
      exact hK _ _ ⟨_, rfl, by simp only [over, overL, Nat.reduceAdd]; rfl, Below.refl _ _⟩
    · intro f w1 hb ⟨h12, _⟩ K hK
      have h12 : f 12 = _ := h12
      have c0 : w1.cell? ⟨w.heap.size, 0, none⟩ = some (.int .i64 r) := cell_later hb (cell_later hB (by go_simp))
      have c1 : w1.cell? ⟨w.heap.size, 1, none⟩ = some (.int .i64 c) := cell_later hb (cell_later hB (by go_simp))
      simp only [over, overL, Nat.reduceAdd, h12]
      go_simp
      exact hK _ _ ⟨_, rfl, by simp only [over, overL, Nat.reduceAdd, h12]; rfl, Below.refl _ _⟩
    · intro f w1 hb ⟨h13, _⟩ K hK
      have h13 : f 13 = _ := h13
      simp only [over, overL, Nat.reduceAdd, h13]
      go_simp
      exact hK _ _ ⟨_, rfl, by simp only [over, overL, Nat.reduceAdd, h13]; rfl, Below.refl _ _⟩
    · intro f w1 hb ⟨h14, _⟩ K hK
      have h14 : f 14 = _ := h14
      simp only [over, overL, Nat.reduceAdd, h14]
      go_simp
      refine (Tryd.strconv_Itoa_small (c + 1) (by omega) _).mono ?_
      rintro e w2 ⟨rfl, hw⟩
      exact hK _ _ ⟨_, rfl, by simp only [over, overL, Nat.reduceAdd, h14]; rfl, hw ▸ Below.refl _ _⟩
    · intro f w1 hb ⟨h11, h15, _⟩ K hK
      have h11 : f 11 = _ := h11
      have h15 : f 15 = _ := h15
      simp only [over, overL, Nat.reduceAdd, h11, h15]
      go_simp
      exact hK _ _ ⟨_, rfl, by simp only [over, overL, Nat.reduceAdd, h11, h15]; rfl, Below.refl _ _⟩
    · intro f w1 hb ⟨h16, _⟩ K hK
      have h16 : f 16 = _ := h16
      simp only [over, overL, Nat.reduceAdd, h16]
      go_simp
      exact hK _ _ ⟨_, rfl, by simp only [over, overL, Nat.reduceAdd, h16]; rfl, Below.refl _ _⟩
    · intro f w1 hb _ K hK
      simp only [over, overL, Nat.reduceAdd]
      go_simp
      exact hK _ _ ⟨_, rfl, by simp only [over, overL, Nat.reduceAdd]; rfl, Below.refl _ _⟩
  · intro f w1 hb h
    have h2 : f 2 = .string (⟨#[letterB r]⟩ ++ ⟨(Lib.decDigits (c + 1)).toArray⟩) := h.2.2.2.2.2.2.2.2.2.2.1
    have h3 : f 3 = .int .i64 0 := h.2.2.2.2.2.2.2.2.2.2.2.1
    simp only [over, overL, h2, h3, Nat.reduceAdd]
    go_wp2
    refine bodyPost_ret (v := .tuple #[.string (⟨#[letterB r]⟩ ++ ⟨(Lib.decDigits (c + 1)).toArray⟩), .int .i64 0]) (by simp [results, Tryd.results13, go_sem]) rfl ⟨?_, ?_⟩
    · have e : (⟨#[letterB r]⟩ : ByteArray) ++ ⟨(Lib.decDigits (c + 1)).toArray⟩ = ⟨(nameL r c).toArray⟩ := by
        apply ByteArray.ext
        apply Array.ext'
        simp [nameL, ByteArray.data_append]
      rw [e]
    · exact ((Below.refl _ _).alloc (Nat.le_refl _) _).trans ((hB.mono (by simp)).trans (hb.mono (by have := hB.size; simp at this; omega)))

set_option maxHeartbeats 800000 in
theorem name_no (r c : Int) (w : World) (hs : spotOk r c 16 24 = false) :
    Calls Tryd.prog 13 #[.agg #[.int .i64 r, .int .i64 c]] w fun e w' => e = .returned (.tuple #[.string ⟨#[]⟩, .int .i64 2]) ∧ Below w.heap.size w w' := by
  go_enter Tryd.func13, Tryd.ntmps13
  go_wp2_with (go_at_call 37; refine (isSpot_any r c 16 24 _ (by decide) (by decide) (by decide) (by decide)).mono ?_; rintro e w2 ⟨rfl, hB⟩; rw [hs])
  refine bodyPost_ret (v := .tuple #[.string ⟨#[]⟩, .int .i64 2]) (by simp [results, Tryd.results13, go_sem]) rfl ⟨rfl, ((Below.refl _ _).alloc (Nat.le_refl _) _).trans (hB.mono (by simp))⟩
end Go.Proofs.YtefjeohhdmmboaaDoor
