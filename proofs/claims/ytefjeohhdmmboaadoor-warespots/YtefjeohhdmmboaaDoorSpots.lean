/- The law WareSpots whole. -/
import Derived.Test.YtefjeohhdmmboaaDoorSp0101
import Derived.Test.YtefjeohhdmmboaaDoorSp0100
import Derived.Test.YtefjeohhdmmboaaDoorSp0110
import Derived.Test.YtefjeohhdmmboaaDoorSp0010
import Derived.Test.YtefjeohhdmmboaaDoorSp0000
import Derived.Test.YtefjeohhdmmboaaDoorSp1101
import Derived.Test.YtefjeohhdmmboaaDoorSp1100
import Derived.Test.YtefjeohhdmmboaaDoorSp1110
import Derived.Test.YtefjeohhdmmboaaDoorSp1010
import Derived.Test.YtefjeohhdmmboaaDoorSp1000
namespace Go.Proofs.YtefjeohhdmmboaaDoor
open Go.RowKit

theorem spotR_forms (l : List UInt8) : spotR l = (0, 0, 1) ∨ ∃ x1 x2, spotR l = (x1, x2, 0) := by
  cases l with
  | nil => exact .inl rfl
  | cons b t =>
    simp only [spotR]
    split
    · exact .inr ⟨_, _, rfl⟩
    · exact .inl rfl

theorem spots_any (a : Wr) (r c : Int) (l : List UInt8) (w : World) (hs : a.name.size ≤ maxLen) (hl : l.length ≤ maxLen) :
    Calls Tryd.prog 4 #[wv a, .agg #[.int .i64 r, .int .i64 c], .string ⟨l.toArray⟩] w fun e w' => e = .returned (.bool true) ∧ Below w.heap.size w w' := by
  cases hsp : spotOk r c 16 24 with
  | true =>
    obtain ⟨⟨s0, s1⟩, s2, s3⟩ := spotOk_iff.1 hsp
    obtain ⟨r, rfl⟩ := Int.eq_ofNat_of_zero_le s0
    obtain ⟨c, rfl⟩ := Int.eq_ofNat_of_zero_le s2
    have hr : r < 16 := by omega
    have hc : c < 24 := by omega
    by_cases h0 : chk a = 0
    · obtain ⟨R, hR⟩ : ∃ R : Nat, a.rows = R := ⟨a.rows.toNat, by have := (chk_inR h0).r1; omega⟩
      obtain ⟨C, hC⟩ : ∃ C : Nat, a.cols = C := ⟨a.cols.toNat, by have := (chk_inR h0).c1; omega⟩
      cases hin : spotOk (r : Int) (c : Int) a.rows a.cols with
      | true =>
        rcases spotR_forms l with hS | ⟨x1, x2, hS⟩
        · exact spots_1101 a r c hr hc l w hs hl hS h0 R C hR hC hin
        · exact spots_0101 a r c hr hc l x1 x2 w hs hl hS h0 R C hR hC hin
      | false =>
        rcases spotR_forms l with hS | ⟨x1, x2, hS⟩
        · exact spots_1100 a r c hr hc l w hs hl hS h0 R C hR hC hin
        · exact spots_0100 a r c hr hc l x1 x2 w hs hl hS h0 R C hR hC hin
    · rcases spotR_forms l with hS | ⟨x1, x2, hS⟩
      · exact spots_1110 a r c hr hc l w hs hl hS h0
      · exact spots_0110 a r c hr hc l x1 x2 w hs hl hS h0
  | false =>
    by_cases h0 : chk a = 0
    · obtain ⟨R, hR⟩ : ∃ R : Nat, a.rows = R := ⟨a.rows.toNat, by have := (chk_inR h0).r1; omega⟩
      obtain ⟨C, hC⟩ : ∃ C : Nat, a.cols = C := ⟨a.cols.toNat, by have := (chk_inR h0).c1; omega⟩
      have hin : spotOk r c a.rows a.cols = false := by
        have : ¬ spotOk r c a.rows a.cols = true := fun h => by
          obtain ⟨⟨s0, s1⟩, s2, s3⟩ := spotOk_iff.1 h
          have h1 := (chk_inR h0).r2
          have h2 := (chk_inR h0).c2
          rw [spotOk_iff.2 ⟨⟨s0, by omega⟩, s2, by omega⟩] at hsp
          cases hsp
        simpa using this
      rcases spotR_forms l with hS | ⟨x1, x2, hS⟩
      · exact spots_1000 a r c hsp l w hs hl hS h0 R C hR hC hin
      · exact spots_0000 a r c hsp l x1 x2 w hs hl hS h0 R C hR hC hin
    · rcases spotR_forms l with hS | ⟨x1, x2, hS⟩
      · exact spots_1010 a r c hsp l w hs hl hS h0
      · exact spots_0010 a r c hsp l x1 x2 w hs hl hS h0
end Go.Proofs.YtefjeohhdmmboaaDoor
