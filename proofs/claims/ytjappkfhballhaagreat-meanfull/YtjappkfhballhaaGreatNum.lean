/- Small lemmas on texts. -/
import Derived.Test.YtjappkfhballhaaGreatSpotA
namespace Go.Proofs.YtjappkfhballhaaGreat
open Go.RowKit

theorem in_rune' (x lo hi : Int) (v : Bool) (hv : inR lo hi x = v) (p q : Nat) (w : World) (hp : w.cell? ⟨p, 0, none⟩ = some (.int .i32 lo)) (hq : w.cell? ⟨q, 0, none⟩ = some (.int .i32 hi)) :
    Calls Tryz.prog 135 #[.int .i32 x, .pointer (some ⟨p, 0, none⟩), .pointer (some ⟨q, 0, none⟩)] w fun e w' => e = .returned (.bool v) ∧ w' = w := by
  subst hv; exact in_rune x lo hi p q w hp hq

theorem getL {s : ByteArray} {k : Nat} (h : k < s.size) : s.data.toList[k]? = some (s[k]'h) := by
  have : k < s.data.toList.length := by simpa using h
  rw [List.getElem?_eq_getElem this]; rfl
theorem lenL (s : ByteArray) : s.data.toList.length = s.size := by simp
theorem take_succL {s : ByteArray} {k : Nat} (h : k < s.size) : s.data.toList.take (k + 1) = s.data.toList.take k ++ [s[k]'h] := by
  rw [List.take_add_one, getL h]; rfl

end Go.Proofs.YtjappkfhballhaaGreat
