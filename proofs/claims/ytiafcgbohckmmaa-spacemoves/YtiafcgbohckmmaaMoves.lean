/- The law SpaceMoves walked. -/
import Derived.Test.YtiafcgbohckmmaaMvA
import Derived.Test.YtiafcgbohckmmaaMvBFar
import Derived.Test.YtiafcgbohckmmaaMvBOut
import Derived.Test.YtiafcgbohckmmaaMvBKind
import Derived.Test.YtiafcgbohckmmaaMvBOk
import Derived.Test.YtiafcgbohckmmaaMvCFar
import Derived.Test.YtiafcgbohckmmaaMvCOut
import Derived.Test.YtiafcgbohckmmaaMvCKind
import Derived.Test.YtiafcgbohckmmaaMvCOk
namespace Go.Proofs.Ytiafcgbohckmmaa
open Go.RowKit

theorem moves_any (a b : Bx) (p : Pt) (w : World) : Calls Try.prog 3 #[bv a, bv b, pv p] w fun e w' => e = .returned (.bool true) ∧ Below w.heap.size w w' := by
  by_cases ha : bad1 a = 0
  · by_cases hb : bad1 b = 0
    · cases hp : nearP p with
      | false => exact mv_c_far a b p w ha hb hp
      | true =>
        cases hm : nearB (movB a p) with
        | false => exact mv_c_out a b p w ha hb hp hm
        | true =>
          cases hs : straight p with
          | false => exact mv_c_kind a b p w ha hb hp hm hs
          | true => exact mv_c_ok a b p w ha hb hp hm hs
    · cases hp : nearP p with
      | false => exact mv_b_far a b p w ha hb hp
      | true =>
        cases hm : nearB (movB a p) with
        | false => exact mv_b_out a b p w ha hb hp hm
        | true =>
          cases hs : straight p with
          | false => exact mv_b_kind a b p w ha hb hp hm hs
          | true => exact mv_b_ok a b p w ha hb hp hm hs
  · exact mv_a a b p w ha
end Go.Proofs.Ytiafcgbohckmmaa
