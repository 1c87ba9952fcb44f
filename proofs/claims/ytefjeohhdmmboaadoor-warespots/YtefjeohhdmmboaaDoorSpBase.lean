/- The law WareSpots: what its ways share. -/
import Derived.Test.YtefjeohhdmmboaaDoorAll
import Derived.Test.YtefjeohhdmmboaaDoorRsp
namespace Go.Proofs.YtefjeohhdmmboaaDoor
open Go.RowKit

theorem spot_l (l : List UInt8) (w : World) (hl : l.length ≤ maxLen) :
    Calls Tryd.prog 14 #[.string ⟨l.toArray⟩] w fun e w' => e = .returned (.tuple #[.agg #[.int .i64 (spotR l).1, .int .i64 (spotR l).2.1], .int .i64 (spotR l).2.2]) ∧ Below w.heap.size w w' := by
  cases l with
  | nil => exact spot_nil w
  | cons b t => exact spot_list (b :: t) w (by simp) hl

def spV (a : Wr) (r c : Nat) (d : Nat) (v : Value) (_ : World) : Prop :=
  match d with
  | 158 => v = .int .i64 0
  | 159 => v = .bool true
  | 160 => v = .bool true
  | 161 => v = .agg #[.int .i64 (a.x + c * a.pitch), .int .i64 (a.y + r * a.pitch), .int .i64 (a.hei - a.deep)]
  | 162 => v = wv a
  | 163 => v = .agg #[.int .i64 (r : Int), .int .i64 (c : Int)]
  | 164 => v = .agg #[.int .i64 (a.x + c * a.pitch), .int .i64 (a.y + r * a.pitch), .int .i64 (a.hei - a.deep)]
  | 165 => v = .bool true
  | 166 => v = .bool true
  | 6 => v = .bool true
  | _ => True

end Go.Proofs.YtefjeohhdmmboaaDoor
