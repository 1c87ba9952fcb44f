/-
  No cell of these rows narrows 'for every input' (looked for: loops, veiled, ifaces, maps, wideKeys, modest, calm, conditions, laid).
  DERIVED. THE GIVEN ROWS OF THIS SEAT. 4 by the template 'for every input the law returns true; each argument reads behind the call as it read before'; 0 by the template 'total and deterministic' (their statements: YtanmfhaiahhoeaaTotals.lean).
  GIVEN WITH THE SEED: the statements are not yours to turn. If you find one false, say at which input.
  Laid BY PROGRAM, IN A SANDBOX (cutbox-rows.mjs): the forced cells as the released guide's own fill.sh prints them over the translation 698bddf6c64787af… (all of the seat's roots in one cut). By AI agents, Wed Nov 11 2026. No macro, syntax, notation, axiom, sorry.
-/
import Derived.Test.YtanmfhaiahhoeaaChecked
import GoSem.Claim
import GoSem.ClaimJoined
import GoSem.ClaimMapViews
import Derived.JoinedTies
import Derived.KernelRfl
namespace Go.Proofs.Ytanmfhaiahhoeaa
/- THE CELL 'sum', in the pinned program and in every row, IS THE sha256 OF THE DUMP (.gsa) THAT YtanmfhaiahhoeaaProg.lean LOADS. Nothing in Lean hashes anything: it is a label: what it is worth is what the hold of that sum in a sandbox is worth. -/
noncomputable def Try.pinned : Pinned := { name := "ytanmfhaiahhoeaa", sum := "698bddf6c64787afe1fd33dc03244441ef74f9b793dc209b8511ed8d1cc0a0b6", checked := Try.checked }
namespace Rows
def none {H : Type} : Left H := { results := [], args := [] }

/-- 'workcelllaw.PulseLines': WHATEVER THE INPUT: true; the input reads as it did. -/
def pulseLinesSpec : ChangeSpec := { name := "pulseLines", fn := fun _ => fun
  | [d1, d2, d3] => { results := [.lit (.bool true)], args := [d1, d2, d3] }
  | _ => none }
def pulseLinesRow : OpenClaim := { program := "ytanmfhaiahhoeaa", sum := "698bddf6c64787afe1fd33dc03244441ef74f9b793dc209b8511ed8d1cc0a0b6", func := "workcell/workcelllaw.PulseLines", spec := "pulseLines", unfollowed := true, recurses := true, apart := false }
def PulseLinesSaid : Prop := pulseLinesRow.holds Try.pinned (OpenSpec.ofChange pulseLinesSpec)

/-- ITS FALSE NEIGHBOUR: 'it returns false'. Refute it at one input. -/
def pulseLinesWrong : ChangeSpec := { name := "pulseLines", fn := fun _ => fun
  | [d1, d2, d3] => { results := [.lit (.bool false)], args := [d1, d2, d3] }
  | _ => none }
def PulseLinesWrongFalsely : Prop := pulseLinesRow.holds Try.pinned (OpenSpec.ofChange pulseLinesWrong)

/-- 'workcellkeep.PulseSums': WHATEVER THE INPUT: true; the input reads as it did. -/
def pulseSumsSpec : ChangeSpec := { name := "pulseSums", fn := fun _ => fun
  | [d1, d2, d3] => { results := [.lit (.bool true)], args := [d1, d2, d3] }
  | _ => none }
def pulseSumsRow : OpenClaim := { program := "ytanmfhaiahhoeaa", sum := "698bddf6c64787afe1fd33dc03244441ef74f9b793dc209b8511ed8d1cc0a0b6", func := "workcell/workcellkeep.PulseSums", spec := "pulseSums", unfollowed := true, recurses := true, apart := false }
def PulseSumsSaid : Prop := pulseSumsRow.holds Try.pinned (OpenSpec.ofChange pulseSumsSpec)

/-- ITS FALSE NEIGHBOUR: 'it returns false'. Refute it at one input. -/
def pulseSumsWrong : ChangeSpec := { name := "pulseSums", fn := fun _ => fun
  | [d1, d2, d3] => { results := [.lit (.bool false)], args := [d1, d2, d3] }
  | _ => none }
def PulseSumsWrongFalsely : Prop := pulseSumsRow.holds Try.pinned (OpenSpec.ofChange pulseSumsWrong)

/-- 'workcellkeep.PulseParts': WHATEVER THE INPUT: true; the input reads as it did. -/
def pulsePartsSpec : ChangeSpec := { name := "pulseParts", fn := fun _ => fun
  | [d1, d2] => { results := [.lit (.bool true)], args := [d1, d2] }
  | _ => none }
def pulsePartsRow : OpenClaim := { program := "ytanmfhaiahhoeaa", sum := "698bddf6c64787afe1fd33dc03244441ef74f9b793dc209b8511ed8d1cc0a0b6", func := "workcell/workcellkeep.PulseParts", spec := "pulseParts", unfollowed := true, recurses := true, apart := false }
def PulsePartsSaid : Prop := pulsePartsRow.holds Try.pinned (OpenSpec.ofChange pulsePartsSpec)

/-- ITS FALSE NEIGHBOUR: 'it returns false'. Refute it at one input. -/
def pulsePartsWrong : ChangeSpec := { name := "pulseParts", fn := fun _ => fun
  | [d1, d2] => { results := [.lit (.bool false)], args := [d1, d2] }
  | _ => none }
def PulsePartsWrongFalsely : Prop := pulsePartsRow.holds Try.pinned (OpenSpec.ofChange pulsePartsWrong)

/-- 'workcellkeep.PulseBack': WHATEVER THE INPUT: true; the input reads as it did. -/
def pulseBackSpec : ChangeSpec := { name := "pulseBack", fn := fun _ => fun
  | [d] => { results := [.lit (.bool true)], args := [d] }
  | _ => none }
def pulseBackRow : OpenClaim := { program := "ytanmfhaiahhoeaa", sum := "698bddf6c64787afe1fd33dc03244441ef74f9b793dc209b8511ed8d1cc0a0b6", func := "workcell/workcellkeep.PulseBack", spec := "pulseBack", unfollowed := true, recurses := true, apart := false }
def PulseBackSaid : Prop := pulseBackRow.holds Try.pinned (OpenSpec.ofChange pulseBackSpec)

/-- ITS FALSE NEIGHBOUR: 'it returns false'. Refute it at one input. -/
def pulseBackWrong : ChangeSpec := { name := "pulseBack", fn := fun _ => fun
  | [d] => { results := [.lit (.bool false)], args := [d] }
  | _ => none }
def PulseBackWrongFalsely : Prop := pulseBackRow.holds Try.pinned (OpenSpec.ofChange pulseBackWrong)

/- THE SECOND FORM. 'bulk': how many values and letters a reading holds, each counted each time it is reached (what is shared counts as often as it is met; a slice's spare places count too). A statement '..UptoSaid' is the law's where the arguments, and the package variables that the reading takes, are together of bulk at most 1048576: NARROWER than '..Said'. Prove '..Said' where nothing that the law and all that it calls make is longer than what came in: it says more and counts as full. Else prove '..UptoSaid'. A law counts once. -/
mutual
def uptoBulk {H : Type} : DataW H → Nat
  | .lit (.string bytes) => bytes.length + 1
  | .lit _ => 1
  | .nil => 1
  | .ptr d => uptoBulk d + 1
  | .slice elems spare => uptoBulkAll elems + uptoBulkAll spare + 1
  | .agg parts => uptoBulkAll parts + 1
  | .iface _ d => uptoBulk d + 1
  | .map entries => uptoBulkEntries entries + 1
  | .held _ => 1
def uptoBulkAll {H : Type} : List (DataW H) → Nat
  | [] => 0
  | d :: r => uptoBulk d + uptoBulkAll r
def uptoBulkEntries {H : Type} : List (Lit × DataW H) → Nat
  | [] => 0
  | x :: r => uptoBulkEntry x + uptoBulkEntries r
def uptoBulkEntry {H : Type} : Lit × DataW H → Nat
  | (.string bytes, d) => bytes.length + uptoBulk d + 1
  | (_, d) => uptoBulk d + 1
 end
def uptoSmall : (H : Type) → List (DataW H) → Bool := fun _ ds => decide (uptoBulkAll ds ≤ 1048576)
def OpenSpec.upto (s : _root_.Go.ChangeSpec) : _root_.Go.OpenSpec := { _root_.Go.OpenSpec.ofChange s with cond := some uptoSmall }

/-- 'workcelllaw.PulseLines', WHERE WHAT IT READS IS OF BULK AT MOST 1048576: true; the input reads as it did. -/
def pulseLinesUptoRow : OpenClaim := { program := "ytanmfhaiahhoeaa", sum := "698bddf6c64787afe1fd33dc03244441ef74f9b793dc209b8511ed8d1cc0a0b6", func := "workcell/workcelllaw.PulseLines", spec := "pulseLines", unfollowed := true, recurses := true, apart := false, narrowed := true }
def PulseLinesUptoSaid : Prop := pulseLinesUptoRow.holds Try.pinned (OpenSpec.upto pulseLinesSpec)

/-- 'workcellkeep.PulseSums', WHERE WHAT IT READS IS OF BULK AT MOST 1048576: true; the input reads as it did. -/
def pulseSumsUptoRow : OpenClaim := { program := "ytanmfhaiahhoeaa", sum := "698bddf6c64787afe1fd33dc03244441ef74f9b793dc209b8511ed8d1cc0a0b6", func := "workcell/workcellkeep.PulseSums", spec := "pulseSums", unfollowed := true, recurses := true, apart := false, narrowed := true }
def PulseSumsUptoSaid : Prop := pulseSumsUptoRow.holds Try.pinned (OpenSpec.upto pulseSumsSpec)

/-- 'workcellkeep.PulseParts', WHERE WHAT IT READS IS OF BULK AT MOST 1048576: true; the input reads as it did. -/
def pulsePartsUptoRow : OpenClaim := { program := "ytanmfhaiahhoeaa", sum := "698bddf6c64787afe1fd33dc03244441ef74f9b793dc209b8511ed8d1cc0a0b6", func := "workcell/workcellkeep.PulseParts", spec := "pulseParts", unfollowed := true, recurses := true, apart := false, narrowed := true }
def PulsePartsUptoSaid : Prop := pulsePartsUptoRow.holds Try.pinned (OpenSpec.upto pulsePartsSpec)

/-- 'workcellkeep.PulseBack', WHERE WHAT IT READS IS OF BULK AT MOST 1048576: true; the input reads as it did. -/
def pulseBackUptoRow : OpenClaim := { program := "ytanmfhaiahhoeaa", sum := "698bddf6c64787afe1fd33dc03244441ef74f9b793dc209b8511ed8d1cc0a0b6", func := "workcell/workcellkeep.PulseBack", spec := "pulseBack", unfollowed := true, recurses := true, apart := false, narrowed := true }
def PulseBackUptoSaid : Prop := pulseBackUptoRow.holds Try.pinned (OpenSpec.upto pulseBackSpec)

end Rows
end Go.Proofs.Ytanmfhaiahhoeaa
