/-
  NARROWER THAN 'FOR EVERY INPUT', by the rows' own cells (each row's printed sentence says how): CellCompiles: laid · CellBack: laid · CellCodes: laid.
  DERIVED. THE GIVEN ROWS OF THIS SEAT. 3 by the template 'for every input the law returns true; each argument reads behind the call as it read before'; 0 by the template 'total and deterministic' (their statements: YtcajifelbldjnaaGreatDoorTotals.lean).
  GIVEN WITH THE SEED: the statements are not yours to turn. If you find one false, say at which input.
  Laid BY PROGRAM, IN A SANDBOX (cutbox-rows.mjs): the forced cells as the released guide's own fill.sh prints them over the translation 622f44eda361ef46… (all of the seat's roots in one cut). By AI agents, Wed Nov 11 2026. No macro, syntax, notation, axiom, sorry.
-/
import Derived.Test.YtcajifelbldjnaaGreatDoorChecked
import GoSem.PinnedTables
import GoSem.Claim
import GoSem.ClaimJoined
import GoSem.ClaimMapViews
import Derived.JoinedTies
import Derived.KernelRfl
namespace Go.Proofs.YtcajifelbldjnaaGreatDoor
/- THE CELL 'sum', in the pinned program and in every row, IS THE sha256 OF THE DUMP (.gsa) THAT YtcajifelbldjnaaGreatDoorProg.lean LOADS. Nothing in Lean hashes anything: it is a label: what it is worth is what the hold of that sum in a sandbox is worth. -/
noncomputable def Tryz.pinned : Pinned := { name := "ytcajifelbldjnaagreatdoor", sum := "622f44eda361ef4616a86970c18d6c86c1cfbba9620bf6e24237cba3c2c53fe5", checked := Tryz.checked }
namespace Rows
def none {H : Type} : Left H := { results := [], args := [] }

/- WHAT THE LISTED PACKAGE-LEVEL VARIABLES READ AS WHEN THE CALL BEGINS. Each datum BY PROGRAM (the guide's laid-datum.mjs) off the statement by which the dump's own 'gosem.cut.vars' lays the variable. In a bare row this is a premise. The card (YtcajifelbldjnaaGreatDoorCards.lean) ties it to the program's text. -/
def laid_workcell_code_words {H : Type} : DataW H := .agg [.agg [.lit (.string []), .agg [.lit (.string []), .lit (.string []), .lit (.string []), .lit (.string [])]], .agg [.lit (.string [71, 50, 56]), .agg [.lit (.string []), .lit (.string []), .lit (.string []), .lit (.string [])]], .agg [.lit (.string [71, 49]), .agg [.lit (.string [88]), .lit (.string [89]), .lit (.string [90]), .lit (.string [])]], .agg [.lit (.string [77, 49]), .agg [.lit (.string []), .lit (.string []), .lit (.string []), .lit (.string [83])]], .agg [.lit (.string [77, 50]), .agg [.lit (.string []), .lit (.string []), .lit (.string []), .lit (.string [])]], .agg [.lit (.string [77, 51]), .agg [.lit (.string []), .lit (.string []), .lit (.string []), .lit (.string [])]], .agg [.lit (.string [77, 49, 48, 52]), .agg [.lit (.string []), .lit (.string []), .lit (.string []), .lit (.string [83])]], .agg [.lit (.string [71, 52]), .agg [.lit (.string []), .lit (.string []), .lit (.string []), .lit (.string [80])]], .agg [.lit (.string [77, 49, 48, 54]), .agg [.lit (.string []), .lit (.string []), .lit (.string []), .lit (.string [83])]]]
def laid_workcell_firm_errNoRig {H : Type} : DataW H := .iface "*errors.errorString" (.ptr (.agg [.lit (.string [116, 104, 101, 114, 101, 32, 105, 115, 32, 110, 111, 32, 115, 117, 99, 104, 32, 114, 105, 103])]))
def laid_workcell_firm_errNoState {H : Type} : DataW H := .iface "*errors.errorString" (.ptr (.agg [.lit (.string [116, 104, 101, 114, 101, 32, 105, 115, 32, 110, 111, 32, 115, 117, 99, 104, 32, 115, 116, 97, 116, 101])]))
def laid_workcell_firm_errNotHomed {H : Type} : DataW H := .iface "*errors.errorString" (.ptr (.agg [.lit (.string [119, 104, 101, 114, 101, 32, 116, 104, 101, 32, 109, 97, 99, 104, 105, 110, 101, 32, 105, 115, 44, 32, 105, 115, 32, 110, 111, 116, 32, 107, 110, 111, 119, 110])]))
def laid_workcell_firm_errOutside {H : Type} : DataW H := .iface "*errors.errorString" (.ptr (.agg [.lit (.string [116, 104, 101, 32, 109, 97, 99, 104, 105, 110, 101, 32, 109, 97, 121, 32, 110, 111, 116, 32, 103, 111, 32, 116, 104, 101, 114, 101])]))
def laid_workcell_firm_errNoTip {H : Type} : DataW H := .iface "*errors.errorString" (.ptr (.agg [.lit (.string [116, 104, 101, 114, 101, 32, 105, 115, 32, 110, 111, 32, 116, 105, 112])]))
def laid_workcell_firm_errTipThere {H : Type} : DataW H := .iface "*errors.errorString" (.ptr (.agg [.lit (.string [116, 104, 101, 114, 101, 32, 105, 115, 32, 97, 32, 116, 105, 112, 32, 97, 108, 114, 101, 97, 100, 121])]))
def laid_workcell_firm_errTooFar {H : Type} : DataW H := .iface "*errors.errorString" (.ptr (.agg [.lit (.string [116, 104, 101, 32, 112, 108, 117, 110, 103, 101, 114, 32, 100, 111, 101, 115, 32, 110, 111, 116, 32, 103, 111, 32, 115, 111, 32, 102, 97, 114])]))
def laid_workcell_firm_errTooLate {H : Type} : DataW H := .iface "*errors.errorString" (.ptr (.agg [.lit (.string [97, 32, 114, 117, 110, 32, 104, 97, 115, 32, 110, 111, 32, 109, 111, 114, 101, 32, 116, 105, 99, 107, 115])]))
def laid_math_bits_deBruijn32tab {H : Type} : DataW H := .agg [.lit (.int .u8 0), .lit (.int .u8 1), .lit (.int .u8 28), .lit (.int .u8 2), .lit (.int .u8 29), .lit (.int .u8 14), .lit (.int .u8 24), .lit (.int .u8 3), .lit (.int .u8 30), .lit (.int .u8 22), .lit (.int .u8 20), .lit (.int .u8 15), .lit (.int .u8 25), .lit (.int .u8 17), .lit (.int .u8 4), .lit (.int .u8 8), .lit (.int .u8 31), .lit (.int .u8 27), .lit (.int .u8 13), .lit (.int .u8 23), .lit (.int .u8 21), .lit (.int .u8 19), .lit (.int .u8 16), .lit (.int .u8 7), .lit (.int .u8 26), .lit (.int .u8 12), .lit (.int .u8 18), .lit (.int .u8 6), .lit (.int .u8 11), .lit (.int .u8 5), .lit (.int .u8 10), .lit (.int .u8 9)]
def laid_math_bits_deBruijn64tab {H : Type} : DataW H := .agg [.lit (.int .u8 0), .lit (.int .u8 1), .lit (.int .u8 56), .lit (.int .u8 2), .lit (.int .u8 57), .lit (.int .u8 49), .lit (.int .u8 28), .lit (.int .u8 3), .lit (.int .u8 61), .lit (.int .u8 58), .lit (.int .u8 42), .lit (.int .u8 50), .lit (.int .u8 38), .lit (.int .u8 29), .lit (.int .u8 17), .lit (.int .u8 4), .lit (.int .u8 62), .lit (.int .u8 47), .lit (.int .u8 59), .lit (.int .u8 36), .lit (.int .u8 45), .lit (.int .u8 43), .lit (.int .u8 51), .lit (.int .u8 22), .lit (.int .u8 53), .lit (.int .u8 39), .lit (.int .u8 33), .lit (.int .u8 30), .lit (.int .u8 24), .lit (.int .u8 18), .lit (.int .u8 12), .lit (.int .u8 5), .lit (.int .u8 63), .lit (.int .u8 55), .lit (.int .u8 48), .lit (.int .u8 27), .lit (.int .u8 60), .lit (.int .u8 41), .lit (.int .u8 37), .lit (.int .u8 16), .lit (.int .u8 46), .lit (.int .u8 35), .lit (.int .u8 44), .lit (.int .u8 21), .lit (.int .u8 52), .lit (.int .u8 32), .lit (.int .u8 23), .lit (.int .u8 11), .lit (.int .u8 54), .lit (.int .u8 26), .lit (.int .u8 40), .lit (.int .u8 15), .lit (.int .u8 34), .lit (.int .u8 20), .lit (.int .u8 31), .lit (.int .u8 10), .lit (.int .u8 25), .lit (.int .u8 14), .lit (.int .u8 19), .lit (.int .u8 9), .lit (.int .u8 13), .lit (.int .u8 8), .lit (.int .u8 7), .lit (.int .u8 6)]
def laid_internal_strconv_uint64pow10 {H : Type} : DataW H := .agg [.lit (.int .u64 1), .lit (.int .u64 10), .lit (.int .u64 100), .lit (.int .u64 1000), .lit (.int .u64 10000), .lit (.int .u64 100000), .lit (.int .u64 1000000), .lit (.int .u64 10000000), .lit (.int .u64 100000000), .lit (.int .u64 1000000000), .lit (.int .u64 10000000000), .lit (.int .u64 100000000000), .lit (.int .u64 1000000000000), .lit (.int .u64 10000000000000), .lit (.int .u64 100000000000000), .lit (.int .u64 1000000000000000), .lit (.int .u64 10000000000000000), .lit (.int .u64 100000000000000000), .lit (.int .u64 1000000000000000000), .lit (.int .u64 10000000000000000000)]
def laid_unicode_utf8_acceptRanges {H : Type} : DataW H := .agg [.agg [.lit (.int .u8 128), .lit (.int .u8 191)], .agg [.lit (.int .u8 160), .lit (.int .u8 191)], .agg [.lit (.int .u8 128), .lit (.int .u8 159)], .agg [.lit (.int .u8 144), .lit (.int .u8 191)], .agg [.lit (.int .u8 128), .lit (.int .u8 143)], .agg [.lit (.int .u8 0), .lit (.int .u8 0)], .agg [.lit (.int .u8 0), .lit (.int .u8 0)], .agg [.lit (.int .u8 0), .lit (.int .u8 0)], .agg [.lit (.int .u8 0), .lit (.int .u8 0)], .agg [.lit (.int .u8 0), .lit (.int .u8 0)], .agg [.lit (.int .u8 0), .lit (.int .u8 0)], .agg [.lit (.int .u8 0), .lit (.int .u8 0)], .agg [.lit (.int .u8 0), .lit (.int .u8 0)], .agg [.lit (.int .u8 0), .lit (.int .u8 0)], .agg [.lit (.int .u8 0), .lit (.int .u8 0)], .agg [.lit (.int .u8 0), .lit (.int .u8 0)]]
def laid_strconv_ErrRange {H : Type} : DataW H := .iface "*errors.errorString" (.ptr (.agg [.lit (.string [118, 97, 108, 117, 101, 32, 111, 117, 116, 32, 111, 102, 32, 114, 97, 110, 103, 101])]))
def laid_strconv_ErrSyntax {H : Type} : DataW H := .iface "*errors.errorString" (.ptr (.agg [.lit (.string [105, 110, 118, 97, 108, 105, 100, 32, 115, 121, 110, 116, 97, 120])]))
/-- One of Go's own tables, pinned by name: the form's constant. -/
def laid_unicode_utf8_first : DataW Unit := Go.Pinned.utf8First

/-- 'workcelllaw.CellCompiles': WHATEVER THE INPUT: true; the input reads as it did. -/
def cellCompilesSpec : ChangeSpec := { name := "cellCompiles", fn := fun _ => fun
  | [d1, d2] => { results := [.lit (.bool true)], args := [d1, d2] }
  | _ => none }
def cellCompilesRow : OpenClaim := { program := "ytcajifelbldjnaagreatdoor", sum := "622f44eda361ef4616a86970c18d6c86c1cfbba9620bf6e24237cba3c2c53fe5", func := "workcell/workcelllaw.CellCompiles", spec := "cellCompiles", inPlace := ["internal/reflectlite.TypeOf"], unfollowed := true, recurses := true, named := ["workcell/firm.errNoRig", "workcell/firm.errNoState", "workcell/firm.errNotHomed", "workcell/firm.errOutside", "workcell/firm.errNoTip", "workcell/firm.errTipThere", "workcell/firm.errTooFar", "workcell/firm.errTooLate", "workcell/code.words"], plainKeys := false, apart := false, laid := [("workcell/code.words", laid_workcell_code_words), ("workcell/firm.errNoRig", laid_workcell_firm_errNoRig), ("workcell/firm.errNoState", laid_workcell_firm_errNoState), ("workcell/firm.errNotHomed", laid_workcell_firm_errNotHomed), ("workcell/firm.errOutside", laid_workcell_firm_errOutside), ("workcell/firm.errNoTip", laid_workcell_firm_errNoTip), ("workcell/firm.errTipThere", laid_workcell_firm_errTipThere), ("workcell/firm.errTooFar", laid_workcell_firm_errTooFar), ("workcell/firm.errTooLate", laid_workcell_firm_errTooLate)] }
def CellCompilesSaid : Prop := cellCompilesRow.holds Tryz.pinned (OpenSpec.ofChange cellCompilesSpec)

/-- ITS FALSE NEIGHBOUR: 'it returns false'. Refute it at one input. -/
def cellCompilesWrong : ChangeSpec := { name := "cellCompiles", fn := fun _ => fun
  | [d1, d2] => { results := [.lit (.bool false)], args := [d1, d2] }
  | _ => none }
def CellCompilesWrongFalsely : Prop := cellCompilesRow.holds Tryz.pinned (OpenSpec.ofChange cellCompilesWrong)

/-- 'workcellkeep.CellBack': WHATEVER THE INPUT: true; the input reads as it did. -/
def cellBackSpec : ChangeSpec := { name := "cellBack", fn := fun _ => fun
  | [d1, d2] => { results := [.lit (.bool true)], args := [d1, d2] }
  | _ => none }
def cellBackRow : OpenClaim := { program := "ytcajifelbldjnaagreatdoor", sum := "622f44eda361ef4616a86970c18d6c86c1cfbba9620bf6e24237cba3c2c53fe5", func := "workcell/workcellkeep.CellBack", spec := "cellBack", inPlace := ["internal/reflectlite.TypeOf"], unfollowed := true, recurses := true, named := ["workcell/code.words", "workcell/firm.errNoRig", "workcell/firm.errNoState", "workcell/firm.errNotHomed", "workcell/firm.errOutside", "workcell/firm.errNoTip", "workcell/firm.errTipThere", "workcell/firm.errTooFar", "workcell/firm.errTooLate"], plainKeys := false, apart := false, laid := [("workcell/code.words", laid_workcell_code_words), ("workcell/firm.errNoRig", laid_workcell_firm_errNoRig), ("workcell/firm.errNoState", laid_workcell_firm_errNoState), ("workcell/firm.errNotHomed", laid_workcell_firm_errNotHomed), ("workcell/firm.errOutside", laid_workcell_firm_errOutside), ("workcell/firm.errNoTip", laid_workcell_firm_errNoTip), ("workcell/firm.errTipThere", laid_workcell_firm_errTipThere), ("workcell/firm.errTooFar", laid_workcell_firm_errTooFar), ("workcell/firm.errTooLate", laid_workcell_firm_errTooLate)] }
def CellBackSaid : Prop := cellBackRow.holds Tryz.pinned (OpenSpec.ofChange cellBackSpec)

/-- ITS FALSE NEIGHBOUR: 'it returns false'. Refute it at one input. -/
def cellBackWrong : ChangeSpec := { name := "cellBack", fn := fun _ => fun
  | [d1, d2] => { results := [.lit (.bool false)], args := [d1, d2] }
  | _ => none }
def CellBackWrongFalsely : Prop := cellBackRow.holds Tryz.pinned (OpenSpec.ofChange cellBackWrong)

/-- 'workcellkeep.CellCodes': WHATEVER THE INPUT: true; the input reads as it did. -/
def cellCodesSpec : ChangeSpec := { name := "cellCodes", fn := fun _ => fun
  | [d1, d2] => { results := [.lit (.bool true)], args := [d1, d2] }
  | _ => none }
def cellCodesRow : OpenClaim := { program := "ytcajifelbldjnaagreatdoor", sum := "622f44eda361ef4616a86970c18d6c86c1cfbba9620bf6e24237cba3c2c53fe5", func := "workcell/workcellkeep.CellCodes", spec := "cellCodes", inPlace := ["internal/abi.NoEscape", "internal/bytealg.CountString", "internal/bytealg.IndexByteString", "internal/bytealg.IndexString"], unfollowed := true, recurses := true, named := ["workcell/code.words", "internal/strconv.uint64pow10", "math/bits.deBruijn32tab", "math/bits.deBruijn64tab", "internal/bytealg.MaxLen", "unicode/utf8.first", "unicode/utf8.acceptRanges", "strconv.ErrSyntax", "strconv.ErrRange"], plainKeys := false, apart := false, laid := [("math/bits.deBruijn32tab", laid_math_bits_deBruijn32tab), ("math/bits.deBruijn64tab", laid_math_bits_deBruijn64tab), ("internal/strconv.uint64pow10", laid_internal_strconv_uint64pow10), ("unicode/utf8.acceptRanges", laid_unicode_utf8_acceptRanges), ("strconv.ErrRange", laid_strconv_ErrRange), ("strconv.ErrSyntax", laid_strconv_ErrSyntax), ("workcell/code.words", laid_workcell_code_words), ("unicode/utf8.first", laid_unicode_utf8_first)] }
def CellCodesSaid : Prop := cellCodesRow.holds Tryz.pinned (OpenSpec.ofChange cellCodesSpec)

/-- ITS FALSE NEIGHBOUR: 'it returns false'. Refute it at one input. -/
def cellCodesWrong : ChangeSpec := { name := "cellCodes", fn := fun _ => fun
  | [d1, d2] => { results := [.lit (.bool false)], args := [d1, d2] }
  | _ => none }
def CellCodesWrongFalsely : Prop := cellCodesRow.holds Tryz.pinned (OpenSpec.ofChange cellCodesWrong)

/- THE SECOND FORM. 'bulk': how many values and letters a reading holds, each counted each time it is reached (what is shared counts as often as it is met; a slice's spare places count too). A statement '..UptoSaid' is the law's where the arguments, and the package variables that the reading takes, are together of bulk at most 1048576: NARROWER than '..Said'. Prove '..Said' where nothing that the law and all that it calls make is longer than what came in: it says more and counts as full. Else prove '..UptoSaid'. A law counts once. -/
mutual
def uptoBulk {H : Type} : DataW H → Nat
  | .lit (.string bytes) => bytes.length + 1
  | .lit _ => 1
  | .nil => 1
  | .ptr d => uptoBulk d + 1
  | .slice elems spare => uptoBulkAll elems + uptoBulkAll spare + 1
  | .agg parts => uptoBulkAll parts + 1
  | .iface _ d => uptoBulk d + 1
  | .map entries => uptoBulkEntries entries + 1
  | .held _ => 1
def uptoBulkAll {H : Type} : List (DataW H) → Nat
  | [] => 0
  | d :: r => uptoBulk d + uptoBulkAll r
def uptoBulkEntries {H : Type} : List (Lit × DataW H) → Nat
  | [] => 0
  | x :: r => uptoBulkEntry x + uptoBulkEntries r
def uptoBulkEntry {H : Type} : Lit × DataW H → Nat
  | (.string bytes, d) => bytes.length + uptoBulk d + 1
  | (_, d) => uptoBulk d + 1
 end
def uptoSmall : (H : Type) → List (DataW H) → Bool := fun _ ds => decide (uptoBulkAll ds ≤ 1048576)
def OpenSpec.upto (s : _root_.Go.ChangeSpec) : _root_.Go.OpenSpec := { _root_.Go.OpenSpec.ofChange s with cond := some uptoSmall }

/-- 'workcelllaw.CellCompiles', WHERE WHAT IT READS IS OF BULK AT MOST 1048576: true; the input reads as it did. -/
def cellCompilesUptoRow : OpenClaim := { program := "ytcajifelbldjnaagreatdoor", sum := "622f44eda361ef4616a86970c18d6c86c1cfbba9620bf6e24237cba3c2c53fe5", func := "workcell/workcelllaw.CellCompiles", spec := "cellCompiles", inPlace := ["internal/reflectlite.TypeOf"], unfollowed := true, recurses := true, named := ["workcell/firm.errNoRig", "workcell/firm.errNoState", "workcell/firm.errNotHomed", "workcell/firm.errOutside", "workcell/firm.errNoTip", "workcell/firm.errTipThere", "workcell/firm.errTooFar", "workcell/firm.errTooLate", "workcell/code.words"], plainKeys := false, apart := false, laid := [("workcell/code.words", laid_workcell_code_words), ("workcell/firm.errNoRig", laid_workcell_firm_errNoRig), ("workcell/firm.errNoState", laid_workcell_firm_errNoState), ("workcell/firm.errNotHomed", laid_workcell_firm_errNotHomed), ("workcell/firm.errOutside", laid_workcell_firm_errOutside), ("workcell/firm.errNoTip", laid_workcell_firm_errNoTip), ("workcell/firm.errTipThere", laid_workcell_firm_errTipThere), ("workcell/firm.errTooFar", laid_workcell_firm_errTooFar), ("workcell/firm.errTooLate", laid_workcell_firm_errTooLate)], narrowed := true }
def CellCompilesUptoSaid : Prop := cellCompilesUptoRow.holds Tryz.pinned (OpenSpec.upto cellCompilesSpec)

/-- 'workcellkeep.CellBack', WHERE WHAT IT READS IS OF BULK AT MOST 1048576: true; the input reads as it did. -/
def cellBackUptoRow : OpenClaim := { program := "ytcajifelbldjnaagreatdoor", sum := "622f44eda361ef4616a86970c18d6c86c1cfbba9620bf6e24237cba3c2c53fe5", func := "workcell/workcellkeep.CellBack", spec := "cellBack", inPlace := ["internal/reflectlite.TypeOf"], unfollowed := true, recurses := true, named := ["workcell/code.words", "workcell/firm.errNoRig", "workcell/firm.errNoState", "workcell/firm.errNotHomed", "workcell/firm.errOutside", "workcell/firm.errNoTip", "workcell/firm.errTipThere", "workcell/firm.errTooFar", "workcell/firm.errTooLate"], plainKeys := false, apart := false, laid := [("workcell/code.words", laid_workcell_code_words), ("workcell/firm.errNoRig", laid_workcell_firm_errNoRig), ("workcell/firm.errNoState", laid_workcell_firm_errNoState), ("workcell/firm.errNotHomed", laid_workcell_firm_errNotHomed), ("workcell/firm.errOutside", laid_workcell_firm_errOutside), ("workcell/firm.errNoTip", laid_workcell_firm_errNoTip), ("workcell/firm.errTipThere", laid_workcell_firm_errTipThere), ("workcell/firm.errTooFar", laid_workcell_firm_errTooFar), ("workcell/firm.errTooLate", laid_workcell_firm_errTooLate)], narrowed := true }
def CellBackUptoSaid : Prop := cellBackUptoRow.holds Tryz.pinned (OpenSpec.upto cellBackSpec)

/-- 'workcellkeep.CellCodes', WHERE WHAT IT READS IS OF BULK AT MOST 1048576: true; the input reads as it did. -/
def cellCodesUptoRow : OpenClaim := { program := "ytcajifelbldjnaagreatdoor", sum := "622f44eda361ef4616a86970c18d6c86c1cfbba9620bf6e24237cba3c2c53fe5", func := "workcell/workcellkeep.CellCodes", spec := "cellCodes", inPlace := ["internal/abi.NoEscape", "internal/bytealg.CountString", "internal/bytealg.IndexByteString", "internal/bytealg.IndexString"], unfollowed := true, recurses := true, named := ["workcell/code.words", "internal/strconv.uint64pow10", "math/bits.deBruijn32tab", "math/bits.deBruijn64tab", "internal/bytealg.MaxLen", "unicode/utf8.first", "unicode/utf8.acceptRanges", "strconv.ErrSyntax", "strconv.ErrRange"], plainKeys := false, apart := false, laid := [("math/bits.deBruijn32tab", laid_math_bits_deBruijn32tab), ("math/bits.deBruijn64tab", laid_math_bits_deBruijn64tab), ("internal/strconv.uint64pow10", laid_internal_strconv_uint64pow10), ("unicode/utf8.acceptRanges", laid_unicode_utf8_acceptRanges), ("strconv.ErrRange", laid_strconv_ErrRange), ("strconv.ErrSyntax", laid_strconv_ErrSyntax), ("workcell/code.words", laid_workcell_code_words), ("unicode/utf8.first", laid_unicode_utf8_first)], narrowed := true }
def CellCodesUptoSaid : Prop := cellCodesUptoRow.holds Tryz.pinned (OpenSpec.upto cellCodesSpec)

end Rows
end Go.Proofs.YtcajifelbldjnaaGreatDoor
