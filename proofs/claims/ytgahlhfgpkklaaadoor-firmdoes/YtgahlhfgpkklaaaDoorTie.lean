/-
  DERIVED. GIVEN WITH THE SEED: THE PROGRAM's TIES (one call each: nine closed facts by the kernel) AND EACH ROW's TIE, after the 31st guide's Derived/Test/Toyas{Tie, Card}.lean. No idea stands in it: it is a product of the set-up. Laid BY PROGRAM, IN A SANDBOX (cutbox-door.mjs). By AI agents, Wed Nov 11 2026. No macro, syntax, notation, axiom, sorry.
-/
import Derived.Test.YtgahlhfgpkklaaaDoorRows
import Derived.LaidByTextLater
import Derived.SevenTiedAt
import Derived.LaidSub
import Derived.LaidOnce
namespace Go.Proofs.YtgahlhfgpkklaaaDoor
open Go
set_option maxRecDepth 100000
theorem seatTie1 : Tryd.prog.laidByTextLater [("workcell/code.words", Rows.laid_workcell_code_words), ("workcell/firm.errNoRig", Rows.laid_workcell_firm_errNoRig), ("workcell/firm.errNoState", Rows.laid_workcell_firm_errNoState), ("workcell/firm.errNotHomed", Rows.laid_workcell_firm_errNotHomed), ("workcell/firm.errOutside", Rows.laid_workcell_firm_errOutside), ("workcell/firm.errNoTip", Rows.laid_workcell_firm_errNoTip), ("workcell/firm.errTipThere", Rows.laid_workcell_firm_errTipThere), ("workcell/firm.errTooFar", Rows.laid_workcell_firm_errTooFar), ("workcell/firm.errTooLate", Rows.laid_workcell_firm_errTooLate)] [.data, .sentinel, .sentinel, .sentinel, .sentinel, .sentinel, .sentinel, .sentinel, .sentinel] true :=
  Program.laidByTextLater_by_one 179 8 46 (by kernel_rfl) (by kernel_rfl) (by kernel_rfl) (by kernel_rfl) (by kernel_rfl) (by kernel_rfl) (fun _ _ => by kernel_rfl)
theorem noOwnUnsafe : Tryd.pinned.checked.prog.headLifts.contains "ownunsafe" = false := by kernel_rfl
theorem tie : Tryd.prog.laidByTextLater [("workcell/code.words", Rows.laid_workcell_code_words), ("workcell/firm.errNoRig", Rows.laid_workcell_firm_errNoRig), ("workcell/firm.errNoState", Rows.laid_workcell_firm_errNoState), ("workcell/firm.errNotHomed", Rows.laid_workcell_firm_errNotHomed), ("workcell/firm.errOutside", Rows.laid_workcell_firm_errOutside), ("workcell/firm.errNoTip", Rows.laid_workcell_firm_errNoTip), ("workcell/firm.errTipThere", Rows.laid_workcell_firm_errTipThere), ("workcell/firm.errTooFar", Rows.laid_workcell_firm_errTooFar), ("workcell/firm.errTooLate", Rows.laid_workcell_firm_errTooLate)] [.data, .sentinel, .sentinel, .sentinel, .sentinel, .sentinel, .sentinel, .sentinel, .sentinel] true :=
  Program.laidByTextLater.sub seatTie1 ["workcell/code.words", "workcell/firm.errNoRig", "workcell/firm.errNoState", "workcell/firm.errNotHomed", "workcell/firm.errOutside", "workcell/firm.errNoTip", "workcell/firm.errTipThere", "workcell/firm.errTooFar", "workcell/firm.errTooLate"] (by kernel_rfl) (by kernel_rfl)
theorem firmDoes_row_tie : Rows.firmDoesRow.laidByTextAt .later Tryd.pinned [.data, .sentinel, .sentinel, .sentinel, .sentinel, .sentinel, .sentinel, .sentinel, .sentinel] true :=
  OpenClaim.laidByTextAt_later rfl rfl tie noOwnUnsafe
theorem firmRuns_row_tie : Rows.firmRunsRow.laidByTextAt .later Tryd.pinned [.data, .sentinel, .sentinel, .sentinel, .sentinel, .sentinel, .sentinel, .sentinel, .sentinel] true :=
  OpenClaim.laidByTextAt_later rfl rfl tie noOwnUnsafe
theorem firmKeeps_row_tie : Rows.firmKeepsRow.laidByTextAt .later Tryd.pinned [.data, .sentinel, .sentinel, .sentinel, .sentinel, .sentinel, .sentinel, .sentinel, .sentinel] true :=
  OpenClaim.laidByTextAt_later rfl rfl tie noOwnUnsafe
theorem firmGoesOn_row_tie : Rows.firmGoesOnRow.laidByTextAt .later Tryd.pinned [.data, .sentinel, .sentinel, .sentinel, .sentinel, .sentinel, .sentinel, .sentinel, .sentinel] true :=
  OpenClaim.laidByTextAt_later rfl rfl tie noOwnUnsafe
theorem firmDoesUpto_row_tie : Rows.firmDoesUptoRow.laidByTextAt .later Tryd.pinned [.data, .sentinel, .sentinel, .sentinel, .sentinel, .sentinel, .sentinel, .sentinel, .sentinel] true :=
  OpenClaim.laidByTextAt_later rfl rfl tie noOwnUnsafe
theorem firmRunsUpto_row_tie : Rows.firmRunsUptoRow.laidByTextAt .later Tryd.pinned [.data, .sentinel, .sentinel, .sentinel, .sentinel, .sentinel, .sentinel, .sentinel, .sentinel] true :=
  OpenClaim.laidByTextAt_later rfl rfl tie noOwnUnsafe
theorem firmKeepsUpto_row_tie : Rows.firmKeepsUptoRow.laidByTextAt .later Tryd.pinned [.data, .sentinel, .sentinel, .sentinel, .sentinel, .sentinel, .sentinel, .sentinel, .sentinel] true :=
  OpenClaim.laidByTextAt_later rfl rfl tie noOwnUnsafe
theorem firmGoesOnUpto_row_tie : Rows.firmGoesOnUptoRow.laidByTextAt .later Tryd.pinned [.data, .sentinel, .sentinel, .sentinel, .sentinel, .sentinel, .sentinel, .sentinel, .sentinel] true :=
  OpenClaim.laidByTextAt_later rfl rfl tie noOwnUnsafe
end Go.Proofs.YtgahlhfgpkklaaaDoor
