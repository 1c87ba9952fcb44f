/- What the row's condition on the listed package-level variables gives the walks. -/
import Derived.Test.YtpfpfnkagmmanaaGreatDoorMeas2
import Derived.Test.YtpfpfnkagmmanaaGreatDoorRows
import Derived.Lib.LaidU8T
import Derived.Lib.LaidTab
import Derived.PinnedBridge
import Derived.ProofKit
import Derived.Stop.Joined
import Derived.Lay
namespace Go.Proofs.YtpfpfnkagmmanaaGreatDoor
open Go.RowKit Go.Shelf Go.Lib

theorem u8t : U8Types Tryz.prog Tryz.lays230_ren := { Tryz.lays230 with }
theorem u8x : U8Extra Tryz.prog Tryz.lays230_ren := ⟨by kernel_rfl, by kernel_rfl, by kernel_rfl, by kernel_rfl, by kernel_rfl, by kernel_rfl, by kernel_rfl⟩
theorem accept_eq : (Rows.laid_unicode_utf8_acceptRanges : DataW Unit) = acceptData := by kernel_rfl
theorem utf8_of {W : World} (h3 : VarReads Tryz.prog W "unicode/utf8.first" Rows.laid_unicode_utf8_first) (h4 : VarReads Tryz.prog W "unicode/utf8.acceptRanges" Rows.laid_unicode_utf8_acceptRanges) :
    Lib.Utf8Tabs 1 2 W :=
  utf8Tabs_of_readsT u8t u8x (Pinned.utf8First_eq ▸ h3) (accept_eq ▸ h4)

theorem tabs_of {W : World} (h : laidMet Tryz.prog [("unicode/utf8.acceptRanges", Rows.laid_unicode_utf8_acceptRanges), ("unicode/utf8.first", Rows.laid_unicode_utf8_first)] W) : Lib.Utf8Tabs 1 2 W :=
  utf8_of (laidMet.reads h (by simp)) (laidMet.reads h (by simp))
end Go.Proofs.YtpfpfnkagmmanaaGreatDoor
