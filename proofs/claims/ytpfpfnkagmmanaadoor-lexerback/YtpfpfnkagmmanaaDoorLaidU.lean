/- What the row's condition on the listed package-level variables gives the walks. -/
import Derived.Test.YtpfpfnkagmmanaaDoorMeas2
import Derived.Test.YtpfpfnkagmmanaaDoorRows
import Derived.Lib.LaidU8T
import Derived.Lib.LaidTab
import Derived.PinnedBridge
import Derived.ProofKit
import Derived.Stop.Joined
import Derived.Lay
namespace Go.Proofs.YtpfpfnkagmmanaaDoor
open Go.RowKit Go.Shelf Go.Lib

theorem u8t : U8Types Tryd.prog Tryd.lays230_ren := { Tryd.lays230 with }
theorem u8x : U8Extra Tryd.prog Tryd.lays230_ren := ⟨by kernel_rfl, by kernel_rfl, by kernel_rfl, by kernel_rfl, by kernel_rfl, by kernel_rfl, by kernel_rfl⟩
theorem accept_eq : (Rows.laid_unicode_utf8_acceptRanges : DataW Unit) = acceptData := by kernel_rfl
theorem utf8_of {W : World} (h3 : VarReads Tryd.prog W "unicode/utf8.first" Rows.laid_unicode_utf8_first) (h4 : VarReads Tryd.prog W "unicode/utf8.acceptRanges" Rows.laid_unicode_utf8_acceptRanges) :
    Lib.Utf8Tabs 0 1 W :=
  utf8Tabs_of_readsT u8t u8x (Pinned.utf8First_eq ▸ h3) (accept_eq ▸ h4)

theorem tabs_of {W : World} (h : laidMet Tryd.prog [("unicode/utf8.acceptRanges", Rows.laid_unicode_utf8_acceptRanges), ("unicode/utf8.first", Rows.laid_unicode_utf8_first)] W) : Lib.Utf8Tabs 0 1 W :=
  utf8_of (laidMet.reads h (by simp)) (laidMet.reads h (by simp))
end Go.Proofs.YtpfpfnkagmmanaaDoor
