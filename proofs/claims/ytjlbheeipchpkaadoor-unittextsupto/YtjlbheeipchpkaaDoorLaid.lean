/- What the row's condition on the listed package-level variables gives the walks. -/
import Derived.Test.YtjlbheeipchpkaaDoorShow
import Derived.Test.YtjlbheeipchpkaaDoorRows
import Derived.Lib.LaidU8T
import Derived.Lib.LaidTab
import Derived.PinnedBridge
import Derived.ProofKit
import Derived.Stop.Joined
import Derived.Lay
namespace Go.Proofs.YtjlbheeipchpkaaDoor
open Go.RowKit Go.Shelf Go.Lib

theorem u8t : U8Types Tryd.prog Tryd.lays230_ren := { Tryd.lays230 with }
theorem u8x : U8Extra Tryd.prog Tryd.lays230_ren := ⟨by kernel_rfl, by kernel_rfl, by kernel_rfl, by kernel_rfl, by kernel_rfl, by kernel_rfl, by kernel_rfl⟩
theorem accept_eq : (Rows.laid_unicode_utf8_acceptRanges : DataW Unit) = acceptData := by kernel_rfl
theorem pow_eq : (Rows.laid_internal_strconv_uint64pow10 : DataW Unit) = tabData .u64 pow10Tab := by kernel_rfl

theorem utf8_of {W : World} (h3 : VarReads Tryd.prog W "unicode/utf8.first" Rows.laid_unicode_utf8_first) (h4 : VarReads Tryd.prog W "unicode/utf8.acceptRanges" Rows.laid_unicode_utf8_acceptRanges) :
    Lib.Utf8Tabs 2 3 W :=
  utf8Tabs_of_readsT u8t u8x (Pinned.utf8First_eq ▸ h3) (accept_eq ▸ h4)

theorem pow_of {W : World} (h : VarReads Tryd.prog W "internal/strconv.uint64pow10" Rows.laid_internal_strconv_uint64pow10) : Lib.TabIs Tryd.prog W "internal/strconv.uint64pow10" .u64 Lib.pow10Tab := by
  rw [pow_eq] at h
  obtain ⟨g, t, cs, fuel, p, hg, hty, hvar, hd⟩ := h
  obtain rfl := Option.some.inj ((show Tryd.prog.globalNamed "internal/strconv.uint64pow10" = some 1 by kernel_rfl).symm.trans hg)
  obtain rfl := Option.some.inj ((show (Tryd.prog.globals[1]?).map (·.type) = some 95 by kernel_rfl).symm.trans hty)
  unfold Lib.TabIs
  rw [hvar, ← cells_of_tab Tryd.underlying95 Tryd.underlying85 (by kernel_rfl) (by kernel_rfl) hd]

theorem least_of {W : World} (h : VarReads Tryd.prog W "workcell/unit.leastUnits" Rows.laid_workcell_unit_leastUnits) (j : Nat) (l : List UInt8) (hj : leastL[j]? = some l) : W.cell? ⟨0, j, none⟩ = some (.string ⟨l.toArray⟩) := by
  have hj6 : j < 6 := by
    have := (List.getElem?_eq_some_iff.1 hj).1
    simpa [leastL] using this
  obtain ⟨g, t, cs, fuel, p, hg, hty, hvar, hd⟩ := h
  obtain rfl := Option.some.inj ((show Tryd.prog.globalNamed "workcell/unit.leastUnits" = some 0 by kernel_rfl).symm.trans hg)
  obtain rfl := Option.some.inj ((show (Tryd.prog.globals[0]?).map (·.type) = some 37 by kernel_rfl).symm.trans hty)
  have hcell := World.var?_cell hg hvar j
  obtain ⟨fuel', d, q, hdi, he⟩ := array_elem Tryd.underlying37 hd j hj6
  have hd2 : d = .lit (.string l) := by
    have e : ([.lit (.string []), .lit (.string [110, 108]), .lit (.string [117, 109]), .lit (.string [109, 75]), .lit (.string [109, 115]), .lit (.string [114, 112, 109])] : List (DataW Unit)) = leastL.map fun x => .lit (.string x) := rfl
    rw [e, List.getElem?_map, hj] at hdi
    exact (Option.some.inj hdi).symm
  subst hd2
  rw [show Tryd.prog.cellsOf 9 = 1 by kernel_rfl, Nat.mul_one] at he
  obtain ⟨s, e1, e2, _⟩ := DataW.trod_string Tryd.underlying9 he
  rw [hcell]
  have h1 : cs.toList[j]? = some (.string s) := by
    have h0 : ((cs.toList.drop j).take 1)[0]? = some (.string s) := by rw [e1]; rfl
    simpa using h0
  have h2 : s = ⟨l.toArray⟩ := by
    have : l = s.data.toList ∧ q = [] := by simpa using e2
    rw [this.1]
  rw [← Array.getElem?_toList, h1, h2]

theorem tabs_of {W : World} (h : laidMet Tryd.prog [("math/bits.deBruijn32tab", Rows.laid_math_bits_deBruijn32tab), ("math/bits.deBruijn64tab", Rows.laid_math_bits_deBruijn64tab), ("internal/strconv.uint64pow10", Rows.laid_internal_strconv_uint64pow10), ("unicode/utf8.acceptRanges", Rows.laid_unicode_utf8_acceptRanges), ("workcell/unit.leastUnits", Rows.laid_workcell_unit_leastUnits), ("unicode/utf8.first", Rows.laid_unicode_utf8_first)] W) : Tabs W := by
  have hp := pow_of (laidMet.reads h (by simp))
  refine ⟨utf8_of (laidMet.reads h (by simp)) (laidMet.reads h (by simp)), hp, fun j l hj => least_of (laidMet.reads h (by simp)) j l hj, ?_⟩
  exact World.block_lt_of_cell? _ _ (hp.cell (g := 1) (by kernel_rfl) 0 (by rw [pow10Tab_length]; omega))
end Go.Proofs.YtjlbheeipchpkaaDoor
