/- What the row's condition on the listed package-level variables, and the world's shape, give the walks. -/
import Derived.Test.YtmmpaaaifdikdaaGreatDoorShow
import Derived.Test.YtmmpaaaifdikdaaGreatDoorRows
import Derived.Lib.LaidTab
import Derived.PinnedBridge
import Derived.ProofKit
import Derived.Stop.Joined
import Derived.Lay
import Derived.Shelf.Vars
namespace Go.Proofs.YtmmpaaaifdikdaaGreatDoor
open Go.RowKit Go.Shelf Go.Lib

theorem pow_eq : (Rows.laid_internal_strconv_uint64pow10 : DataW Unit) = tabData .u64 pow10Tab := by kernel_rfl
theorem pow_of {W : World} (h : VarReads Tryz.prog W "internal/strconv.uint64pow10" Rows.laid_internal_strconv_uint64pow10) : Lib.TabIs Tryz.prog W "internal/strconv.uint64pow10" .u64 Lib.pow10Tab := by
  rw [pow_eq] at h
  obtain ⟨g, t, cs, fuel, p, hg, hty, hvar, hd⟩ := h
  obtain rfl := Option.some.inj ((show Tryz.prog.globalNamed "internal/strconv.uint64pow10" = some 1 by kernel_rfl).symm.trans hg)
  obtain rfl := Option.some.inj ((show (Tryz.prog.globals[1]?).map (·.type) = some 163 by kernel_rfl).symm.trans hty)
  unfold Lib.TabIs
  rw [hvar, ← cells_of_tab Tryz.underlying163 Tryz.underlying149 (by kernel_rfl) (by kernel_rfl) hd]
theorem kw_of {W : World} (h : VarReads Tryz.prog W "workcell/ware.kindWords" Rows.laid_workcell_ware_kindWords) : KW W := by
  intro j l hj
  have hj4 : j < 4 := (List.getElem?_eq_some_iff.1 hj).1
  obtain ⟨g, t, cs, fuel, p, hg, hty, hvar, hd⟩ := h
  obtain rfl := Option.some.inj ((show Tryz.prog.globalNamed "workcell/ware.kindWords" = some 0 by kernel_rfl).symm.trans hg)
  obtain rfl := Option.some.inj ((show (Tryz.prog.globals[0]?).map (·.type) = some 112 by kernel_rfl).symm.trans hty)
  have hcell := World.var?_cell hg hvar j
  obtain ⟨fuel', d, q, hdi, he⟩ := array_elem Tryz.underlying112 hd j hj4
  have hd2 : d = .lit (.string l) := by
    have e : ([.lit (.string []), .lit (.string [112, 108, 97, 116, 101]), .lit (.string [114, 97, 99, 107]), .lit (.string [116, 114, 97, 115, 104])] : List (DataW Unit)) = kwL.map fun x => .lit (.string x) := rfl
    rw [e, List.getElem?_map, hj] at hdi
    exact (Option.some.inj hdi).symm
  subst hd2
  rw [show Tryz.prog.cellsOf 9 = 1 by kernel_rfl, Nat.mul_one] at he
  obtain ⟨s, e1, e2, _⟩ := DataW.trod_string Tryz.underlying9 he
  rw [hcell]
  have h1 : cs.toList[j]? = some (.string s) := by
    have h0 : ((cs.toList.drop j).take 1)[0]? = some (.string s) := by rw [e1]; rfl
    simpa using h0
  have h2 : s = ⟨l.toArray⟩ := by
    have : l = s.data.toList ∧ q = [] := by simpa using e2
    rw [this.1]
  rw [← Array.getElem?_toList, h1, h2]
theorem most_of {W : World} (h : W.ShapedOpen Tryz.prog) : ∃ m, W.cell? ⟨2, 0, none⟩ = some (.int .i64 m) :=
  cell_of_shapedOpen_int (t := 3) (zero := #[.int .i64 0]) h (of_decide_eq_true (by kernel_rfl)) (by kernel_rfl) rfl (by kernel_rfl) (by kernel_rfl) Tryz.underlying3

theorem tabs_of {W : World} (h : laidMet Tryz.prog [("math/bits.deBruijn32tab", Rows.laid_math_bits_deBruijn32tab), ("math/bits.deBruijn64tab", Rows.laid_math_bits_deBruijn64tab), ("internal/strconv.uint64pow10", Rows.laid_internal_strconv_uint64pow10), ("unicode/utf8.acceptRanges", Rows.laid_unicode_utf8_acceptRanges), ("strconv.ErrRange", Rows.laid_strconv_ErrRange), ("strconv.ErrSyntax", Rows.laid_strconv_ErrSyntax), ("workcell/ware.kindWords", Rows.laid_workcell_ware_kindWords), ("unicode/utf8.first", Rows.laid_unicode_utf8_first)] W) (hS : W.ShapedOpen Tryz.prog) : Tabs W := by
  have hm := most_of hS
  refine ⟨pow_of (laidMet.reads h (by simp)), kw_of (laidMet.reads h (by simp)), hm, ?_⟩
  obtain ⟨m, hm⟩ := hm
  exact World.block_lt_of_cell? _ _ hm
end Go.Proofs.YtmmpaaaifdikdaaGreatDoor
