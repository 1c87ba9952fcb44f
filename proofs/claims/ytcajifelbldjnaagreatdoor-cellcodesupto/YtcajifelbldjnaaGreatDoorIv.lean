import Derived.Test.YtcajifelbldjnaaGreatDoorIt
import Derived.Test.YtcajifelbldjnaaGreatDoorRows
import Derived.Lib.LaidTab
import Derived.PinnedBridge
import Derived.ProofKit
import Derived.Stop.Joined
import Derived.Lay
import Derived.Shelf.Vars
set_option maxRecDepth 100000
set_option maxHeartbeats 25600000
set_option linter.unusedVariables false
namespace Go.Proofs.YtcajifelbldjnaaGreatDoor.C
open Go.RowKit Go.Shelf Go.Lib
theorem pow_eq : (Rows.laid_internal_strconv_uint64pow10 : DataW Unit) = tabData .u64 pow10Tab := by kernel_rfl
theorem pow_of {W : World} (h : VarReads Tryz.prog W "internal/strconv.uint64pow10" Rows.laid_internal_strconv_uint64pow10) : Lib.TabIs Tryz.prog W "internal/strconv.uint64pow10" .u64 Lib.pow10Tab := by
 rw [pow_eq] at h
 obtain ⟨g, t, cs, fuel, p, hg, hty, hvar, hd⟩ := h
 obtain rfl := Option.some.inj ((show Tryz.prog.globalNamed "internal/strconv.uint64pow10" = some 10 by kernel_rfl).symm.trans hg)
 obtain rfl := Option.some.inj ((show (Tryz.prog.globals[10]?).map (·.type) = some 361 by kernel_rfl).symm.trans hty)
 unfold Lib.TabIs
 rw [hvar, ← cells_of_tab Tryz.underlying361 Tryz.underlying304 (by kernel_rfl) (by kernel_rfl) hd]
theorem size_of {W : World} (h : VarReads Tryz.prog W "math/bits.deBruijn64tab" Rows.laid_math_bits_deBruijn64tab) : 17 ≤ W.heap.size := by
 obtain ⟨g, t, cs, fuel, p, hg, hty, hvar, hd⟩ := h
 obtain rfl := Option.some.inj ((show Tryz.prog.globalNamed "math/bits.deBruijn64tab" = some 16 by kernel_rfl).symm.trans hg)
 by_cases e : 16 < W.heap.size
 ·omega
 ·have hn : W.heap[16]? = none := by simp; omega
  simp [World.var?, hg, hn] at hvar
def wordD (k : Nat) : DataW Unit := .agg [.lit (.string (firstW k)), .agg ((List.range 4).map fun i => .lit (.string (letW k i)))]
theorem words_eq : (Rows.laid_workcell_code_words : DataW Unit) = .agg ((List.range 9).map wordD) := by kernel_rfl
theorem byte_eq {s : ByteArray} {l : List UInt8} (h : s.data.toList = l) : s = ⟨l.toArray⟩ := by rw [← h]
theorem words_of {W : World} (h : VarReads Tryz.prog W "workcell/code.words" Rows.laid_workcell_code_words) : WT W := by
 rw [words_eq] at h
 obtain ⟨g, t, cs, fuel, p, hg, hty, hvar, hd⟩ := h
 obtain rfl := Option.some.inj ((show Tryz.prog.globalNamed "workcell/code.words" = some 8 by kernel_rfl).symm.trans hg)
 obtain rfl := Option.some.inj ((show (Tryz.prog.globals[8]?).map (·.type) = some 236 by kernel_rfl).symm.trans hty)
 have hcell := fun j => World.var?_cell hg hvar j
 have key : ∀ k, k < 9 → cs.toList[k * 5]? = some (sA (firstW k)) ∧ ∀ i, i < 4 → cs.toList[k * 5 + 1 + i]? = some (sA (letW k i)) := by
  intro k hk
  obtain ⟨fuel', d, q, hdi, he⟩ := array_elem Tryz.underlying236 hd k hk
  have hd2 : d = wordD k := by
   rw [List.getElem?_map, List.getElem?_range hk] at hdi
   exact (Option.some.inj hdi).symm
  subst hd2
  rw [show Tryz.prog.cellsOf 235 = 5 by kernel_rfl] at he
  obtain ⟨xs, n, _, hx, _, hlen, hf⟩ := DataW.trod_struct Tryz.underlying235 he
  obtain ⟨x0, x1, rfl⟩ : ∃ x0 x1, xs = [x0, x1] := by
   match xs, hlen with
   | [x0, x1], _ => exact ⟨x0, x1, rfl⟩
  have hx0 : x0.1 = .lit (.string (firstW k)) ∧ x1.1 = .agg ((List.range 4).map fun i => .lit (.string (letW k i))) := by
   have := congrArg Prod.fst hx
   simp only [wordD, List.map_cons, List.map_nil, DataW.agg.injEq, List.cons.injEq, and_true] at this
   exact ⟨this.1.symm, this.2.symm⟩
  have h0' : DataW.trod _ Tryz.prog W 0 _ _ n 9 ((((cs.toList.drop (k * 5)).take 5).drop 0).take (Tryz.prog.cellsOf 9)) = some x0 := hf 0 _ rfl
  have h1' : DataW.trod _ Tryz.prog W 0 _ _ n 233 ((((cs.toList.drop (k * 5)).take 5).drop 1).take (Tryz.prog.cellsOf 233)) = some x1 := hf 1 _ rfl
  rw [show Tryz.prog.cellsOf 9 = 1 by kernel_rfl] at h0'
  rw [show Tryz.prog.cellsOf 233 = 4 by kernel_rfl] at h1'
  refine ⟨?_, fun i hi => ?_⟩
  ·obtain ⟨s, e1, e2, _⟩ := DataW.trod_string Tryz.underlying9 h0'
   have hs : s = ⟨(firstW k).toArray⟩ := byte_eq (by
    have := congrArg Prod.fst e2
    rw [hx0.1] at this
    simpa using this.symm)
   have g0 : ((((cs.toList.drop (k * 5)).take 5).drop 0).take 1)[0]? = some (.string s) := by rw [e1]; rfl
   rw [hs] at g0
   simpa [List.getElem?_take, List.getElem?_drop] using g0
  ·obtain ⟨d1, p1⟩ := x1
   have hx1 := hx0.2
   simp only at hx1
   subst hx1
   obtain ⟨fuel2, d2, q2, hd2, he2⟩ := array_elem Tryz.underlying233 h1' i hi
   have hd3 : d2 = .lit (.string (letW k i)) := by
    rw [List.getElem?_map, List.getElem?_range hi] at hd2
    exact (Option.some.inj hd2).symm
   subst hd3
   rw [show Tryz.prog.cellsOf 9 = 1 by kernel_rfl, Nat.mul_one] at he2
   obtain ⟨s, e1, e2, _⟩ := DataW.trod_string Tryz.underlying9 he2
   have hs : s = ⟨(letW k i).toArray⟩ := byte_eq (by
    have := congrArg Prod.fst e2
    simpa using this.symm)
   have g0 : ((((((cs.toList.drop (k * 5)).take 5).drop 1).take 4).drop i).take 1)[0]? = some (.string s) := by rw [e1]; rfl
   rw [hs] at g0
   have g1 := g0
   simp only [List.getElem?_take, List.getElem?_drop] at g1
   rw [if_pos (by omega), if_pos (by omega), if_pos (by omega)] at g1
   rw [← g1]
   congr 1
   omega
 refine ⟨fun k hk => ?_, fun k i hk hi => ?_⟩
 ·rw [hcell, ← Array.getElem?_toList]; exact (key k hk).1
 ·rw [hcell, ← Array.getElem?_toList]; exact (key k hk).2 i hi
theorem most_of {W : World} (h : W.ShapedOpen Tryz.prog) : ∃ m, W.cell? ⟨9, 0, none⟩ = some (.int .i64 m) :=
 cell_of_shapedOpen_int (t := 3) (zero := #[.int .i64 0]) h (of_decide_eq_true (by kernel_rfl)) (by kernel_rfl) rfl (by kernel_rfl) (by kernel_rfl) Tryz.underlying3
theorem syn_of {W : World} (h : VarReads Tryz.prog W "strconv.ErrSyntax" Rows.laid_strconv_ErrSyntax) : ∃ ev, W.cell? ⟨13, 0, none⟩ = some ev ∧ (ev = .nilIface ∨ ∃ te pe, ev = .iface te pe) := by
 obtain ⟨g, t, cs, fuel, p, hg, hty, hvar, hd⟩ := h
 obtain rfl := Option.some.inj ((show Tryz.prog.globalNamed "strconv.ErrSyntax" = some 13 by kernel_rfl).symm.trans hg)
 obtain rfl := Option.some.inj ((show (Tryz.prog.globals[13]?).map (·.type) = some 106 by kernel_rfl).symm.trans hty)
 have hcell := World.var?_cell hg hvar 0
 cases fuel with
 | zero => simp [DataW.trod] at hd
 | succ n =>
  unfold DataW.trod at hd
  rw [Tryz.underlying106] at hd
  obtain ⟨l⟩ := cs
  match l, hd, hcell with
  | [.nilIface], _, hc => exact ⟨_, hc, .inl rfl⟩
  | [.iface u v], _, hc => exact ⟨_, hc, .inr ⟨u, v, rfl⟩⟩
theorem tall_of {W : World} (h : laidMet Tryz.prog [("math/bits.deBruijn32tab", Rows.laid_math_bits_deBruijn32tab), ("math/bits.deBruijn64tab", Rows.laid_math_bits_deBruijn64tab), ("internal/strconv.uint64pow10", Rows.laid_internal_strconv_uint64pow10), ("unicode/utf8.acceptRanges", Rows.laid_unicode_utf8_acceptRanges), ("strconv.ErrRange", Rows.laid_strconv_ErrRange), ("strconv.ErrSyntax", Rows.laid_strconv_ErrSyntax), ("workcell/code.words", Rows.laid_workcell_code_words), ("unicode/utf8.first", Rows.laid_unicode_utf8_first)] W) (hS : W.ShapedOpen Tryz.prog) : Tall W :=
 ⟨⟨pow_of (laidMet.reads h (by simp)), words_of (laidMet.reads h (by simp)), size_of (laidMet.reads h (by simp))⟩, most_of hS, syn_of (laidMet.reads h (by simp))⟩
end Go.Proofs.YtcajifelbldjnaaGreatDoor.C
