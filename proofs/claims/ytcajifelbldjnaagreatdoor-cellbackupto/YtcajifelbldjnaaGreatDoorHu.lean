import Derived.Test.YtcajifelbldjnaaGreatDoorHp
import Derived.Test.YtcajifelbldjnaaGreatDoorRows
import Derived.Lib.LaidTab
import Derived.Lib.LaidU8
import Derived.ProofKit
import Derived.Stop.Joined
import Derived.Stop.LaidErr
import Derived.Stop.LaidTwo
import Derived.Lay
set_option maxRecDepth 100000
set_option maxHeartbeats 25600000
set_option linter.unusedVariables false
namespace Go.Proofs.YtcajifelbldjnaaGreatDoor.K
open Go.RowKit Go.Lib
def wordD (k : Nat) : DataW Unit := .agg [.lit (.string (firstW k)),.agg ((List.range 4).map fun i => .lit (.string (letW k i)))]
theorem words_eq : (Rows.laid_workcell_code_words : DataW Unit) = .agg ((List.range 9).map wordD) := by kernel_rfl
theorem byte_eq {s : ByteArray} {l : List UInt8} (h : s.data.toList = l) : s = ⟨l.toArray⟩ := by rw [← h]
theorem words_of {W : World} (h : VarReads Tryz.prog W "workcell/code.words" Rows.laid_workcell_code_words) : WT W := by
 rw [words_eq] at h;obtain ⟨g,t,cs,fuel,p,hg,hty,hvar,hd⟩ := h
 obtain rfl := Option.some.inj ((show Tryz.prog.globalNamed "workcell/code.words" = some 8 by kernel_rfl).symm.trans hg)
 obtain rfl := Option.some.inj ((show (Tryz.prog.globals[8]?).map (·.type) = some 236 by kernel_rfl).symm.trans hty);have hcell := fun j => World.var?_cell hg hvar j
 have key : ∀ k,k < 9 → cs.toList[k * 5]? = some (sA (firstW k)) ∧ ∀ i,i < 4 → cs.toList[k * 5 + 1 + i]? = some (sA (letW k i)) := by
  intro k hk;obtain ⟨fuel',d,q,hdi,he⟩ := array_elem Tryz.underlying236 hd k hk
  have hd2 : d = wordD k := by
   rw [List.getElem?_map,List.getElem?_range hk] at hdi;exact (Option.some.inj hdi).symm
  subst hd2;rw [show Tryz.prog.cellsOf 235 = 5 by kernel_rfl] at he;obtain ⟨xs,n,_,hx,_,hlen,hf⟩ := DataW.trod_struct Tryz.underlying235 he
  obtain ⟨x0,x1,rfl⟩ : ∃ x0 x1,xs = [x0,x1] := by
   match xs,hlen with
   | [x0,x1],_ => exact ⟨x0,x1,rfl⟩
  have hx0 : x0.1 = .lit (.string (firstW k)) ∧ x1.1 = .agg ((List.range 4).map fun i => .lit (.string (letW k i))) := by
   have := congrArg Prod.fst hx;simp only [wordD,List.map_cons,List.map_nil,DataW.agg.injEq,List.cons.injEq,and_true] at this;exact ⟨this.1.symm,this.2.symm⟩
  have h0' : DataW.trod _ Tryz.prog W 0 _ _ n 9 ((((cs.toList.drop (k * 5)).take 5).drop 0).take (Tryz.prog.cellsOf 9)) = some x0 := hf 0 _ rfl;have h1' : DataW.trod _ Tryz.prog W 0 _ _ n 233 ((((cs.toList.drop (k * 5)).take 5).drop 1).take (Tryz.prog.cellsOf 233)) = some x1 := hf 1 _ rfl;rw [show Tryz.prog.cellsOf 9 = 1 by kernel_rfl] at h0';rw [show Tryz.prog.cellsOf 233 = 4 by kernel_rfl] at h1';refine ⟨?_,fun i hi => ?_⟩
  ·obtain ⟨s,e1,e2,_⟩ := DataW.trod_string Tryz.underlying9 h0'
   have hs : s = ⟨(firstW k).toArray⟩ := byte_eq (by
    have := congrArg Prod.fst e2;rw [hx0.1] at this
    simpa using this.symm)
   have g0 : ((((cs.toList.drop (k * 5)).take 5).drop 0).take 1)[0]? = some (.string s) := by rw [e1]; rfl
   rw [hs] at g0
   simpa [List.getElem?_take,List.getElem?_drop] using g0
  ·obtain ⟨d1,p1⟩ := x1
   have hx1 := hx0.2;simp only at hx1;subst hx1;obtain ⟨fuel2,d2,q2,hd2,he2⟩ := array_elem Tryz.underlying233 h1' i hi
   have hd3 : d2 = .lit (.string (letW k i)) := by
    rw [List.getElem?_map,List.getElem?_range hi] at hd2;exact (Option.some.inj hd2).symm
   subst hd3;rw [show Tryz.prog.cellsOf 9 = 1 by kernel_rfl,Nat.mul_one] at he2;obtain ⟨s,e1,e2,_⟩ := DataW.trod_string Tryz.underlying9 he2
   have hs : s = ⟨(letW k i).toArray⟩ := byte_eq (by
    have := congrArg Prod.fst e2
    simpa using this.symm)
   have g0 : ((((((cs.toList.drop (k * 5)).take 5).drop 1).take 4).drop i).take 1)[0]? = some (.string s) := by rw [e1]; rfl
   rw [hs] at g0;have g1 := g0;simp only [List.getElem?_take,List.getElem?_drop] at g1;rw [if_pos (by omega),if_pos (by omega),if_pos (by omega)] at g1;rw [← g1]
   congr 1
   omega
 refine ⟨fun k hk => ?_,fun k i hk hi => ?_⟩
 ·rw [hcell,← Array.getElem?_toList]; exact (key k hk).1
 ·rw [hcell,← Array.getElem?_toList]; exact (key k hk).2 i hi
theorem Tryz.star : "*" ++ "errors.errorString" = "*errors.errorString" := by decide
theorem Tryz.row109 (u : TypeId) (h : Tryz.prog.typeName? 3 u = some "*errors.errorString") : u = 387 :=
 typeName_ptr_named (nm := "errors.errorString") (by rw [Tryz.star]; kernel_rfl) (by kernel_rfl) (by decide) u (by rw [Tryz.star]; exact h)
theorem Tryz.cells389 : Tryz.prog.cellsOf 389 = 1 := by kernel_rfl
theorem Tryz.cells9 : Tryz.prog.cellsOf 9 = 1 := by kernel_rfl
theorem var_cell {W : World} {n : String} {g : Nat} {x : Value} (hg : Tryz.prog.globalNamed n = some g) (h : W.var? Tryz.prog n = some #[x]) : W.cell? ⟨g,0,none⟩ = some x := by
 have := World.var?_cell hg h 0;rw [this]
 rfl
theorem cell_lt {W : World} {a : Addr} {v : Value} (h : W.cell? a = some v) : a.block < W.heap.size := by
 by_cases e : a.block < W.heap.size
 ·exact e
 ·have : W.heap[a.block]? = none := by simp; omega
  obtain ⟨b,o,s⟩ := a;simp only at this;simp [World.cell?,this] at h
theorem text_ne {W : World} {a b : Addr} {s t : ByteArray} {l m : List UInt8} (ha : W.cell? a = some (.string s)) (hb : W.cell? b = some (.string t)) (hs : s.data.toList = l) (ht : t.data.toList = m) (hne : l ≠ m) : a ≠ b := by
 rintro rfl;rw [ha] at hb;injection hb with hb;injection hb with hb;exact hne (by rw [← hs,← ht,hb])
theorem gl_of {W : World} (h : laidMet Tryz.prog [("workcell/code.words",Rows.laid_workcell_code_words),("workcell/firm.errNoRig",Rows.laid_workcell_firm_errNoRig),("workcell/firm.errNoState",Rows.laid_workcell_firm_errNoState),("workcell/firm.errNotHomed",Rows.laid_workcell_firm_errNotHomed),("workcell/firm.errOutside",Rows.laid_workcell_firm_errOutside),("workcell/firm.errNoTip",Rows.laid_workcell_firm_errNoTip),("workcell/firm.errTipThere",Rows.laid_workcell_firm_errTipThere),("workcell/firm.errTooFar",Rows.laid_workcell_firm_errTooFar),("workcell/firm.errTooLate",Rows.laid_workcell_firm_errTooLate)] W) : ∃ a,Gl a W.heap.size W := by
 have hw := words_of (laidMet.reads h (by simp));have t1 := laidMet.tail h;have t2 := laidMet.tail (laidMet.tail t1);have t3 := laidMet.tail (laidMet.tail t2);have t4 := laidMet.tail (laidMet.tail t3);obtain ⟨a1,a2,s1,s2,u1,u2,y1,y2,v1,v2,c1,e1,_,c2,e2,_,_,b1,b2⟩ := laid_sentinels2 t1 (g0 := 0) (g1 := 1) (by kernel_rfl) (by kernel_rfl) (by kernel_rfl) (by kernel_rfl) Tryz.underlying106 Tryz.row109 Tryz.underlying387 Tryz.underlying389 rfl rfl Tryz.underlying9 Tryz.cells389 Tryz.cells9;obtain ⟨a3,a0,s3,s0,u3,u0,y3,y0,v3,v0,c3,e3,_,c0,e0,_,_,b3,b0⟩ := laid_sentinels2 t2 (g0 := 2) (g1 := 3) (by kernel_rfl) (by kernel_rfl) (by kernel_rfl) (by kernel_rfl) Tryz.underlying106 Tryz.row109 Tryz.underlying387 Tryz.underlying389 rfl rfl Tryz.underlying9 Tryz.cells389 Tryz.cells9;obtain ⟨a4,a5,s4,s5,u4,u5,y4,y5,v4,v5,c4,e4,_,c5,e5,_,_,b4,b5⟩ := laid_sentinels2 t3 (g0 := 4) (g1 := 5) (by kernel_rfl) (by kernel_rfl) (by kernel_rfl) (by kernel_rfl) Tryz.underlying106 Tryz.row109 Tryz.underlying387 Tryz.underlying389 rfl rfl Tryz.underlying9 Tryz.cells389 Tryz.cells9;obtain ⟨a6,a7,s6,s7,u6,u7,y6,y7,v6,v7,c6,e6,_,c7,e7,_,_,b6,b7⟩ := laid_sentinels2 t4 (g0 := 6) (g1 := 7) (by kernel_rfl) (by kernel_rfl) (by kernel_rfl) (by kernel_rfl) Tryz.underlying106 Tryz.row109 Tryz.underlying387 Tryz.underlying389 rfl rfl Tryz.underlying9 Tryz.cells389 Tryz.cells9
 refine ⟨fun i => match i with
  | 0 => a0
  | 1 => a1
  | 2 => a2
  | 3 => a3
  | 4 => a4
  | 5 => a5
  | 6 => a6
  | _ => a7,?_,?_,?_,?_,?_,Nat.le_refl _,hw⟩
 ·intro i hi
  match i,hi with
  | 0,_ => exact var_cell (n := "workcell/firm.errOutside") (by kernel_rfl) v0
  | 1,_ => exact var_cell (n := "workcell/firm.errNoRig") (by kernel_rfl) v1
  | 2,_ => exact var_cell (n := "workcell/firm.errNoState") (by kernel_rfl) v2
  | 3,_ => exact var_cell (n := "workcell/firm.errNotHomed") (by kernel_rfl) v3
  | 4,_ => exact var_cell (n := "workcell/firm.errNoTip") (by kernel_rfl) v4
  | 5,_ => exact var_cell (n := "workcell/firm.errTipThere") (by kernel_rfl) v5
  | 6,_ => exact var_cell (n := "workcell/firm.errTooFar") (by kernel_rfl) v6
  | 7,_ => exact var_cell (n := "workcell/firm.errTooLate") (by kernel_rfl) v7
 ·intro i hi
  match i,hi with
  | 0,_ => exact ⟨_,_,b0⟩
  | 1,_ => exact ⟨_,_,b1⟩
  | 2,_ => exact ⟨_,_,b2⟩
  | 3,_ => exact ⟨_,_,b3⟩
  | 4,_ => exact ⟨_,_,b4⟩
  | 5,_ => exact ⟨_,_,b5⟩
  | 6,_ => exact ⟨_,_,b6⟩
  | 7,_ => exact ⟨_,_,b7⟩
 ·intro i j hi hj hne
  match i,j,hi,hj,hne with
  | 0,0,_,_,h => exact absurd rfl h
  | 0,1,_,_,_ => exact text_ne c0 c1 e0 e1 (by decide)
  | 0,2,_,_,_ => exact text_ne c0 c2 e0 e2 (by decide)
  | 0,3,_,_,_ => exact text_ne c0 c3 e0 e3 (by decide)
  | 0,4,_,_,_ => exact text_ne c0 c4 e0 e4 (by decide)
  | 0,5,_,_,_ => exact text_ne c0 c5 e0 e5 (by decide)
  | 0,6,_,_,_ => exact text_ne c0 c6 e0 e6 (by decide)
  | 0,7,_,_,_ => exact text_ne c0 c7 e0 e7 (by decide)
  | 1,0,_,_,_ => exact text_ne c1 c0 e1 e0 (by decide)
  | 1,1,_,_,h => exact absurd rfl h
  | 1,2,_,_,_ => exact text_ne c1 c2 e1 e2 (by decide)
  | 1,3,_,_,_ => exact text_ne c1 c3 e1 e3 (by decide)
  | 1,4,_,_,_ => exact text_ne c1 c4 e1 e4 (by decide)
  | 1,5,_,_,_ => exact text_ne c1 c5 e1 e5 (by decide)
  | 1,6,_,_,_ => exact text_ne c1 c6 e1 e6 (by decide)
  | 1,7,_,_,_ => exact text_ne c1 c7 e1 e7 (by decide)
  | 2,0,_,_,_ => exact text_ne c2 c0 e2 e0 (by decide)
  | 2,1,_,_,_ => exact text_ne c2 c1 e2 e1 (by decide)
  | 2,2,_,_,h => exact absurd rfl h
  | 2,3,_,_,_ => exact text_ne c2 c3 e2 e3 (by decide)
  | 2,4,_,_,_ => exact text_ne c2 c4 e2 e4 (by decide)
  | 2,5,_,_,_ => exact text_ne c2 c5 e2 e5 (by decide)
  | 2,6,_,_,_ => exact text_ne c2 c6 e2 e6 (by decide)
  | 2,7,_,_,_ => exact text_ne c2 c7 e2 e7 (by decide)
  | 3,0,_,_,_ => exact text_ne c3 c0 e3 e0 (by decide)
  | 3,1,_,_,_ => exact text_ne c3 c1 e3 e1 (by decide)
  | 3,2,_,_,_ => exact text_ne c3 c2 e3 e2 (by decide)
  | 3,3,_,_,h => exact absurd rfl h
  | 3,4,_,_,_ => exact text_ne c3 c4 e3 e4 (by decide)
  | 3,5,_,_,_ => exact text_ne c3 c5 e3 e5 (by decide)
  | 3,6,_,_,_ => exact text_ne c3 c6 e3 e6 (by decide)
  | 3,7,_,_,_ => exact text_ne c3 c7 e3 e7 (by decide)
  | 4,0,_,_,_ => exact text_ne c4 c0 e4 e0 (by decide)
  | 4,1,_,_,_ => exact text_ne c4 c1 e4 e1 (by decide)
  | 4,2,_,_,_ => exact text_ne c4 c2 e4 e2 (by decide)
  | 4,3,_,_,_ => exact text_ne c4 c3 e4 e3 (by decide)
  | 4,4,_,_,h => exact absurd rfl h
  | 4,5,_,_,_ => exact text_ne c4 c5 e4 e5 (by decide)
  | 4,6,_,_,_ => exact text_ne c4 c6 e4 e6 (by decide)
  | 4,7,_,_,_ => exact text_ne c4 c7 e4 e7 (by decide)
  | 5,0,_,_,_ => exact text_ne c5 c0 e5 e0 (by decide)
  | 5,1,_,_,_ => exact text_ne c5 c1 e5 e1 (by decide)
  | 5,2,_,_,_ => exact text_ne c5 c2 e5 e2 (by decide)
  | 5,3,_,_,_ => exact text_ne c5 c3 e5 e3 (by decide)
  | 5,4,_,_,_ => exact text_ne c5 c4 e5 e4 (by decide)
  | 5,5,_,_,h => exact absurd rfl h
  | 5,6,_,_,_ => exact text_ne c5 c6 e5 e6 (by decide)
  | 5,7,_,_,_ => exact text_ne c5 c7 e5 e7 (by decide)
  | 6,0,_,_,_ => exact text_ne c6 c0 e6 e0 (by decide)
  | 6,1,_,_,_ => exact text_ne c6 c1 e6 e1 (by decide)
  | 6,2,_,_,_ => exact text_ne c6 c2 e6 e2 (by decide)
  | 6,3,_,_,_ => exact text_ne c6 c3 e6 e3 (by decide)
  | 6,4,_,_,_ => exact text_ne c6 c4 e6 e4 (by decide)
  | 6,5,_,_,_ => exact text_ne c6 c5 e6 e5 (by decide)
  | 6,6,_,_,h => exact absurd rfl h
  | 6,7,_,_,_ => exact text_ne c6 c7 e6 e7 (by decide)
  | 7,0,_,_,_ => exact text_ne c7 c0 e7 e0 (by decide)
  | 7,1,_,_,_ => exact text_ne c7 c1 e7 e1 (by decide)
  | 7,2,_,_,_ => exact text_ne c7 c2 e7 e2 (by decide)
  | 7,3,_,_,_ => exact text_ne c7 c3 e7 e3 (by decide)
  | 7,4,_,_,_ => exact text_ne c7 c4 e7 e4 (by decide)
  | 7,5,_,_,_ => exact text_ne c7 c5 e7 e5 (by decide)
  | 7,6,_,_,_ => exact text_ne c7 c6 e7 e6 (by decide)
  | 7,7,_,_,h => exact absurd rfl h
 ·intro i hi
  match i,hi with
  | 0,_ => exact cell_lt c0
  | 1,_ => exact cell_lt c1
  | 2,_ => exact cell_lt c2
  | 3,_ => exact cell_lt c3
  | 4,_ => exact cell_lt c4
  | 5,_ => exact cell_lt c5
  | 6,_ => exact cell_lt c6
  | 7,_ => exact cell_lt c7
 ·have := cell_lt (hw.first 0 (by decide))
  simp only at this;omega
end Go.Proofs.YtcajifelbldjnaaGreatDoor.K
