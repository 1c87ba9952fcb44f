import Derived.Shelf.SlSortCmp.NoneTotal
import Derived.Ground.SlsfProg
import Derived.Shelf.SlGeneric
import Derived.Test.YtcajifelbldjnaaGreatDoorProg
import Derived.Test.YtcajifelbldjnaaGreatDoorIi
set_option maxRecDepth 100000
set_option maxHeartbeats 25600000
set_option linter.unusedVariables false
/-
  DERIVED: THE SHELF's CONTRACTS AT THIS DUMP, IN PLAIN WORDS (tools/lay-plain.mjs out of 'TryShelfB.lean', which tools/lay-shelf.mjs wrote): THE SAME DECLARATIONS UNDER THE SAME NAMES: 'import', 'namespace', 'open', 'def', 'theorem' AND NOTHING ELSE: no command of the shelf's: FOR A HAND-IN. Each laying: the table of numbers ('.._ren') and one theorem, a field a fact of the dump's own or the kernel's comparison; each contract: ONE APPLICATION.
-/
namespace Go.Proofs
open Go.Shelf
def Tryz.sort116_ren : Go.Shelf.Ren := ⟨fun | 6 => 116 | 15 => 185 | 14 => 184 | 28 => 224 | 29 => 225 | 20 => 216 | 21 => 217 | 22 => 218 | 23 => 219 | 24 => 220 | 25 => 221 | 26 => 222 | 27 => 223 | 46 => 259 | 47 => 260 | 48 => 261 | 49 => 262 | 50 => 263 | 57 => 286 | n => n, fun | 22 => 69 | 24 => 205 | 25 => 210 | 3 => 3 | 39 => 262 | 0 => 0 | 53 => 302 | 55 => 304 | 4 => 4 | 46 => 296 | 45 => 295 | 50 => 177 | 5 => 5 | 9 => 9 | 66 => 333 | 70 => 337 | 76 => 357 | 77 => 358 | n => n, fun | n => n⟩
theorem Tryz.sort116 : Go.Proofs.SlLaysF0.n6 Tryz.prog Tryz.sort116_ren := {
  mixed := by kernel_rfl
  f6 := ⟨Tryz.f116.name, by decide, Tryz.func116.trans (congrArg some (by kernel_rfl))⟩
  f14 := ⟨Tryz.f184.name, by decide, Tryz.func184.trans (congrArg some (by kernel_rfl))⟩
  f15 := Tryz.func185.trans (congrArg some (by kernel_rfl))
  f20 := ⟨Tryz.f216.name, by decide, Tryz.func216.trans (congrArg some (by kernel_rfl))⟩
  f21 := ⟨Tryz.f217.name, by decide, Tryz.func217.trans (congrArg some (by kernel_rfl))⟩
  f22 := ⟨Tryz.f218.name, by decide, Tryz.func218.trans (congrArg some (by kernel_rfl))⟩
  f23 := ⟨Tryz.f219.name, by decide, Tryz.func219.trans (congrArg some (by kernel_rfl))⟩
  f24 := ⟨Tryz.f220.name, by decide, Tryz.func220.trans (congrArg some (by kernel_rfl))⟩
  f25 := ⟨Tryz.f221.name, by decide, Tryz.func221.trans (congrArg some (by kernel_rfl))⟩
  f26 := ⟨Tryz.f222.name, by decide, Tryz.func222.trans (congrArg some (by kernel_rfl))⟩
  f27 := ⟨Tryz.f223.name, by decide, Tryz.func223.trans (congrArg some (by kernel_rfl))⟩
  f28 := Tryz.func224.trans (congrArg some (by kernel_rfl))
  f29 := Tryz.func225.trans (congrArg some (by kernel_rfl))
  f46 := ⟨Tryz.f259.name, by decide, Tryz.func259.trans (congrArg some (by kernel_rfl))⟩
  f47 := Tryz.func260.trans (congrArg some (by kernel_rfl))
  f48 := Tryz.func261.trans (congrArg some (by kernel_rfl))
  f49 := ⟨Tryz.f262.name, by decide, Tryz.func262.trans (congrArg some (by kernel_rfl))⟩
  f50 := ⟨Tryz.f263.name, by decide, Tryz.func263.trans (congrArg some (by kernel_rfl))⟩
  f57 := ⟨Tryz.f286.name, by decide, Tryz.func286.trans (congrArg some (by kernel_rfl))⟩
  t0 := Tryz.underlying0
  a0 := Tryz.isAgg0
  z0 := Tryz.sizeOf0
  v0 := Tryz.zeroValue0
  t3 := Tryz.underlying3
  a3 := Tryz.isAgg3
  z3 := Tryz.sizeOf3
  v3 := Tryz.zeroValue3
  t4 := Tryz.underlying4
  a4 := Tryz.isAgg4
  z4 := Tryz.sizeOf4
  v4 := Tryz.zeroValue4
  t5 := Tryz.underlying5
  a5 := Tryz.isAgg5
  z5 := Tryz.sizeOf5
  v5 := Tryz.zeroValue5
  t9 := Tryz.underlying9
  a9 := Tryz.isAgg9
  z9 := Tryz.sizeOf9
  v9 := Tryz.zeroValue9
  t22 := Tryz.underlying69
  a22 := Tryz.isAgg69
  z22 := Tryz.sizeOf69
  v22 := Tryz.zeroValue69
  t25 := Tryz.underlying210
  a25 := Tryz.isAgg210
  z25 := Tryz.sizeOf210
  v25 := Tryz.zeroValue210
  t39 := Tryz.underlying262
  a39 := Tryz.isAgg262
  z39 := Tryz.sizeOf262
  v39 := Tryz.zeroValue262
  t45 := Tryz.underlying295
  a45 := Tryz.isAgg295
  z45 := Tryz.sizeOf295
  v45 := Tryz.zeroValue295
  t46 := Tryz.underlying296
  a46 := Tryz.isAgg296
  z46 := Tryz.sizeOf296
  v46 := Tryz.zeroValue296
  t50 := Tryz.underlying177
  a50 := Tryz.isAgg177
  z50 := Tryz.sizeOf177
  v50 := Tryz.zeroValue177
  t53 := Tryz.underlying302
  a53 := Tryz.isAgg302
  z53 := Tryz.sizeOf302
  v53 := Tryz.zeroValue302
  t55 := Tryz.underlying304
  a55 := Tryz.isAgg304
  z55 := Tryz.sizeOf304
  v55 := Tryz.zeroValue304
  t66 := Tryz.underlying333
  a66 := Tryz.isAgg333
  z66 := Tryz.sizeOf333
  v66 := Tryz.zeroValue333
  t70 := Tryz.underlying337
  a70 := Tryz.isAgg337
  z70 := Tryz.sizeOf337
  v70 := Tryz.zeroValue337
  t76 := Tryz.underlying357
  a76 := Tryz.isAgg357
  z76 := Tryz.sizeOf357
  v76 := Tryz.zeroValue357
  t77 := Tryz.underlying358
  a77 := Tryz.isAgg358
  z77 := Tryz.sizeOf358
  v77 := Tryz.zeroValue358 }
def Tryz.sort170_ren : Go.Shelf.Ren := ⟨fun | 6 => 170 | 15 => 185 | 14 => 206 | 28 => 224 | 29 => 225 | 20 => 245 | 21 => 246 | 22 => 247 | 23 => 248 | 24 => 249 | 25 => 250 | 26 => 251 | 27 => 252 | 46 => 278 | 47 => 260 | 48 => 261 | 49 => 279 | 50 => 280 | 57 => 298 | n => n, fun | 22 => 22 | 24 => 86 | 25 => 190 | 3 => 3 | 39 => 262 | 0 => 0 | 53 => 302 | 55 => 304 | 4 => 4 | 46 => 296 | 45 => 295 | 50 => 177 | 5 => 5 | 9 => 9 | 66 => 333 | 70 => 337 | 76 => 357 | 77 => 358 | n => n, fun | n => n⟩
theorem Tryz.sort170 : Go.Proofs.SlLaysF0.n6 Tryz.prog Tryz.sort170_ren := {
  mixed := by kernel_rfl
  f6 := ⟨Tryz.f170.name, by decide, Tryz.func170.trans (congrArg some (by kernel_rfl))⟩
  f14 := ⟨Tryz.f206.name, by decide, Tryz.func206.trans (congrArg some (by kernel_rfl))⟩
  f15 := Tryz.func185.trans (congrArg some (by kernel_rfl))
  f20 := ⟨Tryz.f245.name, by decide, Tryz.func245.trans (congrArg some (by kernel_rfl))⟩
  f21 := ⟨Tryz.f246.name, by decide, Tryz.func246.trans (congrArg some (by kernel_rfl))⟩
  f22 := ⟨Tryz.f247.name, by decide, Tryz.func247.trans (congrArg some (by kernel_rfl))⟩
  f23 := ⟨Tryz.f248.name, by decide, Tryz.func248.trans (congrArg some (by kernel_rfl))⟩
  f24 := ⟨Tryz.f249.name, by decide, Tryz.func249.trans (congrArg some (by kernel_rfl))⟩
  f25 := ⟨Tryz.f250.name, by decide, Tryz.func250.trans (congrArg some (by kernel_rfl))⟩
  f26 := ⟨Tryz.f251.name, by decide, Tryz.func251.trans (congrArg some (by kernel_rfl))⟩
  f27 := ⟨Tryz.f252.name, by decide, Tryz.func252.trans (congrArg some (by kernel_rfl))⟩
  f28 := Tryz.func224.trans (congrArg some (by kernel_rfl))
  f29 := Tryz.func225.trans (congrArg some (by kernel_rfl))
  f46 := ⟨Tryz.f278.name, by decide, Tryz.func278.trans (congrArg some (by kernel_rfl))⟩
  f47 := Tryz.func260.trans (congrArg some (by kernel_rfl))
  f48 := Tryz.func261.trans (congrArg some (by kernel_rfl))
  f49 := ⟨Tryz.f279.name, by decide, Tryz.func279.trans (congrArg some (by kernel_rfl))⟩
  f50 := ⟨Tryz.f280.name, by decide, Tryz.func280.trans (congrArg some (by kernel_rfl))⟩
  f57 := ⟨Tryz.f298.name, by decide, Tryz.func298.trans (congrArg some (by kernel_rfl))⟩
  t0 := Tryz.underlying0
  a0 := Tryz.isAgg0
  z0 := Tryz.sizeOf0
  v0 := Tryz.zeroValue0
  t3 := Tryz.underlying3
  a3 := Tryz.isAgg3
  z3 := Tryz.sizeOf3
  v3 := Tryz.zeroValue3
  t4 := Tryz.underlying4
  a4 := Tryz.isAgg4
  z4 := Tryz.sizeOf4
  v4 := Tryz.zeroValue4
  t5 := Tryz.underlying5
  a5 := Tryz.isAgg5
  z5 := Tryz.sizeOf5
  v5 := Tryz.zeroValue5
  t9 := Tryz.underlying9
  a9 := Tryz.isAgg9
  z9 := Tryz.sizeOf9
  v9 := Tryz.zeroValue9
  t22 := Tryz.underlying22
  a22 := Tryz.isAgg22
  z22 := Tryz.sizeOf22
  v22 := Tryz.zeroValue22
  t25 := Tryz.underlying190
  a25 := Tryz.isAgg190
  z25 := Tryz.sizeOf190
  v25 := Tryz.zeroValue190
  t39 := Tryz.underlying262
  a39 := Tryz.isAgg262
  z39 := Tryz.sizeOf262
  v39 := Tryz.zeroValue262
  t45 := Tryz.underlying295
  a45 := Tryz.isAgg295
  z45 := Tryz.sizeOf295
  v45 := Tryz.zeroValue295
  t46 := Tryz.underlying296
  a46 := Tryz.isAgg296
  z46 := Tryz.sizeOf296
  v46 := Tryz.zeroValue296
  t50 := Tryz.underlying177
  a50 := Tryz.isAgg177
  z50 := Tryz.sizeOf177
  v50 := Tryz.zeroValue177
  t53 := Tryz.underlying302
  a53 := Tryz.isAgg302
  z53 := Tryz.sizeOf302
  v53 := Tryz.zeroValue302
  t55 := Tryz.underlying304
  a55 := Tryz.isAgg304
  z55 := Tryz.sizeOf304
  v55 := Tryz.zeroValue304
  t66 := Tryz.underlying333
  a66 := Tryz.isAgg333
  z66 := Tryz.sizeOf333
  v66 := Tryz.zeroValue333
  t70 := Tryz.underlying337
  a70 := Tryz.isAgg337
  z70 := Tryz.sizeOf337
  v70 := Tryz.zeroValue337
  t76 := Tryz.underlying357
  a76 := Tryz.isAgg357
  z76 := Tryz.sizeOf357
  v76 := Tryz.zeroValue357
  t77 := Tryz.underlying358
  a77 := Tryz.isAgg358
  z77 := Tryz.sizeOf358
  v77 := Tryz.zeroValue358 }
end Go.Proofs
namespace Go.Proofs.YtcajifelbldjnaaGreatDoor
open Go.RowKit
theorem grown_of_below {W w' : World} (h : bw W w') (hd : W.drawn ≤ w'.drawn) : ∃ q os, w' = Go.Sort.grow (W.drewN q) os := by
 refine ⟨w'.drawn - W.drawn, w'.heap.extract W.heap.size w'.heap.size, ?_⟩;obtain ⟨h1, h2, h3, h4, h5⟩ := h;obtain ⟨heap, tape, drawn, os, output⟩ := w';simp only at h1 h2 h3 h4 h5 hd ⊢;subst h1 h2 h3;simp only [Go.Sort.grow, World.drewN]
 congr 1
 ·apply Array.ext_getElem?
  intro i;rw [Array.getElem?_append]
  split
  ·rename_i hi; exact h5 i hi
  ·rename_i hi
   rw [Array.getElem?_extract]
   split
   ·congr 1; omega
   ·rw [Array.getElem?_eq_none (by omega)]
 ·omega
def cmpW (x y : Wh) : Int := cmpP x.1 y.1
theorem ltW (x y : Wh) : ltOf cmpW x y = pltB x.1 y.1 := cmpP_lt x.1 y.1
theorem plt_irr (p : Plc) : pltB p p = false := by
 cases h : pltB p p
 ·rfl
 ·exact absurd rfl (plt_ne h)
theorem plt_nn {p q r : Plc} (h1 : pltB p q = false) (h2 : pltB q r = false) : pltB p r = false := by
 rw [← Bool.not_eq_true, plt_iff] at *;omega
theorem swoW : Go.Sort.SWO (ltOf cmpW) where
 irrefl x := by rw [ltW]; exact plt_irr _
 trans x y z h1 h2 := by rw [ltW] at *; exact plt_trans h1 h2
 ntrans x y z h1 h2 := by rw [ltW] at *; exact plt_nn h1 h2
theorem grown_sortWorld {w : World} {g n : Nat} {d : Array Wh} {os : Array Obj} : w.grownBy (sortWorldK encW.enc 4 w g 0 n d os) (some g) := by
 refine ⟨rfl, rfl, rfl, ?_, fun k hk hne => ?_⟩
 ·simp [sortWorldK, Go.Sort.grow, Go.Sort.putRowK, Go.Sort.putRow, Go.Sort.mapBlock, Go.Sort.ahead]
 ·have hne' : g ≠ k := fun e => hne (by rw [e])
  simp only [sortWorldK, Go.Sort.grow, Go.Sort.putRowK, Go.Sort.putRow, Go.Sort.mapBlock, Go.Sort.ahead];rw [Array.getElem?_append_left (by simp; omega), Array.getElem?_modify, if_neg hne']
theorem en117 : ∀ args w, (callFunc 117 args).run Tryz.prog w = .ok (.enter 117 args) w := enters_of Tryz.func117 (by kernel_rfl) rfl
theorem sortW_any (base : Nat) (v : Value) (l : List Wh) (w : World) (h : OwnR encW w base v l) (hl : l.length ≤ 4608) :
  Calls Tryz.prog 116 #[v, .func (.func 117) #[] #[]] w fun e w' => e = .returned (.tuple #[]) ∧ (∃ l' ao cap, l'.Perm l ∧ l'.Pairwise (fun x y => pltB y.1 x.1 = false) ∧ v = .slice ao l'.length cap ∧ RdR encW w' ao l') ∧ w.grownBy w' v.ownBlock := by
 by_cases h0 : l = []
 ·subst h0
  obtain ⟨ao, cap, rfl⟩ := h.shape;have := AnyF.slices_SortFunc_none { Tryz.sort116 with } ao cap (.func (.func 117) #[] #[]) w;refine Calls.mono (show Calls Tryz.prog 116 #[.slice ao 0 cap, .func (.func 117) #[] #[]] w _ from this) ?_;rintro e w' ⟨rfl, rfl⟩;exact ⟨rfl, ⟨[], ao, cap, List.Perm.refl _, List.Pairwise.nil, rfl, .inl rfl⟩, World.grownBy.refl _ _⟩
 ·have h' := h
  rcases h.2 with ⟨h1, h2⟩ | ⟨g, cap, cur, rfl, hb, hg, hn, hm, hs, ht⟩
  ·exact absurd (List.eq_nil_of_length_eq_zero h2) h0
  have hlt : g < w.heap.size := (Array.getElem?_eq_some_iff.1 hg).1
  have hH : Go.Sort.HoldsK encW.enc 4 w g 0 l.toArray := by
   intro j hj;rw [Go.Sort.size_flatK] at hj;have hj2 : j < l.length * 4 := by simpa using hj
   rw [Go.Sort.get_flatK _ _ _ _ hj, Nat.zero_add];refine ⟨?_, World.ownsRow.frozenAt h' j⟩;rw [World.ownsRow.cellAt h' j (by omega)];have := cells_at goodW (ps := l) (k := j / 4) (j := j % 4) (by omega) (by show j % 4 < 4; omega);rw [show j / 4 * encW.sz + j % 4 = j from (by show j / 4 * 4 + j % 4 = j; omega)] at this;rw [this];have e : (l.toArray[j / 4]!) = l[j / 4]'(by omega) := by rw [getElem!_pos _ _ (by simp; omega)]; simp
   rw [e];generalize l[j / 4]'(by omega) = x
   rcases (show j % 4 = 0 ∨ j % 4 = 1 ∨ j % 4 = 2 ∨ j % 4 = 3 by omega) with e | e | e | e <;> rw [e] <;> rfl
  have := AnyQ.slices_SortFunc Tryz.sort116 4 Tryz.isAgg205 Tryz.sizeOf205 encW.enc (fun _ => rfl) goodW.one cmpW swoW 117 #[] g 0 cap l.toArray w en117 (fun _ _ _ _ x y => (byPlace_any x y _).mono fun _ _ ⟨h1, h2, h3⟩ => ⟨h1, grown_of_below h2 h3⟩) hH hlt (by simp; omega);refine Calls.mono (show Calls Tryz.prog 116 #[.slice (some ⟨g, 0, none⟩) l.length cap, .func (.func 117) #[] #[]] w _ from this) ?_;rintro e w' ⟨rfl, d', n, os, hp, hsd, rfl⟩;obtain ⟨hp1, _, hp3⟩ := hp
  have hp4 : d'.toList.Perm l := by
   have e1 : (d'.extract 0 l.toArray.size) = d' := by rw [← hp1]; simp
   have e2 : (l.toArray.extract 0 l.toArray.size) = l.toArray := by simp
   rw [e1, e2] at hp3;exact hp3
  have hlen : d'.toList.length = l.length := hp4.length_eq;refine ⟨rfl, ⟨d'.toList, _, cap, hp4, ?_, by rw [hlen], ?_⟩, grown_sortWorld⟩
  ·rw [List.pairwise_iff_getElem]
   intro i j hi hj hij;have := hsd i j (Nat.zero_le _) hij (by rw [← hp1]; simpa using hj);rw [ltW, getElem!_pos _ _ (by simpa using hj), getElem!_pos _ _ (by simpa using hi)] at this
   simpa using this
  ·have hH2 := holdsK_sortWorldK_c encW.enc 4 w g 0 l.toArray d' n os hH hlt (by simpa using hp1)
   refine .inr ⟨g, 0, rfl, Nat.lt_of_lt_of_le hlt (grown_sortWorld (d := d')).size, fun k hk j hj => ?_⟩;have hj4 : j < 4 := hj;have hk2 : k < d'.size := by simpa using hk
   have c0 := (hH2.cell (i := k) (c := j) hk2 hj4).1;have e : d'[k]! = d'.toList[k]'hk := by rw [getElem!_pos d' k hk2]; simp
   rw [e] at c0;show (sortWorldK encW.enc 4 w g 0 n d' os).cell? ⟨g, 0 + k * 4 + j, none⟩ = _;rw [c0]
   rcases (show j = 0 ∨ j = 1 ∨ j = 2 ∨ j = 3 by omega) with rfl | rfl | rfl | rfl <;> rfl
end Go.Proofs.YtcajifelbldjnaaGreatDoor
