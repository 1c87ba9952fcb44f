import Derived.Shelf.SlSortCmp.NoneTotal
import Derived.Ground.SlsfProg
import Derived.Shelf.SlGeneric
import Derived.Test.YtcajifelbldjnaaGreatDoorProg
import Derived.Test.YtcajifelbldjnaaGreatDoorHh
import Derived.Test.YtcajifelbldjnaaGreatDoorHf
set_option maxRecDepth 100000
set_option maxHeartbeats 25600000
set_option linter.unusedVariables false
/-
  DERIVED: THE SHELF's CONTRACTS AT THIS DUMP, IN PLAIN WORDS (tools/lay-plain.mjs out of 'TryShelfB.lean', which tools/lay-shelf.mjs wrote): THE SAME DECLARATIONS UNDER THE SAME NAMES: 'import', 'namespace', 'open', 'def', 'theorem' AND NOTHING ELSE: no command of the shelf's: FOR A HAND-IN. Each laying: the table of numbers ('.._ren') and one theorem, a field a fact of the dump's own or the kernel's comparison; each contract: ONE APPLICATION.
-/
namespace Go.Proofs
open Go.Shelf
def Tryz.sort116_ren : Go.Shelf.Ren := ⟨fun | 6 => 116 | 15 => 185 | 14 => 184 | 28 => 224 | 29 => 225 | 20 => 216 | 21 => 217 | 22 => 218 | 23 => 219 | 24 => 220 | 25 => 221 | 26 => 222 | 27 => 223 | 46 => 259 | 47 => 260 | 48 => 261 | 49 => 262 | 50 => 263 | 57 => 286 | n => n, fun | 22 => 69 | 24 => 205 | 25 => 210 | 3 => 3 | 39 => 262 | 0 => 0 | 53 => 302 | 55 => 304 | 4 => 4 | 46 => 296 | 45 => 295 | 50 => 177 | 5 => 5 | 9 => 9 | 66 => 333 | 70 => 337 | 76 => 357 | 77 => 358 | n => n, fun | n => n⟩
theorem Tryz.sort116 : Go.Proofs.SlLaysF0.n6 Tryz.prog Tryz.sort116_ren := {
  mixed := by kernel_rfl
  f6 := ⟨Tryz.f116.name, by decide, Tryz.func116.trans (congrArg some (by kernel_rfl))⟩
  f14 := ⟨Tryz.f184.name, by decide, Tryz.func184.trans (congrArg some (by kernel_rfl))⟩
  f15 := Tryz.func185.trans (congrArg some (by kernel_rfl))
  f20 := ⟨Tryz.f216.name, by decide, Tryz.func216.trans (congrArg some (by kernel_rfl))⟩
  f21 := ⟨Tryz.f217.name, by decide, Tryz.func217.trans (congrArg some (by kernel_rfl))⟩
  f22 := ⟨Tryz.f218.name, by decide, Tryz.func218.trans (congrArg some (by kernel_rfl))⟩
  f23 := ⟨Tryz.f219.name, by decide, Tryz.func219.trans (congrArg some (by kernel_rfl))⟩
  f24 := ⟨Tryz.f220.name, by decide, Tryz.func220.trans (congrArg some (by kernel_rfl))⟩
  f25 := ⟨Tryz.f221.name, by decide, Tryz.func221.trans (congrArg some (by kernel_rfl))⟩
  f26 := ⟨Tryz.f222.name, by decide, Tryz.func222.trans (congrArg some (by kernel_rfl))⟩
  f27 := ⟨Tryz.f223.name, by decide, Tryz.func223.trans (congrArg some (by kernel_rfl))⟩
  f28 := Tryz.func224.trans (congrArg some (by kernel_rfl))
  f29 := Tryz.func225.trans (congrArg some (by kernel_rfl))
  f46 := ⟨Tryz.f259.name, by decide, Tryz.func259.trans (congrArg some (by kernel_rfl))⟩
  f47 := Tryz.func260.trans (congrArg some (by kernel_rfl))
  f48 := Tryz.func261.trans (congrArg some (by kernel_rfl))
  f49 := ⟨Tryz.f262.name, by decide, Tryz.func262.trans (congrArg some (by kernel_rfl))⟩
  f50 := ⟨Tryz.f263.name, by decide, Tryz.func263.trans (congrArg some (by kernel_rfl))⟩
  f57 := ⟨Tryz.f286.name, by decide, Tryz.func286.trans (congrArg some (by kernel_rfl))⟩
  t0 := Tryz.underlying0
  a0 := Tryz.isAgg0
  z0 := Tryz.sizeOf0
  v0 := Tryz.zeroValue0
  t3 := Tryz.underlying3
  a3 := Tryz.isAgg3
  z3 := Tryz.sizeOf3
  v3 := Tryz.zeroValue3
  t4 := Tryz.underlying4
  a4 := Tryz.isAgg4
  z4 := Tryz.sizeOf4
  v4 := Tryz.zeroValue4
  t5 := Tryz.underlying5
  a5 := Tryz.isAgg5
  z5 := Tryz.sizeOf5
  v5 := Tryz.zeroValue5
  t9 := Tryz.underlying9
  a9 := Tryz.isAgg9
  z9 := Tryz.sizeOf9
  v9 := Tryz.zeroValue9
  t22 := Tryz.underlying69
  a22 := Tryz.isAgg69
  z22 := Tryz.sizeOf69
  v22 := Tryz.zeroValue69
  t25 := Tryz.underlying210
  a25 := Tryz.isAgg210
  z25 := Tryz.sizeOf210
  v25 := Tryz.zeroValue210
  t39 := Tryz.underlying262
  a39 := Tryz.isAgg262
  z39 := Tryz.sizeOf262
  v39 := Tryz.zeroValue262
  t45 := Tryz.underlying295
  a45 := Tryz.isAgg295
  z45 := Tryz.sizeOf295
  v45 := Tryz.zeroValue295
  t46 := Tryz.underlying296
  a46 := Tryz.isAgg296
  z46 := Tryz.sizeOf296
  v46 := Tryz.zeroValue296
  t50 := Tryz.underlying177
  a50 := Tryz.isAgg177
  z50 := Tryz.sizeOf177
  v50 := Tryz.zeroValue177
  t53 := Tryz.underlying302
  a53 := Tryz.isAgg302
  z53 := Tryz.sizeOf302
  v53 := Tryz.zeroValue302
  t55 := Tryz.underlying304
  a55 := Tryz.isAgg304
  z55 := Tryz.sizeOf304
  v55 := Tryz.zeroValue304
  t66 := Tryz.underlying333
  a66 := Tryz.isAgg333
  z66 := Tryz.sizeOf333
  v66 := Tryz.zeroValue333
  t70 := Tryz.underlying337
  a70 := Tryz.isAgg337
  z70 := Tryz.sizeOf337
  v70 := Tryz.zeroValue337
  t76 := Tryz.underlying357
  a76 := Tryz.isAgg357
  z76 := Tryz.sizeOf357
  v76 := Tryz.zeroValue357
  t77 := Tryz.underlying358
  a77 := Tryz.isAgg358
  z77 := Tryz.sizeOf358
  v77 := Tryz.zeroValue358 }
def Tryz.sort170_ren : Go.Shelf.Ren := ⟨fun | 6 => 170 | 15 => 185 | 14 => 206 | 28 => 224 | 29 => 225 | 20 => 245 | 21 => 246 | 22 => 247 | 23 => 248 | 24 => 249 | 25 => 250 | 26 => 251 | 27 => 252 | 46 => 278 | 47 => 260 | 48 => 261 | 49 => 279 | 50 => 280 | 57 => 298 | n => n, fun | 22 => 22 | 24 => 86 | 25 => 190 | 3 => 3 | 39 => 262 | 0 => 0 | 53 => 302 | 55 => 304 | 4 => 4 | 46 => 296 | 45 => 295 | 50 => 177 | 5 => 5 | 9 => 9 | 66 => 333 | 70 => 337 | 76 => 357 | 77 => 358 | n => n, fun | n => n⟩
theorem Tryz.sort170 : Go.Proofs.SlLaysF0.n6 Tryz.prog Tryz.sort170_ren := {
  mixed := by kernel_rfl
  f6 := ⟨Tryz.f170.name, by decide, Tryz.func170.trans (congrArg some (by kernel_rfl))⟩
  f14 := ⟨Tryz.f206.name, by decide, Tryz.func206.trans (congrArg some (by kernel_rfl))⟩
  f15 := Tryz.func185.trans (congrArg some (by kernel_rfl))
  f20 := ⟨Tryz.f245.name, by decide, Tryz.func245.trans (congrArg some (by kernel_rfl))⟩
  f21 := ⟨Tryz.f246.name, by decide, Tryz.func246.trans (congrArg some (by kernel_rfl))⟩
  f22 := ⟨Tryz.f247.name, by decide, Tryz.func247.trans (congrArg some (by kernel_rfl))⟩
  f23 := ⟨Tryz.f248.name, by decide, Tryz.func248.trans (congrArg some (by kernel_rfl))⟩
  f24 := ⟨Tryz.f249.name, by decide, Tryz.func249.trans (congrArg some (by kernel_rfl))⟩
  f25 := ⟨Tryz.f250.name, by decide, Tryz.func250.trans (congrArg some (by kernel_rfl))⟩
  f26 := ⟨Tryz.f251.name, by decide, Tryz.func251.trans (congrArg some (by kernel_rfl))⟩
  f27 := ⟨Tryz.f252.name, by decide, Tryz.func252.trans (congrArg some (by kernel_rfl))⟩
  f28 := Tryz.func224.trans (congrArg some (by kernel_rfl))
  f29 := Tryz.func225.trans (congrArg some (by kernel_rfl))
  f46 := ⟨Tryz.f278.name, by decide, Tryz.func278.trans (congrArg some (by kernel_rfl))⟩
  f47 := Tryz.func260.trans (congrArg some (by kernel_rfl))
  f48 := Tryz.func261.trans (congrArg some (by kernel_rfl))
  f49 := ⟨Tryz.f279.name, by decide, Tryz.func279.trans (congrArg some (by kernel_rfl))⟩
  f50 := ⟨Tryz.f280.name, by decide, Tryz.func280.trans (congrArg some (by kernel_rfl))⟩
  f57 := ⟨Tryz.f298.name, by decide, Tryz.func298.trans (congrArg some (by kernel_rfl))⟩
  t0 := Tryz.underlying0
  a0 := Tryz.isAgg0
  z0 := Tryz.sizeOf0
  v0 := Tryz.zeroValue0
  t3 := Tryz.underlying3
  a3 := Tryz.isAgg3
  z3 := Tryz.sizeOf3
  v3 := Tryz.zeroValue3
  t4 := Tryz.underlying4
  a4 := Tryz.isAgg4
  z4 := Tryz.sizeOf4
  v4 := Tryz.zeroValue4
  t5 := Tryz.underlying5
  a5 := Tryz.isAgg5
  z5 := Tryz.sizeOf5
  v5 := Tryz.zeroValue5
  t9 := Tryz.underlying9
  a9 := Tryz.isAgg9
  z9 := Tryz.sizeOf9
  v9 := Tryz.zeroValue9
  t22 := Tryz.underlying22
  a22 := Tryz.isAgg22
  z22 := Tryz.sizeOf22
  v22 := Tryz.zeroValue22
  t25 := Tryz.underlying190
  a25 := Tryz.isAgg190
  z25 := Tryz.sizeOf190
  v25 := Tryz.zeroValue190
  t39 := Tryz.underlying262
  a39 := Tryz.isAgg262
  z39 := Tryz.sizeOf262
  v39 := Tryz.zeroValue262
  t45 := Tryz.underlying295
  a45 := Tryz.isAgg295
  z45 := Tryz.sizeOf295
  v45 := Tryz.zeroValue295
  t46 := Tryz.underlying296
  a46 := Tryz.isAgg296
  z46 := Tryz.sizeOf296
  v46 := Tryz.zeroValue296
  t50 := Tryz.underlying177
  a50 := Tryz.isAgg177
  z50 := Tryz.sizeOf177
  v50 := Tryz.zeroValue177
  t53 := Tryz.underlying302
  a53 := Tryz.isAgg302
  z53 := Tryz.sizeOf302
  v53 := Tryz.zeroValue302
  t55 := Tryz.underlying304
  a55 := Tryz.isAgg304
  z55 := Tryz.sizeOf304
  v55 := Tryz.zeroValue304
  t66 := Tryz.underlying333
  a66 := Tryz.isAgg333
  z66 := Tryz.sizeOf333
  v66 := Tryz.zeroValue333
  t70 := Tryz.underlying337
  a70 := Tryz.isAgg337
  z70 := Tryz.sizeOf337
  v70 := Tryz.zeroValue337
  t76 := Tryz.underlying357
  a76 := Tryz.isAgg357
  z76 := Tryz.sizeOf357
  v76 := Tryz.zeroValue357
  t77 := Tryz.underlying358
  a77 := Tryz.isAgg358
  z77 := Tryz.sizeOf358
  v77 := Tryz.zeroValue358 }
end Go.Proofs
namespace Go.Proofs.YtcajifelbldjnaaGreatDoor
open Go.RowKit
theorem grown_of_below {W w' : World} (h : bw W w') (hd : W.drawn ≤ w'.drawn) : ∃ q os, w' = Go.Sort.grow (W.drewN q) os := by
 refine ⟨w'.drawn - W.drawn, w'.heap.extract W.heap.size w'.heap.size, ?_⟩;obtain ⟨h1, h2, h3, h4, h5⟩ := h;obtain ⟨heap, tape, drawn, os, output⟩ := w';simp only at h1 h2 h3 h4 h5 hd ⊢;subst h1 h2 h3;simp only [Go.Sort.grow, World.drewN]
 congr 1
 ·apply Array.ext_getElem?
  intro i;rw [Array.getElem?_append]
  split
  ·rename_i hi; exact h5 i hi
  ·rename_i hi
   rw [Array.getElem?_extract]
   split
   ·congr 1; omega
   ·rw [Array.getElem?_eq_none (by omega)]
 ·omega
def cmpW (x y : Wh) : Int := cmpP x.1 y.1
theorem ltW (x y : Wh) : ltOf cmpW x y = pltB x.1 y.1 := cmpP_lt x.1 y.1
theorem plt_irr (p : Plc) : pltB p p = false := by
 cases h : pltB p p
 ·rfl
 ·exact absurd rfl (plt_ne h)
theorem plt_nn {p q r : Plc} (h1 : pltB p q = false) (h2 : pltB q r = false) : pltB p r = false := by
 rw [← Bool.not_eq_true, plt_iff] at *;omega
theorem swoW : Go.Sort.SWO (ltOf cmpW) where
 irrefl x := by rw [ltW]; exact plt_irr _
 trans x y z h1 h2 := by rw [ltW] at *; exact plt_trans h1 h2
 ntrans x y z h1 h2 := by rw [ltW] at *; exact plt_nn h1 h2
theorem grown_sortWorld {w : World} {g n : Nat} {d : Array Wh} {os : Array Obj} : w.grownBy (sortWorldK encW.enc 4 w g 0 n d os) (some g) := by
 refine ⟨rfl, rfl, rfl, ?_, fun k hk hne => ?_⟩
 ·simp [sortWorldK, Go.Sort.grow, Go.Sort.putRowK, Go.Sort.putRow, Go.Sort.mapBlock, Go.Sort.ahead]
 ·have hne' : g ≠ k := fun e => hne (by rw [e])
  simp only [sortWorldK, Go.Sort.grow, Go.Sort.putRowK, Go.Sort.putRow, Go.Sort.mapBlock, Go.Sort.ahead];rw [Array.getElem?_append_left (by simp; omega), Array.getElem?_modify, if_neg hne']
theorem en117 : ∀ args w, (callFunc 117 args).run Tryz.prog w = .ok (.enter 117 args) w := enters_of Tryz.func117 (by kernel_rfl) rfl
theorem sortW_any (base : Nat) (v : Value) (l : List Wh) (w : World) (h : OwnR encW w base v l) (hl : l.length ≤ 4608) :
  Calls Tryz.prog 116 #[v, .func (.func 117) #[] #[]] w fun e w' => e = .returned (.tuple #[]) ∧ (∃ l' ao cap, l'.Perm l ∧ l'.Pairwise (fun x y => pltB y.1 x.1 = false) ∧ v = .slice ao l'.length cap ∧ RdR encW w' ao l') ∧ w.grownBy w' v.ownBlock := by
 by_cases h0 : l = []
 ·subst h0
  obtain ⟨ao, cap, rfl⟩ := h.shape;have := AnyF.slices_SortFunc_none { Tryz.sort116 with } ao cap (.func (.func 117) #[] #[]) w;refine Calls.mono (show Calls Tryz.prog 116 #[.slice ao 0 cap, .func (.func 117) #[] #[]] w _ from this) ?_;rintro e w' ⟨rfl, rfl⟩;exact ⟨rfl, ⟨[], ao, cap, List.Perm.refl _, List.Pairwise.nil, rfl, .inl rfl⟩, World.grownBy.refl _ _⟩
 ·have h' := h
  rcases h.2 with ⟨h1, h2⟩ | ⟨g, cap, cur, rfl, hb, hg, hn, hm, hs, ht⟩
  ·exact absurd (List.eq_nil_of_length_eq_zero h2) h0
  have hlt : g < w.heap.size := (Array.getElem?_eq_some_iff.1 hg).1
  have hH : Go.Sort.HoldsK encW.enc 4 w g 0 l.toArray := by
   intro j hj;rw [Go.Sort.size_flatK] at hj;have hj2 : j < l.length * 4 := by simpa using hj
   rw [Go.Sort.get_flatK _ _ _ _ hj, Nat.zero_add];refine ⟨?_, World.ownsRow.frozenAt h' j⟩;rw [World.ownsRow.cellAt h' j (by omega)];have := cells_at goodW (ps := l) (k := j / 4) (j := j % 4) (by omega) (by show j % 4 < 4; omega);rw [show j / 4 * encW.sz + j % 4 = j from (by show j / 4 * 4 + j % 4 = j; omega)] at this;rw [this];have e : (l.toArray[j / 4]!) = l[j / 4]'(by omega) := by rw [getElem!_pos _ _ (by simp; omega)]; simp
   rw [e];generalize l[j / 4]'(by omega) = x
   rcases (show j % 4 = 0 ∨ j % 4 = 1 ∨ j % 4 = 2 ∨ j % 4 = 3 by omega) with e | e | e | e <;> rw [e] <;> rfl
  have := AnyQ.slices_SortFunc Tryz.sort116 4 Tryz.isAgg205 Tryz.sizeOf205 encW.enc (fun _ => rfl) goodW.one cmpW swoW 117 #[] g 0 cap l.toArray w en117 (fun _ _ _ _ x y => (byPlace_any x y _).mono fun _ _ ⟨h1, h2, h3⟩ => ⟨h1, grown_of_below h2 h3⟩) hH hlt (by simp; omega);refine Calls.mono (show Calls Tryz.prog 116 #[.slice (some ⟨g, 0, none⟩) l.length cap, .func (.func 117) #[] #[]] w _ from this) ?_;rintro e w' ⟨rfl, d', n, os, hp, hsd, rfl⟩;obtain ⟨hp1, _, hp3⟩ := hp
  have hp4 : d'.toList.Perm l := by
   have e1 : (d'.extract 0 l.toArray.size) = d' := by rw [← hp1]; simp
   have e2 : (l.toArray.extract 0 l.toArray.size) = l.toArray := by simp
   rw [e1, e2] at hp3;exact hp3
  have hlen : d'.toList.length = l.length := hp4.length_eq;refine ⟨rfl, ⟨d'.toList, _, cap, hp4, ?_, by rw [hlen], ?_⟩, grown_sortWorld⟩
  ·rw [List.pairwise_iff_getElem]
   intro i j hi hj hij;have := hsd i j (Nat.zero_le _) hij (by rw [← hp1]; simpa using hj);rw [ltW, getElem!_pos _ _ (by simpa using hj), getElem!_pos _ _ (by simpa using hi)] at this
   simpa using this
  ·have hH2 := holdsK_sortWorldK_c encW.enc 4 w g 0 l.toArray d' n os hH hlt (by simpa using hp1)
   refine .inr ⟨g, 0, rfl, Nat.lt_of_lt_of_le hlt (grown_sortWorld (d := d')).size, fun k hk j hj => ?_⟩;have hj4 : j < 4 := hj;have hk2 : k < d'.size := by simpa using hk
   have c0 := (hH2.cell (i := k) (c := j) hk2 hj4).1;have e : d'[k]! = d'.toList[k]'hk := by rw [getElem!_pos d' k hk2]; simp
   rw [e] at c0;show (sortWorldK encW.enc 4 w g 0 n d' os).cell? ⟨g, 0 + k * 4 + j, none⟩ = _;rw [c0]
   rcases (show j = 0 ∨ j = 1 ∨ j = 2 ∨ j = 3 by omega) with rfl | rfl | rfl | rfl <;> rfl
end Go.Proofs.YtcajifelbldjnaaGreatDoor
namespace Go.Proofs.YtcajifelbldjnaaGreatDoor
open Go.RowKit Go.Maps
structure ButL (bs : List Nat) (w w1 : World) : Prop where
 os : w1.os = w.os
 tape : w1.tape = w.tape
 output : w1.output = w.output
 size : w.heap.size ≤ w1.heap.size
 block : ∀ k, k < w.heap.size → k ∉ bs → w1.heap[k]? = w.heap[k]?
def Fla (bs : List Nat) (w : World) (ao : Option Addr) (ps : List F.Pc) : Prop := F.Fl w ao ps ∧ (ps = [] ∨ ∀ a, ao = some a → a.block ∉ bs ∧ bs.headD 0 ≤ a.block)
theorem Fla.but {bs : List Nat} {w w1 : World} {ao : Option Addr} {ps : List F.Pc} (h : Fla bs w ao ps) (hb : ButL bs w w1) : Fla bs w1 ao ps := by
 obtain ⟨⟨h0, h1⟩, h2⟩ := h;refine ⟨⟨h0, ?_⟩, h2⟩
 rcases h1 with h1 | ⟨g, off, e, hg, hc⟩
 ·exact .inl h1
 ·rcases h2 with h2 | h2
  ·exact .inl h2
  ·have hbl := hb.block g hg (h2 _ e).1
   exact .inr ⟨g, off, e, Nat.lt_of_lt_of_le hg hb.size, fun k hk => ⟨(World.cell?_of_block (w := w) hbl).trans (hc k hk).1, (World.cell?_of_block (w := w) hbl).trans (hc k hk).2⟩⟩
theorem Fla.more {bs bs' : List Nat} {w : World} {ao : Option Addr} {ps : List F.Pc} (h : Fla bs w ao ps) (hs : ∀ k, k < w.heap.size → k ∈ bs' → k ∈ bs) (hd : bs'.headD 0 ≤ bs.headD 0) : Fla bs' w ao ps := by
 obtain ⟨⟨h0, h1⟩, h2⟩ := h;refine ⟨⟨h0, h1⟩, ?_⟩
 rcases h2 with h2 | h2
 ·exact .inl h2
 ·rcases h1 with h1 | ⟨g, off, e, hg, hc⟩
  ·exact .inl h1
  ·refine .inr fun a ha => ?_
   rw [e] at ha;injection ha with ha;subst ha;exact ⟨fun hm => (h2 _ e).1 (hs _ hg hm), Nat.le_trans hd (h2 _ e).2⟩
theorem butL_below {bs : List Nat} {w w1 : World} (h : bw w w1) : ButL bs w w1 := ⟨h.os, h.tape, h.output, h.size, fun k hk _ => h.block k hk⟩
theorem butL_grown {bs : List Nat} {w w1 : World} {r : Option Nat} (h : w.grownBy w1 r) (hr : ∀ k, r = some k → k ∈ bs) : ButL bs w w1 := ⟨h.os, h.tape, h.output, h.size, fun k hk hn => h.block k hk (fun e => hn (hr k e.symm))⟩
theorem butL_set {bs : List Nat} (w : World) (b k : Nat) (v : Value) (hb : b ∈ bs) : ButL bs w (w.setCell ⟨b, k, none⟩ v) := ⟨rfl, rfl, rfl, by simp [World.setCell], fun i _ h1 => Below.heap_setCell w ⟨b, k, none⟩ v i (fun e => h1 (by simp only at e; rw [e]; exact hb))⟩
theorem fla_own {bs : List Nat} {w : World} {base : Nat} {v : Value} {ps : List F.Pc} (h : OwnR encC w base v ps) (hs : ∀ p ∈ ps, p.1.size ≤ maxLen) (hb : ∀ k ∈ bs, k < base) : ∃ ao cap, v = .slice ao ps.length cap ∧ Fla bs w ao ps := by
 obtain ⟨ao, cap, e, hf⟩ := fl_of h hs;refine ⟨ao, cap, e, hf, ?_⟩
 by_cases hn : ps = []
 ·exact .inl hn
 ·refine .inr fun a ha => ?_
  subst e;subst ha;have h1 := (World.ownsRow.lt h a.block rfl).1;refine ⟨fun hm => ?_, ?_⟩
  ·have := hb _ hm
   omega
  ·cases bs with
   | nil => exact Nat.zero_le _
   | cons k r =>
    have := hb k (List.mem_cons_self ..);simp only [List.headD_cons];omega
def Tk (wl acc : List Wh) (left : Lit → Bool) : Prop := (whp acc ++ whp (wl.filter fun x => left (klP x.1))).Perm (whp wl)
theorem filter_one {wl : List Wh} {left : Lit → Bool} {y : Wh} (ho : Once wl) (hw : ∀ x ∈ wl, Wf3 x.1) (hy : y ∈ wl) (hl : left (klP y.1) = true) :
  (wl.filter fun x => left (klP x.1)).Perm (y :: wl.filter fun x => left (klP x.1) && !(klP x.1).sameKey (klP y.1)) := by
 induction wl with
 | nil => cases hy
 | cons x r ih =>
  obtain ⟨h1, h2⟩ := List.pairwise_cons.1 ho;have hwr : ∀ z ∈ r, Wf3 z.1 := fun z hz => hw z (List.mem_cons_of_mem _ hz)
  rcases List.mem_cons.1 hy with rfl | hy
  ·have hs : (klP y.1).sameKey (klP y.1) = true := WideAt.sameKey_self (lawP.key (keyP_some (hw y (List.mem_cons_self ..))))
   have e : (r.filter fun x => left (klP x.1) && !(klP x.1).sameKey (klP y.1)) = r.filter fun x => left (klP x.1) := by
    refine List.filter_congr fun z hz => ?_;have : (klP z.1).sameKey (klP y.1) = false := sameKey_ne fun e => h1 z hz (klP_inj (hwr z hz) (hw y (List.mem_cons_self ..)) e).symm;rw [this]; simp
   rw [List.filter_cons, List.filter_cons, hl, hs, e];simp
  ·have hne : x.1 ≠ y.1 := h1 y hy
   have hs : (klP x.1).sameKey (klP y.1) = false := sameKey_ne fun e => hne (klP_inj (hw x (List.mem_cons_self ..)) (hwr y hy) e);have := ih h2 hwr hy;rw [List.filter_cons, List.filter_cons, hs]
   cases left (klP x.1)
   ·simpa using this
   ·simp only [Bool.not_false, Bool.and_true, if_true]
    exact (this.cons x).trans (List.Perm.swap ..)
theorem tk_step {wl acc : List Wh} {left : Lit → Bool} {y : Wh} (h : Tk wl acc left) (ho : Once wl) (hw : ∀ x ∈ wl, Wf3 x.1) (hy : y ∈ wl) (hl : left (klP y.1) = true) {z : Wh} (hz : (z.1, z.2.2.2) = (y.1, y.2.2.2)) :
  Tk wl (acc ++ [z]) (fun x => left x && !x.sameKey (klP y.1)) := by
 unfold Tk at h ⊢;refine List.Perm.trans ?_ h;have h1 := (filter_one ho hw hy hl).map fun x : Wh => (x.1, x.2.2.2);have e : whp (acc ++ [z]) = whp acc ++ [(y.1, y.2.2.2)] := by simp only [whp, List.map_append, List.map_cons, List.map_nil, hz]
 rw [e, List.append_assoc];exact List.Perm.append_left _ h1.symm
theorem tk_end {wl acc : List Wh} {left : Lit → Bool} (h : Tk wl acc left) (hl : ∀ k, left k = false) : (whp acc).Perm (whp wl) := by
 unfold Tk at h;have : (wl.filter fun x => left (klP x.1)) = [] := List.filter_eq_nil_iff.2 fun x _ => by rw [hl]; simp
 rw [this] at h
 simpa [whp] using h
theorem perm_rising {a b : Wls} (h : a.Perm b) (ha : a.Pairwise fun x y => pltB y.1 x.1 = false) (hb : Rising b) : a = b := by
 have hr : Rising a := by
  have hn : a.Pairwise fun x y => x.1 ≠ y.1 := (List.Perm.pairwise_iff (fun hxy => hxy.symm) h).2 (List.Pairwise.imp (fun hlt => plt_ne hlt) hb)
  exact List.Pairwise.imp₂ (fun x y h1 h2 => by
   rcases plt_total h2 with h3 | h3
   ·exact h3
   ·rw [h1] at h3; cases h3) ha hn
 exact List.Perm.eq_of_pairwise (fun x y _ _ h1 h2 => absurd h2 (by rw [plt_not h1]; decide)) hr hb h
theorem left_at {wl : List Wh} {D : DataW Value} (h : Reads D wl) {p : Plc} (hp : Wf3 p) (hh : has D (klP p) = true) : ∃ y ∈ wl, y.1 = p := by
 by_cases hn : ∃ y ∈ wl, y.1 = p
 ·exact hn
 ·have := h.none' p hp fun x hx e => hn ⟨x, hx, e⟩
  rw [this] at hh
  cases hh
theorem has_of {wl : List Wh} {D : DataW Value} (h : Reads D wl) {x : Wh} (hx : x ∈ wl) : has D (klP x.1) = true := has_true_of_atKey (h.at' x hx)
structure SmHi (n : Nat) (t : Sm) : Prop where
 row : t.wl = [] ∨ ∀ a, t.aoW = some a → n ≤ a.block
 fl : ∀ x ∈ t.wl, x.2.2.2 = [] ∨ ∀ a, x.2.1 = some a → n ≤ a.block
 held : t.held = [] ∨ ∀ a, t.aoH = some a → n ≤ a.block
 touched : t.touched = [] ∨ ∀ a, t.aoT = some a → n ≤ a.block
theorem apart_of {α : Type} {n b m : Nat} {ps : List α} {ao : Option Addr} (h : ps = [] ∨ ∀ a, ao = some a → n ≤ a.block) (hb : b < n) (hm : m < n) : ps = [] ∨ ∀ a, ao = some a → a.block ≠ b ∧ a.block ≠ m :=
 h.imp id fun h a ha => by have := h a ha; exact ⟨by omega, by omega⟩
theorem SmIn.but {n b m : Nat} {w w1 : World} {t : Sm} (h : SmIn w t) (hi : SmHi n t) (hbut : But b m w w1) (hb : b < n) (hm : m < n) : SmIn w1 t := by
 refine ⟨?_, (Flx.but ⟨h.held, apart_of hi.held hb hm⟩ hbut).1, (Txx.but ⟨h.touched, apart_of hi.touched hb hm⟩ hbut).1⟩
 rcases h.wells with e | ⟨g, off, e, hc⟩
 ·exact .inl e
 ·rcases hi.row with e2 | hr
  ·exact .inl e2
  ·have hg := hr _ e
   refine .inr ⟨g, off, e, fun k hk => ?_⟩;obtain ⟨h0, h1, h2, h3, h4, h5⟩ := hc k hk;have hbl := hbut.block g h0 (by simp only at hg; omega) (by simp only at hg; omega);exact ⟨Nat.lt_of_lt_of_le h0 hbut.size, (World.cell?_of_block (w := w) hbl).trans h1, (World.cell?_of_block (w := w) hbl).trans h2, (World.cell?_of_block (w := w) hbl).trans h3, (World.cell?_of_block (w := w) hbl).trans h4, (Flx.but ⟨h5, apart_of (hi.fl _ (List.getElem_mem hk)) hb hm⟩ hbut).1⟩
theorem flxR_of {b m : Nat} {w : World} {base : Nat} {v : Value} {ps : List F.Pc} (h : OwnR encC w base v ps) (hs : ∀ p ∈ ps, p.1.size ≤ maxLen) (hb : b < base) (hm : m < base) : ∃ ao cap, v = .slice ao ps.length cap ∧ Flx b m w ao ps := by
 obtain ⟨ao, cap, e, hf⟩ := fl_of h hs;refine ⟨ao, cap, e, hf, ?_⟩
 by_cases hn : ps = []
 ·exact .inl hn
 ·refine .inr fun a ha => ?_
  subst e;subst ha;have := (World.ownsRow.lt h a.block rfl).1;omega
theorem but_set' (b m : Nat) (w : World) (k : Nat) (v : Value) : But b m w (w.setCell ⟨m, k, none⟩ v) := ⟨rfl, rfl, rfl, by simp [World.setCell], fun i _ _ h1 => Below.heap_setCell w ⟨m, k, none⟩ v i h1⟩
theorem grown_set (w : World) (b k : Nat) (v : Value) : w.grownBy (w.setCell ⟨b, k, none⟩ v) (some b) := ⟨rfl, rfl, rfl, by simp [World.setCell], fun i _ h1 => Below.heap_setCell w ⟨b, k, none⟩ v i (fun e => h1 (by simp only at e; rw [e]))⟩
theorem Fla.row {bs bs' : List Nat} {w w1 : World} {ao : Option Addr} {ps : List F.Pc} (h : Fla bs w ao ps) (hb : ButL bs w w1) (hs : ∀ k, k < w.heap.size → k ∈ bs' → k ∈ bs) (hd : bs'.headD 0 ≤ bs.headD 0) : Fla bs' w1 ao ps := ⟨(h.but hb).1, (h.more hs hd).2⟩
theorem whs_of {w : World} {ao : Option Addr} {l : List Wh} (h : RdR encW w ao l) (hf : ∀ x ∈ l, F.Fl w x.2.1 x.2.2.2) : Whs w ao l := by
 rcases h with h | ⟨b, off, e, hlt, hc⟩
 ·exact .inl h
 ·refine .inr ⟨b, off, e, fun k hk => ⟨hlt, ?_, ?_, ?_, ?_, hf _ (List.getElem_mem hk)⟩⟩
  ·exact hc k hk 0 (by decide)
  ·exact hc k hk 1 (by decide)
  ·exact hc k hk 2 (by decide)
  ·exact hc k hk 3 (by decide)
theorem RdR.but {α : Type} {c : Enc α} {b m : Nat} {w w1 : World} {ao : Option Addr} {l : List α} (h : RdR c w ao l) (ha : ∀ a, ao = some a → a.block ≠ b ∧ a.block ≠ m) (hb : But b m w w1) : RdR c w1 ao l := by
 rcases h with h | ⟨g, off, e, hlt, hc⟩
 ·exact .inl h
 ·obtain ⟨n1, n2⟩ := ha _ e
  have hbl := hb.block g hlt n1 n2;exact .inr ⟨g, off, e, Nat.lt_of_lt_of_le hlt hb.size, fun k hk j hj => (World.cell?_of_block (w := w) hbl).trans (hc k hk j hj)⟩
theorem may_lens {l : List Sit} {s : Sta} (h : May l s) : s.held.length ≤ 100 ∧ s.touched.length ≤ 100 ∧ (∀ p ∈ s.held, p.1.size ≤ maxLen) := by
 cases ht : s.tip with
 | true =>
  obtain ⟨u1, u2, u3, u4⟩ := tip_parts h ht;have := (mayHold_iff.1 u3).1;exact ⟨(F.fref_in this).1, (mayTouch_iff.1 u4).1, F.fine_size this⟩
 | false =>
  have := h.take;unfold mayTake at this;rw [if_neg (by rw [ht]; decide)] at this;simp only [Bool.and_eq_true, decide_eq_true_eq] at this;rw [this.2.1, this.2.2];exact ⟨Nat.zero_le _, Nat.zero_le _, fun p hp => by cases hp⟩
abbrev z7 : List Value := [.slice none 0 0, .bool false, .slice none 0 0, .slice none 0 0, .int .i64 0, .int .i64 0, .int .i64 0]
abbrev s7 (v : Value) (s : Sta) (vh vt : Value) : List Value := [v, .bool s.tip, vh, vt, .int .i64 s.used, .int .i64 s.heat, .int .i64 s.clock]
abbrev avo (n r : Nat) (v : Value) : List Nat := [n, n + 1, r, v.ownBlock.getD n]
structure Ti (w wr : World) (r : Nat) (wl : List Wh) (D : DataW Value) (s : Sta) (vh vt : Value) (left : Lit → Bool) (acc : List Wh) (v : Value) : Prop where
 sub : ∀ kl, left kl = true → has D kl = true
 tk : Tk wl acc left
 own : OwnR encW wr (r + 1) v acc
 k0 : Bk w.heap.size z7 wr
 k1 : Bk (w.heap.size + 1) (s7 v s vh vt) wr
 fl : ∀ x ∈ acc, Fla (avo w.heap.size r v) wr x.2.1 x.2.2.2
 below : bw w wr
 lt : r < wr.heap.size
def FC (bs : List Nat) (ps : List F.Pc) (v : Value) (w : World) : Prop := ∃ ao cap, v = .slice ao ps.length cap ∧ Fla bs w ao ps
theorem FC.later {bs : List Nat} {ps : List F.Pc} {v : Value} {w w1 : World} (h : FC bs ps v w) (hb : bw w w1) : FC bs ps v w1 := by
 obtain ⟨ao, cap, e, hf⟩ := h;exact ⟨ao, cap, e, hf.but (butL_below hb)⟩
def FD (bs : List Nat) (p : Plc) (ps : List F.Pc) (v : Value) (w : World) : Prop := ∃ ao cap, v = .agg #[.int .i64 p.1, .int .i64 p.2.1, .int .i64 p.2.2, .slice ao ps.length cap] ∧ Fla bs w ao ps
theorem FD.later {bs : List Nat} {p : Plc} {ps : List F.Pc} {v : Value} {w w1 : World} (h : FD bs p ps v w) (hb : bw w w1) : FD bs p ps v w1 := by
 obtain ⟨ao, cap, e, hf⟩ := h;exact ⟨ao, cap, e, hf.but (butL_below hb)⟩
def FE (bs : List Nat) (p : Plc) (ps : List F.Pc) (v : Value) (w : World) : Prop := ∃ g ao cap, v = .slice (some ⟨g, 0, none⟩) 1 1 ∧ Bk g [.int .i64 p.1, .int .i64 p.2.1, .int .i64 p.2.2, .slice ao ps.length cap] w ∧ Fla bs w ao ps
theorem FE.later {bs : List Nat} {p : Plc} {ps : List F.Pc} {v : Value} {w w1 : World} (h : FE bs p ps v w) (hb : bw w w1) : FE bs p ps v w1 := by
 obtain ⟨g, ao, cap, e, hk, hf⟩ := h;exact ⟨g, ao, cap, e, hk.later hb, hf.but (butL_below hb)⟩
def tdV (S : Nat) (aoV : Option Addr) (nV capV : Nat) (y : Wh) (bs : List Nat) (d : Nat) (v : Value) (w : World) : Prop :=
 match d with
 | 21 => v = .pointer (some ⟨S, 0, none⟩)
 | 22 => v = .slice aoV nV capV
 | 23 => v = .agg #[.int .i64 y.1.1, .int .i64 y.1.2.1, .int .i64 y.1.2.2]
 | 24 => v = .slice y.2.1 y.2.2.2.length y.2.2.1
 | 25 => FC bs y.2.2.2 v w
 | 26 => FD bs y.1 y.2.2.2 v w
 | 27 => FE bs y.1 y.2.2.2 v w
 | _ => True
theorem tdV_mono (S : Nat) (aoV : Option Addr) (nV capV : Nat) (y : Wh) (bs : List Nat) (d : Nat) (v : Value) (w w' : World) (h : tdV S aoV nV capV y bs d v w) (hb : bw w w') : tdV S aoV nV capV y bs d v w' := by
 unfold tdV at h ⊢
 split <;> simp only [] at h <;> first | exact h | exact h.later hb
theorem told_any (wB w : World) (ao : Option Addr) (cap : Nat) (l : List Sit) (b m md : Nat) (s : Sta) (hB : Bn wB w ao cap l b m md s) :
  Calls Tryz.prog 56 #[ptr b] w fun e w' => ∃ t : Sm, e = .returned (smv t) ∧ t.st = s ∧ SmIn w' t ∧ SmHi w.heap.size t ∧ bw w w' := by
 have HBN := hdd hB;clear hB;obtain ⟨cw, aoH, capH, aoT, capT, K, hh, ht⟩ := HBN.out.bk;have KB : Hid (Bk b (bcs ao cap l md m cw s aoH capH aoT capT) w) := K;have HH : Hid (F.Fl w aoH s.held) := hh.1;have HT : Hid (Tx w aoT s.touched) := ht.1;have hbw := KB.out.1;obtain ⟨wl, hwm, hwl, hfl⟩ := HBN.out.wells;have HON := hdd (HBN.out.once hwl);have HLN : Hid (s.held.length ≤ 100 ∧ s.touched.length ≤ 100 ∧ (∀ p ∈ s.held, p.1.size ≤ maxLen)) := may_lens HBN.out.may;have HWL := hdd hwl;have HFL : Hid (∀ x ∈ wl, F.Fl w x.2.1 x.2.2.2 ∧ F.fref x.2.2.2 = 0) := fun x hx => ⟨(hfl x hx).1, (mayHold_iff.1 (HBN.out.may.wells (x.1, x.2.2.2) (by rw [← hwl]; exact List.mem_map.2 ⟨x, hx, rfl⟩)).2.2).1⟩;have HML : Hid (m < w.heap.size) := hwm.lt;obtain ⟨D, hown, hrd⟩ := hwm;have HRD := hdd hrd;obtain ⟨wA, hwA⟩ : ∃ wA, wA = (w.alloc (.cells z7.toArray 73)).alloc (.cells (s7 (.slice none 0 0) s (.slice aoH s.held.length capH) (.slice aoT s.touched.length capT)).toArray 73) := ⟨_, rfl⟩;have hbA : bw w wA := by rw [hwA]; exact ((brf).alloc (Nat.le_refl _) _).alloc (by simp) _
 have HOW : Hid (wA.ownsMap Tryz.prog 55 RV m (Maps.size D) D) := by
  obtain ⟨es, clock, h1, h2⟩ := hown;exact ⟨es, clock, (hbA.block m HML.out).trans h1, h2⟩
 have HKA : Hid (Bk w.heap.size z7 wA ∧ Bk (w.heap.size + 1) (s7 (.slice none 0 0) s (.slice aoH s.held.length capH) (.slice aoT s.touched.length capT)) wA) := by
  refine ⟨?_, ?_⟩
  ·rw [hwA]; exact (Bk.new w z7 73 w.heap.size rfl).later ((brf).alloc (Nat.le_refl _) _)
  ·rw [hwA]; exact Bk.new _ _ 73 (w.heap.size + 1) (by simp)
 have HAS : Hid (wA.heap.size = w.heap.size + 2) := by show _ = _; rw [hwA]; simp
 have HBA := hdd hbA;have HWA := hdd hwA;clear K hh ht hwl hfl hown hrd hwA hbA;obtain ⟨k0, k1, k2, k3, k4, k5, k6, k7, k8, k9, k10, k11⟩ := (KB.out).c12
 go_enter Tryz.func56, Tryz.ntmps56
 go_wp2_with (first
  | (at_range; rw [← HWA.out]; refine wpList_range_own _ rfl _ 201 rfl 55 70 lawP Tryz.underlying201 RV m (Maps.size D) D rfl HOW.out ?_; intro w0 hrg0 hg0 hs0)
  | go_in)
 go_frame
 have HTI : Hid (Ti w w0 wA.heap.size wl D s (.slice aoH s.held.length capH) (.slice aoT s.touched.length capT) (has D) [] (.slice none 0 0)) := by
  have hb0 : bw wA w0 := ⟨hg0.os, hg0.tape, hg0.output, hg0.size, fun k hk => hg0.block k hk (by simp)⟩;refine ⟨fun _ h => h, ?_, OwnR.nil _ _ _, HKA.out.1.later hb0, HKA.out.2.later hb0, (fun x hx => by cases hx), HBA.out.trans (hb0.mono HBA.out.size), by rw [hs0]; omega⟩;unfold Tk;have : (wl.filter fun x => has D (klP x.1)) = wl := List.filter_eq_self.2 fun x hx => has_of HRD.out hx;rw [this];exact List.Perm.refl _
 have HRG0 := hdd hrg0;clear hrg0 hg0 hs0 k0 k1 k2 k3 k4 k5 k6 k7 k8 k9 k10 k11
 go_loopw [16] (fun _ wr => ∃ (left : Lit → Bool) (cnt : Nat) (acc : List Wh) (v : Value), wr.ranges Tryz.prog 55 RV m wA.heap.size (Maps.size D) D left cnt ∧ Ti w wr wA.heap.size wl D s (.slice aoH s.held.length capH) (.slice aoT s.touched.length capT) left acc v) (fun _ wr => wr.rangeLeft m wA.heap.size)
 case atStart => exact ⟨_, _, _, _, HRG0.out, HTI.out⟩
 case round =>
  obtain ⟨left, cnt, acc, v, hrg, hti⟩ := hrel;have HI := hdd hti;have HRG := hdd hrg;obtain ⟨aoV, capV, hvv⟩ := hti.own.shape;subst hvv;clear hti
  go_wp2_with (first
   | (at_next; refine wpList_next_ranges _ rfl _ rfl 55 lawP RV plv (fun v : Value => v) (fun key kl h => by obtain ⟨p, hp, _⟩ := keyP_inv h; exact ⟨p, hp⟩) (fun v _ _ => ⟨v, rfl⟩) m wA.heap.size (Maps.size D) D left cnt rfl HRG.out ?_ ?_)
   | go_in)
  ·intro _ hl0
   clear hrg;have HPE : Hid ((whp acc).Perm (whp wl)) := tk_end HI.out.tk hl0
   have hln : acc.length ≤ 4608 := by
    have := HPE.out.length_eq;rw [whp_length, whp_length] at this;have := HON.out.2;omega
   have HO := hdd (HI.out.own);have K1 := hdd (HI.out.k1);clear hl0;obtain ⟨q0, q1, q2, q3, q4, q5, q6⟩ := (K1.out).c7
   go_wp2_with fail
   refine (sortW_any (wA.heap.size + 1) _ acc wr HO.out hln).mono ?_;rintro e w2 ⟨rfl, ⟨l', ao2, cap2, hp, hs, hv, hrd⟩, hg⟩;injection hv with hv1 hv2 hv3;subst hv1 hv3;have hrow : ∀ k, (Value.slice aoV acc.length capV).ownBlock = some k → wA.heap.size + 1 ≤ k := fun k hk => (World.ownsRow.lt HO.out k hk).1;have h12 : w.heap.size + 2 = wA.heap.size := HAS.out.symm;have KR2 : Hid (Bk w.heap.size z7 w2) := HI.out.k0.same hg.size (hg.block _ HI.out.k0.1 (fun e => by have := hrow _ e.symm; omega));have K2 : Hid (Bk (w.heap.size + 1) (s7 (.slice aoV acc.length capV) s (.slice aoH s.held.length capH) (.slice aoT s.touched.length capT)) w2) := K1.out.same hg.size (hg.block _ K1.out.1 (fun e => by have := hrow _ e.symm; omega));have HB2 : Hid (bw w w2) := HI.out.below.grown hg HI.out.below.size (fun k hk => by have := hrow k hk; omega)
   have HF2 : Hid (∀ x ∈ l', Flx w.heap.size (w.heap.size + 1) w2 x.2.1 x.2.2.2) := fun x hx => by
    have h1 := (HI.out.fl x (hp.mem_iff.1 hx)).but (butL_grown hg (fun k hk => by show k ∈ [_, _, _, Option.getD _ _]; rw [hk]; simp));exact ⟨h1.1, h1.2.imp id fun h a ha => ⟨fun e => (h a ha).1 (by rw [e]; simp), fun e => (h a ha).1 (by rw [e]; simp)⟩⟩
   have HHI : Hid (∀ x ∈ l', x.2.2.2 = [] ∨ ∀ a, x.2.1 = some a → w.heap.size ≤ a.block) := fun x hx => (HI.out.fl x (hp.mem_iff.1 hx)).2.imp id fun h a ha => (h a ha).2;have HR2 := hdd hrd
   have HAP : Hid (∀ a, aoV = some a → a.block ≠ w.heap.size ∧ a.block ≠ w.heap.size + 1) := fun a ha => by
    have := hrow a.block (by rw [ha]; rfl);exact ⟨by omega, by omega⟩
   have HAW : Hid (∀ a, aoV = some a → w.heap.size ≤ a.block) := fun a ha => by
    have := hrow a.block (by rw [ha]; rfl);omega
   have HLL := hdd hv2
   have HST : Hid (whp l' = s.wells) := by
    show _ = _;rw [← HWL.out];refine perm_rising ((hp.map _).trans HPE.out) ?_ (by rw [HWL.out]; exact HBN.out.may.rising);unfold whp;rw [List.pairwise_map];exact hs
   clear hp hs hv2 hrd hg hrow h12 q0 q1 q2 q3 q4 q5 q6;obtain ⟨q0, q1, q2, q3, q4, q5, q6⟩ := (K2.out).c7
   go_wp2_with fail
   refine (cloneC_any aoH capH s.held w2 (rd_fl (HH.out.next HB2.out)) (by have := HLN.out.1; omega)).mono ?_;rintro e w3 ⟨_, rfl, ho, hb⟩;obtain ⟨aoH2, capH2, rfl, hh2⟩ := flxR_of (b := w.heap.size) (m := w.heap.size + 1) ho HLN.out.2.2 KR2.out.1 K2.out.1
   have HHH : Hid (s.held = [] ∨ ∀ a, aoH2 = some a → w.heap.size ≤ a.block) := .inr fun a ha => by
    have h1 := (World.ownsRow.lt ho a.block (by rw [ha]; rfl)).1;have h2 := HB2.out.size;omega
   obtain ⟨w4, hw4⟩ : ∃ w4, w4 = w3.setCell ⟨w.heap.size + 1, 2, none⟩ (.slice aoH2 s.held.length capH2) := ⟨_, rfl⟩;have hbu : But w.heap.size (w.heap.size + 1) w2 w4 := by rw [hw4]; exact (but_below hb).trans ⟨rfl, rfl, rfl, by simp [World.setCell], fun i _ _ h1 => Below.heap_setCell w3 ⟨w.heap.size + 1, 2, none⟩ _ i h1⟩
   have hbu3 : But w.heap.size (w.heap.size + 1) w3 w4 := by rw [hw4]; exact ⟨rfl, rfl, rfl, by simp [World.setCell], fun i _ _ h1 => Below.heap_setCell w3 ⟨w.heap.size + 1, 2, none⟩ _ i h1⟩
   have HH4 : Hid (Flx w.heap.size (w.heap.size + 1) w4 aoH2 s.held) := hh2.but hbu3;have KR4 : Hid (Bk w.heap.size z7 w4) := by show Bk _ _ _; rw [hw4]; exact (KR2.out.later hb).other (by omega) 2 _
   have K4 : Hid (Bk (w.heap.size + 1) (s7 (.slice aoV acc.length capV) s (.slice aoH2 s.held.length capH2) (.slice aoT s.touched.length capT)) w4) := by show Bk _ _ _; rw [hw4]; exact (K2.out.later hb).put 2 _
   have K3 := hdd (K2.out.later hb);have HB4 : Hid (bw w w4) := by show Below _ _ _; rw [hw4]; exact (HB2.out.trans (hb.mono HB2.out.size)).setCell (by simp) _
   have HF4 : Hid (∀ x ∈ l', Flx w.heap.size (w.heap.size + 1) w4 x.2.1 x.2.2.2) := fun x hx => (HF2.out x hx).but hbu;have HR4 := hdd (HR2.out.but HAP.out hbu);have HW4 := hdd hw4;clear ho hb hh2 hbu hbu3 hw4 q0 q1 q2 q3 q4 q5 q6;have lt3 := K3.out.1;obtain ⟨q0, q1, q2, q3, q4, q5, q6⟩ := (K3.out).c7;obtain ⟨qf0, qf1, qf2, qf3, qf4, qf5, qf6⟩ := (K3.out).f7
   go_wp2_with fail
   clear q0 q1 q2 q3 q4 q5 q6 qf0 qf1 qf2 qf3 qf4 qf5 qf6;rw [← HW4.out];refine (cloneT_any aoT capT s.touched w4 (rd_tx (HT.out.next HB4.out)) (by have := HLN.out.2.1; omega)).mono ?_;rintro e w5 ⟨_, rfl, ho, hb⟩;obtain ⟨aoT2, capT2, rfl, ht2⟩ := txx_of (b := w.heap.size) (m := w.heap.size + 1) ho HT.out.1 KR4.out.1 K4.out.1
   have HHT : Hid (s.touched = [] ∨ ∀ a, aoT2 = some a → w.heap.size ≤ a.block) := .inr fun a ha => by
    have h1 := (World.ownsRow.lt ho a.block (by rw [ha]; rfl)).1;have h2 := HB4.out.size;omega
   have HT5 := hdd ht2;have HH5 := hdd (HH4.out.next hb);have KR5 := hdd (KR4.out.later hb);have K5 := hdd (K4.out.later hb);have HB5 := hdd (HB4.out.trans (hb.mono HB4.out.size));have HF5 : Hid (∀ x ∈ l', Flx w.heap.size (w.heap.size + 1) w5 x.2.1 x.2.2.2) := fun x hx => (HF4.out x hx).next hb;have HR5 := hdd (HR4.out.next goodW hb);clear ho hb ht2;have lt5 := K5.out.1;have lt6 := KR5.out.1;have ne1 : w.heap.size ≠ w.heap.size + 1 := by omega
   have ne2 : w.heap.size + 1 ≠ w.heap.size := by omega
   obtain ⟨q0, q1, q2, q3, q4, q5, q6⟩ := (K5.out).c7;obtain ⟨qf0, qf1, qf2, qf3, qf4, qf5, qf6⟩ := (K5.out).f7;obtain ⟨p0, p1, p2, p3, p4, p5, p6⟩ := (KR5.out).c7;obtain ⟨pf0, pf1, pf2, pf3, pf4, pf5, pf6⟩ := (KR5.out).f7;go_wp2
   have hch : But w.heap.size (w.heap.size + 1) w5 ((((((((w5.setCell ⟨w.heap.size + 1, 3, none⟩ (.slice aoT2 s.touched.length capT2)).setCell ⟨w.heap.size, 0, none⟩ (.slice aoV acc.length capV)).setCell ⟨w.heap.size, 1, none⟩ (.bool s.tip)).setCell ⟨w.heap.size, 2, none⟩ (.slice aoH2 s.held.length capH2)).setCell ⟨w.heap.size, 3, none⟩ (.slice aoT2 s.touched.length capT2)).setCell ⟨w.heap.size, 4, none⟩ (.int .i64 s.used)).setCell ⟨w.heap.size, 5, none⟩ (.int .i64 s.heat)).setCell ⟨w.heap.size, 6, none⟩ (.int .i64 s.clock)) :=
    (((((((but_set' _ _ w5 3 _).trans (but_set _ _ _ 0 _)).trans (but_set _ _ _ 1 _)).trans (but_set _ _ _ 2 _)).trans (but_set _ _ _ 3 _)).trans (but_set _ _ _ 4 _)).trans (but_set _ _ _ 5 _)).trans (but_set _ _ _ 6 _)
   refine bodyPost_ret (v := .agg #[.slice aoV acc.length capV, .bool s.tip, .slice aoH2 s.held.length capH2, .slice aoT2 s.touched.length capT2, .int .i64 s.used, .int .i64 s.heat, .int .i64 s.clock]) (by simp [results, Tryz.results56, go_sem, p0, p1, p2, p3, p4, p5, p6]) rfl ⟨⟨aoV, capV, l', s.tip, aoH2, capH2, s.held, aoT2, capT2, s.touched, s.used, s.heat, s.clock⟩, ?_, ?_, ?_, ?_, ?_⟩
   ·simp only [smv, smc]
    rw [HLL.out]
   ·unfold Sm.st
    simp only;rw [HST.out]
   ·exact ⟨whs_of (HR5.out.but HAP.out hch) fun x hx => ((HF5.out x hx).but hch).1, (HH5.out.but hch).1, (HT5.out.but hch).1⟩
   ·exact ⟨.inr HAW.out, HHI.out, HHH.out, HHT.out⟩
   ·exact (((((((HB5.out.setCell (by simp) _).setCell (by simp) _).setCell (by simp) _).setCell (by simp) _).setCell (by simp) _).setCell (by simp) _).setCell (by simp) _).setCell (by simp) _
  ·intro x1 x2 x3 c kl yd yp w1 cnt1 hkey hlk hv hat hrg1 hlt hg1 hs1 hen
   obtain ⟨x', hxx, hwf⟩ := keyP_inv (v := plv (x1, x2, x3)) hkey
   obtain rfl : (x1, x2, x3) = x' := by
    simp only [plv] at hxx;injection hxx with hxx;simp at hxx;obtain ⟨a1, a2, a3⟩ := hxx;exact Prod.ext a1 (Prod.ext a2 a3)
   obtain rfl : klP (x1, x2, x3) = kl := by
    have := keyP_some hwf;rw [show keyOf Tryz.prog 55 (plv (x1, x2, x3)) = some kl from hkey] at this;injection this with this;exact this.symm
   obtain ⟨y, hy, hyx⟩ := left_at HRD.out hwf (HI.out.sub _ hlk);obtain ⟨rfl, rfl, rfl⟩ : x1 = y.1.1 ∧ x2 = y.1.2.1 ∧ x3 = y.1.2.2 := by rw [hyx]; exact ⟨rfl, rfl, rfl⟩
   clear hyx
   obtain rfl : c = hdv y.2 := by
    have h1 := HRD.out.at' y hy .nil;have h2 := hat .nil;rw [show D.atKey (klP y.1) .nil = yd from h2] at h1;simp only [RV, Option.some.injEq, Prod.mk.injEq] at hv;rw [← hv.1] at h1;injection h1
   have HEN := hdd hen;have hit : wA.heap.size < wr.heap.size := HI.out.lt;have h12 : w.heap.size + 2 = wA.heap.size := HAS.out.symm;have hrow : ∀ k, (Value.slice aoV acc.length capV).ownBlock = some k → wA.heap.size + 1 ≤ k ∧ k < wr.heap.size := fun k hk => World.ownsRow.lt HI.out.own k hk;have hbu1 : ButL (avo w.heap.size wA.heap.size (.slice aoV acc.length capV)) wr w1 := butL_grown hg1 (fun k hk => by injection hk with hk; rw [← hk]; simp);have HO1 : Hid (OwnR encW w1 (wA.heap.size + 1) (.slice aoV acc.length capV) acc) := HI.out.own.kept hg1 (.inr fun e => by have := hrow _ e; omega);have KR1 := hdd (HI.out.k0.same hg1.size (hg1.block _ HI.out.k0.1 (by simp; omega)));have KS1 := hdd (HI.out.k1.same hg1.size (hg1.block _ HI.out.k1.1 (by simp; omega)));have HF1 : Hid (∀ x ∈ acc, Fla (avo w.heap.size wA.heap.size (.slice aoV acc.length capV)) w1 x.2.1 x.2.2.2) := fun x hx => (HI.out.fl x hx).but hbu1;have HB1 : Hid (bw w w1) := HI.out.below.grown hg1 HI.out.below.size (fun k hk => by injection hk with hk; omega);have HTS : Hid (∀ z : Wh, (z.1, z.2.2.2) = (y.1, y.2.2.2) → Tk wl (acc ++ [z]) (fun x => left x && !x.sameKey (klP y.1))) := fun z hz => tk_step HI.out.tk HON.out.1 HRD.out.wf hy hlk hz;have HSU : Hid (∀ kl, (left kl && !kl.sameKey (klP y.1)) = true → has D kl = true) := fun kl h => HI.out.sub kl (by simp at h; exact h.1);have HRG1 := hdd hrg1;have HLT := hdd hlt
   have hac : acc.length ≤ 4608 := by
    have := HI.out.tk.length_eq;rw [List.length_append, whp_length, whp_length, whp_length] at this;have := HON.out.2;omega
   have HFY := hdd (HFL.out y hy);have HIS : Hid (wA.heap.size < w1.heap.size) := by show _ < _; rw [hs1]; exact hit
   have HRO : Hid (∀ k, (Value.slice aoV acc.length capV).ownBlock = some k → wA.heap.size + 1 ≤ k) := fun k hk => (hrow k hk).1;clear hkey hlk hv hat hrg1 hlt hg1 hs1 hen hxx hwf hy hrow hbu1 hrg hit;have hen := HEN;unfold Hid at hen;obtain ⟨w2, hw2⟩ : ∃ w2, w2 = w1.alloc (pobj y.1) := ⟨_, rfl⟩;have b2 : bw w1 w2 := by rw [hw2]; exact (brf).alloc (Nat.le_refl _) _
   have KP : Hid (Bk w1.heap.size (pcl y.1) w2) := by show Bk _ _ _; rw [hw2]; exact Bk.new w1 (pcl y.1) 55 w1.heap.size rfl
   have KS2 := hdd (KS1.out.later b2);have HB2 : Hid (bw w1 w2) := b2;have HW2 := hdd hw2
   have HCL : Hid (∀ W, bw w2 W → Calls Tryz.prog 115 #[.slice y.2.1 y.2.2.2.length y.2.2.1] W fun e w' => ∃ v, e = .returned v ∧ FC (avo w.heap.size wA.heap.size (.slice aoV acc.length capV)) y.2.2.2 v w' ∧ bw W w') := fun W hW => by
    have hw : bw w W := (HB1.out.trans (HB2.out.mono HB1.out.size)).trans (hW.mono (Nat.le_trans HB1.out.size HB2.out.size));refine (cloneC_any y.2.1 y.2.2.1 y.2.2.2 W (rd_fl (HFY.out.1.next hw)) (by have := (F.fref_in HFY.out.2).1; omega)).mono ?_;rintro e w' ⟨v, rfl, ho, hb⟩;refine ⟨v, rfl, fla_own ho (F.fine_size HFY.out.2) ?_, hb⟩;intro k hk;have h1 := HIS.out;have h2 := HB2.out.size;have h3 := hW.size;have h4 := KS1.out.1;simp only [avo, List.mem_cons, List.not_mem_nil, or_false] at hk
    rcases hk with rfl | rfl | rfl | rfl
    ·omega
    ·omega
    ·omega
    ·cases e : (Value.slice aoV acc.length capV).ownBlock with
     | none => simp only [Option.getD_none]; omega
     | some g => simp only [Option.getD_some]; have := (World.ownsRow.lt HO1.out g e).2; omega
   clear b2 hw2;generalize hn : acc.length = nV at *;have HN := hdd hn;clear hn
   go_wp2_with fail
   rw [← HW2.out]
   refine region_seq 7 [zf,zf,zf,zf,zf,zf,zf,zf,zf,zf,zf,zf,zf,zf,zf,zf,zf,zf,zf,zf,zf,zt,zt,zt,zt,zt,zt,zt,zf,zf,zf,zf,zf,zf,zf,zf,zf,zf,zf,zf,zf,zf]
    [(21, [], none), (22, [21], none), (23, [], none), (24, [], none), (25, [24], none), (26, [23, 25], none), (27, [26], none)]
    (tdV (w.heap.size + 1) aoV nV capV y (avo w.heap.size wA.heap.size (.slice aoV nV capV))) (by kernel_rfl) (by kernel_rfl) (by kernel_rfl) (by kernel_rfl) (by kernel_rfl) (by decide) (tdV_mono (w.heap.size + 1) aoV nV capV y (avo w.heap.size wA.heap.size (.slice aoV nV capV))) ?_ ?_
   ·refine ⟨?_, ?_, ?_, ?_, ?_, ?_, ?_, trivial⟩
    any_goals first | (intro f w1 hb _ K hK; simp only [ov, oL]; go_simp; exact hK _ _ ⟨_, rfl, by simp only [ov, oL]; rfl, brf⟩) | fail
    ·rintro f wA hb ⟨(h21 : f 21 = _), _⟩ K hK
     have q0 := (KS2.out.later hb).c 0 rfl;simp only [ov, oL, h21];go_simp;exact hK _ _ ⟨_, rfl, by simp only [ov, oL, h21]; rfl, brf⟩
    ·intro f wA hb _ K hK
     have q0 := (KP.out.later hb).c 0 rfl;have q1 := (KP.out.later hb).c 1 rfl;have q2 := (KP.out.later hb).c 2 rfl;simp only [ov, oL];go_simp;exact hK _ _ ⟨_, rfl, by simp only [ov, oL]; rfl, brf⟩
    ·rintro f wA hb ⟨(h24 : f 24 = _), _⟩ K hK
     simp only [ov, oL, h24];go_simp;refine ((HCL.out wA hb).mono) ?_;rintro e w2 ⟨x, rfl, ht, hb2⟩;exact hK _ _ ⟨_, ht, by simp only [ov, oL, h24]; rfl, hb2⟩
    ·rintro f wA hb ⟨(h23 : f 23 = _), h25, _⟩ K hK
     obtain ⟨aoN, capN, h25, hx⟩ := h25;simp only [ov, oL, h23, h25];go_simp;exact hK _ _ ⟨_, ⟨aoN, capN, rfl, hx⟩, by simp only [ov, oL, h23, h25]; rfl, brf⟩
    ·intro f wA hb ⟨h26, _⟩ K hK
     obtain ⟨aoN, capN, h26, hx⟩ := h26;have al : bw wA (wA.alloc (.cells #[.int .i64 y.1.1, .int .i64 y.1.2.1, .int .i64 y.1.2.2, .slice aoN y.2.2.2.length capN] 205)) := (brf).alloc (Nat.le_refl _) _;simp only [ov, oL, h26];go_simp;exact hK _ _ ⟨_, ⟨wA.heap.size, aoN, capN, rfl, Bk.new wA [.int .i64 y.1.1, .int .i64 y.1.2.1, .int .i64 y.1.2.2, .slice aoN y.2.2.2.length capN] 205 wA.heap.size rfl, hx.but (butL_below al)⟩, by simp only [ov, oL, h26]; rfl, (brf).alloc (Nat.le_refl _) _⟩
   intro f w3 hb hv;have h22 : f 22 = _ := hv.2.1;have h27 : FE (avo w.heap.size wA.heap.size (.slice aoV nV capV)) y.1 y.2.2.2 (f 27) w3 := hv.2.2.2.2.2.2.1;obtain ⟨g, aoN, capN, h27, hkg, hx⟩ := h27;have KG := hdd hkg;have HX3 := hdd hx;have HB13 := hdd (HB2.out.trans (hb.mono HB2.out.size));have HO3 := hdd (HO1.out.later HB13.out);have HF3 : Hid (∀ x ∈ acc, Fla (avo w.heap.size wA.heap.size (.slice aoV nV capV)) w3 x.2.1 x.2.2.2) := fun x hx => (HF1.out x hx).but (butL_below HB13.out);have HB3 := hdd (HB1.out.trans (HB13.out.mono HB1.out.size));have KR3 := hdd (KR1.out.later HB13.out);have KS3 := hdd (KS1.out.later HB13.out);have HRG3 := hdd (HRG1.out.kept (grown_of HB13.out (r := none)) (by simp) (by simp));have hl3 : wA.heap.size + 1 ≤ w3.heap.size := by have := HIS.out; have := HB13.out.size; omega
   have hle : acc.length ≤ 1000000000 := by rw [HN.out]; omega
   clear hv hb hkg hx hen;simp only [List.drop, ov, oL, h22, h27];clear h22 h27
   go_wp2_with (first
    | (at_builtin; refine wpList_append_row goodW Tryz.underlying69 infoW rfl (by decide) (by decide) _ rfl (.tmp 22) (.tmp 27) rfl (wA.heap.size + 1) (.slice aoV nV capV) acc rfl HO3.out g (y.1, (aoN, capN, y.2.2.2)) rfl (fun j u hu => KG.out.c j hu) hle hl3 ?_; intro v' w4 ho hg hloc; obtain ⟨aoW, capW, rfl⟩ := ho.shape; have KS4 : Hid (Bk (w.heap.size + 1) (s7 (.slice aoV nV capV) s (.slice aoH s.held.length capH) (.slice aoT s.touched.length capT)) w4) := KS3.out.same hg.size (hg.block _ KS3.out.1 (fun e => by have := HRO.out _ e.symm; omega)); have s0 := KS4.out.c 0 rfl; have sf0 := KS4.out.f 0 rfl; have lt4 := KS4.out.1)
    | go_in)
   have hrow' : ∀ k, (Value.slice aoW (acc ++ [(y.1, (aoN, capN, y.2.2.2))]).length capW).ownBlock = some k → wA.heap.size + 1 ≤ k := fun k hk => (World.ownsRow.lt ho k hk).1;have hml := HML.out
   have HRG5 : Hid ((w4.setCell ⟨w.heap.size + 1, 0, none⟩ (.slice aoW (acc ++ [(y.1, (aoN, capN, y.2.2.2))]).length capW)).ranges Tryz.prog 55 RV m wA.heap.size (Maps.size D) D (fun x => left x && !x.sameKey (klP y.1)) cnt1) :=
    (HRG3.out.kept hg (fun e => by have := HRO.out _ e.symm; omega) (fun e => by have := HRO.out _ e.symm; omega)).kept (grown_set w4 (w.heap.size + 1) 0 _) (by simp; omega) (by simp; omega)
   have hbu : ButL (avo w.heap.size wA.heap.size (.slice aoV nV capV)) w3 w4 := butL_grown hg (fun k hk => by show k ∈ [_, _, _, Option.getD _ _]; rw [hk]; simp)
   have hmem : ∀ k, k < w3.heap.size → k ∈ avo w.heap.size wA.heap.size (.slice aoW (acc ++ [(y.1, (aoN, capN, y.2.2.2))]).length capW) → k ∈ (avo w.heap.size wA.heap.size (.slice aoV nV capV)) := by
    intro k hk hm;simp only [avo, List.mem_cons, List.not_mem_nil, or_false] at hm ⊢
    rcases hm with h | h | h | h
    ·exact .inl h
    ·exact .inr (.inl h)
    ·exact .inr (.inr (.inl h))
    ·rcases hloc with e | e
     ·rw [e] at h
      exact .inr (.inr (.inr h))
     ·rw [e, Option.getD_some] at h
      omega
   have HTI5 : Hid (Ti w (w4.setCell ⟨w.heap.size + 1, 0, none⟩ (.slice aoW (acc ++ [(y.1, (aoN, capN, y.2.2.2))]).length capW)) wA.heap.size wl D s (.slice aoH s.held.length capH) (.slice aoT s.touched.length capT) (fun x => left x && !x.sameKey (klP y.1)) (acc ++ [(y.1, (aoN, capN, y.2.2.2))]) (.slice aoW (acc ++ [(y.1, (aoN, capN, y.2.2.2))]).length capW)) := by
    have hbs := fun v => butL_set (bs := avo w.heap.size wA.heap.size (.slice aoW (acc ++ [(y.1, (aoN, capN, y.2.2.2))]).length capW)) w4 (w.heap.size + 1) 0 v (by simp);refine ⟨HSU.out, HTS.out _ rfl, ho.kept (grown_set w4 _ 0 _) (.inr fun e => by have := hrow' _ e; omega), ?_, KS4.out.put 0 _, ?_, ?_, ?_⟩
    ·exact (KR3.out.same hg.size (hg.block _ KR3.out.1 (fun e => by have := HRO.out _ e.symm; omega))).other (by omega) 0 _
    ·intro x hx
     rcases List.mem_append.1 hx with hx | hx
     ·exact ((HF3.out x hx).row hbu hmem (Nat.le_refl _)).but (hbs _)
     ·rw [List.mem_singleton] at hx
      subst hx;exact (HX3.out.row hbu hmem (Nat.le_refl _)).but (hbs _)
    ·exact (HB3.out.grown hg HB3.out.size (fun k hk => by have := HRO.out k hk; omega)).setCell (by simp) _
    ·have := hg.size
     show _ < (w4.setCell _ _).heap.size;simp only [World.setCell, Array.size_modify];omega
   clear ho hg hloc hrow' hbu hmem;have hle2 : (acc ++ [(y.1, (aoN, capN, y.2.2.2))]).length = acc.length + 1 := by simp
   rw [hle2] at HRG5 HTI5
   go_roundw
   case rel => exact ⟨_, _, _, _, HRG5.out, HTI5.out⟩
   case measure => rw [HRG5.out.left_eq, HRG.out.left_eq]; exact HLT.out
abbrev put7 (w : World) (R : Nat) (t : Sm) : World := (((((((w).setCell ⟨R, 0, none⟩ (.slice t.aoW t.wl.length t.capW)).setCell ⟨R, 1, none⟩ (.bool t.tip)).setCell ⟨R, 2, none⟩ (.slice t.aoH t.held.length t.capH)).setCell ⟨R, 3, none⟩ (.slice t.aoT t.touched.length t.capT)).setCell ⟨R, 4, none⟩ (.int .i64 t.used)).setCell ⟨R, 5, none⟩ (.int .i64 t.heat)).setCell ⟨R, 6, none⟩ (.int .i64 t.clock)
theorem but_put7 (R : Nat) (w : World) (t : Sm) : But R R w (put7 w R t) :=
 ((((((but_set R R w 0 _).trans (but_set R R _ 1 _)).trans (but_set R R _ 2 _)).trans (but_set R R _ 3 _)).trans (but_set R R _ 4 _)).trans (but_set R R _ 5 _)).trans (but_set R R _ 6 _)
theorem blw_put7 {B R : Nat} {a w : World} (h : Below B a w) (hR : B ≤ R) (t : Sm) : Below B a (put7 w R t) :=
 ((((((h.setCell hR _).setCell hR _).setCell hR _).setCell hR _).setCell hR _).setCell hR _).setCell hR _
theorem SmHi.less {n n' : Nat} {t : Sm} (h : SmHi n t) (hn : n' ≤ n) : SmHi n' t :=
 ⟨h.row.imp id fun h a ha => Nat.le_trans hn (h a ha), fun x hx => (h.fl x hx).imp id fun h a ha => Nat.le_trans hn (h a ha), h.held.imp id fun h a ha => Nat.le_trans hn (h a ha), h.touched.imp id fun h a ha => Nat.le_trans hn (h a ha)⟩
theorem SmHi.zero (n : Nat) : SmHi n sm0 := ⟨.inl rfl, (fun x hx => by cases hx), .inl rfl, .inl rfl⟩
abbrev encA : Enc Acn := ⟨57, 8, acl⟩
structure Acs (w : World) (ao : Option Addr) (acs : List Acn) : Prop where
 rd : RdR encA w ao acs
 ok : ∀ a ∈ acs, a.label.size ≤ maxLen ∧ (Lit.int .i64 a.kind).wf = true
theorem goodA : Good encA := ⟨fun _ => rfl, fun x u hu => by simp [acl] at hu; rcases hu with rfl | rfl | rfl | rfl | rfl | rfl | rfl | rfl <;> rfl⟩
theorem Acs.next {w w1 : World} {ao : Option Addr} {acs : List Acn} (h : Acs w ao acs) (hb : bw w w1) : Acs w1 ao acs := ⟨h.rd.next goodA hb, h.ok⟩
theorem Acs.at {w : World} {ao : Option Addr} {acs : List Acn} (h : Acs w ao acs) {k : Nat} (hk : k < acs.length) : ∃ g off, ao = some ⟨g, off, none⟩ ∧ ∀ j, j < 8 → w.cell? ⟨g, off + k * 8 + j, none⟩ = (acl (acs[k]'hk))[j]? := by
 rcases h.rd with rfl | ⟨g, off, e, _, hc⟩
 ·simp at hk
 ·exact ⟨g, off, e, fun j hj => hc k hk j hj⟩
def runR (l : List Sit) (acs : List Acn) : Sta × Nat × Int := if dchk l = 0 then runA l sta0 0 acs else (sta0, 0, dchk l)
theorem runA_step {l : List Sit} {acs : List Acn} {s : Sta} {k : Nat} (hk : k < acs.length) (h : (doA l s (acs[k]'hk)).2 = 0) : runA l s k (acs.drop k) = runA l (doA l s (acs[k]'hk)).1 (k + 1) (acs.drop (k + 1)) := by
 rw [List.drop_eq_getElem_cons hk];simp only [runA];rw [if_pos h]
theorem runA_stop {l : List Sit} {acs : List Acn} {s : Sta} {k : Nat} (hk : k < acs.length) (h : (doA l s (acs[k]'hk)).2 ≠ 0) : runA l s k (acs.drop k) = (s, k, (doA l s (acs[k]'hk)).2) := by
 rw [List.drop_eq_getElem_cons hk];simp only [runA];rw [if_neg h]
theorem runA_done {l : List Sit} {acs : List Acn} {s : Sta} {k : Nat} (hk : acs.length ≤ k) : runA l s k (acs.drop k) = (s, k, 0) := by
 rw [List.drop_eq_nil_of_le hk]
 rfl
theorem fill_or (l : List Sit) (s : Sta) (a : Acn) : (fillA l s a).2 = 0 ∨ (fillA l s a).1 = s := by
 unfold fillA
 repeat' split
 all_goals first | exact .inr rfl | exact .inl rfl
theorem draw_or (l : List Sit) (s : Sta) (a : Acn) : (drawA l s a).2 = 0 ∨ (drawA l s a).1 = s := by
 unfold drawA
 repeat' split
 all_goals first | exact .inr rfl | exact .inl rfl
theorem put_or (l : List Sit) (s : Sta) (a : Acn) : (putA l s a).2 = 0 ∨ (putA l s a).1 = s := by
 unfold putA
 repeat' split
 all_goals first | exact .inr rfl | exact .inl rfl
theorem tip_or (l : List Sit) (s : Sta) : (tipA l s).2 = 0 ∨ (tipA l s).1 = s := by
 unfold tipA
 repeat' split
 all_goals first | exact .inr rfl | exact .inl rfl
theorem drop_or (s : Sta) : (dropA s).2 = 0 ∨ (dropA s).1 = s := by
 unfold dropA
 repeat' split
 all_goals first | exact .inr rfl | exact .inl rfl
theorem warm_or (s : Sta) (a : Acn) : (warmA s a).2 = 0 ∨ (warmA s a).1 = s := by
 unfold warmA
 repeat' split
 all_goals first | exact .inr rfl | exact .inl rfl
theorem pass_or (s : Sta) (a : Acn) : (passA s a).2 = 0 ∨ (passA s a).1 = s := by
 unfold passA
 repeat' split
 all_goals first | exact .inr rfl | exact .inl rfl
theorem shake_or (s : Sta) (a : Acn) : (shakeA s a).2 = 0 ∨ (shakeA s a).1 = s := by
 unfold shakeA passA
 repeat' split
 all_goals first | exact .inr rfl | exact .inl rfl
theorem do_same {l : List Sit} {s : Sta} {a : Acn} (h : (doA l s a).2 ≠ 0) : (doA l s a).1 = s := by
 refine (show (doA l s a).2 = 0 ∨ (doA l s a).1 = s from ?_).resolve_left h;unfold doA
 repeat' split
 all_goals first | exact fill_or l s a | exact tip_or l s | exact drop_or s | exact draw_or l s a | exact put_or l s a | exact warm_or s a | exact pass_or s a | exact shake_or s a | exact .inr rfl
theorem run_any (ao : Option Addr) (cap : Nat) (l : List Sit) (aoA : Option Addr) (capA : Nat) (acs : List Acn) (w : World) (hD : Dk w ao cap l) (hln : l.length ≤ 9223372036854775807) (hA : Acs w aoA acs) (hla : acs.length ≤ 9223372036854775807) :
  Calls Tryz.prog 23 #[.slice ao l.length cap, .slice aoA acs.length capA] w fun e w' => ∃ t : Sm, e = .returned (.tuple #[smv t, .int .i64 ((runR l acs).2.1 : Int), .int .i64 (runR l acs).2.2]) ∧ t.st = (runR l acs).1 ∧ SmIn w' t ∧ SmHi w.heap.size t ∧ bw w w' := by
 obtain ⟨w0, hw0⟩ : ∃ w0, w0 = w.alloc (.cells z7.toArray 73) := ⟨_, rfl⟩;have b0 : bw w w0 := by rw [hw0]; exact (brf).alloc (Nat.le_refl _) _
 have KR0 : Hid (Bk w.heap.size z7 w0) := by show Bk _ _ _; rw [hw0]; exact Bk.new _ z7 73 w.heap.size rfl
 have HB0 : Hid (bw w w0) := b0;have HW0 := hdd hw0;have HD0 : Hid (Dk w0 ao cap l) := hD.next b0;have HA0 : Hid (Acs w0 aoA acs) := hA.next b0;have HCK := (show Hid _ from dk_check ao cap l w0 HD0.out hln);clear hD hA hw0 b0
 go_enter Tryz.func23, Tryz.ntmps23
 go_wp2_with fail
 rw [← HW0.out];refine Calls.mono HCK.out ?_;rintro e w1 ⟨rfl, hb1⟩;have KR1 := hdd (KR0.out.later hb1);have HB1 := hdd (HB0.out.trans (hb1.mono HB0.out.size));have HD1 := hdd (HD0.out.next hb1);have HA1 := hdd (HA0.out.next hb1);clear hb1 HCK HD0 HA0 KR0 HB0;obtain ⟨c, hc⟩ : ∃ c, dchk l = c := ⟨_, rfl⟩;have HC := hdd hc;rw [hc];clear hc
 by_cases he : c = 0
 rotate_left
 ·have h2 : (c == 0) = false := by simp [he]
  have h3 : (c != 0) = true := by simp [he]
  have HQ : Hid (runR l acs = (sta0, 0, c)) := by show _ = _; unfold runR; rw [HC.out, if_neg he]
  obtain ⟨r0, r1, r2, r3, r4, r5, r6⟩ := (KR1.out).c7;obtain ⟨rf0, rf1, rf2, rf3, rf4, rf5, rf6⟩ := (KR1.out).f7;have lt1 := KR1.out.1;clear he;go_wp2;refine bodyPost_ret (v := .tuple #[smv sm0, .int .i64 0, .int .i64 c]) (by simp [results, Tryz.results23, go_sem, r0, r1, r2, r3, r4, r5, r6]) rfl ⟨sm0, ?_, ?_, ?_, ?_, ?_⟩
  ·rw [HQ.out]; rfl
  ·rw [HQ.out]; rfl
  ·exact SmIn.zero _
  ·exact SmHi.zero _
  ·exact blw_put7 HB1.out (by omega) sm0
 ·subst he
  have HQ0 : Hid (runR l acs = runA l sta0 0 acs) := by show _ = _; unfold runR; rw [HC.out, if_pos rfl]
  go_wp2_with fail
  refine (newBench_any ao cap l sm0 w1 HD1.out HC.out (SmIn.zero _) (may_sta0 l)).mono ?_;rintro e w2 ⟨b, m, md, rfl, hB⟩;have HBn2 := hdd hB;clear hB
  go_wp2_with fail
  go_loopw [23] (fun i wr => ∃ (k : Nat) (s : Sta), k ≤ acs.length ∧ i = .int .i64 k ∧ runR l acs = runA l s k (acs.drop k) ∧ Bn w1 wr ao cap l b m md s) (fun i _ => acs.length - (intOf i).toNat)
  case atStart => exact ⟨0, sta0, Nat.zero_le _, rfl, HQ0.out, HBn2.out⟩
  case round =>
   obtain ⟨k, s, hk, rfl, hq, hB⟩ := hrel;have HBn3 := hdd hB;have HQ1 := hdd hq;have KR3 := hdd (KR1.out.later hB.below);have HB3 := hdd (HB1.out.trans (hB.below.mono HB1.out.size));clear hq hB
   by_cases hlt : k < acs.length
   rotate_left
   ·obtain rfl : k = acs.length := by omega
    have HQ : Hid (runR l acs = (s, acs.length, 0)) := by show _ = _; rw [HQ1.out]; exact runA_done (Nat.le_refl _)
    clear hlt
    go_wp2_with fail
    refine (told_any w1 wr ao cap l b m md s HBn3.out).mono ?_;rintro e w4 ⟨t, rfl, hst, hin, hhi, hb4⟩;have KR4 := hdd (KR3.out.later hb4);have HST := hdd hst;have HIN := hdd hin;have HHI := hdd hhi;have HB4 := hdd (HB3.out.trans (hb4.mono HB3.out.size));have l3 := KR3.out.1;clear hst hin hhi hb4;obtain ⟨r0, r1, r2, r3, r4, r5, r6⟩ := (KR4.out).c7;obtain ⟨rf0, rf1, rf2, rf3, rf4, rf5, rf6⟩ := (KR4.out).f7;have lt1 := KR4.out.1;go_wp2;refine bodyPost_ret (v := .tuple #[smv t, .int .i64 (acs.length : Int), .int .i64 0]) (by simp [results, Tryz.results23, go_sem, r0, r1, r2, r3, r4, r5, r6]) rfl ⟨t, ?_, ?_, ?_, ?_, ?_⟩
    ·rw [HQ.out]
    ·rw [HQ.out]; exact HST.out
    ·exact HIN.out.but HHI.out (but_put7 w.heap.size w4 t) l3 l3
    ·exact HHI.out.less (by omega)
    ·exact blw_put7 HB4.out (by omega) t
   ·obtain ⟨g, off, hao, hcs⟩ := (HA1.out.next HBn3.out.below).at hlt
    have hok := HA1.out.ok _ (List.getElem_mem hlt);have HS1 : Hid ((doA l s (acs[k]'hlt)).2 = 0 → runR l acs = runA l (doA l s (acs[k]'hlt)).1 (k + 1) (acs.drop (k + 1))) := fun h => by rw [HQ1.out]; exact runA_step hlt h
    have HS2 : Hid ((doA l s (acs[k]'hlt)).2 ≠ 0 → runR l acs = (s, k, (doA l s (acs[k]'hlt)).2)) := fun h => by rw [HQ1.out]; exact runA_stop hlt h
    generalize acs[k]'hlt = a at *;subst hao;have c0 := hcs 0 (by decide);have c1 := hcs 1 (by decide);have c2 := hcs 2 (by decide);have c3 := hcs 3 (by decide);have c4 := hcs 4 (by decide);have c5 := hcs 5 (by decide);have c6 := hcs 6 (by decide);have c7 := hcs 7 (by decide);simp only [acl, List.getElem?_cons_zero, List.getElem?_cons_succ, Nat.add_zero] at c0 c1 c2 c3 c4 c5 c6 c7;have HOK := hdd hok;obtain ⟨w4, hw4⟩ : ∃ w4, w4 = wr.alloc (aobj a) := ⟨_, rfl⟩;have b4 : bw wr w4 := by rw [hw4]; exact (brf).alloc (Nat.le_refl _) _
    have HBn4 := hdd (HBn3.out.next b4);have HW4 := hdd hw4;have hki : (k : Int) < (acs.length : Int) := by omega
    clear hcs hok hw4 b4
    go_wp2_with fail
    rw [← HW4.out];refine (do_any w1 w4 ao cap l b m md s a HBn4.out HOK.out.1 HOK.out.2).mono ?_;rintro e w5 ⟨rfl, hB⟩;obtain ⟨⟨s', e1⟩, hdq⟩ : ∃ x, doA l s a = x := ⟨_, rfl⟩;rw [hdq] at hB HS1 HS2;rw [hdq];simp only at hB HS1 HS2;have HBn5 := hdd hB;have HDQ := hdd hdq;clear hB hdq c0 c1 c2 c3 c4 c5 c6 c7;simp only
    by_cases he : e1 = 0
    ·subst he
     have HQ := hdd (HS1.out rfl);go_wp2
     go_roundw
     case rel => exact ⟨k + 1, s', by omega, by go_num, HQ.out, HBn5.out⟩
     case measure => simp [intOf]; omega
    ·have h2 : (e1 == 0) = false := by simp [he]
     have h3 : (e1 != 0) = true := by simp [he]
     have HQ := hdd (HS2.out he);have hne : s' = s := by have := do_same (l := l) (s := s) (a := a) (by rw [HDQ.out]; exact he); rw [HDQ.out] at this; exact this
     subst hne;have KR5 := hdd (KR1.out.later HBn5.out.below);have HB5 := hdd (HB1.out.trans (HBn5.out.below.mono HB1.out.size));clear he
     go_wp2_with fail
     refine (told_any w1 w5 ao cap l b m md _ HBn5.out).mono ?_;rintro e w6 ⟨t, rfl, hst, hin, hhi, hb4⟩;have KR6 := hdd (KR5.out.later hb4);have HST := hdd hst;have HIN := hdd hin;have HHI := hdd hhi;have HB6 := hdd (HB5.out.trans (hb4.mono HB5.out.size));have l3 := KR5.out.1;clear hst hin hhi hb4;obtain ⟨r0, r1, r2, r3, r4, r5, r6⟩ := (KR6.out).c7;obtain ⟨rf0, rf1, rf2, rf3, rf4, rf5, rf6⟩ := (KR6.out).f7;have lt1 := KR6.out.1;go_wp2;refine bodyPost_ret (v := .tuple #[smv t, .int .i64 (k : Int), .int .i64 e1]) (by simp [results, Tryz.results23, go_sem, r0, r1, r2, r3, r4, r5, r6]) rfl ⟨t, ?_, ?_, ?_, ?_, ?_⟩
     ·rw [HQ.out]
     ·rw [HQ.out]; exact HST.out
     ·exact HIN.out.but HHI.out (but_put7 w.heap.size w6 t) l3 l3
     ·exact HHI.out.less (by omega)
     ·exact blw_put7 HB6.out (by omega) t
end Go.Proofs.YtcajifelbldjnaaGreatDoor
namespace Go.Proofs.YtcajifelbldjnaaGreatDoor
open Go.RowKit
def cx (n : Int) : Int := (n - 1) % 3 * 137500
def cy (n : Int) : Int := (n - 1) / 3 * 95500
theorem cx_in {n : Int} : 0 ≤ cx n ∧ cx n ≤ 275000 := by unfold cx; omega
theorem cy_in {n : Int} (h : 1 ≤ n) (h2 : n ≤ 12) : 0 ≤ cy n ∧ cy n ≤ 286500 := by unfold cy; omega
theorem slot_cases {n : Int} (h : 1 ≤ n) (h2 : n ≤ 12) : n = 1 ∨ n = 2 ∨ n = 3 ∨ n = 4 ∨ n = 5 ∨ n = 6 ∨ n = 7 ∨ n = 8 ∨ n = 9 ∨ n = 10 ∨ n = 11 ∨ n = 12 := by omega
theorem corner_any (n : Int) (w : World) (h : 1 ≤ n) (h2 : n ≤ 12) :
  CR 175 #[.int .i64 n] w (.agg #[.int .i64 (cx n), .int .i64 (cy n), .int .i64 0]) := by
 have h0 : 0 ≤ n - 1 := by omega
 rcases slot_cases h h2 with e | e | e | e | e | e | e | e | e | e | e | e
 all_goals
  subst e
  go_enter Tryz.func175, Tryz.ntmps175
  go_wp2
  refine bodyPost_ret (v := .agg #[.int .i64 (cx _), .int .i64 (cy _), .int .i64 0]) (by simp [results, Tryz.results175, go_sem, cx, cy]; try decide) rfl ⟨rfl, (brf).alloc (Nat.le_refl _) _⟩
theorem added_any (x y z x' y' z' : Int) (w : World) (h : ∀ n ∈ [x, y, z, x', y', z'], 0 ≤ n ∧ n ≤ 1000000000000) :
  CR 174 #[.agg #[.int .i64 x, .int .i64 y, .int .i64 z], .agg #[.int .i64 x', .int .i64 y', .int .i64 z']] w (.agg #[.int .i64 (x + x'), .int .i64 (y + y'), .int .i64 (z + z')]) := by
 have h0 := h x (by simp);have h1 := h y (by simp);have h2 := h z (by simp);have h3 := h x' (by simp);have h4 := h y' (by simp);have h5 := h z' (by simp);clear h
 go_enter Tryz.func174, Tryz.ntmps174
 go_wp2;refine bodyPost_ret (v := .agg #[.int .i64 (x + x'), .int .i64 (y + y'), .int .i64 (z + z')]) (by simp [results, Tryz.results174, go_sem]) rfl ⟨rfl, (((brf).alloc (Nat.le_refl _) _).alloc (by simp) _).alloc (by simp; omega) _⟩
abbrev pto (x y z : Int) : Obj := .cells #[.int .i64 x, .int .i64 y, .int .i64 z] 31
abbrev ptv (x y z : Int) : Value := .agg #[.int .i64 x, .int .i64 y, .int .i64 z]
end Go.Proofs.YtcajifelbldjnaaGreatDoor
