import Derived.Shelf.SlIter.Nil
import Derived.Shelf.SortM.Plain
import Derived.Shelf.SortM.SortNone
import Derived.Ground.GgzProg
import Derived.Ground.SlgmProg
import Derived.Shelf.SlGeneric
import Derived.Test.YtcajifelbldjnaaGreatDoorProg
import Derived.Test.YtcajifelbldjnaaGreatDoorId
import Derived.Test.YtcajifelbldjnaaGreatDoorIb
set_option maxRecDepth 100000
set_option maxHeartbeats 25600000
set_option linter.unusedVariables false
/-
  DERIVED: THE SHELF's CONTRACTS AT THIS DUMP, IN PLAIN WORDS (tools/lay-plain.mjs out of 'TryShelf.lean', which tools/lay-shelf.mjs wrote): THE SAME DECLARATIONS UNDER THE SAME NAMES: 'import', 'namespace', 'open', 'def', 'theorem' AND NOTHING ELSE: no command of the shelf's: FOR A HAND-IN. Each laying: the table of numbers ('.._ren') and one theorem, a field a fact of the dump's own or the kernel's comparison; each contract: ONE APPLICATION.
-/
namespace Go.Proofs
open Go.Shelf
def Tryz.keys285_ren : Go.Shelf.Ren := ⟨fun | 7 => 285 | 10 => 302 | n => n, fun | 23 => 330 | 26 => 9 | 3 => 3 | 28 => 355 | 0 => 0 | 27 => 354 | 33 => 138 | 4 => 4 | n => n, fun | n => n⟩
theorem Tryz.keys285 : Go.Proofs.SlLaysZ.n7 Tryz.prog Tryz.keys285_ren := {
  mixed := by kernel_rfl
  f7 := ⟨Tryz.f285.name, by decide, Tryz.func285.trans (congrArg some (by kernel_rfl))⟩
  f10 := ⟨Tryz.f302.name, by decide, Tryz.func302.trans (congrArg some (by kernel_rfl))⟩
  t0 := Tryz.underlying0
  a0 := Tryz.isAgg0
  z0 := Tryz.sizeOf0
  v0 := Tryz.zeroValue0
  t4 := Tryz.underlying4
  a4 := Tryz.isAgg4
  z4 := Tryz.sizeOf4
  v4 := Tryz.zeroValue4
  t23 := Tryz.underlying330
  a23 := Tryz.isAgg330
  z23 := Tryz.sizeOf330
  v23 := Tryz.zeroValue330
  t26 := Tryz.underlying9
  a26 := Tryz.isAgg9
  z26 := Tryz.sizeOf9
  v26 := Tryz.zeroValue9
  t27 := Tryz.underlying354
  a27 := Tryz.isAgg354
  z27 := Tryz.sizeOf354
  v27 := Tryz.zeroValue354
  t28 := Tryz.underlying355
  a28 := Tryz.isAgg355
  z28 := Tryz.sizeOf355
  v28 := Tryz.zeroValue355
  t33 := Tryz.underlying138
  a33 := Tryz.isAgg138
  z33 := Tryz.sizeOf138
  v33 := Tryz.zeroValue138 }
def Tryz.sorted284_ren : Go.Shelf.Ren := ⟨fun | 6 => 284 | 8 => 300 | 9 => 301 | 11 => 310 | 13 => 185 | 12 => 311 | 23 => 224 | 24 => 225 | 14 => 314 | 15 => 315 | 16 => 316 | 17 => 317 | 18 => 318 | 19 => 319 | 20 => 320 | 21 => 321 | 22 => 322 | 25 => 323 | 26 => 260 | 27 => 261 | 28 => 324 | 29 => 325 | 30 => 326 | 31 => 327 | n => n, fun | 26 => 9 | 28 => 355 | 24 => 71 | 0 => 0 | 3 => 3 | 37 => 262 | 48 => 302 | 50 => 304 | 4 => 4 | 40 => 296 | 39 => 295 | 45 => 177 | 5 => 5 | 9 => 9 | 51 => 333 | 55 => 337 | 57 => 357 | 58 => 358 | 33 => 138 | n => n, fun | n => n⟩
theorem Tryz.sorted284 : Go.Proofs.SlLaysZ.n6 Tryz.prog Tryz.sorted284_ren := {
  mixed := by kernel_rfl
  f6 := ⟨Tryz.f284.name, by decide, Tryz.func284.trans (congrArg some (by kernel_rfl))⟩
  f8 := ⟨Tryz.f300.name, by decide, Tryz.func300.trans (congrArg some (by kernel_rfl))⟩
  f11 := ⟨Tryz.f310.name, by decide, Tryz.func310.trans (congrArg some (by kernel_rfl))⟩
  t0 := Tryz.underlying0
  a0 := Tryz.isAgg0
  z0 := Tryz.sizeOf0
  v0 := Tryz.zeroValue0
  t24 := Tryz.underlying71
  a24 := Tryz.isAgg71
  z24 := Tryz.sizeOf71
  v24 := Tryz.zeroValue71
  t26 := Tryz.underlying9
  a26 := Tryz.isAgg9
  z26 := Tryz.sizeOf9
  v26 := Tryz.zeroValue9
  t28 := Tryz.underlying355
  a28 := Tryz.isAgg355
  z28 := Tryz.sizeOf355
  v28 := Tryz.zeroValue355
  i26 := by kernel_rfl }
def Tryz.sort301_ren : Go.Shelf.Ren := ⟨fun | 6 => 301 | 8 => 185 | 9 => 311 | 19 => 224 | 20 => 225 | 21 => 314 | 22 => 315 | 23 => 316 | 24 => 317 | 25 => 318 | 26 => 319 | 27 => 320 | 28 => 321 | 29 => 322 | 36 => 323 | 31 => 260 | 32 => 261 | 37 => 324 | 38 => 325 | 39 => 326 | 41 => 327 | n => n, fun | 27 => 71 | 29 => 9 | 3 => 3 | 32 => 262 | 26 => 71 | 0 => 0 | 44 => 302 | 46 => 304 | 4 => 4 | 36 => 296 | 35 => 295 | 41 => 177 | 5 => 5 | 9 => 9 | 53 => 333 | 57 => 337 | 63 => 357 | 64 => 358 | n => n, fun | n => n⟩
theorem Tryz.sort301 : Go.Proofs.SlLaysM.n6 Tryz.prog Tryz.sort301_ren := {
  mixed := by kernel_rfl
  f6 := ⟨Tryz.f301.name, by decide, Tryz.func301.trans (congrArg some (by kernel_rfl))⟩
  f8 := Tryz.func185.trans (congrArg some (by kernel_rfl))
  f9 := ⟨Tryz.f311.name, by decide, Tryz.func311.trans (congrArg some (by kernel_rfl))⟩
  f19 := Tryz.func224.trans (congrArg some (by kernel_rfl))
  f20 := Tryz.func225.trans (congrArg some (by kernel_rfl))
  f21 := ⟨Tryz.f314.name, by decide, Tryz.func314.trans (congrArg some (by kernel_rfl))⟩
  f22 := ⟨Tryz.f315.name, by decide, Tryz.func315.trans (congrArg some (by kernel_rfl))⟩
  f23 := ⟨Tryz.f316.name, by decide, Tryz.func316.trans (congrArg some (by kernel_rfl))⟩
  f24 := ⟨Tryz.f317.name, by decide, Tryz.func317.trans (congrArg some (by kernel_rfl))⟩
  f25 := ⟨Tryz.f318.name, by decide, Tryz.func318.trans (congrArg some (by kernel_rfl))⟩
  f26 := ⟨Tryz.f319.name, by decide, Tryz.func319.trans (congrArg some (by kernel_rfl))⟩
  f27 := ⟨Tryz.f320.name, by decide, Tryz.func320.trans (congrArg some (by kernel_rfl))⟩
  f28 := ⟨Tryz.f321.name, by decide, Tryz.func321.trans (congrArg some (by kernel_rfl))⟩
  f29 := ⟨Tryz.f322.name, by decide, Tryz.func322.trans (congrArg some (by kernel_rfl))⟩
  f31 := Tryz.func260.trans (congrArg some (by kernel_rfl))
  f32 := Tryz.func261.trans (congrArg some (by kernel_rfl))
  f36 := ⟨Tryz.f323.name, by decide, Tryz.func323.trans (congrArg some (by kernel_rfl))⟩
  f37 := ⟨Tryz.f324.name, by decide, Tryz.func324.trans (congrArg some (by kernel_rfl))⟩
  f38 := ⟨Tryz.f325.name, by decide, Tryz.func325.trans (congrArg some (by kernel_rfl))⟩
  f39 := ⟨Tryz.f326.name, by decide, Tryz.func326.trans (congrArg some (by kernel_rfl))⟩
  f41 := ⟨Tryz.f327.name, by decide, Tryz.func327.trans (congrArg some (by kernel_rfl))⟩
  t0 := Tryz.underlying0
  a0 := Tryz.isAgg0
  z0 := Tryz.sizeOf0
  v0 := Tryz.zeroValue0
  t3 := Tryz.underlying3
  a3 := Tryz.isAgg3
  z3 := Tryz.sizeOf3
  v3 := Tryz.zeroValue3
  t4 := Tryz.underlying4
  a4 := Tryz.isAgg4
  z4 := Tryz.sizeOf4
  v4 := Tryz.zeroValue4
  t5 := Tryz.underlying5
  a5 := Tryz.isAgg5
  z5 := Tryz.sizeOf5
  v5 := Tryz.zeroValue5
  t9 := Tryz.underlying9
  a9 := Tryz.isAgg9
  z9 := Tryz.sizeOf9
  v9 := Tryz.zeroValue9
  t26 := Tryz.underlying71
  a26 := Tryz.isAgg71
  z26 := Tryz.sizeOf71
  v26 := Tryz.zeroValue71
  t27 := Tryz.underlying71
  a27 := Tryz.isAgg71
  z27 := Tryz.sizeOf71
  v27 := Tryz.zeroValue71
  t29 := Tryz.underlying9
  a29 := Tryz.isAgg9
  z29 := Tryz.sizeOf9
  v29 := Tryz.zeroValue9
  t32 := Tryz.underlying262
  a32 := Tryz.isAgg262
  z32 := Tryz.sizeOf262
  v32 := Tryz.zeroValue262
  t35 := Tryz.underlying295
  a35 := Tryz.isAgg295
  z35 := Tryz.sizeOf295
  v35 := Tryz.zeroValue295
  t36 := Tryz.underlying296
  a36 := Tryz.isAgg296
  z36 := Tryz.sizeOf296
  v36 := Tryz.zeroValue296
  t41 := Tryz.underlying177
  a41 := Tryz.isAgg177
  z41 := Tryz.sizeOf177
  v41 := Tryz.zeroValue177
  t44 := Tryz.underlying302
  a44 := Tryz.isAgg302
  z44 := Tryz.sizeOf302
  v44 := Tryz.zeroValue302
  t46 := Tryz.underlying304
  a46 := Tryz.isAgg304
  z46 := Tryz.sizeOf304
  v46 := Tryz.zeroValue304
  t53 := Tryz.underlying333
  a53 := Tryz.isAgg333
  z53 := Tryz.sizeOf333
  v53 := Tryz.zeroValue333
  t57 := Tryz.underlying337
  a57 := Tryz.isAgg337
  z57 := Tryz.sizeOf337
  v57 := Tryz.zeroValue337
  t63 := Tryz.underlying357
  a63 := Tryz.isAgg357
  z63 := Tryz.sizeOf357
  v63 := Tryz.zeroValue357
  t64 := Tryz.underlying358
  a64 := Tryz.isAgg358
  z64 := Tryz.sizeOf358
  v64 := Tryz.zeroValue358 }
end Go.Proofs
namespace Go.Proofs.YtcajifelbldjnaaGreatDoor.F
open Go.RowKit Go.Maps Go.WideMaps
open Go.RowKit Go.Maps Go.WideMaps
abbrev lb (p : Pc) : List UInt8 := p.1.data.toList
def Srt (ps S : List Pc) : Prop := S.Pairwise (fun p q => lb p < lb q) ∧ ∀ p, p ∈ S ↔ 0 < p.2 ∧ p.2 = sumL ps (lb p)
theorem srt_labels {ps S : List Pc} (hn : Nn ps) (h : Srt ps S) : ∀ p ∈ S, ∃ q ∈ ps, q.1 = p.1 := fun p hp => by
 obtain ⟨h0, h1⟩ := (h.2 p).1 hp;obtain ⟨q, hq, e, _⟩ := (sumL_pos hn (lb p)).1 (by omega);exact ⟨q, hq, ByteArray.ext (Array.ext' e)⟩
def pcOf (ps : List Pc) (l : List UInt8) : Pc := (⟨l.toArray⟩, sumL ps l)
theorem lb_pcOf (ps : List Pc) (l : List UInt8) : lb (pcOf ps l) = l := by simp [lb, pcOf]
theorem srt_of {ps : List Pc} {K : List (List UInt8)} (hK : K.Pairwise (· < ·)) (hm : ∀ l, l ∈ K ↔ 0 < sumL ps l) : Srt ps (K.map (pcOf ps)) := by
 refine ⟨List.pairwise_map.2 (hK.imp fun {a b} h => by rw [lb_pcOf, lb_pcOf]; exact h), fun p => ?_⟩;rw [List.mem_map];constructor
 ·rintro ⟨l, hl, rfl⟩
  rw [lb_pcOf];exact ⟨(hm l).1 hl, rfl⟩
 ·rintro ⟨h0, h1⟩
  refine ⟨lb p, (hm _).2 (by omega), ?_⟩;obtain ⟨s, n⟩ := p;simp only [lb, pcOf] at h1 ⊢;rw [← h1]
theorem keys_spec {w : World} {b n : Nat} {D : DataW Unit} (hown : w.ownsMap Tryz.prog 9 (plainElem Tryz.prog 3) b n D) : (strKeys D).Nodup ∧ (∀ x, x ∈ strKeys D ↔ has D (.string x) = true) ∧ (strKeys D).length ≤ n ∧ Maps.size D ≤ n := by
 have hlen : Maps.size D ≤ n := by
  obtain ⟨es, clock, _, _, hs, rfl⟩ := hown;rw [Maps.size_eq, length_sorted]
  simpa using hs
 obtain ⟨es, hD, hpw, _⟩ := hown.entries law;obtain ⟨es', hD', hko⟩ := hown.keysOf;obtain rfl : es = es' := by rw [hD] at hD'; simpa using hD'
 subst hD;have hk : ∀ p ∈ es, ∃ x, p.1 = .string x := fun p hp => by obtain ⟨v, hv⟩ := hko p hp; obtain ⟨x, _, hx, _⟩ := Maps.keyOf_str Tryz.underlying9 hv; exact ⟨x, hx⟩
 refine ⟨?_, fun x => ?_, ?_, hlen⟩
 ·refine List.pairwise_map.2 (hpw.imp_of_mem fun {p q} hp' hq' hne e => hne ?_)
  obtain ⟨a, ha⟩ := hk p hp';obtain ⟨b, hb⟩ := hk q hq';rw [ha, hb] at e ⊢;exact congrArg _ e
 ·rw [has_eq, List.any_eq_true]
  show x ∈ es.map (fun p => strOf p.1) ↔ _;rw [List.mem_map];constructor
  ·rintro ⟨p, hp', rfl⟩
   obtain ⟨a, ha⟩ := hk p hp';exact ⟨p, hp', by rw [ha]; simp [Lit.sameKey, strOf]⟩
  ·rintro ⟨p, hp', hs⟩
   obtain ⟨a, ha⟩ := hk p hp';rw [ha] at hs;exact ⟨p, hp', by rw [ha]; simpa [Lit.sameKey, strOf] using hs⟩
 ·show (es.map (fun p => strOf p.1)).length ≤ n
  rw [List.length_map];exact hlen
theorem sorted_keys {ps : List Pc} {D : DataW Unit} (hv : Vols D ps) (hn : (strKeys D).Nodup) (hm : ∀ x, x ∈ strKeys D ↔ has D (.string x) = true) {ss : List (List UInt8)} (hp : ss.Perm (strKeys D)) :
  Srt ps ((ss.mergeSort (fun x y => decide (x ≤ y))).map (pcOf ps)) := by
 have hpm := (List.mergeSort_perm ss leB).trans hp;have tr : ∀ a b c : List UInt8, leB a b = true → leB b c = true → leB a c = true := fun a b c h1 h2 => by simp only [leB, decide_eq_true_eq] at *; exact List.le_trans h1 h2
 have to : ∀ a b : List UInt8, (leB a b || leB b a) = true := fun a b => by simp only [leB, Bool.or_eq_true, decide_eq_true_eq]; exact List.le_total a b
 have hsorted := List.pairwise_mergeSort tr to ss;have hnd : (ss.mergeSort leB).Nodup := (List.Perm.nodup_iff hpm).2 hn;refine srt_of (List.Pairwise.imp_of_mem (R := fun a b => leB a b = true ∧ a ≠ b) (fun {a b} _ _ h => ?_) (hsorted.and hnd)) fun l => ?_
 ·have h1 : a ≤ b := by simpa [leB] using h.1
  exact Decidable.byContradiction fun hn => h.2 (List.le_antisymm h1 (List.not_lt.1 hn))
 ·rw [hpm.mem_iff, hm l, hv.2.2 l, decide_eq_true_eq]
end Go.Proofs.YtcajifelbldjnaaGreatDoor.F
namespace Go.Proofs.YtcajifelbldjnaaGreatDoor.F
open Go.RowKit Go.Maps Go.WideMaps Go.Sort Go.Shelf
open Go.RowKit Go.Maps Go.Sort Go.Shelf
theorem Tryz.sorts284 (m : Nat) : AnyZ.SortsIn Tryz.prog Tryz.sorted284_ren Fence.wide m :=
 ⟨fun blk off cap ss W hH hblk hsz => callsIn_wide.2 (AnyM.slices_Sort_string Tryz.sort301 blk off cap ss W hH hblk hsz),
   fun p cap W => callsIn_wide.2 (AnyM.slices_Sort_string_none Tryz.sort301 p cap W)⟩
theorem Tryz.maps_Keys_285 (mb : Option Nat) (W : World) : CallsIn Fence.wide 5 Tryz.prog 285 #[.map mb] W fun e w' => e = .returned (.func (.func 302) #[] #[.pointer (some ⟨W.heap.size, 0, none⟩)]) ∧ w' = W.alloc (.cells #[.map mb] 330) :=
 AnyZ.keys_in Tryz.keys285 Fence.wide 5 trivial rfl mb W
theorem Tryz.slices_Sorted_keys_284_285 {H : Type} (b nn : Nat) (D0 : DataW H) (R : Value → Option (DataW H × List MemPlace)) (w : World) (hown : w.ownsMap Tryz.prog 9 R b nn D0) (hmax : Maps.size D0 ≤ maxLen) (hbytes : Maps.size D0 * 16 ≤ 140737488355328) :
  CallsIn Fence.wide 5 Tryz.prog 284 #[.func (.func 302) #[] #[.pointer (some ⟨w.heap.size, 0, none⟩)]] (w.alloc (.cells #[.map (some b)] 330)) fun e w' => ∃ (v : Value) (ss : List (List UInt8)), e = .returned v ∧ ss.Perm (strKeys D0) ∧
   w'.ownsRow (w.alloc (.cells #[.map (some b)] 330)).heap.size 9 1 v ss.length ((ss.mergeSort (fun x y => decide (x ≤ y))).map encStr) ∧ (v = .slice none 0 0 ↔ ss = []) ∧ Below (w.alloc (.cells #[.map (some b)] 330)).heap.size (w.alloc (.cells #[.map (some b)] 330)) w' := by
 have hbl := hown.lt
 have hseq : SeqGives Fence.wide 2 Tryz.prog 302 #[.pointer (some ⟨w.heap.size, 0, none⟩)] encStr (fun ss => ss.Perm (strKeys D0)) (Maps.size D0) (w.alloc (.cells #[.map (some b)] 330)) :=
  AnyZ.keys_gives (ρ := Tryz.keys285_ren) { Tryz.keys285 with } Fence.wide _ trivial rfl (by omega) w.heap.size b nn D0 _ (by simp) (by simp) (by
   obtain ⟨es, clock, hb, Ft, hs, hD⟩ := hown
   exact ⟨es, clock, (Below.heap_alloc _ _ b hbl).trans hb, Ft, hs, hD⟩)
 exact AnyZ.sorted_in Tryz.sorted284 Fence.wide 5 trivial trivial trivial trivial rfl (by omega) (Tryz.sorts284 _) (enters_of Tryz.func301 (by kernel_rfl) rfl) 302 #[.pointer (some ⟨w.heap.size, 0, none⟩)] trivial (enters_of Tryz.func302 (by kernel_rfl) rfl) _ _ hmax hbytes _ hseq
theorem keysOf_any (b : Nat) (w : World) : Calls Tryz.prog 285 #[.map (some b)] w fun e w' => e = .returned (.func (.func 302) #[] #[.pointer (some ⟨w.heap.size, 0, none⟩)]) ∧ w' = w.alloc (.cells #[.map (some b)] 330) :=
 callsIn_wide.1 (Tryz.maps_Keys_285 (some b) w)
open Go.RowKit Go.Maps Go.WideMaps
def Txt (w : World) (ao : Option Addr) (K : List (List UInt8)) : Prop := K = [] ∨ ∃ g, ao = some ⟨g, 0, none⟩ ∧ g < w.heap.size ∧ ∀ k (h : k < K.length), w.cell? ⟨g, k, none⟩ = some (.string ⟨(K[k]'h).toArray⟩)
theorem Txt.next {w w1 : World} {ao : Option Addr} {K : List (List UInt8)} (h : Txt w ao K) (hb : bw w w1) : Txt w1 ao K := by
 rcases h with h | ⟨g, e, hg, hc⟩
 ·exact .inl h
 ·exact .inr ⟨g, e, Nat.lt_of_lt_of_le hg hb.size, fun k hk => (hb.cell (p := ⟨g, k, none⟩) hg).trans (hc k hk)⟩
theorem Txt.at {w : World} {ao : Option Addr} {K : List (List UInt8)} (h : Txt w ao K) {k : Nat} (hk : k < K.length) : ∃ g, ao = some ⟨g, 0, none⟩ ∧ g < w.heap.size ∧ w.cell? ⟨g, k, none⟩ = some (.string ⟨(K[k]'hk).toArray⟩) := by
 rcases h with rfl | ⟨g, e, hg, hc⟩
 ·exact absurd hk (Nat.not_lt_zero _)
 ·exact ⟨g, e, hg, hc k hk⟩
theorem txt_of {w : World} {base : Nat} {v : Value} {K : List (List UInt8)} {n : Nat} (hn : n = K.length) (h : w.ownsRow base 9 1 v n (K.map encStr)) : ∃ ao cap, v = .slice ao K.length cap ∧ Txt w ao K := by
 subst hn
 rcases h.2 with ⟨h1, h2⟩ | ⟨g, cap, cur, h1, h2, h3, h4⟩
 ·exact ⟨none, 0, by rw [h1, h2], .inl (List.eq_nil_of_length_eq_zero h2)⟩
 ·subst h1
  refine ⟨some ⟨g, 0, none⟩, cap, rfl, .inr ⟨g, rfl, (Array.getElem?_eq_some_iff.1 h3).1, fun k hk => ?_⟩⟩;rw [World.ownsRow.cellAt h k (by omega), List.getElem?_map, List.getElem?_eq_getElem hk]
  rfl
theorem sorted_ok (ao : Option Addr) (cap : Nat) (ps : List Pc) (w : World) (h : Fl w ao ps) (hr : fref ps = 0) :
  Calls Tryz.prog 258 #[.slice ao ps.length cap] w fun e w' => ∃ v S, e = .returned (.tuple #[v, .int .i64 0]) ∧ Srt ps S ∧ S.length ≤ ps.length ∧ Own w' w.heap.size v S ∧ bw w w' := by
 have HF := hdd h;have HR := hdd hr;have HI : Hid (ps.length ≤ 100 ∧ Fine ps ∧ tot ps ≤ 1000000000) := fref_in hr;have hl := HI.out.1;clear h hr
 go_enter Tryz.func258, Tryz.ntmps258
 go_wp2_with fail
 refine (refusal1 ao cap ps w HF.out).mono ?_;rintro e w1 ⟨rfl, hb⟩;rw [HR.out];have HB := hdd hb;clear hb
 go_wp2_with fail
 refine (volumes_any ao cap ps w1 (HF.out.next HB.out) HR.out).mono ?_;rintro e w2 ⟨rfl, hV, hb⟩;have HB2 : Hid (bw w w2) := HB.out.trans (hb.mono HB.out.size);obtain ⟨D, hD, hVo⟩ := hV;have HD := hdd hD;have HVo := hdd hVo;have HK : Hid ((strKeys D).Nodup ∧ (∀ x, x ∈ strKeys D ↔ has D (.string x) = true) ∧ (strKeys D).length ≤ ps.length ∧ Maps.size D ≤ ps.length) := keys_spec hD;clear hb hD hVo
 go_wp2_with fail
 refine (keysOf_any w1.heap.size w2).mono ?_;rintro e w3 ⟨rfl, rfl⟩
 go_wp2_with fail
 refine (callsIn_wide.1 (Tryz.slices_Sorted_keys_284_285 w1.heap.size ps.length D (plainElem Tryz.prog 3) w2 HD.out (by have := HK.out.2.2.2; unfold maxLen; omega) (by have := HK.out.2.2.2; omega))).mono ?_;rintro e w4 ⟨kv, ss, rfl, hperm, hrow, hnil, hb⟩;have hsl : ss.length = (ss.mergeSort (fun x y => decide (x ≤ y))).length := (List.length_mergeSort ss).symm;have HS : Hid (Srt ps ((ss.mergeSort (fun x y => decide (x ≤ y))).map (pcOf ps))) := sorted_keys HVo.out HK.out.1 HK.out.2.1 hperm;have hkl : (ss.mergeSort (fun x y => decide (x ≤ y))).length ≤ ps.length := by rw [← hsl, hperm.length_eq]; exact HK.out.2.2.1
 have hkb : ∀ k ∈ ss.mergeSort (fun x y => decide (x ≤ y)), k.length ≤ maxLen := fun k hk => strKeys_le HD.out Tryz.underlying9 k (((List.mergeSort_perm ss _).trans hperm).mem_iff.1 hk);clear hnil;obtain ⟨ak, ck, rfl, htx⟩ := txt_of hsl hrow;generalize ss.mergeSort (fun x y => decide (x ≤ y)) = K at *;have HKB := hdd hkb;have HTx := hdd htx;have HB4 : Hid (bw w2 w4) := ((brf).alloc (Nat.le_refl _) _).trans (hb.mono (by simp));have HB5 : Hid (bw w w4) := HB2.out.trans (HB4.out.mono HB2.out.size)
 have HV4 : Hid (w4.ownsMap Tryz.prog 9 (plainElem Tryz.prog 3) w1.heap.size ps.length D) := by
  obtain ⟨es, clock, h1, h2⟩ := HD.out;exact ⟨es, clock, (HB4.out.block _ (Array.getElem?_eq_some_iff.1 h1).1).trans h1, h2⟩
 clear hperm hrow hb hsl htx hkb HD HK;go_wp2
 go_loopw [6, 21] (fun v i wr => ∃ m : Nat, m ≤ K.length ∧ i = .int .i64 m ∧ Own wr w4.heap.size v ((K.take m).map (pcOf ps)) ∧ bw w4 wr) (fun _ i _ => K.length - (intOf i).toNat)
 case atStart => exact ⟨0, Nat.zero_le _, rfl, Own.nil _ _, brf⟩
 case round =>
  obtain ⟨m, hm, rfl, hown, hb⟩ := hrel;obtain ⟨a6, n6, c6, rfl⟩ := hown.form;have HO := hdd hown;have HB6 := hdd hb;clear hown hb
  by_cases hlt : m < K.length
  ·obtain ⟨g, rfl, hg, c0⟩ := (HTx.out.next HB6.out).at hlt
   have HT : Hid ((K.take (m + 1)).map (pcOf ps) = (K.take m).map (pcOf ps) ++ [pcOf ps (K[m]'hlt)]) := by
    rw [List.take_succ_eq_append_getElem hlt, List.map_append]; rfl
   have hkl2 := HKB.out _ (List.getElem_mem hlt);obtain ⟨l, hl2⟩ : ∃ l, K[m]'hlt = l := ⟨_, rfl⟩;rw [hl2] at c0 HT hkl2;clear hl2;obtain ⟨s, hs⟩ : ∃ s : ByteArray, s = ⟨l.toArray⟩ := ⟨_, rfl⟩;have hsd : s.data.toList = l := by rw [hs]
   have HP : Hid (pcOf ps l = (s, sumL ps s.data.toList)) := by rw [hsd]; unfold pcOf; rw [hs]; rfl
   have hsz : s.size ≤ maxLen := by rw [hs]; simpa [ByteArray.size] using hkl2
   rw [← hs] at c0;clear hs hsd hkl2;have hso := sumL_in HI.out.2.1.nn s.data.toList;have ht9 := HI.out.2.2;have HAt : Hid (D.atKey (.string s.data.toList) (.lit (.int .i64 0)) = .lit (.int .i64 (sumL ps s.data.toList))) := HVo.out.2.1 _
   have HMr : Hid (wr.ownsMap Tryz.prog 9 (plainElem Tryz.prog 3) w1.heap.size ps.length D) := by
    obtain ⟨es, clock, h1, h2⟩ := HV4.out;exact ⟨es, clock, (HB6.out.block _ (Array.getElem?_eq_some_iff.1 h1).1).trans h1, h2⟩
   have hws := HB6.out.size;have hlm : ((K.take m).map (pcOf ps)).length ≤ 100 := by rw [List.length_map, List.length_take]; omega
   generalize sumL ps s.data.toList = Sm at *
   go_wp2_with (first | (at_lookup; refine wpList_lookup_own_int _ rfl (.tmp 27) (.tmp 28) 330 rfl 9 3 .i64 law Tryz.underlying330 Tryz.underlying3 (zero3 _) w1.heap.size ps.length D rfl HMr.out (.string s) (.string s.data.toList) rfl (keyOf_string_mk Tryz.underlying9 hsz) ?_; intro c hat hwc; obtain rfl : Sm = c := (by have h := HAt.out.symm.trans hat; simpa using h); clear hat hwc) | (at_builtin; refine wpList_append_pc _ rfl (.tmp 25) (.tmp 31) rfl w4.heap.size (.slice a6 n6 c6) ((K.take m).map (pcOf ps)) rfl (HO.out.alloc _) wr.heap.size s Sm rfl (by go_simp) (by go_simp) (by omega) (by simp; omega) ?_; intro v' w7 ho hg7 _))
   have HO3 : Hid (Own w7 w4.heap.size v' ((K.take (m + 1)).map (pcOf ps))) := by rw [HT.out, HP.out]; exact ho
   have HB7 : Hid (bw w4 w7) := below_grown (v := .slice a6 n6 c6) (HB6.out.alloc hws _) (HO.out.alloc _) hg7 (by simp; omega);clear ho hg7;go_wp2
   go_roundw
   case rel => exact ⟨m + 1, by omega, by go_num, HO3.out, HB7.out⟩
   case measure => simp [intOf]; omega
  ·have e : K.take m = K := List.take_of_length_le (by omega)
   rw [e] at HO;clear e;go_wp2
   go_ret2
   exact ⟨.slice a6 n6 c6, K.map (pcOf ps), rfl, HS.out, by rw [List.length_map]; exact hkl, own_base HO.out HB5.out.size, HB5.out.trans (HB6.out.mono HB5.out.size)⟩
end Go.Proofs.YtcajifelbldjnaaGreatDoor.F
namespace Go.Proofs.YtcajifelbldjnaaGreatDoor.F
open Go.RowKit Go.Maps Go.WideMaps
open Go.RowKit Go.Maps Go.WideMaps
theorem Own.give {w : World} {base : Nat} {v : Value} {ps : List Pc} (h : Own w base v ps) (hs : ∀ p ∈ ps, p.1.size ≤ maxLen) : ∃ ao cap, v = .slice ao ps.length cap ∧ Fl w ao ps := by
 obtain ⟨ao, cap, rfl⟩ := h.shape;exact ⟨ao, cap, rfl, h.fl hs⟩
theorem fine_size {ps : List Pc} (h : fref ps = 0) : ∀ p ∈ ps, p.1.size ≤ maxLen := fun p hp => by
 have := lab_in ((fref_in h).2.1 p hp).1;unfold maxLen; omega
theorem srt_size {ps S : List Pc} (h : fref ps = 0) (hS : Srt ps S) : ∀ p ∈ S, p.1.size ≤ maxLen := fun p hp => by
 obtain ⟨q, hq, e⟩ := srt_labels (fref_in h).2.1.nn hS p hp;rw [← e]; exact fine_size h q hq
end Go.Proofs.YtcajifelbldjnaaGreatDoor.F
namespace Go.Proofs.YtcajifelbldjnaaGreatDoor
open Go.RowKit
structure Wr where
 name : ByteArray
 kind : Int
 rows : Int
 cols : Int
 x : Int
 y : Int
 pitch : Int
 wid : Int
 len : Int
 hei : Int
 deep : Int
 cap : Int
abbrev wcs (a : Wr) : Array Value := #[.string a.name, .int .i64 a.kind, .int .i64 a.rows, .int .i64 a.cols, .int .i64 a.x, .int .i64 a.y, .int .i64 a.pitch, .int .i64 a.wid, .int .i64 a.len, .int .i64 a.hei, .int .i64 a.deep, .int .i64 a.cap]
abbrev wv (a : Wr) : Value := .agg (wcs a)
abbrev wobj (a : Wr) : Obj := .cells (wcs a) 84
theorem new_three (x y z : Int) (w : World) (t : Nat) : IsInts [x, y, z] (.slice (some ⟨w.heap.size, 0, none⟩) 3 3) (w.alloc (.cells #[.int .i64 x, .int .i64 y, .int .i64 z] t)) :=
 ⟨_, rfl, fun k hk => by
  rcases (show k = 0 ∨ k = 1 ∨ k = 2 by simp at hk; omega) with e | e | e
  all_goals (subst e; simp [go_sem])⟩
theorem every_v (xs : List Int) (lo hi : Int) (b : Bool) (hb : xs.all (inR lo hi) = b) (v c : Value) (w : World) (hn : xs.length ≤ 100) (hc : IsClo lo hi c w) (hv : IsInts xs v w) :
  Calls Tryz.prog 122 #[c, v] w fun e w' => e = .returned (.bool b) ∧ w' = w := by
 subst hb; exact every_is xs lo hi v c w hn hc hv
def loP (a : Wr) : Int := if 1 < a.rows * a.cols then 1 else 0
def loC (a : Wr) : Int := if a.kind = 3 then 0 else 1
def hiC (a : Wr) : Int := if a.kind = 3 then 0 else 1000000000
def rangeOk (a : Wr) : Bool := [a.x, a.y, a.deep].all (inR 0 200000) && [a.pitch].all (inR (loP a) 200000) && [a.wid, a.len, a.hei].all (inR 1 200000) && [a.cap].all (inR (loC a) (hiC a))
def measV (a : Wr) (lo hlo hhi : Int) (b1 c1 c2 c3 : Bool) (B : Nat) (d : Nat) (v : Value) (w : World) : Prop :=
 match d with
 | 16 => IsClo 0 200000 v w
 | 17 => v = .pointer (some ⟨B, 4, none⟩)
 | 18 => v = .int .i64 a.x
 | 19 => v = .pointer (some ⟨B, 5, none⟩)
 | 20 => v = .int .i64 a.y
 | 21 => v = .pointer (some ⟨B, 10, none⟩)
 | 22 => v = .int .i64 a.deep
 | 23 => IsInts [a.x, a.y, a.deep] v w
 | 24 | 25 => v = .bool b1
 | 26 => b1 = true → v = .int .i64 lo
 | 27 => b1 = true → IsClo lo 200000 v w
 | 28 => b1 = true → v = .pointer (some ⟨B, 6, none⟩)
 | 29 => b1 = true → v = .int .i64 a.pitch
 | 30 => b1 = true → IsInts [a.pitch] v w
 | 31 => b1 = true → v = .bool c1
 | 32 | 33 => v = .bool (b1 && c1)
 | 34 => (b1 && c1) = true → IsClo 1 200000 v w
 | 35 => (b1 && c1) = true → v = .pointer (some ⟨B, 7, none⟩)
 | 36 => (b1 && c1) = true → v = .int .i64 a.wid
 | 37 => (b1 && c1) = true → v = .pointer (some ⟨B, 8, none⟩)
 | 38 => (b1 && c1) = true → v = .int .i64 a.len
 | 39 => (b1 && c1) = true → v = .pointer (some ⟨B, 9, none⟩)
 | 40 => (b1 && c1) = true → v = .int .i64 a.hei
 | 41 => (b1 && c1) = true → IsInts [a.wid, a.len, a.hei] v w
 | 42 => (b1 && c1) = true → v = .bool c2
 | 43 | 44 => v = .bool (b1 && c1 && c2)
 | 45 => (b1 && c1 && c2) = true → IsClo hlo hhi v w
 | 46 => (b1 && c1 && c2) = true → v = .pointer (some ⟨B, 11, none⟩)
 | 47 => (b1 && c1 && c2) = true → v = .int .i64 a.cap
 | 48 => (b1 && c1 && c2) = true → IsInts [a.cap] v w
 | 49 => (b1 && c1 && c2) = true → v = .bool c3
 | 50 | 2 => v = .bool (b1 && c1 && c2 && c3)
 | _ => True
theorem measV_mono (a : Wr) (lo hlo hhi : Int) (b1 c1 c2 c3 : Bool) (B : Nat) (d : Nat) (v : Value) (w w' : World) (h : measV a lo hlo hhi b1 c1 c2 c3 B d v w) (hb : bw w w') : measV a lo hlo hhi b1 c1 c2 c3 B d v w' := by
 unfold measV at h ⊢
 split <;> simp only [] at h <;> first | exact h | exact h.later hb | exact fun g => (h g).later hb
theorem isMeasured_00 (a : Wr) (w : World) (hr0 : 0 ≤ a.rows * a.cols) (hr1 : a.rows * a.cols ≤ 384) (hm : a.rows * a.cols ≤ 1) (hk : (a.kind == 3) = false) (b1 c1 c2 c3 : Bool)
  (hb1 : [a.x, a.y, a.deep].all (inR 0 200000) = b1) (hc1 : [a.pitch].all (inR 0 200000) = c1) (hc2 : [a.wid, a.len, a.hei].all (inR 1 200000) = c2) (hc3 : [a.cap].all (inR 1 1000000000) = c3) :
  CR 124 #[wv a] w (.bool (b1 && c1 && c2 && c3)) := by
 go_enter Tryz.func124, Tryz.ntmps124
 go_wp2_with (go_at_call 123; refine (within_int _ _ _).mono ?_; rintro e w2 ⟨rfl, rfl⟩)
 obtain ⟨W, hW⟩ : ∃ W, W = (((w.alloc (wobj a)).alloc (.cells #[.int .i64 1] 3)).alloc (.cells #[.int .i64 1000000000] 3)) := ⟨_, rfl⟩
 have hB : Below (w.alloc (wobj a)).heap.size (w.alloc (wobj a)) W := by
  rw [hW]
  repeat (first | exact brf | refine Below.alloc ?_ (by simp; omega) _ | refine Below.alloc ?_ (by simp) _)
 have hp0 : W.cell? ⟨w.heap.size + 1, 0, none⟩ = some (.int .i64 1) := by rw [hW]; go_simp
 have hp1 : W.cell? ⟨w.heap.size + 1 + 1, 0, none⟩ = some (.int .i64 1000000000) := by rw [hW]; go_simp
 rw [← hW];clear hW
 refine region_inv [zf,zf,zt,zf,zf,zf,zf,zf,zf,zf,zf,zf,zf,zf,zf,zf,zt,zt,zt,zt,zt,zt,zt,zt,zt,zt,zt,zt,zt,zt,zt,zt,zt,zt,zt,zt,zt,zt,zt,zt,zt,zt,zt,zt,zt,zt,zt,zt,zt,zt,zt]
  [(16, [], none), (17, [], none), (18, [17], none), (19, [], none), (20, [19], none), (21, [], none), (22, [21], none), (23, [18, 20, 22], none), (24, [16, 23], none), (25, [24], none), (26, [25], some (25, true)), (27, [25, 26], some (25, true)), (28, [25], some (25, true)), (29, [25, 28], some (25, true)), (30, [25, 29], some (25, true)), (31, [25, 27, 30], some (25, true)), (32, [25, 31], none), (33, [32], none), (34, [33], some (33, true)), (35, [33], some (33, true)), (36, [33, 35], some (33, true)), (37, [33], some (33, true)), (38, [33, 37], some (33, true)), (39, [33], some (33, true)), (40, [33, 39], some (33, true)), (41, [33, 36, 38, 40], some (33, true)), (42, [33, 34, 41], some (33, true)), (43, [33, 42], none), (44, [43], none), (45, [44], some (44, true)), (46, [44], some (44, true)), (47, [44, 46], some (44, true)), (48, [44, 47], some (44, true)), (49, [44, 45, 48], some (44, true)), (50, [44, 49], none), (2, [50], none)]
  (measV a 0 1 1000000000 b1 c1 c2 c3 w.heap.size) (by kernel_rfl) (by kernel_rfl) (measV_mono a 0 1 1000000000 b1 c1 c2 c3 w.heap.size) ?_ ?_
 ·refine ⟨?_, ?_, ?_, ?_, ?_, ?_, ?_, ?_, ?_, ?_, ?_, ?_, ?_, ?_, ?_, ?_, ?_, ?_, ?_, ?_, ?_, ?_, ?_, ?_, ?_, ?_, ?_, ?_, ?_, ?_, ?_, ?_, ?_, ?_, ?_, ?_, trivial⟩
  any_goals first | (intro f w1 hb _ K hK; simp only [over, overL]; go_simp; exact hK _ _ ⟨_, rfl, by simp only [over, overL]; rfl, brf⟩) | fail
  any_goals first | (intro f w1 hb hh K hK; simp only [AllV, measV] at hh; simp only [over, overL, hh]; go_simp; exact hK _ _ ⟨_, rfl, by simp only [over, overL, hh]; rfl, brf⟩) | fail
  ·intro f w1 hb _ K hK
   simp only [over, overL];go_simp;refine (within_is _ _ _).mono ?_;rintro e w2 ⟨v, rfl, hv, hb2⟩;exact hK _ _ ⟨_, hv, by simp only [over, overL]; rfl, hb2⟩
  ·rintro f w1 hb ⟨(h17 : f 17 = _), _⟩ K hK
   have cl : w1.cell? ⟨w.heap.size, 4, none⟩ = some (.int .i64 a.x) := cell_later hb (cell_later hB (by go_simp));simp only [over, overL, h17];go_simp;exact hK _ _ ⟨_, rfl, by simp only [over, overL, h17]; rfl, brf⟩
  ·rintro f w1 hb ⟨(h19 : f 19 = _), _⟩ K hK
   have cl : w1.cell? ⟨w.heap.size, 5, none⟩ = some (.int .i64 a.y) := cell_later hb (cell_later hB (by go_simp));simp only [over, overL, h19];go_simp;exact hK _ _ ⟨_, rfl, by simp only [over, overL, h19]; rfl, brf⟩
  ·rintro f w1 hb ⟨(h21 : f 21 = _), _⟩ K hK
   have cl : w1.cell? ⟨w.heap.size, 10, none⟩ = some (.int .i64 a.deep) := cell_later hb (cell_later hB (by go_simp));simp only [over, overL, h21];go_simp;exact hK _ _ ⟨_, rfl, by simp only [over, overL, h21]; rfl, brf⟩
  ·rintro f w1 hb ⟨(h18 : f 18 = _), (h20 : f 20 = _), (h22 : f 22 = _), _⟩ K hK
   simp only [over, overL, h18, h20, h22];go_simp;exact hK _ _ ⟨_, new_three _ _ _ _ _, by simp only [over, overL, h18, h20, h22]; rfl, (brf).alloc (Nat.le_refl _) _⟩
  ·intro f w1 hb ⟨h16, h23, _⟩ K hK
   simp only [over, overL];go_simp;refine (every_v [a.x, a.y, a.deep] 0 200000 b1 hb1 _ _ _ (by simp) h16 h23).mono ?_;rintro e w2 ⟨rfl, hw⟩;exact hK _ _ ⟨_, rfl, by simp only [over, overL]; rfl, hw ▸ brf⟩
  ·rintro f w1 hb ⟨(h25 : f 25 = _), _⟩
   refine ⟨fun hg => ?_, fun hg => ?_⟩
   rotate_left
   ·intro hG; exact absurd (h25.trans (by rw [hG])) hg
   have hG := Value.bool.inj (h25.symm.trans hg);intro K hK;simp only [over, overL, h25, hG];go_simp;exact hK _ _ ⟨_, (fun _ => rfl), by simp only [over, overL, h25, hG]; rfl, brf⟩
  ·rintro f w1 hb ⟨(h25 : f 25 = _), h26, _⟩
   refine ⟨fun hg => ?_, fun hg => ?_⟩
   rotate_left
   ·intro hG; exact absurd (h25.trans (by rw [hG])) hg
   have hG := Value.bool.inj (h25.symm.trans hg);intro K hK;have h26 : f 26 = _ := h26 hG;simp only [over, overL, h25, h26, hG];go_simp;refine (within_is _ _ _).mono ?_;rintro e w2 ⟨v, rfl, hv, hb2⟩;exact hK _ _ ⟨_, (fun _ => hv), by simp only [over, overL, h25, h26, hG]; rfl, hb2⟩
  ·rintro f w1 hb ⟨(h25 : f 25 = _), _⟩
   refine ⟨fun hg => ?_, fun hg => ?_⟩
   rotate_left
   ·intro hG; exact absurd (h25.trans (by rw [hG])) hg
   have hG := Value.bool.inj (h25.symm.trans hg);intro K hK;simp only [over, overL, h25, hG];go_simp;exact hK _ _ ⟨_, (fun _ => rfl), by simp only [over, overL, h25, hG]; rfl, brf⟩
  ·rintro f w1 hb ⟨(h25 : f 25 = _), h28, _⟩
   refine ⟨fun hg => ?_, fun hg => ?_⟩
   rotate_left
   ·intro hG; exact absurd (h25.trans (by rw [hG])) hg
   have hG := Value.bool.inj (h25.symm.trans hg);intro K hK;have h28 : f 28 = _ := h28 hG;have cl : w1.cell? ⟨w.heap.size, 6, none⟩ = some (.int .i64 a.pitch) := cell_later hb (cell_later hB (by go_simp));simp only [over, overL, h25, h28, hG];go_simp;exact hK _ _ ⟨_, (fun _ => rfl), by simp only [over, overL, h25, h28, hG]; rfl, brf⟩
  ·rintro f w1 hb ⟨(h25 : f 25 = _), h29, _⟩
   refine ⟨fun hg => ?_, fun hg => ?_⟩
   rotate_left
   ·intro hG; exact absurd (h25.trans (by rw [hG])) hg
   have hG := Value.bool.inj (h25.symm.trans hg);intro K hK;have h29 : f 29 = _ := h29 hG;simp only [over, overL, h25, h29, hG];go_simp;exact hK _ _ ⟨_, (fun _ => new_one _ _ _), by simp only [over, overL, h25, h29, hG]; rfl, (brf).alloc (Nat.le_refl _) _⟩
  ·rintro f w1 hb ⟨(h25 : f 25 = _), h27, h30, _⟩
   refine ⟨fun hg => ?_, fun hg => ?_⟩
   rotate_left
   ·intro hG; exact absurd (h25.trans (by rw [hG])) hg
   have hG := Value.bool.inj (h25.symm.trans hg);intro K hK;replace h27 := h27 hG;replace h30 := h30 hG;simp only [over, overL, h25, hG];go_simp;refine (every_v [a.pitch] 0 200000 c1 hc1 _ _ _ (by simp) h27 h30).mono ?_;rintro e w2 ⟨rfl, hw⟩;exact hK _ _ ⟨_, (fun _ => rfl), by simp only [over, overL, h25, hG]; rfl, hw ▸ brf⟩
  ·rintro f w1 hb ⟨(h25 : f 25 = _), h31, _⟩ K hK
   have h31 : b1 = true → f 31 = _ := h31
   cases hG : b1 with
   | false =>
    rw [hG] at h25;simp only [over, overL, h25];go_simp;exact hK _ _ ⟨.bool false, by simp [measV, hG], by simp only [over, overL, h25]; rfl, brf⟩
   | true =>
    have h31 := h31 hG;rw [hG] at h25;simp only [over, overL, h25, h31];go_simp;exact hK _ _ ⟨.bool c1, by simp [measV, hG], by simp only [over, overL, h25, h31]; rfl, brf⟩
  ·rintro f w1 hb ⟨(h33 : f 33 = _), _⟩
   refine ⟨fun hg => ?_, fun hg => ?_⟩
   rotate_left
   ·intro hG; exact absurd (h33.trans (by rw [hG])) hg
   have hG := Value.bool.inj (h33.symm.trans hg);intro K hK;simp only [over, overL, h33, hG];go_simp;refine (within_is _ _ _).mono ?_;rintro e w2 ⟨v, rfl, hv, hb2⟩;exact hK _ _ ⟨_, (fun _ => hv), by simp only [over, overL, h33, hG]; rfl, hb2⟩
  ·rintro f w1 hb ⟨(h33 : f 33 = _), _⟩
   refine ⟨fun hg => ?_, fun hg => ?_⟩
   rotate_left
   ·intro hG; exact absurd (h33.trans (by rw [hG])) hg
   have hG := Value.bool.inj (h33.symm.trans hg);intro K hK;simp only [over, overL, h33, hG];go_simp;exact hK _ _ ⟨_, (fun _ => rfl), by simp only [over, overL, h33, hG]; rfl, brf⟩
  ·rintro f w1 hb ⟨(h33 : f 33 = _), h35, _⟩
   refine ⟨fun hg => ?_, fun hg => ?_⟩
   rotate_left
   ·intro hG; exact absurd (h33.trans (by rw [hG])) hg
   have hG := Value.bool.inj (h33.symm.trans hg);intro K hK;have h35 : f 35 = _ := h35 hG;have cl : w1.cell? ⟨w.heap.size, 7, none⟩ = some (.int .i64 a.wid) := cell_later hb (cell_later hB (by go_simp));simp only [over, overL, h33, h35, hG];go_simp;exact hK _ _ ⟨_, (fun _ => rfl), by simp only [over, overL, h33, h35, hG]; rfl, brf⟩
  ·rintro f w1 hb ⟨(h33 : f 33 = _), _⟩
   refine ⟨fun hg => ?_, fun hg => ?_⟩
   rotate_left
   ·intro hG; exact absurd (h33.trans (by rw [hG])) hg
   have hG := Value.bool.inj (h33.symm.trans hg);intro K hK;simp only [over, overL, h33, hG];go_simp;exact hK _ _ ⟨_, (fun _ => rfl), by simp only [over, overL, h33, hG]; rfl, brf⟩
  ·rintro f w1 hb ⟨(h33 : f 33 = _), h37, _⟩
   refine ⟨fun hg => ?_, fun hg => ?_⟩
   rotate_left
   ·intro hG; exact absurd (h33.trans (by rw [hG])) hg
   have hG := Value.bool.inj (h33.symm.trans hg);intro K hK;have h37 : f 37 = _ := h37 hG;have cl : w1.cell? ⟨w.heap.size, 8, none⟩ = some (.int .i64 a.len) := cell_later hb (cell_later hB (by go_simp));simp only [over, overL, h33, h37, hG];go_simp;exact hK _ _ ⟨_, (fun _ => rfl), by simp only [over, overL, h33, h37, hG]; rfl, brf⟩
  ·rintro f w1 hb ⟨(h33 : f 33 = _), _⟩
   refine ⟨fun hg => ?_, fun hg => ?_⟩
   rotate_left
   ·intro hG; exact absurd (h33.trans (by rw [hG])) hg
   have hG := Value.bool.inj (h33.symm.trans hg);intro K hK;simp only [over, overL, h33, hG];go_simp;exact hK _ _ ⟨_, (fun _ => rfl), by simp only [over, overL, h33, hG]; rfl, brf⟩
  ·rintro f w1 hb ⟨(h33 : f 33 = _), h39, _⟩
   refine ⟨fun hg => ?_, fun hg => ?_⟩
   rotate_left
   ·intro hG; exact absurd (h33.trans (by rw [hG])) hg
   have hG := Value.bool.inj (h33.symm.trans hg);intro K hK;have h39 : f 39 = _ := h39 hG;have cl : w1.cell? ⟨w.heap.size, 9, none⟩ = some (.int .i64 a.hei) := cell_later hb (cell_later hB (by go_simp));simp only [over, overL, h33, h39, hG];go_simp;exact hK _ _ ⟨_, (fun _ => rfl), by simp only [over, overL, h33, h39, hG]; rfl, brf⟩
  ·rintro f w1 hb ⟨(h33 : f 33 = _), h36, h38, h40, _⟩
   refine ⟨fun hg => ?_, fun hg => ?_⟩
   rotate_left
   ·intro hG; exact absurd (h33.trans (by rw [hG])) hg
   have hG := Value.bool.inj (h33.symm.trans hg);intro K hK;have h36 : f 36 = _ := h36 hG;have h38 : f 38 = _ := h38 hG;have h40 : f 40 = _ := h40 hG;simp only [over, overL, h33, h36, h38, h40, hG];go_simp;exact hK _ _ ⟨_, (fun _ => new_three _ _ _ _ _), by simp only [over, overL, h33, h36, h38, h40, hG]; rfl, (brf).alloc (Nat.le_refl _) _⟩
  ·rintro f w1 hb ⟨(h33 : f 33 = _), h34, h41, _⟩
   refine ⟨fun hg => ?_, fun hg => ?_⟩
   rotate_left
   ·intro hG; exact absurd (h33.trans (by rw [hG])) hg
   have hG := Value.bool.inj (h33.symm.trans hg);intro K hK;replace h34 := h34 hG;replace h41 := h41 hG;simp only [over, overL, h33, hG];go_simp;refine (every_v [a.wid, a.len, a.hei] 1 200000 c2 hc2 _ _ _ (by simp) h34 h41).mono ?_;rintro e w2 ⟨rfl, hw⟩;exact hK _ _ ⟨_, (fun _ => rfl), by simp only [over, overL, h33, hG]; rfl, hw ▸ brf⟩
  ·rintro f w1 hb ⟨(h33 : f 33 = _), h42, _⟩ K hK
   have h42 : (b1 && c1) = true → f 42 = _ := h42
   cases hG : (b1 && c1) with
   | false =>
    rw [hG] at h33;simp only [over, overL, h33];go_simp;exact hK _ _ ⟨.bool false, by simp [measV, hG], by simp only [over, overL, h33]; rfl, brf⟩
   | true =>
    have h42 := h42 hG;rw [hG] at h33;simp only [over, overL, h33, h42];go_simp;exact hK _ _ ⟨.bool c2, by simp [measV, hG], by simp only [over, overL, h33, h42]; rfl, brf⟩
  ·rintro f w1 hb ⟨(h44 : f 44 = _), _⟩
   refine ⟨fun hg => ?_, fun hg => ?_⟩
   rotate_left
   ·intro hG; exact absurd (h44.trans (by rw [hG])) hg
   have hG := Value.bool.inj (h44.symm.trans hg);intro K hK;simp only [over, overL, h44, hG];go_simp;exact hK _ _ ⟨_, (fun _ => ⟨_, _, rfl, cell_later hb hp0, cell_later hb hp1⟩), by simp only [over, overL, h44, hG]; rfl, brf⟩
  ·rintro f w1 hb ⟨(h44 : f 44 = _), _⟩
   refine ⟨fun hg => ?_, fun hg => ?_⟩
   rotate_left
   ·intro hG; exact absurd (h44.trans (by rw [hG])) hg
   have hG := Value.bool.inj (h44.symm.trans hg);intro K hK;simp only [over, overL, h44, hG];go_simp;exact hK _ _ ⟨_, (fun _ => rfl), by simp only [over, overL, h44, hG]; rfl, brf⟩
  ·rintro f w1 hb ⟨(h44 : f 44 = _), h46, _⟩
   refine ⟨fun hg => ?_, fun hg => ?_⟩
   rotate_left
   ·intro hG; exact absurd (h44.trans (by rw [hG])) hg
   have hG := Value.bool.inj (h44.symm.trans hg);intro K hK;have h46 : f 46 = _ := h46 hG;have cl : w1.cell? ⟨w.heap.size, 11, none⟩ = some (.int .i64 a.cap) := cell_later hb (cell_later hB (by go_simp));simp only [over, overL, h44, h46, hG];go_simp;exact hK _ _ ⟨_, (fun _ => rfl), by simp only [over, overL, h44, h46, hG]; rfl, brf⟩
  ·rintro f w1 hb ⟨(h44 : f 44 = _), h47, _⟩
   refine ⟨fun hg => ?_, fun hg => ?_⟩
   rotate_left
   ·intro hG; exact absurd (h44.trans (by rw [hG])) hg
   have hG := Value.bool.inj (h44.symm.trans hg);intro K hK;have h47 : f 47 = _ := h47 hG;simp only [over, overL, h44, h47, hG];go_simp;exact hK _ _ ⟨_, (fun _ => new_one _ _ _), by simp only [over, overL, h44, h47, hG]; rfl, (brf).alloc (Nat.le_refl _) _⟩
  ·rintro f w1 hb ⟨(h44 : f 44 = _), h45, h48, _⟩
   refine ⟨fun hg => ?_, fun hg => ?_⟩
   rotate_left
   ·intro hG; exact absurd (h44.trans (by rw [hG])) hg
   have hG := Value.bool.inj (h44.symm.trans hg);intro K hK;replace h45 := h45 hG;replace h48 := h48 hG;simp only [over, overL, h44, hG];go_simp;refine (every_v [a.cap] 1 1000000000 c3 hc3 _ _ _ (by simp) h45 h48).mono ?_;rintro e w2 ⟨rfl, hw⟩;exact hK _ _ ⟨_, (fun _ => rfl), by simp only [over, overL, h44, hG]; rfl, hw ▸ brf⟩
  ·rintro f w1 hb ⟨(h44 : f 44 = _), h49, _⟩ K hK
   have h49 : (b1 && c1 && c2) = true → f 49 = _ := h49
   cases hG : (b1 && c1 && c2) with
   | false =>
    rw [hG] at h44;simp only [over, overL, h44];go_simp;exact hK _ _ ⟨.bool false, by simp [measV, hG], by simp only [over, overL, h44]; rfl, brf⟩
   | true =>
    have h49 := h49 hG;rw [hG] at h44;simp only [over, overL, h44, h49];go_simp;exact hK _ _ ⟨.bool c3, by simp [measV, hG], by simp only [over, overL, h44, h49]; rfl, brf⟩
 ·intro f w1 hb h
  have h2 : f 2 = .bool (b1 && c1 && c2 && c3) := h.2.2.2.2.2.2.2.2.2.2.2.2.2.2.2.2.2.2.2.2.2.2.2.2.2.2.2.2.2.2.2.2.2.2.2.1;simp only [over, overL, h2, Nat.reduceAdd];go_wp2;go_ret;exact ⟨rfl, ((brf).alloc (Nat.le_refl _) _).trans ((hB.mono (by simp)).trans (hb.mono (by have := hB.size; simp at this; omega)))⟩
theorem isMeasured_01 (a : Wr) (w : World) (hr0 : 0 ≤ a.rows * a.cols) (hr1 : a.rows * a.cols ≤ 384) (hm : a.rows * a.cols ≤ 1) (hk : a.kind = 3) (b1 c1 c2 c3 : Bool)
  (hb1 : [a.x, a.y, a.deep].all (inR 0 200000) = b1) (hc1 : [a.pitch].all (inR 0 200000) = c1) (hc2 : [a.wid, a.len, a.hei].all (inR 1 200000) = c2) (hc3 : [a.cap].all (inR 0 0) = c3) :
  CR 124 #[wv a] w (.bool (b1 && c1 && c2 && c3)) := by
 go_enter Tryz.func124, Tryz.ntmps124
 go_wp2_with (go_at_call 123; refine (within_int _ _ _).mono ?_; rintro e w2 ⟨rfl, rfl⟩)
 obtain ⟨W, hW⟩ : ∃ W, W = (((((w.alloc (wobj a)).alloc (.cells #[.int .i64 1] 3)).alloc (.cells #[.int .i64 1000000000] 3)).alloc (.cells #[.int .i64 0] 3)).alloc (.cells #[.int .i64 0] 3)) := ⟨_, rfl⟩
 have hB : Below (w.alloc (wobj a)).heap.size (w.alloc (wobj a)) W := by
  rw [hW]
  repeat (first | exact brf | refine Below.alloc ?_ (by simp; omega) _ | refine Below.alloc ?_ (by simp) _)
 have hp0 : W.cell? ⟨w.heap.size + 1 + 1 + 1, 0, none⟩ = some (.int .i64 0) := by rw [hW]; go_simp
 have hp1 : W.cell? ⟨w.heap.size + 1 + 1 + 1 + 1, 0, none⟩ = some (.int .i64 0) := by rw [hW]; go_simp
 rw [← hW];clear hW
 refine region_inv [zf,zf,zt,zf,zf,zf,zf,zf,zf,zf,zf,zf,zf,zf,zf,zf,zt,zt,zt,zt,zt,zt,zt,zt,zt,zt,zt,zt,zt,zt,zt,zt,zt,zt,zt,zt,zt,zt,zt,zt,zt,zt,zt,zt,zt,zt,zt,zt,zt,zt,zt]
  [(16, [], none), (17, [], none), (18, [17], none), (19, [], none), (20, [19], none), (21, [], none), (22, [21], none), (23, [18, 20, 22], none), (24, [16, 23], none), (25, [24], none), (26, [25], some (25, true)), (27, [25, 26], some (25, true)), (28, [25], some (25, true)), (29, [25, 28], some (25, true)), (30, [25, 29], some (25, true)), (31, [25, 27, 30], some (25, true)), (32, [25, 31], none), (33, [32], none), (34, [33], some (33, true)), (35, [33], some (33, true)), (36, [33, 35], some (33, true)), (37, [33], some (33, true)), (38, [33, 37], some (33, true)), (39, [33], some (33, true)), (40, [33, 39], some (33, true)), (41, [33, 36, 38, 40], some (33, true)), (42, [33, 34, 41], some (33, true)), (43, [33, 42], none), (44, [43], none), (45, [44], some (44, true)), (46, [44], some (44, true)), (47, [44, 46], some (44, true)), (48, [44, 47], some (44, true)), (49, [44, 45, 48], some (44, true)), (50, [44, 49], none), (2, [50], none)]
  (measV a 0 0 0 b1 c1 c2 c3 w.heap.size) (by kernel_rfl) (by kernel_rfl) (measV_mono a 0 0 0 b1 c1 c2 c3 w.heap.size) ?_ ?_
 ·refine ⟨?_, ?_, ?_, ?_, ?_, ?_, ?_, ?_, ?_, ?_, ?_, ?_, ?_, ?_, ?_, ?_, ?_, ?_, ?_, ?_, ?_, ?_, ?_, ?_, ?_, ?_, ?_, ?_, ?_, ?_, ?_, ?_, ?_, ?_, ?_, ?_, trivial⟩
  any_goals first | (intro f w1 hb _ K hK; simp only [over, overL]; go_simp; exact hK _ _ ⟨_, rfl, by simp only [over, overL]; rfl, brf⟩) | fail
  any_goals first | (intro f w1 hb hh K hK; simp only [AllV, measV] at hh; simp only [over, overL, hh]; go_simp; exact hK _ _ ⟨_, rfl, by simp only [over, overL, hh]; rfl, brf⟩) | fail
  ·intro f w1 hb _ K hK
   simp only [over, overL];go_simp;refine (within_is _ _ _).mono ?_;rintro e w2 ⟨v, rfl, hv, hb2⟩;exact hK _ _ ⟨_, hv, by simp only [over, overL]; rfl, hb2⟩
  ·rintro f w1 hb ⟨(h17 : f 17 = _), _⟩ K hK
   have cl : w1.cell? ⟨w.heap.size, 4, none⟩ = some (.int .i64 a.x) := cell_later hb (cell_later hB (by go_simp));simp only [over, overL, h17];go_simp;exact hK _ _ ⟨_, rfl, by simp only [over, overL, h17]; rfl, brf⟩
  ·rintro f w1 hb ⟨(h19 : f 19 = _), _⟩ K hK
   have cl : w1.cell? ⟨w.heap.size, 5, none⟩ = some (.int .i64 a.y) := cell_later hb (cell_later hB (by go_simp));simp only [over, overL, h19];go_simp;exact hK _ _ ⟨_, rfl, by simp only [over, overL, h19]; rfl, brf⟩
  ·rintro f w1 hb ⟨(h21 : f 21 = _), _⟩ K hK
   have cl : w1.cell? ⟨w.heap.size, 10, none⟩ = some (.int .i64 a.deep) := cell_later hb (cell_later hB (by go_simp));simp only [over, overL, h21];go_simp;exact hK _ _ ⟨_, rfl, by simp only [over, overL, h21]; rfl, brf⟩
  ·rintro f w1 hb ⟨(h18 : f 18 = _), (h20 : f 20 = _), (h22 : f 22 = _), _⟩ K hK
   simp only [over, overL, h18, h20, h22];go_simp;exact hK _ _ ⟨_, new_three _ _ _ _ _, by simp only [over, overL, h18, h20, h22]; rfl, (brf).alloc (Nat.le_refl _) _⟩
  ·intro f w1 hb ⟨h16, h23, _⟩ K hK
   simp only [over, overL];go_simp;refine (every_v [a.x, a.y, a.deep] 0 200000 b1 hb1 _ _ _ (by simp) h16 h23).mono ?_;rintro e w2 ⟨rfl, hw⟩;exact hK _ _ ⟨_, rfl, by simp only [over, overL]; rfl, hw ▸ brf⟩
  ·rintro f w1 hb ⟨(h25 : f 25 = _), _⟩
   refine ⟨fun hg => ?_, fun hg => ?_⟩
   rotate_left
   ·intro hG; exact absurd (h25.trans (by rw [hG])) hg
   have hG := Value.bool.inj (h25.symm.trans hg);intro K hK;simp only [over, overL, h25, hG];go_simp;exact hK _ _ ⟨_, (fun _ => rfl), by simp only [over, overL, h25, hG]; rfl, brf⟩
  ·rintro f w1 hb ⟨(h25 : f 25 = _), h26, _⟩
   refine ⟨fun hg => ?_, fun hg => ?_⟩
   rotate_left
   ·intro hG; exact absurd (h25.trans (by rw [hG])) hg
   have hG := Value.bool.inj (h25.symm.trans hg);intro K hK;have h26 : f 26 = _ := h26 hG;simp only [over, overL, h25, h26, hG];go_simp;refine (within_is _ _ _).mono ?_;rintro e w2 ⟨v, rfl, hv, hb2⟩;exact hK _ _ ⟨_, (fun _ => hv), by simp only [over, overL, h25, h26, hG]; rfl, hb2⟩
  ·rintro f w1 hb ⟨(h25 : f 25 = _), _⟩
   refine ⟨fun hg => ?_, fun hg => ?_⟩
   rotate_left
   ·intro hG; exact absurd (h25.trans (by rw [hG])) hg
   have hG := Value.bool.inj (h25.symm.trans hg);intro K hK;simp only [over, overL, h25, hG];go_simp;exact hK _ _ ⟨_, (fun _ => rfl), by simp only [over, overL, h25, hG]; rfl, brf⟩
  ·rintro f w1 hb ⟨(h25 : f 25 = _), h28, _⟩
   refine ⟨fun hg => ?_, fun hg => ?_⟩
   rotate_left
   ·intro hG; exact absurd (h25.trans (by rw [hG])) hg
   have hG := Value.bool.inj (h25.symm.trans hg);intro K hK;have h28 : f 28 = _ := h28 hG;have cl : w1.cell? ⟨w.heap.size, 6, none⟩ = some (.int .i64 a.pitch) := cell_later hb (cell_later hB (by go_simp));simp only [over, overL, h25, h28, hG];go_simp;exact hK _ _ ⟨_, (fun _ => rfl), by simp only [over, overL, h25, h28, hG]; rfl, brf⟩
  ·rintro f w1 hb ⟨(h25 : f 25 = _), h29, _⟩
   refine ⟨fun hg => ?_, fun hg => ?_⟩
   rotate_left
   ·intro hG; exact absurd (h25.trans (by rw [hG])) hg
   have hG := Value.bool.inj (h25.symm.trans hg);intro K hK;have h29 : f 29 = _ := h29 hG;simp only [over, overL, h25, h29, hG];go_simp;exact hK _ _ ⟨_, (fun _ => new_one _ _ _), by simp only [over, overL, h25, h29, hG]; rfl, (brf).alloc (Nat.le_refl _) _⟩
  ·rintro f w1 hb ⟨(h25 : f 25 = _), h27, h30, _⟩
   refine ⟨fun hg => ?_, fun hg => ?_⟩
   rotate_left
   ·intro hG; exact absurd (h25.trans (by rw [hG])) hg
   have hG := Value.bool.inj (h25.symm.trans hg);intro K hK;replace h27 := h27 hG;replace h30 := h30 hG;simp only [over, overL, h25, hG];go_simp;refine (every_v [a.pitch] 0 200000 c1 hc1 _ _ _ (by simp) h27 h30).mono ?_;rintro e w2 ⟨rfl, hw⟩;exact hK _ _ ⟨_, (fun _ => rfl), by simp only [over, overL, h25, hG]; rfl, hw ▸ brf⟩
  ·rintro f w1 hb ⟨(h25 : f 25 = _), h31, _⟩ K hK
   have h31 : b1 = true → f 31 = _ := h31
   cases hG : b1 with
   | false =>
    rw [hG] at h25;simp only [over, overL, h25];go_simp;exact hK _ _ ⟨.bool false, by simp [measV, hG], by simp only [over, overL, h25]; rfl, brf⟩
   | true =>
    have h31 := h31 hG;rw [hG] at h25;simp only [over, overL, h25, h31];go_simp;exact hK _ _ ⟨.bool c1, by simp [measV, hG], by simp only [over, overL, h25, h31]; rfl, brf⟩
  ·rintro f w1 hb ⟨(h33 : f 33 = _), _⟩
   refine ⟨fun hg => ?_, fun hg => ?_⟩
   rotate_left
   ·intro hG; exact absurd (h33.trans (by rw [hG])) hg
   have hG := Value.bool.inj (h33.symm.trans hg);intro K hK;simp only [over, overL, h33, hG];go_simp;refine (within_is _ _ _).mono ?_;rintro e w2 ⟨v, rfl, hv, hb2⟩;exact hK _ _ ⟨_, (fun _ => hv), by simp only [over, overL, h33, hG]; rfl, hb2⟩
  ·rintro f w1 hb ⟨(h33 : f 33 = _), _⟩
   refine ⟨fun hg => ?_, fun hg => ?_⟩
   rotate_left
   ·intro hG; exact absurd (h33.trans (by rw [hG])) hg
   have hG := Value.bool.inj (h33.symm.trans hg);intro K hK;simp only [over, overL, h33, hG];go_simp;exact hK _ _ ⟨_, (fun _ => rfl), by simp only [over, overL, h33, hG]; rfl, brf⟩
  ·rintro f w1 hb ⟨(h33 : f 33 = _), h35, _⟩
   refine ⟨fun hg => ?_, fun hg => ?_⟩
   rotate_left
   ·intro hG; exact absurd (h33.trans (by rw [hG])) hg
   have hG := Value.bool.inj (h33.symm.trans hg);intro K hK;have h35 : f 35 = _ := h35 hG;have cl : w1.cell? ⟨w.heap.size, 7, none⟩ = some (.int .i64 a.wid) := cell_later hb (cell_later hB (by go_simp));simp only [over, overL, h33, h35, hG];go_simp;exact hK _ _ ⟨_, (fun _ => rfl), by simp only [over, overL, h33, h35, hG]; rfl, brf⟩
  ·rintro f w1 hb ⟨(h33 : f 33 = _), _⟩
   refine ⟨fun hg => ?_, fun hg => ?_⟩
   rotate_left
   ·intro hG; exact absurd (h33.trans (by rw [hG])) hg
   have hG := Value.bool.inj (h33.symm.trans hg);intro K hK;simp only [over, overL, h33, hG];go_simp;exact hK _ _ ⟨_, (fun _ => rfl), by simp only [over, overL, h33, hG]; rfl, brf⟩
  ·rintro f w1 hb ⟨(h33 : f 33 = _), h37, _⟩
   refine ⟨fun hg => ?_, fun hg => ?_⟩
   rotate_left
   ·intro hG; exact absurd (h33.trans (by rw [hG])) hg
   have hG := Value.bool.inj (h33.symm.trans hg);intro K hK;have h37 : f 37 = _ := h37 hG;have cl : w1.cell? ⟨w.heap.size, 8, none⟩ = some (.int .i64 a.len) := cell_later hb (cell_later hB (by go_simp));simp only [over, overL, h33, h37, hG];go_simp;exact hK _ _ ⟨_, (fun _ => rfl), by simp only [over, overL, h33, h37, hG]; rfl, brf⟩
  ·rintro f w1 hb ⟨(h33 : f 33 = _), _⟩
   refine ⟨fun hg => ?_, fun hg => ?_⟩
   rotate_left
   ·intro hG; exact absurd (h33.trans (by rw [hG])) hg
   have hG := Value.bool.inj (h33.symm.trans hg);intro K hK;simp only [over, overL, h33, hG];go_simp;exact hK _ _ ⟨_, (fun _ => rfl), by simp only [over, overL, h33, hG]; rfl, brf⟩
  ·rintro f w1 hb ⟨(h33 : f 33 = _), h39, _⟩
   refine ⟨fun hg => ?_, fun hg => ?_⟩
   rotate_left
   ·intro hG; exact absurd (h33.trans (by rw [hG])) hg
   have hG := Value.bool.inj (h33.symm.trans hg);intro K hK;have h39 : f 39 = _ := h39 hG;have cl : w1.cell? ⟨w.heap.size, 9, none⟩ = some (.int .i64 a.hei) := cell_later hb (cell_later hB (by go_simp));simp only [over, overL, h33, h39, hG];go_simp;exact hK _ _ ⟨_, (fun _ => rfl), by simp only [over, overL, h33, h39, hG]; rfl, brf⟩
  ·rintro f w1 hb ⟨(h33 : f 33 = _), h36, h38, h40, _⟩
   refine ⟨fun hg => ?_, fun hg => ?_⟩
   rotate_left
   ·intro hG; exact absurd (h33.trans (by rw [hG])) hg
   have hG := Value.bool.inj (h33.symm.trans hg);intro K hK;have h36 : f 36 = _ := h36 hG;have h38 : f 38 = _ := h38 hG;have h40 : f 40 = _ := h40 hG;simp only [over, overL, h33, h36, h38, h40, hG];go_simp;exact hK _ _ ⟨_, (fun _ => new_three _ _ _ _ _), by simp only [over, overL, h33, h36, h38, h40, hG]; rfl, (brf).alloc (Nat.le_refl _) _⟩
  ·rintro f w1 hb ⟨(h33 : f 33 = _), h34, h41, _⟩
   refine ⟨fun hg => ?_, fun hg => ?_⟩
   rotate_left
   ·intro hG; exact absurd (h33.trans (by rw [hG])) hg
   have hG := Value.bool.inj (h33.symm.trans hg);intro K hK;replace h34 := h34 hG;replace h41 := h41 hG;simp only [over, overL, h33, hG];go_simp;refine (every_v [a.wid, a.len, a.hei] 1 200000 c2 hc2 _ _ _ (by simp) h34 h41).mono ?_;rintro e w2 ⟨rfl, hw⟩;exact hK _ _ ⟨_, (fun _ => rfl), by simp only [over, overL, h33, hG]; rfl, hw ▸ brf⟩
  ·rintro f w1 hb ⟨(h33 : f 33 = _), h42, _⟩ K hK
   have h42 : (b1 && c1) = true → f 42 = _ := h42
   cases hG : (b1 && c1) with
   | false =>
    rw [hG] at h33;simp only [over, overL, h33];go_simp;exact hK _ _ ⟨.bool false, by simp [measV, hG], by simp only [over, overL, h33]; rfl, brf⟩
   | true =>
    have h42 := h42 hG;rw [hG] at h33;simp only [over, overL, h33, h42];go_simp;exact hK _ _ ⟨.bool c2, by simp [measV, hG], by simp only [over, overL, h33, h42]; rfl, brf⟩
  ·rintro f w1 hb ⟨(h44 : f 44 = _), _⟩
   refine ⟨fun hg => ?_, fun hg => ?_⟩
   rotate_left
   ·intro hG; exact absurd (h44.trans (by rw [hG])) hg
   have hG := Value.bool.inj (h44.symm.trans hg);intro K hK;simp only [over, overL, h44, hG];go_simp;exact hK _ _ ⟨_, (fun _ => ⟨_, _, rfl, cell_later hb hp0, cell_later hb hp1⟩), by simp only [over, overL, h44, hG]; rfl, brf⟩
  ·rintro f w1 hb ⟨(h44 : f 44 = _), _⟩
   refine ⟨fun hg => ?_, fun hg => ?_⟩
   rotate_left
   ·intro hG; exact absurd (h44.trans (by rw [hG])) hg
   have hG := Value.bool.inj (h44.symm.trans hg);intro K hK;simp only [over, overL, h44, hG];go_simp;exact hK _ _ ⟨_, (fun _ => rfl), by simp only [over, overL, h44, hG]; rfl, brf⟩
  ·rintro f w1 hb ⟨(h44 : f 44 = _), h46, _⟩
   refine ⟨fun hg => ?_, fun hg => ?_⟩
   rotate_left
   ·intro hG; exact absurd (h44.trans (by rw [hG])) hg
   have hG := Value.bool.inj (h44.symm.trans hg);intro K hK;have h46 : f 46 = _ := h46 hG;have cl : w1.cell? ⟨w.heap.size, 11, none⟩ = some (.int .i64 a.cap) := cell_later hb (cell_later hB (by go_simp));simp only [over, overL, h44, h46, hG];go_simp;exact hK _ _ ⟨_, (fun _ => rfl), by simp only [over, overL, h44, h46, hG]; rfl, brf⟩
  ·rintro f w1 hb ⟨(h44 : f 44 = _), h47, _⟩
   refine ⟨fun hg => ?_, fun hg => ?_⟩
   rotate_left
   ·intro hG; exact absurd (h44.trans (by rw [hG])) hg
   have hG := Value.bool.inj (h44.symm.trans hg);intro K hK;have h47 : f 47 = _ := h47 hG;simp only [over, overL, h44, h47, hG];go_simp;exact hK _ _ ⟨_, (fun _ => new_one _ _ _), by simp only [over, overL, h44, h47, hG]; rfl, (brf).alloc (Nat.le_refl _) _⟩
  ·rintro f w1 hb ⟨(h44 : f 44 = _), h45, h48, _⟩
   refine ⟨fun hg => ?_, fun hg => ?_⟩
   rotate_left
   ·intro hG; exact absurd (h44.trans (by rw [hG])) hg
   have hG := Value.bool.inj (h44.symm.trans hg);intro K hK;replace h45 := h45 hG;replace h48 := h48 hG;simp only [over, overL, h44, hG];go_simp;refine (every_v [a.cap] 0 0 c3 hc3 _ _ _ (by simp) h45 h48).mono ?_;rintro e w2 ⟨rfl, hw⟩;exact hK _ _ ⟨_, (fun _ => rfl), by simp only [over, overL, h44, hG]; rfl, hw ▸ brf⟩
  ·rintro f w1 hb ⟨(h44 : f 44 = _), h49, _⟩ K hK
   have h49 : (b1 && c1 && c2) = true → f 49 = _ := h49
   cases hG : (b1 && c1 && c2) with
   | false =>
    rw [hG] at h44;simp only [over, overL, h44];go_simp;exact hK _ _ ⟨.bool false, by simp [measV, hG], by simp only [over, overL, h44]; rfl, brf⟩
   | true =>
    have h49 := h49 hG;rw [hG] at h44;simp only [over, overL, h44, h49];go_simp;exact hK _ _ ⟨.bool c3, by simp [measV, hG], by simp only [over, overL, h44, h49]; rfl, brf⟩
 ·intro f w1 hb h
  have h2 : f 2 = .bool (b1 && c1 && c2 && c3) := h.2.2.2.2.2.2.2.2.2.2.2.2.2.2.2.2.2.2.2.2.2.2.2.2.2.2.2.2.2.2.2.2.2.2.2.1;simp only [over, overL, h2, Nat.reduceAdd];go_wp2;go_ret;exact ⟨rfl, ((brf).alloc (Nat.le_refl _) _).trans ((hB.mono (by simp)).trans (hb.mono (by have := hB.size; simp at this; omega)))⟩
theorem isMeasured_10 (a : Wr) (w : World) (hr0 : 0 ≤ a.rows * a.cols) (hr1 : a.rows * a.cols ≤ 384) (hm : 1 < a.rows * a.cols) (hk : (a.kind == 3) = false) (b1 c1 c2 c3 : Bool)
  (hb1 : [a.x, a.y, a.deep].all (inR 0 200000) = b1) (hc1 : [a.pitch].all (inR 1 200000) = c1) (hc2 : [a.wid, a.len, a.hei].all (inR 1 200000) = c2) (hc3 : [a.cap].all (inR 1 1000000000) = c3) :
  CR 124 #[wv a] w (.bool (b1 && c1 && c2 && c3)) := by
 go_enter Tryz.func124, Tryz.ntmps124
 go_wp2_with (go_at_call 123; refine (within_int _ _ _).mono ?_; rintro e w2 ⟨rfl, rfl⟩)
 obtain ⟨W, hW⟩ : ∃ W, W = (((w.alloc (wobj a)).alloc (.cells #[.int .i64 1] 3)).alloc (.cells #[.int .i64 1000000000] 3)) := ⟨_, rfl⟩
 have hB : Below (w.alloc (wobj a)).heap.size (w.alloc (wobj a)) W := by
  rw [hW]
  repeat (first | exact brf | refine Below.alloc ?_ (by simp; omega) _ | refine Below.alloc ?_ (by simp) _)
 have hp0 : W.cell? ⟨w.heap.size + 1, 0, none⟩ = some (.int .i64 1) := by rw [hW]; go_simp
 have hp1 : W.cell? ⟨w.heap.size + 1 + 1, 0, none⟩ = some (.int .i64 1000000000) := by rw [hW]; go_simp
 rw [← hW];clear hW
 refine region_inv [zf,zf,zt,zf,zf,zf,zf,zf,zf,zf,zf,zf,zf,zf,zf,zf,zt,zt,zt,zt,zt,zt,zt,zt,zt,zt,zt,zt,zt,zt,zt,zt,zt,zt,zt,zt,zt,zt,zt,zt,zt,zt,zt,zt,zt,zt,zt,zt,zt,zt,zt]
  [(16, [], none), (17, [], none), (18, [17], none), (19, [], none), (20, [19], none), (21, [], none), (22, [21], none), (23, [18, 20, 22], none), (24, [16, 23], none), (25, [24], none), (26, [25], some (25, true)), (27, [25, 26], some (25, true)), (28, [25], some (25, true)), (29, [25, 28], some (25, true)), (30, [25, 29], some (25, true)), (31, [25, 27, 30], some (25, true)), (32, [25, 31], none), (33, [32], none), (34, [33], some (33, true)), (35, [33], some (33, true)), (36, [33, 35], some (33, true)), (37, [33], some (33, true)), (38, [33, 37], some (33, true)), (39, [33], some (33, true)), (40, [33, 39], some (33, true)), (41, [33, 36, 38, 40], some (33, true)), (42, [33, 34, 41], some (33, true)), (43, [33, 42], none), (44, [43], none), (45, [44], some (44, true)), (46, [44], some (44, true)), (47, [44, 46], some (44, true)), (48, [44, 47], some (44, true)), (49, [44, 45, 48], some (44, true)), (50, [44, 49], none), (2, [50], none)]
  (measV a 1 1 1000000000 b1 c1 c2 c3 w.heap.size) (by kernel_rfl) (by kernel_rfl) (measV_mono a 1 1 1000000000 b1 c1 c2 c3 w.heap.size) ?_ ?_
 ·refine ⟨?_, ?_, ?_, ?_, ?_, ?_, ?_, ?_, ?_, ?_, ?_, ?_, ?_, ?_, ?_, ?_, ?_, ?_, ?_, ?_, ?_, ?_, ?_, ?_, ?_, ?_, ?_, ?_, ?_, ?_, ?_, ?_, ?_, ?_, ?_, ?_, trivial⟩
  any_goals first | (intro f w1 hb _ K hK; simp only [over, overL]; go_simp; exact hK _ _ ⟨_, rfl, by simp only [over, overL]; rfl, brf⟩) | fail
  any_goals first | (intro f w1 hb hh K hK; simp only [AllV, measV] at hh; simp only [over, overL, hh]; go_simp; exact hK _ _ ⟨_, rfl, by simp only [over, overL, hh]; rfl, brf⟩) | fail
  ·intro f w1 hb _ K hK
   simp only [over, overL];go_simp;refine (within_is _ _ _).mono ?_;rintro e w2 ⟨v, rfl, hv, hb2⟩;exact hK _ _ ⟨_, hv, by simp only [over, overL]; rfl, hb2⟩
  ·rintro f w1 hb ⟨(h17 : f 17 = _), _⟩ K hK
   have cl : w1.cell? ⟨w.heap.size, 4, none⟩ = some (.int .i64 a.x) := cell_later hb (cell_later hB (by go_simp));simp only [over, overL, h17];go_simp;exact hK _ _ ⟨_, rfl, by simp only [over, overL, h17]; rfl, brf⟩
  ·rintro f w1 hb ⟨(h19 : f 19 = _), _⟩ K hK
   have cl : w1.cell? ⟨w.heap.size, 5, none⟩ = some (.int .i64 a.y) := cell_later hb (cell_later hB (by go_simp));simp only [over, overL, h19];go_simp;exact hK _ _ ⟨_, rfl, by simp only [over, overL, h19]; rfl, brf⟩
  ·rintro f w1 hb ⟨(h21 : f 21 = _), _⟩ K hK
   have cl : w1.cell? ⟨w.heap.size, 10, none⟩ = some (.int .i64 a.deep) := cell_later hb (cell_later hB (by go_simp));simp only [over, overL, h21];go_simp;exact hK _ _ ⟨_, rfl, by simp only [over, overL, h21]; rfl, brf⟩
  ·rintro f w1 hb ⟨(h18 : f 18 = _), (h20 : f 20 = _), (h22 : f 22 = _), _⟩ K hK
   simp only [over, overL, h18, h20, h22];go_simp;exact hK _ _ ⟨_, new_three _ _ _ _ _, by simp only [over, overL, h18, h20, h22]; rfl, (brf).alloc (Nat.le_refl _) _⟩
  ·intro f w1 hb ⟨h16, h23, _⟩ K hK
   simp only [over, overL];go_simp;refine (every_v [a.x, a.y, a.deep] 0 200000 b1 hb1 _ _ _ (by simp) h16 h23).mono ?_;rintro e w2 ⟨rfl, hw⟩;exact hK _ _ ⟨_, rfl, by simp only [over, overL]; rfl, hw ▸ brf⟩
  ·rintro f w1 hb ⟨(h25 : f 25 = _), _⟩
   refine ⟨fun hg => ?_, fun hg => ?_⟩
   rotate_left
   ·intro hG; exact absurd (h25.trans (by rw [hG])) hg
   have hG := Value.bool.inj (h25.symm.trans hg);intro K hK;simp only [over, overL, h25, hG];go_simp;exact hK _ _ ⟨_, (fun _ => rfl), by simp only [over, overL, h25, hG]; rfl, brf⟩
  ·rintro f w1 hb ⟨(h25 : f 25 = _), h26, _⟩
   refine ⟨fun hg => ?_, fun hg => ?_⟩
   rotate_left
   ·intro hG; exact absurd (h25.trans (by rw [hG])) hg
   have hG := Value.bool.inj (h25.symm.trans hg);intro K hK;have h26 : f 26 = _ := h26 hG;simp only [over, overL, h25, h26, hG];go_simp;refine (within_is _ _ _).mono ?_;rintro e w2 ⟨v, rfl, hv, hb2⟩;exact hK _ _ ⟨_, (fun _ => hv), by simp only [over, overL, h25, h26, hG]; rfl, hb2⟩
  ·rintro f w1 hb ⟨(h25 : f 25 = _), _⟩
   refine ⟨fun hg => ?_, fun hg => ?_⟩
   rotate_left
   ·intro hG; exact absurd (h25.trans (by rw [hG])) hg
   have hG := Value.bool.inj (h25.symm.trans hg);intro K hK;simp only [over, overL, h25, hG];go_simp;exact hK _ _ ⟨_, (fun _ => rfl), by simp only [over, overL, h25, hG]; rfl, brf⟩
  ·rintro f w1 hb ⟨(h25 : f 25 = _), h28, _⟩
   refine ⟨fun hg => ?_, fun hg => ?_⟩
   rotate_left
   ·intro hG; exact absurd (h25.trans (by rw [hG])) hg
   have hG := Value.bool.inj (h25.symm.trans hg);intro K hK;have h28 : f 28 = _ := h28 hG;have cl : w1.cell? ⟨w.heap.size, 6, none⟩ = some (.int .i64 a.pitch) := cell_later hb (cell_later hB (by go_simp));simp only [over, overL, h25, h28, hG];go_simp;exact hK _ _ ⟨_, (fun _ => rfl), by simp only [over, overL, h25, h28, hG]; rfl, brf⟩
  ·rintro f w1 hb ⟨(h25 : f 25 = _), h29, _⟩
   refine ⟨fun hg => ?_, fun hg => ?_⟩
   rotate_left
   ·intro hG; exact absurd (h25.trans (by rw [hG])) hg
   have hG := Value.bool.inj (h25.symm.trans hg);intro K hK;have h29 : f 29 = _ := h29 hG;simp only [over, overL, h25, h29, hG];go_simp;exact hK _ _ ⟨_, (fun _ => new_one _ _ _), by simp only [over, overL, h25, h29, hG]; rfl, (brf).alloc (Nat.le_refl _) _⟩
  ·rintro f w1 hb ⟨(h25 : f 25 = _), h27, h30, _⟩
   refine ⟨fun hg => ?_, fun hg => ?_⟩
   rotate_left
   ·intro hG; exact absurd (h25.trans (by rw [hG])) hg
   have hG := Value.bool.inj (h25.symm.trans hg);intro K hK;replace h27 := h27 hG;replace h30 := h30 hG;simp only [over, overL, h25, hG];go_simp;refine (every_v [a.pitch] 1 200000 c1 hc1 _ _ _ (by simp) h27 h30).mono ?_;rintro e w2 ⟨rfl, hw⟩;exact hK _ _ ⟨_, (fun _ => rfl), by simp only [over, overL, h25, hG]; rfl, hw ▸ brf⟩
  ·rintro f w1 hb ⟨(h25 : f 25 = _), h31, _⟩ K hK
   have h31 : b1 = true → f 31 = _ := h31
   cases hG : b1 with
   | false =>
    rw [hG] at h25;simp only [over, overL, h25];go_simp;exact hK _ _ ⟨.bool false, by simp [measV, hG], by simp only [over, overL, h25]; rfl, brf⟩
   | true =>
    have h31 := h31 hG;rw [hG] at h25;simp only [over, overL, h25, h31];go_simp;exact hK _ _ ⟨.bool c1, by simp [measV, hG], by simp only [over, overL, h25, h31]; rfl, brf⟩
  ·rintro f w1 hb ⟨(h33 : f 33 = _), _⟩
   refine ⟨fun hg => ?_, fun hg => ?_⟩
   rotate_left
   ·intro hG; exact absurd (h33.trans (by rw [hG])) hg
   have hG := Value.bool.inj (h33.symm.trans hg);intro K hK;simp only [over, overL, h33, hG];go_simp;refine (within_is _ _ _).mono ?_;rintro e w2 ⟨v, rfl, hv, hb2⟩;exact hK _ _ ⟨_, (fun _ => hv), by simp only [over, overL, h33, hG]; rfl, hb2⟩
  ·rintro f w1 hb ⟨(h33 : f 33 = _), _⟩
   refine ⟨fun hg => ?_, fun hg => ?_⟩
   rotate_left
   ·intro hG; exact absurd (h33.trans (by rw [hG])) hg
   have hG := Value.bool.inj (h33.symm.trans hg);intro K hK;simp only [over, overL, h33, hG];go_simp;exact hK _ _ ⟨_, (fun _ => rfl), by simp only [over, overL, h33, hG]; rfl, brf⟩
  ·rintro f w1 hb ⟨(h33 : f 33 = _), h35, _⟩
   refine ⟨fun hg => ?_, fun hg => ?_⟩
   rotate_left
   ·intro hG; exact absurd (h33.trans (by rw [hG])) hg
   have hG := Value.bool.inj (h33.symm.trans hg);intro K hK;have h35 : f 35 = _ := h35 hG;have cl : w1.cell? ⟨w.heap.size, 7, none⟩ = some (.int .i64 a.wid) := cell_later hb (cell_later hB (by go_simp));simp only [over, overL, h33, h35, hG];go_simp;exact hK _ _ ⟨_, (fun _ => rfl), by simp only [over, overL, h33, h35, hG]; rfl, brf⟩
  ·rintro f w1 hb ⟨(h33 : f 33 = _), _⟩
   refine ⟨fun hg => ?_, fun hg => ?_⟩
   rotate_left
   ·intro hG; exact absurd (h33.trans (by rw [hG])) hg
   have hG := Value.bool.inj (h33.symm.trans hg);intro K hK;simp only [over, overL, h33, hG];go_simp;exact hK _ _ ⟨_, (fun _ => rfl), by simp only [over, overL, h33, hG]; rfl, brf⟩
  ·rintro f w1 hb ⟨(h33 : f 33 = _), h37, _⟩
   refine ⟨fun hg => ?_, fun hg => ?_⟩
   rotate_left
   ·intro hG; exact absurd (h33.trans (by rw [hG])) hg
   have hG := Value.bool.inj (h33.symm.trans hg);intro K hK;have h37 : f 37 = _ := h37 hG;have cl : w1.cell? ⟨w.heap.size, 8, none⟩ = some (.int .i64 a.len) := cell_later hb (cell_later hB (by go_simp));simp only [over, overL, h33, h37, hG];go_simp;exact hK _ _ ⟨_, (fun _ => rfl), by simp only [over, overL, h33, h37, hG]; rfl, brf⟩
  ·rintro f w1 hb ⟨(h33 : f 33 = _), _⟩
   refine ⟨fun hg => ?_, fun hg => ?_⟩
   rotate_left
   ·intro hG; exact absurd (h33.trans (by rw [hG])) hg
   have hG := Value.bool.inj (h33.symm.trans hg);intro K hK;simp only [over, overL, h33, hG];go_simp;exact hK _ _ ⟨_, (fun _ => rfl), by simp only [over, overL, h33, hG]; rfl, brf⟩
  ·rintro f w1 hb ⟨(h33 : f 33 = _), h39, _⟩
   refine ⟨fun hg => ?_, fun hg => ?_⟩
   rotate_left
   ·intro hG; exact absurd (h33.trans (by rw [hG])) hg
   have hG := Value.bool.inj (h33.symm.trans hg);intro K hK;have h39 : f 39 = _ := h39 hG;have cl : w1.cell? ⟨w.heap.size, 9, none⟩ = some (.int .i64 a.hei) := cell_later hb (cell_later hB (by go_simp));simp only [over, overL, h33, h39, hG];go_simp;exact hK _ _ ⟨_, (fun _ => rfl), by simp only [over, overL, h33, h39, hG]; rfl, brf⟩
  ·rintro f w1 hb ⟨(h33 : f 33 = _), h36, h38, h40, _⟩
   refine ⟨fun hg => ?_, fun hg => ?_⟩
   rotate_left
   ·intro hG; exact absurd (h33.trans (by rw [hG])) hg
   have hG := Value.bool.inj (h33.symm.trans hg);intro K hK;have h36 : f 36 = _ := h36 hG;have h38 : f 38 = _ := h38 hG;have h40 : f 40 = _ := h40 hG;simp only [over, overL, h33, h36, h38, h40, hG];go_simp;exact hK _ _ ⟨_, (fun _ => new_three _ _ _ _ _), by simp only [over, overL, h33, h36, h38, h40, hG]; rfl, (brf).alloc (Nat.le_refl _) _⟩
  ·rintro f w1 hb ⟨(h33 : f 33 = _), h34, h41, _⟩
   refine ⟨fun hg => ?_, fun hg => ?_⟩
   rotate_left
   ·intro hG; exact absurd (h33.trans (by rw [hG])) hg
   have hG := Value.bool.inj (h33.symm.trans hg);intro K hK;replace h34 := h34 hG;replace h41 := h41 hG;simp only [over, overL, h33, hG];go_simp;refine (every_v [a.wid, a.len, a.hei] 1 200000 c2 hc2 _ _ _ (by simp) h34 h41).mono ?_;rintro e w2 ⟨rfl, hw⟩;exact hK _ _ ⟨_, (fun _ => rfl), by simp only [over, overL, h33, hG]; rfl, hw ▸ brf⟩
  ·rintro f w1 hb ⟨(h33 : f 33 = _), h42, _⟩ K hK
   have h42 : (b1 && c1) = true → f 42 = _ := h42
   cases hG : (b1 && c1) with
   | false =>
    rw [hG] at h33;simp only [over, overL, h33];go_simp;exact hK _ _ ⟨.bool false, by simp [measV, hG], by simp only [over, overL, h33]; rfl, brf⟩
   | true =>
    have h42 := h42 hG;rw [hG] at h33;simp only [over, overL, h33, h42];go_simp;exact hK _ _ ⟨.bool c2, by simp [measV, hG], by simp only [over, overL, h33, h42]; rfl, brf⟩
  ·rintro f w1 hb ⟨(h44 : f 44 = _), _⟩
   refine ⟨fun hg => ?_, fun hg => ?_⟩
   rotate_left
   ·intro hG; exact absurd (h44.trans (by rw [hG])) hg
   have hG := Value.bool.inj (h44.symm.trans hg);intro K hK;simp only [over, overL, h44, hG];go_simp;exact hK _ _ ⟨_, (fun _ => ⟨_, _, rfl, cell_later hb hp0, cell_later hb hp1⟩), by simp only [over, overL, h44, hG]; rfl, brf⟩
  ·rintro f w1 hb ⟨(h44 : f 44 = _), _⟩
   refine ⟨fun hg => ?_, fun hg => ?_⟩
   rotate_left
   ·intro hG; exact absurd (h44.trans (by rw [hG])) hg
   have hG := Value.bool.inj (h44.symm.trans hg);intro K hK;simp only [over, overL, h44, hG];go_simp;exact hK _ _ ⟨_, (fun _ => rfl), by simp only [over, overL, h44, hG]; rfl, brf⟩
  ·rintro f w1 hb ⟨(h44 : f 44 = _), h46, _⟩
   refine ⟨fun hg => ?_, fun hg => ?_⟩
   rotate_left
   ·intro hG; exact absurd (h44.trans (by rw [hG])) hg
   have hG := Value.bool.inj (h44.symm.trans hg);intro K hK;have h46 : f 46 = _ := h46 hG;have cl : w1.cell? ⟨w.heap.size, 11, none⟩ = some (.int .i64 a.cap) := cell_later hb (cell_later hB (by go_simp));simp only [over, overL, h44, h46, hG];go_simp;exact hK _ _ ⟨_, (fun _ => rfl), by simp only [over, overL, h44, h46, hG]; rfl, brf⟩
  ·rintro f w1 hb ⟨(h44 : f 44 = _), h47, _⟩
   refine ⟨fun hg => ?_, fun hg => ?_⟩
   rotate_left
   ·intro hG; exact absurd (h44.trans (by rw [hG])) hg
   have hG := Value.bool.inj (h44.symm.trans hg);intro K hK;have h47 : f 47 = _ := h47 hG;simp only [over, overL, h44, h47, hG];go_simp;exact hK _ _ ⟨_, (fun _ => new_one _ _ _), by simp only [over, overL, h44, h47, hG]; rfl, (brf).alloc (Nat.le_refl _) _⟩
  ·rintro f w1 hb ⟨(h44 : f 44 = _), h45, h48, _⟩
   refine ⟨fun hg => ?_, fun hg => ?_⟩
   rotate_left
   ·intro hG; exact absurd (h44.trans (by rw [hG])) hg
   have hG := Value.bool.inj (h44.symm.trans hg);intro K hK;replace h45 := h45 hG;replace h48 := h48 hG;simp only [over, overL, h44, hG];go_simp;refine (every_v [a.cap] 1 1000000000 c3 hc3 _ _ _ (by simp) h45 h48).mono ?_;rintro e w2 ⟨rfl, hw⟩;exact hK _ _ ⟨_, (fun _ => rfl), by simp only [over, overL, h44, hG]; rfl, hw ▸ brf⟩
  ·rintro f w1 hb ⟨(h44 : f 44 = _), h49, _⟩ K hK
   have h49 : (b1 && c1 && c2) = true → f 49 = _ := h49
   cases hG : (b1 && c1 && c2) with
   | false =>
    rw [hG] at h44;simp only [over, overL, h44];go_simp;exact hK _ _ ⟨.bool false, by simp [measV, hG], by simp only [over, overL, h44]; rfl, brf⟩
   | true =>
    have h49 := h49 hG;rw [hG] at h44;simp only [over, overL, h44, h49];go_simp;exact hK _ _ ⟨.bool c3, by simp [measV, hG], by simp only [over, overL, h44, h49]; rfl, brf⟩
 ·intro f w1 hb h
  have h2 : f 2 = .bool (b1 && c1 && c2 && c3) := h.2.2.2.2.2.2.2.2.2.2.2.2.2.2.2.2.2.2.2.2.2.2.2.2.2.2.2.2.2.2.2.2.2.2.2.1;simp only [over, overL, h2, Nat.reduceAdd];go_wp2;go_ret;exact ⟨rfl, ((brf).alloc (Nat.le_refl _) _).trans ((hB.mono (by simp)).trans (hb.mono (by have := hB.size; simp at this; omega)))⟩
theorem isMeasured_11 (a : Wr) (w : World) (hr0 : 0 ≤ a.rows * a.cols) (hr1 : a.rows * a.cols ≤ 384) (hm : 1 < a.rows * a.cols) (hk : a.kind = 3) (b1 c1 c2 c3 : Bool)
  (hb1 : [a.x, a.y, a.deep].all (inR 0 200000) = b1) (hc1 : [a.pitch].all (inR 1 200000) = c1) (hc2 : [a.wid, a.len, a.hei].all (inR 1 200000) = c2) (hc3 : [a.cap].all (inR 0 0) = c3) :
  CR 124 #[wv a] w (.bool (b1 && c1 && c2 && c3)) := by
 go_enter Tryz.func124, Tryz.ntmps124
 go_wp2_with (go_at_call 123; refine (within_int _ _ _).mono ?_; rintro e w2 ⟨rfl, rfl⟩)
 obtain ⟨W, hW⟩ : ∃ W, W = (((((w.alloc (wobj a)).alloc (.cells #[.int .i64 1] 3)).alloc (.cells #[.int .i64 1000000000] 3)).alloc (.cells #[.int .i64 0] 3)).alloc (.cells #[.int .i64 0] 3)) := ⟨_, rfl⟩
 have hB : Below (w.alloc (wobj a)).heap.size (w.alloc (wobj a)) W := by
  rw [hW]
  repeat (first | exact brf | refine Below.alloc ?_ (by simp; omega) _ | refine Below.alloc ?_ (by simp) _)
 have hp0 : W.cell? ⟨w.heap.size + 1 + 1 + 1, 0, none⟩ = some (.int .i64 0) := by rw [hW]; go_simp
 have hp1 : W.cell? ⟨w.heap.size + 1 + 1 + 1 + 1, 0, none⟩ = some (.int .i64 0) := by rw [hW]; go_simp
 rw [← hW];clear hW
 refine region_inv [zf,zf,zt,zf,zf,zf,zf,zf,zf,zf,zf,zf,zf,zf,zf,zf,zt,zt,zt,zt,zt,zt,zt,zt,zt,zt,zt,zt,zt,zt,zt,zt,zt,zt,zt,zt,zt,zt,zt,zt,zt,zt,zt,zt,zt,zt,zt,zt,zt,zt,zt]
  [(16, [], none), (17, [], none), (18, [17], none), (19, [], none), (20, [19], none), (21, [], none), (22, [21], none), (23, [18, 20, 22], none), (24, [16, 23], none), (25, [24], none), (26, [25], some (25, true)), (27, [25, 26], some (25, true)), (28, [25], some (25, true)), (29, [25, 28], some (25, true)), (30, [25, 29], some (25, true)), (31, [25, 27, 30], some (25, true)), (32, [25, 31], none), (33, [32], none), (34, [33], some (33, true)), (35, [33], some (33, true)), (36, [33, 35], some (33, true)), (37, [33], some (33, true)), (38, [33, 37], some (33, true)), (39, [33], some (33, true)), (40, [33, 39], some (33, true)), (41, [33, 36, 38, 40], some (33, true)), (42, [33, 34, 41], some (33, true)), (43, [33, 42], none), (44, [43], none), (45, [44], some (44, true)), (46, [44], some (44, true)), (47, [44, 46], some (44, true)), (48, [44, 47], some (44, true)), (49, [44, 45, 48], some (44, true)), (50, [44, 49], none), (2, [50], none)]
  (measV a 1 0 0 b1 c1 c2 c3 w.heap.size) (by kernel_rfl) (by kernel_rfl) (measV_mono a 1 0 0 b1 c1 c2 c3 w.heap.size) ?_ ?_
 ·refine ⟨?_, ?_, ?_, ?_, ?_, ?_, ?_, ?_, ?_, ?_, ?_, ?_, ?_, ?_, ?_, ?_, ?_, ?_, ?_, ?_, ?_, ?_, ?_, ?_, ?_, ?_, ?_, ?_, ?_, ?_, ?_, ?_, ?_, ?_, ?_, ?_, trivial⟩
  any_goals first | (intro f w1 hb _ K hK; simp only [over, overL]; go_simp; exact hK _ _ ⟨_, rfl, by simp only [over, overL]; rfl, brf⟩) | fail
  any_goals first | (intro f w1 hb hh K hK; simp only [AllV, measV] at hh; simp only [over, overL, hh]; go_simp; exact hK _ _ ⟨_, rfl, by simp only [over, overL, hh]; rfl, brf⟩) | fail
  ·intro f w1 hb _ K hK
   simp only [over, overL];go_simp;refine (within_is _ _ _).mono ?_;rintro e w2 ⟨v, rfl, hv, hb2⟩;exact hK _ _ ⟨_, hv, by simp only [over, overL]; rfl, hb2⟩
  ·rintro f w1 hb ⟨(h17 : f 17 = _), _⟩ K hK
   have cl : w1.cell? ⟨w.heap.size, 4, none⟩ = some (.int .i64 a.x) := cell_later hb (cell_later hB (by go_simp));simp only [over, overL, h17];go_simp;exact hK _ _ ⟨_, rfl, by simp only [over, overL, h17]; rfl, brf⟩
  ·rintro f w1 hb ⟨(h19 : f 19 = _), _⟩ K hK
   have cl : w1.cell? ⟨w.heap.size, 5, none⟩ = some (.int .i64 a.y) := cell_later hb (cell_later hB (by go_simp));simp only [over, overL, h19];go_simp;exact hK _ _ ⟨_, rfl, by simp only [over, overL, h19]; rfl, brf⟩
  ·rintro f w1 hb ⟨(h21 : f 21 = _), _⟩ K hK
   have cl : w1.cell? ⟨w.heap.size, 10, none⟩ = some (.int .i64 a.deep) := cell_later hb (cell_later hB (by go_simp));simp only [over, overL, h21];go_simp;exact hK _ _ ⟨_, rfl, by simp only [over, overL, h21]; rfl, brf⟩
  ·rintro f w1 hb ⟨(h18 : f 18 = _), (h20 : f 20 = _), (h22 : f 22 = _), _⟩ K hK
   simp only [over, overL, h18, h20, h22];go_simp;exact hK _ _ ⟨_, new_three _ _ _ _ _, by simp only [over, overL, h18, h20, h22]; rfl, (brf).alloc (Nat.le_refl _) _⟩
  ·intro f w1 hb ⟨h16, h23, _⟩ K hK
   simp only [over, overL];go_simp;refine (every_v [a.x, a.y, a.deep] 0 200000 b1 hb1 _ _ _ (by simp) h16 h23).mono ?_;rintro e w2 ⟨rfl, hw⟩;exact hK _ _ ⟨_, rfl, by simp only [over, overL]; rfl, hw ▸ brf⟩
  ·rintro f w1 hb ⟨(h25 : f 25 = _), _⟩
   refine ⟨fun hg => ?_, fun hg => ?_⟩
   rotate_left
   ·intro hG; exact absurd (h25.trans (by rw [hG])) hg
   have hG := Value.bool.inj (h25.symm.trans hg);intro K hK;simp only [over, overL, h25, hG];go_simp;exact hK _ _ ⟨_, (fun _ => rfl), by simp only [over, overL, h25, hG]; rfl, brf⟩
  ·rintro f w1 hb ⟨(h25 : f 25 = _), h26, _⟩
   refine ⟨fun hg => ?_, fun hg => ?_⟩
   rotate_left
   ·intro hG; exact absurd (h25.trans (by rw [hG])) hg
   have hG := Value.bool.inj (h25.symm.trans hg);intro K hK;have h26 : f 26 = _ := h26 hG;simp only [over, overL, h25, h26, hG];go_simp;refine (within_is _ _ _).mono ?_;rintro e w2 ⟨v, rfl, hv, hb2⟩;exact hK _ _ ⟨_, (fun _ => hv), by simp only [over, overL, h25, h26, hG]; rfl, hb2⟩
  ·rintro f w1 hb ⟨(h25 : f 25 = _), _⟩
   refine ⟨fun hg => ?_, fun hg => ?_⟩
   rotate_left
   ·intro hG; exact absurd (h25.trans (by rw [hG])) hg
   have hG := Value.bool.inj (h25.symm.trans hg);intro K hK;simp only [over, overL, h25, hG];go_simp;exact hK _ _ ⟨_, (fun _ => rfl), by simp only [over, overL, h25, hG]; rfl, brf⟩
  ·rintro f w1 hb ⟨(h25 : f 25 = _), h28, _⟩
   refine ⟨fun hg => ?_, fun hg => ?_⟩
   rotate_left
   ·intro hG; exact absurd (h25.trans (by rw [hG])) hg
   have hG := Value.bool.inj (h25.symm.trans hg);intro K hK;have h28 : f 28 = _ := h28 hG;have cl : w1.cell? ⟨w.heap.size, 6, none⟩ = some (.int .i64 a.pitch) := cell_later hb (cell_later hB (by go_simp));simp only [over, overL, h25, h28, hG];go_simp;exact hK _ _ ⟨_, (fun _ => rfl), by simp only [over, overL, h25, h28, hG]; rfl, brf⟩
  ·rintro f w1 hb ⟨(h25 : f 25 = _), h29, _⟩
   refine ⟨fun hg => ?_, fun hg => ?_⟩
   rotate_left
   ·intro hG; exact absurd (h25.trans (by rw [hG])) hg
   have hG := Value.bool.inj (h25.symm.trans hg);intro K hK;have h29 : f 29 = _ := h29 hG;simp only [over, overL, h25, h29, hG];go_simp;exact hK _ _ ⟨_, (fun _ => new_one _ _ _), by simp only [over, overL, h25, h29, hG]; rfl, (brf).alloc (Nat.le_refl _) _⟩
  ·rintro f w1 hb ⟨(h25 : f 25 = _), h27, h30, _⟩
   refine ⟨fun hg => ?_, fun hg => ?_⟩
   rotate_left
   ·intro hG; exact absurd (h25.trans (by rw [hG])) hg
   have hG := Value.bool.inj (h25.symm.trans hg);intro K hK;replace h27 := h27 hG;replace h30 := h30 hG;simp only [over, overL, h25, hG];go_simp;refine (every_v [a.pitch] 1 200000 c1 hc1 _ _ _ (by simp) h27 h30).mono ?_;rintro e w2 ⟨rfl, hw⟩;exact hK _ _ ⟨_, (fun _ => rfl), by simp only [over, overL, h25, hG]; rfl, hw ▸ brf⟩
  ·rintro f w1 hb ⟨(h25 : f 25 = _), h31, _⟩ K hK
   have h31 : b1 = true → f 31 = _ := h31
   cases hG : b1 with
   | false =>
    rw [hG] at h25;simp only [over, overL, h25];go_simp;exact hK _ _ ⟨.bool false, by simp [measV, hG], by simp only [over, overL, h25]; rfl, brf⟩
   | true =>
    have h31 := h31 hG;rw [hG] at h25;simp only [over, overL, h25, h31];go_simp;exact hK _ _ ⟨.bool c1, by simp [measV, hG], by simp only [over, overL, h25, h31]; rfl, brf⟩
  ·rintro f w1 hb ⟨(h33 : f 33 = _), _⟩
   refine ⟨fun hg => ?_, fun hg => ?_⟩
   rotate_left
   ·intro hG; exact absurd (h33.trans (by rw [hG])) hg
   have hG := Value.bool.inj (h33.symm.trans hg);intro K hK;simp only [over, overL, h33, hG];go_simp;refine (within_is _ _ _).mono ?_;rintro e w2 ⟨v, rfl, hv, hb2⟩;exact hK _ _ ⟨_, (fun _ => hv), by simp only [over, overL, h33, hG]; rfl, hb2⟩
  ·rintro f w1 hb ⟨(h33 : f 33 = _), _⟩
   refine ⟨fun hg => ?_, fun hg => ?_⟩
   rotate_left
   ·intro hG; exact absurd (h33.trans (by rw [hG])) hg
   have hG := Value.bool.inj (h33.symm.trans hg);intro K hK;simp only [over, overL, h33, hG];go_simp;exact hK _ _ ⟨_, (fun _ => rfl), by simp only [over, overL, h33, hG]; rfl, brf⟩
  ·rintro f w1 hb ⟨(h33 : f 33 = _), h35, _⟩
   refine ⟨fun hg => ?_, fun hg => ?_⟩
   rotate_left
   ·intro hG; exact absurd (h33.trans (by rw [hG])) hg
   have hG := Value.bool.inj (h33.symm.trans hg);intro K hK;have h35 : f 35 = _ := h35 hG;have cl : w1.cell? ⟨w.heap.size, 7, none⟩ = some (.int .i64 a.wid) := cell_later hb (cell_later hB (by go_simp));simp only [over, overL, h33, h35, hG];go_simp;exact hK _ _ ⟨_, (fun _ => rfl), by simp only [over, overL, h33, h35, hG]; rfl, brf⟩
  ·rintro f w1 hb ⟨(h33 : f 33 = _), _⟩
   refine ⟨fun hg => ?_, fun hg => ?_⟩
   rotate_left
   ·intro hG; exact absurd (h33.trans (by rw [hG])) hg
   have hG := Value.bool.inj (h33.symm.trans hg);intro K hK;simp only [over, overL, h33, hG];go_simp;exact hK _ _ ⟨_, (fun _ => rfl), by simp only [over, overL, h33, hG]; rfl, brf⟩
  ·rintro f w1 hb ⟨(h33 : f 33 = _), h37, _⟩
   refine ⟨fun hg => ?_, fun hg => ?_⟩
   rotate_left
   ·intro hG; exact absurd (h33.trans (by rw [hG])) hg
   have hG := Value.bool.inj (h33.symm.trans hg);intro K hK;have h37 : f 37 = _ := h37 hG;have cl : w1.cell? ⟨w.heap.size, 8, none⟩ = some (.int .i64 a.len) := cell_later hb (cell_later hB (by go_simp));simp only [over, overL, h33, h37, hG];go_simp;exact hK _ _ ⟨_, (fun _ => rfl), by simp only [over, overL, h33, h37, hG]; rfl, brf⟩
  ·rintro f w1 hb ⟨(h33 : f 33 = _), _⟩
   refine ⟨fun hg => ?_, fun hg => ?_⟩
   rotate_left
   ·intro hG; exact absurd (h33.trans (by rw [hG])) hg
   have hG := Value.bool.inj (h33.symm.trans hg);intro K hK;simp only [over, overL, h33, hG];go_simp;exact hK _ _ ⟨_, (fun _ => rfl), by simp only [over, overL, h33, hG]; rfl, brf⟩
  ·rintro f w1 hb ⟨(h33 : f 33 = _), h39, _⟩
   refine ⟨fun hg => ?_, fun hg => ?_⟩
   rotate_left
   ·intro hG; exact absurd (h33.trans (by rw [hG])) hg
   have hG := Value.bool.inj (h33.symm.trans hg);intro K hK;have h39 : f 39 = _ := h39 hG;have cl : w1.cell? ⟨w.heap.size, 9, none⟩ = some (.int .i64 a.hei) := cell_later hb (cell_later hB (by go_simp));simp only [over, overL, h33, h39, hG];go_simp;exact hK _ _ ⟨_, (fun _ => rfl), by simp only [over, overL, h33, h39, hG]; rfl, brf⟩
  ·rintro f w1 hb ⟨(h33 : f 33 = _), h36, h38, h40, _⟩
   refine ⟨fun hg => ?_, fun hg => ?_⟩
   rotate_left
   ·intro hG; exact absurd (h33.trans (by rw [hG])) hg
   have hG := Value.bool.inj (h33.symm.trans hg);intro K hK;have h36 : f 36 = _ := h36 hG;have h38 : f 38 = _ := h38 hG;have h40 : f 40 = _ := h40 hG;simp only [over, overL, h33, h36, h38, h40, hG];go_simp;exact hK _ _ ⟨_, (fun _ => new_three _ _ _ _ _), by simp only [over, overL, h33, h36, h38, h40, hG]; rfl, (brf).alloc (Nat.le_refl _) _⟩
  ·rintro f w1 hb ⟨(h33 : f 33 = _), h34, h41, _⟩
   refine ⟨fun hg => ?_, fun hg => ?_⟩
   rotate_left
   ·intro hG; exact absurd (h33.trans (by rw [hG])) hg
   have hG := Value.bool.inj (h33.symm.trans hg);intro K hK;replace h34 := h34 hG;replace h41 := h41 hG;simp only [over, overL, h33, hG];go_simp;refine (every_v [a.wid, a.len, a.hei] 1 200000 c2 hc2 _ _ _ (by simp) h34 h41).mono ?_;rintro e w2 ⟨rfl, hw⟩;exact hK _ _ ⟨_, (fun _ => rfl), by simp only [over, overL, h33, hG]; rfl, hw ▸ brf⟩
  ·rintro f w1 hb ⟨(h33 : f 33 = _), h42, _⟩ K hK
   have h42 : (b1 && c1) = true → f 42 = _ := h42
   cases hG : (b1 && c1) with
   | false =>
    rw [hG] at h33;simp only [over, overL, h33];go_simp;exact hK _ _ ⟨.bool false, by simp [measV, hG], by simp only [over, overL, h33]; rfl, brf⟩
   | true =>
    have h42 := h42 hG;rw [hG] at h33;simp only [over, overL, h33, h42];go_simp;exact hK _ _ ⟨.bool c2, by simp [measV, hG], by simp only [over, overL, h33, h42]; rfl, brf⟩
  ·rintro f w1 hb ⟨(h44 : f 44 = _), _⟩
   refine ⟨fun hg => ?_, fun hg => ?_⟩
   rotate_left
   ·intro hG; exact absurd (h44.trans (by rw [hG])) hg
   have hG := Value.bool.inj (h44.symm.trans hg);intro K hK;simp only [over, overL, h44, hG];go_simp;exact hK _ _ ⟨_, (fun _ => ⟨_, _, rfl, cell_later hb hp0, cell_later hb hp1⟩), by simp only [over, overL, h44, hG]; rfl, brf⟩
  ·rintro f w1 hb ⟨(h44 : f 44 = _), _⟩
   refine ⟨fun hg => ?_, fun hg => ?_⟩
   rotate_left
   ·intro hG; exact absurd (h44.trans (by rw [hG])) hg
   have hG := Value.bool.inj (h44.symm.trans hg);intro K hK;simp only [over, overL, h44, hG];go_simp;exact hK _ _ ⟨_, (fun _ => rfl), by simp only [over, overL, h44, hG]; rfl, brf⟩
  ·rintro f w1 hb ⟨(h44 : f 44 = _), h46, _⟩
   refine ⟨fun hg => ?_, fun hg => ?_⟩
   rotate_left
   ·intro hG; exact absurd (h44.trans (by rw [hG])) hg
   have hG := Value.bool.inj (h44.symm.trans hg);intro K hK;have h46 : f 46 = _ := h46 hG;have cl : w1.cell? ⟨w.heap.size, 11, none⟩ = some (.int .i64 a.cap) := cell_later hb (cell_later hB (by go_simp));simp only [over, overL, h44, h46, hG];go_simp;exact hK _ _ ⟨_, (fun _ => rfl), by simp only [over, overL, h44, h46, hG]; rfl, brf⟩
  ·rintro f w1 hb ⟨(h44 : f 44 = _), h47, _⟩
   refine ⟨fun hg => ?_, fun hg => ?_⟩
   rotate_left
   ·intro hG; exact absurd (h44.trans (by rw [hG])) hg
   have hG := Value.bool.inj (h44.symm.trans hg);intro K hK;have h47 : f 47 = _ := h47 hG;simp only [over, overL, h44, h47, hG];go_simp;exact hK _ _ ⟨_, (fun _ => new_one _ _ _), by simp only [over, overL, h44, h47, hG]; rfl, (brf).alloc (Nat.le_refl _) _⟩
  ·rintro f w1 hb ⟨(h44 : f 44 = _), h45, h48, _⟩
   refine ⟨fun hg => ?_, fun hg => ?_⟩
   rotate_left
   ·intro hG; exact absurd (h44.trans (by rw [hG])) hg
   have hG := Value.bool.inj (h44.symm.trans hg);intro K hK;replace h45 := h45 hG;replace h48 := h48 hG;simp only [over, overL, h44, hG];go_simp;refine (every_v [a.cap] 0 0 c3 hc3 _ _ _ (by simp) h45 h48).mono ?_;rintro e w2 ⟨rfl, hw⟩;exact hK _ _ ⟨_, (fun _ => rfl), by simp only [over, overL, h44, hG]; rfl, hw ▸ brf⟩
  ·rintro f w1 hb ⟨(h44 : f 44 = _), h49, _⟩ K hK
   have h49 : (b1 && c1 && c2) = true → f 49 = _ := h49
   cases hG : (b1 && c1 && c2) with
   | false =>
    rw [hG] at h44;simp only [over, overL, h44];go_simp;exact hK _ _ ⟨.bool false, by simp [measV, hG], by simp only [over, overL, h44]; rfl, brf⟩
   | true =>
    have h49 := h49 hG;rw [hG] at h44;simp only [over, overL, h44, h49];go_simp;exact hK _ _ ⟨.bool c3, by simp [measV, hG], by simp only [over, overL, h44, h49]; rfl, brf⟩
 ·intro f w1 hb h
  have h2 : f 2 = .bool (b1 && c1 && c2 && c3) := h.2.2.2.2.2.2.2.2.2.2.2.2.2.2.2.2.2.2.2.2.2.2.2.2.2.2.2.2.2.2.2.2.2.2.2.1;simp only [over, overL, h2, Nat.reduceAdd];go_wp2;go_ret;exact ⟨rfl, ((brf).alloc (Nat.le_refl _) _).trans ((hB.mono (by simp)).trans (hb.mono (by have := hB.size; simp at this; omega)))⟩
theorem all1 {x lo hi : Int} : [x].all (inR lo hi) = inR lo hi x := by simp
theorem isMeasured_any (a : Wr) (w : World) (hr0 : 0 ≤ a.rows * a.cols) (hr1 : a.rows * a.cols ≤ 384) :
  CR 124 #[wv a] w (.bool (rangeOk a)) := by
 by_cases hm : 1 < a.rows * a.cols
 ·have hl : loP a = 1 := if_pos hm
  by_cases hk : a.kind = 3
  ·have h1 : loC a = 0 := if_pos hk
   have h2 : hiC a = 0 := if_pos hk;have h := isMeasured_11 a w hr0 hr1 hm hk _ _ _ _ rfl rfl rfl rfl;unfold rangeOk; rw [hl, h1, h2]; exact h
  ·have h1 : loC a = 1 := if_neg hk
   have h2 : hiC a = 1000000000 := if_neg hk;have h := isMeasured_10 a w hr0 hr1 hm (by simp [hk]) _ _ _ _ rfl rfl rfl rfl;unfold rangeOk; rw [hl, h1, h2]; exact h
 ·have hl : loP a = 0 := if_neg hm
  by_cases hk : a.kind = 3
  ·have h1 : loC a = 0 := if_pos hk
   have h2 : hiC a = 0 := if_pos hk;have h := isMeasured_01 a w hr0 hr1 (by omega) hk _ _ _ _ rfl rfl rfl rfl;unfold rangeOk; rw [hl, h1, h2]; exact h
  ·have h1 : loC a = 1 := if_neg hk
   have h2 : hiC a = 1000000000 := if_neg hk;have h := isMeasured_00 a w hr0 hr1 (by omega) (by simp [hk]) _ _ _ _ rfl rfl rfl rfl;unfold rangeOk; rw [hl, h1, h2]; exact h
structure InR (a : Wr) : Prop where
 r1 : 1 ≤ a.rows
 r2 : a.rows ≤ 16
 c1 : 1 ≤ a.cols
 c2 : a.cols ≤ 24
 x0 : 0 ≤ a.x
 x1 : a.x ≤ 200000
 y0 : 0 ≤ a.y
 y1 : a.y ≤ 200000
 p0 : 0 ≤ a.pitch
 p1 : a.pitch ≤ 200000
 w0 : 1 ≤ a.wid
 w1 : a.wid ≤ 200000
 l0 : 1 ≤ a.len
 l1 : a.len ≤ 200000
 h0 : 1 ≤ a.hei
 h1 : a.hei ≤ 200000
 d0 : 0 ≤ a.deep
 d1 : a.deep ≤ 200000
theorem loP_in (a : Wr) : 0 ≤ loP a := by unfold loP; split <;> decide
theorem inR_of {a : Wr} (hr : inR 1 16 a.rows = true) (hc : inR 1 24 a.cols = true) (h : rangeOk a = true) : InR a := by
 have h1 := inR_iff.1 hr;have h2 := inR_iff.1 hc;simp only [rangeOk, List.all_cons, List.all_nil, Bool.and_true, Bool.and_eq_true, inR_iff] at h;obtain ⟨⟨⟨⟨hx, hy, hd⟩, hp⟩, hw, hl, hh⟩, _⟩ := h;have := loP_in a;exact ⟨h1.1, h1.2, h2.1, h2.2, hx.1, hx.2, hy.1, hy.2, by omega, hp.2, hw.1, hw.2, hl.1, hl.2, hh.1, hh.2, hd.1, hd.2⟩
theorem prod_in {c p : Int} (h0 : 0 ≤ c) (h1 : c ≤ 100) (h2 : 0 ≤ p) (h3 : p ≤ 200000) : 0 ≤ c * p ∧ c * p ≤ 20000000 := by
 refine ⟨Int.mul_nonneg h0 h2, ?_⟩;have k1 : c * p ≤ c * 200000 := Int.mul_le_mul_of_nonneg_left h3 h0;omega
theorem box3 {w : World} {b : Nat} {u0 u1 u2 : Value} (c0 : w.cell? ⟨b, 0, none⟩ = some u0) (c1 : w.cell? ⟨b, 1, none⟩ = some u1) (c2 : w.cell? ⟨b, 2, none⟩ = some u2) (x y z : Value) :
  (((w.setCell ⟨b, 0, none⟩ x).setCell ⟨b, 1, none⟩ y).setCell ⟨b, 2, none⟩ z).cell? ⟨b, 0, none⟩ = some x ∧
  (((w.setCell ⟨b, 0, none⟩ x).setCell ⟨b, 1, none⟩ y).setCell ⟨b, 2, none⟩ z).cell? ⟨b, 1, none⟩ = some y ∧
  (((w.setCell ⟨b, 0, none⟩ x).setCell ⟨b, 1, none⟩ y).setCell ⟨b, 2, none⟩ z).cell? ⟨b, 2, none⟩ = some z := by
 refine ⟨?_, ?_, ?_⟩
 all_goals simp [go_sem, c0, c1, c2]
theorem middle_any (a : Wr) (r c : Int) (w : World) (h : InR a) (hr0 : 0 ≤ r) (hr1 : r ≤ 100) (hc0 : 0 ≤ c) (hc1 : c ≤ 100) :
  CR 190 #[wv a, .agg #[.int .i64 r, .int .i64 c]] w (.agg #[.int .i64 (a.x + c * a.pitch), .int .i64 (a.y + r * a.pitch), .int .i64 (a.hei - a.deep)]) := by
 obtain ⟨r1, r2, c1, c2, x0, x1, y0, y1, p0, p1, w0, w1, l0, l1, h0, h1, d0, d1⟩ := h;obtain ⟨m0, m1⟩ := prod_in hc0 hc1 p0 p1;obtain ⟨n0, n1⟩ := prod_in hr0 hr1 p0 p1
 go_enter Tryz.func190, Tryz.ntmps190
 go_wp2;refine bodyPost_ret (v := .agg #[.int .i64 (a.x + c * a.pitch), .int .i64 (a.y + r * a.pitch), .int .i64 (a.hei - a.deep)]) (by simp [results, Tryz.results190, go_sem]) rfl ⟨rfl, ?_⟩
 repeat (first | exact brf | refine Below.alloc ?_ (by simp; omega) _ | refine Below.alloc ?_ (by simp) _)
def roomOk (a : Wr) : Bool := decide (a.x + (a.cols - 1) * a.pitch ≤ a.wid) && (decide (a.y + (a.rows - 1) * a.pitch ≤ a.len) && decide (a.deep ≤ a.hei))
theorem isRoomy_any (a : Wr) (w : World) (h : InR a) :
  CR 125 #[wv a] w (.bool (roomOk a)) := by
 have H := hdd h;obtain ⟨r1, r2, c1, c2, _, _, _, _, _, _, _, _, _, _, _, _, _, _⟩ := h;obtain ⟨X, hX⟩ : ∃ X, X = a.x + (a.cols - 1) * a.pitch := ⟨_, rfl⟩;obtain ⟨Y, hY⟩ : ∃ Y, Y = a.y + (a.rows - 1) * a.pitch := ⟨_, rfl⟩;have HR : Hid (roomOk a = (decide (X ≤ a.wid) && (decide (Y ≤ a.len) && decide (a.deep ≤ a.hei)))) := by rw [hX, hY]; rfl
 rw [HR.out]
 have HM : Hid (∀ w : World, CR 190 #[wv a, .agg #[.int .i64 (a.rows - 1), .int .i64 (a.cols - 1)]] w (.agg #[.int .i64 X, .int .i64 Y, .int .i64 (a.hei - a.deep)])) := by
  intro w;rw [hX, hY];exact middle_any a (a.rows - 1) (a.cols - 1) w H.out (by omega) (by omega) (by omega) (by omega)
 clear hX hY
 by_cases q1 : X ≤ a.wid
 ·by_cases q2 : Y ≤ a.len
  ·by_cases q3 : a.deep ≤ a.hei
   all_goals
    go_enter Tryz.func125, Tryz.ntmps125
    go_wp2_with fail
    refine (HM.out _).mono ?_;rintro e w2 ⟨rfl, hb⟩;have hB : bw w w2 := ((brf).alloc (Nat.le_refl _) _).trans (hb.mono (by simp));have k7 : ∀ o, (w2.alloc o).cell? ⟨w.heap.size, 7, none⟩ = some (.int .i64 a.wid) := fun o => cell_later ((Below.refl _ w2).alloc (Nat.le_refl _) o) (cell_later hb (by go_simp));have k8 : ∀ o, (w2.alloc o).cell? ⟨w.heap.size, 8, none⟩ = some (.int .i64 a.len) := fun o => cell_later ((Below.refl _ w2).alloc (Nat.le_refl _) o) (cell_later hb (by go_simp));have k9 : ∀ o, (w2.alloc o).cell? ⟨w.heap.size, 9, none⟩ = some (.int .i64 a.hei) := fun o => cell_later ((Below.refl _ w2).alloc (Nat.le_refl _) o) (cell_later hb (by go_simp));have k10 : ∀ o, (w2.alloc o).cell? ⟨w.heap.size, 10, none⟩ = some (.int .i64 a.deep) := fun o => cell_later ((Below.refl _ w2).alloc (Nat.le_refl _) o) (cell_later hb (by go_simp));go_wp2;go_ret;refine ⟨ret_bool ?_, hB.alloc hB.size _⟩;simp [q1, q2]
    try omega
  ·have q2' : decide (Y ≤ a.len) = false := by simp; omega
   go_enter Tryz.func125, Tryz.ntmps125
   go_wp2_with fail
   refine (HM.out _).mono ?_;rintro e w2 ⟨rfl, hb⟩;have hB : bw w w2 := ((brf).alloc (Nat.le_refl _) _).trans (hb.mono (by simp));have k7 : ∀ o, (w2.alloc o).cell? ⟨w.heap.size, 7, none⟩ = some (.int .i64 a.wid) := fun o => cell_later ((Below.refl _ w2).alloc (Nat.le_refl _) o) (cell_later hb (by go_simp));have k8 : ∀ o, (w2.alloc o).cell? ⟨w.heap.size, 8, none⟩ = some (.int .i64 a.len) := fun o => cell_later ((Below.refl _ w2).alloc (Nat.le_refl _) o) (cell_later hb (by go_simp));go_wp2;go_ret;exact ⟨ret_bool (by simp; omega), hB.alloc hB.size _⟩
 ·have q1' : decide (X ≤ a.wid) = false := by simp; omega
  go_enter Tryz.func125, Tryz.ntmps125
  go_wp2_with fail
  refine (HM.out _).mono ?_;rintro e w2 ⟨rfl, hb⟩;have hB : bw w w2 := ((brf).alloc (Nat.le_refl _) _).trans (hb.mono (by simp));have k7 : ∀ o, (w2.alloc o).cell? ⟨w.heap.size, 7, none⟩ = some (.int .i64 a.wid) := fun o => cell_later ((Below.refl _ w2).alloc (Nat.le_refl _) o) (cell_later hb (by go_simp));go_wp2;go_ret;exact ⟨ret_bool (by simp; omega), hB.alloc hB.size _⟩
end Go.Proofs.YtcajifelbldjnaaGreatDoor
