import Derived.Shelf.SlIter.Nil
import Derived.Shelf.SortM.Plain
import Derived.Shelf.SortM.SortNone
import Derived.Ground.GgzProg
import Derived.Ground.SlgmProg
import Derived.Shelf.SlGeneric
import Derived.Test.YtgbnjgenopdmfaaGreatProg
import Derived.Test.YtgbnjgenopdmfaaGreatGd

/-
  DERIVED: THE SHELF's CONTRACTS AT THIS DUMP, IN PLAIN WORDS (tools/lay-plain.mjs out of 'TryShelf.lean', which tools/lay-shelf.mjs wrote): THE SAME DECLARATIONS UNDER THE SAME NAMES: 'import', 'namespace', 'open', 'def', 'theorem' AND NOTHING ELSE: no command of the shelf's: FOR A HAND-IN. Each laying: the table of numbers ('.._ren') and one theorem, a field a fact of the dump's own or the kernel's comparison; each contract: ONE APPLICATION.
-/
namespace Go.Proofs
open Go.Shelf
def Tryz.keys179_ren : Go.Shelf.Ren := ⟨fun | 7 => 179 | 10 => 183 | n => n, fun | 23 => 222 | 26 => 9 | 3 => 3 | 28 => 234 | 0 => 0 | 27 => 233 | 33 => 103 | 4 => 4 | n => n, fun | n => n⟩
theorem Tryz.keys179 : Go.Proofs.SlLaysZ.n7 Tryz.prog Tryz.keys179_ren := {
  mixed := by kernel_rfl
  f7 := ⟨Tryz.f179.name, by decide, Tryz.func179.trans (congrArg some (by kernel_rfl))⟩
  f10 := ⟨Tryz.f183.name, by decide, Tryz.func183.trans (congrArg some (by kernel_rfl))⟩
  t0 := Tryz.underlying0
  a0 := Tryz.isAgg0
  z0 := Tryz.sizeOf0
  v0 := Tryz.zeroValue0
  t4 := Tryz.underlying4
  a4 := Tryz.isAgg4
  z4 := Tryz.sizeOf4
  v4 := Tryz.zeroValue4
  t23 := Tryz.underlying222
  a23 := Tryz.isAgg222
  z23 := Tryz.sizeOf222
  v23 := Tryz.zeroValue222
  t26 := Tryz.underlying9
  a26 := Tryz.isAgg9
  z26 := Tryz.sizeOf9
  v26 := Tryz.zeroValue9
  t27 := Tryz.underlying233
  a27 := Tryz.isAgg233
  z27 := Tryz.sizeOf233
  v27 := Tryz.zeroValue233
  t28 := Tryz.underlying234
  a28 := Tryz.isAgg234
  z28 := Tryz.sizeOf234
  v28 := Tryz.zeroValue234
  t33 := Tryz.underlying103
  a33 := Tryz.isAgg103
  z33 := Tryz.sizeOf103
  v33 := Tryz.zeroValue103 }
def Tryz.sorted178_ren : Go.Shelf.Ren := ⟨fun | 6 => 178 | 8 => 181 | 9 => 182 | 11 => 184 | 13 => 119 | 12 => 185 | 23 => 155 | 24 => 156 | 14 => 186 | 15 => 187 | 16 => 188 | 17 => 189 | 18 => 190 | 19 => 191 | 20 => 192 | 21 => 193 | 22 => 194 | 25 => 195 | 26 => 173 | 27 => 174 | 28 => 196 | 29 => 197 | 30 => 198 | 31 => 199 | n => n, fun | 26 => 9 | 28 => 234 | 24 => 38 | 0 => 0 | 3 => 3 | 37 => 172 | 48 => 209 | 50 => 211 | 4 => 4 | 40 => 202 | 39 => 201 | 45 => 206 | 5 => 5 | 9 => 9 | 51 => 225 | 55 => 229 | 57 => 236 | 58 => 237 | 33 => 103 | n => n, fun | n => n⟩
theorem Tryz.sorted178 : Go.Proofs.SlLaysZ.n6 Tryz.prog Tryz.sorted178_ren := {
  mixed := by kernel_rfl
  f6 := ⟨Tryz.f178.name, by decide, Tryz.func178.trans (congrArg some (by kernel_rfl))⟩
  f8 := ⟨Tryz.f181.name, by decide, Tryz.func181.trans (congrArg some (by kernel_rfl))⟩
  f11 := ⟨Tryz.f184.name, by decide, Tryz.func184.trans (congrArg some (by kernel_rfl))⟩
  t0 := Tryz.underlying0
  a0 := Tryz.isAgg0
  z0 := Tryz.sizeOf0
  v0 := Tryz.zeroValue0
  t24 := Tryz.underlying38
  a24 := Tryz.isAgg38
  z24 := Tryz.sizeOf38
  v24 := Tryz.zeroValue38
  t26 := Tryz.underlying9
  a26 := Tryz.isAgg9
  z26 := Tryz.sizeOf9
  v26 := Tryz.zeroValue9
  t28 := Tryz.underlying234
  a28 := Tryz.isAgg234
  z28 := Tryz.sizeOf234
  v28 := Tryz.zeroValue234
  i26 := by kernel_rfl }
def Tryz.sort182_ren : Go.Shelf.Ren := ⟨fun | 6 => 182 | 8 => 119 | 9 => 185 | 19 => 155 | 20 => 156 | 21 => 186 | 22 => 187 | 23 => 188 | 24 => 189 | 25 => 190 | 26 => 191 | 27 => 192 | 28 => 193 | 29 => 194 | 36 => 195 | 31 => 173 | 32 => 174 | 37 => 196 | 38 => 197 | 39 => 198 | 41 => 199 | n => n, fun | 27 => 38 | 29 => 9 | 3 => 3 | 32 => 172 | 26 => 38 | 0 => 0 | 44 => 209 | 46 => 211 | 4 => 4 | 36 => 202 | 35 => 201 | 41 => 206 | 5 => 5 | 9 => 9 | 53 => 225 | 57 => 229 | 63 => 236 | 64 => 237 | n => n, fun | n => n⟩
theorem Tryz.sort182 : Go.Proofs.SlLaysM.n6 Tryz.prog Tryz.sort182_ren := {
  mixed := by kernel_rfl
  f6 := ⟨Tryz.f182.name, by decide, Tryz.func182.trans (congrArg some (by kernel_rfl))⟩
  f8 := Tryz.func119.trans (congrArg some (by kernel_rfl))
  f9 := ⟨Tryz.f185.name, by decide, Tryz.func185.trans (congrArg some (by kernel_rfl))⟩
  f19 := Tryz.func155.trans (congrArg some (by kernel_rfl))
  f20 := Tryz.func156.trans (congrArg some (by kernel_rfl))
  f21 := ⟨Tryz.f186.name, by decide, Tryz.func186.trans (congrArg some (by kernel_rfl))⟩
  f22 := ⟨Tryz.f187.name, by decide, Tryz.func187.trans (congrArg some (by kernel_rfl))⟩
  f23 := ⟨Tryz.f188.name, by decide, Tryz.func188.trans (congrArg some (by kernel_rfl))⟩
  f24 := ⟨Tryz.f189.name, by decide, Tryz.func189.trans (congrArg some (by kernel_rfl))⟩
  f25 := ⟨Tryz.f190.name, by decide, Tryz.func190.trans (congrArg some (by kernel_rfl))⟩
  f26 := ⟨Tryz.f191.name, by decide, Tryz.func191.trans (congrArg some (by kernel_rfl))⟩
  f27 := ⟨Tryz.f192.name, by decide, Tryz.func192.trans (congrArg some (by kernel_rfl))⟩
  f28 := ⟨Tryz.f193.name, by decide, Tryz.func193.trans (congrArg some (by kernel_rfl))⟩
  f29 := ⟨Tryz.f194.name, by decide, Tryz.func194.trans (congrArg some (by kernel_rfl))⟩
  f31 := Tryz.func173.trans (congrArg some (by kernel_rfl))
  f32 := Tryz.func174.trans (congrArg some (by kernel_rfl))
  f36 := ⟨Tryz.f195.name, by decide, Tryz.func195.trans (congrArg some (by kernel_rfl))⟩
  f37 := ⟨Tryz.f196.name, by decide, Tryz.func196.trans (congrArg some (by kernel_rfl))⟩
  f38 := ⟨Tryz.f197.name, by decide, Tryz.func197.trans (congrArg some (by kernel_rfl))⟩
  f39 := ⟨Tryz.f198.name, by decide, Tryz.func198.trans (congrArg some (by kernel_rfl))⟩
  f41 := ⟨Tryz.f199.name, by decide, Tryz.func199.trans (congrArg some (by kernel_rfl))⟩
  t0 := Tryz.underlying0
  a0 := Tryz.isAgg0
  z0 := Tryz.sizeOf0
  v0 := Tryz.zeroValue0
  t3 := Tryz.underlying3
  a3 := Tryz.isAgg3
  z3 := Tryz.sizeOf3
  v3 := Tryz.zeroValue3
  t4 := Tryz.underlying4
  a4 := Tryz.isAgg4
  z4 := Tryz.sizeOf4
  v4 := Tryz.zeroValue4
  t5 := Tryz.underlying5
  a5 := Tryz.isAgg5
  z5 := Tryz.sizeOf5
  v5 := Tryz.zeroValue5
  t9 := Tryz.underlying9
  a9 := Tryz.isAgg9
  z9 := Tryz.sizeOf9
  v9 := Tryz.zeroValue9
  t26 := Tryz.underlying38
  a26 := Tryz.isAgg38
  z26 := Tryz.sizeOf38
  v26 := Tryz.zeroValue38
  t27 := Tryz.underlying38
  a27 := Tryz.isAgg38
  z27 := Tryz.sizeOf38
  v27 := Tryz.zeroValue38
  t29 := Tryz.underlying9
  a29 := Tryz.isAgg9
  z29 := Tryz.sizeOf9
  v29 := Tryz.zeroValue9
  t32 := Tryz.underlying172
  a32 := Tryz.isAgg172
  z32 := Tryz.sizeOf172
  v32 := Tryz.zeroValue172
  t35 := Tryz.underlying201
  a35 := Tryz.isAgg201
  z35 := Tryz.sizeOf201
  v35 := Tryz.zeroValue201
  t36 := Tryz.underlying202
  a36 := Tryz.isAgg202
  z36 := Tryz.sizeOf202
  v36 := Tryz.zeroValue202
  t41 := Tryz.underlying206
  a41 := Tryz.isAgg206
  z41 := Tryz.sizeOf206
  v41 := Tryz.zeroValue206
  t44 := Tryz.underlying209
  a44 := Tryz.isAgg209
  z44 := Tryz.sizeOf209
  v44 := Tryz.zeroValue209
  t46 := Tryz.underlying211
  a46 := Tryz.isAgg211
  z46 := Tryz.sizeOf211
  v46 := Tryz.zeroValue211
  t53 := Tryz.underlying225
  a53 := Tryz.isAgg225
  z53 := Tryz.sizeOf225
  v53 := Tryz.zeroValue225
  t57 := Tryz.underlying229
  a57 := Tryz.isAgg229
  z57 := Tryz.sizeOf229
  v57 := Tryz.zeroValue229
  t63 := Tryz.underlying236
  a63 := Tryz.isAgg236
  z63 := Tryz.sizeOf236
  v63 := Tryz.zeroValue236
  t64 := Tryz.underlying237
  a64 := Tryz.isAgg237
  z64 := Tryz.sizeOf237
  v64 := Tryz.zeroValue237 }
end Go.Proofs

/- maps.Keys, slices.Sorted; fluid.Sorted walked. -/
namespace Go.Proofs.YtgbnjgenopdmfaaGreat.F
open Go.RowKit Go.Maps Go.WideMaps
open Go.RowKit Go.Maps Go.WideMaps
/-- The bytes of a parcel's label. -/
abbrev lb (p : Pc) : List UInt8 := p.1.data.toList
/-- By labels: of each label that has a volume one parcel with all of it, rising. -/
def Srt (ps S : List Pc) : Prop := S.Pairwise (fun p q => lb p < lb q) ∧ ∀ p, p ∈ S ↔ 0 < p.2 ∧ p.2 = sumL ps (lb p)

theorem lt_irrefl' (a : List UInt8) : ¬ a < a := List.lt_irrefl a
theorem lt_asymm' {a b : List UInt8} (h : a < b) : ¬ b < a := fun h2 => List.lt_irrefl a (List.lt_trans h h2)
theorem srt_unique {ps S S' : List Pc} (h : Srt ps S) (h' : Srt ps S') : S = S' := by
  have nd : ∀ {T : List Pc}, T.Pairwise (fun p q => lb p < lb q) → T.Nodup := fun hT => hT.imp fun {a b} hab e => by subst e; exact lt_irrefl' _ hab
  have hp : S.Perm S' := (List.perm_ext_iff_of_nodup (nd h.1) (nd h'.1)).2 fun p => by rw [h.2 p, h'.2 p]
  exact List.Perm.eq_of_pairwise (fun a b _ _ h1 h2 => absurd h2 (lt_asymm' h1)) h.1 h'.1 hp
theorem srt_congr {ps qs S : List Pc} (e : ∀ l, sumL ps l = sumL qs l) (h : Srt ps S) : Srt qs S := ⟨h.1, fun p => by rw [h.2 p, e]⟩

theorem sumL_behind {acc : List Pc} {p : Pc} (l : List UInt8) : sumL (behind acc p) l = sumL acc l + if p.1.data.toList = l then p.2 else 0 := by
  by_cases h0 : p.2 = 0
  · rw [behind_zero h0, h0]; split <;> omega
  · rcases snoc_cases acc with rfl | ⟨a, q, rfl⟩
    · rw [behind_nil h0]; simp [sumL]
    · by_cases e : q.1 = p.1
      · rw [behind_same h0 e, sumL_snoc, sumL_snoc]
        simp only [e]
        split <;> omega
      · rw [behind_other h0 e, sumL_snoc]
theorem sumL_plainL (ps : List Pc) (l : List UInt8) : sumL (plainL ps) l = sumL ps l := by
  induction ps using snoc_ind with
  | h0 => rfl
  | h1 a p ih => rw [plainL_snoc, sumL_behind, ih, sumL_snoc]

/-- Labels of what is sorted are labels of what was there. -/
theorem srt_labels {ps S : List Pc} (hn : Nn ps) (h : Srt ps S) : ∀ p ∈ S, ∃ q ∈ ps, q.1 = p.1 := fun p hp => by
  obtain ⟨h0, h1⟩ := (h.2 p).1 hp
  obtain ⟨q, hq, e, _⟩ := (sumL_pos hn (lb p)).1 (by omega)
  exact ⟨q, hq, ByteArray.ext (Array.ext' e)⟩

/-- The parcel of a label. -/
def pcOf (ps : List Pc) (l : List UInt8) : Pc := (⟨l.toArray⟩, sumL ps l)
theorem lb_pcOf (ps : List Pc) (l : List UInt8) : lb (pcOf ps l) = l := by simp [lb, pcOf]
theorem srt_of {ps : List Pc} {K : List (List UInt8)} (hK : K.Pairwise (· < ·)) (hm : ∀ l, l ∈ K ↔ 0 < sumL ps l) : Srt ps (K.map (pcOf ps)) := by
  refine ⟨List.pairwise_map.2 (hK.imp fun {a b} h => by rw [lb_pcOf, lb_pcOf]; exact h), fun p => ?_⟩
  rw [List.mem_map]
  constructor
  · rintro ⟨l, hl, rfl⟩
    rw [lb_pcOf]
    exact ⟨(hm l).1 hl, rfl⟩
  · rintro ⟨h0, h1⟩
    refine ⟨lb p, (hm _).2 (by omega), ?_⟩
    obtain ⟨s, n⟩ := p
    simp only [lb, pcOf] at h1 ⊢
    rw [← h1]

/-- A map's keys: none twice; those that it has. -/
theorem keys_spec {w : World} {b n : Nat} {D : DataW Unit} (hown : w.ownsMap Tryz.prog 9 (plainElem Tryz.prog 3) b n D) : (strKeys D).Nodup ∧ (∀ x, x ∈ strKeys D ↔ has D (.string x) = true) ∧ (strKeys D).length ≤ n ∧ Maps.size D ≤ n := by
  have hlen : Maps.size D ≤ n := by
    obtain ⟨es, clock, _, _, hs, rfl⟩ := hown
    rw [Maps.size_eq, length_sorted]
    simpa using hs
  obtain ⟨es, hD, hpw, _⟩ := hown.entries law
  obtain ⟨es', hD', hko⟩ := hown.keysOf
  obtain rfl : es = es' := by rw [hD] at hD'; simpa using hD'
  subst hD
  have hk : ∀ p ∈ es, ∃ x, p.1 = .string x := fun p hp => by obtain ⟨v, hv⟩ := hko p hp; obtain ⟨x, _, hx, _⟩ := Maps.keyOf_str Tryz.underlying9 hv; exact ⟨x, hx⟩
  refine ⟨?_, fun x => ?_, ?_, hlen⟩
  · refine List.pairwise_map.2 (hpw.imp_of_mem fun {p q} hp' hq' hne e => hne ?_)
    obtain ⟨a, ha⟩ := hk p hp'
    obtain ⟨b, hb⟩ := hk q hq'
    rw [ha, hb] at e ⊢
    exact congrArg _ e
  · rw [has_eq, List.any_eq_true]
    show x ∈ es.map (fun p => strOf p.1) ↔ _
    rw [List.mem_map]
    constructor
    · rintro ⟨p, hp', rfl⟩
      obtain ⟨a, ha⟩ := hk p hp'
      exact ⟨p, hp', by rw [ha]; simp [Lit.sameKey, strOf]⟩
    · rintro ⟨p, hp', hs⟩
      obtain ⟨a, ha⟩ := hk p hp'
      rw [ha] at hs
      exact ⟨p, hp', by rw [ha]; simpa [Lit.sameKey, strOf] using hs⟩
  · show (es.map (fun p => strOf p.1)).length ≤ n
    rw [List.length_map]
    exact hlen
/-- The keys, sorted. -/
theorem sorted_keys {ps : List Pc} {D : DataW Unit} (hv : Vols D ps) (hn : (strKeys D).Nodup) (hm : ∀ x, x ∈ strKeys D ↔ has D (.string x) = true) {ss : List (List UInt8)} (hp : ss.Perm (strKeys D)) :
    Srt ps ((ss.mergeSort (fun x y => decide (x ≤ y))).map (pcOf ps)) := by
  have hpm := (List.mergeSort_perm ss leB).trans hp
  have tr : ∀ a b c : List UInt8, leB a b = true → leB b c = true → leB a c = true := fun a b c h1 h2 => by simp only [leB, decide_eq_true_eq] at *; exact List.le_trans h1 h2
  have to : ∀ a b : List UInt8, (leB a b || leB b a) = true := fun a b => by simp only [leB, Bool.or_eq_true, decide_eq_true_eq]; exact List.le_total a b
  have hsorted := List.pairwise_mergeSort tr to ss
  have hnd : (ss.mergeSort leB).Nodup := (List.Perm.nodup_iff hpm).2 hn
  refine srt_of (List.Pairwise.imp_of_mem (R := fun a b => leB a b = true ∧ a ≠ b) (fun {a b} _ _ h => ?_) (hsorted.and hnd)) fun l => ?_
  · have h1 : a ≤ b := by simpa [leB] using h.1
    exact Decidable.byContradiction fun hn => h.2 (List.le_antisymm h1 (List.not_lt.1 hn))
  · rw [hpm.mem_iff, hm l, hv.2.2 l, decide_eq_true_eq]

end Go.Proofs.YtgbnjgenopdmfaaGreat.F

/- maps.Keys, slices.Sorted; fluid.Sorted walked. -/
namespace Go.Proofs.YtgbnjgenopdmfaaGreat.F
open Go.RowKit Go.Maps Go.WideMaps Go.Sort Go.Shelf
open Go.RowKit Go.Maps Go.Sort Go.Shelf
theorem Tryz.sorts178 (m : Nat) : AnyZ.SortsIn Tryz.prog Tryz.sorted178_ren Fence.wide m :=
  ⟨fun blk off cap ss W hH hblk hsz => callsIn_wide.2 (AnyM.slices_Sort_string Tryz.sort182 blk off cap ss W hH hblk hsz),
   fun p cap W => callsIn_wide.2 (AnyM.slices_Sort_string_none Tryz.sort182 p cap W)⟩

theorem Tryz.maps_Keys_179 (mb : Option Nat) (W : World) : CallsIn Fence.wide 5 Tryz.prog 179 #[.map mb] W fun e w' => e = .returned (.func (.func 183) #[] #[.pointer (some ⟨W.heap.size, 0, none⟩)]) ∧ w' = W.alloc (.cells #[.map mb] 222) :=
  AnyZ.keys_in Tryz.keys179 Fence.wide 5 trivial rfl mb W

set_option maxHeartbeats 1000000 in
theorem Tryz.slices_Sorted_keys_178_179 {H : Type} (b nn : Nat) (D0 : DataW H) (R : Value → Option (DataW H × List MemPlace)) (w : World) (hown : w.ownsMap Tryz.prog 9 R b nn D0) (hmax : Maps.size D0 ≤ maxLen) (hbytes : Maps.size D0 * 16 ≤ 140737488355328) :
    CallsIn Fence.wide 5 Tryz.prog 178 #[.func (.func 183) #[] #[.pointer (some ⟨w.heap.size, 0, none⟩)]] (w.alloc (.cells #[.map (some b)] 222)) fun e w' => ∃ (v : Value) (ss : List (List UInt8)), e = .returned v ∧ ss.Perm (strKeys D0) ∧
      w'.ownsRow (w.alloc (.cells #[.map (some b)] 222)).heap.size 9 1 v ss.length ((ss.mergeSort (fun x y => decide (x ≤ y))).map encStr) ∧ (v = .slice none 0 0 ↔ ss = []) ∧ Below (w.alloc (.cells #[.map (some b)] 222)).heap.size (w.alloc (.cells #[.map (some b)] 222)) w' := by
  have hbl := hown.lt
  have hseq : SeqGives Fence.wide 2 Tryz.prog 183 #[.pointer (some ⟨w.heap.size, 0, none⟩)] encStr (fun ss => ss.Perm (strKeys D0)) (Maps.size D0) (w.alloc (.cells #[.map (some b)] 222)) :=
    AnyZ.keys_gives (ρ := Tryz.keys179_ren) { Tryz.keys179 with } Fence.wide _ trivial rfl (by omega) w.heap.size b nn D0 _ (by simp) (by simp) (by
      obtain ⟨es, clock, hb, Ft, hs, hD⟩ := hown
      exact ⟨es, clock, (Below.heap_alloc _ _ b hbl).trans hb, Ft, hs, hD⟩)
  exact AnyZ.sorted_in Tryz.sorted178 Fence.wide 5 trivial trivial trivial trivial rfl (by omega) (Tryz.sorts178 _) (enters_of Tryz.func182 (by kernel_rfl) rfl) 183 #[.pointer (some ⟨w.heap.size, 0, none⟩)] trivial (enters_of Tryz.func183 (by kernel_rfl) rfl) _ _ hmax hbytes _ hseq


/-- maps.Keys: a function value over one new block, which holds the map. -/
theorem keysOf_any (b : Nat) (w : World) : Calls Tryz.prog 179 #[.map (some b)] w fun e w' => e = .returned (.func (.func 183) #[] #[.pointer (some ⟨w.heap.size, 0, none⟩)]) ∧ w' = w.alloc (.cells #[.map (some b)] 222) :=
  callsIn_wide.1 (Tryz.maps_Keys_179 (some b) w)
open Go.RowKit Go.Maps Go.WideMaps
/-- A slice of texts, in memory. -/
def Txt (w : World) (ao : Option Addr) (K : List (List UInt8)) : Prop := K = [] ∨ ∃ g, ao = some ⟨g, 0, none⟩ ∧ g < w.heap.size ∧ ∀ k (h : k < K.length), w.cell? ⟨g, k, none⟩ = some (.string ⟨(K[k]'h).toArray⟩)
theorem Txt.next {w w1 : World} {ao : Option Addr} {K : List (List UInt8)} (h : Txt w ao K) (hb : Below w.heap.size w w1) : Txt w1 ao K := by
  rcases h with h | ⟨g, e, hg, hc⟩
  · exact .inl h
  · exact .inr ⟨g, e, Nat.lt_of_lt_of_le hg hb.size, fun k hk => (hb.cell (p := ⟨g, k, none⟩) hg).trans (hc k hk)⟩
theorem Txt.at {w : World} {ao : Option Addr} {K : List (List UInt8)} (h : Txt w ao K) {k : Nat} (hk : k < K.length) : ∃ g, ao = some ⟨g, 0, none⟩ ∧ g < w.heap.size ∧ w.cell? ⟨g, k, none⟩ = some (.string ⟨(K[k]'hk).toArray⟩) := by
  rcases h with rfl | ⟨g, e, hg, hc⟩
  · exact absurd hk (Nat.not_lt_zero _)
  · exact ⟨g, e, hg, hc k hk⟩
theorem txt_of {w : World} {base : Nat} {v : Value} {K : List (List UInt8)} {n : Nat} (hn : n = K.length) (h : w.ownsRow base 9 1 v n (K.map encStr)) : ∃ ao cap, v = .slice ao K.length cap ∧ Txt w ao K := by
  subst hn
  rcases h.2 with ⟨h1, h2⟩ | ⟨g, cap, cur, h1, h2, h3, h4⟩
  · exact ⟨none, 0, by rw [h1, h2], .inl (List.eq_nil_of_length_eq_zero h2)⟩
  · subst h1
    refine ⟨some ⟨g, 0, none⟩, cap, rfl, .inr ⟨g, rfl, (Array.getElem?_eq_some_iff.1 h3).1, fun k hk => ?_⟩⟩
    rw [World.ownsRow.cellAt h k (by omega), List.getElem?_map, List.getElem?_eq_getElem hk]
    rfl

set_option maxHeartbeats 1600000 in
theorem sorted_ok (ao : Option Addr) (cap : Nat) (ps : List Pc) (w : World) (h : Fl w ao ps) (hr : fref ps = 0) :
    Calls Tryz.prog 171 #[.slice ao ps.length cap] w fun e w' => ∃ v S, e = .returned (.tuple #[v, .int .i64 0]) ∧ Srt ps S ∧ S.length ≤ ps.length ∧ Own w' w.heap.size v S ∧ Below w.heap.size w w' := by
  have HF : Hid (Fl w ao ps) := h
  have HR : Hid (fref ps = 0) := hr
  have HI : Hid (ps.length ≤ 100 ∧ Fine ps ∧ tot ps ≤ 1000000000) := fref_in hr
  have hl := HI.out.1
  clear h hr
  go_enter Tryz.func171, Tryz.ntmps171
  go_wp2_with fail
  refine (refusal1 ao cap ps w HF.out).mono ?_
  rintro e w1 ⟨rfl, hb⟩
  rw [HR.out]
  have HB : Hid (Below w.heap.size w w1) := hb
  clear hb
  go_wp2_with fail
  refine (volumes_any ao cap ps w1 (HF.out.next HB.out) HR.out).mono ?_
  rintro e w2 ⟨rfl, hV, hb⟩
  have HB2 : Hid (Below w.heap.size w w2) := HB.out.trans (hb.mono HB.out.size)
  obtain ⟨D, hD, hVo⟩ := hV
  have HD : Hid (w2.ownsMap Tryz.prog 9 (plainElem Tryz.prog 3) w1.heap.size ps.length D) := hD
  have HVo : Hid (Vols D ps) := hVo
  have HK : Hid ((strKeys D).Nodup ∧ (∀ x, x ∈ strKeys D ↔ has D (.string x) = true) ∧ (strKeys D).length ≤ ps.length ∧ Maps.size D ≤ ps.length) := keys_spec hD
  clear hb hD hVo
  go_wp2_with fail
  refine (keysOf_any w1.heap.size w2).mono ?_
  rintro e w3 ⟨rfl, rfl⟩
  go_wp2_with fail
  refine (callsIn_wide.1 (Tryz.slices_Sorted_keys_178_179 w1.heap.size ps.length D (plainElem Tryz.prog 3) w2 HD.out (by have := HK.out.2.2.2; unfold maxLen; omega) (by have := HK.out.2.2.2; omega))).mono ?_
  rintro e w4 ⟨kv, ss, rfl, hperm, hrow, hnil, hb⟩
  have hsl : ss.length = (ss.mergeSort (fun x y => decide (x ≤ y))).length := (List.length_mergeSort ss).symm
  have HS : Hid (Srt ps ((ss.mergeSort (fun x y => decide (x ≤ y))).map (pcOf ps))) := sorted_keys HVo.out HK.out.1 HK.out.2.1 hperm
  have hkl : (ss.mergeSort (fun x y => decide (x ≤ y))).length ≤ ps.length := by rw [← hsl, hperm.length_eq]; exact HK.out.2.2.1
  have hkb : ∀ k ∈ ss.mergeSort (fun x y => decide (x ≤ y)), k.length ≤ maxLen := fun k hk => strKeys_le HD.out Tryz.underlying9 k (((List.mergeSort_perm ss _).trans hperm).mem_iff.1 hk)
  clear hnil
  obtain ⟨ak, ck, rfl, htx⟩ := txt_of hsl hrow
  generalize ss.mergeSort (fun x y => decide (x ≤ y)) = K at *
  have HKB : Hid (∀ k ∈ K, k.length ≤ maxLen) := hkb
  have HTx : Hid (Txt w4 ak K) := htx
  have HB4 : Hid (Below w2.heap.size w2 w4) := ((Below.refl _ _).alloc (Nat.le_refl _) _).trans (hb.mono (by simp))
  have HB5 : Hid (Below w.heap.size w w4) := HB2.out.trans (HB4.out.mono HB2.out.size)
  have HV4 : Hid (w4.ownsMap Tryz.prog 9 (plainElem Tryz.prog 3) w1.heap.size ps.length D) := by
    obtain ⟨es, clock, h1, h2⟩ := HD.out
    exact ⟨es, clock, (HB4.out.block _ (Array.getElem?_eq_some_iff.1 h1).1).trans h1, h2⟩
  clear hperm hrow hb hsl htx hkb HD HK
  go_wp2
  go_loopw [6, 21] (fun v i wr => ∃ m : Nat, m ≤ K.length ∧ i = .int .i64 m ∧ Own wr w4.heap.size v ((K.take m).map (pcOf ps)) ∧ Below w4.heap.size w4 wr) (fun _ i _ => K.length - (intOf i).toNat)
  case atStart => exact ⟨0, Nat.zero_le _, rfl, Own.nil _ _, Below.refl _ _⟩
  case round =>
    obtain ⟨m, hm, rfl, hown, hb⟩ := hrel
    obtain ⟨a6, n6, c6, rfl⟩ := hown.form
    have HO : Hid (Own wr w4.heap.size (.slice a6 n6 c6) ((K.take m).map (pcOf ps))) := hown
    have HB6 : Hid (Below w4.heap.size w4 wr) := hb
    clear hown hb
    by_cases hlt : m < K.length
    · obtain ⟨g, rfl, hg, c0⟩ := (HTx.out.next HB6.out).at hlt
      have HT : Hid ((K.take (m + 1)).map (pcOf ps) = (K.take m).map (pcOf ps) ++ [pcOf ps (K[m]'hlt)]) := by
        rw [List.take_succ_eq_append_getElem hlt, List.map_append]; rfl
      have hkl2 := HKB.out _ (List.getElem_mem hlt)
      obtain ⟨l, hl2⟩ : ∃ l, K[m]'hlt = l := ⟨_, rfl⟩
      rw [hl2] at c0 HT hkl2
      clear hl2
      obtain ⟨s, hs⟩ : ∃ s : ByteArray, s = ⟨l.toArray⟩ := ⟨_, rfl⟩
      have hsd : s.data.toList = l := by rw [hs]
      have HP : Hid (pcOf ps l = (s, sumL ps s.data.toList)) := by rw [hsd]; unfold pcOf; rw [hs]; rfl
      have hsz : s.size ≤ maxLen := by rw [hs]; simpa [ByteArray.size] using hkl2
      rw [← hs] at c0
      clear hs hsd hkl2
      have hso := sumL_in HI.out.2.1.nn s.data.toList
      have ht9 := HI.out.2.2
      have HAt : Hid (D.atKey (.string s.data.toList) (.lit (.int .i64 0)) = .lit (.int .i64 (sumL ps s.data.toList))) := HVo.out.2.1 _
      have HMr : Hid (wr.ownsMap Tryz.prog 9 (plainElem Tryz.prog 3) w1.heap.size ps.length D) := by
        obtain ⟨es, clock, h1, h2⟩ := HV4.out
        exact ⟨es, clock, (HB6.out.block _ (Array.getElem?_eq_some_iff.1 h1).1).trans h1, h2⟩
      have hws := HB6.out.size
      have hlm : ((K.take m).map (pcOf ps)).length ≤ 100 := by rw [List.length_map, List.length_take]; omega
      generalize sumL ps s.data.toList = Sm at *
      go_wp2_with (first | (at_lookup; refine wpList_lookup_own_int _ rfl (.tmp 27) (.tmp 28) 222 rfl 9 3 .i64 law Tryz.underlying222 Tryz.underlying3 (zero3 _) w1.heap.size ps.length D rfl HMr.out (.string s) (.string s.data.toList) rfl (keyOf_string_mk Tryz.underlying9 hsz) ?_; intro c hat hwc; obtain rfl : Sm = c := (by have h := HAt.out.symm.trans hat; simpa using h); clear hat hwc) | (at_builtin; refine wpList_append_pc _ rfl (.tmp 25) (.tmp 31) rfl w4.heap.size (.slice a6 n6 c6) ((K.take m).map (pcOf ps)) rfl (HO.out.alloc _) wr.heap.size s Sm rfl (by go_simp) (by go_simp) (by omega) (by simp; omega) ?_; intro v' w7 ho hg7 _))
      have HO3 : Hid (Own w7 w4.heap.size v' ((K.take (m + 1)).map (pcOf ps))) := by rw [HT.out, HP.out]; exact ho
      have HB7 : Hid (Below w4.heap.size w4 w7) := below_grown (v := .slice a6 n6 c6) (HB6.out.alloc hws _) (HO.out.alloc _) hg7 (by simp; omega)
      clear ho hg7
      go_wp2
      go_roundw
      case rel => exact ⟨m + 1, by omega, by go_num, HO3.out, HB7.out⟩
      case measure => simp [intOf]; omega
    · have e : K.take m = K := List.take_of_length_le (by omega)
      rw [e] at HO
      clear e
      go_wp2
      go_ret2
      exact ⟨.slice a6 n6 c6, K.map (pcOf ps), rfl, HS.out, by rw [List.length_map]; exact hkl, own_base HO.out HB5.out.size, HB5.out.trans (HB6.out.mono HB5.out.size)⟩

set_option maxHeartbeats 800000 in
theorem sorted_no (ao : Option Addr) (cap : Nat) (ps : List Pc) (w : World) (h : Fl w ao ps) (hr : fref ps ≠ 0) :
    Calls Tryz.prog 171 #[.slice ao ps.length cap] w fun e w' => e = .returned (.tuple #[.slice none 0 0, .int .i64 (fref ps)]) ∧ Below w.heap.size w w' := by
  have HF : Hid (Fl w ao ps) := h
  have hne : (fref ps == 0) = false := by simp [hr]
  have hne2 : (fref ps != 0) = true := by simp [hr]
  clear hr h
  go_enter Tryz.func171, Tryz.ntmps171
  go_wp2_with fail
  refine (refusal1 ao cap ps w HF.out).mono ?_
  rintro e w1 ⟨rfl, hb⟩
  go_wp2
  go_ret2
  exact ⟨rfl, hb⟩

end Go.Proofs.YtgbnjgenopdmfaaGreat.F

/- What is handed back. -/
namespace Go.Proofs.YtgbnjgenopdmfaaGreat.F
open Go.RowKit Go.Maps Go.WideMaps
open Go.RowKit Go.Maps Go.WideMaps
theorem own_below {w w' : World} {base : Nat} {v : Value} {ps : List Pc} (h : Own w base v ps) (hb : Below w.heap.size w w') : Own w' base v ps := by
  obtain ⟨h1, h2⟩ := h
  refine ⟨h1, h2.imp id ?_⟩
  rintro ⟨g, cap, cur, e, hg, hh, r⟩
  exact ⟨g, cap, cur, e, hg, (hb.block g (Array.getElem?_eq_some_iff.1 hh).1).trans hh, r⟩
theorem Own.give {w : World} {base : Nat} {v : Value} {ps : List Pc} (h : Own w base v ps) (hs : ∀ p ∈ ps, p.1.size ≤ maxLen) : ∃ ao cap, v = .slice ao ps.length cap ∧ Fl w ao ps := by
  obtain ⟨ao, cap, rfl⟩ := h.shape
  exact ⟨ao, cap, rfl, h.fl hs⟩
theorem fine_size {ps : List Pc} (h : fref ps = 0) : ∀ p ∈ ps, p.1.size ≤ maxLen := fun p hp => by
  have := lab_in ((fref_in h).2.1 p hp).1
  unfold maxLen; omega
theorem srt_size {ps S : List Pc} (h : fref ps = 0) (hS : Srt ps S) : ∀ p ∈ S, p.1.size ≤ maxLen := fun p hp => by
  obtain ⟨q, hq, e⟩ := srt_labels (fref_in h).2.1.nn hS p hp
  rw [← e]; exact fine_size h q hq


end Go.Proofs.YtgbnjgenopdmfaaGreat.F
