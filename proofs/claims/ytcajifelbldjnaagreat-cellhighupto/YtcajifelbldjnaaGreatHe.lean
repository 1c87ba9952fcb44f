import Derived.Shelf.SlIter.Nil
import Derived.Shelf.SortM.Plain
import Derived.Shelf.SortM.SortNone
import Derived.Ground.GgzProg
import Derived.Ground.SlgmProg
import Derived.Shelf.SlGeneric
import Derived.Test.YtcajifelbldjnaaGreatProg
import Derived.Test.YtcajifelbldjnaaGreatHd
import Derived.Test.YtcajifelbldjnaaGreatHb

/-
  DERIVED: THE SHELF's CONTRACTS AT THIS DUMP, IN PLAIN WORDS (tools/lay-plain.mjs out of 'TryShelf.lean', which tools/lay-shelf.mjs wrote): THE SAME DECLARATIONS UNDER THE SAME NAMES: 'import', 'namespace', 'open', 'def', 'theorem' AND NOTHING ELSE: no command of the shelf's: FOR A HAND-IN. Each laying: the table of numbers ('.._ren') and one theorem, a field a fact of the dump's own or the kernel's comparison; each contract: ONE APPLICATION.
-/
namespace Go.Proofs
open Go.Shelf
def Tryz.keys162_ren : Go.Shelf.Ren := ⟨fun | 7 => 162 | 10 => 168 | n => n, fun | 23 => 217 | 26 => 9 | 3 => 3 | 28 => 234 | 0 => 0 | 27 => 233 | 33 => 158 | 4 => 4 | n => n, fun | n => n⟩
theorem Tryz.keys162 : Go.Proofs.SlLaysZ.n7 Tryz.prog Tryz.keys162_ren := {
  mixed := by kernel_rfl
  f7 := ⟨Tryz.f162.name, by decide, Tryz.func162.trans (congrArg some (by kernel_rfl))⟩
  f10 := ⟨Tryz.f168.name, by decide, Tryz.func168.trans (congrArg some (by kernel_rfl))⟩
  t0 := Tryz.underlying0
  a0 := Tryz.isAgg0
  z0 := Tryz.sizeOf0
  v0 := Tryz.zeroValue0
  t4 := Tryz.underlying4
  a4 := Tryz.isAgg4
  z4 := Tryz.sizeOf4
  v4 := Tryz.zeroValue4
  t23 := Tryz.underlying217
  a23 := Tryz.isAgg217
  z23 := Tryz.sizeOf217
  v23 := Tryz.zeroValue217
  t26 := Tryz.underlying9
  a26 := Tryz.isAgg9
  z26 := Tryz.sizeOf9
  v26 := Tryz.zeroValue9
  t27 := Tryz.underlying233
  a27 := Tryz.isAgg233
  z27 := Tryz.sizeOf233
  v27 := Tryz.zeroValue233
  t28 := Tryz.underlying234
  a28 := Tryz.isAgg234
  z28 := Tryz.sizeOf234
  v28 := Tryz.zeroValue234
  t33 := Tryz.underlying158
  a33 := Tryz.isAgg158
  z33 := Tryz.sizeOf158
  v33 := Tryz.zeroValue158 }
def Tryz.sorted161_ren : Go.Shelf.Ren := ⟨fun | 6 => 161 | 8 => 166 | 9 => 167 | 11 => 169 | 13 => 90 | 12 => 170 | 23 => 124 | 24 => 125 | 14 => 171 | 15 => 172 | 16 => 173 | 17 => 174 | 18 => 175 | 19 => 176 | 20 => 177 | 21 => 178 | 22 => 179 | 25 => 180 | 26 => 149 | 27 => 150 | 28 => 181 | 29 => 182 | 30 => 183 | 31 => 184 | n => n, fun | 26 => 9 | 28 => 234 | 24 => 47 | 0 => 0 | 3 => 3 | 37 => 166 | 48 => 201 | 50 => 203 | 4 => 4 | 40 => 194 | 39 => 193 | 45 => 198 | 5 => 5 | 9 => 9 | 51 => 220 | 55 => 224 | 57 => 236 | 58 => 237 | 33 => 158 | n => n, fun | n => n⟩
theorem Tryz.sorted161 : Go.Proofs.SlLaysZ.n6 Tryz.prog Tryz.sorted161_ren := {
  mixed := by kernel_rfl
  f6 := ⟨Tryz.f161.name, by decide, Tryz.func161.trans (congrArg some (by kernel_rfl))⟩
  f8 := ⟨Tryz.f166.name, by decide, Tryz.func166.trans (congrArg some (by kernel_rfl))⟩
  f11 := ⟨Tryz.f169.name, by decide, Tryz.func169.trans (congrArg some (by kernel_rfl))⟩
  t0 := Tryz.underlying0
  a0 := Tryz.isAgg0
  z0 := Tryz.sizeOf0
  v0 := Tryz.zeroValue0
  t24 := Tryz.underlying47
  a24 := Tryz.isAgg47
  z24 := Tryz.sizeOf47
  v24 := Tryz.zeroValue47
  t26 := Tryz.underlying9
  a26 := Tryz.isAgg9
  z26 := Tryz.sizeOf9
  v26 := Tryz.zeroValue9
  t28 := Tryz.underlying234
  a28 := Tryz.isAgg234
  z28 := Tryz.sizeOf234
  v28 := Tryz.zeroValue234
  i26 := by kernel_rfl }
def Tryz.sort167_ren : Go.Shelf.Ren := ⟨fun | 6 => 167 | 8 => 90 | 9 => 170 | 19 => 124 | 20 => 125 | 21 => 171 | 22 => 172 | 23 => 173 | 24 => 174 | 25 => 175 | 26 => 176 | 27 => 177 | 28 => 178 | 29 => 179 | 36 => 180 | 31 => 149 | 32 => 150 | 37 => 181 | 38 => 182 | 39 => 183 | 41 => 184 | n => n, fun | 27 => 47 | 29 => 9 | 3 => 3 | 32 => 166 | 26 => 47 | 0 => 0 | 44 => 201 | 46 => 203 | 4 => 4 | 36 => 194 | 35 => 193 | 41 => 198 | 5 => 5 | 9 => 9 | 53 => 220 | 57 => 224 | 63 => 236 | 64 => 237 | n => n, fun | n => n⟩
theorem Tryz.sort167 : Go.Proofs.SlLaysM.n6 Tryz.prog Tryz.sort167_ren := {
  mixed := by kernel_rfl
  f6 := ⟨Tryz.f167.name, by decide, Tryz.func167.trans (congrArg some (by kernel_rfl))⟩
  f8 := Tryz.func90.trans (congrArg some (by kernel_rfl))
  f9 := ⟨Tryz.f170.name, by decide, Tryz.func170.trans (congrArg some (by kernel_rfl))⟩
  f19 := Tryz.func124.trans (congrArg some (by kernel_rfl))
  f20 := Tryz.func125.trans (congrArg some (by kernel_rfl))
  f21 := ⟨Tryz.f171.name, by decide, Tryz.func171.trans (congrArg some (by kernel_rfl))⟩
  f22 := ⟨Tryz.f172.name, by decide, Tryz.func172.trans (congrArg some (by kernel_rfl))⟩
  f23 := ⟨Tryz.f173.name, by decide, Tryz.func173.trans (congrArg some (by kernel_rfl))⟩
  f24 := ⟨Tryz.f174.name, by decide, Tryz.func174.trans (congrArg some (by kernel_rfl))⟩
  f25 := ⟨Tryz.f175.name, by decide, Tryz.func175.trans (congrArg some (by kernel_rfl))⟩
  f26 := ⟨Tryz.f176.name, by decide, Tryz.func176.trans (congrArg some (by kernel_rfl))⟩
  f27 := ⟨Tryz.f177.name, by decide, Tryz.func177.trans (congrArg some (by kernel_rfl))⟩
  f28 := ⟨Tryz.f178.name, by decide, Tryz.func178.trans (congrArg some (by kernel_rfl))⟩
  f29 := ⟨Tryz.f179.name, by decide, Tryz.func179.trans (congrArg some (by kernel_rfl))⟩
  f31 := Tryz.func149.trans (congrArg some (by kernel_rfl))
  f32 := Tryz.func150.trans (congrArg some (by kernel_rfl))
  f36 := ⟨Tryz.f180.name, by decide, Tryz.func180.trans (congrArg some (by kernel_rfl))⟩
  f37 := ⟨Tryz.f181.name, by decide, Tryz.func181.trans (congrArg some (by kernel_rfl))⟩
  f38 := ⟨Tryz.f182.name, by decide, Tryz.func182.trans (congrArg some (by kernel_rfl))⟩
  f39 := ⟨Tryz.f183.name, by decide, Tryz.func183.trans (congrArg some (by kernel_rfl))⟩
  f41 := ⟨Tryz.f184.name, by decide, Tryz.func184.trans (congrArg some (by kernel_rfl))⟩
  t0 := Tryz.underlying0
  a0 := Tryz.isAgg0
  z0 := Tryz.sizeOf0
  v0 := Tryz.zeroValue0
  t3 := Tryz.underlying3
  a3 := Tryz.isAgg3
  z3 := Tryz.sizeOf3
  v3 := Tryz.zeroValue3
  t4 := Tryz.underlying4
  a4 := Tryz.isAgg4
  z4 := Tryz.sizeOf4
  v4 := Tryz.zeroValue4
  t5 := Tryz.underlying5
  a5 := Tryz.isAgg5
  z5 := Tryz.sizeOf5
  v5 := Tryz.zeroValue5
  t9 := Tryz.underlying9
  a9 := Tryz.isAgg9
  z9 := Tryz.sizeOf9
  v9 := Tryz.zeroValue9
  t26 := Tryz.underlying47
  a26 := Tryz.isAgg47
  z26 := Tryz.sizeOf47
  v26 := Tryz.zeroValue47
  t27 := Tryz.underlying47
  a27 := Tryz.isAgg47
  z27 := Tryz.sizeOf47
  v27 := Tryz.zeroValue47
  t29 := Tryz.underlying9
  a29 := Tryz.isAgg9
  z29 := Tryz.sizeOf9
  v29 := Tryz.zeroValue9
  t32 := Tryz.underlying166
  a32 := Tryz.isAgg166
  z32 := Tryz.sizeOf166
  v32 := Tryz.zeroValue166
  t35 := Tryz.underlying193
  a35 := Tryz.isAgg193
  z35 := Tryz.sizeOf193
  v35 := Tryz.zeroValue193
  t36 := Tryz.underlying194
  a36 := Tryz.isAgg194
  z36 := Tryz.sizeOf194
  v36 := Tryz.zeroValue194
  t41 := Tryz.underlying198
  a41 := Tryz.isAgg198
  z41 := Tryz.sizeOf198
  v41 := Tryz.zeroValue198
  t44 := Tryz.underlying201
  a44 := Tryz.isAgg201
  z44 := Tryz.sizeOf201
  v44 := Tryz.zeroValue201
  t46 := Tryz.underlying203
  a46 := Tryz.isAgg203
  z46 := Tryz.sizeOf203
  v46 := Tryz.zeroValue203
  t53 := Tryz.underlying220
  a53 := Tryz.isAgg220
  z53 := Tryz.sizeOf220
  v53 := Tryz.zeroValue220
  t57 := Tryz.underlying224
  a57 := Tryz.isAgg224
  z57 := Tryz.sizeOf224
  v57 := Tryz.zeroValue224
  t63 := Tryz.underlying236
  a63 := Tryz.isAgg236
  z63 := Tryz.sizeOf236
  v63 := Tryz.zeroValue236
  t64 := Tryz.underlying237
  a64 := Tryz.isAgg237
  z64 := Tryz.sizeOf237
  v64 := Tryz.zeroValue237 }
end Go.Proofs

/- maps.Keys, slices.Sorted; fluid.Sorted walked. -/
namespace Go.Proofs.YtcajifelbldjnaaGreat.F
open Go.RowKit Go.Maps Go.WideMaps
open Go.RowKit Go.Maps Go.WideMaps
/-- The bytes of a parcel's label. -/
abbrev lb (p : Pc) : List UInt8 := p.1.data.toList
/-- By labels: of each label that has a volume one parcel with all of it, rising. -/
def Srt (ps S : List Pc) : Prop := S.Pairwise (fun p q => lb p < lb q) ∧ ∀ p, p ∈ S ↔ 0 < p.2 ∧ p.2 = sumL ps (lb p)

/-- Labels of what is sorted are labels of what was there. -/
theorem srt_labels {ps S : List Pc} (hn : Nn ps) (h : Srt ps S) : ∀ p ∈ S, ∃ q ∈ ps, q.1 = p.1 := fun p hp => by
  obtain ⟨h0, h1⟩ := (h.2 p).1 hp
  obtain ⟨q, hq, e, _⟩ := (sumL_pos hn (lb p)).1 (by omega)
  exact ⟨q, hq, ByteArray.ext (Array.ext' e)⟩

/-- The parcel of a label. -/
def pcOf (ps : List Pc) (l : List UInt8) : Pc := (⟨l.toArray⟩, sumL ps l)
theorem lb_pcOf (ps : List Pc) (l : List UInt8) : lb (pcOf ps l) = l := by simp [lb, pcOf]
theorem srt_of {ps : List Pc} {K : List (List UInt8)} (hK : K.Pairwise (· < ·)) (hm : ∀ l, l ∈ K ↔ 0 < sumL ps l) : Srt ps (K.map (pcOf ps)) := by
  refine ⟨List.pairwise_map.2 (hK.imp fun {a b} h => by rw [lb_pcOf, lb_pcOf]; exact h), fun p => ?_⟩
  rw [List.mem_map]
  constructor
  · rintro ⟨l, hl, rfl⟩
    rw [lb_pcOf]
    exact ⟨(hm l).1 hl, rfl⟩
  · rintro ⟨h0, h1⟩
    refine ⟨lb p, (hm _).2 (by omega), ?_⟩
    obtain ⟨s, n⟩ := p
    simp only [lb, pcOf] at h1 ⊢
    rw [← h1]

/-- A map's keys: none twice; those that it has. -/
theorem keys_spec {w : World} {b n : Nat} {D : DataW Unit} (hown : w.ownsMap Tryz.prog 9 (plainElem Tryz.prog 3) b n D) : (strKeys D).Nodup ∧ (∀ x, x ∈ strKeys D ↔ has D (.string x) = true) ∧ (strKeys D).length ≤ n ∧ Maps.size D ≤ n := by
  have hlen : Maps.size D ≤ n := by
    obtain ⟨es, clock, _, _, hs, rfl⟩ := hown
    rw [Maps.size_eq, length_sorted]
    simpa using hs
  obtain ⟨es, hD, hpw, _⟩ := hown.entries law
  obtain ⟨es', hD', hko⟩ := hown.keysOf
  obtain rfl : es = es' := by rw [hD] at hD'; simpa using hD'
  subst hD
  have hk : ∀ p ∈ es, ∃ x, p.1 = .string x := fun p hp => by obtain ⟨v, hv⟩ := hko p hp; obtain ⟨x, _, hx, _⟩ := Maps.keyOf_str Tryz.underlying9 hv; exact ⟨x, hx⟩
  refine ⟨?_, fun x => ?_, ?_, hlen⟩
  · refine List.pairwise_map.2 (hpw.imp_of_mem fun {p q} hp' hq' hne e => hne ?_)
    obtain ⟨a, ha⟩ := hk p hp'
    obtain ⟨b, hb⟩ := hk q hq'
    rw [ha, hb] at e ⊢
    exact congrArg _ e
  · rw [has_eq, List.any_eq_true]
    show x ∈ es.map (fun p => strOf p.1) ↔ _
    rw [List.mem_map]
    constructor
    · rintro ⟨p, hp', rfl⟩
      obtain ⟨a, ha⟩ := hk p hp'
      exact ⟨p, hp', by rw [ha]; simp [Lit.sameKey, strOf]⟩
    · rintro ⟨p, hp', hs⟩
      obtain ⟨a, ha⟩ := hk p hp'
      rw [ha] at hs
      exact ⟨p, hp', by rw [ha]; simpa [Lit.sameKey, strOf] using hs⟩
  · show (es.map (fun p => strOf p.1)).length ≤ n
    rw [List.length_map]
    exact hlen
/-- The keys, sorted. -/
theorem sorted_keys {ps : List Pc} {D : DataW Unit} (hv : Vols D ps) (hn : (strKeys D).Nodup) (hm : ∀ x, x ∈ strKeys D ↔ has D (.string x) = true) {ss : List (List UInt8)} (hp : ss.Perm (strKeys D)) :
    Srt ps ((ss.mergeSort (fun x y => decide (x ≤ y))).map (pcOf ps)) := by
  have hpm := (List.mergeSort_perm ss leB).trans hp
  have tr : ∀ a b c : List UInt8, leB a b = true → leB b c = true → leB a c = true := fun a b c h1 h2 => by simp only [leB, decide_eq_true_eq] at *; exact List.le_trans h1 h2
  have to : ∀ a b : List UInt8, (leB a b || leB b a) = true := fun a b => by simp only [leB, Bool.or_eq_true, decide_eq_true_eq]; exact List.le_total a b
  have hsorted := List.pairwise_mergeSort tr to ss
  have hnd : (ss.mergeSort leB).Nodup := (List.Perm.nodup_iff hpm).2 hn
  refine srt_of (List.Pairwise.imp_of_mem (R := fun a b => leB a b = true ∧ a ≠ b) (fun {a b} _ _ h => ?_) (hsorted.and hnd)) fun l => ?_
  · have h1 : a ≤ b := by simpa [leB] using h.1
    exact Decidable.byContradiction fun hn => h.2 (List.le_antisymm h1 (List.not_lt.1 hn))
  · rw [hpm.mem_iff, hm l, hv.2.2 l, decide_eq_true_eq]

end Go.Proofs.YtcajifelbldjnaaGreat.F

/- maps.Keys, slices.Sorted; fluid.Sorted walked. -/
namespace Go.Proofs.YtcajifelbldjnaaGreat.F
open Go.RowKit Go.Maps Go.WideMaps Go.Sort Go.Shelf
open Go.RowKit Go.Maps Go.Sort Go.Shelf
theorem Tryz.sorts161 (m : Nat) : AnyZ.SortsIn Tryz.prog Tryz.sorted161_ren Fence.wide m :=
  ⟨fun blk off cap ss W hH hblk hsz => callsIn_wide.2 (AnyM.slices_Sort_string Tryz.sort167 blk off cap ss W hH hblk hsz),
   fun p cap W => callsIn_wide.2 (AnyM.slices_Sort_string_none Tryz.sort167 p cap W)⟩

theorem Tryz.maps_Keys_162 (mb : Option Nat) (W : World) : CallsIn Fence.wide 5 Tryz.prog 162 #[.map mb] W fun e w' => e = .returned (.func (.func 168) #[] #[.pointer (some ⟨W.heap.size, 0, none⟩)]) ∧ w' = W.alloc (.cells #[.map mb] 217) :=
  AnyZ.keys_in Tryz.keys162 Fence.wide 5 trivial rfl mb W

set_option maxHeartbeats 1000000 in
theorem Tryz.slices_Sorted_keys_161_162 {H : Type} (b nn : Nat) (D0 : DataW H) (R : Value → Option (DataW H × List MemPlace)) (w : World) (hown : w.ownsMap Tryz.prog 9 R b nn D0) (hmax : Maps.size D0 ≤ maxLen) (hbytes : Maps.size D0 * 16 ≤ 140737488355328) :
    CallsIn Fence.wide 5 Tryz.prog 161 #[.func (.func 168) #[] #[.pointer (some ⟨w.heap.size, 0, none⟩)]] (w.alloc (.cells #[.map (some b)] 217)) fun e w' => ∃ (v : Value) (ss : List (List UInt8)), e = .returned v ∧ ss.Perm (strKeys D0) ∧
      w'.ownsRow (w.alloc (.cells #[.map (some b)] 217)).heap.size 9 1 v ss.length ((ss.mergeSort (fun x y => decide (x ≤ y))).map encStr) ∧ (v = .slice none 0 0 ↔ ss = []) ∧ Below (w.alloc (.cells #[.map (some b)] 217)).heap.size (w.alloc (.cells #[.map (some b)] 217)) w' := by
  have hbl := hown.lt
  have hseq : SeqGives Fence.wide 2 Tryz.prog 168 #[.pointer (some ⟨w.heap.size, 0, none⟩)] encStr (fun ss => ss.Perm (strKeys D0)) (Maps.size D0) (w.alloc (.cells #[.map (some b)] 217)) :=
    AnyZ.keys_gives (ρ := Tryz.keys162_ren) { Tryz.keys162 with } Fence.wide _ trivial rfl (by omega) w.heap.size b nn D0 _ (by simp) (by simp) (by
      obtain ⟨es, clock, hb, Ft, hs, hD⟩ := hown
      exact ⟨es, clock, (Below.heap_alloc _ _ b hbl).trans hb, Ft, hs, hD⟩)
  exact AnyZ.sorted_in Tryz.sorted161 Fence.wide 5 trivial trivial trivial trivial rfl (by omega) (Tryz.sorts161 _) (enters_of Tryz.func167 (by kernel_rfl) rfl) 168 #[.pointer (some ⟨w.heap.size, 0, none⟩)] trivial (enters_of Tryz.func168 (by kernel_rfl) rfl) _ _ hmax hbytes _ hseq


/-- maps.Keys: a function value over one new block, which holds the map. -/
theorem keysOf_any (b : Nat) (w : World) : Calls Tryz.prog 162 #[.map (some b)] w fun e w' => e = .returned (.func (.func 168) #[] #[.pointer (some ⟨w.heap.size, 0, none⟩)]) ∧ w' = w.alloc (.cells #[.map (some b)] 217) :=
  callsIn_wide.1 (Tryz.maps_Keys_162 (some b) w)
open Go.RowKit Go.Maps Go.WideMaps
/-- A slice of texts, in memory. -/
def Txt (w : World) (ao : Option Addr) (K : List (List UInt8)) : Prop := K = [] ∨ ∃ g, ao = some ⟨g, 0, none⟩ ∧ g < w.heap.size ∧ ∀ k (h : k < K.length), w.cell? ⟨g, k, none⟩ = some (.string ⟨(K[k]'h).toArray⟩)
theorem Txt.next {w w1 : World} {ao : Option Addr} {K : List (List UInt8)} (h : Txt w ao K) (hb : Below w.heap.size w w1) : Txt w1 ao K := by
  rcases h with h | ⟨g, e, hg, hc⟩
  · exact .inl h
  · exact .inr ⟨g, e, Nat.lt_of_lt_of_le hg hb.size, fun k hk => (hb.cell (p := ⟨g, k, none⟩) hg).trans (hc k hk)⟩
theorem Txt.at {w : World} {ao : Option Addr} {K : List (List UInt8)} (h : Txt w ao K) {k : Nat} (hk : k < K.length) : ∃ g, ao = some ⟨g, 0, none⟩ ∧ g < w.heap.size ∧ w.cell? ⟨g, k, none⟩ = some (.string ⟨(K[k]'hk).toArray⟩) := by
  rcases h with rfl | ⟨g, e, hg, hc⟩
  · exact absurd hk (Nat.not_lt_zero _)
  · exact ⟨g, e, hg, hc k hk⟩
theorem txt_of {w : World} {base : Nat} {v : Value} {K : List (List UInt8)} {n : Nat} (hn : n = K.length) (h : w.ownsRow base 9 1 v n (K.map encStr)) : ∃ ao cap, v = .slice ao K.length cap ∧ Txt w ao K := by
  subst hn
  rcases h.2 with ⟨h1, h2⟩ | ⟨g, cap, cur, h1, h2, h3, h4⟩
  · exact ⟨none, 0, by rw [h1, h2], .inl (List.eq_nil_of_length_eq_zero h2)⟩
  · subst h1
    refine ⟨some ⟨g, 0, none⟩, cap, rfl, .inr ⟨g, rfl, (Array.getElem?_eq_some_iff.1 h3).1, fun k hk => ?_⟩⟩
    rw [World.ownsRow.cellAt h k (by omega), List.getElem?_map, List.getElem?_eq_getElem hk]
    rfl

set_option maxHeartbeats 1600000 in
theorem sorted_ok (ao : Option Addr) (cap : Nat) (ps : List Pc) (w : World) (h : Fl w ao ps) (hr : fref ps = 0) :
    Calls Tryz.prog 147 #[.slice ao ps.length cap] w fun e w' => ∃ v S, e = .returned (.tuple #[v, .int .i64 0]) ∧ Srt ps S ∧ S.length ≤ ps.length ∧ Own w' w.heap.size v S ∧ Below w.heap.size w w' := by
  have HF : Hid (Fl w ao ps) := h
  have HR : Hid (fref ps = 0) := hr
  have HI : Hid (ps.length ≤ 100 ∧ Fine ps ∧ tot ps ≤ 1000000000) := fref_in hr
  have hl := HI.out.1
  clear h hr
  go_enter Tryz.func147, Tryz.ntmps147
  go_wp2_with fail
  refine (refusal1 ao cap ps w HF.out).mono ?_
  rintro e w1 ⟨rfl, hb⟩
  rw [HR.out]
  have HB : Hid (Below w.heap.size w w1) := hb
  clear hb
  go_wp2_with fail
  refine (volumes_any ao cap ps w1 (HF.out.next HB.out) HR.out).mono ?_
  rintro e w2 ⟨rfl, hV, hb⟩
  have HB2 : Hid (Below w.heap.size w w2) := HB.out.trans (hb.mono HB.out.size)
  obtain ⟨D, hD, hVo⟩ := hV
  have HD : Hid (w2.ownsMap Tryz.prog 9 (plainElem Tryz.prog 3) w1.heap.size ps.length D) := hD
  have HVo : Hid (Vols D ps) := hVo
  have HK : Hid ((strKeys D).Nodup ∧ (∀ x, x ∈ strKeys D ↔ has D (.string x) = true) ∧ (strKeys D).length ≤ ps.length ∧ Maps.size D ≤ ps.length) := keys_spec hD
  clear hb hD hVo
  go_wp2_with fail
  refine (keysOf_any w1.heap.size w2).mono ?_
  rintro e w3 ⟨rfl, rfl⟩
  go_wp2_with fail
  refine (callsIn_wide.1 (Tryz.slices_Sorted_keys_161_162 w1.heap.size ps.length D (plainElem Tryz.prog 3) w2 HD.out (by have := HK.out.2.2.2; unfold maxLen; omega) (by have := HK.out.2.2.2; omega))).mono ?_
  rintro e w4 ⟨kv, ss, rfl, hperm, hrow, hnil, hb⟩
  have hsl : ss.length = (ss.mergeSort (fun x y => decide (x ≤ y))).length := (List.length_mergeSort ss).symm
  have HS : Hid (Srt ps ((ss.mergeSort (fun x y => decide (x ≤ y))).map (pcOf ps))) := sorted_keys HVo.out HK.out.1 HK.out.2.1 hperm
  have hkl : (ss.mergeSort (fun x y => decide (x ≤ y))).length ≤ ps.length := by rw [← hsl, hperm.length_eq]; exact HK.out.2.2.1
  have hkb : ∀ k ∈ ss.mergeSort (fun x y => decide (x ≤ y)), k.length ≤ maxLen := fun k hk => strKeys_le HD.out Tryz.underlying9 k (((List.mergeSort_perm ss _).trans hperm).mem_iff.1 hk)
  clear hnil
  obtain ⟨ak, ck, rfl, htx⟩ := txt_of hsl hrow
  generalize ss.mergeSort (fun x y => decide (x ≤ y)) = K at *
  have HKB : Hid (∀ k ∈ K, k.length ≤ maxLen) := hkb
  have HTx : Hid (Txt w4 ak K) := htx
  have HB4 : Hid (Below w2.heap.size w2 w4) := ((Below.refl _ _).alloc (Nat.le_refl _) _).trans (hb.mono (by simp))
  have HB5 : Hid (Below w.heap.size w w4) := HB2.out.trans (HB4.out.mono HB2.out.size)
  have HV4 : Hid (w4.ownsMap Tryz.prog 9 (plainElem Tryz.prog 3) w1.heap.size ps.length D) := by
    obtain ⟨es, clock, h1, h2⟩ := HD.out
    exact ⟨es, clock, (HB4.out.block _ (Array.getElem?_eq_some_iff.1 h1).1).trans h1, h2⟩
  clear hperm hrow hb hsl htx hkb HD HK
  go_wp2
  go_loopw [6, 21] (fun v i wr => ∃ m : Nat, m ≤ K.length ∧ i = .int .i64 m ∧ Own wr w4.heap.size v ((K.take m).map (pcOf ps)) ∧ Below w4.heap.size w4 wr) (fun _ i _ => K.length - (intOf i).toNat)
  case atStart => exact ⟨0, Nat.zero_le _, rfl, Own.nil _ _, Below.refl _ _⟩
  case round =>
    obtain ⟨m, hm, rfl, hown, hb⟩ := hrel
    obtain ⟨a6, n6, c6, rfl⟩ := hown.form
    have HO : Hid (Own wr w4.heap.size (.slice a6 n6 c6) ((K.take m).map (pcOf ps))) := hown
    have HB6 : Hid (Below w4.heap.size w4 wr) := hb
    clear hown hb
    by_cases hlt : m < K.length
    · obtain ⟨g, rfl, hg, c0⟩ := (HTx.out.next HB6.out).at hlt
      have HT : Hid ((K.take (m + 1)).map (pcOf ps) = (K.take m).map (pcOf ps) ++ [pcOf ps (K[m]'hlt)]) := by
        rw [List.take_succ_eq_append_getElem hlt, List.map_append]; rfl
      have hkl2 := HKB.out _ (List.getElem_mem hlt)
      obtain ⟨l, hl2⟩ : ∃ l, K[m]'hlt = l := ⟨_, rfl⟩
      rw [hl2] at c0 HT hkl2
      clear hl2
      obtain ⟨s, hs⟩ : ∃ s : ByteArray, s = ⟨l.toArray⟩ := ⟨_, rfl⟩
      have hsd : s.data.toList = l := by rw [hs]
      have HP : Hid (pcOf ps l = (s, sumL ps s.data.toList)) := by rw [hsd]; unfold pcOf; rw [hs]; rfl
      have hsz : s.size ≤ maxLen := by rw [hs]; simpa [ByteArray.size] using hkl2
      rw [← hs] at c0
      clear hs hsd hkl2
      have hso := sumL_in HI.out.2.1.nn s.data.toList
      have ht9 := HI.out.2.2
      have HAt : Hid (D.atKey (.string s.data.toList) (.lit (.int .i64 0)) = .lit (.int .i64 (sumL ps s.data.toList))) := HVo.out.2.1 _
      have HMr : Hid (wr.ownsMap Tryz.prog 9 (plainElem Tryz.prog 3) w1.heap.size ps.length D) := by
        obtain ⟨es, clock, h1, h2⟩ := HV4.out
        exact ⟨es, clock, (HB6.out.block _ (Array.getElem?_eq_some_iff.1 h1).1).trans h1, h2⟩
      have hws := HB6.out.size
      have hlm : ((K.take m).map (pcOf ps)).length ≤ 100 := by rw [List.length_map, List.length_take]; omega
      generalize sumL ps s.data.toList = Sm at *
      go_wp2_with (first | (at_lookup; refine wpList_lookup_own_int _ rfl (.tmp 27) (.tmp 28) 217 rfl 9 3 .i64 law Tryz.underlying217 Tryz.underlying3 (zero3 _) w1.heap.size ps.length D rfl HMr.out (.string s) (.string s.data.toList) rfl (keyOf_string_mk Tryz.underlying9 hsz) ?_; intro c hat hwc; obtain rfl : Sm = c := (by have h := HAt.out.symm.trans hat; simpa using h); clear hat hwc) | (at_builtin; refine wpList_append_pc _ rfl (.tmp 25) (.tmp 31) rfl w4.heap.size (.slice a6 n6 c6) ((K.take m).map (pcOf ps)) rfl (HO.out.alloc _) wr.heap.size s Sm rfl (by go_simp) (by go_simp) (by omega) (by simp; omega) ?_; intro v' w7 ho hg7 _))
      have HO3 : Hid (Own w7 w4.heap.size v' ((K.take (m + 1)).map (pcOf ps))) := by rw [HT.out, HP.out]; exact ho
      have HB7 : Hid (Below w4.heap.size w4 w7) := below_grown (v := .slice a6 n6 c6) (HB6.out.alloc hws _) (HO.out.alloc _) hg7 (by simp; omega)
      clear ho hg7
      go_wp2
      go_roundw
      case rel => exact ⟨m + 1, by omega, by go_num, HO3.out, HB7.out⟩
      case measure => simp [intOf]; omega
    · have e : K.take m = K := List.take_of_length_le (by omega)
      rw [e] at HO
      clear e
      go_wp2
      go_ret2
      exact ⟨.slice a6 n6 c6, K.map (pcOf ps), rfl, HS.out, by rw [List.length_map]; exact hkl, own_base HO.out HB5.out.size, HB5.out.trans (HB6.out.mono HB5.out.size)⟩

end Go.Proofs.YtcajifelbldjnaaGreat.F

/- What is handed back. -/
namespace Go.Proofs.YtcajifelbldjnaaGreat.F
open Go.RowKit Go.Maps Go.WideMaps
open Go.RowKit Go.Maps Go.WideMaps
theorem Own.give {w : World} {base : Nat} {v : Value} {ps : List Pc} (h : Own w base v ps) (hs : ∀ p ∈ ps, p.1.size ≤ maxLen) : ∃ ao cap, v = .slice ao ps.length cap ∧ Fl w ao ps := by
  obtain ⟨ao, cap, rfl⟩ := h.shape
  exact ⟨ao, cap, rfl, h.fl hs⟩
theorem fine_size {ps : List Pc} (h : fref ps = 0) : ∀ p ∈ ps, p.1.size ≤ maxLen := fun p hp => by
  have := lab_in ((fref_in h).2.1 p hp).1
  unfold maxLen; omega
theorem srt_size {ps S : List Pc} (h : fref ps = 0) (hS : Srt ps S) : ∀ p ∈ S, p.1.size ≤ maxLen := fun p hp => by
  obtain ⟨q, hq, e⟩ := srt_labels (fref_in h).2.1.nn hS p hp
  rw [← e]; exact fine_size h q hq


end Go.Proofs.YtcajifelbldjnaaGreat.F

/- Wares. -/
namespace Go.Proofs.YtcajifelbldjnaaGreat
open Go.RowKit
/-- A ware. -/
structure Wr where
  name : ByteArray
  kind : Int
  rows : Int
  cols : Int
  x : Int
  y : Int
  pitch : Int
  wid : Int
  len : Int
  hei : Int
  deep : Int
  cap : Int
abbrev wcs (a : Wr) : Array Value := #[.string a.name, .int .i64 a.kind, .int .i64 a.rows, .int .i64 a.cols, .int .i64 a.x, .int .i64 a.y, .int .i64 a.pitch, .int .i64 a.wid, .int .i64 a.len, .int .i64 a.hei, .int .i64 a.deep, .int .i64 a.cap]
abbrev wv (a : Wr) : Value := .agg (wcs a)
abbrev wobj (a : Wr) : Obj := .cells (wcs a) 76

theorem new_three (x y z : Int) (w : World) (t : Nat) : IsInts [x, y, z] (.slice (some ⟨w.heap.size, 0, none⟩) 3 3) (w.alloc (.cells #[.int .i64 x, .int .i64 y, .int .i64 z] t)) :=
  ⟨_, rfl, fun k hk => by
    rcases (show k = 0 ∨ k = 1 ∨ k = 2 by simp at hk; omega) with e | e | e
    all_goals (subst e; simp [go_sem])⟩
theorem every_v (xs : List Int) (lo hi : Int) (b : Bool) (hb : xs.all (inR lo hi) = b) (v c : Value) (w : World) (hn : xs.length ≤ 100) (hc : IsClo lo hi c w) (hv : IsInts xs v w) :
    Calls Tryz.prog 75 #[c, v] w fun e w' => e = .returned (.bool b) ∧ w' = w := by
  subst hb; exact every_is xs lo hi v c w hn hc hv

/-- The least pitch. -/
def loP (a : Wr) : Int := if 1 < a.rows * a.cols then 1 else 0
def loC (a : Wr) : Int := if a.kind = 3 then 0 else 1
def hiC (a : Wr) : Int := if a.kind = 3 then 0 else 1000000000
/-- Are all numbers behind the counts in their ranges? -/
def rangeOk (a : Wr) : Bool := [a.x, a.y, a.deep].all (inR 0 200000) && [a.pitch].all (inR (loP a) 200000) && [a.wid, a.len, a.hei].all (inR 1 200000) && [a.cap].all (inR (loC a) (hiC a))

def measV (a : Wr) (lo hlo hhi : Int) (b1 c1 c2 c3 : Bool) (B : Nat) (d : Nat) (v : Value) (w : World) : Prop :=
  match d with
  | 16 => IsClo 0 200000 v w
  | 17 => v = .pointer (some ⟨B, 4, none⟩)
  | 18 => v = .int .i64 a.x
  | 19 => v = .pointer (some ⟨B, 5, none⟩)
  | 20 => v = .int .i64 a.y
  | 21 => v = .pointer (some ⟨B, 10, none⟩)
  | 22 => v = .int .i64 a.deep
  | 23 => IsInts [a.x, a.y, a.deep] v w
  | 24 => v = .bool b1
  | 25 => v = .bool b1
  | 26 => b1 = true → v = .int .i64 lo
  | 27 => b1 = true → IsClo lo 200000 v w
  | 28 => b1 = true → v = .pointer (some ⟨B, 6, none⟩)
  | 29 => b1 = true → v = .int .i64 a.pitch
  | 30 => b1 = true → IsInts [a.pitch] v w
  | 31 => b1 = true → v = .bool c1
  | 32 => v = .bool (b1 && c1)
  | 33 => v = .bool (b1 && c1)
  | 34 => (b1 && c1) = true → IsClo 1 200000 v w
  | 35 => (b1 && c1) = true → v = .pointer (some ⟨B, 7, none⟩)
  | 36 => (b1 && c1) = true → v = .int .i64 a.wid
  | 37 => (b1 && c1) = true → v = .pointer (some ⟨B, 8, none⟩)
  | 38 => (b1 && c1) = true → v = .int .i64 a.len
  | 39 => (b1 && c1) = true → v = .pointer (some ⟨B, 9, none⟩)
  | 40 => (b1 && c1) = true → v = .int .i64 a.hei
  | 41 => (b1 && c1) = true → IsInts [a.wid, a.len, a.hei] v w
  | 42 => (b1 && c1) = true → v = .bool c2
  | 43 => v = .bool (b1 && c1 && c2)
  | 44 => v = .bool (b1 && c1 && c2)
  | 45 => (b1 && c1 && c2) = true → IsClo hlo hhi v w
  | 46 => (b1 && c1 && c2) = true → v = .pointer (some ⟨B, 11, none⟩)
  | 47 => (b1 && c1 && c2) = true → v = .int .i64 a.cap
  | 48 => (b1 && c1 && c2) = true → IsInts [a.cap] v w
  | 49 => (b1 && c1 && c2) = true → v = .bool c3
  | 50 => v = .bool (b1 && c1 && c2 && c3)
  | 2 => v = .bool (b1 && c1 && c2 && c3)
  | _ => True
theorem measV_mono (a : Wr) (lo hlo hhi : Int) (b1 c1 c2 c3 : Bool) (B : Nat) (d : Nat) (v : Value) (w w' : World) (h : measV a lo hlo hhi b1 c1 c2 c3 B d v w) (hb : Below w.heap.size w w') : measV a lo hlo hhi b1 c1 c2 c3 B d v w' := by
  unfold measV at h ⊢
  split <;> simp only [] at h <;> first | exact h | exact h.later hb | exact fun g => (h g).later hb

set_option maxHeartbeats 3200000 in
theorem isMeasured_00 (a : Wr) (w : World) (hr0 : 0 ≤ a.rows * a.cols) (hr1 : a.rows * a.cols ≤ 384) (hm : a.rows * a.cols ≤ 1) (hk : (a.kind == 3) = false) (b1 c1 c2 c3 : Bool)
    (hb1 : [a.x, a.y, a.deep].all (inR 0 200000) = b1) (hc1 : [a.pitch].all (inR 0 200000) = c1) (hc2 : [a.wid, a.len, a.hei].all (inR 1 200000) = c2) (hc3 : [a.cap].all (inR 1 1000000000) = c3) :
    Calls Tryz.prog 77 #[wv a] w fun e w' => e = .returned (.bool (b1 && c1 && c2 && c3)) ∧ Below w.heap.size w w' := by
  go_enter Tryz.func77, Tryz.ntmps77
  go_wp2_with (go_at_call 76; refine (within_int _ _ _).mono ?_; rintro e w2 ⟨rfl, rfl⟩)
  obtain ⟨W, hW⟩ : ∃ W, W = (((w.alloc (wobj a)).alloc (.cells #[.int .i64 1] 3)).alloc (.cells #[.int .i64 1000000000] 3)) := ⟨_, rfl⟩
  have hB : Below (w.alloc (wobj a)).heap.size (w.alloc (wobj a)) W := by
    rw [hW]
    repeat (first | exact Below.refl _ _ | refine Below.alloc ?_ (by simp; omega) _ | refine Below.alloc ?_ (by simp) _)
  have hp0 : W.cell? ⟨w.heap.size + 1, 0, none⟩ = some (.int .i64 1) := by rw [hW]; go_simp
  have hp1 : W.cell? ⟨w.heap.size + 1 + 1, 0, none⟩ = some (.int .i64 1000000000) := by rw [hW]; go_simp
  rw [← hW]
  clear hW
  refine region_inv [false, false, true, false, false, false, false, false, false, false, false, false, false, false, false, false, true, true, true, true, true, true, true, true, true, true, true, true, true, true, true, true, true, true, true, true, true, true, true, true, true, true, true, true, true, true, true, true, true, true, true]
    [(16, [], none), (17, [], none), (18, [17], none), (19, [], none), (20, [19], none), (21, [], none), (22, [21], none), (23, [18, 20, 22], none), (24, [16, 23], none), (25, [24], none), (26, [25], some (25, true)), (27, [25, 26], some (25, true)), (28, [25], some (25, true)), (29, [25, 28], some (25, true)), (30, [25, 29], some (25, true)), (31, [25, 27, 30], some (25, true)), (32, [25, 31], none), (33, [32], none), (34, [33], some (33, true)), (35, [33], some (33, true)), (36, [33, 35], some (33, true)), (37, [33], some (33, true)), (38, [33, 37], some (33, true)), (39, [33], some (33, true)), (40, [33, 39], some (33, true)), (41, [33, 36, 38, 40], some (33, true)), (42, [33, 34, 41], some (33, true)), (43, [33, 42], none), (44, [43], none), (45, [44], some (44, true)), (46, [44], some (44, true)), (47, [44, 46], some (44, true)), (48, [44, 47], some (44, true)), (49, [44, 45, 48], some (44, true)), (50, [44, 49], none), (2, [50], none)]
    (measV a 0 1 1000000000 b1 c1 c2 c3 w.heap.size) (by kernel_rfl) (by kernel_rfl) (measV_mono a 0 1 1000000000 b1 c1 c2 c3 w.heap.size) ?_ ?_
  · refine ⟨?_, ?_, ?_, ?_, ?_, ?_, ?_, ?_, ?_, ?_, ?_, ?_, ?_, ?_, ?_, ?_, ?_, ?_, ?_, ?_, ?_, ?_, ?_, ?_, ?_, ?_, ?_, ?_, ?_, ?_, ?_, ?_, ?_, ?_, ?_, ?_, trivial⟩
    · intro f w1 hb _ K hK
      simp only [over, overL, Nat.reduceAdd]
      go_simp
      refine (within_is _ _ _).mono ?_
      rintro e w2 ⟨v, rfl, hv, hb2⟩
      exact hK _ _ ⟨_, hv, by simp only [over, overL, Nat.reduceAdd]; rfl, hb2⟩
    · intro f w1 hb _ K hK
      simp only [over, overL, Nat.reduceAdd]
      go_simp
      exact hK _ _ ⟨_, rfl, by simp only [over, overL, Nat.reduceAdd]; rfl, Below.refl _ _⟩
    · intro f w1 hb ⟨h17, _⟩ K hK
      have h17 : f 17 = _ := h17
      have cl : w1.cell? ⟨w.heap.size, 4, none⟩ = some (.int .i64 a.x) := cell_later hb (cell_later hB (by go_simp))
      simp only [over, overL, Nat.reduceAdd, h17]
      go_simp
      exact hK _ _ ⟨_, rfl, by simp only [over, overL, Nat.reduceAdd, h17]; rfl, Below.refl _ _⟩
    · intro f w1 hb _ K hK
      simp only [over, overL, Nat.reduceAdd]
      go_simp
      exact hK _ _ ⟨_, rfl, by simp only [over, overL, Nat.reduceAdd]; rfl, Below.refl _ _⟩
    · intro f w1 hb ⟨h19, _⟩ K hK
      have h19 : f 19 = _ := h19
      have cl : w1.cell? ⟨w.heap.size, 5, none⟩ = some (.int .i64 a.y) := cell_later hb (cell_later hB (by go_simp))
      simp only [over, overL, Nat.reduceAdd, h19]
      go_simp
      exact hK _ _ ⟨_, rfl, by simp only [over, overL, Nat.reduceAdd, h19]; rfl, Below.refl _ _⟩
    · intro f w1 hb _ K hK
      simp only [over, overL, Nat.reduceAdd]
      go_simp
      exact hK _ _ ⟨_, rfl, by simp only [over, overL, Nat.reduceAdd]; rfl, Below.refl _ _⟩
    · intro f w1 hb ⟨h21, _⟩ K hK
      have h21 : f 21 = _ := h21
      have cl : w1.cell? ⟨w.heap.size, 10, none⟩ = some (.int .i64 a.deep) := cell_later hb (cell_later hB (by go_simp))
      simp only [over, overL, Nat.reduceAdd, h21]
      go_simp
      exact hK _ _ ⟨_, rfl, by simp only [over, overL, Nat.reduceAdd, h21]; rfl, Below.refl _ _⟩
    · intro f w1 hb ⟨h18, h20, h22, _⟩ K hK
      have h18 : f 18 = _ := h18
      have h20 : f 20 = _ := h20
      have h22 : f 22 = _ := h22
      simp only [over, overL, Nat.reduceAdd, h18, h20, h22]
      go_simp
      exact hK _ _ ⟨_, new_three _ _ _ _ _, by simp only [over, overL, Nat.reduceAdd, h18, h20, h22]; rfl, (Below.refl _ _).alloc (Nat.le_refl _) _⟩
    · intro f w1 hb ⟨h16, h23, _⟩ K hK
      simp only [over, overL, Nat.reduceAdd]
      go_simp
      refine (every_v [a.x, a.y, a.deep] 0 200000 b1 hb1 _ _ _ (by simp) h16 h23).mono ?_
      rintro e w2 ⟨rfl, hw⟩
      exact hK _ _ ⟨_, rfl, by simp only [over, overL, Nat.reduceAdd]; rfl, hw ▸ Below.refl _ _⟩
    · intro f w1 hb ⟨h24, _⟩ K hK
      have h24 : f 24 = _ := h24
      simp only [over, overL, Nat.reduceAdd, h24]
      go_simp
      exact hK _ _ ⟨_, rfl, by simp only [over, overL, Nat.reduceAdd, h24]; rfl, Below.refl _ _⟩
    · intro f w1 hb ⟨h25, _⟩
      have h25 : f 25 = _ := h25
      refine ⟨fun hg => ?_, fun hg => ?_⟩
      rotate_left
      · intro hG; exact absurd (h25.trans (by rw [hG])) hg
      have hG := Value.bool.inj (h25.symm.trans hg)
      intro K hK
      simp only [over, overL, Nat.reduceAdd, h25, hG]
      go_simp
      exact hK _ _ ⟨_, (fun _ => rfl), by simp only [over, overL, Nat.reduceAdd, h25, hG]; rfl, Below.refl _ _⟩
    · intro f w1 hb ⟨h25, h26, _⟩
      have h25 : f 25 = _ := h25
      refine ⟨fun hg => ?_, fun hg => ?_⟩
      rotate_left
      · intro hG; exact absurd (h25.trans (by rw [hG])) hg
      have hG := Value.bool.inj (h25.symm.trans hg)
      intro K hK
      have h26 : f 26 = _ := h26 hG
      simp only [over, overL, Nat.reduceAdd, h25, h26, hG]
      go_simp
      refine (within_is _ _ _).mono ?_
      rintro e w2 ⟨v, rfl, hv, hb2⟩
      exact hK _ _ ⟨_, (fun _ => hv), by simp only [over, overL, Nat.reduceAdd, h25, h26, hG]; rfl, hb2⟩
    · intro f w1 hb ⟨h25, _⟩
      have h25 : f 25 = _ := h25
      refine ⟨fun hg => ?_, fun hg => ?_⟩
      rotate_left
      · intro hG; exact absurd (h25.trans (by rw [hG])) hg
      have hG := Value.bool.inj (h25.symm.trans hg)
      intro K hK
      simp only [over, overL, Nat.reduceAdd, h25, hG]
      go_simp
      exact hK _ _ ⟨_, (fun _ => rfl), by simp only [over, overL, Nat.reduceAdd, h25, hG]; rfl, Below.refl _ _⟩
    · intro f w1 hb ⟨h25, h28, _⟩
      have h25 : f 25 = _ := h25
      refine ⟨fun hg => ?_, fun hg => ?_⟩
      rotate_left
      · intro hG; exact absurd (h25.trans (by rw [hG])) hg
      have hG := Value.bool.inj (h25.symm.trans hg)
      intro K hK
      have h28 : f 28 = _ := h28 hG
      have cl : w1.cell? ⟨w.heap.size, 6, none⟩ = some (.int .i64 a.pitch) := cell_later hb (cell_later hB (by go_simp))
      simp only [over, overL, Nat.reduceAdd, h25, h28, hG]
      go_simp
      exact hK _ _ ⟨_, (fun _ => rfl), by simp only [over, overL, Nat.reduceAdd, h25, h28, hG]; rfl, Below.refl _ _⟩
    · intro f w1 hb ⟨h25, h29, _⟩
      have h25 : f 25 = _ := h25
      refine ⟨fun hg => ?_, fun hg => ?_⟩
      rotate_left
      · intro hG; exact absurd (h25.trans (by rw [hG])) hg
      have hG := Value.bool.inj (h25.symm.trans hg)
      intro K hK
      have h29 : f 29 = _ := h29 hG
      simp only [over, overL, Nat.reduceAdd, h25, h29, hG]
      go_simp
      exact hK _ _ ⟨_, (fun _ => new_one _ _ _), by simp only [over, overL, Nat.reduceAdd, h25, h29, hG]; rfl, (Below.refl _ _).alloc (Nat.le_refl _) _⟩
    · intro f w1 hb ⟨h25, h27, h30, _⟩
      have h25 : f 25 = _ := h25
      refine ⟨fun hg => ?_, fun hg => ?_⟩
      rotate_left
      · intro hG; exact absurd (h25.trans (by rw [hG])) hg
      have hG := Value.bool.inj (h25.symm.trans hg)
      intro K hK
      replace h27 := h27 hG
      replace h30 := h30 hG
      simp only [over, overL, Nat.reduceAdd, h25, hG]
      go_simp
      refine (every_v [a.pitch] 0 200000 c1 hc1 _ _ _ (by simp) h27 h30).mono ?_
      rintro e w2 ⟨rfl, hw⟩
      exact hK _ _ ⟨_, (fun _ => rfl), by simp only [over, overL, Nat.reduceAdd, h25, hG]; rfl, hw ▸ Below.refl _ _⟩
    · intro f w1 hb ⟨h25, h31, _⟩ K hK
      have h25 : f 25 = _ := h25
      have h31 : b1 = true → f 31 = _ := h31
      cases hG : b1 with
      | false =>
        rw [hG] at h25
        simp only [over, overL, Nat.reduceAdd, h25]
        go_simp
        exact hK _ _ ⟨.bool false, by simp [measV, hG], by simp only [over, overL, Nat.reduceAdd, h25]; rfl, Below.refl _ _⟩
      | true =>
        have h31 := h31 hG
        rw [hG] at h25
        simp only [over, overL, Nat.reduceAdd, h25, h31]
        go_simp
        exact hK _ _ ⟨.bool c1, by simp [measV, hG], by simp only [over, overL, Nat.reduceAdd, h25, h31]; rfl, Below.refl _ _⟩
    · intro f w1 hb ⟨h32, _⟩ K hK
      have h32 : f 32 = _ := h32
      simp only [over, overL, Nat.reduceAdd, h32]
      go_simp
      exact hK _ _ ⟨_, rfl, by simp only [over, overL, Nat.reduceAdd, h32]; rfl, Below.refl _ _⟩
    · intro f w1 hb ⟨h33, _⟩
      have h33 : f 33 = _ := h33
      refine ⟨fun hg => ?_, fun hg => ?_⟩
      rotate_left
      · intro hG; exact absurd (h33.trans (by rw [hG])) hg
      have hG := Value.bool.inj (h33.symm.trans hg)
      intro K hK
      simp only [over, overL, Nat.reduceAdd, h33, hG]
      go_simp
      refine (within_is _ _ _).mono ?_
      rintro e w2 ⟨v, rfl, hv, hb2⟩
      exact hK _ _ ⟨_, (fun _ => hv), by simp only [over, overL, Nat.reduceAdd, h33, hG]; rfl, hb2⟩
    · intro f w1 hb ⟨h33, _⟩
      have h33 : f 33 = _ := h33
      refine ⟨fun hg => ?_, fun hg => ?_⟩
      rotate_left
      · intro hG; exact absurd (h33.trans (by rw [hG])) hg
      have hG := Value.bool.inj (h33.symm.trans hg)
      intro K hK
      simp only [over, overL, Nat.reduceAdd, h33, hG]
      go_simp
      exact hK _ _ ⟨_, (fun _ => rfl), by simp only [over, overL, Nat.reduceAdd, h33, hG]; rfl, Below.refl _ _⟩
    · intro f w1 hb ⟨h33, h35, _⟩
      have h33 : f 33 = _ := h33
      refine ⟨fun hg => ?_, fun hg => ?_⟩
      rotate_left
      · intro hG; exact absurd (h33.trans (by rw [hG])) hg
      have hG := Value.bool.inj (h33.symm.trans hg)
      intro K hK
      have h35 : f 35 = _ := h35 hG
      have cl : w1.cell? ⟨w.heap.size, 7, none⟩ = some (.int .i64 a.wid) := cell_later hb (cell_later hB (by go_simp))
      simp only [over, overL, Nat.reduceAdd, h33, h35, hG]
      go_simp
      exact hK _ _ ⟨_, (fun _ => rfl), by simp only [over, overL, Nat.reduceAdd, h33, h35, hG]; rfl, Below.refl _ _⟩
    · intro f w1 hb ⟨h33, _⟩
      have h33 : f 33 = _ := h33
      refine ⟨fun hg => ?_, fun hg => ?_⟩
      rotate_left
      · intro hG; exact absurd (h33.trans (by rw [hG])) hg
      have hG := Value.bool.inj (h33.symm.trans hg)
      intro K hK
      simp only [over, overL, Nat.reduceAdd, h33, hG]
      go_simp
      exact hK _ _ ⟨_, (fun _ => rfl), by simp only [over, overL, Nat.reduceAdd, h33, hG]; rfl, Below.refl _ _⟩
    · intro f w1 hb ⟨h33, h37, _⟩
      have h33 : f 33 = _ := h33
      refine ⟨fun hg => ?_, fun hg => ?_⟩
      rotate_left
      · intro hG; exact absurd (h33.trans (by rw [hG])) hg
      have hG := Value.bool.inj (h33.symm.trans hg)
      intro K hK
      have h37 : f 37 = _ := h37 hG
      have cl : w1.cell? ⟨w.heap.size, 8, none⟩ = some (.int .i64 a.len) := cell_later hb (cell_later hB (by go_simp))
      simp only [over, overL, Nat.reduceAdd, h33, h37, hG]
      go_simp
      exact hK _ _ ⟨_, (fun _ => rfl), by simp only [over, overL, Nat.reduceAdd, h33, h37, hG]; rfl, Below.refl _ _⟩
    · intro f w1 hb ⟨h33, _⟩
      have h33 : f 33 = _ := h33
      refine ⟨fun hg => ?_, fun hg => ?_⟩
      rotate_left
      · intro hG; exact absurd (h33.trans (by rw [hG])) hg
      have hG := Value.bool.inj (h33.symm.trans hg)
      intro K hK
      simp only [over, overL, Nat.reduceAdd, h33, hG]
      go_simp
      exact hK _ _ ⟨_, (fun _ => rfl), by simp only [over, overL, Nat.reduceAdd, h33, hG]; rfl, Below.refl _ _⟩
    · intro f w1 hb ⟨h33, h39, _⟩
      have h33 : f 33 = _ := h33
      refine ⟨fun hg => ?_, fun hg => ?_⟩
      rotate_left
      · intro hG; exact absurd (h33.trans (by rw [hG])) hg
      have hG := Value.bool.inj (h33.symm.trans hg)
      intro K hK
      have h39 : f 39 = _ := h39 hG
      have cl : w1.cell? ⟨w.heap.size, 9, none⟩ = some (.int .i64 a.hei) := cell_later hb (cell_later hB (by go_simp))
      simp only [over, overL, Nat.reduceAdd, h33, h39, hG]
      go_simp
      exact hK _ _ ⟨_, (fun _ => rfl), by simp only [over, overL, Nat.reduceAdd, h33, h39, hG]; rfl, Below.refl _ _⟩
    · intro f w1 hb ⟨h33, h36, h38, h40, _⟩
      have h33 : f 33 = _ := h33
      refine ⟨fun hg => ?_, fun hg => ?_⟩
      rotate_left
      · intro hG; exact absurd (h33.trans (by rw [hG])) hg
      have hG := Value.bool.inj (h33.symm.trans hg)
      intro K hK
      have h36 : f 36 = _ := h36 hG
      have h38 : f 38 = _ := h38 hG
      have h40 : f 40 = _ := h40 hG
      simp only [over, overL, Nat.reduceAdd, h33, h36, h38, h40, hG]
      go_simp
      exact hK _ _ ⟨_, (fun _ => new_three _ _ _ _ _), by simp only [over, overL, Nat.reduceAdd, h33, h36, h38, h40, hG]; rfl, (Below.refl _ _).alloc (Nat.le_refl _) _⟩
    · intro f w1 hb ⟨h33, h34, h41, _⟩
      have h33 : f 33 = _ := h33
      refine ⟨fun hg => ?_, fun hg => ?_⟩
      rotate_left
      · intro hG; exact absurd (h33.trans (by rw [hG])) hg
      have hG := Value.bool.inj (h33.symm.trans hg)
      intro K hK
      replace h34 := h34 hG
      replace h41 := h41 hG
      simp only [over, overL, Nat.reduceAdd, h33, hG]
      go_simp
      refine (every_v [a.wid, a.len, a.hei] 1 200000 c2 hc2 _ _ _ (by simp) h34 h41).mono ?_
      rintro e w2 ⟨rfl, hw⟩
      exact hK _ _ ⟨_, (fun _ => rfl), by simp only [over, overL, Nat.reduceAdd, h33, hG]; rfl, hw ▸ Below.refl _ _⟩
    · intro f w1 hb ⟨h33, h42, _⟩ K hK
      have h33 : f 33 = _ := h33
      have h42 : (b1 && c1) = true → f 42 = _ := h42
      cases hG : (b1 && c1) with
      | false =>
        rw [hG] at h33
        simp only [over, overL, Nat.reduceAdd, h33]
        go_simp
        exact hK _ _ ⟨.bool false, by simp [measV, hG], by simp only [over, overL, Nat.reduceAdd, h33]; rfl, Below.refl _ _⟩
      | true =>
        have h42 := h42 hG
        rw [hG] at h33
        simp only [over, overL, Nat.reduceAdd, h33, h42]
        go_simp
        exact hK _ _ ⟨.bool c2, by simp [measV, hG], by simp only [over, overL, Nat.reduceAdd, h33, h42]; rfl, Below.refl _ _⟩
    · intro f w1 hb ⟨h43, _⟩ K hK
      have h43 : f 43 = _ := h43
      simp only [over, overL, Nat.reduceAdd, h43]
      go_simp
      exact hK _ _ ⟨_, rfl, by simp only [over, overL, Nat.reduceAdd, h43]; rfl, Below.refl _ _⟩
    · intro f w1 hb ⟨h44, _⟩
      have h44 : f 44 = _ := h44
      refine ⟨fun hg => ?_, fun hg => ?_⟩
      rotate_left
      · intro hG; exact absurd (h44.trans (by rw [hG])) hg
      have hG := Value.bool.inj (h44.symm.trans hg)
      intro K hK
      simp only [over, overL, Nat.reduceAdd, h44, hG]
      go_simp
      exact hK _ _ ⟨_, (fun _ => ⟨_, _, rfl, cell_later hb hp0, cell_later hb hp1⟩), by simp only [over, overL, Nat.reduceAdd, h44, hG]; rfl, Below.refl _ _⟩
    · intro f w1 hb ⟨h44, _⟩
      have h44 : f 44 = _ := h44
      refine ⟨fun hg => ?_, fun hg => ?_⟩
      rotate_left
      · intro hG; exact absurd (h44.trans (by rw [hG])) hg
      have hG := Value.bool.inj (h44.symm.trans hg)
      intro K hK
      simp only [over, overL, Nat.reduceAdd, h44, hG]
      go_simp
      exact hK _ _ ⟨_, (fun _ => rfl), by simp only [over, overL, Nat.reduceAdd, h44, hG]; rfl, Below.refl _ _⟩
    · intro f w1 hb ⟨h44, h46, _⟩
      have h44 : f 44 = _ := h44
      refine ⟨fun hg => ?_, fun hg => ?_⟩
      rotate_left
      · intro hG; exact absurd (h44.trans (by rw [hG])) hg
      have hG := Value.bool.inj (h44.symm.trans hg)
      intro K hK
      have h46 : f 46 = _ := h46 hG
      have cl : w1.cell? ⟨w.heap.size, 11, none⟩ = some (.int .i64 a.cap) := cell_later hb (cell_later hB (by go_simp))
      simp only [over, overL, Nat.reduceAdd, h44, h46, hG]
      go_simp
      exact hK _ _ ⟨_, (fun _ => rfl), by simp only [over, overL, Nat.reduceAdd, h44, h46, hG]; rfl, Below.refl _ _⟩
    · intro f w1 hb ⟨h44, h47, _⟩
      have h44 : f 44 = _ := h44
      refine ⟨fun hg => ?_, fun hg => ?_⟩
      rotate_left
      · intro hG; exact absurd (h44.trans (by rw [hG])) hg
      have hG := Value.bool.inj (h44.symm.trans hg)
      intro K hK
      have h47 : f 47 = _ := h47 hG
      simp only [over, overL, Nat.reduceAdd, h44, h47, hG]
      go_simp
      exact hK _ _ ⟨_, (fun _ => new_one _ _ _), by simp only [over, overL, Nat.reduceAdd, h44, h47, hG]; rfl, (Below.refl _ _).alloc (Nat.le_refl _) _⟩
    · intro f w1 hb ⟨h44, h45, h48, _⟩
      have h44 : f 44 = _ := h44
      refine ⟨fun hg => ?_, fun hg => ?_⟩
      rotate_left
      · intro hG; exact absurd (h44.trans (by rw [hG])) hg
      have hG := Value.bool.inj (h44.symm.trans hg)
      intro K hK
      replace h45 := h45 hG
      replace h48 := h48 hG
      simp only [over, overL, Nat.reduceAdd, h44, hG]
      go_simp
      refine (every_v [a.cap] 1 1000000000 c3 hc3 _ _ _ (by simp) h45 h48).mono ?_
      rintro e w2 ⟨rfl, hw⟩
      exact hK _ _ ⟨_, (fun _ => rfl), by simp only [over, overL, Nat.reduceAdd, h44, hG]; rfl, hw ▸ Below.refl _ _⟩
    · intro f w1 hb ⟨h44, h49, _⟩ K hK
      have h44 : f 44 = _ := h44
      have h49 : (b1 && c1 && c2) = true → f 49 = _ := h49
      cases hG : (b1 && c1 && c2) with
      | false =>
        rw [hG] at h44
        simp only [over, overL, Nat.reduceAdd, h44]
        go_simp
        exact hK _ _ ⟨.bool false, by simp [measV, hG], by simp only [over, overL, Nat.reduceAdd, h44]; rfl, Below.refl _ _⟩
      | true =>
        have h49 := h49 hG
        rw [hG] at h44
        simp only [over, overL, Nat.reduceAdd, h44, h49]
        go_simp
        exact hK _ _ ⟨.bool c3, by simp [measV, hG], by simp only [over, overL, Nat.reduceAdd, h44, h49]; rfl, Below.refl _ _⟩
    · intro f w1 hb ⟨h50, _⟩ K hK
      have h50 : f 50 = _ := h50
      simp only [over, overL, Nat.reduceAdd, h50]
      go_simp
      exact hK _ _ ⟨_, rfl, by simp only [over, overL, Nat.reduceAdd, h50]; rfl, Below.refl _ _⟩
  · intro f w1 hb h
    have h2 : f 2 = .bool (b1 && c1 && c2 && c3) := h.2.2.2.2.2.2.2.2.2.2.2.2.2.2.2.2.2.2.2.2.2.2.2.2.2.2.2.2.2.2.2.2.2.2.2.1
    simp only [over, overL, h2, Nat.reduceAdd]
    go_wp2
    go_ret
    exact ⟨rfl, ((Below.refl _ _).alloc (Nat.le_refl _) _).trans ((hB.mono (by simp)).trans (hb.mono (by have := hB.size; simp at this; omega)))⟩

set_option maxHeartbeats 3200000 in
theorem isMeasured_01 (a : Wr) (w : World) (hr0 : 0 ≤ a.rows * a.cols) (hr1 : a.rows * a.cols ≤ 384) (hm : a.rows * a.cols ≤ 1) (hk : a.kind = 3) (b1 c1 c2 c3 : Bool)
    (hb1 : [a.x, a.y, a.deep].all (inR 0 200000) = b1) (hc1 : [a.pitch].all (inR 0 200000) = c1) (hc2 : [a.wid, a.len, a.hei].all (inR 1 200000) = c2) (hc3 : [a.cap].all (inR 0 0) = c3) :
    Calls Tryz.prog 77 #[wv a] w fun e w' => e = .returned (.bool (b1 && c1 && c2 && c3)) ∧ Below w.heap.size w w' := by
  go_enter Tryz.func77, Tryz.ntmps77
  go_wp2_with (go_at_call 76; refine (within_int _ _ _).mono ?_; rintro e w2 ⟨rfl, rfl⟩)
  obtain ⟨W, hW⟩ : ∃ W, W = (((((w.alloc (wobj a)).alloc (.cells #[.int .i64 1] 3)).alloc (.cells #[.int .i64 1000000000] 3)).alloc (.cells #[.int .i64 0] 3)).alloc (.cells #[.int .i64 0] 3)) := ⟨_, rfl⟩
  have hB : Below (w.alloc (wobj a)).heap.size (w.alloc (wobj a)) W := by
    rw [hW]
    repeat (first | exact Below.refl _ _ | refine Below.alloc ?_ (by simp; omega) _ | refine Below.alloc ?_ (by simp) _)
  have hp0 : W.cell? ⟨w.heap.size + 1 + 1 + 1, 0, none⟩ = some (.int .i64 0) := by rw [hW]; go_simp
  have hp1 : W.cell? ⟨w.heap.size + 1 + 1 + 1 + 1, 0, none⟩ = some (.int .i64 0) := by rw [hW]; go_simp
  rw [← hW]
  clear hW
  refine region_inv [false, false, true, false, false, false, false, false, false, false, false, false, false, false, false, false, true, true, true, true, true, true, true, true, true, true, true, true, true, true, true, true, true, true, true, true, true, true, true, true, true, true, true, true, true, true, true, true, true, true, true]
    [(16, [], none), (17, [], none), (18, [17], none), (19, [], none), (20, [19], none), (21, [], none), (22, [21], none), (23, [18, 20, 22], none), (24, [16, 23], none), (25, [24], none), (26, [25], some (25, true)), (27, [25, 26], some (25, true)), (28, [25], some (25, true)), (29, [25, 28], some (25, true)), (30, [25, 29], some (25, true)), (31, [25, 27, 30], some (25, true)), (32, [25, 31], none), (33, [32], none), (34, [33], some (33, true)), (35, [33], some (33, true)), (36, [33, 35], some (33, true)), (37, [33], some (33, true)), (38, [33, 37], some (33, true)), (39, [33], some (33, true)), (40, [33, 39], some (33, true)), (41, [33, 36, 38, 40], some (33, true)), (42, [33, 34, 41], some (33, true)), (43, [33, 42], none), (44, [43], none), (45, [44], some (44, true)), (46, [44], some (44, true)), (47, [44, 46], some (44, true)), (48, [44, 47], some (44, true)), (49, [44, 45, 48], some (44, true)), (50, [44, 49], none), (2, [50], none)]
    (measV a 0 0 0 b1 c1 c2 c3 w.heap.size) (by kernel_rfl) (by kernel_rfl) (measV_mono a 0 0 0 b1 c1 c2 c3 w.heap.size) ?_ ?_
  · refine ⟨?_, ?_, ?_, ?_, ?_, ?_, ?_, ?_, ?_, ?_, ?_, ?_, ?_, ?_, ?_, ?_, ?_, ?_, ?_, ?_, ?_, ?_, ?_, ?_, ?_, ?_, ?_, ?_, ?_, ?_, ?_, ?_, ?_, ?_, ?_, ?_, trivial⟩
    · intro f w1 hb _ K hK
      simp only [over, overL, Nat.reduceAdd]
      go_simp
      refine (within_is _ _ _).mono ?_
      rintro e w2 ⟨v, rfl, hv, hb2⟩
      exact hK _ _ ⟨_, hv, by simp only [over, overL, Nat.reduceAdd]; rfl, hb2⟩
    · intro f w1 hb _ K hK
      simp only [over, overL, Nat.reduceAdd]
      go_simp
      exact hK _ _ ⟨_, rfl, by simp only [over, overL, Nat.reduceAdd]; rfl, Below.refl _ _⟩
    · intro f w1 hb ⟨h17, _⟩ K hK
      have h17 : f 17 = _ := h17
      have cl : w1.cell? ⟨w.heap.size, 4, none⟩ = some (.int .i64 a.x) := cell_later hb (cell_later hB (by go_simp))
      simp only [over, overL, Nat.reduceAdd, h17]
      go_simp
      exact hK _ _ ⟨_, rfl, by simp only [over, overL, Nat.reduceAdd, h17]; rfl, Below.refl _ _⟩
    · intro f w1 hb _ K hK
      simp only [over, overL, Nat.reduceAdd]
      go_simp
      exact hK _ _ ⟨_, rfl, by simp only [over, overL, Nat.reduceAdd]; rfl, Below.refl _ _⟩
    · intro f w1 hb ⟨h19, _⟩ K hK
      have h19 : f 19 = _ := h19
      have cl : w1.cell? ⟨w.heap.size, 5, none⟩ = some (.int .i64 a.y) := cell_later hb (cell_later hB (by go_simp))
      simp only [over, overL, Nat.reduceAdd, h19]
      go_simp
      exact hK _ _ ⟨_, rfl, by simp only [over, overL, Nat.reduceAdd, h19]; rfl, Below.refl _ _⟩
    · intro f w1 hb _ K hK
      simp only [over, overL, Nat.reduceAdd]
      go_simp
      exact hK _ _ ⟨_, rfl, by simp only [over, overL, Nat.reduceAdd]; rfl, Below.refl _ _⟩
    · intro f w1 hb ⟨h21, _⟩ K hK
      have h21 : f 21 = _ := h21
      have cl : w1.cell? ⟨w.heap.size, 10, none⟩ = some (.int .i64 a.deep) := cell_later hb (cell_later hB (by go_simp))
      simp only [over, overL, Nat.reduceAdd, h21]
      go_simp
      exact hK _ _ ⟨_, rfl, by simp only [over, overL, Nat.reduceAdd, h21]; rfl, Below.refl _ _⟩
    · intro f w1 hb ⟨h18, h20, h22, _⟩ K hK
      have h18 : f 18 = _ := h18
      have h20 : f 20 = _ := h20
      have h22 : f 22 = _ := h22
      simp only [over, overL, Nat.reduceAdd, h18, h20, h22]
      go_simp
      exact hK _ _ ⟨_, new_three _ _ _ _ _, by simp only [over, overL, Nat.reduceAdd, h18, h20, h22]; rfl, (Below.refl _ _).alloc (Nat.le_refl _) _⟩
    · intro f w1 hb ⟨h16, h23, _⟩ K hK
      simp only [over, overL, Nat.reduceAdd]
      go_simp
      refine (every_v [a.x, a.y, a.deep] 0 200000 b1 hb1 _ _ _ (by simp) h16 h23).mono ?_
      rintro e w2 ⟨rfl, hw⟩
      exact hK _ _ ⟨_, rfl, by simp only [over, overL, Nat.reduceAdd]; rfl, hw ▸ Below.refl _ _⟩
    · intro f w1 hb ⟨h24, _⟩ K hK
      have h24 : f 24 = _ := h24
      simp only [over, overL, Nat.reduceAdd, h24]
      go_simp
      exact hK _ _ ⟨_, rfl, by simp only [over, overL, Nat.reduceAdd, h24]; rfl, Below.refl _ _⟩
    · intro f w1 hb ⟨h25, _⟩
      have h25 : f 25 = _ := h25
      refine ⟨fun hg => ?_, fun hg => ?_⟩
      rotate_left
      · intro hG; exact absurd (h25.trans (by rw [hG])) hg
      have hG := Value.bool.inj (h25.symm.trans hg)
      intro K hK
      simp only [over, overL, Nat.reduceAdd, h25, hG]
      go_simp
      exact hK _ _ ⟨_, (fun _ => rfl), by simp only [over, overL, Nat.reduceAdd, h25, hG]; rfl, Below.refl _ _⟩
    · intro f w1 hb ⟨h25, h26, _⟩
      have h25 : f 25 = _ := h25
      refine ⟨fun hg => ?_, fun hg => ?_⟩
      rotate_left
      · intro hG; exact absurd (h25.trans (by rw [hG])) hg
      have hG := Value.bool.inj (h25.symm.trans hg)
      intro K hK
      have h26 : f 26 = _ := h26 hG
      simp only [over, overL, Nat.reduceAdd, h25, h26, hG]
      go_simp
      refine (within_is _ _ _).mono ?_
      rintro e w2 ⟨v, rfl, hv, hb2⟩
      exact hK _ _ ⟨_, (fun _ => hv), by simp only [over, overL, Nat.reduceAdd, h25, h26, hG]; rfl, hb2⟩
    · intro f w1 hb ⟨h25, _⟩
      have h25 : f 25 = _ := h25
      refine ⟨fun hg => ?_, fun hg => ?_⟩
      rotate_left
      · intro hG; exact absurd (h25.trans (by rw [hG])) hg
      have hG := Value.bool.inj (h25.symm.trans hg)
      intro K hK
      simp only [over, overL, Nat.reduceAdd, h25, hG]
      go_simp
      exact hK _ _ ⟨_, (fun _ => rfl), by simp only [over, overL, Nat.reduceAdd, h25, hG]; rfl, Below.refl _ _⟩
    · intro f w1 hb ⟨h25, h28, _⟩
      have h25 : f 25 = _ := h25
      refine ⟨fun hg => ?_, fun hg => ?_⟩
      rotate_left
      · intro hG; exact absurd (h25.trans (by rw [hG])) hg
      have hG := Value.bool.inj (h25.symm.trans hg)
      intro K hK
      have h28 : f 28 = _ := h28 hG
      have cl : w1.cell? ⟨w.heap.size, 6, none⟩ = some (.int .i64 a.pitch) := cell_later hb (cell_later hB (by go_simp))
      simp only [over, overL, Nat.reduceAdd, h25, h28, hG]
      go_simp
      exact hK _ _ ⟨_, (fun _ => rfl), by simp only [over, overL, Nat.reduceAdd, h25, h28, hG]; rfl, Below.refl _ _⟩
    · intro f w1 hb ⟨h25, h29, _⟩
      have h25 : f 25 = _ := h25
      refine ⟨fun hg => ?_, fun hg => ?_⟩
      rotate_left
      · intro hG; exact absurd (h25.trans (by rw [hG])) hg
      have hG := Value.bool.inj (h25.symm.trans hg)
      intro K hK
      have h29 : f 29 = _ := h29 hG
      simp only [over, overL, Nat.reduceAdd, h25, h29, hG]
      go_simp
      exact hK _ _ ⟨_, (fun _ => new_one _ _ _), by simp only [over, overL, Nat.reduceAdd, h25, h29, hG]; rfl, (Below.refl _ _).alloc (Nat.le_refl _) _⟩
    · intro f w1 hb ⟨h25, h27, h30, _⟩
      have h25 : f 25 = _ := h25
      refine ⟨fun hg => ?_, fun hg => ?_⟩
      rotate_left
      · intro hG; exact absurd (h25.trans (by rw [hG])) hg
      have hG := Value.bool.inj (h25.symm.trans hg)
      intro K hK
      replace h27 := h27 hG
      replace h30 := h30 hG
      simp only [over, overL, Nat.reduceAdd, h25, hG]
      go_simp
      refine (every_v [a.pitch] 0 200000 c1 hc1 _ _ _ (by simp) h27 h30).mono ?_
      rintro e w2 ⟨rfl, hw⟩
      exact hK _ _ ⟨_, (fun _ => rfl), by simp only [over, overL, Nat.reduceAdd, h25, hG]; rfl, hw ▸ Below.refl _ _⟩
    · intro f w1 hb ⟨h25, h31, _⟩ K hK
      have h25 : f 25 = _ := h25
      have h31 : b1 = true → f 31 = _ := h31
      cases hG : b1 with
      | false =>
        rw [hG] at h25
        simp only [over, overL, Nat.reduceAdd, h25]
        go_simp
        exact hK _ _ ⟨.bool false, by simp [measV, hG], by simp only [over, overL, Nat.reduceAdd, h25]; rfl, Below.refl _ _⟩
      | true =>
        have h31 := h31 hG
        rw [hG] at h25
        simp only [over, overL, Nat.reduceAdd, h25, h31]
        go_simp
        exact hK _ _ ⟨.bool c1, by simp [measV, hG], by simp only [over, overL, Nat.reduceAdd, h25, h31]; rfl, Below.refl _ _⟩
    · intro f w1 hb ⟨h32, _⟩ K hK
      have h32 : f 32 = _ := h32
      simp only [over, overL, Nat.reduceAdd, h32]
      go_simp
      exact hK _ _ ⟨_, rfl, by simp only [over, overL, Nat.reduceAdd, h32]; rfl, Below.refl _ _⟩
    · intro f w1 hb ⟨h33, _⟩
      have h33 : f 33 = _ := h33
      refine ⟨fun hg => ?_, fun hg => ?_⟩
      rotate_left
      · intro hG; exact absurd (h33.trans (by rw [hG])) hg
      have hG := Value.bool.inj (h33.symm.trans hg)
      intro K hK
      simp only [over, overL, Nat.reduceAdd, h33, hG]
      go_simp
      refine (within_is _ _ _).mono ?_
      rintro e w2 ⟨v, rfl, hv, hb2⟩
      exact hK _ _ ⟨_, (fun _ => hv), by simp only [over, overL, Nat.reduceAdd, h33, hG]; rfl, hb2⟩
    · intro f w1 hb ⟨h33, _⟩
      have h33 : f 33 = _ := h33
      refine ⟨fun hg => ?_, fun hg => ?_⟩
      rotate_left
      · intro hG; exact absurd (h33.trans (by rw [hG])) hg
      have hG := Value.bool.inj (h33.symm.trans hg)
      intro K hK
      simp only [over, overL, Nat.reduceAdd, h33, hG]
      go_simp
      exact hK _ _ ⟨_, (fun _ => rfl), by simp only [over, overL, Nat.reduceAdd, h33, hG]; rfl, Below.refl _ _⟩
    · intro f w1 hb ⟨h33, h35, _⟩
      have h33 : f 33 = _ := h33
      refine ⟨fun hg => ?_, fun hg => ?_⟩
      rotate_left
      · intro hG; exact absurd (h33.trans (by rw [hG])) hg
      have hG := Value.bool.inj (h33.symm.trans hg)
      intro K hK
      have h35 : f 35 = _ := h35 hG
      have cl : w1.cell? ⟨w.heap.size, 7, none⟩ = some (.int .i64 a.wid) := cell_later hb (cell_later hB (by go_simp))
      simp only [over, overL, Nat.reduceAdd, h33, h35, hG]
      go_simp
      exact hK _ _ ⟨_, (fun _ => rfl), by simp only [over, overL, Nat.reduceAdd, h33, h35, hG]; rfl, Below.refl _ _⟩
    · intro f w1 hb ⟨h33, _⟩
      have h33 : f 33 = _ := h33
      refine ⟨fun hg => ?_, fun hg => ?_⟩
      rotate_left
      · intro hG; exact absurd (h33.trans (by rw [hG])) hg
      have hG := Value.bool.inj (h33.symm.trans hg)
      intro K hK
      simp only [over, overL, Nat.reduceAdd, h33, hG]
      go_simp
      exact hK _ _ ⟨_, (fun _ => rfl), by simp only [over, overL, Nat.reduceAdd, h33, hG]; rfl, Below.refl _ _⟩
    · intro f w1 hb ⟨h33, h37, _⟩
      have h33 : f 33 = _ := h33
      refine ⟨fun hg => ?_, fun hg => ?_⟩
      rotate_left
      · intro hG; exact absurd (h33.trans (by rw [hG])) hg
      have hG := Value.bool.inj (h33.symm.trans hg)
      intro K hK
      have h37 : f 37 = _ := h37 hG
      have cl : w1.cell? ⟨w.heap.size, 8, none⟩ = some (.int .i64 a.len) := cell_later hb (cell_later hB (by go_simp))
      simp only [over, overL, Nat.reduceAdd, h33, h37, hG]
      go_simp
      exact hK _ _ ⟨_, (fun _ => rfl), by simp only [over, overL, Nat.reduceAdd, h33, h37, hG]; rfl, Below.refl _ _⟩
    · intro f w1 hb ⟨h33, _⟩
      have h33 : f 33 = _ := h33
      refine ⟨fun hg => ?_, fun hg => ?_⟩
      rotate_left
      · intro hG; exact absurd (h33.trans (by rw [hG])) hg
      have hG := Value.bool.inj (h33.symm.trans hg)
      intro K hK
      simp only [over, overL, Nat.reduceAdd, h33, hG]
      go_simp
      exact hK _ _ ⟨_, (fun _ => rfl), by simp only [over, overL, Nat.reduceAdd, h33, hG]; rfl, Below.refl _ _⟩
    · intro f w1 hb ⟨h33, h39, _⟩
      have h33 : f 33 = _ := h33
      refine ⟨fun hg => ?_, fun hg => ?_⟩
      rotate_left
      · intro hG; exact absurd (h33.trans (by rw [hG])) hg
      have hG := Value.bool.inj (h33.symm.trans hg)
      intro K hK
      have h39 : f 39 = _ := h39 hG
      have cl : w1.cell? ⟨w.heap.size, 9, none⟩ = some (.int .i64 a.hei) := cell_later hb (cell_later hB (by go_simp))
      simp only [over, overL, Nat.reduceAdd, h33, h39, hG]
      go_simp
      exact hK _ _ ⟨_, (fun _ => rfl), by simp only [over, overL, Nat.reduceAdd, h33, h39, hG]; rfl, Below.refl _ _⟩
    · intro f w1 hb ⟨h33, h36, h38, h40, _⟩
      have h33 : f 33 = _ := h33
      refine ⟨fun hg => ?_, fun hg => ?_⟩
      rotate_left
      · intro hG; exact absurd (h33.trans (by rw [hG])) hg
      have hG := Value.bool.inj (h33.symm.trans hg)
      intro K hK
      have h36 : f 36 = _ := h36 hG
      have h38 : f 38 = _ := h38 hG
      have h40 : f 40 = _ := h40 hG
      simp only [over, overL, Nat.reduceAdd, h33, h36, h38, h40, hG]
      go_simp
      exact hK _ _ ⟨_, (fun _ => new_three _ _ _ _ _), by simp only [over, overL, Nat.reduceAdd, h33, h36, h38, h40, hG]; rfl, (Below.refl _ _).alloc (Nat.le_refl _) _⟩
    · intro f w1 hb ⟨h33, h34, h41, _⟩
      have h33 : f 33 = _ := h33
      refine ⟨fun hg => ?_, fun hg => ?_⟩
      rotate_left
      · intro hG; exact absurd (h33.trans (by rw [hG])) hg
      have hG := Value.bool.inj (h33.symm.trans hg)
      intro K hK
      replace h34 := h34 hG
      replace h41 := h41 hG
      simp only [over, overL, Nat.reduceAdd, h33, hG]
      go_simp
      refine (every_v [a.wid, a.len, a.hei] 1 200000 c2 hc2 _ _ _ (by simp) h34 h41).mono ?_
      rintro e w2 ⟨rfl, hw⟩
      exact hK _ _ ⟨_, (fun _ => rfl), by simp only [over, overL, Nat.reduceAdd, h33, hG]; rfl, hw ▸ Below.refl _ _⟩
    · intro f w1 hb ⟨h33, h42, _⟩ K hK
      have h33 : f 33 = _ := h33
      have h42 : (b1 && c1) = true → f 42 = _ := h42
      cases hG : (b1 && c1) with
      | false =>
        rw [hG] at h33
        simp only [over, overL, Nat.reduceAdd, h33]
        go_simp
        exact hK _ _ ⟨.bool false, by simp [measV, hG], by simp only [over, overL, Nat.reduceAdd, h33]; rfl, Below.refl _ _⟩
      | true =>
        have h42 := h42 hG
        rw [hG] at h33
        simp only [over, overL, Nat.reduceAdd, h33, h42]
        go_simp
        exact hK _ _ ⟨.bool c2, by simp [measV, hG], by simp only [over, overL, Nat.reduceAdd, h33, h42]; rfl, Below.refl _ _⟩
    · intro f w1 hb ⟨h43, _⟩ K hK
      have h43 : f 43 = _ := h43
      simp only [over, overL, Nat.reduceAdd, h43]
      go_simp
      exact hK _ _ ⟨_, rfl, by simp only [over, overL, Nat.reduceAdd, h43]; rfl, Below.refl _ _⟩
    · intro f w1 hb ⟨h44, _⟩
      have h44 : f 44 = _ := h44
      refine ⟨fun hg => ?_, fun hg => ?_⟩
      rotate_left
      · intro hG; exact absurd (h44.trans (by rw [hG])) hg
      have hG := Value.bool.inj (h44.symm.trans hg)
      intro K hK
      simp only [over, overL, Nat.reduceAdd, h44, hG]
      go_simp
      exact hK _ _ ⟨_, (fun _ => ⟨_, _, rfl, cell_later hb hp0, cell_later hb hp1⟩), by simp only [over, overL, Nat.reduceAdd, h44, hG]; rfl, Below.refl _ _⟩
    · intro f w1 hb ⟨h44, _⟩
      have h44 : f 44 = _ := h44
      refine ⟨fun hg => ?_, fun hg => ?_⟩
      rotate_left
      · intro hG; exact absurd (h44.trans (by rw [hG])) hg
      have hG := Value.bool.inj (h44.symm.trans hg)
      intro K hK
      simp only [over, overL, Nat.reduceAdd, h44, hG]
      go_simp
      exact hK _ _ ⟨_, (fun _ => rfl), by simp only [over, overL, Nat.reduceAdd, h44, hG]; rfl, Below.refl _ _⟩
    · intro f w1 hb ⟨h44, h46, _⟩
      have h44 : f 44 = _ := h44
      refine ⟨fun hg => ?_, fun hg => ?_⟩
      rotate_left
      · intro hG; exact absurd (h44.trans (by rw [hG])) hg
      have hG := Value.bool.inj (h44.symm.trans hg)
      intro K hK
      have h46 : f 46 = _ := h46 hG
      have cl : w1.cell? ⟨w.heap.size, 11, none⟩ = some (.int .i64 a.cap) := cell_later hb (cell_later hB (by go_simp))
      simp only [over, overL, Nat.reduceAdd, h44, h46, hG]
      go_simp
      exact hK _ _ ⟨_, (fun _ => rfl), by simp only [over, overL, Nat.reduceAdd, h44, h46, hG]; rfl, Below.refl _ _⟩
    · intro f w1 hb ⟨h44, h47, _⟩
      have h44 : f 44 = _ := h44
      refine ⟨fun hg => ?_, fun hg => ?_⟩
      rotate_left
      · intro hG; exact absurd (h44.trans (by rw [hG])) hg
      have hG := Value.bool.inj (h44.symm.trans hg)
      intro K hK
      have h47 : f 47 = _ := h47 hG
      simp only [over, overL, Nat.reduceAdd, h44, h47, hG]
      go_simp
      exact hK _ _ ⟨_, (fun _ => new_one _ _ _), by simp only [over, overL, Nat.reduceAdd, h44, h47, hG]; rfl, (Below.refl _ _).alloc (Nat.le_refl _) _⟩
    · intro f w1 hb ⟨h44, h45, h48, _⟩
      have h44 : f 44 = _ := h44
      refine ⟨fun hg => ?_, fun hg => ?_⟩
      rotate_left
      · intro hG; exact absurd (h44.trans (by rw [hG])) hg
      have hG := Value.bool.inj (h44.symm.trans hg)
      intro K hK
      replace h45 := h45 hG
      replace h48 := h48 hG
      simp only [over, overL, Nat.reduceAdd, h44, hG]
      go_simp
      refine (every_v [a.cap] 0 0 c3 hc3 _ _ _ (by simp) h45 h48).mono ?_
      rintro e w2 ⟨rfl, hw⟩
      exact hK _ _ ⟨_, (fun _ => rfl), by simp only [over, overL, Nat.reduceAdd, h44, hG]; rfl, hw ▸ Below.refl _ _⟩
    · intro f w1 hb ⟨h44, h49, _⟩ K hK
      have h44 : f 44 = _ := h44
      have h49 : (b1 && c1 && c2) = true → f 49 = _ := h49
      cases hG : (b1 && c1 && c2) with
      | false =>
        rw [hG] at h44
        simp only [over, overL, Nat.reduceAdd, h44]
        go_simp
        exact hK _ _ ⟨.bool false, by simp [measV, hG], by simp only [over, overL, Nat.reduceAdd, h44]; rfl, Below.refl _ _⟩
      | true =>
        have h49 := h49 hG
        rw [hG] at h44
        simp only [over, overL, Nat.reduceAdd, h44, h49]
        go_simp
        exact hK _ _ ⟨.bool c3, by simp [measV, hG], by simp only [over, overL, Nat.reduceAdd, h44, h49]; rfl, Below.refl _ _⟩
    · intro f w1 hb ⟨h50, _⟩ K hK
      have h50 : f 50 = _ := h50
      simp only [over, overL, Nat.reduceAdd, h50]
      go_simp
      exact hK _ _ ⟨_, rfl, by simp only [over, overL, Nat.reduceAdd, h50]; rfl, Below.refl _ _⟩
  · intro f w1 hb h
    have h2 : f 2 = .bool (b1 && c1 && c2 && c3) := h.2.2.2.2.2.2.2.2.2.2.2.2.2.2.2.2.2.2.2.2.2.2.2.2.2.2.2.2.2.2.2.2.2.2.2.1
    simp only [over, overL, h2, Nat.reduceAdd]
    go_wp2
    go_ret
    exact ⟨rfl, ((Below.refl _ _).alloc (Nat.le_refl _) _).trans ((hB.mono (by simp)).trans (hb.mono (by have := hB.size; simp at this; omega)))⟩

set_option maxHeartbeats 3200000 in
theorem isMeasured_10 (a : Wr) (w : World) (hr0 : 0 ≤ a.rows * a.cols) (hr1 : a.rows * a.cols ≤ 384) (hm : 1 < a.rows * a.cols) (hk : (a.kind == 3) = false) (b1 c1 c2 c3 : Bool)
    (hb1 : [a.x, a.y, a.deep].all (inR 0 200000) = b1) (hc1 : [a.pitch].all (inR 1 200000) = c1) (hc2 : [a.wid, a.len, a.hei].all (inR 1 200000) = c2) (hc3 : [a.cap].all (inR 1 1000000000) = c3) :
    Calls Tryz.prog 77 #[wv a] w fun e w' => e = .returned (.bool (b1 && c1 && c2 && c3)) ∧ Below w.heap.size w w' := by
  go_enter Tryz.func77, Tryz.ntmps77
  go_wp2_with (go_at_call 76; refine (within_int _ _ _).mono ?_; rintro e w2 ⟨rfl, rfl⟩)
  obtain ⟨W, hW⟩ : ∃ W, W = (((w.alloc (wobj a)).alloc (.cells #[.int .i64 1] 3)).alloc (.cells #[.int .i64 1000000000] 3)) := ⟨_, rfl⟩
  have hB : Below (w.alloc (wobj a)).heap.size (w.alloc (wobj a)) W := by
    rw [hW]
    repeat (first | exact Below.refl _ _ | refine Below.alloc ?_ (by simp; omega) _ | refine Below.alloc ?_ (by simp) _)
  have hp0 : W.cell? ⟨w.heap.size + 1, 0, none⟩ = some (.int .i64 1) := by rw [hW]; go_simp
  have hp1 : W.cell? ⟨w.heap.size + 1 + 1, 0, none⟩ = some (.int .i64 1000000000) := by rw [hW]; go_simp
  rw [← hW]
  clear hW
  refine region_inv [false, false, true, false, false, false, false, false, false, false, false, false, false, false, false, false, true, true, true, true, true, true, true, true, true, true, true, true, true, true, true, true, true, true, true, true, true, true, true, true, true, true, true, true, true, true, true, true, true, true, true]
    [(16, [], none), (17, [], none), (18, [17], none), (19, [], none), (20, [19], none), (21, [], none), (22, [21], none), (23, [18, 20, 22], none), (24, [16, 23], none), (25, [24], none), (26, [25], some (25, true)), (27, [25, 26], some (25, true)), (28, [25], some (25, true)), (29, [25, 28], some (25, true)), (30, [25, 29], some (25, true)), (31, [25, 27, 30], some (25, true)), (32, [25, 31], none), (33, [32], none), (34, [33], some (33, true)), (35, [33], some (33, true)), (36, [33, 35], some (33, true)), (37, [33], some (33, true)), (38, [33, 37], some (33, true)), (39, [33], some (33, true)), (40, [33, 39], some (33, true)), (41, [33, 36, 38, 40], some (33, true)), (42, [33, 34, 41], some (33, true)), (43, [33, 42], none), (44, [43], none), (45, [44], some (44, true)), (46, [44], some (44, true)), (47, [44, 46], some (44, true)), (48, [44, 47], some (44, true)), (49, [44, 45, 48], some (44, true)), (50, [44, 49], none), (2, [50], none)]
    (measV a 1 1 1000000000 b1 c1 c2 c3 w.heap.size) (by kernel_rfl) (by kernel_rfl) (measV_mono a 1 1 1000000000 b1 c1 c2 c3 w.heap.size) ?_ ?_
  · refine ⟨?_, ?_, ?_, ?_, ?_, ?_, ?_, ?_, ?_, ?_, ?_, ?_, ?_, ?_, ?_, ?_, ?_, ?_, ?_, ?_, ?_, ?_, ?_, ?_, ?_, ?_, ?_, ?_, ?_, ?_, ?_, ?_, ?_, ?_, ?_, ?_, trivial⟩
    · intro f w1 hb _ K hK
      simp only [over, overL, Nat.reduceAdd]
      go_simp
      refine (within_is _ _ _).mono ?_
      rintro e w2 ⟨v, rfl, hv, hb2⟩
      exact hK _ _ ⟨_, hv, by simp only [over, overL, Nat.reduceAdd]; rfl, hb2⟩
    · intro f w1 hb _ K hK
      simp only [over, overL, Nat.reduceAdd]
      go_simp
      exact hK _ _ ⟨_, rfl, by simp only [over, overL, Nat.reduceAdd]; rfl, Below.refl _ _⟩
    · intro f w1 hb ⟨h17, _⟩ K hK
      have h17 : f 17 = _ := h17
      have cl : w1.cell? ⟨w.heap.size, 4, none⟩ = some (.int .i64 a.x) := cell_later hb (cell_later hB (by go_simp))
      simp only [over, overL, Nat.reduceAdd, h17]
      go_simp
      exact hK _ _ ⟨_, rfl, by simp only [over, overL, Nat.reduceAdd, h17]; rfl, Below.refl _ _⟩
    · intro f w1 hb _ K hK
      simp only [over, overL, Nat.reduceAdd]
      go_simp
      exact hK _ _ ⟨_, rfl, by simp only [over, overL, Nat.reduceAdd]; rfl, Below.refl _ _⟩
    · intro f w1 hb ⟨h19, _⟩ K hK
      have h19 : f 19 = _ := h19
      have cl : w1.cell? ⟨w.heap.size, 5, none⟩ = some (.int .i64 a.y) := cell_later hb (cell_later hB (by go_simp))
      simp only [over, overL, Nat.reduceAdd, h19]
      go_simp
      exact hK _ _ ⟨_, rfl, by simp only [over, overL, Nat.reduceAdd, h19]; rfl, Below.refl _ _⟩
    · intro f w1 hb _ K hK
      simp only [over, overL, Nat.reduceAdd]
      go_simp
      exact hK _ _ ⟨_, rfl, by simp only [over, overL, Nat.reduceAdd]; rfl, Below.refl _ _⟩
    · intro f w1 hb ⟨h21, _⟩ K hK
      have h21 : f 21 = _ := h21
      have cl : w1.cell? ⟨w.heap.size, 10, none⟩ = some (.int .i64 a.deep) := cell_later hb (cell_later hB (by go_simp))
      simp only [over, overL, Nat.reduceAdd, h21]
      go_simp
      exact hK _ _ ⟨_, rfl, by simp only [over, overL, Nat.reduceAdd, h21]; rfl, Below.refl _ _⟩
    · intro f w1 hb ⟨h18, h20, h22, _⟩ K hK
      have h18 : f 18 = _ := h18
      have h20 : f 20 = _ := h20
      have h22 : f 22 = _ := h22
      simp only [over, overL, Nat.reduceAdd, h18, h20, h22]
      go_simp
      exact hK _ _ ⟨_, new_three _ _ _ _ _, by simp only [over, overL, Nat.reduceAdd, h18, h20, h22]; rfl, (Below.refl _ _).alloc (Nat.le_refl _) _⟩
    · intro f w1 hb ⟨h16, h23, _⟩ K hK
      simp only [over, overL, Nat.reduceAdd]
      go_simp
      refine (every_v [a.x, a.y, a.deep] 0 200000 b1 hb1 _ _ _ (by simp) h16 h23).mono ?_
      rintro e w2 ⟨rfl, hw⟩
      exact hK _ _ ⟨_, rfl, by simp only [over, overL, Nat.reduceAdd]; rfl, hw ▸ Below.refl _ _⟩
    · intro f w1 hb ⟨h24, _⟩ K hK
      have h24 : f 24 = _ := h24
      simp only [over, overL, Nat.reduceAdd, h24]
      go_simp
      exact hK _ _ ⟨_, rfl, by simp only [over, overL, Nat.reduceAdd, h24]; rfl, Below.refl _ _⟩
    · intro f w1 hb ⟨h25, _⟩
      have h25 : f 25 = _ := h25
      refine ⟨fun hg => ?_, fun hg => ?_⟩
      rotate_left
      · intro hG; exact absurd (h25.trans (by rw [hG])) hg
      have hG := Value.bool.inj (h25.symm.trans hg)
      intro K hK
      simp only [over, overL, Nat.reduceAdd, h25, hG]
      go_simp
      exact hK _ _ ⟨_, (fun _ => rfl), by simp only [over, overL, Nat.reduceAdd, h25, hG]; rfl, Below.refl _ _⟩
    · intro f w1 hb ⟨h25, h26, _⟩
      have h25 : f 25 = _ := h25
      refine ⟨fun hg => ?_, fun hg => ?_⟩
      rotate_left
      · intro hG; exact absurd (h25.trans (by rw [hG])) hg
      have hG := Value.bool.inj (h25.symm.trans hg)
      intro K hK
      have h26 : f 26 = _ := h26 hG
      simp only [over, overL, Nat.reduceAdd, h25, h26, hG]
      go_simp
      refine (within_is _ _ _).mono ?_
      rintro e w2 ⟨v, rfl, hv, hb2⟩
      exact hK _ _ ⟨_, (fun _ => hv), by simp only [over, overL, Nat.reduceAdd, h25, h26, hG]; rfl, hb2⟩
    · intro f w1 hb ⟨h25, _⟩
      have h25 : f 25 = _ := h25
      refine ⟨fun hg => ?_, fun hg => ?_⟩
      rotate_left
      · intro hG; exact absurd (h25.trans (by rw [hG])) hg
      have hG := Value.bool.inj (h25.symm.trans hg)
      intro K hK
      simp only [over, overL, Nat.reduceAdd, h25, hG]
      go_simp
      exact hK _ _ ⟨_, (fun _ => rfl), by simp only [over, overL, Nat.reduceAdd, h25, hG]; rfl, Below.refl _ _⟩
    · intro f w1 hb ⟨h25, h28, _⟩
      have h25 : f 25 = _ := h25
      refine ⟨fun hg => ?_, fun hg => ?_⟩
      rotate_left
      · intro hG; exact absurd (h25.trans (by rw [hG])) hg
      have hG := Value.bool.inj (h25.symm.trans hg)
      intro K hK
      have h28 : f 28 = _ := h28 hG
      have cl : w1.cell? ⟨w.heap.size, 6, none⟩ = some (.int .i64 a.pitch) := cell_later hb (cell_later hB (by go_simp))
      simp only [over, overL, Nat.reduceAdd, h25, h28, hG]
      go_simp
      exact hK _ _ ⟨_, (fun _ => rfl), by simp only [over, overL, Nat.reduceAdd, h25, h28, hG]; rfl, Below.refl _ _⟩
    · intro f w1 hb ⟨h25, h29, _⟩
      have h25 : f 25 = _ := h25
      refine ⟨fun hg => ?_, fun hg => ?_⟩
      rotate_left
      · intro hG; exact absurd (h25.trans (by rw [hG])) hg
      have hG := Value.bool.inj (h25.symm.trans hg)
      intro K hK
      have h29 : f 29 = _ := h29 hG
      simp only [over, overL, Nat.reduceAdd, h25, h29, hG]
      go_simp
      exact hK _ _ ⟨_, (fun _ => new_one _ _ _), by simp only [over, overL, Nat.reduceAdd, h25, h29, hG]; rfl, (Below.refl _ _).alloc (Nat.le_refl _) _⟩
    · intro f w1 hb ⟨h25, h27, h30, _⟩
      have h25 : f 25 = _ := h25
      refine ⟨fun hg => ?_, fun hg => ?_⟩
      rotate_left
      · intro hG; exact absurd (h25.trans (by rw [hG])) hg
      have hG := Value.bool.inj (h25.symm.trans hg)
      intro K hK
      replace h27 := h27 hG
      replace h30 := h30 hG
      simp only [over, overL, Nat.reduceAdd, h25, hG]
      go_simp
      refine (every_v [a.pitch] 1 200000 c1 hc1 _ _ _ (by simp) h27 h30).mono ?_
      rintro e w2 ⟨rfl, hw⟩
      exact hK _ _ ⟨_, (fun _ => rfl), by simp only [over, overL, Nat.reduceAdd, h25, hG]; rfl, hw ▸ Below.refl _ _⟩
    · intro f w1 hb ⟨h25, h31, _⟩ K hK
      have h25 : f 25 = _ := h25
      have h31 : b1 = true → f 31 = _ := h31
      cases hG : b1 with
      | false =>
        rw [hG] at h25
        simp only [over, overL, Nat.reduceAdd, h25]
        go_simp
        exact hK _ _ ⟨.bool false, by simp [measV, hG], by simp only [over, overL, Nat.reduceAdd, h25]; rfl, Below.refl _ _⟩
      | true =>
        have h31 := h31 hG
        rw [hG] at h25
        simp only [over, overL, Nat.reduceAdd, h25, h31]
        go_simp
        exact hK _ _ ⟨.bool c1, by simp [measV, hG], by simp only [over, overL, Nat.reduceAdd, h25, h31]; rfl, Below.refl _ _⟩
    · intro f w1 hb ⟨h32, _⟩ K hK
      have h32 : f 32 = _ := h32
      simp only [over, overL, Nat.reduceAdd, h32]
      go_simp
      exact hK _ _ ⟨_, rfl, by simp only [over, overL, Nat.reduceAdd, h32]; rfl, Below.refl _ _⟩
    · intro f w1 hb ⟨h33, _⟩
      have h33 : f 33 = _ := h33
      refine ⟨fun hg => ?_, fun hg => ?_⟩
      rotate_left
      · intro hG; exact absurd (h33.trans (by rw [hG])) hg
      have hG := Value.bool.inj (h33.symm.trans hg)
      intro K hK
      simp only [over, overL, Nat.reduceAdd, h33, hG]
      go_simp
      refine (within_is _ _ _).mono ?_
      rintro e w2 ⟨v, rfl, hv, hb2⟩
      exact hK _ _ ⟨_, (fun _ => hv), by simp only [over, overL, Nat.reduceAdd, h33, hG]; rfl, hb2⟩
    · intro f w1 hb ⟨h33, _⟩
      have h33 : f 33 = _ := h33
      refine ⟨fun hg => ?_, fun hg => ?_⟩
      rotate_left
      · intro hG; exact absurd (h33.trans (by rw [hG])) hg
      have hG := Value.bool.inj (h33.symm.trans hg)
      intro K hK
      simp only [over, overL, Nat.reduceAdd, h33, hG]
      go_simp
      exact hK _ _ ⟨_, (fun _ => rfl), by simp only [over, overL, Nat.reduceAdd, h33, hG]; rfl, Below.refl _ _⟩
    · intro f w1 hb ⟨h33, h35, _⟩
      have h33 : f 33 = _ := h33
      refine ⟨fun hg => ?_, fun hg => ?_⟩
      rotate_left
      · intro hG; exact absurd (h33.trans (by rw [hG])) hg
      have hG := Value.bool.inj (h33.symm.trans hg)
      intro K hK
      have h35 : f 35 = _ := h35 hG
      have cl : w1.cell? ⟨w.heap.size, 7, none⟩ = some (.int .i64 a.wid) := cell_later hb (cell_later hB (by go_simp))
      simp only [over, overL, Nat.reduceAdd, h33, h35, hG]
      go_simp
      exact hK _ _ ⟨_, (fun _ => rfl), by simp only [over, overL, Nat.reduceAdd, h33, h35, hG]; rfl, Below.refl _ _⟩
    · intro f w1 hb ⟨h33, _⟩
      have h33 : f 33 = _ := h33
      refine ⟨fun hg => ?_, fun hg => ?_⟩
      rotate_left
      · intro hG; exact absurd (h33.trans (by rw [hG])) hg
      have hG := Value.bool.inj (h33.symm.trans hg)
      intro K hK
      simp only [over, overL, Nat.reduceAdd, h33, hG]
      go_simp
      exact hK _ _ ⟨_, (fun _ => rfl), by simp only [over, overL, Nat.reduceAdd, h33, hG]; rfl, Below.refl _ _⟩
    · intro f w1 hb ⟨h33, h37, _⟩
      have h33 : f 33 = _ := h33
      refine ⟨fun hg => ?_, fun hg => ?_⟩
      rotate_left
      · intro hG; exact absurd (h33.trans (by rw [hG])) hg
      have hG := Value.bool.inj (h33.symm.trans hg)
      intro K hK
      have h37 : f 37 = _ := h37 hG
      have cl : w1.cell? ⟨w.heap.size, 8, none⟩ = some (.int .i64 a.len) := cell_later hb (cell_later hB (by go_simp))
      simp only [over, overL, Nat.reduceAdd, h33, h37, hG]
      go_simp
      exact hK _ _ ⟨_, (fun _ => rfl), by simp only [over, overL, Nat.reduceAdd, h33, h37, hG]; rfl, Below.refl _ _⟩
    · intro f w1 hb ⟨h33, _⟩
      have h33 : f 33 = _ := h33
      refine ⟨fun hg => ?_, fun hg => ?_⟩
      rotate_left
      · intro hG; exact absurd (h33.trans (by rw [hG])) hg
      have hG := Value.bool.inj (h33.symm.trans hg)
      intro K hK
      simp only [over, overL, Nat.reduceAdd, h33, hG]
      go_simp
      exact hK _ _ ⟨_, (fun _ => rfl), by simp only [over, overL, Nat.reduceAdd, h33, hG]; rfl, Below.refl _ _⟩
    · intro f w1 hb ⟨h33, h39, _⟩
      have h33 : f 33 = _ := h33
      refine ⟨fun hg => ?_, fun hg => ?_⟩
      rotate_left
      · intro hG; exact absurd (h33.trans (by rw [hG])) hg
      have hG := Value.bool.inj (h33.symm.trans hg)
      intro K hK
      have h39 : f 39 = _ := h39 hG
      have cl : w1.cell? ⟨w.heap.size, 9, none⟩ = some (.int .i64 a.hei) := cell_later hb (cell_later hB (by go_simp))
      simp only [over, overL, Nat.reduceAdd, h33, h39, hG]
      go_simp
      exact hK _ _ ⟨_, (fun _ => rfl), by simp only [over, overL, Nat.reduceAdd, h33, h39, hG]; rfl, Below.refl _ _⟩
    · intro f w1 hb ⟨h33, h36, h38, h40, _⟩
      have h33 : f 33 = _ := h33
      refine ⟨fun hg => ?_, fun hg => ?_⟩
      rotate_left
      · intro hG; exact absurd (h33.trans (by rw [hG])) hg
      have hG := Value.bool.inj (h33.symm.trans hg)
      intro K hK
      have h36 : f 36 = _ := h36 hG
      have h38 : f 38 = _ := h38 hG
      have h40 : f 40 = _ := h40 hG
      simp only [over, overL, Nat.reduceAdd, h33, h36, h38, h40, hG]
      go_simp
      exact hK _ _ ⟨_, (fun _ => new_three _ _ _ _ _), by simp only [over, overL, Nat.reduceAdd, h33, h36, h38, h40, hG]; rfl, (Below.refl _ _).alloc (Nat.le_refl _) _⟩
    · intro f w1 hb ⟨h33, h34, h41, _⟩
      have h33 : f 33 = _ := h33
      refine ⟨fun hg => ?_, fun hg => ?_⟩
      rotate_left
      · intro hG; exact absurd (h33.trans (by rw [hG])) hg
      have hG := Value.bool.inj (h33.symm.trans hg)
      intro K hK
      replace h34 := h34 hG
      replace h41 := h41 hG
      simp only [over, overL, Nat.reduceAdd, h33, hG]
      go_simp
      refine (every_v [a.wid, a.len, a.hei] 1 200000 c2 hc2 _ _ _ (by simp) h34 h41).mono ?_
      rintro e w2 ⟨rfl, hw⟩
      exact hK _ _ ⟨_, (fun _ => rfl), by simp only [over, overL, Nat.reduceAdd, h33, hG]; rfl, hw ▸ Below.refl _ _⟩
    · intro f w1 hb ⟨h33, h42, _⟩ K hK
      have h33 : f 33 = _ := h33
      have h42 : (b1 && c1) = true → f 42 = _ := h42
      cases hG : (b1 && c1) with
      | false =>
        rw [hG] at h33
        simp only [over, overL, Nat.reduceAdd, h33]
        go_simp
        exact hK _ _ ⟨.bool false, by simp [measV, hG], by simp only [over, overL, Nat.reduceAdd, h33]; rfl, Below.refl _ _⟩
      | true =>
        have h42 := h42 hG
        rw [hG] at h33
        simp only [over, overL, Nat.reduceAdd, h33, h42]
        go_simp
        exact hK _ _ ⟨.bool c2, by simp [measV, hG], by simp only [over, overL, Nat.reduceAdd, h33, h42]; rfl, Below.refl _ _⟩
    · intro f w1 hb ⟨h43, _⟩ K hK
      have h43 : f 43 = _ := h43
      simp only [over, overL, Nat.reduceAdd, h43]
      go_simp
      exact hK _ _ ⟨_, rfl, by simp only [over, overL, Nat.reduceAdd, h43]; rfl, Below.refl _ _⟩
    · intro f w1 hb ⟨h44, _⟩
      have h44 : f 44 = _ := h44
      refine ⟨fun hg => ?_, fun hg => ?_⟩
      rotate_left
      · intro hG; exact absurd (h44.trans (by rw [hG])) hg
      have hG := Value.bool.inj (h44.symm.trans hg)
      intro K hK
      simp only [over, overL, Nat.reduceAdd, h44, hG]
      go_simp
      exact hK _ _ ⟨_, (fun _ => ⟨_, _, rfl, cell_later hb hp0, cell_later hb hp1⟩), by simp only [over, overL, Nat.reduceAdd, h44, hG]; rfl, Below.refl _ _⟩
    · intro f w1 hb ⟨h44, _⟩
      have h44 : f 44 = _ := h44
      refine ⟨fun hg => ?_, fun hg => ?_⟩
      rotate_left
      · intro hG; exact absurd (h44.trans (by rw [hG])) hg
      have hG := Value.bool.inj (h44.symm.trans hg)
      intro K hK
      simp only [over, overL, Nat.reduceAdd, h44, hG]
      go_simp
      exact hK _ _ ⟨_, (fun _ => rfl), by simp only [over, overL, Nat.reduceAdd, h44, hG]; rfl, Below.refl _ _⟩
    · intro f w1 hb ⟨h44, h46, _⟩
      have h44 : f 44 = _ := h44
      refine ⟨fun hg => ?_, fun hg => ?_⟩
      rotate_left
      · intro hG; exact absurd (h44.trans (by rw [hG])) hg
      have hG := Value.bool.inj (h44.symm.trans hg)
      intro K hK
      have h46 : f 46 = _ := h46 hG
      have cl : w1.cell? ⟨w.heap.size, 11, none⟩ = some (.int .i64 a.cap) := cell_later hb (cell_later hB (by go_simp))
      simp only [over, overL, Nat.reduceAdd, h44, h46, hG]
      go_simp
      exact hK _ _ ⟨_, (fun _ => rfl), by simp only [over, overL, Nat.reduceAdd, h44, h46, hG]; rfl, Below.refl _ _⟩
    · intro f w1 hb ⟨h44, h47, _⟩
      have h44 : f 44 = _ := h44
      refine ⟨fun hg => ?_, fun hg => ?_⟩
      rotate_left
      · intro hG; exact absurd (h44.trans (by rw [hG])) hg
      have hG := Value.bool.inj (h44.symm.trans hg)
      intro K hK
      have h47 : f 47 = _ := h47 hG
      simp only [over, overL, Nat.reduceAdd, h44, h47, hG]
      go_simp
      exact hK _ _ ⟨_, (fun _ => new_one _ _ _), by simp only [over, overL, Nat.reduceAdd, h44, h47, hG]; rfl, (Below.refl _ _).alloc (Nat.le_refl _) _⟩
    · intro f w1 hb ⟨h44, h45, h48, _⟩
      have h44 : f 44 = _ := h44
      refine ⟨fun hg => ?_, fun hg => ?_⟩
      rotate_left
      · intro hG; exact absurd (h44.trans (by rw [hG])) hg
      have hG := Value.bool.inj (h44.symm.trans hg)
      intro K hK
      replace h45 := h45 hG
      replace h48 := h48 hG
      simp only [over, overL, Nat.reduceAdd, h44, hG]
      go_simp
      refine (every_v [a.cap] 1 1000000000 c3 hc3 _ _ _ (by simp) h45 h48).mono ?_
      rintro e w2 ⟨rfl, hw⟩
      exact hK _ _ ⟨_, (fun _ => rfl), by simp only [over, overL, Nat.reduceAdd, h44, hG]; rfl, hw ▸ Below.refl _ _⟩
    · intro f w1 hb ⟨h44, h49, _⟩ K hK
      have h44 : f 44 = _ := h44
      have h49 : (b1 && c1 && c2) = true → f 49 = _ := h49
      cases hG : (b1 && c1 && c2) with
      | false =>
        rw [hG] at h44
        simp only [over, overL, Nat.reduceAdd, h44]
        go_simp
        exact hK _ _ ⟨.bool false, by simp [measV, hG], by simp only [over, overL, Nat.reduceAdd, h44]; rfl, Below.refl _ _⟩
      | true =>
        have h49 := h49 hG
        rw [hG] at h44
        simp only [over, overL, Nat.reduceAdd, h44, h49]
        go_simp
        exact hK _ _ ⟨.bool c3, by simp [measV, hG], by simp only [over, overL, Nat.reduceAdd, h44, h49]; rfl, Below.refl _ _⟩
    · intro f w1 hb ⟨h50, _⟩ K hK
      have h50 : f 50 = _ := h50
      simp only [over, overL, Nat.reduceAdd, h50]
      go_simp
      exact hK _ _ ⟨_, rfl, by simp only [over, overL, Nat.reduceAdd, h50]; rfl, Below.refl _ _⟩
  · intro f w1 hb h
    have h2 : f 2 = .bool (b1 && c1 && c2 && c3) := h.2.2.2.2.2.2.2.2.2.2.2.2.2.2.2.2.2.2.2.2.2.2.2.2.2.2.2.2.2.2.2.2.2.2.2.1
    simp only [over, overL, h2, Nat.reduceAdd]
    go_wp2
    go_ret
    exact ⟨rfl, ((Below.refl _ _).alloc (Nat.le_refl _) _).trans ((hB.mono (by simp)).trans (hb.mono (by have := hB.size; simp at this; omega)))⟩

set_option maxHeartbeats 3200000 in
theorem isMeasured_11 (a : Wr) (w : World) (hr0 : 0 ≤ a.rows * a.cols) (hr1 : a.rows * a.cols ≤ 384) (hm : 1 < a.rows * a.cols) (hk : a.kind = 3) (b1 c1 c2 c3 : Bool)
    (hb1 : [a.x, a.y, a.deep].all (inR 0 200000) = b1) (hc1 : [a.pitch].all (inR 1 200000) = c1) (hc2 : [a.wid, a.len, a.hei].all (inR 1 200000) = c2) (hc3 : [a.cap].all (inR 0 0) = c3) :
    Calls Tryz.prog 77 #[wv a] w fun e w' => e = .returned (.bool (b1 && c1 && c2 && c3)) ∧ Below w.heap.size w w' := by
  go_enter Tryz.func77, Tryz.ntmps77
  go_wp2_with (go_at_call 76; refine (within_int _ _ _).mono ?_; rintro e w2 ⟨rfl, rfl⟩)
  obtain ⟨W, hW⟩ : ∃ W, W = (((((w.alloc (wobj a)).alloc (.cells #[.int .i64 1] 3)).alloc (.cells #[.int .i64 1000000000] 3)).alloc (.cells #[.int .i64 0] 3)).alloc (.cells #[.int .i64 0] 3)) := ⟨_, rfl⟩
  have hB : Below (w.alloc (wobj a)).heap.size (w.alloc (wobj a)) W := by
    rw [hW]
    repeat (first | exact Below.refl _ _ | refine Below.alloc ?_ (by simp; omega) _ | refine Below.alloc ?_ (by simp) _)
  have hp0 : W.cell? ⟨w.heap.size + 1 + 1 + 1, 0, none⟩ = some (.int .i64 0) := by rw [hW]; go_simp
  have hp1 : W.cell? ⟨w.heap.size + 1 + 1 + 1 + 1, 0, none⟩ = some (.int .i64 0) := by rw [hW]; go_simp
  rw [← hW]
  clear hW
  refine region_inv [false, false, true, false, false, false, false, false, false, false, false, false, false, false, false, false, true, true, true, true, true, true, true, true, true, true, true, true, true, true, true, true, true, true, true, true, true, true, true, true, true, true, true, true, true, true, true, true, true, true, true]
    [(16, [], none), (17, [], none), (18, [17], none), (19, [], none), (20, [19], none), (21, [], none), (22, [21], none), (23, [18, 20, 22], none), (24, [16, 23], none), (25, [24], none), (26, [25], some (25, true)), (27, [25, 26], some (25, true)), (28, [25], some (25, true)), (29, [25, 28], some (25, true)), (30, [25, 29], some (25, true)), (31, [25, 27, 30], some (25, true)), (32, [25, 31], none), (33, [32], none), (34, [33], some (33, true)), (35, [33], some (33, true)), (36, [33, 35], some (33, true)), (37, [33], some (33, true)), (38, [33, 37], some (33, true)), (39, [33], some (33, true)), (40, [33, 39], some (33, true)), (41, [33, 36, 38, 40], some (33, true)), (42, [33, 34, 41], some (33, true)), (43, [33, 42], none), (44, [43], none), (45, [44], some (44, true)), (46, [44], some (44, true)), (47, [44, 46], some (44, true)), (48, [44, 47], some (44, true)), (49, [44, 45, 48], some (44, true)), (50, [44, 49], none), (2, [50], none)]
    (measV a 1 0 0 b1 c1 c2 c3 w.heap.size) (by kernel_rfl) (by kernel_rfl) (measV_mono a 1 0 0 b1 c1 c2 c3 w.heap.size) ?_ ?_
  · refine ⟨?_, ?_, ?_, ?_, ?_, ?_, ?_, ?_, ?_, ?_, ?_, ?_, ?_, ?_, ?_, ?_, ?_, ?_, ?_, ?_, ?_, ?_, ?_, ?_, ?_, ?_, ?_, ?_, ?_, ?_, ?_, ?_, ?_, ?_, ?_, ?_, trivial⟩
    · intro f w1 hb _ K hK
      simp only [over, overL, Nat.reduceAdd]
      go_simp
      refine (within_is _ _ _).mono ?_
      rintro e w2 ⟨v, rfl, hv, hb2⟩
      exact hK _ _ ⟨_, hv, by simp only [over, overL, Nat.reduceAdd]; rfl, hb2⟩
    · intro f w1 hb _ K hK
      simp only [over, overL, Nat.reduceAdd]
      go_simp
      exact hK _ _ ⟨_, rfl, by simp only [over, overL, Nat.reduceAdd]; rfl, Below.refl _ _⟩
    · intro f w1 hb ⟨h17, _⟩ K hK
      have h17 : f 17 = _ := h17
      have cl : w1.cell? ⟨w.heap.size, 4, none⟩ = some (.int .i64 a.x) := cell_later hb (cell_later hB (by go_simp))
      simp only [over, overL, Nat.reduceAdd, h17]
      go_simp
      exact hK _ _ ⟨_, rfl, by simp only [over, overL, Nat.reduceAdd, h17]; rfl, Below.refl _ _⟩
    · intro f w1 hb _ K hK
      simp only [over, overL, Nat.reduceAdd]
      go_simp
      exact hK _ _ ⟨_, rfl, by simp only [over, overL, Nat.reduceAdd]; rfl, Below.refl _ _⟩
    · intro f w1 hb ⟨h19, _⟩ K hK
      have h19 : f 19 = _ := h19
      have cl : w1.cell? ⟨w.heap.size, 5, none⟩ = some (.int .i64 a.y) := cell_later hb (cell_later hB (by go_simp))
      simp only [over, overL, Nat.reduceAdd, h19]
      go_simp
      exact hK _ _ ⟨_, rfl, by simp only [over, overL, Nat.reduceAdd, h19]; rfl, Below.refl _ _⟩
    · intro f w1 hb _ K hK
      simp only [over, overL, Nat.reduceAdd]
      go_simp
      exact hK _ _ ⟨_, rfl, by simp only [over, overL, Nat.reduceAdd]; rfl, Below.refl _ _⟩
    · intro f w1 hb ⟨h21, _⟩ K hK
      have h21 : f 21 = _ := h21
      have cl : w1.cell? ⟨w.heap.size, 10, none⟩ = some (.int .i64 a.deep) := cell_later hb (cell_later hB (by go_simp))
      simp only [over, overL, Nat.reduceAdd, h21]
      go_simp
      exact hK _ _ ⟨_, rfl, by simp only [over, overL, Nat.reduceAdd, h21]; rfl, Below.refl _ _⟩
    · intro f w1 hb ⟨h18, h20, h22, _⟩ K hK
      have h18 : f 18 = _ := h18
      have h20 : f 20 = _ := h20
      have h22 : f 22 = _ := h22
      simp only [over, overL, Nat.reduceAdd, h18, h20, h22]
      go_simp
      exact hK _ _ ⟨_, new_three _ _ _ _ _, by simp only [over, overL, Nat.reduceAdd, h18, h20, h22]; rfl, (Below.refl _ _).alloc (Nat.le_refl _) _⟩
    · intro f w1 hb ⟨h16, h23, _⟩ K hK
      simp only [over, overL, Nat.reduceAdd]
      go_simp
      refine (every_v [a.x, a.y, a.deep] 0 200000 b1 hb1 _ _ _ (by simp) h16 h23).mono ?_
      rintro e w2 ⟨rfl, hw⟩
      exact hK _ _ ⟨_, rfl, by simp only [over, overL, Nat.reduceAdd]; rfl, hw ▸ Below.refl _ _⟩
    · intro f w1 hb ⟨h24, _⟩ K hK
      have h24 : f 24 = _ := h24
      simp only [over, overL, Nat.reduceAdd, h24]
      go_simp
      exact hK _ _ ⟨_, rfl, by simp only [over, overL, Nat.reduceAdd, h24]; rfl, Below.refl _ _⟩
    · intro f w1 hb ⟨h25, _⟩
      have h25 : f 25 = _ := h25
      refine ⟨fun hg => ?_, fun hg => ?_⟩
      rotate_left
      · intro hG; exact absurd (h25.trans (by rw [hG])) hg
      have hG := Value.bool.inj (h25.symm.trans hg)
      intro K hK
      simp only [over, overL, Nat.reduceAdd, h25, hG]
      go_simp
      exact hK _ _ ⟨_, (fun _ => rfl), by simp only [over, overL, Nat.reduceAdd, h25, hG]; rfl, Below.refl _ _⟩
    · intro f w1 hb ⟨h25, h26, _⟩
      have h25 : f 25 = _ := h25
      refine ⟨fun hg => ?_, fun hg => ?_⟩
      rotate_left
      · intro hG; exact absurd (h25.trans (by rw [hG])) hg
      have hG := Value.bool.inj (h25.symm.trans hg)
      intro K hK
      have h26 : f 26 = _ := h26 hG
      simp only [over, overL, Nat.reduceAdd, h25, h26, hG]
      go_simp
      refine (within_is _ _ _).mono ?_
      rintro e w2 ⟨v, rfl, hv, hb2⟩
      exact hK _ _ ⟨_, (fun _ => hv), by simp only [over, overL, Nat.reduceAdd, h25, h26, hG]; rfl, hb2⟩
    · intro f w1 hb ⟨h25, _⟩
      have h25 : f 25 = _ := h25
      refine ⟨fun hg => ?_, fun hg => ?_⟩
      rotate_left
      · intro hG; exact absurd (h25.trans (by rw [hG])) hg
      have hG := Value.bool.inj (h25.symm.trans hg)
      intro K hK
      simp only [over, overL, Nat.reduceAdd, h25, hG]
      go_simp
      exact hK _ _ ⟨_, (fun _ => rfl), by simp only [over, overL, Nat.reduceAdd, h25, hG]; rfl, Below.refl _ _⟩
    · intro f w1 hb ⟨h25, h28, _⟩
      have h25 : f 25 = _ := h25
      refine ⟨fun hg => ?_, fun hg => ?_⟩
      rotate_left
      · intro hG; exact absurd (h25.trans (by rw [hG])) hg
      have hG := Value.bool.inj (h25.symm.trans hg)
      intro K hK
      have h28 : f 28 = _ := h28 hG
      have cl : w1.cell? ⟨w.heap.size, 6, none⟩ = some (.int .i64 a.pitch) := cell_later hb (cell_later hB (by go_simp))
      simp only [over, overL, Nat.reduceAdd, h25, h28, hG]
      go_simp
      exact hK _ _ ⟨_, (fun _ => rfl), by simp only [over, overL, Nat.reduceAdd, h25, h28, hG]; rfl, Below.refl _ _⟩
    · intro f w1 hb ⟨h25, h29, _⟩
      have h25 : f 25 = _ := h25
      refine ⟨fun hg => ?_, fun hg => ?_⟩
      rotate_left
      · intro hG; exact absurd (h25.trans (by rw [hG])) hg
      have hG := Value.bool.inj (h25.symm.trans hg)
      intro K hK
      have h29 : f 29 = _ := h29 hG
      simp only [over, overL, Nat.reduceAdd, h25, h29, hG]
      go_simp
      exact hK _ _ ⟨_, (fun _ => new_one _ _ _), by simp only [over, overL, Nat.reduceAdd, h25, h29, hG]; rfl, (Below.refl _ _).alloc (Nat.le_refl _) _⟩
    · intro f w1 hb ⟨h25, h27, h30, _⟩
      have h25 : f 25 = _ := h25
      refine ⟨fun hg => ?_, fun hg => ?_⟩
      rotate_left
      · intro hG; exact absurd (h25.trans (by rw [hG])) hg
      have hG := Value.bool.inj (h25.symm.trans hg)
      intro K hK
      replace h27 := h27 hG
      replace h30 := h30 hG
      simp only [over, overL, Nat.reduceAdd, h25, hG]
      go_simp
      refine (every_v [a.pitch] 1 200000 c1 hc1 _ _ _ (by simp) h27 h30).mono ?_
      rintro e w2 ⟨rfl, hw⟩
      exact hK _ _ ⟨_, (fun _ => rfl), by simp only [over, overL, Nat.reduceAdd, h25, hG]; rfl, hw ▸ Below.refl _ _⟩
    · intro f w1 hb ⟨h25, h31, _⟩ K hK
      have h25 : f 25 = _ := h25
      have h31 : b1 = true → f 31 = _ := h31
      cases hG : b1 with
      | false =>
        rw [hG] at h25
        simp only [over, overL, Nat.reduceAdd, h25]
        go_simp
        exact hK _ _ ⟨.bool false, by simp [measV, hG], by simp only [over, overL, Nat.reduceAdd, h25]; rfl, Below.refl _ _⟩
      | true =>
        have h31 := h31 hG
        rw [hG] at h25
        simp only [over, overL, Nat.reduceAdd, h25, h31]
        go_simp
        exact hK _ _ ⟨.bool c1, by simp [measV, hG], by simp only [over, overL, Nat.reduceAdd, h25, h31]; rfl, Below.refl _ _⟩
    · intro f w1 hb ⟨h32, _⟩ K hK
      have h32 : f 32 = _ := h32
      simp only [over, overL, Nat.reduceAdd, h32]
      go_simp
      exact hK _ _ ⟨_, rfl, by simp only [over, overL, Nat.reduceAdd, h32]; rfl, Below.refl _ _⟩
    · intro f w1 hb ⟨h33, _⟩
      have h33 : f 33 = _ := h33
      refine ⟨fun hg => ?_, fun hg => ?_⟩
      rotate_left
      · intro hG; exact absurd (h33.trans (by rw [hG])) hg
      have hG := Value.bool.inj (h33.symm.trans hg)
      intro K hK
      simp only [over, overL, Nat.reduceAdd, h33, hG]
      go_simp
      refine (within_is _ _ _).mono ?_
      rintro e w2 ⟨v, rfl, hv, hb2⟩
      exact hK _ _ ⟨_, (fun _ => hv), by simp only [over, overL, Nat.reduceAdd, h33, hG]; rfl, hb2⟩
    · intro f w1 hb ⟨h33, _⟩
      have h33 : f 33 = _ := h33
      refine ⟨fun hg => ?_, fun hg => ?_⟩
      rotate_left
      · intro hG; exact absurd (h33.trans (by rw [hG])) hg
      have hG := Value.bool.inj (h33.symm.trans hg)
      intro K hK
      simp only [over, overL, Nat.reduceAdd, h33, hG]
      go_simp
      exact hK _ _ ⟨_, (fun _ => rfl), by simp only [over, overL, Nat.reduceAdd, h33, hG]; rfl, Below.refl _ _⟩
    · intro f w1 hb ⟨h33, h35, _⟩
      have h33 : f 33 = _ := h33
      refine ⟨fun hg => ?_, fun hg => ?_⟩
      rotate_left
      · intro hG; exact absurd (h33.trans (by rw [hG])) hg
      have hG := Value.bool.inj (h33.symm.trans hg)
      intro K hK
      have h35 : f 35 = _ := h35 hG
      have cl : w1.cell? ⟨w.heap.size, 7, none⟩ = some (.int .i64 a.wid) := cell_later hb (cell_later hB (by go_simp))
      simp only [over, overL, Nat.reduceAdd, h33, h35, hG]
      go_simp
      exact hK _ _ ⟨_, (fun _ => rfl), by simp only [over, overL, Nat.reduceAdd, h33, h35, hG]; rfl, Below.refl _ _⟩
    · intro f w1 hb ⟨h33, _⟩
      have h33 : f 33 = _ := h33
      refine ⟨fun hg => ?_, fun hg => ?_⟩
      rotate_left
      · intro hG; exact absurd (h33.trans (by rw [hG])) hg
      have hG := Value.bool.inj (h33.symm.trans hg)
      intro K hK
      simp only [over, overL, Nat.reduceAdd, h33, hG]
      go_simp
      exact hK _ _ ⟨_, (fun _ => rfl), by simp only [over, overL, Nat.reduceAdd, h33, hG]; rfl, Below.refl _ _⟩
    · intro f w1 hb ⟨h33, h37, _⟩
      have h33 : f 33 = _ := h33
      refine ⟨fun hg => ?_, fun hg => ?_⟩
      rotate_left
      · intro hG; exact absurd (h33.trans (by rw [hG])) hg
      have hG := Value.bool.inj (h33.symm.trans hg)
      intro K hK
      have h37 : f 37 = _ := h37 hG
      have cl : w1.cell? ⟨w.heap.size, 8, none⟩ = some (.int .i64 a.len) := cell_later hb (cell_later hB (by go_simp))
      simp only [over, overL, Nat.reduceAdd, h33, h37, hG]
      go_simp
      exact hK _ _ ⟨_, (fun _ => rfl), by simp only [over, overL, Nat.reduceAdd, h33, h37, hG]; rfl, Below.refl _ _⟩
    · intro f w1 hb ⟨h33, _⟩
      have h33 : f 33 = _ := h33
      refine ⟨fun hg => ?_, fun hg => ?_⟩
      rotate_left
      · intro hG; exact absurd (h33.trans (by rw [hG])) hg
      have hG := Value.bool.inj (h33.symm.trans hg)
      intro K hK
      simp only [over, overL, Nat.reduceAdd, h33, hG]
      go_simp
      exact hK _ _ ⟨_, (fun _ => rfl), by simp only [over, overL, Nat.reduceAdd, h33, hG]; rfl, Below.refl _ _⟩
    · intro f w1 hb ⟨h33, h39, _⟩
      have h33 : f 33 = _ := h33
      refine ⟨fun hg => ?_, fun hg => ?_⟩
      rotate_left
      · intro hG; exact absurd (h33.trans (by rw [hG])) hg
      have hG := Value.bool.inj (h33.symm.trans hg)
      intro K hK
      have h39 : f 39 = _ := h39 hG
      have cl : w1.cell? ⟨w.heap.size, 9, none⟩ = some (.int .i64 a.hei) := cell_later hb (cell_later hB (by go_simp))
      simp only [over, overL, Nat.reduceAdd, h33, h39, hG]
      go_simp
      exact hK _ _ ⟨_, (fun _ => rfl), by simp only [over, overL, Nat.reduceAdd, h33, h39, hG]; rfl, Below.refl _ _⟩
    · intro f w1 hb ⟨h33, h36, h38, h40, _⟩
      have h33 : f 33 = _ := h33
      refine ⟨fun hg => ?_, fun hg => ?_⟩
      rotate_left
      · intro hG; exact absurd (h33.trans (by rw [hG])) hg
      have hG := Value.bool.inj (h33.symm.trans hg)
      intro K hK
      have h36 : f 36 = _ := h36 hG
      have h38 : f 38 = _ := h38 hG
      have h40 : f 40 = _ := h40 hG
      simp only [over, overL, Nat.reduceAdd, h33, h36, h38, h40, hG]
      go_simp
      exact hK _ _ ⟨_, (fun _ => new_three _ _ _ _ _), by simp only [over, overL, Nat.reduceAdd, h33, h36, h38, h40, hG]; rfl, (Below.refl _ _).alloc (Nat.le_refl _) _⟩
    · intro f w1 hb ⟨h33, h34, h41, _⟩
      have h33 : f 33 = _ := h33
      refine ⟨fun hg => ?_, fun hg => ?_⟩
      rotate_left
      · intro hG; exact absurd (h33.trans (by rw [hG])) hg
      have hG := Value.bool.inj (h33.symm.trans hg)
      intro K hK
      replace h34 := h34 hG
      replace h41 := h41 hG
      simp only [over, overL, Nat.reduceAdd, h33, hG]
      go_simp
      refine (every_v [a.wid, a.len, a.hei] 1 200000 c2 hc2 _ _ _ (by simp) h34 h41).mono ?_
      rintro e w2 ⟨rfl, hw⟩
      exact hK _ _ ⟨_, (fun _ => rfl), by simp only [over, overL, Nat.reduceAdd, h33, hG]; rfl, hw ▸ Below.refl _ _⟩
    · intro f w1 hb ⟨h33, h42, _⟩ K hK
      have h33 : f 33 = _ := h33
      have h42 : (b1 && c1) = true → f 42 = _ := h42
      cases hG : (b1 && c1) with
      | false =>
        rw [hG] at h33
        simp only [over, overL, Nat.reduceAdd, h33]
        go_simp
        exact hK _ _ ⟨.bool false, by simp [measV, hG], by simp only [over, overL, Nat.reduceAdd, h33]; rfl, Below.refl _ _⟩
      | true =>
        have h42 := h42 hG
        rw [hG] at h33
        simp only [over, overL, Nat.reduceAdd, h33, h42]
        go_simp
        exact hK _ _ ⟨.bool c2, by simp [measV, hG], by simp only [over, overL, Nat.reduceAdd, h33, h42]; rfl, Below.refl _ _⟩
    · intro f w1 hb ⟨h43, _⟩ K hK
      have h43 : f 43 = _ := h43
      simp only [over, overL, Nat.reduceAdd, h43]
      go_simp
      exact hK _ _ ⟨_, rfl, by simp only [over, overL, Nat.reduceAdd, h43]; rfl, Below.refl _ _⟩
    · intro f w1 hb ⟨h44, _⟩
      have h44 : f 44 = _ := h44
      refine ⟨fun hg => ?_, fun hg => ?_⟩
      rotate_left
      · intro hG; exact absurd (h44.trans (by rw [hG])) hg
      have hG := Value.bool.inj (h44.symm.trans hg)
      intro K hK
      simp only [over, overL, Nat.reduceAdd, h44, hG]
      go_simp
      exact hK _ _ ⟨_, (fun _ => ⟨_, _, rfl, cell_later hb hp0, cell_later hb hp1⟩), by simp only [over, overL, Nat.reduceAdd, h44, hG]; rfl, Below.refl _ _⟩
    · intro f w1 hb ⟨h44, _⟩
      have h44 : f 44 = _ := h44
      refine ⟨fun hg => ?_, fun hg => ?_⟩
      rotate_left
      · intro hG; exact absurd (h44.trans (by rw [hG])) hg
      have hG := Value.bool.inj (h44.symm.trans hg)
      intro K hK
      simp only [over, overL, Nat.reduceAdd, h44, hG]
      go_simp
      exact hK _ _ ⟨_, (fun _ => rfl), by simp only [over, overL, Nat.reduceAdd, h44, hG]; rfl, Below.refl _ _⟩
    · intro f w1 hb ⟨h44, h46, _⟩
      have h44 : f 44 = _ := h44
      refine ⟨fun hg => ?_, fun hg => ?_⟩
      rotate_left
      · intro hG; exact absurd (h44.trans (by rw [hG])) hg
      have hG := Value.bool.inj (h44.symm.trans hg)
      intro K hK
      have h46 : f 46 = _ := h46 hG
      have cl : w1.cell? ⟨w.heap.size, 11, none⟩ = some (.int .i64 a.cap) := cell_later hb (cell_later hB (by go_simp))
      simp only [over, overL, Nat.reduceAdd, h44, h46, hG]
      go_simp
      exact hK _ _ ⟨_, (fun _ => rfl), by simp only [over, overL, Nat.reduceAdd, h44, h46, hG]; rfl, Below.refl _ _⟩
    · intro f w1 hb ⟨h44, h47, _⟩
      have h44 : f 44 = _ := h44
      refine ⟨fun hg => ?_, fun hg => ?_⟩
      rotate_left
      · intro hG; exact absurd (h44.trans (by rw [hG])) hg
      have hG := Value.bool.inj (h44.symm.trans hg)
      intro K hK
      have h47 : f 47 = _ := h47 hG
      simp only [over, overL, Nat.reduceAdd, h44, h47, hG]
      go_simp
      exact hK _ _ ⟨_, (fun _ => new_one _ _ _), by simp only [over, overL, Nat.reduceAdd, h44, h47, hG]; rfl, (Below.refl _ _).alloc (Nat.le_refl _) _⟩
    · intro f w1 hb ⟨h44, h45, h48, _⟩
      have h44 : f 44 = _ := h44
      refine ⟨fun hg => ?_, fun hg => ?_⟩
      rotate_left
      · intro hG; exact absurd (h44.trans (by rw [hG])) hg
      have hG := Value.bool.inj (h44.symm.trans hg)
      intro K hK
      replace h45 := h45 hG
      replace h48 := h48 hG
      simp only [over, overL, Nat.reduceAdd, h44, hG]
      go_simp
      refine (every_v [a.cap] 0 0 c3 hc3 _ _ _ (by simp) h45 h48).mono ?_
      rintro e w2 ⟨rfl, hw⟩
      exact hK _ _ ⟨_, (fun _ => rfl), by simp only [over, overL, Nat.reduceAdd, h44, hG]; rfl, hw ▸ Below.refl _ _⟩
    · intro f w1 hb ⟨h44, h49, _⟩ K hK
      have h44 : f 44 = _ := h44
      have h49 : (b1 && c1 && c2) = true → f 49 = _ := h49
      cases hG : (b1 && c1 && c2) with
      | false =>
        rw [hG] at h44
        simp only [over, overL, Nat.reduceAdd, h44]
        go_simp
        exact hK _ _ ⟨.bool false, by simp [measV, hG], by simp only [over, overL, Nat.reduceAdd, h44]; rfl, Below.refl _ _⟩
      | true =>
        have h49 := h49 hG
        rw [hG] at h44
        simp only [over, overL, Nat.reduceAdd, h44, h49]
        go_simp
        exact hK _ _ ⟨.bool c3, by simp [measV, hG], by simp only [over, overL, Nat.reduceAdd, h44, h49]; rfl, Below.refl _ _⟩
    · intro f w1 hb ⟨h50, _⟩ K hK
      have h50 : f 50 = _ := h50
      simp only [over, overL, Nat.reduceAdd, h50]
      go_simp
      exact hK _ _ ⟨_, rfl, by simp only [over, overL, Nat.reduceAdd, h50]; rfl, Below.refl _ _⟩
  · intro f w1 hb h
    have h2 : f 2 = .bool (b1 && c1 && c2 && c3) := h.2.2.2.2.2.2.2.2.2.2.2.2.2.2.2.2.2.2.2.2.2.2.2.2.2.2.2.2.2.2.2.2.2.2.2.1
    simp only [over, overL, h2, Nat.reduceAdd]
    go_wp2
    go_ret
    exact ⟨rfl, ((Below.refl _ _).alloc (Nat.le_refl _) _).trans ((hB.mono (by simp)).trans (hb.mono (by have := hB.size; simp at this; omega)))⟩


end Go.Proofs.YtcajifelbldjnaaGreat
