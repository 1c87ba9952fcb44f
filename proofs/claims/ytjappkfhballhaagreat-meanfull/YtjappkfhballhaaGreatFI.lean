/- maps.Keys, slices.Sorted; fluid.Sorted walked. -/
import Derived.Test.YtjappkfhballhaaGreatFG
namespace Go.Proofs.YtjappkfhballhaaGreat.F
open Go.RowKit Go.Maps Go.WideMaps Go.Sort Go.Shelf

open Go.RowKit Go.Maps Go.Sort Go.Shelf

theorem Tryz.sorts146 (m : Nat) : AnyZ.SortsIn Tryz.prog Tryz.sorted146_ren Fence.wide m :=
  ⟨fun blk off cap ss W hH hblk hsz => callsIn_wide.2 (AnyM.slices_Sort_string Tryz.sort150 blk off cap ss W hH hblk hsz),
   fun p cap W => callsIn_wide.2 (AnyM.slices_Sort_string_none Tryz.sort150 p cap W)⟩

theorem Tryz.maps_Keys_147 (mb : Option Nat) (W : World) : CallsIn Fence.wide 5 Tryz.prog 147 #[.map mb] W fun e w' => e = .returned (.func (.func 151) #[] #[.pointer (some ⟨W.heap.size, 0, none⟩)]) ∧ w' = W.alloc (.cells #[.map mb] 172) :=
  AnyZ.keys_in Tryz.keys147 Fence.wide 5 trivial rfl mb W

set_option maxHeartbeats 1000000 in
theorem Tryz.slices_Sorted_keys_146_147 {H : Type} (b nn : Nat) (D0 : DataW H) (R : Value → Option (DataW H × List MemPlace)) (w : World) (hown : w.ownsMap Tryz.prog 9 R b nn D0) (hmax : Maps.size D0 ≤ maxLen) (hbytes : Maps.size D0 * 16 ≤ 140737488355328) :
    CallsIn Fence.wide 5 Tryz.prog 146 #[.func (.func 151) #[] #[.pointer (some ⟨w.heap.size, 0, none⟩)]] (w.alloc (.cells #[.map (some b)] 172)) fun e w' => ∃ (v : Value) (ss : List (List UInt8)), e = .returned v ∧ ss.Perm (strKeys D0) ∧
      w'.ownsRow (w.alloc (.cells #[.map (some b)] 172)).heap.size 9 1 v ss.length ((ss.mergeSort (fun x y => decide (x ≤ y))).map encStr) ∧ (v = .slice none 0 0 ↔ ss = []) ∧ Below (w.alloc (.cells #[.map (some b)] 172)).heap.size (w.alloc (.cells #[.map (some b)] 172)) w' := by
  have hbl := hown.lt
  have hseq : SeqGives Fence.wide 2 Tryz.prog 151 #[.pointer (some ⟨w.heap.size, 0, none⟩)] encStr (fun ss => ss.Perm (strKeys D0)) (Maps.size D0) (w.alloc (.cells #[.map (some b)] 172)) :=
    AnyZ.keys_gives (ρ := Tryz.keys147_ren) { Tryz.keys147 with } Fence.wide _ trivial rfl (by omega) w.heap.size b nn D0 _ (by simp) (by simp) (by
      obtain ⟨es, clock, hb, Ft, hs, hD⟩ := hown
      exact ⟨es, clock, (Below.heap_alloc _ _ b hbl).trans hb, Ft, hs, hD⟩)
  exact AnyZ.sorted_in Tryz.sorted146 Fence.wide 5 trivial trivial trivial trivial rfl (by omega) (Tryz.sorts146 _) (enters_of Tryz.func150 (by kernel_rfl) rfl) 151 #[.pointer (some ⟨w.heap.size, 0, none⟩)] trivial (enters_of Tryz.func151 (by kernel_rfl) rfl) _ _ hmax hbytes _ hseq


/-- maps.Keys: a function value over one new block, which holds the map. -/
theorem keysOf_any (b : Nat) (w : World) : Calls Tryz.prog 147 #[.map (some b)] w fun e w' => e = .returned (.func (.func 151) #[] #[.pointer (some ⟨w.heap.size, 0, none⟩)]) ∧ w' = w.alloc (.cells #[.map (some b)] 172) :=
  callsIn_wide.1 (Tryz.maps_Keys_147 (some b) w)
open Go.RowKit Go.Maps Go.WideMaps

/-- A slice of texts, in memory. -/
def Txt (w : World) (ao : Option Addr) (K : List (List UInt8)) : Prop := K = [] ∨ ∃ g, ao = some ⟨g, 0, none⟩ ∧ g < w.heap.size ∧ ∀ k (h : k < K.length), w.cell? ⟨g, k, none⟩ = some (.string ⟨(K[k]'h).toArray⟩)
theorem Txt.next {w w1 : World} {ao : Option Addr} {K : List (List UInt8)} (h : Txt w ao K) (hb : Below w.heap.size w w1) : Txt w1 ao K := by
  rcases h with h | ⟨g, e, hg, hc⟩
  · exact .inl h
  · exact .inr ⟨g, e, Nat.lt_of_lt_of_le hg hb.size, fun k hk => (hb.cell (p := ⟨g, k, none⟩) hg).trans (hc k hk)⟩
theorem Txt.at {w : World} {ao : Option Addr} {K : List (List UInt8)} (h : Txt w ao K) {k : Nat} (hk : k < K.length) : ∃ g, ao = some ⟨g, 0, none⟩ ∧ g < w.heap.size ∧ w.cell? ⟨g, k, none⟩ = some (.string ⟨(K[k]'hk).toArray⟩) := by
  rcases h with rfl | ⟨g, e, hg, hc⟩
  · exact absurd hk (Nat.not_lt_zero _)
  · exact ⟨g, e, hg, hc k hk⟩
theorem txt_of {w : World} {base : Nat} {v : Value} {K : List (List UInt8)} {n : Nat} (hn : n = K.length) (h : w.ownsRow base 9 1 v n (K.map encStr)) : ∃ ao cap, v = .slice ao K.length cap ∧ Txt w ao K := by
  subst hn
  rcases h.2 with ⟨h1, h2⟩ | ⟨g, cap, cur, h1, h2, h3, h4⟩
  · exact ⟨none, 0, by rw [h1, h2], .inl (List.eq_nil_of_length_eq_zero h2)⟩
  · subst h1
    refine ⟨some ⟨g, 0, none⟩, cap, rfl, .inr ⟨g, rfl, (Array.getElem?_eq_some_iff.1 h3).1, fun k hk => ?_⟩⟩
    rw [World.ownsRow.cellAt h k (by omega), List.getElem?_map, List.getElem?_eq_getElem hk]
    rfl

set_option maxHeartbeats 1600000 in
theorem sorted_ok (ao : Option Addr) (cap : Nat) (ps : List Pc) (w : World) (h : Fl w ao ps) (hr : fref ps = 0) :
    Calls Tryz.prog 140 #[.slice ao ps.length cap] w fun e w' => ∃ v S, e = .returned (.tuple #[v, .int .i64 0]) ∧ Srt ps S ∧ S.length ≤ ps.length ∧ Own w' w.heap.size v S ∧ Below w.heap.size w w' := by
  have HF : Hid (Fl w ao ps) := h
  have HR : Hid (fref ps = 0) := hr
  have HI : Hid (ps.length ≤ 100 ∧ Fine ps ∧ tot ps ≤ 1000000000) := fref_in hr
  have hl := HI.out.1
  clear h hr
  go_enter Tryz.func140, Tryz.ntmps140
  go_wp2_with fail
  refine (refusal1 ao cap ps w HF.out).mono ?_
  rintro e w1 ⟨rfl, hb⟩
  rw [HR.out]
  have HB : Hid (Below w.heap.size w w1) := hb
  clear hb
  go_wp2_with fail
  refine (volumes_any ao cap ps w1 (HF.out.next HB.out) HR.out).mono ?_
  rintro e w2 ⟨rfl, hV, hb⟩
  have HB2 : Hid (Below w.heap.size w w2) := HB.out.trans (hb.mono HB.out.size)
  obtain ⟨D, hD, hVo⟩ := hV
  have HD : Hid (w2.ownsMap Tryz.prog 9 (plainElem Tryz.prog 3) w1.heap.size ps.length D) := hD
  have HVo : Hid (Vols D ps) := hVo
  have HK : Hid ((strKeys D).Nodup ∧ (∀ x, x ∈ strKeys D ↔ has D (.string x) = true) ∧ (strKeys D).length ≤ ps.length ∧ Maps.size D ≤ ps.length) := keys_spec hD
  clear hb hD hVo
  go_wp2_with fail
  refine (keysOf_any w1.heap.size w2).mono ?_
  rintro e w3 ⟨rfl, rfl⟩
  go_wp2_with fail
  refine (callsIn_wide.1 (Tryz.slices_Sorted_keys_146_147 w1.heap.size ps.length D (plainElem Tryz.prog 3) w2 HD.out (by have := HK.out.2.2.2; unfold maxLen; omega) (by have := HK.out.2.2.2; omega))).mono ?_
  rintro e w4 ⟨kv, ss, rfl, hperm, hrow, hnil, hb⟩
  have hsl : ss.length = (ss.mergeSort (fun x y => decide (x ≤ y))).length := (List.length_mergeSort ss).symm
  have HS : Hid (Srt ps ((ss.mergeSort (fun x y => decide (x ≤ y))).map (pcOf ps))) := sorted_keys HVo.out HK.out.1 HK.out.2.1 hperm
  have hkl : (ss.mergeSort (fun x y => decide (x ≤ y))).length ≤ ps.length := by rw [← hsl, hperm.length_eq]; exact HK.out.2.2.1
  have hkb : ∀ k ∈ ss.mergeSort (fun x y => decide (x ≤ y)), k.length ≤ maxLen := fun k hk => strKeys_le HD.out Tryz.underlying9 k (((List.mergeSort_perm ss _).trans hperm).mem_iff.1 hk)
  clear hnil
  obtain ⟨ak, ck, rfl, htx⟩ := txt_of hsl hrow
  generalize ss.mergeSort (fun x y => decide (x ≤ y)) = K at *
  have HKB : Hid (∀ k ∈ K, k.length ≤ maxLen) := hkb
  have HTx : Hid (Txt w4 ak K) := htx
  have HB4 : Hid (Below w2.heap.size w2 w4) := ((Below.refl _ _).alloc (Nat.le_refl _) _).trans (hb.mono (by simp))
  have HB5 : Hid (Below w.heap.size w w4) := HB2.out.trans (HB4.out.mono HB2.out.size)
  have HV4 : Hid (w4.ownsMap Tryz.prog 9 (plainElem Tryz.prog 3) w1.heap.size ps.length D) := by
    obtain ⟨es, clock, h1, h2⟩ := HD.out
    exact ⟨es, clock, (HB4.out.block _ (Array.getElem?_eq_some_iff.1 h1).1).trans h1, h2⟩
  clear hperm hrow hb hsl htx hkb HD HK
  go_wp2
  go_loopw [6, 21] (fun v i wr => ∃ m : Nat, m ≤ K.length ∧ i = .int .i64 m ∧ Own wr w4.heap.size v ((K.take m).map (pcOf ps)) ∧ Below w4.heap.size w4 wr) (fun _ i _ => K.length - (intOf i).toNat)
  case atStart => exact ⟨0, Nat.zero_le _, rfl, Own.nil _ _, Below.refl _ _⟩
  case round =>
    obtain ⟨m, hm, rfl, hown, hb⟩ := hrel
    obtain ⟨a6, n6, c6, rfl⟩ := hown.form
    have HO : Hid (Own wr w4.heap.size (.slice a6 n6 c6) ((K.take m).map (pcOf ps))) := hown
    have HB6 : Hid (Below w4.heap.size w4 wr) := hb
    clear hown hb
    by_cases hlt : m < K.length
    · obtain ⟨g, rfl, hg, c0⟩ := (HTx.out.next HB6.out).at hlt
      have HT : Hid ((K.take (m + 1)).map (pcOf ps) = (K.take m).map (pcOf ps) ++ [pcOf ps (K[m]'hlt)]) := by
        rw [List.take_succ_eq_append_getElem hlt, List.map_append]; rfl
      have hkl2 := HKB.out _ (List.getElem_mem hlt)
      obtain ⟨l, hl2⟩ : ∃ l, K[m]'hlt = l := ⟨_, rfl⟩
      rw [hl2] at c0 HT hkl2
      clear hl2
      obtain ⟨s, hs⟩ : ∃ s : ByteArray, s = ⟨l.toArray⟩ := ⟨_, rfl⟩
      have hsd : s.data.toList = l := by rw [hs]
      have HP : Hid (pcOf ps l = (s, sumL ps s.data.toList)) := by rw [hsd]; unfold pcOf; rw [hs]; rfl
      have hsz : s.size ≤ maxLen := by rw [hs]; simpa [ByteArray.size] using hkl2
      rw [← hs] at c0
      clear hs hsd hkl2
      have hso := sumL_in HI.out.2.1.nn s.data.toList
      have ht9 := HI.out.2.2
      have HAt : Hid (D.atKey (.string s.data.toList) (.lit (.int .i64 0)) = .lit (.int .i64 (sumL ps s.data.toList))) := HVo.out.2.1 _
      have HMr : Hid (wr.ownsMap Tryz.prog 9 (plainElem Tryz.prog 3) w1.heap.size ps.length D) := by
        obtain ⟨es, clock, h1, h2⟩ := HV4.out
        exact ⟨es, clock, (HB6.out.block _ (Array.getElem?_eq_some_iff.1 h1).1).trans h1, h2⟩
      have hws := HB6.out.size
      have hlm : ((K.take m).map (pcOf ps)).length ≤ 100 := by rw [List.length_map, List.length_take]; omega
      generalize sumL ps s.data.toList = Sm at *
      go_wp2_with (first | (at_lookup; refine wpList_lookup_own_int _ rfl (.tmp 27) (.tmp 28) 172 rfl 9 3 .i64 law Tryz.underlying172 Tryz.underlying3 (zero3 _) w1.heap.size ps.length D rfl HMr.out (.string s) (.string s.data.toList) rfl (keyOf_string_mk Tryz.underlying9 hsz) ?_; intro c hat hwc; obtain rfl : Sm = c := (by have h := HAt.out.symm.trans hat; simpa using h); clear hat hwc) | (at_builtin; refine wpList_append_pc _ rfl (.tmp 25) (.tmp 31) rfl w4.heap.size (.slice a6 n6 c6) ((K.take m).map (pcOf ps)) rfl (HO.out.alloc _) wr.heap.size s Sm rfl (by go_simp) (by go_simp) (by omega) (by simp; omega) ?_; intro v' w7 ho hg7 _))
      have HO3 : Hid (Own w7 w4.heap.size v' ((K.take (m + 1)).map (pcOf ps))) := by rw [HT.out, HP.out]; exact ho
      have HB7 : Hid (Below w4.heap.size w4 w7) := below_grown (v := .slice a6 n6 c6) (HB6.out.alloc hws _) (HO.out.alloc _) hg7 (by simp; omega)
      clear ho hg7
      go_wp2
      go_roundw
      case rel => exact ⟨m + 1, by omega, by go_num, HO3.out, HB7.out⟩
      case measure => simp [intOf]; omega
    · have e : K.take m = K := List.take_of_length_le (by omega)
      rw [e] at HO
      clear e
      go_wp2
      go_ret2
      exact ⟨.slice a6 n6 c6, K.map (pcOf ps), rfl, HS.out, by rw [List.length_map]; exact hkl, own_base HO.out HB5.out.size, HB5.out.trans (HB6.out.mono HB5.out.size)⟩

set_option maxHeartbeats 800000 in
theorem sorted_no (ao : Option Addr) (cap : Nat) (ps : List Pc) (w : World) (h : Fl w ao ps) (hr : fref ps ≠ 0) :
    Calls Tryz.prog 140 #[.slice ao ps.length cap] w fun e w' => e = .returned (.tuple #[.slice none 0 0, .int .i64 (fref ps)]) ∧ Below w.heap.size w w' := by
  have HF : Hid (Fl w ao ps) := h
  have hne : (fref ps == 0) = false := by simp [hr]
  have hne2 : (fref ps != 0) = true := by simp [hr]
  clear hr h
  go_enter Tryz.func140, Tryz.ntmps140
  go_wp2_with fail
  refine (refusal1 ao cap ps w HF.out).mono ?_
  rintro e w1 ⟨rfl, hb⟩
  go_wp2
  go_ret2
  exact ⟨rfl, hb⟩

end Go.Proofs.YtjappkfhballhaaGreat.F
