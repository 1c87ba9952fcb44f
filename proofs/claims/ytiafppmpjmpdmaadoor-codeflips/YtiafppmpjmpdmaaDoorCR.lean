/- The law CodeFlips. -/
import Derived.Test.YtiafppmpjmpdmaaDoorCM
import Derived.Test.YtiafppmpjmpdmaaDoorCH
import Derived.Laws.IdiomStrings
import Derived.Lib.ConvBytes
namespace Go.Proofs.YtiafppmpjmpdmaaDoor
open Go.RowKit Go.Shelf

/-- Which of n things a raw number speaks of. -/
def pick (n of : Int) : Int := (if n < 0 then -(n + 1) else n) % of
set_option maxHeartbeats 400000 in
theorem picked_any (n m : Int) (w : World) (h0 : -9223372036854775808 ≤ n) (h1 : n ≤ 9223372036854775807) (hm : 0 < m) :
    Calls Tryd.prog 15 #[.int .i64 n, .int .i64 m] w fun e w' => e = .returned (.int .i64 (pick n m)) ∧ w' = w := by
  have hmz : (m == 0) = false := by simp; omega
  by_cases hn : n < 0
  · have e : pick n m = -(n + 1) % m := by unfold pick; rw [if_pos hn]
    rw [e]; clear e
    have hp : 0 ≤ -(n + 1) := by omega
    go_enter Tryd.func15, Tryd.ntmps15
    go_wp2
    go_ret
    exact ⟨ret_int (by rw [← Int.tmod_eq_emod_of_nonneg hp, Int.neg_tmod]), rfl⟩
  · have e : pick n m = n % m := by unfold pick; rw [if_neg hn]
    rw [e]; clear e
    go_enter Tryd.func15, Tryd.ntmps15
    go_wp2
    go_ret
    exact ⟨rfl, rfl⟩
theorem pick_in (n : Int) {m : Int} (hm : 0 < m) : 0 ≤ pick n m ∧ pick n m < m := by
  unfold pick
  exact ⟨Int.emod_nonneg _ (by omega), Int.emod_lt_of_pos _ hm⟩

/-! ### a text as bytes, and back -/
theorem frozen_bytes (w : World) (s : ByteArray) (j : Nat) (hj : j < s.size) : (Lib.bytesWorld w 5 s).frozen? ⟨w.heap.size, j, none⟩ = false := by
  simp [World.frozen?, Lib.bytesWorld_at_new, Lib.bytesCells]
  omega
theorem to_bytes (L : List UInt8) (w : World) : (convert 9 37 (sA L)).run Tryd.prog w = .ok (.slice (some ⟨w.heap.size, 0, none⟩) L.length (grownCap w L.length 0 5)) (Lib.bytesWorld w 5 ⟨L.toArray⟩) :=
  Lib.run_convert_string_bytes w 9 37 5 ⟨L.toArray⟩ Tryd.underlying9 Tryd.underlying37 Tryd.underlying5
/-- Bytes in a block. -/
def Bts (G : Nat) (L : List UInt8) (w : World) : Prop := ∀ j (h : j < L.length), w.cell? ⟨G, j, none⟩ = some (.int .u8 (L[j].toNat : Int)) ∧ w.frozen? ⟨G, j, none⟩ = false
theorem bts_new (L : List UInt8) (w : World) : Bts w.heap.size L (Lib.bytesWorld w 5 ⟨L.toArray⟩) := fun j h => by
  refine ⟨?_, frozen_bytes w ⟨L.toArray⟩ j (by simpa [ByteArray.size] using h)⟩
  rw [Lib.bytesWorld_cell w 5 ⟨L.toArray⟩ j (by simpa [ByteArray.size] using h)]
  simp [List.getD, h]
theorem of_bytes (L : List UInt8) (G cap : Nat) (w : World) (h : Bts G L w) : (convert 37 9 (.slice (some ⟨G, 0, none⟩) L.length cap)).run Tryd.prog w = .ok (sA L) w :=
  run_convert_bytes_back w 37 9 5 ⟨G, 0, none⟩ cap L Tryd.underlying37 Tryd.underlying5 Tryd.underlying9 (fun j hj => by
    have := (h j hj).1
    by_cases e : j = 0
    · subst e; simpa [Addr.add] using this
    · simpa [Addr.add, e] using this)
theorem Bts.later {G : Nat} {L : List UInt8} {w w' : World} (h : Bts G L w) (hG : G < w.heap.size) (hb : Below w.heap.size w w') : Bts G L w' := fun j hj => ⟨(hb.cell (p := ⟨G, j, none⟩) hG).trans (h j hj).1, (hb.frozen (p := ⟨G, j, none⟩) hG).trans (h j hj).2⟩
theorem Bts.put {G : Nat} {L : List UInt8} {w : World} (h : Bts G L w) {q : Nat} (x : UInt8) (hq : q < L.length) : Bts G (L.set q x) (w.setCell ⟨G, q, none⟩ (.int .u8 (x.toNat : Int))) := fun j hj => by
  rw [List.length_set] at hj
  refine ⟨?_, (World.frozen?_setCell _ _ _ _).trans (h j hj).2⟩
  by_cases e : q = j
  · subst e
    rw [World.cell?_setCell_same _ _ _ (h q hq).1]
    simp
  · rw [World.cell?_setCell_other _ _ _ _ (fun h2 => e (congrArg Addr.off h2)), (h j hj).1]
    simp [List.getElem_set_ne e]
/-- A line with one bit turned is not parsed. -/
theorem flip_parse {n : Int} {k : Nat} {x y z u : Int} {q : Nat} {m : UInt8} (hm : m ∈ bitsB) (hq : q < (lineL n k x y z u).length) : parE ((lineL n k x y z u).set q ((lineL n k x y z u)[q] ^^^ m)) ≠ 0 := by
  intro h
  have h1 := (parse_only h).2
  have e1 : lineL n k x y z u = (lineL n k x y z u).take q ++ (lineL n k x y z u)[q] :: (lineL n k x y z u).drop (q + 1) := by
    rw [← List.drop_eq_getElem_cons hq, List.take_append_drop]
  have e2 : (lineL n k x y z u).set q ((lineL n k x y z u)[q] ^^^ m) = (lineL n k x y z u).take q ++ ((lineL n k x y z u)[q] ^^^ m) :: (lineL n k x y z u).drop (q + 1) := by
    rw [List.set_eq_take_append_cons_drop, if_pos hq]
  rw [e2] at h1
  rw [← e2] at h1
  exact flip_no hm e1 (h1.symm.trans e2)
/-- The bit of a number. -/
def bitOf (j : Nat) : UInt8 := UInt8.ofNat (2 ^ j)
theorem v52 {kk q j : Nat} (h : kk = 8 * q + j ∧ j < 8) (hq : q < 100) : Value.int .i64 (IntKind.i64.wrap ((kk : Int) / 8)) = .int .i64 (q : Nat) := by
  have e : (kk : Int) / 8 = q := by omega
  rw [e, wrap_in (by omega) (by omega)]
theorem v56 {kk q j : Nat} (h : kk = 8 * q + j ∧ j < 8) : Value.int .i64 ((kk : Int).tmod 8) = .int .i64 (j : Nat) := by
  rw [Int.tmod_eq_emod_of_nonneg (by omega)]
  congr 1
  omega
theorem v57 : ∀ j, j < 8 → Value.int .u8 (IntKind.u8.wrap (2 ^ min j 8)) = .int .u8 ((bitOf j).toNat : Int) := by
  intro j hj
  rcases (show j = 0 ∨ j = 1 ∨ j = 2 ∨ j = 3 ∨ j = 4 ∨ j = 5 ∨ j = 6 ∨ j = 7 by omega) with e | e | e | e | e | e | e | e
  all_goals (subst e; kernel_rfl)
theorem bitOf_in : ∀ j, j < 8 → bitOf j ∈ bitsB := by decide
set_option linter.unusedVariables false in
def fl9V (G cap kk q j : Nat) (a x0 : UInt8) (L : List UInt8) (d : Nat) (v : Value) (_ : World) : Prop :=
  match d with
  | 50 => v = .slice (some ⟨G, 0, none⟩) L.length cap
  | 51 => v = .int .i64 (kk : Nat)
  | 52 => v = .int .i64 (q : Nat)
  | 53 => v = .pointer (some ⟨G, q, none⟩)
  | 54 => v = .int .u8 (a.toNat : Int)
  | 55 => v = .int .i64 (kk : Nat)
  | 56 => v = .int .i64 (j : Nat)
  | 57 => v = .int .u8 ((bitOf j).toNat : Int)
  | 58 => v = .int .u8 (x0.toNat : Int)
  | 59 => v = .pointer (some ⟨G, q, none⟩)
  | _ => True
set_option linter.unusedVariables false in
theorem fl9V_mono (G cap kk q j : Nat) (a x0 : UInt8) (L : List UInt8) (d : Nat) (v : Value) (w w' : World) (h : fl9V G cap kk q j a x0 L d v w) (_ : Below w.heap.size w w') : fl9V G cap kk q j a x0 L d v w' := h
set_option maxHeartbeats 6400000 in
set_option maxRecDepth 100000 in
theorem flips_ok (n : Int) (k : Nat) (x y z u bit : Int) (w : World) (hr : refuC n k x y z u = 0) (h0 : -9223372036854775808 ≤ bit) (h1 : bit ≤ 9223372036854775807) (hT : Tall w) : Calls Tryd.prog 5 #[cm k x y z u, .int .i64 n, .int .i64 bit] w fun e w' => e = .returned (.bool true) ∧ Below w.heap.size w w' := by
  obtain ⟨hF, k1, k8⟩ := refu_fit hr
  have hlen := line_len (k := k) hF
  have hlong := line_long (k := k) hF (by omega) (by omega)
  have HP : Hid (∀ W, Tabs W → Calls Tryd.prog 8 #[.int .i64 n, cm k x y z u] W fun e w' => e = .returned (.tuple #[sA (lineL n k x y z u), .int .i64 0]) ∧ Below W.heap.size W w') := fun W h => by
    have := print_any n k x y z u W h
    rw [prL_ok hr, hr, show (k : Int).toNat = k by omega] at this
    exact this
  have HFl : Hid (∀ q m (hq : q < (lineL n k x y z u).length), m ∈ bitsB → parE ((lineL n k x y z u).set q ((lineL n k x y z u)[q] ^^^ m)) ≠ 0) := fun q m hq hm => flip_parse hm hq
  have HB0 : Hid (Below w.heap.size w (w.alloc (o5 k x y z u))) := (Below.refl _ _).alloc (Nat.le_refl _) _
  have HT0 : Hid (Tall (w.alloc (o5 k x y z u))) := hT.later HB0.out
  generalize lineL n k x y z u = L at *
  have hm0 : (0 : Int) < 8 * (L.length : Int) := by omega
  have HPk : Hid (∀ W, Calls Tryd.prog 15 #[.int .i64 bit, .int .i64 (8 * (L.length : Int))] W fun e w' => e = .returned (.int .i64 (pick bit (8 * (L.length : Int)))) ∧ w' = W) := fun W => picked_any bit _ W h0 h1 hm0
  have HPi : Hid (0 ≤ pick bit (8 * (L.length : Int)) ∧ pick bit (8 * (L.length : Int)) < 8 * (L.length : Int)) := pick_in bit hm0
  generalize pick bit (8 * (L.length : Int)) = pk at *
  obtain ⟨kk, rfl⟩ := Int.eq_ofNat_of_zero_le HPi.out.1
  have HQ : Hid (kk / 8 < L.length) := by have := HPi.out.2; show kk / 8 < L.length; omega
  have hcv := to_bytes L
  clear hr hF hT k1 k8 h0 h1 hm0 HPi
  go_enter Tryd.func5, Tryd.ntmps5
  go_wp2_with fail
  generalize w.alloc (o5 k x y z u) = w0 at *
  refine (HP.out _ HT0.out.tabs).mono ?_
  rintro e w1 ⟨rfl, hb⟩
  have HT1 : Hid (Tall w1) := HT0.out.later hb
  have HB1 : Hid (Below w.heap.size w w1) := HB0.out.trans (hb.mono HB0.out.size)
  clear hb HT0 HB0 HP
  go_wp2_with fail
  have HW : Hid (Bts w1.heap.size L (Lib.bytesWorld w1 5 ⟨L.toArray⟩)) := bts_new L w1
  have HWB : Hid (Below w1.heap.size w1 (Lib.bytesWorld w1 5 ⟨L.toArray⟩)) := Lib.bytesWorld_below w1 5 ⟨L.toArray⟩
  have HWS : Hid ((Lib.bytesWorld w1 5 ⟨L.toArray⟩).heap.size = w1.heap.size + 1) := Lib.bytesWorld_size w1 5 ⟨L.toArray⟩
  generalize Lib.bytesWorld w1 5 ⟨L.toArray⟩ = w2 at *
  generalize grownCap w1 L.length 0 5 = cap at *
  clear hcv
  refine (HPk.out _).mono ?_
  rintro e w3 ⟨rfl, hw⟩
  subst hw
  have HT3 : Hid (Tall w3) := HT1.out.later HWB.out
  have HB3 : Hid (Below w.heap.size w w3) := HB1.out.trans (HWB.out.mono HB1.out.size)
  obtain ⟨G, hG0⟩ : ∃ G, G = w1.heap.size := ⟨_, rfl⟩
  rw [← hG0] at HW
  have hG : G < w3.heap.size := by rw [HWS.out]; omega
  have hwG : w.heap.size ≤ G := by rw [hG0]; exact HB1.out.size
  have hG9 : 9 ≤ G := by rw [hG0]; exact HT1.out.tabs.size
  simp only [← hG0]
  clear hG0 HWB HWS HT1 HB1 HPk
  obtain ⟨q, hq⟩ : ∃ q, q = kk / 8 := ⟨_, rfl⟩
  obtain ⟨j, hj⟩ : ∃ j, j = kk % 8 := ⟨_, rfl⟩
  rw [← hq] at HQ
  have HKQ : Hid (kk = 8 * q + j ∧ j < 8) := (show Hid _ from ⟨by omega, by omega⟩)
  clear hq hj
  obtain ⟨a, ha⟩ : ∃ a, a = L[q]'HQ.out := ⟨_, rfl⟩
  have HCq : Hid (w3.cell? ⟨G, q, none⟩ = some (.int .u8 (a.toNat : Int))) := by show _ = _; rw [ha]; exact (HW.out q HQ.out).1
  have HFq : Hid (w3.frozen? ⟨G, q, none⟩ = false) := (HW.out q HQ.out).2
  have HFz : Hid (parE (L.set q (a ^^^ bitOf j)) ≠ 0) := by show _ ≠ _; rw [ha]; exact HFl.out q (bitOf j) HQ.out (bitOf_in j HKQ.out.2)
  obtain ⟨x0, hx0⟩ : ∃ x0, x0 = a ^^^ bitOf j := ⟨_, rfl⟩
  have HX0 : Hid (x0 = a ^^^ bitOf j) := hx0
  rw [← hx0] at HFz
  clear HFl ha hx0
  go_wp2_with fail
  refine region_seq 10 [false, false, false, false, false, false, false, false, false, false, false, false, false, false, false, false, false, false, false, false, false, false, false, false, false, false, false, false, false, false, false, false, false, false, false, false, false, false, false, false, false, false, false, false, false, false, false, false, false, false, true, true, true, true, true, true, true, true, true, true, false, false, false, false, false, false, false, false, false, false, false, false, false, false]
    [(50, [], none), (51, [], none), (52, [51], none), (53, [50, 52], none), (54, [53], none), (55, [], none), (56, [55], none), (57, [56], none), (58, [54, 57], none), (59, [50, 52], none)]
    (fl9V G cap kk q j a x0 L) (by kernel_rfl) (by kernel_rfl) (by kernel_rfl) (by kernel_rfl) (by kernel_rfl) (by decide) (fl9V_mono G cap kk q j a x0 L) ?_ ?_
  · refine ⟨?_, ?_, ?_, ?_, ?_, ?_, ?_, ?_, ?_, ?_, trivial⟩
    · intro f w1 hb _ K hK
      simp only [over, overL, Nat.reduceAdd]
      go_simp
      exact hK _ _ ⟨_, rfl, by simp only [over, overL, Nat.reduceAdd]; rfl, Below.refl _ _⟩
    · intro f w1 hb _ K hK
      simp only [over, overL, Nat.reduceAdd]
      go_simp
      exact hK _ _ ⟨_, rfl, by simp only [over, overL, Nat.reduceAdd]; rfl, Below.refl _ _⟩
    · intro f w1 hb ⟨h51, _⟩ K hK
      replace h51 : f 51 = _ := h51
      simp only [over, overL, Nat.reduceAdd, h51]
      go_simp
      exact hK _ _ ⟨_, v52 HKQ.out (Nat.lt_of_lt_of_le HQ.out hlen), by simp only [over, overL, Nat.reduceAdd, h51]; rfl, Below.refl _ _⟩
    · intro f w1 hb ⟨h50, h52, _⟩ K hK
      replace h50 : f 50 = _ := h50
      replace h52 : f 52 = _ := h52
      have ql := HQ.out
      simp only [over, overL, Nat.reduceAdd, h50, h52]
      go_simp
      exact hK _ _ ⟨_, rfl, by simp only [over, overL, Nat.reduceAdd, h50, h52]; rfl, Below.refl _ _⟩
    · intro f w1 hb ⟨h53, _⟩ K hK
      replace h53 : f 53 = _ := h53
      have cq := (hb.cell (p := ⟨G, q, none⟩) hG).trans HCq.out
      simp only [over, overL, Nat.reduceAdd, h53]
      go_simp
      exact hK _ _ ⟨_, rfl, by simp only [over, overL, Nat.reduceAdd, h53]; rfl, Below.refl _ _⟩
    · intro f w1 hb _ K hK
      simp only [over, overL, Nat.reduceAdd]
      go_simp
      exact hK _ _ ⟨_, rfl, by simp only [over, overL, Nat.reduceAdd]; rfl, Below.refl _ _⟩
    · intro f w1 hb ⟨h55, _⟩ K hK
      replace h55 : f 55 = _ := h55
      simp only [over, overL, Nat.reduceAdd, h55]
      go_simp
      exact hK _ _ ⟨_, v56 HKQ.out, by simp only [over, overL, Nat.reduceAdd, h55]; rfl, Below.refl _ _⟩
    · intro f w1 hb ⟨h56, _⟩ K hK
      replace h56 : f 56 = _ := h56
      simp only [over, overL, Nat.reduceAdd, h56]
      go_simp
      exact hK _ _ ⟨_, v57 _ HKQ.out.2, by simp only [over, overL, Nat.reduceAdd, h56]; rfl, Below.refl _ _⟩
    · intro f w1 hb ⟨h54, h57, _⟩ K hK
      replace h54 : f 54 = _ := h54
      replace h57 : f 57 = _ := h57
      simp only [over, overL, Nat.reduceAdd, h54, h57]
      go_simp
      exact hK _ _ ⟨_, congrArg (Value.int .u8) ((xor_u8 _ _).trans (by rw [HX0.out])), by simp only [over, overL, Nat.reduceAdd, h54, h57]; rfl, Below.refl _ _⟩
    · intro f w1 hb ⟨h50, h52, _⟩ K hK
      replace h50 : f 50 = _ := h50
      replace h52 : f 52 = _ := h52
      have ql := HQ.out
      simp only [over, overL, Nat.reduceAdd, h50, h52]
      go_simp
      exact hK _ _ ⟨_, rfl, by simp only [over, overL, Nat.reduceAdd, h50, h52]; rfl, Below.refl _ _⟩
  intro f w4 hb hv
  have h58 : f 58 = .int .u8 (x0.toNat : Int) := hv.2.2.2.2.2.2.2.2.1
  have h59 : f 59 = .pointer (some ⟨G, q, none⟩) := hv.2.2.2.2.2.2.2.2.2.1
  have c0 := (hb.cell (p := ⟨G, q, none⟩) hG).trans HCq.out
  have f0 := (hb.frozen (p := ⟨G, q, none⟩) hG).trans HFq.out
  have HW4 : Hid (Bts G (L.set q x0) (w4.setCell ⟨G, q, none⟩ (.int .u8 (x0.toNat : Int)))) := (HW.out.later hG hb).put _ HQ.out
  have hcv2 : (convert 37 9 (.slice (some ⟨G, 0, none⟩) L.length cap)).run Tryd.prog (w4.setCell ⟨G, q, none⟩ (.int .u8 (x0.toNat : Int))) = .ok (sA (L.set q x0)) (w4.setCell ⟨G, q, none⟩ (.int .u8 (x0.toNat : Int))) := by
    have := of_bytes _ G cap _ HW4.out
    rwa [List.length_set] at this
  have HT4 : Hid (Tall (w4.setCell ⟨G, q, none⟩ (.int .u8 (x0.toNat : Int)))) := (HT3.out.later hb).kept (Kpt.set (M := fun k => k = G) rfl q _) (fun k hk => by omega)
  have HB4 : Hid (Below w.heap.size w (w4.setCell ⟨G, q, none⟩ (.int .u8 (x0.toNat : Int)))) := (HB3.out.trans (hb.mono HB3.out.size)).setCell hwG _
  have HM : Hid ((L.set q x0).length ≤ 100) := by show _ ≤ _; rw [List.length_set]; exact hlen
  generalize L.set q x0 = M at *
  simp only [over_eq, overL, h58, h59, Nat.reduceAdd, List.drop_succ_cons, List.drop_zero]
  clear hv h58 h59 hb HW4 HW HT3 HB3
  have HPs : Hid (∀ W, Tall W → Calls Tryd.prog 9 #[sA M] W fun e w' => e = .returned (pv 0 0 0 0 0 0 (parE M)) ∧ Below W.heap.size W w') := fun W h => by
    have hz : ∀ b, ifz (parE M) b = 0 := fun b => by unfold ifz; rw [if_neg HFz.out]
    have := parse_any M W (by have := HM.out; omega) h
    simp only [hz] at this
    exact this
  have p1 : (parE M == 0) = false := by rw [beq_eq_false_iff_ne]; exact HFz.out
  have p2 : (parE M != 0) = true := by rw [bne_iff_ne]; exact HFz.out
  generalize parE M = E at *
  go_wp2_with fail
  generalize w4.setCell ⟨G, q, none⟩ (.int .u8 (x0.toNat : Int)) = w5 at *
  refine (HPs.out _ HT4.out).mono ?_
  rintro e w6 ⟨rfl, hb⟩
  have HB6 : Hid (Below w.heap.size w (w6.alloc (o5 0 0 0 0 0))) := (HB4.out.trans (hb.mono HB4.out.size)).alloc (Nat.le_trans HB4.out.size hb.size) _
  clear hb c0 f0 hcv2
  go_wp2
  go_ret
  exact ⟨rfl, HB6.out⟩
set_option maxHeartbeats 6400000 in
set_option maxRecDepth 100000 in
theorem flips_no (n k x y z u bit : Int) (w : World) (hr : refuC n k x y z u ≠ 0) (hT : Tall w) : Calls Tryd.prog 5 #[cm k x y z u, .int .i64 n, .int .i64 bit] w fun e w' => e = .returned (.bool true) ∧ Below w.heap.size w w' := by
  have HP : Hid (∀ W, Tabs W → Calls Tryd.prog 8 #[.int .i64 n, cm k x y z u] W fun e w' => e = .returned (.tuple #[.string ⟨#[]⟩, .int .i64 (refuC n k x y z u)]) ∧ Below W.heap.size W w') := fun W h => by
    have := print_any n k x y z u W h
    rw [prL_no hr] at this
    exact this
  have HP0 : Hid (∀ W, Tabs W → Calls Tryd.prog 8 #[.int .i64 1, cm 1 0 0 0 0] W fun e w' => e = .returned (.tuple #[sA (prL 1 1 0 0 0 0), .int .i64 0]) ∧ Below W.heap.size W w') := fun W h => print_any 1 1 0 0 0 0 W h
  have hl0 : 7 ≤ (prL 1 1 0 0 0 0).length := by
    have h : refuC 1 1 0 0 0 0 = 0 := by decide
    rw [prL_ok h]; exact line_long (refu_fit h).1 (by decide) (by decide)
  have HB0 : Hid (Below w.heap.size w (w.alloc (o5 k x y z u))) := (Below.refl _ _).alloc (Nat.le_refl _) _
  have HT0 : Hid (Tall (w.alloc (o5 k x y z u))) := hT.later HB0.out
  generalize prL 1 1 0 0 0 0 = L0 at *
  have q1 : (refuC n k x y z u == 0) = false := by simp [hr]
  have q2 : (refuC n k x y z u != 0) = true := by simp [hr]
  generalize refuC n k x y z u = e0 at *
  clear hr hT
  go_enter Tryd.func5, Tryd.ntmps5
  go_wp2_with fail
  generalize w.alloc (o5 k x y z u) = w0 at *
  refine (HP.out _ HT0.out.tabs).mono ?_
  rintro e w1 ⟨rfl, hb⟩
  have HT1 : Hid (Tall w1) := HT0.out.later hb
  have HB1 : Hid (Below w.heap.size w w1) := HB0.out.trans (hb.mono HB0.out.size)
  clear hb HT0 HB0 HP
  go_wp2_with fail
  refine (HP0.out _ HT1.out.tabs).mono ?_
  rintro e w2 ⟨rfl, hb⟩
  have HB2 : Hid (Below w.heap.size w w2) := HB1.out.trans (hb.mono HB1.out.size)
  clear hb HT1 HB1 HP0
  have p1 : decide ((6 : Int) < L0.length) = true := decide_eq_true (by omega)
  have p2 : (6 : Int) < L0.length := by omega
  go_wp2
  go_ret
  exact ⟨rfl, HB2.out⟩
theorem codeFlips_any (k x y z u n bit : Int) (w : World) (h0 : -9223372036854775808 ≤ bit) (h1 : bit ≤ 9223372036854775807) (hT : Tall w) : Calls Tryd.prog 5 #[cm k x y z u, .int .i64 n, .int .i64 bit] w fun e w' => e = .returned (.bool true) ∧ Below w.heap.size w w' := by
  by_cases hr : refuC n k x y z u = 0
  · obtain ⟨_, k1, _⟩ := refu_fit hr
    obtain ⟨m, rfl⟩ := Int.eq_ofNat_of_zero_le (show 0 ≤ k by omega)
    exact flips_ok n m x y z u bit w hr h0 h1 hT
  · exact flips_no n k x y z u bit w hr hT
end Go.Proofs.YtiafppmpjmpdmaaDoor
