/- Sum and Places walked. -/
import Derived.Test.YtanmfhaiahhoeaaQK
namespace Go.Proofs.Ytanmfhaiahhoeaa
open Go.RowKit

theorem en28 : ∀ args w, (callFunc 28 args).run Try.prog w = .ok (.enter 28 args) w := enters_of Try.func28 (by kernel_rfl) rfl
theorem en30 : ∀ args w, (callFunc 30 args).run Try.prog w = .ok (.enter 30 args) w := enters_of Try.func30 (by kernel_rfl) rfl
set_option maxHeartbeats 6400000 in
theorem clo28 (x y z a b c : Int) (T : Nat) (W : World) (h1 : Bk T [.int .i64 a, .int .i64 b, .int .i64 c] W) :
    Calls Try.prog 28 #[v3 x y z, ptr T] W fun e W' => (∃ v, e = .returned v) ∧ Bk T [.int .i64 x, .int .i64 y, .int .i64 z] W' ∧ Kpt (fun q => q = T) W W' := by
  have hb0 : Below W.heap.size W (W.alloc (o3 x y z 49)) := (Below.refl _ _).alloc (Nat.le_refl _) _
  have HT : Hid (Bk T [.int .i64 a, .int .i64 b, .int .i64 c] (W.alloc (o3 x y z 49))) := h1.later hb0
  have KD : Hid (Bk W.heap.size [.int .i64 x, .int .i64 y, .int .i64 z] (W.alloc (o3 x y z 49))) := Bk.new W [.int .i64 x, .int .i64 y, .int .i64 z] 49 _ rfl
  have K0 : Hid (Kpt (fun q => q = T) W (W.alloc (o3 x y z 49))) := Kpt.of_below hb0
  clear hb0 h1
  go_enter Try.func28, Try.ntmps28
  go_upto_region 1 with fail
  obtain ⟨B, hB⟩ : ∃ B, B = W.heap.size := ⟨_, rfl⟩
  obtain ⟨w0, hw0⟩ : ∃ w0, w0 = W.alloc (o3 x y z 49) := ⟨_, rfl⟩
  rw [← hw0] at HT KD K0 ⊢
  rw [← hB] at KD
  simp only [← hB]
  clear hB hw0
  have c0 := HT.out.c 0 rfl
  have c1 := HT.out.c 1 rfl
  have c2 := HT.out.c 2 rfl
  have f0 := HT.out.f 0 rfl
  have f1 := HT.out.f 1 rfl
  have f2 := HT.out.f 2 rfl
  have d0 := KD.out.c 0 rfl
  have d1 := KD.out.c 1 rfl
  have d2 := KD.out.c 2 rfl
  go_wp2
  exact bodyPost_end (v := .tuple #[]) (by simp [results, Try.results28, go_sem]) rfl ⟨⟨_, rfl⟩, ((HT.out.put 0 _).put 1 _).put 2 _, ((K0.out.trans (Kpt.setCell _ _ _ _ rfl)).trans (Kpt.setCell _ _ _ _ rfl)).trans (Kpt.setCell _ _ _ _ rfl)⟩
theorem refuP_len {l : List Int} (h : refuP l = 0) : l.length ≤ 20000 := by
  by_cases hl : 20000 < l.length
  · rw [refuP_long hl] at h; cases h
  · omega
/-- Between two places of a sum. -/
structure SmJ (w : World) (A T : Nat) (l : List Int) (k : Nat) (W : World) : Prop where
  at' : Bk T [.int .i64 (plc l k).x, .int .i64 (plc l k).y, .int .i64 (plc l k).z] W
  res : Bk A [.int .i64 0, .int .i64 0, .int .i64 0] W
  below : Below w.heap.size w W
set_option maxHeartbeats 6400000 in
set_option maxRecDepth 100000 in
theorem sum_ok (ao : Option Addr) (cap : Nat) (l : List Int) (w : World) (hR : RdI w ao l) (h0 : refuP l = 0) :
    Calls Try.prog 8 #[.slice ao l.length cap] w fun e w' => e = .returned (.tuple #[(plc l l.length).v, .int .i64 0]) ∧ Below w.heap.size w w' := by
  have hl := refuP_len h0
  have HF : Hid (∀ W, Below w.heap.size w W → Calls Try.prog 26 #[.slice ao l.length cap] W fun e w' => e = .returned (.int .i64 0) ∧ w' = W) := fun W hb => by
    have := refusal_any ao cap l W (hR.later hb) (by omega)
    rw [h0] at this
    exact this
  have HR : Hid (RdI w ao l) := hR
  have HP : Hid (∀ x y z W, Calls Try.prog 29 #[v3 x y z] W fun e w' => e = .returned (v3 x y z) ∧ Below W.heap.size W w') := fun x y z W => (pointOf_any x y z W).mono fun e w' ⟨h1, h2⟩ => ⟨h1, h2 ▸ two_new _ _ _⟩
  have hmf : ∀ (fn : Fn) (first cap : Array Value) (w : World), (Instr.makeFunc fn first cap).run Try.prog w = .ok (.func fn first cap) w := fun _ _ _ _ => rfl
  have HB0 : Hid (Below w.heap.size w (w.alloc (o3 0 0 0 23))) := (Below.refl _ _).alloc (Nat.le_refl _) _
  have KA0 : Hid (Bk w.heap.size [.int .i64 0, .int .i64 0, .int .i64 0] (w.alloc (o3 0 0 0 23))) := Bk.new w [.int .i64 0, .int .i64 0, .int .i64 0] 23 _ rfl
  clear hR h0
  go_enter Try.func8, Try.ntmps8
  go_wp2_with fail
  refine (HF.out _ HB0.out).mono ?_
  rintro e w1 ⟨rfl, hw1⟩
  rw [← hw1] at HB0 KA0
  have hs1 : w.heap.size < w1.heap.size := KA0.out.1
  clear hw1
  go_wp2_with fail
  obtain ⟨A, hA⟩ : ∃ A, A = w.heap.size := ⟨_, rfl⟩
  obtain ⟨T, hT⟩ : ∃ T, T = w1.heap.size := ⟨_, rfl⟩
  obtain ⟨w2, hw2⟩ : ∃ w2, w2 = w1.alloc (o3 0 0 0 49) := ⟨_, rfl⟩
  have hb2 : Below w1.heap.size w1 w2 := by rw [hw2]; exact (Below.refl _ _).alloc (Nat.le_refl _) _
  have KA : Hid (Bk A [.int .i64 0, .int .i64 0, .int .i64 0] w2) := by show Bk _ _ _; rw [hA]; exact KA0.out.later hb2
  have KT : Hid (Bk T [.int .i64 0, .int .i64 0, .int .i64 0] w2) := by show Bk _ _ _; rw [hw2, hT]; exact Bk.new w1 [.int .i64 0, .int .i64 0, .int .i64 0] 49 _ rfl
  have HB2 : Hid (Below w.heap.size w w2) := HB0.out.trans (hb2.mono HB0.out.size)
  have hs2 : w1.heap.size < w2.heap.size := by rw [hw2]; simp
  try rw [← hw2]
  try simp only [← hT]
  try simp only [← hA]
  have hpart := walk_any ao cap l 28 #[ptr T] w2 hl en28 (SmJ w A T l)
    (fun k X Y h hk => ⟨bk_kpt h.at' hk (by omega), bk_kpt h.res hk (by omega), Kpt.belowB h.below hk (fun q e => by omega)⟩)
    (fun k W h => HR.out.later h.below)
    (fun k hk W h hsz => by
      refine (clo28 _ _ _ _ _ _ T W h.at').mono ?_
      rintro e W' ⟨hv, h1, h2⟩
      exact ⟨hv, ⟨h1, bk_kpt h.res h2 (by omega), Kpt.belowB h.below h2 (fun q e => by omega)⟩, h2.mono (fun q e => by omega)⟩)
    ⟨KT.out, KA.out, HB2.out⟩
  have HPT := (show Hid _ from hpart)
  have hwA : w.heap.size ≤ A := by omega
  clear hpart hw2 hb2 hs2 hA hT hmf hs1
  go_wp2_with fail
  refine Calls.mono HPT.out ?_
  rintro e w4 ⟨⟨v, rfl⟩, h4⟩
  have c0 := h4.at'.c 0 rfl
  have c1 := h4.at'.c 1 rfl
  have c2 := h4.at'.c 2 rfl
  have HA4 : Hid (Bk A [.int .i64 0, .int .i64 0, .int .i64 0] w4) := h4.res
  have HB4 : Hid (Below w.heap.size w w4) := h4.below
  clear h4
  obtain ⟨x, hx⟩ : ∃ x, x = (plc l l.length).x := ⟨_, rfl⟩
  obtain ⟨y, hy⟩ : ∃ y, y = (plc l l.length).y := ⟨_, rfl⟩
  obtain ⟨z, hz⟩ : ∃ z, z = (plc l l.length).z := ⟨_, rfl⟩
  rw [← hx] at c0
  rw [← hy] at c1
  rw [← hz] at c2
  have HE : Hid ((plc l l.length).v = v3 x y z) := by show v3 _ _ _ = _; rw [hx, hy, hz]
  clear hx hy hz
  go_wp2_with fail
  refine (HP.out x y z _).mono ?_
  rintro e w5 ⟨rfl, hb5⟩
  have HA5 : Hid (Bk A [.int .i64 0, .int .i64 0, .int .i64 0] w5) := HA4.out.later hb5
  have HB5 : Hid (Below w.heap.size w w5) := HB4.out.trans (hb5.mono HB4.out.size)
  clear hb5 c0 c1 c2
  have a0 := HA5.out.c 0 rfl
  have a1 := HA5.out.c 1 rfl
  have a2 := HA5.out.c 2 rfl
  have g0 := HA5.out.f 0 rfl
  have g1 := HA5.out.f 1 rfl
  have g2 := HA5.out.f 2 rfl
  go_wp2
  obtain ⟨r0, r1, r2⟩ := box3 a0 a1 a2 (.int .i64 x) (.int .i64 y) (.int .i64 z)
  refine bodyPost_ret (v := .tuple #[v3 x y z, .int .i64 0]) (by simp [results, Try.results8, go_sem, a0, a1, a2]) rfl ⟨?_, ((HB5.out.setCell hwA _).setCell hwA _).setCell hwA _⟩
  rw [HE.out]
set_option maxHeartbeats 6400000 in
set_option maxRecDepth 100000 in
theorem sum_no (ao : Option Addr) (cap : Nat) (l : List Int) (w : World) (e0 : Int) (hR : RdI w ao l) (hl : l.length ≤ 9223372036854775807) (he : refuP l = e0) (h0 : (e0 != 0) = true) :
    Calls Try.prog 8 #[.slice ao l.length cap] w fun e w' => e = .returned (.tuple #[v3 0 0 0, .int .i64 e0]) ∧ Below w.heap.size w w' := by
  have HF : Hid (∀ W, Below w.heap.size w W → Calls Try.prog 26 #[.slice ao l.length cap] W fun e w' => e = .returned (.int .i64 e0) ∧ w' = W) := fun W hb => by
    have := refusal_any ao cap l W (hR.later hb) hl
    rw [he] at this
    exact this
  have HB0 : Hid (Below w.heap.size w (w.alloc (o3 0 0 0 23))) := (Below.refl _ _).alloc (Nat.le_refl _) _
  have KA0 : Hid (Bk w.heap.size [.int .i64 0, .int .i64 0, .int .i64 0] (w.alloc (o3 0 0 0 23))) := Bk.new w [.int .i64 0, .int .i64 0, .int .i64 0] 23 _ rfl
  clear hR he
  go_enter Try.func8, Try.ntmps8
  go_wp2_with fail
  refine (HF.out _ HB0.out).mono ?_
  rintro e w1 ⟨rfl, hw1⟩
  rw [← hw1] at HB0 KA0
  clear hw1
  have a0 := KA0.out.c 0 rfl
  have a1 := KA0.out.c 1 rfl
  have a2 := KA0.out.c 2 rfl
  have g0 := KA0.out.f 0 rfl
  have g1 := KA0.out.f 1 rfl
  have g2 := KA0.out.f 2 rfl
  go_wp2
  refine bodyPost_ret (v := .tuple #[v3 0 0 0, .int .i64 e0]) (by simp [results, Try.results8, go_sem, a0, a1, a2]) rfl ⟨rfl, ((HB0.out.setCell (Nat.le_refl _) _).setCell (Nat.le_refl _) _).setCell (Nat.le_refl _) _⟩
/-- The places of pulses. -/
def placesL (l : List Int) : List V3 := (List.range l.length).map fun k => plc l (k + 1)
theorem placesL_length (l : List Int) : (placesL l).length = l.length := by simp [placesL]
theorem placesL_at {l : List Int} {k : Nat} (h : k < (placesL l).length) : (placesL l)[k]'h = plc l (k + 1) := by simp [placesL]
set_option maxHeartbeats 6400000 in
set_option maxRecDepth 100000 in
theorem places_no (ao : Option Addr) (cap : Nat) (l : List Int) (w : World) (e0 : Int) (hR : RdI w ao l) (hl : l.length ≤ 9223372036854775807) (he : refuP l = e0) (h0 : (e0 != 0) = true) :
    Calls Try.prog 10 #[.slice ao l.length cap] w fun e w' => e = .returned (.tuple #[.slice none 0 0, .int .i64 e0]) ∧ Below w.heap.size w w' := by
  have HF : Hid (Calls Try.prog 26 #[.slice ao l.length cap] w fun e w' => e = .returned (.int .i64 e0) ∧ w' = w) := by
    have := refusal_any ao cap l w hR hl
    rw [he] at this
    exact this
  clear hR he
  go_enter Try.func10, Try.ntmps10
  go_wp2_with fail
  refine Calls.mono HF.out ?_
  rintro e w1 ⟨rfl, rfl⟩
  go_wp2
  exact bodyPost_ret (v := .tuple #[.slice none 0 0, .int .i64 e0]) (by simp [results, Try.results10, go_sem]) rfl ⟨rfl, Below.refl _ _⟩
set_option maxHeartbeats 6400000 in
set_option maxRecDepth 100000 in
theorem places_ok (ao : Option Addr) (cap : Nat) (l : List Int) (w : World) (hR : RdI w ao l) (h0 : refuP l = 0) :
    Calls Try.prog 10 #[.slice ao l.length cap] w fun e w' => ∃ G, e = .returned (.tuple #[.slice (some ⟨G, 0, none⟩) l.length l.length, .int .i64 0]) ∧ w.heap.size ≤ G ∧ Pnts (placesL l) G w' ∧ Below w.heap.size w w' := by
  have hl := refuP_len h0
  have HF : Hid (Calls Try.prog 26 #[.slice ao l.length cap] w fun e w' => e = .returned (.int .i64 0) ∧ w' = w) := by
    have := refusal_any ao cap l w hR (by omega)
    rw [h0] at this
    exact this
  have HR : Hid (RdI w ao l) := hR
  obtain ⟨cs, hcs, hmk⟩ := make_roomP l.length hl
  have HCS : Hid (cs.size = l.length * 3) := hcs
  have hmf : ∀ (fn : Fn) (first cap : Array Value) (w : World), (Instr.makeFunc fn first cap).run Try.prog w = .ok (.func fn first cap) w := fun _ _ _ _ => rfl
  have HLL : Hid ((placesL l).length = l.length) := placesL_length l
  have HAT : Hid (∀ k (h : k < (placesL l).length), (placesL l)[k]'h = plc l (k + 1)) := fun k h => placesL_at h
  obtain ⟨xs, hxs⟩ : ∃ xs, xs = placesL l := ⟨_, rfl⟩
  rw [← hxs] at HLL HAT ⊢
  clear hR h0 hcs hxs
  go_enter Try.func10, Try.ntmps10
  go_wp2_with fail
  refine Calls.mono HF.out ?_
  rintro e w1 ⟨rfl, rfl⟩
  go_wp2_with fail
  clear hmk hmf
  obtain ⟨G, hG⟩ : ∃ G, G = w1.heap.size := ⟨_, rfl⟩
  obtain ⟨w3, hw3⟩ : ∃ x, x = (w1.alloc (.cells cs 23)).alloc (.cells #[.slice (some ⟨w1.heap.size, 0, none⟩) 0 l.length] 31) := ⟨_, rfl⟩
  have hs3 : w3.heap.size = w1.heap.size + 2 := by rw [hw3]; simp
  have hb3 : Below w1.heap.size w1 w3 := by rw [hw3]; exact two_new _ _ _
  have KT : Hid (Bk (G + 1) [.slice (some ⟨G, 0, none⟩) 0 l.length] w3) := by show Bk _ _ _; rw [hw3, hG]; exact Bk.new (w1.alloc (.cells cs 23)) [.slice (some ⟨w1.heap.size, 0, none⟩) 0 l.length] 31 (w1.heap.size + 1) (by simp)
  have KO : Hid (OwnR encP w3 G (.slice (some ⟨G, 0, none⟩) 0 l.length) []) := by
    refine ⟨by simp [encP, Enc.cells], .inr ⟨G, l.length, cs, rfl, Nat.le_refl _, ?_, Nat.zero_le _, by unfold maxLen; omega, by simp [encP, HCS.out], by simp [encP, Enc.cells]⟩⟩
    rw [hw3, hG]
    exact (Below.heap_alloc _ _ _ (by simp)).trans (World.alloc_heap_new w1 _)
  try rw [← hw3]
  try simp only [← hG]
  have hsG : w3.heap.size = G + 2 := by omega
  have hwG : w1.heap.size ≤ G := by omega
  have HWG : Hid (w1.heap.size ≤ G) := hwG
  have hpart := walk_any ao cap l 30 #[ptr (G + 1)] w3 hl en30 (ApR encP w1 G (G + 1) l.length xs)
    (fun k A B h hk => h.kpt hk (by omega) (by omega) (fun q e => by omega))
    (fun k W h => HR.out.later h.below)
    (fun k hk W h hsz => by
      have hlk : (xs.take k).length = k := by rw [List.length_take, HLL.out]; omega
      have h5 := clo30 (plc l (k + 1)).x (plc l (k + 1)).y (plc l (k + 1)).z (G + 1) G l.length k (xs.take k) W (by omega) h.box h.own hlk (by omega)
      refine h5.mono ?_
      rintro e W' ⟨hv, h1, h2, h3⟩
      refine ⟨hv, ⟨h1, ?_, Kpt.belowB h.below h3 (fun q e => by omega)⟩, h3.mono (fun q e => by omega)⟩
      rw [List.take_succ_eq_append_getElem (by rw [HLL.out]; exact hk), HAT.out]
      exact h2)
    ⟨KT.out, KO.out, hb3⟩
  have HP := (show Hid _ from hpart)
  clear hpart hw3 hb3 hG hs3 hsG hwG
  go_wp2_with fail
  refine Calls.mono HP.out ?_
  rintro e w4 ⟨⟨v, rfl⟩, h4⟩
  have c0 := h4.box.c 0 rfl
  have h5 : OwnR encP w4 G (.slice (some ⟨G, 0, none⟩) xs.length l.length) xs := by
    have := h4.own
    rw [← HLL.out, List.take_length] at this
    rw [HLL.out] at this ⊢
    exact this
  have HRR : Hid (Pnts xs G w4) := pnts_of (by have := h4.box.1; omega) h5
  have HFF : Hid (Below w1.heap.size w1 w4) := h4.below
  clear h4 h5
  go_wp2
  refine bodyPost_ret (v := .tuple #[.slice (some ⟨G, 0, none⟩) l.length l.length, .int .i64 0]) (by simp [results, Try.results10, go_sem]) rfl ⟨G, rfl, HWG.out, HRR.out, HFF.out⟩
end Go.Proofs.Ytanmfhaiahhoeaa
