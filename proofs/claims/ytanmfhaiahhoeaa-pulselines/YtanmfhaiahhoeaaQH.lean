/- Line and Curve walked. -/
import Derived.Test.YtanmfhaiahhoeaaQG
namespace Go.Proofs.Ytanmfhaiahhoeaa
open Go.RowKit

theorem en24 : ∀ args w, (callFunc 24 args).run Try.prog w = .ok (.enter 24 args) w := enters_of Try.func24 (by kernel_rfl) rfl
theorem en31 : ∀ args w, (callFunc 31 args).run Try.prog w = .ok (.enter 31 args) w := enters_of Try.func31 (by kernel_rfl) rfl
/-- The pulses of a move; the parts of one. -/
def lineL (x y z : Int) : List Int := (List.range (lg x y z)).map fun k => pu (stp x (lg x y z) k) (stp y (lg x y z) k) (stp z (lg x y z) k)
def curveL (x y z : Int) (p : Nat) : List V3 := (List.range p).map fun k => ⟨stp x p k, stp y p k, stp z p k⟩
theorem lineL_length (x y z : Int) : (lineL x y z).length = lg x y z := by simp [lineL]
theorem curveL_length (x y z : Int) (p : Nat) : (curveL x y z p).length = p := by simp [curveL]
theorem lineL_at {x y z : Int} {k : Nat} (h : k < (lineL x y z).length) : (lineL x y z)[k]'h = pu (stp x (lg x y z) k) (stp y (lg x y z) k) (stp z (lg x y z) k) := by simp [lineL]
theorem curveL_at {x y z : Int} {p k : Nat} (h : k < (curveL x y z p).length) : (curveL x y z p)[k]'h = ⟨stp x p k, stp y p k, stp z p k⟩ := by simp [curveL]
set_option maxHeartbeats 6400000 in
set_option maxRecDepth 100000 in
theorem line_yes (x y z : Int) (w : World) (hm : mv x y z = true) :
    Calls Try.prog 7 #[v3 x y z] w fun e w' => ∃ G, e = .returned (.tuple #[.slice (some ⟨G, 0, none⟩) (lg x y z) (lg x y z), .int .i64 0]) ∧ w.heap.size ≤ G ∧ Ints (lineL x y z) G w' ∧ Below w.heap.size w w' := by
  have HM : Hid (mv x y z = true) := hm
  have HI : Hid (∀ W, Calls Try.prog 21 #[v3 x y z] W fun e w' => e = .returned (.bool true) ∧ Below W.heap.size W w') := fun W => (isMove_any x y z W).mono fun e w' ⟨h1, h2⟩ => ⟨hm ▸ h1, h2⟩
  have HLG : Hid (∀ W, Calls Try.prog 22 #[v3 x y z] W fun e w' => e = .returned (.int .i64 (lg x y z : Nat)) ∧ Below W.heap.size W w') := fun W => longest_any x y z W hm
  have hn : lg x y z ≤ 20000 := lg_le hm
  have HLL : Hid ((lineL x y z).length = lg x y z) := lineL_length x y z
  obtain ⟨cs, hcs, hmk⟩ := make_roomI (lg x y z) hn
  have HCS : Hid (cs.size = (lg x y z)) := hcs
  have hmf : ∀ (fn : Fn) (first cap : Array Value) (w : World), (Instr.makeFunc fn first cap).run Try.prog w = .ok (.func fn first cap) w := fun _ _ _ _ => rfl
  have HB0 : Hid (Below w.heap.size w (w.alloc (o3 x y z 23))) := (Below.refl _ _).alloc (Nat.le_refl _) _
  have KR0 : Hid (Bk w.heap.size [.int .i64 x, .int .i64 y, .int .i64 z] (w.alloc (o3 x y z 23))) := Bk.new w [.int .i64 x, .int .i64 y, .int .i64 z] 23 w.heap.size rfl
  have HAT : Hid (∀ k (h : k < (lineL x y z).length), (lineL x y z)[k]'h = pu (stp x (lg x y z) k) (stp y (lg x y z) k) (stp z (lg x y z) k)) := fun k h => lineL_at h
  obtain ⟨n, hnn⟩ : ∃ n, n = lg x y z := ⟨_, rfl⟩
  rw [← hnn] at hn HLL HCS HAT HLG hmk ⊢
  clear hnn
  obtain ⟨xs, hxs⟩ : ∃ xs, xs = lineL x y z := ⟨_, rfl⟩
  have HEQ : Hid (xs = lineL x y z) := hxs
  rw [← hxs] at HLL HAT ⊢
  clear hxs hm hcs
  go_enter Try.func7, Try.ntmps7
  go_wp2_with fail
  refine (HI.out _).mono ?_
  rintro e w1 ⟨rfl, hb1⟩
  have HB1 : Hid (Below w.heap.size w w1) := HB0.out.trans (hb1.mono HB0.out.size)
  have KR1 : Hid (Bk w.heap.size [.int .i64 x, .int .i64 y, .int .i64 z] w1) := KR0.out.later hb1
  clear hb1
  have r0 := KR1.out.c 0 rfl
  have r1 := KR1.out.c 1 rfl
  have r2 := KR1.out.c 2 rfl
  go_wp2_with fail
  refine (HLG.out _).mono ?_
  rintro e w2 ⟨rfl, hb2⟩
  have HB2 : Hid (Below w.heap.size w w2) := HB1.out.trans (hb2.mono HB1.out.size)
  have KR2 : Hid (Bk w.heap.size [.int .i64 x, .int .i64 y, .int .i64 z] w2) := KR1.out.later hb2
  clear hb2 r0 r1 r2
  have r0 := KR2.out.c 0 rfl
  have r1 := KR2.out.c 1 rfl
  have r2 := KR2.out.c 2 rfl
  have hs2 : w.heap.size < w2.heap.size := KR2.out.1
  go_wp2_with fail
  clear r0 r1 r2 hmk hmf
  obtain ⟨G, hG⟩ : ∃ G, G = w2.heap.size := ⟨_, rfl⟩
  obtain ⟨w3, hw3⟩ : ∃ x, x = (w2.alloc (.cells cs 3)).alloc (.cells #[.slice (some ⟨w2.heap.size, 0, none⟩) 0 n] 24) := ⟨_, rfl⟩
  have hs3 : w3.heap.size = w2.heap.size + 2 := by rw [hw3]; simp
  have hb3 : Below w2.heap.size w2 w3 := by rw [hw3]; exact two_new _ _ _
  have KT : Hid (Bk (G + 1) [.slice (some ⟨G, 0, none⟩) 0 n] w3) := by show Bk _ _ _; rw [hw3, hG]; exact Bk.new (w2.alloc (.cells cs 3)) [.slice (some ⟨w2.heap.size, 0, none⟩) 0 n] 24 (w2.heap.size + 1) (by simp)
  have KO : Hid (OwnR encI w3 G (.slice (some ⟨G, 0, none⟩) 0 n) []) := by
    refine ⟨by simp [encI, Enc.cells], .inr ⟨G, n, cs, rfl, Nat.le_refl _, ?_, Nat.zero_le _, by unfold maxLen; omega, by simp [encI, HCS.out], by simp [encI, Enc.cells]⟩⟩
    rw [hw3, hG]
    exact (Below.heap_alloc _ _ _ (by simp)).trans (World.alloc_heap_new w2 _)
  have HB3 : Hid (Below w.heap.size w w3) := HB2.out.trans (hb3.mono HB2.out.size)
  try rw [← hw3]
  try simp only [← hG]
  have hsG : w3.heap.size = G + 2 := by omega
  have hwG : w.heap.size < G := by omega
  have HSG : Hid (w3.heap.size = G + 2) := hsG
  have HWG : Hid (w.heap.size < G) := hwG
  have hpart := parted_any x y z n 24 #[ptr (G + 1)] w3 HM.out hn en24 (ApR encI w G (G + 1) n xs)
    (fun k A B h hk => h.kpt hk (by omega) (by omega) (fun q e => by omega))
    (fun k hk W h hsz => by
      have hl : (xs.take k).length = k := by rw [List.length_take, HLL.out]; omega
      have h5 := clo24 (stp x n k) (stp y n k) (stp z n k) (G + 1) G n k (xs.take k) W (by omega) h.box h.own hl (by omega)
      refine h5.mono ?_
      rintro e W' ⟨hv, h1, h2, h3⟩
      refine ⟨hv, ⟨h1, ?_, Kpt.belowB h.below h3 (fun q e => by omega)⟩, h3.mono (fun q e => by omega)⟩
      rw [List.take_succ_eq_append_getElem (by rw [HLL.out]; exact hk), HAT.out]
      exact h2)
    ⟨KT.out, KO.out, HB3.out⟩
  have HP := (show Hid _ from hpart)
  clear hpart hw3 hb3 hG hs3 hs2 hsG hwG
  go_wp2_with fail
  refine Calls.mono HP.out ?_
  rintro e w4 ⟨⟨v, rfl⟩, h4⟩
  have c0 := h4.box.c 0 rfl
  have h5 : OwnR encI w4 G (.slice (some ⟨G, 0, none⟩) xs.length n) xs := by
    have := h4.own
    rw [← HLL.out, List.take_length] at this
    rw [HLL.out] at this ⊢
    exact this
  have HR : Hid (Ints xs G w4) := ints_of (by have := h4.box.1; omega) h5
  have HF : Hid (Below w.heap.size w w4) := h4.below
  clear h4 h5
  go_wp2
  refine bodyPost_ret (v := .tuple #[.slice (some ⟨G, 0, none⟩) n n, .int .i64 0]) (by simp [results, Try.results7, go_sem]) rfl ⟨G, rfl, Nat.le_of_lt HWG.out, HR.out, HF.out⟩
set_option maxHeartbeats 6400000 in
set_option maxRecDepth 100000 in
theorem curve_yes (x y z : Int) (p : Nat) (w : World) (hm : mv x y z = true) (hp1 : 1 ≤ p) (hp2 : p ≤ 1000) :
    Calls Try.prog 11 #[v3 x y z, .int .i64 (p : Nat)] w fun e w' => ∃ G, e = .returned (.tuple #[.slice (some ⟨G, 0, none⟩) p p, .int .i64 0]) ∧ w.heap.size ≤ G ∧ Pnts (curveL x y z p) G w' ∧ Below w.heap.size w w' := by
  have HM : Hid (mv x y z = true) := hm
  have HI : Hid (∀ W, Calls Try.prog 21 #[v3 x y z] W fun e w' => e = .returned (.bool true) ∧ Below W.heap.size W w') := fun W => (isMove_any x y z W).mono fun e w' ⟨h1, h2⟩ => ⟨hm ▸ h1, h2⟩
  have hn : p ≤ 20000 := by omega
  have HLL : Hid ((curveL x y z p).length = p) := curveL_length x y z p
  obtain ⟨cs, hcs, hmk⟩ := make_roomP p hn
  have HCS : Hid (cs.size = p * 3) := hcs
  have hmf : ∀ (fn : Fn) (first cap : Array Value) (w : World), (Instr.makeFunc fn first cap).run Try.prog w = .ok (.func fn first cap) w := fun _ _ _ _ => rfl
  have HB0 : Hid (Below w.heap.size w (w.alloc (o3 x y z 23))) := (Below.refl _ _).alloc (Nat.le_refl _) _
  have KR0 : Hid (Bk w.heap.size [.int .i64 x, .int .i64 y, .int .i64 z] (w.alloc (o3 x y z 23))) := Bk.new w [.int .i64 x, .int .i64 y, .int .i64 z] 23 w.heap.size rfl
  have HAT : Hid (∀ k (h : k < (curveL x y z p).length), (curveL x y z p)[k]'h = ⟨stp x p k, stp y p k, stp z p k⟩) := fun k h => curveL_at h
  obtain ⟨xs, hxs⟩ : ∃ xs, xs = curveL x y z p := ⟨_, rfl⟩
  have HEQ : Hid (xs = curveL x y z p) := hxs
  rw [← hxs] at HLL HAT ⊢
  clear hxs hm hcs
  go_enter Try.func11, Try.ntmps11
  go_wp2_with fail
  refine (HI.out _).mono ?_
  rintro e w1 ⟨rfl, hb1⟩
  have HB1 : Hid (Below w.heap.size w w1) := HB0.out.trans (hb1.mono HB0.out.size)
  have KR1 : Hid (Bk w.heap.size [.int .i64 x, .int .i64 y, .int .i64 z] w1) := KR0.out.later hb1
  clear hb1
  have r0 := KR1.out.c 0 rfl
  have r1 := KR1.out.c 1 rfl
  have r2 := KR1.out.c 2 rfl
  have hs2 : w.heap.size < w1.heap.size := KR1.out.1
  go_wp2_with fail
  clear r0 r1 r2 hmk hmf
  obtain ⟨G, hG⟩ : ∃ G, G = w1.heap.size := ⟨_, rfl⟩
  obtain ⟨w3, hw3⟩ : ∃ x, x = (w1.alloc (.cells cs 23)).alloc (.cells #[.slice (some ⟨w1.heap.size, 0, none⟩) 0 p] 31) := ⟨_, rfl⟩
  have hs3 : w3.heap.size = w1.heap.size + 2 := by rw [hw3]; simp
  have hb3 : Below w1.heap.size w1 w3 := by rw [hw3]; exact two_new _ _ _
  have KT : Hid (Bk (G + 1) [.slice (some ⟨G, 0, none⟩) 0 p] w3) := by show Bk _ _ _; rw [hw3, hG]; exact Bk.new (w1.alloc (.cells cs 23)) [.slice (some ⟨w1.heap.size, 0, none⟩) 0 p] 31 (w1.heap.size + 1) (by simp)
  have KO : Hid (OwnR encP w3 G (.slice (some ⟨G, 0, none⟩) 0 p) []) := by
    refine ⟨by simp [encP, Enc.cells], .inr ⟨G, p, cs, rfl, Nat.le_refl _, ?_, Nat.zero_le _, by unfold maxLen; omega, by simp [encP, HCS.out], by simp [encP, Enc.cells]⟩⟩
    rw [hw3, hG]
    exact (Below.heap_alloc _ _ _ (by simp)).trans (World.alloc_heap_new w1 _)
  have HB3 : Hid (Below w.heap.size w w3) := HB1.out.trans (hb3.mono HB1.out.size)
  try rw [← hw3]
  try simp only [← hG]
  have hsG : w3.heap.size = G + 2 := by omega
  have hwG : w.heap.size < G := by omega
  have HSG : Hid (w3.heap.size = G + 2) := hsG
  have HWG : Hid (w.heap.size < G) := hwG
  have hpart := parted_any x y z p 31 #[ptr (G + 1)] w3 HM.out hn en31 (ApR encP w G (G + 1) p xs)
    (fun k A B h hk => h.kpt hk (by omega) (by omega) (fun q e => by omega))
    (fun k hk W h hsz => by
      have hl : (xs.take k).length = k := by rw [List.length_take, HLL.out]; omega
      have h5 := clo31 (stp x p k) (stp y p k) (stp z p k) (G + 1) G p k (xs.take k) W (by omega) h.box h.own hl (by omega)
      refine h5.mono ?_
      rintro e W' ⟨hv, h1, h2, h3⟩
      refine ⟨hv, ⟨h1, ?_, Kpt.belowB h.below h3 (fun q e => by omega)⟩, h3.mono (fun q e => by omega)⟩
      rw [List.take_succ_eq_append_getElem (by rw [HLL.out]; exact hk), HAT.out]
      exact h2)
    ⟨KT.out, KO.out, HB3.out⟩
  have HP := (show Hid _ from hpart)
  clear hpart hw3 hb3 hG hs3 hs2 hsG hwG
  go_wp2_with fail
  refine Calls.mono HP.out ?_
  rintro e w4 ⟨⟨v, rfl⟩, h4⟩
  have c0 := h4.box.c 0 rfl
  have h5 : OwnR encP w4 G (.slice (some ⟨G, 0, none⟩) xs.length p) xs := by
    have := h4.own
    rw [← HLL.out, List.take_length] at this
    rw [HLL.out] at this ⊢
    exact this
  have HR : Hid (Pnts xs G w4) := pnts_of (by have := h4.box.1; omega) h5
  have HF : Hid (Below w.heap.size w w4) := h4.below
  clear h4 h5
  go_wp2
  refine bodyPost_ret (v := .tuple #[.slice (some ⟨G, 0, none⟩) p p, .int .i64 0]) (by simp [results, Try.results11, go_sem]) rfl ⟨G, rfl, Nat.le_of_lt HWG.out, HR.out, HF.out⟩
set_option maxHeartbeats 6400000 in
theorem line_no (x y z : Int) (w : World) (hm : mv x y z = false) :
    Calls Try.prog 7 #[v3 x y z] w fun e w' => e = .returned (.tuple #[.slice none 0 0, .int .i64 2]) ∧ Below w.heap.size w w' := by
  have HI : Hid (∀ W, Calls Try.prog 21 #[v3 x y z] W fun e w' => e = .returned (.bool false) ∧ Below W.heap.size W w') := fun W => (isMove_any x y z W).mono fun e w' ⟨h1, h2⟩ => ⟨hm ▸ h1, h2⟩
  have HB0 : Hid (Below w.heap.size w (w.alloc (o3 x y z 23))) := (Below.refl _ _).alloc (Nat.le_refl _) _
  clear hm
  go_enter Try.func7, Try.ntmps7
  go_wp2_with fail
  refine (HI.out _).mono ?_
  rintro e w1 ⟨rfl, hb1⟩
  have HB1 : Hid (Below w.heap.size w w1) := HB0.out.trans (hb1.mono HB0.out.size)
  clear hb1
  go_wp2
  refine bodyPost_ret (v := .tuple #[.slice none 0 0, .int .i64 2]) (by simp [results, Try.results7, go_sem]) rfl ⟨rfl, HB1.out⟩
set_option maxHeartbeats 6400000 in
theorem curve_no (x y z : Int) (p : Int) (w : World) (hm : mv x y z = false) :
    Calls Try.prog 11 #[v3 x y z, .int .i64 p] w fun e w' => e = .returned (.tuple #[.slice none 0 0, .int .i64 2]) ∧ Below w.heap.size w w' := by
  have HI : Hid (∀ W, Calls Try.prog 21 #[v3 x y z] W fun e w' => e = .returned (.bool false) ∧ Below W.heap.size W w') := fun W => (isMove_any x y z W).mono fun e w' ⟨h1, h2⟩ => ⟨hm ▸ h1, h2⟩
  have HB0 : Hid (Below w.heap.size w (w.alloc (o3 x y z 23))) := (Below.refl _ _).alloc (Nat.le_refl _) _
  clear hm
  go_enter Try.func11, Try.ntmps11
  go_wp2_with fail
  refine (HI.out _).mono ?_
  rintro e w1 ⟨rfl, hb1⟩
  have HB1 : Hid (Below w.heap.size w w1) := HB0.out.trans (hb1.mono HB0.out.size)
  clear hb1
  go_wp2
  refine bodyPost_ret (v := .tuple #[.slice none 0 0, .int .i64 2]) (by simp [results, Try.results11, go_sem]) rfl ⟨rfl, HB1.out⟩
set_option maxHeartbeats 6400000 in
theorem curve_count (x y z p : Int) (w : World) (hm : mv x y z = true) (hp : p < 1 ∨ 1000 < p) :
    Calls Try.prog 11 #[v3 x y z, .int .i64 p] w fun e w' => e = .returned (.tuple #[.slice none 0 0, .int .i64 7]) ∧ Below w.heap.size w w' := by
  have HI : Hid (∀ W, Calls Try.prog 21 #[v3 x y z] W fun e w' => e = .returned (.bool true) ∧ Below W.heap.size W w') := fun W => (isMove_any x y z W).mono fun e w' ⟨h1, h2⟩ => ⟨hm ▸ h1, h2⟩
  have HB0 : Hid (Below w.heap.size w (w.alloc (o3 x y z 23))) := (Below.refl _ _).alloc (Nat.le_refl _) _
  clear hm
  go_enter Try.func11, Try.ntmps11
  go_wp2_with fail
  refine (HI.out _).mono ?_
  rintro e w1 ⟨rfl, hb1⟩
  have HB1 : Hid (Below w.heap.size w w1) := HB0.out.trans (hb1.mono HB0.out.size)
  clear hb1
  go_wp2_with fail
  all_goals (refine bodyPost_ret (v := .tuple #[.slice none 0 0, .int .i64 7]) (by simp [results, Try.results11, go_sem]) rfl ⟨rfl, HB1.out⟩)
end Go.Proofs.Ytanmfhaiahhoeaa
