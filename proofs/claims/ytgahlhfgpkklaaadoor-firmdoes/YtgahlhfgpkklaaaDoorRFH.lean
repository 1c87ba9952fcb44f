/- Total walked. -/
import Derived.Test.YtgahlhfgpkklaaaDoorRDH
namespace Go.Proofs.YtgahlhfgpkklaaaDoor
open Go.RowKit

theorem Kpt.belowB {M : Nat → Prop} {w A B : World} (h : Below w.heap.size w A) (hk : Kpt M A B) (hM : ∀ k, M k → w.heap.size ≤ k) : Below w.heap.size w B := h.trans (hk.below h.size hM)

attribute [local go_sem] Oper.semAt_some
/-- A function value that gives these numbers. -/
def FnV (xs : List Int) (z lo : Nat) (v : Value) (w : World) : Prop := ∃ gf lb, v = .func (.func gf) #[] lb ∧ GivesAt gf lb xs z lo w
theorem FnV.later {xs : List Int} {z lo : Nat} {v : Value} {w w1 : World} (h : FnV xs z lo v w) (hb : Below w.heap.size w w1) : FnV xs z lo v w1 := by
  obtain ⟨gf, lb, e, h⟩ := h
  exact ⟨gf, lb, e, h.later hb⟩
theorem speeds_fn (r : Rp) (n lo : Nat) (w : World) (hr : rpOk r = true) (hn : n ≤ 20000) (hlo : lo ≤ w.heap.size) :
    Calls Tryd.prog 61 #[rv r, .int .i64 (n : Int)] w fun e w' => ∃ v, e = .returned v ∧ FnV (speedsL r n) 0 lo v w' ∧ Below w.heap.size w w' := by
  refine (speeds_any r n w).mono ?_
  rintro e w1 ⟨rfl, rfl⟩
  refine ⟨_, rfl, ⟨_, _, rfl, speeds_at r n w.heap.size (w.heap.size + 1) lo _ hr hn ?_ ?_ hlo (by omega)⟩, ((Below.refl _ _).alloc (Nat.le_refl _) _).alloc (by simp) _⟩
  · exact (Bk.new w (rcl r) 25 w.heap.size rfl).later ((Below.refl _ _).alloc (Nat.le_refl _) _)
  · exact Bk.new (w.alloc (ro r)) [.int .i64 (n : Int)] 3 (w.heap.size + 1) (by simp)
theorem times_fn {xs : List Int} {z lo : Nat} {v : Value} (r : Rp) (w : World) (hr : rpOk r = true) (hx : ∀ x ∈ xs, 1 ≤ x) (hlo : lo ≤ w.heap.size) (h : FnV xs z lo v w) :
    Calls Tryd.prog 60 #[rv r, v] w fun e w' => ∃ v, e = .returned v ∧ FnV (timesL r xs) (z + 3) lo v w' ∧ Below w.heap.size w w' := by
  obtain ⟨gf, lb, rfl, h⟩ := h
  refine (times_any r gf lb w).mono ?_
  rintro e w1 ⟨rfl, rfl⟩
  have hb : Below w.heap.size w ((w.alloc (ro r)).alloc (.cells #[.func (.func gf) #[] lb] 105)) := ((Below.refl _ _).alloc (Nat.le_refl _) _).alloc (by simp) _
  refine ⟨_, rfl, ⟨_, _, rfl, times_at r hr hx w _ w.heap.size (w.heap.size + 1) h hb ?_ ?_ hlo⟩, hb⟩
  · exact (Bk.new w (rcl r) 25 w.heap.size rfl).later ((Below.refl _ _).alloc (Nat.le_refl _) _)
  · exact Bk.new (w.alloc (ro r)) [.func (.func gf) #[] lb] 105 (w.heap.size + 1) (by simp)
theorem spA_pos {r : Rp} (hr : rpOk r = true) {k : Nat} (hk : k ≤ 20000) : 1 ≤ spA r k := by have := spA_bd hr hk; have := rpOk_iff.1 hr; omega
theorem speedsL_pos {r : Rp} {n : Nat} (hr : rpOk r = true) (hn : n ≤ 20000) : ∀ x ∈ speedsL r n, 1 ≤ x := by
  intro x hx
  unfold speedsL at hx
  obtain ⟨i, hi, rfl⟩ := List.mem_map.1 hx
  have := List.mem_range.1 hi
  exact spA_pos hr (by omega)
theorem addedL_pos {r : Rp} {n : Nat} (hr : rpOk r = true) (hn : n ≤ 20000) : ∀ x ∈ addedL r n, 1 ≤ x := by
  intro x hx
  unfold addedL at hx
  obtain ⟨i, hi, rfl⟩ := List.mem_map.1 hx
  have := List.mem_range.1 hi
  exact spA_pos hr (by omega)
theorem tdiv_bd {c x : Int} (hc : 0 ≤ c) (hx : 1 ≤ x) : 0 ≤ Int.tdiv c x ∧ Int.tdiv c x ≤ c := by
  rw [Int.tdiv_eq_ediv_of_nonneg hc]
  exact ⟨Int.ediv_nonneg hc (by omega), Int.ediv_le_self x hc⟩
theorem timesL_bd {r : Rp} {xs : List Int} (hr : rpOk r = true) (hx : ∀ x ∈ xs, 1 ≤ x) : ∀ x ∈ timesL r xs, 0 ≤ x ∧ x ≤ 100000000 := by
  intro x h
  unfold timesL at h
  obtain ⟨i, hi, rfl⟩ := List.mem_map.1 h
  have h1 := rpOk_iff.1 hr
  have := tdiv_bd (c := r.c) (by omega) (hx i hi)
  omega
theorem sum_take {xs : List Int} {k : Nat} (h : k < xs.length) : (xs.take (k + 1)).sum = (xs.take k).sum + xs[k]'h := by
  rw [List.take_succ_eq_append_getElem h, List.sum_append]
  simp
theorem sum_bd {xs : List Int} (hx : ∀ x ∈ xs, 0 ≤ x ∧ x ≤ 100000000) : 0 ≤ xs.sum ∧ xs.sum ≤ 100000000 * (xs.length : Int) := by
  induction xs with
  | nil => simp
  | cons x xs ih =>
    have h1 := hx x (by simp)
    have h2 := ih fun y hy => hx y (by simp [hy])
    simp only [List.sum_cons, List.length_cons]
    omega
structure ToI (w : World) (T : Nat) (xs : List Int) (k : Nat) (W : World) : Prop where
  tot : Bk T [.int .i64 (xs.take k).sum] W
  below : Below w.heap.size w W
/-- How long a ramp of so many steps takes. -/
def totR (r : Rp) (n : Nat) : Int := (timesL r (speedsL r n)).sum
set_option linter.unusedVariables false in
def toV (r : Rp) (n lo : Nat) (d : Nat) (v : Value) (w : World) : Prop :=
  match d with
  | 15 => v = rv r
  | 16 => v = rv r
  | 17 => v = .int .i64 (n : Int)
  | 18 => FnV (speedsL r n) 0 lo v w
  | 19 => FnV (timesL r (speedsL r n)) 3 lo v w
  | _ => True
set_option linter.unusedVariables false in
theorem toV_mono (r : Rp) (n lo : Nat) (d : Nat) (v : Value) (w w' : World) (h : toV r n lo d v w) (hb : Below w.heap.size w w') : toV r n lo d v w' := by
  unfold toV at h ⊢
  split <;> simp only [] at h <;> first | exact h | exact FnV.later h hb
set_option maxHeartbeats 6400000 in
set_option maxRecDepth 100000 in
theorem total_yes (r : Rp) (n : Nat) (w : World) (hr : rpOk r = true) (hn : n ≤ 20000) :
    Calls Tryd.prog 57 #[rv r, .int .i64 (n : Int)] w fun e w' => e = .returned (.tuple #[.int .i64 (totR r n), .int .i64 0]) ∧ Below w.heap.size w w' := by
  have HF : Hid (∀ W, Calls Tryd.prog 59 #[rv r, .int .i64 (n : Int)] W fun e w' => e = .returned (.int .i64 0) ∧ Below W.heap.size W w') := fun W => (refusal_any r n W).mono fun e w' ⟨h1, h2⟩ => ⟨by rw [h1]; unfold refR; rw [if_pos hr, if_pos (by omega)], h2⟩
  have HS : Hid (∀ lo W, lo ≤ W.heap.size → Calls Tryd.prog 61 #[rv r, .int .i64 (n : Int)] W fun e w' => ∃ v, e = .returned v ∧ FnV (speedsL r n) 0 lo v w' ∧ Below W.heap.size W w') := fun lo W h => speeds_fn r n lo W hr hn h
  have HT : Hid (∀ lo W v, lo ≤ W.heap.size → FnV (speedsL r n) 0 lo v W → Calls Tryd.prog 60 #[rv r, v] W fun e w' => ∃ v, e = .returned v ∧ FnV (timesL r (speedsL r n)) 3 lo v w' ∧ Below W.heap.size W w') := fun lo W v h0 h => times_fn r W hr (speedsL_pos hr hn) h0 h
  have HX : Hid (∀ x ∈ timesL r (speedsL r n), 0 ≤ x ∧ x ≤ 100000000) := timesL_bd hr (speedsL_pos hr hn)
  have HL : Hid ((timesL r (speedsL r n)).length = n) := by show _ = _; rw [timesL_length, speedsL_length]
  have HR : Hid (totR r n = (timesL r (speedsL r n)).sum) := rfl
  have HB0 : Hid (Below w.heap.size w (w.alloc (ro r))) := (Below.refl _ _).alloc (Nat.le_refl _) _
  have KR0 : Hid (Bk w.heap.size (rcl r) (w.alloc (ro r))) := Bk.new w (rcl r) 25 w.heap.size rfl
  clear hr
  refine (callsIn_wide (n := 9)).1 (callsIn_of_wp_marks Tryd.func57 rfl trivial (wpIn_wide.2 ?_) rfl)
  simp only [Tryd.ntmps57, List.size_toArray, List.length_cons, List.length_nil, Nat.reduceAdd, Nat.reduceSub, Array.replicate_succ, Array.replicate_zero, List.push_toArray, List.append_toArray, List.nil_append, List.cons_append]
  go_wp2_with fail
  refine Calls.mono (HF.out _) ?_
  rintro e w1 ⟨rfl, hb1⟩
  have HB1 : Hid (Below w.heap.size w w1) := HB0.out.trans (hb1.mono HB0.out.size)
  have KR1 : Hid (Bk w.heap.size (rcl r) w1) := KR0.out.later hb1
  have hs1 : w.heap.size < w1.heap.size := KR1.out.1
  clear hb1
  go_wp2_with fail
  obtain ⟨T, hT⟩ : ∃ T, T = w1.heap.size := ⟨_, rfl⟩
  obtain ⟨w2, hw2⟩ : ∃ x, x = w1.alloc (io 0) := ⟨_, rfl⟩
  have hb2 : Below w1.heap.size w1 w2 := by rw [hw2]; exact (Below.refl _ _).alloc (Nat.le_refl _) _
  have KT : Hid (Bk T [.int .i64 0] w2) := by show Bk _ _ _; rw [hw2, hT]; exact Bk.new w1 [.int .i64 0] 3 w1.heap.size rfl
  have KR : Hid (Bk w.heap.size (rcl r) w2) := KR1.out.later hb2
  have HB2 : Hid (Below w.heap.size w w2) := HB1.out.trans (hb2.mono HB1.out.size)
  have HTT : Hid (w.heap.size < T) := by show _ < _; omega
  rw [← hT, ← hw2]
  clear hT hw2 hb2
  rename_i KK hkk
  have HKK := (show Hid _ from hkk)
  clear hkk
  refine region_inv [false, false, false, false, false, false, false, false, false, false, false, false, false, false, false, true, true, true, true, true, false, false, false, false, false]
    [(15, [], none), (16, [], none), (17, [], none), (18, [16, 17], none), (19, [15, 18], none)]
    (toV r n w2.heap.size) (by kernel_rfl) (by kernel_rfl) (toV_mono r n w2.heap.size) ?_ ?_
  · refine ⟨?_, ?_, ?_, ?_, ?_, trivial⟩
    · intro f w1 hb _ K hK
      have q0 := cell_later hb (KR.out.c 0 rfl)
      have q1 := cell_later hb (KR.out.c 1 rfl)
      have q2 := cell_later hb (KR.out.c 2 rfl)
      have q3 := cell_later hb (KR.out.c 3 rfl)
      simp only [over, overL, Nat.reduceAdd]
      go_simp
      exact hK _ _ ⟨_, rfl, by simp only [over, overL, Nat.reduceAdd]; rfl, Below.refl _ _⟩
    · intro f w1 hb _ K hK
      have q0 := cell_later hb (KR.out.c 0 rfl)
      have q1 := cell_later hb (KR.out.c 1 rfl)
      have q2 := cell_later hb (KR.out.c 2 rfl)
      have q3 := cell_later hb (KR.out.c 3 rfl)
      simp only [over, overL, Nat.reduceAdd]
      go_simp
      exact hK _ _ ⟨_, rfl, by simp only [over, overL, Nat.reduceAdd]; rfl, Below.refl _ _⟩
    · intro f w1 hb _ K hK
      simp only [over, overL, Nat.reduceAdd]
      go_simp
      exact hK _ _ ⟨_, rfl, by simp only [over, overL, Nat.reduceAdd]; rfl, Below.refl _ _⟩
    · intro f w1 hb ⟨h16, h17, _⟩ K hK
      replace h16 : f 16 = _ := h16
      replace h17 : f 17 = _ := h17
      simp only [over, overL, Nat.reduceAdd, h16, h17]
      go_simp
      refine Calls.mono (HS.out w2.heap.size _ hb.size) ?_
      rintro e w9 ⟨v, rfl, h1, hb2⟩
      exact hK _ _ ⟨_, h1, by simp only [over, overL, Nat.reduceAdd, h16, h17]; rfl, hb2⟩
    · intro f w1 hb ⟨h15, h18, _⟩ K hK
      replace h15 : f 15 = _ := h15
      replace h18 : FnV (speedsL r n) 0 w2.heap.size (f 18) w1 := h18
      simp only [over, overL, Nat.reduceAdd, h15]
      go_simp
      refine Calls.mono (HT.out w2.heap.size _ _ hb.size h18) ?_
      rintro e w9 ⟨v, rfl, h1, hb2⟩
      exact hK _ _ ⟨_, h1, by simp only [over, overL, Nat.reduceAdd, h15]; rfl, hb2⟩
  intro f w3 hb hv
  obtain ⟨gf, lb, h19, HG0⟩ : FnV (timesL r (speedsL r n)) 3 w2.heap.size (f 19) w3 := hv.2.2.2.2.1
  have HG : Hid (GivesAt gf lb (timesL r (speedsL r n)) 3 w2.heap.size w3) := HG0
  have KT3 : Hid (Bk T [.int .i64 0] w3) := KT.out.later hb
  have HB3 : Hid (Below w.heap.size w w3) := HB2.out.trans (hb.mono HB2.out.size)
  have hT2 : T < w2.heap.size := KT.out.1
  have hT3 : T < w3.heap.size := KT3.out.1
  have hwT := HTT.out
  clear hv hb HG0
  generalize timesL r (speedsL r n) = xs at *
  refine HKK.out _ _ ?_
  simp only [over_eq, overL, h19, Nat.reduceAdd]
  go_wp2_with fail
  refine (wpIn_wide (n := 9)).1 (range_it (n := 9) (gf := gf) (lb := lb) rfl HG.out.1 xs (fun k => w3.heap.size + 2 ≤ k ∧ k < w3.heap.size + 2 + 3) (fun k => k = T) rfl ?_ (fun k e => e.1) (by omega) (by omega)
    (ToI w T xs) (fun _ _ => False) ?_ (fun _ _ _ h _ => h) ⟨by simpa using KT3.out, HB3.out⟩
    (fun x => { tmps := #[rv r, .int .i64 (n : Int), ptr w.heap.size, undef, .int .i64 0, .int .i64 0, .int .i64 0, ptr T, .int .i64 x, rv r, .int .i64 (n : Int), .int .i64 0, .int .i64 0, .bool false, undef, f 15, f 16, f 17, f 18, .func (.func gf) #[] lb, .int .i64 x, undef, undef, undef, undef], defers := [] }) .ret .ret (.inl ⟨rfl, rfl⟩) ?_ ?_ ?_ (fun _ _ _ h => h.elim))
  · intro W2 hb2 hs2
    have := HG.out.2 (9 - 1) (fun k => k = T) (w3.heap.size + 1) W2 hb2 (by rintro k e; omega) (by omega) (by omega)
    rw [hs2] at this
    exact this
  · rintro s A2 B2 ⟨h5, h6⟩ hk
    exact ⟨bk_kpt h5 hk (by omega), Kpt.belowB h6 hk (fun k e => by omega)⟩
  · intro l2 x W2 K hK
    have HK : Hid _ := hK
    clear hK
    gi_wp2
    exact HK.out
  · rintro l2 k hk W2 ⟨h5, h6⟩ hs
    have hx0 := HX.out _ (List.getElem_mem hk)
    have hq := sum_bd (xs := xs.take k) (fun x hx => HX.out x (List.mem_of_mem_take hx))
    have hl : (xs.take k).length ≤ 20000 := by rw [List.length_take]; have := HL.out; omega
    have HE : Hid ((xs.take (k + 1)).sum = (xs.take k).sum + xs[k]'hk) := sum_take hk
    obtain ⟨x, hxe⟩ : ∃ x, x = xs[k]'hk := ⟨_, rfl⟩
    rw [← hxe] at hx0 HE ⊢
    obtain ⟨q, hqe⟩ : ∃ q, q = (xs.take k).sum := ⟨_, rfl⟩
    rw [← hqe] at h5 hq HE
    have hq0 : 0 ≤ q := hq.1
    have hq1 : q ≤ 2000000000000 := by omega
    obtain ⟨hx1, hx2⟩ := hx0
    have H5 : Hid (Bk T [.int .i64 q] W2) := h5
    have H6 : Hid (Below w.heap.size w W2) := h6
    have c5 := h5.c 0 rfl
    have f5 := h5.f 0 rfl
    clear h5 h6 hxe hqe hs hk hq hl
    gi_wp2
    refine ⟨Kpt.setCell _ _ _ _ rfl, ?_, H6.out.setCell (by show w.heap.size ≤ T; omega) _⟩
    rw [HE.out]
    exact H5.out.put 0 _
  · rintro W2 ⟨h5, h6⟩ hs hd
    rw [List.take_length] at h5
    have HF2 : Hid (Below w.heap.size w (W2.putObj w3.heap.size (.deferred none))) := Kpt.belowB h6 (Kpt.putObj (fun k => k = w3.heap.size) _ _ _ rfl) (fun k e => by omega)
    have HR2 : Hid (xs.sum = totR r n) := HR.out.symm
    have c5 := h5.c 0 rfl
    clear h5 h6
    generalize xs.sum = q at *
    go_wp2
    exact leave_mark hd (v := .tuple #[.int .i64 q, .int .i64 0]) (by simp [results, Tryd.results57, go_sem]) ⟨by rw [HR2.out], HF2.out⟩
end Go.Proofs.YtgahlhfgpkklaaaDoor
