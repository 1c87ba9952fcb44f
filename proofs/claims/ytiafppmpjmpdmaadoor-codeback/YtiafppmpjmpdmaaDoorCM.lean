/- Parse walked. -/
import Derived.Test.YtiafppmpjmpdmaaDoorCK
namespace Go.Proofs.YtiafppmpjmpdmaaDoor
open Go.RowKit Go.Shelf

/-- What Parse gives back. -/
abbrev pv (n k x y z u e : Int) : Value := .tuple #[.int .i64 n, cm k x y z u, .int .i64 e]
/-- What Parse rests on. -/
structure Ps (l a b c : List UInt8) (n k x y z u : Int) (ok : Bool) (sv : Int) (sok : Bool) (sm re : Int) : Prop where
  cut : ∀ W, Tall W → ∃ fl : Bool, Calls Tryd.prog 21 #[sA l, .string ⟨#[42]⟩] W fun e w' => e = .returned (.tuple #[sA a, sA b, .bool fl]) ∧ Below W.heap.size W w'
  body : ∀ W, Tall W → Calls Tryd.prog 22 #[sA a] W fun e w' => e = .returned (.tuple #[.int .i64 n, cm k x y z u, .bool ok]) ∧ Below W.heap.size W w'
  sum : ∀ W, Tall W → Calls Tryd.prog 23 #[sA b] W fun e w' => e = .returned (.tuple #[.int .i64 sv, .bool sok]) ∧ Below W.heap.size W w'
  add : ∀ W, Calls Tryd.prog 24 #[sA a] W fun e w' => e = .returned (.int .i64 sm) ∧ w' = W
  ref : ∀ W, Tall W → Calls Tryd.prog 19 #[.int .i64 n, cm k x y z u] W fun e w' => e = .returned (.int .i64 re) ∧ Below W.heap.size W w'
set_option maxHeartbeats 6400000 in
set_option maxRecDepth 100000 in
theorem parse_nobody {l a b c : List UInt8} {n k x y z u : Int} {ok : Bool} {sv : Int} {sok : Bool} {sm re : Int} (h : Ps l a b c n k x y z u ok sv sok sm re) (hk : ok = false) (w : World) (hT : Tall w) : Calls Tryd.prog 9 #[sA l] w fun e w' => e = .returned (pv 0 0 0 0 0 0 1) ∧ Below w.heap.size w w' := by
  subst hk
  have HA0 : Hid (Bk w.heap.size z5 (w.alloc (o5 0 0 0 0 0))) := Bk.new w z5 23 _ rfl
  have HB0 : Hid (Below w.heap.size w (w.alloc (o5 0 0 0 0 0))) := (Below.refl _ _).alloc (Nat.le_refl _) _
  have HT0 : Hid (Tall (w.alloc (o5 0 0 0 0 0))) := hT.later HB0.out
  obtain ⟨fl, hcut⟩ := h.cut _ HT0.out
  have HCut : Hid (Calls Tryd.prog 21 #[sA l, .string ⟨#[42]⟩] (w.alloc (o5 0 0 0 0 0)) fun e w' => e = .returned (.tuple #[sA a, sA b, .bool fl]) ∧ Below (w.alloc (o5 0 0 0 0 0)).heap.size (w.alloc (o5 0 0 0 0 0)) w') := hcut
  have H : Hid (Ps l a b c n k x y z u false sv sok sm re) := h
  clear h hT hcut
  go_enter Tryd.func9, Tryd.ntmps9
  go_wp2_with fail
  generalize w.alloc (o5 0 0 0 0 0) = w0 at *
  obtain ⟨A, hA⟩ : ∃ A, A = w.heap.size := ⟨_, rfl⟩
  have HA : Hid (Bk A z5 w0) := by show Bk _ _ _; rw [hA]; exact HA0.out
  simp only [← hA]
  have hwA : w.heap.size ≤ A := by omega
  clear hA HA0
  refine HCut.out.mono ?_
  rintro e w1 ⟨rfl, hb⟩
  have HT1 : Hid (Tall w1) := HT0.out.later hb
  have HA1 : Hid (Bk A z5 w1) := HA.out.later hb
  have HB1 : Hid (Below w.heap.size w w1) := HB0.out.trans (hb.mono HB0.out.size)
  clear hb HCut HT0 HA HB0
  go_wp2_with fail
  refine (H.out.body _ HT1.out).mono ?_
  rintro e w2 ⟨rfl, hb⟩
  have HT2 : Hid (Tall (w2.alloc (o5 k x y z u))) := (HT1.out.later hb).later ((Below.refl _ _).alloc (Nat.le_refl _) _)
  have HA2 : Hid (Bk A z5 (w2.alloc (o5 k x y z u))) := (HA1.out.later hb).later ((Below.refl _ _).alloc (Nat.le_refl _) _)
  have HB2 : Hid (Below w.heap.size w (w2.alloc (o5 k x y z u))) := (HB1.out.trans (hb.mono HB1.out.size)).alloc (Nat.le_trans HB1.out.size hb.size) _
  have HC2 : Hid (Bk w2.heap.size (c5 k x y z u) (w2.alloc (o5 k x y z u))) := Bk.new w2 (c5 k x y z u) 23 _ rfl
  have hCA : A < w2.heap.size := Nat.lt_of_lt_of_le HA1.out.1 hb.size
  clear hb HT1 HA1 HB1
  go_wp2_with fail
  generalize w2.alloc (o5 k x y z u) = w3 at *
  obtain ⟨C, hC⟩ : ∃ C, C = w2.heap.size := ⟨_, rfl⟩
  rw [← hC] at HC2
  simp only [← hC]
  have hAC : A ≠ C := by omega
  clear hC hCA
  refine (H.out.sum _ HT2.out).mono ?_
  rintro e w4 ⟨rfl, hb⟩
  have HT4 : Hid (Tall w4) := HT2.out.later hb
  have HA4 : Hid (Bk A z5 w4) := HA2.out.later hb
  have HC4 : Hid (Bk C (c5 k x y z u) w4) := HC2.out.later hb
  have HB4 : Hid (Below w.heap.size w w4) := HB2.out.trans (hb.mono HB2.out.size)
  clear hb HT2 HA2 HC2 HB2
  have a0 := HA4.out.c 0 rfl
  have g0 := HA4.out.f 0 rfl
  have a1 := HA4.out.c 1 rfl
  have g1 := HA4.out.f 1 rfl
  have a2 := HA4.out.c 2 rfl
  have g2 := HA4.out.f 2 rfl
  have a3 := HA4.out.c 3 rfl
  have g3 := HA4.out.f 3 rfl
  have a4 := HA4.out.c 4 rfl
  have g4 := HA4.out.f 4 rfl
  have HFB : Hid (Below w.heap.size w (((((w4.setCell ⟨A, 0, none⟩ (.int .i64 0)).setCell ⟨A, 1, none⟩ (.int .i64 0)).setCell ⟨A, 2, none⟩ (.int .i64 0)).setCell ⟨A, 3, none⟩ (.int .i64 0)).setCell ⟨A, 4, none⟩ (.int .i64 0))) := ((((HB4.out.setCell hwA _).setCell hwA _).setCell hwA _).setCell hwA _).setCell hwA _
  have HFH : Hid (Bk A (c5 0 0 0 0 0) (((((w4.setCell ⟨A, 0, none⟩ (.int .i64 0)).setCell ⟨A, 1, none⟩ (.int .i64 0)).setCell ⟨A, 2, none⟩ (.int .i64 0)).setCell ⟨A, 3, none⟩ (.int .i64 0)).setCell ⟨A, 4, none⟩ (.int .i64 0))) := ((((HA4.out.put 0 _).put 1 _).put 2 _).put 3 _).put 4 _
  go_wp2
  clear a0 g0 a1 g1 a2 g2 a3 g3 a4 g4
  generalize (((((w4.setCell ⟨A, 0, none⟩ (.int .i64 0)).setCell ⟨A, 1, none⟩ (.int .i64 0)).setCell ⟨A, 2, none⟩ (.int .i64 0)).setCell ⟨A, 3, none⟩ (.int .i64 0)).setCell ⟨A, 4, none⟩ (.int .i64 0)) = w9 at *
  have r0 := HFH.out.c 0 rfl
  have r1 := HFH.out.c 1 rfl
  have r2 := HFH.out.c 2 rfl
  have r3 := HFH.out.c 3 rfl
  have r4 := HFH.out.c 4 rfl
  exact bodyPost_ret (v := pv 0 0 0 0 0 0 1) (by simp [results, Tryd.results9, go_sem, r0, r1, r2, r3, r4]) rfl ⟨rfl, HFB.out⟩
set_option maxHeartbeats 6400000 in
set_option maxRecDepth 100000 in
theorem parse_nosum {l a b c : List UInt8} {n k x y z u : Int} {ok : Bool} {sv : Int} {sok : Bool} {sm re : Int} (h : Ps l a b c n k x y z u ok sv sok sm re) (hk : ok = true) (hs : sok = false) (w : World) (hT : Tall w) : Calls Tryd.prog 9 #[sA l] w fun e w' => e = .returned (pv 0 0 0 0 0 0 1) ∧ Below w.heap.size w w' := by
  subst hk hs
  have HA0 : Hid (Bk w.heap.size z5 (w.alloc (o5 0 0 0 0 0))) := Bk.new w z5 23 _ rfl
  have HB0 : Hid (Below w.heap.size w (w.alloc (o5 0 0 0 0 0))) := (Below.refl _ _).alloc (Nat.le_refl _) _
  have HT0 : Hid (Tall (w.alloc (o5 0 0 0 0 0))) := hT.later HB0.out
  obtain ⟨fl, hcut⟩ := h.cut _ HT0.out
  have HCut : Hid (Calls Tryd.prog 21 #[sA l, .string ⟨#[42]⟩] (w.alloc (o5 0 0 0 0 0)) fun e w' => e = .returned (.tuple #[sA a, sA b, .bool fl]) ∧ Below (w.alloc (o5 0 0 0 0 0)).heap.size (w.alloc (o5 0 0 0 0 0)) w') := hcut
  have H : Hid (Ps l a b c n k x y z u true sv false sm re) := h
  clear h hT hcut
  go_enter Tryd.func9, Tryd.ntmps9
  go_wp2_with fail
  generalize w.alloc (o5 0 0 0 0 0) = w0 at *
  obtain ⟨A, hA⟩ : ∃ A, A = w.heap.size := ⟨_, rfl⟩
  have HA : Hid (Bk A z5 w0) := by show Bk _ _ _; rw [hA]; exact HA0.out
  simp only [← hA]
  have hwA : w.heap.size ≤ A := by omega
  clear hA HA0
  refine HCut.out.mono ?_
  rintro e w1 ⟨rfl, hb⟩
  have HT1 : Hid (Tall w1) := HT0.out.later hb
  have HA1 : Hid (Bk A z5 w1) := HA.out.later hb
  have HB1 : Hid (Below w.heap.size w w1) := HB0.out.trans (hb.mono HB0.out.size)
  clear hb HCut HT0 HA HB0
  go_wp2_with fail
  refine (H.out.body _ HT1.out).mono ?_
  rintro e w2 ⟨rfl, hb⟩
  have HT2 : Hid (Tall (w2.alloc (o5 k x y z u))) := (HT1.out.later hb).later ((Below.refl _ _).alloc (Nat.le_refl _) _)
  have HA2 : Hid (Bk A z5 (w2.alloc (o5 k x y z u))) := (HA1.out.later hb).later ((Below.refl _ _).alloc (Nat.le_refl _) _)
  have HB2 : Hid (Below w.heap.size w (w2.alloc (o5 k x y z u))) := (HB1.out.trans (hb.mono HB1.out.size)).alloc (Nat.le_trans HB1.out.size hb.size) _
  have HC2 : Hid (Bk w2.heap.size (c5 k x y z u) (w2.alloc (o5 k x y z u))) := Bk.new w2 (c5 k x y z u) 23 _ rfl
  have hCA : A < w2.heap.size := Nat.lt_of_lt_of_le HA1.out.1 hb.size
  clear hb HT1 HA1 HB1
  go_wp2_with fail
  generalize w2.alloc (o5 k x y z u) = w3 at *
  obtain ⟨C, hC⟩ : ∃ C, C = w2.heap.size := ⟨_, rfl⟩
  rw [← hC] at HC2
  simp only [← hC]
  have hAC : A ≠ C := by omega
  clear hC hCA
  refine (H.out.sum _ HT2.out).mono ?_
  rintro e w4 ⟨rfl, hb⟩
  have HT4 : Hid (Tall w4) := HT2.out.later hb
  have HA4 : Hid (Bk A z5 w4) := HA2.out.later hb
  have HC4 : Hid (Bk C (c5 k x y z u) w4) := HC2.out.later hb
  have HB4 : Hid (Below w.heap.size w w4) := HB2.out.trans (hb.mono HB2.out.size)
  clear hb HT2 HA2 HC2 HB2
  have a0 := HA4.out.c 0 rfl
  have g0 := HA4.out.f 0 rfl
  have a1 := HA4.out.c 1 rfl
  have g1 := HA4.out.f 1 rfl
  have a2 := HA4.out.c 2 rfl
  have g2 := HA4.out.f 2 rfl
  have a3 := HA4.out.c 3 rfl
  have g3 := HA4.out.f 3 rfl
  have a4 := HA4.out.c 4 rfl
  have g4 := HA4.out.f 4 rfl
  have HFB : Hid (Below w.heap.size w (((((w4.setCell ⟨A, 0, none⟩ (.int .i64 0)).setCell ⟨A, 1, none⟩ (.int .i64 0)).setCell ⟨A, 2, none⟩ (.int .i64 0)).setCell ⟨A, 3, none⟩ (.int .i64 0)).setCell ⟨A, 4, none⟩ (.int .i64 0))) := ((((HB4.out.setCell hwA _).setCell hwA _).setCell hwA _).setCell hwA _).setCell hwA _
  have HFH : Hid (Bk A (c5 0 0 0 0 0) (((((w4.setCell ⟨A, 0, none⟩ (.int .i64 0)).setCell ⟨A, 1, none⟩ (.int .i64 0)).setCell ⟨A, 2, none⟩ (.int .i64 0)).setCell ⟨A, 3, none⟩ (.int .i64 0)).setCell ⟨A, 4, none⟩ (.int .i64 0))) := ((((HA4.out.put 0 _).put 1 _).put 2 _).put 3 _).put 4 _
  go_wp2
  clear a0 g0 a1 g1 a2 g2 a3 g3 a4 g4
  generalize (((((w4.setCell ⟨A, 0, none⟩ (.int .i64 0)).setCell ⟨A, 1, none⟩ (.int .i64 0)).setCell ⟨A, 2, none⟩ (.int .i64 0)).setCell ⟨A, 3, none⟩ (.int .i64 0)).setCell ⟨A, 4, none⟩ (.int .i64 0)) = w9 at *
  have r0 := HFH.out.c 0 rfl
  have r1 := HFH.out.c 1 rfl
  have r2 := HFH.out.c 2 rfl
  have r3 := HFH.out.c 3 rfl
  have r4 := HFH.out.c 4 rfl
  exact bodyPost_ret (v := pv 0 0 0 0 0 0 1) (by simp [results, Tryd.results9, go_sem, r0, r1, r2, r3, r4]) rfl ⟨rfl, HFB.out⟩
set_option maxHeartbeats 6400000 in
set_option maxRecDepth 100000 in
theorem parse_othersum {l a b c : List UInt8} {n k x y z u : Int} {ok : Bool} {sv : Int} {sok : Bool} {sm re : Int} (h : Ps l a b c n k x y z u ok sv sok sm re) (hk : ok = true) (hs : sok = true) (hm : sv ≠ sm) (w : World) (hT : Tall w) : Calls Tryd.prog 9 #[sA l] w fun e w' => e = .returned (pv 0 0 0 0 0 0 14) ∧ Below w.heap.size w w' := by
  subst hk hs
  have p1 : (sv == sm) = false := by rw [beq_eq_false_iff_ne]; exact hm
  have p2 : (sv != sm) = true := by rw [bne_iff_ne]; exact hm
  clear hm
  have HA0 : Hid (Bk w.heap.size z5 (w.alloc (o5 0 0 0 0 0))) := Bk.new w z5 23 _ rfl
  have HB0 : Hid (Below w.heap.size w (w.alloc (o5 0 0 0 0 0))) := (Below.refl _ _).alloc (Nat.le_refl _) _
  have HT0 : Hid (Tall (w.alloc (o5 0 0 0 0 0))) := hT.later HB0.out
  obtain ⟨fl, hcut⟩ := h.cut _ HT0.out
  have HCut : Hid (Calls Tryd.prog 21 #[sA l, .string ⟨#[42]⟩] (w.alloc (o5 0 0 0 0 0)) fun e w' => e = .returned (.tuple #[sA a, sA b, .bool fl]) ∧ Below (w.alloc (o5 0 0 0 0 0)).heap.size (w.alloc (o5 0 0 0 0 0)) w') := hcut
  have H : Hid (Ps l a b c n k x y z u true sv true sm re) := h
  clear h hT hcut
  go_enter Tryd.func9, Tryd.ntmps9
  go_wp2_with fail
  generalize w.alloc (o5 0 0 0 0 0) = w0 at *
  obtain ⟨A, hA⟩ : ∃ A, A = w.heap.size := ⟨_, rfl⟩
  have HA : Hid (Bk A z5 w0) := by show Bk _ _ _; rw [hA]; exact HA0.out
  simp only [← hA]
  have hwA : w.heap.size ≤ A := by omega
  clear hA HA0
  refine HCut.out.mono ?_
  rintro e w1 ⟨rfl, hb⟩
  have HT1 : Hid (Tall w1) := HT0.out.later hb
  have HA1 : Hid (Bk A z5 w1) := HA.out.later hb
  have HB1 : Hid (Below w.heap.size w w1) := HB0.out.trans (hb.mono HB0.out.size)
  clear hb HCut HT0 HA HB0
  go_wp2_with fail
  refine (H.out.body _ HT1.out).mono ?_
  rintro e w2 ⟨rfl, hb⟩
  have HT2 : Hid (Tall (w2.alloc (o5 k x y z u))) := (HT1.out.later hb).later ((Below.refl _ _).alloc (Nat.le_refl _) _)
  have HA2 : Hid (Bk A z5 (w2.alloc (o5 k x y z u))) := (HA1.out.later hb).later ((Below.refl _ _).alloc (Nat.le_refl _) _)
  have HB2 : Hid (Below w.heap.size w (w2.alloc (o5 k x y z u))) := (HB1.out.trans (hb.mono HB1.out.size)).alloc (Nat.le_trans HB1.out.size hb.size) _
  have HC2 : Hid (Bk w2.heap.size (c5 k x y z u) (w2.alloc (o5 k x y z u))) := Bk.new w2 (c5 k x y z u) 23 _ rfl
  have hCA : A < w2.heap.size := Nat.lt_of_lt_of_le HA1.out.1 hb.size
  clear hb HT1 HA1 HB1
  go_wp2_with fail
  generalize w2.alloc (o5 k x y z u) = w3 at *
  obtain ⟨C, hC⟩ : ∃ C, C = w2.heap.size := ⟨_, rfl⟩
  rw [← hC] at HC2
  simp only [← hC]
  have hAC : A ≠ C := by omega
  clear hC hCA
  refine (H.out.sum _ HT2.out).mono ?_
  rintro e w4 ⟨rfl, hb⟩
  have HT4 : Hid (Tall w4) := HT2.out.later hb
  have HA4 : Hid (Bk A z5 w4) := HA2.out.later hb
  have HC4 : Hid (Bk C (c5 k x y z u) w4) := HC2.out.later hb
  have HB4 : Hid (Below w.heap.size w w4) := HB2.out.trans (hb.mono HB2.out.size)
  clear hb HT2 HA2 HC2 HB2
  go_wp2_with fail
  refine (H.out.add _).mono ?_
  rintro e w5 ⟨rfl, hw⟩
  subst hw
  have a0 := HA4.out.c 0 rfl
  have g0 := HA4.out.f 0 rfl
  have a1 := HA4.out.c 1 rfl
  have g1 := HA4.out.f 1 rfl
  have a2 := HA4.out.c 2 rfl
  have g2 := HA4.out.f 2 rfl
  have a3 := HA4.out.c 3 rfl
  have g3 := HA4.out.f 3 rfl
  have a4 := HA4.out.c 4 rfl
  have g4 := HA4.out.f 4 rfl
  have HFB : Hid (Below w.heap.size w (((((w5.setCell ⟨A, 0, none⟩ (.int .i64 0)).setCell ⟨A, 1, none⟩ (.int .i64 0)).setCell ⟨A, 2, none⟩ (.int .i64 0)).setCell ⟨A, 3, none⟩ (.int .i64 0)).setCell ⟨A, 4, none⟩ (.int .i64 0))) := ((((HB4.out.setCell hwA _).setCell hwA _).setCell hwA _).setCell hwA _).setCell hwA _
  have HFH : Hid (Bk A (c5 0 0 0 0 0) (((((w5.setCell ⟨A, 0, none⟩ (.int .i64 0)).setCell ⟨A, 1, none⟩ (.int .i64 0)).setCell ⟨A, 2, none⟩ (.int .i64 0)).setCell ⟨A, 3, none⟩ (.int .i64 0)).setCell ⟨A, 4, none⟩ (.int .i64 0))) := ((((HA4.out.put 0 _).put 1 _).put 2 _).put 3 _).put 4 _
  go_wp2
  clear a0 g0 a1 g1 a2 g2 a3 g3 a4 g4
  generalize (((((w5.setCell ⟨A, 0, none⟩ (.int .i64 0)).setCell ⟨A, 1, none⟩ (.int .i64 0)).setCell ⟨A, 2, none⟩ (.int .i64 0)).setCell ⟨A, 3, none⟩ (.int .i64 0)).setCell ⟨A, 4, none⟩ (.int .i64 0)) = w9 at *
  have r0 := HFH.out.c 0 rfl
  have r1 := HFH.out.c 1 rfl
  have r2 := HFH.out.c 2 rfl
  have r3 := HFH.out.c 3 rfl
  have r4 := HFH.out.c 4 rfl
  exact bodyPost_ret (v := pv 0 0 0 0 0 0 14) (by simp [results, Tryd.results9, go_sem, r0, r1, r2, r3, r4]) rfl ⟨rfl, HFB.out⟩
set_option maxHeartbeats 6400000 in
set_option maxRecDepth 100000 in
theorem parse_refused {l a b c : List UInt8} {n k x y z u : Int} {ok : Bool} {sv : Int} {sok : Bool} {sm re : Int} (h : Ps l a b c n k x y z u ok sv sok sm re) (hk : ok = true) (hs : sok = true) (hm : sv = sm) (hr : re ≠ 0) (w : World) (hT : Tall w) : Calls Tryd.prog 9 #[sA l] w fun e w' => e = .returned (pv 0 0 0 0 0 0 re) ∧ Below w.heap.size w w' := by
  subst hk hs hm
  have p1 : (re == 0) = false := by rw [beq_eq_false_iff_ne]; exact hr
  have p2 : (re != 0) = true := by rw [bne_iff_ne]; exact hr
  clear hr
  have HA0 : Hid (Bk w.heap.size z5 (w.alloc (o5 0 0 0 0 0))) := Bk.new w z5 23 _ rfl
  have HB0 : Hid (Below w.heap.size w (w.alloc (o5 0 0 0 0 0))) := (Below.refl _ _).alloc (Nat.le_refl _) _
  have HT0 : Hid (Tall (w.alloc (o5 0 0 0 0 0))) := hT.later HB0.out
  obtain ⟨fl, hcut⟩ := h.cut _ HT0.out
  have HCut : Hid (Calls Tryd.prog 21 #[sA l, .string ⟨#[42]⟩] (w.alloc (o5 0 0 0 0 0)) fun e w' => e = .returned (.tuple #[sA a, sA b, .bool fl]) ∧ Below (w.alloc (o5 0 0 0 0 0)).heap.size (w.alloc (o5 0 0 0 0 0)) w') := hcut
  have H : Hid (Ps l a b c n k x y z u true sv true sv re) := h
  clear h hT hcut
  go_enter Tryd.func9, Tryd.ntmps9
  go_wp2_with fail
  generalize w.alloc (o5 0 0 0 0 0) = w0 at *
  obtain ⟨A, hA⟩ : ∃ A, A = w.heap.size := ⟨_, rfl⟩
  have HA : Hid (Bk A z5 w0) := by show Bk _ _ _; rw [hA]; exact HA0.out
  simp only [← hA]
  have hwA : w.heap.size ≤ A := by omega
  clear hA HA0
  refine HCut.out.mono ?_
  rintro e w1 ⟨rfl, hb⟩
  have HT1 : Hid (Tall w1) := HT0.out.later hb
  have HA1 : Hid (Bk A z5 w1) := HA.out.later hb
  have HB1 : Hid (Below w.heap.size w w1) := HB0.out.trans (hb.mono HB0.out.size)
  clear hb HCut HT0 HA HB0
  go_wp2_with fail
  refine (H.out.body _ HT1.out).mono ?_
  rintro e w2 ⟨rfl, hb⟩
  have HT2 : Hid (Tall (w2.alloc (o5 k x y z u))) := (HT1.out.later hb).later ((Below.refl _ _).alloc (Nat.le_refl _) _)
  have HA2 : Hid (Bk A z5 (w2.alloc (o5 k x y z u))) := (HA1.out.later hb).later ((Below.refl _ _).alloc (Nat.le_refl _) _)
  have HB2 : Hid (Below w.heap.size w (w2.alloc (o5 k x y z u))) := (HB1.out.trans (hb.mono HB1.out.size)).alloc (Nat.le_trans HB1.out.size hb.size) _
  have HC2 : Hid (Bk w2.heap.size (c5 k x y z u) (w2.alloc (o5 k x y z u))) := Bk.new w2 (c5 k x y z u) 23 _ rfl
  have hCA : A < w2.heap.size := Nat.lt_of_lt_of_le HA1.out.1 hb.size
  clear hb HT1 HA1 HB1
  go_wp2_with fail
  generalize w2.alloc (o5 k x y z u) = w3 at *
  obtain ⟨C, hC⟩ : ∃ C, C = w2.heap.size := ⟨_, rfl⟩
  rw [← hC] at HC2
  simp only [← hC]
  have hAC : A ≠ C := by omega
  clear hC hCA
  refine (H.out.sum _ HT2.out).mono ?_
  rintro e w4 ⟨rfl, hb⟩
  have HT4 : Hid (Tall w4) := HT2.out.later hb
  have HA4 : Hid (Bk A z5 w4) := HA2.out.later hb
  have HC4 : Hid (Bk C (c5 k x y z u) w4) := HC2.out.later hb
  have HB4 : Hid (Below w.heap.size w w4) := HB2.out.trans (hb.mono HB2.out.size)
  clear hb HT2 HA2 HC2 HB2
  go_wp2_with fail
  refine (H.out.add _).mono ?_
  rintro e w5 ⟨rfl, hw⟩
  subst hw
  have d0 := HC4.out.c 0 rfl
  have d1 := HC4.out.c 1 rfl
  have d2 := HC4.out.c 2 rfl
  have d3 := HC4.out.c 3 rfl
  have d4 := HC4.out.c 4 rfl
  go_wp2_with fail
  refine (H.out.ref _ HT4.out).mono ?_
  rintro e w6 ⟨rfl, hb⟩
  have HA6 : Hid (Bk A z5 w6) := HA4.out.later hb
  have HC6 : Hid (Bk C (c5 k x y z u) w6) := HC4.out.later hb
  have HB6 : Hid (Below w.heap.size w w6) := HB4.out.trans (hb.mono HB4.out.size)
  clear hb HA4 HC4 HB4 HT4
  clear d0 d1 d2 d3 d4
  have a0 := HA6.out.c 0 rfl
  have g0 := HA6.out.f 0 rfl
  have a1 := HA6.out.c 1 rfl
  have g1 := HA6.out.f 1 rfl
  have a2 := HA6.out.c 2 rfl
  have g2 := HA6.out.f 2 rfl
  have a3 := HA6.out.c 3 rfl
  have g3 := HA6.out.f 3 rfl
  have a4 := HA6.out.c 4 rfl
  have g4 := HA6.out.f 4 rfl
  have HFB : Hid (Below w.heap.size w (((((w6.setCell ⟨A, 0, none⟩ (.int .i64 0)).setCell ⟨A, 1, none⟩ (.int .i64 0)).setCell ⟨A, 2, none⟩ (.int .i64 0)).setCell ⟨A, 3, none⟩ (.int .i64 0)).setCell ⟨A, 4, none⟩ (.int .i64 0))) := ((((HB6.out.setCell hwA _).setCell hwA _).setCell hwA _).setCell hwA _).setCell hwA _
  have HFH : Hid (Bk A (c5 0 0 0 0 0) (((((w6.setCell ⟨A, 0, none⟩ (.int .i64 0)).setCell ⟨A, 1, none⟩ (.int .i64 0)).setCell ⟨A, 2, none⟩ (.int .i64 0)).setCell ⟨A, 3, none⟩ (.int .i64 0)).setCell ⟨A, 4, none⟩ (.int .i64 0))) := ((((HA6.out.put 0 _).put 1 _).put 2 _).put 3 _).put 4 _
  go_wp2
  clear a0 g0 a1 g1 a2 g2 a3 g3 a4 g4
  generalize (((((w6.setCell ⟨A, 0, none⟩ (.int .i64 0)).setCell ⟨A, 1, none⟩ (.int .i64 0)).setCell ⟨A, 2, none⟩ (.int .i64 0)).setCell ⟨A, 3, none⟩ (.int .i64 0)).setCell ⟨A, 4, none⟩ (.int .i64 0)) = w9 at *
  have r0 := HFH.out.c 0 rfl
  have r1 := HFH.out.c 1 rfl
  have r2 := HFH.out.c 2 rfl
  have r3 := HFH.out.c 3 rfl
  have r4 := HFH.out.c 4 rfl
  exact bodyPost_ret (v := pv 0 0 0 0 0 0 re) (by simp [results, Tryd.results9, go_sem, r0, r1, r2, r3, r4]) rfl ⟨rfl, HFB.out⟩
set_option maxHeartbeats 6400000 in
set_option maxRecDepth 100000 in
theorem parse_told {l a b c : List UInt8} {n k x y z u : Int} {ok : Bool} {sv : Int} {sok : Bool} {sm re : Int} (h : Ps l a b c n k x y z u ok sv sok sm re) (hk : ok = true) (hs : sok = true) (hm : sv = sm) (hr : re = 0) (w : World) (hT : Tall w) : Calls Tryd.prog 9 #[sA l] w fun e w' => e = .returned (pv n k x y z u 0) ∧ Below w.heap.size w w' := by
  subst hk hs hm hr
  have HA0 : Hid (Bk w.heap.size z5 (w.alloc (o5 0 0 0 0 0))) := Bk.new w z5 23 _ rfl
  have HB0 : Hid (Below w.heap.size w (w.alloc (o5 0 0 0 0 0))) := (Below.refl _ _).alloc (Nat.le_refl _) _
  have HT0 : Hid (Tall (w.alloc (o5 0 0 0 0 0))) := hT.later HB0.out
  obtain ⟨fl, hcut⟩ := h.cut _ HT0.out
  have HCut : Hid (Calls Tryd.prog 21 #[sA l, .string ⟨#[42]⟩] (w.alloc (o5 0 0 0 0 0)) fun e w' => e = .returned (.tuple #[sA a, sA b, .bool fl]) ∧ Below (w.alloc (o5 0 0 0 0 0)).heap.size (w.alloc (o5 0 0 0 0 0)) w') := hcut
  have H : Hid (Ps l a b c n k x y z u true sv true sv 0) := h
  clear h hT hcut
  go_enter Tryd.func9, Tryd.ntmps9
  go_wp2_with fail
  generalize w.alloc (o5 0 0 0 0 0) = w0 at *
  obtain ⟨A, hA⟩ : ∃ A, A = w.heap.size := ⟨_, rfl⟩
  have HA : Hid (Bk A z5 w0) := by show Bk _ _ _; rw [hA]; exact HA0.out
  simp only [← hA]
  have hwA : w.heap.size ≤ A := by omega
  clear hA HA0
  refine HCut.out.mono ?_
  rintro e w1 ⟨rfl, hb⟩
  have HT1 : Hid (Tall w1) := HT0.out.later hb
  have HA1 : Hid (Bk A z5 w1) := HA.out.later hb
  have HB1 : Hid (Below w.heap.size w w1) := HB0.out.trans (hb.mono HB0.out.size)
  clear hb HCut HT0 HA HB0
  go_wp2_with fail
  refine (H.out.body _ HT1.out).mono ?_
  rintro e w2 ⟨rfl, hb⟩
  have HT2 : Hid (Tall (w2.alloc (o5 k x y z u))) := (HT1.out.later hb).later ((Below.refl _ _).alloc (Nat.le_refl _) _)
  have HA2 : Hid (Bk A z5 (w2.alloc (o5 k x y z u))) := (HA1.out.later hb).later ((Below.refl _ _).alloc (Nat.le_refl _) _)
  have HB2 : Hid (Below w.heap.size w (w2.alloc (o5 k x y z u))) := (HB1.out.trans (hb.mono HB1.out.size)).alloc (Nat.le_trans HB1.out.size hb.size) _
  have HC2 : Hid (Bk w2.heap.size (c5 k x y z u) (w2.alloc (o5 k x y z u))) := Bk.new w2 (c5 k x y z u) 23 _ rfl
  have hCA : A < w2.heap.size := Nat.lt_of_lt_of_le HA1.out.1 hb.size
  clear hb HT1 HA1 HB1
  go_wp2_with fail
  generalize w2.alloc (o5 k x y z u) = w3 at *
  obtain ⟨C, hC⟩ : ∃ C, C = w2.heap.size := ⟨_, rfl⟩
  rw [← hC] at HC2
  simp only [← hC]
  have hAC : A ≠ C := by omega
  clear hC hCA
  refine (H.out.sum _ HT2.out).mono ?_
  rintro e w4 ⟨rfl, hb⟩
  have HT4 : Hid (Tall w4) := HT2.out.later hb
  have HA4 : Hid (Bk A z5 w4) := HA2.out.later hb
  have HC4 : Hid (Bk C (c5 k x y z u) w4) := HC2.out.later hb
  have HB4 : Hid (Below w.heap.size w w4) := HB2.out.trans (hb.mono HB2.out.size)
  clear hb HT2 HA2 HC2 HB2
  go_wp2_with fail
  refine (H.out.add _).mono ?_
  rintro e w5 ⟨rfl, hw⟩
  subst hw
  have d0 := HC4.out.c 0 rfl
  have d1 := HC4.out.c 1 rfl
  have d2 := HC4.out.c 2 rfl
  have d3 := HC4.out.c 3 rfl
  have d4 := HC4.out.c 4 rfl
  go_wp2_with fail
  refine (H.out.ref _ HT4.out).mono ?_
  rintro e w6 ⟨rfl, hb⟩
  have HA6 : Hid (Bk A z5 w6) := HA4.out.later hb
  have HC6 : Hid (Bk C (c5 k x y z u) w6) := HC4.out.later hb
  have HB6 : Hid (Below w.heap.size w w6) := HB4.out.trans (hb.mono HB4.out.size)
  clear hb HA4 HC4 HB4 HT4
  clear d0 d1 d2 d3 d4
  go_wp2_with fail
  have a0 := HA6.out.c 0 rfl
  have g0 := HA6.out.f 0 rfl
  have a1 := HA6.out.c 1 rfl
  have g1 := HA6.out.f 1 rfl
  have a2 := HA6.out.c 2 rfl
  have g2 := HA6.out.f 2 rfl
  have a3 := HA6.out.c 3 rfl
  have g3 := HA6.out.f 3 rfl
  have a4 := HA6.out.c 4 rfl
  have g4 := HA6.out.f 4 rfl
  have d0 := HC6.out.c 0 rfl
  have d1 := HC6.out.c 1 rfl
  have d2 := HC6.out.c 2 rfl
  have d3 := HC6.out.c 3 rfl
  have d4 := HC6.out.c 4 rfl
  have HFB : Hid (Below w.heap.size w (((((w6.setCell ⟨A, 0, none⟩ (.int .i64 k)).setCell ⟨A, 1, none⟩ (.int .i64 x)).setCell ⟨A, 2, none⟩ (.int .i64 y)).setCell ⟨A, 3, none⟩ (.int .i64 z)).setCell ⟨A, 4, none⟩ (.int .i64 u))) := ((((HB6.out.setCell hwA _).setCell hwA _).setCell hwA _).setCell hwA _).setCell hwA _
  have HFH : Hid (Bk A (c5 k x y z u) (((((w6.setCell ⟨A, 0, none⟩ (.int .i64 k)).setCell ⟨A, 1, none⟩ (.int .i64 x)).setCell ⟨A, 2, none⟩ (.int .i64 y)).setCell ⟨A, 3, none⟩ (.int .i64 z)).setCell ⟨A, 4, none⟩ (.int .i64 u))) := ((((HA6.out.put 0 _).put 1 _).put 2 _).put 3 _).put 4 _
  go_region
  go_wp2
  clear a0 g0 a1 g1 a2 g2 a3 g3 a4 g4
  clear d0 d1 d2 d3 d4
  generalize (((((w6.setCell ⟨A, 0, none⟩ (.int .i64 k)).setCell ⟨A, 1, none⟩ (.int .i64 x)).setCell ⟨A, 2, none⟩ (.int .i64 y)).setCell ⟨A, 3, none⟩ (.int .i64 z)).setCell ⟨A, 4, none⟩ (.int .i64 u)) = w8 at *
  have HFB2 : Hid (Below w.heap.size w w8.drew) := HFB.out.drew
  have HFH2 : Hid (Bk A (c5 k x y z u) w8.drew) := HFH.out.later ((Below.refl _ _).drew)
  generalize w8.drew = w9 at *
  have r0 := HFH2.out.c 0 rfl
  have r1 := HFH2.out.c 1 rfl
  have r2 := HFH2.out.c 2 rfl
  have r3 := HFH2.out.c 3 rfl
  have r4 := HFH2.out.c 4 rfl
  exact bodyPost_ret (v := pv n k x y z u 0) (by simp [results, Tryd.results9, go_sem, r0, r1, r2, r3, r4]) rfl ⟨rfl, HFB2.out⟩

theorem ps_of (l : List UInt8) (hl : l.length < 4294967281) : Ps l (pA l) (pB l) [] (bN (pA l)) (bK (pA l)) (bX (pA l) 0) (bX (pA l) 1) (bX (pA l) 2) (bX (pA l) 3) (bOk (pA l)) (sV (pB l)) (sOk (pB l)) (sumL (pA l)) (refuC (bN (pA l)) (bK (pA l)) (bX (pA l) 0) (bX (pA l) 1) (bX (pA l) 2) (bX (pA l) 3)) := by
  have hp : (pA l).length ≤ l.length ∧ (pB l).length ≤ l.length := by
    unfold pA pB
    rcases cut_parts (c := 42) l with ⟨_, hc⟩ | ⟨a, r, hl, _, hc⟩
    · rw [hc]; simp
    · rw [hc, hl]; simp; omega
  refine ⟨fun W h => ⟨(Lib.cut l [42]).2.2, cutB l [42] W hl h⟩, fun W h => readBody_any (pA l) W (by omega) h, fun W h => readSum_any (pB l) W (by omega) h, fun W => ?_, fun W h => refusal_any _ _ _ _ _ _ W h.tabs.words⟩
  exact sumOf_any ⟨(pA l).toArray⟩ W (by simp [ByteArray.size]; omega)
/-- What is told is nothing beside an error. -/
def ifz (e a : Int) : Int := if e = 0 then a else 0
theorem parse_any (l : List UInt8) (w : World) (hl : l.length < 4294967281) (hT : Tall w) : Calls Tryd.prog 9 #[sA l] w fun e w' => e = .returned (pv (ifz (parE l) (bN (pA l))) (ifz (parE l) (bK (pA l))) (ifz (parE l) (bX (pA l) 0)) (ifz (parE l) (bX (pA l) 1)) (ifz (parE l) (bX (pA l) 2)) (ifz (parE l) (bX (pA l) 3)) (parE l)) ∧ Below w.heap.size w w' := by
  have h := ps_of l hl
  have hE : parE l = if (bOk (pA l) && sOk (pB l)) = false then 1 else if sV (pB l) ≠ sumL (pA l) then 14 else refuC (bN (pA l)) (bK (pA l)) (bX (pA l) 0) (bX (pA l) 1) (bX (pA l) 2) (bX (pA l) 3) := rfl
  generalize parE l = e at *
  generalize refuC (bN (pA l)) (bK (pA l)) (bX (pA l) 0) (bX (pA l) 1) (bX (pA l) 2) (bX (pA l) 3) = re at *
  have hz : e ≠ 0 → ∀ a, ifz e a = 0 := fun hr a => by unfold ifz; rw [if_neg hr]
  have ho : e = 0 → ∀ a, ifz e a = a := fun hr a => by unfold ifz; rw [if_pos hr]
  cases hb : bOk (pA l) with
  | false =>
    rw [hb] at hE h
    have e1 : e = 1 := by simpa using hE
    simp only [hz (by omega)]
    rw [e1]
    exact parse_nobody h rfl w hT
  | true =>
    cases hs : sOk (pB l) with
    | false =>
      rw [hb, hs] at hE h
      have e1 : e = 1 := by simpa using hE
      simp only [hz (by omega)]
      rw [e1]
      exact parse_nosum h rfl rfl w hT
    | true =>
      rw [hb, hs, if_neg (by simp)] at hE
      rw [hb, hs] at h
      by_cases hm : sV (pB l) = sumL (pA l)
      · rw [if_neg (fun q => q hm)] at hE
        by_cases hr : e = 0
        · simp only [ho hr]
          rw [hr]
          exact parse_told h rfl rfl hm (hE.symm.trans hr) w hT
        · simp only [hz hr]
          rw [hE]
          exact parse_refused h rfl rfl hm (fun q => hr (hE.trans q)) w hT
      · rw [if_pos hm] at hE
        simp only [hz (by omega)]
        rw [hE]
        exact parse_othersum h rfl rfl hm w hT
end Go.Proofs.YtiafppmpjmpdmaaDoor
