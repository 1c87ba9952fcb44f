/- space.Move walked. -/
import Derived.Test.YtiafcgbohckmmaaPf
namespace Go.Proofs.Ytiafcgbohckmmaa
open Go.RowKit

set_option maxHeartbeats 3200000 in
set_option maxRecDepth 100000 in
theorem move_bad (a : Bx) (p : Pt) (w : World) (hr : bad1 a ≠ 0) :
    Calls Try.prog 11 #[bv a, pv p] w fun e w' => e = .returned (.tuple #[bv (zB), .int .i64 (bad1 a)]) ∧ Below w.heap.size w w' := by
  have hne : (bad1 a != 0) = true := by simp [hr]
  clear hr
  have HB0 : Hid (Below w.heap.size w w) := Below.refl _ _
  go_enter Try.func11, Try.ntmps11
  go_wp2_with fail
  refine (refusal1r a _ rfl (((w.alloc (bo (a))).alloc (po (p))).alloc (bo (zB))) (w.heap.size + 1 + 1 + 1) (by simp)).mono ?_
  rintro e w1 ⟨rfl, hb1⟩
  have hal : Below w.heap.size w ((((w.alloc (bo (a))).alloc (po (p))).alloc (bo (zB))).alloc (bo (a))) := (below_grow _ (Nat.le_refl _) (below_grow _ (Nat.le_refl _) (below_grow _ (Nat.le_refl _) (below_grow _ (Nat.le_refl _) (Below.refl _ _) _) _) _) _)
  have hn : Below w.heap.size w w1 := hal.trans (hb1.mono hal.size)
  have HB1 : Hid (Below w.heap.size w w1) := HB0.out.trans (hn.mono HB0.out.size)
  have Ka1 : Hid (Bf (w.heap.size) (a) w1) := by
    have h := ((Bf.new w (a)).later (below_grow _ (Nat.le_refl _) (below_grow _ (Nat.le_refl _) (below_grow _ (Nat.le_refl _) (Below.refl _ _) _) _) _)).later hb1
    show Bf _ _ _
    simpa using h
  have Kp1 : Hid (Pf (w.heap.size + 1) (p) w1) := by
    have h := ((Pf.new (w.alloc (bo (a))) (p)).later (below_grow _ (Nat.le_refl _) (below_grow _ (Nat.le_refl _) (Below.refl _ _) _) _)).later hb1
    show Pf _ _ _
    simpa using h
  have Kr1 : Hid (Bf (w.heap.size + 1 + 1) (zB) w1) := by
    have h := ((Bf.new ((w.alloc (bo (a))).alloc (po (p))) (zB)).later (below_grow _ (Nat.le_refl _) (Below.refl _ _) _)).later hb1
    show Bf _ _ _
    simpa using h
  clear hal hn hb1
  obtain ⟨⟨rl, r0, r1, r2, r3, r4, r5⟩, rf0, rf1, rf2, rf3, rf4, rf5⟩ := Kr1.out
  simp only [Nat.zero_add] at r1 r2 r3 r4 r5
  go_wp2
  refine bodyPost_ret (v := .tuple #[bv (zB), .int .i64 (bad1 a)]) (by simp [results, Try.results11, go_sem, r0, r1, r2, r3, r4, r5]) rfl ⟨rfl, ?_⟩
  exact below_put6 (a := zB) HB1.out (by omega)
set_option maxHeartbeats 3200000 in
set_option maxRecDepth 100000 in
theorem move_far (a : Bx) (p : Pt) (w : World) (hr : bad1 a = 0) (hp : nearP p = false) :
    Calls Try.prog 11 #[bv a, pv p] w fun e w' => e = .returned (.tuple #[bv (zB), .int .i64 (2)]) ∧ Below w.heap.size w w' := by
  have HR : Hid (bad1 a = 0) := hr
  have HP : Hid (nearP p = false) := hp
  clear hr hp
  have HB0 : Hid (Below w.heap.size w w) := Below.refl _ _
  go_enter Try.func11, Try.ntmps11
  go_wp2_with fail
  refine (refusal1r a _ HR.out (((w.alloc (bo (a))).alloc (po (p))).alloc (bo (zB))) (w.heap.size + 1 + 1 + 1) (by simp)).mono ?_
  rintro e w1 ⟨rfl, hb1⟩
  have hal : Below w.heap.size w ((((w.alloc (bo (a))).alloc (po (p))).alloc (bo (zB))).alloc (bo (a))) := (below_grow _ (Nat.le_refl _) (below_grow _ (Nat.le_refl _) (below_grow _ (Nat.le_refl _) (below_grow _ (Nat.le_refl _) (Below.refl _ _) _) _) _) _)
  have hn : Below w.heap.size w w1 := hal.trans (hb1.mono hal.size)
  have HB1 : Hid (Below w.heap.size w w1) := HB0.out.trans (hn.mono HB0.out.size)
  have Ka1 : Hid (Bf (w.heap.size) (a) w1) := by
    have h := ((Bf.new w (a)).later (below_grow _ (Nat.le_refl _) (below_grow _ (Nat.le_refl _) (below_grow _ (Nat.le_refl _) (Below.refl _ _) _) _) _)).later hb1
    show Bf _ _ _
    simpa using h
  have Kp1 : Hid (Pf (w.heap.size + 1) (p) w1) := by
    have h := ((Pf.new (w.alloc (bo (a))) (p)).later (below_grow _ (Nat.le_refl _) (below_grow _ (Nat.le_refl _) (Below.refl _ _) _) _)).later hb1
    show Pf _ _ _
    simpa using h
  have Kr1 : Hid (Bf (w.heap.size + 1 + 1) (zB) w1) := by
    have h := ((Bf.new ((w.alloc (bo (a))).alloc (po (p))) (zB)).later (below_grow _ (Nat.le_refl _) (Below.refl _ _) _)).later hb1
    show Bf _ _ _
    simpa using h
  clear hal hn hb1
  obtain ⟨pl, p0, p1, p2⟩ := Kp1.out
  go_wp2_with fail
  refine (near1r p false HP.out w1 w1.heap.size rfl).mono ?_
  rintro e w2 ⟨rfl, hb2⟩
  clear pl p0 p1 p2
  have hal : Below w1.heap.size w1 (w1.alloc (po (p))) := (below_grow _ (Nat.le_refl _) (Below.refl _ _) _)
  have hn : Below w1.heap.size w1 w2 := hal.trans (hb2.mono hal.size)
  have HB2 : Hid (Below w.heap.size w w2) := HB1.out.trans (hn.mono HB1.out.size)
  have Ka2 : Hid (Bf (w.heap.size) (a) w2) := Ka1.out.later hn
  have Kp2 : Hid (Pf (w.heap.size + 1) (p) w2) := Kp1.out.later hn
  have Kr2 : Hid (Bf (w.heap.size + 1 + 1) (zB) w2) := Kr1.out.later hn
  clear hal hn hb2
  obtain ⟨⟨rl, r0, r1, r2, r3, r4, r5⟩, rf0, rf1, rf2, rf3, rf4, rf5⟩ := Kr2.out
  simp only [Nat.zero_add] at r1 r2 r3 r4 r5
  go_wp2
  refine bodyPost_ret (v := .tuple #[bv (zB), .int .i64 (2)]) (by simp [results, Try.results11, go_sem, r0, r1, r2, r3, r4, r5]) rfl ⟨rfl, ?_⟩
  exact below_put6 (a := zB) HB2.out (by omega)
set_option maxHeartbeats 3200000 in
set_option maxRecDepth 100000 in
theorem move_out (a : Bx) (p : Pt) (w : World) (hr : bad1 a = 0) (hp : nearP p = true) (hm : nearB (movB a p) = false) :
    Calls Try.prog 11 #[bv a, pv p] w fun e w' => e = .returned (.tuple #[bv (zB), .int .i64 (2)]) ∧ Below w.heap.size w w' := by
  have HR : Hid (bad1 a = 0) := hr
  have HP : Hid (nearP p = true) := hp
  have HM : Hid (nearB (movB a p) = false) := hm
  clear hr hp hm
  have HB0 : Hid (Below w.heap.size w w) := Below.refl _ _
  go_enter Try.func11, Try.ntmps11
  go_wp2_with fail
  refine (refusal1r a _ HR.out (((w.alloc (bo (a))).alloc (po (p))).alloc (bo (zB))) (w.heap.size + 1 + 1 + 1) (by simp)).mono ?_
  rintro e w1 ⟨rfl, hb1⟩
  have hal : Below w.heap.size w ((((w.alloc (bo (a))).alloc (po (p))).alloc (bo (zB))).alloc (bo (a))) := (below_grow _ (Nat.le_refl _) (below_grow _ (Nat.le_refl _) (below_grow _ (Nat.le_refl _) (below_grow _ (Nat.le_refl _) (Below.refl _ _) _) _) _) _)
  have hn : Below w.heap.size w w1 := hal.trans (hb1.mono hal.size)
  have HB1 : Hid (Below w.heap.size w w1) := HB0.out.trans (hn.mono HB0.out.size)
  have Ka1 : Hid (Bf (w.heap.size) (a) w1) := by
    have h := ((Bf.new w (a)).later (below_grow _ (Nat.le_refl _) (below_grow _ (Nat.le_refl _) (below_grow _ (Nat.le_refl _) (Below.refl _ _) _) _) _)).later hb1
    show Bf _ _ _
    simpa using h
  have Kp1 : Hid (Pf (w.heap.size + 1) (p) w1) := by
    have h := ((Pf.new (w.alloc (bo (a))) (p)).later (below_grow _ (Nat.le_refl _) (below_grow _ (Nat.le_refl _) (Below.refl _ _) _) _)).later hb1
    show Pf _ _ _
    simpa using h
  have Kr1 : Hid (Bf (w.heap.size + 1 + 1) (zB) w1) := by
    have h := ((Bf.new ((w.alloc (bo (a))).alloc (po (p))) (zB)).later (below_grow _ (Nat.le_refl _) (Below.refl _ _) _)).later hb1
    show Bf _ _ _
    simpa using h
  clear hal hn hb1
  obtain ⟨pl, p0, p1, p2⟩ := Kp1.out
  go_wp2_with fail
  refine (near1r p true HP.out w1 w1.heap.size rfl).mono ?_
  rintro e w2 ⟨rfl, hb2⟩
  clear pl p0 p1 p2
  have hal : Below w1.heap.size w1 (w1.alloc (po (p))) := (below_grow _ (Nat.le_refl _) (Below.refl _ _) _)
  have hn : Below w1.heap.size w1 w2 := hal.trans (hb2.mono hal.size)
  have HB2 : Hid (Below w.heap.size w w2) := HB1.out.trans (hn.mono HB1.out.size)
  have Ka2 : Hid (Bf (w.heap.size) (a) w2) := Ka1.out.later hn
  have Kp2 : Hid (Pf (w.heap.size + 1) (p) w2) := Kp1.out.later hn
  have Kr2 : Hid (Bf (w.heap.size + 1 + 1) (zB) w2) := Kr1.out.later hn
  clear hal hn hb2
  obtain ⟨⟨al, a0, a1, a2, a3, a4, a5⟩, af0, af1, af2, af3, af4, af5⟩ := Ka2.out
  simp only [Nat.zero_add] at a1 a2 a3 a4 a5
  obtain ⟨pl, p0, p1, p2⟩ := Kp2.out
  go_wp2_with fail
  refine (moved_any a p w2 (near_sm HR.out) (nearP_sm HP.out)).mono ?_
  rintro e w3 ⟨rfl, hb3⟩
  clear al a0 a1 a2 a3 a4 a5 af0 af1 af2 af3 af4 af5 pl p0 p1 p2
  have hal : Below w2.heap.size w2 w2 := (Below.refl _ _)
  have hn : Below w2.heap.size w2 w3 := hal.trans (hb3.mono hal.size)
  have HB3 : Hid (Below w.heap.size w w3) := HB2.out.trans (hn.mono HB2.out.size)
  have Ka3 : Hid (Bf (w.heap.size) (a) w3) := Ka2.out.later hn
  have Kp3 : Hid (Pf (w.heap.size + 1) (p) w3) := Kp2.out.later hn
  have Kr3 : Hid (Bf (w.heap.size + 1 + 1) (zB) w3) := Kr2.out.later hn
  clear hal hn hb3
  obtain ⟨c, hc⟩ : ∃ c, c = movB a p := ⟨_, rfl⟩
  have HC : Hid (c = movB a p) := hc
  rw [← hc]
  clear hc
  go_wp2_with fail
  refine (near2r c false (by rw [HC.out]; exact HM.out) (w3.alloc (bo (c))) (w3.heap.size + 1) (by simp)).mono ?_
  rintro e w4 ⟨rfl, hb4⟩
  have hal : Below w3.heap.size w3 ((w3.alloc (bo (c))).alloc (bp c)) := (below_grow _ (Nat.le_refl _) (below_grow _ (Nat.le_refl _) (Below.refl _ _) _) _)
  have hn : Below w3.heap.size w3 w4 := hal.trans (hb4.mono hal.size)
  have HB4 : Hid (Below w.heap.size w w4) := HB3.out.trans (hn.mono HB3.out.size)
  have Ka4 : Hid (Bf (w.heap.size) (a) w4) := Ka3.out.later hn
  have Kp4 : Hid (Pf (w.heap.size + 1) (p) w4) := Kp3.out.later hn
  have Kr4 : Hid (Bf (w.heap.size + 1 + 1) (zB) w4) := Kr3.out.later hn
  have Kc4 : Hid (Bf (w3.heap.size) (c) w4) := by
    have h := ((Bf.new w3 (c)).later (below_grow _ (Nat.le_refl _) (Below.refl _ _) _)).later hb4
    show Bf _ _ _
    simpa using h
  clear hal hn hb4
  obtain ⟨⟨rl, r0, r1, r2, r3, r4, r5⟩, rf0, rf1, rf2, rf3, rf4, rf5⟩ := Kr4.out
  simp only [Nat.zero_add] at r1 r2 r3 r4 r5
  go_wp2
  refine bodyPost_ret (v := .tuple #[bv (zB), .int .i64 (2)]) (by simp [results, Try.results11, go_sem, r0, r1, r2, r3, r4, r5]) rfl ⟨rfl, ?_⟩
  exact below_put6 (a := zB) HB4.out (by omega)
set_option maxHeartbeats 3200000 in
set_option maxRecDepth 100000 in
theorem move_ok (a : Bx) (p : Pt) (w : World) (hr : bad1 a = 0) (hp : nearP p = true) (hm : nearB (movB a p) = true) :
    Calls Try.prog 11 #[bv a, pv p] w fun e w' => e = .returned (.tuple #[bv (movB a p), .int .i64 (0)]) ∧ Below w.heap.size w w' := by
  have HR : Hid (bad1 a = 0) := hr
  have HP : Hid (nearP p = true) := hp
  have HM : Hid (nearB (movB a p) = true) := hm
  clear hr hp hm
  have HB0 : Hid (Below w.heap.size w w) := Below.refl _ _
  go_enter Try.func11, Try.ntmps11
  go_wp2_with fail
  refine (refusal1r a _ HR.out (((w.alloc (bo (a))).alloc (po (p))).alloc (bo (zB))) (w.heap.size + 1 + 1 + 1) (by simp)).mono ?_
  rintro e w1 ⟨rfl, hb1⟩
  have hal : Below w.heap.size w ((((w.alloc (bo (a))).alloc (po (p))).alloc (bo (zB))).alloc (bo (a))) := (below_grow _ (Nat.le_refl _) (below_grow _ (Nat.le_refl _) (below_grow _ (Nat.le_refl _) (below_grow _ (Nat.le_refl _) (Below.refl _ _) _) _) _) _)
  have hn : Below w.heap.size w w1 := hal.trans (hb1.mono hal.size)
  have HB1 : Hid (Below w.heap.size w w1) := HB0.out.trans (hn.mono HB0.out.size)
  have Ka1 : Hid (Bf (w.heap.size) (a) w1) := by
    have h := ((Bf.new w (a)).later (below_grow _ (Nat.le_refl _) (below_grow _ (Nat.le_refl _) (below_grow _ (Nat.le_refl _) (Below.refl _ _) _) _) _)).later hb1
    show Bf _ _ _
    simpa using h
  have Kp1 : Hid (Pf (w.heap.size + 1) (p) w1) := by
    have h := ((Pf.new (w.alloc (bo (a))) (p)).later (below_grow _ (Nat.le_refl _) (below_grow _ (Nat.le_refl _) (Below.refl _ _) _) _)).later hb1
    show Pf _ _ _
    simpa using h
  have Kr1 : Hid (Bf (w.heap.size + 1 + 1) (zB) w1) := by
    have h := ((Bf.new ((w.alloc (bo (a))).alloc (po (p))) (zB)).later (below_grow _ (Nat.le_refl _) (Below.refl _ _) _)).later hb1
    show Bf _ _ _
    simpa using h
  clear hal hn hb1
  obtain ⟨pl, p0, p1, p2⟩ := Kp1.out
  go_wp2_with fail
  refine (near1r p true HP.out w1 w1.heap.size rfl).mono ?_
  rintro e w2 ⟨rfl, hb2⟩
  clear pl p0 p1 p2
  have hal : Below w1.heap.size w1 (w1.alloc (po (p))) := (below_grow _ (Nat.le_refl _) (Below.refl _ _) _)
  have hn : Below w1.heap.size w1 w2 := hal.trans (hb2.mono hal.size)
  have HB2 : Hid (Below w.heap.size w w2) := HB1.out.trans (hn.mono HB1.out.size)
  have Ka2 : Hid (Bf (w.heap.size) (a) w2) := Ka1.out.later hn
  have Kp2 : Hid (Pf (w.heap.size + 1) (p) w2) := Kp1.out.later hn
  have Kr2 : Hid (Bf (w.heap.size + 1 + 1) (zB) w2) := Kr1.out.later hn
  clear hal hn hb2
  obtain ⟨⟨al, a0, a1, a2, a3, a4, a5⟩, af0, af1, af2, af3, af4, af5⟩ := Ka2.out
  simp only [Nat.zero_add] at a1 a2 a3 a4 a5
  obtain ⟨pl, p0, p1, p2⟩ := Kp2.out
  go_wp2_with fail
  refine (moved_any a p w2 (near_sm HR.out) (nearP_sm HP.out)).mono ?_
  rintro e w3 ⟨rfl, hb3⟩
  clear al a0 a1 a2 a3 a4 a5 af0 af1 af2 af3 af4 af5 pl p0 p1 p2
  have hal : Below w2.heap.size w2 w2 := (Below.refl _ _)
  have hn : Below w2.heap.size w2 w3 := hal.trans (hb3.mono hal.size)
  have HB3 : Hid (Below w.heap.size w w3) := HB2.out.trans (hn.mono HB2.out.size)
  have Ka3 : Hid (Bf (w.heap.size) (a) w3) := Ka2.out.later hn
  have Kp3 : Hid (Pf (w.heap.size + 1) (p) w3) := Kp2.out.later hn
  have Kr3 : Hid (Bf (w.heap.size + 1 + 1) (zB) w3) := Kr2.out.later hn
  clear hal hn hb3
  obtain ⟨c, hc⟩ : ∃ c, c = movB a p := ⟨_, rfl⟩
  have HC : Hid (c = movB a p) := hc
  rw [← hc]
  clear hc
  go_wp2_with fail
  refine (near2r c true (by rw [HC.out]; exact HM.out) (w3.alloc (bo (c))) (w3.heap.size + 1) (by simp)).mono ?_
  rintro e w4 ⟨rfl, hb4⟩
  have hal : Below w3.heap.size w3 ((w3.alloc (bo (c))).alloc (bp c)) := (below_grow _ (Nat.le_refl _) (below_grow _ (Nat.le_refl _) (Below.refl _ _) _) _)
  have hn : Below w3.heap.size w3 w4 := hal.trans (hb4.mono hal.size)
  have HB4 : Hid (Below w.heap.size w w4) := HB3.out.trans (hn.mono HB3.out.size)
  have Ka4 : Hid (Bf (w.heap.size) (a) w4) := Ka3.out.later hn
  have Kp4 : Hid (Pf (w.heap.size + 1) (p) w4) := Kp3.out.later hn
  have Kr4 : Hid (Bf (w.heap.size + 1 + 1) (zB) w4) := Kr3.out.later hn
  have Kc4 : Hid (Bf (w3.heap.size) (c) w4) := by
    have h := ((Bf.new w3 (c)).later (below_grow _ (Nat.le_refl _) (Below.refl _ _) _)).later hb4
    show Bf _ _ _
    simpa using h
  clear hal hn hb4
  obtain ⟨⟨rl, r0, r1, r2, r3, r4, r5⟩, rf0, rf1, rf2, rf3, rf4, rf5⟩ := Kr4.out
  simp only [Nat.zero_add] at r1 r2 r3 r4 r5
  obtain ⟨⟨cl, c0, c1, c2, c3, c4, c5⟩, cf0, cf1, cf2, cf3, cf4, cf5⟩ := Kc4.out
  simp only [Nat.zero_add] at c1 c2 c3 c4 c5
  go_wp2
  refine bodyPost_ret (v := .tuple #[bv (c), .int .i64 (0)]) (by simp [results, Try.results11, go_sem, r0, r1, r2, r3, r4, r5]) rfl ⟨by rw [HC.out], ?_⟩
  exact below_put6 (a := c) HB4.out (by omega)
theorem move_any (a : Bx) (p : Pt) (w : World) : Calls Try.prog 11 #[bv a, pv p] w fun e w' => e = .returned (.tuple #[bv (moveR a p).1, .int .i64 (moveR a p).2]) ∧ Below w.heap.size w w' := by
  unfold moveR
  by_cases hr : bad1 a = 0
  · rw [if_pos hr]
    cases hp : nearP p with
    | false => exact move_far a p w hr hp
    | true =>
      rw [if_pos rfl]
      cases hm : nearB (movB a p) with
      | false => exact move_out a p w hr hp hm
      | true => exact move_ok a p w hr hp hm
  · rw [if_neg hr]
    exact move_bad a p w hr
end Go.Proofs.Ytiafcgbohckmmaa
