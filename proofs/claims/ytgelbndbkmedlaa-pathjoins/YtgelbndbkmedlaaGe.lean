import Derived.Test.YtgelbndbkmedlaaGd
import Derived.Test.YtgelbndbkmedlaaGb

/- slices.IndexFunc, ContainsFunc at points; tooFar, sweep, met, firstWrong walked. -/
namespace Go.Proofs.Ytgelbndbkmedlaa.S
open Go.RowKit
/-- The number of the first box that is so; -1: none is. -/
def idxP (f : Pt → Bool) (l : List Pt) : Int := match l.findIdx? f with
  | some k => (k : Int)
  | none => -1

theorem take_succ_allP {l : List Pt} {k : Nat} {p : Pt → Prop} (h : k < l.length) (ha : ∀ b ∈ l.take k, p b) (hb : p (l[k]'h)) : ∀ b ∈ l.take (k + 1), p b := by
  rw [List.take_succ_eq_append_getElem h]
  intro f hf
  rcases List.mem_append.1 hf with hf | hf
  · exact ha f hf
  · simp at hf; subst hf; exact hb

theorem idx_hitP {f : Pt → Bool} {l : List Pt} {k : Nat} (h : k < l.length) (ha : ∀ b ∈ l.take k, f b = false) (hb : f (l[k]'h) = true) : idxP f l = k := by
  unfold idxP
  rw [show l.findIdx? f = some k from ?_]
  rw [List.findIdx?_eq_some_iff_getElem]
  refine ⟨h, hb, fun j hj => ?_⟩
  have := ha (l[j]'(by omega)) (by rw [List.mem_take_iff_getElem]; exact ⟨j, by omega, rfl⟩)
  simp [this]
theorem idx_missP {f : Pt → Bool} {l : List Pt} (ha : ∀ b ∈ l, f b = false) : idxP f l = -1 := by
  unfold idxP
  rw [show l.findIdx? f = none from ?_]
  rw [List.findIdx?_eq_none_iff]
  exact ha
theorem idx_casesP (f : Pt → Bool) (l : List Pt) : (idxP f l = -1 ∧ ∀ b ∈ l, f b = false) ∨ ∃ k, ∃ h : k < l.length, idxP f l = (k : Int) ∧ f (l[k]'h) = true ∧ ∀ j (hj : j < k), f (l[j]'(by omega)) = false := by
  unfold idxP
  cases e : l.findIdx? f with
  | none => exact .inl ⟨rfl, List.findIdx?_eq_none_iff.1 e⟩
  | some k =>
    obtain ⟨h, hb, ha⟩ := List.findIdx?_eq_some_iff_getElem.1 e
    exact .inr ⟨k, h, rfl, hb, fun j hj => by simpa using ha j hj⟩
theorem idx_anyP (f : Pt → Bool) (l : List Pt) : decide (0 ≤ idxP f l) = l.any f := by
  rcases idx_casesP f l with ⟨h, ha⟩ | ⟨k, hk, h, hb, _⟩
  · rw [h, show l.any f = false by rw [List.any_eq_false]; intro b hb; simp [ha b hb]]; rfl
  · rw [h, show l.any f = true by rw [List.any_eq_true]; exact ⟨_, List.getElem_mem hk, hb⟩]; simp

/-- What is asked of a test over boxes, from a world on. -/
def TestsP (g : Nat) (caps : Array Value) (f : Pt → Bool) (w : World) : Prop :=
  ∀ (a : Pt) (W : World), Below w.heap.size w W → Calls Try.prog g (#[pv a] ++ caps) W fun e w' => e = .returned (.bool (f a)) ∧ Below W.heap.size W w'

set_option maxHeartbeats 3200000 in
theorem indexFuncP_any (g : Nat) (caps : Array Value) (f : Pt → Bool) (ao : Option Addr) (cap : Nat) (l : List Pt) (w : World) (eg : ∀ args w, (callFunc g args).run Try.prog w = .ok (.enter g args) w)
    (hT : TestsP g caps f w) (hL : Pns w ao l) (hl : l.length ≤ 9223372036854775807) :
    Calls Try.prog 52 #[.slice ao l.length cap, .func (.func g) #[] caps] w fun e w' => e = .returned (.int .i64 (idxP f l)) ∧ Below w.heap.size w w' := by
  have HT : Hid (TestsP g caps f w) := hT
  have HL : Hid (Pns w ao l) := hL
  clear hT hL
  go_enter Try.func52, Try.ntmps52
  go_wp2
  go_loopw [5, 8] (fun _ i wr => ∃ k : Nat, k ≤ l.length ∧ i = .int .i64 k ∧ (∀ b ∈ l.take k, f b = false) ∧ Below w.heap.size w wr) (fun _ i _ => l.length - (intOf i).toNat)
  case atStart => exact ⟨0, Nat.zero_le _, rfl, (fun f hf => by simp at hf), Below.refl _ _⟩
  case round =>
    obtain ⟨k, hk, rfl, hok, hb⟩ := hrel
    have HB : Hid (Below w.heap.size w wr) := hb
    have HO : Hid (∀ b ∈ l.take k, f b = false) := hok
    clear hb hok
    by_cases hlt : k < l.length
    · obtain ⟨b, off, rfl, hbx⟩ := (HL.out.next HB.out).at hlt
      have HHit : Hid (f (l[k]'hlt) = true → idxP f l = k) := idx_hitP hlt HO.out
      have HMiss : Hid (f (l[k]'hlt) = false → ∀ b ∈ l.take (k + 1), f b = false) := take_succ_allP hlt HO.out
      generalize l[k]'hlt = a at *
      obtain ⟨_, c0, c1, c2⟩ := hbx
      have hcall := HT.out a wr HB.out
      cases hq : f a with
      | true =>
        rw [hq] at hcall
        go_wp2_with (go_at_fn g; refine hcall.mono ?_; rintro e w' ⟨rfl, hb'⟩)
        go_ret
        exact ⟨ret_int (HHit.out hq).symm, HB.out.trans (hb'.mono HB.out.size)⟩
      | false =>
        rw [hq] at hcall
        go_wp2_with (go_at_fn g; refine hcall.mono ?_; rintro e w' ⟨rfl, hb'⟩)
        go_roundw
        case rel => exact ⟨k + 1, by omega, by go_num, HMiss.out hq, HB.out.trans (hb'.mono HB.out.size)⟩
        case measure => simp [intOf]; omega
    · go_wp2
      go_ret
      exact ⟨ret_int (idx_missP fun b hb => HO.out b (by rw [List.take_of_length_le (by omega)]; exact hb)).symm, HB.out⟩

set_option maxHeartbeats 1600000 in
theorem containsFuncP_any (g : Nat) (caps : Array Value) (f : Pt → Bool) (ao : Option Addr) (cap : Nat) (l : List Pt) (w : World) (eg : ∀ args w, (callFunc g args).run Try.prog w = .ok (.enter g args) w)
    (hT : TestsP g caps f w) (hL : Pns w ao l) (hl : l.length ≤ 9223372036854775807) :
    Calls Try.prog 26 #[.slice ao l.length cap, .func (.func g) #[] caps] w fun e w' => e = .returned (.bool (l.any f)) ∧ Below w.heap.size w w' := by
  have hcall := indexFuncP_any g caps f ao cap l w eg hT hL hl
  have HA : Hid (decide (0 ≤ idxP f l) = l.any f) := idx_anyP f l
  clear hT hL
  generalize idxP f l = i at *
  go_enter Try.func26, Try.ntmps26
  go_wp2_with (go_at_call 52; refine hcall.mono ?_; rintro e w' ⟨rfl, hb'⟩)
  go_ret
  exact ⟨ret_bool HA.out, hb'⟩


/-- Would a box be too far at a point? -/
def farB (a : Bx) (p : Pt) : Bool := (moveR a p).2 != 0
theorem tooFar_any (a : Bx) (w : World) :
    Calls Try.prog 27 #[bv a] w fun e w' => e = .returned (.func (.func 53) #[] #[ptr w.heap.size]) ∧ w' = w.alloc (bo a) := by
  go_enter Try.func27, Try.ntmps27
  go_wp2
  go_ret
  exact ⟨rfl, rfl⟩
theorem enFar : ∀ args w, (callFunc 53 args).run Try.prog w = .ok (.enter 53 args) w := enters_of Try.func53 (by kernel_rfl) rfl
set_option maxHeartbeats 1600000 in
theorem far_test (a : Bx) (p : Pt) (B : Nat) (w : World) (hB : BxAt w B 0 a) :
    Calls Try.prog 53 #[pv p, ptr B] w fun e w' => e = .returned (.bool (farB a p)) ∧ Below w.heap.size w w' := by
  obtain ⟨hlt, c0, c1, c2, c3, c4, c5⟩ := hB
  simp only [Nat.zero_add] at c1 c2 c3 c4 c5
  have hne : B ≠ w.heap.size := by omega
  have HM : Hid (∀ W, Calls Try.prog 54 #[bv a, pv p] W fun e w' => e = .returned (.tuple #[bv (moveR a p).1, .int .i64 (moveR a p).2]) ∧ Below W.heap.size W w') := fun W => move_any a p W
  have HF : Hid (farB a p = ((moveR a p).2 != 0)) := rfl
  generalize moveR a p = r at *
  obtain ⟨m, e⟩ := r
  go_enter Try.func53, Try.ntmps53
  go_wp2_with fail
  refine Calls.mono (HM.out _) ?_
  rintro e1 w1 ⟨rfl, hb1⟩
  have HB1 : Hid (Below w.heap.size w w1) := ((Below.refl _ _).alloc (Nat.le_refl _) _).trans (hb1.mono (by simp))
  clear hb1
  go_wp2
  go_ret
  exact ⟨ret_bool HF.out.symm, HB1.out.alloc HB1.out.size _⟩
theorem bo_at (w : World) (a : Bx) : BxAt (w.alloc (bo a)) w.heap.size 0 a := ⟨by simp, by go_simp, by go_simp, by go_simp, by go_simp, by go_simp, by go_simp⟩
theorem far_any (ao : Option Addr) (cap : Nat) (l : List Pt) (a : Bx) (B : Nat) (w : World) (hB : BxAt w B 0 a) (hL : Pns w ao l) (hl : l.length ≤ 9223372036854775807) :
    Calls Try.prog 26 #[.slice ao l.length cap, .func (.func 53) #[] #[ptr B]] w fun e w' => e = .returned (.bool (l.any (farB a))) ∧ Below w.heap.size w w' :=
  containsFuncP_any _ _ (farB a) ao cap l w enFar (fun p W hW => far_test a p B W (hB.next hW)) hL hl
abbrev bcl (b : Bx) : List Value := [.int .i64 b.lx, .int .i64 b.ly, .int .i64 b.lz, .int .i64 b.hx, .int .i64 b.hy, .int .i64 b.hz]
theorem below_six {n b : Nat} {w w' : World} {v0 v1 v2 v3 v4 v5 : Value} (h : Below n w w') (hn : n ≤ b) : Below n w ((((((w'.setCell ⟨b, 0, none⟩ v0).setCell ⟨b, 1, none⟩ v1).setCell ⟨b, 2, none⟩ v2).setCell ⟨b, 3, none⟩ v3).setCell ⟨b, 4, none⟩ v4).setCell ⟨b, 5, none⟩ v5) :=
  (((((h.setCell hn _).setCell hn _).setCell hn _).setCell hn _).setCell hn _).setCell hn _
/-- The sweep of the tool from a point to another. -/
def sweepT (a : Bx) (p q : Pt) : Bx × Int := if (moveR a p).2 = 0 then (if (moveR a q).2 = 0 then hullR (moveR a p).1 (moveR a q).1 else (zB, (moveR a q).2)) else (zB, (moveR a p).2)
abbrev zo : Obj := .cells #[.int .i64 0, .int .i64 0, .int .i64 0, .int .i64 0, .int .i64 0, .int .i64 0] 26
set_option maxHeartbeats 3200000 in
theorem sweep_any (a : Bx) (p q : Pt) (w : World) :
    Calls Try.prog 70 #[bv a, pv p, pv q] w fun e w' => e = .returned (.tuple #[bv (sweepT a p q).1, .int .i64 (sweepT a p q).2]) ∧ Below w.heap.size w w' := by
  have HM1 : Hid (∀ W, Calls Try.prog 54 #[bv a, pv p] W fun e w' => e = .returned (.tuple #[bv (moveR a p).1, .int .i64 (moveR a p).2]) ∧ Below W.heap.size W w') := fun W => move_any a p W
  have HM2 : Hid (∀ W, Calls Try.prog 54 #[bv a, pv q] W fun e w' => e = .returned (.tuple #[bv (moveR a q).1, .int .i64 (moveR a q).2]) ∧ Below W.heap.size W w') := fun W => move_any a q W
  have HF : Hid (sweepT a p q = if (moveR a p).2 = 0 then (if (moveR a q).2 = 0 then hullR (moveR a p).1 (moveR a q).1 else (zB, (moveR a q).2)) else (zB, (moveR a p).2)) := rfl
  generalize moveR a p = r1 at *
  generalize moveR a q = r2 at *
  obtain ⟨m1, e1⟩ := r1
  obtain ⟨m2, e2⟩ := r2
  simp only at HF HM1 HM2
  obtain ⟨w0, hw0⟩ : ∃ w0, w0 = (((w.alloc (bo a)).alloc (po p)).alloc (po q)).alloc zo := ⟨_, rfl⟩
  have hs0 : w0.heap.size = w.heap.size + 4 := by rw [hw0]; simp
  have B0 : Below w.heap.size w w0 := by rw [hw0]; exact ((((Below.refl _ _).alloc (Nat.le_refl _) _).alloc (by simp) _).alloc (by simp; omega) _).alloc (by simp; omega) _
  have KA : Hid (Bk w.heap.size [.int .i64 a.lx, .int .i64 a.ly, .int .i64 a.lz, .int .i64 a.hx, .int .i64 a.hy, .int .i64 a.hz] w0) := by
    show Bk _ _ _
    rw [hw0]
    exact (((Bk.new w [.int .i64 a.lx, .int .i64 a.ly, .int .i64 a.lz, .int .i64 a.hx, .int .i64 a.hy, .int .i64 a.hz] 26 w.heap.size rfl).later ((Below.refl _ _).alloc (Nat.le_refl _) _)).later ((Below.refl _ _).alloc (Nat.le_refl _) _)).later ((Below.refl _ _).alloc (Nat.le_refl _) _)
  have KP : Hid (Bk (w.heap.size + 1) (pcl p) w0) := by
    show Bk _ _ _
    rw [hw0]
    exact ((Bk.new (w.alloc (bo a)) (pcl p) 24 _ (by simp)).later ((Below.refl _ _).alloc (Nat.le_refl _) _)).later ((Below.refl _ _).alloc (Nat.le_refl _) _)
  have KQ : Hid (Bk (w.heap.size + 1 + 1) (pcl q) w0) := by
    show Bk _ _ _
    rw [hw0]
    exact (Bk.new ((w.alloc (bo a)).alloc (po p)) (pcl q) 24 _ (by simp)).later ((Below.refl _ _).alloc (Nat.le_refl _) _)
  have KZ : Hid (Bk (w.heap.size + 1 + 1 + 1) [.int .i64 0, .int .i64 0, .int .i64 0, .int .i64 0, .int .i64 0, .int .i64 0] w0) := by
    show Bk _ _ _
    rw [hw0]
    exact Bk.new (((w.alloc (bo a)).alloc (po p)).alloc (po q)) [.int .i64 0, .int .i64 0, .int .i64 0, .int .i64 0, .int .i64 0, .int .i64 0] 26 _ (by simp)
  have HB0 : Hid (Below w.heap.size w w0) := B0
  have HSZ : Hid (w0.heap.size = w.heap.size + 4) := hs0
  have HW0 : Hid (w0 = (((w.alloc (bo a)).alloc (po p)).alloc (po q)).alloc zo) := hw0
  clear B0 hs0 hw0
  go_enter Try.func70, Try.ntmps70
  go_wp2_with fail
  rw [← HW0.out]
  refine Calls.mono (HM1.out _) ?_
  rintro e w1 ⟨rfl, hb1⟩
  have b2 : Below w1.heap.size w1 (w1.alloc (bo m1)) := (Below.refl _ _).alloc (Nat.le_refl _) _
  have HM : Hid (Bk w1.heap.size (bcl m1) (w1.alloc (bo m1))) := Bk.new w1 (bcl m1) 26 w1.heap.size rfl
  have HBW : Hid (Below w0.heap.size w0 (w1.alloc (bo m1))) := hb1.trans (b2.mono hb1.size)
  have HB1 : Hid (Below w0.heap.size w0 w1) := hb1
  have hsz := HSZ.out
  have hs1 := hb1.size
  clear hb1 b2 HM1
  by_cases he1 : e1 = 0
  · subst he1
    obtain ⟨w2, hw2⟩ : ∃ w2, w2 = w1.alloc (bo m1) := ⟨_, rfl⟩
    rw [← hw2] at HM HBW
    have HW2 : Hid (w2 = w1.alloc (bo m1)) := hw2
    have hs2 : w2.heap.size = w1.heap.size + 1 := by rw [hw2]; simp
    clear hw2
    have ka0 := (KA.out.later HB1.out).c 0 rfl
    have ka1 := (KA.out.later HB1.out).c 1 rfl
    have ka2 := (KA.out.later HB1.out).c 2 rfl
    have ka3 := (KA.out.later HB1.out).c 3 rfl
    have ka4 := (KA.out.later HB1.out).c 4 rfl
    have ka5 := (KA.out.later HB1.out).c 5 rfl
    have kq0 := (KQ.out.later HB1.out).c 0 rfl
    have kq1 := (KQ.out.later HB1.out).c 1 rfl
    have kq2 := (KQ.out.later HB1.out).c 2 rfl
    have hn0 : w.heap.size < w1.heap.size := by omega
    have hn2 : w.heap.size + 1 + 1 < w1.heap.size := by omega
    go_wp2_with fail
    rw [← HW2.out]
    refine Calls.mono (HM2.out _) ?_
    rintro e w3 ⟨rfl, hb3⟩
    have b4 : Below w3.heap.size w3 (w3.alloc (bo m2)) := (Below.refl _ _).alloc (Nat.le_refl _) _
    have HM4 : Hid (Bk w3.heap.size (bcl m2) (w3.alloc (bo m2))) := Bk.new w3 (bcl m2) 26 w3.heap.size rfl
    have HMA : Hid (Bk w1.heap.size (bcl m1) (w3.alloc (bo m2))) := (HM.out.later hb3).later b4
    have HBX : Hid (Below w0.heap.size w0 (w3.alloc (bo m2))) := (HBW.out.trans (hb3.mono HBW.out.size)).trans (b4.mono (Nat.le_trans HBW.out.size hb3.size))
    have HB3 : Hid (Below w0.heap.size w0 w3) := HBW.out.trans (hb3.mono HBW.out.size)
    have HMB : Hid (Bk w1.heap.size (bcl m1) w3) := HM.out.later hb3
    have hs3 := hb3.size
    have hn5 : w1.heap.size < w3.heap.size := by omega
    clear hb3 b4 HM2 ka0 ka1 ka2 ka3 ka4 ka5 kq0 kq1 kq2
    by_cases he2 : e2 = 0
    · subst he2
      obtain ⟨w4, hw4⟩ : ∃ w4, w4 = w3.alloc (bo m2) := ⟨_, rfl⟩
      rw [← hw4] at HM4 HMA HBX
      have HW4 : Hid (w4 = w3.alloc (bo m2)) := hw4
      clear hw4
      have ma0 := (HMB.out).c 0 rfl
      have ma1 := (HMB.out).c 1 rfl
      have ma2 := (HMB.out).c 2 rfl
      have ma3 := (HMB.out).c 3 rfl
      have ma4 := (HMB.out).c 4 rfl
      have ma5 := (HMB.out).c 5 rfl
      have HH : Hid (∀ W, Calls Try.prog 86 #[bv m1, bv m2] W fun e w' => e = .returned (.tuple #[bv (hullR m1 m2).1, .int .i64 (hullR m1 m2).2]) ∧ Below W.heap.size W w') := fun W => fhull_any m1 m2 W
      have HF2 : Hid (sweepT a p q = hullR m1 m2) := by show _ = _; have := HF.out; simpa using this
      generalize hullR m1 m2 = r at *
      obtain ⟨h, e⟩ := r
      simp only at HH
      go_wp2_with fail
      rw [← HW4.out]
      refine Calls.mono (HH.out _) ?_
      rintro e5 w5 ⟨rfl, hb5⟩
      have HBY : Hid (Below w0.heap.size w0 w5) := HBX.out.trans (hb5.mono HBX.out.size)
      clear hb5 ma0 ma1 ma2 ma3 ma4 ma5
      have z0 := (KZ.out.later HBY.out).c 0 rfl
      have zf0 := (KZ.out.later HBY.out).f 0 rfl
      have z1 := (KZ.out.later HBY.out).c 1 rfl
      have zf1 := (KZ.out.later HBY.out).f 1 rfl
      have z2 := (KZ.out.later HBY.out).c 2 rfl
      have zf2 := (KZ.out.later HBY.out).f 2 rfl
      have z3 := (KZ.out.later HBY.out).c 3 rfl
      have zf3 := (KZ.out.later HBY.out).f 3 rfl
      have z4 := (KZ.out.later HBY.out).c 4 rfl
      have zf4 := (KZ.out.later HBY.out).f 4 rfl
      have z5 := (KZ.out.later HBY.out).c 5 rfl
      have zf5 := (KZ.out.later HBY.out).f 5 rfl
      go_wp2
      refine bodyPost_ret (v := .tuple #[bv h, .int .i64 e]) (by simp [results, Try.results70, go_sem, z0, z1, z2, z3, z4, z5]) rfl ⟨by rw [HF2.out], ?_⟩
      exact below_six (HB0.out.trans (HBY.out.mono HB0.out.size)) (by omega)
    · have HF2 : Hid (sweepT a p q = (zB, e2)) := by show _ = _; have := HF.out; simpa [he2] using this
      have hne : (e2 != 0) = true := by simp [he2]
      clear he2
      have HJ := (((((((KZ.out.later HB3.out).put 0 (.int .i64 0)).put 1 (.int .i64 0)).put 2 (.int .i64 0)).put 3 (.int .i64 0)).put 4 (.int .i64 0)).put 5 (.int .i64 0)).later ((Below.refl _ _).alloc (Nat.le_refl _) (bo m2))
      have jz0 := HJ.c 0 rfl
      have jz1 := HJ.c 1 rfl
      have jz2 := HJ.c 2 rfl
      have jz3 := HJ.c 3 rfl
      have jz4 := HJ.c 4 rfl
      have jz5 := HJ.c 5 rfl
      have HBF : Hid (Below w.heap.size w ((((((((w3).setCell ⟨w.heap.size + 1 + 1 + 1, 0, none⟩ (.int .i64 0)).setCell ⟨w.heap.size + 1 + 1 + 1, 1, none⟩ (.int .i64 0)).setCell ⟨w.heap.size + 1 + 1 + 1, 2, none⟩ (.int .i64 0)).setCell ⟨w.heap.size + 1 + 1 + 1, 3, none⟩ (.int .i64 0)).setCell ⟨w.heap.size + 1 + 1 + 1, 4, none⟩ (.int .i64 0)).setCell ⟨w.heap.size + 1 + 1 + 1, 5, none⟩ (.int .i64 0)).alloc (bo m2))) := (below_six (HB0.out.trans (HB3.out.mono HB0.out.size)) (by omega)).alloc (Nat.le_trans HB0.out.size (by simpa using HB3.out.size)) _
      clear HJ
      have z0 := (KZ.out.later HB3.out).c 0 rfl
      have zf0 := (KZ.out.later HB3.out).f 0 rfl
      have z1 := (KZ.out.later HB3.out).c 1 rfl
      have zf1 := (KZ.out.later HB3.out).f 1 rfl
      have z2 := (KZ.out.later HB3.out).c 2 rfl
      have zf2 := (KZ.out.later HB3.out).f 2 rfl
      have z3 := (KZ.out.later HB3.out).c 3 rfl
      have zf3 := (KZ.out.later HB3.out).f 3 rfl
      have z4 := (KZ.out.later HB3.out).c 4 rfl
      have zf4 := (KZ.out.later HB3.out).f 4 rfl
      have z5 := (KZ.out.later HB3.out).c 5 rfl
      have zf5 := (KZ.out.later HB3.out).f 5 rfl
      have hnz : w.heap.size + 1 + 1 + 1 < w3.heap.size := by omega
      go_wp2
      refine bodyPost_ret (v := .tuple #[bv zB, .int .i64 e2]) (by simp [results, Try.results70, go_sem, jz0, jz1, jz2, jz3, jz4, jz5]) rfl ⟨by rw [HF2.out], HBF.out⟩
  · have HF2 : Hid (sweepT a p q = (zB, e1)) := by show _ = _; have := HF.out; simpa [he1] using this
    have hne : (e1 != 0) = true := by simp [he1]
    clear he1
    have HJ := (((((((KZ.out.later HB1.out).put 0 (.int .i64 0)).put 1 (.int .i64 0)).put 2 (.int .i64 0)).put 3 (.int .i64 0)).put 4 (.int .i64 0)).put 5 (.int .i64 0)).later ((Below.refl _ _).alloc (Nat.le_refl _) (bo m1))
    have jz0 := HJ.c 0 rfl
    have jz1 := HJ.c 1 rfl
    have jz2 := HJ.c 2 rfl
    have jz3 := HJ.c 3 rfl
    have jz4 := HJ.c 4 rfl
    have jz5 := HJ.c 5 rfl
    have HBF : Hid (Below w.heap.size w ((((((((w1).setCell ⟨w.heap.size + 1 + 1 + 1, 0, none⟩ (.int .i64 0)).setCell ⟨w.heap.size + 1 + 1 + 1, 1, none⟩ (.int .i64 0)).setCell ⟨w.heap.size + 1 + 1 + 1, 2, none⟩ (.int .i64 0)).setCell ⟨w.heap.size + 1 + 1 + 1, 3, none⟩ (.int .i64 0)).setCell ⟨w.heap.size + 1 + 1 + 1, 4, none⟩ (.int .i64 0)).setCell ⟨w.heap.size + 1 + 1 + 1, 5, none⟩ (.int .i64 0)).alloc (bo m1))) := (below_six (HB0.out.trans (HB1.out.mono HB0.out.size)) (by omega)).alloc (Nat.le_trans HB0.out.size (by simpa using HB1.out.size)) _
    clear HJ
    have z0 := (KZ.out.later HB1.out).c 0 rfl
    have zf0 := (KZ.out.later HB1.out).f 0 rfl
    have z1 := (KZ.out.later HB1.out).c 1 rfl
    have zf1 := (KZ.out.later HB1.out).f 1 rfl
    have z2 := (KZ.out.later HB1.out).c 2 rfl
    have zf2 := (KZ.out.later HB1.out).f 2 rfl
    have z3 := (KZ.out.later HB1.out).c 3 rfl
    have zf3 := (KZ.out.later HB1.out).f 3 rfl
    have z4 := (KZ.out.later HB1.out).c 4 rfl
    have zf4 := (KZ.out.later HB1.out).f 4 rfl
    have z5 := (KZ.out.later HB1.out).c 5 rfl
    have zf5 := (KZ.out.later HB1.out).f 5 rfl
    have hnz : w.heap.size + 1 + 1 + 1 < w1.heap.size := by omega
    go_wp2
    refine bodyPost_ret (v := .tuple #[bv zB, .int .i64 e1]) (by simp [results, Try.results70, go_sem, jz0, jz1, jz2, jz3, jz4, jz5]) rfl ⟨by rw [HF2.out], HBF.out⟩
end Go.Proofs.Ytgelbndbkmedlaa.S

/- met, firstWrong walked. -/
namespace Go.Proofs.Ytgelbndbkmedlaa.S
open Go.RowKit
/-- Does the tool meet a box as it goes from a point to another? -/
def metB (l : List Bx) (a : Bx) (p q : Pt) : Bool := (firstR l (sweepT a p q).1).1 != -1
set_option maxHeartbeats 3200000 in
theorem met_any (ao : Option Addr) (cap : Nat) (l : List Bx) (a : Bx) (p q : Pt) (w : World) (hL : Bxs w ao l) (hl : l.length ≤ 9223372036854775807) :
    Calls Try.prog 55 #[.slice ao l.length cap, bv a, pv p, pv q] w fun e w' => e = .returned (.bool (metB l a p q)) ∧ Below w.heap.size w w' := by
  have HL : Hid (Bxs w ao l) := hL
  have HS : Hid (∀ W, Calls Try.prog 70 #[bv a, pv p, pv q] W fun e w' => e = .returned (.tuple #[bv (sweepT a p q).1, .int .i64 (sweepT a p q).2]) ∧ Below W.heap.size W w') := fun W => sweep_any a p q W
  have HF : Hid (∀ W, Bxs W ao l → Calls Try.prog 75 #[.slice ao l.length cap, bv (sweepT a p q).1] W fun e w' => e = .returned (.tuple #[.int .i64 (firstR l (sweepT a p q).1).1, .int .i64 (firstR l (sweepT a p q).1).2]) ∧ Below W.heap.size W w') := fun W h => first_any ao cap l (sweepT a p q).1 W h hl
  have HM : Hid (metB l a p q = ((firstR l (sweepT a p q).1).1 != -1)) := rfl
  clear hL
  generalize firstR l (sweepT a p q).1 = fr at *
  obtain ⟨i, e2⟩ := fr
  generalize sweepT a p q = st at *
  obtain ⟨m, e1⟩ := st
  simp only at HS HF HM
  have B0 : Hid (Below w.heap.size w (((w.alloc (bo a)).alloc (po p)).alloc (po q))) := (((Below.refl _ _).alloc (Nat.le_refl _) _).alloc (by simp) _).alloc (by simp; omega) _
  go_enter Try.func55, Try.ntmps55
  go_wp2_with fail
  refine Calls.mono (HS.out _) ?_
  rintro e w1 ⟨rfl, hb1⟩
  have HB1 : Hid (Below w.heap.size w w1) := B0.out.trans (hb1.mono B0.out.size)
  have HB2 : Hid (Below w.heap.size w (w1.alloc (bo m))) := HB1.out.alloc HB1.out.size _
  clear hb1 HS
  go_wp2_with fail
  refine Calls.mono (HF.out _ (HL.out.next HB2.out)) ?_
  rintro e w2 ⟨rfl, hb2⟩
  have HB3 : Hid (Below w.heap.size w w2) := HB2.out.trans (hb2.mono HB2.out.size)
  clear hb2 HF
  go_wp2
  go_ret
  exact ⟨ret_bool HM.out.symm, HB3.out⟩
/-- The number of the first point at which the tool meets a box, or on the way to which. -/
def wrongG (l : List Bx) (a : Bx) : Pt → List Pt → Nat → Int
  | _, [], _ => -1
  | h, p :: r, k => if metB l a h p = true then k else wrongG l a p r (k + 1)
def wrongL (l : List Bx) (a : Bx) (way : List Pt) : Int := match way with
  | [] => -1
  | p :: r => wrongG l a p (p :: r) 0
set_option maxHeartbeats 6400000 in
set_option maxRecDepth 100000 in
theorem firstWrong_any (ao ao' : Option Addr) (cap cap' : Nat) (l : List Bx) (a : Bx) (way : List Pt) (w : World) (hL : Bxs w ao l) (hl : l.length ≤ 9223372036854775807) (hA : Pns w ao' way) (hw : way.length ≤ 9223372036854775807) (hne : way ≠ []) :
    Calls Try.prog 28 #[.slice ao l.length cap, bv a, .slice ao' way.length cap'] w fun e w' => e = .returned (.int .i64 (wrongL l a way)) ∧ Below w.heap.size w w' := by
  have HL : Hid (Bxs w ao l) := hL
  have HA : Hid (Pns w ao' way) := hA
  have HM : Hid (∀ p q W, Bxs W ao l → Calls Try.prog 55 #[.slice ao l.length cap, bv a, pv p, pv q] W fun e w' => e = .returned (.bool (metB l a p q)) ∧ Below W.heap.size W w') := fun p q W h => met_any ao cap l a p q W h hl
  clear hL
  have hpos : 0 < way.length := List.length_pos_iff.2 hne
  obtain ⟨b, off, rfl, _, c0, c1, c2⟩ := hA.at hpos
  have HW0 : Hid (wrongL l a way = wrongG l a (way[0]'hpos) way 0) := by
    show _ = _
    cases way with
    | nil => exact absurd rfl hne
    | cons p r => rfl
  clear hA hne
  generalize way[0]'hpos = p0 at *
  simp only [Nat.zero_mul, Nat.add_zero] at c0 c1 c2
  have hpi : (0 : Int) < (way.length : Int) := by omega
  have KA : Hid (Bk w.heap.size (bcl a) ((w.alloc (bo a)).alloc (po p0))) := (Bk.new w (bcl a) 26 w.heap.size rfl).later ((Below.refl _ _).alloc (Nat.le_refl _) _)
  have KP : Hid (Bk (w.heap.size + 1) (pcl p0) ((w.alloc (bo a)).alloc (po p0))) := Bk.new (w.alloc (bo a)) (pcl p0) 24 _ (by simp)
  have HB0 : Hid (Below w.heap.size w ((w.alloc (bo a)).alloc (po p0))) := ((Below.refl _ _).alloc (Nat.le_refl _) _).alloc (by simp) _
  go_enter Try.func28, Try.ntmps28
  go_wp2
  clear c0 c1 c2
  go_loopw [15] (fun i wr => ∃ (k : Nat) (h : Pt), k ≤ way.length ∧ i = .int .i64 k ∧ wrongL l a way = wrongG l a h (way.drop k) k ∧ Bk (w.heap.size + 1) (pcl h) wr ∧ Bk w.heap.size (bcl a) wr ∧ Below w.heap.size w wr) (fun i _ => way.length - (intOf i).toNat)
  case atStart => exact ⟨0, p0, Nat.zero_le _, rfl, HW0.out, KP.out, KA.out, HB0.out⟩
  case round =>
    obtain ⟨k, h, hk, rfl, hwr, hkh, hka, hb⟩ := hrel
    have HKH : Hid (Bk (w.heap.size + 1) (pcl h) wr) := hkh
    have HKA : Hid (Bk w.heap.size (bcl a) wr) := hka
    have HB : Hid (Below w.heap.size w wr) := hb
    have HWR : Hid (wrongL l a way = wrongG l a h (way.drop k) k) := hwr
    clear hkh hka hb hwr
    by_cases hlt : k < way.length
    · obtain ⟨b', off', e, _, c0, c1, c2⟩ := (HA.out.next HB.out).at hlt
      injection e with e
      injection e with e e3
      subst e e3
      have HWS : Hid (wrongL l a way = wrongG l a h (way[k]'hlt :: way.drop (k + 1)) k) := by show _ = _; rw [HWR.out, List.drop_eq_getElem_cons hlt]
      generalize way[k]'hlt = q at *
      have hki : (k : Int) < (way.length : Int) := by omega
      have hlh : w.heap.size + 1 < wr.heap.size := HKH.out.1
      have hla : w.heap.size < wr.heap.size := HKA.out.1
      have KQ : Hid (Bk wr.heap.size (pcl q) (wr.alloc (po q))) := Bk.new wr (pcl q) 24 wr.heap.size rfl
      have HB1 : Hid (Below w.heap.size w (wr.alloc (po q))) := HB.out.alloc HB.out.size _
      have h0 := (HKH.out).c 0 rfl
      have h1 := (HKH.out).c 1 rfl
      have h2 := (HKH.out).c 2 rfl
      have a0 := (HKA.out).c 0 rfl
      have a1 := (HKA.out).c 1 rfl
      have a2 := (HKA.out).c 2 rfl
      have a3 := (HKA.out).c 3 rfl
      have a4 := (HKA.out).c 4 rfl
      have a5 := (HKA.out).c 5 rfl
      go_wp2_with fail
      refine Calls.mono (HM.out h q _ (HL.out.next HB1.out)) ?_
      rintro e w2 ⟨rfl, hb2⟩
      have HB2 : Hid (Below w.heap.size w w2) := HB1.out.trans (hb2.mono HB1.out.size)
      have HKH2 : Hid (Bk (w.heap.size + 1) (pcl h) w2) := (HKH.out.later ((Below.refl _ _).alloc (Nat.le_refl _) _)).later hb2
      have HKA2 : Hid (Bk w.heap.size (bcl a) w2) := (HKA.out.later ((Below.refl _ _).alloc (Nat.le_refl _) _)).later hb2
      have HKQ2 : Hid (Bk wr.heap.size (pcl q) w2) := KQ.out.later hb2
      clear hb2 h0 h1 h2 a0 a1 a2 a3 a4 a5 c0 c1 c2
      cases hm : metB l a h q with
      | true =>
        have HR : Hid (wrongL l a way = k) := by show _ = _; rw [HWS.out, wrongG, if_pos hm]
        clear hm
        go_wp2
        go_ret
        exact ⟨ret_int HR.out.symm, HB2.out⟩
      | false =>
        have HR : Hid (wrongL l a way = wrongG l a q (way.drop (k + 1)) (k + 1)) := by show _ = _; rw [HWS.out, wrongG, if_neg (by rw [hm]; decide)]
        clear hm
        have q0 := (HKQ2.out).c 0 rfl
        have q1 := (HKQ2.out).c 1 rfl
        have q2 := (HKQ2.out).c 2 rfl
        have h0 := (HKH2.out).c 0 rfl
        have hf0 := (HKH2.out).f 0 rfl
        have h1 := (HKH2.out).c 1 rfl
        have hf1 := (HKH2.out).f 1 rfl
        have h2 := (HKH2.out).c 2 rfl
        have hf2 := (HKH2.out).f 2 rfl
        have HF : Hid (Bk (w.heap.size + 1) (pcl q) (((w2.setCell ⟨w.heap.size + 1, 0, none⟩ (.int .i64 q.x)).setCell ⟨w.heap.size + 1, 1, none⟩ (.int .i64 q.y)).setCell ⟨w.heap.size + 1, 2, none⟩ (.int .i64 q.z))) := ((HKH2.out.put 0 _).put 1 _).put 2 _
        have HG : Hid (Bk w.heap.size (bcl a) (((w2.setCell ⟨w.heap.size + 1, 0, none⟩ (.int .i64 q.x)).setCell ⟨w.heap.size + 1, 1, none⟩ (.int .i64 q.y)).setCell ⟨w.heap.size + 1, 2, none⟩ (.int .i64 q.z))) := ((HKA2.out.other (by omega) 0 _).other (by omega) 1 _).other (by omega) 2 _
        have HBF : Hid (Below w.heap.size w (((w2.setCell ⟨w.heap.size + 1, 0, none⟩ (.int .i64 q.x)).setCell ⟨w.heap.size + 1, 1, none⟩ (.int .i64 q.y)).setCell ⟨w.heap.size + 1, 2, none⟩ (.int .i64 q.z))) := ((HB2.out.setCell (by simp) _).setCell (by simp) _).setCell (by simp) _
        go_wp2
        go_roundw
        case rel => exact ⟨k + 1, q, by omega, by go_num, HR.out, HF.out, HG.out, HBF.out⟩
        case measure => simp [intOf]; omega
    · have HR : Hid (wrongL l a way = -1) := by show _ = _; rw [HWR.out, List.drop_of_length_le (by omega)]; rfl
      go_wp2
      go_ret
      exact ⟨ret_int HR.out.symm, HB.out⟩
end Go.Proofs.Ytgelbndbkmedlaa.S
