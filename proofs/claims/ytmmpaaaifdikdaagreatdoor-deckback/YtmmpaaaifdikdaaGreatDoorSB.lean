/- slices.IndexFunc at boxes, meets, refusal walked. -/
import Derived.Test.YtmmpaaaifdikdaaGreatDoorSA
import Derived.Shelf.Abstract
namespace Go.Proofs.YtmmpaaaifdikdaaGreatDoor.S
open Go.RowKit


/-- What is asked of a test over boxes, from a world on. -/
def Tests (g : Nat) (caps : Array Value) (f : Bx → Bool) (w : World) : Prop :=
  ∀ (a : Bx) (W : World), Below w.heap.size w W → Calls Tryz.prog g (#[bv a] ++ caps) W fun e w' => e = .returned (.bool (f a)) ∧ Below W.heap.size W w'

set_option maxHeartbeats 3200000 in
theorem indexFunc_any (g : Nat) (caps : Array Value) (f : Bx → Bool) (ao : Option Addr) (cap : Nat) (l : List Bx) (w : World) (eg : ∀ args w, (callFunc g args).run Tryz.prog w = .ok (.enter g args) w)
    (hT : Tests g caps f w) (hL : Bxs w ao l) (hl : l.length ≤ 9223372036854775807) :
    Calls Tryz.prog 42 #[.slice ao l.length cap, .func (.func g) #[] caps] w fun e w' => e = .returned (.int .i64 (idx f l)) ∧ Below w.heap.size w w' := by
  have HT : Hid (Tests g caps f w) := hT
  have HL : Hid (Bxs w ao l) := hL
  clear hT hL
  go_enter Tryz.func42, Tryz.ntmps42
  go_wp2
  go_loopw [5, 8] (fun _ i wr => ∃ k : Nat, k ≤ l.length ∧ i = .int .i64 k ∧ (∀ b ∈ l.take k, f b = false) ∧ Below w.heap.size w wr) (fun _ i _ => l.length - (intOf i).toNat)
  case atStart => exact ⟨0, Nat.zero_le _, rfl, (fun f hf => by simp at hf), Below.refl _ _⟩
  case round =>
    obtain ⟨k, hk, rfl, hok, hb⟩ := hrel
    have HB : Hid (Below w.heap.size w wr) := hb
    have HO : Hid (∀ b ∈ l.take k, f b = false) := hok
    clear hb hok
    by_cases hlt : k < l.length
    · obtain ⟨b, off, rfl, hbx⟩ := (HL.out.next HB.out).at hlt
      have HHit : Hid (f (l[k]'hlt) = true → idx f l = k) := idx_hit hlt HO.out
      have HMiss : Hid (f (l[k]'hlt) = false → ∀ b ∈ l.take (k + 1), f b = false) := take_succ_all hlt HO.out
      generalize l[k]'hlt = a at *
      obtain ⟨_, c0, c1, c2, c3, c4, c5⟩ := hbx
      have hcall := HT.out a wr HB.out
      cases hq : f a with
      | true =>
        rw [hq] at hcall
        go_wp2_with (go_at_fn g; refine hcall.mono ?_; rintro e w' ⟨rfl, hb'⟩)
        go_ret
        exact ⟨ret_int (HHit.out hq).symm, HB.out.trans (hb'.mono HB.out.size)⟩
      | false =>
        rw [hq] at hcall
        go_wp2_with (go_at_fn g; refine hcall.mono ?_; rintro e w' ⟨rfl, hb'⟩)
        go_roundw
        case rel => exact ⟨k + 1, by omega, by go_num, HMiss.out hq, HB.out.trans (hb'.mono HB.out.size)⟩
        case measure => simp [intOf]; omega
    · go_wp2
      go_ret
      exact ⟨ret_int (idx_miss fun b hb => HO.out b (by rw [List.take_of_length_le (by omega)]; exact hb)).symm, HB.out⟩

set_option maxHeartbeats 1600000 in
theorem containsFunc_any (g : Nat) (caps : Array Value) (f : Bx → Bool) (ao : Option Addr) (cap : Nat) (l : List Bx) (w : World) (eg : ∀ args w, (callFunc g args).run Tryz.prog w = .ok (.enter g args) w)
    (hT : Tests g caps f w) (hL : Bxs w ao l) (hl : l.length ≤ 9223372036854775807) :
    Calls Tryz.prog 65 #[.slice ao l.length cap, .func (.func g) #[] caps] w fun e w' => e = .returned (.bool (l.any f)) ∧ Below w.heap.size w w' := by
  have hcall := indexFunc_any g caps f ao cap l w eg hT hL hl
  have HA : Hid (decide (0 ≤ idx f l) = l.any f) := idx_any f l
  clear hT hL
  generalize idx f l = i at *
  go_enter Tryz.func65, Tryz.ntmps65
  go_wp2_with (go_at_call 42; refine hcall.mono ?_; rintro e w' ⟨rfl, hb'⟩)
  go_ret
  exact ⟨ret_bool HA.out, hb'⟩


set_option maxHeartbeats 1600000 in
/-- The inner closure: does the one box meet the other? -/
theorem inner_any (a b : Bx) (B : Nat) (w : World) (hB : BxAt w B 0 a) :
    Calls Tryz.prog 66 #[bv b, .pointer (some ⟨B, 0, none⟩)] w fun e w' => e = .returned (.bool (meet a b)) ∧ Below w.heap.size w w' := by
  obtain ⟨hlt, c0, c1, c2, c3, c4, c5⟩ := hB
  simp only [Nat.zero_add] at c1 c2 c3 c4 c5
  have hne : B ≠ w.heap.size := by omega
  cases h1 : below a.lo b.hi with
  | false =>
    have HM : Hid (meet a b = false) := by show meet a b = false; rw [meet, h1]; rfl
    go_enter Tryz.func66, Tryz.ntmps66
    go_wp2_with fail
    refine (isBelow_any a.lo b.hi _).mono ?_
    rintro e w1 ⟨rfl, hb1⟩
    rw [h1]
    go_wp2
    go_ret
    exact ⟨ret_bool HM.out.symm, ((Below.refl _ _).alloc (Nat.le_refl _) _).trans (hb1.mono (by simp))⟩
  | true =>
    have HM : Hid (meet a b = below b.lo a.hi) := by show meet a b = _; rw [meet, h1]; rfl
    go_enter Tryz.func66, Tryz.ntmps66
    go_wp2_with fail
    refine (isBelow_any a.lo b.hi _).mono ?_
    rintro e w1 ⟨rfl, hb1⟩
    rw [h1]
    have d3 : w1.cell? ⟨B, 3, none⟩ = some (.int .i64 a.hx) := cell_later hb1 (by go_simp)
    have d4 : w1.cell? ⟨B, 4, none⟩ = some (.int .i64 a.hy) := cell_later hb1 (by go_simp)
    have d5 : w1.cell? ⟨B, 5, none⟩ = some (.int .i64 a.hz) := cell_later hb1 (by go_simp)
    have e0 : w1.cell? ⟨w.heap.size, 0, none⟩ = some (.int .i64 b.lx) := cell_later hb1 (by go_simp)
    have e1 : w1.cell? ⟨w.heap.size, 1, none⟩ = some (.int .i64 b.ly) := cell_later hb1 (by go_simp)
    have e2 : w1.cell? ⟨w.heap.size, 2, none⟩ = some (.int .i64 b.lz) := cell_later hb1 (by go_simp)
    have HB : Hid (Below w.heap.size w w1) := ((Below.refl _ _).alloc (Nat.le_refl _) _).trans (hb1.mono (by simp))
    clear hb1 c0 c1 c2 c3 c4 c5
    go_wp2_with fail
    refine (isBelow_any b.lo a.hi _).mono ?_
    rintro e w2 ⟨rfl, hb2⟩
    go_wp2
    go_ret
    exact ⟨ret_bool HM.out.symm, HB.out.trans (hb2.mono HB.out.size)⟩

theorem en66 : ∀ args w, (callFunc 66 args).run Tryz.prog w = .ok (.enter 66 args) w := enters_of Tryz.func66 (by kernel_rfl) rfl
theorem en64 : ∀ args w, (callFunc 64 args).run Tryz.prog w = .ok (.enter 64 args) w := enters_of Tryz.func64 (by kernel_rfl) rfl

set_option maxHeartbeats 1600000 in
/-- The outer closure: does a box meet any of the boxes? -/
theorem outer_any (a : Bx) (B : Nat) (ao : Option Addr) (cap : Nat) (l : List Bx) (w : World) (hc : w.cell? ⟨B, 0, none⟩ = some (.slice ao l.length cap)) (hB : B < w.heap.size) (hL : Bxs w ao l) (hl : l.length ≤ 9223372036854775807) :
    Calls Tryz.prog 64 #[bv a, .pointer (some ⟨B, 0, none⟩)] w fun e w' => e = .returned (.bool (l.any (meet a))) ∧ Below w.heap.size w w' := by
  have hne : B ≠ w.heap.size := by omega
  have hcall := containsFunc_any 66 #[.pointer (some ⟨w.heap.size, 0, none⟩)] (meet a) ao cap l (w.alloc (.cells #[.int .i64 a.lx, .int .i64 a.ly, .int .i64 a.lz, .int .i64 a.hx, .int .i64 a.hy, .int .i64 a.hz] 55)) en66
    (fun b W hW => inner_any a b w.heap.size W (BxAt.next (by exact ⟨by simp, by go_simp, by go_simp, by go_simp, by go_simp, by go_simp, by go_simp⟩) hW)) (hL.next ((Below.refl _ _).alloc (Nat.le_refl _) _)) hl
  clear hL
  generalize l.any (meet a) = r at *
  go_enter Tryz.func64, Tryz.ntmps64
  go_wp2_with (go_at_call 65; refine hcall.mono ?_; rintro e w' ⟨rfl, hb'⟩)
  go_ret
  exact ⟨rfl, ((Below.refl _ _).alloc (Nat.le_refl _) _).trans (hb'.mono (by simp))⟩

/-- meets: the closure over one new block. -/
theorem meets_any (ao : Option Addr) (n cap : Nat) (w : World) :
    Calls Tryz.prog 43 #[.slice ao n cap] w fun e w' => e = .returned (.func (.func 64) #[] #[.pointer (some ⟨w.heap.size, 0, none⟩)]) ∧ w' = w.alloc (.cells #[.slice ao n cap] 37) := by
  go_enter Tryz.func43, Tryz.ntmps43
  go_wp2
  go_ret
  exact ⟨rfl, rfl⟩


abbrev bo (a : Bx) : Obj := .cells #[.int .i64 a.lx, .int .i64 a.ly, .int .i64 a.lz, .int .i64 a.hx, .int .i64 a.hy, .int .i64 a.hz] 55
abbrev bp (a : Bx) : Obj := .cells #[.int .i64 a.lx, .int .i64 a.ly, .int .i64 a.lz, .int .i64 a.hx, .int .i64 a.hy, .int .i64 a.hz] 46
abbrev po (p : Pt) : Obj := .cells #[.int .i64 p.x, .int .i64 p.y, .int .i64 p.z] 46
/-- Both ends of a box. -/
theorem near2 (a : Bx) (W : World) (n : Nat) (hn : n = W.heap.size) : Calls Tryz.prog 84 #[.slice (some ⟨n, 0, none⟩) 2 2] (W.alloc (bp a)) fun e w' => e = .returned (.bool (nearB a)) ∧ Below (W.alloc (bp a)).heap.size (W.alloc (bp a)) w' := by
  subst hn
  exact (isNear_any W.heap.size 2 [a.lo, a.hi] _ (Pts.two W a.lo a.hi) (by simp)).mono fun e w' ⟨he, hb⟩ => ⟨by rw [he]; exact ret_bool (by simp [nearB]), hb⟩
/-- A point. -/
theorem near1 (p : Pt) (W : World) (n : Nat) (hn : n = W.heap.size) : Calls Tryz.prog 84 #[.slice (some ⟨n, 0, none⟩) 1 1] (W.alloc (po p)) fun e w' => e = .returned (.bool (nearP p)) ∧ Below (W.alloc (po p)).heap.size (W.alloc (po p)) w' := by
  subst hn
  exact (isNear_any W.heap.size 1 [p] _ (Pts.one W p) (by simp)).mono fun e w' ⟨he, hb⟩ => ⟨by rw [he]; exact ret_bool (by simp), hb⟩

set_option maxHeartbeats 3200000 in
theorem refusal_any (ao : Option Addr) (cap : Nat) (l : List Bx) (w : World) (hL : Bxs w ao l) (hl : l.length ≤ 100) :
    Calls Tryz.prog 63 #[.slice ao l.length cap] w fun e w' => e = .returned (.int .i64 (badL l)) ∧ Below w.heap.size w w' := by
  have HL : Hid (Bxs w ao l) := hL
  clear hL
  go_enter Tryz.func63, Tryz.ntmps63
  go_wp2
  go_loopw [7] (fun i wr => ∃ k : Nat, k ≤ l.length ∧ i = .int .i64 k ∧ (∀ b ∈ l.take k, bad1 b = 0) ∧ Below w.heap.size w wr) (fun i _ => l.length - (intOf i).toNat)
  case atStart => exact ⟨0, Nat.zero_le _, rfl, (fun f hf => by simp at hf), Below.refl _ _⟩
  case round =>
    obtain ⟨k, hk, rfl, hok, hb⟩ := hrel
    obtain ⟨w1, rfl⟩ : ∃ w1, w1 = wr := ⟨_, rfl⟩
    have HB : Hid (Below w.heap.size w w1) := hb
    have HO : Hid (∀ b ∈ l.take k, bad1 b = 0) := hok
    clear hb hok
    by_cases hlt : k < l.length
    · obtain ⟨b, off, rfl, hbx⟩ := (HL.out.next HB.out).at hlt
      have HHit : Hid (bad1 (l[k]'hlt) ≠ 0 → badL l = bad1 (l[k]'hlt)) := badL_at hlt HO.out
      have HMiss : Hid (bad1 (l[k]'hlt) = 0 → ∀ b ∈ l.take (k + 1), bad1 b = 0) := take_succ_all hlt HO.out
      generalize l[k]'hlt = a at *
      obtain ⟨_, c0, c1, c2, c3, c4, c5⟩ := hbx
      have HB2 : Hid (Below w.heap.size w ((w1.alloc (bo a)).alloc (bp a))) :=
        below_grow _ (Nat.le_refl _) (below_grow _ (Nat.le_refl _) HB.out _) _
      cases hn : nearB a with
      | false =>
        have HBad : Hid (bad1 a = 2) := bad1_far hn
        go_wp2_with fail
        refine (near2 a (w1.alloc (bo a)) (w1.heap.size + 1) (by simp)).mono ?_
        rintro e w2 ⟨rfl, hb2⟩
        rw [hn]
        go_wp2
        go_ret
        exact ⟨ret_int (by rw [HHit.out (by rw [HBad.out]; decide), HBad.out]), HB2.out.trans (hb2.mono HB2.out.size)⟩
      | true =>
        go_wp2_with fail
        refine (near2 a (w1.alloc (bo a)) (w1.heap.size + 1) (by simp)).mono ?_
        rintro e w2 ⟨rfl, hb2⟩
        rw [hn]
        have HB3 : Hid (Below w.heap.size w w2) := HB2.out.trans (hb2.mono HB2.out.size)
        have e0 : w2.cell? ⟨w1.heap.size, 0, none⟩ = some (.int .i64 a.lx) := cell_later hb2 (by go_simp)
        have e1 : w2.cell? ⟨w1.heap.size, 1, none⟩ = some (.int .i64 a.ly) := cell_later hb2 (by go_simp)
        have e2 : w2.cell? ⟨w1.heap.size, 2, none⟩ = some (.int .i64 a.lz) := cell_later hb2 (by go_simp)
        have e3 : w2.cell? ⟨w1.heap.size, 3, none⟩ = some (.int .i64 a.hx) := cell_later hb2 (by go_simp)
        have e4 : w2.cell? ⟨w1.heap.size, 4, none⟩ = some (.int .i64 a.hy) := cell_later hb2 (by go_simp)
        have e5 : w2.cell? ⟨w1.heap.size, 5, none⟩ = some (.int .i64 a.hz) := cell_later hb2 (by go_simp)
        clear hb2 c0 c1 c2 c3 c4 c5
        cases ho : atMost a.lo a.hi with
        | false =>
          have HBad : Hid (bad1 a = 1) := bad1_form hn ho
          go_wp2_with fail
          refine (isOrdered_any a _).mono ?_
          rintro e w3 ⟨rfl, hb3⟩
          rw [ho]
          go_wp2
          go_ret
          exact ⟨ret_int (by rw [HHit.out (by rw [HBad.out]; decide), HBad.out]), HB3.out.trans (hb3.mono HB3.out.size)⟩
        | true =>
          have HBad : Hid (bad1 a = 0) := bad1_ok.2 ⟨hn, ho⟩
          go_wp2_with fail
          refine (isOrdered_any a _).mono ?_
          rintro e w3 ⟨rfl, hb3⟩
          rw [ho]
          go_wp2
          go_roundw
          case rel => exact ⟨k + 1, by omega, by go_num, HMiss.out HBad.out, HB3.out.trans (hb3.mono HB3.out.size)⟩
          case measure => simp [intOf]; omega
    · go_wp2
      go_ret
      exact ⟨ret_int (badL_zero.2 fun b hb => HO.out b (by rw [List.take_of_length_le (by omega)]; exact hb)).symm, HB.out⟩
/-- One box, or two, in a slice of the call's own. -/
theorem refusal1 (a : Bx) (W : World) (n : Nat) (hn : n = W.heap.size) : Calls Tryz.prog 63 #[.slice (some ⟨n, 0, none⟩) 1 1] (W.alloc (bo a)) fun e w' => e = .returned (.int .i64 (bad1 a)) ∧ Below (W.alloc (bo a)).heap.size (W.alloc (bo a)) w' := by
  subst hn
  exact (refusal_any _ 1 [a] _ (Bxs.one W a) (by simp)).mono fun e w' ⟨he, hb⟩ => ⟨by rw [he, badL_one], hb⟩
abbrev bo2 (a b : Bx) : Obj := .cells #[.int .i64 a.lx, .int .i64 a.ly, .int .i64 a.lz, .int .i64 a.hx, .int .i64 a.hy, .int .i64 a.hz, .int .i64 b.lx, .int .i64 b.ly, .int .i64 b.lz, .int .i64 b.hx, .int .i64 b.hy, .int .i64 b.hz] 55
theorem refusal2 (a b : Bx) (W : World) (n : Nat) (hn : n = W.heap.size) : Calls Tryz.prog 63 #[.slice (some ⟨n, 0, none⟩) 2 2] (W.alloc (bo2 a b)) fun e w' => e = .returned (.int .i64 (badL [a, b])) ∧ Below (W.alloc (bo2 a b)).heap.size (W.alloc (bo2 a b)) w' := by
  subst hn
  exact refusal_any _ 2 [a, b] _ (Bxs.two W a b) (by simp)

end Go.Proofs.YtmmpaaaifdikdaaGreatDoor.S
