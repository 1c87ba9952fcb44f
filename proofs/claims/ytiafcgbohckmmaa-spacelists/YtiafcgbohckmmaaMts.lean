/- meets and its closures walked. -/
import Derived.Test.YtiafcgbohckmmaaIdx
namespace Go.Proofs.Ytiafcgbohckmmaa
open Go.RowKit

set_option maxHeartbeats 1600000 in
/-- The inner closure: does the one box meet the other? -/
theorem inner_any (a b : Bx) (B : Nat) (w : World) (hB : BxAt w B 0 a) :
    Calls Try.prog 44 #[bv b, .pointer (some ⟨B, 0, none⟩)] w fun e w' => e = .returned (.bool (meet a b)) ∧ Below w.heap.size w w' := by
  obtain ⟨hlt, c0, c1, c2, c3, c4, c5⟩ := hB
  simp only [Nat.zero_add] at c1 c2 c3 c4 c5
  have hne : B ≠ w.heap.size := by omega
  cases h1 : below a.lo b.hi with
  | false =>
    have HM : Hid (meet a b = false) := by show meet a b = false; rw [meet, h1]; rfl
    go_enter Try.func44, Try.ntmps44
    go_wp2_with fail
    refine (isBelow_any a.lo b.hi _).mono ?_
    rintro e w1 ⟨rfl, hb1⟩
    rw [h1]
    go_wp2
    go_ret
    exact ⟨ret_bool HM.out.symm, ((Below.refl _ _).alloc (Nat.le_refl _) _).trans (hb1.mono (by simp))⟩
  | true =>
    have HM : Hid (meet a b = below b.lo a.hi) := by show meet a b = _; rw [meet, h1]; rfl
    go_enter Try.func44, Try.ntmps44
    go_wp2_with fail
    refine (isBelow_any a.lo b.hi _).mono ?_
    rintro e w1 ⟨rfl, hb1⟩
    rw [h1]
    have d3 : w1.cell? ⟨B, 3, none⟩ = some (.int .i64 a.hx) := cell_later hb1 (by go_simp)
    have d4 : w1.cell? ⟨B, 4, none⟩ = some (.int .i64 a.hy) := cell_later hb1 (by go_simp)
    have d5 : w1.cell? ⟨B, 5, none⟩ = some (.int .i64 a.hz) := cell_later hb1 (by go_simp)
    have e0 : w1.cell? ⟨w.heap.size, 0, none⟩ = some (.int .i64 b.lx) := cell_later hb1 (by go_simp)
    have e1 : w1.cell? ⟨w.heap.size, 1, none⟩ = some (.int .i64 b.ly) := cell_later hb1 (by go_simp)
    have e2 : w1.cell? ⟨w.heap.size, 2, none⟩ = some (.int .i64 b.lz) := cell_later hb1 (by go_simp)
    have HB : Hid (Below w.heap.size w w1) := ((Below.refl _ _).alloc (Nat.le_refl _) _).trans (hb1.mono (by simp))
    clear hb1 c0 c1 c2 c3 c4 c5
    go_wp2_with fail
    refine (isBelow_any b.lo a.hi _).mono ?_
    rintro e w2 ⟨rfl, hb2⟩
    go_wp2
    go_ret
    exact ⟨ret_bool HM.out.symm, HB.out.trans (hb2.mono HB.out.size)⟩

theorem en44 : ∀ args w, (callFunc 44 args).run Try.prog w = .ok (.enter 44 args) w := enters_of Try.func44 (by kernel_rfl) rfl
theorem en42 : ∀ args w, (callFunc 42 args).run Try.prog w = .ok (.enter 42 args) w := enters_of Try.func42 (by kernel_rfl) rfl

set_option maxHeartbeats 1600000 in
/-- The outer closure: does a box meet any of the boxes? -/
theorem outer_any (a : Bx) (B : Nat) (ao : Option Addr) (cap : Nat) (l : List Bx) (w : World) (hc : w.cell? ⟨B, 0, none⟩ = some (.slice ao l.length cap)) (hB : B < w.heap.size) (hL : Bxs w ao l) (hl : l.length ≤ 9223372036854775807) :
    Calls Try.prog 42 #[bv a, .pointer (some ⟨B, 0, none⟩)] w fun e w' => e = .returned (.bool (l.any (meet a))) ∧ Below w.heap.size w w' := by
  have hne : B ≠ w.heap.size := by omega
  have hcall := containsFunc_any 44 #[.pointer (some ⟨w.heap.size, 0, none⟩)] (meet a) ao cap l (w.alloc (.cells #[.int .i64 a.lx, .int .i64 a.ly, .int .i64 a.lz, .int .i64 a.hx, .int .i64 a.hy, .int .i64 a.hz] 25)) en44
    (fun b W hW => inner_any a b w.heap.size W (BxAt.next (by exact ⟨by simp, by go_simp, by go_simp, by go_simp, by go_simp, by go_simp, by go_simp⟩) hW)) (hL.next ((Below.refl _ _).alloc (Nat.le_refl _) _)) hl
  clear hL
  generalize l.any (meet a) = r at *
  go_enter Try.func42, Try.ntmps42
  go_wp2_with (go_at_call 43; refine hcall.mono ?_; rintro e w' ⟨rfl, hb'⟩)
  go_ret
  exact ⟨rfl, ((Below.refl _ _).alloc (Nat.le_refl _) _).trans (hb'.mono (by simp))⟩

/-- meets: the closure over one new block. -/
theorem meets_any (ao : Option Addr) (n cap : Nat) (w : World) :
    Calls Try.prog 29 #[.slice ao n cap] w fun e w' => e = .returned (.func (.func 42) #[] #[.pointer (some ⟨w.heap.size, 0, none⟩)]) ∧ w' = w.alloc (.cells #[.slice ao n cap] 38) := by
  go_enter Try.func29, Try.ntmps29
  go_wp2
  go_ret
  exact ⟨rfl, rfl⟩

end Go.Proofs.Ytiafcgbohckmmaa
