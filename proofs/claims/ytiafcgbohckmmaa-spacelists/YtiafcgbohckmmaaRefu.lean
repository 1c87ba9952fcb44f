/- refusal walked. -/
import Derived.Test.YtiafcgbohckmmaaNum
namespace Go.Proofs.Ytiafcgbohckmmaa
open Go.RowKit

abbrev bo (a : Bx) : Obj := .cells #[.int .i64 a.lx, .int .i64 a.ly, .int .i64 a.lz, .int .i64 a.hx, .int .i64 a.hy, .int .i64 a.hz] 25
abbrev bp (a : Bx) : Obj := .cells #[.int .i64 a.lx, .int .i64 a.ly, .int .i64 a.lz, .int .i64 a.hx, .int .i64 a.hy, .int .i64 a.hz] 23
abbrev po (p : Pt) : Obj := .cells #[.int .i64 p.x, .int .i64 p.y, .int .i64 p.z] 23
/-- Both ends of a box. -/
theorem near2 (a : Bx) (W : World) (n : Nat) (hn : n = W.heap.size) : Calls Try.prog 31 #[.slice (some ⟨n, 0, none⟩) 2 2] (W.alloc (bp a)) fun e w' => e = .returned (.bool (nearB a)) ∧ Below (W.alloc (bp a)).heap.size (W.alloc (bp a)) w' := by
  subst hn
  exact (isNear_any W.heap.size 2 [a.lo, a.hi] _ (Pts.two W a.lo a.hi) (by simp)).mono fun e w' ⟨he, hb⟩ => ⟨by rw [he]; exact ret_bool (by simp [nearB]), hb⟩
/-- A point. -/
theorem near1 (p : Pt) (W : World) (n : Nat) (hn : n = W.heap.size) : Calls Try.prog 31 #[.slice (some ⟨n, 0, none⟩) 1 1] (W.alloc (po p)) fun e w' => e = .returned (.bool (nearP p)) ∧ Below (W.alloc (po p)).heap.size (W.alloc (po p)) w' := by
  subst hn
  exact (isNear_any W.heap.size 1 [p] _ (Pts.one W p) (by simp)).mono fun e w' ⟨he, hb⟩ => ⟨by rw [he]; exact ret_bool (by simp), hb⟩

set_option maxHeartbeats 3200000 in
theorem refusal_any (ao : Option Addr) (cap : Nat) (l : List Bx) (w : World) (hL : Bxs w ao l) (hl : l.length ≤ 100) :
    Calls Try.prog 28 #[.slice ao l.length cap] w fun e w' => e = .returned (.int .i64 (badL l)) ∧ Below w.heap.size w w' := by
  have HL : Hid (Bxs w ao l) := hL
  clear hL
  go_enter Try.func28, Try.ntmps28
  go_wp2
  go_loopw [7] (fun i wr => ∃ k : Nat, k ≤ l.length ∧ i = .int .i64 k ∧ (∀ b ∈ l.take k, bad1 b = 0) ∧ Below w.heap.size w wr) (fun i _ => l.length - (intOf i).toNat)
  case atStart => exact ⟨0, Nat.zero_le _, rfl, (fun f hf => by simp at hf), Below.refl _ _⟩
  case round =>
    obtain ⟨k, hk, rfl, hok, hb⟩ := hrel
    obtain ⟨w1, rfl⟩ : ∃ w1, w1 = wr := ⟨_, rfl⟩
    have HB : Hid (Below w.heap.size w w1) := hb
    have HO : Hid (∀ b ∈ l.take k, bad1 b = 0) := hok
    clear hb hok
    by_cases hlt : k < l.length
    · obtain ⟨b, off, rfl, hbx⟩ := (HL.out.next HB.out).at hlt
      have HHit : Hid (bad1 (l[k]'hlt) ≠ 0 → badL l = bad1 (l[k]'hlt)) := badL_at hlt HO.out
      have HMiss : Hid (bad1 (l[k]'hlt) = 0 → ∀ b ∈ l.take (k + 1), bad1 b = 0) := take_succ_all hlt HO.out
      generalize l[k]'hlt = a at *
      obtain ⟨_, c0, c1, c2, c3, c4, c5⟩ := hbx
      have HB2 : Hid (Below w.heap.size w ((w1.alloc (bo a)).alloc (bp a))) :=
        below_grow _ (Nat.le_refl _) (below_grow _ (Nat.le_refl _) HB.out _) _
      cases hn : nearB a with
      | false =>
        have HBad : Hid (bad1 a = 2) := bad1_far hn
        go_wp2_with fail
        refine (near2 a (w1.alloc (bo a)) (w1.heap.size + 1) (by simp)).mono ?_
        rintro e w2 ⟨rfl, hb2⟩
        rw [hn]
        go_wp2
        go_ret
        exact ⟨ret_int (by rw [HHit.out (by rw [HBad.out]; decide), HBad.out]), HB2.out.trans (hb2.mono HB2.out.size)⟩
      | true =>
        go_wp2_with fail
        refine (near2 a (w1.alloc (bo a)) (w1.heap.size + 1) (by simp)).mono ?_
        rintro e w2 ⟨rfl, hb2⟩
        rw [hn]
        have HB3 : Hid (Below w.heap.size w w2) := HB2.out.trans (hb2.mono HB2.out.size)
        have e0 : w2.cell? ⟨w1.heap.size, 0, none⟩ = some (.int .i64 a.lx) := cell_later hb2 (by go_simp)
        have e1 : w2.cell? ⟨w1.heap.size, 1, none⟩ = some (.int .i64 a.ly) := cell_later hb2 (by go_simp)
        have e2 : w2.cell? ⟨w1.heap.size, 2, none⟩ = some (.int .i64 a.lz) := cell_later hb2 (by go_simp)
        have e3 : w2.cell? ⟨w1.heap.size, 3, none⟩ = some (.int .i64 a.hx) := cell_later hb2 (by go_simp)
        have e4 : w2.cell? ⟨w1.heap.size, 4, none⟩ = some (.int .i64 a.hy) := cell_later hb2 (by go_simp)
        have e5 : w2.cell? ⟨w1.heap.size, 5, none⟩ = some (.int .i64 a.hz) := cell_later hb2 (by go_simp)
        clear hb2 c0 c1 c2 c3 c4 c5
        cases ho : atMost a.lo a.hi with
        | false =>
          have HBad : Hid (bad1 a = 1) := bad1_form hn ho
          go_wp2_with fail
          refine (isOrdered_any a _).mono ?_
          rintro e w3 ⟨rfl, hb3⟩
          rw [ho]
          go_wp2
          go_ret
          exact ⟨ret_int (by rw [HHit.out (by rw [HBad.out]; decide), HBad.out]), HB3.out.trans (hb3.mono HB3.out.size)⟩
        | true =>
          have HBad : Hid (bad1 a = 0) := bad1_ok.2 ⟨hn, ho⟩
          go_wp2_with fail
          refine (isOrdered_any a _).mono ?_
          rintro e w3 ⟨rfl, hb3⟩
          rw [ho]
          go_wp2
          go_roundw
          case rel => exact ⟨k + 1, by omega, by go_num, HMiss.out HBad.out, HB3.out.trans (hb3.mono HB3.out.size)⟩
          case measure => simp [intOf]; omega
    · go_wp2
      go_ret
      exact ⟨ret_int (badL_zero.2 fun b hb => HO.out b (by rw [List.take_of_length_le (by omega)]; exact hb)).symm, HB.out⟩
/-- One box, or two, in a slice of the call's own. -/
theorem refusal1 (a : Bx) (W : World) (n : Nat) (hn : n = W.heap.size) : Calls Try.prog 28 #[.slice (some ⟨n, 0, none⟩) 1 1] (W.alloc (bo a)) fun e w' => e = .returned (.int .i64 (bad1 a)) ∧ Below (W.alloc (bo a)).heap.size (W.alloc (bo a)) w' := by
  subst hn
  exact (refusal_any _ 1 [a] _ (Bxs.one W a) (by simp)).mono fun e w' ⟨he, hb⟩ => ⟨by rw [he, badL_one], hb⟩
abbrev bo2 (a b : Bx) : Obj := .cells #[.int .i64 a.lx, .int .i64 a.ly, .int .i64 a.lz, .int .i64 a.hx, .int .i64 a.hy, .int .i64 a.hz, .int .i64 b.lx, .int .i64 b.ly, .int .i64 b.lz, .int .i64 b.hx, .int .i64 b.hy, .int .i64 b.hz] 25
theorem refusal2 (a b : Bx) (W : World) (n : Nat) (hn : n = W.heap.size) : Calls Try.prog 28 #[.slice (some ⟨n, 0, none⟩) 2 2] (W.alloc (bo2 a b)) fun e w' => e = .returned (.int .i64 (badL [a, b])) ∧ Below (W.alloc (bo2 a b)).heap.size (W.alloc (bo2 a b)) w' := by
  subst hn
  exact refusal_any _ 2 [a, b] _ (Bxs.two W a b) (by simp)
end Go.Proofs.Ytiafcgbohckmmaa
