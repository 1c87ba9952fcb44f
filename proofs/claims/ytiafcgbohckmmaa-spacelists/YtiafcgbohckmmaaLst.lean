/- refusalOfList, First walked. -/
import Derived.Test.YtiafcgbohckmmaaLM
import Derived.Test.YtiafcgbohckmmaaIs
import Derived.Test.YtiafcgbohckmmaaRefu
namespace Go.Proofs.Ytiafcgbohckmmaa
open Go.RowKit

theorem refusal_r (ao : Option Addr) (cap : Nat) (l : List Bx) (r : Int) (hr : badL l = r) (w : World) (hL : Bxs w ao l) (hl : l.length ≤ 100) :
    Calls Try.prog 28 #[.slice ao l.length cap] w fun e w' => e = .returned (.int .i64 r) ∧ Below w.heap.size w w' := by
  rw [← hr]; exact refusal_any ao cap l w hL hl
set_option maxHeartbeats 1600000 in
theorem refList_any (ao ao' : Option Addr) (cap cap' : Nat) (l more : List Bx) (w : World) (hL : Bxs w ao l) (hM : Bxs w ao' more) (hm : more.length ≤ 100) (hll : l.length ≤ 9223372036854775807) :
    Calls Try.prog 38 #[.slice ao l.length cap, .slice ao' more.length cap'] w fun e w' => e = .returned (.int .i64 (rlist l more)) ∧ Below w.heap.size w w' := by
  have HL : Hid (Bxs w ao l) := hL
  have HM : Hid (Bxs w ao' more) := hM
  clear hL hM
  by_cases h : 40 < l.length
  · have HR : Hid (rlist l more = 7) := rlist_many h
    go_enter Try.func38, Try.ntmps38
    go_wp2
    go_ret
    exact ⟨ret_int HR.out.symm, Below.refl _ _⟩
  · have h' : l.length ≤ 40 := by omega
    clear h
    by_cases hb : badL l = 0
    · have HB : Hid (badL l = 0) := hb
      have HR : Hid (rlist l more = badL more) := rlist_more h' hb
      clear hb
      go_enter Try.func38, Try.ntmps38
      go_wp2_with fail
      refine (refusal_r ao cap l 0 HB.out w HL.out (by omega)).mono ?_
      rintro e w1 ⟨rfl, hb1⟩
      have HB1 : Hid (Below w.heap.size w w1) := hb1
      clear hb1
      go_wp2_with fail
      refine (refusal_any ao' cap' more w1 (HM.out.next HB1.out) hm).mono ?_
      rintro e w2 ⟨rfl, hb2⟩
      go_wp2
      go_ret
      exact ⟨ret_int HR.out.symm, HB1.out.trans (hb2.mono HB1.out.size)⟩
    · have HB : Hid (badL l ≠ 0) := hb
      have hne : (badL l != 0) = true := by simp [hb]
      have HR : Hid (rlist l more = badL l) := rlist_bad h' hb
      clear hb
      go_enter Try.func38, Try.ntmps38
      go_wp2_with fail
      refine (refusal_any ao cap l w HL.out (by omega)).mono ?_
      rintro e w1 ⟨rfl, hb1⟩
      go_wp2
      go_ret
      exact ⟨ret_int HR.out.symm, hb1⟩
theorem refList1 (ao : Option Addr) (cap : Nat) (l : List Bx) (a : Bx) (r : Int) (hr : rlist l [a] = r) (W : World) (n : Nat) (hn : n = W.heap.size) (hL : Bxs W ao l) (hll : l.length ≤ 9223372036854775807) :
    Calls Try.prog 38 #[.slice ao l.length cap, .slice (some ⟨n, 0, none⟩) 1 1] (W.alloc (bo a)) fun e w' => e = .returned (.int .i64 r) ∧ Below (W.alloc (bo a)).heap.size (W.alloc (bo a)) w' := by
  subst hn
  rw [← hr]
  exact refList_any ao _ cap 1 l [a] _ (hL.next ((Below.refl _ _).alloc (Nat.le_refl _) _)) (Bxs.one W a) (by simp) hll
set_option maxHeartbeats 3200000 in
theorem first_any (ao : Option Addr) (cap : Nat) (l : List Bx) (a : Bx) (w : World) (hL : Bxs w ao l) (hll : l.length ≤ 9223372036854775807) :
    Calls Try.prog 18 #[.slice ao l.length cap, bv a] w fun e w' => e = .returned (.tuple #[.int .i64 (firstR l a).1, .int .i64 (firstR l a).2]) ∧ Below w.heap.size w w' := by
  have HL : Hid (Bxs w ao l) := hL
  clear hL
  have hal : Below w.heap.size w ((w.alloc (bo a)).alloc (bo a)) := below_grow _ (Nat.le_refl _) (below_grow _ (Nat.le_refl _) (Below.refl _ _) _) _
  have HAL : Hid (Below w.heap.size w ((w.alloc (bo a)).alloc (bo a))) := hal
  clear hal
  by_cases hr : rlist l [a] = 0
  · have HR : Hid (rlist l [a] = 0) := hr
    have HQ : Hid (firstR l a = (firstI l a, 0)) := if_pos hr
    clear hr
    go_enter Try.func18, Try.ntmps18
    go_wp2_with fail
    refine (refList1 ao cap l a 0 HR.out (w.alloc (bo a)) (w.heap.size + 1) (by simp) (HL.out.next ((Below.refl _ _).alloc (Nat.le_refl _) _)) hll).mono ?_
    rintro e w1 ⟨rfl, hb1⟩
    have HB1 : Hid (Below w.heap.size w w1) := HAL.out.trans (hb1.mono HAL.out.size)
    have Ka1 : Hid (Bf w.heap.size a w1) := ((Bf.new w a).later ((Below.refl _ _).alloc (Nat.le_refl _) _)).later hb1
    clear hb1
    obtain ⟨⟨al, a0, a1, a2, a3, a4, a5⟩, _⟩ := Ka1.out
    simp only [Nat.zero_add] at a1 a2 a3 a4 a5
    go_wp2_with fail
    refine (meets_is [a] _ (w1.alloc (bo a)) (new1 a w1)).mono ?_
    rintro e w2 ⟨u, rfl, hu, hb2⟩
    have HB2 : Hid (Below w.heap.size w w2) := (below_grow _ (Nat.le_refl _) HB1.out (bo a)).trans (hb2.mono (by have := HB1.out.size; simp; omega))
    clear hb2 al a0 a1 a2 a3 a4 a5
    obtain ⟨B, rfl, _⟩ := id hu
    have HU : Hid (IsMeets [a] (.func (.func 42) #[] #[ptr B]) w2) := hu
    clear hu
    go_wp2_with fail
    refine (indexFunc_any 42 #[ptr B] _ ao cap l w2 en42 (IsMeets.tests (by simp) HU.out) (HL.out.next HB2.out) hll).mono ?_
    rintro e w3 ⟨rfl, hb3⟩
    rw [any_one]
    go_wp2
    go_ret2
    exact ⟨by rw [HQ.out]; rfl, HB2.out.trans (hb3.mono HB2.out.size)⟩
  · have hne : (rlist l [a] != 0) = true := by simp [hr]
    have HQ : Hid (firstR l a = (0, rlist l [a])) := if_neg hr
    clear hr
    go_enter Try.func18, Try.ntmps18
    go_wp2_with fail
    refine (refList1 ao cap l a _ rfl (w.alloc (bo a)) (w.heap.size + 1) (by simp) (HL.out.next ((Below.refl _ _).alloc (Nat.le_refl _) _)) hll).mono ?_
    rintro e w1 ⟨rfl, hb1⟩
    go_wp2
    go_ret2
    exact ⟨by rw [HQ.out]; rfl, HAL.out.trans (hb1.mono HAL.out.size)⟩
end Go.Proofs.Ytiafcgbohckmmaa
