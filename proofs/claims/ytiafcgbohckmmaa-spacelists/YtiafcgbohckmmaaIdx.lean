/- slices.IndexFunc and slices.ContainsFunc at boxes, walked. -/
import Derived.Test.YtiafcgbohckmmaaNum
import Derived.Shelf.Abstract
namespace Go.Proofs.Ytiafcgbohckmmaa
open Go.RowKit

/-- What is asked of a test over boxes, from a world on. -/
def Tests (g : Nat) (caps : Array Value) (f : Bx → Bool) (w : World) : Prop :=
  ∀ (a : Bx) (W : World), Below w.heap.size w W → Calls Try.prog g (#[bv a] ++ caps) W fun e w' => e = .returned (.bool (f a)) ∧ Below W.heap.size W w'

set_option maxHeartbeats 3200000 in
theorem indexFunc_any (g : Nat) (caps : Array Value) (f : Bx → Bool) (ao : Option Addr) (cap : Nat) (l : List Bx) (w : World) (eg : ∀ args w, (callFunc g args).run Try.prog w = .ok (.enter g args) w)
    (hT : Tests g caps f w) (hL : Bxs w ao l) (hl : l.length ≤ 9223372036854775807) :
    Calls Try.prog 39 #[.slice ao l.length cap, .func (.func g) #[] caps] w fun e w' => e = .returned (.int .i64 (idx f l)) ∧ Below w.heap.size w w' := by
  have HT : Hid (Tests g caps f w) := hT
  have HL : Hid (Bxs w ao l) := hL
  clear hT hL
  go_enter Try.func39, Try.ntmps39
  go_wp2
  go_loopw [5, 8] (fun _ i wr => ∃ k : Nat, k ≤ l.length ∧ i = .int .i64 k ∧ (∀ b ∈ l.take k, f b = false) ∧ Below w.heap.size w wr) (fun _ i _ => l.length - (intOf i).toNat)
  case atStart => exact ⟨0, Nat.zero_le _, rfl, (fun f hf => by simp at hf), Below.refl _ _⟩
  case round =>
    obtain ⟨k, hk, rfl, hok, hb⟩ := hrel
    have HB : Hid (Below w.heap.size w wr) := hb
    have HO : Hid (∀ b ∈ l.take k, f b = false) := hok
    clear hb hok
    by_cases hlt : k < l.length
    · obtain ⟨b, off, rfl, hbx⟩ := (HL.out.next HB.out).at hlt
      have HHit : Hid (f (l[k]'hlt) = true → idx f l = k) := idx_hit hlt HO.out
      have HMiss : Hid (f (l[k]'hlt) = false → ∀ b ∈ l.take (k + 1), f b = false) := take_succ_all hlt HO.out
      generalize l[k]'hlt = a at *
      obtain ⟨_, c0, c1, c2, c3, c4, c5⟩ := hbx
      have hcall := HT.out a wr HB.out
      cases hq : f a with
      | true =>
        rw [hq] at hcall
        go_wp2_with (go_at_fn g; refine hcall.mono ?_; rintro e w' ⟨rfl, hb'⟩)
        go_ret
        exact ⟨ret_int (HHit.out hq).symm, HB.out.trans (hb'.mono HB.out.size)⟩
      | false =>
        rw [hq] at hcall
        go_wp2_with (go_at_fn g; refine hcall.mono ?_; rintro e w' ⟨rfl, hb'⟩)
        go_roundw
        case rel => exact ⟨k + 1, by omega, by go_num, HMiss.out hq, HB.out.trans (hb'.mono HB.out.size)⟩
        case measure => simp [intOf]; omega
    · go_wp2
      go_ret
      exact ⟨ret_int (idx_miss fun b hb => HO.out b (by rw [List.take_of_length_le (by omega)]; exact hb)).symm, HB.out⟩

set_option maxHeartbeats 1600000 in
theorem containsFunc_any (g : Nat) (caps : Array Value) (f : Bx → Bool) (ao : Option Addr) (cap : Nat) (l : List Bx) (w : World) (eg : ∀ args w, (callFunc g args).run Try.prog w = .ok (.enter g args) w)
    (hT : Tests g caps f w) (hL : Bxs w ao l) (hl : l.length ≤ 9223372036854775807) :
    Calls Try.prog 43 #[.slice ao l.length cap, .func (.func g) #[] caps] w fun e w' => e = .returned (.bool (l.any f)) ∧ Below w.heap.size w w' := by
  have hcall := indexFunc_any g caps f ao cap l w eg hT hL hl
  have HA : Hid (decide (0 ≤ idx f l) = l.any f) := idx_any f l
  clear hT hL
  generalize idx f l = i at *
  go_enter Try.func43, Try.ntmps43
  go_wp2_with (go_at_call 39; refine hcall.mono ?_; rintro e w' ⟨rfl, hb'⟩)
  go_ret
  exact ⟨ret_bool HA.out, hb'⟩

end Go.Proofs.Ytiafcgbohckmmaa
