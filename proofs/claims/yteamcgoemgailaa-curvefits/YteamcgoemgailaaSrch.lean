/- sort.Search walked. -/
import Derived.Test.YteamcgoemgailaaMost
namespace Go.Proofs.Yteamcgoemgailaa
open Go.RowKit

/-- What is asked of a test over places, from a world on. -/
def Asks (g : Nat) (caps : Array Value) (f : Nat → Bool) (n : Nat) (w : World) : Prop :=
  ∀ (i : Nat) (W : World), i < n → Below w.heap.size w W → Calls Try.prog g (#[.int .i64 (i : Int)] ++ caps) W fun e w' => e = .returned (.bool (f i)) ∧ Below W.heap.size W w'

set_option maxHeartbeats 4000000 in
set_option maxRecDepth 1000000 in
theorem search_any (g : Nat) (caps : Array Value) (f : Nat → Bool) (n : Nat) (w : World) (eg : ∀ args w, (callFunc g args).run Try.prog w = .ok (.enter g args) w) (hT : Asks g caps f n w) (hn : n < 4611686018427387904) :
    Calls Try.prog 23 #[.int .i64 (n : Int), .func (.func g) #[] caps] w fun e w' => ∃ r : Nat, e = .returned (.int .i64 (r : Int)) ∧ r ≤ n ∧ (r = 0 ∨ f (r - 1) = false) ∧ (r = n ∨ f r = true) ∧ Below w.heap.size w w' := by
  have HT : Hid (Asks g caps f n w) := hT
  clear hT
  go_enter Try.func23, Try.ntmps23
  go_wp2
  go_loopw [5, 6, 7] (fun s5 s6 _ wr => ∃ lo hi : Nat, s5 = .int .i64 (lo : Int) ∧ s6 = .int .i64 (hi : Int) ∧ lo ≤ hi ∧ hi ≤ n ∧ Hid ((lo = 0 ∨ f (lo - 1) = false) ∧ (hi = n ∨ f hi = true)) ∧ Below w.heap.size w wr) (fun s5 s6 _ _ => (intOf s6).toNat - (intOf s5).toNat)
  case atStart => exact ⟨0, n, rfl, rfl, Nat.zero_le _, Nat.le_refl _, (⟨.inl rfl, .inl rfl⟩ : (0 = 0 ∨ f (0 - 1) = false) ∧ (n = n ∨ f n = true)), Below.refl _ _⟩
  case round =>
    obtain ⟨lo, hi, rfl, rfl, hlh, hin, I, hb⟩ := hrel
    have HB : Hid (Below w.heap.size w wr) := hb
    clear hb
    by_cases hlt : lo < hi
    · have hc := HT.out ((lo + hi) / 2) wr (by omega) HB.out
      rw [show (((lo + hi) / 2 : Nat) : Int) = ((lo : Int) + (hi : Int)) / 2 by omega] at hc
      cases hp : f ((lo + hi) / 2) <;> rw [hp] at hc
      · have HP : Hid (f ((lo + hi) / 2) = false) := hp
        clear hp
        go_wp2_with (go_at_fn g; refine hc.mono ?_; rintro e w' ⟨rfl, hb'⟩)
        go_roundw
        case rel =>
          refine ⟨(lo + hi) / 2 + 1, hi, by rw [show ((lo : Int) + (hi : Int)) / 2 + 1 = (((lo + hi) / 2 + 1 : Nat) : Int) by omega], rfl, by omega, hin, ?_, below_on HB.out hb'⟩
          exact (⟨.inr HP.out, I.out.2⟩ : ((lo + hi) / 2 + 1 = 0 ∨ f ((lo + hi) / 2 + 1 - 1) = false) ∧ _)
        case measure => simp [intOf]; omega
      · have HP : Hid (f ((lo + hi) / 2) = true) := hp
        clear hp
        go_wp2_with (go_at_fn g; refine hc.mono ?_; rintro e w' ⟨rfl, hb'⟩)
        go_roundw
        case rel =>
          refine ⟨lo, (lo + hi) / 2, rfl, by rw [show ((lo : Int) + (hi : Int)) / 2 = (((lo + hi) / 2 : Nat) : Int) by omega], by omega, by omega, ?_, below_on HB.out hb'⟩
          exact (⟨I.out.1, .inr HP.out⟩ : _ ∧ ((lo + hi) / 2 = n ∨ f ((lo + hi) / 2) = true))
        case measure => simp [intOf]; omega
    · obtain rfl : hi = lo := by omega
      go_wp2
      go_ret
      exact ⟨hi, rfl, hin, I.out.1, I.out.2, HB.out⟩

/-- The test of stepsFor: is the volume within the piece? -/
theorem stepsTest_any (A B b off n cap i : Nat) (v u : Int) (w : World) (hA : w.cell? ⟨A, 0, none⟩ = some (.slice (some ⟨b, off, none⟩) n cap)) (hB : w.cell? ⟨B, 0, none⟩ = some (.int .i64 v))
    (hi : i + 1 < n) (hn : n ≤ 50) (c : w.cell? ⟨b, off + (i + 1) * 2, none⟩ = some (.int .i64 u)) :
    Calls Try.prog 30 #[.int .i64 (i : Int), ptr A, ptr B] w fun e w' => e = .returned (.bool (decide (v ≤ u))) ∧ Below w.heap.size w w' := by
  go_enter Try.func30, Try.ntmps30
  go_wp2_with fail
  go_big_quiet (fail)
  go_wp2
  go_ret
  exact ⟨rfl, below_drewN (Below.refl _ _) _⟩
theorem en30 : ∀ args w, (callFunc 30 args).run Try.prog w = .ok (.enter 30 args) w := enters_of Try.func30 (by kernel_rfl) rfl
end Go.Proofs.Yteamcgoemgailaa
