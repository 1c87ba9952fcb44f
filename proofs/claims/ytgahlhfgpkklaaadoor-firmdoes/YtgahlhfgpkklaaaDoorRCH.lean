/- What speeds gives. -/
import Derived.Test.YtgahlhfgpkklaaaDoorRBH
import Derived.Shelf.Abstract
namespace Go.Proofs.YtgahlhfgpkklaaaDoor
open Go.RowKit


attribute [local go_sem] Oper.semAt_some
/-- Speeds of so many steps; of the steps that are added, one by one. -/
def speedsL (r : Rp) (n : Nat) : List Int := (List.range n).map fun i => spA r (min i (n - 1 - i))
def addedL (r : Rp) (n : Nat) : List Int := (List.range n).map fun i => spA r (i / 2)
theorem speedsL_length (r : Rp) (n : Nat) : (speedsL r n).length = n := by simp [speedsL]
theorem addedL_length (r : Rp) (n : Nat) : (addedL r n).length = n := by simp [addedL]
theorem speedsL_at (r : Rp) (n : Nat) {k : Nat} (h : k < (speedsL r n).length) : (speedsL r n)[k]'h = spA r (min k (n - 1 - k)) := by simp [speedsL]
theorem addedL_at (r : Rp) (n : Nat) {k : Nat} (h : k < (addedL r n).length) : (addedL r n)[k]'h = spA r (k / 2) := by simp [addedL]
theorem en26 : ∀ args w, (callFunc 64 args).run Tryd.prog w = .ok (.enter 64 args) w := enters_of Tryd.func64 (by kernel_rfl) rfl
theorem en28 : ∀ args w, (callFunc 63 args).run Tryd.prog w = .ok (.enter 63 args) w := enters_of Tryd.func63 (by kernel_rfl) rfl
theorem speedAt_at (r : Rp) (x : Int) (k : Nat) (hx : x = k) (hr : rpOk r = true) (hk : k ≤ 20000) (w : World) :
    Calls Tryd.prog 65 #[rv r, .int .i64 x] w fun e w' => e = .returned (.int .i64 (spA r k)) ∧ w' = w.alloc (ro r) := by
  subst hx
  exact speedAt_any r k hr hk w
abbrev yv (l : Nat) : Value := .func (.yield l) #[] #[]
set_option maxHeartbeats 6400000 in
set_option maxRecDepth 100000 in
theorem speeds_gives (N0 : Nat) (r : Rp) (n A B l : Nat) (M : Nat → Prop) (W : World) (hr : rpOk r = true) (hn : n ≤ 20000) (hA : Bk A (rcl r) W) (hB : Bk B [.int .i64 n] W) (hAM : ¬ (M A ∨ A = l)) (hBM : ¬ (M B ∨ B = l)) :
    Gives Tryd.prog N0 64 #[ptr B, ptr A] (speedsL r n) (fun _ => False) M l W := by
  intro J Jx hJ hJx hY h0
  have HA : Hid (Bk A (rcl r) W) := hA
  have HB : Hid (Bk B [.int .i64 n] W) := hB
  have HAM : Hid (¬ (M A ∨ A = l)) := hAM
  have HBM : Hid (¬ (M B ∨ B = l)) := hBM
  have HY : Hid (∀ k (h : k < (speedsL r n).length) W1, J k W1 → W.heap.size ≤ W1.heap.size → YieldAt Fence.wide (N0 - 1) Tryd.prog l #[.int .i64 ((speedsL r n)[k]'h)] W1 fun e W' => (e = .returned (.bool true) ∧ J (k + 1) W' ∧ Kpt (fun k => M k ∨ k = l) W1 W') ∨ (e = .returned (.bool false) ∧ Jx (k + 1) W' ∧ Kpt (fun k => M k ∨ k = l) W1 W')) := hY
  have HJ : Hid (∀ s A B, J s A → Kpt (fun _ => False) A B → J s B) := hJ
  have H0 : Hid (J 0 W) := h0
  have HS : Hid (∀ x k, x = ((k : Nat) : Int) → k ≤ 20000 → ∀ w, Calls Tryd.prog 65 #[rv r, .int .i64 x] w fun e w' => e = .returned (.int .i64 (spA r k)) ∧ w' = w.alloc (ro r)) := fun x k hx hk w => speedAt_at r x k hx hr hk w
  have HL : Hid ((speedsL r n).length = n) := speedsL_length r n
  have HE : Hid (∀ k (h : k < (speedsL r n).length), (speedsL r n)[k]'h = spA r (min k (n - 1 - k))) := fun k h => speedsL_at r n h
  clear hA hB hAM hBM hY hJ hJx h0 hr
  refine callsIn_of_wp Tryd.func64 rfl trivial ?_ rfl
  simp only [Tryd.ntmps64, List.size_toArray, List.length_cons, List.length_nil, Nat.reduceAdd, Nat.reduceSub, Array.replicate_succ, Array.replicate_zero, List.push_toArray, List.append_toArray, List.nil_append, List.cons_append]
  have cB := HB.out.c 0 rfl
  gi_wp2
  clear cB
  gi_loopw [6] (fun i wr => ∃ k : Nat, k ≤ n ∧ i = .int .i64 ((k : Nat) : Int) ∧ J k wr ∧ Kpt (fun x => M x ∨ x = l) W wr) (fun i _ => n - (intOf i).toNat)
  case atStart => exact ⟨0, Nat.zero_le _, rfl, H0.out, Kpt.refl _ _⟩
  case round =>
    obtain ⟨k, hk, rfl, hj, hkp⟩ := hrel
    have HJ1 : Hid (J k wr) := hj
    have HKP : Hid (Kpt (fun x => M x ∨ x = l) W wr) := hkp
    have kA := bk_kpt HA.out hkp HAM.out
    have kB := bk_kpt HB.out hkp HBM.out
    have c0 := kB.c 0 rfl
    have a0 := kA.c 0 rfl
    have a1 := kA.c 1 rfl
    have a2 := kA.c 2 rfl
    have a3 := kA.c 3 rfl
    clear hj hkp kA kB
    by_cases hlt : k < n
    · have HK : Hid (k < (speedsL r n).length) := by show _ < _; rw [HL.out]; exact hlt
      have hjw : J k (wr.alloc (ro r)) := HJ.out _ _ _ HJ1.out (Kpt.of_below ((Below.refl _ _).alloc (Nat.le_refl _) _))
      have HKP1 : Hid (Kpt (fun x => M x ∨ x = l) W (wr.alloc (ro r))) := HKP.out.trans (Kpt.of_below ((Below.refl _ _).alloc (Nat.le_refl _) _))
      obtain ⟨fn, tmps, assign, body, hy, hR⟩ := HY.out k HK.out (wr.alloc (ro r)) hjw HKP1.out.size
      rw [HE.out] at hy
      obtain ⟨j, hj⟩ : ∃ j, j = min k (n - 1 - k) := ⟨_, rfl⟩
      rw [← hj] at hy
      have HR : Hid (RoundIn Fence.wide (N0 - 1) Tryd.prog l fn tmps assign body (wr.alloc (ro r)) fun e W' => (e = .returned (.bool true) ∧ J (k + 1) W' ∧ Kpt (fun k => M k ∨ k = l) (wr.alloc (ro r)) W') ∨ (e = .returned (.bool false) ∧ Jx (k + 1) W' ∧ Kpt (fun k => M k ∨ k = l) (wr.alloc (ro r)) W')) := hR
      have HJJ : Hid (j = min k (n - 1 - k)) := hj
      clear hj hjw hR
      by_cases hm : (k : Int) ≤ (n : Int) - 1 - k
      · have HX : Hid ((k : Int) = ((j : Nat) : Int)) := by show _ = _; rw [HJJ.out]; omega
        gi_wp2_with fail
        refine ⟨trivial, (fun h => by cases h), (callsIn_wide.2 (HS.out _ j HX.out (by have := HJJ.out; omega) _)).mono ?_⟩
        rintro e w1 ⟨rfl, rfl⟩
        gi_wp2
        refine ⟨(fun h => by cases h), HR.out.mono ?_⟩
        rintro e w4 (⟨rfl, hJ4, hk4⟩ | ⟨rfl, hJ4, hk4⟩)
        · have HJ4 : Hid (J (k + 1) w4) := hJ4
          have HK4 : Hid (Kpt (fun x => M x ∨ x = l) W w4) := HKP1.out.trans hk4
          clear hJ4 hk4
          gi_wp2
          go_roundw
          case rel => exact ⟨k + 1, by omega, by go_num, HJ4.out, HK4.out⟩
          case measure => simp [intOf]; omega
        · have HJ4 : Hid (Jx (k + 1) w4) := hJ4
          clear hJ4 hk4
          gi_wp2
          refine bodyPost_ret (v := .tuple #[]) (results_none (by kernel_rfl) _ _ _) rfl ?_
          exact ⟨⟨_, rfl⟩, .inr ⟨k, HK.out, HJ4.out⟩⟩
      · have HX : Hid ((n : Int) - 1 - k = ((j : Nat) : Int)) := by show _ = _; rw [HJJ.out]; omega
        gi_wp2_with fail
        refine ⟨trivial, (fun h => by cases h), (callsIn_wide.2 (HS.out _ j HX.out (by have := HJJ.out; omega) _)).mono ?_⟩
        rintro e w1 ⟨rfl, rfl⟩
        gi_wp2
        refine ⟨(fun h => by cases h), HR.out.mono ?_⟩
        rintro e w4 (⟨rfl, hJ4, hk4⟩ | ⟨rfl, hJ4, hk4⟩)
        · have HJ4 : Hid (J (k + 1) w4) := hJ4
          have HK4 : Hid (Kpt (fun x => M x ∨ x = l) W w4) := HKP1.out.trans hk4
          clear hJ4 hk4
          gi_wp2
          go_roundw
          case rel => exact ⟨k + 1, by omega, by go_num, HJ4.out, HK4.out⟩
          case measure => simp [intOf]; omega
        · have HJ4 : Hid (Jx (k + 1) w4) := hJ4
          clear hJ4 hk4
          gi_wp2
          refine bodyPost_ret (v := .tuple #[]) (results_none (by kernel_rfl) _ _ _) rfl ?_
          exact ⟨⟨_, rfl⟩, .inr ⟨k, HK.out, HJ4.out⟩⟩
    · gi_wp2
      go_end0
      have := HJ1.out
      refine ⟨⟨_, rfl⟩, .inl ?_⟩
      rw [HL.out, show n = k by omega]
      exact this
end Go.Proofs.YtgahlhfgpkklaaaDoor
