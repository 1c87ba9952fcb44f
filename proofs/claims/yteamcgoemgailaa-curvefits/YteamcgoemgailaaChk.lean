/- isOutside, slices.IndexFunc and slices.ContainsFunc at knots, isRising walked. -/
import Derived.Test.YteamcgoemgailaaBase
import Derived.Shelf.Abstract
namespace Go.Proofs.Yteamcgoemgailaa
open Go.RowKit

/-- The number of the first knot that is so; -1: none is. -/
def idx (f : Kn → Bool) (l : List Kn) : Int := match l.findIdx? f with
  | some k => (k : Int)
  | none => -1
theorem take_succ_all {l : List Kn} {k : Nat} {p : Kn → Prop} (h : k < l.length) (ha : ∀ b ∈ l.take k, p b) (hb : p (l[k]'h)) : ∀ b ∈ l.take (k + 1), p b := by
  rw [List.take_succ_eq_append_getElem h]
  intro f hf
  rcases List.mem_append.1 hf with hf | hf
  · exact ha f hf
  · simp at hf; subst hf; exact hb
theorem idx_hit {f : Kn → Bool} {l : List Kn} {k : Nat} (h : k < l.length) (ha : ∀ b ∈ l.take k, f b = false) (hb : f (l[k]'h) = true) : idx f l = k := by
  unfold idx
  rw [show l.findIdx? f = some k from ?_]
  rw [List.findIdx?_eq_some_iff_getElem]
  refine ⟨h, hb, fun j hj => ?_⟩
  have := ha (l[j]'(by omega)) (by rw [List.mem_take_iff_getElem]; exact ⟨j, by omega, rfl⟩)
  simp [this]
theorem idx_miss {f : Kn → Bool} {l : List Kn} (ha : ∀ b ∈ l, f b = false) : idx f l = -1 := by
  unfold idx
  rw [show l.findIdx? f = none from ?_]
  rw [List.findIdx?_eq_none_iff]
  exact ha
theorem idx_any (f : Kn → Bool) (l : List Kn) : decide (0 ≤ idx f l) = l.any f := by
  unfold idx
  cases e : l.findIdx? f with
  | none =>
    rw [show l.any f = false by rw [List.any_eq_false]; intro b hb; simp [List.findIdx?_eq_none_iff.1 e b hb]]; rfl
  | some k =>
    obtain ⟨h, hb, ha⟩ := List.findIdx?_eq_some_iff_getElem.1 e
    rw [show l.any f = true by rw [List.any_eq_true]; exact ⟨_, List.getElem_mem h, hb⟩]; simp

set_option maxHeartbeats 1600000 in
theorem isOutside_any (k : Kn) (w : World) : Calls Try.prog 19 #[kv k] w fun e w' => e = .returned (.bool (outK k)) ∧ Below w.heap.size w w' := by
  obtain ⟨v, s⟩ := k
  go_enter Try.func19, Try.ntmps19
  go_wp2
  all_goals
    go_ret
    refine ⟨ret_bool ?_, (Below.refl _ _).alloc (Nat.le_refl _) _⟩
    simp_all [outK]

/-- What is asked of a test over knots, from a world on. -/
def Tests (g : Nat) (caps : Array Value) (f : Kn → Bool) (w : World) : Prop :=
  ∀ (a : Kn) (W : World), Below w.heap.size w W → Calls Try.prog g (#[kv a] ++ caps) W fun e w' => e = .returned (.bool (f a)) ∧ Below W.heap.size W w'

set_option maxHeartbeats 3200000 in
theorem indexFunc_any (g : Nat) (caps : Array Value) (f : Kn → Bool) (ao : Option Addr) (cap : Nat) (l : List Kn) (w : World) (eg : ∀ args w, (callFunc g args).run Try.prog w = .ok (.enter g args) w)
    (hT : Tests g caps f w) (hL : Kns w ao l) (hl : l.length ≤ 9223372036854775807) :
    Calls Try.prog 29 #[.slice ao l.length cap, .func (.func g) #[] caps] w fun e w' => e = .returned (.int .i64 (idx f l)) ∧ Below w.heap.size w w' := by
  have HT : Hid (Tests g caps f w) := hT
  have HL : Hid (Kns w ao l) := hL
  clear hT hL
  go_enter Try.func29, Try.ntmps29
  go_wp2
  go_loopw [5, 8] (fun _ i wr => ∃ k : Nat, k ≤ l.length ∧ i = .int .i64 k ∧ (∀ b ∈ l.take k, f b = false) ∧ Below w.heap.size w wr) (fun _ i _ => l.length - (intOf i).toNat)
  case atStart => exact ⟨0, Nat.zero_le _, rfl, (fun f hf => by simp at hf), Below.refl _ _⟩
  case round =>
    obtain ⟨k, hk, rfl, hok, hb⟩ := hrel
    have HB : Hid (Below w.heap.size w wr) := hb
    have HO : Hid (∀ b ∈ l.take k, f b = false) := hok
    clear hb hok
    by_cases hlt : k < l.length
    · obtain ⟨b, off, rfl, hbx⟩ := (HL.out.next HB.out).at hlt
      have HHit : Hid (f (l[k]'hlt) = true → idx f l = k) := idx_hit hlt HO.out
      have HMiss : Hid (f (l[k]'hlt) = false → ∀ b ∈ l.take (k + 1), f b = false) := take_succ_all hlt HO.out
      generalize l[k]'hlt = a at *
      obtain ⟨_, c0, c1⟩ := hbx
      have hcall := HT.out a wr HB.out
      cases hq : f a with
      | true =>
        rw [hq] at hcall
        go_wp2_with (go_at_fn g; refine hcall.mono ?_; rintro e w' ⟨rfl, hb'⟩)
        go_ret
        exact ⟨ret_int (HHit.out hq).symm, HB.out.trans (hb'.mono HB.out.size)⟩
      | false =>
        rw [hq] at hcall
        go_wp2_with (go_at_fn g; refine hcall.mono ?_; rintro e w' ⟨rfl, hb'⟩)
        go_roundw
        case rel => exact ⟨k + 1, by omega, by go_num, HMiss.out hq, HB.out.trans (hb'.mono HB.out.size)⟩
        case measure => simp [intOf]; omega
    · go_wp2
      go_ret
      exact ⟨ret_int (idx_miss fun b hb => HO.out b (by rw [List.take_of_length_le (by omega)]; exact hb)).symm, HB.out⟩

set_option maxHeartbeats 1600000 in
theorem containsFunc_any (g : Nat) (caps : Array Value) (f : Kn → Bool) (ao : Option Addr) (cap : Nat) (l : List Kn) (w : World) (eg : ∀ args w, (callFunc g args).run Try.prog w = .ok (.enter g args) w)
    (hT : Tests g caps f w) (hL : Kns w ao l) (hl : l.length ≤ 9223372036854775807) :
    Calls Try.prog 18 #[.slice ao l.length cap, .func (.func g) #[] caps] w fun e w' => e = .returned (.bool (l.any f)) ∧ Below w.heap.size w w' := by
  have hcall := indexFunc_any g caps f ao cap l w eg hT hL hl
  have HA : Hid (decide (0 ≤ idx f l) = l.any f) := idx_any f l
  clear hT hL
  generalize idx f l = i at *
  go_enter Try.func18, Try.ntmps18
  go_wp2_with (go_at_call 29; refine hcall.mono ?_; rintro e w' ⟨rfl, hb'⟩)
  go_ret
  exact ⟨ret_bool HA.out, hb'⟩
theorem en19 : ∀ args w, (callFunc 19 args).run Try.prog w = .ok (.enter 19 args) w := enters_of Try.func19 (by kernel_rfl) rfl
/-- Is a knot out of range? -/
theorem outside_any (ao : Option Addr) (cap : Nat) (l : List Kn) (r : Bool) (hr : l.any outK = r) (w : World) (hL : Kns w ao l) (hl : l.length ≤ 9223372036854775807) :
    Calls Try.prog 18 #[.slice ao l.length cap, .func (.func 19) #[] #[]] w fun e w' => e = .returned (.bool r) ∧ Below w.heap.size w w' := by
  rw [← hr]
  exact containsFunc_any 19 #[] outK ao cap l w en19 (fun a W _ => isOutside_any a W) hL hl

set_option maxHeartbeats 3200000 in
theorem isRising_any (ao : Option Addr) (cap : Nat) (l : List Kn) (r : Bool) (hr : r = true ↔ Rises l) (w : World) (hL : Kns w ao l) (h2 : 2 ≤ l.length) (hl : l.length ≤ 50) :
    Calls Try.prog 20 #[.slice ao l.length cap] w fun e w' => e = .returned (.bool r) ∧ Below w.heap.size w w' := by
  have HL : Hid (Kns w ao l) := hL
  have HR : Hid (r = true ↔ Rises l) := hr
  clear hL hr
  go_enter Try.func20, Try.ntmps20
  go_wp2
  go_loopw [3, 7] (fun _ i wr => ∃ k : Nat, k ≤ l.length - 1 ∧ i = .int .i64 k ∧ (∀ j, j < k → cv l j < cv l (j + 1) ∧ cs l j < cs l (j + 1)) ∧ Below w.heap.size w wr) (fun _ i _ => l.length - (intOf i).toNat)
  case atStart => exact ⟨0, Nat.zero_le _, rfl, (fun f hf => by omega), Below.refl _ _⟩
  case round =>
    obtain ⟨k, hk, rfl, hok, hb⟩ := hrel
    have HB : Hid (Below w.heap.size w wr) := hb
    have HO : Hid (∀ j, j < k → cv l j < cv l (j + 1) ∧ cs l j < cs l (j + 1)) := hok
    clear hb hok
    by_cases hlt : k < l.length - 1
    · have e0 := (HL.out.next HB.out).at (k := k) (by omega)
      have e1 := (HL.out.next HB.out).at (k := k + 1) (by omega)
      obtain ⟨b, off, rfl, _, c0, c1⟩ := e0
      obtain ⟨b', off', e, _, d0, d1⟩ := e1
      injection e with e
      injection e with e e'
      subst e e'
      rw [← cv_at] at c0 d0
      rw [← cs_at] at c1 d1
      have HX : Hid (¬ (cv l k < cv l (k + 1) ∧ cs l k < cs l (k + 1)) → r = false) := by
        intro h
        cases e : r with
        | false => rfl
        | true => exact absurd (HR.out.1 e k hlt) h
      have HY : Hid (cv l k < cv l (k + 1) ∧ cs l k < cs l (k + 1) → ∀ j, j < k + 1 → cv l j < cv l (j + 1) ∧ cs l j < cs l (j + 1)) := by
        intro h j hj
        by_cases e : j = k
        · subst e; exact h
        · exact HO.out j (by omega)
      generalize cv l k = v0 at *
      generalize cv l (k + 1) = v1 at *
      generalize cs l k = s0 at *
      generalize cs l (k + 1) = s1 at *
      by_cases hv : v0 < v1
      · have tv : decide (v1 ≤ v0) = false := decide_eq_false (by omega)
        by_cases hs : s0 < s1
        · have ts : decide (s1 ≤ s0) = false := decide_eq_false (by omega)
          go_wp2_with fail
          go_big_quiet (fail)
          go_wp2
          go_roundw
          case rel => exact ⟨k + 1, by omega, by go_num, HY.out ⟨hv, hs⟩, below_drewN HB.out _⟩
          case measure => simp [intOf]; omega
        · have ts : decide (s1 ≤ s0) = true := decide_eq_true (by omega)
          go_wp2_with fail
          go_big_quiet (fail)
          go_wp2
          go_ret
          exact ⟨ret_bool (HX.out (by omega)).symm, below_drewN HB.out _⟩
      · have tv : decide (v1 ≤ v0) = true := decide_eq_true (by omega)
        go_wp2_with fail
        go_big_quiet (fail)
        go_wp2
        go_ret
        exact ⟨ret_bool (HX.out (by omega)).symm, below_drewN HB.out _⟩
    · go_wp2
      go_ret
      exact ⟨ret_bool (HR.out.2 fun i hi => HO.out i (by omega)).symm, HB.out⟩
end Go.Proofs.Yteamcgoemgailaa
