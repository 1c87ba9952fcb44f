/- corner, added, find, deck.At walked. -/
import Derived.Test.YtmmpaaaifdikdaaGreatDoorDC
import Derived.Test.YtmmpaaaifdikdaaGreatDoorMid
import Derived.Test.YtmmpaaaifdikdaaGreatDoorSeq
namespace Go.Proofs.YtmmpaaaifdikdaaGreatDoor
open Go.RowKit

abbrev zWr : Wr := ⟨⟨#[]⟩, 0, 0, 0, 0, 0, 0, 0, 0, 0, 0, 0⟩
abbrev zSt : Sit := ⟨0, zWr, ⟨#[]⟩⟩
/-- The corner of a slot. -/
def cx (n : Int) : Int := (n - 1) % 3 * 137500
def cy (n : Int) : Int := (n - 1) / 3 * 95500
theorem cx_in {n : Int} : 0 ≤ cx n ∧ cx n ≤ 275000 := by unfold cx; omega
theorem cy_in {n : Int} (h : 1 ≤ n) (h2 : n ≤ 12) : 0 ≤ cy n ∧ cy n ≤ 286500 := by unfold cy; omega
theorem slot_cases {n : Int} (h : 1 ≤ n) (h2 : n ≤ 12) : n = 1 ∨ n = 2 ∨ n = 3 ∨ n = 4 ∨ n = 5 ∨ n = 6 ∨ n = 7 ∨ n = 8 ∨ n = 9 ∨ n = 10 ∨ n = 11 ∨ n = 12 := by omega
set_option maxHeartbeats 1600000 in
theorem corner_any (n : Int) (w : World) (h : 1 ≤ n) (h2 : n ≤ 12) :
    Calls Tryz.prog 39 #[.int .i64 n] w fun e w' => e = .returned (.agg #[.int .i64 (cx n), .int .i64 (cy n), .int .i64 0]) ∧ Below w.heap.size w w' := by
  have h0 : 0 ≤ n - 1 := by omega
  rcases slot_cases h h2 with e | e | e | e | e | e | e | e | e | e | e | e
  all_goals
    subst e
    go_enter Tryz.func39, Tryz.ntmps39
    go_wp2
    refine bodyPost_ret (v := .agg #[.int .i64 (cx _), .int .i64 (cy _), .int .i64 0]) (by simp [results, Tryz.results39, go_sem, cx, cy]; try decide) rfl ⟨rfl, (Below.refl _ _).alloc (Nat.le_refl _) _⟩
set_option maxHeartbeats 1600000 in
theorem added_any (x y z x' y' z' : Int) (w : World) (h : ∀ n ∈ [x, y, z, x', y', z'], 0 ≤ n ∧ n ≤ 1000000000000) :
    Calls Tryz.prog 40 #[.agg #[.int .i64 x, .int .i64 y, .int .i64 z], .agg #[.int .i64 x', .int .i64 y', .int .i64 z']] w fun e w' => e = .returned (.agg #[.int .i64 (x + x'), .int .i64 (y + y'), .int .i64 (z + z')]) ∧ Below w.heap.size w w' := by
  have h0 := h x (by simp)
  have h1 := h y (by simp)
  have h2 := h z (by simp)
  have h3 := h x' (by simp)
  have h4 := h y' (by simp)
  have h5 := h z' (by simp)
  clear h
  go_enter Tryz.func40, Tryz.ntmps40
  go_wp2
  refine bodyPost_ret (v := .agg #[.int .i64 (x + x'), .int .i64 (y + y'), .int .i64 (z + z')]) (by simp [results, Tryz.results40, go_sem]) rfl ⟨rfl, (((Below.refl _ _).alloc (Nat.le_refl _) _).alloc (by simp) _).alloc (by simp; omega) _⟩
/-- A seat put over another. -/
abbrev put14 (w : World) (b : Nat) (s : Sit) : World := (((((((((((((w.setCell ⟨b, 0, none⟩ (.int .i64 s.slot)).setCell ⟨b, 1, none⟩ (.string s.ware.name)).setCell ⟨b, 2, none⟩ (.int .i64 s.ware.kind)).setCell ⟨b, 3, none⟩ (.int .i64 s.ware.rows)).setCell ⟨b, 4, none⟩ (.int .i64 s.ware.cols)).setCell ⟨b, 5, none⟩ (.int .i64 s.ware.x)).setCell ⟨b, 6, none⟩ (.int .i64 s.ware.y)).setCell ⟨b, 7, none⟩ (.int .i64 s.ware.pitch)).setCell ⟨b, 8, none⟩ (.int .i64 s.ware.wid)).setCell ⟨b, 9, none⟩ (.int .i64 s.ware.len)).setCell ⟨b, 10, none⟩ (.int .i64 s.ware.hei)).setCell ⟨b, 11, none⟩ (.int .i64 s.ware.deep)).setCell ⟨b, 12, none⟩ (.int .i64 s.ware.cap)).setCell ⟨b, 13, none⟩ (.string s.name)
theorem below_put14 {n b : Nat} {w w' : World} {s : Sit} (h : Below n w w') (hn : n ≤ b) : Below n w (put14 w' b s) :=
  (((((((((((((h.setCell hn _).setCell hn _).setCell hn _).setCell hn _).setCell hn _).setCell hn _).setCell hn _).setCell hn _).setCell hn _).setCell hn _).setCell hn _).setCell hn _).setCell hn _).setCell hn _
set_option maxHeartbeats 3200000 in
theorem find_none (g : Nat) (caps : Array Value) (f : Sit → Bool) (ao : Option Addr) (cap : Nat) (l : List Sit) (w : World) (eg : ∀ args w, (callFunc g args).run Tryz.prog w = .ok (.enter g args) w)
    (hT : TestsS g caps f w) (hL : Sts w ao l) (hl : l.length ≤ 9223372036854775807) (hno : ∀ s ∈ l, f s = false) :
    Calls Tryz.prog 44 #[.slice ao l.length cap, .func (.func g) #[] caps] w fun e w' => e = .returned (.tuple #[sv zSt, .int .i64 5]) ∧ Below w.heap.size w w' := by
  have al : Below w.heap.size w (w.alloc (sobj zSt)) := (Below.refl _ _).alloc (Nat.le_refl _) _
  have hcall := indexFuncS_any g caps f ao cap l (w.alloc (sobj zSt)) eg (fun a W hW => hT a W (al.trans (hW.mono (by simp)))) (hL.next al) hl
  rw [idxS_miss hno] at hcall
  have HC : Hid (Calls Tryz.prog 68 #[.slice ao l.length cap, .func (.func g) #[] caps] (w.alloc (sobj zSt)) fun e w' => e = .returned (.int .i64 (-1)) ∧ Below (w.alloc (sobj zSt)).heap.size (w.alloc (sobj zSt)) w') := hcall
  clear hT hL hcall hno
  go_enter Tryz.func44, Tryz.ntmps44
  go_wp2_with fail
  refine HC.out.mono ?_
  rintro e w1 ⟨rfl, hb⟩
  have K := (Sf.new w zSt).later hb
  have HB : Hid (Below w.heap.size w w1) := al.trans (hb.mono (by simp))
  clear hb al
  obtain ⟨⟨al, a0, a1, a2, a3, a4, a5, a6, a7, a8, a9, a10, a11, a12, a13⟩, f0, f1, f2, f3, f4, f5, f6, f7, f8, f9, f10, f11, f12, f13⟩ := K
  simp only [Nat.zero_add] at a1 a2 a3 a4 a5 a6 a7 a8 a9 a10 a11 a12 a13
  go_wp2
  refine bodyPost_ret (v := .tuple #[sv zSt, .int .i64 5]) (by simp [results, Tryz.results44, go_sem, a0, a1, a2, a3, a4, a5, a6, a7, a8, a9, a10, a11, a12, a13]) rfl ⟨rfl, ?_⟩
  exact below_put14 (s := zSt) HB.out (Nat.le_refl _)
set_option maxHeartbeats 3200000 in
theorem find_hit (g : Nat) (caps : Array Value) (f : Sit → Bool) (ao : Option Addr) (cap : Nat) (l : List Sit) (w : World) (eg : ∀ args w, (callFunc g args).run Tryz.prog w = .ok (.enter g args) w)
    (hT : TestsS g caps f w) (hL : Sts w ao l) (hl : l.length ≤ 9223372036854775807) (k : Nat) (hk : k < l.length) (s : Sit) (hs : s = l[k]'hk) (hhit : f s = true) (hno : ∀ b ∈ l.take k, f b = false) :
    Calls Tryz.prog 44 #[.slice ao l.length cap, .func (.func g) #[] caps] w fun e w' => e = .returned (.tuple #[sv s, .int .i64 0]) ∧ Below w.heap.size w w' := by
  have al : Below w.heap.size w (w.alloc (sobj zSt)) := (Below.refl _ _).alloc (Nat.le_refl _) _
  have hcall := indexFuncS_any g caps f ao cap l (w.alloc (sobj zSt)) eg (fun a W hW => hT a W (al.trans (hW.mono (by simp)))) (hL.next al) hl
  rw [idxS_hit hk hno (by rw [← hs]; exact hhit)] at hcall
  have HC : Hid (Calls Tryz.prog 68 #[.slice ao l.length cap, .func (.func g) #[] caps] (w.alloc (sobj zSt)) fun e w' => e = .returned (.int .i64 (k : Int)) ∧ Below (w.alloc (sobj zSt)).heap.size (w.alloc (sobj zSt)) w') := hcall
  obtain ⟨b, off, rfl, hat⟩ := hL.at hk
  rw [← hs] at hat
  have HAT := (show Hid _ from hat)
  clear hT hL hcall hno hs hhit hat
  go_enter Tryz.func44, Tryz.ntmps44
  go_wp2_with fail
  refine HC.out.mono ?_
  rintro e w1 ⟨rfl, hb⟩
  have K := (Sf.new w zSt).later hb
  have HB : Hid (Below w.heap.size w w1) := al.trans (hb.mono (by simp))
  obtain ⟨_, c0, c1, c2, c3, c4, c5, c6, c7, c8, c9, c10, c11, c12, c13⟩ := HAT.out.next HB.out
  clear hb al
  obtain ⟨⟨al, a0, a1, a2, a3, a4, a5, a6, a7, a8, a9, a10, a11, a12, a13⟩, f0, f1, f2, f3, f4, f5, f6, f7, f8, f9, f10, f11, f12, f13⟩ := K
  simp only [Nat.zero_add] at a1 a2 a3 a4 a5 a6 a7 a8 a9 a10 a11 a12 a13
  have hki : (k : Int) < (l.length : Int) := by omega
  go_wp2
  refine bodyPost_ret (v := .tuple #[sv s, .int .i64 0]) (by simp [results, Tryz.results44, go_sem, a0, a1, a2, a3, a4, a5, a6, a7, a8, a9, a10, a11, a12, a13]) rfl ⟨rfl, ?_⟩
  exact below_put14 (s := s) HB.out (Nat.le_refl _)

end Go.Proofs.YtmmpaaaifdikdaaGreatDoor
