/- find walked; what a deck is that may be. -/
import Derived.Test.YtjappkfhballhaaGreatDC
import Derived.Test.YtjappkfhballhaaGreatMid
import Derived.Test.YtjappkfhballhaaGreatSeq
namespace Go.Proofs.YtjappkfhballhaaGreat
open Go.RowKit

abbrev zWr : Wr := ⟨⟨#[]⟩, 0, 0, 0, 0, 0, 0, 0, 0, 0, 0, 0⟩
abbrev zSt : Sit := ⟨0, zWr, ⟨#[]⟩⟩
/-- A seat put over another. -/
abbrev put14 (w : World) (b : Nat) (s : Sit) : World := (((((((((((((w.setCell ⟨b, 0, none⟩ (.int .i64 s.slot)).setCell ⟨b, 1, none⟩ (.string s.ware.name)).setCell ⟨b, 2, none⟩ (.int .i64 s.ware.kind)).setCell ⟨b, 3, none⟩ (.int .i64 s.ware.rows)).setCell ⟨b, 4, none⟩ (.int .i64 s.ware.cols)).setCell ⟨b, 5, none⟩ (.int .i64 s.ware.x)).setCell ⟨b, 6, none⟩ (.int .i64 s.ware.y)).setCell ⟨b, 7, none⟩ (.int .i64 s.ware.pitch)).setCell ⟨b, 8, none⟩ (.int .i64 s.ware.wid)).setCell ⟨b, 9, none⟩ (.int .i64 s.ware.len)).setCell ⟨b, 10, none⟩ (.int .i64 s.ware.hei)).setCell ⟨b, 11, none⟩ (.int .i64 s.ware.deep)).setCell ⟨b, 12, none⟩ (.int .i64 s.ware.cap)).setCell ⟨b, 13, none⟩ (.string s.name)
theorem below_put14 {n b : Nat} {w w' : World} {s : Sit} (h : Below n w w') (hn : n ≤ b) : Below n w (put14 w' b s) :=
  (((((((((((((h.setCell hn _).setCell hn _).setCell hn _).setCell hn _).setCell hn _).setCell hn _).setCell hn _).setCell hn _).setCell hn _).setCell hn _).setCell hn _).setCell hn _).setCell hn _).setCell hn _
set_option maxHeartbeats 3200000 in
theorem find_none (g : Nat) (caps : Array Value) (f : Sit → Bool) (ao : Option Addr) (cap : Nat) (l : List Sit) (w : World) (eg : ∀ args w, (callFunc g args).run Tryz.prog w = .ok (.enter g args) w)
    (hT : TestsS g caps f w) (hL : Sts w ao l) (hl : l.length ≤ 9223372036854775807) (hno : ∀ s ∈ l, f s = false) :
    Calls Tryz.prog 64 #[.slice ao l.length cap, .func (.func g) #[] caps] w fun e w' => e = .returned (.tuple #[sv zSt, .int .i64 5]) ∧ Below w.heap.size w w' := by
  have al : Below w.heap.size w (w.alloc (sobj zSt)) := (Below.refl _ _).alloc (Nat.le_refl _) _
  have hcall := indexFuncS_any g caps f ao cap l (w.alloc (sobj zSt)) eg (fun a W hW => hT a W (al.trans (hW.mono (by simp)))) (hL.next al) hl
  rw [idxS_miss hno] at hcall
  have HC : Hid (Calls Tryz.prog 90 #[.slice ao l.length cap, .func (.func g) #[] caps] (w.alloc (sobj zSt)) fun e w' => e = .returned (.int .i64 (-1)) ∧ Below (w.alloc (sobj zSt)).heap.size (w.alloc (sobj zSt)) w') := hcall
  clear hT hL hcall hno
  go_enter Tryz.func64, Tryz.ntmps64
  go_wp2_with fail
  refine HC.out.mono ?_
  rintro e w1 ⟨rfl, hb⟩
  have K := (Sf.new w zSt).later hb
  have HB : Hid (Below w.heap.size w w1) := al.trans (hb.mono (by simp))
  clear hb al
  obtain ⟨⟨al, a0, a1, a2, a3, a4, a5, a6, a7, a8, a9, a10, a11, a12, a13⟩, f0, f1, f2, f3, f4, f5, f6, f7, f8, f9, f10, f11, f12, f13⟩ := K
  simp only [Nat.zero_add] at a1 a2 a3 a4 a5 a6 a7 a8 a9 a10 a11 a12 a13
  go_wp2
  refine bodyPost_ret (v := .tuple #[sv zSt, .int .i64 5]) (by simp [results, Tryz.results64, go_sem, a0, a1, a2, a3, a4, a5, a6, a7, a8, a9, a10, a11, a12, a13]) rfl ⟨rfl, ?_⟩
  exact below_put14 (s := zSt) HB.out (Nat.le_refl _)
set_option maxHeartbeats 3200000 in
theorem find_hit (g : Nat) (caps : Array Value) (f : Sit → Bool) (ao : Option Addr) (cap : Nat) (l : List Sit) (w : World) (eg : ∀ args w, (callFunc g args).run Tryz.prog w = .ok (.enter g args) w)
    (hT : TestsS g caps f w) (hL : Sts w ao l) (hl : l.length ≤ 9223372036854775807) (k : Nat) (hk : k < l.length) (s : Sit) (hs : s = l[k]'hk) (hhit : f s = true) (hno : ∀ b ∈ l.take k, f b = false) :
    Calls Tryz.prog 64 #[.slice ao l.length cap, .func (.func g) #[] caps] w fun e w' => e = .returned (.tuple #[sv s, .int .i64 0]) ∧ Below w.heap.size w w' := by
  have al : Below w.heap.size w (w.alloc (sobj zSt)) := (Below.refl _ _).alloc (Nat.le_refl _) _
  have hcall := indexFuncS_any g caps f ao cap l (w.alloc (sobj zSt)) eg (fun a W hW => hT a W (al.trans (hW.mono (by simp)))) (hL.next al) hl
  rw [idxS_hit hk hno (by rw [← hs]; exact hhit)] at hcall
  have HC : Hid (Calls Tryz.prog 90 #[.slice ao l.length cap, .func (.func g) #[] caps] (w.alloc (sobj zSt)) fun e w' => e = .returned (.int .i64 (k : Int)) ∧ Below (w.alloc (sobj zSt)).heap.size (w.alloc (sobj zSt)) w') := hcall
  obtain ⟨b, off, rfl, hat⟩ := hL.at hk
  rw [← hs] at hat
  have HAT := (show Hid _ from hat)
  clear hT hL hcall hno hs hhit hat
  go_enter Tryz.func64, Tryz.ntmps64
  go_wp2_with fail
  refine HC.out.mono ?_
  rintro e w1 ⟨rfl, hb⟩
  have K := (Sf.new w zSt).later hb
  have HB : Hid (Below w.heap.size w w1) := al.trans (hb.mono (by simp))
  obtain ⟨_, c0, c1, c2, c3, c4, c5, c6, c7, c8, c9, c10, c11, c12, c13⟩ := HAT.out.next HB.out
  clear hb al
  obtain ⟨⟨al, a0, a1, a2, a3, a4, a5, a6, a7, a8, a9, a10, a11, a12, a13⟩, f0, f1, f2, f3, f4, f5, f6, f7, f8, f9, f10, f11, f12, f13⟩ := K
  simp only [Nat.zero_add] at a1 a2 a3 a4 a5 a6 a7 a8 a9 a10 a11 a12 a13
  have hki : (k : Int) < (l.length : Int) := by omega
  go_wp2
  refine bodyPost_ret (v := .tuple #[sv s, .int .i64 0]) (by simp [results, Tryz.results64, go_sem, a0, a1, a2, a3, a4, a5, a6, a7, a8, a9, a10, a11, a12, a13]) rfl ⟨rfl, ?_⟩
  exact below_put14 (s := s) HB.out (Nat.le_refl _)

/-- Three numbers in a block of their own, not frozen. -/
structure T3 (b : Nat) (x y z : Int) (w : World) : Prop where
  lt : b < w.heap.size
  c0 : w.cell? ⟨b, 0, none⟩ = some (.int .i64 x)
  c1 : w.cell? ⟨b, 1, none⟩ = some (.int .i64 y)
  c2 : w.cell? ⟨b, 2, none⟩ = some (.int .i64 z)
  f0 : w.frozen? ⟨b, 0, none⟩ = false
  f1 : w.frozen? ⟨b, 1, none⟩ = false
  f2 : w.frozen? ⟨b, 2, none⟩ = false
theorem T3.later {b : Nat} {x y z : Int} {w w1 : World} (h : T3 b x y z w) (hb : Below w.heap.size w w1) : T3 b x y z w1 :=
  ⟨Nat.lt_of_lt_of_le h.lt hb.size, cell_later hb h.c0, cell_later hb h.c1, cell_later hb h.c2, (hb.frozen (p := ⟨b, 0, none⟩) h.lt).trans h.f0, (hb.frozen (p := ⟨b, 1, none⟩) h.lt).trans h.f1, (hb.frozen (p := ⟨b, 2, none⟩) h.lt).trans h.f2⟩
theorem T3.new (w : World) (x y z : Int) (t : Nat) (n : Nat) (hn : n = w.heap.size) : T3 n x y z (w.alloc (.cells #[.int .i64 x, .int .i64 y, .int .i64 z] t)) := by
  subst hn
  exact ⟨by simp, by go_simp, by go_simp, by go_simp, by go_simp, by go_simp, by go_simp⟩
abbrev plo (n r c : Int) : Obj := .cells #[.int .i64 n, .int .i64 r, .int .i64 c] 31
theorem orL_three {p c q : Int} (h : orL [p, c, q] = 0) : p = 0 ∧ c = 0 ∧ q = 0 := by
  simp only [orL] at h
  split at h
  · split at h
    · split at h
      · exact ⟨by assumption, by assumption, by assumption⟩
      · omega
    · omega
  · omega
theorem orL_all : ∀ {l : List Int}, orL l = 0 → ∀ n ∈ l, n = 0
  | [], _, n, hn => by simp at hn
  | m :: l, h, n, hn => by
    simp only [orL] at h
    split at h
    · rename_i h0
      rcases List.mem_cons.1 hn with e | e
      · rw [e]; exact h0
      · exact orL_all h n e
    · omega
/-- What a deck is that may be. -/
theorem dchk_in {l : List Sit} (h : dchk l = 0) : l.length ≤ 12 ∧ ∀ k (hk : k < l.length), plc (l[k]'hk) = 0 ∧ chk (l[k]'hk).ware = 0 ∧ fit (l.take k) (l[k]'hk) = 0 := by
  unfold dchk at h
  split at h
  · omega
  · refine ⟨by omega, fun k hk => ?_⟩
    have := orL_all h (errAt l k) (List.mem_map.2 ⟨k, List.mem_range.2 hk, rfl⟩)
    rw [errAt_lt hk] at this
    exact orL_three this
theorem plc_in {s : Sit} (h : plc s = 0) : 1 ≤ s.slot ∧ s.slot ≤ 12 ∧ lab s.name = true := by
  unfold plc at h
  split at h
  · rename_i h1
    split at h
    · exact ⟨(inR_iff.1 h1).1, (inR_iff.1 h1).2, by assumption⟩
    · omega
  · omega


end Go.Proofs.YtjappkfhballhaaGreat
