/- deck.At walked. -/
import Derived.Test.YtmmpaaaifdikdaaGreatDoorDD
import Derived.Deep.RegionWith
namespace Go.Proofs.YtmmpaaaifdikdaaGreatDoor
open Go.RowKit

/-- Three numbers in a block of their own, not frozen. -/
structure T3 (b : Nat) (x y z : Int) (w : World) : Prop where
  lt : b < w.heap.size
  c0 : w.cell? ⟨b, 0, none⟩ = some (.int .i64 x)
  c1 : w.cell? ⟨b, 1, none⟩ = some (.int .i64 y)
  c2 : w.cell? ⟨b, 2, none⟩ = some (.int .i64 z)
  f0 : w.frozen? ⟨b, 0, none⟩ = false
  f1 : w.frozen? ⟨b, 1, none⟩ = false
  f2 : w.frozen? ⟨b, 2, none⟩ = false
theorem T3.later {b : Nat} {x y z : Int} {w w1 : World} (h : T3 b x y z w) (hb : Below w.heap.size w w1) : T3 b x y z w1 :=
  ⟨Nat.lt_of_lt_of_le h.lt hb.size, cell_later hb h.c0, cell_later hb h.c1, cell_later hb h.c2, (hb.frozen (p := ⟨b, 0, none⟩) h.lt).trans h.f0, (hb.frozen (p := ⟨b, 1, none⟩) h.lt).trans h.f1, (hb.frozen (p := ⟨b, 2, none⟩) h.lt).trans h.f2⟩
theorem T3.new (w : World) (x y z : Int) (t : Nat) (n : Nat) (hn : n = w.heap.size) : T3 n x y z (w.alloc (.cells #[.int .i64 x, .int .i64 y, .int .i64 z] t)) := by
  subst hn
  exact ⟨by simp, by go_simp, by go_simp, by go_simp, by go_simp, by go_simp, by go_simp⟩
abbrev pto (x y z : Int) : Obj := .cells #[.int .i64 x, .int .i64 y, .int .i64 z] 46
abbrev plo (n r c : Int) : Obj := .cells #[.int .i64 n, .int .i64 r, .int .i64 c] 53
abbrev ptv (x y z : Int) : Value := .agg #[.int .i64 x, .int .i64 y, .int .i64 z]
abbrev put3 (w : World) (b : Nat) (x y z : Int) : World := ((w.setCell ⟨b, 0, none⟩ (.int .i64 x)).setCell ⟨b, 1, none⟩ (.int .i64 y)).setCell ⟨b, 2, none⟩ (.int .i64 z)
theorem below_put3 {n b : Nat} {w w' : World} {x y z : Int} (h : Below n w w') (hn : n ≤ b) : Below n w (put3 w' b x y z) :=
  ((h.setCell hn _).setCell hn _).setCell hn _

theorem orL_three {p c q : Int} (h : orL [p, c, q] = 0) : p = 0 ∧ c = 0 ∧ q = 0 := by
  simp only [orL] at h
  split at h
  · split at h
    · split at h
      · exact ⟨by assumption, by assumption, by assumption⟩
      · omega
    · omega
  · omega
theorem orL_all : ∀ {l : List Int}, orL l = 0 → ∀ n ∈ l, n = 0
  | [], _, n, hn => by simp at hn
  | m :: l, h, n, hn => by
    simp only [orL] at h
    split at h
    · rename_i h0
      rcases List.mem_cons.1 hn with e | e
      · rw [e]; exact h0
      · exact orL_all h n e
    · omega
/-- What a deck is that may be. -/
theorem dchk_in {l : List Sit} (h : dchk l = 0) : l.length ≤ 12 ∧ ∀ k (hk : k < l.length), plc (l[k]'hk) = 0 ∧ chk (l[k]'hk).ware = 0 ∧ fit (l.take k) (l[k]'hk) = 0 := by
  unfold dchk at h
  split at h
  · omega
  · refine ⟨by omega, fun k hk => ?_⟩
    have := orL_all h (errAt l k) (List.mem_map.2 ⟨k, List.mem_range.2 hk, rfl⟩)
    rw [errAt_lt hk] at this
    exact orL_three this
theorem plc_in {s : Sit} (h : plc s = 0) : 1 ≤ s.slot ∧ s.slot ≤ 12 ∧ lab s.name = true := by
  unfold plc at h
  split at h
  · rename_i h1
    split at h
    · exact ⟨(inR_iff.1 h1).1, (inR_iff.1 h1).2, by assumption⟩
    · omega
  · omega

set_option maxHeartbeats 3200000 in
theorem at_err (ao : Option Addr) (cap : Nat) (l : List Sit) (n r c : Int) (w : World) (hL : Sts w ao l) (hcap : l.length ≤ cap) (hl : l.length ≤ 9223372036854775807) (hok : ∀ s ∈ l, SOk s) (hd : dchk l ≠ 0) :
    Calls Tryz.prog 17 #[.slice ao l.length cap, ptv n r c] w fun e w' => e = .returned (.tuple #[ptv 0 0 0, .int .i64 (dchk l)]) ∧ Below w.heap.size w w' := by
  have al : Below w.heap.size w ((w.alloc (plo n r c)).alloc (pto 0 0 0)) := ((Below.refl _ _).alloc (Nat.le_refl _) _).alloc (by simp) _
  have HC : Hid (Calls Tryz.prog 6 #[.slice ao l.length cap] ((w.alloc (plo n r c)).alloc (pto 0 0 0)) fun e w' => e = .returned (.int .i64 (dchk l)) ∧ Below ((w.alloc (plo n r c)).alloc (pto 0 0 0)).heap.size ((w.alloc (plo n r c)).alloc (pto 0 0 0)) w') := deckCheck_any ao cap l _ (hL.next al) hcap hl hok
  have hne : (dchk l != 0) = true := by simp [hd]
  clear hL hok hd
  generalize dchk l = e0 at *
  go_enter Tryz.func17, Tryz.ntmps17
  go_wp2_with fail
  refine Calls.mono HC.out ?_
  rintro e w1 ⟨rfl, hb⟩
  obtain ⟨_, c0, c1, c2, f0, f1, f2⟩ := (T3.new (w.alloc (plo n r c)) 0 0 0 46 (w.heap.size + 1) (by simp)).later hb
  have HB : Hid (Below w.heap.size w w1) := al.trans (hb.mono (by simp; omega))
  clear hb al
  go_wp2
  refine bodyPost_ret (v := .tuple #[ptv 0 0 0, .int .i64 e0]) (by simp [results, Tryz.results17, go_sem, c0, c1, c2]) rfl ⟨rfl, below_put3 (x := 0) (y := 0) (z := 0) HB.out (by omega)⟩

set_option maxHeartbeats 6400000 in
set_option maxRecDepth 100000 in
theorem at_none (ao : Option Addr) (cap : Nat) (l : List Sit) (n r c : Int) (w : World) (hL : Sts w ao l) (hcap : l.length ≤ cap) (hl : l.length ≤ 9223372036854775807) (hok : ∀ s ∈ l, SOk s) (hd : dchk l = 0) (hno : ∀ s ∈ l, (s.slot == n) = false) :
    Calls Tryz.prog 17 #[.slice ao l.length cap, ptv n r c] w fun e w' => e = .returned (.tuple #[ptv 0 0 0, .int .i64 5]) ∧ Below w.heap.size w w' := by
  have al : Below w.heap.size w ((w.alloc (plo n r c)).alloc (pto 0 0 0)) := ((Below.refl _ _).alloc (Nat.le_refl _) _).alloc (by simp) _
  have HC : Hid (Calls Tryz.prog 6 #[.slice ao l.length cap] ((w.alloc (plo n r c)).alloc (pto 0 0 0)) fun e w' => e = .returned (.int .i64 0) ∧ Below ((w.alloc (plo n r c)).alloc (pto 0 0 0)).heap.size ((w.alloc (plo n r c)).alloc (pto 0 0 0)) w') := by
    have := deckCheck_any ao cap l _ (hL.next al) hcap hl hok
    rw [hd] at this
    exact this
  have HF : Hid (∀ W : World, Below w.heap.size w W → Calls Tryz.prog 44 #[.slice ao l.length cap, .func (.func 69) #[] #[ptr W.heap.size]] (W.alloc (.cells #[.int .i64 n] 3)) fun e w' => e = .returned (.tuple #[sv zSt, .int .i64 5]) ∧ Below (W.alloc (.cells #[.int .i64 n] 3)).heap.size (W.alloc (.cells #[.int .i64 n] 3)) w') := fun W hW =>
    find_none 69 #[ptr W.heap.size] (fun a => a.slot == n) ao cap l _ en69 (fun a W' hW' => standing_test a n W.heap.size W' (by have := hW'.size; simp at this; omega) (cell_later hW' (by go_simp))) (hL.next (hW.alloc hW.size _)) hl hno
  clear hL hok hd hno
  go_enter Tryz.func17, Tryz.ntmps17
  go_wp2_with fail
  refine Calls.mono HC.out ?_
  rintro e w1 ⟨rfl, hb⟩
  have TP : Hid (T3 w.heap.size n r c w1) := ((T3.new w n r c 53 w.heap.size rfl).later ((Below.refl _ _).alloc (Nat.le_refl _) _)).later hb
  have TR : Hid (T3 (w.heap.size + 1) 0 0 0 w1) := (T3.new (w.alloc (plo n r c)) 0 0 0 46 (w.heap.size + 1) (by simp)).later hb
  have HB : Hid (Below w.heap.size w w1) := al.trans (hb.mono (by simp; omega))
  obtain ⟨_, p0, p1, p2, _, _, _⟩ := TP.out
  clear hb al HC
  go_wp2_with fail
  refine (standingIn_any n w1).mono ?_
  rintro e w2 ⟨rfl, rfl⟩
  go_wp2_with fail
  refine Calls.mono (HF.out w1 HB.out) ?_
  rintro e w3 ⟨rfl, hb3⟩
  have al1 : Below w1.heap.size w1 (w1.alloc (.cells #[.int .i64 n] 3)) := (Below.refl _ _).alloc (Nat.le_refl _) _
  have HB3 : Hid (Below w.heap.size w w3) := (HB.out.alloc HB.out.size _).trans (hb3.mono (by have := HB.out.size; simp; omega))
  have TP3 : Hid (T3 w.heap.size n r c w3) := (TP.out.later al1).later hb3
  have TR3 : Hid (T3 (w.heap.size + 1) 0 0 0 w3) := (TR.out.later al1).later hb3
  clear hb3 al1 p0 p1 p2 TP TR HB HF
  obtain ⟨lt, c0, c1, c2, f0, f1, f2⟩ := TR3.out
  go_wp2
  refine bodyPost_ret (v := .tuple #[ptv 0 0 0, .int .i64 5]) (by simp [results, Tryz.results17, go_sem, c0, c1, c2, lt]) rfl ⟨rfl, (below_put3 (x := 0) (y := 0) (z := 0) HB3.out (by omega)).alloc (by have := HB3.out.size; simp [World.setCell]; omega) _⟩

set_option maxHeartbeats 6400000 in
set_option maxRecDepth 100000 in
theorem at_out (ao : Option Addr) (cap : Nat) (l : List Sit) (n r c : Int) (w : World) (hL : Sts w ao l) (hcap : l.length ≤ cap) (hl : l.length ≤ 9223372036854775807) (hok : ∀ s ∈ l, SOk s) (hd : dchk l = 0) (k : Nat) (hk : k < l.length) (s : Sit) (hs : s = l[k]'hk) (hhit : s.slot = n) (hno : ∀ b ∈ l.take k, (b.slot == n) = false) (hsp : spotOk r c s.ware.rows s.ware.cols = false) :
    Calls Tryz.prog 17 #[.slice ao l.length cap, ptv n r c] w fun e w' => e = .returned (.tuple #[ptv 0 0 0, .int .i64 5]) ∧ Below w.heap.size w w' := by
  have al : Below w.heap.size w ((w.alloc (plo n r c)).alloc (pto 0 0 0)) := ((Below.refl _ _).alloc (Nat.le_refl _) _).alloc (by simp) _
  have HC : Hid (Calls Tryz.prog 6 #[.slice ao l.length cap] ((w.alloc (plo n r c)).alloc (pto 0 0 0)) fun e w' => e = .returned (.int .i64 0) ∧ Below ((w.alloc (plo n r c)).alloc (pto 0 0 0)).heap.size ((w.alloc (plo n r c)).alloc (pto 0 0 0)) w') := by
    have := deckCheck_any ao cap l _ (hL.next al) hcap hl hok
    rw [hd] at this
    exact this
  have HF : Hid (∀ W : World, Below w.heap.size w W → Calls Tryz.prog 44 #[.slice ao l.length cap, .func (.func 69) #[] #[ptr W.heap.size]] (W.alloc (.cells #[.int .i64 n] 3)) fun e w' => e = .returned (.tuple #[sv s, .int .i64 0]) ∧ Below (W.alloc (.cells #[.int .i64 n] 3)).heap.size (W.alloc (.cells #[.int .i64 n] 3)) w') := fun W hW =>
    find_hit 69 #[ptr W.heap.size] (fun a => a.slot == n) ao cap l _ en69 (fun a W' hW' => standing_test a n W.heap.size W' (by have := hW'.size; simp at this; omega) (cell_later hW' (by go_simp))) (hL.next (hW.alloc hW.size _)) hl k hk s hs (by simp [hhit]) hno
  have HSO : Hid (SOk s) := by show SOk s; rw [hs]; exact hok _ (List.getElem_mem hk)
  have HCH : Hid (chk s.ware = 0) := by show _ = _; rw [hs]; exact ((dchk_in hd).2 k hk).2.1
  have HSP : Hid (spotOk r c s.ware.rows s.ware.cols = false) := hsp
  clear hL hok hd hno hs hhit hsp
  go_enter Tryz.func17, Tryz.ntmps17
  go_wp2_with fail
  refine Calls.mono HC.out ?_
  rintro e w1 ⟨rfl, hb⟩
  have TP : Hid (T3 w.heap.size n r c w1) := ((T3.new w n r c 53 w.heap.size rfl).later ((Below.refl _ _).alloc (Nat.le_refl _) _)).later hb
  have TR : Hid (T3 (w.heap.size + 1) 0 0 0 w1) := (T3.new (w.alloc (plo n r c)) 0 0 0 46 (w.heap.size + 1) (by simp)).later hb
  have HB : Hid (Below w.heap.size w w1) := al.trans (hb.mono (by simp; omega))
  obtain ⟨_, p0, p1, p2, _, _, _⟩ := TP.out
  clear hb al HC
  go_wp2_with fail
  refine (standingIn_any n w1).mono ?_
  rintro e w2 ⟨rfl, rfl⟩
  go_wp2_with fail
  refine Calls.mono (HF.out w1 HB.out) ?_
  rintro e w3 ⟨rfl, hb3⟩
  have al1 : Below w1.heap.size w1 (w1.alloc (.cells #[.int .i64 n] 3)) := (Below.refl _ _).alloc (Nat.le_refl _) _
  have HB3 : Hid (Below w.heap.size w w3) := (HB.out.alloc HB.out.size _).trans (hb3.mono (by have := HB.out.size; simp; omega))
  have TP3 : Hid (T3 w.heap.size n r c w3) := (TP.out.later al1).later hb3
  have TR3 : Hid (T3 (w.heap.size + 1) 0 0 0 w3) := (TR.out.later al1).later hb3
  clear hb3 al1 p0 p1 p2 TP TR HB HF
  obtain ⟨_, q0, q1, q2, _, _, _⟩ := TP3.out
  go_wp2_with fail
  refine (middle_out s.ware r c (w3.alloc (sobj s)) HSO.out.1 HCH.out HSP.out).mono ?_
  rintro e w5 ⟨rfl, hb5⟩
  have al3 : Below w3.heap.size w3 (w3.alloc (sobj s)) := (Below.refl _ _).alloc (Nat.le_refl _) _
  have HB5 : Hid (Below w.heap.size w w5) := (HB3.out.alloc HB3.out.size _).trans (hb5.mono (by have := HB3.out.size; simp; omega))
  have TR5 := (TR3.out.later al3).later hb5
  clear hb5 al3 q0 q1 q2
  obtain ⟨lt, c0, c1, c2, f0, f1, f2⟩ := TR5
  go_wp2
  refine bodyPost_ret (v := .tuple #[ptv 0 0 0, .int .i64 5]) (by simp [results, Tryz.results17, go_sem, c0, c1, c2, lt]) rfl ⟨rfl, (below_put3 (x := 0) (y := 0) (z := 0) HB5.out (by omega)).alloc (by have := HB5.out.size; simp [World.setCell]; omega) _⟩
def atV (s : Sit) (X Y Z mx my mz : Int) (S : Nat) (d : Nat) (v : Value) (_ : World) : Prop :=
  match d with
  | 39 => v = .pointer (some ⟨S, 0, none⟩)
  | 40 => v = .int .i64 s.slot
  | 41 => v = ptv (cx s.slot) (cy s.slot) 0
  | 42 => v = ptv mx my mz
  | 43 => v = ptv X Y Z
  | _ => True

set_option maxHeartbeats 6400000 in
set_option maxRecDepth 100000 in
theorem at_ok (ao : Option Addr) (cap : Nat) (l : List Sit) (n r c : Int) (w : World) (hL : Sts w ao l) (hcap : l.length ≤ cap) (hl : l.length ≤ 9223372036854775807) (hok : ∀ s ∈ l, SOk s) (hd : dchk l = 0) (k : Nat) (hk : k < l.length) (s : Sit) (hs : s = l[k]'hk) (hhit : s.slot = n) (hno : ∀ b ∈ l.take k, (b.slot == n) = false) (hsp : spotOk r c s.ware.rows s.ware.cols = true) :
    Calls Tryz.prog 17 #[.slice ao l.length cap, ptv n r c] w fun e w' => e = .returned (.tuple #[ptv (cx s.slot + (s.ware.x + c * s.ware.pitch)) (cy s.slot + (s.ware.y + r * s.ware.pitch)) (0 + (s.ware.hei - s.ware.deep)), .int .i64 0]) ∧ Below w.heap.size w w' := by
  have al : Below w.heap.size w ((w.alloc (plo n r c)).alloc (pto 0 0 0)) := ((Below.refl _ _).alloc (Nat.le_refl _) _).alloc (by simp) _
  have HC : Hid (Calls Tryz.prog 6 #[.slice ao l.length cap] ((w.alloc (plo n r c)).alloc (pto 0 0 0)) fun e w' => e = .returned (.int .i64 0) ∧ Below ((w.alloc (plo n r c)).alloc (pto 0 0 0)).heap.size ((w.alloc (plo n r c)).alloc (pto 0 0 0)) w') := by
    have := deckCheck_any ao cap l _ (hL.next al) hcap hl hok
    rw [hd] at this
    exact this
  have HF : Hid (∀ W : World, Below w.heap.size w W → Calls Tryz.prog 44 #[.slice ao l.length cap, .func (.func 69) #[] #[ptr W.heap.size]] (W.alloc (.cells #[.int .i64 n] 3)) fun e w' => e = .returned (.tuple #[sv s, .int .i64 0]) ∧ Below (W.alloc (.cells #[.int .i64 n] 3)).heap.size (W.alloc (.cells #[.int .i64 n] 3)) w') := fun W hW =>
    find_hit 69 #[ptr W.heap.size] (fun a => a.slot == n) ao cap l _ en69 (fun a W' hW' => standing_test a n W.heap.size W' (by have := hW'.size; simp at this; omega) (cell_later hW' (by go_simp))) (hL.next (hW.alloc hW.size _)) hl k hk s hs (by simp [hhit]) hno
  have HSO : Hid (SOk s) := by show SOk s; rw [hs]; exact hok _ (List.getElem_mem hk)
  have HCH : Hid (chk s.ware = 0) := by show _ = _; rw [hs]; exact ((dchk_in hd).2 k hk).2.1
  have HPL : Hid (1 ≤ s.slot ∧ s.slot ≤ 12) := by show _ ∧ _; rw [hs]; exact ⟨(plc_in ((dchk_in hd).2 k hk).1).1, (plc_in ((dchk_in hd).2 k hk).1).2.1⟩
  have HSP : Hid (spotOk r c s.ware.rows s.ware.cols = true) := hsp
  obtain ⟨mx, hmx⟩ : ∃ mx, mx = s.ware.x + c * s.ware.pitch := ⟨_, rfl⟩
  obtain ⟨my, hmy⟩ : ∃ my, my = s.ware.y + r * s.ware.pitch := ⟨_, rfl⟩
  obtain ⟨mz, hmz⟩ : ∃ mz, mz = s.ware.hei - s.ware.deep := ⟨_, rfl⟩
  have HIN : Hid (∀ m ∈ [cx s.slot, cy s.slot, 0, mx, my, mz], 0 ≤ m ∧ m ≤ 1000000000000) := by
    have hin := chk_inR HCH.out
    have h1 := spotOk_iff.1 HSP.out
    have h2 := prod_in (c := c) (p := s.ware.pitch) h1.2.1 (by have := hin.c2; omega) hin.p0 hin.p1
    have h3 := prod_in (c := r) (p := s.ware.pitch) h1.1.1 (by have := hin.r2; omega) hin.p0 hin.p1
    have h4 := (chk_in HCH.out).2.2.2.2.2
    simp only [roomOk, Bool.and_eq_true, decide_eq_true_eq] at h4
    have h5 := cx_in (n := s.slot)
    have h6 := cy_in HPL.out.1 HPL.out.2
    obtain ⟨_, _, _, _, _, _, _, _, _, _, _, _, _, _, _, _, _, _⟩ := hin
    intro m hm
    simp only [List.mem_cons, List.mem_nil_iff, or_false] at hm
    rcases hm with e | e | e | e | e | e <;> omega
  have HMD : Hid (∀ W : World, Calls Tryz.prog 46 #[wv s.ware, .agg #[.int .i64 r, .int .i64 c]] W fun e w' => e = .returned (.tuple #[ptv mx my mz, .int .i64 0]) ∧ Below W.heap.size W w') := fun W => by
    rw [hmx, hmy, hmz]; exact middle_ok s.ware r c W HSO.out.1 HCH.out HSP.out
  rw [← hmx, ← hmy, ← hmz]
  obtain ⟨X, hX⟩ : ∃ X, X = cx s.slot + mx := ⟨_, rfl⟩
  obtain ⟨Y, hY⟩ : ∃ Y, Y = cy s.slot + my := ⟨_, rfl⟩
  obtain ⟨Z, hZ⟩ : ∃ Z, Z = 0 + mz := ⟨_, rfl⟩
  have HCO : Hid (∀ W : World, Calls Tryz.prog 39 #[.int .i64 s.slot] W fun e w' => e = .returned (ptv (cx s.slot) (cy s.slot) 0) ∧ Below W.heap.size W w') := fun W => corner_any s.slot W HPL.out.1 HPL.out.2
  have HAD : Hid (∀ W : World, Calls Tryz.prog 40 #[ptv (cx s.slot) (cy s.slot) 0, ptv mx my mz] W fun e w' => e = .returned (ptv X Y Z) ∧ Below W.heap.size W w') := fun W => by
    rw [hX, hY, hZ]; exact added_any _ _ _ _ _ _ W HIN.out
  rw [← hX, ← hY, ← hZ]
  clear hX hY hZ
  clear hL hok hd hno hs hhit hsp hmx hmy hmz
  go_enter Tryz.func17, Tryz.ntmps17
  go_wp2_with fail
  refine Calls.mono HC.out ?_
  rintro e w1 ⟨rfl, hb⟩
  have TP : Hid (T3 w.heap.size n r c w1) := ((T3.new w n r c 53 w.heap.size rfl).later ((Below.refl _ _).alloc (Nat.le_refl _) _)).later hb
  have TR : Hid (T3 (w.heap.size + 1) 0 0 0 w1) := (T3.new (w.alloc (plo n r c)) 0 0 0 46 (w.heap.size + 1) (by simp)).later hb
  have HB : Hid (Below w.heap.size w w1) := al.trans (hb.mono (by simp; omega))
  obtain ⟨_, p0, p1, p2, _, _, _⟩ := TP.out
  clear hb al HC
  go_wp2_with fail
  refine (standingIn_any n w1).mono ?_
  rintro e w2 ⟨rfl, rfl⟩
  go_wp2_with fail
  refine Calls.mono (HF.out w1 HB.out) ?_
  rintro e w3 ⟨rfl, hb3⟩
  have al1 : Below w1.heap.size w1 (w1.alloc (.cells #[.int .i64 n] 3)) := (Below.refl _ _).alloc (Nat.le_refl _) _
  have HB3 : Hid (Below w.heap.size w w3) := (HB.out.alloc HB.out.size _).trans (hb3.mono (by have := HB.out.size; simp; omega))
  have TP3 : Hid (T3 w.heap.size n r c w3) := (TP.out.later al1).later hb3
  have TR3 : Hid (T3 (w.heap.size + 1) 0 0 0 w3) := (TR.out.later al1).later hb3
  clear hb3 al1 p0 p1 p2 TP TR HB HF
  obtain ⟨_, q0, q1, q2, _, _, _⟩ := TP3.out
  go_wp2_with fail
  refine Calls.mono (HMD.out (w3.alloc (sobj s))) ?_
  rintro e w5 ⟨rfl, hb5⟩
  have al3 : Below w3.heap.size w3 (w3.alloc (sobj s)) := (Below.refl _ _).alloc (Nat.le_refl _) _
  have HB5 : Hid (Below w.heap.size w w5) := (HB3.out.alloc HB3.out.size _).trans (hb5.mono (by have := HB3.out.size; simp; omega))
  have TR5 : Hid (T3 (w.heap.size + 1) 0 0 0 w5) := (TR3.out.later al3).later hb5
  have KS5 : Hid (Sf w3.heap.size s w5) := (Sf.new w3 s).later hb5
  clear hb5 al3 q0 q1 q2 TR3 TP3 HMD
  go_wp2_with fail
  obtain ⟨w6, hw6⟩ : ∃ w6, w6 = w5.alloc (pto mx my mz) := ⟨_, rfl⟩
  have al5 : Below w5.heap.size w5 w6 := by rw [hw6]; exact (Below.refl _ _).alloc (Nat.le_refl _) _
  have TR6 : Hid (T3 (w.heap.size + 1) 0 0 0 w6) := TR5.out.later al5
  have KS6 : Hid (Sf w3.heap.size s w6) := KS5.out.later al5
  have TM6 : Hid (T3 w5.heap.size mx my mz w6) := by show T3 _ _ _ _ _; rw [hw6]; exact T3.new w5 mx my mz 46 _ rfl
  have HB6 : Hid (Below w.heap.size w w6) := HB5.out.trans (al5.mono HB5.out.size)
  rw [← hw6]
  clear hw6 al5 TR5 KS5 HB5
  refine region_seq 5 [false, false, false, false, false, false, false, false, false, false, false, false, false, false, false, false, false, false, false, false, false, false, false, false, false, false, false, false, false, false, false, false, false, false, false, false, false, false, false, true, true, true, true, true]
    [(39, [], none), (40, [39], none), (41, [40], none), (42, [], none), (43, [41, 42], none)]
    (atV s X Y Z mx my mz w3.heap.size) (by kernel_rfl) (by kernel_rfl) (by kernel_rfl) (by kernel_rfl) (by kernel_rfl) (by decide) (fun _ _ _ _ h _ => h) ?_ ?_
  · refine ⟨?_, ?_, ?_, ?_, ?_, trivial⟩
    · intro f w1 hb _ K hK
      simp only [over, overL, Nat.reduceAdd]
      go_simp
      exact hK _ _ ⟨_, rfl, by simp only [over, overL, Nat.reduceAdd]; rfl, Below.refl _ _⟩
    · intro f w1 hb ⟨h39, _⟩ K hK
      have h39 : f 39 = _ := h39
      obtain ⟨⟨al, a0, a1, a2, a3, a4, a5, a6, a7, a8, a9, a10, a11, a12, a13⟩, _⟩ := (KS6.out).later hb
      simp only [Nat.zero_add] at a1 a2 a3 a4 a5 a6 a7 a8 a9 a10 a11 a12 a13
      simp only [over, overL, Nat.reduceAdd, h39]
      go_simp
      exact hK _ _ ⟨_, rfl, by simp only [over, overL, Nat.reduceAdd, h39]; rfl, Below.refl _ _⟩
    · intro f w1 hb ⟨h40, _⟩ K hK
      have h40 : f 40 = _ := h40
      simp only [over, overL, Nat.reduceAdd, h40]
      go_simp
      refine Calls.mono (HCO.out _) ?_
      rintro e w9 ⟨rfl, hb9⟩
      exact hK _ _ ⟨_, rfl, by simp only [over, overL, Nat.reduceAdd, h40]; rfl, hb9⟩
    · intro f w1 hb _ K hK
      obtain ⟨_, t0, t1, t2, _, _, _⟩ := TM6.out.later hb
      simp only [over, overL, Nat.reduceAdd]
      go_simp
      exact hK _ _ ⟨_, rfl, by simp only [over, overL, Nat.reduceAdd]; rfl, Below.refl _ _⟩
    · intro f w1 hb ⟨h41, h42, _⟩ K hK
      have h41 : f 41 = _ := h41
      have h42 : f 42 = _ := h42
      simp only [over, overL, Nat.reduceAdd, h41, h42]
      go_simp
      refine Calls.mono (HAD.out _) ?_
      rintro e w9 ⟨rfl, hb9⟩
      exact hK _ _ ⟨_, rfl, by simp only [over, overL, Nat.reduceAdd, h41, h42]; rfl, hb9⟩
  intro f w7 hb7 hv
  have h43 : f 43 = ptv X Y Z := hv.2.2.2.2.1
  obtain ⟨_, c0, c1, c2, f0, f1, f2⟩ := TR6.out.later hb7
  have HB7 : Hid (Below w.heap.size w w7) := HB6.out.trans (hb7.mono HB6.out.size)
  clear hb7 hv HCO HAD HIN
  simp only [over, overL, h43, Nat.reduceAdd, List.drop_succ_cons, List.drop_zero]
  clear h43
  go_wp2
  refine bodyPost_ret (v := .tuple #[ptv X Y Z, .int .i64 0]) (by simp [results, Tryz.results17, go_sem, c0, c1, c2]) rfl ⟨rfl, below_put3 HB7.out (by omega)⟩

end Go.Proofs.YtmmpaaaifdikdaaGreatDoor
