/- wareAt, wellMost walked. -/
import Derived.Test.YtjappkfhballhaaGreatMD
namespace Go.Proofs.YtjappkfhballhaaGreat
open Go.RowKit F

theorem find_cases (l : List Sit) (n : Int) : (seatOf l n = none ∧ ∀ s ∈ l, (s.slot == n) = false) ∨ ∃ k, ∃ h : k < l.length, seatOf l n = some (l[k]'h) ∧ (l[k]'h).slot = n ∧ ∀ b ∈ l.take k, (b.slot == n) = false := by
  unfold seatOf
  cases e : l.find? (fun s => s.slot == n) with
  | none => exact .inl ⟨rfl, fun s hs => by simpa using List.find?_eq_none.1 e s hs⟩
  | some s =>
    obtain ⟨h1, k, hk, h2, h3⟩ := List.find?_eq_some_iff_getElem.1 e
    refine .inr ⟨k, hk, by rw [h2], by rw [h2]; simpa using h1, fun b hb => ?_⟩
    obtain ⟨j, hj, rfl⟩ := List.mem_take_iff_getElem.1 hb
    simpa using h3 j (by omega)
set_option maxHeartbeats 3200000 in
theorem wareAt_none (ao : Option Addr) (cap : Nat) (l : List Sit) (p : Plc) (t m : Int) (w : World) (hD : Dk w ao cap l) (hl : l.length ≤ 9223372036854775807) (hno : ∀ s ∈ l, (s.slot == p.1) = false) :
    Calls Tryz.prog 67 #[lay3 ao cap l t m, plv p] w fun e w' => e = .returned (.tuple #[wv zWr, .int .i64 5]) ∧ Below w.heap.size w w' := by
  have al : Below w.heap.size w (((w.alloc (lao3 ao cap l t m)).alloc (pobj p)).alloc (wbo zWr)) := (((Below.refl _ _).alloc (Nat.le_refl _) _).alloc (by simp) _).alloc (by simp; omega) _
  have hcall := indexFuncS_any 92 #[ptr (w.heap.size + 1)] (fun a => a.slot == p.1) ao cap l _ enW (fun a W hW => ware_test a p.1 (w.heap.size + 1) W (by have := hW.size; simp at this; omega) (cell_later hW (by go_simp))) (hD.sts.next al) hl
  rw [idxS_miss hno] at hcall
  have HC : Hid (Calls Tryz.prog 90 #[.slice ao l.length cap, .func (.func 92) #[] #[ptr (w.heap.size + 1)]] (((w.alloc (lao3 ao cap l t m)).alloc (pobj p)).alloc (wbo zWr)) fun e w' => e = .returned (.int .i64 (-1)) ∧ Below (((w.alloc (lao3 ao cap l t m)).alloc (pobj p)).alloc (wbo zWr)).heap.size (((w.alloc (lao3 ao cap l t m)).alloc (pobj p)).alloc (wbo zWr)) w') := hcall
  clear hD hcall hno
  go_enter Tryz.func67, Tryz.ntmps67
  go_wp2_with fail
  refine HC.out.mono ?_
  rintro e w1 ⟨rfl, hb⟩
  have K := (Bk.new ((w.alloc (lao3 ao cap l t m)).alloc (pobj p)) (wcl zWr) 61 (w.heap.size + 1 + 1) (by simp)).later hb
  have HB : Hid (Below w.heap.size w w1) := al.trans (hb.mono (by simp; omega))
  clear hb al
  have a0 := (K).c 0 rfl
  have af0 := (K).f 0 rfl
  have a1 := (K).c 1 rfl
  have af1 := (K).f 1 rfl
  have a2 := (K).c 2 rfl
  have af2 := (K).f 2 rfl
  have a3 := (K).c 3 rfl
  have af3 := (K).f 3 rfl
  have a4 := (K).c 4 rfl
  have af4 := (K).f 4 rfl
  have a5 := (K).c 5 rfl
  have af5 := (K).f 5 rfl
  have a6 := (K).c 6 rfl
  have af6 := (K).f 6 rfl
  have a7 := (K).c 7 rfl
  have af7 := (K).f 7 rfl
  have a8 := (K).c 8 rfl
  have af8 := (K).f 8 rfl
  have a9 := (K).c 9 rfl
  have af9 := (K).f 9 rfl
  have a10 := (K).c 10 rfl
  have af10 := (K).f 10 rfl
  have a11 := (K).c 11 rfl
  have af11 := (K).f 11 rfl
  clear K
  go_wp2
  refine bodyPost_ret (v := .tuple #[wv zWr, .int .i64 5]) (by simp [results, Tryz.results67, go_sem, a0, a1, a2, a3, a4, a5, a6, a7, a8, a9, a10, a11]) rfl ⟨rfl, ?_⟩
  exact below_put12 (s := zWr) HB.out (by omega)
set_option maxHeartbeats 6400000 in
set_option maxRecDepth 100000 in
theorem wareAt_out (ao : Option Addr) (cap : Nat) (l : List Sit) (p : Plc) (t m : Int) (w : World) (hD : Dk w ao cap l) (hd : dchk l = 0) (k : Nat) (hk : k < l.length) (s : Sit) (hs : s = l[k]'hk) (hhit : s.slot = p.1) (hno : ∀ b ∈ l.take k, (b.slot == p.1) = false) (hsp : spotOk p.2.1 p.2.2 s.ware.rows s.ware.cols = false) :
    Calls Tryz.prog 67 #[lay3 ao cap l t m, plv p] w fun e w' => e = .returned (.tuple #[wv zWr, .int .i64 5]) ∧ Below w.heap.size w w' := by
  have al : Below w.heap.size w (((w.alloc (lao3 ao cap l t m)).alloc (pobj p)).alloc (wbo zWr)) := (((Below.refl _ _).alloc (Nat.le_refl _) _).alloc (by simp) _).alloc (by simp; omega) _
  have hl12 := dk_len hd
  have hcall := indexFuncS_any 92 #[ptr (w.heap.size + 1)] (fun a => a.slot == p.1) ao cap l _ enW (fun a W hW => ware_test a p.1 (w.heap.size + 1) W (by have := hW.size; simp at this; omega) (cell_later hW (by go_simp))) (hD.sts.next al) (by omega)
  rw [idxS_hit hk hno (by rw [← hs]; simp [hhit])] at hcall
  have HC : Hid (Calls Tryz.prog 90 #[.slice ao l.length cap, .func (.func 92) #[] #[ptr (w.heap.size + 1)]] (((w.alloc (lao3 ao cap l t m)).alloc (pobj p)).alloc (wbo zWr)) fun e w' => e = .returned (.int .i64 (k : Int)) ∧ Below (((w.alloc (lao3 ao cap l t m)).alloc (pobj p)).alloc (wbo zWr)).heap.size (((w.alloc (lao3 ao cap l t m)).alloc (pobj p)).alloc (wbo zWr)) w') := hcall
  obtain ⟨b, off, rfl, hat⟩ := hD.sts.at hk
  rw [← hs] at hat
  have HAT := (show Hid _ from hat)
  have HSO : Hid (SOk s) := by show SOk s; rw [hs]; exact hD.ok _ (List.getElem_mem hk)
  have HCH : Hid (chk s.ware = 0) := by show _ = _; rw [hs]; exact (dchk_ware hd (List.getElem_mem hk)).1
  have HSP : Hid (spotOk p.2.1 p.2.2 s.ware.rows s.ware.cols = false) := hsp
  clear hD hcall hno hs hhit hat hsp hd
  have hki : (k : Int) < (l.length : Int) := by omega
  go_enter Tryz.func67, Tryz.ntmps67
  go_wp2_with fail
  refine HC.out.mono ?_
  rintro e w1 ⟨rfl, hb⟩
  have K0 : Hid (Bk w.heap.size [.slice (some ⟨b, off, none⟩) l.length cap, .int .i64 t, .int .i64 m] w1) := ((Bk.new w [.slice (some ⟨b, off, none⟩) l.length cap, .int .i64 t, .int .i64 m] 67 w.heap.size rfl).later (((Below.refl _ _).alloc (Nat.le_refl _) _).alloc (by simp) _)).later hb
  have K1 : Hid (Bk (w.heap.size + 1) [.int .i64 p.1, .int .i64 p.2.1, .int .i64 p.2.2] w1) := ((Bk.new (w.alloc (lao3 (some ⟨b, off, none⟩) cap l t m)) [.int .i64 p.1, .int .i64 p.2.1, .int .i64 p.2.2] 31 (w.heap.size + 1) (by simp)).later ((Below.refl _ _).alloc (Nat.le_refl _) _)).later hb
  have K2 : Hid (Bk (w.heap.size + 1 + 1) (wcl zWr) w1) := (Bk.new ((w.alloc (lao3 (some ⟨b, off, none⟩) cap l t m)).alloc (pobj p)) (wcl zWr) 61 (w.heap.size + 1 + 1) (by simp)).later hb
  have HB : Hid (Below w.heap.size w w1) := al.trans (hb.mono (by simp; omega))
  clear hb al HC
  obtain ⟨_, c0, c1, c2, c3, c4, c5, c6, c7, c8, c9, c10, c11, c12, c13⟩ := HAT.out.next HB.out
  have l0 := (K0.out).c 0 rfl
  have l1 := (K0.out).c 1 rfl
  have l2 := (K0.out).c 2 rfl
  have p0 := (K1.out).c 0 rfl
  have p1 := (K1.out).c 1 rfl
  have p2 := (K1.out).c 2 rfl
  have lt := K2.out.1
  have lt0 : w.heap.size < w1.heap.size := by omega
  have lt1 : w.heap.size + 1 < w1.heap.size := by omega
  have n0 : w.heap.size ≠ w1.heap.size := by omega
  have n1 : w.heap.size + 1 ≠ w1.heap.size := by omega
  have n2 : w.heap.size + 1 + 1 ≠ w1.heap.size := by omega
  go_wp2_with fail
  refine (middle_out s.ware p.2.1 p.2.2 _ HSO.out.1 HCH.out HSP.out).mono ?_
  rintro e w2 ⟨rfl, hb2⟩
  have alw : Below w1.heap.size w1 (w1.alloc (wbo s.ware)) := (Below.refl _ _).alloc (Nat.le_refl _) _
  have K3 : Hid (Bk (w.heap.size + 1 + 1) (wcl zWr) w2) := (K2.out.later alw).later hb2
  have K4 : Hid (Bk w1.heap.size (wcl s.ware) w2) := (Bk.new w1 (wcl s.ware) 61 w1.heap.size rfl).later hb2
  have HB2 : Hid (Below w.heap.size w w2) := (HB.out.alloc HB.out.size _).trans (hb2.mono (by have := HB.out.size; simp; omega))
  clear hb2 alw c0 c1 c2 c3 c4 c5 c6 c7 c8 c9 c10 c11 c12 c13 l0 l1 l2 p0 p1 p2
  have lt2 := K3.out.1
  have lt3 := K4.out.1
  have m2 : w.heap.size + 1 + 1 ≠ w2.heap.size := by omega
  have a0 := (K3.out).c 0 rfl
  have af0 := (K3.out).f 0 rfl
  have a1 := (K3.out).c 1 rfl
  have af1 := (K3.out).f 1 rfl
  have a2 := (K3.out).c 2 rfl
  have af2 := (K3.out).f 2 rfl
  have a3 := (K3.out).c 3 rfl
  have af3 := (K3.out).f 3 rfl
  have a4 := (K3.out).c 4 rfl
  have af4 := (K3.out).f 4 rfl
  have a5 := (K3.out).c 5 rfl
  have af5 := (K3.out).f 5 rfl
  have a6 := (K3.out).c 6 rfl
  have af6 := (K3.out).f 6 rfl
  have a7 := (K3.out).c 7 rfl
  have af7 := (K3.out).f 7 rfl
  have a8 := (K3.out).c 8 rfl
  have af8 := (K3.out).f 8 rfl
  have a9 := (K3.out).c 9 rfl
  have af9 := (K3.out).f 9 rfl
  have a10 := (K3.out).c 10 rfl
  have af10 := (K3.out).f 10 rfl
  have a11 := (K3.out).c 11 rfl
  have af11 := (K3.out).f 11 rfl
  go_wp2
  refine bodyPost_ret (v := .tuple #[wv zWr, .int .i64 5]) (by simp [results, Tryz.results67, go_sem, a0, a1, a2, a3, a4, a5, a6, a7, a8, a9, a10, a11, lt2]) rfl ⟨rfl, ?_⟩
  exact (below_put12 (s := zWr) HB2.out (by omega)).alloc (by have := HB2.out.size; simp [World.setCell]; omega) _
set_option maxHeartbeats 6400000 in
set_option maxRecDepth 100000 in
theorem wareAt_ok (ao : Option Addr) (cap : Nat) (l : List Sit) (p : Plc) (t m : Int) (w : World) (hD : Dk w ao cap l) (hd : dchk l = 0) (k : Nat) (hk : k < l.length) (s : Sit) (hs : s = l[k]'hk) (hhit : s.slot = p.1) (hno : ∀ b ∈ l.take k, (b.slot == p.1) = false) (hsp : spotOk p.2.1 p.2.2 s.ware.rows s.ware.cols = true) :
    Calls Tryz.prog 67 #[lay3 ao cap l t m, plv p] w fun e w' => e = .returned (.tuple #[wv s.ware, .int .i64 0]) ∧ Below w.heap.size w w' := by
  have al : Below w.heap.size w (((w.alloc (lao3 ao cap l t m)).alloc (pobj p)).alloc (wbo zWr)) := (((Below.refl _ _).alloc (Nat.le_refl _) _).alloc (by simp) _).alloc (by simp; omega) _
  have hl12 := dk_len hd
  have hcall := indexFuncS_any 92 #[ptr (w.heap.size + 1)] (fun a => a.slot == p.1) ao cap l _ enW (fun a W hW => ware_test a p.1 (w.heap.size + 1) W (by have := hW.size; simp at this; omega) (cell_later hW (by go_simp))) (hD.sts.next al) (by omega)
  rw [idxS_hit hk hno (by rw [← hs]; simp [hhit])] at hcall
  have HC : Hid (Calls Tryz.prog 90 #[.slice ao l.length cap, .func (.func 92) #[] #[ptr (w.heap.size + 1)]] (((w.alloc (lao3 ao cap l t m)).alloc (pobj p)).alloc (wbo zWr)) fun e w' => e = .returned (.int .i64 (k : Int)) ∧ Below (((w.alloc (lao3 ao cap l t m)).alloc (pobj p)).alloc (wbo zWr)).heap.size (((w.alloc (lao3 ao cap l t m)).alloc (pobj p)).alloc (wbo zWr)) w') := hcall
  obtain ⟨b, off, rfl, hat⟩ := hD.sts.at hk
  rw [← hs] at hat
  have HAT := (show Hid _ from hat)
  have HSO : Hid (SOk s) := by show SOk s; rw [hs]; exact hD.ok _ (List.getElem_mem hk)
  have HCH : Hid (chk s.ware = 0) := by show _ = _; rw [hs]; exact (dchk_ware hd (List.getElem_mem hk)).1
  have HSP : Hid (spotOk p.2.1 p.2.2 s.ware.rows s.ware.cols = true) := hsp
  clear hD hcall hno hs hhit hat hsp hd
  have hki : (k : Int) < (l.length : Int) := by omega
  go_enter Tryz.func67, Tryz.ntmps67
  go_wp2_with fail
  refine HC.out.mono ?_
  rintro e w1 ⟨rfl, hb⟩
  have K0 : Hid (Bk w.heap.size [.slice (some ⟨b, off, none⟩) l.length cap, .int .i64 t, .int .i64 m] w1) := ((Bk.new w [.slice (some ⟨b, off, none⟩) l.length cap, .int .i64 t, .int .i64 m] 67 w.heap.size rfl).later (((Below.refl _ _).alloc (Nat.le_refl _) _).alloc (by simp) _)).later hb
  have K1 : Hid (Bk (w.heap.size + 1) [.int .i64 p.1, .int .i64 p.2.1, .int .i64 p.2.2] w1) := ((Bk.new (w.alloc (lao3 (some ⟨b, off, none⟩) cap l t m)) [.int .i64 p.1, .int .i64 p.2.1, .int .i64 p.2.2] 31 (w.heap.size + 1) (by simp)).later ((Below.refl _ _).alloc (Nat.le_refl _) _)).later hb
  have K2 : Hid (Bk (w.heap.size + 1 + 1) (wcl zWr) w1) := (Bk.new ((w.alloc (lao3 (some ⟨b, off, none⟩) cap l t m)).alloc (pobj p)) (wcl zWr) 61 (w.heap.size + 1 + 1) (by simp)).later hb
  have HB : Hid (Below w.heap.size w w1) := al.trans (hb.mono (by simp; omega))
  clear hb al HC
  obtain ⟨_, c0, c1, c2, c3, c4, c5, c6, c7, c8, c9, c10, c11, c12, c13⟩ := HAT.out.next HB.out
  have l0 := (K0.out).c 0 rfl
  have l1 := (K0.out).c 1 rfl
  have l2 := (K0.out).c 2 rfl
  have p0 := (K1.out).c 0 rfl
  have p1 := (K1.out).c 1 rfl
  have p2 := (K1.out).c 2 rfl
  have lt := K2.out.1
  have lt0 : w.heap.size < w1.heap.size := by omega
  have lt1 : w.heap.size + 1 < w1.heap.size := by omega
  have n0 : w.heap.size ≠ w1.heap.size := by omega
  have n1 : w.heap.size + 1 ≠ w1.heap.size := by omega
  have n2 : w.heap.size + 1 + 1 ≠ w1.heap.size := by omega
  go_wp2_with fail
  refine (middle_ok s.ware p.2.1 p.2.2 _ HSO.out.1 HCH.out HSP.out).mono ?_
  rintro e w2 ⟨rfl, hb2⟩
  have alw : Below w1.heap.size w1 (w1.alloc (wbo s.ware)) := (Below.refl _ _).alloc (Nat.le_refl _) _
  have K3 : Hid (Bk (w.heap.size + 1 + 1) (wcl zWr) w2) := (K2.out.later alw).later hb2
  have K4 : Hid (Bk w1.heap.size (wcl s.ware) w2) := (Bk.new w1 (wcl s.ware) 61 w1.heap.size rfl).later hb2
  have HB2 : Hid (Below w.heap.size w w2) := (HB.out.alloc HB.out.size _).trans (hb2.mono (by have := HB.out.size; simp; omega))
  clear hb2 alw c0 c1 c2 c3 c4 c5 c6 c7 c8 c9 c10 c11 c12 c13 l0 l1 l2 p0 p1 p2
  have lt2 := K3.out.1
  have lt3 := K4.out.1
  have m2 : w.heap.size + 1 + 1 ≠ w2.heap.size := by omega
  have m3 : w1.heap.size ≠ w2.heap.size := by omega
  have m4 : w1.heap.size ≠ w.heap.size + 1 + 1 := fun e => n2 e.symm
  have a0 := (K3.out).c 0 rfl
  have af0 := (K3.out).f 0 rfl
  have a1 := (K3.out).c 1 rfl
  have af1 := (K3.out).f 1 rfl
  have a2 := (K3.out).c 2 rfl
  have af2 := (K3.out).f 2 rfl
  have a3 := (K3.out).c 3 rfl
  have af3 := (K3.out).f 3 rfl
  have a4 := (K3.out).c 4 rfl
  have af4 := (K3.out).f 4 rfl
  have a5 := (K3.out).c 5 rfl
  have af5 := (K3.out).f 5 rfl
  have a6 := (K3.out).c 6 rfl
  have af6 := (K3.out).f 6 rfl
  have a7 := (K3.out).c 7 rfl
  have af7 := (K3.out).f 7 rfl
  have a8 := (K3.out).c 8 rfl
  have af8 := (K3.out).f 8 rfl
  have a9 := (K3.out).c 9 rfl
  have af9 := (K3.out).f 9 rfl
  have a10 := (K3.out).c 10 rfl
  have af10 := (K3.out).f 10 rfl
  have a11 := (K3.out).c 11 rfl
  have af11 := (K3.out).f 11 rfl
  have d0 := (K4.out).c 0 rfl
  have d1 := (K4.out).c 1 rfl
  have d2 := (K4.out).c 2 rfl
  have d3 := (K4.out).c 3 rfl
  have d4 := (K4.out).c 4 rfl
  have d5 := (K4.out).c 5 rfl
  have d6 := (K4.out).c 6 rfl
  have d7 := (K4.out).c 7 rfl
  have d8 := (K4.out).c 8 rfl
  have d9 := (K4.out).c 9 rfl
  have d10 := (K4.out).c 10 rfl
  have d11 := (K4.out).c 11 rfl
  go_wp2
  refine bodyPost_ret (v := .tuple #[wv s.ware, .int .i64 0]) (by simp [results, Tryz.results67, go_sem, a0, a1, a2, a3, a4, a5, a6, a7, a8, a9, a10, a11, lt2]) rfl ⟨rfl, ?_⟩
  exact (below_put12 (s := s.ware) HB2.out (by omega)).alloc (by have := HB2.out.size; simp [World.setCell]; omega) _
theorem wareAt_any (ao : Option Addr) (cap : Nat) (l : List Sit) (p : Plc) (t m : Int) (w : World) (hD : Dk w ao cap l) (hd : dchk l = 0) :
    Calls Tryz.prog 67 #[lay3 ao cap l t m, plv p] w fun e w' => e = .returned (.tuple #[wv (wareV l p).1, .int .i64 (wareV l p).2]) ∧ Below w.heap.size w w' := by
  have hl := dk_len hd
  rcases find_cases l p.1 with ⟨h1, h2⟩ | ⟨k, hk, h1, h2, h3⟩
  · have e : wareV l p = (zWr, 5) := by simp [wareV, wareOf, h1]
    rw [e]
    exact wareAt_none ao cap l p t m w hD (by omega) h2
  · cases hs : spotOk p.2.1 p.2.2 (l[k]'hk).ware.rows (l[k]'hk).ware.cols with
    | false =>
      have e : wareV l p = (zWr, 5) := by simp [wareV, wareOf, h1, hs]
      rw [e]
      exact wareAt_out ao cap l p t m w hD hd k hk _ rfl h2 h3 hs
    | true =>
      have e : wareV l p = ((l[k]'hk).ware, 0) := by simp [wareV, wareOf, h1, hs]
      rw [e]
      exact wareAt_ok ao cap l p t m w hD hd k hk _ rfl h2 h3 hs
end Go.Proofs.YtjappkfhballhaaGreat
