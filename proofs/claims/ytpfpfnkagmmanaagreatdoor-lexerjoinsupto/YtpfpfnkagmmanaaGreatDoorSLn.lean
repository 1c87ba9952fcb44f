/- The document's SourceLine, walked. -/
import Derived.Test.YtpfpfnkagmmanaaGreatDoorSpl
namespace Go.Proofs.YtpfpfnkagmmanaaGreatDoor
open Go.RowKit Go.Shelf

theorem trimN_feed (t : List UInt8) : trimN (t ++ [10]) = t := by
  unfold trimN Lib.trimSuffix
  rw [if_pos (by show List.isSuffixOf [10] (t ++ [10]) = true; rw [List.isSuffixOf_iff_suffix]; exact ⟨t, rfl⟩)]
  simp
theorem trimN_other (t : List UInt8) (c : UInt8) (h : c ≠ 10) : trimN (t ++ [c]) = t ++ [c] := by
  unfold trimN Lib.trimSuffix
  rw [if_neg]
  intro hs
  have hs : List.isSuffixOf [10] (t ++ [c]) = true := hs
  rw [List.isSuffixOf_iff_suffix] at hs
  obtain ⟨x, hx⟩ := hs
  have := congrArg List.getLast? hx
  simp at this
  exact h this.symm
theorem look_some {n : Int} {L : List (List UInt8)} (h1 : 1 ≤ n) (h2 : n ≤ L.length) : look n L 1 = some (L[(n - 1).toNat]'(by omega)) := by
  have := look_at (m := (n - 1).toNat) (L := L) (k := 1)
  rw [show (1 : Int) + ((n - 1).toNat : Nat) = n by omega] at this
  rw [this, List.getElem?_eq_getElem]
theorem look_none {n : Int} {L : List (List UInt8)} (h : ¬ (1 ≤ n ∧ n ≤ L.length)) : look n L 1 = none := by
  by_cases h1 : n < 1
  · exact look_below h1
  · have := look_at (m := (n - 1).toNat) (L := L) (k := 1)
    rw [show (1 : Int) + ((n - 1).toNat : Nat) = n by omega] at this
    rw [this, List.getElem?_eq_none (by omega)]
theorem last_at (t : List UInt8) (c : UInt8) (W : World) : (Instr.index 9 (.string ⟨(t ++ [c]).toArray⟩) (.int .i64 (t.length : Int))).run Tryz.prog W = .ok (.int .u8 (c.toNat : Int)) W := by
  have hz : (⟨(t ++ [c]).toArray⟩ : ByteArray).size = t.length + 1 := by simp [ByteArray.size]
  rw [run_index_string W 9 _ .i64 (t.length : Int) Tryz.underlying9, dif_pos ⟨by omega, by rw [hz]; omega⟩]
  congr 3
  have : ((⟨(t ++ [c]).toArray⟩ : ByteArray)[((t.length : Nat) : Int).toNat]'(by rw [hz, Int.toNat_natCast]; omega)) = c := by
    show ((t ++ [c]).toArray)[t.length]'(by simp) = c
    simp
  rw [this]
theorem front_at (t : List UInt8) (c : UInt8) (W : World) : (Instr.slice 9 (.string ⟨(t ++ [c]).toArray⟩) none (some (.int .i64 (t.length : Int))) none).run Tryz.prog W = .ok (.string ⟨t.toArray⟩) W := by
  rw [run_slice_string_h W 9 _ Tryz.underlying9 .i64 (t.length : Int) (by omega) (by simp [ByteArray.size]; omega), Int.toNat_natCast]
  congr 2
  apply ByteArray.ext
  rw [ByteArray.data_extract]
  simp
set_option maxHeartbeats 3200000 in
theorem source_feed (t : List UInt8) (hu : t.length + 1 ≤ 1048576) (n : Int) (o : Option (List UInt8)) (w : World) (hn : -9223372036854775808 ≤ n ∧ n ≤ 9223372036854775807) (ho : look n (lns t) 1 = o) :
    Calls Tryz.prog 7 #[.string ⟨(t ++ [10]).toArray⟩, .int .i64 n] w fun e w' => e = .returned (.tuple #[.string ⟨(lineT o).toArray⟩, .bool o.isSome]) ∧ Below w.heap.size w w' := by
  obtain ⟨L, hL⟩ : ∃ L, L = lns t := ⟨_, rfl⟩
  obtain ⟨TT, hTT⟩ : ∃ TT : ByteArray, TT = ⟨(t : List UInt8).toArray⟩ := ⟨_, rfl⟩
  have i1 := last_at t 10
  have s1 := front_at t 10
  have hz : (⟨(t ++ [10]).toArray⟩ : ByteArray).size = t.length + 1 := by simp [ByteArray.size]
  obtain ⟨S, hS⟩ : ∃ S : ByteArray, S = ⟨(t ++ [10]).toArray⟩ := ⟨_, rfl⟩
  rw [← hS] at i1 s1 hz ⊢
  rw [← hTT] at s1
  have HSP : Hid (∀ W, Calls Tryz.prog 16 #[.string TT, .int .u8 10] W fun e w' => ∃ v, e = .returned v ∧ OwnS w' W.heap.size v L ∧ Below W.heap.size W w') := fun W => by
    have := splitAt_any TT W (by rw [hTT]; simp [ByteArray.size]; omega)
    rw [show TT.data.toList = t by rw [hTT]] at this
    rw [hL]; exact this
  have hne : L ≠ [] := by rw [hL]; exact lns_ne _
  have hLl : L.length ≤ 1048577 := by rw [hL]; have := lns_len t; omega
  have HL2 : Hid (look n L 1 = o) := by rw [hL]; exact ho
  have HNE : Hid (L ≠ []) := hne
  clear ho hL hTT hne
  clear hS
  go_enter Tryz.func7, Tryz.ntmps7
  go_wp2_with fail
  refine Calls.mono (HSP.out _) ?_
  rintro x w1 ⟨v, rfl, hv, hb1⟩
  obtain ⟨g, cap, rfl, hcells⟩ := hv.read HNE.out
  have HB1 : Hid (Below w.heap.size w w1) := hb1
  have HCE : Hid (∀ k (hk : k < L.length), w1.cell? ⟨g, k, none⟩ = some (.string ⟨(L[k]'hk).toArray⟩)) := hcells
  obtain ⟨m, hm⟩ : ∃ m, m = L.length := ⟨_, rfl⟩
  have HM : Hid (m = L.length) := hm
  rw [← hm] at hLl ⊢
  clear hv hb1 hcells hm
  by_cases hin : 1 ≤ n ∧ n ≤ m
  · obtain ⟨h1, h2⟩ := hin
    obtain ⟨k, hk⟩ : ∃ k : Nat, n = (k : Int) + 1 := ⟨(n - 1).toNat, by omega⟩
    subst hk
    have hkm : k < m := by omega
    have hcell := HCE.out k (by rw [← HM.out]; exact hkm)
    have HLO : Hid (o = some (L[k]'(by rw [← HM.out]; exact hkm))) := by
      have := look_at (m := k) (L := L) (k := 1)
      rw [show (1 : Int) + (k : Int) = (k : Int) + 1 by omega] at this
      show o = some _
      rw [← HL2.out, this, List.getElem?_eq_getElem (by rw [← HM.out]; exact hkm)]
    obtain ⟨X, hX⟩ : ∃ X, X = L[k]'(by rw [← HM.out]; exact hkm) := ⟨_, rfl⟩
    rw [← hX] at hcell HLO
    have k0 : (0 : Int) ≤ (k : Int) := by omega
    have k1 : (k : Int) < (m : Int) := by omega
    clear hX
    go_wp2_with fail
    refine Calls.mono (within_yes _ _ _ _ h1 h2) ?_
    rintro x w2 ⟨rfl, rfl⟩
    clear h1 h2
    go_wp2
    go_ret2
    refine ⟨?_, HB1.out⟩
    rw [HLO.out]
    rfl
  · have HLO : Hid (o = none) := by show o = none; rw [← HL2.out]; exact look_none (by rw [← HM.out]; exact hin)
    go_wp2_with fail
    refine Calls.mono (within_no _ _ _ _ (by omega)) ?_
    rintro x w2 ⟨rfl, rfl⟩
    clear hin
    go_wp2
    go_ret2
    refine ⟨?_, HB1.out⟩
    rw [HLO.out]
    rfl
set_option maxHeartbeats 3200000 in
theorem source_other (t : List UInt8) (c : UInt8) (hc : c ≠ 10) (hu : t.length + 1 ≤ 1048576) (n : Int) (o : Option (List UInt8)) (w : World) (hn : -9223372036854775808 ≤ n ∧ n ≤ 9223372036854775807) (ho : look n (lns (t ++ [c])) 1 = o) :
    Calls Tryz.prog 7 #[.string ⟨(t ++ [c]).toArray⟩, .int .i64 n] w fun e w' => e = .returned (.tuple #[.string ⟨(lineT o).toArray⟩, .bool o.isSome]) ∧ Below w.heap.size w w' := by
  obtain ⟨L, hL⟩ : ∃ L, L = lns (t ++ [c]) := ⟨_, rfl⟩
  obtain ⟨TT, hTT⟩ : ∃ TT : ByteArray, TT = ⟨((t ++ [c]) : List UInt8).toArray⟩ := ⟨_, rfl⟩
  have i1 := last_at t c
  have q : ((c.toNat : Int) == 10) = false := by have := nat_ne hc; simp at this ⊢; omega
  have hz : TT.size = t.length + 1 := by rw [hTT]; simp [ByteArray.size]
  have hlt : (t ++ [c]).length = t.length + 1 := by simp
  rw [← hTT] at i1 ⊢
  have HSP : Hid (∀ W, Calls Tryz.prog 16 #[.string TT, .int .u8 10] W fun e w' => ∃ v, e = .returned v ∧ OwnS w' W.heap.size v L ∧ Below W.heap.size W w') := fun W => by
    have := splitAt_any TT W (by rw [hTT]; simp [ByteArray.size]; omega)
    rw [show TT.data.toList = (t ++ [c]) by rw [hTT]] at this
    rw [hL]; exact this
  have hne : L ≠ [] := by rw [hL]; exact lns_ne _
  have hLl : L.length ≤ 1048577 := by rw [hL]; have := lns_len (t ++ [c]); omega
  have HL2 : Hid (look n L 1 = o) := by rw [hL]; exact ho
  have HNE : Hid (L ≠ []) := hne
  clear ho hL hTT hne
  clear hc hlt
  go_enter Tryz.func7, Tryz.ntmps7
  go_wp2_with fail
  refine Calls.mono (HSP.out _) ?_
  rintro x w1 ⟨v, rfl, hv, hb1⟩
  obtain ⟨g, cap, rfl, hcells⟩ := hv.read HNE.out
  have HB1 : Hid (Below w.heap.size w w1) := hb1
  have HCE : Hid (∀ k (hk : k < L.length), w1.cell? ⟨g, k, none⟩ = some (.string ⟨(L[k]'hk).toArray⟩)) := hcells
  obtain ⟨m, hm⟩ : ∃ m, m = L.length := ⟨_, rfl⟩
  have HM : Hid (m = L.length) := hm
  rw [← hm] at hLl ⊢
  clear hv hb1 hcells hm
  by_cases hin : 1 ≤ n ∧ n ≤ m
  · obtain ⟨h1, h2⟩ := hin
    obtain ⟨k, hk⟩ : ∃ k : Nat, n = (k : Int) + 1 := ⟨(n - 1).toNat, by omega⟩
    subst hk
    have hkm : k < m := by omega
    have hcell := HCE.out k (by rw [← HM.out]; exact hkm)
    have HLO : Hid (o = some (L[k]'(by rw [← HM.out]; exact hkm))) := by
      have := look_at (m := k) (L := L) (k := 1)
      rw [show (1 : Int) + (k : Int) = (k : Int) + 1 by omega] at this
      show o = some _
      rw [← HL2.out, this, List.getElem?_eq_getElem (by rw [← HM.out]; exact hkm)]
    obtain ⟨X, hX⟩ : ∃ X, X = L[k]'(by rw [← HM.out]; exact hkm) := ⟨_, rfl⟩
    rw [← hX] at hcell HLO
    have k0 : (0 : Int) ≤ (k : Int) := by omega
    have k1 : (k : Int) < (m : Int) := by omega
    clear hX
    go_wp2_with fail
    refine Calls.mono (within_yes _ _ _ _ h1 h2) ?_
    rintro x w2 ⟨rfl, rfl⟩
    clear h1 h2
    go_wp2
    go_ret2
    refine ⟨?_, HB1.out⟩
    rw [HLO.out]
    rfl
  · have HLO : Hid (o = none) := by show o = none; rw [← HL2.out]; exact look_none (by rw [← HM.out]; exact hin)
    go_wp2_with fail
    refine Calls.mono (within_no _ _ _ _ (by omega)) ?_
    rintro x w2 ⟨rfl, rfl⟩
    clear hin
    go_wp2
    go_ret2
    refine ⟨?_, HB1.out⟩
    rw [HLO.out]
    rfl
set_option maxHeartbeats 3200000 in
theorem source_none  (n : Int) (o : Option (List UInt8)) (w : World) (hn : -9223372036854775808 ≤ n ∧ n ≤ 9223372036854775807) (ho : look n (lns ([] : List UInt8)) 1 = o) :
    Calls Tryz.prog 7 #[.string ⟨#[]⟩, .int .i64 n] w fun e w' => e = .returned (.tuple #[.string ⟨(lineT o).toArray⟩, .bool o.isSome]) ∧ Below w.heap.size w w' := by
  obtain ⟨L, hL⟩ : ∃ L, L = lns ([] : List UInt8) := ⟨_, rfl⟩
  obtain ⟨TT, hTT⟩ : ∃ TT : ByteArray, TT = ⟨(([] : List UInt8) : List UInt8).toArray⟩ := ⟨_, rfl⟩
  have hz : TT.size = 0 := by rw [hTT]; rfl
  rw [show (⟨#[]⟩ : ByteArray) = TT from hTT.symm]
  have HSP : Hid (∀ W, Calls Tryz.prog 16 #[.string TT, .int .u8 10] W fun e w' => ∃ v, e = .returned v ∧ OwnS w' W.heap.size v L ∧ Below W.heap.size W w') := fun W => by
    have := splitAt_any TT W (by rw [hTT]; simp [ByteArray.size])
    rw [show TT.data.toList = ([] : List UInt8) by rw [hTT]] at this
    rw [hL]; exact this
  have hne : L ≠ [] := by rw [hL]; exact lns_ne _
  have hLl : L.length ≤ 1048577 := by rw [hL]; decide
  have HL2 : Hid (look n L 1 = o) := by rw [hL]; exact ho
  have HNE : Hid (L ≠ []) := hne
  clear ho hL hTT hne
  go_enter Tryz.func7, Tryz.ntmps7
  go_wp2_with fail
  refine Calls.mono (HSP.out _) ?_
  rintro x w1 ⟨v, rfl, hv, hb1⟩
  obtain ⟨g, cap, rfl, hcells⟩ := hv.read HNE.out
  have HB1 : Hid (Below w.heap.size w w1) := hb1
  have HCE : Hid (∀ k (hk : k < L.length), w1.cell? ⟨g, k, none⟩ = some (.string ⟨(L[k]'hk).toArray⟩)) := hcells
  obtain ⟨m, hm⟩ : ∃ m, m = L.length := ⟨_, rfl⟩
  have HM : Hid (m = L.length) := hm
  rw [← hm] at hLl ⊢
  clear hv hb1 hcells hm
  by_cases hin : 1 ≤ n ∧ n ≤ m
  · obtain ⟨h1, h2⟩ := hin
    obtain ⟨k, hk⟩ : ∃ k : Nat, n = (k : Int) + 1 := ⟨(n - 1).toNat, by omega⟩
    subst hk
    have hkm : k < m := by omega
    have hcell := HCE.out k (by rw [← HM.out]; exact hkm)
    have HLO : Hid (o = some (L[k]'(by rw [← HM.out]; exact hkm))) := by
      have := look_at (m := k) (L := L) (k := 1)
      rw [show (1 : Int) + (k : Int) = (k : Int) + 1 by omega] at this
      show o = some _
      rw [← HL2.out, this, List.getElem?_eq_getElem (by rw [← HM.out]; exact hkm)]
    obtain ⟨X, hX⟩ : ∃ X, X = L[k]'(by rw [← HM.out]; exact hkm) := ⟨_, rfl⟩
    rw [← hX] at hcell HLO
    have k0 : (0 : Int) ≤ (k : Int) := by omega
    have k1 : (k : Int) < (m : Int) := by omega
    clear hX
    go_wp2_with fail
    refine Calls.mono (within_yes _ _ _ _ h1 h2) ?_
    rintro x w2 ⟨rfl, rfl⟩
    clear h1 h2
    go_wp2
    go_ret2
    refine ⟨?_, HB1.out⟩
    rw [HLO.out]
    rfl
  · have HLO : Hid (o = none) := by show o = none; rw [← HL2.out]; exact look_none (by rw [← HM.out]; exact hin)
    go_wp2_with fail
    refine Calls.mono (within_no _ _ _ _ (by omega)) ?_
    rintro x w2 ⟨rfl, rfl⟩
    clear hin
    go_wp2
    go_ret2
    refine ⟨?_, HB1.out⟩
    rw [HLO.out]
    rfl
theorem sourceLine_any (u : List UInt8) (n : Int) (o : Option (List UInt8)) (w : World) (hu : u.length ≤ 1048576) (hn : -9223372036854775808 ≤ n ∧ n ≤ 9223372036854775807) (ho : look n (lns (trimN u)) 1 = o) :
    Calls Tryz.prog 7 #[.string ⟨u.toArray⟩, .int .i64 n] w fun e w' => e = .returned (.tuple #[.string ⟨(lineT o).toArray⟩, .bool o.isSome]) ∧ Below w.heap.size w w' := by
  rcases List.eq_nil_or_concat u with rfl | ⟨t, c, rfl⟩
  · exact source_none n o w hn ho
  · rw [List.concat_eq_append] at *
    have hl : t.length + 1 ≤ 1048576 := by simpa using hu
    by_cases hc : c = 10
    · subst hc
      rw [trimN_feed] at ho
      exact source_feed t hl n o w hn ho
    · rw [trimN_other t c hc] at ho
      exact source_other t c hc hl n o w hn ho
end Go.Proofs.YtpfpfnkagmmanaaGreatDoor
