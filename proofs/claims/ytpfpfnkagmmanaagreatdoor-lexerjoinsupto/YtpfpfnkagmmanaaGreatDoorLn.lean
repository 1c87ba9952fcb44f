/- strings.Cut at a line feed, lexer.Line, walked. -/
import Derived.Test.YtpfpfnkagmmanaaGreatDoorLnM
namespace Go.Proofs.YtpfpfnkagmmanaaGreatDoor
open Go.RowKit Go.Shelf

theorem ln_drewN {B : Nat} {a w : World} (h : Below B a w) (n : Nat) : Below B a (w.drewN n) := ⟨h.os, h.tape, h.output, h.size, h.block⟩

set_option maxHeartbeats 3200000 in
set_option maxRecDepth 100000 in
theorem index10 (u : List UInt8) (w : World) :
    Calls Tryz.prog 53 #[.string ⟨u.toArray⟩, .string ⟨#[10]⟩] w fun e w' => e = .returned (.int .i64 (Lib.indexByte u 10)) ∧ w' = w := by
  have hc := Tryz.stringslite_IndexByte ⟨u.toArray⟩ 10 w
  have HC : Hid (Calls Tryz.prog 71 #[.string ⟨u.toArray⟩, .int .u8 10] w fun e w' => e = .returned (.int .i64 (Lib.indexByte u 10)) ∧ w' = w) := hc
  clear hc
  by_cases hu : u = [10]
  · subst hu
    clear HC
    go_enter Tryz.func53, Tryz.ntmps53
    go_wp2
    go_ret
    exact ⟨rfl, rfl⟩
  · have q1 : ([10] == u) = false := by simp; exact fun e => hu e.symm
    have q2 : (#[10] == u.toArray) = false := by simp; exact fun e => hu e.symm
    have q3 : ¬ [10] = u := fun e => hu e.symm
    clear hu
    go_enter Tryz.func53, Tryz.ntmps53
    go_wp2_with fail
    refine Calls.mono HC.out ?_
    rintro e w' ⟨rfl, rfl⟩
    go_wp2
    go_ret
    exact ⟨rfl, rfl⟩

set_option maxHeartbeats 3200000 in
theorem cut10_none (u : List UInt8) (w : World) (h : (10 : UInt8) ∉ u) :
    Calls Tryz.prog 15 #[.string ⟨u.toArray⟩, .string ⟨#[10]⟩] w fun e w' => e = .returned (.tuple #[.string ⟨u.toArray⟩, .string ⟨#[]⟩, .bool false]) ∧ w' = w := by
  have hc := index10 u w
  rw [ib_none h] at hc
  have H : Hid (Calls Tryz.prog 31 #[.string ⟨u.toArray⟩, .string ⟨#[10]⟩] w fun e w' => e = .returned (.tuple #[.string ⟨u.toArray⟩, .string ⟨#[]⟩, .bool false]) ∧ w' = w) := by
    show Calls _ _ _ _ _
    clear h
    have HC := (show Hid _ from hc)
    clear hc
    go_enter Tryz.func31, Tryz.ntmps31
    go_wp2_with fail
    refine Calls.mono HC.out ?_
    rintro e w' ⟨rfl, rfl⟩
    go_wp2
    go_ret3
    exact ⟨rfl, rfl⟩
  clear h hc
  go_enter Tryz.func15, Tryz.ntmps15
  go_wp2_with fail
  refine Calls.mono H.out ?_
  rintro e w' ⟨rfl, rfl⟩
  go_wp2
  go_ret3
  exact ⟨rfl, rfl⟩

theorem ex_front (a r : List UInt8) (n : Nat) (hn : n = a.length) : (⟨(a ++ 10 :: r).toArray⟩ : ByteArray).extract 0 n = ⟨a.toArray⟩ := by
  subst hn
  apply ByteArray.ext
  rw [ByteArray.data_extract]
  simp
theorem ex_back (a r : List UInt8) (n m : Nat) (hn : n = a.length + 1) (hm : m = a.length + 1 + r.length) : (⟨(a ++ 10 :: r).toArray⟩ : ByteArray).extract n m = ⟨r.toArray⟩ := by
  subst hn hm
  apply ByteArray.ext
  rw [ByteArray.data_extract]
  simp only [List.extract_toArray, List.extract_eq_take_drop]
  rw [show a ++ 10 :: r = (a ++ [10]) ++ r by simp, List.drop_append_of_le_length (by simp), List.drop_eq_nil_of_le (by simp)]
  simp

set_option maxHeartbeats 3200000 in
theorem cut10_some (a r : List UInt8) (w : World) (h : (10 : UInt8) ∉ a) (hs : a.length + r.length ≤ 140737488355328) :
    Calls Tryz.prog 15 #[.string ⟨(a ++ 10 :: r).toArray⟩, .string ⟨#[10]⟩] w fun e w' => e = .returned (.tuple #[.string ⟨a.toArray⟩, .string ⟨r.toArray⟩, .bool true]) ∧ ∃ q, w' = w.drewN q := by
  have hc := index10 (a ++ 10 :: r) w
  rw [ib_some h] at hc
  have h1 := ex_front a r a.length rfl
  have h2 := ex_back a r (a.length + 1) (a.length + 1 + r.length) rfl rfl
  have hsz : (⟨(a ++ 10 :: r).toArray⟩ : ByteArray).size = a.length + 1 + r.length := by simp [ByteArray.size]; omega
  obtain ⟨U, hU⟩ : ∃ U : ByteArray, U = ⟨(a ++ 10 :: r).toArray⟩ := ⟨_, rfl⟩
  rw [← hU] at hc h1 h2 hsz ⊢
  obtain ⟨N, hN⟩ : ∃ N : Nat, N = a.length := ⟨_, rfl⟩
  rw [← hN] at hc h1 h2 hsz hs
  have H : Hid (Calls Tryz.prog 31 #[.string U, .string ⟨#[10]⟩] w fun e w' => e = .returned (.tuple #[.string ⟨a.toArray⟩, .string ⟨r.toArray⟩, .bool true]) ∧ ∃ q, w' = w.drewN q) := by
    show Calls _ _ _ _ _
    have HC := (show Hid _ from hc)
    have HU := (show Hid _ from hU)
    have e1 : ∀ W, (Instr.slice 9 (.string U) none (some (.int .i64 (N : Int))) none).run Tryz.prog W = .ok (.string ⟨a.toArray⟩) W := fun W => by
      rw [run_slice_string_h W 9 U Tryz.underlying9 .i64 (N : Int) (by omega) (by rw [hsz]; omega), Int.toNat_natCast, h1]
    have e2 : ∀ W, (Instr.slice 9 (.string U) (some (.int .i64 ((N : Int) + 1))) none none).run Tryz.prog W = .ok (.string ⟨r.toArray⟩) W := fun W => by
      rw [run_slice_string_l W 9 U Tryz.underlying9 .i64 ((N : Int) + 1) (by omega) (by rw [hsz]; omega), show ((N : Int) + 1).toNat = N + 1 by omega, hsz, h2]
    clear hc hU h h1 h2 hN
    go_enter Tryz.func31, Tryz.ntmps31
    go_wp2_with fail
    refine Calls.mono HC.out ?_
    rintro e w' ⟨rfl, rfl⟩
    have hge : decide ((0 : Int) ≤ (N : Int)) = true := by simp
    go_wp2_with fail
    go_big_quiet (fail)
    go_wp2
    go_ret3
    exact ⟨rfl, _, rfl⟩
  clear h hc h1 h2 hsz hU hN
  go_enter Tryz.func15, Tryz.ntmps15
  go_wp2_with fail
  refine Calls.mono H.out ?_
  rintro e w' ⟨rfl, q, rfl⟩
  go_wp2
  go_ret3
  exact ⟨rfl, _, rfl⟩

set_option maxHeartbeats 6400000 in
set_option maxRecDepth 100000 in
theorem line_any (u : List UInt8) (n : Int) (o : Option (List UInt8)) (w : World) (hu : u.length ≤ 140737488351232) (ho : look n (lns (trimN u)) 1 = o) :
    Calls Tryz.prog 6 #[.string ⟨u.toArray⟩, .int .i64 n] w fun e w' => e = .returned (.tuple #[.string ⟨(lineT o).toArray⟩, .int .i64 (lineE o)]) ∧ Below w.heap.size w w' := by
  have ht := Tryz.strings_TrimSuffix ⟨u.toArray⟩ ⟨#[10]⟩ w (by simp [ByteArray.size]; omega)
  have HT : Hid (Calls Tryz.prog 14 #[.string ⟨u.toArray⟩, .string ⟨#[10]⟩] w fun e w' => e = .returned (.string ⟨(trimN u).toArray⟩) ∧ w' = w) := ht
  have hl := trimN_len u
  obtain ⟨t, hte⟩ : ∃ t, t = trimN u := ⟨_, rfl⟩
  rw [← hte] at HT hl ho
  have HO : Hid (look n (lns t) 1 = o) := ho
  clear ht hte ho
  go_enter Tryz.func6, Tryz.ntmps6
  go_wp2_with fail
  refine Calls.mono HT.out ?_
  rintro e w' ⟨rfl, rfl⟩
  go_wp2
  go_loopg [6, 7, 8] (t.length + 1) (fun gf s6 s7 s8 wr => ∃ (rest : List UInt8) (more : Bool) (k : Nat), s6 = .string ⟨rest.toArray⟩ ∧ s7 = .bool more ∧ s8 = .int .i64 (k : Int) ∧ Hid (look n (if more then lns rest else []) (k : Int) = o) ∧ rest.length ≤ gf ∧ (more = true → rest.length < gf) ∧ k + rest.length ≤ t.length + 1 + (if more then 0 else 1) ∧ Below w'.heap.size w' wr)
  case atStart => exact ⟨t, true, 1, rfl, rfl, rfl, HO.out, by omega, fun _ => by omega, by simp; omega, Below.refl _ _⟩
  case round =>
    obtain ⟨rest, more, k, rfl, rfl, rfl, hlk, hg1, hg2, hk, hb⟩ := hrel
    have HB : Hid (Below w'.heap.size w' wr) := hb
    clear hb
    cases more with
    | false =>
      have HX : Hid (o = none) := hlk.out.symm
      go_wp2
      go_ret2
      refine ⟨?_, HB.out⟩
      rw [HX.out]
      rfl
    | true =>
      have hg3 := hg2 rfl
      clear hg2
      simp only [if_true, Nat.add_zero] at hk hlk
      obtain ⟨g', rfl⟩ : ∃ g', gk = g' + 1 := ⟨gk - 1, by omega⟩
      rcases parts_at rest with hno | ⟨a, r, hr, hno⟩
      · have hc := (show Hid _ from cut10_none rest wr hno)
        rw [lns_none hno] at hlk
        clear hno
        go_wp2_with fail
        refine Calls.mono hc.out ?_
        rintro e w2 ⟨rfl, rfl⟩
        by_cases hkn : (k : Int) = n
        · have HX : Hid (o = some rest) := by have := hlk.out; rw [look, if_pos hkn] at this; exact this.symm
          subst hkn
          go_wp2
          go_ret2
          refine ⟨?_, HB.out⟩
          rw [HX.out]
          rfl
        · have HX : Hid (look n [] ((k : Int) + 1) = o) := by have := hlk.out; rw [look, if_neg hkn] at this; exact this
          have hq : ((k : Int) == n) = false := by simp [hkn]
          clear hkn
          go_wp2
          go_roundg g'
          case rel => exact ⟨[], false, k + 1, rfl, rfl, by go_num, HX.out, Nat.zero_le _, (fun e => by cases e), by simp; omega, HB.out⟩
          case measure => omega
      · subst hr
        have hc := (show Hid _ from cut10_some a r wr hno (by simp at hk; omega))
        rw [lns_some hno] at hlk
        have hlr : (a ++ 10 :: r).length = a.length + 1 + r.length := by simp; omega
        rw [hlr] at hk hg3
        clear hno hlr hg1
        obtain ⟨U, hU⟩ : ∃ U : ByteArray, U = ⟨(a ++ 10 :: r).toArray⟩ := ⟨_, rfl⟩
        rw [← hU] at hc ⊢
        clear hU
        go_wp2_with fail
        refine Calls.mono hc.out ?_
        rintro e w2 ⟨rfl, q, rfl⟩
        by_cases hkn : (k : Int) = n
        · have HX : Hid (o = some a) := by have := hlk.out; rw [look, if_pos hkn] at this; exact this.symm
          subst hkn
          go_wp2
          go_ret2
          refine ⟨?_, ln_drewN HB.out _⟩
          rw [HX.out]
          rfl
        · have HX : Hid (look n (lns r) ((k : Int) + 1) = o) := by have := hlk.out; rw [look, if_neg hkn] at this; exact this
          have hq : ((k : Int) == n) = false := by simp [hkn]
          clear hkn
          go_wp2
          go_roundg g'
          case rel => exact ⟨r, true, k + 1, rfl, rfl, by go_num, by show look n (if true then lns r else []) ((k + 1 : Nat) : Int) = o; simpa using HX.out, by omega, fun _ => by omega, by simp; omega, ln_drewN HB.out _⟩
          case measure => omega
end Go.Proofs.YtpfpfnkagmmanaaGreatDoor
