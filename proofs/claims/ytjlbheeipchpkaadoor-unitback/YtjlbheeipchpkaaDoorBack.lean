/- workcellkeep.UnitBack, walked: it answers true. -/
import Derived.Test.YtjlbheeipchpkaaDoorShow
namespace Go.Proofs.YtjlbheeipchpkaaDoor
open Go.RowKit Go.Shelf

/-! ### what is shown is read again: the plain part -/
theorem least_facts : ∀ j : Fin 6, ∃ u, leastL[j.val]? = some u ∧ meas (Lib.mapD plainF u) = some ((j.val : Int), 1, 0) ∧ Lib.hasPrefix u [46] = false ∧ (∀ b, u.head? = some b → isDig b = false) := by
  intro j
  match j with
  | 0 => exact ⟨_, rfl, by decide +kernel, by decide, by intro b h; simp at h⟩
  | 1 => exact ⟨_, rfl, by decide +kernel, by decide, by intro b h; simp at h; subst h; decide⟩
  | 2 => exact ⟨_, rfl, by decide +kernel, by decide, by intro b h; simp at h; subst h; decide⟩
  | 3 => exact ⟨_, rfl, by decide +kernel, by decide, by intro b h; simp at h; subst h; decide⟩
  | 4 => exact ⟨_, rfl, by decide +kernel, by decide, by intro b h; simp at h; subst h; decide⟩
  | 5 => exact ⟨_, rfl, by decide +kernel, by decide, by intro b h; simp at h; subst h; decide⟩

theorem readL_plain {l r : List UInt8} {neg : Bool} {d : List UInt8} {mk : Int → Int → Int × Int × Int} (hp : Lib.hasPrefix l [45] = neg) (ht : Lib.trimPrefix l [45] = d ++ r)
    (hd : ∀ b ∈ d, isDig b = true) (hne : d ≠ []) (hr : ∀ b, r.head? = some b → isDig b = false) (hdot : Lib.hasPrefix r [46] = false) : readL l mk = fin neg d [] r mk := by
  unfold readL
  obtain ⟨e1, e2⟩ := take_digs d r hd hr
  simp only [ht, e1, e2, hp, hne, hdot]
  simp
theorem hasMinus {b : UInt8} {r : List UInt8} (h : isDig b = true) : Lib.hasPrefix (b :: r) [45] = false := by
  have := (isDig_iff b).1 h
  have hb : b ≠ 45 := fun e => by subst e; revert this; decide
  unfold Lib.hasPrefix
  simp [List.isPrefixOf, Ne.symm hb]
theorem shown (j : Nat) (u : List UInt8) (v : Int) (hj : leastL[j]? = some u) (hv0 : -1000000000 ≤ v) (hv1 : v ≤ 1000000000) : readL (Lib.itoa v ++ u) mkQ = ((j : Int), v, 0) := by
  have hj6 : j < 6 := by
    have := (List.getElem?_eq_some_iff.1 hj).1
    simpa [leastL] using this
  obtain ⟨u', hu, hm, hdot, hh⟩ := least_facts ⟨j, hj6⟩
  have e : u' = u := by have : some u' = some u := hu.symm.trans hj; injection this
  subst e
  have hok : mkQ j v = ((j : Int), v, 0) := if_pos (ref1_ok (by omega) (by omega) hv0 hv1)
  unfold Lib.itoa
  by_cases hv : v < 0
  · rw [if_pos hv]
    have hw := wholeOf_dec v.natAbs (by omega)
    have hd := decDigits_dig v.natAbs
    have hne := decDigits_ne v.natAbs
    rw [readL_plain (l := 45 :: Lib.decDigits v.natAbs ++ u') (d := Lib.decDigits v.natAbs) (r := u') (neg := true) rfl rfl hd hne hh hdot]
    have ht := thou_none (Lib.decDigits v.natAbs)
    rw [fin_neg (m := ((j : Int), 1, 0)) hm (by rw [ht, hw]; show 1000 * (v.natAbs : Int) * 1 % 1000 = 0; omega)]
    rw [ht, hw]
    show mkQ j (-((1000 * (v.natAbs : Int) * 1).tdiv 1000) + 0) = _
    rw [Int.mul_one, Int.mul_tdiv_cancel_left _ (by decide), show -(v.natAbs : Int) + 0 = v by omega, hok]
  · rw [if_neg hv]
    have hw := wholeOf_dec v.toNat (by omega)
    have hd := decDigits_dig v.toNat
    have hne := decDigits_ne v.toNat
    have hp : Lib.hasPrefix (Lib.decDigits v.toNat ++ u') [45] = false := by
      cases hc : Lib.decDigits v.toNat with
      | nil => exact absurd hc hne
      | cons b r => rw [hc] at hd; exact hasMinus (hd b (by simp))
    rw [readL_plain (d := Lib.decDigits v.toNat) (r := u') (neg := false) hp (by unfold Lib.trimPrefix; rw [hp]; rfl) hd hne hh hdot]
    have ht := thou_none (Lib.decDigits v.toNat)
    rw [fin_pos (m := ((j : Int), 1, 0)) hm (by rw [ht, hw]; show 0 ≤ 1000 * (v.toNat : Int) * 1; omega) (by rw [ht, hw]; show 1000 * (v.toNat : Int) * 1 % 1000 = 0; omega)]
    rw [ht, hw]
    show mkQ j (1000 * (v.toNat : Int) * 1 / 1000 + 0) = _
    rw [show 1000 * (v.toNat : Int) * 1 / 1000 + 0 = v by omega, hok]
theorem shown_ul : readL [49, 50, 46, 53, 117, 108] mkQ = (1, 12500, 0) := by decide +kernel

/-! ### the walk -/
/-- A quantity's box. -/
structure Box (w : World) (b : Nat) (x y : Int) : Prop where
  c0 : w.cell? ⟨b, 0, none⟩ = some (.int .i64 x)
  c1 : w.cell? ⟨b, 1, none⟩ = some (.int .i64 y)
  lt : b < w.heap.size
theorem Box.next {w w1 : World} {b : Nat} {x y : Int} (h : Box w b x y) (hb : Below w.heap.size w w1) : Box w1 b x y := by
  obtain ⟨hc, hf⟩ := bcell hb
  exact ⟨(hc _ _ h.lt).trans h.c0, (hc _ _ h.lt).trans h.c1, by have := hb.size; have := h.lt; omega⟩
theorem Box.alloc {w : World} {b : Nat} {x y : Int} (h : Box w b x y) (o : Obj) : Box (w.alloc o) b x y := h.next ((Below.refl _ _).alloc (Nat.le_refl _) _)
theorem Box.new (w : World) (x y : Int) : Box (w.alloc (.cells #[.int .i64 x, .int .i64 y] 23)) w.heap.size x y := by
  constructor <;> (first | go_simp | simp)

theorem readAt (l : List UInt8) {x y z : Int} (h : readL l mkQ = (x, y, z)) (w : World) (hl : l.length < 35184372088832) (hT : Tabs w) :
    Calls Tryd.prog 6 #[.string ⟨l.toArray⟩] w fun e w' => e = .returned (.tuple #[.agg #[.int .i64 x, .int .i64 y], .int .i64 z]) ∧ Below w.heap.size w w' := by
  have := read_any l w hl hT.utf8
  rw [h] at this; exact this
theorem mayAt (k v : Int) (h : ref1 k v = 0) (w : World) :
    Calls Tryd.prog 9 #[.agg #[.int .i64 k, .int .i64 v]] w fun e w' => e = .returned (.bool true) ∧ Below w.heap.size w w' := by
  have := may_any k v w
  rw [show (ref1 k v == 0) = true by simp [h]] at this; exact this

set_option maxHeartbeats 1600000 in
theorem back_any (a0 a1 : Int) (w : World) (h0 : -9223372036854775808 ≤ a0) (h1 : a0 ≤ 9223372036854775807) (h2 : -9223372036854775808 ≤ a1) (h3 : a1 ≤ 9223372036854775807) (hT : Tabs w) :
    Calls Tryd.prog 4 #[.int .i64 a0, .int .i64 a1] w fun e w' => e = .returned (.bool true) ∧ Below w.heap.size w w' := by
  have hp0 : 0 ≤ pick a0 6 ∧ pick a0 6 < 6 := by unfold pick; split <;> omega
  have hp1 : 0 ≤ pick a1 1000000001 ∧ pick a1 1000000001 ≤ 1000000000 := by unfold pick; split <;> omega
  obtain ⟨j, hj⟩ := Int.eq_ofNat_of_zero_le hp0.1
  have HJ : Hid (pick a0 6 = j) := hj
  have hj6 : j < 6 := by omega
  obtain ⟨v, hv⟩ : ∃ v, pick a1 1000000001 = v := ⟨_, rfl⟩
  have HV : Hid (pick a1 1000000001 = v) := hv
  rw [hv] at hp1
  obtain ⟨hv0, hv1⟩ := hp1
  obtain ⟨u, hu, _⟩ := least_facts ⟨j, hj6⟩
  have HU : Hid (leastL[j]? = some u) := hu
  clear hj hv hu hp0
  by_cases hneg : a1 < 0
  · have S0 : Hid (readL (Lib.itoa (-v) ++ u) mkQ = ((j : Int), -v, 0)) := shown j u (-v) HU.out (by omega) (by omega)
    have hlen : (Lib.itoa (-v) ++ u).length < 35184372088832 := by
      have := itoa_len (-v) (by omega) (by omega)
      have hm := List.mem_of_getElem? HU.out
      have h3 : ∀ x ∈ leastL, x.length ≤ 3 := by decide
      have := h3 u hm
      rw [List.length_append]; omega
    go_enter Tryd.func4, Tryd.ntmps4
    go_wp2_with fail
    refine (picked a0 6 _ h0 h1 (by decide)).mono ?_
    rintro e w1 ⟨rfl, rfl⟩
    rw [HJ.out]
    go_wp2_with fail
    refine (picked a1 1000000001 _ h2 h3 (by decide)).mono ?_
    rintro e w1 ⟨rfl, rfl⟩
    rw [HV.out]
    go_wp2_with fail
    refine (show_ok j u (-v) _ HU.out (by omega) (by omega) (hT.next ((Below.refl _ _).alloc (Nat.le_refl _) _))).mono ?_
    rintro e w2 ⟨rfl, hb2⟩
    have hQ := (Box.new w1 j (-v)).next hb2
    have hB : Below w1.heap.size w1 w2 := ((Below.refl _ _).alloc (Nat.le_refl _) _).trans (hb2.mono (by simp))
    obtain ⟨q0, q1, ql⟩ := hQ
    clear hb2
    go_wp2_with fail
    refine (readAt (Lib.itoa (-v) ++ u) S0.out _ hlen (hT.next hB)).mono ?_
    rintro e w3 ⟨rfl, hb3⟩
    have hQ := (Box.mk q0 q1 ql).next hb3
    have hB := hB.trans (hb3.mono hB.size)
    clear hb3 q0 q1 ql
    obtain ⟨q0, q1, ql⟩ := hQ
    go_wp2_with fail
    refine (readAt [49, 50, 46, 53, 117, 108] shown_ul _ (by decide) (hT.next (hB.alloc hB.size _))).mono ?_
    rintro e w4 ⟨rfl, hb4⟩
    have hQ := ((Box.mk q0 q1 ql).alloc _).next hb4
    have hX := (Box.new w3 j (-v)).next hb4
    have hB := (hB.alloc hB.size _).trans (hb4.mono (by have := hB.size; simp; omega))
    clear hb4 q0 q1 ql
    obtain ⟨q0, q1, ql⟩ := hQ
    obtain ⟨x0, x1, xl⟩ := hX
    go_wp2_with fail
    refine (mayAt j (-v) (ref1_ok (by omega) (by omega) (by omega) (by omega)) _).mono ?_
    rintro e w5 ⟨rfl, hb5⟩
    have hY := (Box.new w4 1 12500).next hb5
    have hB := (hB.alloc hB.size _).trans (hb5.mono (by have := hB.size; simp; omega))
    clear hb5 q0 q1 ql x0 x1 xl
    obtain ⟨y0, y1, yl⟩ := hY
    go_wp2
    go_ret
    exact ⟨rfl, hB⟩
  · have S0 : Hid (readL (Lib.itoa v ++ u) mkQ = ((j : Int), v, 0)) := shown j u v HU.out (by omega) (by omega)
    have hlen : (Lib.itoa v ++ u).length < 35184372088832 := by
      have := itoa_len v (by omega) (by omega)
      have hm := List.mem_of_getElem? HU.out
      have h3 : ∀ x ∈ leastL, x.length ≤ 3 := by decide
      have := h3 u hm
      rw [List.length_append]; omega
    go_enter Tryd.func4, Tryd.ntmps4
    go_wp2_with fail
    refine (picked a0 6 _ h0 h1 (by decide)).mono ?_
    rintro e w1 ⟨rfl, rfl⟩
    rw [HJ.out]
    go_wp2_with fail
    refine (picked a1 1000000001 _ h2 h3 (by decide)).mono ?_
    rintro e w1 ⟨rfl, rfl⟩
    rw [HV.out]
    go_wp2_with fail
    refine (show_ok j u v _ HU.out (by omega) (by omega) (hT.next ((Below.refl _ _).alloc (Nat.le_refl _) _))).mono ?_
    rintro e w2 ⟨rfl, hb2⟩
    have hQ := (Box.new w1 j v).next hb2
    have hB : Below w1.heap.size w1 w2 := ((Below.refl _ _).alloc (Nat.le_refl _) _).trans (hb2.mono (by simp))
    obtain ⟨q0, q1, ql⟩ := hQ
    clear hb2
    go_wp2_with fail
    refine (readAt (Lib.itoa v ++ u) S0.out _ hlen (hT.next hB)).mono ?_
    rintro e w3 ⟨rfl, hb3⟩
    have hQ := (Box.mk q0 q1 ql).next hb3
    have hB := hB.trans (hb3.mono hB.size)
    clear hb3 q0 q1 ql
    obtain ⟨q0, q1, ql⟩ := hQ
    go_wp2_with fail
    refine (readAt [49, 50, 46, 53, 117, 108] shown_ul _ (by decide) (hT.next (hB.alloc hB.size _))).mono ?_
    rintro e w4 ⟨rfl, hb4⟩
    have hQ := ((Box.mk q0 q1 ql).alloc _).next hb4
    have hX := (Box.new w3 j v).next hb4
    have hB := (hB.alloc hB.size _).trans (hb4.mono (by have := hB.size; simp; omega))
    clear hb4 q0 q1 ql
    obtain ⟨q0, q1, ql⟩ := hQ
    obtain ⟨x0, x1, xl⟩ := hX
    go_wp2_with fail
    refine (mayAt j v (ref1_ok (by omega) (by omega) (by omega) (by omega)) _).mono ?_
    rintro e w5 ⟨rfl, hb5⟩
    have hY := (Box.new w4 1 12500).next hb5
    have hB := (hB.alloc hB.size _).trans (hb5.mono (by have := hB.size; simp; omega))
    clear hb5 q0 q1 ql x0 x1 xl
    obtain ⟨y0, y1, yl⟩ := hY
    go_wp2
    go_ret
    exact ⟨rfl, hB⟩
end Go.Proofs.YtjlbheeipchpkaaDoor
