/- HeatHeld walked. -/
import Derived.Test.YtjpjkkjklghpgaaHI
import Derived.Test.YtjpjkkjklghpgaaHE
namespace Go.Proofs.Ytjpjkkjklghpgaa
open Go.RowKit

theorem hold_held {h : Ht} {lo hi t : Int} {need most k : Nat} {u x e : Int} (H : HoldIs h lo hi t need most u x e) (hk : HeldAt h lo hi t need k) (hm : k ≤ most) : u = (k : Int) ∧ x = (stN h lo hi t k).1 ∧ e = 0 := by
  rcases H with ⟨j, _, _, hj, rfl, rfl, rfl⟩ | ⟨hn, _⟩
  · obtain rfl := held_one hj hk
    exact ⟨rfl, rfl, rfl⟩
  · exact absurd (held_not hk hn) (by omega)
theorem hold_fault {h : Ht} {lo hi t : Int} {need most : Nat} {u x e : Int} (H : HoldIs h lo hi t need most u x e) (hn : NotBy h lo hi t need most) : u = (most : Int) ∧ x = (stN h lo hi t most).1 ∧ e = 18 := by
  rcases H with ⟨j, _, hj1, hj, _⟩ | ⟨_, q⟩
  · exact absurd (held_not hj hn) (by omega)
  · exact q
set_option maxHeartbeats 6400000 in
set_option maxRecDepth 100000 in
theorem held_any (h : Ht) (a1 a2 a3 a4 : Int) (w : World) (g1 : -9223372036854775808 ≤ a1 ∧ a1 ≤ 9223372036854775807) (g2 : -9223372036854775808 ≤ a2 ∧ a2 ≤ 9223372036854775807) (g3 : -9223372036854775808 ≤ a3 ∧ a3 ≤ 9223372036854775807) (g4 : -9223372036854775808 ≤ a4 ∧ a4 ≤ 9223372036854775807) :
    Calls Try.prog 6 #[hv h, .int .i64 a1, .int .i64 a2, .int .i64 a3, .int .i64 a4] w fun e w' => e = .returned (.bool true) ∧ Below w.heap.size w w' := by
  have HE : Hid (∀ W, Calls Try.prog 8 #[.agg #[.int .i64 100, .int .i64 0, .int .i64 0, .int .i64 1000], .int .i64 0, .bool true] W fun e w' => e = .returned (two 100 0) ∧ Below W.heap.size W w') := ex_tick
  have HP1 : Hid (∀ W, Calls Try.prog 19 #[.int .i64 a1, .int .i64 1000001] W fun e w' => (∃ v, e = .returned (.int .i64 v) ∧ 0 ≤ v ∧ v < 1000001) ∧ w' = W) := fun W => picked_any a1 _ W g1.1 g1.2 (by decide) (by decide)
  have HP2 : Hid (∀ W, Calls Try.prog 19 #[.int .i64 a2, .int .i64 1000001] W fun e w' => (∃ v, e = .returned (.int .i64 v) ∧ 0 ≤ v ∧ v < 1000001) ∧ w' = W) := fun W => picked_any a2 _ W g2.1 g2.2 (by decide) (by decide)
  have HP3 : Hid (∀ W, Calls Try.prog 19 #[.int .i64 a3, .int .i64 50000] W fun e w' => (∃ v, e = .returned (.int .i64 v) ∧ 0 ≤ v ∧ v < 50000) ∧ w' = W) := fun W => picked_any a3 _ W g3.1 g3.2 (by decide) (by decide)
  have HP4 : Hid (∀ W, Calls Try.prog 19 #[.int .i64 a4, .int .i64 30] W fun e w' => (∃ v, e = .returned (.int .i64 v) ∧ 0 ≤ v ∧ v < 30) ∧ w' = W) := fun W => picked_any a4 _ W g4.1 g4.2 (by decide) (by decide)
  have HB0 : Hid (Below w.heap.size w (w.alloc (ho h))) := (Below.refl _ _).alloc (Nat.le_refl _) _
  have KA : Hid (Bk w.heap.size (hcl h) (w.alloc (ho h))) := Bk.new w (hcl h) 23 w.heap.size rfl
  clear g1 g2 g3 g4
  go_enter Try.func6, Try.ntmps6
  go_wp2_with fail
  refine Calls.mono (HP1.out _) ?_
  rintro e w1 ⟨⟨t, rfl, t0, t1⟩, rfl⟩
  go_wp2_with fail
  refine Calls.mono (HP2.out _) ?_
  rintro e w1 ⟨⟨g, rfl, g0, g1⟩, rfl⟩
  go_wp2_with fail
  refine Calls.mono (HP3.out _) ?_
  rintro e w1 ⟨⟨b, rfl, b0, b1⟩, rfl⟩
  go_wp2_with fail
  refine Calls.mono (HP4.out _) ?_
  rintro e w1 ⟨⟨m, rfl, m0, m1⟩, rfl⟩
  obtain ⟨m, rfl⟩ : ∃ q : Nat, m = (q : Int) := ⟨m.toNat, by omega⟩
  go_wp2_with fail
  refine Calls.mono (HE.out _) ?_
  rintro e w1 ⟨rfl, hb1⟩
  have HB1 : Hid (Below w.heap.size w w1) := below_on HB0.out hb1 HB0.out.size
  have KA1 : Hid (Bk w.heap.size (hcl h) w1) := KA.out.later hb1
  clear hb1 HB0 KA HE HP1 HP2 HP3 HP4
  have k0 := KA1.out.c 0 rfl
  have k1 := KA1.out.c 1 rfl
  have k2 := KA1.out.c 2 rfl
  have k3 := KA1.out.c 3 rfl
  cases hok : htOk h with
  | false =>
    have hno : (htOk h && (inR 0 1000000 t && inR 0 1000000 g)) = false := by rw [hok]; rfl
    have HH : Hid (∀ W, Calls Try.prog 17 #[hv h, .int .i64 t, .int .i64 g, .int .i64 b, .int .i64 (1 + (m : Int)), .int .i64 200] W fun e w' => e = .returned (three 0 0 2) ∧ Below W.heap.size W w') := fun W => hold_ref h t g b _ _ W hno
    have HG : Hid (∀ W, Calls Try.prog 10 #[hv h, .int .i64 t, .int .i64 g, .int .i64 b, .int .i64 200] W fun e w' => e = .returned (sl2 (.slice none 0 0) 2) ∧ Below W.heap.size W w') := fun W => bang_ref h t g b _ W hno
    clear hno hok
    go_wp2_with fail
    refine Calls.mono (HH.out _) ?_
    rintro e w2 ⟨rfl, hb2⟩
    have HB2 : Hid (Below w.heap.size w w2) := below_on HB1.out hb2 HB1.out.size
    have KA2 : Hid (Bk w.heap.size (hcl h) w2) := KA1.out.later hb2
    clear hb2 k0 k1 k2 k3
    have k0 := KA2.out.c 0 rfl
    have k1 := KA2.out.c 1 rfl
    have k2 := KA2.out.c 2 rfl
    have k3 := KA2.out.c 3 rfl
    go_wp2_with fail
    refine Calls.mono (HG.out _) ?_
    rintro e w3 ⟨rfl, hb3⟩
    have HB3 : Hid (Below w.heap.size w w3) := below_on HB2.out hb3 HB2.out.size
    have KA3 : Hid (Bk w.heap.size (hcl h) w3) := KA2.out.later hb3
    clear hb3 k0 k1 k2 k3
    have k0 := KA3.out.c 0 rfl
    have k1 := KA3.out.c 1 rfl
    have k2 := KA3.out.c 2 rfl
    have k3 := KA3.out.c 3 rfl
    go_wp2
    go_ret
    exact ⟨rfl, HB3.out⟩
  | true =>
    obtain ⟨lo, hlo⟩ : ∃ x, x = g - b := ⟨_, rfl⟩
    obtain ⟨hi, hhi⟩ : ∃ x, x = g + b := ⟨_, rfl⟩
    have HH : Hid (∀ W, Calls Try.prog 17 #[hv h, .int .i64 t, .int .i64 g, .int .i64 b, .int .i64 (1 + (m : Int)), .int .i64 200] W fun e w' => ∃ u x er, e = .returned (three u x er) ∧ HoldIs h lo hi t (1 + m) 200 u x er ∧ Below W.heap.size W w') := fun W => by
      have := hold_yes h t g b (1 + m) 200 W hok t0 (by omega) g0 (by omega) b0 (by omega) (by omega) (by omega) (by omega)
      rw [← hlo, ← hhi, show ((1 + m : Nat) : Int) = 1 + (m : Int) by omega] at this
      exact this
    have HG : Hid (∀ W, Calls Try.prog 10 #[hv h, .int .i64 t, .int .i64 g, .int .i64 b, .int .i64 200] W fun e w' => ∃ G, e = .returned (sl2 (.slice (some ⟨G, 0, none⟩) 200 200) 0) ∧ W.heap.size ≤ G ∧ Ints (heatsL h lo hi t 200) G w' ∧ Below W.heap.size W w') := fun W => by
      have := bang_yes h t g b 200 W hok t0 (by omega) g0 (by omega) b0 (by omega) (by omega)
      rw [← hlo, ← hhi] at this
      exact this
    have HLO : Hid (lo = g - b) := hlo
    have HHI : Hid (hi = g + b) := hhi
    clear hok hlo hhi
    go_wp2_with fail
    refine Calls.mono (HH.out _) ?_
    rintro e w2 ⟨u, x2, er, rfl, hH, hb2⟩
    have HOLD : Hid (HoldIs h lo hi t (1 + m) 200 u x2 er) := hH
    clear hH
    have HB2 : Hid (Below w.heap.size w w2) := below_on HB1.out hb2 HB1.out.size
    have KA2 : Hid (Bk w.heap.size (hcl h) w2) := KA1.out.later hb2
    clear hb2 k0 k1 k2 k3
    have k0 := KA2.out.c 0 rfl
    have k1 := KA2.out.c 1 rfl
    have k2 := KA2.out.c 2 rfl
    have k3 := KA2.out.c 3 rfl
    go_wp2_with fail
    refine Calls.mono (HG.out _) ?_
    rintro e w3 ⟨G, rfl, _, hI, hb3⟩
    have HI : Hid (Ints (heatsL h lo hi t 200) G w3) := hI
    clear hI
    have HB3 : Hid (Below w.heap.size w w3) := below_on HB2.out hb3 HB2.out.size
    have KA3 : Hid (Bk w.heap.size (hcl h) w3) := KA2.out.later hb3
    clear hb3 k0 k1 k2 k3
    have k0 := KA3.out.c 0 rfl
    have k1 := KA3.out.c 1 rfl
    have k2 := KA3.out.c 2 rfl
    have k3 := KA3.out.c 3 rfl
    clear k0 k1 k2 k3
    go_wp2
    go_loopw [21, 22] (fun s1 s2 wr => ∃ k : Nat, k ≤ 200 ∧ s1 = .int .i64 ((runN h lo hi t k : Nat) : Int) ∧ s2 = .int .i64 ((k : Nat) : Int) ∧ Hid (NotBy h lo hi t (1 + m) k) ∧ wr = w3) (fun _ s2 _ => 200 - (intOf s2).toNat)
    case atStart =>
      refine ⟨0, Nat.zero_le _, rfl, rfl, ?_, rfl⟩
      intro j hj
      obtain rfl : j = 0 := by omega
      show 0 ≠ 1 + m
      omega
    case round =>
      obtain ⟨k, hk, rfl, rfl, HNOT, hw⟩ := hrel
      subst hw
      by_cases hlt : k < 200
      · have hkl : k < (heatsL h lo hi t 200).length := by rw [heatsL_length]; exact hlt
        have cG := HI.out.2 k hkl
        rw [heatsL_at] at cG
        clear hkl
        have hr := runN_le h lo hi t k
        have HNX : Hid (runN h lo hi t (k + 1) = if isW lo hi (stN h lo hi t (k + 1)).1 then runN h lo hi t k + 1 else 0) := rfl
        have HN2 : Hid (runN h lo hi t (k + 1) ≠ 1 + m → NotBy h lo hi t (1 + m) (k + 1)) := fun q2 j hj => by
          rcases Nat.lt_or_ge k j with c | c
          · obtain rfl : j = k + 1 := by omega
            exact q2
          · exact HNOT.out j c
        have HN3 : Hid (runN h lo hi t (k + 1) = 1 + m → u = ((k + 1 : Nat) : Int) ∧ x2 = (stN h lo hi t (k + 1)).1 ∧ er = 0) := fun q2 => hold_held HOLD.out ⟨q2, fun j hj => HNOT.out j (by omega)⟩ (by omega)
        obtain ⟨r, hrr⟩ : ∃ r, r = runN h lo hi t k := ⟨_, rfl⟩
        rw [← hrr] at hr HNX ⊢
        obtain ⟨x, hx⟩ : ∃ x, x = (stN h lo hi t (k + 1)).1 := ⟨_, rfl⟩
        rw [← hx] at cG HNX HN3
        clear hrr hx
        have HISW : Hid (isW lo hi x = (decide (g - b ≤ x) && decide (x ≤ g + b))) := by show (decide (lo ≤ x) && decide (x ≤ hi)) = _; rw [HLO.out, HHI.out]
        by_cases h1 : g - b ≤ x
        · by_cases h2 : x ≤ g + b
          · have HRN : Hid (runN h lo hi t (k + 1) = r + 1) := by show _ = _; rw [HNX.out, HISW.out, decide_eq_true h1, decide_eq_true h2]; rfl
            by_cases hq : r = m
            · subst hq
              obtain ⟨hu, hx2, her⟩ := HN3.out (by rw [HRN.out]; omega)
              have hu2 : u = (k : Int) + 1 := by omega
              subst hu2 hx2 her
              clear HOLD HN3 hu
              go_wp2
              go_ret
              exact ⟨rfl, HB3.out⟩
            · have hq2 : ¬ ((r : Int) + 1 = 1 + (m : Int)) := by omega
              go_wp2
              go_roundw
              case rel => exact ⟨k + 1, by omega, by rw [HRN.out]; go_num, by go_num, HN2.out (by rw [HRN.out]; omega), trivial⟩
              case measure => simp [intOf]; omega
          · have HRN : Hid (runN h lo hi t (k + 1) = 0) := by show _ = _; rw [HNX.out, HISW.out, decide_eq_false h2, Bool.and_false]; rfl
            go_wp2
            go_roundw
            case rel => exact ⟨k + 1, by omega, by rw [HRN.out]; rfl, by go_num, HN2.out (by rw [HRN.out]; omega), trivial⟩
            case measure => simp [intOf]; omega
        · have HRN : Hid (runN h lo hi t (k + 1) = 0) := by show _ = _; rw [HNX.out, HISW.out, decide_eq_false h1, Bool.false_and]; rfl
          go_wp2
          go_roundw
          case rel => exact ⟨k + 1, by omega, by rw [HRN.out]; rfl, by go_num, HN2.out (by rw [HRN.out]; omega), trivial⟩
          case measure => simp [intOf]; omega
      · obtain rfl : k = 200 := by omega
        obtain ⟨hu, hx2, her⟩ := hold_fault HOLD.out HNOT.out
        have hu2 : u = 200 := hu
        subst hu2 her
        clear HOLD hu hx2
        go_wp2
        go_ret
        exact ⟨rfl, HB3.out⟩
end Go.Proofs.Ytjpjkkjklghpgaa
