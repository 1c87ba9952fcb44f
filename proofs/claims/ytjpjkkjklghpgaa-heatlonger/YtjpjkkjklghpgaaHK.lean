/- HeatLonger walked. -/
import Derived.Test.YtjpjkkjklghpgaaHJ
namespace Go.Proofs.Ytjpjkkjklghpgaa
open Go.RowKit

/-- What two holds come to, the second one a tick longer. -/
theorem longer_is {h : Ht} {lo hi t : Int} {m : Nat} {u1 x1 e1 u2 x2 e2 : Int} (H1 : (m = 0 ∧ u1 = 0 ∧ e1 = 0) ∨ (1 ≤ m ∧ HoldIs h lo hi t m 200 u1 x1 e1)) (H2 : HoldIs h lo hi t (m + 1) 200 u2 x2 e2) :
    (e1 = 0 ∧ e2 = 0 ∧ u1 < u2) ∨ (e1 = 0 ∧ e2 = 18 ∧ u1 ≤ u2) ∨ (e1 = 18 ∧ e2 = 18 ∧ u1 = 200 ∧ u2 = 200) := by
  rcases H1 with ⟨rfl, rfl, rfl⟩ | ⟨hm, H1⟩
  · rcases H2 with ⟨k2, a1, a2, a3, rfl, a4, rfl⟩ | ⟨a1, rfl, a2, rfl⟩
    · exact .inl ⟨rfl, rfl, by omega⟩
    · exact .inr (.inl ⟨rfl, rfl, by omega⟩)
  · rcases H2 with ⟨k2, a1, a2, a3, rfl, a4, rfl⟩ | ⟨a1, rfl, a2, rfl⟩
    · obtain ⟨p1, p2⟩ := run_prev (by omega) a3.1
      rcases H1 with ⟨k1, b1, b2, b3, rfl, b4, rfl⟩ | ⟨b1, rfl, b2, rfl⟩
      · have : k1 ≤ k2 - 1 := by
          rcases Nat.lt_or_ge (k2 - 1) k1 with c | c
          · exact absurd p2 (b3.2 _ c)
          · exact c
        exact .inl ⟨rfl, rfl, by omega⟩
      · exact absurd p2 (b1 _ (by omega))
    · rcases H1 with ⟨k1, b1, b2, b3, rfl, b4, rfl⟩ | ⟨b1, rfl, b2, rfl⟩
      · exact .inr (.inl ⟨rfl, rfl, by omega⟩)
      · exact .inr (.inr ⟨rfl, rfl, rfl, rfl⟩)
set_option maxHeartbeats 6400000 in
set_option maxRecDepth 100000 in
theorem longer_any (h : Ht) (a1 a2 a3 a4 : Int) (w : World) (g1 : -9223372036854775808 ≤ a1 ∧ a1 ≤ 9223372036854775807) (g2 : -9223372036854775808 ≤ a2 ∧ a2 ≤ 9223372036854775807) (g3 : -9223372036854775808 ≤ a3 ∧ a3 ≤ 9223372036854775807) (g4 : -9223372036854775808 ≤ a4 ∧ a4 ≤ 9223372036854775807) :
    Calls Try.prog 7 #[hv h, .int .i64 a1, .int .i64 a2, .int .i64 a3, .int .i64 a4] w fun e w' => e = .returned (.bool true) ∧ Below w.heap.size w w' := by
  have HE : Hid (∀ W, Calls Try.prog 8 #[.agg #[.int .i64 100, .int .i64 0, .int .i64 0, .int .i64 1000], .int .i64 0, .bool true] W fun e w' => e = .returned (two 100 0) ∧ Below W.heap.size W w') := ex_tick
  have HP1 : Hid (∀ W, Calls Try.prog 19 #[.int .i64 a1, .int .i64 1000001] W fun e w' => (∃ v, e = .returned (.int .i64 v) ∧ 0 ≤ v ∧ v < 1000001) ∧ w' = W) := fun W => picked_any a1 _ W g1.1 g1.2 (by decide) (by decide)
  have HP2 : Hid (∀ W, Calls Try.prog 19 #[.int .i64 a2, .int .i64 1000001] W fun e w' => (∃ v, e = .returned (.int .i64 v) ∧ 0 ≤ v ∧ v < 1000001) ∧ w' = W) := fun W => picked_any a2 _ W g2.1 g2.2 (by decide) (by decide)
  have HP3 : Hid (∀ W, Calls Try.prog 19 #[.int .i64 a3, .int .i64 50000] W fun e w' => (∃ v, e = .returned (.int .i64 v) ∧ 0 ≤ v ∧ v < 50000) ∧ w' = W) := fun W => picked_any a3 _ W g3.1 g3.2 (by decide) (by decide)
  have HP4 : Hid (∀ W, Calls Try.prog 19 #[.int .i64 a4, .int .i64 30] W fun e w' => (∃ v, e = .returned (.int .i64 v) ∧ 0 ≤ v ∧ v < 30) ∧ w' = W) := fun W => picked_any a4 _ W g4.1 g4.2 (by decide) (by decide)
  have HB0 : Hid (Below w.heap.size w (w.alloc (ho h))) := (Below.refl _ _).alloc (Nat.le_refl _) _
  have KA : Hid (Bk w.heap.size (hcl h) (w.alloc (ho h))) := Bk.new w (hcl h) 23 w.heap.size rfl
  clear g1 g2 g3 g4
  go_enter Try.func7, Try.ntmps7
  go_wp2_with fail
  refine Calls.mono (HP1.out _) ?_
  rintro e w1 ⟨⟨t, rfl, t0, t1⟩, rfl⟩
  go_wp2_with fail
  refine Calls.mono (HP2.out _) ?_
  rintro e w1 ⟨⟨g, rfl, g0, g1⟩, rfl⟩
  go_wp2_with fail
  refine Calls.mono (HP3.out _) ?_
  rintro e w1 ⟨⟨b, rfl, b0, b1⟩, rfl⟩
  go_wp2_with fail
  refine Calls.mono (HP4.out _) ?_
  rintro e w1 ⟨⟨m, rfl, m0, m1⟩, rfl⟩
  obtain ⟨m, rfl⟩ : ∃ q : Nat, m = (q : Int) := ⟨m.toNat, by omega⟩
  go_wp2_with fail
  refine Calls.mono (HE.out _) ?_
  rintro e w1 ⟨rfl, hb1⟩
  have HB1 : Hid (Below w.heap.size w w1) := below_on HB0.out hb1 HB0.out.size
  have KA1 : Hid (Bk w.heap.size (hcl h) w1) := KA.out.later hb1
  clear hb1 HB0 KA HE HP1 HP2 HP3 HP4
  have k0 := KA1.out.c 0 rfl
  have k1 := KA1.out.c 1 rfl
  have k2 := KA1.out.c 2 rfl
  have k3 := KA1.out.c 3 rfl
  cases hok : htOk h with
  | false =>
    have hno : (htOk h && (inR 0 1000000 t && inR 0 1000000 g)) = false := by rw [hok]; rfl
    have HH : Hid (∀ n W, Calls Try.prog 17 #[hv h, .int .i64 t, .int .i64 g, .int .i64 b, .int .i64 n, .int .i64 200] W fun e w' => e = .returned (three 0 0 2) ∧ Below W.heap.size W w') := fun n W => hold_ref h t g b n _ W hno
    clear hno hok
    go_wp2_with fail
    refine Calls.mono (HH.out _ _) ?_
    rintro e w2 ⟨rfl, hb2⟩
    have HB2 : Hid (Below w.heap.size w w2) := below_on HB1.out hb2 HB1.out.size
    have KA2 : Hid (Bk w.heap.size (hcl h) w2) := KA1.out.later hb2
    clear hb2 k0 k1 k2 k3
    have k0 := KA2.out.c 0 rfl
    have k1 := KA2.out.c 1 rfl
    have k2 := KA2.out.c 2 rfl
    have k3 := KA2.out.c 3 rfl
    go_wp2_with fail
    refine Calls.mono (HH.out _ _) ?_
    rintro e w3 ⟨rfl, hb3⟩
    have HB3 : Hid (Below w.heap.size w w3) := below_on HB2.out hb3 HB2.out.size
    have KA3 : Hid (Bk w.heap.size (hcl h) w3) := KA2.out.later hb3
    clear hb3 k0 k1 k2 k3
    have k0 := KA3.out.c 0 rfl
    have k1 := KA3.out.c 1 rfl
    have k2 := KA3.out.c 2 rfl
    have k3 := KA3.out.c 3 rfl
    go_wp2
    go_ret
    exact ⟨rfl, HB3.out⟩
  | true =>
    have HH : Hid (∀ W, Calls Try.prog 17 #[hv h, .int .i64 t, .int .i64 g, .int .i64 b, .int .i64 (m : Int), .int .i64 200] W fun e w' => ∃ u x er, e = .returned (three u x er) ∧ ((m = 0 ∧ u = 0 ∧ er = 0) ∨ (1 ≤ m ∧ HoldIs h (g - b) (g + b) t m 200 u x er)) ∧ Below W.heap.size W w') := fun W => by
      rcases Nat.eq_zero_or_pos m with hm | hm
      · refine (hold_none h t g b (m : Int) 200 W hok (by rw [inR_yes t0 (by omega), inR_yes g0 (by omega)]; rfl) (by rw [inR_yes b0 (by omega), inR_yes (by omega) (by omega), inR_yes (by omega) (by omega)]; rfl) (by omega)).mono ?_
        rintro e w' ⟨rfl, hb⟩
        exact ⟨_, _, _, rfl, .inl ⟨hm, rfl, rfl⟩, hb⟩
      · refine (hold_yes h t g b m 200 W hok t0 (by omega) g0 (by omega) b0 (by omega) hm (by omega) (by omega)).mono ?_
        rintro e w' ⟨u, x, er, rfl, hh, hb⟩
        exact ⟨_, _, _, rfl, .inr ⟨hm, hh⟩, hb⟩
    have HG : Hid (∀ W, Calls Try.prog 17 #[hv h, .int .i64 t, .int .i64 g, .int .i64 b, .int .i64 ((m : Int) + 1), .int .i64 200] W fun e w' => ∃ u x er, e = .returned (three u x er) ∧ HoldIs h (g - b) (g + b) t (m + 1) 200 u x er ∧ Below W.heap.size W w') := fun W => by
      have := hold_yes h t g b (m + 1) 200 W hok t0 (by omega) g0 (by omega) b0 (by omega) (by omega) (by omega) (by omega)
      rw [show ((m + 1 : Nat) : Int) = (m : Int) + 1 by omega] at this
      exact this
    clear hok
    go_wp2_with fail
    refine Calls.mono (HH.out _) ?_
    rintro e w2 ⟨u1, x1, e1, rfl, hH, hb2⟩
    have H1 : Hid ((m = 0 ∧ u1 = 0 ∧ e1 = 0) ∨ (1 ≤ m ∧ HoldIs h (g - b) (g + b) t m 200 u1 x1 e1)) := hH
    clear hH
    have HB2 : Hid (Below w.heap.size w w2) := below_on HB1.out hb2 HB1.out.size
    have KA2 : Hid (Bk w.heap.size (hcl h) w2) := KA1.out.later hb2
    clear hb2 k0 k1 k2 k3
    have k0 := KA2.out.c 0 rfl
    have k1 := KA2.out.c 1 rfl
    have k2 := KA2.out.c 2 rfl
    have k3 := KA2.out.c 3 rfl
    go_wp2_with fail
    refine Calls.mono (HG.out _) ?_
    rintro e w3 ⟨u2, x2, e2, rfl, hH, hb3⟩
    have hl := longer_is H1.out hH
    clear hH H1
    have HB3 : Hid (Below w.heap.size w w3) := below_on HB2.out hb3 HB2.out.size
    have KA3 : Hid (Bk w.heap.size (hcl h) w3) := KA2.out.later hb3
    clear hb3 k0 k1 k2 k3
    have k0 := KA3.out.c 0 rfl
    have k1 := KA3.out.c 1 rfl
    have k2 := KA3.out.c 2 rfl
    have k3 := KA3.out.c 3 rfl
    clear k0 k1 k2 k3
    rcases hl with ⟨rfl, rfl, hu⟩ | ⟨rfl, rfl, hu⟩ | ⟨rfl, rfl, rfl, rfl⟩
    · have hu2 : u1 ≤ u2 := by omega
      go_wp2
      go_ret
      exact ⟨rfl, HB3.out⟩
    · go_wp2
      go_ret
      exact ⟨rfl, HB3.out⟩
    · go_wp2
      go_ret
      exact ⟨rfl, HB3.out⟩
end Go.Proofs.Ytjpjkkjklghpgaa
