/- HeatRises walked. -/
import Derived.Test.YtjpjkkjklghpgaaHD
namespace Go.Proofs.Ytjpjkkjklghpgaa
open Go.RowKit

theorem tm_pick {x of : Int} (h0 : 0 ≤ x) (h1 : 1 ≤ of) : 0 ≤ Int.tmod x of ∧ Int.tmod x of < of := by
  refine ⟨Int.tmod_nonneg _ h0, ?_⟩
  rw [Int.tmod_eq_emod_of_nonneg h0]
  exact Int.emod_lt_of_pos x (by omega)
set_option maxHeartbeats 1600000 in
theorem picked_any (n of : Int) (w : World) (h1 : -9223372036854775808 ≤ n) (h2 : n ≤ 9223372036854775807) (h3 : 1 ≤ of) (h4 : of ≤ 1000001) : Calls Try.prog 19 #[.int .i64 n, .int .i64 of] w fun e w' => (∃ v, e = .returned (.int .i64 v) ∧ 0 ≤ v ∧ v < of) ∧ w' = w := by
  have h0 : of ≠ 0 := by omega
  by_cases hn : n < 0
  · have HP : Hid (0 ≤ Int.tmod (-(n + 1)) of ∧ Int.tmod (-(n + 1)) of < of) := tm_pick (x := -(n + 1)) (of := of) (by omega) h3
    go_enter Try.func19, Try.ntmps19
    go_wp2
    go_ret
    exact ⟨⟨_, rfl, by rw [← Int.neg_tmod]; exact HP.out.1, by rw [← Int.neg_tmod]; exact HP.out.2⟩, rfl⟩
  · go_enter Try.func19, Try.ntmps19
    go_wp2
    go_ret
    exact ⟨⟨_, rfl, Int.emod_nonneg _ h0, Int.emod_lt_of_pos n (by omega)⟩, rfl⟩
/-- The plate of the document's example. -/
abbrev ex : Ht := ⟨100, 0, 0, 1000⟩
theorem ex_tick (w : World) : Calls Try.prog 8 #[.agg #[.int .i64 100, .int .i64 0, .int .i64 0, .int .i64 1000], .int .i64 0, .bool true] w fun e w' => e = .returned (two 100 0) ∧ Below w.heap.size w w' := tick_yes ex 0 true (by decide) (by decide) (by decide) w
set_option maxHeartbeats 6400000 in
set_option maxRecDepth 100000 in
theorem rises_any (h : Ht) (a b : Int) (on : Bool) (w : World) (ga : -9223372036854775808 ≤ a ∧ a ≤ 9223372036854775807) (gb : -9223372036854775808 ≤ b ∧ b ≤ 9223372036854775807) :
    Calls Try.prog 5 #[hv h, .int .i64 a, .int .i64 b, .bool on] w fun e w' => e = .returned (.bool true) ∧ Below w.heap.size w w' := by
  have HE : Hid (∀ W, Calls Try.prog 8 #[.agg #[.int .i64 100, .int .i64 0, .int .i64 0, .int .i64 1000], .int .i64 0, .bool true] W fun e w' => e = .returned (two 100 0) ∧ Below W.heap.size W w') := ex_tick
  have HPA : Hid (∀ W, Calls Try.prog 19 #[.int .i64 a, .int .i64 1000001] W fun e w' => (∃ v, e = .returned (.int .i64 v) ∧ 0 ≤ v ∧ v < 1000001) ∧ w' = W) := fun W => picked_any a _ W ga.1 ga.2 (by decide) (by decide)
  have HPB : Hid (∀ W, Calls Try.prog 19 #[.int .i64 b, .int .i64 1000001] W fun e w' => (∃ v, e = .returned (.int .i64 v) ∧ 0 ≤ v ∧ v < 1000001) ∧ w' = W) := fun W => picked_any b _ W gb.1 gb.2 (by decide) (by decide)
  have HRS : Hid (∀ W, htOk h = true → Calls Try.prog 9 #[hv h, .bool on] W fun e w' => ∃ r : Nat, e = .returned (two (r : Int) 0) ∧ RestIs h on r ∧ Below W.heap.size W w') := fun W hok => (rest_yes h on hok W)
  have HB0 : Hid (Below w.heap.size w (w.alloc (ho h))) := (Below.refl _ _).alloc (Nat.le_refl _) _
  have KA : Hid (Bk w.heap.size (hcl h) (w.alloc (ho h))) := Bk.new w (hcl h) 23 w.heap.size rfl
  clear ga gb
  go_enter Try.func5, Try.ntmps5
  go_wp2_with fail
  refine Calls.mono (HE.out _) ?_
  rintro e w1 ⟨rfl, hb1⟩
  have HB1 : Hid (Below w.heap.size w w1) := below_on HB0.out hb1 HB0.out.size
  have KA1 : Hid (Bk w.heap.size (hcl h) w1) := KA.out.later hb1
  clear hb1
  have k0 := KA1.out.c 0 rfl
  have k1 := KA1.out.c 1 rfl
  have k2 := KA1.out.c 2 rfl
  have k3 := KA1.out.c 3 rfl
  go_wp2_with fail
  refine Calls.mono (HPA.out _) ?_
  rintro e w2 ⟨⟨s, rfl, s0, s1⟩, rfl⟩
  go_wp2_with fail
  refine Calls.mono (HPB.out _) ?_
  rintro e w2 ⟨⟨t, rfl, t0, t1⟩, rfl⟩
  by_cases hst : t < s
  · skip
    have HXS : Hid (∀ W, htOk h = true → ∀ b, Calls Try.prog 8 #[hv h, .int .i64 t, .bool b] W fun e w' => e = .returned (two (tk h b t) 0) ∧ Below W.heap.size W w') := fun W hok b => tick_yes h t b hok (by omega) (by omega) W
    have HXT : Hid (∀ W, htOk h = true → ∀ b, Calls Try.prog 8 #[hv h, .int .i64 s, .bool b] W fun e w' => e = .returned (two (tk h b s) 0) ∧ Below W.heap.size W w') := fun W hok b => tick_yes h s b hok (by omega) (by omega) W
    have HNS : Hid (∀ W, htOk h = false → ∀ b, Calls Try.prog 8 #[hv h, .int .i64 t, .bool b] W fun e w' => e = .returned (two 0 2) ∧ Below W.heap.size W w') := fun W hno b => tick_no h t b (by rw [hno]; rfl) W
    cases hok : htOk h with
    | false =>
      go_wp2_with fail
      refine Calls.mono (HNS.out _ hok _) ?_
      rintro e w2 ⟨rfl, hb2⟩
      have HB2 : Hid (Below w.heap.size w w2) := below_on HB1.out hb2 HB1.out.size
      clear hb2 k0 k1 k2 k3
      go_wp2
      go_ret
      exact ⟨rfl, HB2.out⟩
    | true =>
      have d1 : tk h on t ≤ tk h on s := tk_mono hok on (by omega)
      have d2 : tk h false t ≤ tk h true t := tk_on hok t
      have d3 : tk h on s ≤ h.m := tk_most h on s
      have d4 : 0 ≤ tk h on t := tk_nonneg hok on (by omega)
      have HD1 : Hid _ := d1
      have HD2 : Hid _ := d2
      have HD3 : Hid _ := d3
      have HD4 : Hid _ := d4
      clear d1 d2 d3 d4
      go_wp2_with fail
      refine Calls.mono (HXS.out _ hok _) ?_
      rintro e w2 ⟨rfl, hb2⟩
      have HB2 : Hid (Below w.heap.size w w2) := below_on HB1.out hb2 HB1.out.size
      have KA2 : Hid (Bk w.heap.size (hcl h) w2) := KA1.out.later hb2
      have c0 := KA2.out.c 0 rfl
      have c1 := KA2.out.c 1 rfl
      have c2 := KA2.out.c 2 rfl
      have c3 := KA2.out.c 3 rfl
      clear hb2 k0 k1 k2 k3
      go_wp2_with fail
      refine Calls.mono (HXT.out _ hok _) ?_
      rintro e w3 ⟨rfl, hb3⟩
      have HB3 : Hid (Below w.heap.size w w3) := below_on HB2.out hb3 HB2.out.size
      have KA3 : Hid (Bk w.heap.size (hcl h) w3) := KA2.out.later hb3
      clear hb3 c0 c1 c2 c3
      have c0 := KA3.out.c 0 rfl
      have c1 := KA3.out.c 1 rfl
      have c2 := KA3.out.c 2 rfl
      have c3 := KA3.out.c 3 rfl
      go_wp2_with fail
      refine Calls.mono (HXS.out _ hok _) ?_
      rintro e w4 ⟨rfl, hb4⟩
      have HB4 : Hid (Below w.heap.size w w4) := below_on HB3.out hb4 HB3.out.size
      have KA4 : Hid (Bk w.heap.size (hcl h) w4) := KA3.out.later hb4
      clear hb4 c0 c1 c2 c3
      have c0 := KA4.out.c 0 rfl
      have c1 := KA4.out.c 1 rfl
      have c2 := KA4.out.c 2 rfl
      have c3 := KA4.out.c 3 rfl
      go_wp2_with fail
      refine Calls.mono (HXS.out _ hok _) ?_
      rintro e w5 ⟨rfl, hb5⟩
      have HB5 : Hid (Below w.heap.size w w5) := below_on HB4.out hb5 HB4.out.size
      have KA5 : Hid (Bk w.heap.size (hcl h) w5) := KA4.out.later hb5
      clear hb5 c0 c1 c2 c3
      have c0 := KA5.out.c 0 rfl
      have c1 := KA5.out.c 1 rfl
      have c2 := KA5.out.c 2 rfl
      have c3 := KA5.out.c 3 rfl
      go_wp2_with fail
      refine Calls.mono (HRS.out _ hok) ?_
      rintro e w6 ⟨r, rfl, ⟨hr1, hr2⟩, hb6⟩
      have HB6 : Hid (Below w.heap.size w w6) := below_on HB5.out hb6 HB5.out.size
      have KA6 : Hid (Bk w.heap.size (hcl h) w6) := KA5.out.later hb6
      have HR1 : Hid (tk h on (r : Int) = (r : Int)) := hr1
      have HR2 : Hid ((r : Int) ≤ 1000000) := by show _ ≤ _; have := htOk_iff.1 hok; omega
      clear hb6 c0 c1 c2 c3 hr1 hr2
      have c0 := KA6.out.c 0 rfl
      have c1 := KA6.out.c 1 rfl
      have c2 := KA6.out.c 2 rfl
      have c3 := KA6.out.c 3 rfl
      go_wp2_with fail
      refine Calls.mono (tick_yes h (r : Int) on hok (by omega) HR2.out _) ?_
      rintro e w7 ⟨rfl, hb7⟩
      have HB7 : Hid (Below w.heap.size w w7) := below_on HB6.out hb7 HB6.out.size
      have KA7 : Hid (Bk w.heap.size (hcl h) w7) := KA6.out.later hb7
      clear hb7 c0 c1 c2 c3
      rw [HR1.out]
      have c3 := KA7.out.c 3 rfl
      have d1 := HD1.out
      have d2 := HD2.out
      have d3 := HD3.out
      have d4 := HD4.out
      generalize tk h on t = x at *
      generalize tk h on s = y at *
      generalize tk h true t = z at *
      generalize tk h false t = u at *
      generalize h.m = m at *
      go_wp2
      go_ret
      exact ⟨rfl, HB7.out⟩
  · skip
    have HXS : Hid (∀ W, htOk h = true → ∀ b, Calls Try.prog 8 #[hv h, .int .i64 s, .bool b] W fun e w' => e = .returned (two (tk h b s) 0) ∧ Below W.heap.size W w') := fun W hok b => tick_yes h s b hok (by omega) (by omega) W
    have HXT : Hid (∀ W, htOk h = true → ∀ b, Calls Try.prog 8 #[hv h, .int .i64 t, .bool b] W fun e w' => e = .returned (two (tk h b t) 0) ∧ Below W.heap.size W w') := fun W hok b => tick_yes h t b hok (by omega) (by omega) W
    have HNS : Hid (∀ W, htOk h = false → ∀ b, Calls Try.prog 8 #[hv h, .int .i64 s, .bool b] W fun e w' => e = .returned (two 0 2) ∧ Below W.heap.size W w') := fun W hno b => tick_no h s b (by rw [hno]; rfl) W
    cases hok : htOk h with
    | false =>
      go_wp2_with fail
      refine Calls.mono (HNS.out _ hok _) ?_
      rintro e w2 ⟨rfl, hb2⟩
      have HB2 : Hid (Below w.heap.size w w2) := below_on HB1.out hb2 HB1.out.size
      clear hb2 k0 k1 k2 k3
      go_wp2
      go_ret
      exact ⟨rfl, HB2.out⟩
    | true =>
      have d1 : tk h on s ≤ tk h on t := tk_mono hok on (by omega)
      have d2 : tk h false s ≤ tk h true s := tk_on hok s
      have d3 : tk h on t ≤ h.m := tk_most h on t
      have d4 : 0 ≤ tk h on s := tk_nonneg hok on (by omega)
      have HD1 : Hid _ := d1
      have HD2 : Hid _ := d2
      have HD3 : Hid _ := d3
      have HD4 : Hid _ := d4
      clear d1 d2 d3 d4
      go_wp2_with fail
      refine Calls.mono (HXS.out _ hok _) ?_
      rintro e w2 ⟨rfl, hb2⟩
      have HB2 : Hid (Below w.heap.size w w2) := below_on HB1.out hb2 HB1.out.size
      have KA2 : Hid (Bk w.heap.size (hcl h) w2) := KA1.out.later hb2
      have c0 := KA2.out.c 0 rfl
      have c1 := KA2.out.c 1 rfl
      have c2 := KA2.out.c 2 rfl
      have c3 := KA2.out.c 3 rfl
      clear hb2 k0 k1 k2 k3
      go_wp2_with fail
      refine Calls.mono (HXT.out _ hok _) ?_
      rintro e w3 ⟨rfl, hb3⟩
      have HB3 : Hid (Below w.heap.size w w3) := below_on HB2.out hb3 HB2.out.size
      have KA3 : Hid (Bk w.heap.size (hcl h) w3) := KA2.out.later hb3
      clear hb3 c0 c1 c2 c3
      have c0 := KA3.out.c 0 rfl
      have c1 := KA3.out.c 1 rfl
      have c2 := KA3.out.c 2 rfl
      have c3 := KA3.out.c 3 rfl
      go_wp2_with fail
      refine Calls.mono (HXS.out _ hok _) ?_
      rintro e w4 ⟨rfl, hb4⟩
      have HB4 : Hid (Below w.heap.size w w4) := below_on HB3.out hb4 HB3.out.size
      have KA4 : Hid (Bk w.heap.size (hcl h) w4) := KA3.out.later hb4
      clear hb4 c0 c1 c2 c3
      have c0 := KA4.out.c 0 rfl
      have c1 := KA4.out.c 1 rfl
      have c2 := KA4.out.c 2 rfl
      have c3 := KA4.out.c 3 rfl
      go_wp2_with fail
      refine Calls.mono (HXS.out _ hok _) ?_
      rintro e w5 ⟨rfl, hb5⟩
      have HB5 : Hid (Below w.heap.size w w5) := below_on HB4.out hb5 HB4.out.size
      have KA5 : Hid (Bk w.heap.size (hcl h) w5) := KA4.out.later hb5
      clear hb5 c0 c1 c2 c3
      have c0 := KA5.out.c 0 rfl
      have c1 := KA5.out.c 1 rfl
      have c2 := KA5.out.c 2 rfl
      have c3 := KA5.out.c 3 rfl
      go_wp2_with fail
      refine Calls.mono (HRS.out _ hok) ?_
      rintro e w6 ⟨r, rfl, ⟨hr1, hr2⟩, hb6⟩
      have HB6 : Hid (Below w.heap.size w w6) := below_on HB5.out hb6 HB5.out.size
      have KA6 : Hid (Bk w.heap.size (hcl h) w6) := KA5.out.later hb6
      have HR1 : Hid (tk h on (r : Int) = (r : Int)) := hr1
      have HR2 : Hid ((r : Int) ≤ 1000000) := by show _ ≤ _; have := htOk_iff.1 hok; omega
      clear hb6 c0 c1 c2 c3 hr1 hr2
      have c0 := KA6.out.c 0 rfl
      have c1 := KA6.out.c 1 rfl
      have c2 := KA6.out.c 2 rfl
      have c3 := KA6.out.c 3 rfl
      go_wp2_with fail
      refine Calls.mono (tick_yes h (r : Int) on hok (by omega) HR2.out _) ?_
      rintro e w7 ⟨rfl, hb7⟩
      have HB7 : Hid (Below w.heap.size w w7) := below_on HB6.out hb7 HB6.out.size
      have KA7 : Hid (Bk w.heap.size (hcl h) w7) := KA6.out.later hb7
      clear hb7 c0 c1 c2 c3
      rw [HR1.out]
      have c3 := KA7.out.c 3 rfl
      have d1 := HD1.out
      have d2 := HD2.out
      have d3 := HD3.out
      have d4 := HD4.out
      generalize tk h on s = x at *
      generalize tk h on t = y at *
      generalize tk h true s = z at *
      generalize tk h false s = u at *
      generalize h.m = m at *
      go_wp2
      go_ret
      exact ⟨rfl, HB7.out⟩
end Go.Proofs.Ytjpjkkjklghpgaa
