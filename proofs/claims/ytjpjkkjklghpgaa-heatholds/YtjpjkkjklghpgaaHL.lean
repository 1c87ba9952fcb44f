/- The document's answers on plates. -/
import Derived.Test.YtjpjkkjklghpgaaHI
namespace Go.Proofs.Ytjpjkkjklghpgaa
open Go.RowKit

theorem within_any (n lo hi : Int) (w : World) : Calls Try.prog 27 #[.int .i64 n, .int .i64 lo, .int .i64 hi] w fun e w' => e = .returned (.bool (inR lo hi n)) ∧ w' = w := by
  by_cases h1 : lo ≤ n
  · by_cases h2 : n ≤ hi
    · go_enter Try.func27, Try.ntmps27
      go_wp2
      go_ret
      exact ⟨ret_bool (inR_yes h1 h2).symm, rfl⟩
    · go_enter Try.func27, Try.ntmps27
      go_wp2
      go_ret
      exact ⟨ret_bool (inR_no (.inr (by omega))).symm, rfl⟩
  · go_enter Try.func27, Try.ntmps27
    go_wp2
    go_ret
    exact ⟨ret_bool (inR_no (.inl (by omega))).symm, rfl⟩
theorem hot_any (n : Int) (w : World) : Calls Try.prog 13 #[.int .i64 n] w fun e w' => e = .returned (.bool (inR 0 1000000 n)) ∧ w' = w := by
  by_cases h1 : 0 ≤ n
  · by_cases h2 : n ≤ 1000000
    · go_enter Try.func13, Try.ntmps13
      go_wp2
      go_ret
      exact ⟨ret_bool (inR_yes h1 h2).symm, rfl⟩
    · go_enter Try.func13, Try.ntmps13
      go_wp2
      go_ret
      exact ⟨ret_bool (inR_no (.inr (by omega))).symm, rfl⟩
  · go_enter Try.func13, Try.ntmps13
    go_wp2
    go_ret
    exact ⟨ret_bool (inR_no (.inl (by omega))).symm, rfl⟩
theorem htOk_ref (h : Ht) : htOk h = (inR 0 100000 h.g && inR 0 512 h.l && inR 0 1000000 h.a && inR h.a 1000000 h.m) := by
  rw [Bool.eq_iff_iff, htOk_iff]
  simp only [inR, Bool.and_eq_true, decide_eq_true_eq]
  omega
set_option maxHeartbeats 6400000 in
theorem hotMay_any (h : Ht) (w : World) : Calls Try.prog 11 #[hv h] w fun e w' => e = .returned (.bool (htOk h)) ∧ Below w.heap.size w w' := by
  have HR := htOk_ref h
  obtain ⟨g, l, a, m⟩ := h
  simp only at *
  have U1 : Hid (∀ W, Calls Try.prog 27 #[.int .i64 g, .int .i64 0, .int .i64 100000] W fun e w' => e = .returned (.bool (inR 0 100000 g)) ∧ w' = W) := within_any _ _ _
  have U2 : Hid (∀ W, Calls Try.prog 27 #[.int .i64 l, .int .i64 0, .int .i64 512] W fun e w' => e = .returned (.bool (inR 0 512 l)) ∧ w' = W) := within_any _ _ _
  have U3 : Hid (∀ W, Calls Try.prog 27 #[.int .i64 a, .int .i64 0, .int .i64 1000000] W fun e w' => e = .returned (.bool (inR 0 1000000 a)) ∧ w' = W) := within_any _ _ _
  have U4 : Hid (∀ W, Calls Try.prog 27 #[.int .i64 m, .int .i64 a, .int .i64 1000000] W fun e w' => e = .returned (.bool (inR a 1000000 m)) ∧ w' = W) := within_any _ _ _
  generalize inR 0 100000 g = b1 at *
  generalize inR 0 512 l = b2 at *
  generalize inR 0 1000000 a = b3 at *
  generalize inR a 1000000 m = b4 at *
  have HR : Hid (htOk ⟨g, l, a, m⟩ = (b1 && b2 && b3 && b4)) := HR
  have HB : Hid (Below w.heap.size w (w.alloc (ho ⟨g, l, a, m⟩))) := (Below.refl _ _).alloc (Nat.le_refl _) _
  go_enter Try.func11, Try.ntmps11
  go_wp2_with fail
  refine Calls.mono (U1.out _) ?_
  rintro e w1 ⟨rfl, rfl⟩
  cases b1 with
  | false =>
    go_wp2
    go_ret
    exact ⟨ret_bool (by rw [HR.out]; rfl), HB.out⟩
  | true =>
    go_wp2_with fail
    refine Calls.mono (U2.out _) ?_
    rintro e w1 ⟨rfl, rfl⟩
    cases b2 with
    | false =>
      go_wp2
      go_ret
      exact ⟨ret_bool (by rw [HR.out]; rfl), HB.out⟩
    | true =>
      go_wp2_with fail
      refine Calls.mono (U3.out _) ?_
      rintro e w1 ⟨rfl, rfl⟩
      cases b3 with
      | false =>
        go_wp2
        go_ret
        exact ⟨ret_bool (by rw [HR.out]; rfl), HB.out⟩
      | true =>
        go_wp2_with fail
        refine Calls.mono (U4.out _) ?_
        rintro e w1 ⟨rfl, rfl⟩
        cases b4 with
        | false =>
          go_wp2
          go_ret
          exact ⟨ret_bool (by rw [HR.out]; rfl), HB.out⟩
        | true =>
          go_wp2
          go_ret
          exact ⟨ret_bool (by rw [HR.out]; rfl), HB.out⟩
set_option maxHeartbeats 3200000 in
theorem hotTick_any (h : Ht) (t : Int) (on : Bool) (hok : htOk h = true) (h0 : 0 ≤ t) (h1 : t ≤ 1000000) (w : World) :
    Calls Try.prog 14 #[hv h, .int .i64 t, .bool on] w fun e w' => e = .returned (.int .i64 (tk h on t)) ∧ Below w.heap.size w w' := by
  obtain ⟨m0, m1⟩ := mul_bd hok h0 h1
  obtain ⟨b0, b1⟩ := lss_bd hok h0 h1
  have hlow := tk_low hok h0
  obtain ⟨q1, q2, q3, q4, q5, q6, q7⟩ := htOk_iff.1 hok
  have HS : Hid (tk h on t = min (t - Int.tdiv ((t - h.a) * h.l) 1024 + (if on then h.g else 0)) h.m) := rfl
  have HB : Hid (Below w.heap.size w (w.alloc (ho h))) := (Below.refl _ _).alloc (Nat.le_refl _) _
  unfold lss at b0 b1 hlow
  clear hok
  obtain ⟨g, l, a, m⟩ := h
  simp only at *
  cases on with
  | true =>
    by_cases hm : m < t - Int.tdiv ((t - a) * l) 1024 + g
    · go_enter Try.func14, Try.ntmps14
      go_wp2
      go_ret
      exact ⟨ret_int (by rw [HS.out]; simp only [if_true]; omega), HB.out⟩
    · go_enter Try.func14, Try.ntmps14
      go_wp2
      go_ret
      exact ⟨ret_int (by rw [HS.out]; simp only [if_true]; omega), HB.out⟩
  | false =>
    by_cases hm : m < t - Int.tdiv ((t - a) * l) 1024
    · go_enter Try.func14, Try.ntmps14
      go_wp2
      go_ret
      exact ⟨ret_int (by rw [HS.out]; simp only [Bool.false_eq_true, if_false]; omega), HB.out⟩
    · go_enter Try.func14, Try.ntmps14
      go_wp2
      go_ret
      exact ⟨ret_int (by rw [HS.out]; simp only [Bool.false_eq_true, if_false]; omega), HB.out⟩
set_option maxHeartbeats 3200000 in
set_option maxRecDepth 100000 in
theorem hotRest_any (h : Ht) (on : Bool) (r : Nat) (hok : htOk h = true) (hr : RestIs h on r) (w : World) :
    Calls Try.prog 12 #[hv h, .bool on] w fun e w' => e = .returned (.int .i64 (r : Int)) ∧ Below w.heap.size w w' := by
  have hm := htOk_iff.1 hok
  have hr6 : r ≤ 1000000 := by have := hr.2.1; omega
  have HT : Hid (∀ k : Nat, k ≤ 1000000 → ∀ W, Calls Try.prog 14 #[hv h, .int .i64 (k : Int), .bool on] W fun e w' => e = .returned (.int .i64 (tk h on (k : Int))) ∧ Below W.heap.size W w') := fun k hk W => hotTick_any h k on hok (by omega) (by omega) W
  have HM : Hid (∀ k : Nat, k ≤ r → 0 ≤ tk h on (k : Int) ∧ tk h on (k : Int) ≤ (r : Int)) := fun k hk => ⟨tk_nonneg hok on (by omega), by rw [← hr.1]; exact tk_mono hok on (by omega)⟩
  have HR : Hid (RestIs h on r) := hr
  have HB0 : Hid (Below w.heap.size w (w.alloc (ho h))) := (Below.refl _ _).alloc (Nat.le_refl _) _
  have KA : Hid (Bk w.heap.size (hcl h) (w.alloc (ho h))) := Bk.new w (hcl h) 23 w.heap.size rfl
  clear hok hr hm
  go_enter Try.func12, Try.ntmps12
  go_wp2
  go_loopw [5] (fun s wr => ∃ k : Nat, k ≤ r ∧ s = .int .i64 ((k : Nat) : Int) ∧ Below w.heap.size w wr ∧ Bk w.heap.size (hcl h) wr) (fun s _ => r - (intOf s).toNat)
  case atStart => exact ⟨0, Nat.zero_le _, rfl, HB0.out, KA.out⟩
  case round =>
    obtain ⟨k, hk, rfl, hb, ha⟩ := hrel
    have HB1 : Hid (Below w.heap.size w wr) := hb
    have KA1 : Hid (Bk w.heap.size (hcl h) wr) := ha
    clear hb ha
    have c0 := KA1.out.c 0 rfl
    have c1 := KA1.out.c 1 rfl
    have c2 := KA1.out.c 2 rfl
    have c3 := KA1.out.c 3 rfl
    have HTk : Hid (∀ W, Calls Try.prog 14 #[hv h, .int .i64 (k : Int), .bool on] W fun e w' => e = .returned (.int .i64 (tk h on (k : Int))) ∧ Below W.heap.size W w') := HT.out k (by omega)
    by_cases hlt : k < r
    · obtain ⟨n0, n1⟩ := HM.out k hk
      have n2 := HR.out.2.2 k hlt
      obtain ⟨j, hj⟩ : ∃ j : Nat, (j : Int) = tk h on (k : Int) := ⟨(tk h on (k : Int)).toNat, by omega⟩
      rw [← hj] at HTk n0 n1 n2
      clear hj
      have hne : (j : Int) ≠ (k : Int) := by omega
      go_wp2_with fail
      refine Calls.mono (HTk.out _) ?_
      rintro e w2 ⟨rfl, hb2⟩
      have HB2 : Hid (Below w.heap.size w w2) := below_on HB1.out hb2 HB1.out.size
      have KA2 : Hid (Bk w.heap.size (hcl h) w2) := KA1.out.later hb2
      clear hb2 c0 c1 c2 c3
      have c0 := KA2.out.c 0 rfl
      have c1 := KA2.out.c 1 rfl
      have c2 := KA2.out.c 2 rfl
      have c3 := KA2.out.c 3 rfl
      go_wp2_with fail
      refine Calls.mono (HTk.out _) ?_
      rintro e w3 ⟨rfl, hb3⟩
      have HB3 : Hid (Below w.heap.size w w3) := below_on HB2.out hb3 HB2.out.size
      have KA3 : Hid (Bk w.heap.size (hcl h) w3) := KA2.out.later hb3
      clear hb3 c0 c1 c2 c3
      go_wp2
      go_roundw
      case rel => exact ⟨j, by omega, rfl, HB3.out, KA3.out⟩
      case measure => simp [intOf]; omega
    · obtain rfl : k = r := by omega
      have hs := HR.out.1
      rw [hs] at HTk
      clear hs
      go_wp2_with fail
      refine Calls.mono (HTk.out _) ?_
      rintro e w2 ⟨rfl, hb2⟩
      have HB2 : Hid (Below w.heap.size w w2) := below_on HB1.out hb2 HB1.out.size
      clear hb2 c0 c1 c2 c3
      go_wp2
      go_ret
      exact ⟨rfl, HB2.out⟩
theorem own_rdI {w : World} {B : Nat} {v : Value} {l : List Int} (h : OwnR encI w B v l) : ∃ ao cap, v = .slice ao l.length cap ∧ RdI w ao l := by
  obtain ⟨ao, cap, rfl⟩ := h.shape
  refine ⟨ao, cap, rfl, ?_⟩
  rcases h.read goodI with ⟨rfl, _⟩ | ⟨g, cap', e, _, _, hlt, hc⟩
  · exact .inl rfl
  · injection e with e1 e2 e3
    refine .inr ⟨g, 0, e1, hlt, fun k hk => ?_⟩
    have h0 := hc k hk 0 (by decide)
    rw [Nat.zero_add]
    simpa [encI] using h0
theorem OwnR.row' {α : Type} {c : Enc α} {w : World} {base : Nat} {v : Value} {ps : List α} (h : OwnR c w base v ps) : ∀ k, v.ownBlock = some k → base ≤ k := fun k hk => (World.ownsRow.lt h k hk).1
set_option maxHeartbeats 6400000 in
set_option maxRecDepth 100000 in
theorem hotBang_any (h : Ht) (t0 g b : Int) (n : Nat) (hok : htOk h = true) (h0 : 0 ≤ t0) (h1 : t0 ≤ 1000000) (g0 : 0 ≤ g) (g1 : g ≤ 1000000) (q0 : 0 ≤ b) (q1 : b ≤ 100000) (hn : n ≤ 100000) (w : World) :
    Calls Try.prog 16 #[hv h, .int .i64 t0, .int .i64 g, .int .i64 b, .int .i64 (n : Int)] w fun e w' => ∃ ao cap, e = .returned (.slice ao n cap) ∧ RdI w' ao (heatsL h (g - b) (g + b) t0 n) ∧ Below w.heap.size w w' := by
  obtain ⟨lo, hlo⟩ : ∃ x, x = g - b := ⟨_, rfl⟩
  obtain ⟨hi, hhi⟩ : ∃ x, x = g + b := ⟨_, rfl⟩
  rw [← hlo, ← hhi]
  have HTK : Hid (∀ (x : Int) (c : Bool), 0 ≤ x → x ≤ 1000000 → ∀ W, Calls Try.prog 14 #[hv h, .int .i64 x, .bool c] W fun e w' => e = .returned (.int .i64 (tk h c x)) ∧ Below W.heap.size W w') := fun x c p0 p1 W => hotTick_any h x c hok p0 p1 W
  have HBD : Hid (∀ k, 0 ≤ (stN h lo hi t0 k).1 ∧ (stN h lo hi t0 k).1 ≤ 1000000) := stN_bd hok h0 h1
  have HLEN : Hid (∀ k, (heatsL h lo hi t0 k).length = k) := heatsL_length h lo hi t0
  have HLO : Hid (lo = g - b) := hlo
  have HHI : Hid (hi = g + b) := hhi
  have HB0 : Hid (Below w.heap.size w (w.alloc (ho h))) := (Below.refl _ _).alloc (Nat.le_refl _) _
  have KA : Hid (Bk w.heap.size (hcl h) (w.alloc (ho h))) := Bk.new w (hcl h) 23 w.heap.size rfl
  clear hok hlo hhi
  go_enter Try.func16, Try.ntmps16
  go_wp2
  go_loopw [1, 11, 12, 13] (fun s1 s11 s12 s13 wr => ∃ k : Nat, k ≤ n ∧ s1 = .int .i64 (stN h lo hi t0 k).1 ∧ OwnR encI wr (w.heap.size + 1) s11 (heatsL h lo hi t0 k) ∧ s12 = .bool (stN h lo hi t0 k).2 ∧ s13 = .int .i64 ((k : Nat) : Int) ∧ Below w.heap.size w wr ∧ Bk w.heap.size (hcl h) wr) (fun _ _ _ s13 _ => n - (intOf s13).toNat)
  case atStart => exact ⟨0, Nat.zero_le _, rfl, OwnR.nil _ _ _, rfl, rfl, HB0.out, KA.out⟩
  case round =>
    obtain ⟨k, hk, rfl, hown, rfl, rfl, hb, ha⟩ := hrel
    obtain ⟨aoV, nV, capV, rfl⟩ := hown.form
    have HB1 : Hid (Below w.heap.size w wr) := hb
    have KA1 : Hid (Bk w.heap.size (hcl h) wr) := ha
    have HO1 : Hid (OwnR encI wr (w.heap.size + 1) (.slice aoV nV capV) (heatsL h lo hi t0 k)) := hown
    clear hb ha hown
    by_cases hlt : k < n
    · have HNX : Hid (stN h lo hi t0 (k + 1) = st1 h lo hi (stN h lo hi t0 k)) := rfl
      obtain ⟨b0, b1⟩ := HBD.out k
      have HLT : Hid ((heatsL h lo hi t0 k).length ≤ 1000000000) := by show _ ≤ _; rw [HLEN.out]; omega
      obtain ⟨pr, hpr⟩ : ∃ pr, pr = heatsL h lo hi t0 k := ⟨_, rfl⟩
      have HPR : Hid (pr = heatsL h lo hi t0 k) := hpr
      rw [← hpr] at HO1 HLT
      clear hpr
      obtain ⟨⟨t, on⟩, hs⟩ : ∃ s, s = stN h lo hi t0 k := ⟨_, rfl⟩
      rw [← hs] at HNX b0 b1 ⊢
      clear hs
      simp only at b0 b1 ⊢
      have c0 := KA1.out.c 0 rfl
      have c1 := KA1.out.c 1 rfl
      have c2 := KA1.out.c 2 rfl
      have c3 := KA1.out.c 3 rfl
      have hcl2 : lo = g - b := HLO.out
      have hch2 : hi = g + b := HHI.out
      rcases (by omega : (t < lo ∧ t < g - b ∧ ¬ g + b < t) ∨ (¬ t < lo ∧ ¬ t < g - b ∧ hi < t ∧ g + b < t) ∨ (¬ t < lo ∧ ¬ t < g - b ∧ ¬ hi < t ∧ ¬ g + b < t)) with ⟨d1, d2, d3⟩ | ⟨d1, d2, d3, d4⟩ | ⟨d1, d2, d3, d4⟩
      all_goals clear hcl2 hch2
      · have HSW : Hid (sw lo hi t on = true) := sw_cold d1
        have HNX : Hid (stN h lo hi t0 (k + 1) = (tk h true t, true)) := by show _ = _; rw [HNX.out]; show (tk h (sw lo hi t on) t, sw lo hi t on) = _; rw [HSW.out]
        have HT : Hid (∀ W, Calls Try.prog 14 #[hv h, .int .i64 t, .bool true] W fun e w' => e = .returned (.int .i64 (tk h true t)) ∧ Below W.heap.size W w') := HTK.out t true b0 b1
        go_wp2_with fail
        refine Calls.mono (HT.out _) ?_
        rintro e w2 ⟨rfl, hb2⟩
        have HB2 : Hid (Below w.heap.size w w2) := below_on HB1.out hb2 HB1.out.size
        have KA2 : Hid (Bk w.heap.size (hcl h) w2) := KA1.out.later hb2
        have HO2 : Hid (OwnR encI w2 (w.heap.size + 1) (.slice aoV nV capV) pr) := HO1.out.later hb2
        have hw2 : w.heap.size + 1 ≤ w2.heap.size := KA2.out.1
        have HZ : Hid (w.heap.size + 1 ≤ (w2.alloc (.cells #[.int .i64 (tk h true t)] 3)).heap.size) := by show _ ≤ _; simp; omega
        clear hb2 c0 c1 c2 c3
        generalize tk h true t = y at *
        go_wp2_with (at_builtin; refine wpList_append_row goodI Try.underlying28 infoI rfl (by decide) (by decide) _ rfl (.tmp 33) (.tmp 35) rfl (w.heap.size + 1) (.slice aoV nV capV) pr rfl (HO2.out.alloc _) w2.heap.size y rfl (fun j u hu => (Bk.new w2 [.int .i64 y] 3 w2.heap.size rfl).c j hu) HLT.out HZ.out ?_; intro v' w3 ho hg hloc; have HO3 : Hid (OwnR encI w3 (w.heap.size + 1) v' (pr ++ [y])) := ho; have HB3 : Hid (Below w.heap.size w w3) := below_row (HB2.out.alloc HB2.out.size _) ((HO2.out.alloc (.cells #[.int .i64 y] 3)).base (by omega)) hg (by have := HB2.out.size; simp; omega); have KA3 : Hid (Bk w.heap.size (hcl h) w3) := (KA2.out.later ((Below.refl _ _).alloc (Nat.le_refl _) (.cells #[.int .i64 y] 3))).same hg.size (hg.block _ (by simp; omega) (fun e => by have := (HO2.out.alloc (.cells #[.int .i64 y] 3)).row _ e.symm; omega)); clear ho hg hloc)
        go_roundw
        case rel =>
          refine ⟨k + 1, by omega, by rw [HNX.out], ?_, by rw [HNX.out], by go_num, HB3.out, KA3.out⟩
          rw [heatsL_succ, HNX.out, ← HPR.out]
          exact HO3.out
        case measure => simp [intOf]; omega
      · have HSW : Hid (sw lo hi t on = false) := sw_warm d1 d3
        have HNX : Hid (stN h lo hi t0 (k + 1) = (tk h false t, false)) := by show _ = _; rw [HNX.out]; show (tk h (sw lo hi t on) t, sw lo hi t on) = _; rw [HSW.out]
        have HT : Hid (∀ W, Calls Try.prog 14 #[hv h, .int .i64 t, .bool false] W fun e w' => e = .returned (.int .i64 (tk h false t)) ∧ Below W.heap.size W w') := HTK.out t false b0 b1
        go_wp2_with fail
        refine Calls.mono (HT.out _) ?_
        rintro e w2 ⟨rfl, hb2⟩
        have HB2 : Hid (Below w.heap.size w w2) := below_on HB1.out hb2 HB1.out.size
        have KA2 : Hid (Bk w.heap.size (hcl h) w2) := KA1.out.later hb2
        have HO2 : Hid (OwnR encI w2 (w.heap.size + 1) (.slice aoV nV capV) pr) := HO1.out.later hb2
        have hw2 : w.heap.size + 1 ≤ w2.heap.size := KA2.out.1
        have HZ : Hid (w.heap.size + 1 ≤ (w2.alloc (.cells #[.int .i64 (tk h false t)] 3)).heap.size) := by show _ ≤ _; simp; omega
        clear hb2 c0 c1 c2 c3
        generalize tk h false t = y at *
        go_wp2_with (at_builtin; refine wpList_append_row goodI Try.underlying28 infoI rfl (by decide) (by decide) _ rfl (.tmp 33) (.tmp 35) rfl (w.heap.size + 1) (.slice aoV nV capV) pr rfl (HO2.out.alloc _) w2.heap.size y rfl (fun j u hu => (Bk.new w2 [.int .i64 y] 3 w2.heap.size rfl).c j hu) HLT.out HZ.out ?_; intro v' w3 ho hg hloc; have HO3 : Hid (OwnR encI w3 (w.heap.size + 1) v' (pr ++ [y])) := ho; have HB3 : Hid (Below w.heap.size w w3) := below_row (HB2.out.alloc HB2.out.size _) ((HO2.out.alloc (.cells #[.int .i64 y] 3)).base (by omega)) hg (by have := HB2.out.size; simp; omega); have KA3 : Hid (Bk w.heap.size (hcl h) w3) := (KA2.out.later ((Below.refl _ _).alloc (Nat.le_refl _) (.cells #[.int .i64 y] 3))).same hg.size (hg.block _ (by simp; omega) (fun e => by have := (HO2.out.alloc (.cells #[.int .i64 y] 3)).row _ e.symm; omega)); clear ho hg hloc)
        go_roundw
        case rel =>
          refine ⟨k + 1, by omega, by rw [HNX.out], ?_, by rw [HNX.out], by go_num, HB3.out, KA3.out⟩
          rw [heatsL_succ, HNX.out, ← HPR.out]
          exact HO3.out
        case measure => simp [intOf]; omega
      · have HSW : Hid (sw lo hi t on = on) := sw_mid d1 d3
        have HNX : Hid (stN h lo hi t0 (k + 1) = (tk h on t, on)) := by show _ = _; rw [HNX.out]; show (tk h (sw lo hi t on) t, sw lo hi t on) = _; rw [HSW.out]
        have HT : Hid (∀ W, Calls Try.prog 14 #[hv h, .int .i64 t, .bool on] W fun e w' => e = .returned (.int .i64 (tk h on t)) ∧ Below W.heap.size W w') := HTK.out t on b0 b1
        go_wp2_with fail
        refine Calls.mono (HT.out _) ?_
        rintro e w2 ⟨rfl, hb2⟩
        have HB2 : Hid (Below w.heap.size w w2) := below_on HB1.out hb2 HB1.out.size
        have KA2 : Hid (Bk w.heap.size (hcl h) w2) := KA1.out.later hb2
        have HO2 : Hid (OwnR encI w2 (w.heap.size + 1) (.slice aoV nV capV) pr) := HO1.out.later hb2
        have hw2 : w.heap.size + 1 ≤ w2.heap.size := KA2.out.1
        have HZ : Hid (w.heap.size + 1 ≤ (w2.alloc (.cells #[.int .i64 (tk h on t)] 3)).heap.size) := by show _ ≤ _; simp; omega
        clear hb2 c0 c1 c2 c3
        generalize tk h on t = y at *
        go_wp2_with (at_builtin; refine wpList_append_row goodI Try.underlying28 infoI rfl (by decide) (by decide) _ rfl (.tmp 33) (.tmp 35) rfl (w.heap.size + 1) (.slice aoV nV capV) pr rfl (HO2.out.alloc _) w2.heap.size y rfl (fun j u hu => (Bk.new w2 [.int .i64 y] 3 w2.heap.size rfl).c j hu) HLT.out HZ.out ?_; intro v' w3 ho hg hloc; have HO3 : Hid (OwnR encI w3 (w.heap.size + 1) v' (pr ++ [y])) := ho; have HB3 : Hid (Below w.heap.size w w3) := below_row (HB2.out.alloc HB2.out.size _) ((HO2.out.alloc (.cells #[.int .i64 y] 3)).base (by omega)) hg (by have := HB2.out.size; simp; omega); have KA3 : Hid (Bk w.heap.size (hcl h) w3) := (KA2.out.later ((Below.refl _ _).alloc (Nat.le_refl _) (.cells #[.int .i64 y] 3))).same hg.size (hg.block _ (by simp; omega) (fun e => by have := (HO2.out.alloc (.cells #[.int .i64 y] 3)).row _ e.symm; omega)); clear ho hg hloc)
        go_roundw
        case rel =>
          refine ⟨k + 1, by omega, by rw [HNX.out], ?_, by rw [HNX.out], by go_num, HB3.out, KA3.out⟩
          rw [heatsL_succ, HNX.out, ← HPR.out]
          exact HO3.out
        case measure => simp [intOf]; omega
    · obtain rfl : k = n := by omega
      have HP : Hid (∃ ao cap, Value.slice aoV nV capV = .slice ao k cap ∧ RdI wr ao (heatsL h lo hi t0 k)) := by
        obtain ⟨ao, cap, e, q⟩ := own_rdI HO1.out
        rw [HLEN.out] at e
        exact ⟨ao, cap, e, q⟩
      go_wp2
      go_ret
      obtain ⟨ao, cap, he, q⟩ := HP.out
      exact ⟨ao, cap, by rw [he]; rfl, q, HB1.out⟩
set_option maxHeartbeats 1600000 in
theorem sameInts_any (xs : List Int) (G n c1 c2 : Nat) (ao : Option Addr) (w : World) (hn : xs.length = n) (hl : n ≤ 20000) (h1 : Ints xs G w) (h2 : RdI w ao xs) :
    Calls Try.prog 15 #[.slice (some ⟨G, 0, none⟩) n c1, .slice ao n c2] w fun e w' => e = .returned (.bool true) ∧ Below w.heap.size w w' := by
  have H1 : Hid (Ints xs G w) := h1
  have H2 : Hid (RdI w ao xs) := h2
  have HN : Hid (xs.length = n) := hn
  clear h1 h2 hn
  go_enter Try.func15, Try.ntmps15
  go_wp2
  go_loopw [5] (fun i wr => ∃ k : Nat, k ≤ n ∧ i = .int .i64 ((k : Nat) : Int) ∧ ∃ q, wr = w.drewN q) (fun i _ => n - (intOf i).toNat)
  case atStart => exact ⟨0, Nat.zero_le _, rfl, 0, rfl⟩
  case round =>
    obtain ⟨k, hk, rfl, q, rfl⟩ := hrel
    by_cases hlt : k < n
    · have hkl : k < xs.length := by rw [HN.out]; exact hlt
      have c1 := H1.out.2 k hkl
      obtain ⟨b, off, rfl, _, c2⟩ := H2.out.at hkl
      generalize xs[k]'hkl = x at *
      go_wp2_with fail
      go_big_quiet (fail)
      go_wp2
      go_roundw
      case rel => exact ⟨k + 1, by omega, by go_num, q + nq, by first | rfl | simp⟩
      case measure => simp [intOf]; omega
    · go_wp2
      go_ret
      exact ⟨rfl, below_drewN (Below.refl _ _) _⟩
end Go.Proofs.Ytjpjkkjklghpgaa
