/- What ticks give. -/
import Derived.Test.YtjpjkkjklghpgaaRS
import Derived.Test.YtjpjkkjklghpgaaHC
namespace Go.Proofs.Ytjpjkkjklghpgaa
open Go.RowKit

attribute [local go_sem] Oper.semAt_some
abbrev yv (l : Nat) : Value := .func (.yield l) #[] #[]
theorem en30 : ∀ args w, (callFunc 30 args).run Try.prog w = .ok (.enter 30 args) w := enters_of Try.func30 (by kernel_rfl) rfl
set_option linter.unusedVariables false in
def tsV (p : Ht) (lo hi t : Int) (on : Bool) (B : Nat) (d : Nat) (v : Value) (_ : World) : Prop :=
  match d with
  | 9 => v = .pointer (some ⟨B, 0, none⟩)
  | 10 => v = .pointer (some ⟨B, 0, none⟩)
  | 11 => v = .pointer (some ⟨B, 0, none⟩)
  | 12 => v = .pointer (some ⟨B, 0, none⟩)
  | 13 => v = .agg #[.int .i64 p.g, .int .i64 p.l, .int .i64 p.a, .int .i64 p.m]
  | 14 => v = .pointer (some ⟨B, 0, none⟩)
  | 15 => v = .pointer (some ⟨B, 0, none⟩)
  | 16 => v = .pointer (some ⟨B, 4, none⟩)
  | 17 => v = .int .i64 t
  | 18 => v = .pointer (some ⟨B, 0, none⟩)
  | 19 => v = .pointer (some ⟨B, 0, none⟩)
  | 20 => v = .pointer (some ⟨B, 5, none⟩)
  | 21 => v = .bool on
  | 22 => v = .int .i64 (tk p on t)
  | 23 => v = .pointer (some ⟨B, 0, none⟩)
  | 24 => v = .pointer (some ⟨B, 4, none⟩)
  | _ => True
set_option linter.unusedVariables false in
theorem tsV_mono (p : Ht) (lo hi t : Int) (on : Bool) (B : Nat) (d : Nat) (v : Value) (w w' : World) (h : tsV p lo hi t on B d v w) (_ : Below w.heap.size w w') : tsV p lo hi t on B d v w' := h
set_option maxHeartbeats 6400000 in
set_option maxRecDepth 100000 in
theorem ticks_gives (N0 : Nat) (h : Ht) (lo hi t0 : Int) (n T P B l : Nat) (M : Nat → Prop) (W : World) (hok : htOk h = true) (h0 : 0 ≤ t0) (h1 : t0 ≤ 1000000) (hn : n ≤ 100000)
    (hT : Bk T [.int .i64 n] W) (hP : Bk P [ptr B] W) (hB : Bk B (wkc h lo hi (t0, false)) W) (hTM : ¬ ((M T ∨ T = l) ∨ T = B)) (hPM : ¬ ((M P ∨ P = l) ∨ P = B)) (hBM : ¬ (M B ∨ B = l)) :
    GivesS Try.prog N0 30 #[ptr T, ptr P] (heatsL h lo hi t0 n) (fun k w => Bk B (wkc h lo hi (stN h lo hi t0 k)) w) (fun k => k = B) M l W := by
  intro J Jx hJ hJx hY hj0
  have HT0 : Hid (Bk T [.int .i64 n] W) := hT
  have HP0 : Hid (Bk P [ptr B] W) := hP
  have HB0 : Hid (Bk B (wkc h lo hi (stN h lo hi t0 0)) W) := hB
  have HTM : Hid (¬ ((M T ∨ T = l) ∨ T = B)) := hTM
  have HPM : Hid (¬ ((M P ∨ P = l) ∨ P = B)) := hPM
  have HBM : Hid (¬ (M B ∨ B = l)) := hBM
  have HY : Hid (∀ k (q : k < (heatsL h lo hi t0 n).length) W1, J k W1 → Bk B (wkc h lo hi (stN h lo hi t0 (k + 1))) W1 → W.heap.size ≤ W1.heap.size → YieldAt Fence.wide (N0 - 1) Try.prog l #[.int .i64 ((heatsL h lo hi t0 n)[k]'q)] W1 fun e W' => (e = .returned (.bool true) ∧ J (k + 1) W' ∧ Kpt (fun k => M k ∨ k = l) W1 W') ∨ (e = .returned (.bool false) ∧ Jx (k + 1) W' ∧ Kpt (fun k => M k ∨ k = l) W1 W')) := hY
  have HJ : Hid (∀ s A C, J s A → Kpt (fun k => k = B) A C → J s C) := hJ
  have H0 : Hid (J 0 W) := hj0
  have HTK : Hid (∀ (x : Int) (b : Bool), 0 ≤ x → x ≤ 1000000 → ∀ w, Calls Try.prog 21 #[hv h, .int .i64 x, .bool b] w fun e w' => e = .returned (.int .i64 (tk h b x)) ∧ w' = w.alloc (ho h)) := fun x b q0 q1 w => behind_any h x b hok q0 q1 w
  have HL : Hid ((heatsL h lo hi t0 n).length = n) := heatsL_length h lo hi t0 n
  have HE : Hid (∀ k (q : k < (heatsL h lo hi t0 n).length), (heatsL h lo hi t0 n)[k]'q = (stN h lo hi t0 (k + 1)).1) := fun k q => heatsL_at h lo hi t0 n q
  have HBD : Hid (∀ k, 0 ≤ (stN h lo hi t0 k).1 ∧ (stN h lo hi t0 k).1 ≤ 1000000) := stN_bd hok h0 h1
  clear hT hP hB hTM hPM hBM hY hJ hJx hj0 hok
  refine callsIn_of_wp Try.func30 rfl trivial ?_ rfl
  simp only [Try.ntmps30, List.size_toArray, List.length_cons, List.length_nil, Nat.reduceAdd, Nat.reduceSub, Array.replicate_succ, Array.replicate_zero, List.push_toArray, List.append_toArray, List.nil_append, List.cons_append]
  have cT := HT0.out.c 0 rfl
  gi_wp2
  clear cT
  gi_loopw [5] (fun i wr => ∃ k : Nat, k ≤ n ∧ i = .int .i64 ((k : Nat) : Int) ∧ J k wr ∧ Bk B (wkc h lo hi (stN h lo hi t0 k)) wr ∧ Kpt (fun x => (M x ∨ x = l) ∨ x = B) W wr) (fun i _ => n - (intOf i).toNat)
  case atStart => exact ⟨0, Nat.zero_le _, rfl, H0.out, HB0.out, Kpt.refl _ _⟩
  case round =>
    obtain ⟨k, hk, rfl, hj, hb, hkp⟩ := hrel
    have HJ1 : Hid (J k wr) := hj
    have HB1 : Hid (Bk B (wkc h lo hi (stN h lo hi t0 k)) wr) := hb
    have HKP : Hid (Kpt (fun x => (M x ∨ x = l) ∨ x = B) W wr) := hkp
    have HPr : Hid (Bk P [ptr B] wr) := bk_kpt HP0.out hkp HPM.out
    clear hj hb hkp
    by_cases hlt : k < n
    · have HK : Hid (k < (heatsL h lo hi t0 n).length) := by show _ < _; rw [HL.out]; exact hlt
      have HNX : Hid (stN h lo hi t0 (k + 1) = st1 h lo hi (stN h lo hi t0 k)) := rfl
      obtain ⟨b0, b1⟩ := HBD.out k
      obtain ⟨⟨t, on0⟩, hs⟩ : ∃ s, s = stN h lo hi t0 k := ⟨_, rfl⟩
      rw [← hs] at HB1 HNX b0 b1
      clear hs
      simp only at b0 b1
      have HTU : Hid (Calls Try.prog 31 #[ptr B] wr fun e w' => (∃ v, e = .returned v) ∧ Bk B (wkc h lo hi (t, sw lo hi t on0)) w' ∧ Kpt (fun k => k = B) wr w') := turn_any B h lo hi t on0 wr HB1.out
      obtain ⟨on, hon⟩ : ∃ on, on = sw lo hi t on0 := ⟨_, rfl⟩
      rw [← hon] at HTU
      have HNX : Hid (stN h lo hi t0 (k + 1) = (tk h on t, on)) := by show _ = _; rw [HNX.out, hon]; rfl
      clear hon
      have HT : Hid (∀ w, Calls Try.prog 21 #[hv h, .int .i64 t, .bool on] w fun e w' => e = .returned (.int .i64 (tk h on t)) ∧ w' = w.alloc (ho h)) := HTK.out t on b0 b1
      clear b0 b1
      have cP := HPr.out.c 0 rfl
      gi_wp2_with fail
      refine ⟨trivial, (fun h => by cases h), (callsIn_wide.2 HTU.out).mono ?_⟩
      rintro e w1 ⟨⟨v, rfl⟩, hb1, hk1⟩
      have KB1 : Hid (Bk B (wkc h lo hi (t, on)) w1) := hb1
      have KP1 : Hid (Bk P [ptr B] w1) := bk_kpt HPr.out hk1 (fun e => HPM.out (.inr e))
      have HK1 : Hid (Kpt (fun k => k = B) wr w1) := hk1
      clear hb1 hk1 cP
      gi_wp2_with fail
      rename_i KK hkk
      have HKK := (show Hid _ from hkk)
      clear hkk
      refine wpIn_wide.2 ?_
      refine region_seq 16 [false, false, false, false, false, false, false, false, false, true, true, true, true, true, true, true, true, true, true, true, true, true, true, true, true, false, false, false, false, false, false, false, false]
        [(9, [], none), (10, [], none), (11, [10], none), (12, [11], none), (13, [12], none), (14, [], none), (15, [14], none), (16, [15], none), (17, [16], none), (18, [], none), (19, [18], none), (20, [19], none), (21, [20], none), (22, [13, 17, 21], none), (23, [9], none), (24, [23], none)]
        (tsV h lo hi t on B) (by kernel_rfl) (by kernel_rfl) (by kernel_rfl) (by kernel_rfl) (by kernel_rfl) (by decide) (tsV_mono h lo hi t on B) ?_ ?_
      · refine ⟨?_, ?_, ?_, ?_, ?_, ?_, ?_, ?_, ?_, ?_, ?_, ?_, ?_, ?_, ?_, ?_, trivial⟩
        · intro f w1 hb _ K hK
          have q0 := (KP1.out.later hb).c 0 rfl
          simp only [over, overL, Nat.reduceAdd]
          go_simp
          exact hK _ _ ⟨_, rfl, by simp only [over, overL, Nat.reduceAdd]; rfl, Below.refl _ _⟩
        · intro f w1 hb _ K hK
          have q0 := (KP1.out.later hb).c 0 rfl
          simp only [over, overL, Nat.reduceAdd]
          go_simp
          exact hK _ _ ⟨_, rfl, by simp only [over, overL, Nat.reduceAdd]; rfl, Below.refl _ _⟩
        · intro f w1 hb ⟨h10, _⟩ K hK
          replace h10 : f 10 = _ := h10
          simp only [over, overL, Nat.reduceAdd, h10]
          go_simp
          exact hK _ _ ⟨_, rfl, by simp only [over, overL, Nat.reduceAdd, h10]; rfl, Below.refl _ _⟩
        · intro f w1 hb ⟨h11, _⟩ K hK
          replace h11 : f 11 = _ := h11
          simp only [over, overL, Nat.reduceAdd, h11]
          go_simp
          exact hK _ _ ⟨_, rfl, by simp only [over, overL, Nat.reduceAdd, h11]; rfl, Below.refl _ _⟩
        · intro f w1 hb ⟨h12, _⟩ K hK
          replace h12 : f 12 = _ := h12
          have q0 := (KB1.out.later hb).c 0 rfl
          have q1 := (KB1.out.later hb).c 1 rfl
          have q2 := (KB1.out.later hb).c 2 rfl
          have q3 := (KB1.out.later hb).c 3 rfl
          simp only [over, overL, Nat.reduceAdd, h12]
          go_simp
          exact hK _ _ ⟨_, rfl, by simp only [over, overL, Nat.reduceAdd, h12]; rfl, Below.refl _ _⟩
        · intro f w1 hb _ K hK
          have q0 := (KP1.out.later hb).c 0 rfl
          simp only [over, overL, Nat.reduceAdd]
          go_simp
          exact hK _ _ ⟨_, rfl, by simp only [over, overL, Nat.reduceAdd]; rfl, Below.refl _ _⟩
        · intro f w1 hb ⟨h14, _⟩ K hK
          replace h14 : f 14 = _ := h14
          simp only [over, overL, Nat.reduceAdd, h14]
          go_simp
          exact hK _ _ ⟨_, rfl, by simp only [over, overL, Nat.reduceAdd, h14]; rfl, Below.refl _ _⟩
        · intro f w1 hb ⟨h15, _⟩ K hK
          replace h15 : f 15 = _ := h15
          simp only [over, overL, Nat.reduceAdd, h15]
          go_simp
          exact hK _ _ ⟨_, rfl, by simp only [over, overL, Nat.reduceAdd, h15]; rfl, Below.refl _ _⟩
        · intro f w1 hb ⟨h16, _⟩ K hK
          replace h16 : f 16 = _ := h16
          have q4 := (KB1.out.later hb).c 4 rfl
          simp only [over, overL, Nat.reduceAdd, h16]
          go_simp
          exact hK _ _ ⟨_, rfl, by simp only [over, overL, Nat.reduceAdd, h16]; rfl, Below.refl _ _⟩
        · intro f w1 hb _ K hK
          have q0 := (KP1.out.later hb).c 0 rfl
          simp only [over, overL, Nat.reduceAdd]
          go_simp
          exact hK _ _ ⟨_, rfl, by simp only [over, overL, Nat.reduceAdd]; rfl, Below.refl _ _⟩
        · intro f w1 hb ⟨h18, _⟩ K hK
          replace h18 : f 18 = _ := h18
          simp only [over, overL, Nat.reduceAdd, h18]
          go_simp
          exact hK _ _ ⟨_, rfl, by simp only [over, overL, Nat.reduceAdd, h18]; rfl, Below.refl _ _⟩
        · intro f w1 hb ⟨h19, _⟩ K hK
          replace h19 : f 19 = _ := h19
          simp only [over, overL, Nat.reduceAdd, h19]
          go_simp
          exact hK _ _ ⟨_, rfl, by simp only [over, overL, Nat.reduceAdd, h19]; rfl, Below.refl _ _⟩
        · intro f w1 hb ⟨h20, _⟩ K hK
          replace h20 : f 20 = _ := h20
          have q5 := (KB1.out.later hb).c 5 rfl
          simp only [over, overL, Nat.reduceAdd, h20]
          go_simp
          exact hK _ _ ⟨_, rfl, by simp only [over, overL, Nat.reduceAdd, h20]; rfl, Below.refl _ _⟩
        · intro f w1 hb ⟨h13, h17, h21, _⟩ K hK
          replace h13 : f 13 = _ := h13
          replace h17 : f 17 = _ := h17
          replace h21 : f 21 = _ := h21
          simp only [over, overL, Nat.reduceAdd, h13, h17, h21]
          go_simp
          refine Calls.mono (HT.out _) ?_
          rintro e w2 ⟨rfl, rfl⟩
          exact hK _ _ ⟨_, rfl, by simp only [over, overL, Nat.reduceAdd, h13, h17, h21]; rfl, (Below.refl _ _).alloc (Nat.le_refl _) _⟩
        · intro f w1 hb ⟨h9, _⟩ K hK
          replace h9 : f 9 = _ := h9
          simp only [over, overL, Nat.reduceAdd, h9]
          go_simp
          exact hK _ _ ⟨_, rfl, by simp only [over, overL, Nat.reduceAdd, h9]; rfl, Below.refl _ _⟩
        · intro f w1 hb ⟨h23, _⟩ K hK
          replace h23 : f 23 = _ := h23
          simp only [over, overL, Nat.reduceAdd, h23]
          go_simp
          exact hK _ _ ⟨_, rfl, by simp only [over, overL, Nat.reduceAdd, h23]; rfl, Below.refl _ _⟩
      · intro f w2 hb hv
        have h22 : f 22 = _ := hv.2.2.2.2.2.2.2.2.2.2.2.2.2.1
        have h24 : f 24 = _ := hv.2.2.2.2.2.2.2.2.2.2.2.2.2.2.2.1
        have KB2 : Hid (Bk B (wkc h lo hi (t, on)) w2) := KB1.out.later hb
        have KP2 : Hid (Bk P [ptr B] w2) := KP1.out.later hb
        have HK2 : Hid (Kpt (fun k => k = B) wr w2) := HK1.out.trans (Kpt.of_below hb)
        have c4 := KB2.out.c 4 rfl
        have f4 := KB2.out.f 4 rfl
        clear hv hb
        simp only [over_eq, overL, h22, h24, Nat.reduceAdd, List.drop_succ_cons, List.drop_zero]
        go_wp2
        clear c4 f4
        refine HKK.out _ _ ?_
        have HB4 : Hid (Bk B (wkc h lo hi (stN h lo hi t0 (k + 1))) (w2.setCell ⟨B, 4, none⟩ (.int .i64 (tk h on t)))) := by show Bk _ _ _; rw [HNX.out]; exact KB2.out.put 4 _
        have HP4 : Hid (Bk P [ptr B] (w2.setCell ⟨B, 4, none⟩ (.int .i64 (tk h on t)))) := KP2.out.other (fun e => HPM.out (.inr e)) 4 _
        have HK4 : Hid (Kpt (fun k => k = B) wr (w2.setCell ⟨B, 4, none⟩ (.int .i64 (tk h on t)))) := HK2.out.trans (Kpt.setCell _ _ _ _ rfl)
        obtain ⟨w4, hw4⟩ : ∃ x, x = w2.setCell ⟨B, 4, none⟩ (.int .i64 (tk h on t)) := ⟨_, rfl⟩
        try rw [← hw4]
        rw [← hw4] at HB4 HP4 HK4
        clear hw4 KB2 KP2 HK2
        have HKP4 : Hid (Kpt (fun x => (M x ∨ x = l) ∨ x = B) W w4) := HKP.out.trans (HK4.out.mono fun k e => .inr e)
        obtain ⟨fn, tmps, assign, body, hy, hR⟩ := HY.out k HK.out w4 (HJ.out _ _ _ HJ1.out HK4.out) HB4.out HKP4.out.size
        rw [HE.out, HNX.out] at hy
        simp only at hy
        have HR : Hid (RoundIn Fence.wide (N0 - 1) Try.prog l fn tmps assign body w4 fun e W' => (e = .returned (.bool true) ∧ J (k + 1) W' ∧ Kpt (fun k => M k ∨ k = l) w4 W') ∨ (e = .returned (.bool false) ∧ Jx (k + 1) W' ∧ Kpt (fun k => M k ∨ k = l) w4 W')) := hR
        clear hR
        have cP := HP4.out.c 0 rfl
        have cB := HB4.out.c 4 (v := .int .i64 (tk h on t)) (by rw [HNX.out]; rfl)
        gi_wp2
        refine ⟨(fun h => by cases h), HR.out.mono ?_⟩
        clear cP cB hy
        rintro e w5 (⟨rfl, hJ5, hk5⟩ | ⟨rfl, hJ5, hk5⟩)
        · have HJ5 : Hid (J (k + 1) w5) := hJ5
          have HK5 : Hid (Kpt (fun x => (M x ∨ x = l) ∨ x = B) W w5) := HKP4.out.trans (hk5.mono fun k e => .inl e)
          have HB5 : Hid (Bk B (wkc h lo hi (stN h lo hi t0 (k + 1))) w5) := bk_kpt HB4.out hk5 HBM.out
          clear hJ5 hk5
          gi_wp2
          go_roundw
          case rel => exact ⟨k + 1, by omega, by go_num, HJ5.out, HB5.out, HK5.out⟩
          case measure => simp [intOf]; omega
        · have HJ5 : Hid (Jx (k + 1) w5) := hJ5
          have HB5 : Hid (Bk B (wkc h lo hi (stN h lo hi t0 (k + 1))) w5) := bk_kpt HB4.out hk5 HBM.out
          clear hJ5 hk5
          gi_wp2
          refine bodyPost_ret (v := .tuple #[]) (results_none (by kernel_rfl) _ _ _) rfl ?_
          exact ⟨⟨_, rfl⟩, .inr ⟨k, HK.out, HJ5.out, HB5.out⟩⟩
    · gi_wp2
      go_end0
      have q1 := HJ1.out
      have q2 := HB1.out
      refine ⟨⟨_, rfl⟩, .inl ?_⟩
      rw [HL.out, show n = k by omega]
      exact ⟨q1, q2⟩
end Go.Proofs.Ytjpjkkjklghpgaa
