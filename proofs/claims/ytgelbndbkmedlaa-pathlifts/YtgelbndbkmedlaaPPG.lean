/- PathLifts' law walked. -/
import Derived.Test.YtgelbndbkmedlaaGj
namespace Go.Proofs.Ytgelbndbkmedlaa.S
open Go.RowKit

set_option linter.unusedVariables false in
def li8V (g : Nat) (t : Bx) (na m1 k1 x1 : Int) (d : Nat) (v : Value) (_ : World) : Prop :=
  match d with
  | 43 => v = .pointer (some ⟨g, 0, none⟩)
  | 44 => v = .pointer (some ⟨g, 0, none⟩)
  | 45 => v = .int .i64 t.lx
  | 46 => v = .int .i64 na
  | 47 => v = .pointer (some ⟨g, 0, none⟩)
  | 48 => v = .pointer (some ⟨g, 0, none⟩)
  | 49 => v = .int .i64 t.lx
  | 50 => v = .int .i64 m1
  | 51 => v = .int .i64 k1
  | 52 => v = .int .i64 x1
  | 53 => v = .pointer (some ⟨g, 0, none⟩)
  | 54 => v = .pointer (some ⟨g, 0, none⟩)
  | _ => True
set_option linter.unusedVariables false in
theorem li8V_mono (g : Nat) (t : Bx) (na m1 k1 x1 : Int) (d : Nat) (v : Value) (w w' : World) (h : li8V g t na m1 k1 x1 d v w) (_ : Below w.heap.size w w') : li8V g t na m1 k1 x1 d v w' := h
set_option linter.unusedVariables false in
def li9V (g : Nat) (t : Bx) (nb m2 k2 x2 : Int) (d : Nat) (v : Value) (_ : World) : Prop :=
  match d with
  | 55 => v = .pointer (some ⟨g, 3, none⟩)
  | 56 => v = .pointer (some ⟨g, 5, none⟩)
  | 57 => v = .int .i64 t.hz
  | 58 => v = .int .i64 nb
  | 59 => v = .pointer (some ⟨g, 3, none⟩)
  | 60 => v = .pointer (some ⟨g, 5, none⟩)
  | 61 => v = .int .i64 t.hz
  | 62 => v = .int .i64 m2
  | 63 => v = .int .i64 k2
  | 64 => v = .int .i64 x2
  | 65 => v = .pointer (some ⟨g, 3, none⟩)
  | 66 => v = .pointer (some ⟨g, 5, none⟩)
  | _ => True
set_option linter.unusedVariables false in
theorem li9V_mono (g : Nat) (t : Bx) (nb m2 k2 x2 : Int) (d : Nat) (v : Value) (w w' : World) (h : li9V g t nb m2 k2 x2 d v w) (_ : Below w.heap.size w w') : li9V g t nb m2 k2 x2 d v w' := h
def pkR (n m : Int) : Int := if n < 0 then (-(n + 1)).tmod m else n.tmod m
theorem pkR_in (n m : Int) (hm : 0 < m) : 0 ≤ pkR n m ∧ pkR n m < m := by
  unfold pkR
  split
  · exact ⟨Int.tmod_nonneg _ (by omega), Int.tmod_lt_of_pos _ hm⟩
  · exact ⟨Int.tmod_nonneg _ (by omega), Int.tmod_lt_of_pos _ hm⟩
theorem picked_any (n m : Int) (w : World) (h0 : -9223372036854775808 ≤ n) (h1 : n ≤ 9223372036854775807) (hm : 0 < m) (hm2 : m ≤ 100000000) :
    Calls Try.prog 20 #[.int .i64 n, .int .i64 m] w fun e w' => e = .returned (.int .i64 (pkR n m)) ∧ w' = w := by
  have hne : m ≠ 0 := by omega
  by_cases hn : n < 0
  · have hw : IntKind.i64.wrap (n + 1) = n + 1 := wrap_is (by omega) (by omega)
    have HK : Hid (0 ≤ (-(n + 1)).tmod m ∧ (-(n + 1)).tmod m < m) := ⟨Int.tmod_nonneg _ (by omega), Int.tmod_lt_of_pos _ hm⟩
    have HP : Hid (pkR n m = (-(n + 1)).tmod m) := if_pos hn
    go_enter Try.func20, Try.ntmps20
    go_wp2
    go_ret
    refine ⟨ret_int ?_, rfl⟩
    rw [HP.out, Int.neg_tmod]
  · have HK : Hid (0 ≤ n.tmod m ∧ n.tmod m < m) := ⟨Int.tmod_nonneg _ (by omega), Int.tmod_lt_of_pos _ hm⟩
    have HP : Hid (pkR n m = n.tmod m) := if_neg hn
    go_enter Try.func20, Try.ntmps20
    go_wp2
    go_ret
    refine ⟨ret_int ?_, rfl⟩
    rw [HP.out, Int.tmod_eq_emod_of_nonneg (by omega)]
theorem check_zero {d : List Sit} {t : Bx} {way : List Pt} (h : (checkR d t way).2 ≠ 0) : (checkR d t way).1 = 0 := by
  unfold checkR at h ⊢
  split
  · rename_i h0
    rw [if_pos h0] at h
    split
    · rfl
    · rename_i h1
      rw [if_neg h1] at h
      split
      · rfl
      · rename_i h2
        rw [if_neg h2] at h
        split
        · rfl
        · rename_i h3
          rw [if_neg h3] at h
          exact absurd rfl h
  · rfl
theorem check_tool {d : List Sit} {t : Bx} {way : List Pt} (h : (checkR d t way).2 = 0) : nearB t = true ∧ toolB t = true := by
  unfold checkR at h
  by_cases h0 : refuseR d t way = 0
  · exact (refuse_zero h0).2.2
  · rw [if_neg h0] at h
    exact absurd h h0
set_option maxHeartbeats 6400000 in
set_option maxRecDepth 100000 in
theorem lifts_any (ao ao' : Option Addr) (cap cap' : Nat) (d : List Sit) (t : Bx) (way : List Pt) (na nb : Int) (w : World) (hD : Dk w ao cap d) (hL : Pns w ao' way) (hl : way.length ≤ 9223372036854775807) (ga : -9223372036854775808 ≤ na ∧ na ≤ 9223372036854775807) (gb : -9223372036854775808 ≤ nb ∧ nb ≤ 9223372036854775807) :
    Calls Try.prog 7 #[.slice ao d.length cap, bv t, .slice ao' way.length cap', .int .i64 na, .int .i64 nb] w fun e w' => e = .returned (.bool true) ∧ Below w.heap.size w w' := by
  have HD : Hid (Dk w ao cap d) := hD
  have HL : Hid (Pns w ao' way) := hL
  clear hD hL
  have KT0 : Hid (Bk w.heap.size (bcl t) (w.alloc (bo t))) := Bk.new w (bcl t) 26 _ rfl
  have HB0 : Hid (Below w.heap.size w (w.alloc (bo t))) := (Below.refl _ _).alloc (Nat.le_refl _) _
  have HCK : Hid (∀ (s : Bx) W, Dk W ao cap d → Pns W ao' way → Calls Try.prog 12 #[.slice ao d.length cap, bv s, .slice ao' way.length cap'] W fun e w' => e = .returned (.tuple #[.int .i64 (checkR d s way).1, .int .i64 (checkR d s way).2]) ∧ Below W.heap.size W w') := fun s W h1 h2 => pcheck_any ao ao' cap cap' d s way W h1 h2 hl
  have HCZ : Hid ((checkR d t way).2 ≠ 0 → (checkR d t way).1 = 0) := check_zero
  have HCT : Hid ((checkR d t way).2 = 0 → nearB t = true ∧ toolB t = true) := check_tool
  have HCL : Hid (∀ s, (checkR d t way).2 = 0 → Within s t → toolB s = true → ∃ n, checkR d s way = (n, 0) ∧ ((checkR d t way).1 ≠ -1 ∨ n = -1) ∧ (n = -1 ∨ 0 ≤ (checkR d t way).1 ∧ (checkR d t way).1 ≤ n)) := fun s h1 h2 h3 => check_less (by rw [← h1]) h2 h3
  go_enter Try.func7, Try.ntmps7
  go_wp2_with fail
  refine Calls.mono (two_any (w.alloc (bo t))) ?_
  rintro e w1 ⟨ao2, cap2, rfl, hb1⟩
  have HB1 : Hid (Below w.heap.size w w1) := HB0.out.trans (hb1.mono HB0.out.size)
  have KT1 : Hid (Bk w.heap.size (bcl t) w1) := KT0.out.later hb1
  clear hb1 KT0
  have t0 := (KT1.out).c 0 rfl
  have t1 := (KT1.out).c 1 rfl
  have t2 := (KT1.out).c 2 rfl
  have t3 := (KT1.out).c 3 rfl
  have t4 := (KT1.out).c 4 rfl
  have t5 := (KT1.out).c 5 rfl
  go_wp2_with fail
  refine Calls.mono (HCK.out t _ (HD.out.next HB1.out) (HL.out.next HB1.out)) ?_
  rintro e w3 ⟨rfl, hb3⟩
  have HB3 : Hid (Below w.heap.size w w3) := HB1.out.trans (hb3.mono HB1.out.size)
  have KT3 : Hid (Bk w.heap.size (bcl t) w3) := KT1.out.later hb3
  clear hb3 KT1 t0 t1 t2 t3 t4 t5
  generalize checkR d t way = ck at *
  obtain ⟨k, e0⟩ := ck
  simp only at HCZ HCT HCL
  by_cases he : e0 = 0
  · subst he
    obtain ⟨hnt, htt⟩ := HCT.out rfl
    have h1 := nearB_iff.1 hnt
    have h2 := toolB_iff.1 htt
    obtain ⟨m1, hm1⟩ : ∃ m, m = 1 - t.lx := ⟨_, rfl⟩
    obtain ⟨m2, hm2⟩ : ∃ m, m = 1 + t.hz := ⟨_, rfl⟩
    have hk1 := pkR_in na m1 (by omega)
    have hk2 := pkR_in nb m2 (by omega)
    have HC1 : Hid (∀ W, Calls Try.prog 20 #[.int .i64 na, .int .i64 m1] W fun e w' => e = .returned (.int .i64 (pkR na m1)) ∧ w' = W) := fun W => picked_any na m1 W ga.1 ga.2 (by omega) (by omega)
    have HC2 : Hid (∀ W, Calls Try.prog 20 #[.int .i64 nb, .int .i64 m2] W fun e w' => e = .returned (.int .i64 (pkR nb m2)) ∧ w' = W) := fun W => picked_any nb m2 W gb.1 gb.2 (by omega) (by omega)
    generalize pkR na m1 = k1 at *
    generalize pkR nb m2 = k2 at *
    obtain ⟨x1, hx1⟩ : ∃ x, x = t.lx + k1 := ⟨_, rfl⟩
    obtain ⟨x2, hx2⟩ : ∃ x, x = t.hz - k2 := ⟨_, rfl⟩
    have HV1 : Hid (Value.int .i64 (IntKind.i64.wrap (1 - t.lx)) = .int .i64 m1) := by show _ = _; rw [wrap_is (by omega) (by omega), hm1]
    have HV2 : Hid (Value.int .i64 (IntKind.i64.wrap (t.lx + k1)) = .int .i64 x1) := by show _ = _; rw [wrap_is (by omega) (by omega), hx1]
    have HV3 : Hid (Value.int .i64 (IntKind.i64.wrap (1 + t.hz)) = .int .i64 m2) := by show _ = _; rw [wrap_is (by omega) (by omega), hm2]
    have HV4 : Hid (Value.int .i64 (IntKind.i64.wrap (t.hz - k2)) = .int .i64 x2) := by show _ = _; rw [wrap_is (by omega) (by omega), hx2]
    obtain ⟨s, hs⟩ : ∃ s : Bx, s = ⟨x1, t.ly, t.lz, t.hx, t.hy, x2⟩ := ⟨_, rfl⟩
    have hws : Within s t := by subst hs; exact ⟨by simp only; omega, Int.le_refl _, Int.le_refl _, Int.le_refl _, Int.le_refl _, by simp only; omega⟩
    have hts : toolB s = true := by subst hs; rw [toolB_iff]; simp only; omega
    obtain ⟨n, hn0, hn1, hn2⟩ := HCL.out s rfl hws hts
    have HN0 : Hid (checkR d s way = (n, 0)) := hn0
    have HN1 : Hid (k ≠ -1 ∨ n = -1) := hn1
    have HN2 : Hid (n = -1 ∨ 0 ≤ k ∧ k ≤ n) := hn2
    have HS : Hid (s = ⟨x1, t.ly, t.lz, t.hx, t.hy, x2⟩) := hs
    have KL : Hid (Bk w3.heap.size (bcl t) (w3.alloc (bo t))) := Bk.new w3 (bcl t) 26 _ rfl
    have HB4 : Hid (Below w.heap.size w (w3.alloc (bo t))) := HB3.out.alloc HB3.out.size _
    have HW3 : Hid (w.heap.size ≤ w3.heap.size) := HB3.out.size
    have t0 := (KT3.out).c 0 rfl
    have t1 := (KT3.out).c 1 rfl
    have t2 := (KT3.out).c 2 rfl
    have t3 := (KT3.out).c 3 rfl
    have t4 := (KT3.out).c 4 rfl
    have t5 := (KT3.out).c 5 rfl
    have tl : w.heap.size < w3.heap.size := KT3.out.1
    clear hnt htt h1 h2 hk1 hk2 hm1 hm2 hx1 hx2 hws hts hn0 hn1 hn2 hs HCT HCZ HCL
    go_wp2_with fail
    refine region_seq 12 [false, false, false, false, false, false, false, false, false, false, false, false, false, false, false, false, false, false, false, false, false, false, false, false, false, false, false, false, false, false, false, false, false, false, false, false, false, false, false, false, false, false, false, true, true, true, true, true, true, true, true, true, true, true, true, false, false, false, false, false, false, false, false, false, false, false, false, false, false, false, false, false, false, false, false, false, false, false, false, false, false, false, false, false, false, false, false, false, false, false, false, false, false, false, false, false, false]
      [(43, [], none), (44, [43], none), (45, [44], none), (46, [], none), (47, [], none), (48, [47], none), (49, [48], none), (50, [49], none), (51, [46, 50], none), (52, [45, 51], none), (53, [], none), (54, [53], none)]
      (li8V w3.heap.size t na m1 k1 x1) (by kernel_rfl) (by kernel_rfl) (by kernel_rfl) (by kernel_rfl) (by kernel_rfl) (by decide) (li8V_mono w3.heap.size t na m1 k1 x1) ?_ ?_
    · refine ⟨?_, ?_, ?_, ?_, ?_, ?_, ?_, ?_, ?_, ?_, ?_, ?_, trivial⟩
      · intro f w1 hb _ K hK
        simp only [over, overL, Nat.reduceAdd]
        go_simp
        exact hK _ _ ⟨_, rfl, by simp only [over, overL, Nat.reduceAdd]; rfl, Below.refl _ _⟩
      · intro f w1 hb ⟨h43, _⟩ K hK
        replace h43 : f 43 = _ := h43
        simp only [over, overL, Nat.reduceAdd, h43]
        go_simp
        exact hK _ _ ⟨_, rfl, by simp only [over, overL, Nat.reduceAdd, h43]; rfl, Below.refl _ _⟩
      · intro f w1 hb ⟨h44, _⟩ K hK
        replace h44 : f 44 = _ := h44
        have q0 := (KL.out.later hb).c 0 rfl
        simp only [over, overL, Nat.reduceAdd, h44]
        go_simp
        exact hK _ _ ⟨_, rfl, by simp only [over, overL, Nat.reduceAdd, h44]; rfl, Below.refl _ _⟩
      · intro f w1 hb _ K hK
        simp only [over, overL, Nat.reduceAdd]
        go_simp
        exact hK _ _ ⟨_, rfl, by simp only [over, overL, Nat.reduceAdd]; rfl, Below.refl _ _⟩
      · intro f w1 hb _ K hK
        simp only [over, overL, Nat.reduceAdd]
        go_simp
        exact hK _ _ ⟨_, rfl, by simp only [over, overL, Nat.reduceAdd]; rfl, Below.refl _ _⟩
      · intro f w1 hb ⟨h47, _⟩ K hK
        replace h47 : f 47 = _ := h47
        simp only [over, overL, Nat.reduceAdd, h47]
        go_simp
        exact hK _ _ ⟨_, rfl, by simp only [over, overL, Nat.reduceAdd, h47]; rfl, Below.refl _ _⟩
      · intro f w1 hb ⟨h48, _⟩ K hK
        replace h48 : f 48 = _ := h48
        have q0 := (KL.out.later hb).c 0 rfl
        simp only [over, overL, Nat.reduceAdd, h48]
        go_simp
        exact hK _ _ ⟨_, rfl, by simp only [over, overL, Nat.reduceAdd, h48]; rfl, Below.refl _ _⟩
      · intro f w1 hb ⟨h49, _⟩ K hK
        replace h49 : f 49 = _ := h49
        simp only [over, overL, Nat.reduceAdd, h49]
        go_simp
        exact hK _ _ ⟨_, HV1.out, by simp only [over, overL, Nat.reduceAdd, h49]; rfl, Below.refl _ _⟩
      · intro f w1 hb ⟨h46, h50, _⟩ K hK
        replace h46 : f 46 = _ := h46
        replace h50 : f 50 = _ := h50
        simp only [over, overL, Nat.reduceAdd, h46, h50]
        go_simp
        refine Calls.mono (HC1.out w1) ?_
        rintro e w2 ⟨rfl, hw2⟩
        exact hK _ _ ⟨_, rfl, by simp only [over, overL, Nat.reduceAdd, h46, h50]; rfl, hw2 ▸ Below.refl _ _⟩
      · intro f w1 hb ⟨h45, h51, _⟩ K hK
        replace h45 : f 45 = _ := h45
        replace h51 : f 51 = _ := h51
        simp only [over, overL, Nat.reduceAdd, h45, h51]
        go_simp
        exact hK _ _ ⟨_, HV2.out, by simp only [over, overL, Nat.reduceAdd, h45, h51]; rfl, Below.refl _ _⟩
      · intro f w1 hb _ K hK
        simp only [over, overL, Nat.reduceAdd]
        go_simp
        exact hK _ _ ⟨_, rfl, by simp only [over, overL, Nat.reduceAdd]; rfl, Below.refl _ _⟩
      · intro f w1 hb ⟨h53, _⟩ K hK
        replace h53 : f 53 = _ := h53
        simp only [over, overL, Nat.reduceAdd, h53]
        go_simp
        exact hK _ _ ⟨_, rfl, by simp only [over, overL, Nat.reduceAdd, h53]; rfl, Below.refl _ _⟩
    intro f w5 hb hv
    have h52 : f 52 = _ := hv.2.2.2.2.2.2.2.2.2.1
    have h54 : f 54 = _ := hv.2.2.2.2.2.2.2.2.2.2.2.1
    have KL5 : Hid (Bk w3.heap.size (bcl t) w5) := KL.out.later hb
    have HB5 : Hid (Below w.heap.size w w5) := HB4.out.trans (hb.mono HB4.out.size)
    have KL2 : Hid (Bk w3.heap.size [.int .i64 x1, .int .i64 t.ly, .int .i64 t.lz, .int .i64 t.hx, .int .i64 t.hy, .int .i64 t.hz] (w5.setCell ⟨w3.heap.size, 0, none⟩ (.int .i64 x1))) := KL5.out.put 0 _
    have HB6 : Hid (Below w.heap.size w (w5.setCell ⟨w3.heap.size, 0, none⟩ (.int .i64 x1))) := HB5.out.setCell HW3.out _
    clear hv hb KL HC1 HV1 HV2 t0 t1 t2 t3 t4 t5
    have l0 := KL5.out.c 0 rfl
    have lf0 := KL5.out.f 0 rfl
    simp only [over_eq, overL, h52, h54, Nat.reduceAdd, List.drop_succ_cons, List.drop_zero]
    clear h52 h54
    rename_i KK hkk
    have HKK := (show Hid _ from hkk)
    clear hkk
    go_wp2_with fail
    refine HKK.out _ _ ?_
    clear HKK l0 lf0
    generalize w5.setCell ⟨w3.heap.size, 0, none⟩ (.int .i64 x1) = w6 at *
    go_wp2_with fail
    refine region_seq 12 [false, false, false, false, false, false, false, false, false, false, false, false, false, false, false, false, false, false, false, false, false, false, false, false, false, false, false, false, false, false, false, false, false, false, false, false, false, false, false, false, false, false, false, false, false, false, false, false, false, false, false, false, false, false, false, true, true, true, true, true, true, true, true, true, true, true, true, false, false, false, false, false, false, false, false, false, false, false, false, false, false, false, false, false, false, false, false, false, false, false, false, false, false, false, false, false, false]
      [(55, [], none), (56, [55], none), (57, [56], none), (58, [], none), (59, [], none), (60, [59], none), (61, [60], none), (62, [61], none), (63, [58, 62], none), (64, [57, 63], none), (65, [], none), (66, [65], none)]
      (li9V w3.heap.size t nb m2 k2 x2) (by kernel_rfl) (by kernel_rfl) (by kernel_rfl) (by kernel_rfl) (by kernel_rfl) (by decide) (li9V_mono w3.heap.size t nb m2 k2 x2) ?_ ?_
    · refine ⟨?_, ?_, ?_, ?_, ?_, ?_, ?_, ?_, ?_, ?_, ?_, ?_, trivial⟩
      · intro f w1 hb _ K hK
        simp only [over, overL, Nat.reduceAdd]
        go_simp
        exact hK _ _ ⟨_, rfl, by simp only [over, overL, Nat.reduceAdd]; rfl, Below.refl _ _⟩
      · intro f w1 hb ⟨h55, _⟩ K hK
        replace h55 : f 55 = _ := h55
        simp only [over, overL, Nat.reduceAdd, h55]
        go_simp
        exact hK _ _ ⟨_, rfl, by simp only [over, overL, Nat.reduceAdd, h55]; rfl, Below.refl _ _⟩
      · intro f w1 hb ⟨h56, _⟩ K hK
        replace h56 : f 56 = _ := h56
        have q5 := (KL2.out.later hb).c 5 rfl
        simp only [over, overL, Nat.reduceAdd, h56]
        go_simp
        exact hK _ _ ⟨_, rfl, by simp only [over, overL, Nat.reduceAdd, h56]; rfl, Below.refl _ _⟩
      · intro f w1 hb _ K hK
        simp only [over, overL, Nat.reduceAdd]
        go_simp
        exact hK _ _ ⟨_, rfl, by simp only [over, overL, Nat.reduceAdd]; rfl, Below.refl _ _⟩
      · intro f w1 hb _ K hK
        simp only [over, overL, Nat.reduceAdd]
        go_simp
        exact hK _ _ ⟨_, rfl, by simp only [over, overL, Nat.reduceAdd]; rfl, Below.refl _ _⟩
      · intro f w1 hb ⟨h59, _⟩ K hK
        replace h59 : f 59 = _ := h59
        simp only [over, overL, Nat.reduceAdd, h59]
        go_simp
        exact hK _ _ ⟨_, rfl, by simp only [over, overL, Nat.reduceAdd, h59]; rfl, Below.refl _ _⟩
      · intro f w1 hb ⟨h60, _⟩ K hK
        replace h60 : f 60 = _ := h60
        have q5 := (KL2.out.later hb).c 5 rfl
        simp only [over, overL, Nat.reduceAdd, h60]
        go_simp
        exact hK _ _ ⟨_, rfl, by simp only [over, overL, Nat.reduceAdd, h60]; rfl, Below.refl _ _⟩
      · intro f w1 hb ⟨h61, _⟩ K hK
        replace h61 : f 61 = _ := h61
        simp only [over, overL, Nat.reduceAdd, h61]
        go_simp
        exact hK _ _ ⟨_, HV3.out, by simp only [over, overL, Nat.reduceAdd, h61]; rfl, Below.refl _ _⟩
      · intro f w1 hb ⟨h58, h62, _⟩ K hK
        replace h58 : f 58 = _ := h58
        replace h62 : f 62 = _ := h62
        simp only [over, overL, Nat.reduceAdd, h58, h62]
        go_simp
        refine Calls.mono (HC2.out w1) ?_
        rintro e w2 ⟨rfl, hw2⟩
        exact hK _ _ ⟨_, rfl, by simp only [over, overL, Nat.reduceAdd, h58, h62]; rfl, hw2 ▸ Below.refl _ _⟩
      · intro f w1 hb ⟨h57, h63, _⟩ K hK
        replace h57 : f 57 = _ := h57
        replace h63 : f 63 = _ := h63
        simp only [over, overL, Nat.reduceAdd, h57, h63]
        go_simp
        exact hK _ _ ⟨_, HV4.out, by simp only [over, overL, Nat.reduceAdd, h57, h63]; rfl, Below.refl _ _⟩
      · intro f w1 hb _ K hK
        simp only [over, overL, Nat.reduceAdd]
        go_simp
        exact hK _ _ ⟨_, rfl, by simp only [over, overL, Nat.reduceAdd]; rfl, Below.refl _ _⟩
      · intro f w1 hb ⟨h65, _⟩ K hK
        replace h65 : f 65 = _ := h65
        simp only [over, overL, Nat.reduceAdd, h65]
        go_simp
        exact hK _ _ ⟨_, rfl, by simp only [over, overL, Nat.reduceAdd, h65]; rfl, Below.refl _ _⟩
    intro f w7 hb hv
    have h64 : f 64 = _ := hv.2.2.2.2.2.2.2.2.2.1
    have h66 : f 66 = _ := hv.2.2.2.2.2.2.2.2.2.2.2.1
    have KL7 : Hid (Bk w3.heap.size [.int .i64 x1, .int .i64 t.ly, .int .i64 t.lz, .int .i64 t.hx, .int .i64 t.hy, .int .i64 t.hz] w7) := KL2.out.later hb
    have HB7 : Hid (Below w.heap.size w w7) := HB6.out.trans (hb.mono HB6.out.size)
    have KL8 : Hid (Bk w3.heap.size (bcl s) (w7.setCell ⟨w3.heap.size, 5, none⟩ (.int .i64 x2))) := by show Bk _ _ _; rw [HS.out]; exact KL7.out.put 5 _
    have HB8 : Hid (Below w.heap.size w (w7.setCell ⟨w3.heap.size, 5, none⟩ (.int .i64 x2))) := HB7.out.setCell HW3.out _
    have l5 := KL7.out.c 5 rfl
    have lf5 := KL7.out.f 5 rfl
    clear hv hb KL2 HC2 HV3 HV4
    simp only [over_eq, overL, h64, h66, Nat.reduceAdd, List.drop_succ_cons, List.drop_zero]
    clear h64 h66
    rename_i KK hkk
    have HKK := (show Hid _ from hkk)
    clear hkk
    go_wp2_with fail
    refine HKK.out _ _ ?_
    clear HKK l5 lf5
    generalize w7.setCell ⟨w3.heap.size, 5, none⟩ (.int .i64 x2) = w8 at *
    have t0 := (KL8.out).c 0 rfl
    have t1 := (KL8.out).c 1 rfl
    have t2 := (KL8.out).c 2 rfl
    have t3 := (KL8.out).c 3 rfl
    have t4 := (KL8.out).c 4 rfl
    have t5 := (KL8.out).c 5 rfl
    have HCS : Hid (∀ W, Dk W ao cap d → Pns W ao' way → Calls Try.prog 12 #[.slice ao d.length cap, bv s, .slice ao' way.length cap'] W fun e w' => e = .returned (.tuple #[.int .i64 n, .int .i64 0]) ∧ Below W.heap.size W w') := fun W h1 h2 => by
      have := HCK.out s W h1 h2
      rw [HN0.out] at this
      exact this
    go_wp2_with fail
    refine Calls.mono (HCS.out _ (HD.out.next HB8.out) (HL.out.next HB8.out)) ?_
    rintro e w9 ⟨rfl, hb9⟩
    have HB9 : Hid (Below w.heap.size w w9) := HB8.out.trans (hb9.mono HB8.out.size)
    clear hb9 HCS HCK t0 t1 t2 t3 t4 t5
    by_cases hn : n = -1
    · subst hn
      by_cases hk : k = -1
      · subst hk
        go_wp2
        go_ret
        exact ⟨rfl, HB9.out⟩
      · have b1 : (k != -1) = true := by simp [hk]
        clear hk
        go_wp2
        go_ret
        exact ⟨rfl, HB9.out⟩
    · have hk : k ≠ -1 := by have := HN1.out; omega
      have h2 : 0 ≤ k ∧ k ≤ n := by have := HN2.out; omega
      obtain ⟨hk0, hkn⟩ := h2
      have b1 : (k != -1) = true := by simp [hk]
      have b2 : (n == -1) = false := by simp [hn]
      clear hk hn
      go_wp2
      go_ret
      exact ⟨ret_bool (by first | rfl | (simp; omega)), HB9.out⟩
  · have hne : (e0 != 0) = true := by simp [he]
    have hk := HCZ.out he
    subst hk
    clear he
    go_wp2
    go_ret
    exact ⟨rfl, HB3.out⟩
end Go.Proofs.Ytgelbndbkmedlaa.S
