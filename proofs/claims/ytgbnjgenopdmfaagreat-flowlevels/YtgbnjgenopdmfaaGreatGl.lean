import Derived.Test.YtgbnjgenopdmfaaGreatGk

/- mayTake, mayFill, may, May walked. -/
namespace Go.Proofs.YtgbnjgenopdmfaaGreat
open Go.RowKit
abbrev sml (m : Sm) : List Value := [.slice m.aoW m.wl.length m.capW, .bool m.tip, .slice m.aoH m.held.length m.capH, .slice m.aoT m.touched.length m.capT, .int .i64 m.used, .int .i64 m.heat, .int .i64 m.clock]
abbrev lal (ao : Option Addr) (cap : Nat) (l : List Sit) : List Value := [.slice ao l.length cap, .int .i64 ((tipsL l).length : Int), .int .i64 (tipM l)]
theorem len0_true {α : Type} {l : List α} (h : l = []) : ((l.length : Int) == 0) = true := by simp [h]
theorem len0_false {α : Type} {l : List α} (h : l ≠ []) : ((l.length : Int) == 0) = false := by
  have : l.length ≠ 0 := fun e => h (List.eq_nil_of_length_eq_zero e)
  simp; omega
set_option maxHeartbeats 3200000 in
theorem mayTake_any (ao : Option Addr) (cap : Nat) (l : List Sit) (m : Sm) (w : World) (hS : SmIn w m) (hlt : m.touched.length ≤ 9223372036854775807) :
    Calls Tryz.prog 73 #[layv ao cap l, smv m] w fun e w' => e = .returned (.bool (mayTake l m.st)) ∧ Below w.heap.size w w' := by
  have HS : Hid (SmIn w m) := hS
  clear hS
  obtain ⟨w0, hw0⟩ : ∃ w0, w0 = (w.alloc (layo ao cap l)).alloc (smo m) := ⟨_, rfl⟩
  have al : Below w.heap.size w w0 := by rw [hw0]; exact ((Below.refl _ _).alloc (Nat.le_refl _) _).alloc (by simp) _
  have HB : Hid (Below w.heap.size w w0) := al
  have KL : Hid (Bk w.heap.size (lal ao cap l) w0) := by show Bk _ _ _; rw [hw0]; exact (Bk.new w (lal ao cap l) 78 w.heap.size rfl).later ((Below.refl _ _).alloc (Nat.le_refl _) _)
  have KS : Hid (Bk (w.heap.size + 1) (sml m) w0) := by show Bk _ _ _; rw [hw0]; exact Bk.new (w.alloc _) (sml m) 40 (w.heap.size + 1) (by simp)
  have HW0 : Hid (w0 = (w.alloc (layo ao cap l)).alloc (smo m)) := hw0
  have HQ : Hid (mayTake l m.st = if m.tip = true then inR 1 (tipsL l).length m.used && (mayHold m.held (tipM l) && mayTouch m.touched m.held) else inR 0 (tipsL l).length m.used && (decide (m.held = []) && decide (m.touched = []))) := rfl
  clear al hw0
  cases ht : m.tip with
  | false =>
    rw [ht] at HQ
    go_enter Tryz.func73, Tryz.ntmps73
    go_wp2_with fail
    refine (mwithin_any 0 m.used (tipsL l).length _).mono ?_
    rintro e w1 ⟨rfl, rfl⟩
    rw [← HW0.out]
    have s0 := (KS.out).c 0 rfl
    have s1 := (KS.out).c 1 rfl
    have s2 := (KS.out).c 2 rfl
    have s3 := (KS.out).c 3 rfl
    have s4 := (KS.out).c 4 rfl
    have s5 := (KS.out).c 5 rfl
    have s6 := (KS.out).c 6 rfl
    cases h1 : inR 0 (tipsL l).length m.used with
    | false =>
      rw [h1] at HQ
      go_wp2
      go_ret
      exact ⟨ret_bool HQ.out.symm, HB.out⟩
    | true =>
      rw [h1] at HQ
      by_cases hh : m.held = []
      · have hh2 := len0_true hh
        rw [decide_eq_true hh] at HQ
        clear hh
        by_cases htt : m.touched = []
        · have htt2 := len0_true htt
          rw [decide_eq_true htt] at HQ
          clear htt
          go_wp2
          go_ret
          exact ⟨ret_bool HQ.out.symm, HB.out⟩
        · have htt2 := len0_false htt
          rw [decide_eq_false htt] at HQ
          clear htt
          go_wp2
          go_ret
          exact ⟨ret_bool HQ.out.symm, HB.out⟩
      · have hh2 := len0_false hh
        rw [decide_eq_false hh] at HQ
        clear hh
        go_wp2
        go_ret
        exact ⟨ret_bool HQ.out.symm, HB.out⟩
  | true =>
    rw [ht] at HQ
    go_enter Tryz.func73, Tryz.ntmps73
    go_wp2_with fail
    refine (mwithin_any 1 m.used (tipsL l).length _).mono ?_
    rintro e w1 ⟨rfl, rfl⟩
    rw [← HW0.out]
    have s0 := (KS.out).c 0 rfl
    have s1 := (KS.out).c 1 rfl
    have s2 := (KS.out).c 2 rfl
    have s3 := (KS.out).c 3 rfl
    have s4 := (KS.out).c 4 rfl
    have s5 := (KS.out).c 5 rfl
    have s6 := (KS.out).c 6 rfl
    have y0 := (KL.out).c 0 rfl
    have y1 := (KL.out).c 1 rfl
    have y2 := (KL.out).c 2 rfl
    cases h1 : inR 1 (tipsL l).length m.used with
    | false =>
      rw [h1] at HQ
      go_wp2
      go_ret
      exact ⟨ret_bool HQ.out.symm, HB.out⟩
    | true =>
      rw [h1] at HQ
      go_wp2_with fail
      refine (mayHold_any m.aoH m.capH m.held (tipM l) w0 (HS.out.next HB.out).held).mono ?_
      rintro e w2 ⟨rfl, hb2⟩
      have HB2 : Hid (Below w.heap.size w w2) := HB.out.trans (hb2.mono HB.out.size)
      have KS2 : Hid (Bk (w.heap.size + 1) (sml m) w2) := KS.out.later hb2
      clear hb2 s0 s1 s2 s3 s4 s5 s6 y0 y1 y2
      have s0 := (KS2.out).c 0 rfl
      have s1 := (KS2.out).c 1 rfl
      have s2 := (KS2.out).c 2 rfl
      have s3 := (KS2.out).c 3 rfl
      have s4 := (KS2.out).c 4 rfl
      have s5 := (KS2.out).c 5 rfl
      have s6 := (KS2.out).c 6 rfl
      cases h2 : mayHold m.held (tipM l) with
      | false =>
        rw [h2] at HQ
        go_wp2
        go_ret
        exact ⟨ret_bool HQ.out.symm, HB2.out⟩
      | true =>
        rw [h2] at HQ
        go_wp2_with fail
        refine (mayTouch_any m.aoT m.aoH m.capT m.capH m.touched m.held w2 (HS.out.next HB2.out).touched (HS.out.next HB2.out).held hlt).mono ?_
        rintro e w3 ⟨rfl, hb3⟩
        have HB3 : Hid (Below w.heap.size w w3) := HB2.out.trans (hb3.mono HB2.out.size)
        clear hb3
        go_wp2
        go_ret
        exact ⟨ret_bool HQ.out.symm, HB3.out⟩
def mfV (b off n cap k : Nat) (x y : Wh) (r : Bool) (d : Nat) (v : Value) (_ : World) : Prop :=
  match d with
  | 38 => v = .int .i64 ((k : Int) + 1)
  | 39 => v = .bool true
  | 40 => v = .bool true
  | 41 => v = .slice (some ⟨b, off, none⟩) n cap
  | 42 => v = .int .i64 ((k : Int) + 1)
  | 43 => v = .int .i64 (k : Int)
  | 44 => v = .pointer (some ⟨b, off + k * 4, none⟩)
  | 45 => v = .agg #[.int .i64 x.1.1, .int .i64 x.1.2.1, .int .i64 x.1.2.2, .slice x.2.1 x.2.2.2.length x.2.2.1]
  | 46 => v = .agg #[.int .i64 y.1.1, .int .i64 y.1.2.1, .int .i64 y.1.2.2, .slice y.2.1 y.2.2.2.length y.2.2.1]
  | 47 => v = .int .i64 (cmpP x.1 y.1)
  | 48 => v = .bool r
  | 49 => v = .bool r
  | _ => True
theorem mfV_mono (b off n cap k : Nat) (x y : Wh) (r : Bool) (d : Nat) (v : Value) (w w' : World) (h : mfV b off n cap k x y r d v w) (_ : Below w.heap.size w w') : mfV b off n cap k x y r d v w' := h
theorem wellOk_of {l : List Sit} {p : Plc} {f : List F.Pc} : wellOk l (p, f) = (decide ((wellM l p).2 = 0) && (decide (f ≠ []) && mayHold f (wellM l p).1)) := by
  unfold wellOk
  rw [Bool.and_assoc]
theorem fill_no {l : List Sit} {wl : List Wh} {k : Nat} (h : k < wl.length) (hn : wellOk l ((wl[k]'h).1, (wl[k]'h).2.2.2) = false) : mayFill l (whp wl) = false := by
  have : (whp wl).all (wellOk l) = false := by
    rw [List.all_eq_false]
    refine ⟨_, List.getElem_mem (show k < (whp wl).length by rw [whp_length]; exact h), ?_⟩
    rw [whp_at h, hn]
    decide
  unfold mayFill
  rw [this]
  rfl
theorem fill_unord {l : List Sit} {wl : List Wh} {k : Nat} (h : k + 1 < wl.length) (hn : pltB (wl[k]'(by omega)).1 (wl[k + 1]'h).1 = false) : mayFill l (whp wl) = false := by
  have : ¬ (whp wl).Pairwise (fun x y => pltB x.1 y.1 = true) := by
    intro hp
    have := List.pairwise_iff_getElem.1 hp k (k + 1) (by rw [whp_length]; omega) (by rw [whp_length]; omega) (by omega)
    rw [whp_at (by omega), whp_at h] at this
    simp only at this
    rw [hn] at this
    cases this
  unfold mayFill
  rw [decide_eq_false this]
  simp
theorem fill_succ {l : List Sit} {wl : List Wh} {k : Nat} (h : k < wl.length) (ha : ((whp wl).take k).all (wellOk l) = true) (hr : Rising ((whp wl).take k)) (hw : wellOk l ((wl[k]'h).1, (wl[k]'h).2.2.2) = true) (hp : ∀ (j : Nat) (e : k = j + 1), pltB (wl[j]'(by omega)).1 (wl[k]'h).1 = true) :
    ((whp wl).take (k + 1)).all (wellOk l) = true ∧ Rising ((whp wl).take (k + 1)) := by
  have hk : k < (whp wl).length := by rw [whp_length]; exact h
  rw [List.take_succ_eq_append_getElem hk, whp_at h]
  constructor
  · rw [List.all_append, ha]
    simp [hw]
  · refine List.pairwise_append.2 ⟨hr, List.pairwise_singleton _ _, fun a hma b hb => ?_⟩
    simp only [List.mem_singleton] at hb
    subst hb
    cases k with
    | zero => simp at hma
    | succ j =>
      have hj := hp j rfl
      rw [List.take_succ_eq_append_getElem (show j < (whp wl).length by rw [whp_length]; omega), whp_at (by omega)] at hma hr
      rcases List.mem_append.1 hma with hma | hma
      · exact plt_trans ((List.pairwise_append.1 hr).2.2 a hma _ (List.mem_singleton.2 rfl)) hj
      · simp only [List.mem_singleton] at hma
        subst hma
        exact hj
theorem fill_all {l : List Sit} {wl : List Wh} {k : Nat} (h : wl.length ≤ k) (ha : ((whp wl).take k).all (wellOk l) = true) (hr : Rising ((whp wl).take k)) : mayFill l (whp wl) = true := by
  rw [List.take_of_length_le (by rw [whp_length]; exact h)] at ha hr
  have hr' : (whp wl).Pairwise (fun x y => pltB x.1 y.1 = true) := hr
  unfold mayFill
  rw [ha, decide_eq_true hr']
  rfl
theorem cmpP_geq (p q : Plc) : decide (0 ≤ cmpP p q) = !pltB p q := by
  rw [← cmpP_lt]
  by_cases h : cmpP p q < 0
  · rw [decide_eq_true h, decide_eq_false (by omega)]; rfl
  · rw [decide_eq_false h, decide_eq_true (by omega)]; rfl

set_option maxHeartbeats 6400000 in
set_option maxRecDepth 100000 in
theorem mayFill_any (ao : Option Addr) (cap : Nat) (l : List Sit) (aoW : Option Addr) (capW : Nat) (wl : List Wh) (w : World) (hD : Dk w ao cap l) (hd : dchk l = 0) (hW : Whs w aoW wl) (hln : wl.length ≤ 9223372036854775807) :
    Calls Tryz.prog 72 #[layv ao cap l, .slice aoW wl.length capW] w fun e w' => e = .returned (.bool (mayFill l (whp wl))) ∧ Below w.heap.size w w' := by
  have HD : Hid (Dk w ao cap l) := hD
  have HDC : Hid (dchk l = 0) := hd
  have HW : Hid (Whs w aoW wl) := hW
  obtain ⟨w0, hw0⟩ : ∃ w0, w0 = w.alloc (layo ao cap l) := ⟨_, rfl⟩
  have HB0 : Hid (Below w.heap.size w w0) := by show Below _ _ _; rw [hw0]; exact (Below.refl _ _).alloc (Nat.le_refl _) _
  have KL : Hid (Bk w.heap.size (lal ao cap l) w0) := by show Bk _ _ _; rw [hw0]; exact Bk.new w (lal ao cap l) 78 w.heap.size rfl
  have HW0 : Hid (w0 = w.alloc (layo ao cap l)) := hw0
  clear hD hd hW hw0
  go_enter Tryz.func72, Tryz.ntmps72
  go_wp2_with fail
  rw [← HW0.out]
  go_loopw [11] (fun i wr => ∃ k : Nat, k ≤ wl.length ∧ i = .int .i64 k ∧ ((whp wl).take k).all (wellOk l) = true ∧ Rising ((whp wl).take k) ∧ Below w0.heap.size w0 wr) (fun i _ => wl.length - (intOf i).toNat)
  case atStart => exact ⟨0, Nat.zero_le _, rfl, rfl, List.Pairwise.nil, Below.refl _ _⟩
  case round =>
    obtain ⟨k, hk, rfl, hall, hris, hb⟩ := hrel
    have HB : Hid (Below w0.heap.size w0 wr) := hb
    have HA : Hid (((whp wl).take k).all (wellOk l) = true) := hall
    have HR : Hid (Rising ((whp wl).take k)) := hris
    clear hb hall hris
    by_cases hlt : k < wl.length
    rotate_left
    · have HQ : Hid (mayFill l (whp wl) = true) := fill_all (by omega) HA.out HR.out
      go_wp2
      go_ret
      exact ⟨ret_bool HQ.out.symm, HB0.out.trans (HB.out.mono HB0.out.size)⟩
    · have HBW : Hid (Below w.heap.size w wr) := HB0.out.trans (HB.out.mono HB0.out.size)
      obtain ⟨b, off, rfl, hx⟩ := (HW.out.next HBW.out).at hlt
      obtain ⟨y, hy⟩ : ∃ y, y = wl[k]'hlt := ⟨_, rfl⟩
      rw [← hy] at hx
      have HX : Hid (WhAt wr b (off + k * 4) y) := hx
      have HY : Hid (y = wl[k]'hlt) := hy
      obtain ⟨_, c0, c1, c2, c3, _⟩ := hx
      obtain ⟨w2, hw2⟩ : ∃ w2, w2 = wr.alloc (who y) := ⟨_, rfl⟩
      have b2 : Below wr.heap.size wr w2 := by rw [hw2]; exact (Below.refl _ _).alloc (Nat.le_refl _) _
      have KX : Hid (Bk wr.heap.size [.int .i64 y.1.1, .int .i64 y.1.2.1, .int .i64 y.1.2.2, .slice y.2.1 y.2.2.2.length y.2.2.1] w2) := by show Bk _ _ _; rw [hw2]; exact Bk.new wr _ 91 wr.heap.size rfl
      have KL2 : Hid (Bk w.heap.size (lal ao cap l) w2) := (KL.out.later HB.out).later b2
      have HB2 : Hid (Below w0.heap.size w0 w2) := below_on HB.out b2
      have HW2 : Hid (w2 = wr.alloc (who y)) := hw2
      have HNo : Hid (wellOk l (y.1, y.2.2.2) = false → mayFill l (whp wl) = false) := fun h => fill_no hlt (by rw [← hy]; exact h)
      have hki : (k : Int) < (wl.length : Int) := by omega
      have lt0 : w.heap.size < wr.heap.size := by have := KL.out.1; have := HB.out.size; omega
      have n0 : w.heap.size ≠ wr.heap.size := by omega
      have l0 := (KL.out.later HB.out).c 0 rfl
      have l1 := (KL.out.later HB.out).c 1 rfl
      have l2 := (KL.out.later HB.out).c 2 rfl
      clear hy hw2 b2
      go_wp2_with fail
      rw [← HW2.out]
      refine (wellMost_any ao cap l y.1 w2 (HD.out.next (HB0.out.trans (HB2.out.mono HB0.out.size))) HDC.out).mono ?_
      rintro e w3 ⟨rfl, hb3⟩
      have HB3 : Hid (Below w0.heap.size w0 w3) := below_on HB2.out hb3
      have HF3 : Hid (F.Fl w3 y.2.1 y.2.2.2) := (HX.out.fl.next (by rw [HW2.out]; exact (Below.refl _ _).alloc (Nat.le_refl _) _)).next hb3
      have KX3 : Hid (Bk wr.heap.size [.int .i64 y.1.1, .int .i64 y.1.2.1, .int .i64 y.1.2.2, .slice y.2.1 y.2.2.2.length y.2.2.1] w3) := KX.out.later hb3
      have HX3 : Hid (WhAt w3 b (off + k * 4) y) := (HX.out.next (by rw [HW2.out]; exact (Below.refl _ _).alloc (Nat.le_refl _) _)).next hb3
      have HOk : Hid (_) := wellOk_of (l := l) (p := y.1) (f := y.2.2.2)
      clear hb3 c0 c1 c2 c3 l0 l1 l2 KL2 HX
      have x0 := (KX3.out).c 0 rfl
      have x1 := (KX3.out).c 1 rfl
      have x2 := (KX3.out).c 2 rfl
      have x3 := (KX3.out).c 3 rfl
      obtain ⟨⟨mo, e0⟩, hM⟩ : ∃ x, wellM l y.1 = x := ⟨_, rfl⟩
      rw [hM] at HOk ⊢
      simp only at HOk ⊢
      clear hM
      by_cases he : e0 = 0
      rotate_left
      · have he2 : (e0 != 0) = true := by simp [he]
        have HQ : Hid (mayFill l (whp wl) = false) := HNo.out (by rw [HOk.out, decide_eq_false he]; rfl)
        clear he
        go_wp2
        go_ret
        exact ⟨ret_bool HQ.out.symm, HB0.out.trans (HB3.out.mono HB0.out.size)⟩
      subst he
      by_cases hf : y.2.2.2 = []
      · have hf2 := len0_true hf
        have HQ : Hid (mayFill l (whp wl) = false) := HNo.out (by rw [HOk.out, decide_eq_false (p := y.2.2.2 ≠ []) (fun h => h hf)]; simp)
        clear hf
        go_wp2
        go_ret
        exact ⟨ret_bool HQ.out.symm, HB0.out.trans (HB3.out.mono HB0.out.size)⟩
      have hf2 := len0_false hf
      have HOk2 : Hid (wellOk l (y.1, y.2.2.2) = mayHold y.2.2.2 mo) := by show _ = _; rw [HOk.out, decide_eq_true (p := y.2.2.2 ≠ []) hf]; rfl
      clear hf HOk
      go_wp2_with fail
      refine (mayHold_any y.2.1 y.2.2.1 y.2.2.2 mo w3 HF3.out).mono ?_
      rintro e w4 ⟨rfl, hb4⟩
      have HB4 : Hid (Below w0.heap.size w0 w4) := below_on HB3.out hb4
      have KX4 : Hid (Bk wr.heap.size [.int .i64 y.1.1, .int .i64 y.1.2.1, .int .i64 y.1.2.2, .slice y.2.1 y.2.2.2.length y.2.2.1] w4) := KX3.out.later hb4
      clear hb4 x0 x1 x2 x3 KX KX3 HF3
      have x0 := (KX4.out).c 0 rfl
      have x1 := (KX4.out).c 1 rfl
      have x2 := (KX4.out).c 2 rfl
      have x3 := (KX4.out).c 3 rfl
      cases hh : mayHold y.2.2.2 mo with
      | false =>
        have HQ : Hid (mayFill l (whp wl) = false) := HNo.out (by rw [HOk2.out, hh])
        clear hh
        go_wp2
        go_ret
        exact ⟨ret_bool HQ.out.symm, HB0.out.trans (HB4.out.mono HB0.out.size)⟩
      | true =>
      have HOk3 : Hid (wellOk l (y.1, y.2.2.2) = true) := by show _ = _; rw [HOk2.out, hh]
      clear hh HOk2 HNo
      rcases (show k = 0 ∨ ∃ j, k = j + 1 from by cases k with | zero => exact .inl rfl | succ j => exact .inr ⟨j, rfl⟩) with rfl | ⟨k, rfl⟩
      · have HS := (show Hid _ from fill_succ hlt HA.out HR.out (by rw [← HY.out]; exact HOk3.out) (fun j e => by omega))
        clear HX3 HY HA HR
        go_wp2
        go_big_quiet (fail)
        go_wp2
        go_roundw
        case rel => exact ⟨1, by omega, by go_num, HS.out.1, HS.out.2, blw_drewN HB4.out _⟩
        case measure => simp [intOf]; omega
      · have hkl : k < wl.length := by omega
        have hwr : IntKind.i64.wrap (k : Int) = (k : Int) := wrap_in (by omega) (by omega)
        obtain ⟨b', off', e1, hx'⟩ := (HW.out.next (HB0.out.trans (HB4.out.mono HB0.out.size))).at (show k < wl.length by omega)
        injection e1 with e1
        injection e1 with e2 e3 _
        subst e2 e3
        obtain ⟨x, hx⟩ : ∃ x, x = wl[k]'(by omega) := ⟨_, rfl⟩
        rw [← hx] at hx'
        have HX : Hid (WhAt w4 b (off + k * 4) x) := hx'
        have HS : Hid (pltB x.1 y.1 = true → _) := fun h => fill_succ hlt HA.out HR.out (by rw [← HY.out]; exact HOk3.out) (fun j e => by obtain rfl : k = j := (by omega); rw [← hx, ← HY.out]; exact h)
        have HU : Hid (pltB x.1 y.1 = false → mayFill l (whp wl) = false) := fun h => fill_unord hlt (by rw [← hx, ← HY.out]; exact h)
        have hge := cmpP_geq x.1 y.1
        have hkk1 : (0 : Int) < (k : Int) + 1 := by omega
        clear HX3 hx' hx HY HA HR x0 x1 x2 x3 HOk3
        have KX : Hid (Bk wr.heap.size [.int .i64 y.1.1, .int .i64 y.1.2.1, .int .i64 y.1.2.2, .slice y.2.1 y.2.2.2.length y.2.2.1] w4) := KX4.out
        go_wp2_with fail
        rename_i KK hkk
        have HKK := (show Hid _ from hkk)
        clear hkk
        cases hpl : pltB x.1 y.1 with
        | true =>
          have HS2 := (show Hid _ from HS.out hpl)
          rw [hpl] at hge
          clear hpl HS HU
          refine region_inv [false, false, false, false, false, false, false, false, false, false, false, false, false, false, false, false, false, false, false, false, false, false, false, false, false, false, false, false, false, false, false, false, false, false, false, false, false, false, true, true, true, true, true, true, true, true, true, true, true, true, false]
            [(38, [], none), (39, [38], none), (40, [39], none), (41, [40], some (40, true)), (42, [40], some (40, true)), (43, [40, 42], some (40, true)), (44, [40, 41, 43], some (40, true)), (45, [40, 44], some (40, true)), (46, [40], some (40, true)), (47, [40, 45, 46], some (40, true)), (48, [40, 47], some (40, true)), (49, [40, 48], none)]
            (mfV b off wl.length capW k x y false) (by kernel_rfl) (by kernel_rfl) (mfV_mono b off wl.length capW k x y false) ?_ ?_
          · refine ⟨?_, ?_, ?_, ?_, ?_, ?_, ?_, ?_, ?_, ?_, ?_, ?_, trivial⟩
            · intro f w1 hb _ K hK
              simp only [over, overL, Nat.reduceAdd]
              go_simp
              exact hK _ _ ⟨_, rfl, by simp only [over, overL, Nat.reduceAdd]; rfl, Below.refl _ _⟩
            · intro f w1 hb ⟨h38, _⟩ K hK
              replace h38 : f 38 = _ := h38
              simp only [over, overL, Nat.reduceAdd, h38]
              go_simp
              exact hK _ _ ⟨_, rfl, by simp only [over, overL, Nat.reduceAdd, h38]; rfl, Below.refl _ _⟩
            · intro f w1 hb ⟨h39, _⟩ K hK
              replace h39 : f 39 = _ := h39
              simp only [over, overL, Nat.reduceAdd, h39]
              go_simp
              exact hK _ _ ⟨_, rfl, by simp only [over, overL, Nat.reduceAdd, h39]; rfl, Below.refl _ _⟩
            · intro f w1 hb ⟨h40, _⟩
              replace h40 : f 40 = _ := h40
              refine ⟨fun _ => ?_, fun hg => absurd h40 hg⟩
              intro K hK
              simp only [over, overL, Nat.reduceAdd, h40]
              go_simp
              exact hK _ _ ⟨_, rfl, by simp only [over, overL, Nat.reduceAdd, h40]; rfl, Below.refl _ _⟩
            · intro f w1 hb ⟨h40, _⟩
              replace h40 : f 40 = _ := h40
              refine ⟨fun _ => ?_, fun hg => absurd h40 hg⟩
              intro K hK
              simp only [over, overL, Nat.reduceAdd, h40]
              go_simp
              exact hK _ _ ⟨_, rfl, by simp only [over, overL, Nat.reduceAdd, h40]; rfl, Below.refl _ _⟩
            · intro f w1 hb ⟨h40, h42, _⟩
              replace h40 : f 40 = _ := h40
              replace h42 : f 42 = _ := h42
              refine ⟨fun _ => ?_, fun hg => absurd h40 hg⟩
              intro K hK
              simp only [over, overL, Nat.reduceAdd, h40, h42]
              go_simp
              exact hK _ _ ⟨_, rfl, by simp only [over, overL, Nat.reduceAdd, h40, h42]; rfl, Below.refl _ _⟩
            · intro f w1 hb ⟨h40, h41, h43, _⟩
              replace h40 : f 40 = _ := h40
              replace h41 : f 41 = _ := h41
              replace h43 : f 43 = _ := h43
              refine ⟨fun _ => ?_, fun hg => absurd h40 hg⟩
              intro K hK
              simp only [over, overL, Nat.reduceAdd, h40, h41, h43]
              go_simp
              exact hK _ _ ⟨_, rfl, by simp only [over, overL, Nat.reduceAdd, h40, h41, h43]; rfl, Below.refl _ _⟩
            · intro f w1 hb ⟨h40, h44, _⟩
              replace h40 : f 40 = _ := h40
              replace h44 : f 44 = _ := h44
              refine ⟨fun _ => ?_, fun hg => absurd h40 hg⟩
              intro K hK
              obtain ⟨_, q0, q1, q2, q3, _⟩ := HX.out.next hb
              simp only [over, overL, Nat.reduceAdd, h40, h44]
              go_simp
              exact hK _ _ ⟨_, rfl, by simp only [over, overL, Nat.reduceAdd, h40, h44]; rfl, Below.refl _ _⟩
            · intro f w1 hb ⟨h40, _⟩
              replace h40 : f 40 = _ := h40
              refine ⟨fun _ => ?_, fun hg => absurd h40 hg⟩
              intro K hK
              have q0 := (KX.out.later hb).c 0 rfl
              have q1 := (KX.out.later hb).c 1 rfl
              have q2 := (KX.out.later hb).c 2 rfl
              have q3 := (KX.out.later hb).c 3 rfl
              simp only [over, overL, Nat.reduceAdd, h40]
              go_simp
              exact hK _ _ ⟨_, rfl, by simp only [over, overL, Nat.reduceAdd, h40]; rfl, Below.refl _ _⟩
            · intro f w1 hb ⟨h40, h45, h46, _⟩
              replace h40 : f 40 = _ := h40
              replace h45 : f 45 = _ := h45
              replace h46 : f 46 = _ := h46
              refine ⟨fun _ => ?_, fun hg => absurd h40 hg⟩
              intro K hK
              simp only [over, overL, Nat.reduceAdd, h40, h45, h46]
              go_simp
              refine (byPlace_any x y w1).mono ?_
              rintro e w2 ⟨rfl, hb2, _⟩
              exact hK _ _ ⟨_, rfl, by simp only [over, overL, Nat.reduceAdd, h40, h45, h46]; rfl, hb2⟩
            · intro f w1 hb ⟨h40, h47, _⟩
              replace h40 : f 40 = _ := h40
              replace h47 : f 47 = _ := h47
              refine ⟨fun _ => ?_, fun hg => absurd h40 hg⟩
              intro K hK
              simp only [over, overL, Nat.reduceAdd, h40, h47]
              go_simp
              exact hK _ _ ⟨_, rfl, by simp only [over, overL, Nat.reduceAdd, h40, h47]; rfl, Below.refl _ _⟩
            · intro f w1 hb ⟨h40, h48, _⟩ K hK
              replace h40 : f 40 = _ := h40
              replace h48 : f 48 = _ := h48
              simp only [over, overL, Nat.reduceAdd, h40, h48]
              go_simp
              exact hK _ _ ⟨_, rfl, by simp only [over, overL, Nat.reduceAdd, h40, h48]; rfl, Below.refl _ _⟩
          intro f w5 hb5 hv
          have h49 : f 49 = .bool false := hv.2.2.2.2.2.2.2.2.2.2.2.1
          have HB5 : Hid (Below w0.heap.size w0 w5) := below_on HB4.out hb5
          clear hb5 hv
          simp only [over, overL, Nat.reduceAdd, h49]
          clear h49 hge
          refine HKK.out _ _ ?_
          go_wp2
          go_roundw
          case rel => exact ⟨k + 1 + 1, by omega, by go_num, HS2.out.1, HS2.out.2, HB5.out⟩
          case measure => simp [intOf]; omega
        | false =>
          have HQ : Hid (mayFill l (whp wl) = false) := HU.out hpl
          rw [hpl] at hge
          clear hpl HS HU
          refine region_inv [false, false, false, false, false, false, false, false, false, false, false, false, false, false, false, false, false, false, false, false, false, false, false, false, false, false, false, false, false, false, false, false, false, false, false, false, false, false, true, true, true, true, true, true, true, true, true, true, true, true, false]
            [(38, [], none), (39, [38], none), (40, [39], none), (41, [40], some (40, true)), (42, [40], some (40, true)), (43, [40, 42], some (40, true)), (44, [40, 41, 43], some (40, true)), (45, [40, 44], some (40, true)), (46, [40], some (40, true)), (47, [40, 45, 46], some (40, true)), (48, [40, 47], some (40, true)), (49, [40, 48], none)]
            (mfV b off wl.length capW k x y true) (by kernel_rfl) (by kernel_rfl) (mfV_mono b off wl.length capW k x y true) ?_ ?_
          · refine ⟨?_, ?_, ?_, ?_, ?_, ?_, ?_, ?_, ?_, ?_, ?_, ?_, trivial⟩
            · intro f w1 hb _ K hK
              simp only [over, overL, Nat.reduceAdd]
              go_simp
              exact hK _ _ ⟨_, rfl, by simp only [over, overL, Nat.reduceAdd]; rfl, Below.refl _ _⟩
            · intro f w1 hb ⟨h38, _⟩ K hK
              replace h38 : f 38 = _ := h38
              simp only [over, overL, Nat.reduceAdd, h38]
              go_simp
              exact hK _ _ ⟨_, rfl, by simp only [over, overL, Nat.reduceAdd, h38]; rfl, Below.refl _ _⟩
            · intro f w1 hb ⟨h39, _⟩ K hK
              replace h39 : f 39 = _ := h39
              simp only [over, overL, Nat.reduceAdd, h39]
              go_simp
              exact hK _ _ ⟨_, rfl, by simp only [over, overL, Nat.reduceAdd, h39]; rfl, Below.refl _ _⟩
            · intro f w1 hb ⟨h40, _⟩
              replace h40 : f 40 = _ := h40
              refine ⟨fun _ => ?_, fun hg => absurd h40 hg⟩
              intro K hK
              simp only [over, overL, Nat.reduceAdd, h40]
              go_simp
              exact hK _ _ ⟨_, rfl, by simp only [over, overL, Nat.reduceAdd, h40]; rfl, Below.refl _ _⟩
            · intro f w1 hb ⟨h40, _⟩
              replace h40 : f 40 = _ := h40
              refine ⟨fun _ => ?_, fun hg => absurd h40 hg⟩
              intro K hK
              simp only [over, overL, Nat.reduceAdd, h40]
              go_simp
              exact hK _ _ ⟨_, rfl, by simp only [over, overL, Nat.reduceAdd, h40]; rfl, Below.refl _ _⟩
            · intro f w1 hb ⟨h40, h42, _⟩
              replace h40 : f 40 = _ := h40
              replace h42 : f 42 = _ := h42
              refine ⟨fun _ => ?_, fun hg => absurd h40 hg⟩
              intro K hK
              simp only [over, overL, Nat.reduceAdd, h40, h42]
              go_simp
              exact hK _ _ ⟨_, rfl, by simp only [over, overL, Nat.reduceAdd, h40, h42]; rfl, Below.refl _ _⟩
            · intro f w1 hb ⟨h40, h41, h43, _⟩
              replace h40 : f 40 = _ := h40
              replace h41 : f 41 = _ := h41
              replace h43 : f 43 = _ := h43
              refine ⟨fun _ => ?_, fun hg => absurd h40 hg⟩
              intro K hK
              simp only [over, overL, Nat.reduceAdd, h40, h41, h43]
              go_simp
              exact hK _ _ ⟨_, rfl, by simp only [over, overL, Nat.reduceAdd, h40, h41, h43]; rfl, Below.refl _ _⟩
            · intro f w1 hb ⟨h40, h44, _⟩
              replace h40 : f 40 = _ := h40
              replace h44 : f 44 = _ := h44
              refine ⟨fun _ => ?_, fun hg => absurd h40 hg⟩
              intro K hK
              obtain ⟨_, q0, q1, q2, q3, _⟩ := HX.out.next hb
              simp only [over, overL, Nat.reduceAdd, h40, h44]
              go_simp
              exact hK _ _ ⟨_, rfl, by simp only [over, overL, Nat.reduceAdd, h40, h44]; rfl, Below.refl _ _⟩
            · intro f w1 hb ⟨h40, _⟩
              replace h40 : f 40 = _ := h40
              refine ⟨fun _ => ?_, fun hg => absurd h40 hg⟩
              intro K hK
              have q0 := (KX.out.later hb).c 0 rfl
              have q1 := (KX.out.later hb).c 1 rfl
              have q2 := (KX.out.later hb).c 2 rfl
              have q3 := (KX.out.later hb).c 3 rfl
              simp only [over, overL, Nat.reduceAdd, h40]
              go_simp
              exact hK _ _ ⟨_, rfl, by simp only [over, overL, Nat.reduceAdd, h40]; rfl, Below.refl _ _⟩
            · intro f w1 hb ⟨h40, h45, h46, _⟩
              replace h40 : f 40 = _ := h40
              replace h45 : f 45 = _ := h45
              replace h46 : f 46 = _ := h46
              refine ⟨fun _ => ?_, fun hg => absurd h40 hg⟩
              intro K hK
              simp only [over, overL, Nat.reduceAdd, h40, h45, h46]
              go_simp
              refine (byPlace_any x y w1).mono ?_
              rintro e w2 ⟨rfl, hb2, _⟩
              exact hK _ _ ⟨_, rfl, by simp only [over, overL, Nat.reduceAdd, h40, h45, h46]; rfl, hb2⟩
            · intro f w1 hb ⟨h40, h47, _⟩
              replace h40 : f 40 = _ := h40
              replace h47 : f 47 = _ := h47
              refine ⟨fun _ => ?_, fun hg => absurd h40 hg⟩
              intro K hK
              simp only [over, overL, Nat.reduceAdd, h40, h47]
              go_simp
              exact hK _ _ ⟨_, rfl, by simp only [over, overL, Nat.reduceAdd, h40, h47]; rfl, Below.refl _ _⟩
            · intro f w1 hb ⟨h40, h48, _⟩ K hK
              replace h40 : f 40 = _ := h40
              replace h48 : f 48 = _ := h48
              simp only [over, overL, Nat.reduceAdd, h40, h48]
              go_simp
              exact hK _ _ ⟨_, rfl, by simp only [over, overL, Nat.reduceAdd, h40, h48]; rfl, Below.refl _ _⟩
          intro f w5 hb5 hv
          have h49 : f 49 = .bool true := hv.2.2.2.2.2.2.2.2.2.2.2.1
          have HB5 : Hid (Below w0.heap.size w0 w5) := below_on HB4.out hb5
          clear hb5 hv
          simp only [over, overL, Nat.reduceAdd, h49]
          clear h49 hge
          refine HKK.out _ _ ?_
          go_wp2
          go_ret
          exact ⟨ret_bool HQ.out.symm, HB0.out.trans (HB5.out.mono HB0.out.size)⟩
end Go.Proofs.YtgbnjgenopdmfaaGreat

/- may, May walked. -/
namespace Go.Proofs.YtgbnjgenopdmfaaGreat
open Go.RowKit
/-- The bounds of lengths that a state handed in keeps to. -/
structure SmLen (m : Sm) : Prop where
  wells : m.wl.length ≤ 9223372036854775807
  touched : m.touched.length ≤ 9223372036854775807
set_option maxHeartbeats 3200000 in
theorem may_any (ao : Option Addr) (cap : Nat) (l : List Sit) (m : Sm) (w : World) (hD : Dk w ao cap l) (hd : dchk l = 0) (hS : SmIn w m) (hl : SmLen m) :
    Calls Tryz.prog 36 #[layv ao cap l, smv m] w fun e w' => e = .returned (.bool (mayB l m.st)) ∧ Below w.heap.size w w' := by
  have HS : Hid (SmIn w m) := hS
  have HD : Hid (Dk w ao cap l) := hD
  have HDC : Hid (dchk l = 0) := hd
  have HL : Hid (SmLen m) := hl
  clear hS hD hd hl
  obtain ⟨w0, hw0⟩ : ∃ w0, w0 = (w.alloc (layo ao cap l)).alloc (smo m) := ⟨_, rfl⟩
  have HB : Hid (Below w.heap.size w w0) := by show Below _ _ _; rw [hw0]; exact ((Below.refl _ _).alloc (Nat.le_refl _) _).alloc (by simp) _
  have KL : Hid (Bk w.heap.size (lal ao cap l) w0) := by show Bk _ _ _; rw [hw0]; exact (Bk.new w (lal ao cap l) 78 w.heap.size rfl).later ((Below.refl _ _).alloc (Nat.le_refl _) _)
  have KS : Hid (Bk (w.heap.size + 1) (sml m) w0) := by show Bk _ _ _; rw [hw0]; exact Bk.new (w.alloc _) (sml m) 40 (w.heap.size + 1) (by simp)
  have HW0 : Hid (w0 = (w.alloc (layo ao cap l)).alloc (smo m)) := hw0
  have HQ : Hid (mayB l m.st = (mayFill l (whp m.wl) && (mayTake l m.st && (inR 0 1000000000 m.heat && inR 0 1000000000 m.clock)))) := rfl
  clear hw0
  go_enter Tryz.func36, Tryz.ntmps36
  go_wp2_with fail
  rw [← HW0.out]
  refine (mayFill_any ao cap l m.aoW m.capW m.wl w0 (HD.out.next HB.out) HDC.out (HS.out.next HB.out).wells HL.out.wells).mono ?_
  rintro e w1 ⟨rfl, hb1⟩
  have HB1 : Hid (Below w.heap.size w w1) := HB.out.trans (hb1.mono HB.out.size)
  have KL1 : Hid (Bk w.heap.size (lal ao cap l) w1) := KL.out.later hb1
  have KS1 : Hid (Bk (w.heap.size + 1) (sml m) w1) := KS.out.later hb1
  clear hb1 KL KS HW0
  cases h1 : mayFill l (whp m.wl) with
  | false =>
    rw [h1] at HQ
    go_wp2
    go_ret
    exact ⟨ret_bool HQ.out.symm, HB1.out⟩
  | true =>
    rw [h1] at HQ
    clear h1
    have y0 := (KL1.out).c 0 rfl
    have y1 := (KL1.out).c 1 rfl
    have y2 := (KL1.out).c 2 rfl
    have s0 := (KS1.out).c 0 rfl
    have s1 := (KS1.out).c 1 rfl
    have s2 := (KS1.out).c 2 rfl
    have s3 := (KS1.out).c 3 rfl
    have s4 := (KS1.out).c 4 rfl
    have s5 := (KS1.out).c 5 rfl
    have s6 := (KS1.out).c 6 rfl
    go_wp2_with fail
    refine (mayTake_any ao cap l m w1 (HS.out.next HB1.out) HL.out.touched).mono ?_
    rintro e w2 ⟨rfl, hb2⟩
    have HB2 : Hid (Below w.heap.size w w2) := HB1.out.trans (hb2.mono HB1.out.size)
    have KS2 : Hid (Bk (w.heap.size + 1) (sml m) w2) := KS1.out.later hb2
    clear hb2 KL1 KS1 y0 y1 y2 s0 s1 s2 s3 s4 s5 s6
    have s0 := (KS2.out).c 0 rfl
    have s1 := (KS2.out).c 1 rfl
    have s2 := (KS2.out).c 2 rfl
    have s3 := (KS2.out).c 3 rfl
    have s4 := (KS2.out).c 4 rfl
    have s5 := (KS2.out).c 5 rfl
    have s6 := (KS2.out).c 6 rfl
    cases h2 : mayTake l m.st with
    | false =>
      rw [h2] at HQ
      go_wp2
      go_ret
      exact ⟨ret_bool HQ.out.symm, HB2.out⟩
    | true =>
      rw [h2] at HQ
      clear h2
      go_wp2_with fail
      refine (mwithin_any 0 m.heat 1000000000 w2).mono ?_
      rintro e w3 ⟨rfl, rfl⟩
      cases h3 : inR 0 1000000000 m.heat with
      | false =>
        rw [h3] at HQ
        go_wp2
        go_ret
        exact ⟨ret_bool HQ.out.symm, HB2.out⟩
      | true =>
        rw [h3] at HQ
        clear h3
        go_wp2_with fail
        refine (mwithin_any 0 m.clock 1000000000 _).mono ?_
        rintro e w3 ⟨rfl, rfl⟩
        go_wp2
        go_ret
        exact ⟨ret_bool HQ.out.symm, HB2.out⟩
def myV (ao : Option Addr) (cap : Nat) (l : List Sit) (m : Sm) (d : Nat) (v : Value) (_ : World) : Prop :=
  match d with
  | 5 => v = .slice ao l.length cap
  | 6 => v = .int .i64 (dchk l)
  | 7 => v = .bool true
  | 8 => v = .bool true
  | 9 => v = .slice ao l.length cap
  | 10 => v = layv ao cap l
  | 11 => v = .agg #[.slice m.aoW m.wl.length m.capW, .bool m.tip, .slice m.aoH m.held.length m.capH, .slice m.aoT m.touched.length m.capT, .int .i64 m.used, .int .i64 m.heat, .int .i64 m.clock]
  | 12 => v = .bool (mayB l m.st)
  | 13 => v = .bool (mayB l m.st)
  | 4 => v = .bool (mayB l m.st)
  | _ => True
theorem myV_mono (ao : Option Addr) (cap : Nat) (l : List Sit) (m : Sm) (d : Nat) (v : Value) (w w' : World) (h : myV ao cap l m d v w) (_ : Below w.heap.size w w') : myV ao cap l m d v w' := h
def mzV (ao : Option Addr) (cap : Nat) (l : List Sit) (d : Nat) (v : Value) (_ : World) : Prop :=
  match d with
  | 5 => v = .slice ao l.length cap
  | 6 => v = .int .i64 (dchk l)
  | 7 => v = .bool false
  | 8 => v = .bool false
  | 13 => v = .bool false
  | 4 => v = .bool false
  | _ => True
theorem mzV_mono (ao : Option Addr) (cap : Nat) (l : List Sit) (d : Nat) (v : Value) (w w' : World) (h : mzV ao cap l d v w) (_ : Below w.heap.size w w') : mzV ao cap l d v w' := h
set_option maxHeartbeats 3200000 in
set_option maxRecDepth 100000 in
theorem mayF_any (ao : Option Addr) (cap : Nat) (l : List Sit) (m : Sm) (w : World) (hD : Dk w ao cap l) (hln : l.length ≤ 9223372036854775807) (hS : SmIn w m) (hl : SmLen m) :
    Calls Tryz.prog 16 #[.slice ao l.length cap, smv m] w fun e w' => e = .returned (.bool (mayS l m.st)) ∧ Below w.heap.size w w' := by
  have HS : Hid (SmIn w m) := hS
  have HD : Hid (Dk w ao cap l) := hD
  have HL : Hid (SmLen m) := hl
  clear hS hD hl
  obtain ⟨w0, hw0⟩ : ∃ w0, w0 = w.alloc (smo m) := ⟨_, rfl⟩
  have HB : Hid (Below w.heap.size w w0) := by show Below _ _ _; rw [hw0]; exact (Below.refl _ _).alloc (Nat.le_refl _) _
  have KS : Hid (Bk w.heap.size (sml m) w0) := by show Bk _ _ _; rw [hw0]; exact Bk.new w (sml m) 40 w.heap.size rfl
  have HW0 : Hid (w0 = w.alloc (smo m)) := hw0
  clear hw0
  by_cases hd : dchk l = 0
  · have HDC : Hid (dchk l = 0) := hd
    have HQ : Hid (mayS l m.st = mayB l m.st) := by show _ = _; unfold mayS; rw [decide_eq_true hd]; rfl
    have hde : (dchk l == 0) = true := by simp [hd]
    clear hd
    go_enter Tryz.func16, Tryz.ntmps16
    go_wp2_with fail
    rename_i KK hkk
    have HKK := (show Hid _ from hkk)
    clear hkk
    rw [← HW0.out]
    refine region_inv [false, false, false, false, true, true, true, true, true, true, true, true, true, true]
      [(5, [], none), (6, [5], none), (7, [6], none), (8, [7], none), (9, [8], some (8, true)), (10, [8, 9], some (8, true)), (11, [8], some (8, true)), (12, [8, 10, 11], some (8, true)), (13, [8, 12], none), (4, [13], none)]
      (myV ao cap l m) (by kernel_rfl) (by kernel_rfl) (myV_mono ao cap l m) ?_ ?_
    · refine ⟨?_, ?_, ?_, ?_, ?_, ?_, ?_, ?_, ?_, ?_, trivial⟩
      · intro f w1 hb _ K hK
        simp only [over, overL, Nat.reduceAdd]
        go_simp
        exact hK _ _ ⟨_, rfl, by simp only [over, overL, Nat.reduceAdd]; rfl, Below.refl _ _⟩
      · intro f w1 hb ⟨h5, _⟩ K hK
        replace h5 : f 5 = _ := h5
        simp only [over, overL, Nat.reduceAdd, h5]
        go_simp
        refine (dk_check ao cap l w1 (HD.out.next (HB.out.trans (hb.mono HB.out.size))) (by omega)).mono ?_
        rintro e w2 ⟨rfl, hb2⟩
        exact hK _ _ ⟨_, rfl, by simp only [over, overL, Nat.reduceAdd, h5]; rfl, hb2⟩
      · intro f w1 hb ⟨h6, _⟩ K hK
        replace h6 : f 6 = _ := h6
        simp only [over, overL, Nat.reduceAdd, h6]
        go_simp
        exact hK _ _ ⟨_, rfl, by simp only [over, overL, Nat.reduceAdd, h6]; rfl, Below.refl _ _⟩
      · intro f w1 hb ⟨h7, _⟩ K hK
        replace h7 : f 7 = _ := h7
        simp only [over, overL, Nat.reduceAdd, h7]
        go_simp
        exact hK _ _ ⟨_, rfl, by simp only [over, overL, Nat.reduceAdd, h7]; rfl, Below.refl _ _⟩
      · intro f w1 hb ⟨h8, _⟩
        replace h8 : f 8 = _ := h8
        refine ⟨fun _ => ?_, fun hg => absurd h8 hg⟩
        intro K hK
        simp only [over, overL, Nat.reduceAdd, h8]
        go_simp
        exact hK _ _ ⟨_, rfl, by simp only [over, overL, Nat.reduceAdd, h8]; rfl, Below.refl _ _⟩
      · intro f w1 hb ⟨h8, h9, _⟩
        replace h8 : f 8 = _ := h8
        replace h9 : f 9 = _ := h9
        refine ⟨fun _ => ?_, fun hg => absurd h8 hg⟩
        intro K hK
        simp only [over, overL, Nat.reduceAdd, h8, h9]
        go_simp
        refine (newLayout_any ao cap l w1 (HD.out.next (HB.out.trans (hb.mono HB.out.size))) HDC.out).mono ?_
        rintro e w2 ⟨rfl, hb2⟩
        exact hK _ _ ⟨_, rfl, by simp only [over, overL, Nat.reduceAdd, h8, h9]; rfl, hb2⟩
      · intro f w1 hb ⟨h8, _⟩
        replace h8 : f 8 = _ := h8
        refine ⟨fun _ => ?_, fun hg => absurd h8 hg⟩
        intro K hK
        have q0 := (KS.out.later hb).c 0 rfl
        have q1 := (KS.out.later hb).c 1 rfl
        have q2 := (KS.out.later hb).c 2 rfl
        have q3 := (KS.out.later hb).c 3 rfl
        have q4 := (KS.out.later hb).c 4 rfl
        have q5 := (KS.out.later hb).c 5 rfl
        have q6 := (KS.out.later hb).c 6 rfl
        simp only [over, overL, Nat.reduceAdd, h8]
        go_simp
        exact hK _ _ ⟨_, rfl, by simp only [over, overL, Nat.reduceAdd, h8]; rfl, Below.refl _ _⟩
      · intro f w1 hb ⟨h8, h10, h11, _⟩
        replace h8 : f 8 = _ := h8
        replace h10 : f 10 = _ := h10
        replace h11 : f 11 = _ := h11
        refine ⟨fun _ => ?_, fun hg => absurd h8 hg⟩
        intro K hK
        simp only [over, overL, Nat.reduceAdd, h8, h10, h11]
        go_simp
        refine (may_any ao cap l m w1 (HD.out.next (HB.out.trans (hb.mono HB.out.size))) HDC.out (HS.out.next (HB.out.trans (hb.mono HB.out.size))) HL.out).mono ?_
        rintro e w2 ⟨rfl, hb2⟩
        exact hK _ _ ⟨_, rfl, by simp only [over, overL, Nat.reduceAdd, h8, h10, h11]; rfl, hb2⟩
      · intro f w1 hb ⟨h8, h12, _⟩ K hK
        replace h8 : f 8 = _ := h8
        replace h12 : f 12 = _ := h12
        simp only [over, overL, Nat.reduceAdd, h8, h12]
        go_simp
        exact hK _ _ ⟨_, rfl, by simp only [over, overL, Nat.reduceAdd, h8, h12]; rfl, Below.refl _ _⟩
      · intro f w1 hb ⟨h13, _⟩ K hK
        replace h13 : f 13 = _ := h13
        simp only [over, overL, Nat.reduceAdd, h13]
        go_simp
        exact hK _ _ ⟨_, rfl, by simp only [over, overL, Nat.reduceAdd, h13]; rfl, Below.refl _ _⟩
    intro f w5 hb5 hv
    have h4 : f 4 = .bool (mayB l m.st) := hv.2.2.2.2.2.2.2.2.2.1
    have HB5 : Hid (Below w.heap.size w w5) := HB.out.trans (hb5.mono HB.out.size)
    clear hb5 hv
    simp only [over, overL, Nat.reduceAdd, h4]
    clear h4
    refine HKK.out _ _ ?_
    go_wp2
    go_ret
    exact ⟨ret_bool HQ.out.symm, HB5.out⟩
  · have HQ : Hid (mayS l m.st = false) := by show _ = _; unfold mayS; rw [decide_eq_false hd]; rfl
    have hde : (dchk l == 0) = false := by simp [hd]
    clear hd
    go_enter Tryz.func16, Tryz.ntmps16
    go_wp2_with fail
    rename_i KK hkk
    have HKK := (show Hid _ from hkk)
    clear hkk
    rw [← HW0.out]
    refine region_inv [false, false, false, false, true, true, true, true, true, true, true, true, true, true]
      [(5, [], none), (6, [5], none), (7, [6], none), (8, [7], none), (9, [8], some (8, true)), (10, [8, 9], some (8, true)), (11, [8], some (8, true)), (12, [8, 10, 11], some (8, true)), (13, [8, 12], none), (4, [13], none)]
      (mzV ao cap l) (by kernel_rfl) (by kernel_rfl) (mzV_mono ao cap l) ?_ ?_
    · refine ⟨?_, ?_, ?_, ?_, ?_, ?_, ?_, ?_, ?_, ?_, trivial⟩
      · intro f w1 hb _ K hK
        simp only [over, overL, Nat.reduceAdd]
        go_simp
        exact hK _ _ ⟨_, rfl, by simp only [over, overL, Nat.reduceAdd]; rfl, Below.refl _ _⟩
      · intro f w1 hb ⟨h5, _⟩ K hK
        replace h5 : f 5 = _ := h5
        simp only [over, overL, Nat.reduceAdd, h5]
        go_simp
        refine (dk_check ao cap l w1 (HD.out.next (HB.out.trans (hb.mono HB.out.size))) (by omega)).mono ?_
        rintro e w2 ⟨rfl, hb2⟩
        exact hK _ _ ⟨_, rfl, by simp only [over, overL, Nat.reduceAdd, h5]; rfl, hb2⟩
      · intro f w1 hb ⟨h6, _⟩ K hK
        replace h6 : f 6 = _ := h6
        simp only [over, overL, Nat.reduceAdd, h6]
        go_simp
        exact hK _ _ ⟨_, rfl, by simp only [over, overL, Nat.reduceAdd, h6]; rfl, Below.refl _ _⟩
      · intro f w1 hb ⟨h7, _⟩ K hK
        replace h7 : f 7 = _ := h7
        simp only [over, overL, Nat.reduceAdd, h7]
        go_simp
        exact hK _ _ ⟨_, rfl, by simp only [over, overL, Nat.reduceAdd, h7]; rfl, Below.refl _ _⟩
      · intro f w1 hb ⟨h8, _⟩
        replace h8 : f 8 = _ := h8
        exact ⟨fun hg => absurd (h8.symm.trans hg) (by simp), fun _ => trivial⟩
      · intro f w1 hb ⟨h8, h9, _⟩
        replace h8 : f 8 = _ := h8
        exact ⟨fun hg => absurd (h8.symm.trans hg) (by simp), fun _ => trivial⟩
      · intro f w1 hb ⟨h8, _⟩
        replace h8 : f 8 = _ := h8
        exact ⟨fun hg => absurd (h8.symm.trans hg) (by simp), fun _ => trivial⟩
      · intro f w1 hb ⟨h8, h10, h11, _⟩
        replace h8 : f 8 = _ := h8
        exact ⟨fun hg => absurd (h8.symm.trans hg) (by simp), fun _ => trivial⟩
      · intro f w1 hb ⟨h8, h12, _⟩ K hK
        replace h8 : f 8 = _ := h8
        simp only [over, overL, Nat.reduceAdd, h8]
        go_simp
        exact hK _ _ ⟨_, rfl, by simp only [over, overL, Nat.reduceAdd, h8]; rfl, Below.refl _ _⟩
      · intro f w1 hb ⟨h13, _⟩ K hK
        replace h13 : f 13 = _ := h13
        simp only [over, overL, Nat.reduceAdd, h13]
        go_simp
        exact hK _ _ ⟨_, rfl, by simp only [over, overL, Nat.reduceAdd, h13]; rfl, Below.refl _ _⟩
    intro f w5 hb5 hv
    have h4 : f 4 = .bool false := hv.2.2.2.2.2.2.2.2.2.1
    have HB5 : Hid (Below w.heap.size w w5) := HB.out.trans (hb5.mono HB.out.size)
    clear hb5 hv
    simp only [over, overL, Nat.reduceAdd, h4]
    clear h4
    refine HKK.out _ _ ?_
    go_wp2
    go_ret
    exact ⟨ret_bool HQ.out.symm, HB5.out⟩
end Go.Proofs.YtgbnjgenopdmfaaGreat
