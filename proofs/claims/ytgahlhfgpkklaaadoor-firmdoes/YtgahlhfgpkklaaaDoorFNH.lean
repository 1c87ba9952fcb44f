/- obey, do walked. -/
import Derived.Test.YtgahlhfgpkklaaaDoorFMH
namespace Go.Proofs.YtgahlhfgpkklaaaDoor
open Go.RowKit Go.Maps

abbrev cmv (c : Cm) : Value := cm c.k c.x c.y c.z c.v
abbrev cmc (c : Cm) : List Value := c5 c.k c.x c.y c.z c.v
abbrev cmo (c : Cm) : Obj := o5 c.k c.x c.y c.z c.v
/-- A command that has its form. -/
theorem chk_ok {c : Cm} (h : chkM c = 0) : (1 ≤ c.k ∧ c.k ≤ 8) ∧ Near (toP c) ∧ (0 ≤ c.v ∧ c.v ≤ 1000000000) := by
  unfold chkM chkC at h
  split at h
  · cases h
  · rename_i h1
    split at h
    · cases h
    · rename_i h2
      have h3 : inRg c.x c.y c.z c.v = true := by simpa using h2
      have h4 := inRg_iff.1 h3
      exact ⟨by omega, ⟨h4.1, h4.2.1, h4.2.2.1⟩, h4.2.2.2⟩
/-- What a command that is obeyed ends with. -/
def ObP (a : Nat → Addr) (B M : Nat) (r : Rg) (f : Fm) (c : Cm) (w : World) (e : Ending) (w' : World) : Prop :=
  e = .returned (er a (obE r f c)) ∧ ∃ f1, Bd B M r f1 w' ∧ Kpt (BM B M) w w' ∧ (obE r f c = none → f1 = obF r f c)
theorem obP_err {a : Nat → Addr} {B M : Nat} {r : Rg} {f f1 : Fm} {c : Cm} {w w' : World} {e : Ending} {i : Nat} (ho : obE r f c = some i) (he : e = .returned (.iface 109 (.pointer (some (a i))))) (hd : Bd B M r f1 w') (hk : Kpt (BM B M) w w') : ObP a B M r f c w e w' :=
  ⟨by rw [ho, he]; rfl, f1, hd, hk, fun h => by rw [ho] at h; cases h⟩
theorem obP_ok {a : Nat → Addr} {B M : Nat} {r : Rg} {f f1 : Fm} {c : Cm} {w w' : World} {e : Ending} (ho : obE r f c = none) (hf : f1 = obF r f c) (he : e = .returned .nilIface) (hd : Bd B M r f1 w') (hk : Kpt (BM B M) w w') : ObP a B M r f c w e w' :=
  ⟨by rw [ho, he]; rfl, f1, hd, hk, fun _ => hf⟩
theorem obP_same {a : Nat → Addr} {B M : Nat} {r : Rg} {f : Fm} {c : Cm} {w w' : World} {e : Ending} {i : Nat} (ho : obE r f c = some i) (he : e = .returned (.iface 109 (.pointer (some (a i))))) (hw : w' = w) (hd : Bd B M r f w) : ObP a B M r f c w e w' := by
  subst hw
  exact obP_err ho he hd (Kpt.refl _ _)
theorem obE_some {r : Rg} {f : Fm} {c : Cm} {i : Nat} (h : errC r f c = some i) : obE r f c = some i := by unfold obE; rw [h]
theorem obE_late {r : Rg} {f : Fm} {c : Cm} (h : errC r f c = none) (hl : 1000000000000000 < f.tk + durC r f c) : obE r f c = some 7 := by unfold obE; rw [h]; simp only [hl, if_true]
theorem obE_none {r : Rg} {f : Fm} {c : Cm} (h : errC r f c = none) (hl : f.tk + durC r f c ≤ 1000000000000000) : obE r f c = none := by unfold obE; rw [h]; simp only [if_neg (show ¬ 1000000000000000 < f.tk + durC r f c by omega)]
section
variable {a : Nat → Addr} {n B M : Nat} {r : Rg} {f : Fm} {c : Cm} {w : World}
theorem home_any (h : Bd B M r f w) (hg : Gl a n w) (hB : n ≤ B) (hM : n ≤ M) (hr : RgOk r) (hf : FmOk r f) (hk : c.k = 1) : Calls Tryd.prog 50 #[ptr B] w (ObP a B M r f c w) := by
  have e1 : errC r f c = none := by unfold errC; simp [hk]
  have e2 : durC r f c = homeT r f := by unfold durC; simp [hk]
  have e3 : obF r f c = { homF f with tk := f.tk + homeT r f } := by unfold obF; rw [if_pos hk, e2]; rfl
  by_cases hl : f.tk + homeT r f ≤ 1000000000000000
  · have ho := obE_none e1 (by rw [e2]; exact hl)
    cases hm : f.hm with
    | true =>
      have ht : homeT r f = tick r f.pt p0 := by unfold homeT; simp [hm]
      refine (home_ch B M r f w h hr hm hf (homeT r f) ht hl).mono fun e w' ⟨h1, h2, h3⟩ => obP_ok ho e3.symm h1 h2 h3
    | false =>
      have ht : homeT r f = tick r r.hi r.lo := by unfold homeT; simp [hm]
      refine (home_cn B M r f w h hr hm hf (homeT r f) ht hl).mono fun e w' ⟨h1, h2, h3⟩ => obP_ok ho e3.symm h1 h2 h3
  · have hl2 : 1000000000000000 < f.tk + homeT r f := by omega
    have ho := obE_late e1 (by rw [e2]; exact hl2)
    cases hm : f.hm with
    | true =>
      have ht : homeT r f = tick r f.pt p0 := by unfold homeT; simp [hm]
      refine (home_dh a n B M r f w h hg hB hM hr hm hf (homeT r f) ht hl2).mono fun e w' ⟨h1, h2, h3⟩ => obP_err ho h1 h2 h3
    | false =>
      have ht : homeT r f = tick r r.hi r.lo := by unfold homeT; simp [hm]
      refine (home_dn a n B M r f w h hg hB hM hr hm hf (homeT r f) ht hl2).mono fun e w' ⟨h1, h2, h3⟩ => obP_err ho h1 h2 h3
theorem goTo_any (h : Bd B M r f w) (hg : Gl a n w) (hB : n ≤ B) (hM : n ≤ M) (hr : RgOk r) (hf : FmOk r f) (hk : c.k = 2) : Calls Tryd.prog 51 #[ptr B, v3 (toP c)] w (ObP a B M r f c w) := by
  have e2 : durC r f c = tick r f.pt (toP c) := by unfold durC; simp [hk]
  have e3 : obF r f c = { f with pt := toP c, tk := f.tk + tick r f.pt (toP c) } := by unfold obF; rw [if_neg (by omega), if_pos hk, e2]
  cases hm : f.hm with
  | false =>
    have e1 : errC r f c = some 3 := by unfold errC; simp [hk, hm]
    exact (goTo_a a n B M r f (toP c) w h hg hm).mono fun e w' ⟨h1, h2, h3⟩ => obP_err (obE_some e1) h1 h2 h3
  | true =>
    cases hp : inS r (toP c) with
    | false =>
      have e1 : errC r f c = some 0 := by unfold errC; simp [hk, hm, hp]
      exact (goTo_b a n B M r f (toP c) w h hg hB hM hm hf.at' hp).mono fun e w' ⟨h1, h2, h3⟩ => obP_err (obE_some e1) h1 h2 h3
    | true =>
      have e1 : errC r f c = none := by unfold errC; simp [hk, hm, hp]
      by_cases hl : f.tk + tick r f.pt (toP c) ≤ 1000000000000000
      · exact (goTo_c B M r f (toP c) w h hr hm hf hp _ rfl hl).mono fun e w' ⟨h1, h2, h3⟩ => obP_ok (obE_none e1 (by rw [e2]; exact hl)) e3.symm h1 h2 h3
      · exact (goTo_d a n B M r f (toP c) w h hg hB hM hr hm hf hp _ rfl (by omega)).mono fun e w' ⟨h1, h2, h3⟩ => obP_err (obE_late e1 (by rw [e2]; omega)) h1 h2 h3
theorem press_any (h : Bd B M r f w) (hg : Gl a n w) (hB : n ≤ B) (hM : n ≤ M) (hr : RgOk r) (hf : FmOk r f) (hk : c.k = 3) (hv0 : 0 ≤ c.v) : Calls Tryd.prog 52 #[ptr B, .int .i64 c.v] w (ObP a B M r f c w) := by
  have e2 : durC r f c = upB (chg f.pl c.v) 1000 := by unfold durC; simp [hk]
  have e3 : obF r f c = { f with pl := c.v, tk := f.tk + upB (chg f.pl c.v) 1000 } := by unfold obF; rw [if_neg (by omega), if_neg (by omega), if_pos hk, e2]
  cases hm : f.hm with
  | false =>
    have e1 : errC r f c = some 3 := by unfold errC; simp [hk, hm]
    exact (press_a a n B M r f w h hg c.v hm).mono fun e w' ⟨h1, h2⟩ => obP_same (obE_some e1) h1 h2 h
  | true =>
    cases ht : f.tp with
    | false =>
      have e1 : errC r f c = some 4 := by unfold errC; simp [hk, hm, ht]
      exact (press_b a n B M r f w h hg c.v hm ht).mono fun e w' ⟨h1, h2⟩ => obP_same (obE_some e1) h1 h2 h
    | true =>
      by_cases hv : r.mo < c.v
      · have e1 : errC r f c = some 6 := by unfold errC; simp [hk, hm, ht, hv]
        exact (press_c a n B M r f w h hg c.v hm ht hv).mono fun e w' ⟨h1, h2⟩ => obP_same (obE_some e1) h1 h2 h
      · have e1 : errC r f c = none := by unfold errC; simp [hk, hm, ht, hv]
        by_cases hl : f.tk + upB (chg f.pl c.v) 1000 ≤ 1000000000000000
        · exact (press_e B M r f w h c.v hr hf hm ht hv0 (by omega) _ rfl hl).mono fun e w' ⟨h1, h2, h3⟩ => obP_ok (obE_none e1 (by rw [e2]; exact hl)) e3.symm h1 h2 h3
        · exact (press_d a n B M r f w h c.v hg hB hM hr hf hm ht hv0 (by omega) _ rfl (by omega)).mono fun e w' ⟨h1, h2, h3⟩ => obP_err (obE_late e1 (by rw [e2]; omega)) h1 h2 h3
theorem grab_any (h : Bd B M r f w) (hg : Gl a n w) (hf : FmOk r f) (hk : c.k = 4) : Calls Tryd.prog 53 #[ptr B] w (ObP a B M r f c w) := by
  have e2 : durC r f c = 0 := by unfold durC; simp [hk]
  have e3 : obF r f c = { f with tp := true, pl := 0 } := by unfold obF; simp [hk]
  cases hm : f.hm with
  | false =>
    have e1 : errC r f c = some 3 := by unfold errC; simp [hk, hm]
    exact (grab_a a n B M r f w h hg hm).mono fun e w' ⟨h1, h2⟩ => obP_same (obE_some e1) h1 h2 h
  | true =>
    cases ht : f.tp with
    | true =>
      have e1 : errC r f c = some 5 := by unfold errC; simp [hk, hm, ht]
      exact (grab_b a n B M r f w h hg hm ht).mono fun e w' ⟨h1, h2⟩ => obP_same (obE_some e1) h1 h2 h
    | false =>
      have e1 : errC r f c = none := by unfold errC; simp [hk, hm, ht]
      exact (grab_c B M r f w h hm ht).mono fun e w' ⟨h1, h2, h3⟩ => obP_ok (obE_none e1 (by have := hf.tk; rw [e2]; omega)) e3.symm h1 h2 h3
theorem eject_any (h : Bd B M r f w) (hg : Gl a n w) (hf : FmOk r f) (hk : c.k = 5) : Calls Tryd.prog 54 #[ptr B] w (ObP a B M r f c w) := by
  have e2 : durC r f c = 0 := by unfold durC; simp [hk]
  have e3 : obF r f c = { f with tp := false, pl := 0 } := by unfold obF; simp [hk]
  cases hm : f.hm with
  | false =>
    have e1 : errC r f c = some 3 := by unfold errC; simp [hk, hm]
    exact (eject_a a n B M r f w h hg hm).mono fun e w' ⟨h1, h2⟩ => obP_same (obE_some e1) h1 h2 h
  | true =>
    cases ht : f.tp with
    | false =>
      have e1 : errC r f c = some 4 := by unfold errC; simp [hk, hm, ht]
      exact (eject_b a n B M r f w h hg hm ht).mono fun e w' ⟨h1, h2⟩ => obP_same (obE_some e1) h1 h2 h
    | true =>
      have e1 : errC r f c = none := by unfold errC; simp [hk, hm, ht]
      exact (eject_c B M r f w h hm ht).mono fun e w' ⟨h1, h2, h3⟩ => obP_ok (obE_none e1 (by have := hf.tk; rw [e2]; omega)) e3.symm h1 h2 h3
theorem pass_any (h : Bd B M r f w) (hg : Gl a n w) (hf : FmOk r f) (hk : c.k = 7) (t : Int) (ht : t = upB (c.v * r.rp.c) 1000) (ht0 : 0 ≤ t) : Calls Tryd.prog 55 #[ptr B, .int .i64 t] w (ObP a B M r f c w) := by
  have e1 : errC r f c = none := by unfold errC; simp [hk]
  have e2 : durC r f c = t := by unfold durC; simp [hk, ht]
  have e3 : obF r f c = { f with tk := f.tk + t } := by unfold obF; simp [hk, e2]
  by_cases hl : f.tk + t ≤ 1000000000000000
  · exact (pass_yes B M r f t w h hf.tk.1 hf.tk.2 ht0 hl).mono fun e w' ⟨h1, h2, h3⟩ => obP_ok (obE_none e1 (by rw [e2]; exact hl)) e3.symm h1 h2 h3
  · exact (pass_no a n B M r f t w h hg hf.tk.1 hf.tk.2 (by omega)).mono fun e w' ⟨h1, h2⟩ => obP_same (obE_late e1 (by rw [e2]; omega)) h1 h2 h
end
theorem ObP.back {a : Nat → Addr} {B M : Nat} {r : Rg} {f : Fm} {c : Cm} {w w1 w2 : World} {e : Ending} (h : ObP a B M r f c w1 e w2) (hk : Kpt (BM B M) w w1) : ObP a B M r f c w e w2 := by
  obtain ⟨h1, f1, h2, h3, h4⟩ := h
  exact ⟨h1, f1, h2, hk.trans h3, h4⟩
set_option maxHeartbeats 6400000 in
set_option maxRecDepth 100000 in
theorem obey_1 (a : Nat → Addr) (n B M : Nat) (r : Rg) (f : Fm) (c : Cm) (w : World) (h : Bd B M r f w) (hg : Gl a n w) (hB : n ≤ B) (hM : n ≤ M) (hr : RgOk r) (hf : FmOk r f) (hk : c.k = 1) : Calls Tryd.prog 36 #[ptr B, cmv c] w (ObP a B M r f c w) := by
  obtain ⟨w0, hw0⟩ : ∃ x, x = w.alloc (cmo c) := ⟨_, rfl⟩
  have HB0 : Hid (Below w.heap.size w w0) := by show Below _ _ _; rw [hw0]; exact one_new _ _
  have KC : Hid (Bk w.heap.size (cmc c) w0) := by show Bk _ _ _; rw [hw0]; exact Bk.new w (cmc c) 31 w.heap.size rfl
  have HD : Hid (Bd B M r f w0) := h.later HB0.out
  have HG : Hid (Gl a n w0) := hg.later HB0.out
  have HC : Hid (Calls Tryd.prog 50 #[ptr B] w0 (ObP a B M r f c w0)) := home_any HD.out HG.out hB hM hr hf hk
  have HK : Hid (c.k = 1) := hk
  obtain ⟨k, x, y, z, v⟩ := c
  simp only at hk
  subst hk
  clear h hg hf
  go_enter Tryd.func36, Tryd.ntmps36
  go_wp2_with fail
  simp only [show w.alloc (.cells #[.int .i64 1, .int .i64 x, .int .i64 y, .int .i64 z, .int .i64 v] 31) = w0 from hw0.symm]
  clear hw0
  refine Calls.mono HC.out ?_
  rintro e w1 hP
  obtain ⟨rfl, f1, hd, hk1, ho⟩ := hP
  have HF := (show Hid (ObP a B M r f ⟨1, x, y, z, v⟩ w (.returned (er a (obE r f ⟨1, x, y, z, v⟩))) w1) from ObP.back ⟨rfl, f1, hd, hk1, ho⟩ (Kpt.of_below HB0.out))
  clear hd hk1 ho
  go_wp2
  go_ret
  exact HF.out
set_option maxHeartbeats 6400000 in
set_option maxRecDepth 100000 in
theorem obey_2 (a : Nat → Addr) (n B M : Nat) (r : Rg) (f : Fm) (c : Cm) (w : World) (h : Bd B M r f w) (hg : Gl a n w) (hB : n ≤ B) (hM : n ≤ M) (hr : RgOk r) (hf : FmOk r f) (hk : c.k = 2) : Calls Tryd.prog 36 #[ptr B, cmv c] w (ObP a B M r f c w) := by
  obtain ⟨w0, hw0⟩ : ∃ x, x = w.alloc (cmo c) := ⟨_, rfl⟩
  have HB0 : Hid (Below w.heap.size w w0) := by show Below _ _ _; rw [hw0]; exact one_new _ _
  have KC : Hid (Bk w.heap.size (cmc c) w0) := by show Bk _ _ _; rw [hw0]; exact Bk.new w (cmc c) 31 w.heap.size rfl
  have HD : Hid (Bd B M r f w0) := h.later HB0.out
  have HG : Hid (Gl a n w0) := hg.later HB0.out
  have HC : Hid (Calls Tryd.prog 51 #[ptr B, v3 (toP c)] w0 (ObP a B M r f c w0)) := goTo_any HD.out HG.out hB hM hr hf hk
  have HK : Hid (c.k = 2) := hk
  obtain ⟨k, x, y, z, v⟩ := c
  simp only at hk
  subst hk
  clear h hg hf
  go_enter Tryd.func36, Tryd.ntmps36
  go_wp2_with fail
  simp only [show w.alloc (.cells #[.int .i64 2, .int .i64 x, .int .i64 y, .int .i64 z, .int .i64 v] 31) = w0 from hw0.symm]
  clear hw0
  refine Calls.mono HC.out ?_
  rintro e w1 hP
  obtain ⟨rfl, f1, hd, hk1, ho⟩ := hP
  have HF := (show Hid (ObP a B M r f ⟨2, x, y, z, v⟩ w (.returned (er a (obE r f ⟨2, x, y, z, v⟩))) w1) from ObP.back ⟨rfl, f1, hd, hk1, ho⟩ (Kpt.of_below HB0.out))
  clear hd hk1 ho
  go_wp2
  go_ret
  exact HF.out
set_option maxHeartbeats 6400000 in
set_option maxRecDepth 100000 in
theorem obey_3 (a : Nat → Addr) (n B M : Nat) (r : Rg) (f : Fm) (c : Cm) (w : World) (h : Bd B M r f w) (hg : Gl a n w) (hB : n ≤ B) (hM : n ≤ M) (hr : RgOk r) (hf : FmOk r f) (hk : c.k = 3) (hv : 0 ≤ c.v ∧ c.v ≤ 1000000000) : Calls Tryd.prog 36 #[ptr B, cmv c] w (ObP a B M r f c w) := by
  obtain ⟨w0, hw0⟩ : ∃ x, x = w.alloc (cmo c) := ⟨_, rfl⟩
  have HB0 : Hid (Below w.heap.size w w0) := by show Below _ _ _; rw [hw0]; exact one_new _ _
  have KC : Hid (Bk w.heap.size (cmc c) w0) := by show Bk _ _ _; rw [hw0]; exact Bk.new w (cmc c) 31 w.heap.size rfl
  have HD : Hid (Bd B M r f w0) := h.later HB0.out
  have HG : Hid (Gl a n w0) := hg.later HB0.out
  have HC : Hid (Calls Tryd.prog 52 #[ptr B, .int .i64 c.v] w0 (ObP a B M r f c w0)) := press_any HD.out HG.out hB hM hr hf hk hv.1
  have HK : Hid (c.k = 3) := hk
  obtain ⟨k, x, y, z, v⟩ := c
  simp only at hk
  subst hk
  clear h hg hf
  go_enter Tryd.func36, Tryd.ntmps36
  go_wp2_with fail
  simp only [show w.alloc (.cells #[.int .i64 3, .int .i64 x, .int .i64 y, .int .i64 z, .int .i64 v] 31) = w0 from hw0.symm]
  clear hw0
  refine Calls.mono HC.out ?_
  rintro e w1 hP
  obtain ⟨rfl, f1, hd, hk1, ho⟩ := hP
  have HF := (show Hid (ObP a B M r f ⟨3, x, y, z, v⟩ w (.returned (er a (obE r f ⟨3, x, y, z, v⟩))) w1) from ObP.back ⟨rfl, f1, hd, hk1, ho⟩ (Kpt.of_below HB0.out))
  clear hd hk1 ho
  go_wp2
  go_ret
  exact HF.out
set_option maxHeartbeats 6400000 in
set_option maxRecDepth 100000 in
theorem obey_4 (a : Nat → Addr) (n B M : Nat) (r : Rg) (f : Fm) (c : Cm) (w : World) (h : Bd B M r f w) (hg : Gl a n w) (hf : FmOk r f) (hk : c.k = 4) : Calls Tryd.prog 36 #[ptr B, cmv c] w (ObP a B M r f c w) := by
  obtain ⟨w0, hw0⟩ : ∃ x, x = w.alloc (cmo c) := ⟨_, rfl⟩
  have HB0 : Hid (Below w.heap.size w w0) := by show Below _ _ _; rw [hw0]; exact one_new _ _
  have KC : Hid (Bk w.heap.size (cmc c) w0) := by show Bk _ _ _; rw [hw0]; exact Bk.new w (cmc c) 31 w.heap.size rfl
  have HD : Hid (Bd B M r f w0) := h.later HB0.out
  have HG : Hid (Gl a n w0) := hg.later HB0.out
  have HC : Hid (Calls Tryd.prog 53 #[ptr B] w0 (ObP a B M r f c w0)) := grab_any HD.out HG.out hf hk
  have HK : Hid (c.k = 4) := hk
  obtain ⟨k, x, y, z, v⟩ := c
  simp only at hk
  subst hk
  clear h hg hf
  go_enter Tryd.func36, Tryd.ntmps36
  go_wp2_with fail
  simp only [show w.alloc (.cells #[.int .i64 4, .int .i64 x, .int .i64 y, .int .i64 z, .int .i64 v] 31) = w0 from hw0.symm]
  clear hw0
  refine Calls.mono HC.out ?_
  rintro e w1 hP
  obtain ⟨rfl, f1, hd, hk1, ho⟩ := hP
  have HF := (show Hid (ObP a B M r f ⟨4, x, y, z, v⟩ w (.returned (er a (obE r f ⟨4, x, y, z, v⟩))) w1) from ObP.back ⟨rfl, f1, hd, hk1, ho⟩ (Kpt.of_below HB0.out))
  clear hd hk1 ho
  go_wp2
  go_ret
  exact HF.out
set_option maxHeartbeats 6400000 in
set_option maxRecDepth 100000 in
theorem obey_5 (a : Nat → Addr) (n B M : Nat) (r : Rg) (f : Fm) (c : Cm) (w : World) (h : Bd B M r f w) (hg : Gl a n w) (hf : FmOk r f) (hk : c.k = 5) : Calls Tryd.prog 36 #[ptr B, cmv c] w (ObP a B M r f c w) := by
  obtain ⟨w0, hw0⟩ : ∃ x, x = w.alloc (cmo c) := ⟨_, rfl⟩
  have HB0 : Hid (Below w.heap.size w w0) := by show Below _ _ _; rw [hw0]; exact one_new _ _
  have KC : Hid (Bk w.heap.size (cmc c) w0) := by show Bk _ _ _; rw [hw0]; exact Bk.new w (cmc c) 31 w.heap.size rfl
  have HD : Hid (Bd B M r f w0) := h.later HB0.out
  have HG : Hid (Gl a n w0) := hg.later HB0.out
  have HC : Hid (Calls Tryd.prog 54 #[ptr B] w0 (ObP a B M r f c w0)) := eject_any HD.out HG.out hf hk
  have HK : Hid (c.k = 5) := hk
  obtain ⟨k, x, y, z, v⟩ := c
  simp only at hk
  subst hk
  clear h hg hf
  go_enter Tryd.func36, Tryd.ntmps36
  go_wp2_with fail
  simp only [show w.alloc (.cells #[.int .i64 5, .int .i64 x, .int .i64 y, .int .i64 z, .int .i64 v] 31) = w0 from hw0.symm]
  clear hw0
  refine Calls.mono HC.out ?_
  rintro e w1 hP
  obtain ⟨rfl, f1, hd, hk1, ho⟩ := hP
  have HF := (show Hid (ObP a B M r f ⟨5, x, y, z, v⟩ w (.returned (er a (obE r f ⟨5, x, y, z, v⟩))) w1) from ObP.back ⟨rfl, f1, hd, hk1, ho⟩ (Kpt.of_below HB0.out))
  clear hd hk1 ho
  go_wp2
  go_ret
  exact HF.out
set_option maxHeartbeats 6400000 in
set_option maxRecDepth 100000 in
theorem obey_6 (a : Nat → Addr) (B M : Nat) (r : Rg) (f : Fm) (c : Cm) (w : World) (h : Bd B M r f w) (hf : FmOk r f) (hk : c.k = 6) : Calls Tryd.prog 36 #[ptr B, cmv c] w (ObP a B M r f c w) := by
  have e1 : errC r f c = none := by unfold errC; simp [hk]
  have e2 : durC r f c = 0 := by unfold durC; simp [hk]
  have e3 : obF r f c = { f with ht := c.v } := by unfold obF; simp [hk]
  have ho := obE_none e1 (by have := hf.tk; rw [e2]; omega)
  have q18 := h.bk.c 18 rfl
  have z18 := h.bk.f 18 rfl
  have hBw : B < w.heap.size := h.bk.1
  obtain ⟨h1, k1⟩ := h.set 18 (.int .i64 c.v) (f' := { f with ht := c.v }) rfl
  have HF := (show Hid (ObP a B M r f c w (.returned .nilIface) ((w.setCell ⟨B, 18, none⟩ (.int .i64 c.v)).alloc (cmo c))) from obP_ok ho e3.symm rfl (h1.later (one_new _ _)) (k1.onB (one_new _ _)))
  clear h hf h1 k1 ho e1 e2 e3
  obtain ⟨k, x, y, z, v⟩ := c
  simp only at hk
  subst hk
  go_enter Tryd.func36, Tryd.ntmps36
  go_wp2
  go_ret
  exact HF.out
set_option maxHeartbeats 6400000 in
set_option maxRecDepth 100000 in
theorem obey_8 (a : Nat → Addr) (B M : Nat) (r : Rg) (f : Fm) (c : Cm) (w : World) (h : Bd B M r f w) (hf : FmOk r f) (hk : c.k = 8) : Calls Tryd.prog 36 #[ptr B, cmv c] w (ObP a B M r f c w) := by
  have e1 : errC r f c = none := by unfold errC; simp [hk]
  have e2 : durC r f c = 0 := by unfold durC; simp [hk]
  have e3 : obF r f c = { f with tu := c.v } := by unfold obF; simp [hk]
  have ho := obE_none e1 (by have := hf.tk; rw [e2]; omega)
  have q19 := h.bk.c 19 rfl
  have z19 := h.bk.f 19 rfl
  have hBw : B < w.heap.size := h.bk.1
  obtain ⟨h1, k1⟩ := h.set 19 (.int .i64 c.v) (f' := { f with tu := c.v }) rfl
  have HF := (show Hid (ObP a B M r f c w (.returned .nilIface) ((w.setCell ⟨B, 19, none⟩ (.int .i64 c.v)).alloc (cmo c))) from obP_ok ho e3.symm rfl (h1.later (one_new _ _)) (k1.onB (one_new _ _)))
  clear h hf h1 k1 ho e1 e2 e3
  obtain ⟨k, x, y, z, v⟩ := c
  simp only at hk
  subst hk
  go_enter Tryd.func36, Tryd.ntmps36
  go_wp2
  go_ret
  exact HF.out
set_option linter.unusedVariables false in
def orV (B C : Nat) (r : Rg) (u m t : Int) (d : Nat) (v : Value) (_ : World) : Prop :=
  match d with
  | 46 => v = .pointer (some ⟨B, 0, none⟩)
  | 47 => v = .pointer (some ⟨C, 4, none⟩)
  | 48 => v = .int .i64 u
  | 49 => v = .pointer (some ⟨B, 0, none⟩)
  | 50 => v = .pointer (some ⟨B, 0, none⟩)
  | 51 => v = .pointer (some ⟨B, 0, none⟩)
  | 52 => v = .pointer (some ⟨B, 6, none⟩)
  | 53 => v = .pointer (some ⟨B, 6, none⟩)
  | 54 => v = .int .i64 r.rp.c
  | 55 => v = .int .i64 m
  | 56 => v = .int .i64 t
  | _ => True
set_option linter.unusedVariables false in
theorem orV_mono (B C : Nat) (r : Rg) (u m t : Int) (d : Nat) (v : Value) (w w' : World) (h : orV B C r u m t d v w) (_ : Below w.heap.size w w') : orV B C r u m t d v w' := h
set_option maxHeartbeats 6400000 in
set_option maxRecDepth 100000 in
theorem obey_7 (a : Nat → Addr) (n B M : Nat) (r : Rg) (f : Fm) (c : Cm) (w : World) (h : Bd B M r f w) (hg : Gl a n w) (hr : RgOk r) (hf : FmOk r f) (hk : c.k = 7) (hv : 0 ≤ c.v ∧ c.v ≤ 1000000000) : Calls Tryd.prog 36 #[ptr B, cmv c] w (ObP a B M r f c w) := by
  obtain ⟨t, ht⟩ : ∃ t, t = upB (c.v * r.rp.c) 1000 := ⟨_, rfl⟩
  obtain ⟨m, hm⟩ : ∃ m, m = c.v * r.rp.c := ⟨_, rfl⟩
  have hrp := rpOk_iff.1 hr.rp
  have hm0 : 0 ≤ m := by rw [hm]; exact Int.mul_nonneg hv.1 (by omega)
  have hm1 : m ≤ 100000000000000000 := by
    rw [hm]
    exact Int.le_trans (Int.mul_le_mul_of_nonneg_right hv.2 (by omega)) (by omega)
  have ht0 : 0 ≤ t := by rw [ht, ← hm]; exact (upB_bd hm0 (by omega)).1
  have HU : Hid (∀ W, Calls Tryd.prog 38 #[.int .i64 m, .int .i64 1000] W fun e w' => e = .returned (.int .i64 t) ∧ w' = W) := fun W => by rw [ht, ← hm]; exact upBy_any m 1000 W hm0 (by omega) (by omega) (by omega)
  obtain ⟨w0, hw0⟩ : ∃ x, x = w.alloc (cmo c) := ⟨_, rfl⟩
  have HB0 : Hid (Below w.heap.size w w0) := by show Below _ _ _; rw [hw0]; exact one_new _ _
  have KC : Hid (Bk w.heap.size (cmc c) w0) := by show Bk _ _ _; rw [hw0]; exact Bk.new w (cmc c) 31 w.heap.size rfl
  have HD : Hid (Bd B M r f w0) := h.later HB0.out
  have HG : Hid (Gl a n w0) := hg.later HB0.out
  have HP : Hid (∀ W, Below w0.heap.size w0 W → Calls Tryd.prog 55 #[ptr B, .int .i64 t] W (ObP a B M r f c W)) := fun W hb => pass_any (HD.out.later hb) (HG.out.later hb) hf hk t ht ht0
  have KB : Hid (Bk B (bdc r f M) w0) := HD.out.bk
  obtain ⟨C, hC⟩ : ∃ b, b = w.heap.size := ⟨_, rfl⟩
  rw [← hC] at KC
  obtain ⟨k, x, y, z, u⟩ := c
  simp only at hk hm hv
  subst hk
  have HM : Hid (m = u * r.rp.c) := hm
  have HMW : Hid (IntKind.i64.wrap (u * r.rp.c) = m) := by show _ = _; rw [← hm]; exact wrap_in (by omega) (by omega)
  clear h hg hf hr hrp ht ht0 hm hm0 hm1
  go_enter Tryd.func36, Tryd.ntmps36
  go_wp2_with fail
  simp only [show w.alloc (.cells #[.int .i64 7, .int .i64 x, .int .i64 y, .int .i64 z, .int .i64 u] 31) = w0 from hw0.symm, ← hC]
  clear hw0 hC
  rename_i KK hkk
  have HKK := (show Hid _ from hkk)
  clear hkk
  refine region_seq 11 [false, false, false, false, false, false, false, false, false, false, false, false, false, false, false, false, false, false, false, false, false, false, false, false, false, false, false, false, false, false, false, false, false, false, false, false, false, false, false, false, false, false, false, false, false, false, true, true, true, true, true, true, true, true, true, true, true, false, false, false, false, false, false, false, false, false]
    [(46, [], none), (47, [], none), (48, [47], none), (49, [], none), (50, [49], none), (51, [50], none), (52, [51], none), (53, [52], none), (54, [53], none), (55, [48, 54], none), (56, [55], none)]
    (orV B C r u m t) (by kernel_rfl) (by kernel_rfl) (by kernel_rfl) (by kernel_rfl) (by kernel_rfl) (by decide) (orV_mono B C r u m t) ?_ ?_
  · refine ⟨?_, ?_, ?_, ?_, ?_, ?_, ?_, ?_, ?_, ?_, ?_, trivial⟩
    · intro f w1 hb _ K hK
      simp only [over, overL, Nat.reduceAdd]
      go_simp
      exact hK _ _ ⟨_, rfl, by simp only [over, overL, Nat.reduceAdd]; rfl, Below.refl _ _⟩
    · intro f w1 hb _ K hK
      simp only [over, overL, Nat.reduceAdd]
      go_simp
      exact hK _ _ ⟨_, rfl, by simp only [over, overL, Nat.reduceAdd]; rfl, Below.refl _ _⟩
    · intro f w1 hb ⟨h47, _⟩ K hK
      replace h47 : f 47 = _ := h47
      have q4 := (KC.out.later hb).c 4 rfl
      simp only [over, overL, Nat.reduceAdd, h47]
      go_simp
      exact hK _ _ ⟨_, rfl, by simp only [over, overL, Nat.reduceAdd, h47]; rfl, Below.refl _ _⟩
    · intro f w1 hb _ K hK
      simp only [over, overL, Nat.reduceAdd]
      go_simp
      exact hK _ _ ⟨_, rfl, by simp only [over, overL, Nat.reduceAdd]; rfl, Below.refl _ _⟩
    · intro f w1 hb ⟨h49, _⟩ K hK
      replace h49 : f 49 = _ := h49
      simp only [over, overL, Nat.reduceAdd, h49]
      go_simp
      exact hK _ _ ⟨_, rfl, by simp only [over, overL, Nat.reduceAdd, h49]; rfl, Below.refl _ _⟩
    · intro f w1 hb ⟨h50, _⟩ K hK
      replace h50 : f 50 = _ := h50
      simp only [over, overL, Nat.reduceAdd, h50]
      go_simp
      exact hK _ _ ⟨_, rfl, by simp only [over, overL, Nat.reduceAdd, h50]; rfl, Below.refl _ _⟩
    · intro f w1 hb ⟨h51, _⟩ K hK
      replace h51 : f 51 = _ := h51
      simp only [over, overL, Nat.reduceAdd, h51]
      go_simp
      exact hK _ _ ⟨_, rfl, by simp only [over, overL, Nat.reduceAdd, h51]; rfl, Below.refl _ _⟩
    · intro f w1 hb ⟨h52, _⟩ K hK
      replace h52 : f 52 = _ := h52
      simp only [over, overL, Nat.reduceAdd, h52]
      go_simp
      exact hK _ _ ⟨_, rfl, by simp only [over, overL, Nat.reduceAdd, h52]; rfl, Below.refl _ _⟩
    · intro f w1 hb ⟨h53, _⟩ K hK
      replace h53 : f 53 = _ := h53
      have q6 := (KB.out.later hb).c 6 rfl
      simp only [over, overL, Nat.reduceAdd, h53]
      go_simp
      exact hK _ _ ⟨_, rfl, by simp only [over, overL, Nat.reduceAdd, h53]; rfl, Below.refl _ _⟩
    · intro f w1 hb ⟨h48, h54, _⟩ K hK
      replace h48 : f 48 = _ := h48
      replace h54 : f 54 = _ := h54
      simp only [over, overL, Nat.reduceAdd, h48, h54]
      go_simp
      exact hK _ _ ⟨_, (congrArg (Value.int .i64) HMW.out), by simp only [over, overL, Nat.reduceAdd, h48, h54]; rfl, Below.refl _ _⟩
    · intro f w1 hb ⟨h55, _⟩ K hK
      replace h55 : f 55 = _ := h55
      simp only [over, overL, Nat.reduceAdd, h55]
      go_simp
      refine (HU.out _).mono ?_
      rintro e w2 ⟨rfl, hb2⟩
      exact hK _ _ ⟨_, rfl, by simp only [over, overL, Nat.reduceAdd, h55]; rfl, by rw [hb2]; exact Below.refl _ _⟩
  · intro fr w1 hb1 hv
    have h46 : fr 46 = ptr B := hv.1
    have h56 : fr 56 = .int .i64 t := hv.2.2.2.2.2.2.2.2.2.2.1
    have HK1 : Hid (Kpt (BM B M) w w1) := Kpt.of_below (below_on HB0.out hb1)
    have HP1 := (show Hid _ from HP.out w1 hb1)
    simp only [over_eq, overL, h46, h56, Nat.reduceAdd]
    clear hv h46 h56 hb1
    go_wp2_with fail
    refine Calls.mono HP1.out ?_
    rintro e w2 hP
    obtain ⟨rfl, f1, hd, hk1, ho⟩ := hP
    have HF := (show Hid (ObP a B M r f ⟨7, x, y, z, u⟩ w (.returned (er a (obE r f ⟨7, x, y, z, u⟩))) w2) from ObP.back ⟨rfl, f1, hd, hk1, ho⟩ HK1.out)
    clear hd hk1 ho
    go_wp2
    refine HKK.out _ _ ?_
    go_wp2
    go_ret
    exact HF.out
end Go.Proofs.YtgahlhfgpkklaaaDoor
