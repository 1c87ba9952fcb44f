/- cmp.Compare, cmp.Or, byPlace walked. -/
import Derived.Test.YtjappkfhballhaaGreatMI
import Derived.Test.YtjappkfhballhaaGreatSeqG
namespace Go.Proofs.YtjappkfhballhaaGreat
open Go.RowKit

def Apart (s t : Nat) (f : Nat → Value) (w : World) : Prop :=
  (∀ b, f s = ptr b → b < w.heap.size) ∧ (∀ b, f t = ptr b → b < w.heap.size) ∧ (∀ b, f s = ptr b → f t = ptr b → False)
theorem Apart.same {s t : Nat} {f : Nat → Value} {w w' : World} (h : Apart s t f w) (hs : w'.heap.size = w.heap.size) : Apart s t f w' := by
  unfold Apart
  rw [hs]
  exact h
theorem Apart.other {s t d : Nat} {f : Nat → Value} {w w' : World} {v : Value} (h : Apart s t f w) (hs : s ≠ d) (ht : t ≠ d) (hb : Below w.heap.size w w') : Apart s t (upd f d v) w' := by
  unfold Apart
  rw [upd_other hs, upd_other ht]
  exact ⟨fun b e => Nat.lt_of_lt_of_le (h.1 b e) hb.size, fun b e => Nat.lt_of_lt_of_le (h.2.1 b e) hb.size, h.2.2⟩
theorem Apart.left {s t : Nat} {f : Nat → Value} {w : World} {o : Obj} (h : Apart s t f w) (hst : t ≠ s) : Apart s t (upd f s (ptr w.heap.size)) (w.alloc o) := by
  unfold Apart
  rw [upd_same, upd_other hst]
  refine ⟨fun b e => ?_, fun b e => ?_, fun b e e2 => ?_⟩
  · simp at e; subst e; simp
  · have := h.2.1 b e; simp; omega
  · simp at e; subst e; have := h.2.1 _ e2; omega
theorem Apart.right {s t : Nat} {f : Nat → Value} {w : World} {o : Obj} (h : Apart s t f w) (hst : s ≠ t) : Apart s t (upd f t (ptr w.heap.size)) (w.alloc o) := by
  unfold Apart
  rw [upd_same, upd_other hst]
  refine ⟨fun b e => ?_, fun b e => ?_, fun b e e2 => ?_⟩
  · have := h.1 b e; simp; omega
  · simp at e; subst e; simp
  · simp at e2; subst e2; have := h.1 _ e; omega

theorem below_on {w w1 w2 : World} (h : Below w.heap.size w w1) (h2 : Below w1.heap.size w1 w2) : Below w.heap.size w w2 := h.trans (h2.mono h.size)
def cmpI (x y : Int) : Int := if x < y then -1 else if y < x then 1 else 0
theorem isNaN_any (x : Int) (w : World) : Calls Tryz.prog 134 #[.int .i64 x] w fun e w' => e = .returned (.bool false) ∧ w' = w := by
  go_enter Tryz.func134, Tryz.ntmps134
  go_wp2
  go_ret
  exact ⟨rfl, rfl⟩
set_option maxHeartbeats 1600000 in
theorem compare_any (x y : Int) (w : World) : Calls Tryz.prog 108 #[.int .i64 x, .int .i64 y] w fun e w' => e = .returned (.int .i64 (cmpI x y)) ∧ w' = w := by
  by_cases h : x < y
  · have HR : Hid (cmpI x y = -1) := if_pos h
    go_enter Tryz.func108, Tryz.ntmps108
    go_wp2_with fail
    refine (isNaN_any x _).mono ?_
    rintro e w1 ⟨rfl, rfl⟩
    go_wp2_with fail
    refine (isNaN_any y _).mono ?_
    rintro e w1 ⟨rfl, rfl⟩
    go_wp2
    go_ret
    exact ⟨ret_int HR.out.symm, rfl⟩
  · by_cases h2 : y < x
    · have HR : Hid (cmpI x y = 1) := by show cmpI x y = 1; rw [cmpI, if_neg h, if_pos h2]
      go_enter Tryz.func108, Tryz.ntmps108
      go_wp2_with fail
      refine (isNaN_any x _).mono ?_
      rintro e w1 ⟨rfl, rfl⟩
      go_wp2_with fail
      refine (isNaN_any y _).mono ?_
      rintro e w1 ⟨rfl, rfl⟩
      go_wp2
      go_ret
      exact ⟨ret_int HR.out.symm, rfl⟩
    · have HR : Hid (cmpI x y = 0) := by show cmpI x y = 0; rw [cmpI, if_neg h, if_neg h2]
      go_enter Tryz.func108, Tryz.ntmps108
      go_wp2_with fail
      refine (isNaN_any x _).mono ?_
      rintro e w1 ⟨rfl, rfl⟩
      go_wp2_with fail
      refine (isNaN_any y _).mono ?_
      rintro e w1 ⟨rfl, rfl⟩
      go_wp2
      go_ret
      exact ⟨ret_int HR.out.symm, rfl⟩
theorem compare_r (x y r : Int) (h : cmpI x y = r) (w : World) : Calls Tryz.prog 108 #[.int .i64 x, .int .i64 y] w fun e w' => e = .returned (.int .i64 r) ∧ w' = w := by
  rw [← h]; exact compare_any x y w
set_option maxHeartbeats 1600000 in
theorem cmpOrI_any (b cap : Nat) (xs : List Int) (w : World) (hl : xs.length ≤ 100) (hc : ∀ k (h : k < xs.length), w.cell? ⟨b, k, none⟩ = some (.int .i64 (xs[k]'h))) :
    Calls Tryz.prog 107 #[.slice (some ⟨b, 0, none⟩) xs.length cap] w fun e w' => e = .returned (.int .i64 (orL xs)) ∧ w' = w := by
  have HC : Hid (∀ k (h : k < xs.length), w.cell? ⟨b, k, none⟩ = some (.int .i64 (xs[k]'h))) := hc
  clear hc
  go_enter Tryz.func107, Tryz.ntmps107
  go_wp2
  go_loopw [5, 8] (fun _ i wr => ∃ k : Nat, k ≤ xs.length ∧ i = .int .i64 k ∧ (∀ n ∈ xs.take k, n = 0) ∧ wr = w) (fun _ i _ => xs.length - (intOf i).toNat)
  case atStart => exact ⟨0, Nat.zero_le _, rfl, (fun f hf => by simp at hf), rfl⟩
  case round =>
    obtain ⟨k, hk, rfl, hok, rfl⟩ := hrel
    have HO : Hid (∀ n ∈ xs.take k, n = 0) := hok
    clear hok
    by_cases hlt : k < xs.length
    · have c0 := HC.out k hlt
      have HHit : Hid (xs[k]'hlt ≠ 0 → orL xs = xs[k]'hlt) := orL_at hlt HO.out
      have HMiss : Hid (xs[k]'hlt = 0 → ∀ n ∈ xs.take (k + 1), n = 0) := fun h n hn => by
        rw [List.take_succ_eq_append_getElem hlt] at hn
        rcases List.mem_append.1 hn with hn | hn
        · exact HO.out n hn
        · simp at hn; rw [hn]; exact h
      generalize xs[k]'hlt = a at *
      by_cases ha : a = 0
      · have hne : (a != 0) = false := by simp [ha]
        have HM := (show Hid _ from HMiss.out ha)
        clear ha
        go_wp2
        go_roundw
        case rel => exact ⟨k + 1, by omega, by go_num, HM.out, by trivial⟩
        case measure => simp [intOf]; omega
      · have hne : (a != 0) = true := by simp [ha]
        have HM := (show Hid _ from HHit.out ha)
        clear ha
        go_wp2
        go_ret
        exact ⟨ret_int HM.out.symm, rfl⟩
    · go_wp2
      go_ret
      exact ⟨ret_int (orL_zero fun n hn => HO.out n (by rw [List.take_of_length_le (by omega)]; exact hn)).symm, rfl⟩

theorem cmpOrI_is (xs : List Int) (r : Int) (hr : orL xs = r) (v : Value) (w : World) (hl : xs.length ≤ 100) (h : IsInts xs v w) :
    Calls Tryz.prog 107 #[v] w fun e w' => e = .returned (.int .i64 r) ∧ w' = w := by
  subst hr
  obtain ⟨b, rfl, hc⟩ := h
  refine cmpOrI_any b xs.length xs w hl fun k hk => ?_
  rw [hc k hk, List.getD_eq_getElem?_getD, List.getElem?_eq_getElem hk]; rfl
/-- How two places compare. -/
def cmpP (p q : Plc) : Int := orL [cmpI p.1 q.1, cmpI p.2.2 q.2.2, cmpI p.2.1 q.2.1]
theorem cmpI_lt {x y : Int} (h : x < y) : cmpI x y = -1 := if_pos h
theorem cmpI_eq (x : Int) : cmpI x x = 0 := by simp [cmpI]
theorem cmpI_gt {x y : Int} (h : y < x) : cmpI x y = 1 := by rw [cmpI, if_neg (by omega), if_pos h]
theorem cmpP_lt (p q : Plc) : decide (cmpP p q < 0) = pltB p q := by
  rw [Bool.eq_iff_iff, plt_iff, decide_eq_true_eq]
  unfold cmpP
  rcases Int.lt_trichotomy p.1 q.1 with h | h | h
  · rw [cmpI_lt h]; simp [orL]; omega
  · rw [h, cmpI_eq]
    rcases Int.lt_trichotomy p.2.2 q.2.2 with h2 | h2 | h2
    · rw [cmpI_lt h2]; simp [orL]; omega
    · rw [h2, cmpI_eq]
      rcases Int.lt_trichotomy p.2.1 q.2.1 with h3 | h3 | h3
      · rw [cmpI_lt h3]; simp [orL]; omega
      · rw [h3, cmpI_eq]; simp [orL]
      · rw [cmpI_gt h3]; simp [orL]; omega
    · rw [cmpI_gt h2]; simp [orL]; omega
  · rw [cmpI_gt h]; simp [orL]; omega
abbrev pcl (p : Plc) : List Value := [.int .i64 p.1, .int .i64 p.2.1, .int .i64 p.2.2]
abbrev P3 (w : World) (B : Nat) (p : Plc) : World := ((w.setCell ⟨B, 0, none⟩ (.int .i64 p.1)).setCell ⟨B, 1, none⟩ (.int .i64 p.2.1)).setCell ⟨B, 2, none⟩ (.int .i64 p.2.2)
theorem Bk.put3 {B : Nat} {u0 u1 u2 : Value} {w : World} (h : Bk B [u0, u1, u2] w) (p : Plc) : Bk B (pcl p) (P3 w B p) := ((h.put 0 (.int .i64 p.1)).put 1 (.int .i64 p.2.1)).put 2 (.int .i64 p.2.2)
theorem Bk.oth3 {b B : Nat} {cs : List Value} {w : World} (h : Bk b cs w) (hn : b ≠ B) (p : Plc) : Bk b cs (P3 w B p) := ((h.other hn 0 _).other hn 1 _).other hn 2 _
def bpV (A B m : Nat) (p q : Plc) (i : Nat) (l : List Value) (w : World) : Prop :=
  match i, l with
  | 0, [v] => v = .pointer (some ⟨A, 0, none⟩)
  | 1, [v] => v = plv p
  | 2, [v] => v = .pointer (some ⟨B, 0, none⟩)
  | 3, [v] => v = plv q
  | 4, [v] => ∃ b, v = ptr b ∧ m ≤ b ∧ ∃ u0 u1 u2, Bk b [u0, u1, u2] w
  | 5, [v] => ∃ b, v = ptr b ∧ m ≤ b ∧ ∃ u0 u1 u2, Bk b [u0, u1, u2] w
  | 6, [v] => ∃ b, v = ptr b ∧ Bk b (pcl p) w
  | 7, [v] => ∃ b, v = ptr b ∧ Bk b (pcl q) w
  | _, _ => True
theorem bpV_mono (A B m : Nat) (p q : Plc) (i : Nat) (l : List Value) (w w' : World) (h : bpV A B m p q i l w) (hb : Below w.heap.size w w') : bpV A B m p q i l w' := by
  unfold bpV at h ⊢
  split <;> simp only [] at h <;> first | exact h | (obtain ⟨b, h1, h2, u0, u1, u2, h3⟩ := h; exact ⟨b, h1, h2, u0, u1, u2, h3.later hb⟩) | (obtain ⟨b, h1, h3⟩ := h; exact ⟨b, h1, h3.later hb⟩)
def bpP : GPlan := [([], [7], none), ([0], [8], none), ([], [9], none), ([2], [10], none), ([], [5], none), ([], [6], none), ([4, 1], [5], none), ([5, 3], [6], none)]
theorem bp_store5 {A B m : Nat} {p q : Plc} {f : Nat → Value} {w : World} {b : Nat} {u0 u1 u2 : Value} (hJ : Apart 5 6 f w) (hs : f 5 = ptr b) (AB : Bk b [u0, u1, u2] w) :
    ∀ j, bpV A B m p q j ((menOf bpP j).map f) w → bpV A B m p q j ((menOf bpP j).map f) (P3 w b p)
  | 0, h => h
  | 1, h => h
  | 2, h => h
  | 3, h => h
  | 4, ⟨b2, h2, h3, _⟩ => by
    obtain rfl : b2 = b := by have := (show f 5 = ptr b2 from h2).symm.trans hs; simpa using this
    exact ⟨b2, h2, h3, _, _, _, AB.put3 p⟩
  | 5, ⟨b2, h2, h3, v0, v1, v2, h4⟩ => ⟨b2, h2, h3, v0, v1, v2, h4.oth3 (fun e => hJ.2.2 b (by exact hs) (by rw [← e]; exact h2)) p⟩
  | 6, _ => ⟨b, hs, AB.put3 p⟩
  | 7, ⟨b2, h2, h4⟩ => ⟨b2, h2, h4.oth3 (fun e => hJ.2.2 b (by exact hs) (by rw [← e]; exact h2)) p⟩
  | j + 8, _ => by simp [menOf, bpP, bpV]
theorem bp_store6 {A B m : Nat} {p q : Plc} {f : Nat → Value} {w : World} {b : Nat} {u0 u1 u2 : Value} (hJ : Apart 5 6 f w) (hs : f 6 = ptr b) (AB : Bk b [u0, u1, u2] w) :
    ∀ j, bpV A B m p q j ((menOf bpP j).map f) w → bpV A B m p q j ((menOf bpP j).map f) (P3 w b q)
  | 0, h => h
  | 1, h => h
  | 2, h => h
  | 3, h => h
  | 4, ⟨b2, h2, h3, v0, v1, v2, h4⟩ => ⟨b2, h2, h3, v0, v1, v2, h4.oth3 (fun e => hJ.2.2 b (by rw [← e]; exact h2) (by exact hs)) q⟩
  | 5, ⟨b2, h2, h3, _⟩ => by
    obtain rfl : b2 = b := by have := (show f 6 = ptr b2 from h2).symm.trans hs; simpa using this
    exact ⟨b2, h2, h3, _, _, _, AB.put3 q⟩
  | 6, ⟨b2, h2, h4⟩ => ⟨b2, h2, h4.oth3 (fun e => hJ.2.2 b (by rw [← e]; exact h2) (by exact hs)) q⟩
  | 7, _ => ⟨b, hs, AB.put3 q⟩
  | j + 8, _ => by simp [menOf, bpP, bpV]
def bqV (P Q : Nat) (xp yp : Plc) (a b c r : Int) (i : Nat) (l : List Value) (w : World) : Prop :=
  match i, l with
  | 0, [v] => v = .pointer (some ⟨P, 0, none⟩)
  | 1, [v] => v = .int .i64 xp.1
  | 2, [v] => v = .pointer (some ⟨Q, 0, none⟩)
  | 3, [v] => v = .int .i64 yp.1
  | 4, [v] => v = .int .i64 a
  | 5, [v] => v = .pointer (some ⟨P, 1, none⟩)
  | 6, [v] => v = .pointer (some ⟨P, 2, none⟩)
  | 7, [v] => v = .int .i64 xp.2.2
  | 8, [v] => v = .pointer (some ⟨Q, 1, none⟩)
  | 9, [v] => v = .pointer (some ⟨Q, 2, none⟩)
  | 10, [v] => v = .int .i64 yp.2.2
  | 11, [v] => v = .int .i64 b
  | 12, [v] => v = .pointer (some ⟨P, 1, none⟩)
  | 13, [v] => v = .pointer (some ⟨P, 1, none⟩)
  | 14, [v] => v = .int .i64 xp.2.1
  | 15, [v] => v = .pointer (some ⟨Q, 1, none⟩)
  | 16, [v] => v = .pointer (some ⟨Q, 1, none⟩)
  | 17, [v] => v = .int .i64 yp.2.1
  | 18, [v] => v = .int .i64 c
  | 19, [v] => IsInts [a, b, c] v w
  | 20, [v] => v = .int .i64 r
  | 21, [v] => v = .int .i64 r
  | _, _ => True
theorem bqV_mono (P Q : Nat) (xp yp : Plc) (a b c r : Int) (i : Nat) (l : List Value) (w w' : World) (h : bqV P Q xp yp a b c r i l w) (hb : Below w.heap.size w w') : bqV P Q xp yp a b c r i l w' := by
  unfold bqV at h ⊢
  split <;> simp only [] at h <;> first | exact h | exact h.later hb
set_option maxHeartbeats 6400000 in
set_option maxRecDepth 100000 in
theorem byPlace_any (x y : Wh) (W : World) : Calls Tryz.prog 73 #[whv x, whv y] W fun e w' => e = .returned (.int .i64 (cmpP x.1 y.1)) ∧ Below W.heap.size W w' ∧ W.drawn ≤ w'.drawn := by
  obtain ⟨p, hp⟩ : ∃ p, x.1 = p := ⟨_, rfl⟩
  obtain ⟨q, hq⟩ : ∃ q, y.1 = q := ⟨_, rfl⟩
  obtain ⟨a, ha⟩ : ∃ a, cmpI p.1 q.1 = a := ⟨_, rfl⟩
  obtain ⟨b, hbb⟩ : ∃ b, cmpI p.2.2 q.2.2 = b := ⟨_, rfl⟩
  obtain ⟨c, hc⟩ : ∃ c, cmpI p.2.1 q.2.1 = c := ⟨_, rfl⟩
  obtain ⟨r, hr⟩ : ∃ r, orL [a, b, c] = r := ⟨_, rfl⟩
  have HA : Hid (cmpI p.1 q.1 = a) := ha
  have HB : Hid (cmpI p.2.2 q.2.2 = b) := hbb
  have HC : Hid (cmpI p.2.1 q.2.1 = c) := hc
  have HR : Hid (orL [a, b, c] = r) := hr
  have HQ : Hid (cmpP x.1 y.1 = r) := by show _ = _; rw [hp, hq, cmpP, ha, hbb, hc, hr]
  obtain ⟨xp, xf⟩ := x
  obtain ⟨yp, yf⟩ := y
  simp only at hp hq HQ
  subst hp hq
  clear ha hbb hc hr
  obtain ⟨w0, hw0⟩ : ∃ w0, w0 = (W.alloc (who (xp, xf))).alloc (who (yp, yf)) := ⟨_, rfl⟩
  have HW0 : Hid (w0 = (W.alloc (who (xp, xf))).alloc (who (yp, yf))) := hw0
  have HB0 : Hid (Below W.heap.size W w0) := by show Below _ _ _; rw [hw0]; exact ((Below.refl _ _).alloc (Nat.le_refl _) _).alloc (by simp) _
  have HD0 : Hid (W.drawn = w0.drawn) := by show _ = _; rw [hw0]; rfl
  have KX : Hid (Bk W.heap.size [.int .i64 xp.1, .int .i64 xp.2.1, .int .i64 xp.2.2, .slice xf.1 xf.2.2.length xf.2.1] w0) := by
    show Bk _ _ _; rw [hw0]; exact (Bk.new W _ 59 W.heap.size rfl).later ((Below.refl _ _).alloc (Nat.le_refl _) _)
  have KY : Hid (Bk (W.heap.size + 1) [.int .i64 yp.1, .int .i64 yp.2.1, .int .i64 yp.2.2, .slice yf.1 yf.2.2.length yf.2.1] w0) := by
    show Bk _ _ _; rw [hw0]; exact Bk.new (W.alloc _) _ 59 (W.heap.size + 1) (by simp)
  clear hw0
  go_enter Tryz.func73, Tryz.ntmps73
  go_wp2_with fail
  rename_i KK hkk
  have HKK := (show Hid _ from hkk)
  clear hkk
  rw [← HW0.out]
  refine region_allD [false, false, false, false, false, true, true, true, true, true, true, false, false, false, false, false, false, false, false, false, false, false, false, false, false, false, false, false, false, false, false, false]
    bpP (bpV W.heap.size (W.heap.size + 1) w0.heap.size xp yp) (fun f w => w0.drawn ≤ w.drawn ∧ Apart 5 6 f w) (by kernel_rfl) (by kernel_rfl) ?_ ?_ ?_
  · refine ⟨Nat.le_succ _, fun b e => ?_, fun b e => ?_, fun b e _ => ?_⟩
    all_goals (simp [undef] at e)
  · refine ⟨?_, ?_, ?_, ?_, ?_, ?_, ?_, ?_, trivial⟩
    · intro f w1 hb hJ _ K hK
      simp only [over, overL, Nat.reduceAdd]
      go_simp
      exact hK _ _ ⟨_, by simp only [over, overL, Nat.reduceAdd]; rfl, rfl, hb, ⟨hJ.1, hJ.2.other (by decide) (by decide) (Below.refl _ _)⟩, fun _ h => h⟩
    · intro f w1 hb hJ ⟨h7, _⟩ K hK
      replace h7 : f 7 = _ := h7
      have q0 := (KX.out.later hb).c 0 rfl
      have q1 := (KX.out.later hb).c 1 rfl
      have q2 := (KX.out.later hb).c 2 rfl
      simp only [over, overL, Nat.reduceAdd, h7]
      go_simp
      exact hK _ _ ⟨_, by simp only [over, overL, Nat.reduceAdd, h7]; rfl, rfl, hb, ⟨hJ.1, hJ.2.other (by decide) (by decide) (Below.refl _ _)⟩, fun _ h => h⟩
    · intro f w1 hb hJ _ K hK
      simp only [over, overL, Nat.reduceAdd]
      go_simp
      exact hK _ _ ⟨_, by simp only [over, overL, Nat.reduceAdd]; rfl, rfl, hb, ⟨hJ.1, hJ.2.other (by decide) (by decide) (Below.refl _ _)⟩, fun _ h => h⟩
    · intro f w1 hb hJ ⟨h9, _⟩ K hK
      replace h9 : f 9 = _ := h9
      have q0 := (KY.out.later hb).c 0 rfl
      have q1 := (KY.out.later hb).c 1 rfl
      have q2 := (KY.out.later hb).c 2 rfl
      simp only [over, overL, Nat.reduceAdd, h9]
      go_simp
      exact hK _ _ ⟨_, by simp only [over, overL, Nat.reduceAdd, h9]; rfl, rfl, hb, ⟨hJ.1, hJ.2.other (by decide) (by decide) (Below.refl _ _)⟩, fun _ h => h⟩
    · intro f w1 hb hJ _ K hK
      simp only [over, overL, Nat.reduceAdd]
      go_simp
      exact hK _ _ ⟨_, by simp only [over, overL, Nat.reduceAdd]; rfl, ⟨w1.heap.size, rfl, hb.size, _, _, _, Bk.new w1 [.int .i64 0, .int .i64 0, .int .i64 0] 31 w1.heap.size rfl⟩, below_on hb ((Below.refl _ _).alloc (Nat.le_refl _) _), ⟨hJ.1, hJ.2.left (by decide)⟩, fun j h => bpV_mono W.heap.size (W.heap.size + 1) w0.heap.size xp yp j _ _ _ h ((Below.refl _ _).alloc (Nat.le_refl _) _)⟩
    · intro f w1 hb hJ _ K hK
      simp only [over, overL, Nat.reduceAdd]
      go_simp
      exact hK _ _ ⟨_, by simp only [over, overL, Nat.reduceAdd]; rfl, ⟨w1.heap.size, rfl, hb.size, _, _, _, Bk.new w1 [.int .i64 0, .int .i64 0, .int .i64 0] 31 w1.heap.size rfl⟩, below_on hb ((Below.refl _ _).alloc (Nat.le_refl _) _), ⟨hJ.1, hJ.2.right (by decide)⟩, fun j h => bpV_mono W.heap.size (W.heap.size + 1) w0.heap.size xp yp j _ _ _ h ((Below.refl _ _).alloc (Nat.le_refl _) _)⟩
    · intro f w1 hb hJ ⟨h5, h8, _⟩ K hK
      replace h8 : f 8 = _ := h8
      obtain ⟨B, h5, nB, u0, u1, u2, AB⟩ := (show ∃ B, f 5 = ptr B ∧ w0.heap.size ≤ B ∧ ∃ u0 u1 u2, Bk B [u0, u1, u2] w1 from h5)
      have q0 := (AB).c 0 rfl
      have qf0 := (AB).f 0 rfl
      have q1 := (AB).c 1 rfl
      have qf1 := (AB).f 1 rfl
      have q2 := (AB).c 2 rfl
      have qf2 := (AB).f 2 rfl
      simp only [over, overL, Nat.reduceAdd, h5, h8]
      go_simp
      refine hK _ _ ⟨undef, by simp only [over, overL, Nat.reduceAdd, h5, h8]; rfl, ?_, ((hb.setCell nB _).setCell nB _).setCell nB _, ⟨hJ.1, hJ.2.same (by simp)⟩, ?_⟩
      · exact ⟨B, h5, AB.put3 xp⟩
      · exact bp_store5 hJ.2 h5 AB
    · intro f w1 hb hJ ⟨h6, h10, _⟩ K hK
      replace h10 : f 10 = _ := h10
      obtain ⟨B, h6, nB, u0, u1, u2, AB⟩ := (show ∃ B, f 6 = ptr B ∧ w0.heap.size ≤ B ∧ ∃ u0 u1 u2, Bk B [u0, u1, u2] w1 from h6)
      have q0 := (AB).c 0 rfl
      have qf0 := (AB).f 0 rfl
      have q1 := (AB).c 1 rfl
      have qf1 := (AB).f 1 rfl
      have q2 := (AB).c 2 rfl
      have qf2 := (AB).f 2 rfl
      simp only [over, overL, Nat.reduceAdd, h6, h10]
      go_simp
      refine hK _ _ ⟨undef, by simp only [over, overL, Nat.reduceAdd, h6, h10]; rfl, ?_, ((hb.setCell nB _).setCell nB _).setCell nB _, ⟨hJ.1, hJ.2.same (by simp)⟩, ?_⟩
      · exact ⟨B, h6, AB.put3 yp⟩
      · exact bp_store6 hJ.2 h6 AB
  intro f w1 hb1 hJ h
  have h7 : f 7 = _ := h.1
  have h8 : f 8 = _ := h.2.1
  have h9 : f 9 = _ := h.2.2.1
  have h10 : f 10 = _ := h.2.2.2.1
  obtain ⟨P, h5, A5⟩ := (show ∃ b, f 5 = ptr b ∧ Bk b (pcl xp) w1 from h.2.2.2.2.2.2.1)
  obtain ⟨Q, h6, A6⟩ := (show ∃ b, f 6 = ptr b ∧ Bk b (pcl yp) w1 from h.2.2.2.2.2.2.2.1)
  have hd1 : w0.drawn ≤ w1.drawn := hJ.1
  simp only [over, overL, Nat.reduceAdd, h5, h6, h7, h8, h9, h10]
  have KP : Hid (Bk P (pcl xp) w1) := A5
  have KQ : Hid (Bk Q (pcl yp) w1) := A6
  have HB1 : Hid (Below W.heap.size W w1) := below_on HB0.out hb1
  have HD1 : Hid (W.drawn ≤ w1.drawn) := by show _ ≤ _; rw [HD0.out]; exact hd1
  clear h h5 h6 h7 h8 h9 h10 A5 A6 hJ hb1 hd1 KX KY HW0
  refine HKK.out _ _ ?_
  go_wp2_with fail
  refine region_allD [false, false, false, false, true, false, false, false, false, false, false, true, true, true, true, true, true, true, true, true, true, true, true, true, true, true, true, true, true, true, true, true]
    [([], [11], none), ([0], [12], none), ([], [13], none), ([2], [14], none), ([1, 3], [15], none), ([], [16], none), ([5], [17], none), ([6], [18], none), ([], [19], none), ([8], [20], none), ([9], [21], none), ([7, 10], [22], none), ([], [23], none), ([12], [24], none), ([13], [25], none), ([], [26], none), ([15], [27], none), ([16], [28], none), ([14, 17], [29], none), ([4, 11, 18], [30], none), ([19], [31], none), ([20], [4], none)]
    (bqV P Q xp yp a b c r) (fun _ w => w1.drawn ≤ w.drawn) (by kernel_rfl) (by kernel_rfl) (Nat.le_succ _) ?_ ?_
  · refine ⟨?_, ?_, ?_, ?_, ?_, ?_, ?_, ?_, ?_, ?_, ?_, ?_, ?_, ?_, ?_, ?_, ?_, ?_, ?_, ?_, ?_, ?_, trivial⟩
    · intro f w1 hb hJ _ K hK
      simp only [over, overL, Nat.reduceAdd]
      go_simp
      exact hK _ _ ⟨_, by simp only [over, overL, Nat.reduceAdd]; rfl, rfl, hb, hJ, fun _ h => h⟩
    · intro f w1 hb hJ ⟨h11, _⟩ K hK
      replace h11 : f 11 = _ := h11
      have q0 := (KP.out.later hb).c 0 rfl
      simp only [over, overL, Nat.reduceAdd, h11]
      go_simp
      exact hK _ _ ⟨_, by simp only [over, overL, Nat.reduceAdd, h11]; rfl, rfl, hb, hJ, fun _ h => h⟩
    · intro f w1 hb hJ _ K hK
      simp only [over, overL, Nat.reduceAdd]
      go_simp
      exact hK _ _ ⟨_, by simp only [over, overL, Nat.reduceAdd]; rfl, rfl, hb, hJ, fun _ h => h⟩
    · intro f w1 hb hJ ⟨h13, _⟩ K hK
      replace h13 : f 13 = _ := h13
      have q0 := (KQ.out.later hb).c 0 rfl
      simp only [over, overL, Nat.reduceAdd, h13]
      go_simp
      exact hK _ _ ⟨_, by simp only [over, overL, Nat.reduceAdd, h13]; rfl, rfl, hb, hJ, fun _ h => h⟩
    · intro f w1 hb hJ ⟨h12, h14, _⟩ K hK
      replace h12 : f 12 = _ := h12
      replace h14 : f 14 = _ := h14
      simp only [over, overL, Nat.reduceAdd, h12, h14]
      go_simp
      refine (compare_r xp.1 yp.1 a (by exact HA.out) w1).mono ?_
      rintro e w2 ⟨rfl, rfl⟩
      exact hK _ _ ⟨_, by simp only [over, overL, Nat.reduceAdd, h12, h14]; rfl, rfl, hb, hJ, fun _ h => h⟩
    · intro f w1 hb hJ _ K hK
      simp only [over, overL, Nat.reduceAdd]
      go_simp
      exact hK _ _ ⟨_, by simp only [over, overL, Nat.reduceAdd]; rfl, rfl, hb, hJ, fun _ h => h⟩
    · intro f w1 hb hJ ⟨h16, _⟩ K hK
      replace h16 : f 16 = _ := h16
      simp only [over, overL, Nat.reduceAdd, h16]
      go_simp
      exact hK _ _ ⟨_, by simp only [over, overL, Nat.reduceAdd, h16]; rfl, rfl, hb, hJ, fun _ h => h⟩
    · intro f w1 hb hJ ⟨h17, _⟩ K hK
      replace h17 : f 17 = _ := h17
      have q2 := (KP.out.later hb).c 2 rfl
      simp only [over, overL, Nat.reduceAdd, h17]
      go_simp
      exact hK _ _ ⟨_, by simp only [over, overL, Nat.reduceAdd, h17]; rfl, rfl, hb, hJ, fun _ h => h⟩
    · intro f w1 hb hJ _ K hK
      simp only [over, overL, Nat.reduceAdd]
      go_simp
      exact hK _ _ ⟨_, by simp only [over, overL, Nat.reduceAdd]; rfl, rfl, hb, hJ, fun _ h => h⟩
    · intro f w1 hb hJ ⟨h19, _⟩ K hK
      replace h19 : f 19 = _ := h19
      simp only [over, overL, Nat.reduceAdd, h19]
      go_simp
      exact hK _ _ ⟨_, by simp only [over, overL, Nat.reduceAdd, h19]; rfl, rfl, hb, hJ, fun _ h => h⟩
    · intro f w1 hb hJ ⟨h20, _⟩ K hK
      replace h20 : f 20 = _ := h20
      have q2 := (KQ.out.later hb).c 2 rfl
      simp only [over, overL, Nat.reduceAdd, h20]
      go_simp
      exact hK _ _ ⟨_, by simp only [over, overL, Nat.reduceAdd, h20]; rfl, rfl, hb, hJ, fun _ h => h⟩
    · intro f w1 hb hJ ⟨h18, h21, _⟩ K hK
      replace h18 : f 18 = _ := h18
      replace h21 : f 21 = _ := h21
      simp only [over, overL, Nat.reduceAdd, h18, h21]
      go_simp
      refine (compare_r xp.2.2 yp.2.2 b (by exact HB.out) w1).mono ?_
      rintro e w2 ⟨rfl, rfl⟩
      exact hK _ _ ⟨_, by simp only [over, overL, Nat.reduceAdd, h18, h21]; rfl, rfl, hb, hJ, fun _ h => h⟩
    · intro f w1 hb hJ _ K hK
      simp only [over, overL, Nat.reduceAdd]
      go_simp
      exact hK _ _ ⟨_, by simp only [over, overL, Nat.reduceAdd]; rfl, rfl, hb, hJ, fun _ h => h⟩
    · intro f w1 hb hJ ⟨h23, _⟩ K hK
      replace h23 : f 23 = _ := h23
      simp only [over, overL, Nat.reduceAdd, h23]
      go_simp
      exact hK _ _ ⟨_, by simp only [over, overL, Nat.reduceAdd, h23]; rfl, rfl, hb, hJ, fun _ h => h⟩
    · intro f w1 hb hJ ⟨h24, _⟩ K hK
      replace h24 : f 24 = _ := h24
      have q1 := (KP.out.later hb).c 1 rfl
      simp only [over, overL, Nat.reduceAdd, h24]
      go_simp
      exact hK _ _ ⟨_, by simp only [over, overL, Nat.reduceAdd, h24]; rfl, rfl, hb, hJ, fun _ h => h⟩
    · intro f w1 hb hJ _ K hK
      simp only [over, overL, Nat.reduceAdd]
      go_simp
      exact hK _ _ ⟨_, by simp only [over, overL, Nat.reduceAdd]; rfl, rfl, hb, hJ, fun _ h => h⟩
    · intro f w1 hb hJ ⟨h26, _⟩ K hK
      replace h26 : f 26 = _ := h26
      simp only [over, overL, Nat.reduceAdd, h26]
      go_simp
      exact hK _ _ ⟨_, by simp only [over, overL, Nat.reduceAdd, h26]; rfl, rfl, hb, hJ, fun _ h => h⟩
    · intro f w1 hb hJ ⟨h27, _⟩ K hK
      replace h27 : f 27 = _ := h27
      have q1 := (KQ.out.later hb).c 1 rfl
      simp only [over, overL, Nat.reduceAdd, h27]
      go_simp
      exact hK _ _ ⟨_, by simp only [over, overL, Nat.reduceAdd, h27]; rfl, rfl, hb, hJ, fun _ h => h⟩
    · intro f w1 hb hJ ⟨h25, h28, _⟩ K hK
      replace h25 : f 25 = _ := h25
      replace h28 : f 28 = _ := h28
      simp only [over, overL, Nat.reduceAdd, h25, h28]
      go_simp
      refine (compare_r xp.2.1 yp.2.1 c (by exact HC.out) w1).mono ?_
      rintro e w2 ⟨rfl, rfl⟩
      exact hK _ _ ⟨_, by simp only [over, overL, Nat.reduceAdd, h25, h28]; rfl, rfl, hb, hJ, fun _ h => h⟩
    · intro f w1 hb hJ ⟨h15, h22, h29, _⟩ K hK
      replace h15 : f 15 = _ := h15
      replace h22 : f 22 = _ := h22
      replace h29 : f 29 = _ := h29
      simp only [over, overL, Nat.reduceAdd, h15, h22, h29]
      go_simp
      exact hK _ _ ⟨_, by simp only [over, overL, Nat.reduceAdd, h15, h22, h29]; rfl, new_three _ _ _ _ _, below_on hb ((Below.refl _ _).alloc (Nat.le_refl _) _), hJ, fun j h => bqV_mono P Q xp yp a b c r j _ _ _ h ((Below.refl _ _).alloc (Nat.le_refl _) _)⟩
    · intro f w1 hb hJ ⟨h30, _⟩ K hK
      replace h30 : IsInts [a, b, c] (f 30) w1 := h30
      simp only [over, overL, Nat.reduceAdd]
      go_simp
      refine (cmpOrI_is [a, b, c] r HR.out _ w1 (by simp) h30).mono ?_
      rintro e w2 ⟨rfl, rfl⟩
      exact hK _ _ ⟨_, by simp only [over, overL, Nat.reduceAdd]; rfl, rfl, hb, hJ, fun _ h => h⟩
    · intro f w1 hb hJ ⟨h31, _⟩ K hK
      replace h31 : f 31 = _ := h31
      simp only [over, overL, Nat.reduceAdd, h31]
      go_simp
      exact hK _ _ ⟨_, by simp only [over, overL, Nat.reduceAdd, h31]; rfl, rfl, hb, hJ, fun _ h => h⟩
  intro f w2 hb2 hJ h
  have h4 : f 4 = .int .i64 r := h.2.2.2.2.2.2.2.2.2.2.2.2.2.2.2.2.2.2.2.2.2.1
  simp only [over, overL, Nat.reduceAdd, h4]
  clear h h4
  go_wp2
  go_ret
  exact ⟨ret_int HQ.out.symm, below_on HB1.out hb2, Nat.le_trans HD1.out hJ⟩
end Go.Proofs.YtjappkfhballhaaGreat
