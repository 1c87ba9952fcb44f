/- Tick, Rest walked. -/
import Derived.Test.YtjpjkkjklghpgaaHC
namespace Go.Proofs.Ytjpjkkjklghpgaa
open Go.RowKit

theorem below_on {B : Nat} {a w w' : World} (h : Below B a w) (h2 : Below w.heap.size w w') (hB : B ≤ w.heap.size) : Below B a w' := h.trans (h2.mono hB)
theorem ref0 (h : Ht) (w : World) : Calls Try.prog 20 #[hv h, .slice none 0 0] w fun e w' => e = .returned (.int .i64 (refH h true)) ∧ Below w.heap.size w w' := refusal_any h none 0 0 [] rfl (by decide) w (.inl rfl)
theorem ref1 (h : Ht) (t : Int) (w : World) (b : Nat) (hb : b = w.heap.size) : Calls Try.prog 20 #[hv h, .slice (some ⟨b, 0, none⟩) 1 1] (w.alloc (.cells #[.int .i64 t] 3)) fun e w' => e = .returned (.int .i64 (refH h (inR 0 1000000 t))) ∧ Below w.heap.size w w' := by
  subst hb
  refine (refusal_any h (some ⟨w.heap.size, 0, none⟩) 1 1 [t] rfl (by decide) _ (rd_new w [t] 3)).mono ?_
  rintro e w' ⟨rfl, hb⟩
  exact ⟨by simp [upTo], ((Below.refl _ _).alloc (Nat.le_refl _) _).trans (hb.mono (by simp))⟩
theorem ref2 (h : Ht) (t g : Int) (w : World) (b : Nat) (hb : b = w.heap.size) : Calls Try.prog 20 #[hv h, .slice (some ⟨b, 0, none⟩) 2 2] (w.alloc (.cells #[.int .i64 t, .int .i64 g] 3)) fun e w' => e = .returned (.int .i64 (refH h (inR 0 1000000 t && inR 0 1000000 g))) ∧ Below w.heap.size w w' := by
  subst hb
  refine (refusal_any h (some ⟨w.heap.size, 0, none⟩) 2 2 [t, g] rfl (by decide) _ (rd_new w [t, g] 3)).mono ?_
  rintro e w' ⟨rfl, hb⟩
  exact ⟨by simp [upTo], ((Below.refl _ _).alloc (Nat.le_refl _) _).trans (hb.mono (by simp))⟩
theorem refH_ok {h : Ht} (ho : htOk h = true) : refH h true = 0 := by simp [refH, ho]
theorem refH_no {h : Ht} {b : Bool} (ho : htOk h = false ∨ b = false) : refH h b = 2 := by rcases ho with e | e <;> simp [refH, e]
theorem refH_cases (h : Ht) (b : Bool) : (htOk h = true ∧ b = true ∧ refH h b = 0) ∨ ((htOk h && b) = false ∧ refH h b = 2) := by
  cases e : htOk h <;> cases b <;> simp [refH, e]
/-- What Tick answers. -/
abbrev two (x e : Int) : Value := .tuple #[.int .i64 x, .int .i64 e]
set_option maxHeartbeats 3200000 in
theorem tick_yes (h : Ht) (t : Int) (on : Bool) (hok : htOk h = true) (h0 : 0 ≤ t) (h1 : t ≤ 1000000) (w : World) :
    Calls Try.prog 8 #[hv h, .int .i64 t, .bool on] w fun e w' => e = .returned (two (tk h on t) 0) ∧ Below w.heap.size w w' := by
  have HF : Hid (∀ (W : World) b, b = W.heap.size → Calls Try.prog 20 #[hv h, .slice (some ⟨b, 0, none⟩) 1 1] (W.alloc (.cells #[.int .i64 t] 3)) fun e w' => e = .returned (.int .i64 0) ∧ Below W.heap.size W w') := fun W b hb => (ref1 h t W b hb).mono fun e w' ⟨q1, q2⟩ => ⟨by rw [q1, inR_yes h0 h1, refH_ok hok], q2⟩
  have HT : Hid (∀ W, Calls Try.prog 21 #[hv h, .int .i64 t, .bool on] W fun e w' => e = .returned (.int .i64 (tk h on t)) ∧ w' = W.alloc (ho h)) := behind_any h t on hok h0 h1
  have HB0 : Hid (Below w.heap.size w (w.alloc (ho h))) := (Below.refl _ _).alloc (Nat.le_refl _) _
  have KA : Hid (Bk w.heap.size (hcl h) (w.alloc (ho h))) := Bk.new w (hcl h) 23 w.heap.size rfl
  clear hok h0 h1
  go_enter Try.func8, Try.ntmps8
  go_wp2_with fail
  refine Calls.mono (HF.out _ _ (by simp)) ?_
  rintro e w1 ⟨rfl, hb1⟩
  have HB1 : Hid (Below w.heap.size w w1) := HB0.out.trans (hb1.mono HB0.out.size)
  have KA1 := KA.out.later hb1
  have c0 := KA1.c 0 rfl
  have c1 := KA1.c 1 rfl
  have c2 := KA1.c 2 rfl
  have c3 := KA1.c 3 rfl
  clear hb1 KA1
  go_wp2_with fail
  refine Calls.mono (HT.out _) ?_
  rintro e w2 ⟨rfl, rfl⟩
  go_wp2
  go_ret2
  exact ⟨rfl, HB1.out.alloc HB1.out.size _⟩
set_option maxHeartbeats 3200000 in
theorem tick_no (h : Ht) (t : Int) (on : Bool) (hno : (htOk h && inR 0 1000000 t) = false) (w : World) :
    Calls Try.prog 8 #[hv h, .int .i64 t, .bool on] w fun e w' => e = .returned (two 0 2) ∧ Below w.heap.size w w' := by
  have HF : Hid (∀ (W : World) b, b = W.heap.size → Calls Try.prog 20 #[hv h, .slice (some ⟨b, 0, none⟩) 1 1] (W.alloc (.cells #[.int .i64 t] 3)) fun e w' => e = .returned (.int .i64 2) ∧ Below W.heap.size W w') := fun W b hb => (ref1 h t W b hb).mono fun e w' ⟨q1, q2⟩ => ⟨by rw [q1, refH_no (Bool.and_eq_false_iff.1 hno)], q2⟩
  have HB0 : Hid (Below w.heap.size w (w.alloc (ho h))) := (Below.refl _ _).alloc (Nat.le_refl _) _
  clear hno
  go_enter Try.func8, Try.ntmps8
  go_wp2_with fail
  refine Calls.mono (HF.out _ _ (by simp)) ?_
  rintro e w1 ⟨rfl, hb1⟩
  have HB1 : Hid (Below w.heap.size w w1) := HB0.out.trans (hb1.mono HB0.out.size)
  clear hb1
  go_wp2
  go_ret2
  exact ⟨rfl, HB1.out⟩

/-- What is asked of a test over places, from a world on. -/
def Asks (g : Nat) (caps : Array Value) (f : Nat → Bool) (n : Nat) (w : World) : Prop :=
  ∀ (i : Nat) (W : World), i < n → Below w.heap.size w W → Calls Try.prog g (#[.int .i64 (i : Int)] ++ caps) W fun e w' => e = .returned (.bool (f i)) ∧ Below W.heap.size W w'
set_option maxHeartbeats 4000000 in
set_option maxRecDepth 1000000 in
theorem search_any (g : Nat) (caps : Array Value) (f : Nat → Bool) (n : Nat) (w : World) (eg : ∀ args w, (callFunc g args).run Try.prog w = .ok (.enter g args) w) (hT : Asks g caps f n w) (hn : n < 4611686018427387904) :
    Calls Try.prog 22 #[.int .i64 (n : Int), .func (.func g) #[] caps] w fun e w' => ∃ r : Nat, e = .returned (.int .i64 (r : Int)) ∧ r ≤ n ∧ (r = 0 ∨ f (r - 1) = false) ∧ (r = n ∨ f r = true) ∧ Below w.heap.size w w' := by
  have HT : Hid (Asks g caps f n w) := hT
  clear hT
  go_enter Try.func22, Try.ntmps22
  go_wp2
  go_loopw [5, 6, 7] (fun s5 s6 _ wr => ∃ lo hi : Nat, s5 = .int .i64 (lo : Int) ∧ s6 = .int .i64 (hi : Int) ∧ lo ≤ hi ∧ hi ≤ n ∧ Hid ((lo = 0 ∨ f (lo - 1) = false) ∧ (hi = n ∨ f hi = true)) ∧ Below w.heap.size w wr) (fun s5 s6 _ _ => (intOf s6).toNat - (intOf s5).toNat)
  case atStart => exact ⟨0, n, rfl, rfl, Nat.zero_le _, Nat.le_refl _, (⟨.inl rfl, .inl rfl⟩ : (0 = 0 ∨ f (0 - 1) = false) ∧ (n = n ∨ f n = true)), Below.refl _ _⟩
  case round =>
    obtain ⟨lo, hi, rfl, rfl, hlh, hin, I, hb⟩ := hrel
    have HB : Hid (Below w.heap.size w wr) := hb
    clear hb
    by_cases hlt : lo < hi
    · have hc := HT.out ((lo + hi) / 2) wr (by omega) HB.out
      rw [show (((lo + hi) / 2 : Nat) : Int) = ((lo : Int) + (hi : Int)) / 2 by omega] at hc
      cases hp : f ((lo + hi) / 2) <;> rw [hp] at hc
      · have HP : Hid (f ((lo + hi) / 2) = false) := hp
        clear hp
        go_wp2_with (go_at_fn g; refine hc.mono ?_; rintro e w' ⟨rfl, hb'⟩)
        go_roundw
        case rel =>
          refine ⟨(lo + hi) / 2 + 1, hi, by rw [show ((lo : Int) + (hi : Int)) / 2 + 1 = (((lo + hi) / 2 + 1 : Nat) : Int) by omega], rfl, by omega, hin, ?_, below_on HB.out hb' HB.out.size⟩
          exact (⟨.inr HP.out, I.out.2⟩ : ((lo + hi) / 2 + 1 = 0 ∨ f ((lo + hi) / 2 + 1 - 1) = false) ∧ _)
        case measure => simp [intOf]; omega
      · have HP : Hid (f ((lo + hi) / 2) = true) := hp
        clear hp
        go_wp2_with (go_at_fn g; refine hc.mono ?_; rintro e w' ⟨rfl, hb'⟩)
        go_roundw
        case rel =>
          refine ⟨lo, (lo + hi) / 2, rfl, by rw [show ((lo : Int) + (hi : Int)) / 2 = (((lo + hi) / 2 : Nat) : Int) by omega], by omega, by omega, ?_, below_on HB.out hb' HB.out.size⟩
          exact (⟨I.out.1, .inr HP.out⟩ : _ ∧ ((lo + hi) / 2 = n ∨ f ((lo + hi) / 2) = true))
        case measure => simp [intOf]; omega
    · obtain rfl : hi = lo := by omega
      go_wp2
      go_ret
      exact ⟨hi, rfl, hin, I.out.1, I.out.2, HB.out⟩
/-- Gets a heat no warmer? -/
def coolB (h : Ht) (on : Bool) (k : Nat) : Bool := decide (tk h on (k : Int) ≤ (k : Int))
theorem en23 : ∀ args w, (callFunc 23 args).run Try.prog w = .ok (.enter 23 args) w := enters_of Try.func23 (by kernel_rfl) rfl
set_option maxHeartbeats 3200000 in
theorem test_any (h : Ht) (on : Bool) (A C k : Nat) (hok : htOk h = true) (hk : k ≤ 1000000) (w : World) (hA : Bk A (hcl h) w) (hC : Bk C [.bool on] w) :
    Calls Try.prog 23 #[.int .i64 (k : Int), ptr A, ptr C] w fun e w' => e = .returned (.bool (coolB h on k)) ∧ Below w.heap.size w w' := by
  have HT : Hid (∀ W, Calls Try.prog 21 #[hv h, .int .i64 (k : Int), .bool on] W fun e w' => e = .returned (.int .i64 (tk h on (k : Int))) ∧ w' = W.alloc (ho h)) := behind_any h k on hok (by omega) (by omega)
  have HS : Hid (coolB h on k = decide (tk h on (k : Int) ≤ (k : Int))) := rfl
  have HB0 : Hid (Below w.heap.size w (w.alloc (ho h))) := (Below.refl _ _).alloc (Nat.le_refl _) _
  have c0 := hA.c 0 rfl
  have c1 := hA.c 1 rfl
  have c2 := hA.c 2 rfl
  have c3 := hA.c 3 rfl
  have d0 := hC.c 0 rfl
  clear hok hA hC
  go_enter Try.func23, Try.ntmps23
  go_wp2_with fail
  refine Calls.mono (HT.out _) ?_
  rintro e w2 ⟨rfl, rfl⟩
  go_wp2
  go_ret
  exact ⟨ret_bool HS.out.symm, HB0.out⟩
/-- The heat at which it stays. -/
def RestIs (h : Ht) (on : Bool) (r : Nat) : Prop := tk h on (r : Int) = (r : Int) ∧ (r : Int) ≤ h.m ∧ ∀ j : Nat, j < r → (j : Int) < tk h on (j : Int)
theorem cool_next {h : Ht} (ho : htOk h = true) {on : Bool} {i j : Nat} (hij : i ≤ j) (q : coolB h on i = true) : coolB h on j = true := by
  simp only [coolB, decide_eq_true_eq] at *
  have := lss_le ho (s := (i : Int)) (t := (j : Int)) (by omega)
  unfold tk at *
  omega
theorem rest_is {h : Ht} (ho : htOk h = true) {on : Bool} {r n : Nat} (hn : (n : Int) = h.m) (hr : r ≤ n) (h1 : r = 0 ∨ coolB h on (r - 1) = false) (h2 : r = n ∨ coolB h on r = true) : RestIs h on r := by
  refine ⟨rest_stays ho (h1.imp id fun e => by simpa [coolB] using e) (h2.imp (fun e => by omega) fun e => by simpa [coolB] using e), by omega, fun j hj => ?_⟩
  rcases h1 with rfl | h1
  · omega
  · cases e : coolB h on j with
    | true => rw [cool_next ho (j := r - 1) (by omega) e] at h1; cases h1
    | false => simpa [coolB] using e
set_option maxHeartbeats 3200000 in
theorem rest_yes (h : Ht) (on : Bool) (hok : htOk h = true) (w : World) :
    Calls Try.prog 9 #[hv h, .bool on] w fun e w' => ∃ r : Nat, e = .returned (two (r : Int) 0) ∧ RestIs h on r ∧ Below w.heap.size w w' := by
  have HF : Hid (∀ W, Calls Try.prog 20 #[hv h, .slice none 0 0] W fun e w' => e = .returned (.int .i64 0) ∧ Below W.heap.size W w') := fun W => (ref0 h W).mono fun e w' ⟨q1, q2⟩ => ⟨by rw [q1, refH_ok hok], q2⟩
  obtain ⟨n, hn⟩ : ∃ n : Nat, (n : Int) = h.m := ⟨h.m.toNat, by have := htOk_iff.1 hok; omega⟩
  have hn1 : n ≤ 1000000 := by have := htOk_iff.1 hok; omega
  have HS : Hid (∀ A C W, Bk A (hcl h) W → Bk C [.bool on] W → Calls Try.prog 22 #[.int .i64 (n : Int), .func (.func 23) #[] #[ptr A, ptr C]] W fun e w' => ∃ r : Nat, e = .returned (.int .i64 (r : Int)) ∧ RestIs h on r ∧ Below W.heap.size W w') := fun A C W hA hC => by
    refine (search_any 23 #[ptr A, ptr C] (coolB h on) n W en23 (fun i W1 hi hb => ?_) (by omega)).mono ?_
    · exact test_any h on A C i hok (by omega) W1 (hA.later hb) (hC.later hb)
    · rintro e w' ⟨r, rfl, q1, q2, q3, q4⟩
      exact ⟨r, rfl, rest_is hok hn q1 q2 q3, q4⟩
  have HB0 : Hid (Below w.heap.size w ((w.alloc (ho h)).alloc (.cells #[.bool on] 4))) := below_two _ _ _
  have KA : Hid (Bk w.heap.size (hcl h) ((w.alloc (ho h)).alloc (.cells #[.bool on] 4))) := (Bk.new w (hcl h) 23 w.heap.size rfl).later ((Below.refl _ _).alloc (Nat.le_refl _) _)
  have KC : Hid (Bk (w.heap.size + 1) [.bool on] ((w.alloc (ho h)).alloc (.cells #[.bool on] 4))) := Bk.new (w.alloc (ho h)) [.bool on] 4 (w.heap.size + 1) (by simp)
  have HN : Hid ((n : Int) = h.m) := hn
  clear hok hn
  go_enter Try.func9, Try.ntmps9
  go_wp2_with fail
  refine Calls.mono (HF.out _) ?_
  rintro e w1 ⟨rfl, hb1⟩
  have HB1 : Hid (Below w.heap.size w w1) := HB0.out.trans (hb1.mono HB0.out.size)
  have HA1 : Hid (Bk w.heap.size (hcl h) w1) := KA.out.later hb1
  have HC1 : Hid (Bk (w.heap.size + 1) [.bool on] w1) := KC.out.later hb1
  have c3 := HA1.out.c 3 (v := .int .i64 (n : Int)) (by rw [HN.out]; rfl)
  clear hb1
  go_wp2_with fail
  refine Calls.mono (HS.out _ _ _ HA1.out HC1.out) ?_
  rintro e w2 ⟨r, rfl, hr, hb2⟩
  have HR : Hid (RestIs h on r) := hr
  have HB2 : Hid (Below w.heap.size w w2) := below_on HB1.out hb2 HB1.out.size
  clear hr hb2
  go_wp2
  go_ret2
  exact ⟨r, rfl, HR.out, HB2.out⟩
set_option maxHeartbeats 3200000 in
theorem rest_no (h : Ht) (on : Bool) (hno : htOk h = false) (w : World) :
    Calls Try.prog 9 #[hv h, .bool on] w fun e w' => e = .returned (two 0 2) ∧ Below w.heap.size w w' := by
  have HF : Hid (∀ W, Calls Try.prog 20 #[hv h, .slice none 0 0] W fun e w' => e = .returned (.int .i64 2) ∧ Below W.heap.size W w') := fun W => (ref0 h W).mono fun e w' ⟨q1, q2⟩ => ⟨by rw [q1, refH_no (.inl hno)], q2⟩
  have HB0 : Hid (Below w.heap.size w ((w.alloc (ho h)).alloc (.cells #[.bool on] 4))) := below_two _ _ _
  clear hno
  go_enter Try.func9, Try.ntmps9
  go_wp2_with fail
  refine Calls.mono (HF.out _) ?_
  rintro e w1 ⟨rfl, hb1⟩
  have HB1 : Hid (Below w.heap.size w w1) := HB0.out.trans (hb1.mono HB0.out.size)
  clear hb1
  go_wp2
  go_ret2
  exact ⟨rfl, HB1.out⟩
end Go.Proofs.Ytjpjkkjklghpgaa
