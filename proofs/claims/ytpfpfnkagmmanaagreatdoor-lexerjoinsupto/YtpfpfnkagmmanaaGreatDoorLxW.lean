/- The reader's states, walked. -/
import Derived.Test.YtpfpfnkagmmanaaGreatDoorLxTell
import Derived.Test.YtpfpfnkagmmanaaGreatDoorLxC
import Derived.Test.YtpfpfnkagmmanaaGreatDoorRead5
import Derived.Test.YtpfpfnkagmmanaaGreatDoorFB
namespace Go.Proofs.YtpfpfnkagmmanaaGreatDoor
open Go.RowKit Go.Shelf

/-- The library's tables of UTF-8. -/
def Tab (w : World) : Prop := Lib.Utf8Tabs 1 2 w
theorem Tab.next {w w1 : World} (h : Tab w) (hb : Below w.heap.size w w1) : Tab w1 := tabs_next h hb

set_option maxHeartbeats 1600000 in
theorem lineEnd_any (w0 w : World) (t : List UInt8) (n : Int) (ts : List Tk) (e : Int) (hR : Rd w0 w (10 :: t) n ts e) (hl : t.length ≤ 20000) (h0 : 0 ≤ n) (h1 : n ≤ 20000) :
    Calls Tryz.prog 39 #[ptr w0.heap.size] w fun x w' => x = .returned (fnV 24) ∧ Rd w0 w' t (n + 1) ts e := by
  have HC := (show Hid _ from takeByte_any w0 w 10 t n ts e hR hl)
  clear hR
  go_enter Tryz.func39, Tryz.ntmps39
  go_wp2_with fail
  refine Calls.mono HC.out ?_
  rintro x w1 ⟨rfl, hR1⟩
  have HR : Hid (Rd w0 w1 t n ts e) := hR1
  have c1 := hR1.c1
  have f1 := hR1.f1
  clear hR1
  go_wp2
  go_ret
  exact ⟨rfl, HR.out.set1 (n + 1)⟩
set_option maxHeartbeats 1600000 in
theorem remark_any (w0 w : World) (l : List UInt8) (n : Int) (ts : List Tk) (e : Int) (hR : Rd w0 w l n ts e) (hl : l.length ≤ 20000) :
    Calls Tryz.prog 40 #[ptr w0.heap.size] w fun x w' => x = .returned (fnV 24) ∧ Rd w0 w' (lineD l) n ts e := by
  have HC := (show Hid _ from take_any 62 pLine en_line w0 w l (lineD l) n ts e hR (pg_line w) (drop_line l) hl)
  clear hR
  go_enter Tryz.func40, Tryz.ntmps40
  go_wp2_with fail
  refine Calls.mono HC.out ?_
  rintro x w1 ⟨rfl, hR1⟩
  have HR : Hid (Rd w0 w1 (lineD l) n ts e) := hR1
  clear hR1
  go_wp2
  go_ret
  exact ⟨rfl, HR.out⟩
set_option maxHeartbeats 1600000 in
theorem word_state (w0 w : World) (l : List UInt8) (n : Int) (ts : List Tk) (e : Int) (hR : Rd w0 w l n ts e) (hl : l.length ≤ 20000) (ht : ts.length ≤ 20000) :
    Calls Tryz.prog 43 #[ptr w0.heap.size] w fun x w' => x = .returned (fnV 24) ∧ Rd w0 w' (wordD l) n (ts ++ [⟨1, ahead l (wordD l), n⟩]) e := by
  have HC := (show Hid _ from take_any 67 pWord en_word w0 w l (wordD l) n ts e hR (pg_word w) (drop_word l) hl)
  clear hR
  go_enter Tryz.func43, Tryz.ntmps43
  go_wp2_with fail
  refine Calls.mono HC.out ?_
  rintro x w1 ⟨rfl, hR1⟩
  have HR : Hid (Rd w0 w1 (wordD l) n ts e) := hR1
  clear hR1
  go_wp2_with fail
  refine Calls.mono (tell_any w0 w1 (wordD l) n ts e 1 (ahead l (wordD l)) HR.out ht) ?_
  rintro x w2 ⟨rfl, hR2⟩
  have HR2 := (show Hid _ from hR2)
  clear hR2
  go_wp2
  go_ret
  exact ⟨rfl, HR2.out⟩
set_option maxHeartbeats 1600000 in
theorem sign_state (w0 w : World) (b : UInt8) (t : List UInt8) (n : Int) (ts : List Tk) (e : Int) (hR : Rd w0 w (b :: t) n ts e) (hl : t.length ≤ 20000) (ht : ts.length ≤ 20000) :
    Calls Tryz.prog 47 #[ptr w0.heap.size] w fun x w' => x = .returned (fnV 24) ∧ Rd w0 w' t n (ts ++ [⟨3, [b], n⟩]) e := by
  have HC := (show Hid _ from takeByte_any w0 w b t n ts e hR hl)
  clear hR
  go_enter Tryz.func47, Tryz.ntmps47
  go_wp2_with fail
  refine Calls.mono HC.out ?_
  rintro x w1 ⟨rfl, hR1⟩
  have HR : Hid (Rd w0 w1 t n ts e) := hR1
  clear hR1
  go_wp2_with fail
  refine Calls.mono (tell_any w0 w1 t n ts e 3 [b] HR.out ht) ?_
  rintro x w2 ⟨rfl, hR2⟩
  have HR2 := (show Hid _ from hR2)
  clear hR2
  go_wp2
  go_ret
  exact ⟨rfl, HR2.out⟩
theorem ahead_len (l r : List UInt8) : (ahead l r).length ≤ l.length := by unfold ahead; rw [List.length_take]; omega
set_option maxHeartbeats 1600000 in
theorem amount_ok (w0 w : World) (hT : Tab w0) (l : List UInt8) (n : Int) (ts : List Tk) (e : Int) (hR : Rd w0 w l n ts e) (hl : l.length ≤ 20000) (ht : ts.length ≤ 20000) (hr : rdE (ahead l (dropA l)) = 0) :
    Calls Tryz.prog 45 #[ptr w0.heap.size] w fun x w' => x = .returned (fnV 24) ∧ Rd w0 w' (dropA l) n (ts ++ [⟨2, ahead l (dropA l), n⟩]) e := by
  have HC := (show Hid _ from take_any 68 pAmt en_amt w0 w l (dropA l) n ts e hR (pg_amt w) (drop_amt l) hl)
  have hal := ahead_len l (dropA l)
  obtain ⟨X, hX⟩ : ∃ X, X = ahead l (dropA l) := ⟨_, rfl⟩
  rw [← hX] at hr hal HC ⊢
  have HQ : Hid (∀ W, Tab W → Calls Tryz.prog 69 #[.string ⟨X.toArray⟩] W fun e w' => e = .returned (.tuple #[.agg #[.int .i64 (readL X mkQ).1, .int .i64 (readL X mkQ).2.1], .int .i64 0]) ∧ Below W.heap.size W w') := fun W h => by
    have := read_any X W (by omega) h
    rw [show (readL X mkQ).2.2 = 0 from hr] at this
    exact this
  have HT : Hid (Tab w0) := hT
  clear hR hr hX hT hal
  go_enter Tryz.func45, Tryz.ntmps45
  go_wp2_with fail
  refine Calls.mono HC.out ?_
  rintro x w1 ⟨rfl, hR1⟩
  have HR : Hid (Rd w0 w1 (dropA l) n ts e) := hR1
  clear hR1
  go_wp2_with fail
  refine Calls.mono (HQ.out w1 (HT.out.next HR.out.below)) ?_
  rintro x w2 ⟨rfl, hb2⟩
  have HR2 : Hid (Rd w0 (w2.alloc (.cells #[.int .i64 (readL X mkQ).1, .int .i64 (readL X mkQ).2.1] 64)) (dropA l) n ts e) := HR.out.later (hb2.alloc hb2.size _)
  clear hb2
  go_wp2_with fail
  refine Calls.mono (tell_any w0 _ (dropA l) n ts e 2 X HR2.out ht) ?_
  rintro x w3 ⟨rfl, hR3⟩
  have HR3 := (show Hid _ from hR3)
  clear hR3
  go_wp2
  go_ret
  exact ⟨rfl, HR3.out⟩
set_option maxHeartbeats 1600000 in
theorem amount_no (w0 w : World) (hT : Tab w0) (l : List UInt8) (n : Int) (ts : List Tk) (e E : Int) (hR : Rd w0 w l n ts e) (hl : l.length ≤ 20000) (hr : rdE (ahead l (dropA l)) = E) (hE : E ≠ 0) :
    Calls Tryz.prog 45 #[ptr w0.heap.size] w fun x w' => x = .returned .nilFunc ∧ Rd w0 w' (dropA l) n ts E := by
  have HC := (show Hid _ from take_any 68 pAmt en_amt w0 w l (dropA l) n ts e hR (pg_amt w) (drop_amt l) hl)
  have hal := ahead_len l (dropA l)
  obtain ⟨X, hX⟩ : ∃ X, X = ahead l (dropA l) := ⟨_, rfl⟩
  rw [← hX] at hr hal HC
  have HQ : Hid (∀ W, Tab W → Calls Tryz.prog 69 #[.string ⟨X.toArray⟩] W fun e w' => e = .returned (.tuple #[.agg #[.int .i64 (readL X mkQ).1, .int .i64 (readL X mkQ).2.1], .int .i64 E]) ∧ Below W.heap.size W w') := fun W h => by
    have := read_any X W (by omega) h
    rw [show (readL X mkQ).2.2 = E from hr] at this
    exact this
  have HT : Hid (Tab w0) := hT
  have hne : (E != 0) = true := by simp [hE]
  clear hR hr hX hT hal hE
  go_enter Tryz.func45, Tryz.ntmps45
  go_wp2_with fail
  refine Calls.mono HC.out ?_
  rintro x w1 ⟨rfl, hR1⟩
  have HR : Hid (Rd w0 w1 (dropA l) n ts e) := hR1
  clear hR1
  go_wp2_with fail
  refine Calls.mono (HQ.out w1 (HT.out.next HR.out.below)) ?_
  rintro x w2 ⟨rfl, hb2⟩
  have HR2 : Hid (Rd w0 (w2.alloc (.cells #[.int .i64 (readL X mkQ).1, .int .i64 (readL X mkQ).2.1] 64)) (dropA l) n ts e) := HR.out.later (hb2.alloc hb2.size _)
  clear hb2
  go_wp2_with fail
  refine Calls.mono (refuse_any w0 _ (dropA l) n ts e E HR2.out) ?_
  rintro x w3 ⟨rfl, hR3⟩
  have HR3 := (show Hid _ from hR3)
  clear hR3
  go_wp2
  go_ret
  exact ⟨rfl, HR3.out⟩

theorem fref_label (x : List UInt8) : F.fref [((⟨x.toArray⟩ : ByteArray), (0 : Int))] = if labB x = true then 0 else 3 := by
  unfold labB
  cases h : F.lab (⟨x.toArray⟩ : ByteArray) with
  | true =>
    rw [if_pos rfl]
    refine F.of_fref (by simp) (fun p hp => ?_) (by simp [F.tot])
    simp at hp
    subst hp
    exact ⟨h, by simp, by simp⟩
  | false =>
    rw [if_neg (by simp)]
    have hb : F.badL [((⟨x.toArray⟩ : ByteArray), (0 : Int))] = 3 := by
      simp only [F.badL]
      rw [F.bad1_name h, if_neg (by decide)]
    rw [F.fref_bad (by simp) (by rw [hb]; decide), hb]
theorem check_label (x : List UInt8) (c : Int) (w : World) (hx : x.length ≤ 20000) (hc : (if labB x = true then 0 else 3) = c) :
    Calls Tryz.prog 65 #[.slice (some ⟨w.heap.size, 0, none⟩) 1 1] (w.alloc (.cells #[.string ⟨x.toArray⟩, .int .i64 0] 96)) fun e w' => e = .returned (.int .i64 c) ∧ Below w.heap.size w w' := by
  have h := F.check_any (some ⟨w.heap.size, 0, none⟩) 1 [((⟨x.toArray⟩ : ByteArray), (0 : Int))] (w.alloc (.cells #[.string ⟨x.toArray⟩, .int .i64 0] 96)) ⟨fun p hp => by simp at hp; subst hp; simp [ByteArray.size, maxLen]; omega, .inr ⟨w.heap.size, 0, rfl, by simp, fun k hk => by
    obtain rfl : k = 0 := by simpa using hk
    exact ⟨by go_simp, by go_simp⟩⟩⟩
  rw [fref_label, hc] at h
  exact h.mono fun _ _ ⟨he, hb⟩ => ⟨he, ((Below.refl _ _).alloc (Nat.le_refl _) _).trans (hb.mono (by simp))⟩
theorem cutQuote (l : List UInt8) (w : World) : Calls Tryz.prog 64 #[.string ⟨l.toArray⟩, .string ⟨#[34]⟩] w fun e w' => e = .returned (.tuple #[.string ⟨(Lib.trimPrefix l [34]).toArray⟩, .bool (Lib.hasPrefix l [34])]) ∧ w' = w := cutPrefixL l [34] w
set_option maxHeartbeats 3200000 in
theorem label_open (w0 w : World) (t : List UInt8) (n : Int) (ts : List Tk) (e : Int) (hR : Rd w0 w (34 :: t) n ts e) (hl : t.length ≤ 20000) (hp : Lib.hasPrefix (quoD t) [34] = false) :
    Calls Tryz.prog 41 #[ptr w0.heap.size] w fun x w' => x = .returned .nilFunc ∧ ∃ l, Rd w0 w' l n ts 1 := by
  have HC := (show Hid _ from takeByte_any w0 w 34 t n ts e hR hl)
  have hal := ahead_len t (quoD t)
  obtain ⟨X, hX⟩ : ∃ X, X = ahead t (quoD t) := ⟨_, rfl⟩
  have HX : Hid (X = ahead t (quoD t)) := hX
  have HCQ : Hid (∀ W, Calls Tryz.prog 64 #[.string ⟨(quoD t).toArray⟩, .string ⟨#[34]⟩] W fun e w' => e = .returned (.tuple #[.string ⟨(Lib.trimPrefix (quoD t) [34]).toArray⟩, .bool (Lib.hasPrefix (quoD t) [34])]) ∧ w' = W) := fun W => cutQuote _ W
  have hXl : X.length ≤ 20000 := by rw [hX]; omega
  rw [hp] at HCQ
  clear hp
  clear hR hal hX
  go_enter Tryz.func41, Tryz.ntmps41
  go_wp2_with fail
  refine Calls.mono HC.out ?_
  rintro x w1 ⟨rfl, hR1⟩
  have HR : Hid (Rd w0 w1 t n ts e) := hR1
  clear hR1
  go_wp2_with fail
  refine Calls.mono (take_any 63 pQuo en_quo w0 w1 t (quoD t) n ts e HR.out (pg_quo w1) (drop_quo t) hl) ?_
  rw [← HX.out]
  rintro x w2 ⟨rfl, hR2⟩
  have HR2 : Hid (Rd w0 w2 (quoD t) n ts e) := hR2
  have c0 := hR2.c0
  clear hR2 HR
  go_wp2_with fail
  refine Calls.mono (HCQ.out w2) ?_
  rintro x w3 ⟨rfl, rfl⟩
  have HR3 : Hid (Rd w0 w3 (quoD t) n ts e) := HR2.out
  go_wp2_with fail
  refine Calls.mono (refuse_any w0 _ (quoD t) n ts e 1 HR3.out) ?_
  rintro x w4 ⟨rfl, hR4⟩
  have HR4 := (show Hid _ from hR4)
  clear hR4
  go_wp2
  go_ret
  exact ⟨rfl, quoD t, HR4.out⟩
set_option maxHeartbeats 3200000 in
theorem label_bad (w0 w : World) (t : List UInt8) (n : Int) (ts : List Tk) (e : Int) (hR : Rd w0 w (34 :: t) n ts e) (hl : t.length ≤ 20000) (hp : Lib.hasPrefix (quoD t) [34] = true) (hb : labB (ahead t (quoD t)) = false) :
    Calls Tryz.prog 41 #[ptr w0.heap.size] w fun x w' => x = .returned .nilFunc ∧ ∃ l, Rd w0 w' l n ts 1 := by
  have HC := (show Hid _ from takeByte_any w0 w 34 t n ts e hR hl)
  have hal := ahead_len t (quoD t)
  obtain ⟨X, hX⟩ : ∃ X, X = ahead t (quoD t) := ⟨_, rfl⟩
  have HX : Hid (X = ahead t (quoD t)) := hX
  have HCQ : Hid (∀ W, Calls Tryz.prog 64 #[.string ⟨(quoD t).toArray⟩, .string ⟨#[34]⟩] W fun e w' => e = .returned (.tuple #[.string ⟨(Lib.trimPrefix (quoD t) [34]).toArray⟩, .bool (Lib.hasPrefix (quoD t) [34])]) ∧ w' = W) := fun W => cutQuote _ W
  have hXl : X.length ≤ 20000 := by rw [hX]; omega
  rw [hp] at HCQ
  have HK : Hid (∀ W : World, Calls Tryz.prog 65 #[.slice (some ⟨W.heap.size, 0, none⟩) 1 1] (W.alloc (.cells #[.string ⟨X.toArray⟩, .int .i64 0] 96)) fun e w' => e = .returned (.int .i64 3) ∧ Below W.heap.size W w') := fun W => check_label X 3 W hXl (by rw [hX, hb]; rfl)
  clear hp hb
  clear hR hal hX
  go_enter Tryz.func41, Tryz.ntmps41
  go_wp2_with fail
  refine Calls.mono HC.out ?_
  rintro x w1 ⟨rfl, hR1⟩
  have HR : Hid (Rd w0 w1 t n ts e) := hR1
  clear hR1
  go_wp2_with fail
  refine Calls.mono (take_any 63 pQuo en_quo w0 w1 t (quoD t) n ts e HR.out (pg_quo w1) (drop_quo t) hl) ?_
  rw [← HX.out]
  rintro x w2 ⟨rfl, hR2⟩
  have HR2 : Hid (Rd w0 w2 (quoD t) n ts e) := hR2
  have c0 := hR2.c0
  clear hR2 HR
  go_wp2_with fail
  refine Calls.mono (HCQ.out w2) ?_
  rintro x w3 ⟨rfl, rfl⟩
  go_wp2_with fail
  refine Calls.mono (HK.out w3) ?_
  rintro x w4 ⟨rfl, hb4⟩
  have HR3 : Hid (Rd w0 w4 (quoD t) n ts e) := HR2.out.later hb4
  have c0 := HR3.out.c0
  have f0 := HR3.out.f0
  clear hb4
  go_wp2_with fail
  refine Calls.mono (refuse_any w0 _ (quoD t) n ts e 1 HR3.out) ?_
  rintro x w4 ⟨rfl, hR4⟩
  have HR4 := (show Hid _ from hR4)
  clear hR4
  go_wp2
  go_ret
  exact ⟨rfl, quoD t, HR4.out⟩
set_option maxHeartbeats 3200000 in
theorem label_good (w0 w : World) (t : List UInt8) (n : Int) (ts : List Tk) (e : Int) (hR : Rd w0 w (34 :: t) n ts e) (hl : t.length ≤ 20000) (ht : ts.length ≤ 20000) (hp : Lib.hasPrefix (quoD t) [34] = true) (hb : labB (ahead t (quoD t)) = true) :
    Calls Tryz.prog 41 #[ptr w0.heap.size] w fun x w' => x = .returned (fnV 24) ∧ Rd w0 w' (Lib.trimPrefix (quoD t) [34]) n (ts ++ [⟨4, ahead t (quoD t), n⟩]) e := by
  have HC := (show Hid _ from takeByte_any w0 w 34 t n ts e hR hl)
  have hal := ahead_len t (quoD t)
  obtain ⟨X, hX⟩ : ∃ X, X = ahead t (quoD t) := ⟨_, rfl⟩
  have HX : Hid (X = ahead t (quoD t)) := hX
  have HCQ : Hid (∀ W, Calls Tryz.prog 64 #[.string ⟨(quoD t).toArray⟩, .string ⟨#[34]⟩] W fun e w' => e = .returned (.tuple #[.string ⟨(Lib.trimPrefix (quoD t) [34]).toArray⟩, .bool (Lib.hasPrefix (quoD t) [34])]) ∧ w' = W) := fun W => cutQuote _ W
  have hXl : X.length ≤ 20000 := by rw [hX]; omega
  rw [hp] at HCQ
  have HK : Hid (∀ W : World, Calls Tryz.prog 65 #[.slice (some ⟨W.heap.size, 0, none⟩) 1 1] (W.alloc (.cells #[.string ⟨X.toArray⟩, .int .i64 0] 96)) fun e w' => e = .returned (.int .i64 0) ∧ Below W.heap.size W w') := fun W => check_label X 0 W hXl (by rw [hX, hb]; rfl)
  rw [← hX]
  clear hp hb
  clear hR hal hX
  go_enter Tryz.func41, Tryz.ntmps41
  go_wp2_with fail
  refine Calls.mono HC.out ?_
  rintro x w1 ⟨rfl, hR1⟩
  have HR : Hid (Rd w0 w1 t n ts e) := hR1
  clear hR1
  go_wp2_with fail
  refine Calls.mono (take_any 63 pQuo en_quo w0 w1 t (quoD t) n ts e HR.out (pg_quo w1) (drop_quo t) hl) ?_
  rw [← HX.out]
  rintro x w2 ⟨rfl, hR2⟩
  have HR2 : Hid (Rd w0 w2 (quoD t) n ts e) := hR2
  have c0 := hR2.c0
  clear hR2 HR
  go_wp2_with fail
  refine Calls.mono (HCQ.out w2) ?_
  rintro x w3 ⟨rfl, rfl⟩
  go_wp2_with fail
  refine Calls.mono (HK.out w3) ?_
  rintro x w4 ⟨rfl, hb4⟩
  have HR3 : Hid (Rd w0 w4 (quoD t) n ts e) := HR2.out.later hb4
  have c0 := HR3.out.c0
  have f0 := HR3.out.f0
  clear hb4
  go_wp2_with fail
  refine Calls.mono (tell_any w0 _ (Lib.trimPrefix (quoD t) [34]) n ts e 4 X (HR3.out.set0 _) ht) ?_
  rintro x w5 ⟨rfl, hR5⟩
  have HR5 := (show Hid _ from hR5)
  clear hR5
  go_wp2
  go_ret
  exact ⟨rfl, HR5.out⟩
end Go.Proofs.YtpfpfnkagmmanaaGreatDoor
