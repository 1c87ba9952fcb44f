/- The state between tokens, walked. -/
import Derived.Test.YtpfpfnkagmmanaaGreatDoorLxW
namespace Go.Proofs.YtpfpfnkagmmanaaGreatDoor
open Go.RowKit Go.Shelf

theorem decodeGo_cons (b : UInt8) (t : List UInt8) : Lib.decodeGo ⟨(b :: t).toArray⟩ = Lib.decodeL (b :: t) := by
  unfold Lib.decodeGo
  rw [if_neg (by simp [ByteArray.size])]
  rfl
theorem ne_cast {b c : UInt8} (h : b ≠ c) : ((b.toNat : Int) == (c.toNat : Int)) = false := by
  have := nat_ne h
  simp
  omega
theorem beq_nil {l : List UInt8} (h : l ≠ []) : (l == []) = false := by cases l <;> simp_all
set_option maxHeartbeats 1600000 in
theorem between_end (w0 w : World) (l : List UInt8) (n : Int) (ts : List Tk) (e : Int) (hR : Rd w0 w l n ts e) (hl : l.length ≤ 20000) (hb : blankD l = []) :
    Calls Tryz.prog 24 #[ptr w0.heap.size] w fun x w' => x = .returned .nilFunc ∧ Rd w0 w' [] n ts e := by
  have HC := (show Hid _ from take_any 37 pBlank en_blank w0 w l [] n ts e hR (pg_blank w) ((drop_blank l).trans hb) hl)
  clear hR hb
  go_enter Tryz.func24, Tryz.ntmps24
  go_wp2_with fail
  refine Calls.mono HC.out ?_
  rintro x w1 ⟨rfl, hR1⟩
  have HR : Hid (Rd w0 w1 [] n ts e) := hR1
  have c0 := hR1.c0
  clear hR1
  go_wp2
  go_ret
  exact ⟨rfl, HR.out⟩
set_option maxHeartbeats 3200000 in
theorem between_feed (w0 w : World) (hT : Tab w0) (l : List UInt8) (b : UInt8) (t : List UInt8) (R : Nat) (n : Int) (ts : List Tk) (e : Int) (hR : Rd w0 w l n ts e) (hl : l.length ≤ 20000) (hb : blankD l = b :: t) (hd : (Lib.decodeL (b :: t)).1 = R) (hr : R = 10) :
    Calls Tryz.prog 24 #[ptr w0.heap.size] w fun x w' => x = .returned (fnV 39) ∧ Rd w0 w' (b :: t) n ts e := by
  have HC := (show Hid _ from take_any 37 pBlank en_blank w0 w l (b :: t) n ts e hR (pg_blank w) ((drop_blank l).trans hb) hl)
  have HD : Hid (∀ W, Tab W → Calls Tryz.prog 38 #[.string ⟨(b :: t).toArray⟩] W fun e w' => e = .returned (.tuple #[.int .i32 (R : Int), .int .i64 ((Lib.decodeL (b :: t)).2 : Int)]) ∧ Below W.heap.size W w') := fun W h => by
    have := Tryz.utf8_DecodeRuneInString ⟨(b :: t).toArray⟩ W h
    rw [decodeGo_cons, hd] at this
    exact this
  have HT : Hid (Tab w0) := hT
  have hne : ((b :: t) == []) = false := by simp
  have q10 : ((R : Int) == 10) = true := by simp; omega
  obtain ⟨U, hU⟩ : ∃ U : ByteArray, U = ⟨(b :: t).toArray⟩ := ⟨_, rfl⟩
  have HU : Hid (U = ⟨(b :: t).toArray⟩) := hU
  have hUe : U.toList.isEmpty = false := by rw [hU]; simp
  rw [← hU] at HD
  clear hR hb hd hT hU
  go_enter Tryz.func24, Tryz.ntmps24
  go_wp2_with fail
  refine Calls.mono HC.out ?_
  rintro x w1 ⟨rfl, hR1⟩
  have HR : Hid (Rd w0 w1 (b :: t) n ts e) := hR1
  have c0 : w1.cell? ⟨w0.heap.size, 0, none⟩ = some (.string U) := by rw [HU.out]; exact hR1.c0
  clear hR1
  go_wp2_with fail
  refine Calls.mono (HD.out w1 (HT.out.next HR.out.below)) ?_
  rintro x w2 ⟨rfl, hb2⟩
  have HR2 : Hid (Rd w0 w2 (b :: t) n ts e) := HR.out.later hb2
  clear hb2 HR c0
  go_wp2
  go_ret
  exact ⟨rfl, HR2.out⟩
set_option maxHeartbeats 3200000 in
theorem between_remark (w0 w : World) (hT : Tab w0) (l : List UInt8) (b : UInt8) (t : List UInt8) (R : Nat) (n : Int) (ts : List Tk) (e : Int) (hR : Rd w0 w l n ts e) (hl : l.length ≤ 20000) (hb : blankD l = b :: t) (hd : (Lib.decodeL (b :: t)).1 = R) (hr : R = 35) :
    Calls Tryz.prog 24 #[ptr w0.heap.size] w fun x w' => x = .returned (fnV 40) ∧ Rd w0 w' (b :: t) n ts e := by
  have HC := (show Hid _ from take_any 37 pBlank en_blank w0 w l (b :: t) n ts e hR (pg_blank w) ((drop_blank l).trans hb) hl)
  have HD : Hid (∀ W, Tab W → Calls Tryz.prog 38 #[.string ⟨(b :: t).toArray⟩] W fun e w' => e = .returned (.tuple #[.int .i32 (R : Int), .int .i64 ((Lib.decodeL (b :: t)).2 : Int)]) ∧ Below W.heap.size W w') := fun W h => by
    have := Tryz.utf8_DecodeRuneInString ⟨(b :: t).toArray⟩ W h
    rw [decodeGo_cons, hd] at this
    exact this
  have HT : Hid (Tab w0) := hT
  have hne : ((b :: t) == []) = false := by simp
  have q10 : ((R : Int) == 10) = false := by simp; omega
  have q35 : ((R : Int) == 35) = true := by simp; omega
  obtain ⟨U, hU⟩ : ∃ U : ByteArray, U = ⟨(b :: t).toArray⟩ := ⟨_, rfl⟩
  have HU : Hid (U = ⟨(b :: t).toArray⟩) := hU
  have hUe : U.toList.isEmpty = false := by rw [hU]; simp
  rw [← hU] at HD
  clear hR hb hd hT hU
  go_enter Tryz.func24, Tryz.ntmps24
  go_wp2_with fail
  refine Calls.mono HC.out ?_
  rintro x w1 ⟨rfl, hR1⟩
  have HR : Hid (Rd w0 w1 (b :: t) n ts e) := hR1
  have c0 : w1.cell? ⟨w0.heap.size, 0, none⟩ = some (.string U) := by rw [HU.out]; exact hR1.c0
  clear hR1
  go_wp2_with fail
  refine Calls.mono (HD.out w1 (HT.out.next HR.out.below)) ?_
  rintro x w2 ⟨rfl, hb2⟩
  have HR2 : Hid (Rd w0 w2 (b :: t) n ts e) := HR.out.later hb2
  clear hb2 HR c0
  go_wp2
  go_ret
  exact ⟨rfl, HR2.out⟩
set_option maxHeartbeats 3200000 in
theorem between_quote (w0 w : World) (hT : Tab w0) (l : List UInt8) (b : UInt8) (t : List UInt8) (R : Nat) (n : Int) (ts : List Tk) (e : Int) (hR : Rd w0 w l n ts e) (hl : l.length ≤ 20000) (hb : blankD l = b :: t) (hd : (Lib.decodeL (b :: t)).1 = R) (hr : R = 34) :
    Calls Tryz.prog 24 #[ptr w0.heap.size] w fun x w' => x = .returned (fnV 41) ∧ Rd w0 w' (b :: t) n ts e := by
  have HC := (show Hid _ from take_any 37 pBlank en_blank w0 w l (b :: t) n ts e hR (pg_blank w) ((drop_blank l).trans hb) hl)
  have HD : Hid (∀ W, Tab W → Calls Tryz.prog 38 #[.string ⟨(b :: t).toArray⟩] W fun e w' => e = .returned (.tuple #[.int .i32 (R : Int), .int .i64 ((Lib.decodeL (b :: t)).2 : Int)]) ∧ Below W.heap.size W w') := fun W h => by
    have := Tryz.utf8_DecodeRuneInString ⟨(b :: t).toArray⟩ W h
    rw [decodeGo_cons, hd] at this
    exact this
  have HT : Hid (Tab w0) := hT
  have hne : ((b :: t) == []) = false := by simp
  have q10 : ((R : Int) == 10) = false := by simp; omega
  have q35 : ((R : Int) == 35) = false := by simp; omega
  have q34 : ((R : Int) == 34) = true := by simp; omega
  obtain ⟨U, hU⟩ : ∃ U : ByteArray, U = ⟨(b :: t).toArray⟩ := ⟨_, rfl⟩
  have HU : Hid (U = ⟨(b :: t).toArray⟩) := hU
  have hUe : U.toList.isEmpty = false := by rw [hU]; simp
  rw [← hU] at HD
  clear hR hb hd hT hU
  go_enter Tryz.func24, Tryz.ntmps24
  go_wp2_with fail
  refine Calls.mono HC.out ?_
  rintro x w1 ⟨rfl, hR1⟩
  have HR : Hid (Rd w0 w1 (b :: t) n ts e) := hR1
  have c0 : w1.cell? ⟨w0.heap.size, 0, none⟩ = some (.string U) := by rw [HU.out]; exact hR1.c0
  clear hR1
  go_wp2_with fail
  refine Calls.mono (HD.out w1 (HT.out.next HR.out.below)) ?_
  rintro x w2 ⟨rfl, hb2⟩
  have HR2 : Hid (Rd w0 w2 (b :: t) n ts e) := HR.out.later hb2
  clear hb2 HR c0
  go_wp2
  go_ret
  exact ⟨rfl, HR2.out⟩
set_option maxHeartbeats 3200000 in
theorem between_word (w0 w : World) (hT : Tab w0) (l : List UInt8) (b : UInt8) (t : List UInt8) (R : Nat) (n : Int) (ts : List Tk) (e : Int) (hR : Rd w0 w l n ts e) (hl : l.length ≤ 20000) (hb : blankD l = b :: t) (hd : (Lib.decodeL (b :: t)).1 = R) (h10 : R ≠ 10) (h35 : R ≠ 35) (h34 : R ≠ 34) (hle : letR R = true) :
    Calls Tryz.prog 24 #[ptr w0.heap.size] w fun x w' => x = .returned (fnV 43) ∧ Rd w0 w' (b :: t) n ts e := by
  have HC := (show Hid _ from take_any 37 pBlank en_blank w0 w l (b :: t) n ts e hR (pg_blank w) ((drop_blank l).trans hb) hl)
  have HD : Hid (∀ W, Tab W → Calls Tryz.prog 38 #[.string ⟨(b :: t).toArray⟩] W fun e w' => e = .returned (.tuple #[.int .i32 (R : Int), .int .i64 ((Lib.decodeL (b :: t)).2 : Int)]) ∧ Below W.heap.size W w') := fun W h => by
    have := Tryz.utf8_DecodeRuneInString ⟨(b :: t).toArray⟩ W h
    rw [decodeGo_cons, hd] at this
    exact this
  have HT : Hid (Tab w0) := hT
  have hne : ((b :: t) == []) = false := by simp
  have q10 : ((R : Int) == 10) = false := by simp; omega
  have q35 : ((R : Int) == 35) = false := by simp; omega
  have q34 : ((R : Int) == 34) = false := by simp; omega
  have HLe : Hid (∀ W, Calls Tryz.prog 42 #[.int .i32 (R : Int)] W fun e w' => e = .returned (.bool true) ∧ w' = W) := fun W => by
    have := isLetter_any R W
    rw [hle] at this; exact this
  clear hle
  obtain ⟨U, hU⟩ : ∃ U : ByteArray, U = ⟨(b :: t).toArray⟩ := ⟨_, rfl⟩
  have HU : Hid (U = ⟨(b :: t).toArray⟩) := hU
  have hUe : U.toList.isEmpty = false := by rw [hU]; simp
  rw [← hU] at HD
  clear hR hb hd hT hU
  go_enter Tryz.func24, Tryz.ntmps24
  go_wp2_with fail
  refine Calls.mono HC.out ?_
  rintro x w1 ⟨rfl, hR1⟩
  have HR : Hid (Rd w0 w1 (b :: t) n ts e) := hR1
  have c0 : w1.cell? ⟨w0.heap.size, 0, none⟩ = some (.string U) := by rw [HU.out]; exact hR1.c0
  clear hR1
  go_wp2_with fail
  refine Calls.mono (HD.out w1 (HT.out.next HR.out.below)) ?_
  rintro x w2 ⟨rfl, hb2⟩
  have HR2 : Hid (Rd w0 w2 (b :: t) n ts e) := HR.out.later hb2
  clear hb2 HR c0
  go_wp2_with fail
  refine Calls.mono (HLe.out _) ?_
  rintro x w2' ⟨rfl, rfl⟩
  go_wp2
  go_ret
  exact ⟨rfl, HR2.out⟩
set_option maxHeartbeats 3200000 in
theorem between_amount (w0 w : World) (hT : Tab w0) (l : List UInt8) (b : UInt8) (t : List UInt8) (R : Nat) (n : Int) (ts : List Tk) (e : Int) (hR : Rd w0 w l n ts e) (hl : l.length ≤ 20000) (hb : blankD l = b :: t) (hd : (Lib.decodeL (b :: t)).1 = R) (h10 : R ≠ 10) (h35 : R ≠ 35) (h34 : R ≠ 34) (hle : letR R = false) (hdi : digR R = true) :
    Calls Tryz.prog 24 #[ptr w0.heap.size] w fun x w' => x = .returned (fnV 45) ∧ Rd w0 w' (b :: t) n ts e := by
  have HC := (show Hid _ from take_any 37 pBlank en_blank w0 w l (b :: t) n ts e hR (pg_blank w) ((drop_blank l).trans hb) hl)
  have HD : Hid (∀ W, Tab W → Calls Tryz.prog 38 #[.string ⟨(b :: t).toArray⟩] W fun e w' => e = .returned (.tuple #[.int .i32 (R : Int), .int .i64 ((Lib.decodeL (b :: t)).2 : Int)]) ∧ Below W.heap.size W w') := fun W h => by
    have := Tryz.utf8_DecodeRuneInString ⟨(b :: t).toArray⟩ W h
    rw [decodeGo_cons, hd] at this
    exact this
  have HT : Hid (Tab w0) := hT
  have hne : ((b :: t) == []) = false := by simp
  have q10 : ((R : Int) == 10) = false := by simp; omega
  have q35 : ((R : Int) == 35) = false := by simp; omega
  have q34 : ((R : Int) == 34) = false := by simp; omega
  have HLe : Hid (∀ W, Calls Tryz.prog 42 #[.int .i32 (R : Int)] W fun e w' => e = .returned (.bool false) ∧ w' = W) := fun W => by
    have := isLetter_any R W
    rw [hle] at this; exact this
  clear hle
  have HDi : Hid (∀ W, Calls Tryz.prog 44 #[.int .i32 (R : Int)] W fun e w' => e = .returned (.bool true) ∧ w' = W) := fun W => by
    have := isDigit_any R W
    rw [hdi] at this; exact this
  clear hdi
  obtain ⟨U, hU⟩ : ∃ U : ByteArray, U = ⟨(b :: t).toArray⟩ := ⟨_, rfl⟩
  have HU : Hid (U = ⟨(b :: t).toArray⟩) := hU
  have hUe : U.toList.isEmpty = false := by rw [hU]; simp
  rw [← hU] at HD
  clear hR hb hd hT hU
  go_enter Tryz.func24, Tryz.ntmps24
  go_wp2_with fail
  refine Calls.mono HC.out ?_
  rintro x w1 ⟨rfl, hR1⟩
  have HR : Hid (Rd w0 w1 (b :: t) n ts e) := hR1
  have c0 : w1.cell? ⟨w0.heap.size, 0, none⟩ = some (.string U) := by rw [HU.out]; exact hR1.c0
  clear hR1
  go_wp2_with fail
  refine Calls.mono (HD.out w1 (HT.out.next HR.out.below)) ?_
  rintro x w2 ⟨rfl, hb2⟩
  have HR2 : Hid (Rd w0 w2 (b :: t) n ts e) := HR.out.later hb2
  clear hb2 HR c0
  go_wp2_with fail
  refine Calls.mono (HLe.out _) ?_
  rintro x w2' ⟨rfl, rfl⟩
  go_wp2_with fail
  refine Calls.mono (HDi.out _) ?_
  rintro x w2' ⟨rfl, rfl⟩
  go_wp2
  go_ret
  exact ⟨rfl, HR2.out⟩
set_option maxHeartbeats 3200000 in
theorem between_sign (w0 w : World) (hT : Tab w0) (l : List UInt8) (b : UInt8) (t : List UInt8) (R : Nat) (n : Int) (ts : List Tk) (e : Int) (hR : Rd w0 w l n ts e) (hl : l.length ≤ 20000) (hb : blankD l = b :: t) (hd : (Lib.decodeL (b :: t)).1 = R) (h10 : R ≠ 10) (h35 : R ≠ 35) (h34 : R ≠ 34) (hle : letR R = false) (hdi : digR R = false) (hsg : ∀ W, Calls Tryz.prog 46 #[.string signA, .int .i32 (R : Int)] W fun e w' => e = .returned (.bool true) ∧ Below W.heap.size W w') :
    Calls Tryz.prog 24 #[ptr w0.heap.size] w fun x w' => x = .returned (fnV 47) ∧ Rd w0 w' (b :: t) n ts e := by
  have HC := (show Hid _ from take_any 37 pBlank en_blank w0 w l (b :: t) n ts e hR (pg_blank w) ((drop_blank l).trans hb) hl)
  have HD : Hid (∀ W, Tab W → Calls Tryz.prog 38 #[.string ⟨(b :: t).toArray⟩] W fun e w' => e = .returned (.tuple #[.int .i32 (R : Int), .int .i64 ((Lib.decodeL (b :: t)).2 : Int)]) ∧ Below W.heap.size W w') := fun W h => by
    have := Tryz.utf8_DecodeRuneInString ⟨(b :: t).toArray⟩ W h
    rw [decodeGo_cons, hd] at this
    exact this
  have HT : Hid (Tab w0) := hT
  have hne : ((b :: t) == []) = false := by simp
  have q10 : ((R : Int) == 10) = false := by simp; omega
  have q35 : ((R : Int) == 35) = false := by simp; omega
  have q34 : ((R : Int) == 34) = false := by simp; omega
  have HLe : Hid (∀ W, Calls Tryz.prog 42 #[.int .i32 (R : Int)] W fun e w' => e = .returned (.bool false) ∧ w' = W) := fun W => by
    have := isLetter_any R W
    rw [hle] at this; exact this
  clear hle
  have HDi : Hid (∀ W, Calls Tryz.prog 44 #[.int .i32 (R : Int)] W fun e w' => e = .returned (.bool false) ∧ w' = W) := fun W => by
    have := isDigit_any R W
    rw [hdi] at this; exact this
  clear hdi
  have HSg : Hid (∀ W, Calls Tryz.prog 46 #[.string signA, .int .i32 (R : Int)] W fun e w' => e = .returned (.bool true) ∧ Below W.heap.size W w') := hsg
  clear hsg
  obtain ⟨U, hU⟩ : ∃ U : ByteArray, U = ⟨(b :: t).toArray⟩ := ⟨_, rfl⟩
  have HU : Hid (U = ⟨(b :: t).toArray⟩) := hU
  have hUe : U.toList.isEmpty = false := by rw [hU]; simp
  rw [← hU] at HD
  clear hR hb hd hT hU
  go_enter Tryz.func24, Tryz.ntmps24
  go_wp2_with fail
  refine Calls.mono HC.out ?_
  rintro x w1 ⟨rfl, hR1⟩
  have HR : Hid (Rd w0 w1 (b :: t) n ts e) := hR1
  have c0 : w1.cell? ⟨w0.heap.size, 0, none⟩ = some (.string U) := by rw [HU.out]; exact hR1.c0
  clear hR1
  go_wp2_with fail
  refine Calls.mono (HD.out w1 (HT.out.next HR.out.below)) ?_
  rintro x w2 ⟨rfl, hb2⟩
  have HR2 : Hid (Rd w0 w2 (b :: t) n ts e) := HR.out.later hb2
  clear hb2 HR c0
  go_wp2_with fail
  refine Calls.mono (HLe.out _) ?_
  rintro x w2' ⟨rfl, rfl⟩
  go_wp2_with fail
  refine Calls.mono (HDi.out _) ?_
  rintro x w2' ⟨rfl, rfl⟩
  go_wp2_with fail
  refine Calls.mono (HSg.out _) ?_
  rintro x w3 ⟨rfl, hb3⟩
  go_wp2
  go_ret
  exact ⟨rfl, HR2.out.later hb3⟩
set_option maxHeartbeats 3200000 in
theorem between_none (w0 w : World) (hT : Tab w0) (l : List UInt8) (b : UInt8) (t : List UInt8) (R : Nat) (n : Int) (ts : List Tk) (e : Int) (hR : Rd w0 w l n ts e) (hl : l.length ≤ 20000) (hb : blankD l = b :: t) (hd : (Lib.decodeL (b :: t)).1 = R) (h10 : R ≠ 10) (h35 : R ≠ 35) (h34 : R ≠ 34) (hle : letR R = false) (hdi : digR R = false) (hsg : ∀ W, Calls Tryz.prog 46 #[.string signA, .int .i32 (R : Int)] W fun e w' => e = .returned (.bool false) ∧ Below W.heap.size W w') :
    Calls Tryz.prog 24 #[ptr w0.heap.size] w fun x w' => x = .returned .nilFunc ∧ Rd w0 w' (b :: t) n ts 1 := by
  have HC := (show Hid _ from take_any 37 pBlank en_blank w0 w l (b :: t) n ts e hR (pg_blank w) ((drop_blank l).trans hb) hl)
  have HD : Hid (∀ W, Tab W → Calls Tryz.prog 38 #[.string ⟨(b :: t).toArray⟩] W fun e w' => e = .returned (.tuple #[.int .i32 (R : Int), .int .i64 ((Lib.decodeL (b :: t)).2 : Int)]) ∧ Below W.heap.size W w') := fun W h => by
    have := Tryz.utf8_DecodeRuneInString ⟨(b :: t).toArray⟩ W h
    rw [decodeGo_cons, hd] at this
    exact this
  have HT : Hid (Tab w0) := hT
  have hne : ((b :: t) == []) = false := by simp
  have q10 : ((R : Int) == 10) = false := by simp; omega
  have q35 : ((R : Int) == 35) = false := by simp; omega
  have q34 : ((R : Int) == 34) = false := by simp; omega
  have HLe : Hid (∀ W, Calls Tryz.prog 42 #[.int .i32 (R : Int)] W fun e w' => e = .returned (.bool false) ∧ w' = W) := fun W => by
    have := isLetter_any R W
    rw [hle] at this; exact this
  clear hle
  have HDi : Hid (∀ W, Calls Tryz.prog 44 #[.int .i32 (R : Int)] W fun e w' => e = .returned (.bool false) ∧ w' = W) := fun W => by
    have := isDigit_any R W
    rw [hdi] at this; exact this
  clear hdi
  have HSg : Hid (∀ W, Calls Tryz.prog 46 #[.string signA, .int .i32 (R : Int)] W fun e w' => e = .returned (.bool false) ∧ Below W.heap.size W w') := hsg
  clear hsg
  obtain ⟨U, hU⟩ : ∃ U : ByteArray, U = ⟨(b :: t).toArray⟩ := ⟨_, rfl⟩
  have HU : Hid (U = ⟨(b :: t).toArray⟩) := hU
  have hUe : U.toList.isEmpty = false := by rw [hU]; simp
  rw [← hU] at HD
  clear hR hb hd hT hU
  go_enter Tryz.func24, Tryz.ntmps24
  go_wp2_with fail
  refine Calls.mono HC.out ?_
  rintro x w1 ⟨rfl, hR1⟩
  have HR : Hid (Rd w0 w1 (b :: t) n ts e) := hR1
  have c0 : w1.cell? ⟨w0.heap.size, 0, none⟩ = some (.string U) := by rw [HU.out]; exact hR1.c0
  clear hR1
  go_wp2_with fail
  refine Calls.mono (HD.out w1 (HT.out.next HR.out.below)) ?_
  rintro x w2 ⟨rfl, hb2⟩
  have HR2 : Hid (Rd w0 w2 (b :: t) n ts e) := HR.out.later hb2
  clear hb2 HR c0
  go_wp2_with fail
  refine Calls.mono (HLe.out _) ?_
  rintro x w2' ⟨rfl, rfl⟩
  go_wp2_with fail
  refine Calls.mono (HDi.out _) ?_
  rintro x w2' ⟨rfl, rfl⟩
  go_wp2_with fail
  refine Calls.mono (HSg.out _) ?_
  rintro x w3 ⟨rfl, hb3⟩
  have HR3 : Hid (Rd w0 w3 (b :: t) n ts e) := HR2.out.later hb3
  clear hb3
  go_wp2_with fail
  refine Calls.mono (refuse_any w0 w3 (b :: t) n ts e 1 HR3.out) ?_
  rintro x w4 ⟨rfl, hR4⟩
  have HR4 := (show Hid _ from hR4)
  clear hR4
  go_wp2
  go_ret
  exact ⟨rfl, HR4.out⟩
end Go.Proofs.YtpfpfnkagmmanaaGreatDoor
