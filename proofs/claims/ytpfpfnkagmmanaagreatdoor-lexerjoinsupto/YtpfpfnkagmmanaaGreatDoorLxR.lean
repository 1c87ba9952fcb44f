/- The reader's methods, walked: take, takeByte, refuse, tell. -/
import Derived.Test.YtpfpfnkagmmanaaGreatDoorLxP
namespace Go.Proofs.YtpfpfnkagmmanaaGreatDoor
open Go.RowKit Go.Shelf

theorem dropR_len (p : Nat → Bool) : ∀ (f : Nat) (l : List UInt8), (dropR p f l).length ≤ l.length
  | 0, l => Nat.le_refl _
  | f + 1, l => by
    unfold dropR
    split
    · simp
    · split
      · have := dropR_len p f (l.drop (Lib.decodeL l).2)
        rw [List.length_drop] at this
        omega
      · exact Nat.le_refl _
theorem take_ahead (l r : List UInt8) : (⟨l.toArray⟩ : ByteArray).extract 0 (l.length - r.length) = ⟨(ahead l r).toArray⟩ := by
  apply ByteArray.ext
  rw [ByteArray.data_extract]
  simp [ahead]

set_option maxHeartbeats 3200000 in
theorem take_any (g : Nat) (p : Nat → Bool) (eg : ∀ args w, (callFunc g args).run Tryz.prog w = .ok (.enter g args) w) (w0 w : World) (l r : List UInt8) (n : Int) (ts : List Tk) (e : Int) (hR : Rd w0 w l n ts e) (hp : PredGrows Tryz.prog g #[] p w) (hr : dropR p l.length l = r) (hl : l.length ≤ 20000) :
    Calls Tryz.prog 36 #[ptr w0.heap.size, fnV g] w fun e' w' => e' = .returned (.string ⟨(ahead l r).toArray⟩) ∧ Rd w0 w' r n ts e := by
  have hrl : r.length ≤ l.length := by rw [← hr]; exact dropR_len _ _ _
  have hc := Tryz.strings_TrimLeftFunc_grows g #[] eg p ⟨l.toArray⟩ w hp
  rw [trimF_is, hr] at hc
  have HC := (show Hid _ from hc)
  have HR := (show Hid _ from hR)
  have c0 := hR.c0
  have e1 : ∀ W, (Instr.slice 9 (.string ⟨l.toArray⟩) none (some (.int .i64 ((l.length : Int) - (r.length : Int)))) none).run Tryz.prog W = .ok (.string ⟨(ahead l r).toArray⟩) W := fun W => by
    rw [run_slice_string_h W 9 _ Tryz.underlying9 .i64 _ (by omega) (by simp [ByteArray.size]; omega), show ((l.length : Int) - (r.length : Int)).toNat = l.length - r.length by omega, take_ahead]
  clear hc hr hp hR
  go_enter Tryz.func36, Tryz.ntmps36
  go_wp2_with fail
  refine Calls.mono HC.out ?_
  rintro e' w1 ⟨rfl, hb1⟩
  have HR1 := (show Hid _ from HR.out.later hb1)
  have d0 := HR1.out.c0
  have d1 := HR1.out.f0
  clear c0 hb1
  go_wp2_with fail
  go_big_quiet (fail)
  go_wp2
  go_ret
  exact ⟨rfl, (HR1.out.drewN _).set0 r⟩

set_option maxHeartbeats 1600000 in
theorem takeByte_any (w0 w : World) (b : UInt8) (t : List UInt8) (n : Int) (ts : List Tk) (e : Int) (hR : Rd w0 w (b :: t) n ts e) (hl : t.length ≤ 20000) :
    Calls Tryz.prog 61 #[ptr w0.heap.size] w fun e' w' => e' = .returned (.string ⟨#[b]⟩) ∧ Rd w0 w' t n ts e := by
  have HR := (show Hid _ from hR)
  have c0 := hR.c0
  have f0 := hR.f0
  have hsz : (⟨(b :: t).toArray⟩ : ByteArray).size = t.length + 1 := by simp [ByteArray.size]
  obtain ⟨U, hU⟩ : ∃ U : ByteArray, U = ⟨(b :: t).toArray⟩ := ⟨_, rfl⟩
  have x1 : U.extract 0 1 = ⟨#[b]⟩ := by
    rw [hU]
    apply ByteArray.ext
    rw [ByteArray.data_extract]
    simp
  have x2 : U.extract 1 U.size = ⟨t.toArray⟩ := by
    rw [hU, hsz]
    apply ByteArray.ext
    rw [ByteArray.data_extract]
    simp
  rw [← hU] at c0 hsz
  have e1 : ∀ W, (Instr.slice 9 (.string U) none (some (.int .i64 1)) none).run Tryz.prog W = .ok (.string ⟨#[b]⟩) W := fun W => by
    rw [run_slice_string_h W 9 U Tryz.underlying9 .i64 1 (by omega) (by rw [hsz]; omega), show (1 : Int).toNat = 1 from rfl, x1]
  have e2 : ∀ W, (Instr.slice 9 (.string U) (some (.int .i64 1)) none none).run Tryz.prog W = .ok (.string ⟨t.toArray⟩) W := fun W => by
    rw [run_slice_string_l W 9 U Tryz.underlying9 .i64 1 (by omega) (by rw [hsz]; omega), show (1 : Int).toNat = 1 from rfl, x2]
  clear hR x1 x2 hU
  go_enter Tryz.func61, Tryz.ntmps61
  go_wp2
  go_ret
  exact ⟨rfl, HR.out.set0 t⟩

set_option maxHeartbeats 800000 in
theorem refuse_any (w0 w : World) (l : List UInt8) (n : Int) (ts : List Tk) (e e' : Int) (hR : Rd w0 w l n ts e) :
    Calls Tryz.prog 48 #[ptr w0.heap.size, .int .i64 e'] w fun x w' => x = .returned .nilFunc ∧ Rd w0 w' l n ts e' := by
  have HR := (show Hid _ from hR)
  have f3 := hR.f3
  have c3 := hR.c3
  clear hR
  go_enter Tryz.func48, Tryz.ntmps48
  go_wp2
  go_ret
  exact ⟨rfl, HR.out.set3 e'⟩
end Go.Proofs.YtpfpfnkagmmanaaGreatDoor
