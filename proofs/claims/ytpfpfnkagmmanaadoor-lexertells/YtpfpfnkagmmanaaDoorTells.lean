/- The law LexerTells walked. -/
import Derived.Test.YtpfpfnkagmmanaaDoorLxL
import Derived.Test.YtpfpfnkagmmanaaDoorRfL
import Derived.Test.YtpfpfnkagmmanaaDoorSame
import Derived.Test.YtpfpfnkagmmanaaDoorJnG
namespace Go.Proofs.YtpfpfnkagmmanaaDoor
open Go.RowKit Go.Shelf

theorem lexR_len {u : List UInt8} {ts : List Tk} {N E : Int} (h : lexR u = (ts, N, E)) : ts.length ≤ 20000 := by
  rcases lexR_good h with ⟨_, rfl⟩ | ⟨_, _, _, _, _, h, _⟩
  · simp
  · exact h
set_option maxHeartbeats 3200000 in
theorem tells_any (u : List UInt8) (w : World) (hT : Tab w) :
    Calls Tryd.prog 3 #[.string ⟨u.toArray⟩] w fun e w' => e = .returned (.bool true) ∧ Below w.heap.size w w' := by
  obtain ⟨T, N, E, hres⟩ : ∃ T N E, lexR u = (T, N, E) := ⟨_, _, _, rfl⟩
  have HL := (show Hid _ from lex_any u w hT T N E hres)
  have HR : Hid (lexR u = (T, N, E)) := hres
  have hlen := lexR_len hres
  clear hres hT
  go_enter Tryd.func3, Tryd.ntmps3
  go_wp2_with fail
  refine Calls.mono HL.out ?_
  rintro x w1 ⟨v1, rfl, ho1, hb1⟩
  have HB1 : Hid (Below w.heap.size w w1) := hb1
  obtain ⟨a1, c1, rfl, hk1⟩ := ho1.tks
  have HK1 : Hid (Tks w1 a1 T) := hk1
  clear ho1 hb1 hk1
  obtain ⟨m, hm⟩ : ∃ m, m = T.length := ⟨_, rfl⟩
  have HM : Hid (m = T.length) := hm
  rw [← hm]
  clear hm
  go_wp2_with fail
  refine Calls.mono (lexSource_any u w1 T N E HR.out) ?_
  rintro x w2 ⟨v2, rfl, ho2, hb2⟩
  have HB2 : Hid (Below w.heap.size w w2) := below_on HB1.out hb2
  obtain ⟨a2, c2, rfl, hk2⟩ := ho2.tks
  have HK2 : Hid (Tks w2 a2 T) := hk2
  have HK3 : Hid (Tks w2 a1 T) := HK1.out.next hb2
  clear ho2 hb2 hk2
  rw [← HM.out]
  go_wp2_with fail
  rw [HM.out]
  refine Calls.mono (same_any a1 a2 c1 c2 T T w2 HK3.out HK2.out (by omega)) ?_
  rintro x w3 ⟨r, rfl, hr, hb3⟩
  obtain rfl : r = true := hr.2 rfl
  have HB3 : Hid (Below w.heap.size w w3) := below_on HB2.out hb3
  clear hr hb3
  go_wp2
  go_ret
  exact ⟨rfl, HB3.out⟩
theorem tells_str (s : ByteArray) (w : World) (hT : Lib.Utf8Tabs 0 1 w) :
    Calls Tryd.prog 3 #[.string s] w fun e w' => e = .returned (.bool true) ∧ Below w.heap.size w w' := tells_any s.data.toList w hT
end Go.Proofs.YtpfpfnkagmmanaaDoor
