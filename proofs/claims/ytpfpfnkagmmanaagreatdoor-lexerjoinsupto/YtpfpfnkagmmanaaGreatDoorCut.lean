/- The library's contracts at this program's numbers, and unit.cutDigits walked. -/
import Derived.Test.YtpfpfnkagmmanaaGreatDoorBase
import Derived.Test.YtpfpfnkagmmanaaGreatDoorPlain
import Derived.Test.YtpfpfnkagmmanaaGreatDoorShelf
import Derived.Shelf.Strings.SlTrimAscii
namespace Go.Proofs.YtpfpfnkagmmanaaGreatDoor
open Go.RowKit Go.Shelf

theorem cutPrefix (s p : ByteArray) (w : World) :
    Calls Tryz.prog 64 #[.string s, .string p] w fun e w' => e = .returned (.tuple #[.string ⟨(Lib.trimPrefix s.data.toList p.data.toList).toArray⟩, .bool (Lib.hasPrefix s.data.toList p.data.toList)]) ∧ w' = w :=
  Any.strings_CutPrefix Tryz.lays103 s p w
theorem trimDigits (s : ByteArray) (w : World) :
    Calls Tryz.prog 89 #[.string s, .string ⟨#[48, 49, 50, 51, 52, 53, 54, 55, 56, 57]⟩] w fun e w' => e = .returned (.string ⟨(s.data.toList.dropWhile isDig).toArray⟩) ∧ Below w.heap.size w w' :=
  Any.strings_TrimLeft_laid Tryz.lays161 (by kernel_rfl) s ⟨#[48, 49, 50, 51, 52, 53, 54, 55, 56, 57]⟩ w (by decide) (ascii_of_all (by decide))

theorem split_len (l : List UInt8) : (l.takeWhile isDig).length + (l.dropWhile isDig).length = l.length := by
  have h := congrArg List.length (List.takeWhile_append_dropWhile (p := isDig) (l := l))
  rwa [List.length_append] at h
theorem cut_head (s : ByteArray) : s.extract 0 (s.size - (s.data.toList.dropWhile isDig).length) = ⟨(s.data.toList.takeWhile isDig).toArray⟩ := by
  have h := split_len s.data.toList
  have hsz := Lib.size_eq s
  have e : s.data.toList.take (s.data.toList.takeWhile isDig).length = s.data.toList.takeWhile isDig := by
    have h2 := List.take_left (l₁ := s.data.toList.takeWhile isDig) (l₂ := s.data.toList.dropWhile isDig)
    rwa [List.takeWhile_append_dropWhile] at h2
  apply ByteArray.ext
  rw [ByteArray.data_extract]
  apply Array.toList_inj.1
  rw [Array.toList_extract, show s.size - (s.data.toList.dropWhile isDig).length = (s.data.toList.takeWhile isDig).length by omega]
  simpa using e

set_option maxHeartbeats 400000 in
theorem cutDigits (s : ByteArray) (w : World) (hs : s.size ≤ maxLen) :
    Calls Tryz.prog 79 #[.string s] w fun e w' => e = .returned (.tuple #[.string ⟨(s.data.toList.takeWhile isDig).toArray⟩, .string ⟨(s.data.toList.dropWhile isDig).toArray⟩]) ∧ Below w.heap.size w w' := by
  unfold maxLen at hs
  have hle : (s.data.toList.dropWhile isDig).length ≤ s.size := by
    have := split_len s.data.toList
    have := Lib.size_eq s
    omega
  go_enter Tryz.func79, Tryz.ntmps79
  go_wp2_with fail
  refine (trimDigits s _).mono ?_
  rintro e w1 ⟨rfl, hb⟩
  go_wp2
  go_ret2
  exact ⟨by rw [← cut_head s]; rfl, hb⟩
end Go.Proofs.YtpfpfnkagmmanaaGreatDoor
