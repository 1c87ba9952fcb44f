/- The law LexerLines walked. -/
import Derived.Test.YtpfpfnkagmmanaaLn
namespace Go.Proofs.Ytpfpfnkagmmanaa
open Go.RowKit Go.Shelf

theorem look_two : look 2 (lns (trimN [97, 10, 98])) 1 = some [98] := by decide
theorem cat3 (a b : List UInt8) : (⟨a.toArray⟩ : ByteArray) ++ ⟨b.toArray⟩ = ⟨(a ++ b).toArray⟩ := by
  apply ByteArray.ext
  rw [ByteArray.data_append]
  simp

set_option maxHeartbeats 6400000 in
set_option maxRecDepth 100000 in
theorem lines_any (u : List UInt8) (w : World) (hu : u.length ≤ 140737488351232) :
    Calls Try.prog 3 #[.string ⟨u.toArray⟩] w fun e w' => e = .returned (.bool true) ∧ Below w.heap.size w w' := by
  have H0 := (show Hid _ from line_any [97, 10, 98] 2 _ w (by decide) look_two)
  have HL : Hid (∀ (n : Int) (W : World) (o : Option (List UInt8)), look n (lns (trimN u)) 1 = o → Calls Try.prog 4 #[.string ⟨u.toArray⟩, .int .i64 n] W fun e w' => e = .returned (.tuple #[.string ⟨(lineT o).toArray⟩, .int .i64 (lineE o)]) ∧ Below W.heap.size W w') := fun n W o ho => line_any u n o W hu ho
  have HT : Hid (trimN u = u ∨ trimN u ++ [10] = u) := trimN_is u
  have htl := trimN_len u
  have HU : Hid (unl (lns (trimN u)) = trimN u) := unl_lns _
  have hll := lns_len (trimN u)
  have h1 : 0 < (lns (trimN u)).length := List.length_pos_iff.2 (lns_ne _)
  obtain ⟨t, ht⟩ : ∃ t, t = trimN u := ⟨_, rfl⟩
  rw [← ht] at HL HT htl HU hll h1
  obtain ⟨L, hL⟩ : ∃ L, L = lns t := ⟨_, rfl⟩
  rw [← hL] at HL HU hll h1
  clear ht hL
  have hk1 : look 1 L 1 = some (L[0]'h1) := by
    have := look_at (m := 0) (L := L) (k := 1)
    rw [List.getElem?_eq_getElem h1] at this
    simpa using this
  have H1 := (show Hid _ from HL.out 1)
  have HUT : Hid (unl (L.take 1) = L[0]'h1) := by
    match L, h1 with
    | x :: xs, _ => show unl ([x]) = x; rfl
  go_enter Try.func3, Try.ntmps3
  go_wp2_with fail
  refine Calls.mono H0.out ?_
  rintro e w1 ⟨rfl, hb1⟩
  have HB1 : Hid (Below w.heap.size w w1) := hb1
  clear hb1
  go_wp2_with fail
  refine Calls.mono (HL.out 1 w1 _ hk1) ?_
  rintro e w2 ⟨rfl, hb2⟩
  have HB2 : Hid (Below w.heap.size w w2) := HB1.out.trans (hb2.mono HB1.out.size)
  clear hb2 HB1 H0 H1 hk1
  simp only [lineT, lineE, Option.getD_some, Option.isSome_some, if_true]
  go_wp2
  go_loopg [5, 6] L.length (fun gf s5 s6 wr => ∃ m : Nat, s5 = .string ⟨(unl (L.take m)).toArray⟩ ∧ s6 = .int .i64 ((m : Int) + 1) ∧ 0 < m ∧ m ≤ L.length ∧ L.length ≤ m + gf ∧ Below w.heap.size w wr)
  case atStart => exact ⟨1, by rw [HUT.out], rfl, by omega, by omega, by omega, HB2.out⟩
  case round =>
    obtain ⟨m, rfl, rfl, hm0, hm, hgk, hb⟩ := hrel
    have HB : Hid (Below w.heap.size w wr) := hb
    clear hb
    by_cases hlt : m < L.length
    · have hk : look ((m : Int) + 1) L 1 = some (L[m]'hlt) := by
        have := look_at (m := m) (L := L) (k := 1)
        rw [show (1 : Int) + m = m + 1 by omega] at this
        rw [this, List.getElem?_eq_getElem hlt]
      have hc := HL.out _ wr _ hk
      have HE : Hid (unl (L.take (m + 1)) = unl (L.take m) ++ 10 :: (L[m]'hlt)) := unl_take hm0 hlt
      have hz := unl_take_len (L := L) (m + 1) (by omega)
      rw [HU.out, HE.out] at hz
      obtain ⟨X, hX⟩ : ∃ X, X = unl (L.take m) := ⟨_, rfl⟩
      obtain ⟨Y, hY⟩ : ∃ Y, Y = L[m]'hlt := ⟨_, rfl⟩
      rw [← hX, ← hY] at hz HE
      rw [← hX]
      rw [← hY] at hc
      simp only [lineT, lineE, Option.getD_some, Option.isSome_some, if_true] at hc
      have HC := (show Hid _ from hc)
      have hxy : X.length + 1 + Y.length ≤ 140737488351232 := by simp at hz; omega
      clear hX hY hc hz hk
      obtain ⟨g', rfl⟩ : ∃ g', gk = g' + 1 := ⟨gk - 1, by omega⟩
      go_wp2_with fail
      refine Calls.mono HC.out ?_
      rintro e w3 ⟨rfl, hb3⟩
      have HB3 : Hid (Below w.heap.size w w3) := HB.out.trans (hb3.mono HB.out.size)
      clear hb3
      go_wp2
      go_roundg g'
      case rel =>
        refine ⟨m + 1, ?_, by go_num, by omega, by omega, by omega, HB3.out⟩
        rw [HE.out]
        first | rfl | (congr 1; apply ByteArray.ext; simp)
      case measure => omega
    · obtain rfl : m = L.length := by omega
      have hk : look ((L.length : Int) + 1) L 1 = none := by
        have := look_at (m := L.length) (L := L) (k := 1)
        rw [show (1 : Int) + L.length = L.length + 1 by omega] at this
        rw [this]; simp
      have hc := HL.out _ wr _ hk
      simp only [lineT, lineE, Option.getD_none, Option.isSome_none] at hc
      have HC := (show Hid _ from hc)
      rw [List.take_length, HU.out]
      clear hc hk
      go_wp2_with fail
      refine Calls.mono HC.out ?_
      rintro e w3 ⟨rfl, hb3⟩
      have HB3 : Hid (Below w.heap.size w w3) := HB.out.trans (hb3.mono HB.out.size)
      clear hb3
      rcases HT.out with h | h
      · subst h
        go_wp2
        go_ret
        exact ⟨rfl, HB3.out⟩
      · subst h
        have q1 : (t == t ++ [10]) = false := by
          simp
        have cc := cat3 t [10]
        go_wp2
        go_ret
        refine ⟨?_, HB3.out⟩
        first | rfl | simp [cc] | (rw [show (#[10] : Array UInt8) = [10].toArray from rfl, cc]; simp)
theorem lines_str (s : ByteArray) (w : World) (hs : s.data.toList.length ≤ 140737488351232) :
    Calls Try.prog 3 #[.string s] w fun e w' => e = .returned (.bool true) ∧ Below w.heap.size w w' := lines_any s.data.toList w hs
end Go.Proofs.Ytpfpfnkagmmanaa
