/- workcelllaw.UnitTexts, walked: it answers true. -/
import Derived.Test.YtjlbheeipchpkaaDoorRefAll
import Derived.Test.YtjlbheeipchpkaaDoorRefText
namespace Go.Proofs.YtjlbheeipchpkaaDoor
open Go.RowKit Go.Shelf

/-- A quantity's box. -/
structure Box (w : World) (b : Nat) (x y : Int) : Prop where
  c0 : w.cell? ⟨b, 0, none⟩ = some (.int .i64 x)
  c1 : w.cell? ⟨b, 1, none⟩ = some (.int .i64 y)
  lt : b < w.heap.size
theorem Box.next {w w1 : World} {b : Nat} {x y : Int} (h : Box w b x y) (hb : Below w.heap.size w w1) : Box w1 b x y := by
  obtain ⟨hc, hf⟩ := bcell hb
  exact ⟨(hc _ _ h.lt).trans h.c0, (hc _ _ h.lt).trans h.c1, by have := hb.size; have := h.lt; omega⟩
theorem Box.alloc {w : World} {b : Nat} {x y : Int} (h : Box w b x y) (o : Obj) : Box (w.alloc o) b x y := h.next ((Below.refl _ _).alloc (Nat.le_refl _) _)
theorem Box.new (w : World) (x y : Int) : Box (w.alloc (.cells #[.int .i64 x, .int .i64 y] 23)) w.heap.size x y := by
  constructor <;> (first | go_simp | simp)

theorem readAt (l : List UInt8) {x y z : Int} (h : readL l mkQ = (x, y, z)) (w : World) (hl : l.length < 35184372088832) (hT : Tabs w) :
    Calls Tryd.prog 6 #[.string ⟨l.toArray⟩] w fun e w' => e = .returned (.tuple #[.agg #[.int .i64 x, .int .i64 y], .int .i64 z]) ∧ Below w.heap.size w w' := by
  have := read_any l w hl hT.utf8
  rw [h] at this; exact this
theorem refAt (l : List UInt8) {x y z : Int} (h : readL l mkQ = (x, y, z)) (w : World) (hl : l.length ≤ 1048576) :
    Calls Tryd.prog 7 #[.string ⟨l.toArray⟩] w fun e w' => e = .returned (.tuple #[.agg #[.int .i64 x, .int .i64 y], .int .i64 z]) ∧ Below w.heap.size w w' := by
  have := ref_any ⟨l.toArray⟩ w (by rw [Lib.size_eq]; exact hl)
  rw [show (⟨l.toArray⟩ : ByteArray).data.toList = l from rfl, h] at this; exact this
theorem mayAt (k v : Int) {b : Bool} (h : (ref1 k v == 0) = b) (w : World) :
    Calls Tryd.prog 9 #[.agg #[.int .i64 k, .int .i64 v]] w fun e w' => e = .returned (.bool b) ∧ Below w.heap.size w w' := by
  have := may_any k v w
  rw [h] at this; exact this
theorem qmayAt (k v : Int) {n : Int} (h : ref1 k v = n) (w : World) :
    Calls Tryd.prog 8 #[.agg #[.int .i64 k, .int .i64 v]] w fun e w' => e = .returned (.int .i64 n) ∧ Below w.heap.size w w' := by
  have := qmay_any k v w
  rw [h] at this; exact this

set_option maxHeartbeats 1600000 in
set_option maxRecDepth 20000 in
theorem texts_no (k v : Int) (l : List UInt8) (w : World) (hl : l.length ≤ 1048576) (hT : Tabs w) (hno : ref1 k v ≠ 0) :
    Calls Tryd.prog 3 #[.agg #[.int .i64 k, .int .i64 v], .string ⟨l.toArray⟩] w fun e w' => e = .returned (.bool true) ∧ Below w.heap.size w w' := by
  obtain ⟨x, y, z, hr⟩ : ∃ x y z, readL l mkQ = (x, y, z) := ⟨_, _, _, rfl⟩
  have HR : Hid (readL l mkQ = (x, y, z)) := hr
  obtain ⟨n, hm⟩ : ∃ n, ref1 k v = n := ⟨_, rfl⟩
  have HM : Hid (ref1 k v = n) := hm
  have HB : Hid ((ref1 k v == 0) = false) := by show _ = _; simp [hno]
  have hn0 : (n == 0) = false := by rw [← hm]; simp [hno]
  have hn1 : (n != 0) = true := by rw [← hm]; simp [hno]
  have HS : Hid (∀ w : World, Calls Tryd.prog 5 #[.agg #[.int .i64 k, .int .i64 v]] w fun e w' => e = .returned (.tuple #[.string ⟨#[]⟩, .int .i64 n]) ∧ Below w.heap.size w w') := fun w => by rw [← hm]; exact show_no k v w hno
  clear hr hm hno
  go_enter Tryd.func3, Tryd.ntmps3
  go_wp2_with fail
  refine (HS.out _).mono ?_
  rintro e w2 ⟨rfl, hb⟩
  have hQ := (Box.new w k v).next hb
  have hB : Below w.heap.size w w2 := ((Below.refl _ _).alloc (Nat.le_refl _) _).trans (hb.mono (by simp))
  obtain ⟨q0, q1, ql⟩ := hQ
  clear hb
  go_wp2_with fail
  refine (readAt l HR.out _ (by omega) (hT.next hB)).mono ?_
  rintro e w3 ⟨rfl, hb⟩
  have hQ := (Box.mk q0 q1 ql).next hb
  have hB := hB.trans (hb.mono hB.size)
  clear hb q0 q1 ql
  obtain ⟨q0, q1, ql⟩ := hQ
  go_wp2_with fail
  refine (refAt l HR.out _ hl).mono ?_
  rintro e w4 ⟨rfl, hb⟩
  have hQ := ((Box.mk q0 q1 ql).alloc _).next hb
  have hX := (Box.new w3 x y).next hb
  have hB := (hB.alloc hB.size _).trans (hb.mono (by have := hB.size; simp; omega))
  clear hb q0 q1 ql
  obtain ⟨q0, q1, ql⟩ := hQ
  obtain ⟨x0, x1, xl⟩ := hX
  go_wp2_with fail
  refine (qmayAt k v HM.out _).mono ?_
  rintro e w5 ⟨rfl, hb⟩
  have hQ := ((Box.mk q0 q1 ql).alloc _).next hb
  have hX := ((Box.mk x0 x1 xl).alloc _).next hb
  have hY := (Box.new w4 x y).next hb
  have hB := (hB.alloc hB.size _).trans (hb.mono (by have := hB.size; simp; omega))
  clear hb q0 q1 ql x0 x1 xl
  obtain ⟨q0, q1, ql⟩ := hQ
  obtain ⟨x0, x1, xl⟩ := hX
  obtain ⟨y0, y1, yl⟩ := hY
  go_wp2_with fail
  refine (mayAt k v HB.out _).mono ?_
  rintro e w6 ⟨rfl, hb⟩
  have hQ := (Box.mk q0 q1 ql).next hb
  have hB := hB.trans (hb.mono hB.size)
  clear hb q0 q1 ql x0 x1 xl y0 y1 yl
  obtain ⟨q0, q1, ql⟩ := hQ
  go_wp2
  go_ret
  exact ⟨rfl, hB⟩

set_option maxHeartbeats 1600000 in
set_option maxRecDepth 20000 in
theorem texts_ok (j : Nat) (u : List UInt8) (v : Int) (l : List UInt8) (w : World) (hl : l.length ≤ 1048576) (hT : Tabs w) (hj : leastL[j]? = some u) (hv0 : -1000000000 ≤ v) (hv1 : v ≤ 1000000000) :
    Calls Tryd.prog 3 #[.agg #[.int .i64 j, .int .i64 v], .string ⟨l.toArray⟩] w fun e w' => e = .returned (.bool true) ∧ Below w.heap.size w w' := by
  have hj6 : j < 6 := by
    have := (List.getElem?_eq_some_iff.1 hj).1
    simpa [leastL] using this
  obtain ⟨x, y, z, hr⟩ : ∃ x y z, readL l mkQ = (x, y, z) := ⟨_, _, _, rfl⟩
  have HR : Hid (readL l mkQ = (x, y, z)) := hr
  have h0 : ref1 j v = 0 := ref1_ok (by omega) (by omega) hv0 hv1
  have HM : Hid (ref1 j v = 0) := h0
  have HB : Hid ((ref1 j v == 0) = true) := by show _ = _; simp [h0]
  obtain ⟨sh, hsh⟩ : ∃ sh : ByteArray, sh = ⟨(Lib.itoa v ++ u).toArray⟩ := ⟨_, rfl⟩
  have HS : Hid (∀ w : World, Tabs w → Calls Tryd.prog 5 #[.agg #[.int .i64 j, .int .i64 v]] w fun e w' => e = .returned (.tuple #[.string sh, .int .i64 0]) ∧ Below w.heap.size w w') := fun w hT => by rw [hsh]; exact show_ok j u v w hj hv0 hv1 hT
  have HX : Hid (∀ w : World, Calls Tryd.prog 10 #[.agg #[.int .i64 j, .int .i64 v]] w fun e w' => e = .returned (.string sh) ∧ Below w.heap.size w w') := fun w => by rw [hsh]; exact text_ok j u v w hj hv0 hv1
  clear hr h0 hsh hj
  go_enter Tryd.func3, Tryd.ntmps3
  go_wp2_with fail
  refine (HS.out _ (hT.next ((Below.refl _ _).alloc (Nat.le_refl _) _))).mono ?_
  rintro e w2 ⟨rfl, hb⟩
  have hQ := (Box.new w j v).next hb
  have hB : Below w.heap.size w w2 := ((Below.refl _ _).alloc (Nat.le_refl _) _).trans (hb.mono (by simp))
  obtain ⟨q0, q1, ql⟩ := hQ
  clear hb
  go_wp2_with fail
  refine (readAt l HR.out _ (by omega) (hT.next hB)).mono ?_
  rintro e w3 ⟨rfl, hb⟩
  have hQ := (Box.mk q0 q1 ql).next hb
  have hB := hB.trans (hb.mono hB.size)
  clear hb q0 q1 ql
  obtain ⟨q0, q1, ql⟩ := hQ
  go_wp2_with fail
  refine (refAt l HR.out _ hl).mono ?_
  rintro e w4 ⟨rfl, hb⟩
  have hQ := ((Box.mk q0 q1 ql).alloc _).next hb
  have hX := (Box.new w3 x y).next hb
  have hB := (hB.alloc hB.size _).trans (hb.mono (by have := hB.size; simp; omega))
  clear hb q0 q1 ql
  obtain ⟨q0, q1, ql⟩ := hQ
  obtain ⟨x0, x1, xl⟩ := hX
  go_wp2_with fail
  refine (qmayAt j v HM.out _).mono ?_
  rintro e w5 ⟨rfl, hb⟩
  have hQ := ((Box.mk q0 q1 ql).alloc _).next hb
  have hX := ((Box.mk x0 x1 xl).alloc _).next hb
  have hY := (Box.new w4 x y).next hb
  have hB := (hB.alloc hB.size _).trans (hb.mono (by have := hB.size; simp; omega))
  clear hb q0 q1 ql x0 x1 xl
  obtain ⟨q0, q1, ql⟩ := hQ
  obtain ⟨x0, x1, xl⟩ := hX
  obtain ⟨y0, y1, yl⟩ := hY
  go_wp2_with fail
  refine (mayAt j v HB.out _).mono ?_
  rintro e w6 ⟨rfl, hb⟩
  have hQ := (Box.mk q0 q1 ql).next hb
  have hB := hB.trans (hb.mono hB.size)
  clear hb q0 q1 ql x0 x1 xl y0 y1 yl
  obtain ⟨q0, q1, ql⟩ := hQ
  go_wp2_with fail
  refine (HX.out _).mono ?_
  rintro e w7 ⟨rfl, hb⟩
  have hB := hB.trans (hb.mono hB.size)
  go_wp2
  go_ret
  exact ⟨rfl, hB⟩

theorem texts_any (k v : Int) (l : List UInt8) (w : World) (hl : l.length ≤ 1048576) (hT : Tabs w) :
    Calls Tryd.prog 3 #[.agg #[.int .i64 k, .int .i64 v], .string ⟨l.toArray⟩] w fun e w' => e = .returned (.bool true) ∧ Below w.heap.size w w' := by
  by_cases h : ref1 k v = 0
  · have hk : 0 ≤ k ∧ k ≤ 5 := by
      by_cases c : k < 0 ∨ 5 < k
      · rw [ref1_kind c] at h; exact absurd h (by decide)
      · omega
    have hv : -1000000000 ≤ v ∧ v ≤ 1000000000 := by
      by_cases c : v < -1000000000 ∨ 1000000000 < v
      · rw [ref1_range hk.1 hk.2 c] at h; exact absurd h (by decide)
      · omega
    obtain ⟨j, rfl⟩ := Int.eq_ofNat_of_zero_le hk.1
    exact texts_ok j _ v l w hl hT (List.getElem?_eq_getElem (show j < leastL.length by show j < 6; omega)) hv.1 hv.2
  · exact texts_no k v l w hl hT h
end Go.Proofs.YtjlbheeipchpkaaDoor
