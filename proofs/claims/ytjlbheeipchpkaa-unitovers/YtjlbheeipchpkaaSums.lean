/- workcelllaw.UnitSums, walked: it answers true. -/
import Derived.Test.YtjlbheeipchpkaaQty4
namespace Go.Proofs.Ytjlbheeipchpkaa
open Go.RowKit

/-- A quantity's box. -/
structure Box (w : World) (b : Nat) (x y : Int) : Prop where
  c0 : w.cell? ⟨b, 0, none⟩ = some (.int .i64 x)
  c1 : w.cell? ⟨b, 1, none⟩ = some (.int .i64 y)
  lt : b < w.heap.size
theorem Box.next {w w1 : World} {b : Nat} {x y : Int} (h : Box w b x y) (hb : Below w.heap.size w w1) : Box w1 b x y := by
  obtain ⟨hc, hf⟩ := bcell hb
  exact ⟨(hc _ _ h.lt).trans h.c0, (hc _ _ h.lt).trans h.c1, by have := hb.size; have := h.lt; omega⟩
theorem Box.alloc {w : World} {b : Nat} {x y : Int} (h : Box w b x y) (o : Obj) : Box (w.alloc o) b x y := h.next ((Below.refl _ _).alloc (Nat.le_refl _) _)
theorem Box.new (w : World) (x y : Int) : Box (w.alloc (.cells #[.int .i64 x, .int .i64 y] 23)) w.heap.size x y := by
  constructor <;> (first | go_simp | simp)
theorem Box.two (w : World) (x y : Int) (o : Obj) : Box ((w.alloc o).alloc (.cells #[.int .i64 x, .int .i64 y] 23)) (w.heap.size + 1) x y := by
  have h := Box.new (w.alloc o) x y
  have e : (w.alloc o).heap.size = w.heap.size + 1 := by simp
  rw [e] at h; exact h

set_option maxHeartbeats 1600000 in
theorem unitSums_any (k1 v1 k2 v2 : Int) (w : World) :
    Calls Try.prog 3 #[.agg #[.int .i64 k1, .int .i64 v1], .agg #[.int .i64 k2, .int .i64 v2]] w fun e w' => e = .returned (.bool true) ∧ Below w.heap.size w w' := by
  go_enter Try.func3, Try.ntmps3
  go_wp2_with fail
  refine (add_any k1 v1 k2 v2 _).mono ?_
  rintro e w1 ⟨rfl, hb1⟩
  have hA := ((Box.new w k1 v1).alloc _).next hb1
  have hB := (Box.two w k2 v2 _).next hb1
  have hbel : Below w.heap.size w w1 := (((Below.refl _ _).alloc (Nat.le_refl _) _).alloc (by simp) _).trans (hb1.mono (by simp; omega))
  obtain ⟨pA0, pA1, pAl⟩ := hA
  obtain ⟨pB0, pB1, pBl⟩ := hB
  have hs1 := hbel.size
  go_wp2_with fail
  refine (times_any k1 v1 k2 v2 _).mono ?_
  rintro e w2 ⟨rfl, hb2⟩
  have hA := ((Box.mk pA0 pA1 pAl).alloc _).next hb2
  have hB := ((Box.mk pB0 pB1 pBl).alloc _).next hb2
  have hX := (Box.new w1 _ _).next hb2
  replace hbel := (hbel.alloc hs1 _).trans (hb2.mono (by simp; omega))
  clear hb2 pA0 pA1 pAl pB0 pB1 pBl
  obtain ⟨pA0, pA1, pAl⟩ := hA
  obtain ⟨pB0, pB1, pBl⟩ := hB
  obtain ⟨pX0, pX1, pXl⟩ := hX
  have hs2 := hbel.size
  go_wp2_with fail
  refine (over_any k1 v1 k2 v2 _).mono ?_
  rintro e w3 ⟨rfl, hb3⟩
  have hA := ((Box.mk pA0 pA1 pAl).alloc _).next hb3
  have hB := ((Box.mk pB0 pB1 pBl).alloc _).next hb3
  have hX := ((Box.mk pX0 pX1 pXl).alloc _).next hb3
  have hY := (Box.new w2 _ _).next hb3
  replace hbel := (hbel.alloc hs2 _).trans (hb3.mono (by simp; omega))
  clear hb3 pA0 pA1 pAl pB0 pB1 pBl pX0 pX1 pXl
  obtain ⟨pA0, pA1, pAl⟩ := hA
  obtain ⟨pB0, pB1, pBl⟩ := hB
  obtain ⟨pX0, pX1, pXl⟩ := hX
  obtain ⟨pY0, pY1, pYl⟩ := hY
  have hs3 := hbel.size
  go_wp2_with fail
  refine (sumOf_any k1 v1 k2 v2 _).mono ?_
  rintro e w4 ⟨rfl, hb4⟩
  have hA := ((Box.mk pA0 pA1 pAl).alloc _).next hb4
  have hB := ((Box.mk pB0 pB1 pBl).alloc _).next hb4
  have hX := ((Box.mk pX0 pX1 pXl).alloc _).next hb4
  have hY := ((Box.mk pY0 pY1 pYl).alloc _).next hb4
  have hZ := (Box.new w3 _ _).next hb4
  replace hbel := (hbel.alloc hs3 _).trans (hb4.mono (by simp; omega))
  clear hb4 pA0 pA1 pAl pB0 pB1 pBl pX0 pX1 pXl pY0 pY1 pYl
  obtain ⟨pA0, pA1, pAl⟩ := hA
  obtain ⟨pB0, pB1, pBl⟩ := hB
  obtain ⟨pX0, pX1, pXl⟩ := hX
  obtain ⟨pY0, pY1, pYl⟩ := hY
  obtain ⟨pZ0, pZ1, pZl⟩ := hZ
  have hs4 := hbel.size
  go_wp2_with fail
  refine (productOf_any k1 v1 k2 v2 _).mono ?_
  rintro e w5 ⟨rfl, hb5⟩
  have hA := ((Box.mk pA0 pA1 pAl).alloc _).next hb5
  have hB := ((Box.mk pB0 pB1 pBl).alloc _).next hb5
  have hX := ((Box.mk pX0 pX1 pXl).alloc _).next hb5
  have hY := ((Box.mk pY0 pY1 pYl).alloc _).next hb5
  have hZ := ((Box.mk pZ0 pZ1 pZl).alloc _).next hb5
  have hU := (Box.new w4 _ _).next hb5
  replace hbel := (hbel.alloc hs4 _).trans (hb5.mono (by simp; omega))
  clear hb5 pA0 pA1 pAl pB0 pB1 pBl pX0 pX1 pXl pY0 pY1 pYl pZ0 pZ1 pZl
  obtain ⟨pA0, pA1, pAl⟩ := hA
  obtain ⟨pB0, pB1, pBl⟩ := hB
  obtain ⟨pX0, pX1, pXl⟩ := hX
  obtain ⟨pY0, pY1, pYl⟩ := hY
  obtain ⟨pZ0, pZ1, pZl⟩ := hZ
  obtain ⟨pU0, pU1, pUl⟩ := hU
  have hs5 := hbel.size
  go_wp2_with fail
  refine (quotientOf_any k1 v1 k2 v2 _).mono ?_
  rintro e w6 ⟨rfl, hb6⟩
  have hA := ((Box.mk pA0 pA1 pAl).alloc _).next hb6
  have hB := ((Box.mk pB0 pB1 pBl).alloc _).next hb6
  have hX := ((Box.mk pX0 pX1 pXl).alloc _).next hb6
  have hY := ((Box.mk pY0 pY1 pYl).alloc _).next hb6
  have hZ := ((Box.mk pZ0 pZ1 pZl).alloc _).next hb6
  have hU := ((Box.mk pU0 pU1 pUl).alloc _).next hb6
  have hV := (Box.new w5 _ _).next hb6
  replace hbel := (hbel.alloc hs5 _).trans (hb6.mono (by simp; omega))
  clear hb6 pA0 pA1 pAl pB0 pB1 pBl pX0 pX1 pXl pY0 pY1 pYl pZ0 pZ1 pZl pU0 pU1 pUl
  obtain ⟨pA0, pA1, pAl⟩ := hA
  obtain ⟨pB0, pB1, pBl⟩ := hB
  obtain ⟨pX0, pX1, pXl⟩ := hX
  obtain ⟨pY0, pY1, pYl⟩ := hY
  obtain ⟨pZ0, pZ1, pZl⟩ := hZ
  obtain ⟨pU0, pU1, pUl⟩ := hU
  obtain ⟨pV0, pV1, pVl⟩ := hV
  have hs6 := hbel.size
  go_wp2
  go_ret
  exact ⟨rfl, hbel.alloc hs6 _⟩
end Go.Proofs.Ytjlbheeipchpkaa
