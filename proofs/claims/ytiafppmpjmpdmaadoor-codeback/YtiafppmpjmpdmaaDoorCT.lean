/- Program of a command twice. -/
import Derived.Test.YtiafppmpjmpdmaaDoorCS
import Derived.Test.YtiafppmpjmpdmaaDoorCH
namespace Go.Proofs.YtiafppmpjmpdmaaDoor
open Go.RowKit Go.Shelf

theorem Bk.low {b B : Nat} {cs : List Value} {w w1 : World} (h : Bk b cs w) (hb : Below B w w1) (hB : b < B) : Bk b cs w1 := h.same hb.size (hb.block b hB)
/-- The two lines of a command that is told twice. -/
def twoL (k : Nat) (x y z u : Int) : List UInt8 := lineL 1 k x y z u ++ 10 :: (lineL 2 k x y z u ++ [10])
set_option maxHeartbeats 6400000 in
set_option maxRecDepth 100000 in
theorem program_two (S : Nat) (k : Nat) (x y z u : Int) (w : World) (hS : Bk S (c5 k x y z u ++ c5 k x y z u) w) (h1 : refuC 1 k x y z u = 0) (h2 : refuC 2 k x y z u = 0) (hT : Tall w) : Calls Tryd.prog 13 #[.slice (some ⟨S, 0, none⟩) 2 2] w fun e w' => e = .returned (.tuple #[sA (twoL k x y z u), .int .i64 0]) ∧ Below w.heap.size w w' := by
  have HP1 : Hid (∀ W, Tabs W → Calls Tryd.prog 8 #[.int .i64 1, cm k x y z u] W fun e w' => e = .returned (.tuple #[sA (lineL 1 k x y z u), .int .i64 0]) ∧ Below W.heap.size W w') := fun W h => by
    have := print_any 1 k x y z u W h
    rw [prL_ok h1, h1, show (k : Int).toNat = k by omega] at this
    exact this
  have HP2 : Hid (∀ W, Tabs W → Calls Tryd.prog 8 #[.int .i64 2, cm k x y z u] W fun e w' => e = .returned (.tuple #[sA (lineL 2 k x y z u), .int .i64 0]) ∧ Below W.heap.size W w') := fun W h => by
    have := print_any 2 k x y z u W h
    rw [prL_ok h2, h2, show (k : Int).toNat = k by omega] at this
    exact this
  have HL1 : Hid ((lineL 1 k x y z u).length ≤ 100) := line_len (refu_fit h1).1
  have HL2 : Hid ((lineL 2 k x y z u).length ≤ 100) := line_len (refu_fit h2).1
  have HE : Hid (twoL k x y z u = lineL 1 k x y z u ++ 10 :: (lineL 2 k x y z u ++ [10])) := rfl
  rw [HE.out]
  generalize lineL 1 k x y z u = L1 at *
  generalize lineL 2 k x y z u = L2 at *
  have h9 := hT.tabs.size
  have hSw : S < w.heap.size := hS.1
  have HB0 : Hid (Below w.heap.size w (w.alloc (.cells #[.pointer none, .slice none 0 0] 69))) := (Below.refl _ _).alloc (Nat.le_refl _) _
  have HBl0 : Hid (Bl (w.alloc (.cells #[.pointer none, .slice none 0 0] 69)) w.heap.size w.heap.size []) := Bl.new w _ (Nat.le_refl _)
  have HT0 : Hid (Tall (w.alloc (.cells #[.pointer none, .slice none 0 0] 69))) := hT.later HB0.out
  have HS0 : Hid (Bk S (c5 k x y z u ++ c5 k x y z u) (w.alloc (.cells #[.pointer none, .slice none 0 0] 69))) := hS.later HB0.out
  clear hS hT h1 h2 HE
  go_enter Tryd.func13, Tryd.ntmps13
  go_wp2_with fail
  generalize w.alloc (.cells #[.pointer none, .slice none 0 0] 69) = w0 at *
  refine wp_loop_rounds 3 ?_
  rw [rounds_succ]
  have a0 := HS0.out.c 0 rfl
  have a1 := HS0.out.c 1 rfl
  have a2 := HS0.out.c 2 rfl
  have a3 := HS0.out.c 3 rfl
  have a4 := HS0.out.c 4 rfl
  have HBn : Hid (Below w0.heap.size w0 (w0.alloc (o5 k x y z u))) := (Below.refl _ _).alloc (Nat.le_refl _) _
  have HTn : Hid (Tall (w0.alloc (o5 k x y z u))) := HT0.out.later HBn.out
  have HSn : Hid (Bk S (c5 k x y z u ++ c5 k x y z u) (w0.alloc (o5 k x y z u))) := HS0.out.later HBn.out
  have HBBn : Hid (Below w.heap.size w (w0.alloc (o5 k x y z u))) := HB0.out.trans (HBn.out.mono HB0.out.size)
  have HBln : Hid (Bl (w0.alloc (o5 k x y z u)) w.heap.size w.heap.size ([])) := HBl0.out.later HBn.out
  go_wp2_with fail
  clear a0 a1 a2 a3 a4
  generalize w0.alloc (o5 k x y z u) = w11 at *
  refine (HP1.out _ HTn.out.tabs).mono ?_
  rintro e w12 ⟨rfl, hb⟩
  have HT12 : Hid (Tall w12) := HTn.out.later hb
  have HS12 : Hid (Bk S (c5 k x y z u ++ c5 k x y z u) w12) := HSn.out.later hb
  have HB12 : Hid (Below w.heap.size w w12) := HBBn.out.trans (hb.mono HBBn.out.size)
  have HBl12 : Hid (Bl w12 w.heap.size w.heap.size ([])) := HBln.out.later hb
  clear hb HTn HSn HBBn HBln HBn HT0 HS0 HB0 HBl0
  go_wp2_with fail
  refine (write_any w.heap.size w.heap.size ([]) L1 _ HBl12.out (by have := HL1.out; have := HL2.out; simp; omega)).mono ?_
  rintro e w13 ⟨m13, rfl, hbl, hb⟩
  have HT13 : Hid (Tall w13) := HT12.out.low (hb.mono h9)
  have HS13 : Hid (Bk S (c5 k x y z u ++ c5 k x y z u) w13) := HS12.out.low hb hSw
  have HB13 : Hid (Below w.heap.size w w13) := HB12.out.trans hb
  have HBl13 : Hid (Bl w13 w.heap.size w.heap.size (([]) ++ L1)) := hbl
  clear hb hbl HT12 HS12 HB12 HBl12
  go_wp2_with fail
  refine (write_any w.heap.size w.heap.size (([]) ++ L1) [10] _ HBl13.out (by have := HL1.out; have := HL2.out; simp; omega)).mono ?_
  rintro e w14 ⟨m14, rfl, hbl, hb⟩
  have HT14 : Hid (Tall w14) := HT13.out.low (hb.mono h9)
  have HS14 : Hid (Bk S (c5 k x y z u ++ c5 k x y z u) w14) := HS13.out.low hb hSw
  have HB14 : Hid (Below w.heap.size w w14) := HB13.out.trans hb
  have HBl14 : Hid (Bl w14 w.heap.size w.heap.size ((([]) ++ L1) ++ [10])) := hbl
  clear hb hbl HT13 HS13 HB13 HBl13
  go_wp2_with fail
  rw [rounds_succ]
  have a0 := HS14.out.c 5 rfl
  have a1 := HS14.out.c 6 rfl
  have a2 := HS14.out.c 7 rfl
  have a3 := HS14.out.c 8 rfl
  have a4 := HS14.out.c 9 rfl
  have HBn : Hid (Below w14.heap.size w14 (w14.alloc (o5 k x y z u))) := (Below.refl _ _).alloc (Nat.le_refl _) _
  have HTn : Hid (Tall (w14.alloc (o5 k x y z u))) := HT14.out.later HBn.out
  have HSn : Hid (Bk S (c5 k x y z u ++ c5 k x y z u) (w14.alloc (o5 k x y z u))) := HS14.out.later HBn.out
  have HBBn : Hid (Below w.heap.size w (w14.alloc (o5 k x y z u))) := HB14.out.trans (HBn.out.mono HB14.out.size)
  have HBln : Hid (Bl (w14.alloc (o5 k x y z u)) w.heap.size w.heap.size ((([]) ++ L1) ++ [10])) := HBl14.out.later HBn.out
  go_wp2_with fail
  clear a0 a1 a2 a3 a4
  generalize w14.alloc (o5 k x y z u) = w21 at *
  refine (HP2.out _ HTn.out.tabs).mono ?_
  rintro e w22 ⟨rfl, hb⟩
  have HT22 : Hid (Tall w22) := HTn.out.later hb
  have HS22 : Hid (Bk S (c5 k x y z u ++ c5 k x y z u) w22) := HSn.out.later hb
  have HB22 : Hid (Below w.heap.size w w22) := HBBn.out.trans (hb.mono HBBn.out.size)
  have HBl22 : Hid (Bl w22 w.heap.size w.heap.size ((([]) ++ L1) ++ [10])) := HBln.out.later hb
  clear hb HTn HSn HBBn HBln HBn HT14 HS14 HB14 HBl14
  go_wp2_with fail
  refine (write_any w.heap.size w.heap.size ((([]) ++ L1) ++ [10]) L2 _ HBl22.out (by have := HL1.out; have := HL2.out; simp; omega)).mono ?_
  rintro e w23 ⟨m23, rfl, hbl, hb⟩
  have HT23 : Hid (Tall w23) := HT22.out.low (hb.mono h9)
  have HS23 : Hid (Bk S (c5 k x y z u ++ c5 k x y z u) w23) := HS22.out.low hb hSw
  have HB23 : Hid (Below w.heap.size w w23) := HB22.out.trans hb
  have HBl23 : Hid (Bl w23 w.heap.size w.heap.size (((([]) ++ L1) ++ [10]) ++ L2)) := hbl
  clear hb hbl HT22 HS22 HB22 HBl22
  go_wp2_with fail
  refine (write_any w.heap.size w.heap.size (((([]) ++ L1) ++ [10]) ++ L2) [10] _ HBl23.out (by have := HL1.out; have := HL2.out; simp; omega)).mono ?_
  rintro e w24 ⟨m24, rfl, hbl, hb⟩
  have HT24 : Hid (Tall w24) := HT23.out.low (hb.mono h9)
  have HS24 : Hid (Bk S (c5 k x y z u ++ c5 k x y z u) w24) := HS23.out.low hb hSw
  have HB24 : Hid (Below w.heap.size w w24) := HB23.out.trans hb
  have HBl24 : Hid (Bl w24 w.heap.size w.heap.size ((((([]) ++ L1) ++ [10]) ++ L2) ++ [10])) := hbl
  clear hb hbl HT23 HS23 HB23 HBl23
  go_wp2_with fail
  rw [rounds_succ]
  go_wp2_with fail
  refine (string_any w.heap.size w.heap.size ((((([]) ++ L1) ++ [10]) ++ L2) ++ [10]) _ HBl24.out).mono ?_
  rintro e w9 ⟨rfl, hb⟩
  go_wp2
  go_ret2
  exact ⟨rfl, HB24.out.trans hb⟩
end Go.Proofs.YtiafppmpjmpdmaaDoor
