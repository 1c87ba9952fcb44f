/- numberOf walked. -/
import Derived.Test.YtgahlhfgpkklaaaDoorFBH
namespace Go.Proofs.YtgahlhfgpkklaaaDoor
open Go.RowKit Go.Maps

set_option maxRecDepth 100000 in
theorem number_nil (a : Nat → Addr) (n : Nat) (w : World) (h : Gl a n w) : Calls Tryd.prog 20 #[.nilIface] w fun e w' => e = .returned (.int .i64 0) ∧ w' = w := by
  have g1 : w.cell? ⟨1, 0, none⟩ = some (.iface 109 (.pointer (some (a 1)))) := h.cell 1 (by decide)
  have H1 : Hid (Calls Tryd.prog 23 #[.nilIface, .iface 109 (.pointer (some (a 1)))] w fun e w' => e = .returned (.bool false) ∧ w' = w) := is_any a n none 1 w h (by decide) (by intro j e; cases e)
  have g2 : w.cell? ⟨2, 0, none⟩ = some (.iface 109 (.pointer (some (a 2)))) := h.cell 2 (by decide)
  have H2 : Hid (Calls Tryd.prog 23 #[.nilIface, .iface 109 (.pointer (some (a 2)))] w fun e w' => e = .returned (.bool false) ∧ w' = w) := is_any a n none 2 w h (by decide) (by intro j e; cases e)
  have g3 : w.cell? ⟨3, 0, none⟩ = some (.iface 109 (.pointer (some (a 3)))) := h.cell 3 (by decide)
  have H3 : Hid (Calls Tryd.prog 23 #[.nilIface, .iface 109 (.pointer (some (a 3)))] w fun e w' => e = .returned (.bool false) ∧ w' = w) := is_any a n none 3 w h (by decide) (by intro j e; cases e)
  have g0 : w.cell? ⟨0, 0, none⟩ = some (.iface 109 (.pointer (some (a 0)))) := h.cell 0 (by decide)
  have H0 : Hid (Calls Tryd.prog 23 #[.nilIface, .iface 109 (.pointer (some (a 0)))] w fun e w' => e = .returned (.bool false) ∧ w' = w) := is_any a n none 0 w h (by decide) (by intro j e; cases e)
  have g4 : w.cell? ⟨4, 0, none⟩ = some (.iface 109 (.pointer (some (a 4)))) := h.cell 4 (by decide)
  have H4 : Hid (Calls Tryd.prog 23 #[.nilIface, .iface 109 (.pointer (some (a 4)))] w fun e w' => e = .returned (.bool false) ∧ w' = w) := is_any a n none 4 w h (by decide) (by intro j e; cases e)
  have g5 : w.cell? ⟨5, 0, none⟩ = some (.iface 109 (.pointer (some (a 5)))) := h.cell 5 (by decide)
  have H5 : Hid (Calls Tryd.prog 23 #[.nilIface, .iface 109 (.pointer (some (a 5)))] w fun e w' => e = .returned (.bool false) ∧ w' = w) := is_any a n none 5 w h (by decide) (by intro j e; cases e)
  have g6 : w.cell? ⟨6, 0, none⟩ = some (.iface 109 (.pointer (some (a 6)))) := h.cell 6 (by decide)
  have H6 : Hid (Calls Tryd.prog 23 #[.nilIface, .iface 109 (.pointer (some (a 6)))] w fun e w' => e = .returned (.bool false) ∧ w' = w) := is_any a n none 6 w h (by decide) (by intro j e; cases e)
  have g7 : w.cell? ⟨7, 0, none⟩ = some (.iface 109 (.pointer (some (a 7)))) := h.cell 7 (by decide)
  have H7 : Hid (Calls Tryd.prog 23 #[.nilIface, .iface 109 (.pointer (some (a 7)))] w fun e w' => e = .returned (.bool false) ∧ w' = w) := is_any a n none 7 w h (by decide) (by intro j e; cases e)
  clear h
  go_enter Tryd.func20, Tryd.ntmps20
  go_wp2_with fail
  refine Calls.mono H1.out ?_
  rintro e w1 ⟨rfl, rfl⟩
  go_wp2_with fail
  refine Calls.mono H2.out ?_
  rintro e w1 ⟨rfl, rfl⟩
  go_wp2_with fail
  refine Calls.mono H3.out ?_
  rintro e w1 ⟨rfl, rfl⟩
  go_wp2_with fail
  refine Calls.mono H0.out ?_
  rintro e w1 ⟨rfl, rfl⟩
  go_wp2_with fail
  refine Calls.mono H4.out ?_
  rintro e w1 ⟨rfl, rfl⟩
  go_wp2_with fail
  refine Calls.mono H5.out ?_
  rintro e w1 ⟨rfl, rfl⟩
  go_wp2_with fail
  refine Calls.mono H6.out ?_
  rintro e w1 ⟨rfl, rfl⟩
  go_wp2_with fail
  refine Calls.mono H7.out ?_
  rintro e w1 ⟨rfl, rfl⟩
  go_wp2
  go_ret
  exact ⟨rfl, rfl⟩
set_option maxRecDepth 100000 in
theorem number_0 (a : Nat → Addr) (n : Nat) (w : World) (h : Gl a n w) : Calls Tryd.prog 20 #[.iface 109 (.pointer (some (a 0)))] w fun e w' => e = .returned (.int .i64 13) ∧ w' = w := by
  have g1 : w.cell? ⟨1, 0, none⟩ = some (.iface 109 (.pointer (some (a 1)))) := h.cell 1 (by decide)
  have H1 : Hid (Calls Tryd.prog 23 #[.iface 109 (.pointer (some (a 0))), .iface 109 (.pointer (some (a 1)))] w fun e w' => e = .returned (.bool false) ∧ w' = w) := is_any a n (some 0) 1 w h (by decide) (by intro j e; injection e with e; omega)
  have g2 : w.cell? ⟨2, 0, none⟩ = some (.iface 109 (.pointer (some (a 2)))) := h.cell 2 (by decide)
  have H2 : Hid (Calls Tryd.prog 23 #[.iface 109 (.pointer (some (a 0))), .iface 109 (.pointer (some (a 2)))] w fun e w' => e = .returned (.bool false) ∧ w' = w) := is_any a n (some 0) 2 w h (by decide) (by intro j e; injection e with e; omega)
  have g3 : w.cell? ⟨3, 0, none⟩ = some (.iface 109 (.pointer (some (a 3)))) := h.cell 3 (by decide)
  have H3 : Hid (Calls Tryd.prog 23 #[.iface 109 (.pointer (some (a 0))), .iface 109 (.pointer (some (a 3)))] w fun e w' => e = .returned (.bool false) ∧ w' = w) := is_any a n (some 0) 3 w h (by decide) (by intro j e; injection e with e; omega)
  have g0 : w.cell? ⟨0, 0, none⟩ = some (.iface 109 (.pointer (some (a 0)))) := h.cell 0 (by decide)
  have H0 : Hid (Calls Tryd.prog 23 #[.iface 109 (.pointer (some (a 0))), .iface 109 (.pointer (some (a 0)))] w fun e w' => e = .returned (.bool true) ∧ w' = w) := is_any a n (some 0) 0 w h (by decide) (by intro j e; injection e with e; omega)
  clear h
  go_enter Tryd.func20, Tryd.ntmps20
  go_wp2_with fail
  refine Calls.mono H1.out ?_
  rintro e w1 ⟨rfl, rfl⟩
  go_wp2_with fail
  refine Calls.mono H2.out ?_
  rintro e w1 ⟨rfl, rfl⟩
  go_wp2_with fail
  refine Calls.mono H3.out ?_
  rintro e w1 ⟨rfl, rfl⟩
  go_wp2_with fail
  refine Calls.mono H0.out ?_
  rintro e w1 ⟨rfl, rfl⟩
  go_wp2
  go_ret
  exact ⟨rfl, rfl⟩
set_option maxRecDepth 100000 in
theorem number_1 (a : Nat → Addr) (n : Nat) (w : World) (h : Gl a n w) : Calls Tryd.prog 20 #[.iface 109 (.pointer (some (a 1)))] w fun e w' => e = .returned (.int .i64 2) ∧ w' = w := by
  have g1 : w.cell? ⟨1, 0, none⟩ = some (.iface 109 (.pointer (some (a 1)))) := h.cell 1 (by decide)
  have H1 : Hid (Calls Tryd.prog 23 #[.iface 109 (.pointer (some (a 1))), .iface 109 (.pointer (some (a 1)))] w fun e w' => e = .returned (.bool true) ∧ w' = w) := is_any a n (some 1) 1 w h (by decide) (by intro j e; injection e with e; omega)
  clear h
  go_enter Tryd.func20, Tryd.ntmps20
  go_wp2_with fail
  refine Calls.mono H1.out ?_
  rintro e w1 ⟨rfl, rfl⟩
  go_wp2
  go_ret
  exact ⟨rfl, rfl⟩
set_option maxRecDepth 100000 in
theorem number_2 (a : Nat → Addr) (n : Nat) (w : World) (h : Gl a n w) : Calls Tryd.prog 20 #[.iface 109 (.pointer (some (a 2)))] w fun e w' => e = .returned (.int .i64 17) ∧ w' = w := by
  have g1 : w.cell? ⟨1, 0, none⟩ = some (.iface 109 (.pointer (some (a 1)))) := h.cell 1 (by decide)
  have H1 : Hid (Calls Tryd.prog 23 #[.iface 109 (.pointer (some (a 2))), .iface 109 (.pointer (some (a 1)))] w fun e w' => e = .returned (.bool false) ∧ w' = w) := is_any a n (some 2) 1 w h (by decide) (by intro j e; injection e with e; omega)
  have g2 : w.cell? ⟨2, 0, none⟩ = some (.iface 109 (.pointer (some (a 2)))) := h.cell 2 (by decide)
  have H2 : Hid (Calls Tryd.prog 23 #[.iface 109 (.pointer (some (a 2))), .iface 109 (.pointer (some (a 2)))] w fun e w' => e = .returned (.bool true) ∧ w' = w) := is_any a n (some 2) 2 w h (by decide) (by intro j e; injection e with e; omega)
  clear h
  go_enter Tryd.func20, Tryd.ntmps20
  go_wp2_with fail
  refine Calls.mono H1.out ?_
  rintro e w1 ⟨rfl, rfl⟩
  go_wp2_with fail
  refine Calls.mono H2.out ?_
  rintro e w1 ⟨rfl, rfl⟩
  go_wp2
  go_ret
  exact ⟨rfl, rfl⟩
set_option maxRecDepth 100000 in
theorem number_3 (a : Nat → Addr) (n : Nat) (w : World) (h : Gl a n w) : Calls Tryd.prog 20 #[.iface 109 (.pointer (some (a 3)))] w fun e w' => e = .returned (.int .i64 15) ∧ w' = w := by
  have g1 : w.cell? ⟨1, 0, none⟩ = some (.iface 109 (.pointer (some (a 1)))) := h.cell 1 (by decide)
  have H1 : Hid (Calls Tryd.prog 23 #[.iface 109 (.pointer (some (a 3))), .iface 109 (.pointer (some (a 1)))] w fun e w' => e = .returned (.bool false) ∧ w' = w) := is_any a n (some 3) 1 w h (by decide) (by intro j e; injection e with e; omega)
  have g2 : w.cell? ⟨2, 0, none⟩ = some (.iface 109 (.pointer (some (a 2)))) := h.cell 2 (by decide)
  have H2 : Hid (Calls Tryd.prog 23 #[.iface 109 (.pointer (some (a 3))), .iface 109 (.pointer (some (a 2)))] w fun e w' => e = .returned (.bool false) ∧ w' = w) := is_any a n (some 3) 2 w h (by decide) (by intro j e; injection e with e; omega)
  have g3 : w.cell? ⟨3, 0, none⟩ = some (.iface 109 (.pointer (some (a 3)))) := h.cell 3 (by decide)
  have H3 : Hid (Calls Tryd.prog 23 #[.iface 109 (.pointer (some (a 3))), .iface 109 (.pointer (some (a 3)))] w fun e w' => e = .returned (.bool true) ∧ w' = w) := is_any a n (some 3) 3 w h (by decide) (by intro j e; injection e with e; omega)
  clear h
  go_enter Tryd.func20, Tryd.ntmps20
  go_wp2_with fail
  refine Calls.mono H1.out ?_
  rintro e w1 ⟨rfl, rfl⟩
  go_wp2_with fail
  refine Calls.mono H2.out ?_
  rintro e w1 ⟨rfl, rfl⟩
  go_wp2_with fail
  refine Calls.mono H3.out ?_
  rintro e w1 ⟨rfl, rfl⟩
  go_wp2
  go_ret
  exact ⟨rfl, rfl⟩
set_option maxRecDepth 100000 in
theorem number_4 (a : Nat → Addr) (n : Nat) (w : World) (h : Gl a n w) : Calls Tryd.prog 20 #[.iface 109 (.pointer (some (a 4)))] w fun e w' => e = .returned (.int .i64 12) ∧ w' = w := by
  have g1 : w.cell? ⟨1, 0, none⟩ = some (.iface 109 (.pointer (some (a 1)))) := h.cell 1 (by decide)
  have H1 : Hid (Calls Tryd.prog 23 #[.iface 109 (.pointer (some (a 4))), .iface 109 (.pointer (some (a 1)))] w fun e w' => e = .returned (.bool false) ∧ w' = w) := is_any a n (some 4) 1 w h (by decide) (by intro j e; injection e with e; omega)
  have g2 : w.cell? ⟨2, 0, none⟩ = some (.iface 109 (.pointer (some (a 2)))) := h.cell 2 (by decide)
  have H2 : Hid (Calls Tryd.prog 23 #[.iface 109 (.pointer (some (a 4))), .iface 109 (.pointer (some (a 2)))] w fun e w' => e = .returned (.bool false) ∧ w' = w) := is_any a n (some 4) 2 w h (by decide) (by intro j e; injection e with e; omega)
  have g3 : w.cell? ⟨3, 0, none⟩ = some (.iface 109 (.pointer (some (a 3)))) := h.cell 3 (by decide)
  have H3 : Hid (Calls Tryd.prog 23 #[.iface 109 (.pointer (some (a 4))), .iface 109 (.pointer (some (a 3)))] w fun e w' => e = .returned (.bool false) ∧ w' = w) := is_any a n (some 4) 3 w h (by decide) (by intro j e; injection e with e; omega)
  have g0 : w.cell? ⟨0, 0, none⟩ = some (.iface 109 (.pointer (some (a 0)))) := h.cell 0 (by decide)
  have H0 : Hid (Calls Tryd.prog 23 #[.iface 109 (.pointer (some (a 4))), .iface 109 (.pointer (some (a 0)))] w fun e w' => e = .returned (.bool false) ∧ w' = w) := is_any a n (some 4) 0 w h (by decide) (by intro j e; injection e with e; omega)
  have g4 : w.cell? ⟨4, 0, none⟩ = some (.iface 109 (.pointer (some (a 4)))) := h.cell 4 (by decide)
  have H4 : Hid (Calls Tryd.prog 23 #[.iface 109 (.pointer (some (a 4))), .iface 109 (.pointer (some (a 4)))] w fun e w' => e = .returned (.bool true) ∧ w' = w) := is_any a n (some 4) 4 w h (by decide) (by intro j e; injection e with e; omega)
  clear h
  go_enter Tryd.func20, Tryd.ntmps20
  go_wp2_with fail
  refine Calls.mono H1.out ?_
  rintro e w1 ⟨rfl, rfl⟩
  go_wp2_with fail
  refine Calls.mono H2.out ?_
  rintro e w1 ⟨rfl, rfl⟩
  go_wp2_with fail
  refine Calls.mono H3.out ?_
  rintro e w1 ⟨rfl, rfl⟩
  go_wp2_with fail
  refine Calls.mono H0.out ?_
  rintro e w1 ⟨rfl, rfl⟩
  go_wp2_with fail
  refine Calls.mono H4.out ?_
  rintro e w1 ⟨rfl, rfl⟩
  go_wp2
  go_ret
  exact ⟨rfl, rfl⟩
set_option maxRecDepth 100000 in
theorem number_5 (a : Nat → Addr) (n : Nat) (w : World) (h : Gl a n w) : Calls Tryd.prog 20 #[.iface 109 (.pointer (some (a 5)))] w fun e w' => e = .returned (.int .i64 12) ∧ w' = w := by
  have g1 : w.cell? ⟨1, 0, none⟩ = some (.iface 109 (.pointer (some (a 1)))) := h.cell 1 (by decide)
  have H1 : Hid (Calls Tryd.prog 23 #[.iface 109 (.pointer (some (a 5))), .iface 109 (.pointer (some (a 1)))] w fun e w' => e = .returned (.bool false) ∧ w' = w) := is_any a n (some 5) 1 w h (by decide) (by intro j e; injection e with e; omega)
  have g2 : w.cell? ⟨2, 0, none⟩ = some (.iface 109 (.pointer (some (a 2)))) := h.cell 2 (by decide)
  have H2 : Hid (Calls Tryd.prog 23 #[.iface 109 (.pointer (some (a 5))), .iface 109 (.pointer (some (a 2)))] w fun e w' => e = .returned (.bool false) ∧ w' = w) := is_any a n (some 5) 2 w h (by decide) (by intro j e; injection e with e; omega)
  have g3 : w.cell? ⟨3, 0, none⟩ = some (.iface 109 (.pointer (some (a 3)))) := h.cell 3 (by decide)
  have H3 : Hid (Calls Tryd.prog 23 #[.iface 109 (.pointer (some (a 5))), .iface 109 (.pointer (some (a 3)))] w fun e w' => e = .returned (.bool false) ∧ w' = w) := is_any a n (some 5) 3 w h (by decide) (by intro j e; injection e with e; omega)
  have g0 : w.cell? ⟨0, 0, none⟩ = some (.iface 109 (.pointer (some (a 0)))) := h.cell 0 (by decide)
  have H0 : Hid (Calls Tryd.prog 23 #[.iface 109 (.pointer (some (a 5))), .iface 109 (.pointer (some (a 0)))] w fun e w' => e = .returned (.bool false) ∧ w' = w) := is_any a n (some 5) 0 w h (by decide) (by intro j e; injection e with e; omega)
  have g4 : w.cell? ⟨4, 0, none⟩ = some (.iface 109 (.pointer (some (a 4)))) := h.cell 4 (by decide)
  have H4 : Hid (Calls Tryd.prog 23 #[.iface 109 (.pointer (some (a 5))), .iface 109 (.pointer (some (a 4)))] w fun e w' => e = .returned (.bool false) ∧ w' = w) := is_any a n (some 5) 4 w h (by decide) (by intro j e; injection e with e; omega)
  have g5 : w.cell? ⟨5, 0, none⟩ = some (.iface 109 (.pointer (some (a 5)))) := h.cell 5 (by decide)
  have H5 : Hid (Calls Tryd.prog 23 #[.iface 109 (.pointer (some (a 5))), .iface 109 (.pointer (some (a 5)))] w fun e w' => e = .returned (.bool true) ∧ w' = w) := is_any a n (some 5) 5 w h (by decide) (by intro j e; injection e with e; omega)
  clear h
  go_enter Tryd.func20, Tryd.ntmps20
  go_wp2_with fail
  refine Calls.mono H1.out ?_
  rintro e w1 ⟨rfl, rfl⟩
  go_wp2_with fail
  refine Calls.mono H2.out ?_
  rintro e w1 ⟨rfl, rfl⟩
  go_wp2_with fail
  refine Calls.mono H3.out ?_
  rintro e w1 ⟨rfl, rfl⟩
  go_wp2_with fail
  refine Calls.mono H0.out ?_
  rintro e w1 ⟨rfl, rfl⟩
  go_wp2_with fail
  refine Calls.mono H4.out ?_
  rintro e w1 ⟨rfl, rfl⟩
  go_wp2_with fail
  refine Calls.mono H5.out ?_
  rintro e w1 ⟨rfl, rfl⟩
  go_wp2
  go_ret
  exact ⟨rfl, rfl⟩
set_option maxRecDepth 100000 in
theorem number_6 (a : Nat → Addr) (n : Nat) (w : World) (h : Gl a n w) : Calls Tryd.prog 20 #[.iface 109 (.pointer (some (a 6)))] w fun e w' => e = .returned (.int .i64 9) ∧ w' = w := by
  have g1 : w.cell? ⟨1, 0, none⟩ = some (.iface 109 (.pointer (some (a 1)))) := h.cell 1 (by decide)
  have H1 : Hid (Calls Tryd.prog 23 #[.iface 109 (.pointer (some (a 6))), .iface 109 (.pointer (some (a 1)))] w fun e w' => e = .returned (.bool false) ∧ w' = w) := is_any a n (some 6) 1 w h (by decide) (by intro j e; injection e with e; omega)
  have g2 : w.cell? ⟨2, 0, none⟩ = some (.iface 109 (.pointer (some (a 2)))) := h.cell 2 (by decide)
  have H2 : Hid (Calls Tryd.prog 23 #[.iface 109 (.pointer (some (a 6))), .iface 109 (.pointer (some (a 2)))] w fun e w' => e = .returned (.bool false) ∧ w' = w) := is_any a n (some 6) 2 w h (by decide) (by intro j e; injection e with e; omega)
  have g3 : w.cell? ⟨3, 0, none⟩ = some (.iface 109 (.pointer (some (a 3)))) := h.cell 3 (by decide)
  have H3 : Hid (Calls Tryd.prog 23 #[.iface 109 (.pointer (some (a 6))), .iface 109 (.pointer (some (a 3)))] w fun e w' => e = .returned (.bool false) ∧ w' = w) := is_any a n (some 6) 3 w h (by decide) (by intro j e; injection e with e; omega)
  have g0 : w.cell? ⟨0, 0, none⟩ = some (.iface 109 (.pointer (some (a 0)))) := h.cell 0 (by decide)
  have H0 : Hid (Calls Tryd.prog 23 #[.iface 109 (.pointer (some (a 6))), .iface 109 (.pointer (some (a 0)))] w fun e w' => e = .returned (.bool false) ∧ w' = w) := is_any a n (some 6) 0 w h (by decide) (by intro j e; injection e with e; omega)
  have g4 : w.cell? ⟨4, 0, none⟩ = some (.iface 109 (.pointer (some (a 4)))) := h.cell 4 (by decide)
  have H4 : Hid (Calls Tryd.prog 23 #[.iface 109 (.pointer (some (a 6))), .iface 109 (.pointer (some (a 4)))] w fun e w' => e = .returned (.bool false) ∧ w' = w) := is_any a n (some 6) 4 w h (by decide) (by intro j e; injection e with e; omega)
  have g5 : w.cell? ⟨5, 0, none⟩ = some (.iface 109 (.pointer (some (a 5)))) := h.cell 5 (by decide)
  have H5 : Hid (Calls Tryd.prog 23 #[.iface 109 (.pointer (some (a 6))), .iface 109 (.pointer (some (a 5)))] w fun e w' => e = .returned (.bool false) ∧ w' = w) := is_any a n (some 6) 5 w h (by decide) (by intro j e; injection e with e; omega)
  have g6 : w.cell? ⟨6, 0, none⟩ = some (.iface 109 (.pointer (some (a 6)))) := h.cell 6 (by decide)
  have H6 : Hid (Calls Tryd.prog 23 #[.iface 109 (.pointer (some (a 6))), .iface 109 (.pointer (some (a 6)))] w fun e w' => e = .returned (.bool true) ∧ w' = w) := is_any a n (some 6) 6 w h (by decide) (by intro j e; injection e with e; omega)
  clear h
  go_enter Tryd.func20, Tryd.ntmps20
  go_wp2_with fail
  refine Calls.mono H1.out ?_
  rintro e w1 ⟨rfl, rfl⟩
  go_wp2_with fail
  refine Calls.mono H2.out ?_
  rintro e w1 ⟨rfl, rfl⟩
  go_wp2_with fail
  refine Calls.mono H3.out ?_
  rintro e w1 ⟨rfl, rfl⟩
  go_wp2_with fail
  refine Calls.mono H0.out ?_
  rintro e w1 ⟨rfl, rfl⟩
  go_wp2_with fail
  refine Calls.mono H4.out ?_
  rintro e w1 ⟨rfl, rfl⟩
  go_wp2_with fail
  refine Calls.mono H5.out ?_
  rintro e w1 ⟨rfl, rfl⟩
  go_wp2_with fail
  refine Calls.mono H6.out ?_
  rintro e w1 ⟨rfl, rfl⟩
  go_wp2
  go_ret
  exact ⟨rfl, rfl⟩
set_option maxRecDepth 100000 in
theorem number_7 (a : Nat → Addr) (n : Nat) (w : World) (h : Gl a n w) : Calls Tryd.prog 20 #[.iface 109 (.pointer (some (a 7)))] w fun e w' => e = .returned (.int .i64 8) ∧ w' = w := by
  have g1 : w.cell? ⟨1, 0, none⟩ = some (.iface 109 (.pointer (some (a 1)))) := h.cell 1 (by decide)
  have H1 : Hid (Calls Tryd.prog 23 #[.iface 109 (.pointer (some (a 7))), .iface 109 (.pointer (some (a 1)))] w fun e w' => e = .returned (.bool false) ∧ w' = w) := is_any a n (some 7) 1 w h (by decide) (by intro j e; injection e with e; omega)
  have g2 : w.cell? ⟨2, 0, none⟩ = some (.iface 109 (.pointer (some (a 2)))) := h.cell 2 (by decide)
  have H2 : Hid (Calls Tryd.prog 23 #[.iface 109 (.pointer (some (a 7))), .iface 109 (.pointer (some (a 2)))] w fun e w' => e = .returned (.bool false) ∧ w' = w) := is_any a n (some 7) 2 w h (by decide) (by intro j e; injection e with e; omega)
  have g3 : w.cell? ⟨3, 0, none⟩ = some (.iface 109 (.pointer (some (a 3)))) := h.cell 3 (by decide)
  have H3 : Hid (Calls Tryd.prog 23 #[.iface 109 (.pointer (some (a 7))), .iface 109 (.pointer (some (a 3)))] w fun e w' => e = .returned (.bool false) ∧ w' = w) := is_any a n (some 7) 3 w h (by decide) (by intro j e; injection e with e; omega)
  have g0 : w.cell? ⟨0, 0, none⟩ = some (.iface 109 (.pointer (some (a 0)))) := h.cell 0 (by decide)
  have H0 : Hid (Calls Tryd.prog 23 #[.iface 109 (.pointer (some (a 7))), .iface 109 (.pointer (some (a 0)))] w fun e w' => e = .returned (.bool false) ∧ w' = w) := is_any a n (some 7) 0 w h (by decide) (by intro j e; injection e with e; omega)
  have g4 : w.cell? ⟨4, 0, none⟩ = some (.iface 109 (.pointer (some (a 4)))) := h.cell 4 (by decide)
  have H4 : Hid (Calls Tryd.prog 23 #[.iface 109 (.pointer (some (a 7))), .iface 109 (.pointer (some (a 4)))] w fun e w' => e = .returned (.bool false) ∧ w' = w) := is_any a n (some 7) 4 w h (by decide) (by intro j e; injection e with e; omega)
  have g5 : w.cell? ⟨5, 0, none⟩ = some (.iface 109 (.pointer (some (a 5)))) := h.cell 5 (by decide)
  have H5 : Hid (Calls Tryd.prog 23 #[.iface 109 (.pointer (some (a 7))), .iface 109 (.pointer (some (a 5)))] w fun e w' => e = .returned (.bool false) ∧ w' = w) := is_any a n (some 7) 5 w h (by decide) (by intro j e; injection e with e; omega)
  have g6 : w.cell? ⟨6, 0, none⟩ = some (.iface 109 (.pointer (some (a 6)))) := h.cell 6 (by decide)
  have H6 : Hid (Calls Tryd.prog 23 #[.iface 109 (.pointer (some (a 7))), .iface 109 (.pointer (some (a 6)))] w fun e w' => e = .returned (.bool false) ∧ w' = w) := is_any a n (some 7) 6 w h (by decide) (by intro j e; injection e with e; omega)
  have g7 : w.cell? ⟨7, 0, none⟩ = some (.iface 109 (.pointer (some (a 7)))) := h.cell 7 (by decide)
  have H7 : Hid (Calls Tryd.prog 23 #[.iface 109 (.pointer (some (a 7))), .iface 109 (.pointer (some (a 7)))] w fun e w' => e = .returned (.bool true) ∧ w' = w) := is_any a n (some 7) 7 w h (by decide) (by intro j e; injection e with e; omega)
  clear h
  go_enter Tryd.func20, Tryd.ntmps20
  go_wp2_with fail
  refine Calls.mono H1.out ?_
  rintro e w1 ⟨rfl, rfl⟩
  go_wp2_with fail
  refine Calls.mono H2.out ?_
  rintro e w1 ⟨rfl, rfl⟩
  go_wp2_with fail
  refine Calls.mono H3.out ?_
  rintro e w1 ⟨rfl, rfl⟩
  go_wp2_with fail
  refine Calls.mono H0.out ?_
  rintro e w1 ⟨rfl, rfl⟩
  go_wp2_with fail
  refine Calls.mono H4.out ?_
  rintro e w1 ⟨rfl, rfl⟩
  go_wp2_with fail
  refine Calls.mono H5.out ?_
  rintro e w1 ⟨rfl, rfl⟩
  go_wp2_with fail
  refine Calls.mono H6.out ?_
  rintro e w1 ⟨rfl, rfl⟩
  go_wp2_with fail
  refine Calls.mono H7.out ?_
  rintro e w1 ⟨rfl, rfl⟩
  go_wp2
  go_ret
  exact ⟨rfl, rfl⟩
theorem number_any (a : Nat → Addr) (n : Nat) (o : Option Nat) (w : World) (h : Gl a n w) (ho : ∀ i, o = some i → i < 8) : Calls Tryd.prog 20 #[er a o] w fun e w' => e = .returned (.int .i64 (numE o)) ∧ w' = w := by
  cases o with
  | none => exact number_nil a n w h
  | some i =>
    have := ho i rfl
    match i, this with
    | 0, _ => exact number_0 a n w h
    | 1, _ => exact number_1 a n w h
    | 2, _ => exact number_2 a n w h
    | 3, _ => exact number_3 a n w h
    | 4, _ => exact number_4 a n w h
    | 5, _ => exact number_5 a n w h
    | 6, _ => exact number_6 a n w h
    | 7, _ => exact number_7 a n w h
end Go.Proofs.YtgahlhfgpkklaaaDoor
