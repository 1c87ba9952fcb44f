/- press, grab, eject walked. -/
import Derived.Test.YtgahlhfgpkklaaaDoorFLH
namespace Go.Proofs.YtgahlhfgpkklaaaDoor
open Go.RowKit Go.Maps

set_option maxHeartbeats 6400000 in
set_option maxRecDepth 100000 in
theorem grab_a (a : Nat → Addr) (n B M : Nat) (r : Rg) (f : Fm) (w : World) (h : Bd B M r f w) (hg : Gl a n w) (hm : f.hm = false) :
    Calls Tryd.prog 53 #[ptr B] w fun e w' => e = .returned (.iface 109 (.pointer (some (a 3)))) ∧ w' = w := by
  have q12 : w.cell? ⟨B, 12, none⟩ = some (.bool false) := by rw [← hm]; exact h.bk.c 12 rfl
  clear hm
  have g3 : w.cell? ⟨3, 0, none⟩ = some (.iface 109 (.pointer (some (a 3)))) := hg.cell 3 (by decide)
  clear h hg
  go_enter Tryd.func53, Tryd.ntmps53
  go_wp2
  go_ret
  exact ⟨rfl, rfl⟩
set_option maxHeartbeats 6400000 in
set_option maxRecDepth 100000 in
theorem grab_b (a : Nat → Addr) (n B M : Nat) (r : Rg) (f : Fm) (w : World) (h : Bd B M r f w) (hg : Gl a n w) (hm : f.hm = true) (ht : f.tp = true) :
    Calls Tryd.prog 53 #[ptr B] w fun e w' => e = .returned (.iface 109 (.pointer (some (a 5)))) ∧ w' = w := by
  have q12 : w.cell? ⟨B, 12, none⟩ = some (.bool true) := by rw [← hm]; exact h.bk.c 12 rfl
  clear hm
  have q17 : w.cell? ⟨B, 17, none⟩ = some (.bool true) := by rw [← ht]; exact h.bk.c 17 rfl
  clear ht
  have g5 : w.cell? ⟨5, 0, none⟩ = some (.iface 109 (.pointer (some (a 5)))) := hg.cell 5 (by decide)
  clear h hg
  go_enter Tryd.func53, Tryd.ntmps53
  go_wp2
  go_ret
  exact ⟨rfl, rfl⟩
set_option maxHeartbeats 6400000 in
set_option maxRecDepth 100000 in
theorem grab_c (B M : Nat) (r : Rg) (f : Fm) (w : World) (h : Bd B M r f w) (hm : f.hm = true) (ht : f.tp = false) :
    Calls Tryd.prog 53 #[ptr B] w fun e w' => e = .returned .nilIface ∧ Bd B M r { f with tp := true, pl := 0 } w' ∧ Kpt (BM B M) w w' := by
  have q12 : w.cell? ⟨B, 12, none⟩ = some (.bool true) := by rw [← hm]; exact h.bk.c 12 rfl
  clear hm
  have q17 : w.cell? ⟨B, 17, none⟩ = some (.bool false) := by rw [← ht]; exact h.bk.c 17 rfl
  clear ht
  have q16 := h.bk.c 16 rfl
  have z16 := h.bk.f 16 rfl
  have z17 := h.bk.f 17 rfl
  obtain ⟨h1, k1⟩ := h.set 17 (.bool true) (f' := { f with tp := true }) rfl
  obtain ⟨h2, k2⟩ := h1.set 16 (.int .i64 0) (f' := { f with tp := true, pl := 0 }) rfl
  have HS := (show Hid (Bd B M r { f with tp := true, pl := 0 } _ ∧ Kpt (BM B M) w _) from ⟨h2, k1.trans k2⟩)
  clear h h1 h2 k1 k2
  go_enter Tryd.func53, Tryd.ntmps53
  go_wp2
  go_ret
  exact ⟨rfl, HS.out⟩
set_option maxHeartbeats 6400000 in
set_option maxRecDepth 100000 in
theorem eject_a (a : Nat → Addr) (n B M : Nat) (r : Rg) (f : Fm) (w : World) (h : Bd B M r f w) (hg : Gl a n w) (hm : f.hm = false) :
    Calls Tryd.prog 54 #[ptr B] w fun e w' => e = .returned (.iface 109 (.pointer (some (a 3)))) ∧ w' = w := by
  have q12 : w.cell? ⟨B, 12, none⟩ = some (.bool false) := by rw [← hm]; exact h.bk.c 12 rfl
  clear hm
  have g3 : w.cell? ⟨3, 0, none⟩ = some (.iface 109 (.pointer (some (a 3)))) := hg.cell 3 (by decide)
  clear h hg
  go_enter Tryd.func54, Tryd.ntmps54
  go_wp2
  go_ret
  exact ⟨rfl, rfl⟩
set_option maxHeartbeats 6400000 in
set_option maxRecDepth 100000 in
theorem eject_b (a : Nat → Addr) (n B M : Nat) (r : Rg) (f : Fm) (w : World) (h : Bd B M r f w) (hg : Gl a n w) (hm : f.hm = true) (ht : f.tp = false) :
    Calls Tryd.prog 54 #[ptr B] w fun e w' => e = .returned (.iface 109 (.pointer (some (a 4)))) ∧ w' = w := by
  have q12 : w.cell? ⟨B, 12, none⟩ = some (.bool true) := by rw [← hm]; exact h.bk.c 12 rfl
  clear hm
  have q17 : w.cell? ⟨B, 17, none⟩ = some (.bool false) := by rw [← ht]; exact h.bk.c 17 rfl
  clear ht
  have g4 : w.cell? ⟨4, 0, none⟩ = some (.iface 109 (.pointer (some (a 4)))) := hg.cell 4 (by decide)
  clear h hg
  go_enter Tryd.func54, Tryd.ntmps54
  go_wp2
  go_ret
  exact ⟨rfl, rfl⟩
set_option maxHeartbeats 6400000 in
set_option maxRecDepth 100000 in
theorem eject_c (B M : Nat) (r : Rg) (f : Fm) (w : World) (h : Bd B M r f w) (hm : f.hm = true) (ht : f.tp = true) :
    Calls Tryd.prog 54 #[ptr B] w fun e w' => e = .returned .nilIface ∧ Bd B M r { f with tp := false, pl := 0 } w' ∧ Kpt (BM B M) w w' := by
  have q12 : w.cell? ⟨B, 12, none⟩ = some (.bool true) := by rw [← hm]; exact h.bk.c 12 rfl
  clear hm
  have q17 : w.cell? ⟨B, 17, none⟩ = some (.bool true) := by rw [← ht]; exact h.bk.c 17 rfl
  clear ht
  have q16 := h.bk.c 16 rfl
  have z16 := h.bk.f 16 rfl
  have z17 := h.bk.f 17 rfl
  obtain ⟨h1, k1⟩ := h.set 17 (.bool false) (f' := { f with tp := false }) rfl
  obtain ⟨h2, k2⟩ := h1.set 16 (.int .i64 0) (f' := { f with tp := false, pl := 0 }) rfl
  have HS := (show Hid (Bd B M r { f with tp := false, pl := 0 } _ ∧ Kpt (BM B M) w _) from ⟨h2, k1.trans k2⟩)
  clear h h1 h2 k1 k2
  go_enter Tryd.func54, Tryd.ntmps54
  go_wp2
  go_ret
  exact ⟨rfl, HS.out⟩
set_option maxHeartbeats 6400000 in
set_option maxRecDepth 100000 in
theorem press_a (a : Nat → Addr) (n B M : Nat) (r : Rg) (f : Fm) (w : World) (h : Bd B M r f w) (hg : Gl a n w) (v : Int) (hm : f.hm = false) :
    Calls Tryd.prog 52 #[ptr B, .int .i64 v] w fun e w' => e = .returned (.iface 109 (.pointer (some (a 3)))) ∧ w' = w := by
  have q12 : w.cell? ⟨B, 12, none⟩ = some (.bool false) := by rw [← hm]; exact h.bk.c 12 rfl
  clear hm
  have g3 : w.cell? ⟨3, 0, none⟩ = some (.iface 109 (.pointer (some (a 3)))) := hg.cell 3 (by decide)
  clear h hg
  go_enter Tryd.func52, Tryd.ntmps52
  go_wp2
  go_ret
  exact ⟨rfl, rfl⟩
set_option maxHeartbeats 6400000 in
set_option maxRecDepth 100000 in
theorem press_b (a : Nat → Addr) (n B M : Nat) (r : Rg) (f : Fm) (w : World) (h : Bd B M r f w) (hg : Gl a n w) (v : Int) (hm : f.hm = true) (ht : f.tp = false) :
    Calls Tryd.prog 52 #[ptr B, .int .i64 v] w fun e w' => e = .returned (.iface 109 (.pointer (some (a 4)))) ∧ w' = w := by
  have q12 : w.cell? ⟨B, 12, none⟩ = some (.bool true) := by rw [← hm]; exact h.bk.c 12 rfl
  clear hm
  have q17 : w.cell? ⟨B, 17, none⟩ = some (.bool false) := by rw [← ht]; exact h.bk.c 17 rfl
  clear ht
  have g4 : w.cell? ⟨4, 0, none⟩ = some (.iface 109 (.pointer (some (a 4)))) := hg.cell 4 (by decide)
  clear h hg
  go_enter Tryd.func52, Tryd.ntmps52
  go_wp2
  go_ret
  exact ⟨rfl, rfl⟩
set_option maxHeartbeats 6400000 in
set_option maxRecDepth 100000 in
theorem press_c (a : Nat → Addr) (n B M : Nat) (r : Rg) (f : Fm) (w : World) (h : Bd B M r f w) (hg : Gl a n w) (v : Int) (hm : f.hm = true) (ht : f.tp = true) (hv : r.mo < v) :
    Calls Tryd.prog 52 #[ptr B, .int .i64 v] w fun e w' => e = .returned (.iface 109 (.pointer (some (a 6)))) ∧ w' = w := by
  have q12 : w.cell? ⟨B, 12, none⟩ = some (.bool true) := by rw [← hm]; exact h.bk.c 12 rfl
  clear hm
  have q17 : w.cell? ⟨B, 17, none⟩ = some (.bool true) := by rw [← ht]; exact h.bk.c 17 rfl
  clear ht
  have q11 := h.bk.c 11 rfl
  have g6 : w.cell? ⟨6, 0, none⟩ = some (.iface 109 (.pointer (some (a 6)))) := hg.cell 6 (by decide)
  clear h hg
  go_enter Tryd.func52, Tryd.ntmps52
  go_wp2
  go_ret
  exact ⟨rfl, rfl⟩
set_option maxHeartbeats 6400000 in
set_option maxRecDepth 100000 in
theorem press_d (a : Nat → Addr) (n B M : Nat) (r : Rg) (f : Fm) (w : World) (h : Bd B M r f w) (v : Int) (hg : Gl a n w) (hB : n ≤ B) (hM : n ≤ M) (hr : RgOk r) (hf : FmOk r f) (hm : f.hm = true) (ht : f.tp = true) (hv0 : 0 ≤ v) (hv : v ≤ r.mo) (t : Int) (hte : t = upB (chg f.pl v) 1000) (hl : 1000000000000000 < f.tk + t) :
    Calls Tryd.prog 52 #[ptr B, .int .i64 v] w fun e w' => e = .returned (.iface 109 (.pointer (some (a 7)))) ∧ Bd B M r ({ f with pl := v }) w' ∧ Kpt (BM B M) w w' := by
  have q12 : w.cell? ⟨B, 12, none⟩ = some (.bool true) := by rw [← hm]; exact h.bk.c 12 rfl
  clear hm
  have q17 : w.cell? ⟨B, 17, none⟩ = some (.bool true) := by rw [← ht]; exact h.bk.c 17 rfl
  clear ht
  have q11 := h.bk.c 11 rfl
  have q16 := h.bk.c 16 rfl
  have z16 := h.bk.f 16 rfl
  have hpl := hf.pl
  have hmo := hr.mo
  have HC : Hid (∀ W, Calls Tryd.prog 56 #[.int .i64 f.pl, .int .i64 v] W fun e w' => e = .returned (.int .i64 (chg f.pl v)) ∧ w' = W) := fun W => change_any f.pl v W (by omega) (by omega) (by omega) (by omega)
  have hcb : 0 ≤ chg f.pl v ∧ chg f.pl v ≤ 1000000000 := by unfold chg; omega
  have HU : Hid (∀ W, Calls Tryd.prog 38 #[.int .i64 (chg f.pl v), .int .i64 1000] W fun e w' => e = .returned (.int .i64 t) ∧ w' = W) := fun W => by rw [hte]; exact upBy_any (chg f.pl v) 1000 W hcb.1 (by omega) (by omega) (by omega)
  have htb : 0 ≤ t := by rw [hte]; exact (upB_bd hcb.1 (by omega)).1
  obtain ⟨h1, k1⟩ := h.set 16 (.int .i64 v) (f' := { f with pl := v }) rfl
  obtain ⟨w1, hw1⟩ : ∃ x, x = w.setCell ⟨B, 16, none⟩ (.int .i64 v) := ⟨_, rfl⟩
  rw [← hw1] at h1 k1
  have HD1 : Hid (Bd B M r { f with pl := v } w1) := h1
  have HK1 : Hid (Kpt (BM B M) w w1) := k1
  have HP : Hid (Calls Tryd.prog 55 #[ptr B, .int .i64 t] w1 fun e w' => e = .returned (.iface 109 (.pointer (some (a 7)))) ∧ w' = w1) := pass_no a n B M r { f with pl := v } t w1 h1 (hg.onB k1 hB hM) hf.tk.1 hf.tk.2 hl
  clear h h1 k1 hl hte hf hr hpl hmo hcb htb hg
  go_enter Tryd.func52, Tryd.ntmps52
  go_wp2_with fail
  refine (HC.out _).mono ?_
  rintro e w2 ⟨rfl, rfl⟩
  go_wp2_with fail
  refine (HU.out _).mono ?_
  rintro e w3 ⟨rfl, rfl⟩
  go_wp2_with fail
  simp only [← hw1]
  refine Calls.mono HP.out ?_
  rintro e w4 ⟨rfl, hw4⟩
  clear hw1
  subst hw4
  go_wp2
  go_ret
  exact ⟨rfl, HD1.out, HK1.out⟩
set_option maxHeartbeats 6400000 in
set_option maxRecDepth 100000 in
theorem press_e (B M : Nat) (r : Rg) (f : Fm) (w : World) (h : Bd B M r f w) (v : Int) (hr : RgOk r) (hf : FmOk r f) (hm : f.hm = true) (ht : f.tp = true) (hv0 : 0 ≤ v) (hv : v ≤ r.mo) (t : Int) (hte : t = upB (chg f.pl v) 1000) (hl : f.tk + t ≤ 1000000000000000) :
    Calls Tryd.prog 52 #[ptr B, .int .i64 v] w fun e w' => e = .returned (.nilIface) ∧ Bd B M r ({ f with pl := v, tk := f.tk + t }) w' ∧ Kpt (BM B M) w w' := by
  have q12 : w.cell? ⟨B, 12, none⟩ = some (.bool true) := by rw [← hm]; exact h.bk.c 12 rfl
  clear hm
  have q17 : w.cell? ⟨B, 17, none⟩ = some (.bool true) := by rw [← ht]; exact h.bk.c 17 rfl
  clear ht
  have q11 := h.bk.c 11 rfl
  have q16 := h.bk.c 16 rfl
  have z16 := h.bk.f 16 rfl
  have hpl := hf.pl
  have hmo := hr.mo
  have HC : Hid (∀ W, Calls Tryd.prog 56 #[.int .i64 f.pl, .int .i64 v] W fun e w' => e = .returned (.int .i64 (chg f.pl v)) ∧ w' = W) := fun W => change_any f.pl v W (by omega) (by omega) (by omega) (by omega)
  have hcb : 0 ≤ chg f.pl v ∧ chg f.pl v ≤ 1000000000 := by unfold chg; omega
  have HU : Hid (∀ W, Calls Tryd.prog 38 #[.int .i64 (chg f.pl v), .int .i64 1000] W fun e w' => e = .returned (.int .i64 t) ∧ w' = W) := fun W => by rw [hte]; exact upBy_any (chg f.pl v) 1000 W hcb.1 (by omega) (by omega) (by omega)
  have htb : 0 ≤ t := by rw [hte]; exact (upB_bd hcb.1 (by omega)).1
  obtain ⟨h1, k1⟩ := h.set 16 (.int .i64 v) (f' := { f with pl := v }) rfl
  obtain ⟨w1, hw1⟩ : ∃ x, x = w.setCell ⟨B, 16, none⟩ (.int .i64 v) := ⟨_, rfl⟩
  rw [← hw1] at h1 k1
  have HD1 : Hid (Bd B M r { f with pl := v } w1) := h1
  have HK1 : Hid (Kpt (BM B M) w w1) := k1
  have HP : Hid (Calls Tryd.prog 55 #[ptr B, .int .i64 t] w1 fun e w' => e = .returned .nilIface ∧ Bd B M r { f with pl := v, tk := f.tk + t } w' ∧ Kpt (BM B M) w1 w') := pass_yes B M r { f with pl := v } t w1 h1 hf.tk.1 hf.tk.2 htb hl
  clear h h1 k1 hl hte hf hr hpl hmo hcb htb
  go_enter Tryd.func52, Tryd.ntmps52
  go_wp2_with fail
  refine (HC.out _).mono ?_
  rintro e w2 ⟨rfl, rfl⟩
  go_wp2_with fail
  refine (HU.out _).mono ?_
  rintro e w3 ⟨rfl, rfl⟩
  go_wp2_with fail
  simp only [← hw1]
  refine Calls.mono HP.out ?_
  rintro e w4 ⟨rfl, hd4, hk4⟩
  have HF := (show Hid (Bd B M r { f with pl := v, tk := f.tk + t } w4 ∧ Kpt (BM B M) _ w4) from ⟨hd4, HK1.out.trans hk4⟩)
  clear hd4 hk4
  go_wp2
  go_ret
  exact ⟨rfl, HF.out⟩
end Go.Proofs.YtgahlhfgpkklaaaDoor
