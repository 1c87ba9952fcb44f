/- May, Do walked. -/
import Derived.Test.YtgahlhfgpkklaaaDoorFOH
namespace Go.Proofs.YtgahlhfgpkklaaaDoor
open Go.RowKit Go.Maps

abbrev zfo : Obj := .cells #[.bool false, .int .i64 0, .int .i64 0, .int .i64 0, .int .i64 0, .bool false, .int .i64 0, .int .i64 0, .int .i64 0] 29
abbrev zfc : List Value := [.bool false, .int .i64 0, .int .i64 0, .int .i64 0, .int .i64 0, .bool false, .int .i64 0, .int .i64 0, .int .i64 0]
abbrev zfv : Value := .agg #[.bool false, .int .i64 0, .int .i64 0, .int .i64 0, .int .i64 0, .bool false, .int .i64 0, .int .i64 0, .int .i64 0]
/-- What stands against a rig and a state. -/
def nbE (r : Rg) (f : Fm) : Option Nat := if rgOk r = false then some 1 else if fmOk r f = false then some 2 else none
/-- What firm.Do says, and gives. -/
def DoE (r : Rg) (f : Fm) (c : Cm) : Int := if rgOk r = false then 2 else if fmOk r f = false then 17 else doN r f c
def DoV (r : Rg) (f : Fm) (c : Cm) : Fm := if DoE r f c = 0 then obF r f c else f0
theorem newBoard_no (a : Nat → Addr) (n : Nat) (r : Rg) (f : Fm) (w : World) (hg : Gl a n w) {i : Nat} (h : nbE r f = some i) :
    Calls Tryd.prog 19 #[rgv r, fv f] w fun e w' => e = .returned (.tuple #[zbv, .iface 109 (.pointer (some (a i)))]) ∧ Below w.heap.size w w' := by
  unfold nbE at h
  split at h
  · rename_i hr
    cases h
    exact newBoard_a a n r f w hg hr
  · rename_i hr
    split at h
    · rename_i hf
      cases h
      exact newBoard_b a n r f w hg (by simpa using hr) hf
    · cases h
theorem nbE_ok {r : Rg} {f : Fm} (h : nbE r f = none) : rgOk r = true ∧ fmOk r f = true := by
  unfold nbE at h
  split at h
  · cases h
  · rename_i hr
    split at h
    · cases h
    · rename_i hf
      exact ⟨by simpa using hr, by simpa using hf⟩
theorem nbE_lt {r : Rg} {f : Fm} {i : Nat} (h : nbE r f = some i) : i = 1 ∨ i = 2 := by
  unfold nbE at h
  split at h
  · cases h; exact .inl rfl
  · split at h
    · cases h; exact .inr rfl
    · cases h
set_option maxHeartbeats 6400000 in
set_option maxRecDepth 100000 in
theorem May_no (a : Nat → Addr) (n : Nat) (r : Rg) (f : Fm) (w : World) (hg : Gl a n w) {i : Nat} (h : nbE r f = some i) :
    Calls Tryd.prog 8 #[rgv r, fv f] w fun e w' => e = .returned (.bool false) ∧ Below w.heap.size w w' := by
  have HB0 : Hid (Below w.heap.size w ((w.alloc (rgo r)).alloc (fo f))) := two_new _ _ _
  have HN : Hid (∀ W, Gl a n W → Calls Tryd.prog 19 #[rgv r, fv f] W fun e w' => e = .returned (.tuple #[zbv, .iface 109 (.pointer (some (a i)))]) ∧ Below W.heap.size W w') := fun W hW => newBoard_no a n r f W hW h
  have HG : Hid (Gl a n ((w.alloc (rgo r)).alloc (fo f))) := hg.later HB0.out
  clear h hg
  go_enter Tryd.func8, Tryd.ntmps8
  go_wp2_with fail
  refine (HN.out _ HG.out).mono ?_
  rintro e w1 ⟨rfl, hb1⟩
  have HB1 : Hid (Below w.heap.size w w1) := below_on HB0.out hb1
  clear hb1
  go_wp2_with (refine wpList_store_new rfl 52 _ _ rfl w1 w1.heap.size _ _ rfl rfl rfl rfl info52 rfl (by kernel_rfl) ?_)
  go_ret
  exact ⟨rfl, below_on HB1.out (one_new _ _)⟩
set_option maxHeartbeats 6400000 in
set_option maxRecDepth 100000 in
theorem May_yes (r : Rg) (f : Fm) (w : World) (h : nbE r f = none) :
    Calls Tryd.prog 8 #[rgv r, fv f] w fun e w' => e = .returned (.bool true) ∧ Below w.heap.size w w' := by
  have HB0 : Hid (Below w.heap.size w ((w.alloc (rgo r)).alloc (fo f))) := two_new _ _ _
  have HN : Hid (∀ W, Calls Tryd.prog 19 #[rgv r, fv f] W fun e w' => ∃ M, e = .returned (.tuple #[bdv r f M, .nilIface]) ∧ W.heap.size ≤ M ∧ TM r.rp M w' ∧ Below W.heap.size W w') := fun W => newBoard_c r f W (nbE_ok h).1 (nbE_ok h).2
  clear h
  go_enter Tryd.func8, Tryd.ntmps8
  go_wp2_with fail
  refine (HN.out _).mono ?_
  rintro e w1 ⟨M, rfl, _, _, hb1⟩
  have HB1 : Hid (Below w.heap.size w w1) := below_on HB0.out hb1
  clear hb1
  go_wp2_with (refine wpList_store_new rfl 52 _ _ rfl w1 w1.heap.size _ _ rfl rfl rfl rfl info52 rfl (by kernel_rfl) ?_)
  go_ret
  exact ⟨rfl, below_on HB1.out (one_new _ _)⟩
theorem May_any (a : Nat → Addr) (n : Nat) (r : Rg) (f : Fm) (w : World) (hg : Gl a n w) :
    Calls Tryd.prog 8 #[rgv r, fv f] w fun e w' => e = .returned (.bool (rgOk r && fmOk r f)) ∧ Below w.heap.size w w' := by
  cases h : nbE r f with
  | none => rw [(nbE_ok h).1, (nbE_ok h).2]; exact May_yes r f w h
  | some i =>
    have hb : (rgOk r && fmOk r f) = false := by
      cases h1 : rgOk r with
      | false => rfl
      | true =>
        cases h2 : fmOk r f with
        | false => rfl
        | true => unfold nbE at h; rw [h1, h2] at h; simp at h
    rw [hb]
    exact May_no a n r f w hg h
set_option maxHeartbeats 6400000 in
set_option maxRecDepth 100000 in
theorem Do_no (a : Nat → Addr) (n : Nat) (r : Rg) (f : Fm) (c : Cm) (w : World) (hg : Gl a n w) {i : Nat} (h : nbE r f = some i) :
    Calls Tryd.prog 9 #[rgv r, fv f, cmv c] w fun e w' => e = .returned (.tuple #[zfv, .int .i64 (numE (some i))]) ∧ Below w.heap.size w w' := by
  obtain ⟨w0, hw0⟩ : ∃ x, x = (((w.alloc (rgo r)).alloc (fo f)).alloc (cmo c)).alloc zfo := ⟨_, rfl⟩
  have HB0 : Hid (Below w.heap.size w w0) := by show Below _ _ _; rw [hw0]; exact below_on (three_new _ _ _ _) (one_new _ _)
  have KZ0 : Hid (Bk (w.heap.size + 1 + 1 + 1) zfc w0) := by show Bk _ _ _; rw [hw0]; exact Bk.new (((w.alloc (rgo r)).alloc (fo f)).alloc (cmo c)) zfc 29 (w.heap.size + 1 + 1 + 1) (by simp)
  have KC0 : Hid (Bk (w.heap.size + 1 + 1) (cmc c) w0) := by show Bk _ _ _; rw [hw0]; exact (Bk.new ((w.alloc (rgo r)).alloc (fo f)) (cmc c) 31 (w.heap.size + 1 + 1) (by simp)).later (one_new _ _)
  have HG0 : Hid (Gl a n w0) := hg.later HB0.out
  obtain ⟨Z, hZ⟩ : ∃ b, b = w.heap.size + 1 + 1 + 1 := ⟨_, rfl⟩
  obtain ⟨C, hC⟩ : ∃ b, b = w.heap.size + 1 + 1 := ⟨_, rfl⟩
  rw [← hZ] at KZ0
  rw [← hC] at KC0
  have hZw : w.heap.size ≤ Z := by omega
  have HN : Hid (∀ W, Gl a n W → Calls Tryd.prog 19 #[rgv r, fv f] W fun e w' => e = .returned (.tuple #[zbv, .iface 109 (.pointer (some (a i)))]) ∧ Below W.heap.size W w') := fun W hW => newBoard_no a n r f W hW h
  have HE : Hid (∀ W, Gl a n W → Calls Tryd.prog 20 #[.iface 109 (.pointer (some (a i)))] W fun e w' => e = .returned (.int .i64 (numE (some i))) ∧ w' = W) := fun W hW => number_any a n (some i) W hW fun j hj => by injection hj with hj; have := nbE_lt h; omega
  clear h hg
  go_enter Tryd.func9, Tryd.ntmps9
  go_wp2_with fail
  simp only [show (((w.alloc (rgo r)).alloc (fo f)).alloc (.cells #[.int .i64 c.k, .int .i64 c.x, .int .i64 c.y, .int .i64 c.z, .int .i64 c.v] 31)).alloc zfo = w0 from hw0.symm, ← hZ]
  simp only [← hC]
  clear hw0 hZ hC
  refine (HN.out _ HG0.out).mono ?_
  rintro e w1 ⟨rfl, hb1⟩
  have HB1 : Hid (Below w.heap.size w w1) := below_on HB0.out hb1
  have HG1 : Hid (Gl a n (w1.alloc zbo)) := (HG0.out.later hb1).later (one_new _ _)
  have KZ1 : Hid (Bk Z zfc (w1.alloc zbo)) := (KZ0.out.later hb1).later (one_new _ _)
  have HB2 : Hid (Below w.heap.size w (w1.alloc zbo)) := below_on HB1.out (one_new _ _)
  clear hb1 KC0 KZ0
  go_wp2_with (refine wpList_store_new rfl 52 _ _ rfl w1 w1.heap.size _ _ rfl rfl rfl rfl info52 rfl (by kernel_rfl) ?_)
  refine Calls.mono (HE.out _ HG1.out) ?_
  rintro e w2 ⟨rfl, rfl⟩
  go_wp2_with (refine wpList_store_mid rfl 29 _ _ rfl Z 0 zfc.toArray rfl rfl (KZ1.out.there (Nat.le_refl _)) info29 (by kernel_rfl) ?_)
  have KZ2 : Hid (Bk Z zfc ((w1.alloc zbo).setCells Z 0 zfc)) := KZ1.out.setAll _ rfl
  have HB3 : Hid (Below w.heap.size w ((w1.alloc zbo).setCells Z 0 zfc)) := HB2.out.trans (low_setCells hZw _ _ _)
  exact bodyPost_ret (v := .tuple #[zfv, .int .i64 (numE (some i))]) (results_ct Tryd.results9 _ _ _ rfl rfl (run_loadVar_mid (P := Tryd.prog) _ Z 0 29 zfc _ KZ2.out.range Tryd.underlying29 rfl info29)) rfl ⟨rfl, HB3.out⟩
set_option maxHeartbeats 6400000 in
set_option maxRecDepth 100000 in
theorem Do_c (a : Nat → Addr) (n : Nat) (r : Rg) (f : Fm) (c : Cm) (w : World) (hg : Gl a n w) (h : nbE r f = none) (hd : doN r f c ≠ 0) :
    Calls Tryd.prog 9 #[rgv r, fv f, cmv c] w fun e w' => e = .returned (.tuple #[zfv, .int .i64 (doN r f c)]) ∧ Below w.heap.size w w' := by
  obtain ⟨w0, hw0⟩ : ∃ x, x = (((w.alloc (rgo r)).alloc (fo f)).alloc (cmo c)).alloc zfo := ⟨_, rfl⟩
  have HB0 : Hid (Below w.heap.size w w0) := by show Below _ _ _; rw [hw0]; exact below_on (three_new _ _ _ _) (one_new _ _)
  have KZ0 : Hid (Bk (w.heap.size + 1 + 1 + 1) zfc w0) := by show Bk _ _ _; rw [hw0]; exact Bk.new (((w.alloc (rgo r)).alloc (fo f)).alloc (cmo c)) zfc 29 (w.heap.size + 1 + 1 + 1) (by simp)
  have KC0 : Hid (Bk (w.heap.size + 1 + 1) (cmc c) w0) := by show Bk _ _ _; rw [hw0]; exact (Bk.new ((w.alloc (rgo r)).alloc (fo f)) (cmc c) 31 (w.heap.size + 1 + 1) (by simp)).later (one_new _ _)
  have HG0 : Hid (Gl a n w0) := hg.later HB0.out
  obtain ⟨Z, hZ⟩ : ∃ b, b = w.heap.size + 1 + 1 + 1 := ⟨_, rfl⟩
  obtain ⟨C, hC⟩ : ∃ b, b = w.heap.size + 1 + 1 := ⟨_, rfl⟩
  rw [← hZ] at KZ0
  rw [← hC] at KC0
  have hZw : w.heap.size ≤ Z := by omega
  have hn0 : n ≤ w.heap.size := hg.size
  have HN : Hid (∀ W, Calls Tryd.prog 19 #[rgv r, fv f] W fun e w' => ∃ M, e = .returned (.tuple #[bdv r f M, .nilIface]) ∧ W.heap.size ≤ M ∧ TM r.rp M w' ∧ Below W.heap.size W w') := fun W => newBoard_c r f W (nbE_ok h).1 (nbE_ok h).2
  have HD : Hid (∀ B M W, Bd B M r f W → Gl a n W → n ≤ B → n ≤ M → Calls Tryd.prog 21 #[ptr B, cmv c] W fun e w' => e = .returned (.int .i64 (doN r f c)) ∧ Bd B M r (doF r f c) w' ∧ Kpt (BM B M) W w') := fun B M W h1 h2 h3 h4 => do_any a n B M r f c W h1 h2 h3 h4 (rgOk_iff.1 (nbE_ok h).1) (fmOk_iff.1 (nbE_ok h).2)
  obtain ⟨x, hx⟩ : ∃ x, x = doN r f c := ⟨_, rfl⟩
  rw [← hx] at HD hd
  rw [← hx]
  clear hx
  clear h hg
  go_enter Tryd.func9, Tryd.ntmps9
  go_wp2_with fail
  simp only [show (((w.alloc (rgo r)).alloc (fo f)).alloc (.cells #[.int .i64 c.k, .int .i64 c.x, .int .i64 c.y, .int .i64 c.z, .int .i64 c.v] 31)).alloc zfo = w0 from hw0.symm, ← hZ]
  simp only [← hC]
  clear hw0 hZ hC
  refine (HN.out _).mono ?_
  rintro e w1 ⟨M, rfl, hM, ht, hb1⟩
  have HB1 : Hid (Below w.heap.size w w1) := below_on HB0.out hb1
  have KZ1 : Hid (Bk Z zfc w1) := KZ0.out.later hb1
  have KC1 : Hid (Bk C (cmc c) w1) := KC0.out.later hb1
  have hM2 : M < w1.heap.size := ht.lt
  have hMw : w.heap.size ≤ M := Nat.le_trans HB0.out.size hM
  obtain ⟨w2, hw2⟩ : ∃ y, y = w1.alloc (bdo r f M) := ⟨_, rfl⟩
  have HD2 : Hid (Bd w1.heap.size M r f w2) := by show Bd _ _ _ _ _; rw [hw2]; exact ⟨Bk.new w1 (bdc r f M) 52 w1.heap.size rfl, ht.later (one_new _ _), by omega⟩
  have HB2 : Hid (Below w.heap.size w w2) := by show Below _ _ _; rw [hw2]; exact below_on HB1.out (one_new _ _)
  have HG2 : Hid (Gl a n w2) := by show Gl _ _ _; rw [hw2]; exact (HG0.out.later hb1).later (one_new _ _)
  have KZ2 : Hid (Bk Z zfc w2) := by show Bk _ _ _; rw [hw2]; exact KZ1.out.later (one_new _ _)
  have hZ1 : Z < w1.heap.size := KZ1.out.1
  have hMZ : M ≠ Z := by have := KZ0.out.1; omega
  obtain ⟨B, hB⟩ : ∃ b, b = w1.heap.size := ⟨_, rfl⟩
  rw [← hB] at HD2
  have HX : Hid (n ≤ B ∧ n ≤ M ∧ Z ≠ B ∧ Z ≠ M ∧ w.heap.size ≤ B) := by have := HB1.out.size; show _ ∧ _; omega
  have c0 := KC1.out.c 0 rfl
  have c1 := KC1.out.c 1 rfl
  have c2 := KC1.out.c 2 rfl
  have c3 := KC1.out.c 3 rfl
  have c4 := KC1.out.c 4 rfl
  have hCw : C < w1.heap.size := KC1.out.1
  clear hb1 ht hM
  go_wp2_with (refine wpList_store_new rfl 52 _ _ rfl w1 w1.heap.size _ _ rfl rfl rfl rfl info52 rfl (by kernel_rfl) ?_)
  simp only [show w1.alloc (.cells (bdc r f M).toArray 52) = w2 from hw2.symm, ← hB]
  clear hw2 hB hCw c0 c1 c2 c3 c4 hM2 hZ1 hMZ
  refine Calls.mono (HD.out B M _ HD2.out HG2.out HX.out.1 HX.out.2.1) ?_
  rintro e w3 ⟨rfl, hd3, hk3⟩
  have HB3 : Hid (Below w.heap.size w w3) := HB2.out.trans (hk3.below HB2.out.size fun k hk => by rcases hk with e | e <;> (have := HX.out; omega))
  have KZ3 : Hid (Bk Z zfc w3) := bk_kpt KZ2.out hk3 fun e => by rcases e with e | e <;> (have := HX.out; omega)
  clear hd3 hk3
  go_wp2_with (refine wpList_store_mid rfl 29 _ _ rfl Z 0 zfc.toArray rfl rfl (KZ3.out.there (Nat.le_refl _)) info29 (by kernel_rfl) ?_)
  have KZ4 : Hid (Bk Z zfc (w3.setCells Z 0 zfc)) := KZ3.out.setAll _ rfl
  have HB4 : Hid (Below w.heap.size w (w3.setCells Z 0 zfc)) := HB3.out.trans (low_setCells hZw _ _ _)
  exact bodyPost_ret (v := .tuple #[zfv, .int .i64 x]) (results_ct Tryd.results9 _ _ _ rfl rfl (run_loadVar_mid (P := Tryd.prog) _ Z 0 29 zfc _ KZ4.out.range Tryd.underlying29 rfl info29)) rfl ⟨rfl, HB4.out⟩
set_option maxHeartbeats 6400000 in
set_option maxRecDepth 100000 in
theorem Do_d (a : Nat → Addr) (n : Nat) (r : Rg) (f : Fm) (c : Cm) (w : World) (hg : Gl a n w) (h : nbE r f = none) (hd : doN r f c = 0) :
    Calls Tryd.prog 9 #[rgv r, fv f, cmv c] w fun e w' => e = .returned (.tuple #[fv (obF r f c), .int .i64 (doN r f c)]) ∧ Below w.heap.size w w' := by
  obtain ⟨w0, hw0⟩ : ∃ x, x = (((w.alloc (rgo r)).alloc (fo f)).alloc (cmo c)).alloc zfo := ⟨_, rfl⟩
  have HB0 : Hid (Below w.heap.size w w0) := by show Below _ _ _; rw [hw0]; exact below_on (three_new _ _ _ _) (one_new _ _)
  have KZ0 : Hid (Bk (w.heap.size + 1 + 1 + 1) zfc w0) := by show Bk _ _ _; rw [hw0]; exact Bk.new (((w.alloc (rgo r)).alloc (fo f)).alloc (cmo c)) zfc 29 (w.heap.size + 1 + 1 + 1) (by simp)
  have KC0 : Hid (Bk (w.heap.size + 1 + 1) (cmc c) w0) := by show Bk _ _ _; rw [hw0]; exact (Bk.new ((w.alloc (rgo r)).alloc (fo f)) (cmc c) 31 (w.heap.size + 1 + 1) (by simp)).later (one_new _ _)
  have HG0 : Hid (Gl a n w0) := hg.later HB0.out
  obtain ⟨Z, hZ⟩ : ∃ b, b = w.heap.size + 1 + 1 + 1 := ⟨_, rfl⟩
  obtain ⟨C, hC⟩ : ∃ b, b = w.heap.size + 1 + 1 := ⟨_, rfl⟩
  rw [← hZ] at KZ0
  rw [← hC] at KC0
  have hZw : w.heap.size ≤ Z := by omega
  have hn0 : n ≤ w.heap.size := hg.size
  have HN : Hid (∀ W, Calls Tryd.prog 19 #[rgv r, fv f] W fun e w' => ∃ M, e = .returned (.tuple #[bdv r f M, .nilIface]) ∧ W.heap.size ≤ M ∧ TM r.rp M w' ∧ Below W.heap.size W w') := fun W => newBoard_c r f W (nbE_ok h).1 (nbE_ok h).2
  have HD : Hid (∀ B M W, Bd B M r f W → Gl a n W → n ≤ B → n ≤ M → Calls Tryd.prog 21 #[ptr B, cmv c] W fun e w' => e = .returned (.int .i64 (doN r f c)) ∧ Bd B M r (doF r f c) w' ∧ Kpt (BM B M) W w') := fun B M W h1 h2 h3 h4 => do_any a n B M r f c W h1 h2 h3 h4 (rgOk_iff.1 (nbE_ok h).1) (fmOk_iff.1 (nbE_ok h).2)
  obtain ⟨x, hx⟩ : ∃ x, x = doN r f c := ⟨_, rfl⟩
  obtain ⟨g, hgf⟩ : ∃ g, g = obF r f c := ⟨_, rfl⟩
  have HF : Hid (doF r f c = g) := by show _ = _; unfold doF; rw [if_pos hd, hgf]
  rw [hd] at HD
  rw [hd, ← hgf]
  clear hx hgf
  clear h hg hd
  go_enter Tryd.func9, Tryd.ntmps9
  go_wp2_with fail
  simp only [show (((w.alloc (rgo r)).alloc (fo f)).alloc (.cells #[.int .i64 c.k, .int .i64 c.x, .int .i64 c.y, .int .i64 c.z, .int .i64 c.v] 31)).alloc zfo = w0 from hw0.symm, ← hZ]
  simp only [← hC]
  clear hw0 hZ hC
  refine (HN.out _).mono ?_
  rintro e w1 ⟨M, rfl, hM, ht, hb1⟩
  have HB1 : Hid (Below w.heap.size w w1) := below_on HB0.out hb1
  have KZ1 : Hid (Bk Z zfc w1) := KZ0.out.later hb1
  have KC1 : Hid (Bk C (cmc c) w1) := KC0.out.later hb1
  have hM2 : M < w1.heap.size := ht.lt
  have hMw : w.heap.size ≤ M := Nat.le_trans HB0.out.size hM
  obtain ⟨w2, hw2⟩ : ∃ y, y = w1.alloc (bdo r f M) := ⟨_, rfl⟩
  have HD2 : Hid (Bd w1.heap.size M r f w2) := by show Bd _ _ _ _ _; rw [hw2]; exact ⟨Bk.new w1 (bdc r f M) 52 w1.heap.size rfl, ht.later (one_new _ _), by omega⟩
  have HB2 : Hid (Below w.heap.size w w2) := by show Below _ _ _; rw [hw2]; exact below_on HB1.out (one_new _ _)
  have HG2 : Hid (Gl a n w2) := by show Gl _ _ _; rw [hw2]; exact (HG0.out.later hb1).later (one_new _ _)
  have KZ2 : Hid (Bk Z zfc w2) := by show Bk _ _ _; rw [hw2]; exact KZ1.out.later (one_new _ _)
  have hZ1 : Z < w1.heap.size := KZ1.out.1
  have hMZ : M ≠ Z := by have := KZ0.out.1; omega
  obtain ⟨B, hB⟩ : ∃ b, b = w1.heap.size := ⟨_, rfl⟩
  rw [← hB] at HD2
  have HX : Hid (n ≤ B ∧ n ≤ M ∧ Z ≠ B ∧ Z ≠ M ∧ w.heap.size ≤ B) := by have := HB1.out.size; show _ ∧ _; omega
  have c0 := KC1.out.c 0 rfl
  have c1 := KC1.out.c 1 rfl
  have c2 := KC1.out.c 2 rfl
  have c3 := KC1.out.c 3 rfl
  have c4 := KC1.out.c 4 rfl
  have hCw : C < w1.heap.size := KC1.out.1
  clear hb1 ht hM
  go_wp2_with (refine wpList_store_new rfl 52 _ _ rfl w1 w1.heap.size _ _ rfl rfl rfl rfl info52 rfl (by kernel_rfl) ?_)
  simp only [show w1.alloc (.cells (bdc r f M).toArray 52) = w2 from hw2.symm, ← hB]
  clear hw2 hB hCw c0 c1 c2 c3 c4 hM2 hZ1 hMZ
  refine Calls.mono (HD.out B M _ HD2.out HG2.out HX.out.1 HX.out.2.1) ?_
  rintro e w3 ⟨rfl, hd3, hk3⟩
  have HB3 : Hid (Below w.heap.size w w3) := HB2.out.trans (hk3.below HB2.out.size fun k hk => by rcases hk with e | e <;> (have := HX.out; omega))
  have KZ3 : Hid (Bk Z zfc w3) := bk_kpt KZ2.out hk3 fun e => by rcases e with e | e <;> (have := HX.out; omega)
  rw [HF.out] at hd3
  have HD3 : Hid (Bd B M r g w3) := hd3
  clear hd3 hk3 HF
  have d12 := HD3.out.bk.c 12 rfl
  have d13 := HD3.out.bk.c 13 rfl
  have d14 := HD3.out.bk.c 14 rfl
  have d15 := HD3.out.bk.c 15 rfl
  have d16 := HD3.out.bk.c 16 rfl
  have d17 := HD3.out.bk.c 17 rfl
  have d18 := HD3.out.bk.c 18 rfl
  have d19 := HD3.out.bk.c 19 rfl
  have d20 := HD3.out.bk.c 20 rfl
  go_wp2_with (refine wpList_store_mid rfl 29 _ _ rfl Z 0 (fc g).toArray rfl rfl (KZ3.out.there (Nat.le_refl _)) info29 (by kernel_rfl) ?_)
  have KZ4 : Hid (Bk Z (fc g) (w3.setCells Z 0 (fc g))) := KZ3.out.setAll _ rfl
  have HB4 : Hid (Below w.heap.size w (w3.setCells Z 0 (fc g))) := HB3.out.trans (low_setCells hZw _ _ _)
  exact bodyPost_ret (v := .tuple #[fv g, .int .i64 0]) (results_ct Tryd.results9 _ _ _ rfl rfl (load29 KZ4.out)) rfl ⟨rfl, HB4.out⟩
theorem Do_any (a : Nat → Addr) (n : Nat) (r : Rg) (f : Fm) (c : Cm) (w : World) (hg : Gl a n w) :
    Calls Tryd.prog 9 #[rgv r, fv f, cmv c] w fun e w' => e = .returned (.tuple #[fv (DoV r f c), .int .i64 (DoE r f c)]) ∧ Below w.heap.size w w' := by
  cases h : nbE r f with
  | some i =>
    have e1 : DoE r f c = numE (some i) := by
      unfold nbE at h
      unfold DoE
      split at h
      · rename_i hr; cases h; rw [if_pos hr]; rfl
      · rename_i hr
        split at h
        · rename_i hf; cases h; rw [if_neg hr, if_pos hf]; rfl
        · cases h
    have e2 : DoE r f c ≠ 0 := by rw [e1]; rcases nbE_lt h with e | e <;> (subst e; decide)
    have e3 : DoV r f c = f0 := by unfold DoV; rw [if_neg e2]
    rw [e1, e3]
    exact Do_no a n r f c w hg h
  | none =>
    have e1 : DoE r f c = doN r f c := by unfold DoE; rw [(nbE_ok h).1, (nbE_ok h).2]; simp
    by_cases hd : doN r f c = 0
    · have e3 : DoV r f c = obF r f c := by unfold DoV; rw [e1, if_pos hd]
      rw [e1, e3]
      exact Do_d a n r f c w hg h hd
    · have e3 : DoV r f c = f0 := by unfold DoV; rw [e1, if_neg hd]
      rw [e1, e3]
      exact Do_c a n r f c w hg h hd
end Go.Proofs.YtgahlhfgpkklaaaDoor
