/- tip.follow walked. -/
import Derived.Test.YtgbnjgenopdmfaaLD
namespace Go.Proofs.Ytgbnjgenopdmfaa
open Go.RowKit

set_option linter.unusedVariables false in
def foV (T A M i n cap : Nat) (ao : Option Addr) (a : Acn) (d : Nat) (v : Value) (w : World) : Prop :=
  match d with
  | 38 => v = .pointer (some ⟨T, 0, none⟩)
  | 39 => v = .pointer (some ⟨T, 0, none⟩)
  | 40 => v = .pointer (some ⟨T, 0, none⟩)
  | 41 => v = .pointer (some ⟨T, 1, none⟩)
  | 42 => v = .slice ao n cap
  | 43 => v = .int .i64 i
  | 44 => v = .pointer (some ⟨A, 5, none⟩)
  | 45 => v = .int .i64 a.vol
  | 46 => v = .agg #[.int .i64 i, .int .i64 0, .int .i64 a.vol]
  | 47 => ∃ b, v = .slice (some ⟨b, 0, none⟩) 1 1 ∧ M ≤ b ∧ Bk b [.int .i64 i, .int .i64 0, .int .i64 a.vol] w
  | _ => True
set_option linter.unusedVariables false in
theorem foV_mono (T A M i n cap : Nat) (ao : Option Addr) (a : Acn) (d : Nat) (v : Value) (w w' : World) (h : foV T A M i n cap ao a d v w) (hb : Below w.heap.size w w') : foV T A M i n cap ao a d v w' := by
  unfold foV at h ⊢
  split <;> simp only [] at h <;> first | exact h | (obtain ⟨b, h1, h2, h3⟩ := h; exact ⟨b, h1, h2, h3.later hb⟩)

/-- Append to what is held, at the operation. -/
theorem wpList_append_hd (w : World) {ops : Array Oper} {rest : List Oper} {o : Oper} {ac : Act} {Q : Exit → Act → World → Prop} (hgd : o.guard = none) (s x : Operand)
    (ho : o.op = .call { callee := .builtin .append, args := #[s, x], argTypes := #[74, 74] }) (B T : Nat) (v : Value) (hs : List (Nat × Int)) (hs1 : ac.eval s = v) (h : Hd w B T v hs)
    (b : Nat) (p : Nat × Int) (hx : ac.eval x = .slice (some ⟨b, 0, none⟩) 1 1) (hc : ∀ j u, (hcl p)[j]? = some u → w.cell? ⟨b, j, none⟩ = some u) (hlen : hs.length ≤ 1000000) (hB : B ≤ w.heap.size) (hT : T < w.heap.size)
    (hK : ∀ ao cap w', Hd w' B T (.slice ao (hs.length + 1) cap) (hs ++ [p]) → Kpt (fun k => B ≤ k ∧ k ≠ T) w w' → wpList Try.prog ops Q rest (ac.put o.dst (.slice ao (hs.length + 1) cap)) w') : wpList Try.prog ops Q (o :: rest) ac w := by
  obtain ⟨ao, cap, w', hr, h2, h3⟩ := run_append_hd w B T v hs h p b hc hlen hB hT o.type
  refine wpList_plain hgd fun K hK' => ?_
  unfold Oper.wp execOp
  simp only [ho, resolve, invoke, builtin, Sem.run_bind, Sem.run_pure, Result.andThen_ok, List.map_toArray, List.map_cons, List.map_nil, hs1, hx, hr]
  exact hK' _ _ (hK ao cap w' h2 h3)
theorem fol_tip {i : Nat} {a : Acn} {t : Tp} (h : a.kind = 6) : folR i a t = ([], ⟨true, []⟩) := if_pos h
theorem fol_drop {i : Nat} {a : Acn} {t : Tp} (h : a.kind = 7) : folR i a t = ([], tp0) := by unfold folR; rw [if_neg (by omega), if_pos h]
theorem fol_out {i : Nat} {a : Acn} {t : Tp} (h6 : a.kind ≠ 6) (h7 : a.kind ≠ 7) (h : ¬ (t.on = true ∧ 1 ≤ a.vol ∧ a.vol ≤ 1000000000)) : folR i a t = ([], t) := by unfold folR; rw [if_neg h6, if_neg h7, if_neg h]
theorem fol_draw {i : Nat} {a : Acn} {t : Tp} (h8 : a.kind = 8) (h : t.on = true ∧ 1 ≤ a.vol ∧ a.vol ≤ 1000000000) : folR i a t = ([], ⟨true, t.held ++ [(i, a.vol)]⟩) := by unfold folR; rw [if_neg (by omega), if_neg (by omega), if_pos h, if_pos h8]
theorem fol_put {i : Nat} {a : Acn} {t : Tp} (h9 : a.kind = 9) (h : t.on = true ∧ 1 ≤ a.vol ∧ a.vol ≤ 1000000000) : folR i a t = ((ptR i a.vol t.held).1, ⟨true, (ptR i a.vol t.held).2⟩) := by unfold folR; rw [if_neg (by omega), if_neg (by omega), if_pos h, if_neg (by omega), if_pos h9]
theorem fol_else {i : Nat} {a : Acn} {t : Tp} (h6 : a.kind ≠ 6) (h7 : a.kind ≠ 7) (h8 : a.kind ≠ 8) (h9 : a.kind ≠ 9) : folR i a t = ([], t) := by
  unfold folR
  rw [if_neg h6, if_neg h7]
  split <;> rfl
/-- What an action puts, and what the tip is then. -/
structure FolP (w w' : World) (B T : Nat) (r : List Shr × Tp) (gv : Value) : Prop where
  own : OwnR encSh w' w.heap.size gv r.1
  tip : ∃ hv, Bk T [.bool r.2.on, hv] w' ∧ Hd w' B T hv r.2.held
  kp : Kpt (fun k => B ≤ k) w w'
set_option linter.unusedVariables false in
set_option maxHeartbeats 3200000 in
set_option maxRecDepth 100000 in
theorem fo_tip (B T i : Nat) (t : Tp) (hv : Value) (a : Acn) (w : World) (hT : Bk T [.bool t.on, hv] w) (hBT : B ≤ T) (hBw : B ≤ w.heap.size) (hH : Hd w B T hv t.held) (hok : HOk i t.held) (hlen : t.held.length ≤ 100000) (h : a.kind = 6) :
    Calls Try.prog 24 #[ptr T, .int .i64 i, av a] w fun e w' => ∃ gv, e = .returned gv ∧ FolP w w' B T (folR i a t) gv := by
  rw [fol_tip h]
  have HT : Hid (Bk T [.bool t.on, hv] w) := hT
  have HH : Hid (Hd w B T hv t.held) := hH
  have c0 := hT.c 0 rfl
  have f0 := hT.f 0 rfl
  have c1 := hT.c 1 rfl
  have f1 := hT.f 1 rfl
  have hlt := hT.1
  have hneA : T ≠ w.heap.size := by omega
  obtain ⟨aoV, capV, rfl⟩ := hH.form
  clear hT hH
  have h6 : (a.kind == 6) = true := by simp [h]
  clear h
  go_enter Try.func24, Try.ntmps24
  go_wp2
  go_ret
  have kp : Kpt (fun k => k = T) w (((w.setCell ⟨T, 0, none⟩ (.bool true)).setCell ⟨T, 1, none⟩ (.slice none 0 0)).alloc (.cells (avs a) 45)) :=
    ((Kpt.setCell (M := fun k => k = T) w T 0 _ rfl).trans (Kpt.setCell (M := fun k => k = T) _ T 1 _ rfl)).trans (Kpt.of_below ((Below.refl _ _).alloc (Nat.le_refl _) _))
  exact ⟨_, rfl, ⟨OwnR.nil _ _ _, ⟨_, ((HT.out.put 0 (.bool true)).put 1 (.slice none 0 0)).later ((Below.refl _ _).alloc (Nat.le_refl _) _), Hd.nil _ _ _⟩, kp.mono fun k e => by rw [e]; exact hBT⟩⟩
set_option linter.unusedVariables false in
set_option maxHeartbeats 3200000 in
set_option maxRecDepth 100000 in
theorem fo_drop (B T i : Nat) (t : Tp) (hv : Value) (a : Acn) (w : World) (hT : Bk T [.bool t.on, hv] w) (hBT : B ≤ T) (hBw : B ≤ w.heap.size) (hH : Hd w B T hv t.held) (hok : HOk i t.held) (hlen : t.held.length ≤ 100000) (h : a.kind = 7) :
    Calls Try.prog 24 #[ptr T, .int .i64 i, av a] w fun e w' => ∃ gv, e = .returned gv ∧ FolP w w' B T (folR i a t) gv := by
  rw [fol_drop h]
  have HT : Hid (Bk T [.bool t.on, hv] w) := hT
  have HH : Hid (Hd w B T hv t.held) := hH
  have c0 := hT.c 0 rfl
  have f0 := hT.f 0 rfl
  have c1 := hT.c 1 rfl
  have f1 := hT.f 1 rfl
  have hlt := hT.1
  have hneA : T ≠ w.heap.size := by omega
  obtain ⟨aoV, capV, rfl⟩ := hH.form
  clear hT hH
  have h6 : (a.kind == 6) = false := by simp [h]
  have h7 : (a.kind == 7) = true := by simp [h]
  clear h
  go_enter Try.func24, Try.ntmps24
  go_wp2
  go_ret
  have kp : Kpt (fun k => k = T) w (((w.setCell ⟨T, 0, none⟩ (.bool false)).setCell ⟨T, 1, none⟩ (.slice none 0 0)).alloc (.cells (avs a) 45)) :=
    ((Kpt.setCell (M := fun k => k = T) w T 0 _ rfl).trans (Kpt.setCell (M := fun k => k = T) _ T 1 _ rfl)).trans (Kpt.of_below ((Below.refl _ _).alloc (Nat.le_refl _) _))
  exact ⟨_, rfl, ⟨OwnR.nil _ _ _, ⟨_, ((HT.out.put 0 (.bool false)).put 1 (.slice none 0 0)).later ((Below.refl _ _).alloc (Nat.le_refl _) _), Hd.nil _ _ _⟩, kp.mono fun k e => by rw [e]; exact hBT⟩⟩
set_option linter.unusedVariables false in
set_option maxHeartbeats 3200000 in
set_option maxRecDepth 100000 in
theorem fo_out (B T i : Nat) (t : Tp) (hv : Value) (a : Acn) (w : World) (hT : Bk T [.bool t.on, hv] w) (hBT : B ≤ T) (hBw : B ≤ w.heap.size) (hH : Hd w B T hv t.held) (hok : HOk i t.held) (hlen : t.held.length ≤ 100000) (k6 : a.kind ≠ 6) (k7 : a.kind ≠ 7) (h : ¬ (t.on = true ∧ 1 ≤ a.vol ∧ a.vol ≤ 1000000000)) :
    Calls Try.prog 24 #[ptr T, .int .i64 i, av a] w fun e w' => ∃ gv, e = .returned gv ∧ FolP w w' B T (folR i a t) gv := by
  rw [fol_out k6 k7 h]
  have HT : Hid (Bk T [.bool t.on, hv] w) := hT
  have HH : Hid (Hd w B T hv t.held) := hH
  have c0 := hT.c 0 rfl
  have f0 := hT.f 0 rfl
  have c1 := hT.c 1 rfl
  have f1 := hT.f 1 rfl
  have hlt := hT.1
  have hneA : T ≠ w.heap.size := by omega
  obtain ⟨aoV, capV, rfl⟩ := hH.form
  clear hT hH
  have h6 : (a.kind == 6) = false := by simp [k6]
  have h7 : (a.kind == 7) = false := by simp [k7]
  have RES : FolP w (w.alloc (.cells (avs a) 45)) B T ([], t) (.slice none 0 0) := ⟨OwnR.nil _ _ _, ⟨_, HT.out.later ((Below.refl _ _).alloc (Nat.le_refl _) _), HH.out.later ((Below.refl _ _).alloc (Nat.le_refl _) _)⟩, Kpt.of_below ((Below.refl _ _).alloc (Nat.le_refl _) _)⟩
  have HRS := (show Hid (FolP w (w.alloc (.cells (avs a) 45)) B T ([], t) (.slice none 0 0)) from RES)
  clear RES
  by_cases hon : t.on = true
  · rw [hon] at c0
    by_cases hv1 : a.vol < 1
    · go_enter Try.func24, Try.ntmps24
      go_wp2
      go_ret
      exact ⟨_, rfl, HRS.out⟩
    · have hv2 : 1000000000 < a.vol := by
        refine Classical.byContradiction fun hc => h ⟨hon, by omega, by omega⟩
      go_enter Try.func24, Try.ntmps24
      go_wp2
      go_ret
      exact ⟨_, rfl, HRS.out⟩
  · have hon2 : t.on = false := by simpa using hon
    rw [hon2] at c0
    go_enter Try.func24, Try.ntmps24
    go_wp2
    go_ret
    exact ⟨_, rfl, HRS.out⟩
set_option linter.unusedVariables false in
set_option maxHeartbeats 3200000 in
set_option maxRecDepth 100000 in
theorem fo_else (B T i : Nat) (t : Tp) (hv : Value) (a : Acn) (w : World) (hT : Bk T [.bool t.on, hv] w) (hBT : B ≤ T) (hBw : B ≤ w.heap.size) (hH : Hd w B T hv t.held) (hok : HOk i t.held) (hlen : t.held.length ≤ 100000) (k6 : a.kind ≠ 6) (k7 : a.kind ≠ 7) (k8 : a.kind ≠ 8) (k9 : a.kind ≠ 9) (h : t.on = true ∧ 1 ≤ a.vol ∧ a.vol ≤ 1000000000) :
    Calls Try.prog 24 #[ptr T, .int .i64 i, av a] w fun e w' => ∃ gv, e = .returned gv ∧ FolP w w' B T (folR i a t) gv := by
  rw [fol_else k6 k7 k8 k9]
  have HT : Hid (Bk T [.bool t.on, hv] w) := hT
  have HH : Hid (Hd w B T hv t.held) := hH
  have c0 := hT.c 0 rfl
  have f0 := hT.f 0 rfl
  have c1 := hT.c 1 rfl
  have f1 := hT.f 1 rfl
  have hlt := hT.1
  have hneA : T ≠ w.heap.size := by omega
  obtain ⟨aoV, capV, rfl⟩ := hH.form
  clear hT hH
  have h6 : (a.kind == 6) = false := by simp; assumption
  have h7 : (a.kind == 7) = false := by simp; assumption
  obtain ⟨hon, hv1, hv2⟩ := h
  have hon' := hon
  rw [hon] at c0
  have h8 : (a.kind == 8) = false := by simp; assumption
  have h9 : (a.kind == 9) = false := by simp; assumption
  have RES : FolP w (w.alloc (.cells (avs a) 45)) B T ([], t) (.slice none 0 0) := ⟨OwnR.nil _ _ _, ⟨_, HT.out.later ((Below.refl _ _).alloc (Nat.le_refl _) _), HH.out.later ((Below.refl _ _).alloc (Nat.le_refl _) _)⟩, Kpt.of_below ((Below.refl _ _).alloc (Nat.le_refl _) _)⟩
  have HRS := (show Hid (FolP w (w.alloc (.cells (avs a) 45)) B T ([], t) (.slice none 0 0)) from RES)
  clear RES
  go_enter Try.func24, Try.ntmps24
  go_wp2
  go_ret
  exact ⟨_, rfl, HRS.out⟩
set_option linter.unusedVariables false in
set_option maxHeartbeats 3200000 in
set_option maxRecDepth 100000 in
theorem fo_put (B T i : Nat) (t : Tp) (hv : Value) (a : Acn) (w : World) (hT : Bk T [.bool t.on, hv] w) (hBT : B ≤ T) (hBw : B ≤ w.heap.size) (hH : Hd w B T hv t.held) (hok : HOk i t.held) (hlen : t.held.length ≤ 100000) (k9 : a.kind = 9) (h : t.on = true ∧ 1 ≤ a.vol ∧ a.vol ≤ 1000000000) :
    Calls Try.prog 24 #[ptr T, .int .i64 i, av a] w fun e w' => ∃ gv, e = .returned gv ∧ FolP w w' B T (folR i a t) gv := by
  rw [fol_put k9 h]
  have HT : Hid (Bk T [.bool t.on, hv] w) := hT
  have HH : Hid (Hd w B T hv t.held) := hH
  have c0 := hT.c 0 rfl
  have f0 := hT.f 0 rfl
  have c1 := hT.c 1 rfl
  have f1 := hT.f 1 rfl
  have hlt := hT.1
  have hneA : T ≠ w.heap.size := by omega
  obtain ⟨aoV, capV, rfl⟩ := hH.form
  clear hT hH
  have h6 : (a.kind == 6) = false := by simp; omega
  have h7 : (a.kind == 7) = false := by simp; omega
  obtain ⟨hon, hv1, hv2⟩ := h
  have hon' := hon
  rw [hon] at c0
  have h8 : (a.kind == 8) = false := by simp; omega
  have h9 : (a.kind == 9) = true := by simp [k9]
  clear k9
  obtain ⟨w0, hw0⟩ : ∃ w0, w0 = w.alloc (.cells (avs a) 45) := ⟨_, rfl⟩
  have b0 : Below w.heap.size w w0 := by rw [hw0]; exact (Below.refl _ _).alloc (Nat.le_refl _) _
  have HC := (show Hid _ from put_any B T i i a.vol (.slice aoV t.held.length capV) t.held w0 (by have := HT.out.later b0; rwa [hon] at this) hBT (HH.out.later b0) hok hv2 hlen)
  rw [hw0] at HC
  go_enter Try.func24, Try.ntmps24
  go_wp2_with (go_at_call 35; refine Calls.mono HC.out ?_; rintro e w2 ⟨gv, hv2', rfl, o2, t2, d2, k2⟩)
  go_ret
  exact ⟨_, rfl, ⟨o2.base (by simp), ⟨_, t2, d2⟩, (Kpt.of_below ((Below.refl _ _).alloc (Nat.le_refl _) _)).trans k2⟩⟩
set_option linter.unusedVariables false in
set_option maxHeartbeats 3200000 in
set_option maxRecDepth 100000 in
theorem fo_draw (B T i : Nat) (t : Tp) (hv : Value) (a : Acn) (w : World) (hT : Bk T [.bool t.on, hv] w) (hBT : B ≤ T) (hBw : B ≤ w.heap.size) (hH : Hd w B T hv t.held) (hok : HOk i t.held) (hlen : t.held.length ≤ 100000) (k8 : a.kind = 8) (h : t.on = true ∧ 1 ≤ a.vol ∧ a.vol ≤ 1000000000) :
    Calls Try.prog 24 #[ptr T, .int .i64 i, av a] w fun e w' => ∃ gv, e = .returned gv ∧ FolP w w' B T (folR i a t) gv := by
  rw [fol_draw k8 h]
  have HT : Hid (Bk T [.bool t.on, hv] w) := hT
  have HH : Hid (Hd w B T hv t.held) := hH
  have c0 := hT.c 0 rfl
  have f0 := hT.f 0 rfl
  have c1 := hT.c 1 rfl
  have f1 := hT.f 1 rfl
  have hlt := hT.1
  have hneA : T ≠ w.heap.size := by omega
  obtain ⟨ao, cap, rfl⟩ := hH.form
  clear hT hH
  have h6 : (a.kind == 6) = false := by simp; omega
  have h7 : (a.kind == 7) = false := by simp; omega
  obtain ⟨hon, hv1, hv2⟩ := h
  have hon' := hon
  rw [hon] at c0
  have h8 : (a.kind == 8) = true := by simp [k8]
  clear k8
  obtain ⟨w0, hw0⟩ : ∃ w0, w0 = w.alloc (.cells (avs a) 45) := ⟨_, rfl⟩
  have b0 : Below w.heap.size w w0 := by rw [hw0]; exact (Below.refl _ _).alloc (Nat.le_refl _) _
  have KT : Hid (Bk T [.bool true, .slice ao t.held.length cap] w0) := by show Bk _ _ _; have := HT.out.later b0; rwa [hon] at this
  have KA : Hid (Bk w.heap.size (acl a) w0) := by show Bk _ _ _; rw [hw0]; exact Bk.new w (acl a) 45 w.heap.size rfl
  have HD0 : Hid (Hd w0 B T (.slice ao t.held.length cap) t.held) := HH.out.later b0
  have HB0 : Hid (Below w.heap.size w w0) := b0
  have hTw0 : T < w0.heap.size := KT.out.1
  clear b0
  go_enter Try.func24, Try.ntmps24
  go_wp2_with fail
  rw [← hw0]
  clear hw0
  refine region_seqL 10 0 [false, false, false, false, false, false, false, false, false, false, false, false, false, false, false, false, false, false, false, false, false, false, false, false, false, false, false, false, false, false, false, false, false, false, false, false, false, false, true, true, true, true, true, true, true, true, true, true, false, false, false, false, false, false, false, false, false, false]
    [(38, [], none), (39, [], none), (40, [39], none), (41, [40], none), (42, [41], none), (43, [], none), (44, [], none), (45, [44], none), (46, [43, 45], none), (47, [46], none)]
    (foV T w.heap.size w0.heap.size i t.held.length cap ao a) (by kernel_rfl) (by kernel_rfl) (by kernel_rfl) (by kernel_rfl) (by kernel_rfl) (by decide) (by decide) (foV_mono T w.heap.size w0.heap.size i t.held.length cap ao a) ?_ ?_ ?_
  · refine ⟨?_, ?_, ?_, ?_, ?_, ?_, ?_, ?_, ?_, ?_, trivial⟩
    · intro f w1 hb _ K hK
      simp only [over, overL, Nat.reduceAdd]
      go_simp
      exact hK _ _ ⟨_, rfl, by simp only [over, overL, Nat.reduceAdd]; rfl, Below.refl _ _⟩
    · intro f w1 hb _ K hK
      simp only [over, overL, Nat.reduceAdd]
      go_simp
      exact hK _ _ ⟨_, rfl, by simp only [over, overL, Nat.reduceAdd]; rfl, Below.refl _ _⟩
    · intro f w1 hb ⟨h39, _⟩ K hK
      replace h39 : f 39 = _ := h39
      simp only [over, overL, Nat.reduceAdd, h39]
      go_simp
      exact hK _ _ ⟨_, rfl, by simp only [over, overL, Nat.reduceAdd, h39]; rfl, Below.refl _ _⟩
    · intro f w1 hb ⟨h40, _⟩ K hK
      replace h40 : f 40 = _ := h40
      simp only [over, overL, Nat.reduceAdd, h40]
      go_simp
      exact hK _ _ ⟨_, rfl, by simp only [over, overL, Nat.reduceAdd, h40]; rfl, Below.refl _ _⟩
    · intro f w1 hb ⟨h41, _⟩ K hK
      replace h41 : f 41 = _ := h41
      have q1 := (KT.out.later hb).c 1 rfl
      simp only [over, overL, Nat.reduceAdd, h41]
      go_simp
      exact hK _ _ ⟨_, rfl, by simp only [over, overL, Nat.reduceAdd, h41]; rfl, Below.refl _ _⟩
    · intro f w1 hb _ K hK
      simp only [over, overL, Nat.reduceAdd]
      go_simp
      exact hK _ _ ⟨_, rfl, by simp only [over, overL, Nat.reduceAdd]; rfl, Below.refl _ _⟩
    · intro f w1 hb _ K hK
      simp only [over, overL, Nat.reduceAdd]
      go_simp
      exact hK _ _ ⟨_, rfl, by simp only [over, overL, Nat.reduceAdd]; rfl, Below.refl _ _⟩
    · intro f w1 hb ⟨h44, _⟩ K hK
      replace h44 : f 44 = _ := h44
      have q5 := (KA.out.later hb).c 5 rfl
      simp only [over, overL, Nat.reduceAdd, h44]
      go_simp
      exact hK _ _ ⟨_, rfl, by simp only [over, overL, Nat.reduceAdd, h44]; rfl, Below.refl _ _⟩
    · intro f w1 hb ⟨h43, h45, _⟩ K hK
      replace h43 : f 43 = _ := h43
      replace h45 : f 45 = _ := h45
      simp only [over, overL, Nat.reduceAdd, h43, h45]
      go_simp
      exact hK _ _ ⟨_, rfl, by simp only [over, overL, Nat.reduceAdd, h43, h45]; rfl, Below.refl _ _⟩
    · intro f w1 hb ⟨h46, _⟩ K hK
      replace h46 : f 46 = _ := h46
      simp only [over, overL, Nat.reduceAdd, h46]
      go_simp
      exact hK _ _ ⟨_, ⟨w1.heap.size, rfl, hb.size, Bk.new w1 [.int .i64 i, .int .i64 0, .int .i64 a.vol] 54 w1.heap.size rfl⟩, by simp only [over, overL, Nat.reduceAdd, h46]; rfl, (Below.refl _ _).alloc (Nat.le_refl _) _⟩
  · intro f w3 hb3 hv
    have h38 : f 38 = .pointer (some ⟨T, 0, none⟩) := hv.1
    have h42 : f 42 = .slice ao t.held.length cap := hv.2.2.2.2.1
    obtain ⟨b, h47, hbb, K47⟩ := (show ∃ b, f 47 = .slice (some ⟨b, 0, none⟩) 1 1 ∧ w0.heap.size ≤ b ∧ Bk b [.int .i64 i, .int .i64 0, .int .i64 a.vol] w3 from hv.2.2.2.2.2.2.2.2.2.1)
    have hs3 := hb3.size
    have hws := HB0.out.size
    simp only [over, overL, Nat.reduceAdd, h38, h42, h47]
    refine wpList_append_hd w3 rfl (.tmp 42) (.tmp 47) rfl B T (.slice ao t.held.length cap) t.held rfl (HD0.out.later hb3) b (i, a.vol) rfl (fun j u hj => K47.c j hj) (by omega) (by omega) (by omega) ?_
    intro ao4 cap4 w4 hd4 k4
    have KT3 := KT.out.later hb3
    have KT4 := k4.bk KT3 (by omega)
    have q1 := KT4.c 1 rfl
    have qf1 := KT4.f 1 rfl
    go_wp2
    go_ret
    have kp : Kpt (fun k => B ≤ k) w (w4.setCell ⟨T, 1, none⟩ (.slice ao4 (t.held.length + 1) cap4)) :=
      ((Kpt.of_below HB0.out).trans (Kpt.of_below hb3)).trans ((k4.mono fun k e => e.1).trans (Kpt.setCell w4 T 1 _ hBT))
    exact ⟨_, rfl, ⟨OwnR.nil _ _ _, ⟨_, KT4.put 1 _, hd4.kept (by simp [World.setCell]) fun k _ _ hk => Below.heap_setCell _ _ _ _ hk⟩, kp⟩⟩
  · intro f w3 ok ol hok' hol hb3 hv
    cases hok'
    cases hol
    have h42 : f 42 = .slice ao t.held.length cap := hv.2.2.2.2.1 (by decide)
    obtain ⟨b, h47, hbb, K47⟩ := (show ∃ b, f 47 = .slice (some ⟨b, 0, none⟩) 1 1 ∧ w0.heap.size ≤ b ∧ Bk b [.int .i64 i, .int .i64 0, .int .i64 a.vol] w3 from hv.2.2.2.2.2.2.2.2.2.1 (by decide))
    have hs3 := hb3.size
    have hws := HB0.out.size
    simp only [over, overL, Nat.reduceAdd, h42, h47]
    refine wpList_append_hd w3 rfl (.tmp 42) (.tmp 47) rfl B T (.slice ao t.held.length cap) t.held rfl (HD0.out.later hb3) b (i, a.vol) rfl (fun j u hj => K47.c j hj) (by omega) (by omega) (by omega) ?_
    intro ao4 cap4 w4 hd4 k4
    have KT3 := KT.out.later hb3
    have KT4 := k4.bk KT3 (by omega)
    have q1 := KT4.c 1 rfl
    have qf1 := KT4.f 1 rfl
    go_wp2
    go_ret
    have kp : Kpt (fun k => B ≤ k) w (w4.setCell ⟨T, 1, none⟩ (.slice ao4 (t.held.length + 1) cap4)) :=
      ((Kpt.of_below HB0.out).trans (Kpt.of_below hb3)).trans ((k4.mono fun k e => e.1).trans (Kpt.setCell w4 T 1 _ hBT))
    exact ⟨_, rfl, ⟨OwnR.nil _ _ _, ⟨_, KT4.put 1 _, hd4.kept (by simp [World.setCell]) fun k _ _ hk => Below.heap_setCell _ _ _ _ hk⟩, kp⟩⟩
end Go.Proofs.Ytgbnjgenopdmfaa
