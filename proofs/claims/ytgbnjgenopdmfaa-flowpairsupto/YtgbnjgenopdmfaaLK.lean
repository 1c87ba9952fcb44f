/- Places and routes as keys. -/
import Derived.Test.YtgbnjgenopdmfaaLG
namespace Go.Proofs.Ytgbnjgenopdmfaa
open Go.RowKit Go.Maps

theorem i64_wf {n : Int} (h1 : -9223372036854775808 ≤ n) (h2 : n ≤ 9223372036854775807) : (Lit.int .i64 n).wf = true := by
  have e1 : IntKind.i64.min = -9223372036854775808 := rfl
  have e2 : IntKind.i64.max = 9223372036854775807 := rfl
  simp only [Lit.wf, Bool.and_eq_true, decide_eq_true_eq]
  omega
/-- Numbers that an int can hold. -/
def Wf1 (n : Int) : Prop := -9223372036854775808 ≤ n ∧ n ≤ 9223372036854775807
def Wf3 (p : Plc) : Prop := Wf1 p.1 ∧ Wf1 p.2.1 ∧ Wf1 p.2.2
theorem wf_lit {n : Int} (h : Wf1 n) : (Lit.int .i64 n).wf = true := i64_wf h.1 h.2
theorem lit_wf {n : Int} (h : (Lit.int .i64 n).wf = true) : Wf1 n := by
  have e1 : IntKind.i64.min = -9223372036854775808 := rfl
  have e2 : IntKind.i64.max = 9223372036854775807 := rfl
  simp only [Lit.wf, Bool.and_eq_true, decide_eq_true_eq] at h
  unfold Wf1
  omega
theorem laidOutP : laidOutB Try.prog = true := by kernel_rfl
theorem lawP : Keyed Try.prog 26 := Keyed.of_law (deep_law_gate laidOutP (of_decide_eq_true (by kernel_rfl)) (of_decide_eq_true (by kernel_rfl)) (by kernel_rfl) (by kernel_rfl))
theorem keyT : Try.prog.keyType 26 = true := by kernel_rfl
theorem cellsP : Try.prog.cellsOf 26 = 3 := by kernel_rfl
theorem cellsSp : Try.prog.cellsOf 24 = 2 := by kernel_rfl
theorem cellsI : Try.prog.cellsOf 3 = 1 := by kernel_rfl
theorem sizeT : Try.prog.types.size + 1 = 141 := by kernel_rfl
set_option maxRecDepth 100000 in
theorem lits_int (d : Nat) {n : Int} (h : Wf1 n) : Try.prog.keyLits (d + 1) 3 [.int .i64 n] = some [.int .i64 n] := by
  unfold Program.keyLits
  rw [Try.underlying3]
  simp [wf_lit h]
set_option maxRecDepth 100000 in
theorem lits_int_inv {d : Nat} {cs : List Value} {x : List Lit} (h : Try.prog.keyLits (d + 1) 3 cs = some x) : ∃ n, cs = [.int .i64 n] ∧ Wf1 n := by
  unfold Program.keyLits at h
  rw [Try.underlying3] at h
  split at h
  · rename_i heq; cases heq
  · rename_i q q' n heq
    injection heq with heq
    injection heq with heq
    subst heq
    split at h
    · rename_i hc
      exact ⟨n, by rw [hc.1], lit_wf hc.2⟩
    · cases h
  · rename_i heq; cases heq
  · rename_i heq; cases heq
  · rename_i heq; cases heq
  · cases h
set_option maxRecDepth 100000 in
theorem lits_spot (d : Nat) {r c : Int} (hr : Wf1 r) (hc : Wf1 c) : Try.prog.keyLits (d + 2) 24 [.int .i64 r, .int .i64 c] = some [.int .i64 r, .int .i64 c] := by
  unfold Program.keyLits
  rw [Try.underlying24]
  simp [cellsSp, cellsI, lits_int d hr, lits_int d hc]
set_option maxRecDepth 100000 in
theorem lits_place (d : Nat) {p : Plc} (h : Wf3 p) : Try.prog.keyLits (d + 3) 26 [.int .i64 p.1, .int .i64 p.2.1, .int .i64 p.2.2] = some [.int .i64 p.1, .int .i64 p.2.1, .int .i64 p.2.2] := by
  unfold Program.keyLits
  rw [Try.underlying26]
  simp [cellsP, cellsSp, cellsI, lits_int (d + 1) h.1, lits_spot d h.2.1 h.2.2]
/-- What a place reads as. -/
def klP (p : Plc) : Lit := .string (keyBytes [.int .i64 p.1, .int .i64 p.2.1, .int .i64 p.2.2])
set_option maxRecDepth 100000 in
theorem keyP_some {p : Plc} (h : Wf3 p) : keyOf Try.prog 26 (plv p) = some (klP p) := by
  unfold keyOf
  rw [Try.underlying26]
  simp only [keyT, sizeT]
  have hf : (plv p).formed Try.prog 26 = true := by simp [Value.formed, Try.underlying26, cellsP]
  rw [hf]
  simp only [Bool.and_self, if_true, Value.cells, List.toList_toArray]
  rw [show 141 = 138 + 3 from rfl, lits_place 138 h]
  rfl
set_option maxRecDepth 100000 in
theorem keyP_inv {v : Value} {kl : Lit} (h : keyOf Try.prog 26 v = some kl) : ∃ p, v = plv p ∧ Wf3 p := by
  unfold keyOf at h
  rw [Try.underlying26] at h
  simp only at h
  split at h
  · rename_i hc
    rw [keyT, Bool.true_and] at hc
    cases v with
    | agg cs =>
      simp only [Value.formed, Try.underlying26, cellsP, beq_iff_eq] at hc
      obtain ⟨a, b, c, hcs⟩ : ∃ a b c, cs = #[a, b, c] := by
        obtain ⟨l⟩ := cs
        match l, hc with
        | [a, b, c], _ => exact ⟨a, b, c, rfl⟩
      subst hcs
      rw [sizeT, show 141 = 138 + 3 from rfl] at h
      obtain ⟨ls, h1⟩ : ∃ ls, Try.prog.keyLits (138 + 3) 26 [a, b, c] = some ls := by
        cases h2 : Try.prog.keyLits (138 + 3) 26 [a, b, c] with
        | none => simp only [Value.cells] at h; rw [h2] at h; cases h
        | some ls => exact ⟨ls, rfl⟩
      unfold Program.keyLits at h1
      rw [Try.underlying26] at h1
      simp only [cellsP] at h1
      obtain ⟨x, hx⟩ : ∃ x, Try.prog.keyLits (138 + 2) 3 [a] = some x := by
        cases h2 : Try.prog.keyLits (138 + 2) 3 [a] with
        | none => simp [cellsI, h2] at h1
        | some x => exact ⟨x, rfl⟩
      obtain ⟨y, hy⟩ : ∃ y, Try.prog.keyLits (138 + 2) 24 [b, c] = some y := by
        cases h2 : Try.prog.keyLits (138 + 2) 24 [b, c] with
        | none => simp [cellsI, cellsSp, hx, h2] at h1
        | some x => exact ⟨x, rfl⟩
      obtain ⟨n, e1, hn⟩ := lits_int_inv (d := 138 + 1) hx
      unfold Program.keyLits at hy
      rw [Try.underlying24] at hy
      simp only [cellsSp] at hy
      obtain ⟨x2, hx2⟩ : ∃ x, Try.prog.keyLits (138 + 1) 3 [b] = some x := by
        cases h2 : Try.prog.keyLits (138 + 1) 3 [b] with
        | none => simp [cellsI, h2] at hy
        | some x => exact ⟨x, rfl⟩
      obtain ⟨x3, hx3⟩ : ∃ x, Try.prog.keyLits (138 + 1) 3 [c] = some x := by
        cases h2 : Try.prog.keyLits (138 + 1) 3 [c] with
        | none => simp [cellsI, hx2, h2] at hy
        | some x => exact ⟨x, rfl⟩
      obtain ⟨n2, e2, hn2⟩ := lits_int_inv (d := 138) hx2
      obtain ⟨n3, e3, hn3⟩ := lits_int_inv (d := 138) hx3
      injection e1 with e1
      injection e2 with e2
      injection e3 with e3
      subst e1 e2 e3
      exact ⟨(n, n2, n3), rfl, hn, hn2, hn3⟩
    | _ => simp [Value.formed, Try.underlying26] at hc
  · cases h
set_option maxRecDepth 100000 in
theorem klP_inj {p q : Plc} (hp : Wf3 p) (hq : Wf3 q) (h : klP p = klP q) : p = q := by
  have := lawP.inj (keyP_some hp) (by rw [h]; exact keyP_some hq)
  injection this with e
  simp at e
  exact Prod.ext e.1 (Prod.ext e.2.1 e.2.2)
set_option maxRecDepth 100000 in
theorem keyP_eq {p : Plc} {kl : Lit} (hp : Wf3 p) (h : keyOf Try.prog 26 (plv p) = some kl) : kl = klP p := by
  rw [keyP_some hp] at h
  injection h with h
  exact h.symm

abbrev keP : KE Plc := ⟨26, plv, klP, Wf3⟩
theorem lawKP : KLaw keP := ⟨lawP, fun _ h => keyP_some h, fun _ _ h => keyP_inv h, fun x y e => by simp [plv] at e; exact Prod.ext e.1 (Prod.ext e.2.1 e.2.2)⟩
theorem zeroI (w : World) : (zeroValue 3).run Try.prog w = .ok (.int .i64 0) w := Try.zeroValue3 w

/-! ### routes -/
theorem lawR : Keyed Try.prog 56 := Keyed.of_law (deep_law_gate laidOutP (of_decide_eq_true (by kernel_rfl)) (of_decide_eq_true (by kernel_rfl)) (by kernel_rfl) (by kernel_rfl))
theorem keyTR : Try.prog.keyType 56 = true := by kernel_rfl
theorem cellsR : Try.prog.cellsOf 56 = 6 := by kernel_rfl
abbrev rtc (r : Rt) : List Value := [.int .i64 r.1.1, .int .i64 r.1.2.1, .int .i64 r.1.2.2, .int .i64 r.2.1, .int .i64 r.2.2.1, .int .i64 r.2.2.2]
abbrev rtv (r : Rt) : Value := .agg #[.int .i64 r.1.1, .int .i64 r.1.2.1, .int .i64 r.1.2.2, .int .i64 r.2.1, .int .i64 r.2.2.1, .int .i64 r.2.2.2]
abbrev rtl (r : Rt) : List Lit := [.int .i64 r.1.1, .int .i64 r.1.2.1, .int .i64 r.1.2.2, .int .i64 r.2.1, .int .i64 r.2.2.1, .int .i64 r.2.2.2]
def Wf6 (r : Rt) : Prop := Wf3 r.1 ∧ Wf3 r.2
set_option maxRecDepth 100000 in
theorem lits_route (d : Nat) {r : Rt} (h : Wf6 r) : Try.prog.keyLits (d + 4) 56 (rtc r) = some (rtl r) := by
  unfold Program.keyLits
  rw [Try.underlying56]
  simp [cellsP, cellsR, lits_place d h.1, lits_place d h.2]
def klR (r : Rt) : Lit := .string (keyBytes (rtl r))
set_option maxRecDepth 100000 in
theorem keyR_some {r : Rt} (h : Wf6 r) : keyOf Try.prog 56 (rtv r) = some (klR r) := by
  unfold keyOf
  rw [Try.underlying56]
  simp only [keyTR, sizeT]
  have hf : (rtv r).formed Try.prog 56 = true := by simp [Value.formed, Try.underlying56, cellsR]
  rw [hf]
  simp only [Bool.and_self, if_true, Value.cells, List.toList_toArray]
  rw [show 141 = 137 + 4 from rfl, lits_route 137 h]
  rfl
set_option maxRecDepth 100000 in
theorem place_lits_inv {d : Nat} {a b c : Value} {x : List Lit} (h : Try.prog.keyLits (d + 3) 26 [a, b, c] = some x) : ∃ p : Plc, a = .int .i64 p.1 ∧ b = .int .i64 p.2.1 ∧ c = .int .i64 p.2.2 ∧ Wf3 p := by
  unfold Program.keyLits at h
  rw [Try.underlying26] at h
  simp only [cellsP] at h
  obtain ⟨x1, hx⟩ : ∃ x, Try.prog.keyLits (d + 2) 3 [a] = some x := by
    cases h2 : Try.prog.keyLits (d + 2) 3 [a] with
    | none => simp [cellsI, h2] at h
    | some x => exact ⟨x, rfl⟩
  obtain ⟨y, hy⟩ : ∃ y, Try.prog.keyLits (d + 2) 24 [b, c] = some y := by
    cases h2 : Try.prog.keyLits (d + 2) 24 [b, c] with
    | none => simp [cellsI, cellsSp, hx, h2] at h
    | some x => exact ⟨x, rfl⟩
  obtain ⟨n, e1, hn⟩ := lits_int_inv (d := d + 1) hx
  unfold Program.keyLits at hy
  rw [Try.underlying24] at hy
  simp only [cellsSp] at hy
  obtain ⟨x2, hx2⟩ : ∃ x, Try.prog.keyLits (d + 1) 3 [b] = some x := by
    cases h2 : Try.prog.keyLits (d + 1) 3 [b] with
    | none => simp [cellsI, h2] at hy
    | some x => exact ⟨x, rfl⟩
  obtain ⟨x3, hx3⟩ : ∃ x, Try.prog.keyLits (d + 1) 3 [c] = some x := by
    cases h2 : Try.prog.keyLits (d + 1) 3 [c] with
    | none => simp [cellsI, hx2, h2] at hy
    | some x => exact ⟨x, rfl⟩
  obtain ⟨n2, e2, hn2⟩ := lits_int_inv (d := d) hx2
  obtain ⟨n3, e3, hn3⟩ := lits_int_inv (d := d) hx3
  injection e1 with e1
  injection e2 with e2
  injection e3 with e3
  exact ⟨(n, n2, n3), e1, e2, e3, hn, hn2, hn3⟩
set_option maxRecDepth 100000 in
theorem keyR_inv {v : Value} {kl : Lit} (h : keyOf Try.prog 56 v = some kl) : ∃ r, v = rtv r ∧ Wf6 r := by
  unfold keyOf at h
  rw [Try.underlying56] at h
  simp only at h
  split at h
  · rename_i hc
    rw [keyTR, Bool.true_and] at hc
    cases v with
    | agg cs =>
      simp only [Value.formed, Try.underlying56, cellsR, beq_iff_eq] at hc
      obtain ⟨a, b, c, a2, b2, c2, hcs⟩ : ∃ a b c a2 b2 c2, cs = #[a, b, c, a2, b2, c2] := by
        obtain ⟨l⟩ := cs
        match l, hc with
        | [a, b, c, a2, b2, c2], _ => exact ⟨a, b, c, a2, b2, c2, rfl⟩
      subst hcs
      rw [sizeT, show 141 = 137 + 4 from rfl] at h
      obtain ⟨ls, h1⟩ : ∃ ls, Try.prog.keyLits (137 + 4) 56 [a, b, c, a2, b2, c2] = some ls := by
        cases h2 : Try.prog.keyLits (137 + 4) 56 [a, b, c, a2, b2, c2] with
        | none => simp only [Value.cells] at h; rw [h2] at h; cases h
        | some ls => exact ⟨ls, rfl⟩
      unfold Program.keyLits at h1
      rw [Try.underlying56] at h1
      simp only at h1
      obtain ⟨x, hx⟩ : ∃ x, Try.prog.keyLits (137 + 3) 26 [a, b, c] = some x := by
        cases h2 : Try.prog.keyLits (137 + 3) 26 [a, b, c] with
        | none => simp [cellsP, h2] at h1
        | some x => exact ⟨x, rfl⟩
      obtain ⟨y, hy⟩ : ∃ y, Try.prog.keyLits (137 + 3) 26 [a2, b2, c2] = some y := by
        cases h2 : Try.prog.keyLits (137 + 3) 26 [a2, b2, c2] with
        | none => simp [cellsP, hx, h2] at h1
        | some x => exact ⟨x, rfl⟩
      obtain ⟨p, rfl, rfl, rfl, hp⟩ := place_lits_inv (d := 137) hx
      obtain ⟨q, rfl, rfl, rfl, hq⟩ := place_lits_inv (d := 137) hy
      exact ⟨(p, q), rfl, hp, hq⟩
    | _ => simp [Value.formed, Try.underlying56] at hc
  · cases h
abbrev keR : KE Rt := ⟨56, rtv, klR, Wf6⟩
theorem lawKR : KLaw keR := ⟨lawR, fun _ h => keyR_some h, fun _ _ h => keyR_inv h, fun x y e => by
  simp [rtv] at e
  exact Prod.ext (Prod.ext e.1 (Prod.ext e.2.1 e.2.2.1)) (Prod.ext e.2.2.2.1 (Prod.ext e.2.2.2.2.1 e.2.2.2.2.2))⟩
end Go.Proofs.Ytgbnjgenopdmfaa
