/- workcellref.PairsOf walked. -/
import Derived.Test.YtgbnjgenopdmfaaVF
import Derived.Test.YtgbnjgenopdmfaaLD
namespace Go.Proofs.Ytgbnjgenopdmfaa
open Go.RowKit Go.Maps

abbrev qrl (x : Rt × Int) : List Value := [.int .i64 x.1.1.1, .int .i64 x.1.1.2.1, .int .i64 x.1.1.2.2, .int .i64 x.1.2.1, .int .i64 x.1.2.2.1, .int .i64 x.1.2.2.2, .int .i64 x.2]
abbrev encQ : Enc (Rt × Int) := ⟨39, 7, qrl⟩
theorem goodQ : Good encQ := ⟨fun _ => rfl, fun x u hu => by simp [qrl] at hu; rcases hu with rfl | rfl | rfl | rfl | rfl | rfl | rfl <;> rfl⟩
theorem infoQ : (Try.prog.info? 39).map (fun i => (i.zero, i.size, i.bytes)) = some (some (.agg #[.int .i64 0, .int .i64 0, .int .i64 0, .int .i64 0, .int .i64 0, .int .i64 0, .int .i64 0]), 7, 56) := by kernel_rfl
theorem pl_neqV (p q : Plc) (W : World) : (binOp .neq 26 (.agg #[.int .i64 p.1, .int .i64 p.2.1, .int .i64 p.2.2]) (.agg #[.int .i64 q.1, .int .i64 q.2.1, .int .i64 q.2.2])).run Try.prog W = .ok (.bool (!decide (p = q))) W := by
  obtain ⟨a, b, c⟩ := p
  obtain ⟨d, e, f⟩ := q
  go_simp
  by_cases h1 : a = d <;> by_cases h2 : b = e <;> by_cases h3 : c = f <;> simp [h1, h2, h3]
/-- Two slots that point to two blocks, if both are new. -/
def ApM (M s t : Nat) (f : Nat → Value) (w : World) : Prop :=
  (∀ b, f s = ptr b → b < w.heap.size) ∧ (∀ b, f t = ptr b → b < w.heap.size) ∧ (∀ b, M ≤ b → f s = ptr b → f t = ptr b → False)
theorem ApM.same {M s t : Nat} {f : Nat → Value} {w w' : World} (h : ApM M s t f w) (hs : w'.heap.size = w.heap.size) : ApM M s t f w' := by
  unfold ApM
  rw [hs]
  exact h
theorem ApM.other {M s t d : Nat} {f : Nat → Value} {w w' : World} {v : Value} (h : ApM M s t f w) (hs : s ≠ d) (ht : t ≠ d) (hb : Below w.heap.size w w') : ApM M s t (upd f d v) w' := by
  unfold ApM
  rw [upd_other hs, upd_other ht]
  exact ⟨fun b e => Nat.lt_of_lt_of_le (h.1 b e) hb.size, fun b e => Nat.lt_of_lt_of_le (h.2.1 b e) hb.size, h.2.2⟩
theorem ApM.left {M s t : Nat} {f : Nat → Value} {w : World} {o : Obj} (h : ApM M s t f w) (hst : t ≠ s) : ApM M s t (upd f s (ptr w.heap.size)) (w.alloc o) := by
  unfold ApM
  rw [upd_same, upd_other hst]
  refine ⟨fun b e => ?_, fun b e => ?_, fun b _ e e2 => ?_⟩
  · simp at e; subst e; simp
  · have := h.2.1 b e; simp; omega
  · simp at e; subst e; have := h.2.1 _ e2; omega
theorem ApM.right {M s t : Nat} {f : Nat → Value} {w : World} {o : Obj} (h : ApM M s t f w) (hst : s ≠ t) : ApM M s t (upd f t (ptr w.heap.size)) (w.alloc o) := by
  unfold ApM
  rw [upd_same, upd_other hst]
  refine ⟨fun b e => ?_, fun b e => ?_, fun b _ e e2 => ?_⟩
  · have := h.1 b e; simp; omega
  · simp at e; subst e; simp
  · simp at e2; subst e2; have := h.1 _ e; omega
abbrev pcq (p : Plc) : List Value := [.int .i64 p.1, .int .i64 p.2.1, .int .i64 p.2.2]
abbrev P3 (w : World) (B : Nat) (p : Plc) : World := ((w.setCell ⟨B, 0, none⟩ (.int .i64 p.1)).setCell ⟨B, 1, none⟩ (.int .i64 p.2.1)).setCell ⟨B, 2, none⟩ (.int .i64 p.2.2)
theorem Bk.put3 {B : Nat} {u0 u1 u2 : Value} {w : World} (h : Bk B [u0, u1, u2] w) (p : Plc) : Bk B (pcq p) (P3 w B p) := ((h.put 0 (.int .i64 p.1)).put 1 (.int .i64 p.2.1)).put 2 (.int .i64 p.2.2)
theorem Bk.oth3 {b B : Nat} {cs : List Value} {w : World} (h : Bk b cs w) (hn : b ≠ B) (p : Plc) : Bk b cs (P3 w B p) := ((h.other hn 0 _).other hn 1 _).other hn 2 _
def poV (gm om nm cm ga oa na ca i n M : Nat) (p q : Plc) (j : Nat) (l : List Value) (w : World) : Prop :=
  match j, l with
  | 0, [v] => v = .slice (some ⟨gm, om, none⟩) nm cm
  | 1, [v] => v = .int .i64 i
  | 2, [v] => v = .pointer (some ⟨gm, om + i * 6, none⟩)
  | 3, [v] => v = .pointer (some ⟨gm, om + i * 6 + 1, none⟩)
  | 4, [v] => v = .agg #[.int .i64 p.1, .int .i64 p.2.1, .int .i64 p.2.2]
  | 5, [v] => v = .slice (some ⟨ga, oa, none⟩) na ca
  | 6, [v] => v = .slice (some ⟨gm, om, none⟩) nm cm
  | 7, [v] => v = .int .i64 i
  | 8, [v] => v = .pointer (some ⟨gm, om + i * 6, none⟩)
  | 9, [v] => v = .pointer (some ⟨gm, om + i * 6, none⟩)
  | 10, [v] => v = .int .i64 n
  | 11, [v] => v = .pointer (some ⟨ga, oa + n * 8, none⟩)
  | 12, [v] => v = .pointer (some ⟨ga, oa + n * 8 + 1, none⟩)
  | 13, [v] => v = .agg #[.int .i64 q.1, .int .i64 q.2.1, .int .i64 q.2.2]
  | 14, [v] => ∃ b, v = ptr b ∧ M ≤ b ∧ ∃ u0 u1 u2, Bk b [u0, u1, u2] w
  | 15, [v] => ∃ b, v = ptr b ∧ M ≤ b ∧ ∃ u0 u1 u2, Bk b [u0, u1, u2] w
  | 16, [v] => ∃ b, v = ptr b ∧ M ≤ b ∧ Bk b (pcq p) w
  | 17, [v] => ∃ b, v = ptr b ∧ M ≤ b ∧ Bk b (pcq q) w
  | _, _ => True
theorem poV_mono (gm om nm cm ga oa na ca i n M : Nat) (p q : Plc) (j : Nat) (l : List Value) (w w' : World) (h : poV gm om nm cm ga oa na ca i n M p q j l w) (hb : Below w.heap.size w w') : poV gm om nm cm ga oa na ca i n M p q j l w' := by
  unfold poV at h ⊢
  split <;> simp only [] at h <;> first | exact h | (obtain ⟨b, h1, h2, u0, u1, u2, h3⟩ := h; exact ⟨b, h1, h2, u0, u1, u2, h3.later hb⟩) | (obtain ⟨b, h1, h2, h3⟩ := h; exact ⟨b, h1, h2, h3.later hb⟩)
def poP : GPlan := [([], [22], none), ([], [23], none), ([0, 1], [24], none), ([2], [25], none), ([3], [26], none), ([], [27], none), ([], [28], none), ([], [29], none), ([6, 7], [30], none), ([8], [31], none), ([9], [32], none), ([5, 10], [33], none), ([11], [34], none), ([12], [35], none), ([], [7], none), ([], [8], none), ([14, 4], [7], none), ([15, 13], [8], none)]
theorem po_store7 {gm om nm cm ga oa na ca i n M : Nat} {p q : Plc} {f : Nat → Value} {w : World} {b : Nat} {u0 u1 u2 : Value} (hJ : ApM M 7 8 f w) (hs : f 7 = ptr b) (hM : M ≤ b) (AB : Bk b [u0, u1, u2] w) :
    ∀ j, poV gm om nm cm ga oa na ca i n M p q j ((menOf poP j).map f) w → poV gm om nm cm ga oa na ca i n M p q j ((menOf poP j).map f) (P3 w b p)
  | 0, h => h
  | 1, h => h
  | 2, h => h
  | 3, h => h
  | 4, h => h
  | 5, h => h
  | 6, h => h
  | 7, h => h
  | 8, h => h
  | 9, h => h
  | 10, h => h
  | 11, h => h
  | 12, h => h
  | 13, h => h
  | 14, ⟨b2, h2, h3, _⟩ => by
    obtain rfl : b2 = b := by have := (show f 7 = ptr b2 from h2).symm.trans hs; simpa using this
    exact ⟨b2, h2, h3, _, _, _, AB.put3 p⟩
  | 15, ⟨b2, h2, h3, v0, v1, v2, h4⟩ => ⟨b2, h2, h3, v0, v1, v2, h4.oth3 (fun e => hJ.2.2 b hM (by exact hs) (by rw [← e]; exact h2)) p⟩
  | 16, _ => ⟨b, hs, hM, AB.put3 p⟩
  | 17, ⟨b2, h2, h3, h4⟩ => ⟨b2, h2, h3, h4.oth3 (fun e => hJ.2.2 b hM (by exact hs) (by rw [← e]; exact h2)) p⟩
  | j + 18, _ => by simp [menOf, poP, poV]
theorem po_store8 {gm om nm cm ga oa na ca i n M : Nat} {p q : Plc} {f : Nat → Value} {w : World} {b : Nat} {u0 u1 u2 : Value} (hJ : ApM M 7 8 f w) (hs : f 8 = ptr b) (hM : M ≤ b) (AB : Bk b [u0, u1, u2] w) :
    ∀ j, poV gm om nm cm ga oa na ca i n M p q j ((menOf poP j).map f) w → poV gm om nm cm ga oa na ca i n M p q j ((menOf poP j).map f) (P3 w b q)
  | 0, h => h
  | 1, h => h
  | 2, h => h
  | 3, h => h
  | 4, h => h
  | 5, h => h
  | 6, h => h
  | 7, h => h
  | 8, h => h
  | 9, h => h
  | 10, h => h
  | 11, h => h
  | 12, h => h
  | 13, h => h
  | 14, ⟨b2, h2, h3, v0, v1, v2, h4⟩ => ⟨b2, h2, h3, v0, v1, v2, h4.oth3 (fun e => hJ.2.2 b hM (by rw [← e]; exact h2) (by exact hs)) q⟩
  | 15, ⟨b2, h2, h3, _⟩ => by
    obtain rfl : b2 = b := by have := (show f 8 = ptr b2 from h2).symm.trans hs; simpa using this
    exact ⟨b2, h2, h3, _, _, _, AB.put3 q⟩
  | 16, ⟨b2, h2, h3, h4⟩ => ⟨b2, h2, h3, h4.oth3 (fun e => hJ.2.2 b hM (by rw [← e]; exact h2) (by exact hs)) q⟩
  | 17, _ => ⟨b, hs, hM, AB.put3 q⟩
  | j + 18, _ => by simp [menOf, poP, poV]
set_option linter.unusedVariables false in
def p8A (g n cp k P Q : Nat) (y : Rt × Int) (r : Rt) (b3 : Bool) (d : Nat) (v : Value) (_ : World) : Prop :=
  match d with
  | 36 => v = .int .i64 k
  | 37 => v = .slice (some ⟨g, 0, none⟩) n cp
  | 38 => v = .int .i64 n
  | 39 => v = .bool true
  | 40 => v = .bool true
  | 41 => v = .slice (some ⟨g, 0, none⟩) n cp
  | 42 => v = .int .i64 k
  | 43 => v = .pointer (some ⟨g, k * 7, none⟩)
  | 44 => v = .pointer (some ⟨g, k * 7, none⟩)
  | 45 => v = .agg #[.int .i64 y.1.1.1, .int .i64 y.1.1.2.1, .int .i64 y.1.1.2.2]
  | 46 => v = .agg #[.int .i64 r.1.1, .int .i64 r.1.2.1, .int .i64 r.1.2.2]
  | 47 => v = .bool true
  | 48 => v = .bool true
  | 56 => v = undef
  | 65 => v = .bool true
  | 66 => v = .bool true
  | _ => True
set_option linter.unusedVariables false in
theorem p8A_mono (g n cp k P Q : Nat) (y : Rt × Int) (r : Rt) (b3 : Bool) (d : Nat) (v : Value) (w w' : World) (h : p8A g n cp k P Q y r b3 d v w) (_ : Below w.heap.size w w') : p8A g n cp k P Q y r b3 d v w' := h
set_option linter.unusedVariables false in
def p8B (g n cp k P Q : Nat) (y : Rt × Int) (r : Rt) (b3 : Bool) (d : Nat) (v : Value) (_ : World) : Prop :=
  match d with
  | 36 => v = .int .i64 k
  | 37 => v = .slice (some ⟨g, 0, none⟩) n cp
  | 38 => v = .int .i64 n
  | 39 => v = .bool true
  | 40 => v = .bool true
  | 41 => v = .slice (some ⟨g, 0, none⟩) n cp
  | 42 => v = .int .i64 k
  | 43 => v = .pointer (some ⟨g, k * 7, none⟩)
  | 44 => v = .pointer (some ⟨g, k * 7, none⟩)
  | 45 => v = .agg #[.int .i64 y.1.1.1, .int .i64 y.1.1.2.1, .int .i64 y.1.1.2.2]
  | 46 => v = .agg #[.int .i64 r.1.1, .int .i64 r.1.2.1, .int .i64 r.1.2.2]
  | 47 => v = .bool false
  | 48 => v = .bool false
  | 49 => v = .slice (some ⟨g, 0, none⟩) n cp
  | 50 => v = .int .i64 k
  | 51 => v = .pointer (some ⟨g, k * 7, none⟩)
  | 52 => v = .pointer (some ⟨g, k * 7, none⟩)
  | 53 => v = .agg #[.int .i64 y.1.1.1, .int .i64 y.1.1.2.1, .int .i64 y.1.1.2.2]
  | 54 => v = .agg #[.int .i64 r.1.1, .int .i64 r.1.2.1, .int .i64 r.1.2.2]
  | 55 => v = .bool false
  | 56 => v = .bool false
  | 64 => v = .bool false
  | 65 => v = .bool false
  | 66 => v = .bool false
  | _ => True
set_option linter.unusedVariables false in
theorem p8B_mono (g n cp k P Q : Nat) (y : Rt × Int) (r : Rt) (b3 : Bool) (d : Nat) (v : Value) (w w' : World) (h : p8B g n cp k P Q y r b3 d v w) (_ : Below w.heap.size w w') : p8B g n cp k P Q y r b3 d v w' := h
set_option linter.unusedVariables false in
def p8C (g n cp k P Q : Nat) (y : Rt × Int) (r : Rt) (b3 : Bool) (d : Nat) (v : Value) (_ : World) : Prop :=
  match d with
  | 36 => v = .int .i64 k
  | 37 => v = .slice (some ⟨g, 0, none⟩) n cp
  | 38 => v = .int .i64 n
  | 39 => v = .bool true
  | 40 => v = .bool true
  | 41 => v = .slice (some ⟨g, 0, none⟩) n cp
  | 42 => v = .int .i64 k
  | 43 => v = .pointer (some ⟨g, k * 7, none⟩)
  | 44 => v = .pointer (some ⟨g, k * 7, none⟩)
  | 45 => v = .agg #[.int .i64 y.1.1.1, .int .i64 y.1.1.2.1, .int .i64 y.1.1.2.2]
  | 46 => v = .agg #[.int .i64 r.1.1, .int .i64 r.1.2.1, .int .i64 r.1.2.2]
  | 47 => v = .bool false
  | 48 => v = .bool false
  | 49 => v = .slice (some ⟨g, 0, none⟩) n cp
  | 50 => v = .int .i64 k
  | 51 => v = .pointer (some ⟨g, k * 7, none⟩)
  | 52 => v = .pointer (some ⟨g, k * 7, none⟩)
  | 53 => v = .agg #[.int .i64 y.1.1.1, .int .i64 y.1.1.2.1, .int .i64 y.1.1.2.2]
  | 54 => v = .agg #[.int .i64 r.1.1, .int .i64 r.1.2.1, .int .i64 r.1.2.2]
  | 55 => v = .bool true
  | 56 => v = .bool true
  | 57 => v = .slice (some ⟨g, 0, none⟩) n cp
  | 58 => v = .int .i64 k
  | 59 => v = .pointer (some ⟨g, k * 7, none⟩)
  | 60 => v = .pointer (some ⟨g, k * 7 + 3, none⟩)
  | 61 => v = .agg #[.int .i64 y.1.2.1, .int .i64 y.1.2.2.1, .int .i64 y.1.2.2.2]
  | 62 => v = .agg #[.int .i64 r.2.1, .int .i64 r.2.2.1, .int .i64 r.2.2.2]
  | 63 => v = .bool b3
  | 64 => v = .bool b3
  | 65 => v = .bool b3
  | 66 => v = .bool b3
  | _ => True
set_option linter.unusedVariables false in
theorem p8C_mono (g n cp k P Q : Nat) (y : Rt × Int) (r : Rt) (b3 : Bool) (d : Nat) (v : Value) (w w' : World) (h : p8C g n cp k P Q y r b3 d v w) (_ : Below w.heap.size w w') : p8C g n cp k P Q y r b3 d v w' := h
set_option linter.unusedVariables false in
def p8O (g n cp k P Q : Nat) (y : Rt × Int) (r : Rt) (b3 : Bool) (d : Nat) (v : Value) (_ : World) : Prop :=
  match d with
  | 36 => v = .int .i64 k
  | 37 => v = .slice (some ⟨g, 0, none⟩) n cp
  | 38 => v = .int .i64 n
  | 39 => v = .bool false
  | 40 => v = .bool false
  | 48 => v = undef
  | 56 => v = undef
  | 66 => v = .bool false
  | _ => True
set_option linter.unusedVariables false in
theorem p8O_mono (g n cp k P Q : Nat) (y : Rt × Int) (r : Rt) (b3 : Bool) (d : Nat) (v : Value) (w w' : World) (h : p8O g n cp k P Q y r b3 d v w) (_ : Below w.heap.size w w') : p8O g n cp k P Q y r b3 d v w' := h
set_option linter.unusedVariables false in
def p8N (g n cp k P Q : Nat) (y : Rt × Int) (r : Rt) (b3 : Bool) (d : Nat) (v : Value) (_ : World) : Prop :=
  match d with
  | 36 => v = .int .i64 k
  | 37 => v = .slice none 0 0
  | 38 => v = .int .i64 0
  | 39 => v = .bool false
  | 40 => v = .bool false
  | 48 => v = undef
  | 56 => v = undef
  | 66 => v = .bool false
  | _ => True
set_option linter.unusedVariables false in
theorem p8N_mono (g n cp k P Q : Nat) (y : Rt × Int) (r : Rt) (b3 : Bool) (d : Nat) (v : Value) (w w' : World) (h : p8N g n cp k P Q y r b3 d v w) (_ : Below w.heap.size w w') : p8N g n cp k P Q y r b3 d v w' := h
set_option linter.unusedVariables false in
def ptN (g n cp k P Q : Nat) (y : Rt × Int) (r : Rt) (b3 : Bool) (d : Nat) (v : Value) (_ : World) : Prop :=
  match d with
  | 69 => v = .int .i64 k
  | 70 => v = .slice none 0 0
  | 71 => v = .int .i64 0
  | 72 => v = .bool true
  | 73 => v = .bool true
  | 81 => v = .bool true
  | 82 => v = .bool true
  | 90 => v = .bool true
  | _ => True
set_option linter.unusedVariables false in
theorem ptN_mono (g n cp k P Q : Nat) (y : Rt × Int) (r : Rt) (b3 : Bool) (d : Nat) (v : Value) (w w' : World) (h : ptN g n cp k P Q y r b3 d v w) (_ : Below w.heap.size w w') : ptN g n cp k P Q y r b3 d v w' := h
set_option linter.unusedVariables false in
def ptO (g n cp k P Q : Nat) (y : Rt × Int) (r : Rt) (b3 : Bool) (d : Nat) (v : Value) (_ : World) : Prop :=
  match d with
  | 69 => v = .int .i64 k
  | 70 => v = .slice (some ⟨g, 0, none⟩) n cp
  | 71 => v = .int .i64 n
  | 72 => v = .bool true
  | 73 => v = .bool true
  | 81 => v = .bool true
  | 82 => v = .bool true
  | 90 => v = .bool true
  | _ => True
set_option linter.unusedVariables false in
theorem ptO_mono (g n cp k P Q : Nat) (y : Rt × Int) (r : Rt) (b3 : Bool) (d : Nat) (v : Value) (w w' : World) (h : ptO g n cp k P Q y r b3 d v w) (_ : Below w.heap.size w w') : ptO g n cp k P Q y r b3 d v w' := h
set_option linter.unusedVariables false in
def ptB (g n cp k P Q : Nat) (y : Rt × Int) (r : Rt) (b3 : Bool) (d : Nat) (v : Value) (_ : World) : Prop :=
  match d with
  | 69 => v = .int .i64 k
  | 70 => v = .slice (some ⟨g, 0, none⟩) n cp
  | 71 => v = .int .i64 n
  | 72 => v = .bool false
  | 73 => v = .bool false
  | 74 => v = .slice (some ⟨g, 0, none⟩) n cp
  | 75 => v = .int .i64 k
  | 76 => v = .pointer (some ⟨g, k * 7, none⟩)
  | 77 => v = .pointer (some ⟨g, k * 7, none⟩)
  | 78 => v = .agg #[.int .i64 y.1.1.1, .int .i64 y.1.1.2.1, .int .i64 y.1.1.2.2]
  | 79 => v = .agg #[.int .i64 r.1.1, .int .i64 r.1.2.1, .int .i64 r.1.2.2]
  | 80 => v = .bool true
  | 81 => v = .bool true
  | 82 => v = .bool true
  | 90 => v = .bool true
  | _ => True
set_option linter.unusedVariables false in
theorem ptB_mono (g n cp k P Q : Nat) (y : Rt × Int) (r : Rt) (b3 : Bool) (d : Nat) (v : Value) (w w' : World) (h : ptB g n cp k P Q y r b3 d v w) (_ : Below w.heap.size w w') : ptB g n cp k P Q y r b3 d v w' := h
set_option linter.unusedVariables false in
def ptC (g n cp k P Q : Nat) (y : Rt × Int) (r : Rt) (b3 : Bool) (d : Nat) (v : Value) (_ : World) : Prop :=
  match d with
  | 69 => v = .int .i64 k
  | 70 => v = .slice (some ⟨g, 0, none⟩) n cp
  | 71 => v = .int .i64 n
  | 72 => v = .bool false
  | 73 => v = .bool false
  | 74 => v = .slice (some ⟨g, 0, none⟩) n cp
  | 75 => v = .int .i64 k
  | 76 => v = .pointer (some ⟨g, k * 7, none⟩)
  | 77 => v = .pointer (some ⟨g, k * 7, none⟩)
  | 78 => v = .agg #[.int .i64 y.1.1.1, .int .i64 y.1.1.2.1, .int .i64 y.1.1.2.2]
  | 79 => v = .agg #[.int .i64 r.1.1, .int .i64 r.1.2.1, .int .i64 r.1.2.2]
  | 80 => v = .bool false
  | 81 => v = .bool false
  | 82 => v = .bool false
  | 83 => v = .slice (some ⟨g, 0, none⟩) n cp
  | 84 => v = .int .i64 k
  | 85 => v = .pointer (some ⟨g, k * 7, none⟩)
  | 86 => v = .pointer (some ⟨g, k * 7 + 3, none⟩)
  | 87 => v = .agg #[.int .i64 y.1.2.1, .int .i64 y.1.2.2.1, .int .i64 y.1.2.2.2]
  | 88 => v = .agg #[.int .i64 r.2.1, .int .i64 r.2.2.1, .int .i64 r.2.2.2]
  | 89 => v = .bool true
  | 90 => v = .bool true
  | _ => True
set_option linter.unusedVariables false in
theorem ptC_mono (g n cp k P Q : Nat) (y : Rt × Int) (r : Rt) (b3 : Bool) (d : Nat) (v : Value) (w w' : World) (h : ptC g n cp k P Q y r b3 d v w) (_ : Below w.heap.size w w') : ptC g n cp k P Q y r b3 d v w' := h
set_option linter.unusedVariables false in
def ptD (g n cp k P Q : Nat) (y : Rt × Int) (r : Rt) (b3 : Bool) (d : Nat) (v : Value) (_ : World) : Prop :=
  match d with
  | 69 => v = .int .i64 k
  | 70 => v = .slice (some ⟨g, 0, none⟩) n cp
  | 71 => v = .int .i64 n
  | 72 => v = .bool false
  | 73 => v = .bool false
  | 74 => v = .slice (some ⟨g, 0, none⟩) n cp
  | 75 => v = .int .i64 k
  | 76 => v = .pointer (some ⟨g, k * 7, none⟩)
  | 77 => v = .pointer (some ⟨g, k * 7, none⟩)
  | 78 => v = .agg #[.int .i64 y.1.1.1, .int .i64 y.1.1.2.1, .int .i64 y.1.1.2.2]
  | 79 => v = .agg #[.int .i64 r.1.1, .int .i64 r.1.2.1, .int .i64 r.1.2.2]
  | 80 => v = .bool false
  | 81 => v = .bool false
  | 82 => v = .bool false
  | 83 => v = .slice (some ⟨g, 0, none⟩) n cp
  | 84 => v = .int .i64 k
  | 85 => v = .pointer (some ⟨g, k * 7, none⟩)
  | 86 => v = .pointer (some ⟨g, k * 7 + 3, none⟩)
  | 87 => v = .agg #[.int .i64 y.1.2.1, .int .i64 y.1.2.2.1, .int .i64 y.1.2.2.2]
  | 88 => v = .agg #[.int .i64 r.2.1, .int .i64 r.2.2.1, .int .i64 r.2.2.2]
  | 89 => v = .bool false
  | 90 => v = .bool false
  | _ => True
set_option linter.unusedVariables false in
theorem ptD_mono (g n cp k P Q : Nat) (y : Rt × Int) (r : Rt) (b3 : Bool) (d : Nat) (v : Value) (w w' : World) (h : ptD g n cp k P Q y r b3 d v w) (_ : Below w.heap.size w w') : ptD g n cp k P Q y r b3 d v w' := h
set_option linter.unusedVariables false in
def p15 (g n cp k gm om nm cm i : Nat) (z vol : Int) (d : Nat) (v : Value) (_ : World) : Prop :=
  match d with
  | 107 => v = .slice (some ⟨g, 0, none⟩) n cp
  | 108 => v = .int .i64 k
  | 109 => v = .pointer (some ⟨g, k * 7, none⟩)
  | 110 => v = .pointer (some ⟨g, k * 7 + 6, none⟩)
  | 111 => v = .int .i64 z
  | 112 => v = .slice (some ⟨gm, om, none⟩) nm cm
  | 113 => v = .int .i64 i
  | 114 => v = .pointer (some ⟨gm, om + i * 6, none⟩)
  | 115 => v = .pointer (some ⟨gm, om + i * 6 + 4, none⟩)
  | 116 => v = .int .i64 vol
  | 117 => v = .int .i64 (z + vol)
  | 118 => v = .pointer (some ⟨g, k * 7, none⟩)
  | 119 => v = .pointer (some ⟨g, k * 7 + 6, none⟩)
  | _ => True
set_option linter.unusedVariables false in
theorem p15_mono (g n cp k gm om nm cm i : Nat) (z vol : Int) (d : Nat) (v : Value) (w w' : World) (h : p15 g n cp k gm om nm cm i z vol d v w) (_ : Below w.heap.size w w') : p15 g n cp k gm om nm cm i z vol d v w' := h
theorem add_small (a b : Int) (h1 : -9223372036854775808 ≤ a + b) (h2 : a + b ≤ 9223372036854775807) (W : World) : (binOp .add 3 (.int .i64 a) (.int .i64 b)).run Try.prog W = .ok (.int .i64 (a + b)) W := by
  go_simp
  rw [IntKind.wrap_i64]
  omega
theorem addP_bound {r : Rt} {v n : Int} (hv : 0 ≤ v) : ∀ {l : Prs}, (∀ x ∈ l, 0 ≤ x.2 ∧ x.2 ≤ n) → 0 ≤ n → ∀ x ∈ addP r v l, 0 ≤ x.2 ∧ x.2 ≤ n + v
  | [], _, hn, x, hx => by simp [addP] at hx; subst hx; simp only; omega
  | y :: l, h, hn, x, hx => by
    have hy := h y (by simp)
    have hl : ∀ x ∈ l, 0 ≤ x.2 ∧ x.2 ≤ n := fun x hx => h x (by simp [hx])
    unfold addP at hx
    split at hx
    · rcases List.mem_cons.1 hx with rfl | hx
      · omega
      · exact addP_bound hv hl hn x hx
    · split at hx
      · rcases List.mem_cons.1 hx with rfl | hx
        · simp only; omega
        · have := hl x hx; omega
      · rcases List.mem_cons.1 hx with rfl | hx
        · simp only; omega
        · have := h x hx; omega
theorem addP_len (r : Rt) (v : Int) : ∀ l : Prs, (addP r v l).length ≤ l.length + 1
  | [] => by simp [addP]
  | y :: l => by
    have := addP_len r v l
    unfold addP
    split
    · simp only [List.length_cons]; omega
    · split <;> simp
theorem pairsM_bound (l : List Acn) (os : List Mvd) (h : ∀ o ∈ os, 1 ≤ o.vol ∧ o.vol ≤ 1000000000) : ∀ i, i ≤ os.length → (∀ x ∈ pairsM l (os.take i), 0 ≤ x.2 ∧ x.2 ≤ i * 1000000000) ∧ (pairsM l (os.take i)).length ≤ i
  | 0, _ => by simp [pairsM]
  | i + 1, hi => by
    have hlt : i < os.length := hi
    have ih := pairsM_bound l os h i (by omega)
    have ho := h (os[i]'hlt) (List.getElem_mem hlt)
    rw [List.take_succ_eq_append_getElem hlt, pairsM_snoc]
    refine ⟨fun x hx => ?_, ?_⟩
    · have := addP_bound (r := ((os[i]'hlt).fr, plA l (os[i]'hlt).num)) (show (0 : Int) ≤ (os[i]'hlt).vol by omega) ih.1 (by omega) x hx
      omega
    · have := addP_len ((os[i]'hlt).fr, plA l (os[i]'hlt).num) (os[i]'hlt).vol (pairsM l (os.take i))
      omega
theorem own_some {α : Type} {c : Enc α} {w : World} {base : Nat} {v : Value} {ps : List α} (h : OwnR c w base v ps) (hn : ps ≠ []) : ∃ g cap, v = .slice (some ⟨g, 0, none⟩) ps.length cap ∧ base ≤ g ∧ g < w.heap.size := by
  rcases h.inv with ⟨_, h2⟩ | ⟨g, cap, e, h1, h2, _⟩
  · exact absurd h2 hn
  · exact ⟨g, cap, e, h1, h2⟩
/-- One cell of a list's element, read. -/
theorem OwnR.cellAt {α : Type} {c : Enc α} (hgc : Good c) {w : World} {base g n cap : Nat} {ps : List α} (h : OwnR c w base (.slice (some ⟨g, 0, none⟩) n cap) ps) {k : Nat} (hk : k < ps.length) {j : Nat} (hj : j < c.sz) : w.cell? ⟨g, k * c.sz + j, none⟩ = (c.enc (ps[k]'hk))[j]? ∧ w.frozen? ⟨g, k * c.sz + j, none⟩ = false := by
  rcases h.read hgc with ⟨h1, _⟩ | ⟨g', cap', e, _, _, hlt, hc⟩
  · rw [h1] at hk; simp at hk
  · injection e with e1
    injection e1 with e1
    injection e1 with e1
    subst e1
    refine ⟨hc k hk j hj, ?_⟩
    rcases h.2 with ⟨h2, _⟩ | ⟨g2, cap2, cur, e2, _, h3, _⟩
    · cases h2
    · injection e2 with e2
      injection e2 with e2
      injection e2 with e2
      subst e2
      unfold World.frozen?
      simp only [h3]
      simp
set_option maxHeartbeats 102400000 in
set_option maxRecDepth 100000 in
theorem pairsOf_any (ao : Option Addr) (cap : Nat) (acs : List Acn) (w : World) (hA : Acs w ao acs) (hal : ∀ ad, ao = some ad → acs ≠ [] → ad.block < w.heap.size) (hl : acs.length ≤ 3000) :
    Calls Try.prog 10 #[.slice ao acs.length cap] w fun e w' => Below w.heap.size w w' ∧ ∃ aoS capS, e = .returned (.slice aoS (pairsR acs).length capS) ∧ RdR encQ w' aoS (pairsR acs) := by
  have HC : Hid (Calls Try.prog 21 #[.slice ao acs.length cap, .slice none 0 0] w fun e w' => Below w.heap.size w w' ∧ ∃ ov mv, e = .returned (.tuple #[ov, mv]) ∧ OwnR encM w' w.heap.size ov (moves acs []).out ∧ OwnR encP w' w.heap.size mv (moves acs []).marks) :=
    movesOf_any ao cap acs [] _ w.heap.size w hA hal hl (OwnR.nil _ _ _) (by simp) (Nat.le_refl _)
  have hmb := (mvB_all acs [] hl acs.length (Nat.le_refl _)).out
  rw [List.take_length] at hmb
  have hok := moves_out_ok acs [] (by simp)
  rw [show keysM ([] : Snc) = [] from rfl] at hok
  have hpe := pairsM_eq acs
  have HA : Hid (Acs w ao acs) := hA
  clear hA hal
  go_enter Try.func10, Try.ntmps10
  go_wp2_with fail
  refine HC.out.mono ?_
  rintro e w3 ⟨hb3, ov, mv, rfl, ho3, hm3⟩
  have HB3 : Hid (Below w.heap.size w w3) := hb3
  obtain ⟨aoM, nM, cM, rfl⟩ := hm3.form
  obtain ⟨aoS, cS, rfl⟩ := ho3.shape
  have HMR : Hid (RdR encM w3 aoS (moves acs []).out) := ho3.rd goodM
  clear ho3 hm3 hb3 HC
  obtain ⟨os, hos⟩ : ∃ os, os = (moves acs []).out := ⟨_, rfl⟩
  rw [← hos] at HMR hmb hok hpe ⊢
  have HPE : Hid (pairsM acs os = pairsR acs) := hpe
  have HOK : Hid (∀ o ∈ os, o.num < acs.length ∧ 1 ≤ o.vol ∧ o.vol ≤ 1000000000) := hok
  have HPB : Hid (∀ i, i ≤ os.length → (∀ x ∈ pairsM acs (os.take i), 0 ≤ x.2 ∧ x.2 ≤ i * 1000000000) ∧ (pairsM acs (os.take i)).length ≤ i) := fun i hi => pairsM_bound acs os (fun o ho => (hok o ho).2) i hi
  have hol : os.length ≤ 9000000 := by omega
  clear hmb hok hpe hos
  go_wp2
  go_loopw [5, 6, 7, 8] (fun q5 q6 q7 q8 wr => ∃ (i : Nat) (ov v7 v8 : Value), i ≤ os.length ∧ ov = q5 ∧ q6 = .int .i64 i ∧ v7 = q7 ∧ v8 = q8 ∧ OwnR encQ wr w3.heap.size ov (pairsM acs (os.take i)) ∧ Below w3.heap.size w3 wr ∧ (∀ b, v7 = ptr b → b < wr.heap.size) ∧ (∀ b, v8 = ptr b → b < wr.heap.size)) (fun _ i _ _ _ => os.length - (intOf i).toNat)
  case atStart => exact ⟨0, _, _, _, Nat.zero_le _, rfl, rfl, rfl, rfl, OwnR.nil _ _ _, Below.refl _ _, fun b e => by simp [undef] at e, fun b e => by simp [undef] at e⟩
  case round =>
    obtain ⟨i, ov, v7, v8, hi, rfl, rfl, rfl, rfl, hov, hbo, hl7, hl8⟩ := hrel
    obtain ⟨wo, rfl⟩ : ∃ wo, wo = wr := ⟨wr, rfl⟩
    have HOV : Hid (OwnR encQ wo w3.heap.size ov (pairsM acs (os.take i))) := hov
    have HBO : Hid (Below w3.heap.size w3 wo) := hbo
    have HL7 : Hid (∀ b, v7 = ptr b → b < wo.heap.size) := hl7
    have HL8 : Hid (∀ b, v8 = ptr b → b < wo.heap.size) := hl8
    clear hov hbo hl7 hl8
    by_cases hlt : i < os.length
    · have hii : (i : Int) < (os.length : Int) := by omega
      obtain ⟨gm, om, rfl, hcs⟩ : ∃ gm om, aoS = some ⟨gm, om, none⟩ ∧ ∀ j, j < 6 → wo.cell? ⟨gm, om + i * 6 + j, none⟩ = (encM.enc (os[i]'hlt))[j]? := by
        rcases HMR.out.next goodM HBO.out with h | ⟨gp, op, e, _, hc⟩
        · rw [h] at hlt; simp at hlt
        · exact ⟨gp, op, e, fun j hj => hc i hlt j hj⟩
      have HNX : Hid (pairsM acs (os.take (i + 1)) = addP ((os[i]'hlt).fr, plA acs (os[i]'hlt).num) (os[i]'hlt).vol (pairsM acs (os.take i))) := by show _ = _; rw [List.take_succ_eq_append_getElem hlt, pairsM_snoc]
      have hpb := HPB.out i hi
      have hxo := HOK.out (os[i]'hlt) (List.getElem_mem hlt)
      generalize os[i]'hlt = x at *
      obtain ⟨hxn, hxv1, hxv2⟩ := hxo
      obtain ⟨ga, oa, rfl, hca⟩ := ((HA.out.next HB3.out).next HBO.out).at hxn
      have hpa : plA acs x.num = (acs[x.num]'hxn).pl := plA_at hxn
      obtain ⟨r, hr⟩ : ∃ r : Rt, r = (x.fr, plA acs x.num) := ⟨_, rfl⟩
      obtain ⟨fr, into⟩ := r
      injection hr with hr1 hr2
      rw [← hr1, ← hr2] at HNX
      have hxi : (x.num : Int) < (acs.length : Int) := by omega
      have e0 := hcs 0 (by decide)
      have e1 := hcs 1 (by decide)
      have e2 := hcs 2 (by decide)
      have e3 := hcs 3 (by decide)
      have e4 := hcs 4 (by decide)
      simp only [mvc, List.getElem?_cons_zero, List.getElem?_cons_succ, Nat.add_zero, ← hr1] at e0 e1 e2 e3 e4
      have d1 := hca 1 (by decide)
      have d2 := hca 2 (by decide)
      have d3 := hca 3 (by decide)
      simp only [acl, List.getElem?_cons_zero, List.getElem?_cons_succ, ← hpa, ← hr2] at d1 d2 d3
      have HX : Hid (∀ W1, Below wo.heap.size wo W1 → W1.cell? ⟨gm, om + i * 6, none⟩ = some (.int .i64 x.num) ∧ W1.cell? ⟨gm, om + i * 6 + 1, none⟩ = some (.int .i64 fr.1) ∧ W1.cell? ⟨gm, om + i * 6 + 2, none⟩ = some (.int .i64 fr.2.1) ∧ W1.cell? ⟨gm, om + i * 6 + 3, none⟩ = some (.int .i64 fr.2.2) ∧ W1.cell? ⟨gm, om + i * 6 + 4, none⟩ = some (.int .i64 x.vol)) := fun W1 hb => ⟨cell_later hb e0, cell_later hb e1, cell_later hb e2, cell_later hb e3, cell_later hb e4⟩
      have HZ : Hid (∀ W1, Below wo.heap.size wo W1 → W1.cell? ⟨ga, oa + x.num * 8 + 1, none⟩ = some (.int .i64 into.1) ∧ W1.cell? ⟨ga, oa + x.num * 8 + 2, none⟩ = some (.int .i64 into.2.1) ∧ W1.cell? ⟨ga, oa + x.num * 8 + 3, none⟩ = some (.int .i64 into.2.2)) := fun W1 hb => ⟨cell_later hb d1, cell_later hb d2, cell_later hb d3⟩
      clear e0 e1 e2 e3 e4 d1 d2 d3 hcs hca hpa hr1 hr2
      obtain ⟨out, hout⟩ : ∃ out, out = pairsM acs (os.take i) := ⟨_, rfl⟩
      rw [← hout] at HNX HOV hpb
      have hpl : out.length ≤ 9000000 := by omega
      have HPV : Hid (∀ y ∈ out, 0 ≤ y.2 ∧ y.2 ≤ 9000000000000000) := fun y hy => by have := hpb.1 y hy; omega
      clear hout hpb
      go_wp2_with fail
      refine region_all [false, false, false, false, false, false, false, true, true, false, false, false, false, false, false, false, false, false, false, false, false, false, true, true, true, true, true, true, true, true, true, true, true, true, true, true, false, false, false, false, false, false, false, false, false, false, false, false, false, false, false, false, false, false, false, false, false, false, false, false, false, false, false, false, false, false, false, false, false, false, false, false, false, false, false, false, false, false, false, false, false, false, false, false, false, false, false, false, false, false, false, false, false, false, false, false, false, false, false, false, false, false, false, false, false, false, false, false, false, false, false, false, false, false, false, false, false, false, false, false, false]
        poP (poV gm om os.length cS ga oa acs.length cap i x.num wo.heap.size fr into) (ApM wo.heap.size 7 8) (by kernel_rfl) (by kernel_rfl) ?_ ?_ ?_
      · exact fun W hb => ⟨fun b e => Nat.lt_of_lt_of_le (HL7.out b e) hb.size, fun b e => Nat.lt_of_lt_of_le (HL8.out b e) hb.size, fun b hM e _ => absurd (HL7.out b e) (by omega)⟩
      · refine ⟨?_, ?_, ?_, ?_, ?_, ?_, ?_, ?_, ?_, ?_, ?_, ?_, ?_, ?_, ?_, ?_, ?_, ?_, trivial⟩
        · intro f w1 hb hJ _ K hK
          simp only [over, overL, Nat.reduceAdd]
          go_simp
          exact hK _ _ ⟨_, by simp only [over, overL, Nat.reduceAdd]; rfl, rfl, hb, hJ.other (by decide) (by decide) (Below.refl _ _), fun _ h => h⟩
        · intro f w1 hb hJ _ K hK
          simp only [over, overL, Nat.reduceAdd]
          go_simp
          exact hK _ _ ⟨_, by simp only [over, overL, Nat.reduceAdd]; rfl, rfl, hb, hJ.other (by decide) (by decide) (Below.refl _ _), fun _ h => h⟩
        · intro f w1 hb hJ ⟨h22, h23, _⟩ K hK
          replace h22 : f 22 = _ := h22
          replace h23 : f 23 = _ := h23
          simp only [over, overL, Nat.reduceAdd, h22, h23]
          go_simp
          exact hK _ _ ⟨_, by simp only [over, overL, Nat.reduceAdd, h22, h23]; rfl, rfl, hb, hJ.other (by decide) (by decide) (Below.refl _ _), fun _ h => h⟩
        · intro f w1 hb hJ ⟨h24, _⟩ K hK
          replace h24 : f 24 = _ := h24
          simp only [over, overL, Nat.reduceAdd, h24]
          go_simp
          exact hK _ _ ⟨_, by simp only [over, overL, Nat.reduceAdd, h24]; rfl, rfl, hb, hJ.other (by decide) (by decide) (Below.refl _ _), fun _ h => h⟩
        · intro f w1 hb hJ ⟨h25, _⟩ K hK
          replace h25 : f 25 = _ := h25
          obtain ⟨q0, q1, q2, q3, q4⟩ := HX.out w1 hb
          simp only [over, overL, Nat.reduceAdd, h25]
          go_simp
          exact hK _ _ ⟨_, by simp only [over, overL, Nat.reduceAdd, h25]; rfl, rfl, hb, hJ.other (by decide) (by decide) (Below.refl _ _), fun _ h => h⟩
        · intro f w1 hb hJ _ K hK
          simp only [over, overL, Nat.reduceAdd]
          go_simp
          exact hK _ _ ⟨_, by simp only [over, overL, Nat.reduceAdd]; rfl, rfl, hb, hJ.other (by decide) (by decide) (Below.refl _ _), fun _ h => h⟩
        · intro f w1 hb hJ _ K hK
          simp only [over, overL, Nat.reduceAdd]
          go_simp
          exact hK _ _ ⟨_, by simp only [over, overL, Nat.reduceAdd]; rfl, rfl, hb, hJ.other (by decide) (by decide) (Below.refl _ _), fun _ h => h⟩
        · intro f w1 hb hJ _ K hK
          simp only [over, overL, Nat.reduceAdd]
          go_simp
          exact hK _ _ ⟨_, by simp only [over, overL, Nat.reduceAdd]; rfl, rfl, hb, hJ.other (by decide) (by decide) (Below.refl _ _), fun _ h => h⟩
        · intro f w1 hb hJ ⟨h28, h29, _⟩ K hK
          replace h28 : f 28 = _ := h28
          replace h29 : f 29 = _ := h29
          simp only [over, overL, Nat.reduceAdd, h28, h29]
          go_simp
          exact hK _ _ ⟨_, by simp only [over, overL, Nat.reduceAdd, h28, h29]; rfl, rfl, hb, hJ.other (by decide) (by decide) (Below.refl _ _), fun _ h => h⟩
        · intro f w1 hb hJ ⟨h30, _⟩ K hK
          replace h30 : f 30 = _ := h30
          simp only [over, overL, Nat.reduceAdd, h30]
          go_simp
          exact hK _ _ ⟨_, by simp only [over, overL, Nat.reduceAdd, h30]; rfl, rfl, hb, hJ.other (by decide) (by decide) (Below.refl _ _), fun _ h => h⟩
        · intro f w1 hb hJ ⟨h31, _⟩ K hK
          replace h31 : f 31 = _ := h31
          obtain ⟨q0, q1, q2, q3, q4⟩ := HX.out w1 hb
          simp only [over, overL, Nat.reduceAdd, h31]
          go_simp
          exact hK _ _ ⟨_, by simp only [over, overL, Nat.reduceAdd, h31]; rfl, rfl, hb, hJ.other (by decide) (by decide) (Below.refl _ _), fun _ h => h⟩
        · intro f w1 hb hJ ⟨h27, h32, _⟩ K hK
          replace h27 : f 27 = _ := h27
          replace h32 : f 32 = _ := h32
          simp only [over, overL, Nat.reduceAdd, h27, h32]
          go_simp
          exact hK _ _ ⟨_, by simp only [over, overL, Nat.reduceAdd, h27, h32]; rfl, rfl, hb, hJ.other (by decide) (by decide) (Below.refl _ _), fun _ h => h⟩
        · intro f w1 hb hJ ⟨h33, _⟩ K hK
          replace h33 : f 33 = _ := h33
          simp only [over, overL, Nat.reduceAdd, h33]
          go_simp
          exact hK _ _ ⟨_, by simp only [over, overL, Nat.reduceAdd, h33]; rfl, rfl, hb, hJ.other (by decide) (by decide) (Below.refl _ _), fun _ h => h⟩
        · intro f w1 hb hJ ⟨h34, _⟩ K hK
          replace h34 : f 34 = _ := h34
          obtain ⟨q1, q2, q3⟩ := HZ.out w1 hb
          simp only [over, overL, Nat.reduceAdd, h34]
          go_simp
          exact hK _ _ ⟨_, by simp only [over, overL, Nat.reduceAdd, h34]; rfl, rfl, hb, hJ.other (by decide) (by decide) (Below.refl _ _), fun _ h => h⟩
        · intro f w1 hb hJ _ K hK
          simp only [over, overL, Nat.reduceAdd]
          go_simp
          exact hK _ _ ⟨_, by simp only [over, overL, Nat.reduceAdd]; rfl, ⟨w1.heap.size, rfl, hb.size, _, _, _, Bk.new w1 [.int .i64 0, .int .i64 0, .int .i64 0] 26 w1.heap.size rfl⟩, below_on hb ((Below.refl _ _).alloc (Nat.le_refl _) _), hJ.left (by decide), fun j h => poV_mono gm om os.length cS ga oa acs.length cap i x.num wo.heap.size fr into j _ _ _ h ((Below.refl _ _).alloc (Nat.le_refl _) _)⟩
        · intro f w1 hb hJ _ K hK
          simp only [over, overL, Nat.reduceAdd]
          go_simp
          exact hK _ _ ⟨_, by simp only [over, overL, Nat.reduceAdd]; rfl, ⟨w1.heap.size, rfl, hb.size, _, _, _, Bk.new w1 [.int .i64 0, .int .i64 0, .int .i64 0] 26 w1.heap.size rfl⟩, below_on hb ((Below.refl _ _).alloc (Nat.le_refl _) _), hJ.right (by decide), fun j h => poV_mono gm om os.length cS ga oa acs.length cap i x.num wo.heap.size fr into j _ _ _ h ((Below.refl _ _).alloc (Nat.le_refl _) _)⟩
        · intro f w1 hb hJ ⟨h7, h26, _⟩ K hK
          replace h26 : f 26 = _ := h26
          obtain ⟨B, h7, nB, u0, u1, u2, AB⟩ := (show ∃ B, f 7 = ptr B ∧ wo.heap.size ≤ B ∧ ∃ u0 u1 u2, Bk B [u0, u1, u2] w1 from h7)
          have q0 := AB.c 0 rfl
          have qf0 := AB.f 0 rfl
          have q1 := AB.c 1 rfl
          have qf1 := AB.f 1 rfl
          have q2 := AB.c 2 rfl
          have qf2 := AB.f 2 rfl
          simp only [over, overL, Nat.reduceAdd, h7, h26]
          go_simp
          refine hK _ _ ⟨undef, by simp only [over, overL, Nat.reduceAdd, h7, h26]; rfl, ?_, ((hb.setCell nB _).setCell nB _).setCell nB _, hJ.same (by simp), ?_⟩
          · exact ⟨B, h7, nB, AB.put3 fr⟩
          · exact po_store7 hJ h7 nB AB
        · intro f w1 hb hJ ⟨h8, h35, _⟩ K hK
          replace h35 : f 35 = _ := h35
          obtain ⟨B, h8, nB, u0, u1, u2, AB⟩ := (show ∃ B, f 8 = ptr B ∧ wo.heap.size ≤ B ∧ ∃ u0 u1 u2, Bk B [u0, u1, u2] w1 from h8)
          have q0 := AB.c 0 rfl
          have qf0 := AB.f 0 rfl
          have q1 := AB.c 1 rfl
          have qf1 := AB.f 1 rfl
          have q2 := AB.c 2 rfl
          have qf2 := AB.f 2 rfl
          simp only [over, overL, Nat.reduceAdd, h8, h35]
          go_simp
          refine hK _ _ ⟨undef, by simp only [over, overL, Nat.reduceAdd, h8, h35]; rfl, ?_, ((hb.setCell nB _).setCell nB _).setCell nB _, hJ.same (by simp), ?_⟩
          · exact ⟨B, h8, nB, AB.put3 into⟩
          · exact po_store8 hJ h8 nB AB
      · intro f w4 b4 hJ hv
        obtain ⟨P, h7, hP4, A7⟩ := (show ∃ b, f 7 = ptr b ∧ wo.heap.size ≤ b ∧ Bk b (pcq fr) w4 from hv.2.2.2.2.2.2.2.2.2.2.2.2.2.2.2.2.1)
        obtain ⟨Q, h8, hQ4, A8⟩ := (show ∃ b, f 8 = ptr b ∧ wo.heap.size ≤ b ∧ Bk b (pcq into) w4 from hv.2.2.2.2.2.2.2.2.2.2.2.2.2.2.2.2.2.1)
        have KP4 : Hid (Bk P (pcq fr) w4) := A7
        have KQ4 : Hid (Bk Q (pcq into) w4) := A8
        have HB4 : Hid (Below wo.heap.size wo w4) := b4
        simp only [over, overL, Nat.reduceAdd, h7, h8]
        obtain ⟨r, hr⟩ : ∃ r : Rt, r = (fr, into) := ⟨_, rfl⟩
        have e1 : fr = r.1 := by rw [hr]
        have e2 : into = r.2 := by rw [hr]
        rw [← hr] at HNX
        subst e1 e2
        clear A7 A8 hv hJ b4 hr
        rcases HOV.out.inv with ⟨rfl, rfl⟩ | ⟨g, cap2, rfl, hg1, hg2, hc1, hc2⟩
        · go_wp2
          go_loopw [9] (fun q9 wr => q9 = .int .i64 0 ∧ wr = w4) (fun _ _ => 0)
          case atStart => exact ⟨rfl, rfl⟩
          case round =>
            obtain ⟨rfl, rfl⟩ := hrel
            have HNEW : Hid (addP r x.vol [] = [(r, x.vol)]) := rfl
            go_wp2_with fail
            refine region_inv [false, false, false, false, false, false, false, false, false, false, false, false, false, false, false, false, false, false, false, false, false, false, false, false, false, false, false, false, false, false, false, false, false, false, false, false, true, true, true, true, true, true, true, true, true, true, true, true, true, true, true, true, true, true, true, true, true, true, true, true, true, true, true, true, true, true, true, false, false, false, false, false, false, false, false, false, false, false, false, false, false, false, false, false, false, false, false, false, false, false, false, false, false, false, false, false, false, false, false, false, false, false, false, false, false, false, false, false, false, false, false, false, false, false, false, false, false, false, false, false, false]
              [(36, [], none), (37, [], none), (38, [37], none), (39, [36, 38], none), (40, [39], none), (41, [40], some (40, true)), (42, [40], some (40, true)), (43, [40, 41, 42], some (40, true)), (44, [40, 43], some (40, true)), (45, [40, 44], some (40, true)), (46, [40], some (40, true)), (47, [40, 45, 46], some (40, true)), (48, [40, 47], some (40, true)), (49, [48], some (48, false)), (50, [48], some (48, false)), (51, [48, 49, 50], some (48, false)), (52, [48, 51], some (48, false)), (53, [48, 52], some (48, false)), (54, [48], some (48, false)), (55, [48, 53, 54], some (48, false)), (56, [48, 55], some (48, false)), (57, [56], some (56, true)), (58, [56], some (56, true)), (59, [56, 57, 58], some (56, true)), (60, [56, 59], some (56, true)), (61, [56, 60], some (56, true)), (62, [56], some (56, true)), (63, [56, 61, 62], some (56, true)), (64, [48, 56, 63], some (48, false)), (65, [40, 48, 64], some (40, true)), (66, [40, 65], none)]
              (p8N 0 0 0 0 P Q (r, 0) r true) (by kernel_rfl) (by kernel_rfl) (p8N_mono 0 0 0 0 P Q (r, 0) r true) ?_ ?_
            · refine ⟨?_, ?_, ?_, ?_, ?_, ?_, ?_, ?_, ?_, ?_, ?_, ?_, ?_, ?_, ?_, ?_, ?_, ?_, ?_, ?_, ?_, ?_, ?_, ?_, ?_, ?_, ?_, ?_, ?_, ?_, ?_, trivial⟩
              · intro f w1 hb _ K hK
                simp only [over, overL, Nat.reduceAdd]
                go_simp
                exact hK _ _ ⟨_, rfl, by simp only [over, overL, Nat.reduceAdd]; rfl, Below.refl _ _⟩
              · intro f w1 hb _ K hK
                simp only [over, overL, Nat.reduceAdd]
                go_simp
                exact hK _ _ ⟨_, rfl, by simp only [over, overL, Nat.reduceAdd]; rfl, Below.refl _ _⟩
              · intro f w1 hb ⟨h37, _⟩ K hK
                replace h37 : f 37 = _ := h37
                simp only [over, overL, Nat.reduceAdd, h37]
                go_simp
                exact hK _ _ ⟨_, rfl, by simp only [over, overL, Nat.reduceAdd, h37]; rfl, Below.refl _ _⟩
              · intro f w1 hb ⟨h36, h38, _⟩ K hK
                replace h36 : f 36 = _ := h36
                replace h38 : f 38 = _ := h38
                simp only [over, overL, Nat.reduceAdd, h36, h38]
                go_simp
                exact hK _ _ ⟨_, rfl, by simp only [over, overL, Nat.reduceAdd, h36, h38]; rfl, Below.refl _ _⟩
              · intro f w1 hb ⟨h39, _⟩ K hK
                replace h39 : f 39 = _ := h39
                simp only [over, overL, Nat.reduceAdd, h39]
                go_simp
                exact hK _ _ ⟨_, rfl, by simp only [over, overL, Nat.reduceAdd, h39]; rfl, Below.refl _ _⟩
              · intro f w1 hb ⟨h40, _⟩
                replace h40 : f 40 = _ := h40
                exact ⟨fun hg => absurd (h40.symm.trans hg) (by simp), fun _ => trivial⟩
              · intro f w1 hb ⟨h40, _⟩
                replace h40 : f 40 = _ := h40
                exact ⟨fun hg => absurd (h40.symm.trans hg) (by simp), fun _ => trivial⟩
              · intro f w1 hb ⟨h40, h41, h42, _⟩
                replace h40 : f 40 = _ := h40
                exact ⟨fun hg => absurd (h40.symm.trans hg) (by simp), fun _ => trivial⟩
              · intro f w1 hb ⟨h40, h43, _⟩
                replace h40 : f 40 = _ := h40
                exact ⟨fun hg => absurd (h40.symm.trans hg) (by simp), fun _ => trivial⟩
              · intro f w1 hb ⟨h40, h44, _⟩
                replace h40 : f 40 = _ := h40
                exact ⟨fun hg => absurd (h40.symm.trans hg) (by simp), fun _ => trivial⟩
              · intro f w1 hb ⟨h40, _⟩
                replace h40 : f 40 = _ := h40
                exact ⟨fun hg => absurd (h40.symm.trans hg) (by simp), fun _ => trivial⟩
              · intro f w1 hb ⟨h40, h45, h46, _⟩
                replace h40 : f 40 = _ := h40
                exact ⟨fun hg => absurd (h40.symm.trans hg) (by simp), fun _ => trivial⟩
              · intro f w1 hb ⟨h40, h47, _⟩
                replace h40 : f 40 = _ := h40
                exact ⟨fun hg => absurd (h40.symm.trans hg) (by simp), fun _ => rfl⟩
              · intro f w1 hb ⟨h48, _⟩
                replace h48 : f 48 = _ := h48
                exact ⟨fun hg => absurd (h48.symm.trans hg) (by simp [undef]), fun _ => trivial⟩
              · intro f w1 hb ⟨h48, _⟩
                replace h48 : f 48 = _ := h48
                exact ⟨fun hg => absurd (h48.symm.trans hg) (by simp [undef]), fun _ => trivial⟩
              · intro f w1 hb ⟨h48, h49, h50, _⟩
                replace h48 : f 48 = _ := h48
                exact ⟨fun hg => absurd (h48.symm.trans hg) (by simp [undef]), fun _ => trivial⟩
              · intro f w1 hb ⟨h48, h51, _⟩
                replace h48 : f 48 = _ := h48
                exact ⟨fun hg => absurd (h48.symm.trans hg) (by simp [undef]), fun _ => trivial⟩
              · intro f w1 hb ⟨h48, h52, _⟩
                replace h48 : f 48 = _ := h48
                exact ⟨fun hg => absurd (h48.symm.trans hg) (by simp [undef]), fun _ => trivial⟩
              · intro f w1 hb ⟨h48, _⟩
                replace h48 : f 48 = _ := h48
                exact ⟨fun hg => absurd (h48.symm.trans hg) (by simp [undef]), fun _ => trivial⟩
              · intro f w1 hb ⟨h48, h53, h54, _⟩
                replace h48 : f 48 = _ := h48
                exact ⟨fun hg => absurd (h48.symm.trans hg) (by simp [undef]), fun _ => trivial⟩
              · intro f w1 hb ⟨h48, h55, _⟩
                replace h48 : f 48 = _ := h48
                exact ⟨fun hg => absurd (h48.symm.trans hg) (by simp [undef]), fun _ => rfl⟩
              · intro f w1 hb ⟨h56, _⟩
                replace h56 : f 56 = _ := h56
                exact ⟨fun hg => absurd (h56.symm.trans hg) (by simp [undef]), fun _ => trivial⟩
              · intro f w1 hb ⟨h56, _⟩
                replace h56 : f 56 = _ := h56
                exact ⟨fun hg => absurd (h56.symm.trans hg) (by simp [undef]), fun _ => trivial⟩
              · intro f w1 hb ⟨h56, h57, h58, _⟩
                replace h56 : f 56 = _ := h56
                exact ⟨fun hg => absurd (h56.symm.trans hg) (by simp [undef]), fun _ => trivial⟩
              · intro f w1 hb ⟨h56, h59, _⟩
                replace h56 : f 56 = _ := h56
                exact ⟨fun hg => absurd (h56.symm.trans hg) (by simp [undef]), fun _ => trivial⟩
              · intro f w1 hb ⟨h56, h60, _⟩
                replace h56 : f 56 = _ := h56
                exact ⟨fun hg => absurd (h56.symm.trans hg) (by simp [undef]), fun _ => trivial⟩
              · intro f w1 hb ⟨h56, _⟩
                replace h56 : f 56 = _ := h56
                exact ⟨fun hg => absurd (h56.symm.trans hg) (by simp [undef]), fun _ => trivial⟩
              · intro f w1 hb ⟨h56, h61, h62, _⟩
                replace h56 : f 56 = _ := h56
                exact ⟨fun hg => absurd (h56.symm.trans hg) (by simp [undef]), fun _ => trivial⟩
              · intro f w1 hb ⟨h48, h56, h63, _⟩
                replace h48 : f 48 = _ := h48
                exact ⟨fun hg => absurd (h48.symm.trans hg) (by simp [undef]), fun _ => trivial⟩
              · intro f w1 hb ⟨h40, h48, h64, _⟩
                replace h40 : f 40 = _ := h40
                exact ⟨fun hg => absurd (h40.symm.trans hg) (by simp), fun _ => trivial⟩
              · intro f w1 hb ⟨h40, h65, _⟩ K hK
                replace h40 : f 40 = _ := h40
                simp only [over, overL, Nat.reduceAdd, h40]
                go_simp
                exact hK _ _ ⟨_, rfl, by simp only [over, overL, Nat.reduceAdd, h40]; rfl, Below.refl _ _⟩
            · intro f5 w5 b5 hv5
              have h66 : f5 66 = .bool false := hv5.2.2.2.2.2.2.2.2.2.2.2.2.2.2.2.2.2.2.2.2.2.2.2.2.2.2.2.2.2.2.1
              have KP : Hid (Bk P (pcq r.1) w5) := KP4.out.later b5
              have KQ : Hid (Bk Q (pcq r.2) w5) := KQ4.out.later b5
              have HB5 : Hid (Below wo.heap.size wo w5) := below_on HB4.out b5
              simp only [over, overL, Nat.reduceAdd, h66]
              clear hv5
              go_wp2_with fail
              refine region_inv [false, false, false, false, false, false, false, false, false, false, false, false, false, false, false, false, false, false, false, false, false, false, false, false, false, false, false, false, false, false, false, false, false, false, false, false, false, false, false, false, false, false, false, false, false, false, false, false, false, false, false, false, false, false, false, false, false, false, false, false, false, false, false, false, false, false, false, false, false, true, true, true, true, true, true, true, true, true, true, true, true, true, true, true, true, true, true, true, true, true, true, false, false, false, false, false, false, false, false, false, false, false, false, false, false, false, false, false, false, false, false, false, false, false, false, false, false, false, false, false, false]
                [(69, [], none), (70, [], none), (71, [70], none), (72, [69, 71], none), (73, [72], none), (74, [73], some (73, false)), (75, [73], some (73, false)), (76, [73, 74, 75], some (73, false)), (77, [73, 76], some (73, false)), (78, [73, 77], some (73, false)), (79, [73], some (73, false)), (80, [73, 78, 79], some (73, false)), (81, [73, 80], none), (82, [81], none), (83, [82], some (82, false)), (84, [82], some (82, false)), (85, [82, 83, 84], some (82, false)), (86, [82, 85], some (82, false)), (87, [82, 86], some (82, false)), (88, [82], some (82, false)), (89, [82, 87, 88], some (82, false)), (90, [82, 89], none)]
                (ptN 0 0 0 0 P Q (r, 0) r true) (by kernel_rfl) (by kernel_rfl) (ptN_mono 0 0 0 0 P Q (r, 0) r true) ?_ ?_
              · refine ⟨?_, ?_, ?_, ?_, ?_, ?_, ?_, ?_, ?_, ?_, ?_, ?_, ?_, ?_, ?_, ?_, ?_, ?_, ?_, ?_, ?_, ?_, trivial⟩
                · intro f w1 hb _ K hK
                  simp only [over, overL, Nat.reduceAdd]
                  go_simp
                  exact hK _ _ ⟨_, rfl, by simp only [over, overL, Nat.reduceAdd]; rfl, Below.refl _ _⟩
                · intro f w1 hb _ K hK
                  simp only [over, overL, Nat.reduceAdd]
                  go_simp
                  exact hK _ _ ⟨_, rfl, by simp only [over, overL, Nat.reduceAdd]; rfl, Below.refl _ _⟩
                · intro f w1 hb ⟨h70, _⟩ K hK
                  replace h70 : f 70 = _ := h70
                  simp only [over, overL, Nat.reduceAdd, h70]
                  go_simp
                  exact hK _ _ ⟨_, rfl, by simp only [over, overL, Nat.reduceAdd, h70]; rfl, Below.refl _ _⟩
                · intro f w1 hb ⟨h69, h71, _⟩ K hK
                  replace h69 : f 69 = _ := h69
                  replace h71 : f 71 = _ := h71
                  simp only [over, overL, Nat.reduceAdd, h69, h71]
                  go_simp
                  exact hK _ _ ⟨_, rfl, by simp only [over, overL, Nat.reduceAdd, h69, h71]; rfl, Below.refl _ _⟩
                · intro f w1 hb ⟨h72, _⟩ K hK
                  replace h72 : f 72 = _ := h72
                  simp only [over, overL, Nat.reduceAdd, h72]
                  go_simp
                  exact hK _ _ ⟨_, rfl, by simp only [over, overL, Nat.reduceAdd, h72]; rfl, Below.refl _ _⟩
                · intro f w1 hb ⟨h73, _⟩
                  replace h73 : f 73 = _ := h73
                  exact ⟨fun hg => absurd (h73.symm.trans hg) (by simp), fun _ => trivial⟩
                · intro f w1 hb ⟨h73, _⟩
                  replace h73 : f 73 = _ := h73
                  exact ⟨fun hg => absurd (h73.symm.trans hg) (by simp), fun _ => trivial⟩
                · intro f w1 hb ⟨h73, h74, h75, _⟩
                  replace h73 : f 73 = _ := h73
                  exact ⟨fun hg => absurd (h73.symm.trans hg) (by simp), fun _ => trivial⟩
                · intro f w1 hb ⟨h73, h76, _⟩
                  replace h73 : f 73 = _ := h73
                  exact ⟨fun hg => absurd (h73.symm.trans hg) (by simp), fun _ => trivial⟩
                · intro f w1 hb ⟨h73, h77, _⟩
                  replace h73 : f 73 = _ := h73
                  exact ⟨fun hg => absurd (h73.symm.trans hg) (by simp), fun _ => trivial⟩
                · intro f w1 hb ⟨h73, _⟩
                  replace h73 : f 73 = _ := h73
                  exact ⟨fun hg => absurd (h73.symm.trans hg) (by simp), fun _ => trivial⟩
                · intro f w1 hb ⟨h73, h78, h79, _⟩
                  replace h73 : f 73 = _ := h73
                  exact ⟨fun hg => absurd (h73.symm.trans hg) (by simp), fun _ => trivial⟩
                · intro f w1 hb ⟨h73, h80, _⟩ K hK
                  replace h73 : f 73 = _ := h73
                  simp only [over, overL, Nat.reduceAdd, h73]
                  go_simp
                  exact hK _ _ ⟨_, rfl, by simp only [over, overL, Nat.reduceAdd, h73]; rfl, Below.refl _ _⟩
                · intro f w1 hb ⟨h81, _⟩ K hK
                  replace h81 : f 81 = _ := h81
                  simp only [over, overL, Nat.reduceAdd, h81]
                  go_simp
                  exact hK _ _ ⟨_, rfl, by simp only [over, overL, Nat.reduceAdd, h81]; rfl, Below.refl _ _⟩
                · intro f w1 hb ⟨h82, _⟩
                  replace h82 : f 82 = _ := h82
                  exact ⟨fun hg => absurd (h82.symm.trans hg) (by simp), fun _ => trivial⟩
                · intro f w1 hb ⟨h82, _⟩
                  replace h82 : f 82 = _ := h82
                  exact ⟨fun hg => absurd (h82.symm.trans hg) (by simp), fun _ => trivial⟩
                · intro f w1 hb ⟨h82, h83, h84, _⟩
                  replace h82 : f 82 = _ := h82
                  exact ⟨fun hg => absurd (h82.symm.trans hg) (by simp), fun _ => trivial⟩
                · intro f w1 hb ⟨h82, h85, _⟩
                  replace h82 : f 82 = _ := h82
                  exact ⟨fun hg => absurd (h82.symm.trans hg) (by simp), fun _ => trivial⟩
                · intro f w1 hb ⟨h82, h86, _⟩
                  replace h82 : f 82 = _ := h82
                  exact ⟨fun hg => absurd (h82.symm.trans hg) (by simp), fun _ => trivial⟩
                · intro f w1 hb ⟨h82, _⟩
                  replace h82 : f 82 = _ := h82
                  exact ⟨fun hg => absurd (h82.symm.trans hg) (by simp), fun _ => trivial⟩
                · intro f w1 hb ⟨h82, h87, h88, _⟩
                  replace h82 : f 82 = _ := h82
                  exact ⟨fun hg => absurd (h82.symm.trans hg) (by simp), fun _ => trivial⟩
                · intro f w1 hb ⟨h82, h89, _⟩ K hK
                  replace h82 : f 82 = _ := h82
                  simp only [over, overL, Nat.reduceAdd, h82]
                  go_simp
                  exact hK _ _ ⟨_, rfl, by simp only [over, overL, Nat.reduceAdd, h82]; rfl, Below.refl _ _⟩
              · intro f2 w6 b6 hv2
                have h90 : f2 90 = .bool true := hv2.2.2.2.2.2.2.2.2.2.2.2.2.2.2.2.2.2.2.2.2.2.1
                have HPL : Hid (P < w6.heap.size ∧ Q < w6.heap.size) := ⟨Nat.lt_of_lt_of_le KP.out.1 b6.size, Nat.lt_of_lt_of_le KQ.out.1 b6.size⟩
                have HB6 : Hid (Below wo.heap.size wo w6) := below_on HB5.out b6
                have KP : Hid (Bk P (pcq r.1) w6) := KP.out.later b6
                have KQ : Hid (Bk Q (pcq r.2) w6) := KQ.out.later b6
                simp only [over, overL, Nat.reduceAdd, h90]
                clear hv2
                obtain ⟨z, hz⟩ : ∃ z : Int, z = 0 := ⟨0, rfl⟩
                obtain ⟨lst, hlst⟩ : ∃ lst : Prs, lst = [] ++ (r, 0) :: [] := ⟨_, rfl⟩
                have HLST : Hid (lst = [] ++ (r, 0) :: []) := hlst
                have hll : lst.length = 1 := by rw [hlst]; simp
                have hk8 : 0 < lst.length := by omega
                have hl8 : lst.length ≤ 9000001 := by omega
                clear hll
                have HLK : Hid (lst[0]'hk8 = (r, z)) := by
                  have h : lst[0]? = some (r, 0) := by rw [hlst]; simp
                  have h2 := List.getElem?_eq_getElem hk8
                  rw [h] at h2
                  injection h2 with h2
                  show _ = _
                  rw [← h2, hz]
                have HSET : Hid (lst.set 0 (r, z + x.vol) = addP r x.vol []) := by
                  show _ = _
                  rw [HNEW.out, hlst, hz, Int.zero_add]
                  simp
                have hz0 : 0 ≤ z ∧ z ≤ 9000000000000000 := by omega
                obtain ⟨hz0, hz1⟩ := hz0
                clear hz hlst
                go_wp2_with (first
                  | (at_builtin; refine wpList_append_opt goodQ Try.underlying27 infoQ rfl (by decide) _ rfl (.tmp 91) (.tmp 94) rfl w6.heap.size (.slice none 0 0) [] rfl (OwnR.nil _ _ _) none 0 _ [] rfl rfl (.inl rfl) (fun _ => rfl) (by unfold maxLen; simp) (by simp) (Nat.le_refl _) ?_; intro v7 w7 o7 g7 n7; have b7 := below_row (Below.refl _ _) (OwnR.nil encQ w6 w6.heap.size) g7 (Nat.le_refl _); have KP7 := KP.out.later b7; have KQ7 := KQ.out.later b7; have p0 := KP7.c 0 rfl; have p1 := KP7.c 1 rfl; have p2 := KP7.c 2 rfl; have s0 := KQ7.c 0 rfl; have s1 := KQ7.c 1 rfl; have s2 := KQ7.c 2 rfl; obtain ⟨ao7, m7, c7, rfl⟩ := o7.form)
                  | (at_builtin; refine wpList_append_row goodQ Try.underlying27 infoQ rfl (by decide) (by decide) _ rfl (.tmp 96) (.tmp 100) rfl w6.heap.size (.slice ao7 m7 c7) ([] ++ []) rfl (o7.alloc _) w7.heap.size (r, 0) rfl (fun j u hu => (Bk.new w7 (qrl (r, 0)) 39 w7.heap.size rfl).c j hu) (by simp) (by have := b7.size; simp; omega) ?_; intro v7b w7b o7b g7b n7b; have b7b := below_row (below_on b7 ((Below.refl _ _).alloc (Nat.le_refl _) _)) (o7.alloc _) g7b (by have := b7.size; simp; omega); obtain ⟨ao7b, m7b, c7b, rfl⟩ := o7b.form)
                  | (at_builtin; refine wpList_append_opt goodQ Try.underlying27 infoQ rfl (by decide) _ rfl (.tmp 102) (.tmp 105) rfl w6.heap.size (.slice ao7b m7b c7b) ([] ++ [] ++ [(r, 0)]) rfl o7b none 0 _ [] rfl rfl (.inl rfl) (fun _ => rfl) (by unfold maxLen; simp) (by simp) b7b.size ?_; intro v8 w8 o8 g8 n8; have b8 := below_row b7b o7b g8 b7b.size; have o8b : OwnR encQ w8 w6.heap.size v8 lst := (by rw [HLST.out]; simpa using o8); obtain ⟨gg, cc, rfl, hgg, hgl⟩ := own_some o8b (by rw [HLST.out]; simp)))
                have HB8 : Hid (Below wo.heap.size wo w8) := below_on HB6.out b8
                have HO8 : Hid (OwnR encQ w8 w3.heap.size (.slice (some ⟨gg, 0, none⟩) lst.length cc) lst) := o8b.base (by have := HBO.out.size; have := HB6.out.size; omega)
                have hg8 : w3.heap.size ≤ gg := by have := HBO.out.size; have := HB6.out.size; omega
                have hs68 : w6.heap.size ≤ w8.heap.size := b8.size
                clear o8 o8b
                have HZ6 : Hid (∀ W1, Below w8.heap.size w8 W1 → W1.cell? ⟨gg, 0 + 6, none⟩ = some (.int .i64 z)) := fun W1 hb => by
                  have h := ((HO8.out.later hb).cellAt goodQ hk8 (j := 6) (by decide)).1
                  rw [HLK.out] at h
                  exact h
                have HV4 : Hid (∀ W1, Below w8.heap.size w8 W1 → W1.cell? ⟨gm, om + i * 6 + 4, none⟩ = some (.int .i64 x.vol)) := fun W1 hb => (HX.out W1 (below_on HB8.out hb)).2.2.2.2
                have hki8 : (0 : Int) < (lst.length : Int) := by omega
                have HADD : Hid (∀ W1, (binOp .add 3 (.int .i64 z) (.int .i64 x.vol)).run Try.prog W1 = .ok (.int .i64 (z + x.vol)) W1) := fun W1 => add_small z x.vol (by omega) (by omega) W1
                refine region_seq 13 [false, false, false, false, false, false, false, false, false, false, false, false, false, false, false, false, false, false, false, false, false, false, false, false, false, false, false, false, false, false, false, false, false, false, false, false, false, false, false, false, false, false, false, false, false, false, false, false, false, false, false, false, false, false, false, false, false, false, false, false, false, false, false, false, false, false, false, false, false, false, false, false, false, false, false, false, false, false, false, false, false, false, false, false, false, false, false, false, false, false, false, false, false, false, false, false, false, false, false, false, false, false, false, false, false, false, false, true, true, true, true, true, true, true, true, true, true, true, true, true, false]
                  [(107, [], none), (108, [], none), (109, [107, 108], none), (110, [109], none), (111, [110], none), (112, [], none), (113, [], none), (114, [112, 113], none), (115, [114], none), (116, [115], none), (117, [111, 116], none), (118, [107, 108], none), (119, [118], none)]
                  (p15 gg lst.length cc 0 gm om os.length cS i z x.vol) (by kernel_rfl) (by kernel_rfl) (by kernel_rfl) (by kernel_rfl) (by kernel_rfl) (by decide) (p15_mono gg lst.length cc 0 gm om os.length cS i z x.vol) ?_ ?_
                · refine ⟨?_, ?_, ?_, ?_, ?_, ?_, ?_, ?_, ?_, ?_, ?_, ?_, ?_, trivial⟩
                  · intro f w1 hb _ K hK
                    simp only [over, overL, Nat.reduceAdd]
                    go_simp
                    exact hK _ _ ⟨_, rfl, by simp only [over, overL, Nat.reduceAdd]; rfl, Below.refl _ _⟩
                  · intro f w1 hb _ K hK
                    simp only [over, overL, Nat.reduceAdd]
                    go_simp
                    exact hK _ _ ⟨_, rfl, by simp only [over, overL, Nat.reduceAdd]; rfl, Below.refl _ _⟩
                  · intro f w1 hb ⟨h107, h108, _⟩ K hK
                    replace h107 : f 107 = _ := h107
                    replace h108 : f 108 = _ := h108
                    simp only [over, overL, Nat.reduceAdd, h107, h108]
                    go_simp
                    exact hK _ _ ⟨_, rfl, by simp only [over, overL, Nat.reduceAdd, h107, h108]; rfl, Below.refl _ _⟩
                  · intro f w1 hb ⟨h109, _⟩ K hK
                    replace h109 : f 109 = _ := h109
                    simp only [over, overL, Nat.reduceAdd, h109]
                    go_simp
                    exact hK _ _ ⟨_, rfl, by simp only [over, overL, Nat.reduceAdd, h109]; rfl, Below.refl _ _⟩
                  · intro f w1 hb ⟨h110, _⟩ K hK
                    replace h110 : f 110 = _ := h110
                    have q6 := HZ6.out w1 hb
                    simp only [over, overL, Nat.reduceAdd, h110]
                    go_simp
                    exact hK _ _ ⟨_, rfl, by simp only [over, overL, Nat.reduceAdd, h110]; rfl, Below.refl _ _⟩
                  · intro f w1 hb _ K hK
                    simp only [over, overL, Nat.reduceAdd]
                    go_simp
                    exact hK _ _ ⟨_, rfl, by simp only [over, overL, Nat.reduceAdd]; rfl, Below.refl _ _⟩
                  · intro f w1 hb _ K hK
                    simp only [over, overL, Nat.reduceAdd]
                    go_simp
                    exact hK _ _ ⟨_, rfl, by simp only [over, overL, Nat.reduceAdd]; rfl, Below.refl _ _⟩
                  · intro f w1 hb ⟨h112, h113, _⟩ K hK
                    replace h112 : f 112 = _ := h112
                    replace h113 : f 113 = _ := h113
                    simp only [over, overL, Nat.reduceAdd, h112, h113]
                    go_simp
                    exact hK _ _ ⟨_, rfl, by simp only [over, overL, Nat.reduceAdd, h112, h113]; rfl, Below.refl _ _⟩
                  · intro f w1 hb ⟨h114, _⟩ K hK
                    replace h114 : f 114 = _ := h114
                    simp only [over, overL, Nat.reduceAdd, h114]
                    go_simp
                    exact hK _ _ ⟨_, rfl, by simp only [over, overL, Nat.reduceAdd, h114]; rfl, Below.refl _ _⟩
                  · intro f w1 hb ⟨h115, _⟩ K hK
                    replace h115 : f 115 = _ := h115
                    have q4 := HV4.out w1 hb
                    simp only [over, overL, Nat.reduceAdd, h115]
                    go_simp
                    exact hK _ _ ⟨_, rfl, by simp only [over, overL, Nat.reduceAdd, h115]; rfl, Below.refl _ _⟩
                  · intro f w1 hb ⟨h111, h116, _⟩ K hK
                    replace h111 : f 111 = _ := h111
                    replace h116 : f 116 = _ := h116
                    have q0 := HADD.out w1
                    simp only [over, overL, Nat.reduceAdd, h111, h116]
                    refine wp_binopV rfl (by go_simp) q0 ?_
                    exact hK _ _ ⟨_, rfl, by simp only [over, overL, Nat.reduceAdd, h111, h116], Below.refl _ _⟩
                  · intro f w1 hb ⟨h107, h108, _⟩ K hK
                    replace h107 : f 107 = _ := h107
                    replace h108 : f 108 = _ := h108
                    simp only [over, overL, Nat.reduceAdd, h107, h108]
                    go_simp
                    exact hK _ _ ⟨_, rfl, by simp only [over, overL, Nat.reduceAdd, h107, h108]; rfl, Below.refl _ _⟩
                  · intro f w1 hb ⟨h118, _⟩ K hK
                    replace h118 : f 118 = _ := h118
                    simp only [over, overL, Nat.reduceAdd, h118]
                    go_simp
                    exact hK _ _ ⟨_, rfl, by simp only [over, overL, Nat.reduceAdd, h118]; rfl, Below.refl _ _⟩
                · intro f3 w9 b9 hv3
                  have h117 : f3 117 = .int .i64 (z + x.vol) := hv3.2.2.2.2.2.2.2.2.2.2.1
                  have h119 : f3 119 = .pointer (some ⟨gg, 0 + 6, none⟩) := hv3.2.2.2.2.2.2.2.2.2.2.2.2.1
                  have O9 := HO8.out.later b9
                  have s6 := HZ6.out w9 b9
                  have sf6 : w9.frozen? ⟨gg, 0 + 6, none⟩ = false := (O9.cellAt goodQ hk8 (j := 6) (by decide)).2
                  simp only [List.drop, over, overL, Nat.reduceAdd, h117, h119]
                  clear hv3
                  go_wp2
                  go_roundw
                  case rel =>
                    have hB9 := below_on HBO.out (below_on HB8.out b9)
                    have O10 := O9.set goodQ hk8 (o := 6) (by decide) (.int .i64 (z + x.vol)) (r, z + x.vol) (by rw [HLK.out]; rfl)
                    rw [HSET.out] at O10
                    have hs9 := Nat.le_trans HB8.out.size b9.size
                    refine ⟨i + 1, _, _, _, by omega, rfl, by go_num, rfl, rfl, ?_, hB9.setCell hg8 _, fun b e => ?_, fun b e => ?_⟩
                    · rw [HNX.out]
                      have e : (.slice (some ⟨gg, 0, none⟩) lst.length cc : Value) = .slice (some ⟨gg, 0, none⟩) (addP r x.vol []).length cc := by rw [← HSET.out, List.length_set]
                      exact O10
                    · simp at e; subst e; have := HPL.out.1; have := b9.size; simp [World.setCell]; omega
                    · simp at e; subst e; have := HPL.out.2; have := b9.size; simp [World.setCell]; omega
                  case measure => simp [intOf]; omega
        · go_wp2
          go_loopw [9] (fun q9 wr => ∃ k : Nat, k ≤ out.length ∧ q9 = .int .i64 k ∧ (∀ y ∈ out.take k, rltB y.1 r = true) ∧ Below wo.heap.size wo wr ∧ Below w4.heap.size w4 wr) (fun i _ => out.length - (intOf i).toNat)
          case atStart => exact ⟨0, Nat.zero_le _, rfl, (fun y hy => by simp at hy), HB4.out, Below.refl _ _⟩
          case round =>
            obtain ⟨k, hk, rfl, hall, hbk, hbk4⟩ := hrel
            have HALL : Hid (∀ y ∈ out.take k, rltB y.1 r = true) := hall
            have HBK : Hid (Below wo.heap.size wo wr) := hbk
            have HB4K : Hid (Below w4.heap.size w4 wr) := hbk4
            have KP : Hid (Bk P (pcq r.1) wr) := KP4.out.later hbk4
            have KQ : Hid (Bk Q (pcq r.2) wr) := KQ4.out.later hbk4
            clear hall hbk hbk4
            by_cases hkl : k < out.length
            · have hki : (k : Int) < (out.length : Int) := by omega
              have hkb : ((k : Int) == (out.length : Int)) = false := by simp; omega
              have hcy : ∀ j, j < 7 → wr.cell? ⟨g, k * 7 + j, none⟩ = (encQ.enc (out[k]'hkl))[j]? := fun j hj => ((HOV.out.later HBK.out).cellAt goodQ hkl hj).1
              have HTK : Hid (out.take (k + 1) = out.take k ++ [out[k]'hkl]) := by show _ = _; rw [List.take_succ_eq_append_getElem hkl]
              have HAN : Hid (rltB (out[k]'hkl).1 r = false → (out[k]'hkl).1 ≠ r → addP r x.vol out = out.take k ++ (r, x.vol) :: out.drop k) := fun h h2 => addP_new hk HALL.out (fun _ => ⟨h, h2⟩)
              obtain ⟨y, hy⟩ : ∃ y, out[k]'hkl = y := ⟨_, rfl⟩
              have HYK : Hid (out[k]'hkl = y) := hy
              rw [hy] at hcy HTK HAN
              clear hy
              have c0 := hcy 0 (by decide)
              have c1 := hcy 1 (by decide)
              have c2 := hcy 2 (by decide)
              have c3 := hcy 3 (by decide)
              have c4 := hcy 4 (by decide)
              have c5 := hcy 5 (by decide)
              simp only [qrl, List.getElem?_cons_zero, List.getElem?_cons_succ, Nat.add_zero] at c0 c1 c2 c3 c4 c5
              have HY : Hid (∀ W1, Below wr.heap.size wr W1 → W1.cell? ⟨g, k * 7, none⟩ = some (.int .i64 y.1.1.1) ∧ W1.cell? ⟨g, k * 7 + 1, none⟩ = some (.int .i64 y.1.1.2.1) ∧ W1.cell? ⟨g, k * 7 + 2, none⟩ = some (.int .i64 y.1.1.2.2) ∧ W1.cell? ⟨g, k * 7 + 3, none⟩ = some (.int .i64 y.1.2.1) ∧ W1.cell? ⟨g, k * 7 + 4, none⟩ = some (.int .i64 y.1.2.2.1) ∧ W1.cell? ⟨g, k * 7 + 5, none⟩ = some (.int .i64 y.1.2.2.2)) := fun W1 hb => ⟨cell_later hb c0, cell_later hb c1, cell_later hb c2, cell_later hb c3, cell_later hb c4, cell_later hb c5⟩
              clear c0 c1 c2 c3 c4 c5 hcy
              cases hp1 : pltB y.1.1 r.1 with
              | true =>
                have HP1 : Hid (∀ W, Calls Try.prog 22 #[plv y.1.1, plv r.1] W fun e w' => e = .returned (.bool true) ∧ Below W.heap.size W w') := fun W => by have h := placeLess_any y.1.1 r.1 W; rwa [hp1] at h
                go_wp2_with fail
                refine region_inv [false, false, false, false, false, false, false, false, false, false, false, false, false, false, false, false, false, false, false, false, false, false, false, false, false, false, false, false, false, false, false, false, false, false, false, false, true, true, true, true, true, true, true, true, true, true, true, true, true, true, true, true, true, true, true, true, true, true, true, true, true, true, true, true, true, true, true, false, false, false, false, false, false, false, false, false, false, false, false, false, false, false, false, false, false, false, false, false, false, false, false, false, false, false, false, false, false, false, false, false, false, false, false, false, false, false, false, false, false, false, false, false, false, false, false, false, false, false, false, false, false]
                  [(36, [], none), (37, [], none), (38, [37], none), (39, [36, 38], none), (40, [39], none), (41, [40], some (40, true)), (42, [40], some (40, true)), (43, [40, 41, 42], some (40, true)), (44, [40, 43], some (40, true)), (45, [40, 44], some (40, true)), (46, [40], some (40, true)), (47, [40, 45, 46], some (40, true)), (48, [40, 47], some (40, true)), (49, [48], some (48, false)), (50, [48], some (48, false)), (51, [48, 49, 50], some (48, false)), (52, [48, 51], some (48, false)), (53, [48, 52], some (48, false)), (54, [48], some (48, false)), (55, [48, 53, 54], some (48, false)), (56, [48, 55], some (48, false)), (57, [56], some (56, true)), (58, [56], some (56, true)), (59, [56, 57, 58], some (56, true)), (60, [56, 59], some (56, true)), (61, [56, 60], some (56, true)), (62, [56], some (56, true)), (63, [56, 61, 62], some (56, true)), (64, [48, 56, 63], some (48, false)), (65, [40, 48, 64], some (40, true)), (66, [40, 65], none)]
                  (p8A g out.length cap2 k P Q y r true) (by kernel_rfl) (by kernel_rfl) (p8A_mono g out.length cap2 k P Q y r true) ?_ ?_
                · refine ⟨?_, ?_, ?_, ?_, ?_, ?_, ?_, ?_, ?_, ?_, ?_, ?_, ?_, ?_, ?_, ?_, ?_, ?_, ?_, ?_, ?_, ?_, ?_, ?_, ?_, ?_, ?_, ?_, ?_, ?_, ?_, trivial⟩
                  · intro f w1 hb _ K hK
                    simp only [over, overL, Nat.reduceAdd]
                    go_simp
                    exact hK _ _ ⟨_, rfl, by simp only [over, overL, Nat.reduceAdd]; rfl, Below.refl _ _⟩
                  · intro f w1 hb _ K hK
                    simp only [over, overL, Nat.reduceAdd]
                    go_simp
                    exact hK _ _ ⟨_, rfl, by simp only [over, overL, Nat.reduceAdd]; rfl, Below.refl _ _⟩
                  · intro f w1 hb ⟨h37, _⟩ K hK
                    replace h37 : f 37 = _ := h37
                    simp only [over, overL, Nat.reduceAdd, h37]
                    go_simp
                    exact hK _ _ ⟨_, rfl, by simp only [over, overL, Nat.reduceAdd, h37]; rfl, Below.refl _ _⟩
                  · intro f w1 hb ⟨h36, h38, _⟩ K hK
                    replace h36 : f 36 = _ := h36
                    replace h38 : f 38 = _ := h38
                    simp only [over, overL, Nat.reduceAdd, h36, h38]
                    go_simp
                    exact hK _ _ ⟨_, rfl, by simp only [over, overL, Nat.reduceAdd, h36, h38]; rfl, Below.refl _ _⟩
                  · intro f w1 hb ⟨h39, _⟩ K hK
                    replace h39 : f 39 = _ := h39
                    simp only [over, overL, Nat.reduceAdd, h39]
                    go_simp
                    exact hK _ _ ⟨_, rfl, by simp only [over, overL, Nat.reduceAdd, h39]; rfl, Below.refl _ _⟩
                  · intro f w1 hb ⟨h40, _⟩
                    replace h40 : f 40 = _ := h40
                    refine ⟨fun _ => ?_, fun hg => absurd h40 hg⟩
                    intro K hK
                    simp only [over, overL, Nat.reduceAdd, h40]
                    go_simp
                    exact hK _ _ ⟨_, rfl, by simp only [over, overL, Nat.reduceAdd, h40]; rfl, Below.refl _ _⟩
                  · intro f w1 hb ⟨h40, _⟩
                    replace h40 : f 40 = _ := h40
                    refine ⟨fun _ => ?_, fun hg => absurd h40 hg⟩
                    intro K hK
                    simp only [over, overL, Nat.reduceAdd, h40]
                    go_simp
                    exact hK _ _ ⟨_, rfl, by simp only [over, overL, Nat.reduceAdd, h40]; rfl, Below.refl _ _⟩
                  · intro f w1 hb ⟨h40, h41, h42, _⟩
                    replace h40 : f 40 = _ := h40
                    replace h41 : f 41 = _ := h41
                    replace h42 : f 42 = _ := h42
                    refine ⟨fun _ => ?_, fun hg => absurd h40 hg⟩
                    intro K hK
                    simp only [over, overL, Nat.reduceAdd, h40, h41, h42]
                    go_simp
                    exact hK _ _ ⟨_, rfl, by simp only [over, overL, Nat.reduceAdd, h40, h41, h42]; rfl, Below.refl _ _⟩
                  · intro f w1 hb ⟨h40, h43, _⟩
                    replace h40 : f 40 = _ := h40
                    replace h43 : f 43 = _ := h43
                    refine ⟨fun _ => ?_, fun hg => absurd h40 hg⟩
                    intro K hK
                    simp only [over, overL, Nat.reduceAdd, h40, h43]
                    go_simp
                    exact hK _ _ ⟨_, rfl, by simp only [over, overL, Nat.reduceAdd, h40, h43]; rfl, Below.refl _ _⟩
                  · intro f w1 hb ⟨h40, h44, _⟩
                    replace h40 : f 40 = _ := h40
                    replace h44 : f 44 = _ := h44
                    refine ⟨fun _ => ?_, fun hg => absurd h40 hg⟩
                    intro K hK
                    obtain ⟨q0, q1, q2, q3, q4, q5⟩ := HY.out w1 hb
                    simp only [over, overL, Nat.reduceAdd, h40, h44]
                    go_simp
                    exact hK _ _ ⟨_, rfl, by simp only [over, overL, Nat.reduceAdd, h40, h44]; rfl, Below.refl _ _⟩
                  · intro f w1 hb ⟨h40, _⟩
                    replace h40 : f 40 = _ := h40
                    refine ⟨fun _ => ?_, fun hg => absurd h40 hg⟩
                    intro K hK
                    have q0 := (KP.out.later hb).c 0 rfl
                    have q1 := (KP.out.later hb).c 1 rfl
                    have q2 := (KP.out.later hb).c 2 rfl
                    simp only [over, overL, Nat.reduceAdd, h40]
                    go_simp
                    exact hK _ _ ⟨_, rfl, by simp only [over, overL, Nat.reduceAdd, h40]; rfl, Below.refl _ _⟩
                  · intro f w1 hb ⟨h40, h45, h46, _⟩
                    replace h40 : f 40 = _ := h40
                    replace h45 : f 45 = _ := h45
                    replace h46 : f 46 = _ := h46
                    refine ⟨fun _ => ?_, fun hg => absurd h40 hg⟩
                    intro K hK
                    simp only [over, overL, Nat.reduceAdd, h40, h45, h46]
                    go_simp
                    refine (HP1.out w1).mono ?_
                    rintro e w2 ⟨rfl, hb2⟩
                    exact hK _ _ ⟨_, rfl, by simp only [over, overL, Nat.reduceAdd, h40, h45, h46]; rfl, hb2⟩
                  · intro f w1 hb ⟨h40, h47, _⟩
                    replace h40 : f 40 = _ := h40
                    replace h47 : f 47 = _ := h47
                    refine ⟨fun _ => ?_, fun hg => absurd h40 hg⟩
                    intro K hK
                    simp only [over, overL, Nat.reduceAdd, h40, h47]
                    go_simp
                    exact hK _ _ ⟨_, rfl, by simp only [over, overL, Nat.reduceAdd, h40, h47]; rfl, Below.refl _ _⟩
                  · intro f w1 hb ⟨h48, _⟩
                    replace h48 : f 48 = _ := h48
                    exact ⟨fun hg => absurd (h48.symm.trans hg) (by simp), fun _ => trivial⟩
                  · intro f w1 hb ⟨h48, _⟩
                    replace h48 : f 48 = _ := h48
                    exact ⟨fun hg => absurd (h48.symm.trans hg) (by simp), fun _ => trivial⟩
                  · intro f w1 hb ⟨h48, h49, h50, _⟩
                    replace h48 : f 48 = _ := h48
                    exact ⟨fun hg => absurd (h48.symm.trans hg) (by simp), fun _ => trivial⟩
                  · intro f w1 hb ⟨h48, h51, _⟩
                    replace h48 : f 48 = _ := h48
                    exact ⟨fun hg => absurd (h48.symm.trans hg) (by simp), fun _ => trivial⟩
                  · intro f w1 hb ⟨h48, h52, _⟩
                    replace h48 : f 48 = _ := h48
                    exact ⟨fun hg => absurd (h48.symm.trans hg) (by simp), fun _ => trivial⟩
                  · intro f w1 hb ⟨h48, _⟩
                    replace h48 : f 48 = _ := h48
                    exact ⟨fun hg => absurd (h48.symm.trans hg) (by simp), fun _ => trivial⟩
                  · intro f w1 hb ⟨h48, h53, h54, _⟩
                    replace h48 : f 48 = _ := h48
                    exact ⟨fun hg => absurd (h48.symm.trans hg) (by simp), fun _ => trivial⟩
                  · intro f w1 hb ⟨h48, h55, _⟩
                    replace h48 : f 48 = _ := h48
                    exact ⟨fun hg => absurd (h48.symm.trans hg) (by simp), fun _ => rfl⟩
                  · intro f w1 hb ⟨h56, _⟩
                    replace h56 : f 56 = _ := h56
                    exact ⟨fun hg => absurd (h56.symm.trans hg) (by simp [undef]), fun _ => trivial⟩
                  · intro f w1 hb ⟨h56, _⟩
                    replace h56 : f 56 = _ := h56
                    exact ⟨fun hg => absurd (h56.symm.trans hg) (by simp [undef]), fun _ => trivial⟩
                  · intro f w1 hb ⟨h56, h57, h58, _⟩
                    replace h56 : f 56 = _ := h56
                    exact ⟨fun hg => absurd (h56.symm.trans hg) (by simp [undef]), fun _ => trivial⟩
                  · intro f w1 hb ⟨h56, h59, _⟩
                    replace h56 : f 56 = _ := h56
                    exact ⟨fun hg => absurd (h56.symm.trans hg) (by simp [undef]), fun _ => trivial⟩
                  · intro f w1 hb ⟨h56, h60, _⟩
                    replace h56 : f 56 = _ := h56
                    exact ⟨fun hg => absurd (h56.symm.trans hg) (by simp [undef]), fun _ => trivial⟩
                  · intro f w1 hb ⟨h56, _⟩
                    replace h56 : f 56 = _ := h56
                    exact ⟨fun hg => absurd (h56.symm.trans hg) (by simp [undef]), fun _ => trivial⟩
                  · intro f w1 hb ⟨h56, h61, h62, _⟩
                    replace h56 : f 56 = _ := h56
                    exact ⟨fun hg => absurd (h56.symm.trans hg) (by simp [undef]), fun _ => trivial⟩
                  · intro f w1 hb ⟨h48, h56, h63, _⟩
                    replace h48 : f 48 = _ := h48
                    exact ⟨fun hg => absurd (h48.symm.trans hg) (by simp), fun _ => trivial⟩
                  · intro f w1 hb ⟨h40, h48, h64, _⟩
                    replace h40 : f 40 = _ := h40
                    replace h48 : f 48 = _ := h48
                    refine ⟨fun _ => ?_, fun hg => absurd h40 hg⟩
                    intro K hK
                    simp only [over, overL, Nat.reduceAdd, h40, h48]
                    go_simp
                    exact hK _ _ ⟨_, rfl, by simp only [over, overL, Nat.reduceAdd, h40, h48]; rfl, Below.refl _ _⟩
                  · intro f w1 hb ⟨h40, h65, _⟩ K hK
                    replace h40 : f 40 = _ := h40
                    replace h65 : f 65 = _ := h65
                    simp only [over, overL, Nat.reduceAdd, h40, h65]
                    go_simp
                    exact hK _ _ ⟨_, rfl, by simp only [over, overL, Nat.reduceAdd, h40, h65]; rfl, Below.refl _ _⟩
                · intro f5 w5 b5 hv5
                  have h66 : f5 66 = .bool true := hv5.2.2.2.2.2.2.2.2.2.2.2.2.2.2.2.2.2.2.2.2.2.2.2.2.2.2.2.2.2.2.1
                  have KP : Hid (Bk P (pcq r.1) w5) := KP.out.later b5
                  have KQ : Hid (Bk Q (pcq r.2) w5) := KQ.out.later b5
                  have HB5 : Hid (Below wo.heap.size wo w5) := below_on HBK.out b5
                  clear hv5
                  simp only [over, overL, Nat.reduceAdd, h66]
                  go_wp2
                  go_roundw
                  case rel =>
                    refine ⟨k + 1, by omega, by go_num, ?_, HB5.out, below_on HB4K.out b5⟩
                    intro z hz
                    rw [HTK.out] at hz
                    rcases List.mem_append.1 hz with hz | hz
                    · exact HALL.out z hz
                    · simp at hz; rw [hz, rlt_iff]; exact .inl hp1
                  case measure => simp [intOf]; omega
              | false =>
                by_cases he1 : y.1.1 = r.1
                · have HP1 : Hid (∀ W, Calls Try.prog 22 #[plv y.1.1, plv r.1] W fun e w' => e = .returned (.bool false) ∧ Below W.heap.size W w') := fun W => by have h := placeLess_any y.1.1 r.1 W; rwa [hp1] at h
                  have HE : Hid (∀ W1, (binOp .eql 26 (.agg #[.int .i64 y.1.1.1, .int .i64 y.1.1.2.1, .int .i64 y.1.1.2.2]) (.agg #[.int .i64 r.1.1, .int .i64 r.1.2.1, .int .i64 r.1.2.2])).run Try.prog W1 = .ok (.bool true) W1) := fun W1 => by have h := pl_sameV y.1.1 r.1 W1; rwa [decide_eq_true he1] at h
                  have HE1 : Hid (∀ W1, (binOp .neq 26 (.agg #[.int .i64 y.1.1.1, .int .i64 y.1.1.2.1, .int .i64 y.1.1.2.2]) (.agg #[.int .i64 r.1.1, .int .i64 r.1.2.1, .int .i64 r.1.2.2])).run Try.prog W1 = .ok (.bool false) W1) := fun W1 => by have h := pl_neqV y.1.1 r.1 W1; rwa [decide_eq_true he1, Bool.not_true] at h
                  have HQ1 : Hid (y.1.1 = r.1) := he1
                  clear he1
                  obtain ⟨b3, hb3⟩ : ∃ b3, pltB y.1.2 r.2 = b3 := ⟨_, rfl⟩
                  have HP2 : Hid (∀ W, Calls Try.prog 22 #[plv y.1.2, plv r.2] W fun e w' => e = .returned (.bool b3) ∧ Below W.heap.size W w') := fun W => by have h := placeLess_any y.1.2 r.2 W; rwa [hb3] at h
                  have HB3B : Hid (pltB y.1.2 r.2 = b3) := hb3
                  clear hb3
                  go_wp2_with fail
                  refine region_inv [false, false, false, false, false, false, false, false, false, false, false, false, false, false, false, false, false, false, false, false, false, false, false, false, false, false, false, false, false, false, false, false, false, false, false, false, true, true, true, true, true, true, true, true, true, true, true, true, true, true, true, true, true, true, true, true, true, true, true, true, true, true, true, true, true, true, true, false, false, false, false, false, false, false, false, false, false, false, false, false, false, false, false, false, false, false, false, false, false, false, false, false, false, false, false, false, false, false, false, false, false, false, false, false, false, false, false, false, false, false, false, false, false, false, false, false, false, false, false, false, false]
                    [(36, [], none), (37, [], none), (38, [37], none), (39, [36, 38], none), (40, [39], none), (41, [40], some (40, true)), (42, [40], some (40, true)), (43, [40, 41, 42], some (40, true)), (44, [40, 43], some (40, true)), (45, [40, 44], some (40, true)), (46, [40], some (40, true)), (47, [40, 45, 46], some (40, true)), (48, [40, 47], some (40, true)), (49, [48], some (48, false)), (50, [48], some (48, false)), (51, [48, 49, 50], some (48, false)), (52, [48, 51], some (48, false)), (53, [48, 52], some (48, false)), (54, [48], some (48, false)), (55, [48, 53, 54], some (48, false)), (56, [48, 55], some (48, false)), (57, [56], some (56, true)), (58, [56], some (56, true)), (59, [56, 57, 58], some (56, true)), (60, [56, 59], some (56, true)), (61, [56, 60], some (56, true)), (62, [56], some (56, true)), (63, [56, 61, 62], some (56, true)), (64, [48, 56, 63], some (48, false)), (65, [40, 48, 64], some (40, true)), (66, [40, 65], none)]
                    (p8C g out.length cap2 k P Q y r b3) (by kernel_rfl) (by kernel_rfl) (p8C_mono g out.length cap2 k P Q y r b3) ?_ ?_
                  · refine ⟨?_, ?_, ?_, ?_, ?_, ?_, ?_, ?_, ?_, ?_, ?_, ?_, ?_, ?_, ?_, ?_, ?_, ?_, ?_, ?_, ?_, ?_, ?_, ?_, ?_, ?_, ?_, ?_, ?_, ?_, ?_, trivial⟩
                    · intro f w1 hb _ K hK
                      simp only [over, overL, Nat.reduceAdd]
                      go_simp
                      exact hK _ _ ⟨_, rfl, by simp only [over, overL, Nat.reduceAdd]; rfl, Below.refl _ _⟩
                    · intro f w1 hb _ K hK
                      simp only [over, overL, Nat.reduceAdd]
                      go_simp
                      exact hK _ _ ⟨_, rfl, by simp only [over, overL, Nat.reduceAdd]; rfl, Below.refl _ _⟩
                    · intro f w1 hb ⟨h37, _⟩ K hK
                      replace h37 : f 37 = _ := h37
                      simp only [over, overL, Nat.reduceAdd, h37]
                      go_simp
                      exact hK _ _ ⟨_, rfl, by simp only [over, overL, Nat.reduceAdd, h37]; rfl, Below.refl _ _⟩
                    · intro f w1 hb ⟨h36, h38, _⟩ K hK
                      replace h36 : f 36 = _ := h36
                      replace h38 : f 38 = _ := h38
                      simp only [over, overL, Nat.reduceAdd, h36, h38]
                      go_simp
                      exact hK _ _ ⟨_, rfl, by simp only [over, overL, Nat.reduceAdd, h36, h38]; rfl, Below.refl _ _⟩
                    · intro f w1 hb ⟨h39, _⟩ K hK
                      replace h39 : f 39 = _ := h39
                      simp only [over, overL, Nat.reduceAdd, h39]
                      go_simp
                      exact hK _ _ ⟨_, rfl, by simp only [over, overL, Nat.reduceAdd, h39]; rfl, Below.refl _ _⟩
                    · intro f w1 hb ⟨h40, _⟩
                      replace h40 : f 40 = _ := h40
                      refine ⟨fun _ => ?_, fun hg => absurd h40 hg⟩
                      intro K hK
                      simp only [over, overL, Nat.reduceAdd, h40]
                      go_simp
                      exact hK _ _ ⟨_, rfl, by simp only [over, overL, Nat.reduceAdd, h40]; rfl, Below.refl _ _⟩
                    · intro f w1 hb ⟨h40, _⟩
                      replace h40 : f 40 = _ := h40
                      refine ⟨fun _ => ?_, fun hg => absurd h40 hg⟩
                      intro K hK
                      simp only [over, overL, Nat.reduceAdd, h40]
                      go_simp
                      exact hK _ _ ⟨_, rfl, by simp only [over, overL, Nat.reduceAdd, h40]; rfl, Below.refl _ _⟩
                    · intro f w1 hb ⟨h40, h41, h42, _⟩
                      replace h40 : f 40 = _ := h40
                      replace h41 : f 41 = _ := h41
                      replace h42 : f 42 = _ := h42
                      refine ⟨fun _ => ?_, fun hg => absurd h40 hg⟩
                      intro K hK
                      simp only [over, overL, Nat.reduceAdd, h40, h41, h42]
                      go_simp
                      exact hK _ _ ⟨_, rfl, by simp only [over, overL, Nat.reduceAdd, h40, h41, h42]; rfl, Below.refl _ _⟩
                    · intro f w1 hb ⟨h40, h43, _⟩
                      replace h40 : f 40 = _ := h40
                      replace h43 : f 43 = _ := h43
                      refine ⟨fun _ => ?_, fun hg => absurd h40 hg⟩
                      intro K hK
                      simp only [over, overL, Nat.reduceAdd, h40, h43]
                      go_simp
                      exact hK _ _ ⟨_, rfl, by simp only [over, overL, Nat.reduceAdd, h40, h43]; rfl, Below.refl _ _⟩
                    · intro f w1 hb ⟨h40, h44, _⟩
                      replace h40 : f 40 = _ := h40
                      replace h44 : f 44 = _ := h44
                      refine ⟨fun _ => ?_, fun hg => absurd h40 hg⟩
                      intro K hK
                      obtain ⟨q0, q1, q2, q3, q4, q5⟩ := HY.out w1 hb
                      simp only [over, overL, Nat.reduceAdd, h40, h44]
                      go_simp
                      exact hK _ _ ⟨_, rfl, by simp only [over, overL, Nat.reduceAdd, h40, h44]; rfl, Below.refl _ _⟩
                    · intro f w1 hb ⟨h40, _⟩
                      replace h40 : f 40 = _ := h40
                      refine ⟨fun _ => ?_, fun hg => absurd h40 hg⟩
                      intro K hK
                      have q0 := (KP.out.later hb).c 0 rfl
                      have q1 := (KP.out.later hb).c 1 rfl
                      have q2 := (KP.out.later hb).c 2 rfl
                      simp only [over, overL, Nat.reduceAdd, h40]
                      go_simp
                      exact hK _ _ ⟨_, rfl, by simp only [over, overL, Nat.reduceAdd, h40]; rfl, Below.refl _ _⟩
                    · intro f w1 hb ⟨h40, h45, h46, _⟩
                      replace h40 : f 40 = _ := h40
                      replace h45 : f 45 = _ := h45
                      replace h46 : f 46 = _ := h46
                      refine ⟨fun _ => ?_, fun hg => absurd h40 hg⟩
                      intro K hK
                      simp only [over, overL, Nat.reduceAdd, h40, h45, h46]
                      go_simp
                      refine (HP1.out w1).mono ?_
                      rintro e w2 ⟨rfl, hb2⟩
                      exact hK _ _ ⟨_, rfl, by simp only [over, overL, Nat.reduceAdd, h40, h45, h46]; rfl, hb2⟩
                    · intro f w1 hb ⟨h40, h47, _⟩
                      replace h40 : f 40 = _ := h40
                      replace h47 : f 47 = _ := h47
                      refine ⟨fun _ => ?_, fun hg => absurd h40 hg⟩
                      intro K hK
                      simp only [over, overL, Nat.reduceAdd, h40, h47]
                      go_simp
                      exact hK _ _ ⟨_, rfl, by simp only [over, overL, Nat.reduceAdd, h40, h47]; rfl, Below.refl _ _⟩
                    · intro f w1 hb ⟨h48, _⟩
                      replace h48 : f 48 = _ := h48
                      refine ⟨fun _ => ?_, fun hg => absurd h48 hg⟩
                      intro K hK
                      simp only [over, overL, Nat.reduceAdd, h48]
                      go_simp
                      exact hK _ _ ⟨_, rfl, by simp only [over, overL, Nat.reduceAdd, h48]; rfl, Below.refl _ _⟩
                    · intro f w1 hb ⟨h48, _⟩
                      replace h48 : f 48 = _ := h48
                      refine ⟨fun _ => ?_, fun hg => absurd h48 hg⟩
                      intro K hK
                      simp only [over, overL, Nat.reduceAdd, h48]
                      go_simp
                      exact hK _ _ ⟨_, rfl, by simp only [over, overL, Nat.reduceAdd, h48]; rfl, Below.refl _ _⟩
                    · intro f w1 hb ⟨h48, h49, h50, _⟩
                      replace h48 : f 48 = _ := h48
                      replace h49 : f 49 = _ := h49
                      replace h50 : f 50 = _ := h50
                      refine ⟨fun _ => ?_, fun hg => absurd h48 hg⟩
                      intro K hK
                      simp only [over, overL, Nat.reduceAdd, h48, h49, h50]
                      go_simp
                      exact hK _ _ ⟨_, rfl, by simp only [over, overL, Nat.reduceAdd, h48, h49, h50]; rfl, Below.refl _ _⟩
                    · intro f w1 hb ⟨h48, h51, _⟩
                      replace h48 : f 48 = _ := h48
                      replace h51 : f 51 = _ := h51
                      refine ⟨fun _ => ?_, fun hg => absurd h48 hg⟩
                      intro K hK
                      simp only [over, overL, Nat.reduceAdd, h48, h51]
                      go_simp
                      exact hK _ _ ⟨_, rfl, by simp only [over, overL, Nat.reduceAdd, h48, h51]; rfl, Below.refl _ _⟩
                    · intro f w1 hb ⟨h48, h52, _⟩
                      replace h48 : f 48 = _ := h48
                      replace h52 : f 52 = _ := h52
                      refine ⟨fun _ => ?_, fun hg => absurd h48 hg⟩
                      intro K hK
                      obtain ⟨q0, q1, q2, q3, q4, q5⟩ := HY.out w1 hb
                      simp only [over, overL, Nat.reduceAdd, h48, h52]
                      go_simp
                      exact hK _ _ ⟨_, rfl, by simp only [over, overL, Nat.reduceAdd, h48, h52]; rfl, Below.refl _ _⟩
                    · intro f w1 hb ⟨h48, _⟩
                      replace h48 : f 48 = _ := h48
                      refine ⟨fun _ => ?_, fun hg => absurd h48 hg⟩
                      intro K hK
                      have q0 := (KP.out.later hb).c 0 rfl
                      have q1 := (KP.out.later hb).c 1 rfl
                      have q2 := (KP.out.later hb).c 2 rfl
                      simp only [over, overL, Nat.reduceAdd, h48]
                      go_simp
                      exact hK _ _ ⟨_, rfl, by simp only [over, overL, Nat.reduceAdd, h48]; rfl, Below.refl _ _⟩
                    · intro f w1 hb ⟨h48, h53, h54, _⟩
                      replace h48 : f 48 = _ := h48
                      replace h53 : f 53 = _ := h53
                      replace h54 : f 54 = _ := h54
                      refine ⟨fun _ => ?_, fun hg => absurd h48 hg⟩
                      intro K hK
                      have q0 := HE.out w1
                      simp only [over, overL, Nat.reduceAdd, h48, h53, h54]
                      refine wp_binopV rfl (by go_simp) q0 ?_
                      exact hK _ _ ⟨_, rfl, by simp only [over, overL, Nat.reduceAdd, h48, h53, h54], Below.refl _ _⟩
                    · intro f w1 hb ⟨h48, h55, _⟩
                      replace h48 : f 48 = _ := h48
                      replace h55 : f 55 = _ := h55
                      refine ⟨fun _ => ?_, fun hg => absurd h48 hg⟩
                      intro K hK
                      simp only [over, overL, Nat.reduceAdd, h48, h55]
                      go_simp
                      exact hK _ _ ⟨_, rfl, by simp only [over, overL, Nat.reduceAdd, h48, h55]; rfl, Below.refl _ _⟩
                    · intro f w1 hb ⟨h56, _⟩
                      replace h56 : f 56 = _ := h56
                      refine ⟨fun _ => ?_, fun hg => absurd h56 hg⟩
                      intro K hK
                      simp only [over, overL, Nat.reduceAdd, h56]
                      go_simp
                      exact hK _ _ ⟨_, rfl, by simp only [over, overL, Nat.reduceAdd, h56]; rfl, Below.refl _ _⟩
                    · intro f w1 hb ⟨h56, _⟩
                      replace h56 : f 56 = _ := h56
                      refine ⟨fun _ => ?_, fun hg => absurd h56 hg⟩
                      intro K hK
                      simp only [over, overL, Nat.reduceAdd, h56]
                      go_simp
                      exact hK _ _ ⟨_, rfl, by simp only [over, overL, Nat.reduceAdd, h56]; rfl, Below.refl _ _⟩
                    · intro f w1 hb ⟨h56, h57, h58, _⟩
                      replace h56 : f 56 = _ := h56
                      replace h57 : f 57 = _ := h57
                      replace h58 : f 58 = _ := h58
                      refine ⟨fun _ => ?_, fun hg => absurd h56 hg⟩
                      intro K hK
                      simp only [over, overL, Nat.reduceAdd, h56, h57, h58]
                      go_simp
                      exact hK _ _ ⟨_, rfl, by simp only [over, overL, Nat.reduceAdd, h56, h57, h58]; rfl, Below.refl _ _⟩
                    · intro f w1 hb ⟨h56, h59, _⟩
                      replace h56 : f 56 = _ := h56
                      replace h59 : f 59 = _ := h59
                      refine ⟨fun _ => ?_, fun hg => absurd h56 hg⟩
                      intro K hK
                      simp only [over, overL, Nat.reduceAdd, h56, h59]
                      go_simp
                      exact hK _ _ ⟨_, rfl, by simp only [over, overL, Nat.reduceAdd, h56, h59]; rfl, Below.refl _ _⟩
                    · intro f w1 hb ⟨h56, h60, _⟩
                      replace h56 : f 56 = _ := h56
                      replace h60 : f 60 = _ := h60
                      refine ⟨fun _ => ?_, fun hg => absurd h56 hg⟩
                      intro K hK
                      obtain ⟨q0, q1, q2, q3, q4, q5⟩ := HY.out w1 hb
                      simp only [over, overL, Nat.reduceAdd, h56, h60]
                      go_simp
                      exact hK _ _ ⟨_, rfl, by simp only [over, overL, Nat.reduceAdd, h56, h60]; rfl, Below.refl _ _⟩
                    · intro f w1 hb ⟨h56, _⟩
                      replace h56 : f 56 = _ := h56
                      refine ⟨fun _ => ?_, fun hg => absurd h56 hg⟩
                      intro K hK
                      have q0 := (KQ.out.later hb).c 0 rfl
                      have q1 := (KQ.out.later hb).c 1 rfl
                      have q2 := (KQ.out.later hb).c 2 rfl
                      simp only [over, overL, Nat.reduceAdd, h56]
                      go_simp
                      exact hK _ _ ⟨_, rfl, by simp only [over, overL, Nat.reduceAdd, h56]; rfl, Below.refl _ _⟩
                    · intro f w1 hb ⟨h56, h61, h62, _⟩
                      replace h56 : f 56 = _ := h56
                      replace h61 : f 61 = _ := h61
                      replace h62 : f 62 = _ := h62
                      refine ⟨fun _ => ?_, fun hg => absurd h56 hg⟩
                      intro K hK
                      simp only [over, overL, Nat.reduceAdd, h56, h61, h62]
                      go_simp
                      refine (HP2.out w1).mono ?_
                      rintro e w2 ⟨rfl, hb2⟩
                      exact hK _ _ ⟨_, rfl, by simp only [over, overL, Nat.reduceAdd, h56, h61, h62]; rfl, hb2⟩
                    · intro f w1 hb ⟨h48, h56, h63, _⟩
                      replace h48 : f 48 = _ := h48
                      replace h56 : f 56 = _ := h56
                      replace h63 : f 63 = _ := h63
                      refine ⟨fun _ => ?_, fun hg => absurd h48 hg⟩
                      intro K hK
                      simp only [over, overL, Nat.reduceAdd, h48, h56, h63]
                      go_simp
                      exact hK _ _ ⟨_, rfl, by simp only [over, overL, Nat.reduceAdd, h48, h56, h63]; rfl, Below.refl _ _⟩
                    · intro f w1 hb ⟨h40, h48, h64, _⟩
                      replace h40 : f 40 = _ := h40
                      replace h48 : f 48 = _ := h48
                      replace h64 : f 64 = _ := h64
                      refine ⟨fun _ => ?_, fun hg => absurd h40 hg⟩
                      intro K hK
                      simp only [over, overL, Nat.reduceAdd, h40, h48, h64]
                      go_simp
                      exact hK _ _ ⟨_, rfl, by simp only [over, overL, Nat.reduceAdd, h40, h48, h64]; rfl, Below.refl _ _⟩
                    · intro f w1 hb ⟨h40, h65, _⟩ K hK
                      replace h40 : f 40 = _ := h40
                      replace h65 : f 65 = _ := h65
                      simp only [over, overL, Nat.reduceAdd, h40, h65]
                      go_simp
                      exact hK _ _ ⟨_, rfl, by simp only [over, overL, Nat.reduceAdd, h40, h65]; rfl, Below.refl _ _⟩
                  · intro f5 w5 b5 hv5
                    have h66 : f5 66 = .bool b3 := hv5.2.2.2.2.2.2.2.2.2.2.2.2.2.2.2.2.2.2.2.2.2.2.2.2.2.2.2.2.2.2.1
                    have KP : Hid (Bk P (pcq r.1) w5) := KP.out.later b5
                    have KQ : Hid (Bk Q (pcq r.2) w5) := KQ.out.later b5
                    have HB5 : Hid (Below wo.heap.size wo w5) := below_on HBK.out b5
                    clear hv5
                    cases b3 with
                    | true =>
                      simp only [over, overL, Nat.reduceAdd, h66]
                      go_wp2
                      go_roundw
                      case rel =>
                        refine ⟨k + 1, by omega, by go_num, ?_, HB5.out, below_on HB4K.out b5⟩
                        intro z hz
                        rw [HTK.out] at hz
                        rcases List.mem_append.1 hz with hz | hz
                        · exact HALL.out z hz
                        · simp at hz; rw [hz, rlt_iff]; exact .inr ⟨HQ1.out, HB3B.out⟩
                      case measure => simp [intOf]; omega
                    | false =>
                      have HY : Hid (∀ W1, Below w5.heap.size w5 W1 → W1.cell? ⟨g, k * 7, none⟩ = some (.int .i64 y.1.1.1) ∧ W1.cell? ⟨g, k * 7 + 1, none⟩ = some (.int .i64 y.1.1.2.1) ∧ W1.cell? ⟨g, k * 7 + 2, none⟩ = some (.int .i64 y.1.1.2.2) ∧ W1.cell? ⟨g, k * 7 + 3, none⟩ = some (.int .i64 y.1.2.1) ∧ W1.cell? ⟨g, k * 7 + 4, none⟩ = some (.int .i64 y.1.2.2.1) ∧ W1.cell? ⟨g, k * 7 + 5, none⟩ = some (.int .i64 y.1.2.2.2)) := fun W1 hb => HY.out W1 (below_on b5 hb)
                      by_cases he2 : y.1.2 = r.2
                      · have HE2 : Hid (∀ W1, (binOp .neq 26 (.agg #[.int .i64 y.1.2.1, .int .i64 y.1.2.2.1, .int .i64 y.1.2.2.2]) (.agg #[.int .i64 r.2.1, .int .i64 r.2.2.1, .int .i64 r.2.2.2])).run Try.prog W1 = .ok (.bool false) W1) := fun W1 => by have h := pl_neqV y.1.2 r.2 W1; rwa [decide_eq_true he2, Bool.not_true] at h
                        have HQ2 : Hid (y.1.2 = r.2) := he2
                        clear he2
                        simp only [over, overL, Nat.reduceAdd, h66]
                        go_wp2_with fail
                        refine region_inv [false, false, false, false, false, false, false, false, false, false, false, false, false, false, false, false, false, false, false, false, false, false, false, false, false, false, false, false, false, false, false, false, false, false, false, false, false, false, false, false, false, false, false, false, false, false, false, false, false, false, false, false, false, false, false, false, false, false, false, false, false, false, false, false, false, false, false, false, false, true, true, true, true, true, true, true, true, true, true, true, true, true, true, true, true, true, true, true, true, true, true, false, false, false, false, false, false, false, false, false, false, false, false, false, false, false, false, false, false, false, false, false, false, false, false, false, false, false, false, false, false]
                          [(69, [], none), (70, [], none), (71, [70], none), (72, [69, 71], none), (73, [72], none), (74, [73], some (73, false)), (75, [73], some (73, false)), (76, [73, 74, 75], some (73, false)), (77, [73, 76], some (73, false)), (78, [73, 77], some (73, false)), (79, [73], some (73, false)), (80, [73, 78, 79], some (73, false)), (81, [73, 80], none), (82, [81], none), (83, [82], some (82, false)), (84, [82], some (82, false)), (85, [82, 83, 84], some (82, false)), (86, [82, 85], some (82, false)), (87, [82, 86], some (82, false)), (88, [82], some (82, false)), (89, [82, 87, 88], some (82, false)), (90, [82, 89], none)]
                          (ptD g out.length cap2 k P Q y r true) (by kernel_rfl) (by kernel_rfl) (ptD_mono g out.length cap2 k P Q y r true) ?_ ?_
                        · refine ⟨?_, ?_, ?_, ?_, ?_, ?_, ?_, ?_, ?_, ?_, ?_, ?_, ?_, ?_, ?_, ?_, ?_, ?_, ?_, ?_, ?_, ?_, trivial⟩
                          · intro f w1 hb _ K hK
                            simp only [over, overL, Nat.reduceAdd]
                            go_simp
                            exact hK _ _ ⟨_, rfl, by simp only [over, overL, Nat.reduceAdd]; rfl, Below.refl _ _⟩
                          · intro f w1 hb _ K hK
                            simp only [over, overL, Nat.reduceAdd]
                            go_simp
                            exact hK _ _ ⟨_, rfl, by simp only [over, overL, Nat.reduceAdd]; rfl, Below.refl _ _⟩
                          · intro f w1 hb ⟨h70, _⟩ K hK
                            replace h70 : f 70 = _ := h70
                            simp only [over, overL, Nat.reduceAdd, h70]
                            go_simp
                            exact hK _ _ ⟨_, rfl, by simp only [over, overL, Nat.reduceAdd, h70]; rfl, Below.refl _ _⟩
                          · intro f w1 hb ⟨h69, h71, _⟩ K hK
                            replace h69 : f 69 = _ := h69
                            replace h71 : f 71 = _ := h71
                            simp only [over, overL, Nat.reduceAdd, h69, h71]
                            go_simp
                            exact hK _ _ ⟨_, rfl, by simp only [over, overL, Nat.reduceAdd, h69, h71]; rfl, Below.refl _ _⟩
                          · intro f w1 hb ⟨h72, _⟩ K hK
                            replace h72 : f 72 = _ := h72
                            simp only [over, overL, Nat.reduceAdd, h72]
                            go_simp
                            exact hK _ _ ⟨_, rfl, by simp only [over, overL, Nat.reduceAdd, h72]; rfl, Below.refl _ _⟩
                          · intro f w1 hb ⟨h73, _⟩
                            replace h73 : f 73 = _ := h73
                            refine ⟨fun _ => ?_, fun hg => absurd h73 hg⟩
                            intro K hK
                            simp only [over, overL, Nat.reduceAdd, h73]
                            go_simp
                            exact hK _ _ ⟨_, rfl, by simp only [over, overL, Nat.reduceAdd, h73]; rfl, Below.refl _ _⟩
                          · intro f w1 hb ⟨h73, _⟩
                            replace h73 : f 73 = _ := h73
                            refine ⟨fun _ => ?_, fun hg => absurd h73 hg⟩
                            intro K hK
                            simp only [over, overL, Nat.reduceAdd, h73]
                            go_simp
                            exact hK _ _ ⟨_, rfl, by simp only [over, overL, Nat.reduceAdd, h73]; rfl, Below.refl _ _⟩
                          · intro f w1 hb ⟨h73, h74, h75, _⟩
                            replace h73 : f 73 = _ := h73
                            replace h74 : f 74 = _ := h74
                            replace h75 : f 75 = _ := h75
                            refine ⟨fun _ => ?_, fun hg => absurd h73 hg⟩
                            intro K hK
                            simp only [over, overL, Nat.reduceAdd, h73, h74, h75]
                            go_simp
                            exact hK _ _ ⟨_, rfl, by simp only [over, overL, Nat.reduceAdd, h73, h74, h75]; rfl, Below.refl _ _⟩
                          · intro f w1 hb ⟨h73, h76, _⟩
                            replace h73 : f 73 = _ := h73
                            replace h76 : f 76 = _ := h76
                            refine ⟨fun _ => ?_, fun hg => absurd h73 hg⟩
                            intro K hK
                            simp only [over, overL, Nat.reduceAdd, h73, h76]
                            go_simp
                            exact hK _ _ ⟨_, rfl, by simp only [over, overL, Nat.reduceAdd, h73, h76]; rfl, Below.refl _ _⟩
                          · intro f w1 hb ⟨h73, h77, _⟩
                            replace h73 : f 73 = _ := h73
                            replace h77 : f 77 = _ := h77
                            refine ⟨fun _ => ?_, fun hg => absurd h73 hg⟩
                            intro K hK
                            obtain ⟨q0, q1, q2, q3, q4, q5⟩ := HY.out w1 hb
                            simp only [over, overL, Nat.reduceAdd, h73, h77]
                            go_simp
                            exact hK _ _ ⟨_, rfl, by simp only [over, overL, Nat.reduceAdd, h73, h77]; rfl, Below.refl _ _⟩
                          · intro f w1 hb ⟨h73, _⟩
                            replace h73 : f 73 = _ := h73
                            refine ⟨fun _ => ?_, fun hg => absurd h73 hg⟩
                            intro K hK
                            have q0 := (KP.out.later hb).c 0 rfl
                            have q1 := (KP.out.later hb).c 1 rfl
                            have q2 := (KP.out.later hb).c 2 rfl
                            simp only [over, overL, Nat.reduceAdd, h73]
                            go_simp
                            exact hK _ _ ⟨_, rfl, by simp only [over, overL, Nat.reduceAdd, h73]; rfl, Below.refl _ _⟩
                          · intro f w1 hb ⟨h73, h78, h79, _⟩
                            replace h73 : f 73 = _ := h73
                            replace h78 : f 78 = _ := h78
                            replace h79 : f 79 = _ := h79
                            refine ⟨fun _ => ?_, fun hg => absurd h73 hg⟩
                            intro K hK
                            have q0 := HE1.out w1
                            simp only [over, overL, Nat.reduceAdd, h73, h78, h79]
                            refine wp_binopV rfl (by go_simp) q0 ?_
                            exact hK _ _ ⟨_, rfl, by simp only [over, overL, Nat.reduceAdd, h73, h78, h79], Below.refl _ _⟩
                          · intro f w1 hb ⟨h73, h80, _⟩ K hK
                            replace h73 : f 73 = _ := h73
                            replace h80 : f 80 = _ := h80
                            simp only [over, overL, Nat.reduceAdd, h73, h80]
                            go_simp
                            exact hK _ _ ⟨_, rfl, by simp only [over, overL, Nat.reduceAdd, h73, h80]; rfl, Below.refl _ _⟩
                          · intro f w1 hb ⟨h81, _⟩ K hK
                            replace h81 : f 81 = _ := h81
                            simp only [over, overL, Nat.reduceAdd, h81]
                            go_simp
                            exact hK _ _ ⟨_, rfl, by simp only [over, overL, Nat.reduceAdd, h81]; rfl, Below.refl _ _⟩
                          · intro f w1 hb ⟨h82, _⟩
                            replace h82 : f 82 = _ := h82
                            refine ⟨fun _ => ?_, fun hg => absurd h82 hg⟩
                            intro K hK
                            simp only [over, overL, Nat.reduceAdd, h82]
                            go_simp
                            exact hK _ _ ⟨_, rfl, by simp only [over, overL, Nat.reduceAdd, h82]; rfl, Below.refl _ _⟩
                          · intro f w1 hb ⟨h82, _⟩
                            replace h82 : f 82 = _ := h82
                            refine ⟨fun _ => ?_, fun hg => absurd h82 hg⟩
                            intro K hK
                            simp only [over, overL, Nat.reduceAdd, h82]
                            go_simp
                            exact hK _ _ ⟨_, rfl, by simp only [over, overL, Nat.reduceAdd, h82]; rfl, Below.refl _ _⟩
                          · intro f w1 hb ⟨h82, h83, h84, _⟩
                            replace h82 : f 82 = _ := h82
                            replace h83 : f 83 = _ := h83
                            replace h84 : f 84 = _ := h84
                            refine ⟨fun _ => ?_, fun hg => absurd h82 hg⟩
                            intro K hK
                            simp only [over, overL, Nat.reduceAdd, h82, h83, h84]
                            go_simp
                            exact hK _ _ ⟨_, rfl, by simp only [over, overL, Nat.reduceAdd, h82, h83, h84]; rfl, Below.refl _ _⟩
                          · intro f w1 hb ⟨h82, h85, _⟩
                            replace h82 : f 82 = _ := h82
                            replace h85 : f 85 = _ := h85
                            refine ⟨fun _ => ?_, fun hg => absurd h82 hg⟩
                            intro K hK
                            simp only [over, overL, Nat.reduceAdd, h82, h85]
                            go_simp
                            exact hK _ _ ⟨_, rfl, by simp only [over, overL, Nat.reduceAdd, h82, h85]; rfl, Below.refl _ _⟩
                          · intro f w1 hb ⟨h82, h86, _⟩
                            replace h82 : f 82 = _ := h82
                            replace h86 : f 86 = _ := h86
                            refine ⟨fun _ => ?_, fun hg => absurd h82 hg⟩
                            intro K hK
                            obtain ⟨q0, q1, q2, q3, q4, q5⟩ := HY.out w1 hb
                            simp only [over, overL, Nat.reduceAdd, h82, h86]
                            go_simp
                            exact hK _ _ ⟨_, rfl, by simp only [over, overL, Nat.reduceAdd, h82, h86]; rfl, Below.refl _ _⟩
                          · intro f w1 hb ⟨h82, _⟩
                            replace h82 : f 82 = _ := h82
                            refine ⟨fun _ => ?_, fun hg => absurd h82 hg⟩
                            intro K hK
                            have q0 := (KQ.out.later hb).c 0 rfl
                            have q1 := (KQ.out.later hb).c 1 rfl
                            have q2 := (KQ.out.later hb).c 2 rfl
                            simp only [over, overL, Nat.reduceAdd, h82]
                            go_simp
                            exact hK _ _ ⟨_, rfl, by simp only [over, overL, Nat.reduceAdd, h82]; rfl, Below.refl _ _⟩
                          · intro f w1 hb ⟨h82, h87, h88, _⟩
                            replace h82 : f 82 = _ := h82
                            replace h87 : f 87 = _ := h87
                            replace h88 : f 88 = _ := h88
                            refine ⟨fun _ => ?_, fun hg => absurd h82 hg⟩
                            intro K hK
                            have q0 := HE2.out w1
                            simp only [over, overL, Nat.reduceAdd, h82, h87, h88]
                            refine wp_binopV rfl (by go_simp) q0 ?_
                            exact hK _ _ ⟨_, rfl, by simp only [over, overL, Nat.reduceAdd, h82, h87, h88], Below.refl _ _⟩
                          · intro f w1 hb ⟨h82, h89, _⟩ K hK
                            replace h82 : f 82 = _ := h82
                            replace h89 : f 89 = _ := h89
                            simp only [over, overL, Nat.reduceAdd, h82, h89]
                            go_simp
                            exact hK _ _ ⟨_, rfl, by simp only [over, overL, Nat.reduceAdd, h82, h89]; rfl, Below.refl _ _⟩
                        · intro f2 w6 b6 hv2
                          have h90 : f2 90 = .bool false := hv2.2.2.2.2.2.2.2.2.2.2.2.2.2.2.2.2.2.2.2.2.2.1
                          have HPL : Hid (P < w6.heap.size ∧ Q < w6.heap.size) := ⟨Nat.lt_of_lt_of_le KP.out.1 b6.size, Nat.lt_of_lt_of_le KQ.out.1 b6.size⟩
                          have HB6 : Hid (Below wo.heap.size wo w6) := below_on HB5.out b6
                          have KP : Hid (Bk P (pcq r.1) w6) := KP.out.later b6
                          have KQ : Hid (Bk Q (pcq r.2) w6) := KQ.out.later b6
                          have HO6 : Hid (OwnR encQ w6 w3.heap.size (.slice (some ⟨g, 0, none⟩) out.length cap2) out) := HOV.out.later HB6.out
                          simp only [over, overL, Nat.reduceAdd, h90]
                          clear hv2
                          obtain ⟨z, hz⟩ : ∃ z : Int, z = y.2 := ⟨_, rfl⟩
                          have hk8 : k < out.length := hkl
                          have HLK : Hid (out[k]'hk8 = (r, z)) := by show _ = _; rw [HYK.out]; exact Prod.ext (Prod.ext HQ1.out HQ2.out) hz.symm
                          have HSET : Hid (out.set k (r, z + x.vol) = addP r x.vol out) := by
                            show _ = _
                            rw [addP_old hkl HALL.out (by rw [HYK.out]; exact Prod.ext HQ1.out HQ2.out), HYK.out, hz]
                          have hz0 : 0 ≤ z ∧ z ≤ 9000000000000000 := by rw [hz]; exact HPV.out y (by rw [← HYK.out]; exact List.getElem_mem hkl)
                          obtain ⟨hz0, hz1⟩ := hz0
                          have hg8 : w3.heap.size ≤ g := hg1
                          clear hz
                          obtain ⟨w8, rfl⟩ : ∃ w8, w8 = w6 := ⟨w6, rfl⟩
                          have HO8 : Hid (OwnR encQ w8 w3.heap.size (.slice (some ⟨g, 0, none⟩) out.length cap2) out) := HO6.out
                          have HB8 : Hid (Below wo.heap.size wo w8) := HB6.out
                          go_wp2_with fail
                          have HZ6 : Hid (∀ W1, Below w8.heap.size w8 W1 → W1.cell? ⟨g, k * 7 + 6, none⟩ = some (.int .i64 z)) := fun W1 hb => by
                            have h := ((HO8.out.later hb).cellAt goodQ hk8 (j := 6) (by decide)).1
                            rw [HLK.out] at h
                            exact h
                          have HV4 : Hid (∀ W1, Below w8.heap.size w8 W1 → W1.cell? ⟨gm, om + i * 6 + 4, none⟩ = some (.int .i64 x.vol)) := fun W1 hb => (HX.out W1 (below_on HB8.out hb)).2.2.2.2
                          have hki8 : (k : Int) < (out.length : Int) := by omega
                          have HADD : Hid (∀ W1, (binOp .add 3 (.int .i64 z) (.int .i64 x.vol)).run Try.prog W1 = .ok (.int .i64 (z + x.vol)) W1) := fun W1 => add_small z x.vol (by omega) (by omega) W1
                          refine region_seq 13 [false, false, false, false, false, false, false, false, false, false, false, false, false, false, false, false, false, false, false, false, false, false, false, false, false, false, false, false, false, false, false, false, false, false, false, false, false, false, false, false, false, false, false, false, false, false, false, false, false, false, false, false, false, false, false, false, false, false, false, false, false, false, false, false, false, false, false, false, false, false, false, false, false, false, false, false, false, false, false, false, false, false, false, false, false, false, false, false, false, false, false, false, false, false, false, false, false, false, false, false, false, false, false, false, false, false, false, true, true, true, true, true, true, true, true, true, true, true, true, true, false]
                            [(107, [], none), (108, [], none), (109, [107, 108], none), (110, [109], none), (111, [110], none), (112, [], none), (113, [], none), (114, [112, 113], none), (115, [114], none), (116, [115], none), (117, [111, 116], none), (118, [107, 108], none), (119, [118], none)]
                            (p15 g out.length cap2 k gm om os.length cS i z x.vol) (by kernel_rfl) (by kernel_rfl) (by kernel_rfl) (by kernel_rfl) (by kernel_rfl) (by decide) (p15_mono g out.length cap2 k gm om os.length cS i z x.vol) ?_ ?_
                          · refine ⟨?_, ?_, ?_, ?_, ?_, ?_, ?_, ?_, ?_, ?_, ?_, ?_, ?_, trivial⟩
                            · intro f w1 hb _ K hK
                              simp only [over, overL, Nat.reduceAdd]
                              go_simp
                              exact hK _ _ ⟨_, rfl, by simp only [over, overL, Nat.reduceAdd]; rfl, Below.refl _ _⟩
                            · intro f w1 hb _ K hK
                              simp only [over, overL, Nat.reduceAdd]
                              go_simp
                              exact hK _ _ ⟨_, rfl, by simp only [over, overL, Nat.reduceAdd]; rfl, Below.refl _ _⟩
                            · intro f w1 hb ⟨h107, h108, _⟩ K hK
                              replace h107 : f 107 = _ := h107
                              replace h108 : f 108 = _ := h108
                              simp only [over, overL, Nat.reduceAdd, h107, h108]
                              go_simp
                              exact hK _ _ ⟨_, rfl, by simp only [over, overL, Nat.reduceAdd, h107, h108]; rfl, Below.refl _ _⟩
                            · intro f w1 hb ⟨h109, _⟩ K hK
                              replace h109 : f 109 = _ := h109
                              simp only [over, overL, Nat.reduceAdd, h109]
                              go_simp
                              exact hK _ _ ⟨_, rfl, by simp only [over, overL, Nat.reduceAdd, h109]; rfl, Below.refl _ _⟩
                            · intro f w1 hb ⟨h110, _⟩ K hK
                              replace h110 : f 110 = _ := h110
                              have q6 := HZ6.out w1 hb
                              simp only [over, overL, Nat.reduceAdd, h110]
                              go_simp
                              exact hK _ _ ⟨_, rfl, by simp only [over, overL, Nat.reduceAdd, h110]; rfl, Below.refl _ _⟩
                            · intro f w1 hb _ K hK
                              simp only [over, overL, Nat.reduceAdd]
                              go_simp
                              exact hK _ _ ⟨_, rfl, by simp only [over, overL, Nat.reduceAdd]; rfl, Below.refl _ _⟩
                            · intro f w1 hb _ K hK
                              simp only [over, overL, Nat.reduceAdd]
                              go_simp
                              exact hK _ _ ⟨_, rfl, by simp only [over, overL, Nat.reduceAdd]; rfl, Below.refl _ _⟩
                            · intro f w1 hb ⟨h112, h113, _⟩ K hK
                              replace h112 : f 112 = _ := h112
                              replace h113 : f 113 = _ := h113
                              simp only [over, overL, Nat.reduceAdd, h112, h113]
                              go_simp
                              exact hK _ _ ⟨_, rfl, by simp only [over, overL, Nat.reduceAdd, h112, h113]; rfl, Below.refl _ _⟩
                            · intro f w1 hb ⟨h114, _⟩ K hK
                              replace h114 : f 114 = _ := h114
                              simp only [over, overL, Nat.reduceAdd, h114]
                              go_simp
                              exact hK _ _ ⟨_, rfl, by simp only [over, overL, Nat.reduceAdd, h114]; rfl, Below.refl _ _⟩
                            · intro f w1 hb ⟨h115, _⟩ K hK
                              replace h115 : f 115 = _ := h115
                              have q4 := HV4.out w1 hb
                              simp only [over, overL, Nat.reduceAdd, h115]
                              go_simp
                              exact hK _ _ ⟨_, rfl, by simp only [over, overL, Nat.reduceAdd, h115]; rfl, Below.refl _ _⟩
                            · intro f w1 hb ⟨h111, h116, _⟩ K hK
                              replace h111 : f 111 = _ := h111
                              replace h116 : f 116 = _ := h116
                              have q0 := HADD.out w1
                              simp only [over, overL, Nat.reduceAdd, h111, h116]
                              refine wp_binopV rfl (by go_simp) q0 ?_
                              exact hK _ _ ⟨_, rfl, by simp only [over, overL, Nat.reduceAdd, h111, h116], Below.refl _ _⟩
                            · intro f w1 hb ⟨h107, h108, _⟩ K hK
                              replace h107 : f 107 = _ := h107
                              replace h108 : f 108 = _ := h108
                              simp only [over, overL, Nat.reduceAdd, h107, h108]
                              go_simp
                              exact hK _ _ ⟨_, rfl, by simp only [over, overL, Nat.reduceAdd, h107, h108]; rfl, Below.refl _ _⟩
                            · intro f w1 hb ⟨h118, _⟩ K hK
                              replace h118 : f 118 = _ := h118
                              simp only [over, overL, Nat.reduceAdd, h118]
                              go_simp
                              exact hK _ _ ⟨_, rfl, by simp only [over, overL, Nat.reduceAdd, h118]; rfl, Below.refl _ _⟩
                          · intro f3 w9 b9 hv3
                            have h117 : f3 117 = .int .i64 (z + x.vol) := hv3.2.2.2.2.2.2.2.2.2.2.1
                            have h119 : f3 119 = .pointer (some ⟨g, k * 7 + 6, none⟩) := hv3.2.2.2.2.2.2.2.2.2.2.2.2.1
                            have O9 := HO8.out.later b9
                            have s6 := HZ6.out w9 b9
                            have sf6 : w9.frozen? ⟨g, k * 7 + 6, none⟩ = false := (O9.cellAt goodQ hk8 (j := 6) (by decide)).2
                            simp only [List.drop, over, overL, Nat.reduceAdd, h117, h119]
                            clear hv3
                            go_wp2
                            go_roundw
                            case rel =>
                              have hB9 := below_on HBO.out (below_on HB8.out b9)
                              have O10 := O9.set goodQ hk8 (o := 6) (by decide) (.int .i64 (z + x.vol)) (r, z + x.vol) (by rw [HLK.out]; rfl)
                              rw [HSET.out] at O10
                              have hs9 := Nat.le_trans HB8.out.size b9.size
                              refine ⟨i + 1, _, _, _, by omega, rfl, by go_num, rfl, rfl, ?_, hB9.setCell hg8 _, fun b e => ?_, fun b e => ?_⟩
                              · rw [HNX.out]
                                have e : (.slice (some ⟨g, 0, none⟩) out.length cap2 : Value) = .slice (some ⟨g, 0, none⟩) (addP r x.vol out).length cap2 := by rw [← HSET.out, List.length_set]
                                exact O10
                              · simp at e; subst e; have := HPL.out.1; have := b9.size; simp [World.setCell]; omega
                              · simp at e; subst e; have := HPL.out.2; have := b9.size; simp [World.setCell]; omega
                            case measure => simp [intOf]; omega
                      · have HE2 : Hid (∀ W1, (binOp .neq 26 (.agg #[.int .i64 y.1.2.1, .int .i64 y.1.2.2.1, .int .i64 y.1.2.2.2]) (.agg #[.int .i64 r.2.1, .int .i64 r.2.2.1, .int .i64 r.2.2.2])).run Try.prog W1 = .ok (.bool true) W1) := fun W1 => by have h := pl_neqV y.1.2 r.2 W1; rwa [decide_eq_false he2, Bool.not_false] at h
                        have HNEW : Hid (addP r x.vol out = out.take k ++ (r, x.vol) :: out.drop k) := HAN.out (by cases h : rltB y.1 r with
                          | false => rfl
                          | true =>
                            rcases rlt_iff.1 h with h | ⟨_, h⟩
                            · rw [hp1] at h; cases h
                            · rw [HB3B.out] at h; cases h) (fun e => he2 (by rw [e]))
                        clear he2
                        simp only [over, overL, Nat.reduceAdd, h66]
                        go_wp2_with fail
                        refine region_inv [false, false, false, false, false, false, false, false, false, false, false, false, false, false, false, false, false, false, false, false, false, false, false, false, false, false, false, false, false, false, false, false, false, false, false, false, false, false, false, false, false, false, false, false, false, false, false, false, false, false, false, false, false, false, false, false, false, false, false, false, false, false, false, false, false, false, false, false, false, true, true, true, true, true, true, true, true, true, true, true, true, true, true, true, true, true, true, true, true, true, true, false, false, false, false, false, false, false, false, false, false, false, false, false, false, false, false, false, false, false, false, false, false, false, false, false, false, false, false, false, false]
                          [(69, [], none), (70, [], none), (71, [70], none), (72, [69, 71], none), (73, [72], none), (74, [73], some (73, false)), (75, [73], some (73, false)), (76, [73, 74, 75], some (73, false)), (77, [73, 76], some (73, false)), (78, [73, 77], some (73, false)), (79, [73], some (73, false)), (80, [73, 78, 79], some (73, false)), (81, [73, 80], none), (82, [81], none), (83, [82], some (82, false)), (84, [82], some (82, false)), (85, [82, 83, 84], some (82, false)), (86, [82, 85], some (82, false)), (87, [82, 86], some (82, false)), (88, [82], some (82, false)), (89, [82, 87, 88], some (82, false)), (90, [82, 89], none)]
                          (ptC g out.length cap2 k P Q y r true) (by kernel_rfl) (by kernel_rfl) (ptC_mono g out.length cap2 k P Q y r true) ?_ ?_
                        · refine ⟨?_, ?_, ?_, ?_, ?_, ?_, ?_, ?_, ?_, ?_, ?_, ?_, ?_, ?_, ?_, ?_, ?_, ?_, ?_, ?_, ?_, ?_, trivial⟩
                          · intro f w1 hb _ K hK
                            simp only [over, overL, Nat.reduceAdd]
                            go_simp
                            exact hK _ _ ⟨_, rfl, by simp only [over, overL, Nat.reduceAdd]; rfl, Below.refl _ _⟩
                          · intro f w1 hb _ K hK
                            simp only [over, overL, Nat.reduceAdd]
                            go_simp
                            exact hK _ _ ⟨_, rfl, by simp only [over, overL, Nat.reduceAdd]; rfl, Below.refl _ _⟩
                          · intro f w1 hb ⟨h70, _⟩ K hK
                            replace h70 : f 70 = _ := h70
                            simp only [over, overL, Nat.reduceAdd, h70]
                            go_simp
                            exact hK _ _ ⟨_, rfl, by simp only [over, overL, Nat.reduceAdd, h70]; rfl, Below.refl _ _⟩
                          · intro f w1 hb ⟨h69, h71, _⟩ K hK
                            replace h69 : f 69 = _ := h69
                            replace h71 : f 71 = _ := h71
                            simp only [over, overL, Nat.reduceAdd, h69, h71]
                            go_simp
                            exact hK _ _ ⟨_, rfl, by simp only [over, overL, Nat.reduceAdd, h69, h71]; rfl, Below.refl _ _⟩
                          · intro f w1 hb ⟨h72, _⟩ K hK
                            replace h72 : f 72 = _ := h72
                            simp only [over, overL, Nat.reduceAdd, h72]
                            go_simp
                            exact hK _ _ ⟨_, rfl, by simp only [over, overL, Nat.reduceAdd, h72]; rfl, Below.refl _ _⟩
                          · intro f w1 hb ⟨h73, _⟩
                            replace h73 : f 73 = _ := h73
                            refine ⟨fun _ => ?_, fun hg => absurd h73 hg⟩
                            intro K hK
                            simp only [over, overL, Nat.reduceAdd, h73]
                            go_simp
                            exact hK _ _ ⟨_, rfl, by simp only [over, overL, Nat.reduceAdd, h73]; rfl, Below.refl _ _⟩
                          · intro f w1 hb ⟨h73, _⟩
                            replace h73 : f 73 = _ := h73
                            refine ⟨fun _ => ?_, fun hg => absurd h73 hg⟩
                            intro K hK
                            simp only [over, overL, Nat.reduceAdd, h73]
                            go_simp
                            exact hK _ _ ⟨_, rfl, by simp only [over, overL, Nat.reduceAdd, h73]; rfl, Below.refl _ _⟩
                          · intro f w1 hb ⟨h73, h74, h75, _⟩
                            replace h73 : f 73 = _ := h73
                            replace h74 : f 74 = _ := h74
                            replace h75 : f 75 = _ := h75
                            refine ⟨fun _ => ?_, fun hg => absurd h73 hg⟩
                            intro K hK
                            simp only [over, overL, Nat.reduceAdd, h73, h74, h75]
                            go_simp
                            exact hK _ _ ⟨_, rfl, by simp only [over, overL, Nat.reduceAdd, h73, h74, h75]; rfl, Below.refl _ _⟩
                          · intro f w1 hb ⟨h73, h76, _⟩
                            replace h73 : f 73 = _ := h73
                            replace h76 : f 76 = _ := h76
                            refine ⟨fun _ => ?_, fun hg => absurd h73 hg⟩
                            intro K hK
                            simp only [over, overL, Nat.reduceAdd, h73, h76]
                            go_simp
                            exact hK _ _ ⟨_, rfl, by simp only [over, overL, Nat.reduceAdd, h73, h76]; rfl, Below.refl _ _⟩
                          · intro f w1 hb ⟨h73, h77, _⟩
                            replace h73 : f 73 = _ := h73
                            replace h77 : f 77 = _ := h77
                            refine ⟨fun _ => ?_, fun hg => absurd h73 hg⟩
                            intro K hK
                            obtain ⟨q0, q1, q2, q3, q4, q5⟩ := HY.out w1 hb
                            simp only [over, overL, Nat.reduceAdd, h73, h77]
                            go_simp
                            exact hK _ _ ⟨_, rfl, by simp only [over, overL, Nat.reduceAdd, h73, h77]; rfl, Below.refl _ _⟩
                          · intro f w1 hb ⟨h73, _⟩
                            replace h73 : f 73 = _ := h73
                            refine ⟨fun _ => ?_, fun hg => absurd h73 hg⟩
                            intro K hK
                            have q0 := (KP.out.later hb).c 0 rfl
                            have q1 := (KP.out.later hb).c 1 rfl
                            have q2 := (KP.out.later hb).c 2 rfl
                            simp only [over, overL, Nat.reduceAdd, h73]
                            go_simp
                            exact hK _ _ ⟨_, rfl, by simp only [over, overL, Nat.reduceAdd, h73]; rfl, Below.refl _ _⟩
                          · intro f w1 hb ⟨h73, h78, h79, _⟩
                            replace h73 : f 73 = _ := h73
                            replace h78 : f 78 = _ := h78
                            replace h79 : f 79 = _ := h79
                            refine ⟨fun _ => ?_, fun hg => absurd h73 hg⟩
                            intro K hK
                            have q0 := HE1.out w1
                            simp only [over, overL, Nat.reduceAdd, h73, h78, h79]
                            refine wp_binopV rfl (by go_simp) q0 ?_
                            exact hK _ _ ⟨_, rfl, by simp only [over, overL, Nat.reduceAdd, h73, h78, h79], Below.refl _ _⟩
                          · intro f w1 hb ⟨h73, h80, _⟩ K hK
                            replace h73 : f 73 = _ := h73
                            replace h80 : f 80 = _ := h80
                            simp only [over, overL, Nat.reduceAdd, h73, h80]
                            go_simp
                            exact hK _ _ ⟨_, rfl, by simp only [over, overL, Nat.reduceAdd, h73, h80]; rfl, Below.refl _ _⟩
                          · intro f w1 hb ⟨h81, _⟩ K hK
                            replace h81 : f 81 = _ := h81
                            simp only [over, overL, Nat.reduceAdd, h81]
                            go_simp
                            exact hK _ _ ⟨_, rfl, by simp only [over, overL, Nat.reduceAdd, h81]; rfl, Below.refl _ _⟩
                          · intro f w1 hb ⟨h82, _⟩
                            replace h82 : f 82 = _ := h82
                            refine ⟨fun _ => ?_, fun hg => absurd h82 hg⟩
                            intro K hK
                            simp only [over, overL, Nat.reduceAdd, h82]
                            go_simp
                            exact hK _ _ ⟨_, rfl, by simp only [over, overL, Nat.reduceAdd, h82]; rfl, Below.refl _ _⟩
                          · intro f w1 hb ⟨h82, _⟩
                            replace h82 : f 82 = _ := h82
                            refine ⟨fun _ => ?_, fun hg => absurd h82 hg⟩
                            intro K hK
                            simp only [over, overL, Nat.reduceAdd, h82]
                            go_simp
                            exact hK _ _ ⟨_, rfl, by simp only [over, overL, Nat.reduceAdd, h82]; rfl, Below.refl _ _⟩
                          · intro f w1 hb ⟨h82, h83, h84, _⟩
                            replace h82 : f 82 = _ := h82
                            replace h83 : f 83 = _ := h83
                            replace h84 : f 84 = _ := h84
                            refine ⟨fun _ => ?_, fun hg => absurd h82 hg⟩
                            intro K hK
                            simp only [over, overL, Nat.reduceAdd, h82, h83, h84]
                            go_simp
                            exact hK _ _ ⟨_, rfl, by simp only [over, overL, Nat.reduceAdd, h82, h83, h84]; rfl, Below.refl _ _⟩
                          · intro f w1 hb ⟨h82, h85, _⟩
                            replace h82 : f 82 = _ := h82
                            replace h85 : f 85 = _ := h85
                            refine ⟨fun _ => ?_, fun hg => absurd h82 hg⟩
                            intro K hK
                            simp only [over, overL, Nat.reduceAdd, h82, h85]
                            go_simp
                            exact hK _ _ ⟨_, rfl, by simp only [over, overL, Nat.reduceAdd, h82, h85]; rfl, Below.refl _ _⟩
                          · intro f w1 hb ⟨h82, h86, _⟩
                            replace h82 : f 82 = _ := h82
                            replace h86 : f 86 = _ := h86
                            refine ⟨fun _ => ?_, fun hg => absurd h82 hg⟩
                            intro K hK
                            obtain ⟨q0, q1, q2, q3, q4, q5⟩ := HY.out w1 hb
                            simp only [over, overL, Nat.reduceAdd, h82, h86]
                            go_simp
                            exact hK _ _ ⟨_, rfl, by simp only [over, overL, Nat.reduceAdd, h82, h86]; rfl, Below.refl _ _⟩
                          · intro f w1 hb ⟨h82, _⟩
                            replace h82 : f 82 = _ := h82
                            refine ⟨fun _ => ?_, fun hg => absurd h82 hg⟩
                            intro K hK
                            have q0 := (KQ.out.later hb).c 0 rfl
                            have q1 := (KQ.out.later hb).c 1 rfl
                            have q2 := (KQ.out.later hb).c 2 rfl
                            simp only [over, overL, Nat.reduceAdd, h82]
                            go_simp
                            exact hK _ _ ⟨_, rfl, by simp only [over, overL, Nat.reduceAdd, h82]; rfl, Below.refl _ _⟩
                          · intro f w1 hb ⟨h82, h87, h88, _⟩
                            replace h82 : f 82 = _ := h82
                            replace h87 : f 87 = _ := h87
                            replace h88 : f 88 = _ := h88
                            refine ⟨fun _ => ?_, fun hg => absurd h82 hg⟩
                            intro K hK
                            have q0 := HE2.out w1
                            simp only [over, overL, Nat.reduceAdd, h82, h87, h88]
                            refine wp_binopV rfl (by go_simp) q0 ?_
                            exact hK _ _ ⟨_, rfl, by simp only [over, overL, Nat.reduceAdd, h82, h87, h88], Below.refl _ _⟩
                          · intro f w1 hb ⟨h82, h89, _⟩ K hK
                            replace h82 : f 82 = _ := h82
                            replace h89 : f 89 = _ := h89
                            simp only [over, overL, Nat.reduceAdd, h82, h89]
                            go_simp
                            exact hK _ _ ⟨_, rfl, by simp only [over, overL, Nat.reduceAdd, h82, h89]; rfl, Below.refl _ _⟩
                        · intro f2 w6 b6 hv2
                          have h90 : f2 90 = .bool true := hv2.2.2.2.2.2.2.2.2.2.2.2.2.2.2.2.2.2.2.2.2.2.1
                          have HPL : Hid (P < w6.heap.size ∧ Q < w6.heap.size) := ⟨Nat.lt_of_lt_of_le KP.out.1 b6.size, Nat.lt_of_lt_of_le KQ.out.1 b6.size⟩
                          have HB6 : Hid (Below wo.heap.size wo w6) := below_on HB5.out b6
                          have KP : Hid (Bk P (pcq r.1) w6) := KP.out.later b6
                          have KQ : Hid (Bk Q (pcq r.2) w6) := KQ.out.later b6
                          have HO6 : Hid (OwnR encQ w6 w3.heap.size (.slice (some ⟨g, 0, none⟩) out.length cap2) out) := HOV.out.later HB6.out
                          simp only [over, overL, Nat.reduceAdd, h90]
                          clear hv2
                          obtain ⟨z, hz⟩ : ∃ z : Int, z = 0 := ⟨0, rfl⟩
                          obtain ⟨lst, hlst⟩ : ∃ lst : Prs, lst = (out.take k) ++ (r, 0) :: out.drop k := ⟨_, rfl⟩
                          have HLST : Hid (lst = (out.take k) ++ (r, 0) :: out.drop k) := hlst
                          have hll : lst.length = out.length + 1 := by rw [hlst]; simp <;> omega
                          have hk8 : k < lst.length := by omega
                          have hl8 : lst.length ≤ 9000001 := by omega
                          clear hll
                          have HLK : Hid (lst[k]'hk8 = (r, z)) := by
                            have h : lst[k]? = some (r, 0) := by rw [hlst]; simp [List.length_take, Nat.min_eq_left hk]
                            have h2 := List.getElem?_eq_getElem hk8
                            rw [h] at h2
                            injection h2 with h2
                            show _ = _
                            rw [← h2, hz]
                          have HSET : Hid (lst.set k (r, z + x.vol) = addP r x.vol out) := by
                            show _ = _
                            rw [HNEW.out, hlst, hz, Int.zero_add]
                            simp [List.length_take, Nat.min_eq_left hk]
                          have hz0 : 0 ≤ z ∧ z ≤ 9000000000000000 := by omega
                          obtain ⟨hz0, hz1⟩ := hz0
                          clear hz hlst
                          have hck2 : k < cap2 := by omega
                          go_wp2_with (first
                            | (at_builtin; refine wpList_append_opt goodQ Try.underlying27 infoQ rfl (by decide) _ rfl (.tmp 91) (.tmp 94) rfl w6.heap.size (.slice none 0 0) [] rfl (OwnR.nil _ _ _) (some ⟨g, 0, none⟩) k _ (out.take k) (by rw [List.length_take]; omega) rfl (HO6.out.pre goodQ k) (fun h => by cases h) (by unfold maxLen; simp <;> omega) (by simp <;> omega) (Nat.le_refl _) ?_; intro v7 w7 o7 g7 n7; have b7 := below_row (Below.refl _ _) (OwnR.nil encQ w6 w6.heap.size) g7 (Nat.le_refl _); have KP7 := KP.out.later b7; have KQ7 := KQ.out.later b7; have p0 := KP7.c 0 rfl; have p1 := KP7.c 1 rfl; have p2 := KP7.c 2 rfl; have s0 := KQ7.c 0 rfl; have s1 := KQ7.c 1 rfl; have s2 := KQ7.c 2 rfl; obtain ⟨ao7, m7, c7, rfl⟩ := o7.form)
                            | (at_builtin; refine wpList_append_row goodQ Try.underlying27 infoQ rfl (by decide) (by decide) _ rfl (.tmp 96) (.tmp 100) rfl w6.heap.size (.slice ao7 m7 c7) ([] ++ (out.take k)) rfl (o7.alloc _) w7.heap.size (r, 0) rfl (fun j u hu => (Bk.new w7 (qrl (r, 0)) 39 w7.heap.size rfl).c j hu) (by simp <;> omega) (by have := b7.size; simp; omega) ?_; intro v7b w7b o7b g7b n7b; have b7b := below_row (below_on b7 ((Below.refl _ _).alloc (Nat.le_refl _) _)) (o7.alloc _) g7b (by have := b7.size; simp; omega); obtain ⟨ao7b, m7b, c7b, rfl⟩ := o7b.form; have HO6b := HO6.out.later b7b)
                            | (at_builtin; refine wpList_append_opt goodQ Try.underlying27 infoQ rfl (by decide) _ rfl (.tmp 102) (.tmp 105) rfl w6.heap.size (.slice ao7b m7b c7b) ([] ++ (out.take k) ++ [(r, 0)]) rfl o7b _ (out.length - k) _ (out.drop k) (by rw [List.length_drop]) rfl ((by simpa using HO6b.suf goodQ k)) (fun h => by cases h) (by unfold maxLen; simp <;> omega) (by simp <;> omega) b7b.size ?_; intro v8 w8 o8 g8 n8; have b8 := below_row b7b o7b g8 b7b.size; have o8b : OwnR encQ w8 w6.heap.size v8 lst := (by rw [HLST.out]; simpa using o8); obtain ⟨gg, cc, rfl, hgg, hgl⟩ := own_some o8b (by rw [HLST.out]; simp)))
                          have HB8 : Hid (Below wo.heap.size wo w8) := below_on HB6.out b8
                          have HO8 : Hid (OwnR encQ w8 w3.heap.size (.slice (some ⟨gg, 0, none⟩) lst.length cc) lst) := o8b.base (by have := HBO.out.size; have := HB6.out.size; omega)
                          have hg8 : w3.heap.size ≤ gg := by have := HBO.out.size; have := HB6.out.size; omega
                          have hs68 : w6.heap.size ≤ w8.heap.size := b8.size
                          clear o8 o8b
                          have HZ6 : Hid (∀ W1, Below w8.heap.size w8 W1 → W1.cell? ⟨gg, k * 7 + 6, none⟩ = some (.int .i64 z)) := fun W1 hb => by
                            have h := ((HO8.out.later hb).cellAt goodQ hk8 (j := 6) (by decide)).1
                            rw [HLK.out] at h
                            exact h
                          have HV4 : Hid (∀ W1, Below w8.heap.size w8 W1 → W1.cell? ⟨gm, om + i * 6 + 4, none⟩ = some (.int .i64 x.vol)) := fun W1 hb => (HX.out W1 (below_on HB8.out hb)).2.2.2.2
                          have hki8 : (k : Int) < (lst.length : Int) := by omega
                          have HADD : Hid (∀ W1, (binOp .add 3 (.int .i64 z) (.int .i64 x.vol)).run Try.prog W1 = .ok (.int .i64 (z + x.vol)) W1) := fun W1 => add_small z x.vol (by omega) (by omega) W1
                          refine region_seq 13 [false, false, false, false, false, false, false, false, false, false, false, false, false, false, false, false, false, false, false, false, false, false, false, false, false, false, false, false, false, false, false, false, false, false, false, false, false, false, false, false, false, false, false, false, false, false, false, false, false, false, false, false, false, false, false, false, false, false, false, false, false, false, false, false, false, false, false, false, false, false, false, false, false, false, false, false, false, false, false, false, false, false, false, false, false, false, false, false, false, false, false, false, false, false, false, false, false, false, false, false, false, false, false, false, false, false, false, true, true, true, true, true, true, true, true, true, true, true, true, true, false]
                            [(107, [], none), (108, [], none), (109, [107, 108], none), (110, [109], none), (111, [110], none), (112, [], none), (113, [], none), (114, [112, 113], none), (115, [114], none), (116, [115], none), (117, [111, 116], none), (118, [107, 108], none), (119, [118], none)]
                            (p15 gg lst.length cc k gm om os.length cS i z x.vol) (by kernel_rfl) (by kernel_rfl) (by kernel_rfl) (by kernel_rfl) (by kernel_rfl) (by decide) (p15_mono gg lst.length cc k gm om os.length cS i z x.vol) ?_ ?_
                          · refine ⟨?_, ?_, ?_, ?_, ?_, ?_, ?_, ?_, ?_, ?_, ?_, ?_, ?_, trivial⟩
                            · intro f w1 hb _ K hK
                              simp only [over, overL, Nat.reduceAdd]
                              go_simp
                              exact hK _ _ ⟨_, rfl, by simp only [over, overL, Nat.reduceAdd]; rfl, Below.refl _ _⟩
                            · intro f w1 hb _ K hK
                              simp only [over, overL, Nat.reduceAdd]
                              go_simp
                              exact hK _ _ ⟨_, rfl, by simp only [over, overL, Nat.reduceAdd]; rfl, Below.refl _ _⟩
                            · intro f w1 hb ⟨h107, h108, _⟩ K hK
                              replace h107 : f 107 = _ := h107
                              replace h108 : f 108 = _ := h108
                              simp only [over, overL, Nat.reduceAdd, h107, h108]
                              go_simp
                              exact hK _ _ ⟨_, rfl, by simp only [over, overL, Nat.reduceAdd, h107, h108]; rfl, Below.refl _ _⟩
                            · intro f w1 hb ⟨h109, _⟩ K hK
                              replace h109 : f 109 = _ := h109
                              simp only [over, overL, Nat.reduceAdd, h109]
                              go_simp
                              exact hK _ _ ⟨_, rfl, by simp only [over, overL, Nat.reduceAdd, h109]; rfl, Below.refl _ _⟩
                            · intro f w1 hb ⟨h110, _⟩ K hK
                              replace h110 : f 110 = _ := h110
                              have q6 := HZ6.out w1 hb
                              simp only [over, overL, Nat.reduceAdd, h110]
                              go_simp
                              exact hK _ _ ⟨_, rfl, by simp only [over, overL, Nat.reduceAdd, h110]; rfl, Below.refl _ _⟩
                            · intro f w1 hb _ K hK
                              simp only [over, overL, Nat.reduceAdd]
                              go_simp
                              exact hK _ _ ⟨_, rfl, by simp only [over, overL, Nat.reduceAdd]; rfl, Below.refl _ _⟩
                            · intro f w1 hb _ K hK
                              simp only [over, overL, Nat.reduceAdd]
                              go_simp
                              exact hK _ _ ⟨_, rfl, by simp only [over, overL, Nat.reduceAdd]; rfl, Below.refl _ _⟩
                            · intro f w1 hb ⟨h112, h113, _⟩ K hK
                              replace h112 : f 112 = _ := h112
                              replace h113 : f 113 = _ := h113
                              simp only [over, overL, Nat.reduceAdd, h112, h113]
                              go_simp
                              exact hK _ _ ⟨_, rfl, by simp only [over, overL, Nat.reduceAdd, h112, h113]; rfl, Below.refl _ _⟩
                            · intro f w1 hb ⟨h114, _⟩ K hK
                              replace h114 : f 114 = _ := h114
                              simp only [over, overL, Nat.reduceAdd, h114]
                              go_simp
                              exact hK _ _ ⟨_, rfl, by simp only [over, overL, Nat.reduceAdd, h114]; rfl, Below.refl _ _⟩
                            · intro f w1 hb ⟨h115, _⟩ K hK
                              replace h115 : f 115 = _ := h115
                              have q4 := HV4.out w1 hb
                              simp only [over, overL, Nat.reduceAdd, h115]
                              go_simp
                              exact hK _ _ ⟨_, rfl, by simp only [over, overL, Nat.reduceAdd, h115]; rfl, Below.refl _ _⟩
                            · intro f w1 hb ⟨h111, h116, _⟩ K hK
                              replace h111 : f 111 = _ := h111
                              replace h116 : f 116 = _ := h116
                              have q0 := HADD.out w1
                              simp only [over, overL, Nat.reduceAdd, h111, h116]
                              refine wp_binopV rfl (by go_simp) q0 ?_
                              exact hK _ _ ⟨_, rfl, by simp only [over, overL, Nat.reduceAdd, h111, h116], Below.refl _ _⟩
                            · intro f w1 hb ⟨h107, h108, _⟩ K hK
                              replace h107 : f 107 = _ := h107
                              replace h108 : f 108 = _ := h108
                              simp only [over, overL, Nat.reduceAdd, h107, h108]
                              go_simp
                              exact hK _ _ ⟨_, rfl, by simp only [over, overL, Nat.reduceAdd, h107, h108]; rfl, Below.refl _ _⟩
                            · intro f w1 hb ⟨h118, _⟩ K hK
                              replace h118 : f 118 = _ := h118
                              simp only [over, overL, Nat.reduceAdd, h118]
                              go_simp
                              exact hK _ _ ⟨_, rfl, by simp only [over, overL, Nat.reduceAdd, h118]; rfl, Below.refl _ _⟩
                          · intro f3 w9 b9 hv3
                            have h117 : f3 117 = .int .i64 (z + x.vol) := hv3.2.2.2.2.2.2.2.2.2.2.1
                            have h119 : f3 119 = .pointer (some ⟨gg, k * 7 + 6, none⟩) := hv3.2.2.2.2.2.2.2.2.2.2.2.2.1
                            have O9 := HO8.out.later b9
                            have s6 := HZ6.out w9 b9
                            have sf6 : w9.frozen? ⟨gg, k * 7 + 6, none⟩ = false := (O9.cellAt goodQ hk8 (j := 6) (by decide)).2
                            simp only [List.drop, over, overL, Nat.reduceAdd, h117, h119]
                            clear hv3
                            go_wp2
                            go_roundw
                            case rel =>
                              have hB9 := below_on HBO.out (below_on HB8.out b9)
                              have O10 := O9.set goodQ hk8 (o := 6) (by decide) (.int .i64 (z + x.vol)) (r, z + x.vol) (by rw [HLK.out]; rfl)
                              rw [HSET.out] at O10
                              have hs9 := Nat.le_trans HB8.out.size b9.size
                              refine ⟨i + 1, _, _, _, by omega, rfl, by go_num, rfl, rfl, ?_, hB9.setCell hg8 _, fun b e => ?_, fun b e => ?_⟩
                              · rw [HNX.out]
                                have e : (.slice (some ⟨gg, 0, none⟩) lst.length cc : Value) = .slice (some ⟨gg, 0, none⟩) (addP r x.vol out).length cc := by rw [← HSET.out, List.length_set]
                                exact O10
                              · simp at e; subst e; have := HPL.out.1; have := b9.size; simp [World.setCell]; omega
                              · simp at e; subst e; have := HPL.out.2; have := b9.size; simp [World.setCell]; omega
                            case measure => simp [intOf]; omega
                · have HP1 : Hid (∀ W, Calls Try.prog 22 #[plv y.1.1, plv r.1] W fun e w' => e = .returned (.bool false) ∧ Below W.heap.size W w') := fun W => by have h := placeLess_any y.1.1 r.1 W; rwa [hp1] at h
                  have HE : Hid (∀ W1, (binOp .eql 26 (.agg #[.int .i64 y.1.1.1, .int .i64 y.1.1.2.1, .int .i64 y.1.1.2.2]) (.agg #[.int .i64 r.1.1, .int .i64 r.1.2.1, .int .i64 r.1.2.2])).run Try.prog W1 = .ok (.bool false) W1) := fun W1 => by have h := pl_sameV y.1.1 r.1 W1; rwa [decide_eq_false he1] at h
                  go_wp2_with fail
                  refine region_inv [false, false, false, false, false, false, false, false, false, false, false, false, false, false, false, false, false, false, false, false, false, false, false, false, false, false, false, false, false, false, false, false, false, false, false, false, true, true, true, true, true, true, true, true, true, true, true, true, true, true, true, true, true, true, true, true, true, true, true, true, true, true, true, true, true, true, true, false, false, false, false, false, false, false, false, false, false, false, false, false, false, false, false, false, false, false, false, false, false, false, false, false, false, false, false, false, false, false, false, false, false, false, false, false, false, false, false, false, false, false, false, false, false, false, false, false, false, false, false, false, false]
                    [(36, [], none), (37, [], none), (38, [37], none), (39, [36, 38], none), (40, [39], none), (41, [40], some (40, true)), (42, [40], some (40, true)), (43, [40, 41, 42], some (40, true)), (44, [40, 43], some (40, true)), (45, [40, 44], some (40, true)), (46, [40], some (40, true)), (47, [40, 45, 46], some (40, true)), (48, [40, 47], some (40, true)), (49, [48], some (48, false)), (50, [48], some (48, false)), (51, [48, 49, 50], some (48, false)), (52, [48, 51], some (48, false)), (53, [48, 52], some (48, false)), (54, [48], some (48, false)), (55, [48, 53, 54], some (48, false)), (56, [48, 55], some (48, false)), (57, [56], some (56, true)), (58, [56], some (56, true)), (59, [56, 57, 58], some (56, true)), (60, [56, 59], some (56, true)), (61, [56, 60], some (56, true)), (62, [56], some (56, true)), (63, [56, 61, 62], some (56, true)), (64, [48, 56, 63], some (48, false)), (65, [40, 48, 64], some (40, true)), (66, [40, 65], none)]
                    (p8B g out.length cap2 k P Q y r true) (by kernel_rfl) (by kernel_rfl) (p8B_mono g out.length cap2 k P Q y r true) ?_ ?_
                  · refine ⟨?_, ?_, ?_, ?_, ?_, ?_, ?_, ?_, ?_, ?_, ?_, ?_, ?_, ?_, ?_, ?_, ?_, ?_, ?_, ?_, ?_, ?_, ?_, ?_, ?_, ?_, ?_, ?_, ?_, ?_, ?_, trivial⟩
                    · intro f w1 hb _ K hK
                      simp only [over, overL, Nat.reduceAdd]
                      go_simp
                      exact hK _ _ ⟨_, rfl, by simp only [over, overL, Nat.reduceAdd]; rfl, Below.refl _ _⟩
                    · intro f w1 hb _ K hK
                      simp only [over, overL, Nat.reduceAdd]
                      go_simp
                      exact hK _ _ ⟨_, rfl, by simp only [over, overL, Nat.reduceAdd]; rfl, Below.refl _ _⟩
                    · intro f w1 hb ⟨h37, _⟩ K hK
                      replace h37 : f 37 = _ := h37
                      simp only [over, overL, Nat.reduceAdd, h37]
                      go_simp
                      exact hK _ _ ⟨_, rfl, by simp only [over, overL, Nat.reduceAdd, h37]; rfl, Below.refl _ _⟩
                    · intro f w1 hb ⟨h36, h38, _⟩ K hK
                      replace h36 : f 36 = _ := h36
                      replace h38 : f 38 = _ := h38
                      simp only [over, overL, Nat.reduceAdd, h36, h38]
                      go_simp
                      exact hK _ _ ⟨_, rfl, by simp only [over, overL, Nat.reduceAdd, h36, h38]; rfl, Below.refl _ _⟩
                    · intro f w1 hb ⟨h39, _⟩ K hK
                      replace h39 : f 39 = _ := h39
                      simp only [over, overL, Nat.reduceAdd, h39]
                      go_simp
                      exact hK _ _ ⟨_, rfl, by simp only [over, overL, Nat.reduceAdd, h39]; rfl, Below.refl _ _⟩
                    · intro f w1 hb ⟨h40, _⟩
                      replace h40 : f 40 = _ := h40
                      refine ⟨fun _ => ?_, fun hg => absurd h40 hg⟩
                      intro K hK
                      simp only [over, overL, Nat.reduceAdd, h40]
                      go_simp
                      exact hK _ _ ⟨_, rfl, by simp only [over, overL, Nat.reduceAdd, h40]; rfl, Below.refl _ _⟩
                    · intro f w1 hb ⟨h40, _⟩
                      replace h40 : f 40 = _ := h40
                      refine ⟨fun _ => ?_, fun hg => absurd h40 hg⟩
                      intro K hK
                      simp only [over, overL, Nat.reduceAdd, h40]
                      go_simp
                      exact hK _ _ ⟨_, rfl, by simp only [over, overL, Nat.reduceAdd, h40]; rfl, Below.refl _ _⟩
                    · intro f w1 hb ⟨h40, h41, h42, _⟩
                      replace h40 : f 40 = _ := h40
                      replace h41 : f 41 = _ := h41
                      replace h42 : f 42 = _ := h42
                      refine ⟨fun _ => ?_, fun hg => absurd h40 hg⟩
                      intro K hK
                      simp only [over, overL, Nat.reduceAdd, h40, h41, h42]
                      go_simp
                      exact hK _ _ ⟨_, rfl, by simp only [over, overL, Nat.reduceAdd, h40, h41, h42]; rfl, Below.refl _ _⟩
                    · intro f w1 hb ⟨h40, h43, _⟩
                      replace h40 : f 40 = _ := h40
                      replace h43 : f 43 = _ := h43
                      refine ⟨fun _ => ?_, fun hg => absurd h40 hg⟩
                      intro K hK
                      simp only [over, overL, Nat.reduceAdd, h40, h43]
                      go_simp
                      exact hK _ _ ⟨_, rfl, by simp only [over, overL, Nat.reduceAdd, h40, h43]; rfl, Below.refl _ _⟩
                    · intro f w1 hb ⟨h40, h44, _⟩
                      replace h40 : f 40 = _ := h40
                      replace h44 : f 44 = _ := h44
                      refine ⟨fun _ => ?_, fun hg => absurd h40 hg⟩
                      intro K hK
                      obtain ⟨q0, q1, q2, q3, q4, q5⟩ := HY.out w1 hb
                      simp only [over, overL, Nat.reduceAdd, h40, h44]
                      go_simp
                      exact hK _ _ ⟨_, rfl, by simp only [over, overL, Nat.reduceAdd, h40, h44]; rfl, Below.refl _ _⟩
                    · intro f w1 hb ⟨h40, _⟩
                      replace h40 : f 40 = _ := h40
                      refine ⟨fun _ => ?_, fun hg => absurd h40 hg⟩
                      intro K hK
                      have q0 := (KP.out.later hb).c 0 rfl
                      have q1 := (KP.out.later hb).c 1 rfl
                      have q2 := (KP.out.later hb).c 2 rfl
                      simp only [over, overL, Nat.reduceAdd, h40]
                      go_simp
                      exact hK _ _ ⟨_, rfl, by simp only [over, overL, Nat.reduceAdd, h40]; rfl, Below.refl _ _⟩
                    · intro f w1 hb ⟨h40, h45, h46, _⟩
                      replace h40 : f 40 = _ := h40
                      replace h45 : f 45 = _ := h45
                      replace h46 : f 46 = _ := h46
                      refine ⟨fun _ => ?_, fun hg => absurd h40 hg⟩
                      intro K hK
                      simp only [over, overL, Nat.reduceAdd, h40, h45, h46]
                      go_simp
                      refine (HP1.out w1).mono ?_
                      rintro e w2 ⟨rfl, hb2⟩
                      exact hK _ _ ⟨_, rfl, by simp only [over, overL, Nat.reduceAdd, h40, h45, h46]; rfl, hb2⟩
                    · intro f w1 hb ⟨h40, h47, _⟩
                      replace h40 : f 40 = _ := h40
                      replace h47 : f 47 = _ := h47
                      refine ⟨fun _ => ?_, fun hg => absurd h40 hg⟩
                      intro K hK
                      simp only [over, overL, Nat.reduceAdd, h40, h47]
                      go_simp
                      exact hK _ _ ⟨_, rfl, by simp only [over, overL, Nat.reduceAdd, h40, h47]; rfl, Below.refl _ _⟩
                    · intro f w1 hb ⟨h48, _⟩
                      replace h48 : f 48 = _ := h48
                      refine ⟨fun _ => ?_, fun hg => absurd h48 hg⟩
                      intro K hK
                      simp only [over, overL, Nat.reduceAdd, h48]
                      go_simp
                      exact hK _ _ ⟨_, rfl, by simp only [over, overL, Nat.reduceAdd, h48]; rfl, Below.refl _ _⟩
                    · intro f w1 hb ⟨h48, _⟩
                      replace h48 : f 48 = _ := h48
                      refine ⟨fun _ => ?_, fun hg => absurd h48 hg⟩
                      intro K hK
                      simp only [over, overL, Nat.reduceAdd, h48]
                      go_simp
                      exact hK _ _ ⟨_, rfl, by simp only [over, overL, Nat.reduceAdd, h48]; rfl, Below.refl _ _⟩
                    · intro f w1 hb ⟨h48, h49, h50, _⟩
                      replace h48 : f 48 = _ := h48
                      replace h49 : f 49 = _ := h49
                      replace h50 : f 50 = _ := h50
                      refine ⟨fun _ => ?_, fun hg => absurd h48 hg⟩
                      intro K hK
                      simp only [over, overL, Nat.reduceAdd, h48, h49, h50]
                      go_simp
                      exact hK _ _ ⟨_, rfl, by simp only [over, overL, Nat.reduceAdd, h48, h49, h50]; rfl, Below.refl _ _⟩
                    · intro f w1 hb ⟨h48, h51, _⟩
                      replace h48 : f 48 = _ := h48
                      replace h51 : f 51 = _ := h51
                      refine ⟨fun _ => ?_, fun hg => absurd h48 hg⟩
                      intro K hK
                      simp only [over, overL, Nat.reduceAdd, h48, h51]
                      go_simp
                      exact hK _ _ ⟨_, rfl, by simp only [over, overL, Nat.reduceAdd, h48, h51]; rfl, Below.refl _ _⟩
                    · intro f w1 hb ⟨h48, h52, _⟩
                      replace h48 : f 48 = _ := h48
                      replace h52 : f 52 = _ := h52
                      refine ⟨fun _ => ?_, fun hg => absurd h48 hg⟩
                      intro K hK
                      obtain ⟨q0, q1, q2, q3, q4, q5⟩ := HY.out w1 hb
                      simp only [over, overL, Nat.reduceAdd, h48, h52]
                      go_simp
                      exact hK _ _ ⟨_, rfl, by simp only [over, overL, Nat.reduceAdd, h48, h52]; rfl, Below.refl _ _⟩
                    · intro f w1 hb ⟨h48, _⟩
                      replace h48 : f 48 = _ := h48
                      refine ⟨fun _ => ?_, fun hg => absurd h48 hg⟩
                      intro K hK
                      have q0 := (KP.out.later hb).c 0 rfl
                      have q1 := (KP.out.later hb).c 1 rfl
                      have q2 := (KP.out.later hb).c 2 rfl
                      simp only [over, overL, Nat.reduceAdd, h48]
                      go_simp
                      exact hK _ _ ⟨_, rfl, by simp only [over, overL, Nat.reduceAdd, h48]; rfl, Below.refl _ _⟩
                    · intro f w1 hb ⟨h48, h53, h54, _⟩
                      replace h48 : f 48 = _ := h48
                      replace h53 : f 53 = _ := h53
                      replace h54 : f 54 = _ := h54
                      refine ⟨fun _ => ?_, fun hg => absurd h48 hg⟩
                      intro K hK
                      have q0 := HE.out w1
                      simp only [over, overL, Nat.reduceAdd, h48, h53, h54]
                      refine wp_binopV rfl (by go_simp) q0 ?_
                      exact hK _ _ ⟨_, rfl, by simp only [over, overL, Nat.reduceAdd, h48, h53, h54], Below.refl _ _⟩
                    · intro f w1 hb ⟨h48, h55, _⟩
                      replace h48 : f 48 = _ := h48
                      replace h55 : f 55 = _ := h55
                      refine ⟨fun _ => ?_, fun hg => absurd h48 hg⟩
                      intro K hK
                      simp only [over, overL, Nat.reduceAdd, h48, h55]
                      go_simp
                      exact hK _ _ ⟨_, rfl, by simp only [over, overL, Nat.reduceAdd, h48, h55]; rfl, Below.refl _ _⟩
                    · intro f w1 hb ⟨h56, _⟩
                      replace h56 : f 56 = _ := h56
                      exact ⟨fun hg => absurd (h56.symm.trans hg) (by simp), fun _ => trivial⟩
                    · intro f w1 hb ⟨h56, _⟩
                      replace h56 : f 56 = _ := h56
                      exact ⟨fun hg => absurd (h56.symm.trans hg) (by simp), fun _ => trivial⟩
                    · intro f w1 hb ⟨h56, h57, h58, _⟩
                      replace h56 : f 56 = _ := h56
                      exact ⟨fun hg => absurd (h56.symm.trans hg) (by simp), fun _ => trivial⟩
                    · intro f w1 hb ⟨h56, h59, _⟩
                      replace h56 : f 56 = _ := h56
                      exact ⟨fun hg => absurd (h56.symm.trans hg) (by simp), fun _ => trivial⟩
                    · intro f w1 hb ⟨h56, h60, _⟩
                      replace h56 : f 56 = _ := h56
                      exact ⟨fun hg => absurd (h56.symm.trans hg) (by simp), fun _ => trivial⟩
                    · intro f w1 hb ⟨h56, _⟩
                      replace h56 : f 56 = _ := h56
                      exact ⟨fun hg => absurd (h56.symm.trans hg) (by simp), fun _ => trivial⟩
                    · intro f w1 hb ⟨h56, h61, h62, _⟩
                      replace h56 : f 56 = _ := h56
                      exact ⟨fun hg => absurd (h56.symm.trans hg) (by simp), fun _ => trivial⟩
                    · intro f w1 hb ⟨h48, h56, h63, _⟩
                      replace h48 : f 48 = _ := h48
                      replace h56 : f 56 = _ := h56
                      refine ⟨fun _ => ?_, fun hg => absurd h48 hg⟩
                      intro K hK
                      simp only [over, overL, Nat.reduceAdd, h48, h56]
                      go_simp
                      exact hK _ _ ⟨_, rfl, by simp only [over, overL, Nat.reduceAdd, h48, h56]; rfl, Below.refl _ _⟩
                    · intro f w1 hb ⟨h40, h48, h64, _⟩
                      replace h40 : f 40 = _ := h40
                      replace h48 : f 48 = _ := h48
                      replace h64 : f 64 = _ := h64
                      refine ⟨fun _ => ?_, fun hg => absurd h40 hg⟩
                      intro K hK
                      simp only [over, overL, Nat.reduceAdd, h40, h48, h64]
                      go_simp
                      exact hK _ _ ⟨_, rfl, by simp only [over, overL, Nat.reduceAdd, h40, h48, h64]; rfl, Below.refl _ _⟩
                    · intro f w1 hb ⟨h40, h65, _⟩ K hK
                      replace h40 : f 40 = _ := h40
                      replace h65 : f 65 = _ := h65
                      simp only [over, overL, Nat.reduceAdd, h40, h65]
                      go_simp
                      exact hK _ _ ⟨_, rfl, by simp only [over, overL, Nat.reduceAdd, h40, h65]; rfl, Below.refl _ _⟩
                  · intro f5 w5 b5 hv5
                    have h66 : f5 66 = .bool false := hv5.2.2.2.2.2.2.2.2.2.2.2.2.2.2.2.2.2.2.2.2.2.2.2.2.2.2.2.2.2.2.1
                    have KP : Hid (Bk P (pcq r.1) w5) := KP.out.later b5
                    have KQ : Hid (Bk Q (pcq r.2) w5) := KQ.out.later b5
                    have HB5 : Hid (Below wo.heap.size wo w5) := below_on HBK.out b5
                    clear hv5
                    have HY : Hid (∀ W1, Below w5.heap.size w5 W1 → W1.cell? ⟨g, k * 7, none⟩ = some (.int .i64 y.1.1.1) ∧ W1.cell? ⟨g, k * 7 + 1, none⟩ = some (.int .i64 y.1.1.2.1) ∧ W1.cell? ⟨g, k * 7 + 2, none⟩ = some (.int .i64 y.1.1.2.2) ∧ W1.cell? ⟨g, k * 7 + 3, none⟩ = some (.int .i64 y.1.2.1) ∧ W1.cell? ⟨g, k * 7 + 4, none⟩ = some (.int .i64 y.1.2.2.1) ∧ W1.cell? ⟨g, k * 7 + 5, none⟩ = some (.int .i64 y.1.2.2.2)) := fun W1 hb => HY.out W1 (below_on b5 hb)
                    have HE1 : Hid (∀ W1, (binOp .neq 26 (.agg #[.int .i64 y.1.1.1, .int .i64 y.1.1.2.1, .int .i64 y.1.1.2.2]) (.agg #[.int .i64 r.1.1, .int .i64 r.1.2.1, .int .i64 r.1.2.2])).run Try.prog W1 = .ok (.bool true) W1) := fun W1 => by have h := pl_neqV y.1.1 r.1 W1; rwa [decide_eq_false he1, Bool.not_false] at h
                    have HNEW : Hid (addP r x.vol out = out.take k ++ (r, x.vol) :: out.drop k) := HAN.out (by cases h : rltB y.1 r with
                      | false => rfl
                      | true =>
                        rcases rlt_iff.1 h with h | ⟨h, _⟩
                        · rw [hp1] at h; cases h
                        · exact absurd h he1) (fun e => he1 (by rw [e]))
                    clear he1
                    simp only [over, overL, Nat.reduceAdd, h66]
                    go_wp2_with fail
                    refine region_inv [false, false, false, false, false, false, false, false, false, false, false, false, false, false, false, false, false, false, false, false, false, false, false, false, false, false, false, false, false, false, false, false, false, false, false, false, false, false, false, false, false, false, false, false, false, false, false, false, false, false, false, false, false, false, false, false, false, false, false, false, false, false, false, false, false, false, false, false, false, true, true, true, true, true, true, true, true, true, true, true, true, true, true, true, true, true, true, true, true, true, true, false, false, false, false, false, false, false, false, false, false, false, false, false, false, false, false, false, false, false, false, false, false, false, false, false, false, false, false, false, false]
                      [(69, [], none), (70, [], none), (71, [70], none), (72, [69, 71], none), (73, [72], none), (74, [73], some (73, false)), (75, [73], some (73, false)), (76, [73, 74, 75], some (73, false)), (77, [73, 76], some (73, false)), (78, [73, 77], some (73, false)), (79, [73], some (73, false)), (80, [73, 78, 79], some (73, false)), (81, [73, 80], none), (82, [81], none), (83, [82], some (82, false)), (84, [82], some (82, false)), (85, [82, 83, 84], some (82, false)), (86, [82, 85], some (82, false)), (87, [82, 86], some (82, false)), (88, [82], some (82, false)), (89, [82, 87, 88], some (82, false)), (90, [82, 89], none)]
                      (ptB g out.length cap2 k P Q y r true) (by kernel_rfl) (by kernel_rfl) (ptB_mono g out.length cap2 k P Q y r true) ?_ ?_
                    · refine ⟨?_, ?_, ?_, ?_, ?_, ?_, ?_, ?_, ?_, ?_, ?_, ?_, ?_, ?_, ?_, ?_, ?_, ?_, ?_, ?_, ?_, ?_, trivial⟩
                      · intro f w1 hb _ K hK
                        simp only [over, overL, Nat.reduceAdd]
                        go_simp
                        exact hK _ _ ⟨_, rfl, by simp only [over, overL, Nat.reduceAdd]; rfl, Below.refl _ _⟩
                      · intro f w1 hb _ K hK
                        simp only [over, overL, Nat.reduceAdd]
                        go_simp
                        exact hK _ _ ⟨_, rfl, by simp only [over, overL, Nat.reduceAdd]; rfl, Below.refl _ _⟩
                      · intro f w1 hb ⟨h70, _⟩ K hK
                        replace h70 : f 70 = _ := h70
                        simp only [over, overL, Nat.reduceAdd, h70]
                        go_simp
                        exact hK _ _ ⟨_, rfl, by simp only [over, overL, Nat.reduceAdd, h70]; rfl, Below.refl _ _⟩
                      · intro f w1 hb ⟨h69, h71, _⟩ K hK
                        replace h69 : f 69 = _ := h69
                        replace h71 : f 71 = _ := h71
                        simp only [over, overL, Nat.reduceAdd, h69, h71]
                        go_simp
                        exact hK _ _ ⟨_, rfl, by simp only [over, overL, Nat.reduceAdd, h69, h71]; rfl, Below.refl _ _⟩
                      · intro f w1 hb ⟨h72, _⟩ K hK
                        replace h72 : f 72 = _ := h72
                        simp only [over, overL, Nat.reduceAdd, h72]
                        go_simp
                        exact hK _ _ ⟨_, rfl, by simp only [over, overL, Nat.reduceAdd, h72]; rfl, Below.refl _ _⟩
                      · intro f w1 hb ⟨h73, _⟩
                        replace h73 : f 73 = _ := h73
                        refine ⟨fun _ => ?_, fun hg => absurd h73 hg⟩
                        intro K hK
                        simp only [over, overL, Nat.reduceAdd, h73]
                        go_simp
                        exact hK _ _ ⟨_, rfl, by simp only [over, overL, Nat.reduceAdd, h73]; rfl, Below.refl _ _⟩
                      · intro f w1 hb ⟨h73, _⟩
                        replace h73 : f 73 = _ := h73
                        refine ⟨fun _ => ?_, fun hg => absurd h73 hg⟩
                        intro K hK
                        simp only [over, overL, Nat.reduceAdd, h73]
                        go_simp
                        exact hK _ _ ⟨_, rfl, by simp only [over, overL, Nat.reduceAdd, h73]; rfl, Below.refl _ _⟩
                      · intro f w1 hb ⟨h73, h74, h75, _⟩
                        replace h73 : f 73 = _ := h73
                        replace h74 : f 74 = _ := h74
                        replace h75 : f 75 = _ := h75
                        refine ⟨fun _ => ?_, fun hg => absurd h73 hg⟩
                        intro K hK
                        simp only [over, overL, Nat.reduceAdd, h73, h74, h75]
                        go_simp
                        exact hK _ _ ⟨_, rfl, by simp only [over, overL, Nat.reduceAdd, h73, h74, h75]; rfl, Below.refl _ _⟩
                      · intro f w1 hb ⟨h73, h76, _⟩
                        replace h73 : f 73 = _ := h73
                        replace h76 : f 76 = _ := h76
                        refine ⟨fun _ => ?_, fun hg => absurd h73 hg⟩
                        intro K hK
                        simp only [over, overL, Nat.reduceAdd, h73, h76]
                        go_simp
                        exact hK _ _ ⟨_, rfl, by simp only [over, overL, Nat.reduceAdd, h73, h76]; rfl, Below.refl _ _⟩
                      · intro f w1 hb ⟨h73, h77, _⟩
                        replace h73 : f 73 = _ := h73
                        replace h77 : f 77 = _ := h77
                        refine ⟨fun _ => ?_, fun hg => absurd h73 hg⟩
                        intro K hK
                        obtain ⟨q0, q1, q2, q3, q4, q5⟩ := HY.out w1 hb
                        simp only [over, overL, Nat.reduceAdd, h73, h77]
                        go_simp
                        exact hK _ _ ⟨_, rfl, by simp only [over, overL, Nat.reduceAdd, h73, h77]; rfl, Below.refl _ _⟩
                      · intro f w1 hb ⟨h73, _⟩
                        replace h73 : f 73 = _ := h73
                        refine ⟨fun _ => ?_, fun hg => absurd h73 hg⟩
                        intro K hK
                        have q0 := (KP.out.later hb).c 0 rfl
                        have q1 := (KP.out.later hb).c 1 rfl
                        have q2 := (KP.out.later hb).c 2 rfl
                        simp only [over, overL, Nat.reduceAdd, h73]
                        go_simp
                        exact hK _ _ ⟨_, rfl, by simp only [over, overL, Nat.reduceAdd, h73]; rfl, Below.refl _ _⟩
                      · intro f w1 hb ⟨h73, h78, h79, _⟩
                        replace h73 : f 73 = _ := h73
                        replace h78 : f 78 = _ := h78
                        replace h79 : f 79 = _ := h79
                        refine ⟨fun _ => ?_, fun hg => absurd h73 hg⟩
                        intro K hK
                        have q0 := HE1.out w1
                        simp only [over, overL, Nat.reduceAdd, h73, h78, h79]
                        refine wp_binopV rfl (by go_simp) q0 ?_
                        exact hK _ _ ⟨_, rfl, by simp only [over, overL, Nat.reduceAdd, h73, h78, h79], Below.refl _ _⟩
                      · intro f w1 hb ⟨h73, h80, _⟩ K hK
                        replace h73 : f 73 = _ := h73
                        replace h80 : f 80 = _ := h80
                        simp only [over, overL, Nat.reduceAdd, h73, h80]
                        go_simp
                        exact hK _ _ ⟨_, rfl, by simp only [over, overL, Nat.reduceAdd, h73, h80]; rfl, Below.refl _ _⟩
                      · intro f w1 hb ⟨h81, _⟩ K hK
                        replace h81 : f 81 = _ := h81
                        simp only [over, overL, Nat.reduceAdd, h81]
                        go_simp
                        exact hK _ _ ⟨_, rfl, by simp only [over, overL, Nat.reduceAdd, h81]; rfl, Below.refl _ _⟩
                      · intro f w1 hb ⟨h82, _⟩
                        replace h82 : f 82 = _ := h82
                        exact ⟨fun hg => absurd (h82.symm.trans hg) (by simp), fun _ => trivial⟩
                      · intro f w1 hb ⟨h82, _⟩
                        replace h82 : f 82 = _ := h82
                        exact ⟨fun hg => absurd (h82.symm.trans hg) (by simp), fun _ => trivial⟩
                      · intro f w1 hb ⟨h82, h83, h84, _⟩
                        replace h82 : f 82 = _ := h82
                        exact ⟨fun hg => absurd (h82.symm.trans hg) (by simp), fun _ => trivial⟩
                      · intro f w1 hb ⟨h82, h85, _⟩
                        replace h82 : f 82 = _ := h82
                        exact ⟨fun hg => absurd (h82.symm.trans hg) (by simp), fun _ => trivial⟩
                      · intro f w1 hb ⟨h82, h86, _⟩
                        replace h82 : f 82 = _ := h82
                        exact ⟨fun hg => absurd (h82.symm.trans hg) (by simp), fun _ => trivial⟩
                      · intro f w1 hb ⟨h82, _⟩
                        replace h82 : f 82 = _ := h82
                        exact ⟨fun hg => absurd (h82.symm.trans hg) (by simp), fun _ => trivial⟩
                      · intro f w1 hb ⟨h82, h87, h88, _⟩
                        replace h82 : f 82 = _ := h82
                        exact ⟨fun hg => absurd (h82.symm.trans hg) (by simp), fun _ => trivial⟩
                      · intro f w1 hb ⟨h82, h89, _⟩ K hK
                        replace h82 : f 82 = _ := h82
                        simp only [over, overL, Nat.reduceAdd, h82]
                        go_simp
                        exact hK _ _ ⟨_, rfl, by simp only [over, overL, Nat.reduceAdd, h82]; rfl, Below.refl _ _⟩
                    · intro f2 w6 b6 hv2
                      have h90 : f2 90 = .bool true := hv2.2.2.2.2.2.2.2.2.2.2.2.2.2.2.2.2.2.2.2.2.2.1
                      have HPL : Hid (P < w6.heap.size ∧ Q < w6.heap.size) := ⟨Nat.lt_of_lt_of_le KP.out.1 b6.size, Nat.lt_of_lt_of_le KQ.out.1 b6.size⟩
                      have HB6 : Hid (Below wo.heap.size wo w6) := below_on HB5.out b6
                      have KP : Hid (Bk P (pcq r.1) w6) := KP.out.later b6
                      have KQ : Hid (Bk Q (pcq r.2) w6) := KQ.out.later b6
                      have HO6 : Hid (OwnR encQ w6 w3.heap.size (.slice (some ⟨g, 0, none⟩) out.length cap2) out) := HOV.out.later HB6.out
                      simp only [over, overL, Nat.reduceAdd, h90]
                      clear hv2
                      obtain ⟨z, hz⟩ : ∃ z : Int, z = 0 := ⟨0, rfl⟩
                      obtain ⟨lst, hlst⟩ : ∃ lst : Prs, lst = (out.take k) ++ (r, 0) :: out.drop k := ⟨_, rfl⟩
                      have HLST : Hid (lst = (out.take k) ++ (r, 0) :: out.drop k) := hlst
                      have hll : lst.length = out.length + 1 := by rw [hlst]; simp <;> omega
                      have hk8 : k < lst.length := by omega
                      have hl8 : lst.length ≤ 9000001 := by omega
                      clear hll
                      have HLK : Hid (lst[k]'hk8 = (r, z)) := by
                        have h : lst[k]? = some (r, 0) := by rw [hlst]; simp [List.length_take, Nat.min_eq_left hk]
                        have h2 := List.getElem?_eq_getElem hk8
                        rw [h] at h2
                        injection h2 with h2
                        show _ = _
                        rw [← h2, hz]
                      have HSET : Hid (lst.set k (r, z + x.vol) = addP r x.vol out) := by
                        show _ = _
                        rw [HNEW.out, hlst, hz, Int.zero_add]
                        simp [List.length_take, Nat.min_eq_left hk]
                      have hz0 : 0 ≤ z ∧ z ≤ 9000000000000000 := by omega
                      obtain ⟨hz0, hz1⟩ := hz0
                      clear hz hlst
                      have hck2 : k < cap2 := by omega
                      go_wp2_with (first
                        | (at_builtin; refine wpList_append_opt goodQ Try.underlying27 infoQ rfl (by decide) _ rfl (.tmp 91) (.tmp 94) rfl w6.heap.size (.slice none 0 0) [] rfl (OwnR.nil _ _ _) (some ⟨g, 0, none⟩) k _ (out.take k) (by rw [List.length_take]; omega) rfl (HO6.out.pre goodQ k) (fun h => by cases h) (by unfold maxLen; simp <;> omega) (by simp <;> omega) (Nat.le_refl _) ?_; intro v7 w7 o7 g7 n7; have b7 := below_row (Below.refl _ _) (OwnR.nil encQ w6 w6.heap.size) g7 (Nat.le_refl _); have KP7 := KP.out.later b7; have KQ7 := KQ.out.later b7; have p0 := KP7.c 0 rfl; have p1 := KP7.c 1 rfl; have p2 := KP7.c 2 rfl; have s0 := KQ7.c 0 rfl; have s1 := KQ7.c 1 rfl; have s2 := KQ7.c 2 rfl; obtain ⟨ao7, m7, c7, rfl⟩ := o7.form)
                        | (at_builtin; refine wpList_append_row goodQ Try.underlying27 infoQ rfl (by decide) (by decide) _ rfl (.tmp 96) (.tmp 100) rfl w6.heap.size (.slice ao7 m7 c7) ([] ++ (out.take k)) rfl (o7.alloc _) w7.heap.size (r, 0) rfl (fun j u hu => (Bk.new w7 (qrl (r, 0)) 39 w7.heap.size rfl).c j hu) (by simp <;> omega) (by have := b7.size; simp; omega) ?_; intro v7b w7b o7b g7b n7b; have b7b := below_row (below_on b7 ((Below.refl _ _).alloc (Nat.le_refl _) _)) (o7.alloc _) g7b (by have := b7.size; simp; omega); obtain ⟨ao7b, m7b, c7b, rfl⟩ := o7b.form; have HO6b := HO6.out.later b7b)
                        | (at_builtin; refine wpList_append_opt goodQ Try.underlying27 infoQ rfl (by decide) _ rfl (.tmp 102) (.tmp 105) rfl w6.heap.size (.slice ao7b m7b c7b) ([] ++ (out.take k) ++ [(r, 0)]) rfl o7b _ (out.length - k) _ (out.drop k) (by rw [List.length_drop]) rfl ((by simpa using HO6b.suf goodQ k)) (fun h => by cases h) (by unfold maxLen; simp <;> omega) (by simp <;> omega) b7b.size ?_; intro v8 w8 o8 g8 n8; have b8 := below_row b7b o7b g8 b7b.size; have o8b : OwnR encQ w8 w6.heap.size v8 lst := (by rw [HLST.out]; simpa using o8); obtain ⟨gg, cc, rfl, hgg, hgl⟩ := own_some o8b (by rw [HLST.out]; simp)))
                      have HB8 : Hid (Below wo.heap.size wo w8) := below_on HB6.out b8
                      have HO8 : Hid (OwnR encQ w8 w3.heap.size (.slice (some ⟨gg, 0, none⟩) lst.length cc) lst) := o8b.base (by have := HBO.out.size; have := HB6.out.size; omega)
                      have hg8 : w3.heap.size ≤ gg := by have := HBO.out.size; have := HB6.out.size; omega
                      have hs68 : w6.heap.size ≤ w8.heap.size := b8.size
                      clear o8 o8b
                      have HZ6 : Hid (∀ W1, Below w8.heap.size w8 W1 → W1.cell? ⟨gg, k * 7 + 6, none⟩ = some (.int .i64 z)) := fun W1 hb => by
                        have h := ((HO8.out.later hb).cellAt goodQ hk8 (j := 6) (by decide)).1
                        rw [HLK.out] at h
                        exact h
                      have HV4 : Hid (∀ W1, Below w8.heap.size w8 W1 → W1.cell? ⟨gm, om + i * 6 + 4, none⟩ = some (.int .i64 x.vol)) := fun W1 hb => (HX.out W1 (below_on HB8.out hb)).2.2.2.2
                      have hki8 : (k : Int) < (lst.length : Int) := by omega
                      have HADD : Hid (∀ W1, (binOp .add 3 (.int .i64 z) (.int .i64 x.vol)).run Try.prog W1 = .ok (.int .i64 (z + x.vol)) W1) := fun W1 => add_small z x.vol (by omega) (by omega) W1
                      refine region_seq 13 [false, false, false, false, false, false, false, false, false, false, false, false, false, false, false, false, false, false, false, false, false, false, false, false, false, false, false, false, false, false, false, false, false, false, false, false, false, false, false, false, false, false, false, false, false, false, false, false, false, false, false, false, false, false, false, false, false, false, false, false, false, false, false, false, false, false, false, false, false, false, false, false, false, false, false, false, false, false, false, false, false, false, false, false, false, false, false, false, false, false, false, false, false, false, false, false, false, false, false, false, false, false, false, false, false, false, false, true, true, true, true, true, true, true, true, true, true, true, true, true, false]
                        [(107, [], none), (108, [], none), (109, [107, 108], none), (110, [109], none), (111, [110], none), (112, [], none), (113, [], none), (114, [112, 113], none), (115, [114], none), (116, [115], none), (117, [111, 116], none), (118, [107, 108], none), (119, [118], none)]
                        (p15 gg lst.length cc k gm om os.length cS i z x.vol) (by kernel_rfl) (by kernel_rfl) (by kernel_rfl) (by kernel_rfl) (by kernel_rfl) (by decide) (p15_mono gg lst.length cc k gm om os.length cS i z x.vol) ?_ ?_
                      · refine ⟨?_, ?_, ?_, ?_, ?_, ?_, ?_, ?_, ?_, ?_, ?_, ?_, ?_, trivial⟩
                        · intro f w1 hb _ K hK
                          simp only [over, overL, Nat.reduceAdd]
                          go_simp
                          exact hK _ _ ⟨_, rfl, by simp only [over, overL, Nat.reduceAdd]; rfl, Below.refl _ _⟩
                        · intro f w1 hb _ K hK
                          simp only [over, overL, Nat.reduceAdd]
                          go_simp
                          exact hK _ _ ⟨_, rfl, by simp only [over, overL, Nat.reduceAdd]; rfl, Below.refl _ _⟩
                        · intro f w1 hb ⟨h107, h108, _⟩ K hK
                          replace h107 : f 107 = _ := h107
                          replace h108 : f 108 = _ := h108
                          simp only [over, overL, Nat.reduceAdd, h107, h108]
                          go_simp
                          exact hK _ _ ⟨_, rfl, by simp only [over, overL, Nat.reduceAdd, h107, h108]; rfl, Below.refl _ _⟩
                        · intro f w1 hb ⟨h109, _⟩ K hK
                          replace h109 : f 109 = _ := h109
                          simp only [over, overL, Nat.reduceAdd, h109]
                          go_simp
                          exact hK _ _ ⟨_, rfl, by simp only [over, overL, Nat.reduceAdd, h109]; rfl, Below.refl _ _⟩
                        · intro f w1 hb ⟨h110, _⟩ K hK
                          replace h110 : f 110 = _ := h110
                          have q6 := HZ6.out w1 hb
                          simp only [over, overL, Nat.reduceAdd, h110]
                          go_simp
                          exact hK _ _ ⟨_, rfl, by simp only [over, overL, Nat.reduceAdd, h110]; rfl, Below.refl _ _⟩
                        · intro f w1 hb _ K hK
                          simp only [over, overL, Nat.reduceAdd]
                          go_simp
                          exact hK _ _ ⟨_, rfl, by simp only [over, overL, Nat.reduceAdd]; rfl, Below.refl _ _⟩
                        · intro f w1 hb _ K hK
                          simp only [over, overL, Nat.reduceAdd]
                          go_simp
                          exact hK _ _ ⟨_, rfl, by simp only [over, overL, Nat.reduceAdd]; rfl, Below.refl _ _⟩
                        · intro f w1 hb ⟨h112, h113, _⟩ K hK
                          replace h112 : f 112 = _ := h112
                          replace h113 : f 113 = _ := h113
                          simp only [over, overL, Nat.reduceAdd, h112, h113]
                          go_simp
                          exact hK _ _ ⟨_, rfl, by simp only [over, overL, Nat.reduceAdd, h112, h113]; rfl, Below.refl _ _⟩
                        · intro f w1 hb ⟨h114, _⟩ K hK
                          replace h114 : f 114 = _ := h114
                          simp only [over, overL, Nat.reduceAdd, h114]
                          go_simp
                          exact hK _ _ ⟨_, rfl, by simp only [over, overL, Nat.reduceAdd, h114]; rfl, Below.refl _ _⟩
                        · intro f w1 hb ⟨h115, _⟩ K hK
                          replace h115 : f 115 = _ := h115
                          have q4 := HV4.out w1 hb
                          simp only [over, overL, Nat.reduceAdd, h115]
                          go_simp
                          exact hK _ _ ⟨_, rfl, by simp only [over, overL, Nat.reduceAdd, h115]; rfl, Below.refl _ _⟩
                        · intro f w1 hb ⟨h111, h116, _⟩ K hK
                          replace h111 : f 111 = _ := h111
                          replace h116 : f 116 = _ := h116
                          have q0 := HADD.out w1
                          simp only [over, overL, Nat.reduceAdd, h111, h116]
                          refine wp_binopV rfl (by go_simp) q0 ?_
                          exact hK _ _ ⟨_, rfl, by simp only [over, overL, Nat.reduceAdd, h111, h116], Below.refl _ _⟩
                        · intro f w1 hb ⟨h107, h108, _⟩ K hK
                          replace h107 : f 107 = _ := h107
                          replace h108 : f 108 = _ := h108
                          simp only [over, overL, Nat.reduceAdd, h107, h108]
                          go_simp
                          exact hK _ _ ⟨_, rfl, by simp only [over, overL, Nat.reduceAdd, h107, h108]; rfl, Below.refl _ _⟩
                        · intro f w1 hb ⟨h118, _⟩ K hK
                          replace h118 : f 118 = _ := h118
                          simp only [over, overL, Nat.reduceAdd, h118]
                          go_simp
                          exact hK _ _ ⟨_, rfl, by simp only [over, overL, Nat.reduceAdd, h118]; rfl, Below.refl _ _⟩
                      · intro f3 w9 b9 hv3
                        have h117 : f3 117 = .int .i64 (z + x.vol) := hv3.2.2.2.2.2.2.2.2.2.2.1
                        have h119 : f3 119 = .pointer (some ⟨gg, k * 7 + 6, none⟩) := hv3.2.2.2.2.2.2.2.2.2.2.2.2.1
                        have O9 := HO8.out.later b9
                        have s6 := HZ6.out w9 b9
                        have sf6 : w9.frozen? ⟨gg, k * 7 + 6, none⟩ = false := (O9.cellAt goodQ hk8 (j := 6) (by decide)).2
                        simp only [List.drop, over, overL, Nat.reduceAdd, h117, h119]
                        clear hv3
                        go_wp2
                        go_roundw
                        case rel =>
                          have hB9 := below_on HBO.out (below_on HB8.out b9)
                          have O10 := O9.set goodQ hk8 (o := 6) (by decide) (.int .i64 (z + x.vol)) (r, z + x.vol) (by rw [HLK.out]; rfl)
                          rw [HSET.out] at O10
                          have hs9 := Nat.le_trans HB8.out.size b9.size
                          refine ⟨i + 1, _, _, _, by omega, rfl, by go_num, rfl, rfl, ?_, hB9.setCell hg8 _, fun b e => ?_, fun b e => ?_⟩
                          · rw [HNX.out]
                            have e : (.slice (some ⟨gg, 0, none⟩) lst.length cc : Value) = .slice (some ⟨gg, 0, none⟩) (addP r x.vol out).length cc := by rw [← HSET.out, List.length_set]
                            exact O10
                          · simp at e; subst e; have := HPL.out.1; have := b9.size; simp [World.setCell]; omega
                          · simp at e; subst e; have := HPL.out.2; have := b9.size; simp [World.setCell]; omega
                        case measure => simp [intOf]; omega
            · have hki : ¬ (k : Int) < (out.length : Int) := by omega
              have hke : k = out.length := by omega
              have hkb : ((k : Int) == (out.length : Int)) = true := by simp [hke]
              clear hke
              have HNEW : Hid (addP r x.vol out = out.take k ++ (r, x.vol) :: out.drop k) := addP_new hk HALL.out (fun h => absurd h hkl)
              go_wp2_with fail
              refine region_inv [false, false, false, false, false, false, false, false, false, false, false, false, false, false, false, false, false, false, false, false, false, false, false, false, false, false, false, false, false, false, false, false, false, false, false, false, true, true, true, true, true, true, true, true, true, true, true, true, true, true, true, true, true, true, true, true, true, true, true, true, true, true, true, true, true, true, true, false, false, false, false, false, false, false, false, false, false, false, false, false, false, false, false, false, false, false, false, false, false, false, false, false, false, false, false, false, false, false, false, false, false, false, false, false, false, false, false, false, false, false, false, false, false, false, false, false, false, false, false, false, false]
                [(36, [], none), (37, [], none), (38, [37], none), (39, [36, 38], none), (40, [39], none), (41, [40], some (40, true)), (42, [40], some (40, true)), (43, [40, 41, 42], some (40, true)), (44, [40, 43], some (40, true)), (45, [40, 44], some (40, true)), (46, [40], some (40, true)), (47, [40, 45, 46], some (40, true)), (48, [40, 47], some (40, true)), (49, [48], some (48, false)), (50, [48], some (48, false)), (51, [48, 49, 50], some (48, false)), (52, [48, 51], some (48, false)), (53, [48, 52], some (48, false)), (54, [48], some (48, false)), (55, [48, 53, 54], some (48, false)), (56, [48, 55], some (48, false)), (57, [56], some (56, true)), (58, [56], some (56, true)), (59, [56, 57, 58], some (56, true)), (60, [56, 59], some (56, true)), (61, [56, 60], some (56, true)), (62, [56], some (56, true)), (63, [56, 61, 62], some (56, true)), (64, [48, 56, 63], some (48, false)), (65, [40, 48, 64], some (40, true)), (66, [40, 65], none)]
                (p8O g out.length cap2 k P Q (r, 0) r true) (by kernel_rfl) (by kernel_rfl) (p8O_mono g out.length cap2 k P Q (r, 0) r true) ?_ ?_
              · refine ⟨?_, ?_, ?_, ?_, ?_, ?_, ?_, ?_, ?_, ?_, ?_, ?_, ?_, ?_, ?_, ?_, ?_, ?_, ?_, ?_, ?_, ?_, ?_, ?_, ?_, ?_, ?_, ?_, ?_, ?_, ?_, trivial⟩
                · intro f w1 hb _ K hK
                  simp only [over, overL, Nat.reduceAdd]
                  go_simp
                  exact hK _ _ ⟨_, rfl, by simp only [over, overL, Nat.reduceAdd]; rfl, Below.refl _ _⟩
                · intro f w1 hb _ K hK
                  simp only [over, overL, Nat.reduceAdd]
                  go_simp
                  exact hK _ _ ⟨_, rfl, by simp only [over, overL, Nat.reduceAdd]; rfl, Below.refl _ _⟩
                · intro f w1 hb ⟨h37, _⟩ K hK
                  replace h37 : f 37 = _ := h37
                  simp only [over, overL, Nat.reduceAdd, h37]
                  go_simp
                  exact hK _ _ ⟨_, rfl, by simp only [over, overL, Nat.reduceAdd, h37]; rfl, Below.refl _ _⟩
                · intro f w1 hb ⟨h36, h38, _⟩ K hK
                  replace h36 : f 36 = _ := h36
                  replace h38 : f 38 = _ := h38
                  simp only [over, overL, Nat.reduceAdd, h36, h38]
                  go_simp
                  exact hK _ _ ⟨_, rfl, by simp only [over, overL, Nat.reduceAdd, h36, h38]; rfl, Below.refl _ _⟩
                · intro f w1 hb ⟨h39, _⟩ K hK
                  replace h39 : f 39 = _ := h39
                  simp only [over, overL, Nat.reduceAdd, h39]
                  go_simp
                  exact hK _ _ ⟨_, rfl, by simp only [over, overL, Nat.reduceAdd, h39]; rfl, Below.refl _ _⟩
                · intro f w1 hb ⟨h40, _⟩
                  replace h40 : f 40 = _ := h40
                  exact ⟨fun hg => absurd (h40.symm.trans hg) (by simp), fun _ => trivial⟩
                · intro f w1 hb ⟨h40, _⟩
                  replace h40 : f 40 = _ := h40
                  exact ⟨fun hg => absurd (h40.symm.trans hg) (by simp), fun _ => trivial⟩
                · intro f w1 hb ⟨h40, h41, h42, _⟩
                  replace h40 : f 40 = _ := h40
                  exact ⟨fun hg => absurd (h40.symm.trans hg) (by simp), fun _ => trivial⟩
                · intro f w1 hb ⟨h40, h43, _⟩
                  replace h40 : f 40 = _ := h40
                  exact ⟨fun hg => absurd (h40.symm.trans hg) (by simp), fun _ => trivial⟩
                · intro f w1 hb ⟨h40, h44, _⟩
                  replace h40 : f 40 = _ := h40
                  exact ⟨fun hg => absurd (h40.symm.trans hg) (by simp), fun _ => trivial⟩
                · intro f w1 hb ⟨h40, _⟩
                  replace h40 : f 40 = _ := h40
                  exact ⟨fun hg => absurd (h40.symm.trans hg) (by simp), fun _ => trivial⟩
                · intro f w1 hb ⟨h40, h45, h46, _⟩
                  replace h40 : f 40 = _ := h40
                  exact ⟨fun hg => absurd (h40.symm.trans hg) (by simp), fun _ => trivial⟩
                · intro f w1 hb ⟨h40, h47, _⟩
                  replace h40 : f 40 = _ := h40
                  exact ⟨fun hg => absurd (h40.symm.trans hg) (by simp), fun _ => rfl⟩
                · intro f w1 hb ⟨h48, _⟩
                  replace h48 : f 48 = _ := h48
                  exact ⟨fun hg => absurd (h48.symm.trans hg) (by simp [undef]), fun _ => trivial⟩
                · intro f w1 hb ⟨h48, _⟩
                  replace h48 : f 48 = _ := h48
                  exact ⟨fun hg => absurd (h48.symm.trans hg) (by simp [undef]), fun _ => trivial⟩
                · intro f w1 hb ⟨h48, h49, h50, _⟩
                  replace h48 : f 48 = _ := h48
                  exact ⟨fun hg => absurd (h48.symm.trans hg) (by simp [undef]), fun _ => trivial⟩
                · intro f w1 hb ⟨h48, h51, _⟩
                  replace h48 : f 48 = _ := h48
                  exact ⟨fun hg => absurd (h48.symm.trans hg) (by simp [undef]), fun _ => trivial⟩
                · intro f w1 hb ⟨h48, h52, _⟩
                  replace h48 : f 48 = _ := h48
                  exact ⟨fun hg => absurd (h48.symm.trans hg) (by simp [undef]), fun _ => trivial⟩
                · intro f w1 hb ⟨h48, _⟩
                  replace h48 : f 48 = _ := h48
                  exact ⟨fun hg => absurd (h48.symm.trans hg) (by simp [undef]), fun _ => trivial⟩
                · intro f w1 hb ⟨h48, h53, h54, _⟩
                  replace h48 : f 48 = _ := h48
                  exact ⟨fun hg => absurd (h48.symm.trans hg) (by simp [undef]), fun _ => trivial⟩
                · intro f w1 hb ⟨h48, h55, _⟩
                  replace h48 : f 48 = _ := h48
                  exact ⟨fun hg => absurd (h48.symm.trans hg) (by simp [undef]), fun _ => rfl⟩
                · intro f w1 hb ⟨h56, _⟩
                  replace h56 : f 56 = _ := h56
                  exact ⟨fun hg => absurd (h56.symm.trans hg) (by simp [undef]), fun _ => trivial⟩
                · intro f w1 hb ⟨h56, _⟩
                  replace h56 : f 56 = _ := h56
                  exact ⟨fun hg => absurd (h56.symm.trans hg) (by simp [undef]), fun _ => trivial⟩
                · intro f w1 hb ⟨h56, h57, h58, _⟩
                  replace h56 : f 56 = _ := h56
                  exact ⟨fun hg => absurd (h56.symm.trans hg) (by simp [undef]), fun _ => trivial⟩
                · intro f w1 hb ⟨h56, h59, _⟩
                  replace h56 : f 56 = _ := h56
                  exact ⟨fun hg => absurd (h56.symm.trans hg) (by simp [undef]), fun _ => trivial⟩
                · intro f w1 hb ⟨h56, h60, _⟩
                  replace h56 : f 56 = _ := h56
                  exact ⟨fun hg => absurd (h56.symm.trans hg) (by simp [undef]), fun _ => trivial⟩
                · intro f w1 hb ⟨h56, _⟩
                  replace h56 : f 56 = _ := h56
                  exact ⟨fun hg => absurd (h56.symm.trans hg) (by simp [undef]), fun _ => trivial⟩
                · intro f w1 hb ⟨h56, h61, h62, _⟩
                  replace h56 : f 56 = _ := h56
                  exact ⟨fun hg => absurd (h56.symm.trans hg) (by simp [undef]), fun _ => trivial⟩
                · intro f w1 hb ⟨h48, h56, h63, _⟩
                  replace h48 : f 48 = _ := h48
                  exact ⟨fun hg => absurd (h48.symm.trans hg) (by simp [undef]), fun _ => trivial⟩
                · intro f w1 hb ⟨h40, h48, h64, _⟩
                  replace h40 : f 40 = _ := h40
                  exact ⟨fun hg => absurd (h40.symm.trans hg) (by simp), fun _ => trivial⟩
                · intro f w1 hb ⟨h40, h65, _⟩ K hK
                  replace h40 : f 40 = _ := h40
                  simp only [over, overL, Nat.reduceAdd, h40]
                  go_simp
                  exact hK _ _ ⟨_, rfl, by simp only [over, overL, Nat.reduceAdd, h40]; rfl, Below.refl _ _⟩
              · intro f5 w5 b5 hv5
                have h66 : f5 66 = .bool false := hv5.2.2.2.2.2.2.2.2.2.2.2.2.2.2.2.2.2.2.2.2.2.2.2.2.2.2.2.2.2.2.1
                have KP : Hid (Bk P (pcq r.1) w5) := KP.out.later b5
                have KQ : Hid (Bk Q (pcq r.2) w5) := KQ.out.later b5
                have HB5 : Hid (Below wo.heap.size wo w5) := below_on HBK.out b5
                clear hv5
                simp only [over, overL, Nat.reduceAdd, h66]
                go_wp2_with fail
                refine region_inv [false, false, false, false, false, false, false, false, false, false, false, false, false, false, false, false, false, false, false, false, false, false, false, false, false, false, false, false, false, false, false, false, false, false, false, false, false, false, false, false, false, false, false, false, false, false, false, false, false, false, false, false, false, false, false, false, false, false, false, false, false, false, false, false, false, false, false, false, false, true, true, true, true, true, true, true, true, true, true, true, true, true, true, true, true, true, true, true, true, true, true, false, false, false, false, false, false, false, false, false, false, false, false, false, false, false, false, false, false, false, false, false, false, false, false, false, false, false, false, false, false]
                  [(69, [], none), (70, [], none), (71, [70], none), (72, [69, 71], none), (73, [72], none), (74, [73], some (73, false)), (75, [73], some (73, false)), (76, [73, 74, 75], some (73, false)), (77, [73, 76], some (73, false)), (78, [73, 77], some (73, false)), (79, [73], some (73, false)), (80, [73, 78, 79], some (73, false)), (81, [73, 80], none), (82, [81], none), (83, [82], some (82, false)), (84, [82], some (82, false)), (85, [82, 83, 84], some (82, false)), (86, [82, 85], some (82, false)), (87, [82, 86], some (82, false)), (88, [82], some (82, false)), (89, [82, 87, 88], some (82, false)), (90, [82, 89], none)]
                  (ptO g out.length cap2 k P Q (r, 0) r true) (by kernel_rfl) (by kernel_rfl) (ptO_mono g out.length cap2 k P Q (r, 0) r true) ?_ ?_
                · refine ⟨?_, ?_, ?_, ?_, ?_, ?_, ?_, ?_, ?_, ?_, ?_, ?_, ?_, ?_, ?_, ?_, ?_, ?_, ?_, ?_, ?_, ?_, trivial⟩
                  · intro f w1 hb _ K hK
                    simp only [over, overL, Nat.reduceAdd]
                    go_simp
                    exact hK _ _ ⟨_, rfl, by simp only [over, overL, Nat.reduceAdd]; rfl, Below.refl _ _⟩
                  · intro f w1 hb _ K hK
                    simp only [over, overL, Nat.reduceAdd]
                    go_simp
                    exact hK _ _ ⟨_, rfl, by simp only [over, overL, Nat.reduceAdd]; rfl, Below.refl _ _⟩
                  · intro f w1 hb ⟨h70, _⟩ K hK
                    replace h70 : f 70 = _ := h70
                    simp only [over, overL, Nat.reduceAdd, h70]
                    go_simp
                    exact hK _ _ ⟨_, rfl, by simp only [over, overL, Nat.reduceAdd, h70]; rfl, Below.refl _ _⟩
                  · intro f w1 hb ⟨h69, h71, _⟩ K hK
                    replace h69 : f 69 = _ := h69
                    replace h71 : f 71 = _ := h71
                    simp only [over, overL, Nat.reduceAdd, h69, h71]
                    go_simp
                    exact hK _ _ ⟨_, rfl, by simp only [over, overL, Nat.reduceAdd, h69, h71]; rfl, Below.refl _ _⟩
                  · intro f w1 hb ⟨h72, _⟩ K hK
                    replace h72 : f 72 = _ := h72
                    simp only [over, overL, Nat.reduceAdd, h72]
                    go_simp
                    exact hK _ _ ⟨_, rfl, by simp only [over, overL, Nat.reduceAdd, h72]; rfl, Below.refl _ _⟩
                  · intro f w1 hb ⟨h73, _⟩
                    replace h73 : f 73 = _ := h73
                    exact ⟨fun hg => absurd (h73.symm.trans hg) (by simp), fun _ => trivial⟩
                  · intro f w1 hb ⟨h73, _⟩
                    replace h73 : f 73 = _ := h73
                    exact ⟨fun hg => absurd (h73.symm.trans hg) (by simp), fun _ => trivial⟩
                  · intro f w1 hb ⟨h73, h74, h75, _⟩
                    replace h73 : f 73 = _ := h73
                    exact ⟨fun hg => absurd (h73.symm.trans hg) (by simp), fun _ => trivial⟩
                  · intro f w1 hb ⟨h73, h76, _⟩
                    replace h73 : f 73 = _ := h73
                    exact ⟨fun hg => absurd (h73.symm.trans hg) (by simp), fun _ => trivial⟩
                  · intro f w1 hb ⟨h73, h77, _⟩
                    replace h73 : f 73 = _ := h73
                    exact ⟨fun hg => absurd (h73.symm.trans hg) (by simp), fun _ => trivial⟩
                  · intro f w1 hb ⟨h73, _⟩
                    replace h73 : f 73 = _ := h73
                    exact ⟨fun hg => absurd (h73.symm.trans hg) (by simp), fun _ => trivial⟩
                  · intro f w1 hb ⟨h73, h78, h79, _⟩
                    replace h73 : f 73 = _ := h73
                    exact ⟨fun hg => absurd (h73.symm.trans hg) (by simp), fun _ => trivial⟩
                  · intro f w1 hb ⟨h73, h80, _⟩ K hK
                    replace h73 : f 73 = _ := h73
                    simp only [over, overL, Nat.reduceAdd, h73]
                    go_simp
                    exact hK _ _ ⟨_, rfl, by simp only [over, overL, Nat.reduceAdd, h73]; rfl, Below.refl _ _⟩
                  · intro f w1 hb ⟨h81, _⟩ K hK
                    replace h81 : f 81 = _ := h81
                    simp only [over, overL, Nat.reduceAdd, h81]
                    go_simp
                    exact hK _ _ ⟨_, rfl, by simp only [over, overL, Nat.reduceAdd, h81]; rfl, Below.refl _ _⟩
                  · intro f w1 hb ⟨h82, _⟩
                    replace h82 : f 82 = _ := h82
                    exact ⟨fun hg => absurd (h82.symm.trans hg) (by simp), fun _ => trivial⟩
                  · intro f w1 hb ⟨h82, _⟩
                    replace h82 : f 82 = _ := h82
                    exact ⟨fun hg => absurd (h82.symm.trans hg) (by simp), fun _ => trivial⟩
                  · intro f w1 hb ⟨h82, h83, h84, _⟩
                    replace h82 : f 82 = _ := h82
                    exact ⟨fun hg => absurd (h82.symm.trans hg) (by simp), fun _ => trivial⟩
                  · intro f w1 hb ⟨h82, h85, _⟩
                    replace h82 : f 82 = _ := h82
                    exact ⟨fun hg => absurd (h82.symm.trans hg) (by simp), fun _ => trivial⟩
                  · intro f w1 hb ⟨h82, h86, _⟩
                    replace h82 : f 82 = _ := h82
                    exact ⟨fun hg => absurd (h82.symm.trans hg) (by simp), fun _ => trivial⟩
                  · intro f w1 hb ⟨h82, _⟩
                    replace h82 : f 82 = _ := h82
                    exact ⟨fun hg => absurd (h82.symm.trans hg) (by simp), fun _ => trivial⟩
                  · intro f w1 hb ⟨h82, h87, h88, _⟩
                    replace h82 : f 82 = _ := h82
                    exact ⟨fun hg => absurd (h82.symm.trans hg) (by simp), fun _ => trivial⟩
                  · intro f w1 hb ⟨h82, h89, _⟩ K hK
                    replace h82 : f 82 = _ := h82
                    simp only [over, overL, Nat.reduceAdd, h82]
                    go_simp
                    exact hK _ _ ⟨_, rfl, by simp only [over, overL, Nat.reduceAdd, h82]; rfl, Below.refl _ _⟩
                · intro f2 w6 b6 hv2
                  have h90 : f2 90 = .bool true := hv2.2.2.2.2.2.2.2.2.2.2.2.2.2.2.2.2.2.2.2.2.2.1
                  have HPL : Hid (P < w6.heap.size ∧ Q < w6.heap.size) := ⟨Nat.lt_of_lt_of_le KP.out.1 b6.size, Nat.lt_of_lt_of_le KQ.out.1 b6.size⟩
                  have HB6 : Hid (Below wo.heap.size wo w6) := below_on HB5.out b6
                  have KP : Hid (Bk P (pcq r.1) w6) := KP.out.later b6
                  have KQ : Hid (Bk Q (pcq r.2) w6) := KQ.out.later b6
                  have HO6 : Hid (OwnR encQ w6 w3.heap.size (.slice (some ⟨g, 0, none⟩) out.length cap2) out) := HOV.out.later HB6.out
                  simp only [over, overL, Nat.reduceAdd, h90]
                  clear hv2
                  obtain ⟨z, hz⟩ : ∃ z : Int, z = 0 := ⟨0, rfl⟩
                  obtain ⟨lst, hlst⟩ : ∃ lst : Prs, lst = (out.take k) ++ (r, 0) :: out.drop k := ⟨_, rfl⟩
                  have HLST : Hid (lst = (out.take k) ++ (r, 0) :: out.drop k) := hlst
                  have hll : lst.length = out.length + 1 := by rw [hlst]; simp <;> omega
                  have hk8 : k < lst.length := by omega
                  have hl8 : lst.length ≤ 9000001 := by omega
                  clear hll
                  have HLK : Hid (lst[k]'hk8 = (r, z)) := by
                    have h : lst[k]? = some (r, 0) := by rw [hlst]; simp [List.length_take, Nat.min_eq_left hk]
                    have h2 := List.getElem?_eq_getElem hk8
                    rw [h] at h2
                    injection h2 with h2
                    show _ = _
                    rw [← h2, hz]
                  have HSET : Hid (lst.set k (r, z + x.vol) = addP r x.vol out) := by
                    show _ = _
                    rw [HNEW.out, hlst, hz, Int.zero_add]
                    simp [List.length_take, Nat.min_eq_left hk]
                  have hz0 : 0 ≤ z ∧ z ≤ 9000000000000000 := by omega
                  obtain ⟨hz0, hz1⟩ := hz0
                  clear hz hlst
                  by_cases hc0 : cap2 = 0
                  · subst hc0
                    have hk0 : k = 0 := by omega
                    subst hk0
                    go_wp2_with (first
                      | (at_builtin; refine wpList_append_opt goodQ Try.underlying27 infoQ rfl (by decide) _ rfl (.tmp 91) (.tmp 94) rfl w6.heap.size (.slice none 0 0) [] rfl (OwnR.nil _ _ _) (some ⟨g, 0, none⟩) 0 _ (out.take 0) (by rw [List.length_take]; omega) rfl (HO6.out.pre goodQ 0) (fun h => by cases h) (by unfold maxLen; simp <;> omega) (by simp <;> omega) (Nat.le_refl _) ?_; intro v7 w7 o7 g7 n7; have b7 := below_row (Below.refl _ _) (OwnR.nil encQ w6 w6.heap.size) g7 (Nat.le_refl _); have KP7 := KP.out.later b7; have KQ7 := KQ.out.later b7; have p0 := KP7.c 0 rfl; have p1 := KP7.c 1 rfl; have p2 := KP7.c 2 rfl; have s0 := KQ7.c 0 rfl; have s1 := KQ7.c 1 rfl; have s2 := KQ7.c 2 rfl; obtain ⟨ao7, m7, c7, rfl⟩ := o7.form)
                      | (at_builtin; refine wpList_append_row goodQ Try.underlying27 infoQ rfl (by decide) (by decide) _ rfl (.tmp 96) (.tmp 100) rfl w6.heap.size (.slice ao7 m7 c7) ([] ++ (out.take 0)) rfl (o7.alloc _) w7.heap.size (r, 0) rfl (fun j u hu => (Bk.new w7 (qrl (r, 0)) 39 w7.heap.size rfl).c j hu) (by simp <;> omega) (by have := b7.size; simp; omega) ?_; intro v7b w7b o7b g7b n7b; have b7b := below_row (below_on b7 ((Below.refl _ _).alloc (Nat.le_refl _) _)) (o7.alloc _) g7b (by have := b7.size; simp; omega); obtain ⟨ao7b, m7b, c7b, rfl⟩ := o7b.form)
                      | (at_builtin; refine wpList_append_opt goodQ Try.underlying27 infoQ rfl (by decide) _ rfl (.tmp 102) (.tmp 105) rfl w6.heap.size (.slice ao7b m7b c7b) ([] ++ (out.take 0) ++ [(r, 0)]) rfl o7b (some ⟨g, 0, none⟩) _ _ (out.drop 0) (by simp <;> omega) rfl ((by rw [List.drop_of_length_le (by omega)]; exact .inl rfl)) (fun h => by cases h) (by unfold maxLen; simp <;> omega) (by simp <;> omega) b7b.size ?_; intro v8 w8 o8 g8 n8; have b8 := below_row b7b o7b g8 b7b.size; have o8b : OwnR encQ w8 w6.heap.size v8 lst := (by rw [HLST.out]; simpa using o8); obtain ⟨gg, cc, rfl, hgg, hgl⟩ := own_some o8b (by rw [HLST.out]; simp)))
                    have HB8 : Hid (Below wo.heap.size wo w8) := below_on HB6.out b8
                    have HO8 : Hid (OwnR encQ w8 w3.heap.size (.slice (some ⟨gg, 0, none⟩) lst.length cc) lst) := o8b.base (by have := HBO.out.size; have := HB6.out.size; omega)
                    have hg8 : w3.heap.size ≤ gg := by have := HBO.out.size; have := HB6.out.size; omega
                    have hs68 : w6.heap.size ≤ w8.heap.size := b8.size
                    clear o8 o8b
                    have HZ6 : Hid (∀ W1, Below w8.heap.size w8 W1 → W1.cell? ⟨gg, 6, none⟩ = some (.int .i64 z)) := fun W1 hb => by
                      have h := ((HO8.out.later hb).cellAt goodQ hk8 (j := 6) (by decide)).1
                      rw [HLK.out] at h
                      exact h
                    have HV4 : Hid (∀ W1, Below w8.heap.size w8 W1 → W1.cell? ⟨gm, om + i * 6 + 4, none⟩ = some (.int .i64 x.vol)) := fun W1 hb => (HX.out W1 (below_on HB8.out hb)).2.2.2.2
                    have hki8 : (0 : Int) < (lst.length : Int) := by omega
                    have HADD : Hid (∀ W1, (binOp .add 3 (.int .i64 z) (.int .i64 x.vol)).run Try.prog W1 = .ok (.int .i64 (z + x.vol)) W1) := fun W1 => add_small z x.vol (by omega) (by omega) W1
                    refine region_seq 13 [false, false, false, false, false, false, false, false, false, false, false, false, false, false, false, false, false, false, false, false, false, false, false, false, false, false, false, false, false, false, false, false, false, false, false, false, false, false, false, false, false, false, false, false, false, false, false, false, false, false, false, false, false, false, false, false, false, false, false, false, false, false, false, false, false, false, false, false, false, false, false, false, false, false, false, false, false, false, false, false, false, false, false, false, false, false, false, false, false, false, false, false, false, false, false, false, false, false, false, false, false, false, false, false, false, false, false, true, true, true, true, true, true, true, true, true, true, true, true, true, false]
                      [(107, [], none), (108, [], none), (109, [107, 108], none), (110, [109], none), (111, [110], none), (112, [], none), (113, [], none), (114, [112, 113], none), (115, [114], none), (116, [115], none), (117, [111, 116], none), (118, [107, 108], none), (119, [118], none)]
                      (p15 gg lst.length cc 0 gm om os.length cS i z x.vol) (by kernel_rfl) (by kernel_rfl) (by kernel_rfl) (by kernel_rfl) (by kernel_rfl) (by decide) (p15_mono gg lst.length cc 0 gm om os.length cS i z x.vol) ?_ ?_
                    · refine ⟨?_, ?_, ?_, ?_, ?_, ?_, ?_, ?_, ?_, ?_, ?_, ?_, ?_, trivial⟩
                      · intro f w1 hb _ K hK
                        simp only [over, overL, Nat.reduceAdd]
                        go_simp
                        exact hK _ _ ⟨_, rfl, by simp only [over, overL, Nat.reduceAdd]; rfl, Below.refl _ _⟩
                      · intro f w1 hb _ K hK
                        simp only [over, overL, Nat.reduceAdd]
                        go_simp
                        exact hK _ _ ⟨_, rfl, by simp only [over, overL, Nat.reduceAdd]; rfl, Below.refl _ _⟩
                      · intro f w1 hb ⟨h107, h108, _⟩ K hK
                        replace h107 : f 107 = _ := h107
                        replace h108 : f 108 = _ := h108
                        simp only [over, overL, Nat.reduceAdd, h107, h108]
                        go_simp
                        exact hK _ _ ⟨_, rfl, by simp only [over, overL, Nat.reduceAdd, h107, h108]; rfl, Below.refl _ _⟩
                      · intro f w1 hb ⟨h109, _⟩ K hK
                        replace h109 : f 109 = _ := h109
                        simp only [over, overL, Nat.reduceAdd, h109]
                        go_simp
                        exact hK _ _ ⟨_, rfl, by simp only [over, overL, Nat.reduceAdd, h109]; rfl, Below.refl _ _⟩
                      · intro f w1 hb ⟨h110, _⟩ K hK
                        replace h110 : f 110 = _ := h110
                        have q6 := HZ6.out w1 hb
                        simp only [over, overL, Nat.reduceAdd, h110]
                        go_simp
                        exact hK _ _ ⟨_, rfl, by simp only [over, overL, Nat.reduceAdd, h110]; rfl, Below.refl _ _⟩
                      · intro f w1 hb _ K hK
                        simp only [over, overL, Nat.reduceAdd]
                        go_simp
                        exact hK _ _ ⟨_, rfl, by simp only [over, overL, Nat.reduceAdd]; rfl, Below.refl _ _⟩
                      · intro f w1 hb _ K hK
                        simp only [over, overL, Nat.reduceAdd]
                        go_simp
                        exact hK _ _ ⟨_, rfl, by simp only [over, overL, Nat.reduceAdd]; rfl, Below.refl _ _⟩
                      · intro f w1 hb ⟨h112, h113, _⟩ K hK
                        replace h112 : f 112 = _ := h112
                        replace h113 : f 113 = _ := h113
                        simp only [over, overL, Nat.reduceAdd, h112, h113]
                        go_simp
                        exact hK _ _ ⟨_, rfl, by simp only [over, overL, Nat.reduceAdd, h112, h113]; rfl, Below.refl _ _⟩
                      · intro f w1 hb ⟨h114, _⟩ K hK
                        replace h114 : f 114 = _ := h114
                        simp only [over, overL, Nat.reduceAdd, h114]
                        go_simp
                        exact hK _ _ ⟨_, rfl, by simp only [over, overL, Nat.reduceAdd, h114]; rfl, Below.refl _ _⟩
                      · intro f w1 hb ⟨h115, _⟩ K hK
                        replace h115 : f 115 = _ := h115
                        have q4 := HV4.out w1 hb
                        simp only [over, overL, Nat.reduceAdd, h115]
                        go_simp
                        exact hK _ _ ⟨_, rfl, by simp only [over, overL, Nat.reduceAdd, h115]; rfl, Below.refl _ _⟩
                      · intro f w1 hb ⟨h111, h116, _⟩ K hK
                        replace h111 : f 111 = _ := h111
                        replace h116 : f 116 = _ := h116
                        have q0 := HADD.out w1
                        simp only [over, overL, Nat.reduceAdd, h111, h116]
                        refine wp_binopV rfl (by go_simp) q0 ?_
                        exact hK _ _ ⟨_, rfl, by simp only [over, overL, Nat.reduceAdd, h111, h116], Below.refl _ _⟩
                      · intro f w1 hb ⟨h107, h108, _⟩ K hK
                        replace h107 : f 107 = _ := h107
                        replace h108 : f 108 = _ := h108
                        simp only [over, overL, Nat.reduceAdd, h107, h108]
                        go_simp
                        exact hK _ _ ⟨_, rfl, by simp only [over, overL, Nat.reduceAdd, h107, h108]; rfl, Below.refl _ _⟩
                      · intro f w1 hb ⟨h118, _⟩ K hK
                        replace h118 : f 118 = _ := h118
                        simp only [over, overL, Nat.reduceAdd, h118]
                        go_simp
                        exact hK _ _ ⟨_, rfl, by simp only [over, overL, Nat.reduceAdd, h118]; rfl, Below.refl _ _⟩
                    · intro f3 w9 b9 hv3
                      have h117 : f3 117 = .int .i64 (z + x.vol) := hv3.2.2.2.2.2.2.2.2.2.2.1
                      have h119 : f3 119 = .pointer (some ⟨gg, 6, none⟩) := hv3.2.2.2.2.2.2.2.2.2.2.2.2.1
                      have O9 := HO8.out.later b9
                      have s6 := HZ6.out w9 b9
                      have sf6 : w9.frozen? ⟨gg, 6, none⟩ = false := (O9.cellAt goodQ hk8 (j := 6) (by decide)).2
                      simp only [List.drop, over, overL, Nat.reduceAdd, h117, h119]
                      clear hv3
                      go_wp2
                      go_roundw
                      case rel =>
                        have hB9 := below_on HBO.out (below_on HB8.out b9)
                        have O10 := O9.set goodQ hk8 (o := 6) (by decide) (.int .i64 (z + x.vol)) (r, z + x.vol) (by rw [HLK.out]; rfl)
                        rw [HSET.out] at O10
                        have hs9 := Nat.le_trans HB8.out.size b9.size
                        refine ⟨i + 1, _, _, _, by omega, rfl, by go_num, rfl, rfl, ?_, hB9.setCell hg8 _, fun b e => ?_, fun b e => ?_⟩
                        · rw [HNX.out]
                          have e : (.slice (some ⟨gg, 0, none⟩) lst.length cc : Value) = .slice (some ⟨gg, 0, none⟩) (addP r x.vol out).length cc := by rw [← HSET.out, List.length_set]
                          exact O10
                        · simp at e; subst e; have := HPL.out.1; have := b9.size; simp [World.setCell]; omega
                        · simp at e; subst e; have := HPL.out.2; have := b9.size; simp [World.setCell]; omega
                      case measure => simp [intOf]; omega
                  · by_cases hck : k = cap2
                    · subst hck
                      go_wp2_with (first
                        | (at_builtin; refine wpList_append_opt goodQ Try.underlying27 infoQ rfl (by decide) _ rfl (.tmp 91) (.tmp 94) rfl w6.heap.size (.slice none 0 0) [] rfl (OwnR.nil _ _ _) (some ⟨g, 0, none⟩) k _ (out.take k) (by rw [List.length_take]; omega) rfl (HO6.out.pre goodQ k) (fun h => by cases h) (by unfold maxLen; simp <;> omega) (by simp <;> omega) (Nat.le_refl _) ?_; intro v7 w7 o7 g7 n7; have b7 := below_row (Below.refl _ _) (OwnR.nil encQ w6 w6.heap.size) g7 (Nat.le_refl _); have KP7 := KP.out.later b7; have KQ7 := KQ.out.later b7; have p0 := KP7.c 0 rfl; have p1 := KP7.c 1 rfl; have p2 := KP7.c 2 rfl; have s0 := KQ7.c 0 rfl; have s1 := KQ7.c 1 rfl; have s2 := KQ7.c 2 rfl; obtain ⟨ao7, m7, c7, rfl⟩ := o7.form)
                        | (at_builtin; refine wpList_append_row goodQ Try.underlying27 infoQ rfl (by decide) (by decide) _ rfl (.tmp 96) (.tmp 100) rfl w6.heap.size (.slice ao7 m7 c7) ([] ++ (out.take k)) rfl (o7.alloc _) w7.heap.size (r, 0) rfl (fun j u hu => (Bk.new w7 (qrl (r, 0)) 39 w7.heap.size rfl).c j hu) (by simp <;> omega) (by have := b7.size; simp; omega) ?_; intro v7b w7b o7b g7b n7b; have b7b := below_row (below_on b7 ((Below.refl _ _).alloc (Nat.le_refl _) _)) (o7.alloc _) g7b (by have := b7.size; simp; omega); obtain ⟨ao7b, m7b, c7b, rfl⟩ := o7b.form)
                        | (at_builtin; refine wpList_append_opt goodQ Try.underlying27 infoQ rfl (by decide) _ rfl (.tmp 102) (.tmp 105) rfl w6.heap.size (.slice ao7b m7b c7b) ([] ++ (out.take k) ++ [(r, 0)]) rfl o7b (some ⟨g, 0, none⟩) _ _ (out.drop k) (by simp <;> omega) rfl ((by rw [List.drop_of_length_le (by omega)]; exact .inl rfl)) (fun h => by cases h) (by unfold maxLen; simp <;> omega) (by simp <;> omega) b7b.size ?_; intro v8 w8 o8 g8 n8; have b8 := below_row b7b o7b g8 b7b.size; have o8b : OwnR encQ w8 w6.heap.size v8 lst := (by rw [HLST.out]; simpa using o8); obtain ⟨gg, cc, rfl, hgg, hgl⟩ := own_some o8b (by rw [HLST.out]; simp)))
                      have HB8 : Hid (Below wo.heap.size wo w8) := below_on HB6.out b8
                      have HO8 : Hid (OwnR encQ w8 w3.heap.size (.slice (some ⟨gg, 0, none⟩) lst.length cc) lst) := o8b.base (by have := HBO.out.size; have := HB6.out.size; omega)
                      have hg8 : w3.heap.size ≤ gg := by have := HBO.out.size; have := HB6.out.size; omega
                      have hs68 : w6.heap.size ≤ w8.heap.size := b8.size
                      clear o8 o8b
                      have HZ6 : Hid (∀ W1, Below w8.heap.size w8 W1 → W1.cell? ⟨gg, k * 7 + 6, none⟩ = some (.int .i64 z)) := fun W1 hb => by
                        have h := ((HO8.out.later hb).cellAt goodQ hk8 (j := 6) (by decide)).1
                        rw [HLK.out] at h
                        exact h
                      have HV4 : Hid (∀ W1, Below w8.heap.size w8 W1 → W1.cell? ⟨gm, om + i * 6 + 4, none⟩ = some (.int .i64 x.vol)) := fun W1 hb => (HX.out W1 (below_on HB8.out hb)).2.2.2.2
                      have hki8 : (k : Int) < (lst.length : Int) := by omega
                      have HADD : Hid (∀ W1, (binOp .add 3 (.int .i64 z) (.int .i64 x.vol)).run Try.prog W1 = .ok (.int .i64 (z + x.vol)) W1) := fun W1 => add_small z x.vol (by omega) (by omega) W1
                      refine region_seq 13 [false, false, false, false, false, false, false, false, false, false, false, false, false, false, false, false, false, false, false, false, false, false, false, false, false, false, false, false, false, false, false, false, false, false, false, false, false, false, false, false, false, false, false, false, false, false, false, false, false, false, false, false, false, false, false, false, false, false, false, false, false, false, false, false, false, false, false, false, false, false, false, false, false, false, false, false, false, false, false, false, false, false, false, false, false, false, false, false, false, false, false, false, false, false, false, false, false, false, false, false, false, false, false, false, false, false, false, true, true, true, true, true, true, true, true, true, true, true, true, true, false]
                        [(107, [], none), (108, [], none), (109, [107, 108], none), (110, [109], none), (111, [110], none), (112, [], none), (113, [], none), (114, [112, 113], none), (115, [114], none), (116, [115], none), (117, [111, 116], none), (118, [107, 108], none), (119, [118], none)]
                        (p15 gg lst.length cc k gm om os.length cS i z x.vol) (by kernel_rfl) (by kernel_rfl) (by kernel_rfl) (by kernel_rfl) (by kernel_rfl) (by decide) (p15_mono gg lst.length cc k gm om os.length cS i z x.vol) ?_ ?_
                      · refine ⟨?_, ?_, ?_, ?_, ?_, ?_, ?_, ?_, ?_, ?_, ?_, ?_, ?_, trivial⟩
                        · intro f w1 hb _ K hK
                          simp only [over, overL, Nat.reduceAdd]
                          go_simp
                          exact hK _ _ ⟨_, rfl, by simp only [over, overL, Nat.reduceAdd]; rfl, Below.refl _ _⟩
                        · intro f w1 hb _ K hK
                          simp only [over, overL, Nat.reduceAdd]
                          go_simp
                          exact hK _ _ ⟨_, rfl, by simp only [over, overL, Nat.reduceAdd]; rfl, Below.refl _ _⟩
                        · intro f w1 hb ⟨h107, h108, _⟩ K hK
                          replace h107 : f 107 = _ := h107
                          replace h108 : f 108 = _ := h108
                          simp only [over, overL, Nat.reduceAdd, h107, h108]
                          go_simp
                          exact hK _ _ ⟨_, rfl, by simp only [over, overL, Nat.reduceAdd, h107, h108]; rfl, Below.refl _ _⟩
                        · intro f w1 hb ⟨h109, _⟩ K hK
                          replace h109 : f 109 = _ := h109
                          simp only [over, overL, Nat.reduceAdd, h109]
                          go_simp
                          exact hK _ _ ⟨_, rfl, by simp only [over, overL, Nat.reduceAdd, h109]; rfl, Below.refl _ _⟩
                        · intro f w1 hb ⟨h110, _⟩ K hK
                          replace h110 : f 110 = _ := h110
                          have q6 := HZ6.out w1 hb
                          simp only [over, overL, Nat.reduceAdd, h110]
                          go_simp
                          exact hK _ _ ⟨_, rfl, by simp only [over, overL, Nat.reduceAdd, h110]; rfl, Below.refl _ _⟩
                        · intro f w1 hb _ K hK
                          simp only [over, overL, Nat.reduceAdd]
                          go_simp
                          exact hK _ _ ⟨_, rfl, by simp only [over, overL, Nat.reduceAdd]; rfl, Below.refl _ _⟩
                        · intro f w1 hb _ K hK
                          simp only [over, overL, Nat.reduceAdd]
                          go_simp
                          exact hK _ _ ⟨_, rfl, by simp only [over, overL, Nat.reduceAdd]; rfl, Below.refl _ _⟩
                        · intro f w1 hb ⟨h112, h113, _⟩ K hK
                          replace h112 : f 112 = _ := h112
                          replace h113 : f 113 = _ := h113
                          simp only [over, overL, Nat.reduceAdd, h112, h113]
                          go_simp
                          exact hK _ _ ⟨_, rfl, by simp only [over, overL, Nat.reduceAdd, h112, h113]; rfl, Below.refl _ _⟩
                        · intro f w1 hb ⟨h114, _⟩ K hK
                          replace h114 : f 114 = _ := h114
                          simp only [over, overL, Nat.reduceAdd, h114]
                          go_simp
                          exact hK _ _ ⟨_, rfl, by simp only [over, overL, Nat.reduceAdd, h114]; rfl, Below.refl _ _⟩
                        · intro f w1 hb ⟨h115, _⟩ K hK
                          replace h115 : f 115 = _ := h115
                          have q4 := HV4.out w1 hb
                          simp only [over, overL, Nat.reduceAdd, h115]
                          go_simp
                          exact hK _ _ ⟨_, rfl, by simp only [over, overL, Nat.reduceAdd, h115]; rfl, Below.refl _ _⟩
                        · intro f w1 hb ⟨h111, h116, _⟩ K hK
                          replace h111 : f 111 = _ := h111
                          replace h116 : f 116 = _ := h116
                          have q0 := HADD.out w1
                          simp only [over, overL, Nat.reduceAdd, h111, h116]
                          refine wp_binopV rfl (by go_simp) q0 ?_
                          exact hK _ _ ⟨_, rfl, by simp only [over, overL, Nat.reduceAdd, h111, h116], Below.refl _ _⟩
                        · intro f w1 hb ⟨h107, h108, _⟩ K hK
                          replace h107 : f 107 = _ := h107
                          replace h108 : f 108 = _ := h108
                          simp only [over, overL, Nat.reduceAdd, h107, h108]
                          go_simp
                          exact hK _ _ ⟨_, rfl, by simp only [over, overL, Nat.reduceAdd, h107, h108]; rfl, Below.refl _ _⟩
                        · intro f w1 hb ⟨h118, _⟩ K hK
                          replace h118 : f 118 = _ := h118
                          simp only [over, overL, Nat.reduceAdd, h118]
                          go_simp
                          exact hK _ _ ⟨_, rfl, by simp only [over, overL, Nat.reduceAdd, h118]; rfl, Below.refl _ _⟩
                      · intro f3 w9 b9 hv3
                        have h117 : f3 117 = .int .i64 (z + x.vol) := hv3.2.2.2.2.2.2.2.2.2.2.1
                        have h119 : f3 119 = .pointer (some ⟨gg, k * 7 + 6, none⟩) := hv3.2.2.2.2.2.2.2.2.2.2.2.2.1
                        have O9 := HO8.out.later b9
                        have s6 := HZ6.out w9 b9
                        have sf6 : w9.frozen? ⟨gg, k * 7 + 6, none⟩ = false := (O9.cellAt goodQ hk8 (j := 6) (by decide)).2
                        simp only [List.drop, over, overL, Nat.reduceAdd, h117, h119]
                        clear hv3
                        go_wp2
                        go_roundw
                        case rel =>
                          have hB9 := below_on HBO.out (below_on HB8.out b9)
                          have O10 := O9.set goodQ hk8 (o := 6) (by decide) (.int .i64 (z + x.vol)) (r, z + x.vol) (by rw [HLK.out]; rfl)
                          rw [HSET.out] at O10
                          have hs9 := Nat.le_trans HB8.out.size b9.size
                          refine ⟨i + 1, _, _, _, by omega, rfl, by go_num, rfl, rfl, ?_, hB9.setCell hg8 _, fun b e => ?_, fun b e => ?_⟩
                          · rw [HNX.out]
                            have e : (.slice (some ⟨gg, 0, none⟩) lst.length cc : Value) = .slice (some ⟨gg, 0, none⟩) (addP r x.vol out).length cc := by rw [← HSET.out, List.length_set]
                            exact O10
                          · simp at e; subst e; have := HPL.out.1; have := b9.size; simp [World.setCell]; omega
                          · simp at e; subst e; have := HPL.out.2; have := b9.size; simp [World.setCell]; omega
                        case measure => simp [intOf]; omega
                    · have hck2 : k < cap2 := by omega
                      go_wp2_with (first
                        | (at_builtin; refine wpList_append_opt goodQ Try.underlying27 infoQ rfl (by decide) _ rfl (.tmp 91) (.tmp 94) rfl w6.heap.size (.slice none 0 0) [] rfl (OwnR.nil _ _ _) (some ⟨g, 0, none⟩) k _ (out.take k) (by rw [List.length_take]; omega) rfl (HO6.out.pre goodQ k) (fun h => by cases h) (by unfold maxLen; simp <;> omega) (by simp <;> omega) (Nat.le_refl _) ?_; intro v7 w7 o7 g7 n7; have b7 := below_row (Below.refl _ _) (OwnR.nil encQ w6 w6.heap.size) g7 (Nat.le_refl _); have KP7 := KP.out.later b7; have KQ7 := KQ.out.later b7; have p0 := KP7.c 0 rfl; have p1 := KP7.c 1 rfl; have p2 := KP7.c 2 rfl; have s0 := KQ7.c 0 rfl; have s1 := KQ7.c 1 rfl; have s2 := KQ7.c 2 rfl; obtain ⟨ao7, m7, c7, rfl⟩ := o7.form)
                        | (at_builtin; refine wpList_append_row goodQ Try.underlying27 infoQ rfl (by decide) (by decide) _ rfl (.tmp 96) (.tmp 100) rfl w6.heap.size (.slice ao7 m7 c7) ([] ++ (out.take k)) rfl (o7.alloc _) w7.heap.size (r, 0) rfl (fun j u hu => (Bk.new w7 (qrl (r, 0)) 39 w7.heap.size rfl).c j hu) (by simp <;> omega) (by have := b7.size; simp; omega) ?_; intro v7b w7b o7b g7b n7b; have b7b := below_row (below_on b7 ((Below.refl _ _).alloc (Nat.le_refl _) _)) (o7.alloc _) g7b (by have := b7.size; simp; omega); obtain ⟨ao7b, m7b, c7b, rfl⟩ := o7b.form; have HO6b := HO6.out.later b7b)
                        | (at_builtin; refine wpList_append_opt goodQ Try.underlying27 infoQ rfl (by decide) _ rfl (.tmp 102) (.tmp 105) rfl w6.heap.size (.slice ao7b m7b c7b) ([] ++ (out.take k) ++ [(r, 0)]) rfl o7b _ (out.length - k) _ (out.drop k) (by rw [List.length_drop]) rfl ((by simpa using HO6b.suf goodQ k)) (fun h => by cases h) (by unfold maxLen; simp <;> omega) (by simp <;> omega) b7b.size ?_; intro v8 w8 o8 g8 n8; have b8 := below_row b7b o7b g8 b7b.size; have o8b : OwnR encQ w8 w6.heap.size v8 lst := (by rw [HLST.out]; simpa using o8); obtain ⟨gg, cc, rfl, hgg, hgl⟩ := own_some o8b (by rw [HLST.out]; simp)))
                      have HB8 : Hid (Below wo.heap.size wo w8) := below_on HB6.out b8
                      have HO8 : Hid (OwnR encQ w8 w3.heap.size (.slice (some ⟨gg, 0, none⟩) lst.length cc) lst) := o8b.base (by have := HBO.out.size; have := HB6.out.size; omega)
                      have hg8 : w3.heap.size ≤ gg := by have := HBO.out.size; have := HB6.out.size; omega
                      have hs68 : w6.heap.size ≤ w8.heap.size := b8.size
                      clear o8 o8b
                      have HZ6 : Hid (∀ W1, Below w8.heap.size w8 W1 → W1.cell? ⟨gg, k * 7 + 6, none⟩ = some (.int .i64 z)) := fun W1 hb => by
                        have h := ((HO8.out.later hb).cellAt goodQ hk8 (j := 6) (by decide)).1
                        rw [HLK.out] at h
                        exact h
                      have HV4 : Hid (∀ W1, Below w8.heap.size w8 W1 → W1.cell? ⟨gm, om + i * 6 + 4, none⟩ = some (.int .i64 x.vol)) := fun W1 hb => (HX.out W1 (below_on HB8.out hb)).2.2.2.2
                      have hki8 : (k : Int) < (lst.length : Int) := by omega
                      have HADD : Hid (∀ W1, (binOp .add 3 (.int .i64 z) (.int .i64 x.vol)).run Try.prog W1 = .ok (.int .i64 (z + x.vol)) W1) := fun W1 => add_small z x.vol (by omega) (by omega) W1
                      refine region_seq 13 [false, false, false, false, false, false, false, false, false, false, false, false, false, false, false, false, false, false, false, false, false, false, false, false, false, false, false, false, false, false, false, false, false, false, false, false, false, false, false, false, false, false, false, false, false, false, false, false, false, false, false, false, false, false, false, false, false, false, false, false, false, false, false, false, false, false, false, false, false, false, false, false, false, false, false, false, false, false, false, false, false, false, false, false, false, false, false, false, false, false, false, false, false, false, false, false, false, false, false, false, false, false, false, false, false, false, false, true, true, true, true, true, true, true, true, true, true, true, true, true, false]
                        [(107, [], none), (108, [], none), (109, [107, 108], none), (110, [109], none), (111, [110], none), (112, [], none), (113, [], none), (114, [112, 113], none), (115, [114], none), (116, [115], none), (117, [111, 116], none), (118, [107, 108], none), (119, [118], none)]
                        (p15 gg lst.length cc k gm om os.length cS i z x.vol) (by kernel_rfl) (by kernel_rfl) (by kernel_rfl) (by kernel_rfl) (by kernel_rfl) (by decide) (p15_mono gg lst.length cc k gm om os.length cS i z x.vol) ?_ ?_
                      · refine ⟨?_, ?_, ?_, ?_, ?_, ?_, ?_, ?_, ?_, ?_, ?_, ?_, ?_, trivial⟩
                        · intro f w1 hb _ K hK
                          simp only [over, overL, Nat.reduceAdd]
                          go_simp
                          exact hK _ _ ⟨_, rfl, by simp only [over, overL, Nat.reduceAdd]; rfl, Below.refl _ _⟩
                        · intro f w1 hb _ K hK
                          simp only [over, overL, Nat.reduceAdd]
                          go_simp
                          exact hK _ _ ⟨_, rfl, by simp only [over, overL, Nat.reduceAdd]; rfl, Below.refl _ _⟩
                        · intro f w1 hb ⟨h107, h108, _⟩ K hK
                          replace h107 : f 107 = _ := h107
                          replace h108 : f 108 = _ := h108
                          simp only [over, overL, Nat.reduceAdd, h107, h108]
                          go_simp
                          exact hK _ _ ⟨_, rfl, by simp only [over, overL, Nat.reduceAdd, h107, h108]; rfl, Below.refl _ _⟩
                        · intro f w1 hb ⟨h109, _⟩ K hK
                          replace h109 : f 109 = _ := h109
                          simp only [over, overL, Nat.reduceAdd, h109]
                          go_simp
                          exact hK _ _ ⟨_, rfl, by simp only [over, overL, Nat.reduceAdd, h109]; rfl, Below.refl _ _⟩
                        · intro f w1 hb ⟨h110, _⟩ K hK
                          replace h110 : f 110 = _ := h110
                          have q6 := HZ6.out w1 hb
                          simp only [over, overL, Nat.reduceAdd, h110]
                          go_simp
                          exact hK _ _ ⟨_, rfl, by simp only [over, overL, Nat.reduceAdd, h110]; rfl, Below.refl _ _⟩
                        · intro f w1 hb _ K hK
                          simp only [over, overL, Nat.reduceAdd]
                          go_simp
                          exact hK _ _ ⟨_, rfl, by simp only [over, overL, Nat.reduceAdd]; rfl, Below.refl _ _⟩
                        · intro f w1 hb _ K hK
                          simp only [over, overL, Nat.reduceAdd]
                          go_simp
                          exact hK _ _ ⟨_, rfl, by simp only [over, overL, Nat.reduceAdd]; rfl, Below.refl _ _⟩
                        · intro f w1 hb ⟨h112, h113, _⟩ K hK
                          replace h112 : f 112 = _ := h112
                          replace h113 : f 113 = _ := h113
                          simp only [over, overL, Nat.reduceAdd, h112, h113]
                          go_simp
                          exact hK _ _ ⟨_, rfl, by simp only [over, overL, Nat.reduceAdd, h112, h113]; rfl, Below.refl _ _⟩
                        · intro f w1 hb ⟨h114, _⟩ K hK
                          replace h114 : f 114 = _ := h114
                          simp only [over, overL, Nat.reduceAdd, h114]
                          go_simp
                          exact hK _ _ ⟨_, rfl, by simp only [over, overL, Nat.reduceAdd, h114]; rfl, Below.refl _ _⟩
                        · intro f w1 hb ⟨h115, _⟩ K hK
                          replace h115 : f 115 = _ := h115
                          have q4 := HV4.out w1 hb
                          simp only [over, overL, Nat.reduceAdd, h115]
                          go_simp
                          exact hK _ _ ⟨_, rfl, by simp only [over, overL, Nat.reduceAdd, h115]; rfl, Below.refl _ _⟩
                        · intro f w1 hb ⟨h111, h116, _⟩ K hK
                          replace h111 : f 111 = _ := h111
                          replace h116 : f 116 = _ := h116
                          have q0 := HADD.out w1
                          simp only [over, overL, Nat.reduceAdd, h111, h116]
                          refine wp_binopV rfl (by go_simp) q0 ?_
                          exact hK _ _ ⟨_, rfl, by simp only [over, overL, Nat.reduceAdd, h111, h116], Below.refl _ _⟩
                        · intro f w1 hb ⟨h107, h108, _⟩ K hK
                          replace h107 : f 107 = _ := h107
                          replace h108 : f 108 = _ := h108
                          simp only [over, overL, Nat.reduceAdd, h107, h108]
                          go_simp
                          exact hK _ _ ⟨_, rfl, by simp only [over, overL, Nat.reduceAdd, h107, h108]; rfl, Below.refl _ _⟩
                        · intro f w1 hb ⟨h118, _⟩ K hK
                          replace h118 : f 118 = _ := h118
                          simp only [over, overL, Nat.reduceAdd, h118]
                          go_simp
                          exact hK _ _ ⟨_, rfl, by simp only [over, overL, Nat.reduceAdd, h118]; rfl, Below.refl _ _⟩
                      · intro f3 w9 b9 hv3
                        have h117 : f3 117 = .int .i64 (z + x.vol) := hv3.2.2.2.2.2.2.2.2.2.2.1
                        have h119 : f3 119 = .pointer (some ⟨gg, k * 7 + 6, none⟩) := hv3.2.2.2.2.2.2.2.2.2.2.2.2.1
                        have O9 := HO8.out.later b9
                        have s6 := HZ6.out w9 b9
                        have sf6 : w9.frozen? ⟨gg, k * 7 + 6, none⟩ = false := (O9.cellAt goodQ hk8 (j := 6) (by decide)).2
                        simp only [List.drop, over, overL, Nat.reduceAdd, h117, h119]
                        clear hv3
                        go_wp2
                        go_roundw
                        case rel =>
                          have hB9 := below_on HBO.out (below_on HB8.out b9)
                          have O10 := O9.set goodQ hk8 (o := 6) (by decide) (.int .i64 (z + x.vol)) (r, z + x.vol) (by rw [HLK.out]; rfl)
                          rw [HSET.out] at O10
                          have hs9 := Nat.le_trans HB8.out.size b9.size
                          refine ⟨i + 1, _, _, _, by omega, rfl, by go_num, rfl, rfl, ?_, hB9.setCell hg8 _, fun b e => ?_, fun b e => ?_⟩
                          · rw [HNX.out]
                            have e : (.slice (some ⟨gg, 0, none⟩) lst.length cc : Value) = .slice (some ⟨gg, 0, none⟩) (addP r x.vol out).length cc := by rw [← HSET.out, List.length_set]
                            exact O10
                          · simp at e; subst e; have := HPL.out.1; have := b9.size; simp [World.setCell]; omega
                          · simp at e; subst e; have := HPL.out.2; have := b9.size; simp [World.setCell]; omega
                        case measure => simp [intOf]; omega
    · have hii : ¬ (i : Int) < (os.length : Int) := by omega
      have e : os.take i = os := List.take_of_length_le (by omega)
      rw [e, HPE.out] at HOV
      clear e
      obtain ⟨aoV, cV, rfl⟩ := HOV.out.shape
      go_wp2
      go_ret
      exact ⟨below_on HB3.out HBO.out, aoV, ⟨cV, rfl⟩, HOV.out.rd goodQ⟩
end Go.Proofs.Ytgbnjgenopdmfaa
