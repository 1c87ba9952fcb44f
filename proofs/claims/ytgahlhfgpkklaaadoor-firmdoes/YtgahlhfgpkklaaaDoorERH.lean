/- errors.Is at errors of errors.New's make; what an error's number is. -/
import Derived.Test.YtgahlhfgpkklaaaDoorCCH
import Derived.WalkKit
import Derived.LaidEql
import Derived.Stop.Asserts
import Derived.RowKitTokens
namespace Go.Proofs.YtgahlhfgpkklaaaDoor
open Go.RowKit Go.Extern.Stop Go.Stop Go.Extern

theorem Tryd.isTypeOf (v : Value) (w : World) : (Extern.ReflectliteType.typeOf #[.iface 109 v]).run Tryd.prog w = .ok (.iface 94 (.agg #[.pointer (some ⟨9, 109, none⟩)])) w := by kernel_rfl
theorem Tryd.isComparable (w : World) : ((Extern.ReflectliteType.method fun t => do Go.Extern.Rtype.noPackHeld "Comparable" t; (fun a => Value.bool a.comparable) <$> typeInfo t) #[.agg #[.pointer (some ⟨9, 109, none⟩)]]).run Tryd.prog w = .ok (.bool true) w := by kernel_rfl
theorem Tryd.isMethodComparable (v : Value) (w : World) : (Go.method 247 94 v "Comparable").run Tryd.prog w = .ok (85, v) w := by kernel_rfl
theorem Tryd.isComp : (Tryd.prog.info? 109).map (·.comparable) = some true := by kernel_rfl
theorem Tryd.isSize : (Tryd.prog.info? 135).map (·.size) = some 1 := by kernel_rfl
theorem Tryd.noIsE (v : Value) (xT : TypeId) (w : World) : (Instr.typeAssert (.iface 109 v) xT 96 true).run Tryd.prog w = .ok (.tuple #[.nilIface, .bool false]) w := run_typeAssert_lacksB Tryd.underlying96 (by kernel_rfl) (by kernel_rfl) v xT w
theorem Tryd.noUnwrapE (v : Value) (xT : TypeId) (w : World) : (Instr.typeAssert (.iface 109 v) xT 99 true).run Tryd.prog w = .ok (.tuple #[.nilIface, .bool false]) w := run_typeAssert_lacksB Tryd.underlying99 (by kernel_rfl) (by kernel_rfl) v xT w
theorem Tryd.noUnwrapsE (v : Value) (xT : TypeId) (w : World) : (Instr.typeAssert (.iface 109 v) xT 100 true).run Tryd.prog w = .ok (.tuple #[.nilIface, .bool false]) w := run_typeAssert_lacksB Tryd.underlying100 (by kernel_rfl) (by kernel_rfl) v xT w

set_option maxRecDepth 100000 in
/-- errors.Is(x, x). -/
theorem is_same (a : Addr) (w : World) :
    Calls Tryd.prog 23 #[.iface 109 (.pointer (some a)), .iface 109 (.pointer (some a))] w fun e w' => e = .returned (.bool true) ∧ w' = w := by
  obtain ⟨i, hi, hcmp⟩ := Option.map_eq_some_iff.1 Tryd.isComp
  obtain ⟨j, hj, hjs⟩ := Option.map_eq_some_iff.1 Tryd.isSize
  have h8 := @run_callFunc_extern Tryd.prog 41 _ Extern.ReflectliteType.typeOf Tryd.func41 (by kernel_rfl) (by kernel_rfl) (by kernel_rfl) (by kernel_rfl)
  have h32 := @run_callFunc_extern Tryd.prog 85 _ (Extern.ReflectliteType.method fun t => do Go.Extern.Rtype.noPackHeld "Comparable" t; pure (.bool (← typeInfo t).comparable)) Tryd.func85 (by kernel_rfl) (by kernel_rfl) (by kernel_rfl) (by kernel_rfl)
  have tT := Tryd.isTypeOf
  have cT := Tryd.isComparable
  have mR := Tryd.isMethodComparable
  have heq := run_eql_iface_ptr_same (P := Tryd.prog) w a Tryd.underlying54 Tryd.underlying109 hi hcmp hj
  go_enter Tryd.func23, Tryd.ntmps23
  go_wp2
  refine wp_loop_rounds 1 ?_
  rw [rounds_succ]
  go_wp2
  go_ret
  exact ⟨rfl, rfl⟩
/-- errors.Is(nil, x). -/
theorem is_nil (b : Addr) (w : World) :
    Calls Tryd.prog 23 #[.nilIface, .iface 109 (.pointer (some b))] w fun e w' => e = .returned (.bool false) ∧ w' = w := by
  have hn := run_eql_iface_nil_left (P := Tryd.prog) w 109 (.pointer (some b)) Tryd.underlying54
  go_enter Tryd.func23, Tryd.ntmps23
  go_wp2
  go_ret
  exact ⟨rfl, rfl⟩
set_option maxRecDepth 100000 in
/-- errors.Is(x, y), two different ones. -/
theorem is_other (a b : Addr) (ca cb : Array Value) (ta tb : TypeId) (w : World) (hne : a ≠ b) (ha : w.heap[a.block]? = some (.cells ca ta (0, 0))) (hb : w.heap[b.block]? = some (.cells cb tb (0, 0))) :
    Calls Tryd.prog 23 #[.iface 109 (.pointer (some a)), .iface 109 (.pointer (some b))] w fun e w' => e = .returned (.bool false) ∧ w' = w := by
  obtain ⟨i, hi, hcmp⟩ := Option.map_eq_some_iff.1 Tryd.isComp
  obtain ⟨j, hj, hjs⟩ := Option.map_eq_some_iff.1 Tryd.isSize
  have h8 := @run_callFunc_extern Tryd.prog 41 _ Extern.ReflectliteType.typeOf Tryd.func41 (by kernel_rfl) (by kernel_rfl) (by kernel_rfl) (by kernel_rfl)
  have h32 := @run_callFunc_extern Tryd.prog 85 _ (Extern.ReflectliteType.method fun t => do Go.Extern.Rtype.noPackHeld "Comparable" t; pure (.bool (← typeInfo t).comparable)) Tryd.func85 (by kernel_rfl) (by kernel_rfl) (by kernel_rfl) (by kernel_rfl)
  have tT := Tryd.isTypeOf
  have cT := Tryd.isComparable
  have mR := Tryd.isMethodComparable
  have nE := Tryd.noIsE
  have uE := Tryd.noUnwrapE
  have vE := Tryd.noUnwrapsE
  have heq := run_eql_iface_ptr_other (P := Tryd.prog) w Tryd.underlying54 Tryd.underlying109 hi hcmp hj (by rw [hjs]; decide) hne ha hb
  go_enter Tryd.func23, Tryd.ntmps23
  go_wp2
  refine wp_loop_rounds 1 ?_
  rw [rounds_succ]
  go_wp2
  go_ret
  exact ⟨rfl, rfl⟩

/-- An error: none, or the one of that variable. -/
def er (a : Nat → Addr) : Option Nat → Value
  | none => .nilIface
  | some i => .iface 109 (.pointer (some (a i)))
/-- What the package's variables hold: eight errors, and the words of commands. Their blocks lie below n. -/
structure Gl (a : Nat → Addr) (n : Nat) (w : World) : Prop where
  cell : ∀ i, i < 8 → w.cell? ⟨i, 0, none⟩ = some (er a (some i))
  row : ∀ i, i < 8 → ∃ c t, w.heap[(a i).block]? = some (.cells c t (0, 0))
  ne : ∀ i j, i < 8 → j < 8 → i ≠ j → a i ≠ a j
  low : ∀ i, i < 8 → (a i).block < n
  nine : 9 ≤ n
  size : n ≤ w.heap.size
  wt : WT w
theorem Gl.below {a : Nat → Addr} {n : Nat} {w w' : World} (h : Gl a n w) (hb : Below n w w') : Gl a n w' := by
  have hc : ∀ b o v, b < n → w.cell? ⟨b, o, none⟩ = some v → w'.cell? ⟨b, o, none⟩ = some v := fun b o v hl hv => (World.cell?_of_block (hb.block b hl)).trans hv
  have h9 := h.nine
  refine ⟨fun i hi => hc i 0 _ (by omega) (h.cell i hi), fun i hi => ?_, h.ne, h.low, h.nine, Nat.le_trans h.size hb.size, ⟨fun k hk => hc 8 _ _ (by omega) (h.wt.first k hk), fun k i hk hi => hc 8 _ _ (by omega) (h.wt.letter k i hk hi)⟩⟩
  obtain ⟨c, t, hr⟩ := h.row i hi
  exact ⟨c, t, (hb.block _ (h.low i hi)).trans hr⟩
theorem Gl.later {a : Nat → Addr} {n : Nat} {w w' : World} (h : Gl a n w) (hb : Below w.heap.size w w') : Gl a n w' := h.below (hb.mono h.size)
theorem Gl.kept {a : Nat → Addr} {n : Nat} {M : Nat → Prop} {w w' : World} (h : Gl a n w) (hk : Kpt M w w') (hM : ∀ k, M k → n ≤ k) : Gl a n w' := h.below (hk.below h.size hM)

theorem is_any (a : Nat → Addr) (n : Nat) (o : Option Nat) (i : Nat) (w : World) (h : Gl a n w) (hi : i < 8) (ho : ∀ j, o = some j → j < 8) :
    Calls Tryd.prog 23 #[er a o, er a (some i)] w fun e w' => e = .returned (.bool (decide (o = some i))) ∧ w' = w := by
  cases o with
  | none => exact is_nil (a i) w
  | some j =>
    have hj := ho j rfl
    by_cases e : j = i
    · subst e
      have := is_same (a j) w
      simpa [er] using this
    · obtain ⟨c1, t1, r1⟩ := h.row j hj
      obtain ⟨c2, t2, r2⟩ := h.row i hi
      have := is_other (a j) (a i) c1 c2 t1 t2 w (h.ne j i hj hi e) r1 r2
      have hd : decide (some j = some i) = false := by simpa using e
      rw [hd]
      exact this
end Go.Proofs.YtgahlhfgpkklaaaDoor
