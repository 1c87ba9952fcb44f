/- unit.plainRune and unit.measureOf, walked. -/
import Derived.Test.YtpfpfnkagmmanaaGreatDoorCut
import Derived.Maps.Own
import Derived.Maps.OwnSet
import Derived.Maps.Views
namespace Go.Proofs.YtpfpfnkagmmanaaGreatDoor
open Go.RowKit Go.Shelf Go.Maps Go.WideMaps

set_option maxHeartbeats 400000 in
theorem plainRune (r : Int) (w : World) :
    Calls Tryz.prog 91 #[.int .i32 r] w fun e w' => e = .returned (.int .i32 (plainF r)) ∧ w' = w := by
  by_cases h1 : r = 181
  · subst h1
    go_enter Tryz.func91, Tryz.ntmps91
    go_wp2
    go_ret
    exact ⟨rfl, rfl⟩
  · by_cases h2 : r = 956
    · subst h2
      go_enter Tryz.func91, Tryz.ntmps91
      go_wp2
      go_ret
      exact ⟨rfl, rfl⟩
    · have e : plainF r = r := if_neg (by omega)
      rw [e]
      have g1 : (r == 181) = false := by simp [h1]
      have g2 : (r == 956) = false := by simp [h2]
      clear e h1 h2
      go_enter Tryz.func91, Tryz.ntmps91
      go_wp2
      go_ret
      exact ⟨rfl, rfl⟩

/-- How an element of the table reads. -/
def cellsElem {H : Type} : List Value → Option (DataW H × List MemPlace)
  | [.int .i64 a, .int .i64 b, .int .i64 c] => some (.agg [.lit (.int .i64 a), .lit (.int .i64 b), .lit (.int .i64 c)], [])
  | _ => none
def measElem {H : Type} : Value → Option (DataW H × List MemPlace)
  | .agg cs => cellsElem cs.toList
  | _ => none
theorem measElem_inv {H : Type} {v : Value} {a b c : Int} {ps : List MemPlace} (h : measElem (H := H) v = some (.agg [.lit (.int .i64 a), .lit (.int .i64 b), .lit (.int .i64 c)], ps)) : v = .agg #[.int .i64 a, .int .i64 b, .int .i64 c] := by
  unfold measElem at h
  split at h
  · rename_i cs
    unfold cellsElem at h
    split at h
    · rename_i x y z e
      simp only [Option.some.injEq, Prod.mk.injEq, DataW.agg.injEq, List.cons.injEq, DataW.lit.injEq, Lit.int.injEq, true_and, and_true] at h
      obtain ⟨⟨rfl, rfl, rfl⟩, _⟩ := h
      rw [show cs = #[.int .i64 x, .int .i64 y, .int .i64 z] from Array.toList_inj.1 e]
    · cases h
  · cases h
theorem law : Keyed Tryz.prog 9 := string_keyed Tryz.underlying9
theorem zeroM (w : World) : (zeroValue 112).run Tryz.prog w = .ok (.agg #[.int .i64 0, .int .i64 0, .int .i64 0]) w := by kernel_rfl

/-- The table, as it is laid: how each insert turns it. -/
def putAll {H : Type} (D : DataW H) : List (List UInt8 × Int × Int × Int) → DataW H
  | [] => D
  | (n, a, b, c) :: r => putAll (D.put (.string n) (.agg [.lit (.int .i64 a), .lit (.int .i64 b), .lit (.int .i64 c)])) r

theorem insert1 {w : World} {b n : Nat} {D : DataW Unit} (h : w.ownsMap Tryz.prog 9 measElem b n D) (hn : n < 100) (s : ByteArray) (hs : s.size < 100) (x y z : Int) :
    ∃ w', (Instr.mapUpdate 119 (.map (some b)) (.string s) (.agg #[.int .i64 x, .int .i64 y, .int .i64 z])).run Tryz.prog w = .ok () w' ∧
      w'.ownsMap Tryz.prog 9 measElem b (n + 1) (D.put (.string s.data.toList) (.agg [.lit (.int .i64 x), .lit (.int .i64 y), .lit (.int .i64 z)])) ∧ w.grownBy w' (some b) :=
  h.update law Tryz.underlying119 (by unfold maxLen; omega) (keyOf_string_mk Tryz.underlying9 (by unfold maxLen; omega)) rfl

theorem putAll_at {H : Type} (l : List UInt8) : ∀ (U : List (List UInt8 × Int × Int × Int)) (D : DataW H), IsMap D → U.Pairwise (fun p q => p.1 ≠ q.1) →
    (has (putAll D U) (.string l) = ((U.find? fun u => u.1 == l).isSome || has D (.string l))) ∧
    ∀ z, (putAll D U).atKey (.string l) z = match U.find? fun u => u.1 == l with | some u => .agg [.lit (.int .i64 u.2.1), .lit (.int .i64 u.2.2.1), .lit (.int .i64 u.2.2.2)] | none => D.atKey (.string l) z
  | [], D, _, _ => by simp [putAll]
  | (n, a, b, c) :: r, D, hD, hU => by
    have hD' := hD.put (.string n) (.agg [.lit (.int .i64 a), .lit (.int .i64 b), .lit (.int .i64 c)])
    have ih := putAll_at l r _ hD' (List.pairwise_cons.1 hU).2
    have hn := (List.pairwise_cons.1 hU).1
    simp only [putAll]
    rw [ih.1]
    by_cases e : n = l
    · subst e
      have hf : (r.find? fun u => u.1 == n) = none := List.find?_eq_none.2 (fun u hu => by simpa using (hn u hu).symm)
      have hk : WideAt.IsKeyLit (.string n) := trivial
      refine ⟨by simp [hf, has_put_same hD hk], fun z => ?_⟩
      rw [ih.2 z, hf]
      simp [atKey_put_same hD hk]
    · have hne : (Lit.string l) ≠ .string n := fun h => e (by injection h with h; exact h.symm)
      have hb : (n == l) = false := by simp [e]
      refine ⟨by rw [has_put_other hne]; simp [hb], fun z => ?_⟩
      rw [ih.2 z, atKey_put_other hne]
      simp [hb]

theorem units_apart : units.Pairwise (fun p q => p.1 ≠ q.1) := by decide
theorem table_has {H : Type} (l : List UInt8) : has (putAll (.map [] : DataW H) units) (.string l) = (meas l).isSome := by
  rw [(putAll_at l units _ isMap_empty units_apart).1]
  simp [meas, has]
theorem table_at {H : Type} (l : List UInt8) (z : DataW H) : (putAll (.map [] : DataW H) units).atKey (.string l) z = match meas l with | some (a, b, c) => .agg [.lit (.int .i64 a), .lit (.int .i64 b), .lit (.int .i64 c)] | none => z := by
  rw [(putAll_at l units _ isMap_empty units_apart).2]
  unfold meas
  cases units.find? fun u => u.1 == l <;> rfl
end Go.Proofs.YtpfpfnkagmmanaaGreatDoor
