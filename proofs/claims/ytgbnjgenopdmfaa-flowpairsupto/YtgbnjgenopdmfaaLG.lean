/- Maps of numbers. -/
import Derived.Test.YtgbnjgenopdmfaaLB
import Derived.Test.YtgbnjgenopdmfaaLM
import Derived.DeepKeys5
import Derived.Maps.OwnSet
import Derived.Maps.OwnOps
import Derived.Maps.RangeWalk
namespace Go.Proofs.Ytgbnjgenopdmfaa
open Go.RowKit Go.Maps Go.MapKept

def RV (v : Value) : Option (DataW Value × List MemPlace) := some (.held v, [])
/-- Keys of a kind. -/
structure KE (κ : Type) where
  kt : TypeId
  enc : κ → Value
  kl : κ → Lit
  ok : κ → Prop
structure KLaw {κ : Type} (c : KE κ) : Prop where
  keyed : Keyed Try.prog c.kt
  key : ∀ x, c.ok x → keyOf Try.prog c.kt (c.enc x) = some (c.kl x)
  inv : ∀ v l, keyOf Try.prog c.kt v = some l → ∃ x, v = c.enc x ∧ c.ok x
  one : ∀ x y, c.enc x = c.enc y → x = y
theorem KLaw.inj {κ : Type} {c : KE κ} (h : KLaw c) {x y : κ} (hx : c.ok x) (hy : c.ok y) (e : c.kl x = c.kl y) : x = y :=
  h.one x y (h.keyed.inj (h.key x hx) (by rw [e]; exact h.key y hy))
/-- What a map of numbers holds. -/
structure RdI {κ : Type} (c : KE κ) (D : DataW Value) (m : List (κ × Int)) : Prop where
  isMap : Tidy D
  size : Maps.size D = m.length
  ok : ∀ x ∈ m, c.ok x.1
  once : m.Pairwise fun x y => x.1 ≠ y.1
  at' : ∀ x ∈ m, ∀ z, D.atKey (c.kl x.1) z = .held (.int .i64 x.2)
  none' : ∀ p, c.ok p → (∀ x ∈ m, x.1 ≠ p) → Maps.has D (c.kl p) = false
def WI {κ : Type} (c : KE κ) (w : World) (b : Nat) (m : List (κ × Int)) : Prop := ∃ D, w.ownsMap Try.prog c.kt RV b (Maps.size D) D ∧ RdI c D m
theorem own_tight {w : World} {k : TypeId} {R : Value → Option (DataW Value × List MemPlace)} {b n : Nat} {D : DataW Value} (h : w.ownsMap Try.prog k R b n D) : w.ownsMap Try.prog k R b (Maps.size D) D := by
  obtain ⟨es, clock, hb, F, _, hD⟩ := h
  refine ⟨es, clock, hb, F, ?_, hD⟩
  rw [hD, Maps.size_eq, length_sorted]
  simp
theorem WI.lt {κ : Type} {c : KE κ} {w : World} {b : Nat} {m : List (κ × Int)} (h : WI c w b m) : b < w.heap.size := by
  obtain ⟨D, h1, _⟩ := h
  exact h1.lt
theorem WI.same {κ : Type} {c : KE κ} {w w1 : World} {b : Nat} {m : List (κ × Int)} (h : WI c w b m) (hb : w1.heap[b]? = w.heap[b]?) : WI c w1 b m := by
  obtain ⟨D, ⟨es, clock, h1, h2⟩, h3⟩ := h
  exact ⟨D, ⟨es, clock, hb.trans h1, h2⟩, h3⟩
theorem WI.next {κ : Type} {c : KE κ} {w w1 : World} {b : Nat} {m : List (κ × Int)} (h : WI c w b m) (hb : Below w.heap.size w w1) : WI c w1 b m := h.same (hb.block b h.lt)
theorem WI.made {κ : Type} (c : KE κ) (w : World) : WI c (w.alloc (.map #[] 0)) w.heap.size [] :=
  ⟨.map [], World.ownsMap_made w _ _ _, ⟨tidy_empty, rfl, (fun _ h => by cases h), List.Pairwise.nil, (fun _ h => by cases h), fun _ _ _ => rfl⟩⟩
variable {κ : Type} [DecidableEq κ]
/-- What a key has. -/
def atI (m : List (κ × Int)) (p : κ) : Option Int := (m.find? fun x => decide (x.1 = p)).map (·.2)
theorem atI_mem {m : List (κ × Int)} (ho : m.Pairwise fun x y => x.1 ≠ y.1) {p : κ} {v : Int} : (p, v) ∈ m ↔ atI m p = some v := by
  induction m with
  | nil => simp [atI]
  | cons y q ih =>
    obtain ⟨h1, h2⟩ := List.pairwise_cons.1 ho
    by_cases e : y.1 = p
    · have e1 : atI (y :: q) p = some y.2 := by simp [atI, e]
      rw [e1, List.mem_cons]
      constructor
      · rintro (h3 | h3)
        · rw [← h3]
        · exact absurd e (h1 _ h3)
      · intro h3
        injection h3 with h3
        exact .inl (by rw [← h3, ← e])
    · have e1 : atI (y :: q) p = atI q p := by simp [atI, e]
      rw [e1, ← ih h2, List.mem_cons]
      constructor
      · rintro (h3 | h3)
        · exact absurd (by rw [← h3]) e
        · exact h3
      · exact .inr
theorem atI_none {m : List (κ × Int)} {p : κ} : atI m p = none ↔ ∀ x ∈ m, x.1 ≠ p := by
  unfold atI
  rw [Option.map_eq_none_iff, List.find?_eq_none]
  simp
def putI (m : List (κ × Int)) (p : κ) (v : Int) : List (κ × Int) := (m.filter fun x => decide (x.1 ≠ p)) ++ [(p, v)]
theorem mem_putI {m : List (κ × Int)} {p : κ} {v : Int} {x : κ × Int} : x ∈ putI m p v ↔ (x ∈ m ∧ x.1 ≠ p) ∨ x = (p, v) := by simp [putI]
theorem once_putI {m : List (κ × Int)} (ho : m.Pairwise fun x y => x.1 ≠ y.1) (p : κ) (v : Int) : (putI m p v).Pairwise fun x y => x.1 ≠ y.1 := by
  unfold putI
  rw [List.pairwise_append]
  refine ⟨ho.filter _, by simp, fun x hx y hy => ?_⟩
  simp at hx hy
  rw [hy]
  exact hx.2
theorem atI_put {m : List (κ × Int)} (ho : m.Pairwise fun x y => x.1 ≠ y.1) (p q : κ) (v : Int) : atI (putI m p v) q = if q = p then some v else atI m q := by
  have ho2 := once_putI ho p v
  by_cases e : q = p
  · subst e
    rw [if_pos rfl]
    exact (atI_mem ho2).1 (mem_putI.2 (.inr rfl))
  · rw [if_neg e]
    cases h : atI m q with
    | none =>
      have h1 := atI_none.1 h
      refine atI_none.2 fun x hx => ?_
      rcases mem_putI.1 hx with ⟨hx, _⟩ | hx
      · exact h1 x hx
      · rw [hx]; exact fun e2 => e e2.symm
    | some u => exact (atI_mem ho2).1 (mem_putI.2 (.inl ⟨(atI_mem ho).2 h, e⟩))
theorem len_filter {m : List (κ × Int)} (ho : m.Pairwise fun x y => x.1 ≠ y.1) (p : κ) : (m.filter fun x => decide (x.1 ≠ p)).length + (if (atI m p).isSome = true then 1 else 0) = m.length := by
  induction m with
  | nil => simp [atI]
  | cons y r ih =>
    obtain ⟨h1, h2⟩ := List.pairwise_cons.1 ho
    have i := ih h2
    by_cases e : y.1 = p
    · have hn : atI r p = none := atI_none.2 fun x hx e2 => h1 x hx (by rw [e, e2])
      rw [hn] at i
      have e1 : atI (y :: r) p = some y.2 := by simp [atI, e]
      rw [e1, List.filter_cons, if_neg (by simp [e])]
      simp at i ⊢
      omega
    · have e1 : atI (y :: r) p = atI r p := by simp [atI, e]
      rw [e1, List.filter_cons, if_pos (by simp [e])]
      simp only [List.length_cons]
      omega
theorem hasI {c : KE κ} {D : DataW Value} {m : List (κ × Int)} (h : RdI c D m) {p : κ} (hp : c.ok p) : Maps.has D (c.kl p) = true ↔ (atI m p).isSome = true := by
  cases e : atI m p with
  | none => rw [h.none' p hp (atI_none.1 e)]; simp
  | some v => simp only [Option.isSome_some, iff_true]; exact has_true_of_atKey (h.at' _ ((atI_mem h.once).2 e))
theorem readsI_put {c : KE κ} (hc : KLaw c) {D : DataW Value} {m : List (κ × Int)} (h : RdI c D m) {p : κ} (hp : c.ok p) (v : Int) : RdI c (D.put (c.kl p) (.held (.int .i64 v))) (putI m p v) := by
  have hk : WideAt.IsKeyLit (c.kl p) := hc.keyed.key (hc.key p hp)
  refine ⟨h.isMap.put hk _, ?_, fun y hy => ?_, once_putI h.once p v, fun y hy z => ?_, fun q hq hn => ?_⟩
  · rw [size_put h.isMap, h.size]
    have hl := len_filter h.once p
    unfold putI
    rw [List.length_append]
    by_cases hh : Maps.has D (c.kl p) = true
    · rw [if_pos hh]
      rw [if_pos ((hasI h hp).1 hh)] at hl
      simp only [List.length_cons, List.length_nil]; omega
    · rw [if_neg hh]
      rw [if_neg (fun he => hh ((hasI h hp).2 he))] at hl
      simp only [List.length_cons, List.length_nil]; omega
  · rcases mem_putI.1 hy with ⟨hy, _⟩ | rfl
    · exact h.ok y hy
    · exact hp
  · rcases mem_putI.1 hy with ⟨hy1, hy2⟩ | rfl
    · rw [atKey_put_other (fun e => hy2 (hc.inj (h.ok y hy1) hp e))]
      exact h.at' y hy1 z
    · exact atKey_put_same h.isMap.isMap hk _ _
  · have hne : q ≠ p := fun e => hn (p, v) (mem_putI.2 (.inr rfl)) e.symm
    rw [has_put_other (fun e => hne (hc.inj hq hp e))]
    exact h.none' q hq fun y hy e => hn y (mem_putI.2 (.inl ⟨hy, by rw [e]; exact hne⟩)) e
theorem WI.put {c : KE κ} (hc : KLaw c) {t e : TypeId} (ht : Try.prog.underlying t = some (.map c.kt e)) {w : World} {b : Nat} {m : List (κ × Int)} (h : WI c w b m) {p : κ} (hp : c.ok p) (v : Int) (hl : m.length ≤ 100000000) :
    ∃ w', (Instr.mapUpdate t (.map (some b)) (c.enc p) (.int .i64 v)).run Try.prog w = .ok () w' ∧ WI c w' b (putI m p v) ∧ w.grownBy w' (some b) := by
  obtain ⟨D, h1, h2⟩ := h
  obtain ⟨w', hrun, h3, h4⟩ := h1.update hc.keyed ht (by rw [h2.size]; unfold maxLen; omega) (hc.key p hp) (d := .held (.int .i64 v)) (ps := []) rfl
  exact ⟨w', hrun, ⟨_, own_tight h3, readsI_put hc h2 hp v⟩, h4⟩
theorem WI.look {c : KE κ} (hc : KLaw c) {t e : TypeId} (ht : Try.prog.underlying t = some (.map c.kt e)) (hz : ∀ w, (zeroValue e).run Try.prog w = .ok (.int .i64 0) w) {w : World} {b : Nat} {m : List (κ × Int)} (h : WI c w b m) {p : κ} (hp : c.ok p) (cm : Bool) :
    (Instr.lookup t (.map (some b)) (c.enc p) cm).run Try.prog w = .ok (if cm then .tuple #[.int .i64 ((atI m p).getD 0), .bool (atI m p).isSome] else .int .i64 ((atI m p).getD 0)) w := by
  obtain ⟨D, ⟨es, clock, hb, F, _, hD⟩, h2⟩ := h
  have hk := hc.key p hp
  rcases Maps.fit_look cm hc.keyed ht (hz w) hb F hk with ⟨hrun, hno, hat⟩ | ⟨e0, y, he0, hk0, hrun, hRv, hat, _⟩
  · have hn : atI m p = none := by
      cases e : atI m p with
      | none => rfl
      | some v =>
        have := has_true_of_atKey (h2.at' _ ((atI_mem h2.once).2 e))
        have h4 := h2.at' _ ((atI_mem h2.once).2 e) .nil
        rw [hD, hat] at h4
        exact absurd h4 (by intro h5; injection h5)
    rw [hrun, hn]
    rfl
  · have hs : atI m p = some ((atI m p).getD 0) ∧ e0.val = .int .i64 ((atI m p).getD 0) := by
      simp only [RV, Option.some.injEq] at hRv
      have hat2 := hat .nil
      cases e : atI m p with
      | none =>
        have := h2.none' p hp (atI_none.1 e)
        have h3 : Maps.has D (c.kl p) = true := has_true_of_atKey (D := D) (k := c.kl p) (y := y.1) (fun zd => by rw [hD]; exact hat zd)
        rw [this] at h3
        cases h3
      | some v =>
        refine ⟨rfl, ?_⟩
        have h3 := h2.at' _ ((atI_mem h2.once).2 e) .nil
        rw [hD, hat2, ← hRv] at h3
        injection h3
    rw [hrun, hs.2]
    have h4 : (atI m p).isSome = true := by rw [hs.1]; rfl
    rw [h4]
end Go.Proofs.Ytgbnjgenopdmfaa
