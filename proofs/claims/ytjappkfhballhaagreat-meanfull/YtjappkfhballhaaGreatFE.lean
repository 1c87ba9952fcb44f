/- Fluids told out. -/
import Derived.Test.YtjappkfhballhaaGreatFD
namespace Go.Proofs.YtjappkfhballhaaGreat.F
open Go.RowKit


/-- A fluid told out. -/
def ex : List Pc → List ByteArray
  | [] => []
  | p :: r => List.replicate p.2.toNat p.1 ++ ex r
/-- No two side by side have one label. -/
def Adj : List Pc → Prop
  | [] => True
  | [_] => True
  | p :: q :: r => p.1 ≠ q.1 ∧ Adj (q :: r)
/-- A plain form. -/
def Pl (ps : List Pc) : Prop := (∀ p ∈ ps, 0 < p.2) ∧ Adj ps

theorem ex_append (a b : List Pc) : ex (a ++ b) = ex a ++ ex b := by
  induction a with
  | nil => rfl
  | cons p a ih => simp only [List.cons_append, ex, ih, List.append_assoc]
theorem ex_one (p : Pc) : ex [p] = List.replicate p.2.toNat p.1 := by simp [ex]
theorem ex_length {ps : List Pc} (h : Nn ps) : ((ex ps).length : Int) = tot ps := by
  induction ps with
  | nil => rfl
  | cons p ps ih =>
    have := ih (fun q hq => h q (by simp [hq]))
    have := h p (by simp)
    simp only [ex, tot, List.length_append, List.length_replicate]; omega
theorem Adj.tail {p : Pc} {r : List Pc} (h : Adj (p :: r)) : Adj r := by
  cases r with
  | nil => trivial
  | cons q r => exact h.2
theorem adj_snoc {q p : Pc} (hne : q.1 ≠ p.1) : ∀ a : List Pc, Adj (a ++ [q]) → Adj (a ++ [q] ++ [p])
  | [], _ => ⟨hne, trivial⟩
  | [_], h => ⟨h.1, hne, trivial⟩
  | _ :: y :: a, h => ⟨h.1, adj_snoc hne (y :: a) h.2⟩
theorem adj_last {q p : Pc} (e : q.1 = p.1) : ∀ a : List Pc, Adj (a ++ [q]) → Adj (a ++ [p])
  | [], _ => trivial
  | [_], h => ⟨by rw [← e]; exact h.1, trivial⟩
  | _ :: y :: a, h => ⟨h.1, adj_last e (y :: a) h.2⟩

theorem pl_nil : Pl [] := ⟨(fun p hp => by cases hp), trivial⟩
theorem pl_behind {acc : List Pc} {p : Pc} (h : Pl acc) (hp : 0 ≤ p.2) : Pl (behind acc p) := by
  by_cases h0 : p.2 = 0
  · rw [behind_zero h0]; exact h
  · rcases snoc_cases acc with rfl | ⟨a, q, rfl⟩
    · rw [behind_nil h0]
      exact ⟨fun r hr => by simp at hr; subst hr; omega, trivial⟩
    · have hq := h.1 q (by simp)
      by_cases e : q.1 = p.1
      · rw [behind_same h0 e]
        refine ⟨fun r hr => ?_, adj_last (q := q) (p := (q.1, q.2 + p.2)) rfl a h.2⟩
        rcases List.mem_append.1 hr with hr | hr
        · exact h.1 r (by simp [hr])
        · simp at hr; subst hr; simp only; omega
      · rw [behind_other h0 e]
        refine ⟨fun r hr => ?_, adj_snoc e a h.2⟩
        rcases List.mem_append.1 hr with hr | hr
        · exact h.1 r hr
        · simp at hr; subst hr; omega
theorem ex_behind {acc : List Pc} {p : Pc} (h : Nn acc) (hp : 0 ≤ p.2) : ex (behind acc p) = ex acc ++ List.replicate p.2.toNat p.1 := by
  by_cases h0 : p.2 = 0
  · rw [behind_zero h0, h0]; simp
  · rcases snoc_cases acc with rfl | ⟨a, q, rfl⟩
    · rw [behind_nil h0, ex_one]; rfl
    · have hq := h q (by simp)
      by_cases e : q.1 = p.1
      · rw [behind_same h0 e, ex_append, ex_append, ex_one, ex_one, List.append_assoc]
        simp only
        rw [← e, show (q.2 + p.2).toNat = q.2.toNat + p.2.toNat by omega, List.replicate_append_replicate]
      · rw [behind_other h0 e, ex_append, ex_one]
theorem pl_plainL {ps : List Pc} (h : Nn ps) : Pl (plainL ps) := by
  induction ps using snoc_ind with
  | h0 => exact pl_nil
  | h1 a p ih => rw [plainL_snoc]; exact pl_behind (ih (fun q hq => h q (by simp [hq]))) (h p (by simp))
theorem ex_plainL {ps : List Pc} (h : Nn ps) : ex (plainL ps) = ex ps := by
  induction ps using snoc_ind with
  | h0 => rfl
  | h1 a p ih =>
    have ha : Nn a := fun q hq => h q (by simp [hq])
    rw [plainL_snoc, ex_behind (nn_plainL ha) (h p (by simp)), ih ha, ex_append, ex_one]
theorem Pl.nn {ps : List Pc} (h : Pl ps) : Nn ps := fun p hp => Int.le_of_lt (h.1 p hp)

theorem ex_head {p : Pc} {r : List Pc} (h : Pl (p :: r)) : ∃ t, ex (p :: r) = p.1 :: t := by
  have := h.1 p (by simp)
  obtain ⟨n, hn⟩ : ∃ n, p.2.toNat = n + 1 := ⟨p.2.toNat - 1, by omega⟩
  exact ⟨List.replicate n p.1 ++ ex r, by simp only [ex, hn, List.replicate_succ, List.cons_append]⟩
theorem Pl.tail {p : Pc} {r : List Pc} (h : Pl (p :: r)) : Pl r := ⟨fun q hq => h.1 q (by simp [hq]), h.2.tail⟩
/-- Behind a plain form's first parcel its label does not come at once. -/
theorem no_more {l : ByteArray} {n : Int} {r : List Pc} (h : Pl ((l, n) :: r)) {m : Nat} {t : List ByteArray} (e : ex r = List.replicate m l ++ t) : m = 0 := by
  cases m with
  | zero => rfl
  | succ m =>
    cases r with
    | nil => simp [ex, List.replicate_succ] at e
    | cons q r =>
      obtain ⟨t', ht⟩ := ex_head h.tail
      rw [ht, List.replicate_succ, List.cons_append] at e
      injection e with e1 _
      exact absurd e1.symm h.2.1
/-- Plain forms that tell the same are the same. -/
theorem pl_unique : ∀ a b : List Pc, Pl a → Pl b → ex a = ex b → a = b
  | [], [], _, _, _ => rfl
  | [], q :: b, _, hb, e => by obtain ⟨t, ht⟩ := ex_head hb; rw [ht] at e; cases e
  | p :: a, [], ha, _, e => by obtain ⟨t, ht⟩ := ex_head ha; rw [ht] at e; cases e
  | (l, n) :: a, (m, k) :: b, ha, hb, e => by
    have hn := ha.1 (l, n) (by simp)
    have hk := hb.1 (m, k) (by simp)
    simp only at hn hk
    have hlm : l = m := by
      obtain ⟨t, ht⟩ := ex_head ha
      obtain ⟨t', ht'⟩ := ex_head hb
      rw [ht, ht'] at e
      injection e
    subst hlm
    simp only [ex] at e
    have hnk : n = k := by
      by_cases h1 : n.toNat ≤ k.toNat
      · obtain ⟨d, hd⟩ : ∃ d, k.toNat = n.toNat + d := ⟨k.toNat - n.toNat, by omega⟩
        rw [hd, ← List.replicate_append_replicate, List.append_assoc] at e
        have := no_more ha (List.append_cancel_left e)
        omega
      · obtain ⟨d, hd⟩ : ∃ d, n.toNat = k.toNat + d := ⟨n.toNat - k.toNat, by omega⟩
        rw [hd, ← List.replicate_append_replicate, List.append_assoc] at e
        have := no_more hb (List.append_cancel_left e).symm
        omega
    subst hnk
    rw [pl_unique a b ha.tail hb.tail (List.append_cancel_left e)]

/-- What is drawn is the first of what is told; what is left is the rest. -/
theorem ex_drawS {v : Int} (hv : 0 ≤ v) {ps : List Pc} (h : Nn ps) :
    (Pl (drawS v ps).1 ∧ Pl (drawS v ps).2.1) ∧ ex (drawS v ps).1 = (ex ps).take v.toNat ∧ ex (drawS v ps).2.1 = (ex ps).drop v.toNat ∧ (drawS v ps).2.2 = max (v - tot ps) 0 := by
  induction ps using snoc_ind with
  | h0 => exact ⟨⟨pl_nil, pl_nil⟩, by simp [drawS, ex], by simp [drawS, ex], by simp only [drawS, List.foldl_nil, tot]; omega⟩
  | h1 a p ih =>
    have ha : Nn a := fun q hq => h q (by simp [hq])
    have hp := h p (by simp)
    obtain ⟨⟨i1, i2⟩, i3, i4, i5⟩ := ih ha
    have hl := ex_length ha
    have ht := tot_nonneg ha
    rw [drawS_snoc, tot_snoc, ex_append, ex_one]
    generalize drawS v a = s at *
    have hs : 0 ≤ s.2.2 := by omega
    simp only [step]
    refine ⟨⟨pl_behind i1 (by simp only; omega), pl_behind i2 (by simp only; omega)⟩, ?_, ?_, by omega⟩
    · rw [ex_behind i1.nn (by simp only; omega), i3, List.take_append, List.take_replicate]
      simp only
      congr 2
      omega
    · rw [ex_behind i2.nn (by simp only; omega), i4, List.drop_append, List.drop_replicate]
      simp only
      congr 2
      omega

/-- What is drawn, and put ahead of what is left, is what was there. -/
theorem draw_put {v : Int} (hv : 0 ≤ v) {ps : List Pc} (h : Nn ps) : plainL ((drawS v ps).1 ++ (drawS v ps).2.1) = plainL ps := by
  obtain ⟨⟨i1, i2⟩, i3, i4, _⟩ := ex_drawS hv h
  have hn := i1.nn.append i2.nn
  refine pl_unique _ _ (pl_plainL hn) (pl_plainL h) ?_
  rw [ex_plainL hn, ex_plainL h, ex_append, i3, i4, List.take_append_drop]
/-- Drawn in two steps it is what one step draws. -/
theorem draw_twice {v u : Int} (hv : 0 ≤ v) (hu : 0 ≤ u) {ps : List Pc} (h : Nn ps) :
    plainL ((drawS v ps).1 ++ (drawS u (drawS v ps).2.1).1) = (drawS (v + u) ps).1 ∧ (drawS u (drawS v ps).2.1).2.1 = (drawS (v + u) ps).2.1 := by
  obtain ⟨⟨i1, i2⟩, i3, i4, _⟩ := ex_drawS hv h
  obtain ⟨⟨j1, j2⟩, j3, j4, _⟩ := ex_drawS hu i2.nn
  obtain ⟨⟨k1, k2⟩, k3, k4, _⟩ := ex_drawS (v := v + u) (by omega) h
  have hn := i1.nn.append j1.nn
  constructor
  · refine pl_unique _ _ (pl_plainL hn) k1 ?_
    rw [ex_plainL hn, ex_append, i3, j3, i4, k3, show (v + u).toNat = v.toNat + u.toNat by omega, List.take_add]
  · refine pl_unique _ _ j2 k2 ?_
    rw [j4, i4, k4, List.drop_drop, show (v + u).toNat = v.toNat + u.toNat by omega]

/-! ### what drawn fluids are refused for: nothing -/
theorem draw_fine {v : Int} (hv : 0 ≤ v) {ps : List Pc} (hr : fref ps = 0) : fref (drawS v ps).1 = 0 ∧ fref (drawS v ps).2.1 = 0 := by
  obtain ⟨h1, h2, h3⟩ := fref_in hr
  have ha := drawS_all (C := fun s => lab s = true) hv (ps := ps) h2.weak
  have ht := tot_drawS v ps
  have hl := length_drawS v ps
  have t1 := tot_nonneg (ps := (drawS v ps).1) (fun q hq => (ha.1 q hq).2)
  have t2 := tot_nonneg (ps := (drawS v ps).2.1) (fun q hq => (ha.2 q hq).2)
  exact ⟨of_fref (by omega) (fine_mk ha.1 (by omega)) (by omega), of_fref (by omega) (fine_mk ha.2 (by omega)) (by omega)⟩

end Go.Proofs.YtjappkfhballhaaGreat.F
