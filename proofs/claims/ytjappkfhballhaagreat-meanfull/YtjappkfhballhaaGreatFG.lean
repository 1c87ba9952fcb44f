/- maps.Keys, slices.Sorted; fluid.Sorted walked. -/
import Derived.Test.YtjappkfhballhaaGreatFF
import Derived.Test.YtjappkfhballhaaGreatShelf
namespace Go.Proofs.YtjappkfhballhaaGreat.F
open Go.RowKit Go.Maps Go.WideMaps

open Go.RowKit Go.Maps Go.WideMaps

/-- The bytes of a parcel's label. -/
abbrev lb (p : Pc) : List UInt8 := p.1.data.toList
/-- By labels: of each label that has a volume one parcel with all of it, rising. -/
def Srt (ps S : List Pc) : Prop := S.Pairwise (fun p q => lb p < lb q) ∧ ∀ p, p ∈ S ↔ 0 < p.2 ∧ p.2 = sumL ps (lb p)

theorem lt_irrefl' (a : List UInt8) : ¬ a < a := List.lt_irrefl a
theorem lt_asymm' {a b : List UInt8} (h : a < b) : ¬ b < a := fun h2 => List.lt_irrefl a (List.lt_trans h h2)
theorem srt_unique {ps S S' : List Pc} (h : Srt ps S) (h' : Srt ps S') : S = S' := by
  have nd : ∀ {T : List Pc}, T.Pairwise (fun p q => lb p < lb q) → T.Nodup := fun hT => hT.imp fun {a b} hab e => by subst e; exact lt_irrefl' _ hab
  have hp : S.Perm S' := (List.perm_ext_iff_of_nodup (nd h.1) (nd h'.1)).2 fun p => by rw [h.2 p, h'.2 p]
  exact List.Perm.eq_of_pairwise (fun a b _ _ h1 h2 => absurd h2 (lt_asymm' h1)) h.1 h'.1 hp
theorem srt_congr {ps qs S : List Pc} (e : ∀ l, sumL ps l = sumL qs l) (h : Srt ps S) : Srt qs S := ⟨h.1, fun p => by rw [h.2 p, e]⟩

theorem sumL_behind {acc : List Pc} {p : Pc} (l : List UInt8) : sumL (behind acc p) l = sumL acc l + if p.1.data.toList = l then p.2 else 0 := by
  by_cases h0 : p.2 = 0
  · rw [behind_zero h0, h0]; split <;> omega
  · rcases snoc_cases acc with rfl | ⟨a, q, rfl⟩
    · rw [behind_nil h0]; simp [sumL]
    · by_cases e : q.1 = p.1
      · rw [behind_same h0 e, sumL_snoc, sumL_snoc]
        simp only [e]
        split <;> omega
      · rw [behind_other h0 e, sumL_snoc]
theorem sumL_plainL (ps : List Pc) (l : List UInt8) : sumL (plainL ps) l = sumL ps l := by
  induction ps using snoc_ind with
  | h0 => rfl
  | h1 a p ih => rw [plainL_snoc, sumL_behind, ih, sumL_snoc]

/-- Labels of what is sorted are labels of what was there. -/
theorem srt_labels {ps S : List Pc} (hn : Nn ps) (h : Srt ps S) : ∀ p ∈ S, ∃ q ∈ ps, q.1 = p.1 := fun p hp => by
  obtain ⟨h0, h1⟩ := (h.2 p).1 hp
  obtain ⟨q, hq, e, _⟩ := (sumL_pos hn (lb p)).1 (by omega)
  exact ⟨q, hq, ByteArray.ext (Array.ext' e)⟩

/-- The parcel of a label. -/
def pcOf (ps : List Pc) (l : List UInt8) : Pc := (⟨l.toArray⟩, sumL ps l)
theorem lb_pcOf (ps : List Pc) (l : List UInt8) : lb (pcOf ps l) = l := by simp [lb, pcOf]
theorem srt_of {ps : List Pc} {K : List (List UInt8)} (hK : K.Pairwise (· < ·)) (hm : ∀ l, l ∈ K ↔ 0 < sumL ps l) : Srt ps (K.map (pcOf ps)) := by
  refine ⟨List.pairwise_map.2 (hK.imp fun {a b} h => by rw [lb_pcOf, lb_pcOf]; exact h), fun p => ?_⟩
  rw [List.mem_map]
  constructor
  · rintro ⟨l, hl, rfl⟩
    rw [lb_pcOf]
    exact ⟨(hm l).1 hl, rfl⟩
  · rintro ⟨h0, h1⟩
    refine ⟨lb p, (hm _).2 (by omega), ?_⟩
    obtain ⟨s, n⟩ := p
    simp only [lb, pcOf] at h1 ⊢
    rw [← h1]

/-- A map's keys: none twice; those that it has. -/
theorem keys_spec {w : World} {b n : Nat} {D : DataW Unit} (hown : w.ownsMap Tryz.prog 9 (plainElem Tryz.prog 3) b n D) : (strKeys D).Nodup ∧ (∀ x, x ∈ strKeys D ↔ has D (.string x) = true) ∧ (strKeys D).length ≤ n ∧ Maps.size D ≤ n := by
  have hlen : Maps.size D ≤ n := by
    obtain ⟨es, clock, _, _, hs, rfl⟩ := hown
    rw [Maps.size_eq, length_sorted]
    simpa using hs
  obtain ⟨es, hD, hpw, _⟩ := hown.entries law
  obtain ⟨es', hD', hko⟩ := hown.keysOf
  obtain rfl : es = es' := by rw [hD] at hD'; simpa using hD'
  subst hD
  have hk : ∀ p ∈ es, ∃ x, p.1 = .string x := fun p hp => by obtain ⟨v, hv⟩ := hko p hp; obtain ⟨x, _, hx, _⟩ := Maps.keyOf_str Tryz.underlying9 hv; exact ⟨x, hx⟩
  refine ⟨?_, fun x => ?_, ?_, hlen⟩
  · refine List.pairwise_map.2 (hpw.imp_of_mem fun {p q} hp' hq' hne e => hne ?_)
    obtain ⟨a, ha⟩ := hk p hp'
    obtain ⟨b, hb⟩ := hk q hq'
    rw [ha, hb] at e ⊢
    exact congrArg _ e
  · rw [has_eq, List.any_eq_true]
    show x ∈ es.map (fun p => strOf p.1) ↔ _
    rw [List.mem_map]
    constructor
    · rintro ⟨p, hp', rfl⟩
      obtain ⟨a, ha⟩ := hk p hp'
      exact ⟨p, hp', by rw [ha]; simp [Lit.sameKey, strOf]⟩
    · rintro ⟨p, hp', hs⟩
      obtain ⟨a, ha⟩ := hk p hp'
      rw [ha] at hs
      exact ⟨p, hp', by rw [ha]; simpa [Lit.sameKey, strOf] using hs⟩
  · show (es.map (fun p => strOf p.1)).length ≤ n
    rw [List.length_map]
    exact hlen
/-- The keys, sorted. -/
theorem sorted_keys {ps : List Pc} {D : DataW Unit} (hv : Vols D ps) (hn : (strKeys D).Nodup) (hm : ∀ x, x ∈ strKeys D ↔ has D (.string x) = true) {ss : List (List UInt8)} (hp : ss.Perm (strKeys D)) :
    Srt ps ((ss.mergeSort (fun x y => decide (x ≤ y))).map (pcOf ps)) := by
  have hpm := (List.mergeSort_perm ss leB).trans hp
  have tr : ∀ a b c : List UInt8, leB a b = true → leB b c = true → leB a c = true := fun a b c h1 h2 => by simp only [leB, decide_eq_true_eq] at *; exact List.le_trans h1 h2
  have to : ∀ a b : List UInt8, (leB a b || leB b a) = true := fun a b => by simp only [leB, Bool.or_eq_true, decide_eq_true_eq]; exact List.le_total a b
  have hsorted := List.pairwise_mergeSort tr to ss
  have hnd : (ss.mergeSort leB).Nodup := (List.Perm.nodup_iff hpm).2 hn
  refine srt_of (List.Pairwise.imp_of_mem (R := fun a b => leB a b = true ∧ a ≠ b) (fun {a b} _ _ h => ?_) (hsorted.and hnd)) fun l => ?_
  · have h1 : a ≤ b := by simpa [leB] using h.1
    exact Decidable.byContradiction fun hn => h.2 (List.le_antisymm h1 (List.not_lt.1 hn))
  · rw [hpm.mem_iff, hm l, hv.2.2 l, decide_eq_true_eq]

end Go.Proofs.YtjappkfhballhaaGreat.F
