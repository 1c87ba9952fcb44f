/- slices.SortFunc at wells. -/
import Derived.Test.YtjappkfhballhaaGreatMW
import Derived.Test.YtjappkfhballhaaGreatShelfB
namespace Go.Proofs.YtjappkfhballhaaGreat
open Go.RowKit

theorem grown_of_below {W w' : World} (h : Below W.heap.size W w') (hd : W.drawn ≤ w'.drawn) : ∃ q os, w' = Go.Sort.grow (W.drewN q) os := by
  refine ⟨w'.drawn - W.drawn, w'.heap.extract W.heap.size w'.heap.size, ?_⟩
  obtain ⟨h1, h2, h3, h4, h5⟩ := h
  obtain ⟨heap, tape, drawn, os, output⟩ := w'
  simp only at h1 h2 h3 h4 h5 hd ⊢
  subst h1 h2 h3
  simp only [Go.Sort.grow, World.drewN]
  congr 1
  · apply Array.ext_getElem?
    intro i
    rw [Array.getElem?_append]
    split
    · rename_i hi; exact h5 i hi
    · rename_i hi
      rw [Array.getElem?_extract]
      split
      · congr 1; omega
      · rw [Array.getElem?_eq_none (by omega)]
  · omega
def cmpW (x y : Wh) : Int := cmpP x.1 y.1
theorem ltW (x y : Wh) : ltOf cmpW x y = pltB x.1 y.1 := cmpP_lt x.1 y.1
theorem plt_irr (p : Plc) : pltB p p = false := by
  cases h : pltB p p
  · rfl
  · exact absurd rfl (plt_ne h)
theorem plt_nn {p q r : Plc} (h1 : pltB p q = false) (h2 : pltB q r = false) : pltB p r = false := by
  rw [← Bool.not_eq_true, plt_iff] at *
  omega
theorem swoW : Go.Sort.SWO (ltOf cmpW) where
  irrefl x := by rw [ltW]; exact plt_irr _
  trans x y z h1 h2 := by rw [ltW] at *; exact plt_trans h1 h2
  ntrans x y z h1 h2 := by rw [ltW] at *; exact plt_nn h1 h2
theorem grown_sortWorld {w : World} {g n : Nat} {d : Array Wh} {os : Array Obj} : w.grownBy (sortWorldK encW.enc 4 w g 0 n d os) (some g) := by
  refine ⟨rfl, rfl, rfl, ?_, fun k hk hne => ?_⟩
  · simp [sortWorldK, Go.Sort.grow, Go.Sort.putRowK, Go.Sort.putRow, Go.Sort.mapBlock, Go.Sort.ahead]
  · have hne' : g ≠ k := fun e => hne (by rw [e])
    simp only [sortWorldK, Go.Sort.grow, Go.Sort.putRowK, Go.Sort.putRow, Go.Sort.mapBlock, Go.Sort.ahead]
    rw [Array.getElem?_append_left (by simp; omega), Array.getElem?_modify, if_neg hne']
theorem en73 : ∀ args w, (callFunc 73 args).run Tryz.prog w = .ok (.enter 73 args) w := enters_of Tryz.func73 (by kernel_rfl) rfl
set_option maxHeartbeats 1600000 in
/-- slices.SortFunc at wells of the call's own. -/
theorem sortW_any (base : Nat) (v : Value) (l : List Wh) (w : World) (h : OwnR encW w base v l) (hl : l.length ≤ 4608) :
    Calls Tryz.prog 72 #[v, .func (.func 73) #[] #[]] w fun e w' => e = .returned (.tuple #[]) ∧ (∃ l' ao cap, l'.Perm l ∧ l'.Pairwise (fun x y => pltB y.1 x.1 = false) ∧ v = .slice ao l'.length cap ∧ RdR encW w' ao l') ∧ w.grownBy w' v.ownBlock := by
  by_cases h0 : l = []
  · subst h0
    obtain ⟨ao, cap, rfl⟩ := h.shape
    have := AnyF.slices_SortFunc_none { Tryz.sort72 with } ao cap (.func (.func 73) #[] #[]) w
    refine Calls.mono (show Calls Tryz.prog 72 #[.slice ao 0 cap, .func (.func 73) #[] #[]] w _ from this) ?_
    rintro e w' ⟨rfl, rfl⟩
    exact ⟨rfl, ⟨[], ao, cap, List.Perm.refl _, List.Pairwise.nil, rfl, .inl rfl⟩, World.grownBy.refl _ _⟩
  · have h' := h
    rcases h.2 with ⟨h1, h2⟩ | ⟨g, cap, cur, rfl, hb, hg, hn, hm, hs, ht⟩
    · exact absurd (List.eq_nil_of_length_eq_zero h2) h0
    have hlt : g < w.heap.size := (Array.getElem?_eq_some_iff.1 hg).1
    have hH : Go.Sort.HoldsK encW.enc 4 w g 0 l.toArray := by
      intro j hj
      rw [Go.Sort.size_flatK] at hj
      have hj2 : j < l.length * 4 := by simpa using hj
      rw [Go.Sort.get_flatK _ _ _ _ hj, Nat.zero_add]
      refine ⟨?_, World.ownsRow.frozenAt h' j⟩
      rw [World.ownsRow.cellAt h' j (by omega)]
      have := cells_at goodW (ps := l) (k := j / 4) (j := j % 4) (by omega) (by show j % 4 < 4; omega)
      rw [show j / 4 * encW.sz + j % 4 = j from (by show j / 4 * 4 + j % 4 = j; omega)] at this
      rw [this]
      have e : (l.toArray[j / 4]!) = l[j / 4]'(by omega) := by rw [getElem!_pos _ _ (by simp; omega)]; simp
      rw [e]
      generalize l[j / 4]'(by omega) = x
      rcases (show j % 4 = 0 ∨ j % 4 = 1 ∨ j % 4 = 2 ∨ j % 4 = 3 by omega) with e | e | e | e <;> rw [e] <;> rfl
    have := AnyQ.slices_SortFunc Tryz.sort72 4 Tryz.isAgg59 Tryz.sizeOf59 encW.enc (fun _ => rfl) goodW.one cmpW swoW 73 #[] g 0 cap l.toArray w en73 (fun _ _ _ _ x y => (byPlace_any x y _).mono fun _ _ ⟨h1, h2, h3⟩ => ⟨h1, grown_of_below h2 h3⟩) hH hlt (by simp; omega)
    refine Calls.mono (show Calls Tryz.prog 72 #[.slice (some ⟨g, 0, none⟩) l.length cap, .func (.func 73) #[] #[]] w _ from this) ?_
    rintro e w' ⟨rfl, d', n, os, hp, hsd, rfl⟩
    obtain ⟨hp1, _, hp3⟩ := hp
    have hp4 : d'.toList.Perm l := by
      have e1 : (d'.extract 0 l.toArray.size) = d' := by rw [← hp1]; simp
      have e2 : (l.toArray.extract 0 l.toArray.size) = l.toArray := by simp
      rw [e1, e2] at hp3
      exact hp3
    have hlen : d'.toList.length = l.length := hp4.length_eq
    refine ⟨rfl, ⟨d'.toList, _, cap, hp4, ?_, by rw [hlen], ?_⟩, grown_sortWorld⟩
    · rw [List.pairwise_iff_getElem]
      intro i j hi hj hij
      have := hsd i j (Nat.zero_le _) hij (by rw [← hp1]; simpa using hj)
      rw [ltW, getElem!_pos _ _ (by simpa using hj), getElem!_pos _ _ (by simpa using hi)] at this
      simpa using this
    · have hH2 := holdsK_sortWorldK_c encW.enc 4 w g 0 l.toArray d' n os hH hlt (by simpa using hp1)
      refine .inr ⟨g, 0, rfl, Nat.lt_of_lt_of_le hlt (grown_sortWorld (d := d')).size, fun k hk j hj => ?_⟩
      have hj4 : j < 4 := hj
      have hk2 : k < d'.size := by simpa using hk
      have c0 := (hH2.cell (i := k) (c := j) hk2 hj4).1
      have e : d'[k]! = d'.toList[k]'hk := by rw [getElem!_pos d' k hk2]; simp
      rw [e] at c0
      show (sortWorldK encW.enc 4 w g 0 n d' os).cell? ⟨g, 0 + k * 4 + j, none⟩ = _
      rw [c0]
      rcases (show j = 0 ∨ j = 1 ∨ j = 2 ∨ j = 3 by omega) with rfl | rfl | rfl | rfl <;> rfl
end Go.Proofs.YtjappkfhballhaaGreat
