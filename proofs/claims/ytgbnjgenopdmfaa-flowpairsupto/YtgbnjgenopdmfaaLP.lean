/- slices.SortFunc at places, at pairs. -/
import Derived.Test.YtgbnjgenopdmfaaLO
import Derived.Test.YtgbnjgenopdmfaaShelf
namespace Go.Proofs.Ytgbnjgenopdmfaa
open Go.RowKit

theorem grown_of_below {W w' : World} (h : Below W.heap.size W w') (hd : W.drawn ≤ w'.drawn) : ∃ q os, w' = Go.Sort.grow (W.drewN q) os := by
  refine ⟨w'.drawn - W.drawn, w'.heap.extract W.heap.size w'.heap.size, ?_⟩
  obtain ⟨h1, h2, h3, h4, h5⟩ := h
  obtain ⟨heap, tape, drawn, os, output⟩ := w'
  simp only at h1 h2 h3 h4 h5 hd ⊢
  subst h1 h2 h3
  simp only [Go.Sort.grow, World.drewN]
  congr 1
  · apply Array.ext_getElem?
    intro i
    rw [Array.getElem?_append]
    split
    · rename_i hi; exact h5 i hi
    · rename_i hi
      rw [Array.getElem?_extract]
      split
      · congr 1; omega
      · rw [Array.getElem?_eq_none (by omega)]
  · omega
theorem plt_irr (p : Plc) : pltB p p = false := by
  cases h : pltB p p
  · rfl
  · exact absurd rfl (plt_ne h)
theorem plt_nn {p q r : Plc} (h1 : pltB p q = false) (h2 : pltB q r = false) : pltB p r = false := by
  rw [← Bool.not_eq_true, plt_iff] at *
  omega
theorem ltP (x y : Plc) : ltOf cmpP x y = pltB x y := cmpP_lt x y
theorem swoP : Go.Sort.SWO (ltOf cmpP) where
  irrefl x := by rw [ltP]; exact plt_irr _
  trans x y z h1 h2 := by rw [ltP] at *; exact plt_trans h1 h2
  ntrans x y z h1 h2 := by rw [ltP] at *; exact plt_nn h1 h2
theorem rlt_irr (p : Rt) : rltB p p = false := by
  cases h : rltB p p
  · rfl
  · exact absurd rfl (rlt_ne h)
theorem rlt_nn {p q r : Rt} (h1 : rltB p q = false) (h2 : rltB q r = false) : rltB p r = false := by
  cases h : rltB p r with
  | false => rfl
  | true =>
    by_cases e : q = r
    · rw [e] at h1; rw [h1] at h; cases h
    · have h3 := (rlt_total e).resolve_left (by rw [h2]; decide)
      have := rlt_trans h h3
      rw [h1] at this
      cases this
theorem ltR (x y : Rt × Int) : ltOf cmpR x y = rltB x.1 y.1 := cmpR_lt x y
theorem swoR : Go.Sort.SWO (ltOf cmpR) where
  irrefl x := by rw [ltR]; exact rlt_irr _
  trans x y z h1 h2 := by rw [ltR] at *; exact rlt_trans h1 h2
  ntrans x y z h1 h2 := by rw [ltR] at *; exact rlt_nn h1 h2
abbrev encPr : Enc (Rt × Int) := ⟨39, 7, prl⟩
theorem goodPr : Good encPr := ⟨fun _ => rfl, fun x u hu => by simp at hu; rcases hu with rfl | rfl | rfl | rfl | rfl | rfl | rfl <;> rfl⟩
theorem infoPr : (Try.prog.info? 39).map (fun i => (i.zero, i.size, i.bytes)) = some (some (.agg #[.int .i64 0, .int .i64 0, .int .i64 0, .int .i64 0, .int .i64 0, .int .i64 0, .int .i64 0]), 7, 56) := by kernel_rfl
theorem grown_sortP {w : World} {g n : Nat} {d : Array Plc} {os : Array Obj} : w.grownBy (sortWorldK encP.enc 3 w g 0 n d os) (some g) := by
  refine ⟨rfl, rfl, rfl, ?_, fun k hk hne => ?_⟩
  · simp [sortWorldK, Go.Sort.grow, Go.Sort.putRowK, Go.Sort.putRow, Go.Sort.mapBlock, Go.Sort.ahead]
  · have hne' : g ≠ k := fun e => hne (by rw [e])
    simp only [sortWorldK, Go.Sort.grow, Go.Sort.putRowK, Go.Sort.putRow, Go.Sort.mapBlock, Go.Sort.ahead]
    rw [Array.getElem?_append_left (by simp; omega), Array.getElem?_modify, if_neg hne']
theorem en_P : ∀ args w, (callFunc 19 args).run Try.prog w = .ok (.enter 19 args) w := enters_of Try.func19 (by kernel_rfl) rfl
set_option maxHeartbeats 1600000 in
/-- slices.SortFunc at wells of the call's own. -/
theorem sortP_any (base : Nat) (v : Value) (l : List Plc) (w : World) (h : OwnR encP w base v l) (hl : l.length ≤ 1000000000) :
    Calls Try.prog 29 #[v, .func (.func 19) #[] #[]] w fun e w' => e = .returned (.tuple #[]) ∧ (∃ l' ao cap, l'.Perm l ∧ l'.Pairwise (fun x y => pltB y x = false) ∧ v = .slice ao l'.length cap ∧ RdR encP w' ao l') ∧ w.grownBy w' v.ownBlock := by
  by_cases h0 : l = []
  · subst h0
    obtain ⟨ao, cap, rfl⟩ := h.shape
    have := AnyF.slices_SortFunc_none { Try.sort29 with } ao cap (.func (.func 19) #[] #[]) w
    refine Calls.mono (show Calls Try.prog 29 #[.slice ao 0 cap, .func (.func 19) #[] #[]] w _ from this) ?_
    rintro e w' ⟨rfl, rfl⟩
    exact ⟨rfl, ⟨[], ao, cap, List.Perm.refl _, List.Pairwise.nil, rfl, .inl rfl⟩, World.grownBy.refl _ _⟩
  · have h' := h
    rcases h.2 with ⟨h1, h2⟩ | ⟨g, cap, cur, rfl, hb, hg, hn, hm, hs, ht⟩
    · exact absurd (List.eq_nil_of_length_eq_zero h2) h0
    have hlt : g < w.heap.size := (Array.getElem?_eq_some_iff.1 hg).1
    have hH : Go.Sort.HoldsK encP.enc 3 w g 0 l.toArray := by
      intro j hj
      rw [Go.Sort.size_flatK] at hj
      have hj2 : j < l.length * 3 := by simpa using hj
      rw [Go.Sort.get_flatK _ _ _ _ hj, Nat.zero_add]
      refine ⟨?_, World.ownsRow.frozenAt h' j⟩
      rw [World.ownsRow.cellAt h' j (by omega)]
      have := cells_at goodP (ps := l) (k := j / 3) (j := j % 3) (by omega) (by show j % 3 < 3; omega)
      rw [show j / 3 * encP.sz + j % 3 = j from (by show j / 3 * 3 + j % 3 = j; omega)] at this
      rw [this]
      have e : (l.toArray[j / 3]!) = l[j / 3]'(by omega) := by rw [getElem!_pos _ _ (by simp; omega)]; simp
      rw [e]
      generalize l[j / 3]'(by omega) = x
      rcases (show j % 3 = 0 ∨ j % 3 = 1 ∨ j % 3 = 2 by omega) with e | e | e <;> rw [e] <;> rfl
    have := AnyQ.slices_SortFunc Try.sort29 3 Try.isAgg26 Try.sizeOf26 encP.enc (fun _ => rfl) goodP.one cmpP swoP 19 #[] g 0 cap l.toArray w en_P (fun _ _ _ _ x y => (byPlace_any x y _).mono fun _ _ ⟨h1, h2, h3⟩ => ⟨h1, grown_of_below h2 h3⟩) hH hlt (by simp; omega)
    refine Calls.mono (show Calls Try.prog 29 #[.slice (some ⟨g, 0, none⟩) l.length cap, .func (.func 19) #[] #[]] w _ from this) ?_
    rintro e w' ⟨rfl, d', n, os, hp, hsd, rfl⟩
    obtain ⟨hp1, _, hp3⟩ := hp
    have hp4 : d'.toList.Perm l := by
      have e1 : (d'.extract 0 l.toArray.size) = d' := by rw [← hp1]; simp
      have e2 : (l.toArray.extract 0 l.toArray.size) = l.toArray := by simp
      rw [e1, e2] at hp3
      exact hp3
    have hlen : d'.toList.length = l.length := hp4.length_eq
    refine ⟨rfl, ⟨d'.toList, _, cap, hp4, ?_, by rw [hlen], ?_⟩, grown_sortP⟩
    · rw [List.pairwise_iff_getElem]
      intro i j hi hj hij
      have := hsd i j (Nat.zero_le _) hij (by rw [← hp1]; simpa using hj)
      rw [ltP, getElem!_pos _ _ (by simpa using hj), getElem!_pos _ _ (by simpa using hi)] at this
      simpa using this
    · have hH2 := holdsK_sortWorldK_c encP.enc 3 w g 0 l.toArray d' n os hH hlt (by simpa using hp1)
      refine .inr ⟨g, 0, rfl, Nat.lt_of_lt_of_le hlt (grown_sortP (d := d')).size, fun k hk j hj => ?_⟩
      have hj4 : j < 3 := hj
      have hk2 : k < d'.size := by simpa using hk
      have c0 := (hH2.cell (i := k) (c := j) hk2 hj4).1
      have e : d'[k]! = d'.toList[k]'hk := by rw [getElem!_pos d' k hk2]; simp
      rw [e] at c0
      show (sortWorldK encP.enc 3 w g 0 n d' os).cell? ⟨g, 0 + k * 3 + j, none⟩ = _
      rw [c0]
      rcases (show j = 0 ∨ j = 1 ∨ j = 2 by omega) with rfl | rfl | rfl <;> rfl
theorem grown_sortR {w : World} {g n : Nat} {d : Array (Rt × Int)} {os : Array Obj} : w.grownBy (sortWorldK encPr.enc 7 w g 0 n d os) (some g) := by
  refine ⟨rfl, rfl, rfl, ?_, fun k hk hne => ?_⟩
  · simp [sortWorldK, Go.Sort.grow, Go.Sort.putRowK, Go.Sort.putRow, Go.Sort.mapBlock, Go.Sort.ahead]
  · have hne' : g ≠ k := fun e => hne (by rw [e])
    simp only [sortWorldK, Go.Sort.grow, Go.Sort.putRowK, Go.Sort.putRow, Go.Sort.mapBlock, Go.Sort.ahead]
    rw [Array.getElem?_append_left (by simp; omega), Array.getElem?_modify, if_neg hne']
theorem en_R : ∀ args w, (callFunc 16 args).run Try.prog w = .ok (.enter 16 args) w := enters_of Try.func16 (by kernel_rfl) rfl
set_option maxHeartbeats 1600000 in
/-- slices.SortFunc at wells of the call's own. -/
theorem sortR_any (base : Nat) (v : Value) (l : List (Rt × Int)) (w : World) (h : OwnR encPr w base v l) (hl : l.length ≤ 1000000000) :
    Calls Try.prog 15 #[v, .func (.func 16) #[] #[]] w fun e w' => e = .returned (.tuple #[]) ∧ (∃ l' ao cap, l'.Perm l ∧ l'.Pairwise (fun x y => rltB y.1 x.1 = false) ∧ v = .slice ao l'.length cap ∧ RdR encPr w' ao l') ∧ w.grownBy w' v.ownBlock := by
  by_cases h0 : l = []
  · subst h0
    obtain ⟨ao, cap, rfl⟩ := h.shape
    have := AnyF.slices_SortFunc_none { Try.sort15 with } ao cap (.func (.func 16) #[] #[]) w
    refine Calls.mono (show Calls Try.prog 15 #[.slice ao 0 cap, .func (.func 16) #[] #[]] w _ from this) ?_
    rintro e w' ⟨rfl, rfl⟩
    exact ⟨rfl, ⟨[], ao, cap, List.Perm.refl _, List.Pairwise.nil, rfl, .inl rfl⟩, World.grownBy.refl _ _⟩
  · have h' := h
    rcases h.2 with ⟨h1, h2⟩ | ⟨g, cap, cur, rfl, hb, hg, hn, hm, hs, ht⟩
    · exact absurd (List.eq_nil_of_length_eq_zero h2) h0
    have hlt : g < w.heap.size := (Array.getElem?_eq_some_iff.1 hg).1
    have hH : Go.Sort.HoldsK encPr.enc 7 w g 0 l.toArray := by
      intro j hj
      rw [Go.Sort.size_flatK] at hj
      have hj2 : j < l.length * 7 := by simpa using hj
      rw [Go.Sort.get_flatK _ _ _ _ hj, Nat.zero_add]
      refine ⟨?_, World.ownsRow.frozenAt h' j⟩
      rw [World.ownsRow.cellAt h' j (by omega)]
      have := cells_at goodPr (ps := l) (k := j / 7) (j := j % 7) (by omega) (by show j % 7 < 7; omega)
      rw [show j / 7 * encPr.sz + j % 7 = j from (by show j / 7 * 7 + j % 7 = j; omega)] at this
      rw [this]
      have e : (l.toArray[j / 7]!) = l[j / 7]'(by omega) := by rw [getElem!_pos _ _ (by simp; omega)]; simp
      rw [e]
      generalize l[j / 7]'(by omega) = x
      rcases (show j % 7 = 0 ∨ j % 7 = 1 ∨ j % 7 = 2 ∨ j % 7 = 3 ∨ j % 7 = 4 ∨ j % 7 = 5 ∨ j % 7 = 6 by omega) with e | e | e | e | e | e | e <;> rw [e] <;> rfl
    have := AnyQ.slices_SortFunc Try.sort15 7 Try.isAgg39 Try.sizeOf39 encPr.enc (fun _ => rfl) goodPr.one cmpR swoR 16 #[] g 0 cap l.toArray w en_R (fun _ _ _ _ x y => (byRoute_any x y _).mono fun _ _ ⟨h1, h2, h3⟩ => ⟨h1, grown_of_below h2 h3⟩) hH hlt (by simp; omega)
    refine Calls.mono (show Calls Try.prog 15 #[.slice (some ⟨g, 0, none⟩) l.length cap, .func (.func 16) #[] #[]] w _ from this) ?_
    rintro e w' ⟨rfl, d', n, os, hp, hsd, rfl⟩
    obtain ⟨hp1, _, hp3⟩ := hp
    have hp4 : d'.toList.Perm l := by
      have e1 : (d'.extract 0 l.toArray.size) = d' := by rw [← hp1]; simp
      have e2 : (l.toArray.extract 0 l.toArray.size) = l.toArray := by simp
      rw [e1, e2] at hp3
      exact hp3
    have hlen : d'.toList.length = l.length := hp4.length_eq
    refine ⟨rfl, ⟨d'.toList, _, cap, hp4, ?_, by rw [hlen], ?_⟩, grown_sortR⟩
    · rw [List.pairwise_iff_getElem]
      intro i j hi hj hij
      have := hsd i j (Nat.zero_le _) hij (by rw [← hp1]; simpa using hj)
      rw [ltR, getElem!_pos _ _ (by simpa using hj), getElem!_pos _ _ (by simpa using hi)] at this
      simpa using this
    · have hH2 := holdsK_sortWorldK_c encPr.enc 7 w g 0 l.toArray d' n os hH hlt (by simpa using hp1)
      refine .inr ⟨g, 0, rfl, Nat.lt_of_lt_of_le hlt (grown_sortR (d := d')).size, fun k hk j hj => ?_⟩
      have hj4 : j < 7 := hj
      have hk2 : k < d'.size := by simpa using hk
      have c0 := (hH2.cell (i := k) (c := j) hk2 hj4).1
      have e : d'[k]! = d'.toList[k]'hk := by rw [getElem!_pos d' k hk2]; simp
      rw [e] at c0
      show (sortWorldK encPr.enc 7 w g 0 n d' os).cell? ⟨g, 0 + k * 7 + j, none⟩ = _
      rw [c0]
      rcases (show j = 0 ∨ j = 1 ∨ j = 2 ∨ j = 3 ∨ j = 4 ∨ j = 5 ∨ j = 6 by omega) with rfl | rfl | rfl | rfl | rfl | rfl | rfl <;> rfl
end Go.Proofs.Ytgbnjgenopdmfaa
