import Derived.Test.YtgbnjgenopdmfaaGreatKf

/- What mean does, plainly: what may be stays so, and nothing is lost. -/
namespace Go.Proofs.YtgbnjgenopdmfaaGreat
open Go.RowKit F
theorem pl_same {f : List Pc} (h : F.Pl f) : plainL f = f := pl_unique _ _ (pl_plainL h.nn) h (ex_plainL h.nn)
theorem mayHold_iff {f : List Pc} {m : Int} : mayHold f m = true ↔ fref f = 0 ∧ plainL f = f ∧ tot f ≤ m := by simp [mayHold, and_assoc]
theorem pl_of {f : List Pc} (hr : fref f = 0) (h : plainL f = f) : F.Pl f := by rw [← h]; exact pl_plainL (fref_in hr).2.1.nn
/-! ### put together -/
theorem togR_ok {f g : List Pc} {m : Int} (h : (togR f g m).2 = 0) :
    fref f = 0 ∧ fref g = 0 ∧ tot f + tot g ≤ m ∧ (togR f g m).1 = plainL (f ++ g) ∧ (plainL (f ++ g)).length ≤ 100 ∧ tot f + tot g ≤ 1000000000 := by
  unfold togR at h ⊢
  split at h
  · simp at h
  · rename_i hm
    rw [if_neg hm]
    unfold putR at h ⊢
    split at h
    · rename_i hf
      split at h
      · rename_i hg
        split at h
        · simp at h
        · rename_i ht
          split at h
          · simp at h
          · rename_i hl
            rw [if_pos hf, if_pos hg, if_neg ht, if_neg hl]
            simp only [totR, if_pos hf, if_pos hg] at hm
            exact ⟨hf, hg, by omega, rfl, by omega, by omega⟩
      · rename_i hg; exact absurd h hg
    · rename_i hf; exact absurd h hf
theorem fref_plain {f g : List Pc} (hf : fref f = 0) (hg : fref g = 0) (hl : (plainL (f ++ g)).length ≤ 100) (ht : tot f + tot g ≤ 1000000000) : fref (plainL (f ++ g)) = 0 := by
  have h1 := fine_append (fref_in hf).2.1 (fref_in hg).2.1
  have e : tot (f ++ g) ≤ 1000000000 := by rw [tot_append]; exact ht
  exact of_fref hl (fine_plainL h1 e) (by rw [tot_plainL]; exact e)
theorem mayHold_tog {f g : List Pc} {m : Int} (h : (togR f g m).2 = 0) : mayHold (togR f g m).1 m = true := by
  obtain ⟨hf, hg, hm, e, hl, ht⟩ := togR_ok h
  rw [e, mayHold_iff]
  have h1 := fine_append (fref_in hf).2.1 (fref_in hg).2.1
  exact ⟨fref_plain hf hg hl ht, pl_same (pl_plainL h1.nn), by rw [tot_plainL, tot_append]; exact hm⟩
theorem tot_tog {f g : List Pc} {m : Int} (h : (togR f g m).2 = 0) : tot (togR f g m).1 = tot f + tot g := by
  obtain ⟨_, _, _, e, _, _⟩ := togR_ok h
  rw [e, tot_plainL, tot_append]

/-! ### drawn -/
theorem drawF_ok {v : Int} {f : List Pc} (h : (drawF v f).2.2 = 0) : fref f = 0 ∧ 0 ≤ v ∧ v ≤ tot f ∧ (drawF v f).1 = (drawS v f).1 ∧ (drawF v f).2.1 = (drawS v f).2.1 := by
  unfold drawF at h ⊢
  split at h
  · rename_i hf
    split at h
    · simp at h
    · rename_i hv
      split at h
      · simp at h
      · rename_i ht
        rw [if_pos hf, if_neg hv, if_neg ht]
        exact ⟨hf, by omega, by omega, rfl, rfl⟩
  · rename_i hf; exact absurd h hf
theorem tot_drawF {v : Int} {f : List Pc} (h : (drawF v f).2.2 = 0) : tot (drawF v f).1 = v ∧ tot (drawF v f).2.1 = tot f - v := by
  obtain ⟨hf, h0, h1, e1, e2⟩ := drawF_ok h
  rw [e1, e2]
  have h2 := tot_drawS v f
  have h3 := drawS_enough h0 (fref_in hf).2.1.nn h1
  omega
theorem mayHold_left {v m : Int} {f : List Pc} (h : (drawF v f).2.2 = 0) (hm : mayHold f m = true) : mayHold (drawF v f).2.1 m = true := by
  have ht := tot_drawF h
  obtain ⟨hf, h0, h1, e1, e2⟩ := drawF_ok h
  rw [mayHold_iff] at hm
  rw [mayHold_iff, ht.2, e2]
  exact ⟨(draw_fine h0 hf).2, pl_same (ex_drawS h0 (fref_in hf).2.1.nn).1.2, by omega⟩

/-! ### labels -/
theorem ba_ext {a b : ByteArray} (h : a.data.toList = b.data.toList) : a = b := ByteArray.ext (Array.ext' h)
theorem ltT_iff {a b : ByteArray} : ltT a b = true ↔ a.data.toList < b.data.toList := by simp [ltT]
theorem ltT_trans {a b c : ByteArray} (h : ltT a b = true) (h2 : ltT b c = true) : ltT a c = true := by
  rw [ltT_iff] at *
  exact List.lt_trans h h2
theorem ltT_ne {a b : ByteArray} (h : ltT a b = true) : a ≠ b := by
  rintro rfl
  rw [ltT_iff] at h
  exact List.lt_irrefl _ h
theorem ltT_total {a b : ByteArray} (hne : a ≠ b) (h : ¬ ltT a b = true) : ltT b a = true := by
  rw [ltT_iff] at *
  exact Decidable.byContradiction fun hn => hne (ba_ext (List.le_antisymm (List.not_lt.1 hn) (List.not_lt.1 h)))
theorem mem_insT {x y : ByteArray} {l : List ByteArray} : x ∈ insT y l ↔ x = y ∨ x ∈ l := by
  induction l with
  | nil => simp [insT]
  | cons z r ih =>
    unfold insT
    split
    · simp
    · split
      · rename_i e
        subst e
        simp
      · rw [List.mem_cons, ih, List.mem_cons]
        constructor
        · rintro (h | h | h)
          · exact .inr (.inl h)
          · exact .inl h
          · exact .inr (.inr h)
        · rintro (h | h | h)
          · exact .inr (.inl h)
          · exact .inl h
          · exact .inr (.inr h)
def RisT (t : List ByteArray) : Prop := t.Pairwise fun a b => ltT a b = true
theorem risT_insT {x : ByteArray} {l : List ByteArray} (h : RisT l) : RisT (insT x l) := by
  induction l with
  | nil => simp [insT, RisT]
  | cons z r ih =>
    obtain ⟨h1, h2⟩ := List.pairwise_cons.1 h
    unfold insT
    split
    · rename_i hlt
      refine List.pairwise_cons.2 ⟨fun y hy => ?_, h⟩
      rcases List.mem_cons.1 hy with rfl | hy
      · exact hlt
      · exact ltT_trans hlt (h1 y hy)
    · rename_i hlt
      split
      · exact h
      · rename_i hne
        refine List.pairwise_cons.2 ⟨fun y hy => ?_, ih h2⟩
        rcases mem_insT.1 hy with rfl | hy
        · exact ltT_total hne hlt
        · exact h1 y hy
theorem length_insT (x : ByteArray) (l : List ByteArray) : (insT x l).length ≤ l.length + 1 := by
  induction l with
  | nil => simp [insT]
  | cons z r ih =>
    unfold insT
    split
    · simp
    · split
      · simp
      · simp; omega
theorem mem_labsR {x : ByteArray} {f : List Pc} : x ∈ labsR f ↔ ∃ p ∈ f, p.1 = x ∧ 0 < p.2 := by
  induction f with
  | nil => simp [labsR]
  | cons p r ih =>
    unfold labsR
    split
    · rename_i h
      rw [mem_insT, ih]
      constructor
      · rintro (rfl | ⟨q, hq, e⟩)
        · exact ⟨p, by simp, rfl, h⟩
        · exact ⟨q, by simp [hq], e⟩
      · rintro ⟨q, hq, e, h2⟩
        rcases List.mem_cons.1 hq with rfl | hq
        · exact .inl e.symm
        · exact .inr ⟨q, hq, e, h2⟩
    · rename_i h
      rw [ih]
      constructor
      · rintro ⟨q, hq, e⟩
        exact ⟨q, by simp [hq], e⟩
      · rintro ⟨q, hq, e, h2⟩
        rcases List.mem_cons.1 hq with rfl | hq
        · exact absurd h2 h
        · exact ⟨q, hq, e, h2⟩
theorem risT_labsR (f : List Pc) : RisT (labsR f) := by
  induction f with
  | nil => simp [labsR, RisT]
  | cons p r ih =>
    unfold labsR
    split
    · exact risT_insT ih
    · exact ih
theorem length_labsR (f : List Pc) : (labsR f).length ≤ f.length := by
  induction f with
  | nil => simp [labsR]
  | cons p r ih =>
    unfold labsR
    split
    · have := length_insT p.1 (labsR r)
      simp; omega
    · simp; omega
theorem risT_unique {a b : List ByteArray} (ha : RisT a) (hb : RisT b) (h : ∀ x, x ∈ a ↔ x ∈ b) : a = b := by
  have nd : ∀ {T : List ByteArray}, RisT T → T.Nodup := fun hT => List.Pairwise.imp (fun {x y} hxy => ltT_ne hxy) hT
  have hp : a.Perm b := (List.perm_ext_iff_of_nodup (nd ha) (nd hb)).2 h
  exact List.Perm.eq_of_pairwise (fun x y _ _ h1 h2 => absurd rfl (ltT_ne (ltT_trans h1 h2))) ha hb hp
/-- What is sorted by labels tells them. -/
theorem srt_labs {f S : List Pc} (hn : F.Nn f) (h : Srt f S) : S.map (·.1) = labsR f := by
  refine risT_unique ?_ (risT_labsR f) fun x => ?_
  · exact List.pairwise_map.2 (h.1.imp fun {a b} hab => ltT_iff.2 hab)
  · rw [mem_labsR, List.mem_map]
    constructor
    · rintro ⟨p, hp, rfl⟩
      obtain ⟨h0, h1⟩ := (h.2 p).1 hp
      obtain ⟨q, hq, e, h2⟩ := (sumL_pos hn (lb p)).1 (by omega)
      exact ⟨q, hq, ba_ext e, h2⟩
    · rintro ⟨p, hp, rfl, h0⟩
      have h1 := (sumL_pos hn (lb p)).2 ⟨p, hp, rfl, h0⟩
      exact ⟨(p.1, sumL f (lb p)), (h.2 _).2 ⟨h1, rfl⟩, rfl⟩
theorem wthn_iff {f g : List Pc} (hg : F.Nn g) : wthn f g = true ↔ ∀ p ∈ f, 0 < p.2 → ∃ q ∈ g, q.1 = p.1 ∧ 0 < q.2 := by
  unfold wthn
  rw [List.all_eq_true]
  constructor
  · intro h p hp h0
    have := h p hp
    simp only [Bool.or_eq_true, decide_eq_true_eq] at this
    obtain ⟨q, hq, e, h2⟩ := (sumL_pos hg p.1.data.toList).1 (by omega)
    exact ⟨q, hq, ba_ext e, h2⟩
  · intro h p hp
    simp only [Bool.or_eq_true, decide_eq_true_eq]
    by_cases h0 : 0 < p.2
    · obtain ⟨q, hq, e, h2⟩ := h p hp h0
      exact .inr ((sumL_pos hg p.1.data.toList).2 ⟨q, hq, by rw [e], h2⟩)
    · exact .inl (by omega)
theorem drops_nn (t : List ByteArray) : F.Nn (drops t) := fun p hp => by
  obtain ⟨x, _, rfl⟩ := List.mem_map.1 hp
  simp
theorem tot_drops (t : List ByteArray) : tot (drops t) = t.length := by
  induction t with
  | nil => rfl
  | cons x t ih =>
    have : drops (x :: t) = (x, 1) :: drops t := rfl
    rw [this]
    simp only [tot, ih, List.length_cons]
    omega
theorem fref_drops {t : List ByteArray} (hl : t.length ≤ 100) (h : ∀ x ∈ t, lab x = true) : fref (drops t) = 0 := by
  refine of_fref (by simpa [drops] using hl) (fun p hp => ?_) (by rw [tot_drops]; omega)
  obtain ⟨x, hx, rfl⟩ := List.mem_map.1 hp
  exact ⟨h x hx, by simp, by simp⟩
theorem withR_iff {f g : List Pc} : (withR f g).1 = true ↔ fref f = 0 ∧ fref g = 0 ∧ wthn f g = true := by
  unfold withR
  split
  · rename_i h1
    split
    · rename_i h2; simp [h1, h2]
    · rename_i h2; simp [h1, h2]
  · rename_i h1; simp [h1]
theorem mem_drops {t : List ByteArray} {p : Pc} : p ∈ drops t ↔ p.1 ∈ t ∧ p.2 = 1 := by
  unfold drops
  rw [List.mem_map]
  constructor
  · rintro ⟨x, hx, rfl⟩; exact ⟨hx, rfl⟩
  · rintro ⟨hx, e⟩; exact ⟨p.1, hx, by rw [← e]⟩
theorem mayTouch_iff {t : List ByteArray} {h : List Pc} : mayTouch t h = true ↔ t.length ≤ 100 ∧ RisT t ∧ (withR h (drops t)).1 = true := by
  simp [mayTouch, and_assoc, RisT]

/-! ### what may be -/
structure May (l : List Sit) (s : Sta) : Prop where
  wells : ∀ x ∈ s.wells, (wellM l x.1).2 = 0 ∧ x.2 ≠ [] ∧ mayHold x.2 (wellM l x.1).1 = true
  rising : Rising s.wells
  take : mayTake l s = true
  heat : 0 ≤ s.heat ∧ s.heat ≤ 1000000000
  clock : 0 ≤ s.clock ∧ s.clock ≤ 1000000000
theorem mayB_iff {l : List Sit} {s : Sta} : mayB l s = true ↔ May l s := by
  unfold mayB mayFill
  simp only [Bool.and_eq_true, List.all_eq_true, decide_eq_true_eq, inR_iff]
  constructor
  · rintro ⟨⟨h1, h2⟩, h3, h4, h5⟩
    refine ⟨fun x hx => ?_, h2, h3, h4, h5⟩
    have := h1 x hx
    simp only [wellOk, Bool.and_eq_true, decide_eq_true_eq, and_assoc] at this
    exact this
  · rintro ⟨h1, h2, h3, h4, h5⟩
    refine ⟨⟨fun x hx => ?_, h2⟩, h3, h4, h5⟩
    simp only [wellOk, Bool.and_eq_true, decide_eq_true_eq, and_assoc]
    exact h1 x hx
theorem May.well {l : List Sit} {s : Sta} (h : May l s) (p : Plc) (h0 : 0 ≤ (wellM l p).1) : mayHold (wellF s.wells p) (wellM l p).1 = true := by
  rcases wellF_cases s.wells p with ⟨_, e⟩ | ⟨f, hf, e⟩
  · rw [e, mayHold_iff]
    exact ⟨by decide, rfl, h0⟩
  · rw [e]
    exact (h.wells _ hf).2.2
/-- A well set: the others as they were. -/
theorem wells_wset {l : List Sit} {ws : Wls} {p : Plc} {f : List Pc} (h : ∀ x ∈ ws, (wellM l x.1).2 = 0 ∧ x.2 ≠ [] ∧ mayHold x.2 (wellM l x.1).1 = true)
    (hm : (wellM l p).2 = 0) (hf : mayHold f (wellM l p).1 = true) : ∀ x ∈ wset ws p f, (wellM l x.1).2 = 0 ∧ x.2 ≠ [] ∧ mayHold x.2 (wellM l x.1).1 = true := by
  intro x hx
  rcases mem_wset.1 hx with ⟨rfl, hne⟩ | ⟨hx, _⟩
  · exact ⟨hm, hne, hf⟩
  · exact h x hx
theorem aimR_ok {l : List Sit} {a : Acn} (h : (aimR l a).2 = 0) : (wellM l a.pl).2 = 0 ∧ (aimR l a).1 = (wellM l a.pl).1 ∧ 1 ≤ a.vol ∧ a.vol ≤ 1000000000 := by
  unfold aimR at h ⊢
  split at h
  · rename_i h1
    split at h
    · rename_i h2
      rw [if_pos h1, if_pos h2]
      exact ⟨h1, rfl, (inR_iff.1 h2).1, (inR_iff.1 h2).2⟩
    · simp at h
  · rename_i h1; exact absurd h h1
theorem seatOf_in {l : List Sit} {n : Int} {s : Sit} (h : seatOf l n = some s) : s ∈ l ∧ s.slot = n :=
  ⟨List.mem_of_find?_eq_some h, by simpa using List.find?_some h⟩
theorem chk_cap {a : Wr} (h : chk a = 0) : 0 ≤ a.cap ∧ a.cap ≤ 1000000000 := by
  have h1 := (chk_in h).2.2.2.2.1
  simp only [rangeOk, Bool.and_eq_true] at h1
  have h2 := h1.2
  simp only [List.all_cons, List.all_nil, Bool.and_true, inR_iff] at h2
  have h3 : 0 ≤ loC a := by unfold loC; split <;> decide
  have h4 : hiC a ≤ 1000000000 := by unfold hiC; split <;> decide
  omega
theorem dchk_ware {l : List Sit} (hd : dchk l = 0) {s : Sit} (hs : s ∈ l) : chk s.ware = 0 ∧ 1 ≤ s.slot ∧ s.slot ≤ 12 := by
  obtain ⟨k, hk, rfl⟩ := List.mem_iff_getElem.1 hs
  obtain ⟨h1, h2, _⟩ := (dchk_in hd).2 k hk
  exact ⟨h2, (plc_in h1).1, (plc_in h1).2.1⟩
theorem wareOf_in {l : List Sit} {p : Plc} {a : Wr} (h : wareOf l p = some a) : ∃ s ∈ l, s.slot = p.1 ∧ s.ware = a ∧ spotOk p.2.1 p.2.2 a.rows a.cols = true := by
  unfold wareOf at h
  split at h
  · rename_i s hs
    split at h
    · rename_i hsp
      injection h with h
      subst h
      exact ⟨s, (seatOf_in hs).1, (seatOf_in hs).2, rfl, hsp⟩
    · cases h
  · cases h
theorem wellM_in {l : List Sit} (hd : dchk l = 0) (p : Plc) : 0 ≤ (wellM l p).1 ∧ (wellM l p).1 ≤ 1000000000 := by
  unfold wellM
  split
  · rename_i a ha
    split
    · obtain ⟨s, hs, _, rfl, _⟩ := wareOf_in ha
      exact chk_cap (dchk_ware hd hs).1
    · simp
  · simp
theorem tipM_in {l : List Sit} (hd : dchk l = 0) : 0 ≤ tipM l ∧ tipM l ≤ 1000000000 := by
  unfold tipM
  split
  · simp
  · split
    · rename_i a ha
      obtain ⟨s, hs, _, rfl, _⟩ := wareOf_in ha
      exact chk_cap (dchk_ware hd hs).1
    · simp
theorem mayHold_nil {m : Int} (h : 0 ≤ m) : mayHold [] m = true := by
  rw [mayHold_iff]
  exact ⟨by decide, rfl, h⟩
theorem mayTouch_nil : mayTouch [] [] = true := by decide

/-! ### an action leaves what may be -/
theorem may_fill {l : List Sit} {s : Sta} {a : Acn} (h : May l s) (h0 : (fillA l s a).2 = 0) :
    May l (fillA l s a).1 ∧ liq (fillA l s a).1.wells = liq s.wells + a.vol ∧ (fillA l s a).1.held = s.held ∧ (fillA l s a).1.used = s.used ∧ (fillA l s a).1.clock = s.clock := by
  unfold fillA at h0 ⊢
  split at h0
  · rename_i h1; exact absurd h0 h1
  · rename_i h1
    split at h0
    · rename_i h2; exact absurd h0 h2
    · rename_i h2
      split at h0
      · rename_i h3; exact absurd h0 h3
      · rename_i h3
        rw [if_neg h1, if_neg h2, if_neg h3]
        have h3' := Decidable.not_not.1 h3
        obtain ⟨a1, a2, _, _⟩ := aimR_ok (Decidable.not_not.1 h1)
        have hh := mayHold_tog h3'
        refine ⟨⟨wells_wset h.wells a1 (by rw [← a2]; exact hh), rising_wset h.rising _ _, h.take, h.heat, h.clock⟩, ?_, rfl, rfl, rfl⟩
        rw [liq_wset h.rising, tot_tog h3']
        simp only [tot]
        omega
theorem may_tip {l : List Sit} {s : Sta} (hd : dchk l = 0) (h : May l s) (h0 : (tipA l s).2 = 0) :
    May l (tipA l s).1 ∧ (tipA l s).1.wells = s.wells ∧ (tipA l s).1.held = s.held ∧ (tipA l s).1.used = s.used + 1 ∧ (tipA l s).1.clock = s.clock := by
  unfold tipA at h0 ⊢
  split at h0
  · simp at h0
  · rename_i h1
    split at h0
    · simp at h0
    · rename_i h2
      rw [if_neg h1, if_neg h2]
      have ht := h.take
      unfold mayTake at ht
      rw [if_neg h1] at ht
      simp only [Bool.and_eq_true, decide_eq_true_eq, inR_iff] at ht
      obtain ⟨⟨u0, u1⟩, e1, e2⟩ := ht
      refine ⟨⟨h.wells, h.rising, ?_, h.heat, h.clock⟩, rfl, rfl, rfl, rfl⟩
      unfold mayTake
      simp only [if_true, Bool.and_eq_true, inR_iff]
      refine ⟨⟨by omega, by omega⟩, ?_, ?_⟩
      · rw [e1]; exact mayHold_nil (tipM_in hd).1
      · rw [e1, e2]; exact mayTouch_nil
theorem may_drop {l : List Sit} {s : Sta} (h : May l s) (h0 : (dropA s).2 = 0) :
    May l (dropA s).1 ∧ (dropA s).1.wells = s.wells ∧ (dropA s).1.held = [] ∧ (dropA s).1.used = s.used ∧ (dropA s).1.clock = s.clock ∧ (dropA s).1.tip = false := by
  unfold dropA at h0 ⊢
  split at h0
  · rename_i h1
    rw [if_pos h1]
    have ht := h.take
    unfold mayTake at ht
    rw [if_pos h1] at ht
    simp only [Bool.and_eq_true, inR_iff] at ht
    refine ⟨⟨h.wells, h.rising, ?_, h.heat, h.clock⟩, rfl, rfl, rfl, rfl, rfl⟩
    unfold mayTake
    simp only [Bool.false_eq_true, if_false, Bool.and_eq_true, decide_eq_true_eq, inR_iff]
    exact ⟨⟨by omega, by omega⟩, trivial, trivial⟩
  · simp at h0
theorem tip_parts {l : List Sit} {s : Sta} (h : May l s) (ht : s.tip = true) : 1 ≤ s.used ∧ s.used ≤ (tipsL l).length ∧ mayHold s.held (tipM l) = true ∧ mayTouch s.touched s.held = true := by
  have := h.take
  unfold mayTake at this
  rw [if_pos ht] at this
  simp only [Bool.and_eq_true, inR_iff] at this
  exact ⟨this.1.1, this.1.2, this.2.1, this.2.2⟩
theorem take_of {l : List Sit} {s : Sta} (ht : s.tip = true) (h1 : 1 ≤ s.used) (h2 : s.used ≤ (tipsL l).length) (h3 : mayHold s.held (tipM l) = true) (h4 : mayTouch s.touched s.held = true) : mayTake l s = true := by
  unfold mayTake
  rw [if_pos ht]
  simp only [Bool.and_eq_true, inR_iff]
  exact ⟨⟨h1, h2⟩, h3, h4⟩
theorem may_draw {l : List Sit} {s : Sta} {a : Acn} (hd : dchk l = 0) (h : May l s) (h0 : (drawA l s a).2 = 0) :
    May l (drawA l s a).1 ∧ liq (drawA l s a).1.wells + tot (drawA l s a).1.held = liq s.wells + tot s.held ∧ (drawA l s a).1.used = s.used ∧ (drawA l s a).1.clock = s.clock := by
  unfold drawA at h0 ⊢
  split at h0
  · rename_i h1; exact absurd h0 h1
  · rename_i h1
    split at h0
    · simp at h0
    · rename_i h2
      split at h0
      · rename_i h3; exact absurd h0 h3
      · rename_i h3
        split at h0
        · simp at h0
        · rename_i h4
          split at h0
          · rename_i h5; exact absurd h0 h5
          · rename_i h5
            rw [if_neg h1, if_neg h2, if_neg h3, if_neg h4, if_neg h5]
            have h3' := Decidable.not_not.1 h3
            have h4' : (withR (drops s.touched) (wellF s.wells a.pl)).1 = true := by simpa using h4
            have h5' := Decidable.not_not.1 h5
            have ht : s.tip = true := by simpa using h2
            obtain ⟨a1, a2, _, _⟩ := aimR_ok (Decidable.not_not.1 h1)
            have hw := h.well a.pl (wellM_in hd a.pl).1
            obtain ⟨u1, u2, u3, u4⟩ := tip_parts h ht
            obtain ⟨d1, d2, d3, d4, d5⟩ := drawF_ok h3'
            have td := tot_drawF h3'
            obtain ⟨t1, t2, t3, t4, t5, t6⟩ := togR_ok h5'
            obtain ⟨m1, m2, m3⟩ := mayTouch_iff.1 u4
            obtain ⟨n1, n2, n3⟩ := withR_iff.1 m3
            obtain ⟨k1, k2, k3⟩ := withR_iff.1 h4'
            have hpl := pl_of (mayHold_iff.1 hw).1 (mayHold_iff.1 hw).2.1
            refine ⟨⟨wells_wset h.wells a1 (mayHold_left h3' hw), rising_wset h.rising _ _, ?_, h.heat, h.clock⟩, ?_, rfl, rfl⟩
            · refine take_of ht u1 u2 (mayHold_tog h5') (mayTouch_iff.2 ⟨?_, risT_labsR _, withR_iff.2 ⟨?_, ?_, ?_⟩⟩)
              · have := length_labsR (wellF s.wells a.pl)
                have := (fref_in d1).1
                simp only
                omega
              · exact (mayHold_iff.1 (mayHold_tog h5')).1
              · refine fref_drops (by have := length_labsR (wellF s.wells a.pl); have := (fref_in d1).1; simp only; omega) fun x hx => ?_
                obtain ⟨p, hp, rfl, _⟩ := mem_labsR.1 hx
                exact ((fref_in d1).2.1 p hp).1
              · rw [wthn_iff (drops_nn _)]
                intro p hp hp0
                have hall : ∀ q ∈ s.held ++ (drawF a.vol (wellF s.wells a.pl)).1, (∃ r ∈ wellF s.wells a.pl, r.1 = q.1 ∧ 0 < r.2) ∧ 0 ≤ q.2 := by
                  intro q hq
                  rcases List.mem_append.1 hq with hq | hq
                  · have hp1 := pl_of (mayHold_iff.1 u3).1 (mayHold_iff.1 u3).2.1
                    have q0 := hp1.1 q hq
                    obtain ⟨r, hr, e, _⟩ := (wthn_iff (drops_nn _)).1 n3 q hq q0
                    obtain ⟨r', hr', e', h'⟩ := (wthn_iff hpl.nn).1 k3 r hr (by rw [(mem_drops.1 hr).2]; decide)
                    exact ⟨⟨r', hr', by rw [e', e], h'⟩, Int.le_of_lt q0⟩
                  · rw [d4] at hq
                    exact (drawS_all (C := fun x => ∃ r ∈ wellF s.wells a.pl, r.1 = x ∧ 0 < r.2) d2 (ps := wellF s.wells a.pl) fun q hq => ⟨⟨q, hq, rfl, hpl.1 q hq⟩, Int.le_of_lt (hpl.1 q hq)⟩).1 q hq
                simp only at hp
                rw [t4] at hp
                obtain ⟨r, hr, e, hr0⟩ := (plainL_all (C := fun x => ∃ r ∈ wellF s.wells a.pl, r.1 = x ∧ 0 < r.2) hall p hp).1
                exact ⟨(p.1, 1), mem_drops.2 ⟨mem_labsR.2 ⟨r, hr, e, hr0⟩, rfl⟩, rfl, Int.one_pos⟩
            · simp only
              rw [liq_wset h.rising, tot_tog h5', td.1, td.2]
              omega
theorem may_put {l : List Sit} {s : Sta} {a : Acn} (h : May l s) (h0 : (putA l s a).2 = 0) :
    May l (putA l s a).1 ∧ liq (putA l s a).1.wells + tot (putA l s a).1.held = liq s.wells + tot s.held ∧ (putA l s a).1.used = s.used ∧ (putA l s a).1.clock = s.clock := by
  unfold putA at h0 ⊢
  split at h0
  · rename_i h1; exact absurd h0 h1
  · rename_i h1
    split at h0
    · simp at h0
    · rename_i h2
      split at h0
      · rename_i h3; exact absurd h0 h3
      · rename_i h3
        split at h0
        · rename_i h5; exact absurd h0 h5
        · rename_i h5
          rw [if_neg h1, if_neg h2, if_neg h3, if_neg h5]
          have h3' := Decidable.not_not.1 h3
          have h5' := Decidable.not_not.1 h5
          have ht : s.tip = true := by simpa using h2
          obtain ⟨a1, a2, _, _⟩ := aimR_ok (Decidable.not_not.1 h1)
          obtain ⟨u1, u2, u3, u4⟩ := tip_parts h ht
          obtain ⟨d1, d2, d3, d4, d5⟩ := drawF_ok h3'
          have td := tot_drawF h3'
          obtain ⟨m1, m2, m3⟩ := mayTouch_iff.1 u4
          obtain ⟨n1, n2, n3⟩ := withR_iff.1 m3
          have hh := mayHold_tog h5'
          refine ⟨⟨wells_wset h.wells a1 (by rw [← a2]; exact hh), rising_wset h.rising _ _, ?_, h.heat, h.clock⟩, ?_, rfl, rfl⟩
          · refine take_of ht u1 u2 (mayHold_left h3' u3) (mayTouch_iff.2 ⟨m1, m2, withR_iff.2 ⟨(mayHold_iff.1 (mayHold_left h3' u3)).1, n2, ?_⟩⟩)
            rw [wthn_iff (drops_nn _)]
            intro p hp hp0
            have hp1 := pl_of (mayHold_iff.1 u3).1 (mayHold_iff.1 u3).2.1
            simp only at hp
            rw [d5] at hp
            obtain ⟨r, hr, e, hr0⟩ := ((drawS_all (C := fun x => ∃ r ∈ s.held, r.1 = x ∧ 0 < r.2) d2 (ps := s.held) fun q hq => ⟨⟨q, hq, rfl, hp1.1 q hq⟩, Int.le_of_lt (hp1.1 q hq)⟩).2 p hp).1
            obtain ⟨r', hr', e', h'⟩ := (wthn_iff (drops_nn _)).1 n3 r hr hr0
            exact ⟨r', hr', by rw [e', e], h'⟩
          · simp only
            rw [liq_wset h.rising, tot_tog h5', td.1, td.2]
            omega
theorem may_warm {l : List Sit} {s : Sta} {a : Acn} (h : May l s) (h0 : (warmA s a).2 = 0) :
    May l (warmA s a).1 ∧ (warmA s a).1.wells = s.wells ∧ (warmA s a).1.held = s.held ∧ (warmA s a).1.used = s.used ∧ (warmA s a).1.clock = s.clock := by
  unfold warmA at h0 ⊢
  split at h0
  · rename_i h1
    rw [if_pos h1]
    exact ⟨⟨h.wells, h.rising, h.take, ⟨(inR_iff.1 h1).1, (inR_iff.1 h1).2⟩, h.clock⟩, rfl, rfl, rfl, rfl⟩
  · simp at h0
theorem may_pass {l : List Sit} {s : Sta} {a : Acn} (h : May l s) (h0 : (passA s a).2 = 0) :
    May l (passA s a).1 ∧ (passA s a).1.wells = s.wells ∧ (passA s a).1.held = s.held ∧ (passA s a).1.used = s.used ∧ s.clock ≤ (passA s a).1.clock := by
  unfold passA at h0 ⊢
  split at h0
  · rename_i h1
    split at h0
    · simp at h0
    · rename_i h2
      rw [if_pos h1, if_neg h2]
      have := inR_iff.1 h1
      have := h.clock
      exact ⟨⟨h.wells, h.rising, h.take, h.heat, ⟨by simp only; omega, by simp only; omega⟩⟩, rfl, rfl, rfl, by simp only; omega⟩
  · simp at h0
theorem may_shake {l : List Sit} {s : Sta} {a : Acn} (h : May l s) (h0 : (shakeA s a).2 = 0) :
    May l (shakeA s a).1 ∧ (shakeA s a).1.wells = s.wells ∧ (shakeA s a).1.held = s.held ∧ (shakeA s a).1.used = s.used ∧ s.clock ≤ (shakeA s a).1.clock := by
  unfold shakeA at h0 ⊢
  split at h0
  · rename_i h1
    rw [if_pos h1]
    exact may_pass h h0
  · simp at h0

/-- All liquid of a state. -/
def liqS (s : Sta) : Int := liq s.wells + tot s.held
/-- What an action leaves, if it has no error. -/
structure Left (l : List Sit) (s : Sta) (a : Acn) (t : Sta) : Prop where
  may : May l t
  fill : a.kind = 5 → liqS t = liqS s + a.vol
  drop : a.kind = 7 → liqS t = liqS s - tot s.held ∧ t.tip = false
  rest : a.kind ≠ 5 → a.kind ≠ 7 → liqS t = liqS s
  used : s.used ≤ t.used
  clock : s.clock ≤ t.clock
theorem left_do {l : List Sit} {s : Sta} {a : Acn} (hd : dchk l = 0) (h : May l s) (h0 : (doA l s a).2 = 0) : Left l s a (doA l s a).1 := by
  unfold doA at h0 ⊢
  split at h0
  · rename_i k
    rw [if_pos k]
    obtain ⟨x1, x2, x3, x4, x5⟩ := may_fill h h0
    exact ⟨x1, fun _ => by rw [liqS, liqS, x2, x3]; omega, fun e => by omega, fun e => absurd k e, by omega, by omega⟩
  · rename_i k5
    rw [if_neg k5]
    split at h0
    · rename_i k
      rw [if_pos k]
      obtain ⟨x1, x2, x3, x4, x5⟩ := may_tip hd h h0
      exact ⟨x1, fun e => absurd e k5, fun e => by omega, fun _ _ => by rw [liqS, liqS, x2, x3], by omega, by omega⟩
    · rename_i k6
      rw [if_neg k6]
      split at h0
      · rename_i k
        rw [if_pos k]
        obtain ⟨x1, x2, x3, x4, x5, x6⟩ := may_drop h h0
        exact ⟨x1, fun e => absurd e k5, fun _ => ⟨by rw [liqS, liqS, x2, x3]; simp only [tot]; omega, x6⟩, fun _ e => absurd k e, by omega, by omega⟩
      · rename_i k7
        rw [if_neg k7]
        split at h0
        · rename_i k
          rw [if_pos k]
          obtain ⟨x1, x2, x4, x5⟩ := may_draw hd h h0
          exact ⟨x1, fun e => absurd e k5, fun e => absurd e k7, fun _ _ => x2, by omega, by omega⟩
        · rename_i k8
          rw [if_neg k8]
          split at h0
          · rename_i k
            rw [if_pos k]
            obtain ⟨x1, x2, x4, x5⟩ := may_put h h0
            exact ⟨x1, fun e => absurd e k5, fun e => absurd e k7, fun _ _ => x2, by omega, by omega⟩
          · rename_i k9
            rw [if_neg k9]
            split at h0
            · rename_i k
              rw [if_pos k]
              obtain ⟨x1, x2, x3, x4, x5⟩ := may_warm h h0
              exact ⟨x1, fun e => absurd e k5, fun e => absurd e k7, fun _ _ => by rw [liqS, liqS, x2, x3], by omega, by omega⟩
            · rename_i k11
              rw [if_neg k11]
              split at h0
              · rename_i k
                rw [if_pos k]
                obtain ⟨x1, x2, x3, x4, x5⟩ := may_pass h h0
                exact ⟨x1, fun e => absurd e k5, fun e => absurd e k7, fun _ _ => by rw [liqS, liqS, x2, x3], by omega, by omega⟩
              · rename_i k12
                rw [if_neg k12]
                split at h0
                · rename_i k
                  rw [if_pos k]
                  obtain ⟨x1, x2, x3, x4, x5⟩ := may_shake h h0
                  exact ⟨x1, fun e => absurd e k5, fun e => absurd e k7, fun _ _ => by rw [liqS, liqS, x2, x3], by omega, by omega⟩
                · rename_i k13
                  rw [if_neg k13]
                  split at h0
                  · rename_i k
                    rw [if_pos k]
                    obtain ⟨x1, x2, x3, x4, x5⟩ := may_pass h h0
                    exact ⟨x1, fun e => absurd e k5, fun e => absurd e k7, fun _ _ => by rw [liqS, liqS, x2, x3], by omega, by omega⟩
                  · simp at h0
theorem may_sta0 (l : List Sit) : May l sta0 := by
  refine ⟨fun x hx => (by simp at hx), List.Pairwise.nil, ?_, by simp, by simp⟩
  unfold mayTake
  simp [inR]
/-! ### how many wells there are -/
def keyP (p : Plc) : Int := (p.1 - 1) * 384 + p.2.2 * 16 + p.2.1
theorem rising_length {l : List Int} (h : l.Pairwise (· < ·)) {m n : Int} (hm : ∀ x ∈ l, m ≤ x ∧ x < n) (hmn : m ≤ n) : (l.length : Int) + m ≤ n := by
  induction l generalizing m with
  | nil => simpa using hmn
  | cons x r ih =>
    obtain ⟨h1, h2⟩ := List.pairwise_cons.1 h
    have hx := hm x (by simp)
    have := ih h2 (m := x + 1) (fun y hy => ⟨by have := h1 y hy; omega, (hm y (by simp [hy])).2⟩) (by omega)
    simp only [List.length_cons]
    omega
theorem wellM_place {l : List Sit} (hd : dchk l = 0) {p : Plc} (h : (wellM l p).2 = 0) : (1 ≤ p.1 ∧ p.1 ≤ 12) ∧ (0 ≤ p.2.1 ∧ p.2.1 < 16) ∧ 0 ≤ p.2.2 ∧ p.2.2 < 24 := by
  unfold wellM at h
  split at h
  · rename_i a ha
    obtain ⟨s, hs, e, rfl, hsp⟩ := wareOf_in ha
    obtain ⟨hc, h1, h2⟩ := dchk_ware hd hs
    have hr := inR_iff.1 (chk_in hc).2.2.1
    have hcl := inR_iff.1 (chk_in hc).2.2.2.1
    have := spotOk_iff.1 hsp
    omega
  · simp at h
theorem wells_few {l : List Sit} (hd : dchk l = 0) {s : Sta} (h : May l s) : s.wells.length ≤ 4608 := by
  have hp : (s.wells.map fun x => keyP x.1).Pairwise (· < ·) := by
    rw [List.pairwise_map]
    refine List.Pairwise.imp_of_mem ?_ h.rising
    intro x y hx hy hlt
    have h1 := wellM_place hd (h.wells x hx).1
    have h2 := wellM_place hd (h.wells y hy).1
    rw [plt_iff] at hlt
    unfold keyP
    omega
  have := rising_length hp (m := 0) (n := 4608) (fun k hk => by
    obtain ⟨x, hx, rfl⟩ := List.mem_map.1 hk
    have h1 := wellM_place hd (h.wells x hx).1
    unfold keyP
    omega) (by decide)
  simp only [List.length_map] at this
  omega
end Go.Proofs.YtgbnjgenopdmfaaGreat

/- Actions that hang on nothing in common may change places. -/
namespace Go.Proofs.YtgbnjgenopdmfaaGreat
open Go.RowKit F
/-- An action, if it may be. -/
def stp (l : List Sit) (a : Acn) (s : Sta) : Option Sta := if (doA l s a).2 = 0 then some (doA l s a).1 else none
def runO (l : List Sit) : List Acn → Sta → Option Sta
  | [], s => some s
  | a :: r, s => (stp l a s).bind (runO l r)
theorem runO_append (l : List Sit) (a b : List Acn) (s : Sta) : runO l (a ++ b) s = (runO l a s).bind (runO l b) := by
  induction a generalizing s with
  | nil => rfl
  | cons x r ih =>
    show (stp l x s).bind (runO l (r ++ b)) = ((stp l x s).bind (runO l r)).bind (runO l b)
    cases stp l x s with
    | none => rfl
    | some t => exact ih t
theorem runA_some {l : List Sit} : ∀ (r : List Acn) (s : Sta) (k : Nat), (runA l s k r).2.2 = 0 → runO l r s = some (runA l s k r).1
  | [], s, k, _ => rfl
  | a :: r, s, k, h => by
    unfold runA at h ⊢
    split at h
    · rename_i h0
      rw [if_pos h0]
      show (stp l a s).bind _ = _
      unfold stp
      rw [if_pos h0]
      exact runA_some r _ _ h
    · rename_i h0; exact absurd h h0
theorem runA_none {l : List Sit} : ∀ (r : List Acn) (s : Sta) (k : Nat), (runA l s k r).2.2 ≠ 0 → runO l r s = none
  | [], s, k, h => absurd rfl h
  | a :: r, s, k, h => by
    unfold runA at h
    show (stp l a s).bind _ = _
    unfold stp
    split at h
    · rename_i h0
      rw [if_pos h0]
      exact runA_none r _ _ h
    · rename_i h0
      rw [if_neg h0]
      rfl
theorem runA_of {l : List Sit} {r : List Acn} {s t : Sta} (k : Nat) (h : runO l r s = some t) : (runA l s k r).2.2 = 0 ∧ (runA l s k r).1 = t := by
  by_cases h0 : (runA l s k r).2.2 = 0
  · have := runA_some r s k h0
    rw [h] at this
    injection this with this
    exact ⟨h0, this.symm⟩
  · rw [runA_none r s k h0] at h
    cases h

abbrev Tp4 := Bool × List Pc × List ByteArray × Int
def Sta.tp (s : Sta) : Tp4 := (s.tip, s.held, s.touched, s.used)
def Sta.withTp (s : Sta) (y : Tp4) : Sta := { s with tip := y.1, held := y.2.1, touched := y.2.2.1, used := y.2.2.2 }
def OnWell (p : Plc) (f : Sta → Option Sta) : Prop := ∃ φ : List Pc → Option (List Pc), ∀ s, f s = (φ (wellF s.wells p)).map fun x => { s with wells := wset s.wells p x }
def OnTip (f : Sta → Option Sta) : Prop := ∃ τ : Tp4 → Option Tp4, ∀ s, f s = (τ s.tp).map fun y => s.withTp y
def OnBoth (p : Plc) (f : Sta → Option Sta) : Prop := ∃ ψ : List Pc → Tp4 → Option (List Pc × Tp4), ∀ s, f s = (ψ (wellF s.wells p) s.tp).map fun z => { (s.withTp z.2) with wells := wset s.wells p z.1 }
def OnHeat (f : Sta → Option Sta) : Prop := ∃ η : Int → Int → Option (Int × Int), ∀ s, f s = (η s.heat s.clock).map fun z => { s with heat := z.1, clock := z.2 }
def OnNone (f : Sta → Option Sta) : Prop := ∀ s, f s = none
theorem OnWell.both {p : Plc} {f : Sta → Option Sta} (h : OnWell p f) : OnBoth p f := by
  obtain ⟨φ, h⟩ := h
  refine ⟨fun x y => (φ x).map fun x => (x, y), fun s => ?_⟩
  rw [h]
  show _ = ((φ (wellF s.wells p)).map fun x => (x, s.tp)).map _
  cases φ (wellF s.wells p) <;> rfl
/-! ### which is which -/
theorem do_5 (l : List Sit) (s : Sta) {a : Acn} (hk : a.kind = 5) : doA l s a = fillA l s a := by unfold doA; rw [if_pos hk]
theorem do_6 (l : List Sit) (s : Sta) {a : Acn} (hk : a.kind = 6) : doA l s a = tipA l s := by unfold doA; rw [if_neg (show ¬ a.kind = 5 by omega), if_pos hk]
theorem do_7 (l : List Sit) (s : Sta) {a : Acn} (hk : a.kind = 7) : doA l s a = dropA s := by unfold doA; rw [if_neg (show ¬ a.kind = 5 by omega), if_neg (show ¬ a.kind = 6 by omega), if_pos hk]
theorem do_8 (l : List Sit) (s : Sta) {a : Acn} (hk : a.kind = 8) : doA l s a = drawA l s a := by unfold doA; rw [if_neg (show ¬ a.kind = 5 by omega), if_neg (show ¬ a.kind = 6 by omega), if_neg (show ¬ a.kind = 7 by omega), if_pos hk]
theorem do_9 (l : List Sit) (s : Sta) {a : Acn} (hk : a.kind = 9) : doA l s a = putA l s a := by unfold doA; rw [if_neg (show ¬ a.kind = 5 by omega), if_neg (show ¬ a.kind = 6 by omega), if_neg (show ¬ a.kind = 7 by omega), if_neg (show ¬ a.kind = 8 by omega), if_pos hk]
theorem do_11 (l : List Sit) (s : Sta) {a : Acn} (hk : a.kind = 11) : doA l s a = warmA s a := by unfold doA; rw [if_neg (show ¬ a.kind = 5 by omega), if_neg (show ¬ a.kind = 6 by omega), if_neg (show ¬ a.kind = 7 by omega), if_neg (show ¬ a.kind = 8 by omega), if_neg (show ¬ a.kind = 9 by omega), if_pos hk]
theorem do_12 (l : List Sit) (s : Sta) {a : Acn} (hk : a.kind = 12) : doA l s a = passA s a := by unfold doA; rw [if_neg (show ¬ a.kind = 5 by omega), if_neg (show ¬ a.kind = 6 by omega), if_neg (show ¬ a.kind = 7 by omega), if_neg (show ¬ a.kind = 8 by omega), if_neg (show ¬ a.kind = 9 by omega), if_neg (show ¬ a.kind = 11 by omega), if_pos hk]
theorem do_13 (l : List Sit) (s : Sta) {a : Acn} (hk : a.kind = 13) : doA l s a = shakeA s a := by unfold doA; rw [if_neg (show ¬ a.kind = 5 by omega), if_neg (show ¬ a.kind = 6 by omega), if_neg (show ¬ a.kind = 7 by omega), if_neg (show ¬ a.kind = 8 by omega), if_neg (show ¬ a.kind = 9 by omega), if_neg (show ¬ a.kind = 11 by omega), if_neg (show ¬ a.kind = 12 by omega), if_pos hk]
theorem do_14 (l : List Sit) (s : Sta) {a : Acn} (hk : a.kind = 14) : doA l s a = passA s a := by unfold doA; rw [if_neg (show ¬ a.kind = 5 by omega), if_neg (show ¬ a.kind = 6 by omega), if_neg (show ¬ a.kind = 7 by omega), if_neg (show ¬ a.kind = 8 by omega), if_neg (show ¬ a.kind = 9 by omega), if_neg (show ¬ a.kind = 11 by omega), if_neg (show ¬ a.kind = 12 by omega), if_neg (show ¬ a.kind = 13 by omega), if_pos hk]
theorem do_no (l : List Sit) (s : Sta) {a : Acn} (h : ¬ (5 ≤ a.kind ∧ a.kind ≤ 9) ∧ ¬ (11 ≤ a.kind ∧ a.kind ≤ 14)) : doA l s a = (s, 6) := by unfold doA; rw [if_neg (show ¬ a.kind = 5 by omega), if_neg (show ¬ a.kind = 6 by omega), if_neg (show ¬ a.kind = 7 by omega), if_neg (show ¬ a.kind = 8 by omega), if_neg (show ¬ a.kind = 9 by omega), if_neg (show ¬ a.kind = 11 by omega), if_neg (show ¬ a.kind = 12 by omega), if_neg (show ¬ a.kind = 13 by omega), if_neg (show ¬ a.kind = 14 by omega)]
theorem stp_fill {l : List Sit} {a : Acn} (hk : a.kind = 5) : OnWell a.pl (stp l a) := by
  refine ⟨fun f => if (aimR l a).2 ≠ 0 then none else if fref [(a.label, a.vol)] ≠ 0 then none else if (togR f [(a.label, a.vol)] (aimR l a).1).2 ≠ 0 then none else some (togR f [(a.label, a.vol)] (aimR l a).1).1, fun s => ?_⟩
  unfold stp
  rw [do_5 l s hk]
  unfold fillA
  by_cases h1 : (aimR l a).2 ≠ 0
  · simp only [if_pos h1]; rw [if_neg h1]; rfl
  · by_cases h2 : fref [(a.label, a.vol)] ≠ 0
    · simp only [if_neg h1, if_pos h2]; rw [if_neg h2]; rfl
    · by_cases h3 : (togR (wellF s.wells a.pl) [(a.label, a.vol)] (aimR l a).1).2 ≠ 0
      · simp only [if_neg h1, if_neg h2, if_pos h3]; rw [if_neg h3]; rfl
      · simp only [if_neg h1, if_neg h2, if_neg h3]; rfl
theorem stp_tip {l : List Sit} {a : Acn} (hk : a.kind = 6) : OnTip (stp l a) := by
  refine ⟨fun y => if y.1 = true then none else if ((tipsL l).length : Int) ≤ y.2.2.2 then none else some (true, y.2.1, y.2.2.1, y.2.2.2 + 1), fun s => ?_⟩
  unfold stp
  rw [do_6 l s hk]
  unfold tipA Sta.tp
  by_cases h1 : s.tip = true
  · simp [h1]
  · by_cases h2 : ((tipsL l).length : Int) ≤ s.used
    · simp [h1, h2]
    · simp [h1, h2, Sta.withTp]
theorem stp_drop {l : List Sit} {a : Acn} (hk : a.kind = 7) : OnTip (stp l a) := by
  refine ⟨fun y => if y.1 = true then some (false, [], [], y.2.2.2) else none, fun s => ?_⟩
  unfold stp
  rw [do_7 l s hk]
  unfold dropA Sta.tp
  by_cases h1 : s.tip = true
  · simp [h1, Sta.withTp]
  · simp [h1]
theorem stp_draw {l : List Sit} {a : Acn} (hk : a.kind = 8) : OnBoth a.pl (stp l a) := by
  refine ⟨fun f y => if (aimR l a).2 ≠ 0 then none else if y.1 = false then none else if (drawF a.vol f).2.2 ≠ 0 then none else if (withR (drops y.2.2.1) f).1 = false then none
    else if (togR y.2.1 (drawF a.vol f).1 (tipM l)).2 ≠ 0 then none else some ((drawF a.vol f).2.1, y.1, (togR y.2.1 (drawF a.vol f).1 (tipM l)).1, labsR f, y.2.2.2), fun s => ?_⟩
  unfold stp
  rw [do_8 l s hk]
  unfold drawA Sta.tp
  by_cases h1 : (aimR l a).2 ≠ 0
  · simp only [if_pos h1]; rw [if_neg h1]; rfl
  · by_cases h2 : s.tip = false
    · simp only [if_neg h1, if_pos h2]; rfl
    · by_cases h3 : (drawF a.vol (wellF s.wells a.pl)).2.2 ≠ 0
      · simp only [if_neg h1, if_neg h2, if_pos h3]; rw [if_neg h3]; rfl
      · by_cases h4 : (withR (drops s.touched) (wellF s.wells a.pl)).1 = false
        · simp only [if_neg h1, if_neg h2, if_neg h3, if_pos h4]; rfl
        · by_cases h5 : (togR s.held (drawF a.vol (wellF s.wells a.pl)).1 (tipM l)).2 ≠ 0
          · simp only [if_neg h1, if_neg h2, if_neg h3, if_neg h4, if_pos h5]; rw [if_neg h5]; rfl
          · simp only [if_neg h1, if_neg h2, if_neg h3, if_neg h4, if_neg h5]; rfl
theorem stp_put {l : List Sit} {a : Acn} (hk : a.kind = 9) : OnBoth a.pl (stp l a) := by
  refine ⟨fun f y => if (aimR l a).2 ≠ 0 then none else if y.1 = false then none else if (drawF a.vol y.2.1).2.2 ≠ 0 then none
    else if (togR f (drawF a.vol y.2.1).1 (aimR l a).1).2 ≠ 0 then none else some ((togR f (drawF a.vol y.2.1).1 (aimR l a).1).1, y.1, (drawF a.vol y.2.1).2.1, y.2.2.1, y.2.2.2), fun s => ?_⟩
  unfold stp
  rw [do_9 l s hk]
  unfold putA Sta.tp
  by_cases h1 : (aimR l a).2 ≠ 0
  · simp only [if_pos h1]; rw [if_neg h1]; rfl
  · by_cases h2 : s.tip = false
    · simp only [if_neg h1, if_pos h2]; rfl
    · by_cases h3 : (drawF a.vol s.held).2.2 ≠ 0
      · simp only [if_neg h1, if_neg h2, if_pos h3]; rw [if_neg h3]; rfl
      · by_cases h5 : (togR (wellF s.wells a.pl) (drawF a.vol s.held).1 (aimR l a).1).2 ≠ 0
        · simp only [if_neg h1, if_neg h2, if_neg h3, if_pos h5]; rw [if_neg h5]; rfl
        · simp only [if_neg h1, if_neg h2, if_neg h3, if_neg h5]; rfl
theorem pass_on (a : Acn) : OnHeat fun s => if (passA s a).2 = 0 then some (passA s a).1 else none := by
  refine ⟨fun h c => if inR 0 1000000000 a.time = true then (if 1000000000 < c + a.time then none else some (h, c + a.time)) else none, fun s => ?_⟩
  unfold passA
  by_cases h1 : inR 0 1000000000 a.time = true
  · by_cases h2 : 1000000000 < s.clock + a.time
    · simp [h1, h2]
    · simp [h1, h2]
  · simp [h1]
theorem stp_heat {l : List Sit} {a : Acn} (hk : 11 ≤ a.kind ∧ a.kind ≤ 14) : OnHeat (stp l a) := by
  have hp := pass_on a
  by_cases h11 : a.kind = 11
  · refine ⟨fun h c => if inR 0 1000000000 a.value = true then some (a.value, c) else none, fun s => ?_⟩
    unfold stp
    rw [do_11 l s h11]
    unfold warmA
    by_cases h1 : inR 0 1000000000 a.value = true
    · simp [h1]
    · simp [h1]
  · by_cases h13 : a.kind = 13
    · by_cases h1 : inR 0 1000000000 a.value = true
      · obtain ⟨η, h⟩ := hp
        refine ⟨η, fun s => ?_⟩
        rw [← h]
        unfold stp
        rw [do_13 l s h13]
        unfold shakeA
        rw [if_pos h1]
      · refine ⟨fun _ _ => none, fun s => ?_⟩
        unfold stp
        rw [do_13 l s h13]
        unfold shakeA
        rw [if_neg h1]
        rfl
    · obtain ⟨η, h⟩ := hp
      refine ⟨η, fun s => ?_⟩
      rw [← h]
      unfold stp
      by_cases h12 : a.kind = 12
      · rw [do_12 l s h12]
      · rw [do_14 l s (by omega)]
theorem stp_none {l : List Sit} {a : Acn} (h : ¬ (5 ≤ a.kind ∧ a.kind ≤ 9) ∧ ¬ (11 ≤ a.kind ∧ a.kind ≤ 14)) : OnNone (stp l a) := by
  intro s
  unfold stp
  rw [do_no l s h]
  rfl

/-! ### what hangs on what -/
theorem kinds (a : Acn) : (a.kind = 5) ∨ (a.kind = 6) ∨ (a.kind = 7) ∨ (a.kind = 8) ∨ (a.kind = 9) ∨ (11 ≤ a.kind ∧ a.kind ≤ 14) ∨ (¬ (5 ≤ a.kind ∧ a.kind ≤ 9) ∧ ¬ (11 ≤ a.kind ∧ a.kind ≤ 14)) := by omega
/-! ### other orders -/
end Go.Proofs.YtgbnjgenopdmfaaGreat

/- Levels, plainly. -/
namespace Go.Proofs.YtgbnjgenopdmfaaGreat
open Go.RowKit F
/-! ### levels -/
/-! ### one behind the other, whichever of a level is first -/
end Go.Proofs.YtgbnjgenopdmfaaGreat

/- Fewer tips, plainly. -/
namespace Go.Proofs.YtgbnjgenopdmfaaGreat
open Go.RowKit F
/-! ### what an action leaves -/
theorem stp_heats (l : List Sit) (a : Acn) : ∃ η : Int → Int → Int × Int, ∀ s t, stp l a s = some t → (t.heat, t.clock) = η s.heat s.clock := by
  have both : ∀ {p : Plc}, OnBoth p (stp l a) → ∃ η : Int → Int → Int × Int, ∀ s t, stp l a s = some t → (t.heat, t.clock) = η s.heat s.clock := by
    rintro p ⟨ψ, h⟩
    refine ⟨fun x y => (x, y), fun s t e => ?_⟩
    rw [h] at e
    cases h2 : ψ (wellF s.wells p) s.tp with
    | none => rw [h2] at e; cases e
    | some z => rw [h2] at e; injection e with e; rw [← e]; rfl
  have tip : OnTip (stp l a) → ∃ η : Int → Int → Int × Int, ∀ s t, stp l a s = some t → (t.heat, t.clock) = η s.heat s.clock := by
    rintro ⟨τ, h⟩
    refine ⟨fun x y => (x, y), fun s t e => ?_⟩
    rw [h] at e
    cases h2 : τ s.tp with
    | none => rw [h2] at e; cases e
    | some z => rw [h2] at e; injection e with e; rw [← e]; rfl
  rcases kinds a with ha | ha | ha | ha | ha | ha | ha
  · exact both (stp_fill ha).both
  · exact tip (stp_tip ha)
  · exact tip (stp_drop ha)
  · exact both (stp_draw ha)
  · exact both (stp_put ha)
  · obtain ⟨η, h⟩ := stp_heat (l := l) ha
    refine ⟨fun x y => (η x y).getD (x, y), fun s t e => ?_⟩
    rw [h] at e
    cases h2 : η s.heat s.clock with
    | none => rw [h2] at e; cases e
    | some z =>
      rw [h2] at e
      injection e with e
      rw [← e]
      show (z.1, z.2) = (η s.heat s.clock).getD (s.heat, s.clock)
      rw [h2]
      rfl
  · exact ⟨fun x y => (x, y), fun s t e => by rw [stp_none ha s] at e; cases e⟩
theorem run_heats (l : List Sit) : ∀ (r : List Acn) (s s' t t' : Sta), s.heat = s'.heat → s.clock = s'.clock → runO l r s = some t → runO l r s' = some t' → t.heat = t'.heat ∧ t.clock = t'.clock
  | [], s, s', t, t', h1, h2, e, e' => by injection e with e; injection e' with e'; subst e e'; exact ⟨h1, h2⟩
  | a :: r, s, s', t, t', h1, h2, e, e' => by
    obtain ⟨η, hη⟩ := stp_heats l a
    replace e : (stp l a s).bind (runO l r) = some t := e
    replace e' : (stp l a s').bind (runO l r) = some t' := e'
    cases h3 : stp l a s with
    | none => rw [h3] at e; cases e
    | some u =>
      cases h4 : stp l a s' with
      | none => rw [h4] at e'; cases e'
      | some u' =>
        rw [h3] at e
        rw [h4] at e'
        have h5 := hη s u h3
        have h6 := hη s' u' h4
        rw [h1, h2, ← h6] at h5
        injection h5 with h5 h7
        exact run_heats l r u u' t t' h5 h7 e e'
/-- A Draw and a Put leave the tip and how many were used. -/
theorem draw_used {l : List Sit} {a : Acn} (hk : a.kind = 8) : ∃ ψ : List Pc → Bool × List Pc × List ByteArray → Option (List Pc × List Pc × List ByteArray),
    (∀ s, stp l a s = (ψ (wellF s.wells a.pl) (s.tip, s.held, s.touched)).map fun z => { s with wells := wset s.wells a.pl z.1, held := z.2.1, touched := z.2.2 }) ∧ True := by
  refine ⟨fun f y => if (aimR l a).2 ≠ 0 then none else if y.1 = false then none else if (drawF a.vol f).2.2 ≠ 0 then none else if (withR (drops y.2.2) f).1 = false then none
    else if (togR y.2.1 (drawF a.vol f).1 (tipM l)).2 ≠ 0 then none else some ((drawF a.vol f).2.1, (togR y.2.1 (drawF a.vol f).1 (tipM l)).1, labsR f), fun s => ?_, trivial⟩
  unfold stp
  rw [do_8 l s hk]
  unfold drawA
  by_cases h1 : (aimR l a).2 ≠ 0
  · simp only [if_pos h1]; rw [if_neg h1]; rfl
  · by_cases h2 : s.tip = false
    · simp only [if_neg h1, if_pos h2]; rfl
    · by_cases h3 : (drawF a.vol (wellF s.wells a.pl)).2.2 ≠ 0
      · simp only [if_neg h1, if_neg h2, if_pos h3]; rw [if_neg h3]; rfl
      · by_cases h4 : (withR (drops s.touched) (wellF s.wells a.pl)).1 = false
        · simp only [if_neg h1, if_neg h2, if_neg h3, if_pos h4]; rfl
        · by_cases h5 : (togR s.held (drawF a.vol (wellF s.wells a.pl)).1 (tipM l)).2 ≠ 0
          · simp only [if_neg h1, if_neg h2, if_neg h3, if_neg h4, if_pos h5]; rw [if_neg h5]; rfl
          · simp only [if_neg h1, if_neg h2, if_neg h3, if_neg h4, if_neg h5]; rfl
theorem put_used {l : List Sit} {a : Acn} (hk : a.kind = 9) : ∃ ψ : List Pc → Bool × List Pc × List ByteArray → Option (List Pc × List Pc × List ByteArray),
    (∀ s, stp l a s = (ψ (wellF s.wells a.pl) (s.tip, s.held, s.touched)).map fun z => { s with wells := wset s.wells a.pl z.1, held := z.2.1, touched := z.2.2 }) ∧ True := by
  refine ⟨fun f y => if (aimR l a).2 ≠ 0 then none else if y.1 = false then none else if (drawF a.vol y.2.1).2.2 ≠ 0 then none
    else if (togR f (drawF a.vol y.2.1).1 (aimR l a).1).2 ≠ 0 then none else some ((togR f (drawF a.vol y.2.1).1 (aimR l a).1).1, (drawF a.vol y.2.1).2.1, y.2.2), fun s => ?_, trivial⟩
  unfold stp
  rw [do_9 l s hk]
  unfold putA
  by_cases h1 : (aimR l a).2 ≠ 0
  · simp only [if_pos h1]; rw [if_neg h1]; rfl
  · by_cases h2 : s.tip = false
    · simp only [if_neg h1, if_pos h2]; rfl
    · by_cases h3 : (drawF a.vol s.held).2.2 ≠ 0
      · simp only [if_neg h1, if_neg h2, if_pos h3]; rw [if_neg h3]; rfl
      · by_cases h5 : (togR (wellF s.wells a.pl) (drawF a.vol s.held).1 (aimR l a).1).2 ≠ 0
        · simp only [if_neg h1, if_neg h2, if_neg h3, if_pos h5]; rw [if_neg h5]; rfl
        · simp only [if_neg h1, if_neg h2, if_neg h3, if_neg h5]; rfl
/-- With a tip, and no Drop: the tip stays. -/
theorem stp_tipped {l : List Sit} {a : Acn} {s t : Sta} (ht : s.tip = true) (hk : a.kind ≠ 7) (e : stp l a s = some t) : t.tip = true ∧ t.used = s.used := by
  rcases kinds a with ha | ha | ha | ha | ha | ha | ha
  · obtain ⟨φ, h⟩ := stp_fill (l := l) ha
    rw [h] at e
    cases h2 : φ (wellF s.wells a.pl) with
    | none => rw [h2] at e; cases e
    | some z => rw [h2] at e; injection e with e; rw [← e]; exact ⟨ht, rfl⟩
  · unfold stp at e
    rw [do_6 l s ha] at e
    unfold tipA at e
    rw [if_pos ht] at e
    cases e
  · exact absurd ha hk
  · obtain ⟨ψ, h, _⟩ := draw_used (l := l) ha
    rw [h] at e
    cases h2 : ψ (wellF s.wells a.pl) (s.tip, s.held, s.touched) with
    | none => rw [h2] at e; cases e
    | some z => rw [h2] at e; injection e with e; rw [← e]; exact ⟨ht, rfl⟩
  · obtain ⟨ψ, h, _⟩ := put_used (l := l) ha
    rw [h] at e
    cases h2 : ψ (wellF s.wells a.pl) (s.tip, s.held, s.touched) with
    | none => rw [h2] at e; cases e
    | some z => rw [h2] at e; injection e with e; rw [← e]; exact ⟨ht, rfl⟩
  · obtain ⟨η, h⟩ := stp_heat (l := l) ha
    rw [h] at e
    cases h2 : η s.heat s.clock with
    | none => rw [h2] at e; cases e
    | some z => rw [h2] at e; injection e with e; rw [← e]; exact ⟨ht, rfl⟩
  · rw [stp_none ha s] at e; cases e
theorem run_tipped (l : List Sit) : ∀ (r : List Acn) (s t : Sta), s.tip = true → (∀ a ∈ r, a.kind ≠ 7) → runO l r s = some t → t.tip = true ∧ t.used = s.used
  | [], s, t, h, _, e => by injection e with e; subst e; exact ⟨h, rfl⟩
  | a :: r, s, t, h, hr, e => by
    replace e : (stp l a s).bind (runO l r) = some t := e
    cases h3 : stp l a s with
    | none => rw [h3] at e; cases e
    | some u =>
      rw [h3] at e
      obtain ⟨h4, h5⟩ := stp_tipped h (hr a (by simp)) h3
      obtain ⟨h6, h7⟩ := run_tipped l r u t h4 (fun b hb => hr b (by simp [hb])) e
      exact ⟨h6, h7.trans h5⟩
/-- The same but for how many tips were used: no more. -/
structure Fewer (s s' : Sta) : Prop where
  wells : s.wells = s'.wells
  tip : s.tip = s'.tip
  held : s.held = s'.held
  touched : s.touched = s'.touched
  heat : s.heat = s'.heat
  clock : s.clock = s'.clock
  used : s.used ≤ s'.used
theorem stp_fewer {l : List Sit} {a : Acn} {s s' t' : Sta} (h : Fewer s s') (e : stp l a s' = some t') : ∃ t, stp l a s = some t ∧ Fewer t t' := by
  obtain ⟨ws, ti, he, to, us, ht, ck⟩ := s
  obtain ⟨ws', ti', he', to', us', ht', ck'⟩ := s'
  obtain ⟨h1, h2, h3, h4, h5, h6, h7⟩ := h
  simp only at h1 h2 h3 h4 h5 h6 h7
  subst h1 h2 h3 h4 h5 h6
  rcases kinds a with ha | ha | ha | ha | ha | ha | ha
  · obtain ⟨φ, h⟩ := stp_fill (l := l) ha
    rw [h] at e ⊢
    simp only at e ⊢
    cases h2 : φ (wellF ws a.pl) with
    | none => rw [h2] at e; cases e
    | some z => rw [h2] at e; injection e with e; rw [← e]; exact ⟨_, rfl, ⟨rfl, rfl, rfl, rfl, rfl, rfl, h7⟩⟩
  · unfold stp at e ⊢
    rw [do_6 l _ ha] at e ⊢
    unfold tipA at e ⊢
    simp only at e ⊢
    by_cases h8 : ti = true
    · rw [if_pos h8] at e; cases e
    · rw [if_neg h8] at e ⊢
      by_cases h9 : ((tipsL l).length : Int) ≤ us'
      · rw [if_pos h9] at e; cases e
      · rw [if_neg h9] at e
        rw [if_neg (show ¬ ((tipsL l).length : Int) ≤ us by omega)]
        injection e with e
        rw [← e]
        exact ⟨_, rfl, ⟨rfl, rfl, rfl, rfl, rfl, rfl, by show us + 1 ≤ us' + 1; omega⟩⟩
  · unfold stp at e ⊢
    rw [do_7 l _ ha] at e ⊢
    unfold dropA at e ⊢
    simp only at e ⊢
    by_cases h8 : ti = true
    · rw [if_pos h8] at e ⊢
      injection e with e
      rw [← e]
      exact ⟨_, rfl, ⟨rfl, rfl, rfl, rfl, rfl, rfl, h7⟩⟩
    · rw [if_neg h8] at e; cases e
  · obtain ⟨ψ, h, _⟩ := draw_used (l := l) ha
    rw [h] at e ⊢
    simp only at e ⊢
    cases h2 : ψ (wellF ws a.pl) (ti, he, to) with
    | none => rw [h2] at e; cases e
    | some z => rw [h2] at e; injection e with e; rw [← e]; exact ⟨_, rfl, ⟨rfl, rfl, rfl, rfl, rfl, rfl, h7⟩⟩
  · obtain ⟨ψ, h, _⟩ := put_used (l := l) ha
    rw [h] at e ⊢
    simp only at e ⊢
    cases h2 : ψ (wellF ws a.pl) (ti, he, to) with
    | none => rw [h2] at e; cases e
    | some z => rw [h2] at e; injection e with e; rw [← e]; exact ⟨_, rfl, ⟨rfl, rfl, rfl, rfl, rfl, rfl, h7⟩⟩
  · obtain ⟨η, h⟩ := stp_heat (l := l) ha
    rw [h] at e ⊢
    simp only at e ⊢
    cases h2 : η ht ck with
    | none => rw [h2] at e; cases e
    | some z => rw [h2] at e; injection e with e; rw [← e]; exact ⟨_, rfl, ⟨rfl, rfl, rfl, rfl, rfl, rfl, h7⟩⟩
  · rw [stp_none ha] at e; cases e
theorem run_fewer (l : List Sit) : ∀ (r : List Acn) (s s' t' : Sta), Fewer s s' → runO l r s' = some t' → ∃ t, runO l r s = some t ∧ Fewer t t'
  | [], s, s', t', h, e => by injection e with e; subst e; exact ⟨s, rfl, h⟩
  | a :: r, s, s', t', h, e => by
    replace e : (stp l a s').bind (runO l r) = some t' := e
    cases h3 : stp l a s' with
    | none => rw [h3] at e; cases e
    | some u' =>
      rw [h3] at e
      obtain ⟨u, h4, h5⟩ := stp_fewer h h3
      obtain ⟨t, h6, h7⟩ := run_fewer l r u u' t' h5 e
      refine ⟨t, ?_, h7⟩
      show (stp l a s).bind (runO l r) = some t
      rw [h4]
      exact h6
theorem stp_dropped {l : List Sit} {a : Acn} {s : Sta} (hk : a.kind = 7) (ht : s.tip = true) : stp l a s = some { s with tip := false, held := [], touched := [] } := by
  unfold stp
  rw [do_7 l s hk]
  unfold dropA
  rw [if_pos ht]
  rfl
theorem stp_drop_inv {l : List Sit} {a : Acn} {s t : Sta} (hk : a.kind = 7) (e : stp l a s = some t) : s.tip = true ∧ t = { s with tip := false, held := [], touched := [] } := by
  by_cases ht : s.tip = true
  · rw [stp_dropped hk ht] at e
    injection e with e
    exact ⟨ht, e.symm⟩
  · unfold stp at e
    rw [do_7 l s hk] at e
    unfold dropA at e
    rw [if_neg ht] at e
    cases e
theorem stp_tip_inv {l : List Sit} {a : Acn} {s t : Sta} (hk : a.kind = 6) (e : stp l a s = some t) : s.tip = false ∧ t = { s with tip := true, used := s.used + 1 } := by
  unfold stp at e
  rw [do_6 l s hk] at e
  unfold tipA at e
  by_cases ht : s.tip = true
  · rw [if_pos ht] at e; cases e
  · rw [if_neg ht] at e
    split at e
    · cases e
    · injection e with e
      exact ⟨by simpa using ht, e.symm⟩

/-! ### a change of the tip -/
/-- All wells, the heat and the clock are the same. -/
def alikeB (s t : Sta) : Bool := decide (s.wells = t.wells) && (decide (s.heat = t.heat) && decide (s.clock = t.clock))
theorem alike_iff {s t : Sta} : alikeB s t = true ↔ s.wells = t.wells ∧ s.heat = t.heat ∧ s.clock = t.clock := by simp [alikeB]
def untilR (l : List Acn) : List Acn := l.takeWhile fun a => decide (a.kind ≠ 7)
/-- Does the trace come to the same end without the change at that number? -/
def goR (d : List Sit) (e : Sta) (l : List Acn) (i : Nat) : Bool := match runO d (l.take i ++ l.drop (i + 2)) sta0 with
  | some t => alikeB t e
  | none => false
theorem until_split (l : List Acn) : ∃ r, l = untilR l ++ r ∧ (∀ a ∈ untilR l, a.kind ≠ 7) ∧ (r = [] ∨ ∃ b q, r = b :: q ∧ b.kind = 7) := by
  induction l with
  | nil => exact ⟨[], rfl, (fun a h => by cases h), .inl rfl⟩
  | cons x l ih =>
    obtain ⟨r, h1, h2, h3⟩ := ih
    by_cases hx : x.kind = 7
    · have e : untilR (x :: l) = [] := by simp [untilR, hx]
      rw [e]
      exact ⟨x :: l, rfl, fun a h => (by cases h), .inr ⟨x, l, rfl, hx⟩⟩
    · have e : untilR (x :: l) = x :: untilR l := by simp [untilR, hx]
      rw [e]
      refine ⟨r, by rw [List.cons_append, ← h1], fun a h => ?_, h3⟩
      rcases List.mem_cons.1 h with rfl | h
      · exact hx
      · exact h2 a h
structure Chg (l : List Acn) (i : Nat) : Prop where
  lt : i + 1 < l.length
  drop : (l[i]'(by omega)).kind = 7
  tip : (l[i + 1]'lt).kind = 6
theorem chg_split {l : List Acn} {i : Nat} (h : Chg l i) : l = l.take i ++ (l[i]'(by have := h.lt; omega)) :: (l[i + 1]'h.lt) :: l.drop (i + 2) := by
  have hlt := h.lt
  conv => lhs; rw [← List.take_append_drop i l]
  rw [List.drop_eq_getElem_cons (show i < l.length by omega), List.drop_eq_getElem_cons hlt]
/-- What is done until the change, until the next Drop with it, and without it. -/
theorem go_iff {d : List Sit} {e tE : Sta} {l : List Acn} {i : Nat} (h : Chg l i) (hrun : runO d l sta0 = some tE) (hal : alikeB tE e = true) :
    ∃ st c, runO d (l.take i) sta0 = some st ∧ runO d ((l.drop i).take (2 + (untilR (l.drop (i + 2))).length)) st = some c ∧
      (runO d (untilR (l.drop (i + 2))) st = none → goR d e l i = false) ∧
      (∀ k, runO d (untilR (l.drop (i + 2))) st = some k → k.wells = c.wells → goR d e l i = true) := by
  obtain ⟨r, h1, h2, h3⟩ := until_split (l.drop (i + 2))
  have hl := chg_split h
  have hk7 := h.drop
  have hk6 := h.tip
  have hlt := h.lt
  generalize hdr : (l[i]'(by omega)) = dr at *
  generalize hti : (l[i + 1]'hlt) = ti at *
  generalize hpre : l.take i = pre at *
  generalize hnx : untilR (l.drop (i + 2)) = nx at *
  have hdrop : l.drop i = dr :: ti :: (nx ++ r) := by
    rw [List.drop_eq_getElem_cons (show i < l.length by omega), List.drop_eq_getElem_cons hlt, hdr, hti, h1]
  rw [hl, h1, runO_append] at hrun
  cases hst : runO d pre sta0 with
  | none => rw [hst] at hrun; cases hrun
  | some st =>
    rw [hst] at hrun
    replace hrun : (stp d dr st).bind (fun u => (stp d ti u).bind (runO d (nx ++ r))) = some tE := hrun
    cases h4 : stp d dr st with
    | none => rw [h4] at hrun; cases hrun
    | some s1 =>
      rw [h4] at hrun
      replace hrun : (stp d ti s1).bind (runO d (nx ++ r)) = some tE := hrun
      cases h5 : stp d ti s1 with
      | none => rw [h5] at hrun; cases hrun
      | some s2 =>
        rw [h5] at hrun
        replace hrun : runO d (nx ++ r) s2 = some tE := hrun
        rw [runO_append] at hrun
        cases h6 : runO d nx s2 with
        | none => rw [h6] at hrun; cases hrun
        | some c =>
          rw [h6] at hrun
          replace hrun : runO d r c = some tE := hrun
          obtain ⟨ht, e1⟩ := stp_drop_inv hk7 h4
          obtain ⟨_, e2⟩ := stp_tip_inv hk6 h5
          have ht2 : s2.tip = true := by rw [e2]
          obtain ⟨hct, hcu⟩ := run_tipped d nx s2 c ht2 h2 h6
          refine ⟨st, c, rfl, ?_, ?_, ?_⟩
          · rw [hdrop]
            have e3 : (dr :: ti :: (nx ++ r)).take (2 + nx.length) = dr :: ti :: nx := by
              rw [show 2 + nx.length = nx.length + 1 + 1 from by omega, List.take_succ_cons, List.take_succ_cons, List.take_append_of_le_length (Nat.le_refl _), List.take_length]
            rw [e3]
            show (stp d dr st).bind (fun u => (stp d ti u).bind (runO d nx)) = some c
            rw [h4]
            show (stp d ti s1).bind (runO d nx) = some c
            rw [h5]
            exact h6
          · intro hn
            unfold goR
            rw [hpre, h1, runO_append, hst]
            show (match runO d (nx ++ r) st with | some t => alikeB t e | none => false) = false
            rw [runO_append, hn]
            rfl
          · intro k hk hw
            obtain ⟨hkt, hku⟩ := run_tipped d nx st k ht h2 hk
            have hh := run_heats d nx st s2 k c (by rw [e2, e1]) (by rw [e2, e1]) hk h6
            unfold goR
            rw [hpre, h1, runO_append, hst]
            show (match runO d (nx ++ r) st with | some t => alikeB t e | none => false) = true
            rw [runO_append, hk]
            show (match runO d r k with | some t => alikeB t e | none => false) = true
            rcases h3 with rfl | ⟨b, q, rfl, hb⟩
            · show alikeB k e = true
              replace hrun : some c = some tE := hrun
              injection hrun with hrun
              rw [← hrun, alike_iff] at hal
              rw [alike_iff]
              exact ⟨hw.trans hal.1, hh.1.trans hal.2.1, hh.2.trans hal.2.2⟩
            · replace hrun : (stp d b c).bind (runO d q) = some tE := hrun
              rw [stp_dropped hb hct] at hrun
              have hf : Fewer { k with tip := false, held := [], touched := [] } { c with tip := false, held := [], touched := [] } :=
                ⟨hw, rfl, rfl, rfl, hh.1, hh.2, by show k.used ≤ c.used; rw [hku, hcu, e2, e1]; show st.used ≤ st.used + 1; omega⟩
              obtain ⟨t, ht3, hf3⟩ := run_fewer d q _ _ tE hf hrun
              have e4 : runO d (b :: q) k = some t := by
                show (stp d b k).bind (runO d q) = some t
                rw [stp_dropped hb hkt]
                exact ht3
              rw [e4]
              show alikeB t e = true
              rw [alike_iff] at hal ⊢
              exact ⟨hf3.wells.trans hal.1, hf3.heat.trans hal.2.1, hf3.clock.trans hal.2.2⟩

/-! ### saving -/
/-- The place from which actions draw, if it is just one. -/
def srcR : Plc → Bool → List Acn → Plc × Bool
  | p, j, [] => (p, j)
  | p, j, a :: r => if a.kind = 8 then (if j = true ∧ a.pl ≠ p then ((0, 0, 0), false) else srcR a.pl true r) else srcR p j r
abbrev src (l : List Acn) : Plc × Bool := srcR (0, 0, 0) false l
def sameSrc (a b : List Acn) : Bool := (src a).2 && ((src b).2 && decide ((src a).1 = (src b).1))
def chgB (l : List Acn) : Bool := match l with
  | a :: b :: _ => decide (a.kind = 7) && decide (b.kind = 6)
  | _ => false
theorem chg_iff {l : List Acn} {i : Nat} : chgB (l.drop i) = true ↔ Chg l i := by
  constructor
  · intro h
    by_cases hlt : i + 1 < l.length
    · rw [List.drop_eq_getElem_cons (show i < l.length by omega), List.drop_eq_getElem_cons hlt] at h
      simp [chgB] at h
      exact ⟨hlt, h.1, h.2⟩
    · exfalso
      have : (l.drop i).length ≤ 1 := by rw [List.length_drop]; omega
      match hd : l.drop i, this with
      | [], _ => rw [hd] at h; cases h
      | [x], _ => rw [hd] at h; cases h
  · intro h
    have hlt := h.lt
    rw [List.drop_eq_getElem_cons (show i < l.length by omega), List.drop_eq_getElem_cons hlt]
    simp [chgB, h.drop, h.tip]
def tkn (l : List Acn) (i tk : Nat) : Nat := if (l[i]?).any (fun a => decide (a.kind = 6)) = true then i else tk
/-- May the change at that number go? -/
def offB (d : List Sit) (e : Sta) (l : List Acn) (i tk : Nat) : Bool := chgB (l.drop i) && (sameSrc ((l.take i).drop tk) (untilR (l.drop (i + 2))) && goR d e l i)
def svF (d : List Sit) (e : Sta) : Nat → List Acn → Nat → Nat → List Acn
  | 0, l, _, _ => l
  | n + 1, l, i, tk => if i < l.length then
      (if offB d e l i (tkn l i tk) = true then svF d e n (l.take i ++ l.drop (i + 2)) (i + 1) (tkn l i tk) else svF d e n l (i + 1) (tkn l i tk))
    else l
/-- What is true of a trace, and stays so where a change may go, is true of what is saved. -/
theorem svF_all (d : List Sit) (e : Sta) (P : List Acn → Prop) (hP : ∀ l i, P l → Chg l i → goR d e l i = true → P (l.take i ++ l.drop (i + 2))) :
    ∀ (n : Nat) (l : List Acn) (i tk : Nat), P l → P (svF d e n l i tk)
  | 0, l, i, tk, h => h
  | n + 1, l, i, tk, h => by
    unfold svF
    split
    · split
      · rename_i ho
        simp only [offB, Bool.and_eq_true] at ho
        exact svF_all d e P hP n _ _ _ (hP l i h (chg_iff.1 ho.1) ho.2.2)
      · exact svF_all d e P hP n _ _ _ h
    · exact h
/-- More steps than actions change nothing. -/
theorem svF_more (d : List Sit) (e : Sta) : ∀ (n m : Nat) (l : List Acn) (i tk : Nat), l.length ≤ i + n → l.length ≤ i + m → svF d e n l i tk = svF d e m l i tk
  | 0, m, l, i, tk, h, _ => by
    cases m with
    | zero => rfl
    | succ m => unfold svF; rw [if_neg (by omega)]
  | n + 1, 0, l, i, tk, _, h => by unfold svF; rw [if_neg (by omega)]
  | n + 1, m + 1, l, i, tk, h, h2 => by
    unfold svF
    split
    · split
      · exact svF_more d e n m _ _ _ (by simp; omega) (by simp; omega)
      · exact svF_more d e n m _ _ _ (by omega) (by omega)
    · rfl
abbrev saveF (d : List Sit) (e : Sta) (l : List Acn) (i tk : Nat) : List Acn := svF d e l.length l i tk
theorem save_end {d : List Sit} {e : Sta} {l : List Acn} {i tk : Nat} (h : l.length ≤ i) : saveF d e l i tk = l := by
  rw [saveF, svF_more d e _ 0 l i tk (by omega) (by omega)]; rfl
theorem save_off {d : List Sit} {e : Sta} {l : List Acn} {i tk : Nat} (h : i < l.length) (ho : offB d e l i (tkn l i tk) = true) : saveF d e l i tk = saveF d e (l.take i ++ l.drop (i + 2)) (i + 1) (tkn l i tk) := by
  have e1 : saveF d e l i tk = svF d e (l.length + 1) l i tk := svF_more d e _ _ l i tk (by omega) (by omega)
  rw [e1, svF, if_pos h, if_pos ho]
  exact svF_more d e _ _ _ _ _ (by simp; omega) (by simp)
theorem save_on {d : List Sit} {e : Sta} {l : List Acn} {i tk : Nat} (h : i < l.length) (ho : offB d e l i (tkn l i tk) = false) : saveF d e l i tk = saveF d e l (i + 1) (tkn l i tk) := by
  have e1 : saveF d e l i tk = svF d e (l.length + 1) l i tk := svF_more d e _ _ l i tk (by omega) (by omega)
  rw [e1, svF, if_pos h, if_neg (by rw [ho]; decide)]
def tipsN (l : List Acn) : Nat := l.countP fun a => decide (a.kind = 6)
/-- What is saved may be done, comes to the same, and is no longer. -/
theorem save_fewer {d : List Sit} {e tE : Sta} {l : List Acn} (hrun : runO d l sta0 = some tE) (hal : alikeB tE e = true) (i tk : Nat) :
    (∃ t, runO d (saveF d e l i tk) sta0 = some t ∧ alikeB t e = true) ∧ (saveF d e l i tk).length ≤ l.length ∧ tipsN (saveF d e l i tk) ≤ tipsN l := by
  refine svF_all d e (fun m => (∃ t, runO d m sta0 = some t ∧ alikeB t e = true) ∧ m.length ≤ l.length ∧ tipsN m ≤ tipsN l) ?_ _ l i tk ⟨⟨tE, hrun, hal⟩, Nat.le_refl _, Nat.le_refl _⟩
  rintro m i ⟨_, h2, h3⟩ hc hg
  refine ⟨?_, by have := hc.lt; simp; omega, ?_⟩
  · unfold goR at hg
    cases h : runO d (m.take i ++ m.drop (i + 2)) sta0 with
    | none => rw [h] at hg; cases hg
    | some t => rw [h] at hg; exact ⟨t, rfl, hg⟩
  · refine Nat.le_trans ?_ h3
    conv => rhs; rw [chg_split hc]
    unfold tipsN
    rw [List.countP_append, List.countP_append, List.countP_cons, List.countP_cons]
    omega
end Go.Proofs.YtgbnjgenopdmfaaGreat

/- Regions that draw their order, with stores. -/
namespace Go.Proofs.YtgbnjgenopdmfaaGreat
open Go.RowKit
def seqLB (ops : Array Oper) (k late : Nat) : Bool := (List.range ops.size).all fun i => decide (i < k) || (List.range i).all fun j => (decide (i = k) && decide (j = late)) || coversB ops ops.size i j
/-- The slots that a plan fills, but for one row. -/
def AllPB (V : Nat → Value → World → Prop) (f : Nat → Value) (w : World) (late : Nat) : Nat → Plan → Prop
  | _, [] => True
  | n, p :: q => (n ≠ late → V p.1 (f p.1) w) ∧ AllPB V f w late (n + 1) q

def backE : Nat → List Oper → Bool
  | _, [] => true
  | k, o :: l => o.after.all (fun e => !Region.binds .any e || decide (e.on < k)) && backE (k + 1) l
theorem backE_at : ∀ {l : List Oper} {k : Nat}, backE k l = true → ∀ {i : Nat} {o : Oper}, l[i]? = some o → ∀ e ∈ o.after, Region.binds .any e = true → e.on < k + i
  | [], _, _, _, _, h => by simp at h
  | o :: l, k, h, 0, o', ho => by
    simp only [backE, Bool.and_eq_true] at h
    simp at ho; subst ho
    intro e he hbi
    have := Array.all_eq_true'.1 h.1 e he
    rw [hbi] at this
    simpa using this
  | o :: l, k, h, i + 1, o', ho => by
    simp only [backE, Bool.and_eq_true] at h
    intro e he hbi
    have := backE_at h.2 (i := i) (by simpa using ho) e he hbi
    omega
theorem all_listedE {ops : Array Oper} {listed : Array Bool} (hback : backE 0 ops.toList = true) (hsz : listed.size = ops.size) (hr : Region.ready .any ops listed = []) : ∀ i, i < ops.size → listed[i]? = some true := by
  intro i
  induction i using Nat.strongRecOn with
  | ind i ih =>
    intro hi
    cases hl : listed[i]? with
    | none => rw [Array.getElem?_eq_none_iff] at hl; omega
    | some b =>
      cases b with
      | true => rfl
      | false =>
        exfalso
        have hm : i ∈ Region.ready .any ops listed := by
          simp only [Region.ready, List.mem_filter, List.mem_range, Bool.and_eq_true]
          refine ⟨hi, by simp [Array.getD_eq_getD_getElem?, hl], ?_⟩
          have ho : ops[i]? = some ops[i] := by simp [hi]
          rw [ho]
          simp only [Option.map_some, Option.getD_some]
          rw [Array.all_eq_true']
          intro e he
          cases hbi : Region.binds .any e with
          | false => simp
          | true =>
            have h1 := backE_at hback (i := i) (o := ops[i]) (by simp) e he hbi
            have h2 := ih e.on (by omega) (by omega)
            simp [Array.getD_eq_getD_getElem?, h2]
        rw [hr] at hm
        simp at hm

section
variable {P : Program} {Q : Exit → Act → World → Prop} {a : Act} {m : List Bool} {V : Nat → Value → World → Prop} {w0 : World} {ops : Array Oper} {plan : Plan} {k late : Nat}
theorem allPB_of {f : Nat → Value} {w : World} : ∀ {l : List Oper} {q : Plan} {n s : Nat}, planAll ops m n l q = true → (∀ (i : Nat) (o : Oper) (d : Nat), s + i ≠ late → l[i]? = some o → o.dst = some d → V d (f d) w) → AllPB V f w late s q
  | [], [], _, _, _, _ => trivial
  | [], _ :: _, _, _, h, _ => by simp [planAll] at h
  | _ :: _, [], _, _, h, _ => by simp [planAll] at h
  | o :: l, p :: q, n, s, h, hV => by
    simp only [planAll, Bool.and_eq_true] at h
    have hd : o.dst = some p.1 := by
      have := h.1
      simp only [planOne, Bool.and_eq_true] at this
      simpa using this.1.1.1.1
    exact ⟨fun hs => hV 0 o p.1 (by simpa using hs) (by simp) hd, allPB_of h.2 fun i o' d hs ho hd => hV (i + 1) o' d (by omega) (by simpa using ho) hd⟩

/-- Where the region stands. -/
def StL (P : Program) (Q : Exit → Act → World → Prop) (a : Act) (m : List Bool) (V : Nat → Value → World → Prop) (w0 : World) (ops : Array Oper) (k late : Nat) (listed : Array Bool) (a' : Act) (w : World) : Prop :=
  Closed ops listed ∧ (((∀ j, k ≤ j → listed[j]? ≠ some true) ∧ Inv a m V w0 ops listed a' w) ∨ (∃ i, k ≤ i ∧ (∀ j, j < ops.size → (listed[j]? = some true ↔ j < i)) ∧ wpList P ops Q (ops.toList.drop i) a' w) ∨
    ((∀ j, j < ops.size → (listed[j]? = some true ↔ j < k + 1 ∧ j ≠ late)) ∧ ∃ o, ops[late]? = some o ∧ wpList P ops Q (o :: ops.toList.drop (k + 1)) a' w))

theorem wpList_op {o : Oper} {i : Nat} {rest : List Oper} {K : Act → World → Prop} {a' : Act} {w : World} (ho : ops[i]? = some o) (hw : wpList P ops Q (o :: rest) a' w) (h : ∀ a2 w2, wpList P ops Q rest a2 w2 → K a2 w2) : wpOp P ops Q i K a' w := by
  unfold wpList at hw
  unfold wpOp
  rw [ho]
  simp only
  split
  · rename_i hwn
    rw [if_pos hwn] at hw
    exact hw.imp (Oper.wp_mono h) id
  · rename_i hwn
    rw [if_neg hwn] at hw
    exact h _ _ hw

theorem seqL_any (hmono : ∀ d v w w', V d v w → Below w.heap.size w w' → V d v w') (hback : backE 0 ops.toList = true) (hnd : nodupB (plan.map (·.1)) = true) (hall : planAll ops m a.tmps.size (ops.toList.take k) plan = true) (hseq : seqLB ops k late = true) (hk : k < ops.size) (hlk : late < k)
    (hob : Obls P Q a m V w0 (ops.toList.take k) plan) (hsuf : ∀ f w, Below w0.heap.size w0 w → AllP V f w plan → wpList P ops Q (ops.toList.drop k) (over a m f) w)
    (hsufL : ∀ f w ok ol, ops[k]? = some ok → ops[late]? = some ol → Below w0.heap.size w0 w → AllPB V f w late 0 plan → wpList P ops Q (ok :: ol :: ops.toList.drop (k + 1)) (over a m f) w) :
    ∀ (fuel : Nat) (listed : Array Bool) (a' : Act) (w : World), listed.size = ops.size → listed.toList.count false ≤ fuel → StL P Q a m V w0 ops k late listed a' w → wpAny P .any ops Q fuel listed a' w := by
  have hcov : ∀ {listed : Array Bool}, Closed ops listed → ∀ {i : Nat}, i ∈ Region.ready .any ops listed → k ≤ i → ∀ j, j < i → (i = k → j ≠ late) → listed[j]? = some true := by
    intro listed hc i hi hki j hj hnl
    obtain ⟨hlt, _, hp⟩ := ready_pre hi
    unfold seqLB at hseq
    have h1 := List.all_eq_true.1 hseq i (by simpa using hlt)
    rw [Bool.or_eq_true] at h1
    rcases h1 with h1 | h1
    · simp at h1; omega
    · have h2 := List.all_eq_true.1 h1 j (by simpa using hj)
      rw [Bool.or_eq_true] at h2
      rcases h2 with h2 | h2
      · simp at h2; exact absurd h2.2 (hnl h2.1)
      · exact covers_listed hc _ i j hp h2
  have hpre : ∀ {listed : Array Bool} {a' : Act} {w : World}, Inv a m V w0 ops listed a' w → ∃ f, a' = over a m f ∧ Below w0.heap.size w0 w ∧ ((∀ j, j < k → listed[j]? = some true) → AllP V f w plan) ∧ ((∀ j, j < k → j ≠ late → listed[j]? = some true) → AllPB V f w late 0 plan) := by
    rintro listed a' w ⟨f, rfl, hb, hV⟩
    have key : ∀ (i : Nat) (o : Oper) (d : Nat), (ops.toList.take k)[i]? = some o → o.dst = some d → listed[i]? = some true → V d (f d) w := fun i o d ho hd hl => by
      have hik : i < k := by
        by_cases h : i < k
        · exact h
        · rw [List.getElem?_take, if_neg h] at ho; cases ho
      rw [List.getElem?_take, if_pos hik] at ho
      exact hV i o d (by simpa using ho) hd hl
    have klt : ∀ (i : Nat) (o : Oper), (ops.toList.take k)[i]? = some o → i < k := fun i o ho => by
      by_cases h : i < k
      · exact h
      · rw [List.getElem?_take, if_neg h] at ho; cases ho
    exact ⟨f, rfl, hb, fun hl => allP_of hall fun i o d ho hd => key i o d ho hd (hl i (klt i o ho)), fun hl => allPB_of (s := 0) hall fun i o d hs ho hd => key i o d ho hd (hl i (klt i o ho) (by omega))⟩
  have hend : ∀ (listed : Array Bool) (a' : Act) (w : World), listed.size = ops.size → StL P Q a m V w0 ops k late listed a' w → Region.ready .any ops listed = [] → Q .normal a' w := by
    rintro listed a' w hsz ⟨_, h⟩ hr
    have hal := all_listedE hback hsz hr
    rcases h with ⟨hs, _⟩ | ⟨i, hki, hl, hw⟩ | ⟨hl, _⟩
    · exact absurd (hal k hk) (hs k (Nat.le_refl _))
    · have : ops.size ≤ i := by
        by_cases h : i < ops.size
        · have := (hl i h).1 (hal i h); omega
        · omega
      rw [List.drop_eq_nil_of_le (by simpa using this)] at hw
      exact hw
    · exact absurd rfl ((hl late (by omega)).1 (hal late (by omega))).2
  have hd : ∀ i (hi : i < ops.size), ops.toList.drop i = ops[i] :: ops.toList.drop (i + 1) := fun i hi => by
    rw [List.drop_eq_getElem_cons (by simpa using hi)]; simp
  have hset : ∀ {listed : Array Bool} {i j : Nat}, listed.size = ops.size → i < ops.size → ((listed.setIfInBounds i true)[j]? = some true ↔ i = j ∨ listed[j]? = some true) := by
    intro listed i j hsz hi
    rw [Array.getElem?_setIfInBounds]
    by_cases e : i = j
    · subst e; rw [if_pos rfl, if_pos (by omega)]; simp
    · rw [if_neg e]; simp [e]
  intro fuel
  induction fuel with
  | zero =>
    intro listed a' w hsz hc hI
    have hr : Region.ready .any ops listed = [] := by
      rw [List.eq_nil_iff_forall_not_mem]
      intro i hi
      obtain ⟨hlt, h1, _⟩ := ready_pre hi
      have h0 : listed.toList.count false = 0 := by omega
      rw [List.count_eq_zero] at h0
      have hlt2 : i < listed.size := by omega
      simp only [Array.getD_eq_getD_getElem?, Array.getElem?_eq_getElem hlt2, Option.getD_some] at h1
      exact h0 (by rw [← h1]; simp)
    exact ⟨hr, hend listed a' w hsz hI hr⟩
  | succ fuel ih =>
    intro listed a' w hsz hc hI
    refine ⟨hend listed a' w hsz hI, fun i hi => ?_⟩
    have hrp := ready_pre hi
    have hlt2 : i < listed.size := by omega
    have h1 := hrp.2.1
    simp only [Array.getD_eq_getD_getElem?, Array.getElem?_eq_getElem hlt2, Option.getD_some] at h1
    have hcount : (listed.setIfInBounds i true).toList.count false ≤ fuel := by
      have hl : i < listed.toList.length := by simpa using hlt2
      have h2 : listed.toList[i] = false := by simpa using h1
      rw [Array.toList_setIfInBounds, List.count_set hl, h2]
      have hp : 0 < listed.toList.count false := List.count_pos_iff.2 (by rw [← h2]; exact List.getElem_mem _)
      rw [if_pos (by rfl), if_neg (by decide)]
      omega
    have hnl : listed[i]? ≠ some true := by rw [Array.getElem?_eq_getElem hlt2, h1]; simp
    refine wpOp_mono (K := fun a2 w2 => StL P Q a m V w0 ops k late (listed.setIfInBounds i true) a2 w2) (fun a2 w2 h2 => ih _ _ _ (by simpa using hsz) hcount h2) ?_
    obtain ⟨hcl, hS⟩ := hI
    have hcl2 := closed_next hcl hi
    have hoi : ops[i]? = some ops[i] := by simp [hrp.1]
    rcases hS with ⟨hsu, hI⟩ | ⟨i0, hki, hl, hw⟩ | ⟨hl, o, ho, hw⟩
    · by_cases hik : i < k
      · refine wpOp_mono (fun a2 w2 h2 => ⟨hcl2, .inl ⟨fun j hj => ?_, h2⟩⟩) (seq_step hmono hnd hall hob hik hsu hi hI)
        rw [Array.getElem?_setIfInBounds, if_neg (by omega)]
        exact hsu j hj
      · have he : i = k := by
          by_cases h : i = k
          · exact h
          · exact absurd (hcov hcl hi (by omega) k (by omega) (fun e => absurd e h)) (hsu k (Nat.le_refl _))
        subst he
        have hlow : ∀ j, j < i → j ≠ late → listed[j]? = some true := fun j hj hn => hcov hcl hi (Nat.le_refl _) j hj (fun _ => hn)
        obtain ⟨f, rfl, hb, hA, hB⟩ := hpre hI
        have hsu2 : ∀ j, listed[j]? = some true → j < i := fun j h => by
          by_cases h2 : j < i
          · exact h2
          · exact absurd h (hsu j (by omega))
        by_cases hla : listed[late]? = some true
        · have hall2 : ∀ j, j < i → listed[j]? = some true := fun j hj => by
            by_cases e : j = late
            · rw [e]; exact hla
            · exact hlow j hj e
          have hw := hsuf f w hb (hA hall2)
          rw [hd i hrp.1] at hw
          refine wpList_op hoi hw fun a2 w2 h2 => ⟨hcl2, .inr (.inl ⟨i + 1, by omega, fun j hj => ?_, h2⟩)⟩
          rw [hset hsz hrp.1]
          constructor
          · rintro (h | h)
            · omega
            · have := hsu2 j h; omega
          · intro h
            by_cases e : i = j
            · exact .inl e
            · exact .inr (hall2 j (by omega))
        · obtain ⟨ol, hol⟩ : ∃ ol, ops[late]? = some ol := ⟨ops[late]'(by omega), by simp⟩
          have hw := hsufL f w _ ol hoi hol hb (hB hlow)
          refine wpList_op hoi hw fun a2 w2 h2 => ⟨hcl2, .inr (.inr ⟨fun j hj => ?_, ol, hol, h2⟩)⟩
          rw [hset hsz hrp.1]
          constructor
          · rintro (h | h)
            · exact ⟨by omega, by omega⟩
            · refine ⟨by have := hsu2 j h; omega, fun e => hla (by rw [← e]; exact h)⟩
          · rintro ⟨h, hn⟩
            by_cases e : i = j
            · exact .inl e
            · exact .inr (hlow j (by omega) hn)
    · have hge : i0 ≤ i := by
        by_cases h : i < i0
        · exact absurd ((hl i hrp.1).2 h) hnl
        · omega
      have he : i = i0 := by
        by_cases h : i = i0
        · exact h
        · have h3 := hcov hcl hi (by omega) i0 (by omega) (fun e => by omega)
          have := (hl i0 (by omega)).1 h3
          omega
      subst he
      rw [hd i hrp.1] at hw
      refine wpList_op hoi hw fun a2 w2 h2 => ⟨hcl2, .inr (.inl ⟨i + 1, by omega, fun j hj => ?_, h2⟩)⟩
      rw [hset hsz hrp.1, hl j hj]
      omega
    · have he : i = late := by
        by_cases h : i = late
        · exact h
        · have hgt : k < i := by
            by_cases h2 : i < k + 1
            · exact absurd ((hl i hrp.1).2 ⟨h2, h⟩) hnl
            · omega
          have h3 := hcov hcl hi (by omega) late (by omega) (fun e => by omega)
          exact absurd rfl ((hl late (by omega)).1 h3).2
      subst he
      refine wpList_op ho hw fun a2 w2 h2 => ⟨hcl2, .inr (.inl ⟨k + 1, by omega, fun j hj => ?_, h2⟩)⟩
      rw [hset hsz hrp.1, hl j hj]
      constructor
      · rintro (h | h)
        · omega
        · exact h.1
      · intro h
        by_cases e : i = j
        · exact .inl e
        · exact .inr ⟨h, fun e2 => e e2.symm⟩

theorem region_seqL {id : Nat} (k late : Nat) (m : List Bool) (plan : Plan) (V : Nat → Value → World → Prop) (hmix : P.follows .mixedOrders = true) (hback : backE 0 ops.toList = true) (hnd : nodupB (plan.map (·.1)) = true) (hall : planAll ops m a.tmps.size (ops.toList.take k) plan = true)
    (hseq : seqLB ops k late = true) (hk : k < ops.size) (hlk : late < k) (hmono : ∀ d v w w', V d v w → Below w.heap.size w w' → V d v w') (hob : Obls P Q a m V w0 (ops.toList.take k) plan)
    (hsuf : ∀ f w, Below w0.heap.size w0 w → AllP V f w plan → wpList P ops Q (ops.toList.drop k) (over a m f) w)
    (hsufL : ∀ f w ok ol, ops[k]? = some ok → ops[late]? = some ol → Below w0.heap.size w0 w → AllPB V f w late 0 plan → wpList P ops Q (ok :: ol :: ops.toList.drop (k + 1)) (over a m f) w) : (Code.region id ops true).wp P Q a w0 := by
  refine wp_region_any hmix (seqL_any hmono hback hnd hall hseq hk hlk hob hsuf hsufL _ _ _ _ (by simp) (by simp) ⟨?_, .inl ⟨?_, fun k => (a.tmps.toList[k]?).getD undef, (over_start a m).symm, ⟨rfl, rfl, rfl, Nat.le_refl _, fun _ _ => rfl⟩, ?_⟩⟩)
  · intro i o _ h
    simp [Array.getElem?_replicate] at h
  · intro j _ h
    simp [Array.getElem?_replicate] at h
  · intro i o d _ _ h
    simp [Array.getElem?_replicate] at h
end
end Go.Proofs.YtgbnjgenopdmfaaGreat
