import Derived.Test.YtcajifelbldjnaaGreatHg

/- What mean does, plainly: what may be stays so, and nothing is lost. -/
namespace Go.Proofs.YtcajifelbldjnaaGreat
open Go.RowKit F
theorem pl_same {f : List Pc} (h : F.Pl f) : plainL f = f := pl_unique _ _ (pl_plainL h.nn) h (ex_plainL h.nn)
theorem mayHold_iff {f : List Pc} {m : Int} : mayHold f m = true ↔ fref f = 0 ∧ plainL f = f ∧ tot f ≤ m := by simp [mayHold, and_assoc]
theorem pl_of {f : List Pc} (hr : fref f = 0) (h : plainL f = f) : F.Pl f := by rw [← h]; exact pl_plainL (fref_in hr).2.1.nn
/-! ### put together -/
theorem togR_ok {f g : List Pc} {m : Int} (h : (togR f g m).2 = 0) :
    fref f = 0 ∧ fref g = 0 ∧ tot f + tot g ≤ m ∧ (togR f g m).1 = plainL (f ++ g) ∧ (plainL (f ++ g)).length ≤ 100 ∧ tot f + tot g ≤ 1000000000 := by
  unfold togR at h ⊢
  split at h
  · simp at h
  · rename_i hm
    rw [if_neg hm]
    unfold putR at h ⊢
    split at h
    · rename_i hf
      split at h
      · rename_i hg
        split at h
        · simp at h
        · rename_i ht
          split at h
          · simp at h
          · rename_i hl
            rw [if_pos hf, if_pos hg, if_neg ht, if_neg hl]
            simp only [totR, if_pos hf, if_pos hg] at hm
            exact ⟨hf, hg, by omega, rfl, by omega, by omega⟩
      · rename_i hg; exact absurd h hg
    · rename_i hf; exact absurd h hf
theorem fref_plain {f g : List Pc} (hf : fref f = 0) (hg : fref g = 0) (hl : (plainL (f ++ g)).length ≤ 100) (ht : tot f + tot g ≤ 1000000000) : fref (plainL (f ++ g)) = 0 := by
  have h1 := fine_append (fref_in hf).2.1 (fref_in hg).2.1
  have e : tot (f ++ g) ≤ 1000000000 := by rw [tot_append]; exact ht
  exact of_fref hl (fine_plainL h1 e) (by rw [tot_plainL]; exact e)
theorem mayHold_tog {f g : List Pc} {m : Int} (h : (togR f g m).2 = 0) : mayHold (togR f g m).1 m = true := by
  obtain ⟨hf, hg, hm, e, hl, ht⟩ := togR_ok h
  rw [e, mayHold_iff]
  have h1 := fine_append (fref_in hf).2.1 (fref_in hg).2.1
  exact ⟨fref_plain hf hg hl ht, pl_same (pl_plainL h1.nn), by rw [tot_plainL, tot_append]; exact hm⟩
theorem tot_tog {f g : List Pc} {m : Int} (h : (togR f g m).2 = 0) : tot (togR f g m).1 = tot f + tot g := by
  obtain ⟨_, _, _, e, _, _⟩ := togR_ok h
  rw [e, tot_plainL, tot_append]

/-! ### drawn -/
theorem drawF_ok {v : Int} {f : List Pc} (h : (drawF v f).2.2 = 0) : fref f = 0 ∧ 0 ≤ v ∧ v ≤ tot f ∧ (drawF v f).1 = (drawS v f).1 ∧ (drawF v f).2.1 = (drawS v f).2.1 := by
  unfold drawF at h ⊢
  split at h
  · rename_i hf
    split at h
    · simp at h
    · rename_i hv
      split at h
      · simp at h
      · rename_i ht
        rw [if_pos hf, if_neg hv, if_neg ht]
        exact ⟨hf, by omega, by omega, rfl, rfl⟩
  · rename_i hf; exact absurd h hf
theorem tot_drawF {v : Int} {f : List Pc} (h : (drawF v f).2.2 = 0) : tot (drawF v f).1 = v ∧ tot (drawF v f).2.1 = tot f - v := by
  obtain ⟨hf, h0, h1, e1, e2⟩ := drawF_ok h
  rw [e1, e2]
  have h2 := tot_drawS v f
  have h3 := drawS_enough h0 (fref_in hf).2.1.nn h1
  omega
theorem mayHold_left {v m : Int} {f : List Pc} (h : (drawF v f).2.2 = 0) (hm : mayHold f m = true) : mayHold (drawF v f).2.1 m = true := by
  have ht := tot_drawF h
  obtain ⟨hf, h0, h1, e1, e2⟩ := drawF_ok h
  rw [mayHold_iff] at hm
  rw [mayHold_iff, ht.2, e2]
  exact ⟨(draw_fine h0 hf).2, pl_same (ex_drawS h0 (fref_in hf).2.1.nn).1.2, by omega⟩

/-! ### labels -/
theorem ba_ext {a b : ByteArray} (h : a.data.toList = b.data.toList) : a = b := ByteArray.ext (Array.ext' h)
theorem ltT_iff {a b : ByteArray} : ltT a b = true ↔ a.data.toList < b.data.toList := by simp [ltT]
theorem ltT_trans {a b c : ByteArray} (h : ltT a b = true) (h2 : ltT b c = true) : ltT a c = true := by
  rw [ltT_iff] at *
  exact List.lt_trans h h2
theorem ltT_ne {a b : ByteArray} (h : ltT a b = true) : a ≠ b := by
  rintro rfl
  rw [ltT_iff] at h
  exact List.lt_irrefl _ h
theorem ltT_total {a b : ByteArray} (hne : a ≠ b) (h : ¬ ltT a b = true) : ltT b a = true := by
  rw [ltT_iff] at *
  exact Decidable.byContradiction fun hn => hne (ba_ext (List.le_antisymm (List.not_lt.1 hn) (List.not_lt.1 h)))
theorem mem_insT {x y : ByteArray} {l : List ByteArray} : x ∈ insT y l ↔ x = y ∨ x ∈ l := by
  induction l with
  | nil => simp [insT]
  | cons z r ih =>
    unfold insT
    split
    · simp
    · split
      · rename_i e
        subst e
        simp
      · rw [List.mem_cons, ih, List.mem_cons]
        constructor
        · rintro (h | h | h)
          · exact .inr (.inl h)
          · exact .inl h
          · exact .inr (.inr h)
        · rintro (h | h | h)
          · exact .inr (.inl h)
          · exact .inl h
          · exact .inr (.inr h)
def RisT (t : List ByteArray) : Prop := t.Pairwise fun a b => ltT a b = true
theorem risT_insT {x : ByteArray} {l : List ByteArray} (h : RisT l) : RisT (insT x l) := by
  induction l with
  | nil => simp [insT, RisT]
  | cons z r ih =>
    obtain ⟨h1, h2⟩ := List.pairwise_cons.1 h
    unfold insT
    split
    · rename_i hlt
      refine List.pairwise_cons.2 ⟨fun y hy => ?_, h⟩
      rcases List.mem_cons.1 hy with rfl | hy
      · exact hlt
      · exact ltT_trans hlt (h1 y hy)
    · rename_i hlt
      split
      · exact h
      · rename_i hne
        refine List.pairwise_cons.2 ⟨fun y hy => ?_, ih h2⟩
        rcases mem_insT.1 hy with rfl | hy
        · exact ltT_total hne hlt
        · exact h1 y hy
theorem length_insT (x : ByteArray) (l : List ByteArray) : (insT x l).length ≤ l.length + 1 := by
  induction l with
  | nil => simp [insT]
  | cons z r ih =>
    unfold insT
    split
    · simp
    · split
      · simp
      · simp; omega
theorem mem_labsR {x : ByteArray} {f : List Pc} : x ∈ labsR f ↔ ∃ p ∈ f, p.1 = x ∧ 0 < p.2 := by
  induction f with
  | nil => simp [labsR]
  | cons p r ih =>
    unfold labsR
    split
    · rename_i h
      rw [mem_insT, ih]
      constructor
      · rintro (rfl | ⟨q, hq, e⟩)
        · exact ⟨p, by simp, rfl, h⟩
        · exact ⟨q, by simp [hq], e⟩
      · rintro ⟨q, hq, e, h2⟩
        rcases List.mem_cons.1 hq with rfl | hq
        · exact .inl e.symm
        · exact .inr ⟨q, hq, e, h2⟩
    · rename_i h
      rw [ih]
      constructor
      · rintro ⟨q, hq, e⟩
        exact ⟨q, by simp [hq], e⟩
      · rintro ⟨q, hq, e, h2⟩
        rcases List.mem_cons.1 hq with rfl | hq
        · exact absurd h2 h
        · exact ⟨q, hq, e, h2⟩
theorem risT_labsR (f : List Pc) : RisT (labsR f) := by
  induction f with
  | nil => simp [labsR, RisT]
  | cons p r ih =>
    unfold labsR
    split
    · exact risT_insT ih
    · exact ih
theorem length_labsR (f : List Pc) : (labsR f).length ≤ f.length := by
  induction f with
  | nil => simp [labsR]
  | cons p r ih =>
    unfold labsR
    split
    · have := length_insT p.1 (labsR r)
      simp; omega
    · simp; omega
theorem risT_unique {a b : List ByteArray} (ha : RisT a) (hb : RisT b) (h : ∀ x, x ∈ a ↔ x ∈ b) : a = b := by
  have nd : ∀ {T : List ByteArray}, RisT T → T.Nodup := fun hT => List.Pairwise.imp (fun {x y} hxy => ltT_ne hxy) hT
  have hp : a.Perm b := (List.perm_ext_iff_of_nodup (nd ha) (nd hb)).2 h
  exact List.Perm.eq_of_pairwise (fun x y _ _ h1 h2 => absurd rfl (ltT_ne (ltT_trans h1 h2))) ha hb hp
/-- What is sorted by labels tells them. -/
theorem srt_labs {f S : List Pc} (hn : F.Nn f) (h : Srt f S) : S.map (·.1) = labsR f := by
  refine risT_unique ?_ (risT_labsR f) fun x => ?_
  · exact List.pairwise_map.2 (h.1.imp fun {a b} hab => ltT_iff.2 hab)
  · rw [mem_labsR, List.mem_map]
    constructor
    · rintro ⟨p, hp, rfl⟩
      obtain ⟨h0, h1⟩ := (h.2 p).1 hp
      obtain ⟨q, hq, e, h2⟩ := (sumL_pos hn (lb p)).1 (by omega)
      exact ⟨q, hq, ba_ext e, h2⟩
    · rintro ⟨p, hp, rfl, h0⟩
      have h1 := (sumL_pos hn (lb p)).2 ⟨p, hp, rfl, h0⟩
      exact ⟨(p.1, sumL f (lb p)), (h.2 _).2 ⟨h1, rfl⟩, rfl⟩
theorem wthn_iff {f g : List Pc} (hg : F.Nn g) : wthn f g = true ↔ ∀ p ∈ f, 0 < p.2 → ∃ q ∈ g, q.1 = p.1 ∧ 0 < q.2 := by
  unfold wthn
  rw [List.all_eq_true]
  constructor
  · intro h p hp h0
    have := h p hp
    simp only [Bool.or_eq_true, decide_eq_true_eq] at this
    obtain ⟨q, hq, e, h2⟩ := (sumL_pos hg p.1.data.toList).1 (by omega)
    exact ⟨q, hq, ba_ext e, h2⟩
  · intro h p hp
    simp only [Bool.or_eq_true, decide_eq_true_eq]
    by_cases h0 : 0 < p.2
    · obtain ⟨q, hq, e, h2⟩ := h p hp h0
      exact .inr ((sumL_pos hg p.1.data.toList).2 ⟨q, hq, by rw [e], h2⟩)
    · exact .inl (by omega)
theorem drops_nn (t : List ByteArray) : F.Nn (drops t) := fun p hp => by
  obtain ⟨x, _, rfl⟩ := List.mem_map.1 hp
  simp
theorem tot_drops (t : List ByteArray) : tot (drops t) = t.length := by
  induction t with
  | nil => rfl
  | cons x t ih =>
    have : drops (x :: t) = (x, 1) :: drops t := rfl
    rw [this]
    simp only [tot, ih, List.length_cons]
    omega
theorem fref_drops {t : List ByteArray} (hl : t.length ≤ 100) (h : ∀ x ∈ t, lab x = true) : fref (drops t) = 0 := by
  refine of_fref (by simpa [drops] using hl) (fun p hp => ?_) (by rw [tot_drops]; omega)
  obtain ⟨x, hx, rfl⟩ := List.mem_map.1 hp
  exact ⟨h x hx, by simp, by simp⟩
theorem withR_iff {f g : List Pc} : (withR f g).1 = true ↔ fref f = 0 ∧ fref g = 0 ∧ wthn f g = true := by
  unfold withR
  split
  · rename_i h1
    split
    · rename_i h2; simp [h1, h2]
    · rename_i h2; simp [h1, h2]
  · rename_i h1; simp [h1]
theorem mem_drops {t : List ByteArray} {p : Pc} : p ∈ drops t ↔ p.1 ∈ t ∧ p.2 = 1 := by
  unfold drops
  rw [List.mem_map]
  constructor
  · rintro ⟨x, hx, rfl⟩; exact ⟨hx, rfl⟩
  · rintro ⟨hx, e⟩; exact ⟨p.1, hx, by rw [← e]⟩
theorem mayTouch_iff {t : List ByteArray} {h : List Pc} : mayTouch t h = true ↔ t.length ≤ 100 ∧ RisT t ∧ (withR h (drops t)).1 = true := by
  simp [mayTouch, and_assoc, RisT]

/-! ### what may be -/
structure May (l : List Sit) (s : Sta) : Prop where
  wells : ∀ x ∈ s.wells, (wellM l x.1).2 = 0 ∧ x.2 ≠ [] ∧ mayHold x.2 (wellM l x.1).1 = true
  rising : Rising s.wells
  take : mayTake l s = true
  heat : 0 ≤ s.heat ∧ s.heat ≤ 1000000000
  clock : 0 ≤ s.clock ∧ s.clock ≤ 1000000000
theorem mayB_iff {l : List Sit} {s : Sta} : mayB l s = true ↔ May l s := by
  unfold mayB mayFill
  simp only [Bool.and_eq_true, List.all_eq_true, decide_eq_true_eq, inR_iff]
  constructor
  · rintro ⟨⟨h1, h2⟩, h3, h4, h5⟩
    refine ⟨fun x hx => ?_, h2, h3, h4, h5⟩
    have := h1 x hx
    simp only [wellOk, Bool.and_eq_true, decide_eq_true_eq, and_assoc] at this
    exact this
  · rintro ⟨h1, h2, h3, h4, h5⟩
    refine ⟨⟨fun x hx => ?_, h2⟩, h3, h4, h5⟩
    simp only [wellOk, Bool.and_eq_true, decide_eq_true_eq, and_assoc]
    exact h1 x hx
theorem May.well {l : List Sit} {s : Sta} (h : May l s) (p : Plc) (h0 : 0 ≤ (wellM l p).1) : mayHold (wellF s.wells p) (wellM l p).1 = true := by
  rcases wellF_cases s.wells p with ⟨_, e⟩ | ⟨f, hf, e⟩
  · rw [e, mayHold_iff]
    exact ⟨by decide, rfl, h0⟩
  · rw [e]
    exact (h.wells _ hf).2.2
/-- A well set: the others as they were. -/
theorem wells_wset {l : List Sit} {ws : Wls} {p : Plc} {f : List Pc} (h : ∀ x ∈ ws, (wellM l x.1).2 = 0 ∧ x.2 ≠ [] ∧ mayHold x.2 (wellM l x.1).1 = true)
    (hm : (wellM l p).2 = 0) (hf : mayHold f (wellM l p).1 = true) : ∀ x ∈ wset ws p f, (wellM l x.1).2 = 0 ∧ x.2 ≠ [] ∧ mayHold x.2 (wellM l x.1).1 = true := by
  intro x hx
  rcases mem_wset.1 hx with ⟨rfl, hne⟩ | ⟨hx, _⟩
  · exact ⟨hm, hne, hf⟩
  · exact h x hx
theorem aimR_ok {l : List Sit} {a : Acn} (h : (aimR l a).2 = 0) : (wellM l a.pl).2 = 0 ∧ (aimR l a).1 = (wellM l a.pl).1 ∧ 1 ≤ a.vol ∧ a.vol ≤ 1000000000 := by
  unfold aimR at h ⊢
  split at h
  · rename_i h1
    split at h
    · rename_i h2
      rw [if_pos h1, if_pos h2]
      exact ⟨h1, rfl, (inR_iff.1 h2).1, (inR_iff.1 h2).2⟩
    · simp at h
  · rename_i h1; exact absurd h h1
theorem seatOf_in {l : List Sit} {n : Int} {s : Sit} (h : seatOf l n = some s) : s ∈ l ∧ s.slot = n :=
  ⟨List.mem_of_find?_eq_some h, by simpa using List.find?_some h⟩
theorem chk_cap {a : Wr} (h : chk a = 0) : 0 ≤ a.cap ∧ a.cap ≤ 1000000000 := by
  have h1 := (chk_in h).2.2.2.2.1
  simp only [rangeOk, Bool.and_eq_true] at h1
  have h2 := h1.2
  simp only [List.all_cons, List.all_nil, Bool.and_true, inR_iff] at h2
  have h3 : 0 ≤ loC a := by unfold loC; split <;> decide
  have h4 : hiC a ≤ 1000000000 := by unfold hiC; split <;> decide
  omega
theorem dchk_ware {l : List Sit} (hd : dchk l = 0) {s : Sit} (hs : s ∈ l) : chk s.ware = 0 ∧ 1 ≤ s.slot ∧ s.slot ≤ 12 := by
  obtain ⟨k, hk, rfl⟩ := List.mem_iff_getElem.1 hs
  obtain ⟨h1, h2, _⟩ := (dchk_in hd).2 k hk
  exact ⟨h2, (plc_in h1).1, (plc_in h1).2.1⟩
theorem wareOf_in {l : List Sit} {p : Plc} {a : Wr} (h : wareOf l p = some a) : ∃ s ∈ l, s.slot = p.1 ∧ s.ware = a ∧ spotOk p.2.1 p.2.2 a.rows a.cols = true := by
  unfold wareOf at h
  split at h
  · rename_i s hs
    split at h
    · rename_i hsp
      injection h with h
      subst h
      exact ⟨s, (seatOf_in hs).1, (seatOf_in hs).2, rfl, hsp⟩
    · cases h
  · cases h
theorem wellM_in {l : List Sit} (hd : dchk l = 0) (p : Plc) : 0 ≤ (wellM l p).1 ∧ (wellM l p).1 ≤ 1000000000 := by
  unfold wellM
  split
  · rename_i a ha
    split
    · obtain ⟨s, hs, _, rfl, _⟩ := wareOf_in ha
      exact chk_cap (dchk_ware hd hs).1
    · simp
  · simp
theorem tipM_in {l : List Sit} (hd : dchk l = 0) : 0 ≤ tipM l ∧ tipM l ≤ 1000000000 := by
  unfold tipM
  split
  · simp
  · split
    · rename_i a ha
      obtain ⟨s, hs, _, rfl, _⟩ := wareOf_in ha
      exact chk_cap (dchk_ware hd hs).1
    · simp
theorem mayHold_nil {m : Int} (h : 0 ≤ m) : mayHold [] m = true := by
  rw [mayHold_iff]
  exact ⟨by decide, rfl, h⟩
theorem mayTouch_nil : mayTouch [] [] = true := by decide

/-! ### an action leaves what may be -/
theorem may_fill {l : List Sit} {s : Sta} {a : Acn} (h : May l s) (h0 : (fillA l s a).2 = 0) :
    May l (fillA l s a).1 ∧ liq (fillA l s a).1.wells = liq s.wells + a.vol ∧ (fillA l s a).1.held = s.held ∧ (fillA l s a).1.used = s.used ∧ (fillA l s a).1.clock = s.clock := by
  unfold fillA at h0 ⊢
  split at h0
  · rename_i h1; exact absurd h0 h1
  · rename_i h1
    split at h0
    · rename_i h2; exact absurd h0 h2
    · rename_i h2
      split at h0
      · rename_i h3; exact absurd h0 h3
      · rename_i h3
        rw [if_neg h1, if_neg h2, if_neg h3]
        have h3' := Decidable.not_not.1 h3
        obtain ⟨a1, a2, _, _⟩ := aimR_ok (Decidable.not_not.1 h1)
        have hh := mayHold_tog h3'
        refine ⟨⟨wells_wset h.wells a1 (by rw [← a2]; exact hh), rising_wset h.rising _ _, h.take, h.heat, h.clock⟩, ?_, rfl, rfl, rfl⟩
        rw [liq_wset h.rising, tot_tog h3']
        simp only [tot]
        omega
theorem may_tip {l : List Sit} {s : Sta} (hd : dchk l = 0) (h : May l s) (h0 : (tipA l s).2 = 0) :
    May l (tipA l s).1 ∧ (tipA l s).1.wells = s.wells ∧ (tipA l s).1.held = s.held ∧ (tipA l s).1.used = s.used + 1 ∧ (tipA l s).1.clock = s.clock := by
  unfold tipA at h0 ⊢
  split at h0
  · simp at h0
  · rename_i h1
    split at h0
    · simp at h0
    · rename_i h2
      rw [if_neg h1, if_neg h2]
      have ht := h.take
      unfold mayTake at ht
      rw [if_neg h1] at ht
      simp only [Bool.and_eq_true, decide_eq_true_eq, inR_iff] at ht
      obtain ⟨⟨u0, u1⟩, e1, e2⟩ := ht
      refine ⟨⟨h.wells, h.rising, ?_, h.heat, h.clock⟩, rfl, rfl, rfl, rfl⟩
      unfold mayTake
      simp only [if_true, Bool.and_eq_true, inR_iff]
      refine ⟨⟨by omega, by omega⟩, ?_, ?_⟩
      · rw [e1]; exact mayHold_nil (tipM_in hd).1
      · rw [e1, e2]; exact mayTouch_nil
theorem may_drop {l : List Sit} {s : Sta} (h : May l s) (h0 : (dropA s).2 = 0) :
    May l (dropA s).1 ∧ (dropA s).1.wells = s.wells ∧ (dropA s).1.held = [] ∧ (dropA s).1.used = s.used ∧ (dropA s).1.clock = s.clock ∧ (dropA s).1.tip = false := by
  unfold dropA at h0 ⊢
  split at h0
  · rename_i h1
    rw [if_pos h1]
    have ht := h.take
    unfold mayTake at ht
    rw [if_pos h1] at ht
    simp only [Bool.and_eq_true, inR_iff] at ht
    refine ⟨⟨h.wells, h.rising, ?_, h.heat, h.clock⟩, rfl, rfl, rfl, rfl, rfl⟩
    unfold mayTake
    simp only [Bool.false_eq_true, if_false, Bool.and_eq_true, decide_eq_true_eq, inR_iff]
    exact ⟨⟨by omega, by omega⟩, trivial, trivial⟩
  · simp at h0
theorem tip_parts {l : List Sit} {s : Sta} (h : May l s) (ht : s.tip = true) : 1 ≤ s.used ∧ s.used ≤ (tipsL l).length ∧ mayHold s.held (tipM l) = true ∧ mayTouch s.touched s.held = true := by
  have := h.take
  unfold mayTake at this
  rw [if_pos ht] at this
  simp only [Bool.and_eq_true, inR_iff] at this
  exact ⟨this.1.1, this.1.2, this.2.1, this.2.2⟩
theorem take_of {l : List Sit} {s : Sta} (ht : s.tip = true) (h1 : 1 ≤ s.used) (h2 : s.used ≤ (tipsL l).length) (h3 : mayHold s.held (tipM l) = true) (h4 : mayTouch s.touched s.held = true) : mayTake l s = true := by
  unfold mayTake
  rw [if_pos ht]
  simp only [Bool.and_eq_true, inR_iff]
  exact ⟨⟨h1, h2⟩, h3, h4⟩
theorem may_draw {l : List Sit} {s : Sta} {a : Acn} (hd : dchk l = 0) (h : May l s) (h0 : (drawA l s a).2 = 0) :
    May l (drawA l s a).1 ∧ liq (drawA l s a).1.wells + tot (drawA l s a).1.held = liq s.wells + tot s.held ∧ (drawA l s a).1.used = s.used ∧ (drawA l s a).1.clock = s.clock := by
  unfold drawA at h0 ⊢
  split at h0
  · rename_i h1; exact absurd h0 h1
  · rename_i h1
    split at h0
    · simp at h0
    · rename_i h2
      split at h0
      · rename_i h3; exact absurd h0 h3
      · rename_i h3
        split at h0
        · simp at h0
        · rename_i h4
          split at h0
          · rename_i h5; exact absurd h0 h5
          · rename_i h5
            rw [if_neg h1, if_neg h2, if_neg h3, if_neg h4, if_neg h5]
            have h3' := Decidable.not_not.1 h3
            have h4' : (withR (drops s.touched) (wellF s.wells a.pl)).1 = true := by simpa using h4
            have h5' := Decidable.not_not.1 h5
            have ht : s.tip = true := by simpa using h2
            obtain ⟨a1, a2, _, _⟩ := aimR_ok (Decidable.not_not.1 h1)
            have hw := h.well a.pl (wellM_in hd a.pl).1
            obtain ⟨u1, u2, u3, u4⟩ := tip_parts h ht
            obtain ⟨d1, d2, d3, d4, d5⟩ := drawF_ok h3'
            have td := tot_drawF h3'
            obtain ⟨t1, t2, t3, t4, t5, t6⟩ := togR_ok h5'
            obtain ⟨m1, m2, m3⟩ := mayTouch_iff.1 u4
            obtain ⟨n1, n2, n3⟩ := withR_iff.1 m3
            obtain ⟨k1, k2, k3⟩ := withR_iff.1 h4'
            have hpl := pl_of (mayHold_iff.1 hw).1 (mayHold_iff.1 hw).2.1
            refine ⟨⟨wells_wset h.wells a1 (mayHold_left h3' hw), rising_wset h.rising _ _, ?_, h.heat, h.clock⟩, ?_, rfl, rfl⟩
            · refine take_of ht u1 u2 (mayHold_tog h5') (mayTouch_iff.2 ⟨?_, risT_labsR _, withR_iff.2 ⟨?_, ?_, ?_⟩⟩)
              · have := length_labsR (wellF s.wells a.pl)
                have := (fref_in d1).1
                simp only
                omega
              · exact (mayHold_iff.1 (mayHold_tog h5')).1
              · refine fref_drops (by have := length_labsR (wellF s.wells a.pl); have := (fref_in d1).1; simp only; omega) fun x hx => ?_
                obtain ⟨p, hp, rfl, _⟩ := mem_labsR.1 hx
                exact ((fref_in d1).2.1 p hp).1
              · rw [wthn_iff (drops_nn _)]
                intro p hp hp0
                have hall : ∀ q ∈ s.held ++ (drawF a.vol (wellF s.wells a.pl)).1, (∃ r ∈ wellF s.wells a.pl, r.1 = q.1 ∧ 0 < r.2) ∧ 0 ≤ q.2 := by
                  intro q hq
                  rcases List.mem_append.1 hq with hq | hq
                  · have hp1 := pl_of (mayHold_iff.1 u3).1 (mayHold_iff.1 u3).2.1
                    have q0 := hp1.1 q hq
                    obtain ⟨r, hr, e, _⟩ := (wthn_iff (drops_nn _)).1 n3 q hq q0
                    obtain ⟨r', hr', e', h'⟩ := (wthn_iff hpl.nn).1 k3 r hr (by rw [(mem_drops.1 hr).2]; decide)
                    exact ⟨⟨r', hr', by rw [e', e], h'⟩, Int.le_of_lt q0⟩
                  · rw [d4] at hq
                    exact (drawS_all (C := fun x => ∃ r ∈ wellF s.wells a.pl, r.1 = x ∧ 0 < r.2) d2 (ps := wellF s.wells a.pl) fun q hq => ⟨⟨q, hq, rfl, hpl.1 q hq⟩, Int.le_of_lt (hpl.1 q hq)⟩).1 q hq
                simp only at hp
                rw [t4] at hp
                obtain ⟨r, hr, e, hr0⟩ := (plainL_all (C := fun x => ∃ r ∈ wellF s.wells a.pl, r.1 = x ∧ 0 < r.2) hall p hp).1
                exact ⟨(p.1, 1), mem_drops.2 ⟨mem_labsR.2 ⟨r, hr, e, hr0⟩, rfl⟩, rfl, Int.one_pos⟩
            · simp only
              rw [liq_wset h.rising, tot_tog h5', td.1, td.2]
              omega
theorem may_put {l : List Sit} {s : Sta} {a : Acn} (h : May l s) (h0 : (putA l s a).2 = 0) :
    May l (putA l s a).1 ∧ liq (putA l s a).1.wells + tot (putA l s a).1.held = liq s.wells + tot s.held ∧ (putA l s a).1.used = s.used ∧ (putA l s a).1.clock = s.clock := by
  unfold putA at h0 ⊢
  split at h0
  · rename_i h1; exact absurd h0 h1
  · rename_i h1
    split at h0
    · simp at h0
    · rename_i h2
      split at h0
      · rename_i h3; exact absurd h0 h3
      · rename_i h3
        split at h0
        · rename_i h5; exact absurd h0 h5
        · rename_i h5
          rw [if_neg h1, if_neg h2, if_neg h3, if_neg h5]
          have h3' := Decidable.not_not.1 h3
          have h5' := Decidable.not_not.1 h5
          have ht : s.tip = true := by simpa using h2
          obtain ⟨a1, a2, _, _⟩ := aimR_ok (Decidable.not_not.1 h1)
          obtain ⟨u1, u2, u3, u4⟩ := tip_parts h ht
          obtain ⟨d1, d2, d3, d4, d5⟩ := drawF_ok h3'
          have td := tot_drawF h3'
          obtain ⟨m1, m2, m3⟩ := mayTouch_iff.1 u4
          obtain ⟨n1, n2, n3⟩ := withR_iff.1 m3
          have hh := mayHold_tog h5'
          refine ⟨⟨wells_wset h.wells a1 (by rw [← a2]; exact hh), rising_wset h.rising _ _, ?_, h.heat, h.clock⟩, ?_, rfl, rfl⟩
          · refine take_of ht u1 u2 (mayHold_left h3' u3) (mayTouch_iff.2 ⟨m1, m2, withR_iff.2 ⟨(mayHold_iff.1 (mayHold_left h3' u3)).1, n2, ?_⟩⟩)
            rw [wthn_iff (drops_nn _)]
            intro p hp hp0
            have hp1 := pl_of (mayHold_iff.1 u3).1 (mayHold_iff.1 u3).2.1
            simp only at hp
            rw [d5] at hp
            obtain ⟨r, hr, e, hr0⟩ := ((drawS_all (C := fun x => ∃ r ∈ s.held, r.1 = x ∧ 0 < r.2) d2 (ps := s.held) fun q hq => ⟨⟨q, hq, rfl, hp1.1 q hq⟩, Int.le_of_lt (hp1.1 q hq)⟩).2 p hp).1
            obtain ⟨r', hr', e', h'⟩ := (wthn_iff (drops_nn _)).1 n3 r hr hr0
            exact ⟨r', hr', by rw [e', e], h'⟩
          · simp only
            rw [liq_wset h.rising, tot_tog h5', td.1, td.2]
            omega
theorem may_warm {l : List Sit} {s : Sta} {a : Acn} (h : May l s) (h0 : (warmA s a).2 = 0) :
    May l (warmA s a).1 ∧ (warmA s a).1.wells = s.wells ∧ (warmA s a).1.held = s.held ∧ (warmA s a).1.used = s.used ∧ (warmA s a).1.clock = s.clock := by
  unfold warmA at h0 ⊢
  split at h0
  · rename_i h1
    rw [if_pos h1]
    exact ⟨⟨h.wells, h.rising, h.take, ⟨(inR_iff.1 h1).1, (inR_iff.1 h1).2⟩, h.clock⟩, rfl, rfl, rfl, rfl⟩
  · simp at h0
theorem may_pass {l : List Sit} {s : Sta} {a : Acn} (h : May l s) (h0 : (passA s a).2 = 0) :
    May l (passA s a).1 ∧ (passA s a).1.wells = s.wells ∧ (passA s a).1.held = s.held ∧ (passA s a).1.used = s.used ∧ s.clock ≤ (passA s a).1.clock := by
  unfold passA at h0 ⊢
  split at h0
  · rename_i h1
    split at h0
    · simp at h0
    · rename_i h2
      rw [if_pos h1, if_neg h2]
      have := inR_iff.1 h1
      have := h.clock
      exact ⟨⟨h.wells, h.rising, h.take, h.heat, ⟨by simp only; omega, by simp only; omega⟩⟩, rfl, rfl, rfl, by simp only; omega⟩
  · simp at h0
/-- All liquid of a state. -/
def liqS (s : Sta) : Int := liq s.wells + tot s.held
/-- What an action leaves, if it has no error. -/
structure Left (l : List Sit) (s : Sta) (a : Acn) (t : Sta) : Prop where
  may : May l t
  fill : a.kind = 5 → liqS t = liqS s + a.vol
  drop : a.kind = 7 → liqS t = liqS s - tot s.held ∧ t.tip = false
  rest : a.kind ≠ 5 → a.kind ≠ 7 → liqS t = liqS s
  used : s.used ≤ t.used
  clock : s.clock ≤ t.clock
theorem may_sta0 (l : List Sit) : May l sta0 := by
  refine ⟨fun x hx => (by simp at hx), List.Pairwise.nil, ?_, by simp, by simp⟩
  unfold mayTake
  simp [inR]
/-! ### how many wells there are -/
def keyP (p : Plc) : Int := (p.1 - 1) * 384 + p.2.2 * 16 + p.2.1
theorem rising_length {l : List Int} (h : l.Pairwise (· < ·)) {m n : Int} (hm : ∀ x ∈ l, m ≤ x ∧ x < n) (hmn : m ≤ n) : (l.length : Int) + m ≤ n := by
  induction l generalizing m with
  | nil => simpa using hmn
  | cons x r ih =>
    obtain ⟨h1, h2⟩ := List.pairwise_cons.1 h
    have hx := hm x (by simp)
    have := ih h2 (m := x + 1) (fun y hy => ⟨by have := h1 y hy; omega, (hm y (by simp [hy])).2⟩) (by omega)
    simp only [List.length_cons]
    omega
theorem wellM_place {l : List Sit} (hd : dchk l = 0) {p : Plc} (h : (wellM l p).2 = 0) : (1 ≤ p.1 ∧ p.1 ≤ 12) ∧ (0 ≤ p.2.1 ∧ p.2.1 < 16) ∧ 0 ≤ p.2.2 ∧ p.2.2 < 24 := by
  unfold wellM at h
  split at h
  · rename_i a ha
    obtain ⟨s, hs, e, rfl, hsp⟩ := wareOf_in ha
    obtain ⟨hc, h1, h2⟩ := dchk_ware hd hs
    have hr := inR_iff.1 (chk_in hc).2.2.1
    have hcl := inR_iff.1 (chk_in hc).2.2.2.1
    have := spotOk_iff.1 hsp
    omega
  · simp at h
theorem wells_few {l : List Sit} (hd : dchk l = 0) {s : Sta} (h : May l s) : s.wells.length ≤ 4608 := by
  have hp : (s.wells.map fun x => keyP x.1).Pairwise (· < ·) := by
    rw [List.pairwise_map]
    refine List.Pairwise.imp_of_mem ?_ h.rising
    intro x y hx hy hlt
    have h1 := wellM_place hd (h.wells x hx).1
    have h2 := wellM_place hd (h.wells y hy).1
    rw [plt_iff] at hlt
    unfold keyP
    omega
  have := rising_length hp (m := 0) (n := 4608) (fun k hk => by
    obtain ⟨x, hx, rfl⟩ := List.mem_map.1 hk
    have h1 := wellM_place hd (h.wells x hx).1
    unfold keyP
    omega) (by decide)
  simp only [List.length_map] at this
  omega
end Go.Proofs.YtcajifelbldjnaaGreat

/- Regions that draw their order, with stores. -/
namespace Go.Proofs.YtcajifelbldjnaaGreat
open Go.RowKit
def backE : Nat → List Oper → Bool
  | _, [] => true
  | k, o :: l => o.after.all (fun e => !Region.binds .any e || decide (e.on < k)) && backE (k + 1) l
theorem backE_at : ∀ {l : List Oper} {k : Nat}, backE k l = true → ∀ {i : Nat} {o : Oper}, l[i]? = some o → ∀ e ∈ o.after, Region.binds .any e = true → e.on < k + i
  | [], _, _, _, _, h => by simp at h
  | o :: l, k, h, 0, o', ho => by
    simp only [backE, Bool.and_eq_true] at h
    simp at ho; subst ho
    intro e he hbi
    have := Array.all_eq_true'.1 h.1 e he
    rw [hbi] at this
    simpa using this
  | o :: l, k, h, i + 1, o', ho => by
    simp only [backE, Bool.and_eq_true] at h
    intro e he hbi
    have := backE_at h.2 (i := i) (by simpa using ho) e he hbi
    omega
theorem all_listedE {ops : Array Oper} {listed : Array Bool} (hback : backE 0 ops.toList = true) (hsz : listed.size = ops.size) (hr : Region.ready .any ops listed = []) : ∀ i, i < ops.size → listed[i]? = some true := by
  intro i
  induction i using Nat.strongRecOn with
  | ind i ih =>
    intro hi
    cases hl : listed[i]? with
    | none => rw [Array.getElem?_eq_none_iff] at hl; omega
    | some b =>
      cases b with
      | true => rfl
      | false =>
        exfalso
        have hm : i ∈ Region.ready .any ops listed := by
          simp only [Region.ready, List.mem_filter, List.mem_range, Bool.and_eq_true]
          refine ⟨hi, by simp [Array.getD_eq_getD_getElem?, hl], ?_⟩
          have ho : ops[i]? = some ops[i] := by simp [hi]
          rw [ho]
          simp only [Option.map_some, Option.getD_some]
          rw [Array.all_eq_true']
          intro e he
          cases hbi : Region.binds .any e with
          | false => simp
          | true =>
            have h1 := backE_at hback (i := i) (o := ops[i]) (by simp) e he hbi
            have h2 := ih e.on (by omega) (by omega)
            simp [Array.getD_eq_getD_getElem?, h2]
        rw [hr] at hm
        simp at hm

section
variable {P : Program} {Q : Exit → Act → World → Prop} {a : Act} {m : List Bool} {V : Nat → Value → World → Prop} {w0 : World} {ops : Array Oper} {plan : Plan} {k late : Nat}
end
end Go.Proofs.YtcajifelbldjnaaGreat
