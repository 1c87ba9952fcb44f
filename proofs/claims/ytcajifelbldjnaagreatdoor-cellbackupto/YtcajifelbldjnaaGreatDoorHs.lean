import Derived.Test.YtcajifelbldjnaaGreatDoorHr
import Derived.Test.YtcajifelbldjnaaGreatDoorHo
import Derived.Laws.StructEq
set_option maxRecDepth 100000
set_option maxHeartbeats 25600000
set_option linter.unusedVariables false
namespace Go.Proofs.YtcajifelbldjnaaGreatDoor
open Go.RowKit F
def DoK (l : List Sit) (st : Sta) (a : Acn) (t : Sta) : Prop :=
 (a.kind = 5 ∧ t.held = st.held ∧ t.tip = st.tip ∧ t.used = st.used ∧ t.clock = st.clock) ∨
 (a.kind = 6 ∧ st.tip = false ∧ t.held = st.held ∧ t.tip = true ∧ st.used < (tipsL l).length ∧ t.used = st.used + 1 ∧ t.clock = st.clock) ∨
 (a.kind = 7 ∧ st.tip = true ∧ t.held = [] ∧ t.tip = false ∧ t.used = st.used ∧ t.clock = st.clock) ∨
 (a.kind = 8 ∧ st.tip = true ∧ (wellM l a.pl).2 = 0 ∧ 1 ≤ a.vol ∧ tot t.held = tot st.held + a.vol ∧ t.tip = true ∧ t.used = st.used ∧ t.clock = st.clock) ∨
 (a.kind = 9 ∧ st.tip = true ∧ (wellM l a.pl).2 = 0 ∧ 1 ≤ a.vol ∧ tot t.held = tot st.held - a.vol ∧ t.tip = true ∧ t.used = st.used ∧ t.clock = st.clock) ∨
 (a.kind = 11 ∧ (0 ≤ a.value ∧ a.value ≤ 1000000000) ∧ t.held = st.held ∧ t.tip = st.tip ∧ t.used = st.used ∧ t.clock = st.clock) ∨
 ((a.kind = 12 ∨ a.kind = 14) ∧ (0 ≤ a.time ∧ a.time ≤ 1000000000) ∧ t.held = st.held ∧ t.tip = st.tip ∧ t.used = st.used ∧ t.clock = st.clock + a.time) ∨
 (a.kind = 13 ∧ (0 ≤ a.value ∧ a.value ≤ 1000000000) ∧ (0 ≤ a.time ∧ a.time ≤ 1000000000) ∧ t.held = st.held ∧ t.tip = st.tip ∧ t.used = st.used ∧ t.clock = st.clock + a.time)
theorem DoK.fill {l : List Sit} {st : Sta} {a : Acn} {t : Sta} (k : a.kind = 5) (he : t.held = st.held) (ti : t.tip = st.tip) (us : t.used = st.used) (cl : t.clock = st.clock) : DoK l st a t := Or.inl ⟨k,he,ti,us,cl⟩
theorem DoK.tip {l : List Sit} {st : Sta} {a : Acn} {t : Sta} (k : a.kind = 6) (h0 : st.tip = false) (he : t.held = st.held) (ti : t.tip = true) (ul : st.used < (tipsL l).length) (us : t.used = st.used + 1) (cl : t.clock = st.clock) : DoK l st a t := Or.inr (Or.inl ⟨k,h0,he,ti,ul,us,cl⟩)
theorem DoK.drop {l : List Sit} {st : Sta} {a : Acn} {t : Sta} (k : a.kind = 7) (h0 : st.tip = true) (he : t.held = []) (ti : t.tip = false) (us : t.used = st.used) (cl : t.clock = st.clock) : DoK l st a t := Or.inr (Or.inr (Or.inl ⟨k,h0,he,ti,us,cl⟩))
theorem DoK.draw {l : List Sit} {st : Sta} {a : Acn} {t : Sta} (k : a.kind = 8) (h0 : st.tip = true) (wl : (wellM l a.pl).2 = 0) (v0 : 1 ≤ a.vol) (he : tot t.held = tot st.held + a.vol) (ti : t.tip = true) (us : t.used = st.used) (cl : t.clock = st.clock) : DoK l st a t := Or.inr (Or.inr (Or.inr (Or.inl ⟨k,h0,wl,v0,he,ti,us,cl⟩)))
theorem DoK.put {l : List Sit} {st : Sta} {a : Acn} {t : Sta} (k : a.kind = 9) (h0 : st.tip = true) (wl : (wellM l a.pl).2 = 0) (v0 : 1 ≤ a.vol) (he : tot t.held = tot st.held - a.vol) (ti : t.tip = true) (us : t.used = st.used) (cl : t.clock = st.clock) : DoK l st a t := Or.inr (Or.inr (Or.inr (Or.inr (Or.inl ⟨k,h0,wl,v0,he,ti,us,cl⟩))))
theorem DoK.warm {l : List Sit} {st : Sta} {a : Acn} {t : Sta} (k : a.kind = 11) (vr : 0 ≤ a.value ∧ a.value ≤ 1000000000) (he : t.held = st.held) (ti : t.tip = st.tip) (us : t.used = st.used) (cl : t.clock = st.clock) : DoK l st a t := Or.inr (Or.inr (Or.inr (Or.inr (Or.inr (Or.inl ⟨k,vr,he,ti,us,cl⟩)))))
theorem DoK.pass {l : List Sit} {st : Sta} {a : Acn} {t : Sta} (k : a.kind = 12 ∨ a.kind = 14) (tr : 0 ≤ a.time ∧ a.time ≤ 1000000000) (he : t.held = st.held) (ti : t.tip = st.tip) (us : t.used = st.used) (cl : t.clock = st.clock + a.time) : DoK l st a t := Or.inr (Or.inr (Or.inr (Or.inr (Or.inr (Or.inr (Or.inl ⟨k,tr,he,ti,us,cl⟩))))))
theorem DoK.shake {l : List Sit} {st : Sta} {a : Acn} {t : Sta} (k : a.kind = 13) (vr : 0 ≤ a.value ∧ a.value ≤ 1000000000) (tr : 0 ≤ a.time ∧ a.time ≤ 1000000000) (he : t.held = st.held) (ti : t.tip = st.tip) (us : t.used = st.used) (cl : t.clock = st.clock + a.time) : DoK l st a t := Or.inr (Or.inr (Or.inr (Or.inr (Or.inr (Or.inr (Or.inr ⟨k,vr,tr,he,ti,us,cl⟩))))))
theorem DoK.elim {l : List Sit} {st : Sta} {a : Acn} {t : Sta} {motive : DoK l st a t → Prop} (h : DoK l st a t)
  (fill : ∀ (k : a.kind = 5) (he : t.held = st.held) (ti : t.tip = st.tip) (us : t.used = st.used) (cl : t.clock = st.clock),motive (DoK.fill k he ti us cl))
  (tip : ∀ (k : a.kind = 6) (h0 : st.tip = false) (he : t.held = st.held) (ti : t.tip = true) (ul : st.used < (tipsL l).length) (us : t.used = st.used + 1) (cl : t.clock = st.clock),motive (DoK.tip k h0 he ti ul us cl))
  (drop : ∀ (k : a.kind = 7) (h0 : st.tip = true) (he : t.held = []) (ti : t.tip = false) (us : t.used = st.used) (cl : t.clock = st.clock),motive (DoK.drop k h0 he ti us cl))
  (draw : ∀ (k : a.kind = 8) (h0 : st.tip = true) (wl : (wellM l a.pl).2 = 0) (v0 : 1 ≤ a.vol) (he : tot t.held = tot st.held + a.vol) (ti : t.tip = true) (us : t.used = st.used) (cl : t.clock = st.clock),motive (DoK.draw k h0 wl v0 he ti us cl))
  (put : ∀ (k : a.kind = 9) (h0 : st.tip = true) (wl : (wellM l a.pl).2 = 0) (v0 : 1 ≤ a.vol) (he : tot t.held = tot st.held - a.vol) (ti : t.tip = true) (us : t.used = st.used) (cl : t.clock = st.clock),motive (DoK.put k h0 wl v0 he ti us cl))
  (warm : ∀ (k : a.kind = 11) (vr : 0 ≤ a.value ∧ a.value ≤ 1000000000) (he : t.held = st.held) (ti : t.tip = st.tip) (us : t.used = st.used) (cl : t.clock = st.clock),motive (DoK.warm k vr he ti us cl))
  (pass : ∀ (k : a.kind = 12 ∨ a.kind = 14) (tr : 0 ≤ a.time ∧ a.time ≤ 1000000000) (he : t.held = st.held) (ti : t.tip = st.tip) (us : t.used = st.used) (cl : t.clock = st.clock + a.time),motive (DoK.pass k tr he ti us cl))
  (shake : ∀ (k : a.kind = 13) (vr : 0 ≤ a.value ∧ a.value ≤ 1000000000) (tr : 0 ≤ a.time ∧ a.time ≤ 1000000000) (he : t.held = st.held) (ti : t.tip = st.tip) (us : t.used = st.used) (cl : t.clock = st.clock + a.time),motive (DoK.shake k vr tr he ti us cl)) : motive h := by
 rcases h with ⟨k,he,ti,us,cl⟩ | ⟨k,h0,he,ti,ul,us,cl⟩ | ⟨k,h0,he,ti,us,cl⟩ | ⟨k,h0,wl,v0,he,ti,us,cl⟩ | ⟨k,h0,wl,v0,he,ti,us,cl⟩ | ⟨k,vr,he,ti,us,cl⟩ | ⟨k,tr,he,ti,us,cl⟩ | ⟨k,vr,tr,he,ti,us,cl⟩
 ·exact fill k he ti us cl
 ·exact tip k h0 he ti ul us cl
 ·exact drop k h0 he ti us cl
 ·exact draw k h0 wl v0 he ti us cl
 ·exact put k h0 wl v0 he ti us cl
 ·exact warm k vr he ti us cl
 ·exact pass k tr he ti us cl
 ·exact shake k vr tr he ti us cl
theorem fill_same (l : List Sit) (s : Sta) (a : Acn) : (fillA l s a).1.held = s.held ∧ (fillA l s a).1.tip = s.tip ∧ (fillA l s a).1.used = s.used ∧ (fillA l s a).1.clock = s.clock := by
 unfold fillA
 repeat' split
 all_goals exact ⟨rfl,rfl,rfl,rfl⟩
theorem pass_ok {s : Sta} {a : Acn} (h : (passA s a).2 = 0) : (0 ≤ a.time ∧ a.time ≤ 1000000000) ∧ (passA s a).1.held = s.held ∧ (passA s a).1.tip = s.tip ∧ (passA s a).1.used = s.used ∧ (passA s a).1.clock = s.clock + a.time := by
 unfold passA at h ⊢
 split at h
 ·rename_i h1
  split at h
  ·simp at h
  ·rename_i h2
   rw [if_pos h1,if_neg h2];exact ⟨inR_iff.1 h1,rfl,rfl,rfl,rfl⟩
 ·simp at h
theorem tip_all {l : List Sit} {s : Sta} (h : (tipA l s).2 = 0) : s.tip = false ∧ (tipA l s).1.held = s.held ∧ (tipA l s).1.tip = true ∧ s.used < (tipsL l).length ∧ (tipA l s).1.used = s.used + 1 ∧ (tipA l s).1.clock = s.clock := by
 unfold tipA at h ⊢
 split at h
 ·simp at h
 ·rename_i h1
  split at h
  ·simp at h
  ·rename_i h2
   rw [if_neg h1,if_neg h2];exact ⟨by simpa using h1,rfl,rfl,by omega,rfl,rfl⟩
theorem drop_all {s : Sta} (h : (dropA s).2 = 0) : s.tip = true ∧ (dropA s).1.held = [] ∧ (dropA s).1.tip = false ∧ (dropA s).1.used = s.used ∧ (dropA s).1.clock = s.clock := by
 unfold dropA at h ⊢
 split at h
 ·rename_i h1
  rw [if_pos h1];exact ⟨h1,rfl,rfl,rfl,rfl⟩
 ·simp at h
theorem aim_well {l : List Sit} {a : Acn} (h : (aimR l a).2 = 0) : (wellM l a.pl).2 = 0 := by
 unfold aimR at h
 split at h
 ·assumption
 ·rename_i h1; exact absurd h h1
theorem draw_all {l : List Sit} {s : Sta} {a : Acn} (h0 : (drawA l s a).2 = 0) : s.tip = true ∧ (wellM l a.pl).2 = 0 ∧ 1 ≤ a.vol ∧ tot (drawA l s a).1.held = tot s.held + a.vol ∧ (drawA l s a).1.tip = true ∧ (drawA l s a).1.used = s.used ∧ (drawA l s a).1.clock = s.clock := by
 unfold drawA at h0 ⊢
 split at h0
 ·rename_i h1; exact absurd h0 h1
 ·rename_i h1
  have h1' := Classical.not_not.1 h1
  split at h0
  ·simp at h0
  ·rename_i h2
   split at h0
   ·rename_i h3; exact absurd h0 h3
   ·rename_i h3
    split at h0
    ·simp at h0
    ·rename_i h4
     split at h0
     ·rename_i h5; exact absurd h0 h5
     ·rename_i h5
      rw [if_neg h1,if_neg h2,if_neg h3,if_neg h4,if_neg h5];have ht : s.tip = true := by simpa using h2
      have e1 := tot_tog (Classical.not_not.1 h5);have e2 := (tot_drawF (Classical.not_not.1 h3)).1;refine ⟨ht,aim_well h1',(aim_vol h1').1,?_,ht,rfl,rfl⟩;show tot (togR s.held (drawF a.vol (wellF s.wells a.pl)).1 (tipM l)).1 = _;rw [e1,e2]
theorem put_all {l : List Sit} {s : Sta} {a : Acn} (h0 : (putA l s a).2 = 0) : s.tip = true ∧ (wellM l a.pl).2 = 0 ∧ 1 ≤ a.vol ∧ tot (putA l s a).1.held = tot s.held - a.vol ∧ (putA l s a).1.tip = true ∧ (putA l s a).1.used = s.used ∧ (putA l s a).1.clock = s.clock := by
 unfold putA at h0 ⊢
 split at h0
 ·rename_i h1; exact absurd h0 h1
 ·rename_i h1
  have h1' := Classical.not_not.1 h1
  split at h0
  ·simp at h0
  ·rename_i h2
   split at h0
   ·rename_i h3; exact absurd h0 h3
   ·rename_i h3
    split at h0
    ·rename_i h4; exact absurd h0 h4
    ·rename_i h4
     rw [if_neg h1,if_neg h2,if_neg h3,if_neg h4];have ht : s.tip = true := by simpa using h2
     have e2 := (tot_drawF (Classical.not_not.1 h3)).2;exact ⟨ht,aim_well h1',(aim_vol h1').1,e2,ht,rfl,rfl⟩
theorem doK {l : List Sit} {st : Sta} {a : Acn} (h0 : (doA l st a).2 = 0) : DoK l st a (doA l st a).1 := by
 unfold doA at h0 ⊢
 split at h0
 ·rename_i k
  rw [if_pos k];obtain ⟨x1,x2,x3,x4⟩ := fill_same l st a;exact .fill k x1 x2 x3 x4
 ·rename_i k5
  rw [if_neg k5]
  split at h0
  ·rename_i k
   rw [if_pos k];obtain ⟨x1,x2,x3,x4,x5,x6⟩ := tip_all h0;exact .tip k x1 x2 x3 x4 x5 x6
  ·rename_i k6
   rw [if_neg k6]
   split at h0
   ·rename_i k
    rw [if_pos k];obtain ⟨x1,x2,x3,x4,x5⟩ := drop_all h0;exact .drop k x1 x2 x3 x4 x5
   ·rename_i k7
    rw [if_neg k7]
    split at h0
    ·rename_i k
     rw [if_pos k];obtain ⟨x1,x2,x3,x4,x5,x6,x7⟩ := draw_all h0;exact .draw k x1 x2 x3 x4 x5 x6 x7
    ·rename_i k8
     rw [if_neg k8]
     split at h0
     ·rename_i k
      rw [if_pos k];obtain ⟨x1,x2,x3,x4,x5,x6,x7⟩ := put_all h0;exact .put k x1 x2 x3 x4 x5 x6 x7
     ·rename_i k9
      rw [if_neg k9]
      split at h0
      ·rename_i k
       rw [if_pos k];unfold warmA at h0 ⊢
       split at h0
       ·rename_i h1
        rw [if_pos h1];exact .warm k (inR_iff.1 h1) rfl rfl rfl rfl
       ·simp at h0
      ·rename_i k11
       rw [if_neg k11]
       split at h0
       ·rename_i k
        rw [if_pos k];obtain ⟨x1,x2,x3,x4,x5⟩ := pass_ok h0;exact .pass (.inl k) x1 x2 x3 x4 x5
       ·rename_i k12
        rw [if_neg k12]
        split at h0
        ·rename_i k
         rw [if_pos k];unfold shakeA at h0 ⊢
         split at h0
         ·rename_i h1
          rw [if_pos h1];obtain ⟨x1,x2,x3,x4,x5⟩ := pass_ok h0;exact .shake k (inR_iff.1 h1) x1 x2 x3 x4 x5
         ·simp at h0
        ·rename_i k13
         rw [if_neg k13]
         split at h0
         ·rename_i k
          rw [if_pos k];obtain ⟨x1,x2,x3,x4,x5⟩ := pass_ok h0;exact .pass (.inr k) x1 x2 x3 x4 x5
         ·simp at h0
theorem may_do {l : List Sit} {st : Sta} {a : Acn} (hd : dchk l = 0) (h : May l st) (h0 : (doA l st a).2 = 0) : May l (doA l st a).1 := (left_do hd h h0).may
theorem held_in {l : List Sit} {st : Sta} (hd : dchk l = 0) (h : May l st) : 0 ≤ tot st.held ∧ tot st.held ≤ 1000000000 ∧ (st.tip = true → tot st.held ≤ tipM l) ∧ (st.tip = false → st.held = []) := by
 have hm := tipM_in hd
 cases ht : st.tip with
 | false =>
  have := h.take;unfold mayTake at this;rw [if_neg (by rw [ht]; decide)] at this;simp only [Bool.and_eq_true,decide_eq_true_eq] at this;have e := this.2.1;rw [e];exact ⟨by decide,by decide,fun h => (by cases h),fun _ => rfl⟩
 | true =>
  have h3 := (tip_parts h ht).2.2.1;rw [mayHold_iff] at h3;have h4 := tot_nonneg (fref_in h3.1).2.1.nn;exact ⟨h4,by omega,fun _ => h3.2.2,fun h => (by cases h)⟩
structure Rl (l : List Sit) (st : Sta) (s : Cst) : Prop where
 may : May l st
 held : s.held = tot st.held
 used : (s.used : Int) = st.used
theorem Rl.start (l : List Sit) : Rl l sta0 cst0 := ⟨may_sta0 l,rfl,rfl⟩
def chunkC (ts bins : List Plc) (pt : Plc → S.Pt) (s : Cst) (a : Acn) : List Cd :=
 if a.kind = 6 then workC (pt (ts.getD s.used plc0)) (cd 4 0)
 else if a.kind = 7 then (match bins with
  | [] => []
  | b :: _ => workC (pt b) (cd 5 0))
 else if a.kind = 8 then workC (pt a.pl) (cd 3 (s.held + a.vol))
 else if a.kind = 9 then workC (pt a.pl) (cd 3 (s.held + -a.vol))
 else if a.kind = 11 then [cd 6 a.value]
 else if a.kind = 12 ∨ a.kind = 14 then restC a.time
 else if a.kind = 13 then [cd 8 a.value] ++ restC a.time ++ [cd 8 0]
 else []
theorem step_chunk (ts bins : List Plc) (pt : Plc → S.Pt) (s : Cst) (a : Acn) : (stepC ts bins pt s a).1.cs = s.cs ++ chunkC ts bins pt s a := by
 cases bins <;> simp only [stepC,chunkC]
 all_goals
  repeat' split
  all_goals simp [List.append_assoc]
theorem Rl.step {l : List Sit} {st : Sta} {s : Cst} {a : Acn} {ts bins : List Plc} {pt : Plc → S.Pt} (hd : dchk l = 0) (h : Rl l st s) (h0 : (doA l st a).2 = 0) (h1 : (stepC ts bins pt s a).2 = 0) : Rl l (doA l st a).1 (stepC ts bins pt s a).1 := by
 refine ⟨may_do hd h.may h0,?_,?_⟩
 ·have hh := h.held
  cases doK h0 using DoK.elim with
  | fill k he => unfold stepC; simp [k,he,hh]
  | tip k _ he => unfold stepC; simp [k,he,hh]
  | drop k _ he =>
   cases bins with
   | nil => unfold stepC at h1; simp [k] at h1
   | cons b r => unfold stepC; simp [k,he,tot]
  | draw k _ _ _ he => unfold stepC; simp [k,he,hh]
  | put k _ _ _ he => unfold stepC; simp [k,he,hh]; omega
  | warm k _ he => unfold stepC; simp [k,he,hh]
  | pass k _ he => rcases k with k | k <;> (unfold stepC; simp [k,he,hh])
  | shake k _ _ he => unfold stepC; simp [k,he,hh]
 ·have hh := h.used
  cases doK h0 using DoK.elim with
  | fill k _ _ us => unfold stepC; simp [k,us,hh]
  | tip k _ _ _ _ us => unfold stepC; simp [k,us,hh]
  | drop k _ _ _ us =>
   cases bins with
   | nil => unfold stepC at h1; simp [k] at h1
   | cons b r => unfold stepC; simp [k,us,hh]
  | draw k _ _ _ _ _ us => unfold stepC; simp [k,us,hh]
  | put k _ _ _ _ _ us => unfold stepC; simp [k,us,hh]
  | warm k _ _ _ us => unfold stepC; simp [k,us,hh]
  | pass k _ _ _ us => rcases k with k | k <;> (unfold stepC; simp [k,us,hh])
  | shake k _ _ _ _ us => unfold stepC; simp [k,us,hh]
theorem comp_ind {l : List Sit} {ts bins : List Plc} {pt : Plc → S.Pt} (hd : dchk l = 0) {I : List Acn → Sta → Cst → Prop}
  (hs : ∀ A st s a,I A st s → Rl l st s → (doA l st a).2 = 0 → (stepC ts bins pt s a).2 = 0 → DoK l st a (doA l st a).1 → I (A ++ [a]) (doA l st a).1 (stepC ts bins pt s a).1) :
  ∀ (acs : List Acn) (A : List Acn) (st : Sta) (s : Cst) (k : Nat),I A st s → Rl l st s → (∀ j (hj : j < acs.length),(doA l ((acs.take j).foldl (fun s a => (doA l s a).1) st) (acs[j]'hj)).2 = 0) → (compL ts bins pt s k acs).2.2 = 0 →
   ∃ st',I (A ++ acs) st' (compL ts bins pt s k acs).1 ∧ Rl l st' (compL ts bins pt s k acs).1
 | [],A,st,s,k,h,hr,_,_ => ⟨st,by rw [List.append_nil]; exact h,hr⟩
 | a :: r,A,st,s,k,h,hr,hj,hc => by
  have h0 : (doA l st a).2 = 0 := hj 0 (by simp);simp only [compL] at hc ⊢
  split at hc
  ·rename_i h1
   rw [if_pos h1];have := comp_ind hd hs r (A ++ [a]) (doA l st a).1 (stepC ts bins pt s a).1 (k + 1) (hs A st s a h hr h0 h1 (doK h0)) (hr.step hd h0 h1) (fun j hj2 => by have := hj (j + 1) (by simpa using hj2); simpa using this) hc;rw [List.append_assoc] at this;exact this
  ·rename_i h1
   exact absurd hc h1
def setG (f : Std → Option Plc) (k : Std) (p : Plc) : Std → Option Plc := fun x => if x = k then some p else f x
def flrG (s : Sit) (ps : List (Nat × Nat)) (g : Std → Option Plc) : Std → Option Plc := ps.foldl (fun g p => setG g (stdOf s.ware.kind (spotPt s p)) (spotP s.slot p)) g
def floorG (ls : List Sit) : Std → Option Plc := ls.foldl (fun g s => flrG s (spotsOf s) g) (fun _ => none)
def ofG (g : Std → Option Plc) : Std → Option Value := fun k => (g k).map plv
theorem setF_ofG (g : Std → Option Plc) (k : Std) (p : Plc) : setF (ofG g) k (plv p) = ofG (setG g k p) := by
 funext x
 unfold setF ofG setG
 split <;> rfl
theorem flrS_ofG (s : Sit) : ∀ (ps : List (Nat × Nat)) (g : Std → Option Plc),flrS s ps (ofG g) = ofG (flrG s ps g)
 | [],g => rfl
 | p :: r,g => by
  show flrS s r (setF (ofG g) (stdOf s.ware.kind (spotPt s p)) (plv (spotP s.slot p))) = ofG (flrG s r (setG g (stdOf s.ware.kind (spotPt s p)) (spotP s.slot p)));rw [setF_ofG];exact flrS_ofG s r _
theorem floorS_ofG (ls : List Sit) : floorS ls = ofG (floorG ls) := by
 have : ∀ (ls : List Sit) (g : Std → Option Plc),ls.foldl (fun g s => flrS s (spotsOf s) g) (ofG g) = ofG (ls.foldl (fun g s => flrG s (spotsOf s) g) g) := by
  intro ls
  induction ls with
  | nil => intro g; rfl
  | cons s r ih => intro g; simp only [List.foldl_cons]; rw [flrS_ofG]; exact ih _
 exact this ls fun _ => none
theorem wel_G {ls : List Sit} {k : Int} {p : Plc} (h : Wel ls k p) : floorG ls (stdOf k (ptQ ls p)) = some p := by
 unfold Wel at h;rw [floorS_ofG] at h;unfold ofG at h
 cases e : floorG ls (stdOf k (ptQ ls p)) with
 | none => rw [e] at h; cases h
 | some q =>
  rw [e] at h;have h1 : plv q = plv p := Option.some.inj h;simp only [Value.agg.injEq,Array.mk.injEq,List.cons.injEq,Value.int.injEq,true_and,and_true] at h1;obtain ⟨a,b,c⟩ := h1;exact congrArg some (Prod.ext a (Prod.ext b c))
structure Wt where
 pos : S.Pt
 plug : Int
 acts : List Acn
abbrev noT : ByteArray := ⟨#[]⟩
abbrev acK (k : Int) : Acn := ⟨k,plc0,noT,0,0,0⟩
abbrev acP (k : Int) (p : Plc) (v : Int) : Acn := ⟨k,p,noT,v,0,0⟩
abbrev acW (v : Int) : Acn := ⟨11,plc0,noT,0,v,0⟩
abbrev acT (t : Int) : Acn := ⟨14,plc0,noT,0,0,t⟩
def pressL (p : Plc) (m : Int) : List Acn := if 0 < m then [acP 8 p m] else if m < 0 then [acP 9 p (-m)] else []
def watchC (g : Std → Option Plc) (w : Wt) (c : Cd) : Wt × Int :=
 if c.k = 1 then (⟨⟨0,0,0⟩,w.plug,w.acts⟩,0)
 else if c.k = 2 then (⟨⟨c.x,c.y,c.z⟩,w.plug,w.acts⟩,0)
 else if c.k = 4 then (match g (stdOf 2 w.pos) with
  | none => (w,5)
  | some _ => (⟨w.pos,0,w.acts ++ [acK 6]⟩,0))
 else if c.k = 5 then (match g (stdOf 3 w.pos) with
  | none => (w,5)
  | some _ => (⟨w.pos,0,w.acts ++ [acK 7]⟩,0))
 else if c.k = 3 then (match g (stdOf 1 w.pos) with
  | none => (w,5)
  | some p => (⟨w.pos,c.v,w.acts ++ pressL p (c.v - w.plug)⟩,0))
 else if c.k = 6 then (⟨w.pos,w.plug,w.acts ++ [acW c.v]⟩,0)
 else if c.k = 7 then (⟨w.pos,w.plug,w.acts ++ [acT c.v]⟩,0)
 else (w,0)
def watchL (g : Std → Option Plc) : Wt → Nat → List Cd → Wt × Nat × Int
 | w,k,[] => (w,k,0)
 | w,k,c :: r => if (watchC g w c).2 = 0 then watchL g (watchC g w c).1 (k + 1) r else (w,k,(watchC g w c).2)
theorem watchL_app (g : Std → Option Plc) : ∀ (a b : List Cd) (w w' : Wt) (k n : Nat),watchL g w k a = (w',n,0) → watchL g w k (a ++ b) = watchL g w' n b
 | [],b,w,w',k,n,h => by
  simp only [watchL,Prod.mk.injEq,and_true] at h;rw [List.nil_append,h.1,h.2]
 | c :: r,b,w,w',k,n,h => by
  simp only [watchL] at h;simp only [List.cons_append,watchL]
  split at h
  ·rename_i h1
   rw [if_pos h1];exact watchL_app g r b _ w' (k + 1) n h
  ·rename_i h1
   simp only [Prod.mk.injEq] at h;exact absurd h.2.2 h1
theorem watch_go (g : Std → Option Plc) (w : Wt) (p : S.Pt) : watchC g w (goC p) = (⟨p,w.plug,w.acts⟩,0) := rfl
theorem work_watch {g : Std → Option Plc} {w w' : Wt} {k : Nat} {p : S.Pt} {c : Cd} (h : watchC g ⟨p,w.plug,w.acts⟩ c = (w',0)) : watchL g w k (workC p c) = (⟨upC p,w'.plug,w'.acts⟩,k + 4,0) := by
 unfold workC;simp only [watchL,watch_go,if_true,h]
def seenA (a : Acn) : List Acn :=
 if a.kind = 6 ∨ a.kind = 7 then [acK a.kind] else if a.kind = 8 ∨ a.kind = 9 then [acP a.kind a.pl a.vol] else if a.kind = 11 then [acW a.value]
 else if a.kind = 12 ∨ a.kind = 13 ∨ a.kind = 14 then (if 0 < a.time then [acT a.time] else []) else []
theorem rest_watch (g : Std → Option Plc) (w : Wt) (k : Nat) (t : Int) : watchL g w k (restC t) = (⟨w.pos,w.plug,w.acts ++ (if 0 < t then [acT t] else [])⟩,k + (restC t).length,0) := by
 unfold restC
 split
 ·rfl
 ·simp [watchL]
theorem chunk_watch {l ls : List Sit} (hd : dchk l = 0) (hst : ∀ s ∈ l,StOk s) (hp : ls.Perm l) {st : Sta} {s : Cst} {a : Acn} {t : Sta} (hr : Rl l st s) (hk : DoK l st a t) (h1 : (stepC (tipsL l) (floorB ls) (ptQ ls) s a).2 = 0) (w : Wt) (k : Nat) (hw : w.plug = s.held) :
  ∃ q,watchL (floorG ls) w k (chunkC (tipsL l) (floorB ls) (ptQ ls) s a) = (⟨q,(stepC (tipsL l) (floorB ls) (ptQ ls) s a).1.held,w.acts ++ seenA a⟩,k + (chunkC (tipsL l) (floorB ls) (ptQ ls) s a).length,0) := by
 have hin := held_in hd hr.may
 cases hk using DoK.elim with
 | fill k5 =>
  have e1 : chunkC (tipsL l) (floorB ls) (ptQ ls) s a = [] := by unfold chunkC; simp [k5]
  have e2 : (stepC (tipsL l) (floorB ls) (ptQ ls) s a).1.held = s.held := by unfold stepC; simp [k5]
  have e3 : seenA a = [] := by unfold seenA; simp [k5]
  rw [e1,e2,e3,← hw];exact ⟨w.pos,by simp [watchL]⟩
 | tip k6 h0 he ti ul us =>
  have hus := hr.used;have hlt : s.used < (tipsL l).length := by omega
  have e1 : chunkC (tipsL l) (floorB ls) (ptQ ls) s a = workC (ptQ ls ((tipsL l)[s.used]'hlt)) (cd 4 0) := by unfold chunkC; rw [if_pos k6,List.getD_eq_getElem?_getD,List.getElem?_eq_getElem hlt]; rfl
  have e2 : (stepC (tipsL l) (floorB ls) (ptQ ls) s a).1.held = s.held := by unfold stepC; simp [k6]
  have e3 : seenA a = [acK 6] := by unfold seenA; simp [k6]
  have hh : s.held = 0 := by rw [hr.held,hin.2.2.2 h0]; rfl
  have hg := wel_G (wel_tip hd hst hp (List.getElem_mem hlt));refine ⟨upC (ptQ ls ((tipsL l)[s.used]'hlt)),?_⟩;rw [e1,e2,e3,hh];refine (work_watch (w' := ⟨ptQ ls ((tipsL l)[s.used]'hlt),0,w.acts ++ [acK 6]⟩) ?_);unfold watchC;simp [hg]
 | drop k7 h0 he ti =>
  cases hb : floorB ls with
  | nil => rw [hb] at h1; unfold stepC at h1; simp [k7] at h1
  | cons b r =>
   have e1 : chunkC (tipsL l) (b :: r) (ptQ ls) s a = workC (ptQ ls b) (cd 5 0) := by unfold chunkC; simp [k7]
   have e2 : (stepC (tipsL l) (b :: r) (ptQ ls) s a).1.held = 0 := by unfold stepC; simp [k7]
   have e3 : seenA a = [acK 7] := by unfold seenA; simp [k7]
   have hg := wel_G (wel_bin hd hst hp (p := b) (by rw [hb]; simp));refine ⟨upC (ptQ ls b),?_⟩;rw [e1,e2,e3];refine (work_watch (w' := ⟨ptQ ls b,0,w.acts ++ [acK 7]⟩) ?_);unfold watchC;simp [hg]
 | draw k8 h0 wl v0 =>
  have e1 : chunkC (tipsL l) (floorB ls) (ptQ ls) s a = workC (ptQ ls a.pl) (cd 3 (s.held + a.vol)) := by unfold chunkC; simp [k8]
  have e2 : (stepC (tipsL l) (floorB ls) (ptQ ls) s a).1.held = s.held + a.vol := by unfold stepC; simp [k8]
  have e3 : seenA a = [acP 8 a.pl a.vol] := by unfold seenA; simp [k8]
  have hg := wel_G (wel_well hd hst hp wl);refine ⟨upC (ptQ ls a.pl),?_⟩;rw [e1,e2,e3];refine (work_watch (w' := ⟨ptQ ls a.pl,s.held + a.vol,w.acts ++ [acP 8 a.pl a.vol]⟩) ?_);have e4 : s.held + a.vol - w.plug = a.vol := by omega
  have e5 : pressL a.pl a.vol = [acP 8 a.pl a.vol] := if_pos (by omega);unfold watchC;simp [hg,e4,e5]
 | put k9 h0 wl v0 =>
  have e1 : chunkC (tipsL l) (floorB ls) (ptQ ls) s a = workC (ptQ ls a.pl) (cd 3 (s.held + -a.vol)) := by unfold chunkC; simp [k9]
  have e2 : (stepC (tipsL l) (floorB ls) (ptQ ls) s a).1.held = s.held + -a.vol := by unfold stepC; simp [k9]
  have e3 : seenA a = [acP 9 a.pl a.vol] := by unfold seenA; simp [k9]
  have hg := wel_G (wel_well hd hst hp wl);refine ⟨upC (ptQ ls a.pl),?_⟩;rw [e1,e2,e3];refine (work_watch (w' := ⟨ptQ ls a.pl,s.held + -a.vol,w.acts ++ [acP 9 a.pl a.vol]⟩) ?_);have e4 : s.held + -a.vol - w.plug = -a.vol := by omega
  have e5 : pressL a.pl (-a.vol) = [acP 9 a.pl a.vol] := by
   unfold pressL;rw [if_neg (by omega),if_pos (by omega),Int.neg_neg]
  unfold watchC;simp only [hg,e4,e5]
  rfl
 | warm k11 =>
  have e1 : chunkC (tipsL l) (floorB ls) (ptQ ls) s a = [cd 6 a.value] := by unfold chunkC; simp [k11]
  have e2 : (stepC (tipsL l) (floorB ls) (ptQ ls) s a).1.held = s.held := by unfold stepC; simp [k11]
  have e3 : seenA a = [acW a.value] := by unfold seenA; simp [k11]
  rw [e1,e2,e3,← hw];exact ⟨w.pos,rfl⟩
 | pass kk =>
  have e1 : chunkC (tipsL l) (floorB ls) (ptQ ls) s a = restC a.time := by unfold chunkC; rcases kk with kk | kk <;> simp [kk]
  have e2 : (stepC (tipsL l) (floorB ls) (ptQ ls) s a).1.held = s.held := by unfold stepC; rcases kk with kk | kk <;> simp [kk]
  have e3 : seenA a = if 0 < a.time then [acT a.time] else [] := by unfold seenA; rcases kk with kk | kk <;> simp [kk]
  rw [e1,e2,e3,← hw];exact ⟨w.pos,rest_watch _ _ _ _⟩
 | shake k13 =>
  have e1 : chunkC (tipsL l) (floorB ls) (ptQ ls) s a = [cd 8 a.value] ++ restC a.time ++ [cd 8 0] := by unfold chunkC; simp [k13]
  have e2 : (stepC (tipsL l) (floorB ls) (ptQ ls) s a).1.held = s.held := by unfold stepC; simp [k13]
  have e3 : seenA a = if 0 < a.time then [acT a.time] else [] := by unfold seenA; simp [k13]
  rw [e1,e2,e3,← hw];refine ⟨w.pos,?_⟩;have t1 : ∀ v k,watchL (floorG ls) w k [cd 8 v] = (w,k + 1,0) := fun v k => rfl;rw [List.append_assoc,watchL_app _ _ _ _ _ _ _ (t1 a.value k),watchL_app _ _ _ _ _ _ _ (rest_watch _ _ _ _)];simp only [List.length_append,List.length_cons,List.length_nil];show (_,_,(0 : Int)) = _
  congr 2
  omega
theorem start_watch (g : Std → Option Plc) : watchL g ⟨⟨0,0,0⟩,0,[]⟩ 0 cst0.cs = (⟨⟨0,0,200000⟩,0,[]⟩,2,0) := rfl
theorem comp_watch {l ls : List Sit} (hd : dchk l = 0) (hst : ∀ s ∈ l,StOk s) (hp : ls.Perm l) {acs : List Acn} (hr : (runR l acs).2.2 = 0) (hc : (compL (tipsL l) (floorB ls) (ptQ ls) cst0 0 acs).2.2 = 0) :
  ∃ q p,watchL (floorG ls) ⟨⟨0,0,0⟩,0,[]⟩ 0 (compL (tipsL l) (floorB ls) (ptQ ls) cst0 0 acs).1.cs = (⟨q,p,acs.flatMap seenA⟩,(compL (tipsL l) (floorB ls) (ptQ ls) cst0 0 acs).1.cs.length,0) := by
 obtain ⟨st',⟨q,h⟩,_⟩ := comp_ind (ts := tipsL l) (bins := floorB ls) (pt := ptQ ls) hd (I := fun A _ s => ∃ q,watchL (floorG ls) ⟨⟨0,0,0⟩,0,[]⟩ 0 s.cs = (⟨q,s.held,A.flatMap seenA⟩,s.cs.length,0))
  (fun A st s a h hrl h0 h1 hk => by
   obtain ⟨q,h⟩ := h;obtain ⟨q2,h2⟩ := chunk_watch hd hst hp hrl hk h1 ⟨q,s.held,A.flatMap seenA⟩ s.cs.length rfl;refine ⟨q2,?_⟩;rw [step_chunk,watchL_app _ _ _ _ _ _ _ h,h2]
   simp [List.flatMap_append])
  acs [] sta0 cst0 0 ⟨⟨0,0,200000⟩,start_watch _⟩ (Rl.start l) (run_ok hd hr) hc
 rw [List.nil_append] at h;exact ⟨q,_,h⟩
end Go.Proofs.YtcajifelbldjnaaGreatDoor
namespace Go.Proofs.YtcajifelbldjnaaGreatDoor
open Go.RowKit Go.Maps
abbrev wtc (ts bv av : Value) (mp ms : Nat) (q : S.Pt) (n : Int) : List Value := [ts,bv,.map (some mp),.map (some ms),av,.int .i64 q.x,.int .i64 q.y,.int .i64 q.z,.int .i64 n]
theorem infoA : (Tryz.prog.info? 57).map (fun i => (i.zero,i.size,i.bytes)) = some (some (.agg #[.int .i64 0,.int .i64 0,.int .i64 0,.int .i64 0,.string ⟨#[]⟩,.int .i64 0,.int .i64 0,.int .i64 0]),8,72) := by kernel_rfl
structure Wch (wB w : World) (bc : Nat) (ts bv : Value) (mp ms : Nat) (s : Wt) : Prop where
 below : bw wB w
 low : wB.heap.size ≤ bc
 bk : ∃ ao n cap,Bk bc (wtc ts bv (.slice ao n cap) mp ms s.pos s.plug) w ∧ OwnR encA w (bc + 1) (.slice ao n cap) s.acts
theorem Wch.next {wB w w1 : World} {bc : Nat} {ts bv : Value} {mp ms : Nat} {s : Wt} (h : Wch wB w bc ts bv mp ms s) (hb : bw w w1) : Wch wB w1 bc ts bv mp ms s := by
 obtain ⟨h1,h2,ao,n,cap,h3,h4⟩ := h;exact ⟨h1.trans (hb.mono h1.size),h2,ao,n,cap,h3.later hb,h4.later hb⟩
theorem Wch.plug {wB w : World} {bc : Nat} {ts bv : Value} {mp ms : Nat} {s : Wt} (h : Wch wB w bc ts bv mp ms s) (n : Int) : Wch wB (w.setCell ⟨bc,8,none⟩ (.int .i64 n)) bc ts bv mp ms ⟨s.pos,n,s.acts⟩ := by
 obtain ⟨h1,h2,ao,m,cap,h3,h4⟩ := h;exact ⟨h1.setCell h2 _,h2,ao,m,cap,h3.put 8 _,own_kpt h4 (Kpt.setCell (M := fun k => k = bc) _ _ _ _ rfl) (fun g e e2 => by have := own_lt h4 e; omega)⟩
theorem Wch.move {wB w : World} {bc : Nat} {ts bv : Value} {mp ms : Nat} {s : Wt} (h : Wch wB w bc ts bv mp ms s) (q : S.Pt) : Wch wB (((w.setCell ⟨bc,5,none⟩ (.int .i64 q.x)).setCell ⟨bc,6,none⟩ (.int .i64 q.y)).setCell ⟨bc,7,none⟩ (.int .i64 q.z)) bc ts bv mp ms ⟨q,s.plug,s.acts⟩ := by
 obtain ⟨h1,h2,ao,m,cap,h3,h4⟩ := h;exact ⟨((h1.setCell h2 _).setCell h2 _).setCell h2 _,h2,ao,m,cap,((h3.put 5 _).put 6 _).put 7 _,own_kpt h4 (((Kpt.setCell (M := fun k => k = bc) _ _ _ _ rfl).trans (Kpt.setCell _ _ _ _ rfl)).trans (Kpt.setCell _ _ _ _ rfl)) (fun g e e2 => by have := own_lt h4 e; omega)⟩
def twJ (W : World) (b N : Nat) (v0 : Value) (xs : List Acn) (a : Acn) (ph : Nat) (v : Nat → Value) (w : World) : Prop := match ph with
 | 0 => bw W w
 | 1 => bw W w ∧ ∃ x,v 10 = .slice (some ⟨x,0,none⟩) 1 1 ∧ Bk x (acl a) w
 | 2 => ∃ ao n cap,v 11 = .slice ao n cap ∧ OwnR encA w N (.slice ao n cap) (xs ++ [a]) ∧ W.grownBy w v0.ownBlock
 | _ => ∃ ao n cap w8,OwnR encA w8 N (.slice ao n cap) (xs ++ [a]) ∧ W.grownBy w8 v0.ownBlock ∧ w = w8.setCell ⟨b,4,none⟩ (.slice ao n cap)
theorem twJ_low {W : World} {b N : Nat} {v0 : Value} {xs : List Acn} {a : Acn} {ph : Nat} {v : Nat → Value} {w : World} (h : twJ W b N v0 xs a ph v w) (hp : ph ≤ 1) : bw W w :=
 match ph,hp,h with
 | 0,_,h => h
 | 1,_,h => h.1
def twV (b : Nat) (v0 : Value) (a : Acn) (i : Nat) (l : List Value) (w : World) : Prop :=
 match i,l with
 | 0,[v] => v = .pointer (some ⟨b,0,none⟩)
 | 1,[v] => v = .pointer (some ⟨b,0,none⟩)
 | 2,[v] => v = .pointer (some ⟨b,0,none⟩)
 | 3,[v] => v = .pointer (some ⟨b,4,none⟩)
 | 4,[v] => v = v0
 | 5,[v] => v = .agg #[.int .i64 a.kind,.int .i64 a.pl.1,.int .i64 a.pl.2.1,.int .i64 a.pl.2.2,.string a.label,.int .i64 a.vol,.int .i64 a.value,.int .i64 a.time]
 | 8,[v] => v = .pointer (some ⟨b,0,none⟩)
 | 9,[v] => v = .pointer (some ⟨b,4,none⟩)
 | _,_ => True
theorem tellW_any (wB w : World) (bc : Nat) (ts bv : Value) (mp ms : Nat) (s : Wt) (a : Acn) (h : Wch wB w bc ts bv mp ms s) (hl : s.acts.length ≤ 1000000000) :
  Calls Tryz.prog 91 #[ptr bc,av a] w fun e w' => e = .returned (.tuple #[]) ∧ Wch wB w' bc ts bv mp ms ⟨s.pos,s.plug,s.acts ++ [a]⟩ := by
 obtain ⟨w2,hw2⟩ : ∃ w2,w2 = w.alloc (aobj a) := ⟨_,rfl⟩;have hb2 : bw w w2 := by rw [hw2]; exact (brf).alloc (Nat.le_refl _) _
 obtain ⟨h1,h2,ao,n,cap,h3,h4⟩ := h.next hb2;have HB := hdd h1;have HLO := hdd h2;have HK := hdd h3;have HO := hdd h4;have HX : Hid (Bk w.heap.size (acl a) w2) := by show Bk _ _ _; rw [hw2]; exact Bk.new w (acl a) 57 w.heap.size rfl
 have HL := hdd hl;have HW2 := hdd hw2;clear h h1 h2 h3 h4 hb2 hw2 hl
 go_enter Tryz.func91,Tryz.ntmps91
 go_wp2_with fail
 rw [← HW2.out];clear HW2
 refine region_line (wB := wB) [6,7,10] [zf,zf,zf,zf,zt,zt,zt,zt,zt,zt,zt,zt,zt,zt]
  [([],[4],none),([],[5],none),([1],[6],none),([2],[7],none),([3],[8],none),([],[9],none),([5],[10],none),([4,6],[11],none),([0],[12],none),([8],[13],none),([9,7],[],none)]
  (twV bc (.slice ao n cap) a) (twJ w2 bc (bc + 1) (.slice ao n cap) s.acts a) (by kernel_rfl) (by kernel_rfl) (by kernel_rfl) HB.out ⟨rfl,rfl,rfl,Nat.le_refl _,fun _ _ => rfl⟩ ?_ ?_
 ·refine ⟨?_,?_,?_,?_,?_,?_,?_,?_,?_,?_,?_,trivial⟩
  ·intro ph hph f w1 hb hJ _ K hK
   simp only [ov,oL];go_simp;exact hK _ _ ⟨_,by simp only [ov,oL]; rfl,rfl,hb,hJ,fun _ h => h⟩
  ·intro ph hph f w1 hb hJ _ K hK
   simp only [ov,oL];go_simp;exact hK _ _ ⟨_,by simp only [ov,oL]; rfl,rfl,hb,hJ,fun _ h => h⟩
  ·intro ph hph f w1 hb hJ ⟨h5,_⟩ K hK
   replace h5 : f 5 = _ := h5;simp only [ov,oL,h5];go_simp;exact hK _ _ ⟨_,by simp only [ov,oL,h5]; rfl,rfl,hb,hJ,fun _ h => h⟩
  ·intro ph hph f w1 hb hJ ⟨h6,_⟩ K hK
   replace h6 : f 6 = _ := h6;simp only [ov,oL,h6];go_simp;exact hK _ _ ⟨_,by simp only [ov,oL,h6]; rfl,rfl,hb,hJ,fun _ h => h⟩
  ·intro ph hph f w1 hb hJ ⟨h7,_⟩ K hK
   replace h7 : f 7 = _ := h7;have q0 := (HK.out.later (twJ_low hJ (hph.2.1 1 7 rfl (by kernel_rfl)))).c 4 rfl;simp only [ov,oL,h7];go_simp;exact hK _ _ ⟨_,by simp only [ov,oL,h7]; rfl,rfl,hb,hJ,fun _ h => h⟩
  ·intro ph hph f w1 hb hJ _ K hK
   have hk := HX.out.later (twJ_low hJ (Nat.le_succ_of_le (hph.2.1 0 6 rfl (by kernel_rfl))));have q0 := hk.c 0 rfl;have q1 := hk.c 1 rfl;have q2 := hk.c 2 rfl;have q3 := hk.c 3 rfl;have q4 := hk.c 4 rfl;have q5 := hk.c 5 rfl;have q6 := hk.c 6 rfl;have q7 := hk.c 7 rfl;clear hk;simp only [ov,oL];go_simp;exact hK _ _ ⟨_,by simp only [ov,oL]; rfl,rfl,hb,hJ,fun _ h => h⟩
  ·intro ph hph f w1 hb hJ ⟨h9,_⟩ K hK
   replace h9 : f 9 = _ := h9;obtain rfl : ph = 0 := hph.1 0 rfl;have ha : bw w1 (w1.alloc (.cells #[.int .i64 a.kind,.int .i64 a.pl.1,.int .i64 a.pl.2.1,.int .i64 a.pl.2.2,.string a.label,.int .i64 a.vol,.int .i64 a.value,.int .i64 a.time] 57)) := (brf).alloc (Nat.le_refl _) _;have hJ2 : bw w2 (w1.alloc (.cells #[.int .i64 a.kind,.int .i64 a.pl.1,.int .i64 a.pl.2.1,.int .i64 a.pl.2.2,.string a.label,.int .i64 a.vol,.int .i64 a.value,.int .i64 a.time] 57)) := Below.trans hJ (ha.mono (Below.size hJ));simp only [ov,oL,h9];go_simp;exact hK _ _ ⟨_,by simp only [ov,oL,h9]; rfl,trivial,hb.trans (ha.mono hb.size),⟨hJ2,_,rfl,Bk.new w1 [.int .i64 a.kind,.int .i64 a.pl.1,.int .i64 a.pl.2.1,.int .i64 a.pl.2.2,.string a.label,.int .i64 a.vol,.int .i64 a.value,.int .i64 a.time] 57 _ rfl⟩,fun _ h => h⟩
  ·intro ph hph f w1 hb hJ ⟨h8,_,_⟩ K hK
   replace h8 : f 8 = _ := h8;obtain rfl : ph = 1 := hph.1 1 rfl;obtain ⟨hbw,x,h10,hbx⟩ := hJ;obtain ⟨v',w8,q0,ho,hg8,hloc⟩ := run_append_row (ty := 23) goodA Tryz.underlying23 infoA rfl (by decide) (by decide) w1 (bc + 1) (.slice ao n cap) s.acts (HO.out.later hbw) x a (fun j u hu => hbx.c j hu) HL.out (by have := HK.out.1; have := hbw.size; omega);obtain ⟨ao8,n8,cap8,rfl⟩ := ho.form;have hgW : w2.grownBy w8 (Value.slice ao n cap).ownBlock := (grown_of hbw).trans hg8;have hB8 : bw wB w8 := below_row (HB.out.trans (hbw.mono HB.out.size)) ((HO.out.later hbw).base (Nat.le_succ_of_le HLO.out)) hg8 (Nat.le_trans HB.out.size hbw.size);exact wp_append_run (s := .tmp 8) (x := .tmp 10) (t := 23) (ty := 23) rfl rfl (by simp only [ov,oL,h8]; rfl) (by simp only [ov,oL,h10]; rfl) q0 (hK _ _ ⟨_,rfl,trivial,hB8,⟨ao8,n8,cap8,rfl,ho,hgW⟩,fun _ h => h⟩)
  ·intro ph hph f w1 hb hJ ⟨h4,_⟩ K hK
   replace h4 : f 4 = _ := h4;simp only [ov,oL,h4];go_simp;exact hK _ _ ⟨_,by simp only [ov,oL,h4]; rfl,rfl,hb,hJ,fun _ h => h⟩
  ·intro ph hph f w1 hb hJ ⟨h12,_⟩ K hK
   replace h12 : f 12 = _ := h12;simp only [ov,oL,h12];go_simp;exact hK _ _ ⟨_,by simp only [ov,oL,h12]; rfl,rfl,hb,hJ,fun _ h => h⟩
  ·intro ph hph f w1 hb hJ ⟨h13,_,_⟩ K hK
   replace h13 : f 13 = _ := h13;obtain rfl : ph = 2 := hph.1 2 rfl;obtain ⟨ao8,n8,cap8,h11,ho,hg8⟩ := hJ;have hbk8 : Bk bc (wtc ts bv (.slice ao n cap) mp ms s.pos s.plug) w1 := HK.out.same hg8.size (hg8.block _ HK.out.1 (fun e => by have := own_lt HO.out e.symm; omega));have e1 := hbk8.c 4 rfl;have ef1 := hbk8.f 4 rfl;clear hbk8;simp only [ov,oL,h13,h11];go_simp;exact hK _ _ ⟨undef,by simp only [ov,oL,h13,h11]; rfl,trivial,hb.setCell HLO.out _,⟨ao8,n8,cap8,w1,ho,hg8,rfl⟩,fun _ h => h⟩
 intro f w9 hb9 hJ9 _;obtain ⟨ao8,n8,cap8,w8,ho,hg8,hw9⟩ := hJ9;have hbk8 : Bk bc (wtc ts bv (.slice ao n cap) mp ms s.pos s.plug) w8 := HK.out.same hg8.size (hg8.block _ HK.out.1 (fun e => by have := own_lt HO.out e.symm; omega));have ks : Kpt (fun k => k = bc) w8 (w8.setCell ⟨bc,4,none⟩ (.slice ao8 n8 cap8)) := Kpt.setCell _ _ _ _ rfl
 have HR : Hid (Wch wB w9 bc ts bv mp ms ⟨s.pos,s.plug,s.acts ++ [a]⟩) := by
  rw [hw9];rw [hw9] at hb9;exact ⟨hb9,HLO.out,ao8,n8,cap8,hbk8.put 4 _,own_kpt ho ks (fun g e e2 => by have := own_lt ho e; omega)⟩
 clear hbk8 ks hw9 ho hg8 hb9;go_wp2
 go_end0
 exact ⟨rfl,HR.out⟩
def chJ (W : World) (pl : Plc) (sl : Nat) (ph : Nat) (v : Nat → Value) (w : World) : Prop := match ph with
 | 0 => bw W w
 | 1 => bw W w ∧ ∃ x,v sl = .pointer (some ⟨x,0,none⟩) ∧ W.heap.size ≤ x ∧ Bk x [.int .i64 0,.int .i64 0,.int .i64 0] w
 | _ => bw W w ∧ ∃ x,v sl = .pointer (some ⟨x,0,none⟩) ∧ W.heap.size ≤ x ∧ Bk x [.int .i64 pl.1,.int .i64 pl.2.1,.int .i64 pl.2.2] w
theorem chJ_low {W : World} {pl : Plc} {sl ph : Nat} {v : Nat → Value} {w : World} (h : chJ W pl sl ph v w) : bw W w :=
 match ph,h with
 | 0,h => h
 | 1,h => h.1
 | _ + 2,h => h.1
def wcV (bc ms : Nat) (k : Int) (q : S.Pt) (pl : Plc) (ok : Bool) (i : Nat) (l : List Value) (w : World) : Prop :=
 match i,l with
 | 0,[v] => v = .pointer (some ⟨bc,0,none⟩)
 | 1,[v] => v = .pointer (some ⟨bc,0,none⟩)
 | 2,[v] => v = .pointer (some ⟨bc,0,none⟩)
 | 3,[v] => v = .pointer (some ⟨bc,3,none⟩)
 | 4,[v] => v = .map (some ms)
 | 5,[v] => v = .int .i64 k
 | 6,[v] => v = .pointer (some ⟨bc,0,none⟩)
 | 7,[v] => v = .pointer (some ⟨bc,0,none⟩)
 | 8,[v] => v = .pointer (some ⟨bc,5,none⟩)
 | 9,[v] => v = .agg #[.int .i64 q.x,.int .i64 q.y,.int .i64 q.z]
 | 10,[v] => v = .agg #[.int .i64 k,.int .i64 q.x,.int .i64 q.y,.int .i64 q.z]
 | 11,[v] => v = .tuple #[.agg #[.int .i64 pl.1,.int .i64 pl.2.1,.int .i64 pl.2.2],.bool ok]
 | 12,[v] => v = .tuple #[.agg #[.int .i64 pl.1,.int .i64 pl.2.1,.int .i64 pl.2.2],.bool ok]
 | 13,[v] => v = .agg #[.int .i64 pl.1,.int .i64 pl.2.1,.int .i64 pl.2.2]
 | 14,[v] => v = .bool ok
 | 17,[v] => v = .bool ok
 | _,_ => True
def wpV (bc ms : Nat) (q : S.Pt) (pl : Plc) (ok : Bool) (i : Nat) (l : List Value) (w : World) : Prop :=
 match i,l with
 | 0,[v] => v = .pointer (some ⟨bc,0,none⟩)
 | 1,[v] => v = .pointer (some ⟨bc,0,none⟩)
 | 2,[v] => v = .pointer (some ⟨bc,0,none⟩)
 | 3,[v] => v = .pointer (some ⟨bc,3,none⟩)
 | 4,[v] => v = .map (some ms)
 | 5,[v] => v = .pointer (some ⟨bc,0,none⟩)
 | 6,[v] => v = .pointer (some ⟨bc,0,none⟩)
 | 7,[v] => v = .pointer (some ⟨bc,5,none⟩)
 | 8,[v] => v = .agg #[.int .i64 q.x,.int .i64 q.y,.int .i64 q.z]
 | 9,[v] => v = .agg #[.int .i64 1,.int .i64 q.x,.int .i64 q.y,.int .i64 q.z]
 | 10,[v] => v = .tuple #[.agg #[.int .i64 pl.1,.int .i64 pl.2.1,.int .i64 pl.2.2],.bool ok]
 | 11,[v] => v = .tuple #[.agg #[.int .i64 pl.1,.int .i64 pl.2.1,.int .i64 pl.2.2],.bool ok]
 | 12,[v] => v = .agg #[.int .i64 pl.1,.int .i64 pl.2.1,.int .i64 pl.2.2]
 | 13,[v] => v = .bool ok
 | 16,[v] => v = .bool ok
 | _,_ => True
theorem change_any (wB w0 : World) (bc : Nat) (ts bv : Value) (mp ms c : Nat) (ls : List Sit) (s : Wt) (k n : Int) (h : Wch wB w0 bc ts bv mp ms s) (hm : MF kkS wB ms c (floorS ls)) (hp : Wf4 (stdOf k s.pos)) (hl : s.acts.length ≤ 1000000000) :
  Calls Tryz.prog 89 #[ptr bc,.int .i64 k,.int .i64 n] w0 fun e w' => e = .returned (.int .i64 (if (floorG ls (stdOf k s.pos)).isSome = true then 0 else 5)) ∧ Wch wB w' bc ts bv mp ms (if (floorG ls (stdOf k s.pos)).isSome = true then ⟨s.pos,0,s.acts ++ [acK n]⟩ else s) := by
 obtain ⟨q,hq⟩ : ∃ q,q = s.pos := ⟨_,rfl⟩;obtain ⟨ok,hok⟩ : ∃ ok,ok = (floorG ls (stdOf k s.pos)).isSome := ⟨_,rfl⟩;obtain ⟨pl,hpl⟩ : ∃ pl,pl = (floorG ls (stdOf k s.pos)).getD plc0 := ⟨_,rfl⟩
 have HLK : Hid (∀ W,bw w0 W → (Instr.lookup 64 (.map (some ms)) (.agg #[.int .i64 k,.int .i64 q.x,.int .i64 q.y,.int .i64 q.z]) true).run Tryz.prog W = .ok (.tuple #[.agg #[.int .i64 pl.1,.int .i64 pl.2.1,.int .i64 pl.2.2],.bool ok]) W) := by
  intro W hW;have := (hm.next (h.below.trans (hW.mono h.below.size))).look_ok (c := kkS) (t := 64) Tryz.underlying64 (zeroPl W) (p := stdOf k s.pos) hp;rw [floorS_ofG] at this;unfold ofG at this;rw [hok,hpl,hq]
  cases e : floorG ls (stdOf k s.pos) <;> rw [e] at this <;> exact this
 rw [← hok];have HC := hdd h;have HL := hdd hl;obtain ⟨_,h2,ao,m,cap,h3,h4⟩ := h;have HK : Hid (Bk bc (wtc ts bv (.slice ao m cap) mp ms q s.plug) w0) := by rw [hq]; exact h3
 clear h2 h3 h4 hm hp hl hq hok hpl
 go_enter Tryz.func89,Tryz.ntmps89
 go_wp2_with fail
 refine region_line (wB := w0) [15,16] [zf,zf,zf,zf,zf,zf,zf,zt,zt,zt,zt,zt,zt,zt,zt,zt,zt,zt,zt,zt,zt,zt,zt,zt,zf,zf,zf,zf,zf,zf,zf,zf,zf]
  [([],[10],none),([0],[11],none),([1],[12],none),([2],[13],none),([3],[14],none),([],[15],none),([],[16],none),([6],[17],none),([7],[18],none),([8],[19],none),([5,9],[20],none),([4,10],[21],none),([11],[9],none),([12],[22],none),([12],[23],none),([],[7],none),([15,13],[],none),([14],[8],none)]
  (wcV bc ms k q pl ok) (chJ w0 pl 7) (by kernel_rfl) (by kernel_rfl) (by kernel_rfl) (brf) ⟨rfl,rfl,rfl,Nat.le_refl _,fun _ _ => rfl⟩ ?_ ?_
 ·refine ⟨?_,?_,?_,?_,?_,?_,?_,?_,?_,?_,?_,?_,?_,?_,?_,?_,?_,?_,trivial⟩
  ·intro ph hph f w1 hb hJ _ K hK
   simp only [ov,oL];go_simp;exact hK _ _ ⟨_,by simp only [ov,oL]; rfl,rfl,hb,hJ,fun _ h => h⟩
  ·intro ph hph f w1 hb hJ ⟨h10,_⟩ K hK
   replace h10 : f 10 = _ := h10;simp only [ov,oL,h10];go_simp;exact hK _ _ ⟨_,by simp only [ov,oL,h10]; rfl,rfl,hb,hJ,fun _ h => h⟩
  ·intro ph hph f w1 hb hJ ⟨h11,_⟩ K hK
   replace h11 : f 11 = _ := h11;simp only [ov,oL,h11];go_simp;exact hK _ _ ⟨_,by simp only [ov,oL,h11]; rfl,rfl,hb,hJ,fun _ h => h⟩
  ·intro ph hph f w1 hb hJ ⟨h12,_⟩ K hK
   replace h12 : f 12 = _ := h12;simp only [ov,oL,h12];go_simp;exact hK _ _ ⟨_,by simp only [ov,oL,h12]; rfl,rfl,hb,hJ,fun _ h => h⟩
  ·intro ph hph f w1 hb hJ ⟨h13,_⟩ K hK
   replace h13 : f 13 = _ := h13;have hbl := chJ_low hJ;have q0 := (HK.out.later hbl).c 3 rfl;simp only [ov,oL,h13];go_simp;exact hK _ _ ⟨_,by simp only [ov,oL,h13]; rfl,rfl,hb,hJ,fun _ h => h⟩
  ·intro ph hph f w1 hb hJ _ K hK
   simp only [ov,oL];go_simp;exact hK _ _ ⟨_,by simp only [ov,oL]; rfl,rfl,hb,hJ,fun _ h => h⟩
  ·intro ph hph f w1 hb hJ _ K hK
   simp only [ov,oL];go_simp;exact hK _ _ ⟨_,by simp only [ov,oL]; rfl,rfl,hb,hJ,fun _ h => h⟩
  ·intro ph hph f w1 hb hJ ⟨h16,_⟩ K hK
   replace h16 : f 16 = _ := h16;simp only [ov,oL,h16];go_simp;exact hK _ _ ⟨_,by simp only [ov,oL,h16]; rfl,rfl,hb,hJ,fun _ h => h⟩
  ·intro ph hph f w1 hb hJ ⟨h17,_⟩ K hK
   replace h17 : f 17 = _ := h17;simp only [ov,oL,h17];go_simp;exact hK _ _ ⟨_,by simp only [ov,oL,h17]; rfl,rfl,hb,hJ,fun _ h => h⟩
  ·intro ph hph f w1 hb hJ ⟨h18,_⟩ K hK
   replace h18 : f 18 = _ := h18;have hbl := chJ_low hJ;have q0 := (HK.out.later hbl).c 5 rfl;have q1 := (HK.out.later hbl).c 6 rfl;have q2 := (HK.out.later hbl).c 7 rfl;simp only [ov,oL,h18];go_simp;exact hK _ _ ⟨_,by simp only [ov,oL,h18]; rfl,rfl,hb,hJ,fun _ h => h⟩
  ·intro ph hph f w1 hb hJ ⟨h15,h19,_⟩ K hK
   replace h15 : f 15 = _ := h15;replace h19 : f 19 = _ := h19;simp only [ov,oL,h15,h19];go_simp;exact hK _ _ ⟨_,by simp only [ov,oL,h15,h19]; rfl,rfl,hb,hJ,fun _ h => h⟩
  ·intro ph hph f w1 hb hJ ⟨h14,h20,_⟩ K hK
   replace h14 : f 14 = _ := h14;replace h20 : f 20 = _ := h20;have hbl := chJ_low hJ;have q0 := HLK.out w1 hbl;simp only [ov,oL,h14,h20];go_simp;exact hK _ _ ⟨_,by simp only [ov,oL,h14,h20]; rfl,rfl,hb,hJ,fun _ h => h⟩
  ·intro ph hph f w1 hb hJ ⟨h21,_⟩ K hK
   replace h21 : f 21 = _ := h21;simp only [ov,oL,h21];go_simp;exact hK _ _ ⟨_,by simp only [ov,oL,h21]; rfl,rfl,hb,hJ,fun _ h => h⟩
  ·intro ph hph f w1 hb hJ ⟨h9,_⟩ K hK
   replace h9 : f 9 = _ := h9;simp only [ov,oL,h9];go_simp;exact hK _ _ ⟨_,by simp only [ov,oL,h9]; rfl,rfl,hb,hJ,fun _ h => h⟩
  ·intro ph hph f w1 hb hJ ⟨h9,_⟩ K hK
   replace h9 : f 9 = _ := h9;simp only [ov,oL,h9];go_simp;exact hK _ _ ⟨_,by simp only [ov,oL,h9]; rfl,rfl,hb,hJ,fun _ h => h⟩
  ·intro ph hph f w1 hb hJ _ K hK
   obtain rfl : ph = 0 := hph.1 0 rfl;have ha : bw w1 (w1.alloc (.cells #[.int .i64 0,.int .i64 0,.int .i64 0] 55)) := (brf).alloc (Nat.le_refl _) _;have hJ2 : bw w0 (w1.alloc (.cells #[.int .i64 0,.int .i64 0,.int .i64 0] 55)) := Below.trans hJ (ha.mono (Below.size hJ));have hsz : w0.heap.size ≤ w1.heap.size := Below.size hJ;simp only [ov,oL];go_simp;exact hK _ _ ⟨_,by simp only [ov,oL]; rfl,trivial,hJ2,⟨hJ2,_,rfl,hsz,Bk.new w1 [.int .i64 0,.int .i64 0,.int .i64 0] 55 _ rfl⟩,fun _ h => h⟩
  ·intro ph hph f w1 hb hJ ⟨_,h22,_⟩ K hK
   replace h22 : f 22 = _ := h22;obtain rfl : ph = 1 := hph.1 1 rfl;obtain ⟨hbw,x,h7,hx0,hbx⟩ := hJ;have e0 := hbx.c 0 rfl;have ef0 := hbx.f 0 rfl;have e1 := hbx.c 1 rfl;have ef1 := hbx.f 1 rfl;have e2 := hbx.c 2 rfl;have ef2 := hbx.f 2 rfl;simp only [ov,oL,h22,h7];go_simp;exact hK _ _ ⟨undef,by simp only [ov,oL,h22,h7]; rfl,trivial,((hb.setCell hx0 _).setCell hx0 _).setCell hx0 _,⟨((hbw.setCell hx0 _).setCell hx0 _).setCell hx0 _,x,h7,hx0,((hbx.put 0 _).put 1 _).put 2 _⟩,fun _ h => h⟩
  ·intro ph hph f w1 hb hJ ⟨h23,_⟩ K hK
   replace h23 : f 23 = _ := h23;simp only [ov,oL,h23];go_simp;exact hK _ _ ⟨_,by simp only [ov,oL,h23]; rfl,rfl,hb,hJ,fun _ h => h⟩
 intro f w4 hb4 hJ4 hv;have hb : bw w0 w4 := chJ_low hJ4;have h8 : f 8 = .bool ok := hv.2.2.2.2.2.2.2.2.2.2.2.2.2.2.2.2.2.1;have HC4 := hdd (HC.out.next hb);have HK4 := HK.out.later hb;have q8 := HK4.c 8 rfl;have qf8 := HK4.f 8 rfl;simp only [oeq,oL,h8,Nat.reduceAdd];clear hv h8 hb4 hJ4 hb HK4
 cases ok with
 | false =>
  go_wp2;go_ret;exact ⟨rfl,HC4.out⟩
 | true =>
  have HT := hid (tellW_any wB (w4.setCell ⟨bc,8,none⟩ (.int .i64 0)) bc ts bv mp ms ⟨s.pos,0,s.acts⟩ (acK n) (HC4.out.plug 0) HL.out)
  go_wp2_with fail
  refine Calls.mono HT.out ?_;rintro e w5 ⟨rfl,h5⟩;have H5 : Hid _ := h5;clear h5 HT q8 qf8;go_wp2;go_ret;exact ⟨rfl,H5.out⟩
theorem pressW_any (wB w0 : World) (bc : Nat) (ts bv : Value) (mp ms c : Nat) (ls : List Sit) (s : Wt) (n : Int) (h : Wch wB w0 bc ts bv mp ms s) (hm : MF kkS wB ms c (floorS ls)) (hp : Wf4 (stdOf 1 s.pos)) (hl : s.acts.length ≤ 1000000000) (hn : -1000000000 ≤ n ∧ n ≤ 1000000000) (hg : -1000000000 ≤ s.plug ∧ s.plug ≤ 1000000000) :
  Calls Tryz.prog 90 #[ptr bc,.int .i64 n] w0 fun e w' => e = .returned (.int .i64 (if (floorG ls (stdOf 1 s.pos)).isSome = true then 0 else 5)) ∧ Wch wB w' bc ts bv mp ms (if (floorG ls (stdOf 1 s.pos)).isSome = true then ⟨s.pos,n,s.acts ++ pressL ((floorG ls (stdOf 1 s.pos)).getD plc0) (n - s.plug)⟩ else s) := by
 obtain ⟨q,hq⟩ : ∃ q,q = s.pos := ⟨_,rfl⟩;obtain ⟨ok,hok⟩ : ∃ ok,ok = (floorG ls (stdOf 1 s.pos)).isSome := ⟨_,rfl⟩;obtain ⟨pl,hpl⟩ : ∃ pl,pl = (floorG ls (stdOf 1 s.pos)).getD plc0 := ⟨_,rfl⟩
 have HLK : Hid (∀ W,bw w0 W → (Instr.lookup 64 (.map (some ms)) (.agg #[.int .i64 1,.int .i64 q.x,.int .i64 q.y,.int .i64 q.z]) true).run Tryz.prog W = .ok (.tuple #[.agg #[.int .i64 pl.1,.int .i64 pl.2.1,.int .i64 pl.2.2],.bool ok]) W) := by
  intro W hW;have := (hm.next (h.below.trans (hW.mono h.below.size))).look_ok (c := kkS) (t := 64) Tryz.underlying64 (zeroPl W) (p := stdOf 1 s.pos) hp;rw [floorS_ofG] at this;unfold ofG at this;rw [hok,hpl,hq]
  cases e : floorG ls (stdOf 1 s.pos) <;> rw [e] at this <;> exact this
 rw [← hok,← hpl];have HC := hdd h;have HL := hdd hl;obtain ⟨_,h2,ao,m,cap,h3,h4⟩ := h;have HK : Hid (Bk bc (wtc ts bv (.slice ao m cap) mp ms q s.plug) w0) := by rw [hq]; exact h3
 clear h2 h3 h4 hm hp hl hq hok hpl
 go_enter Tryz.func90,Tryz.ntmps90
 go_wp2_with fail
 refine region_line (wB := w0) [14,15] [zf,zf,zf,zf,zf,zt,zt,zf,zt,zt,zt,zt,zt,zt,zt,zt,zt,zt,zt,zt,zt,zt,zf,zf,zf,zf,zf,zf,zf,zf,zf,zf,zf,zf,zf,zf,zf,zf,zf,zf,zf,zf,zf,zf,zf,zf,zf,zf,zf,zf,zf]
  [([],[9],none),([0],[10],none),([1],[11],none),([2],[12],none),([3],[13],none),([],[14],none),([5],[15],none),([6],[16],none),([7],[17],none),([8],[18],none),([4,9],[19],none),([10],[8],none),([11],[20],none),([11],[21],none),([],[5],none),([14,12],[],none),([13],[6],none)]
  (wpV bc ms q pl ok) (chJ w0 pl 5) (by kernel_rfl) (by kernel_rfl) (by kernel_rfl) (brf) ⟨rfl,rfl,rfl,Nat.le_refl _,fun _ _ => rfl⟩ ?_ ?_
 ·refine ⟨?_,?_,?_,?_,?_,?_,?_,?_,?_,?_,?_,?_,?_,?_,?_,?_,?_,trivial⟩
  ·intro ph hph f w1 hb hJ _ K hK
   simp only [ov,oL];go_simp;exact hK _ _ ⟨_,by simp only [ov,oL]; rfl,rfl,hb,hJ,fun _ h => h⟩
  ·intro ph hph f w1 hb hJ ⟨h9,_⟩ K hK
   replace h9 : f 9 = _ := h9;simp only [ov,oL,h9];go_simp;exact hK _ _ ⟨_,by simp only [ov,oL,h9]; rfl,rfl,hb,hJ,fun _ h => h⟩
  ·intro ph hph f w1 hb hJ ⟨h10,_⟩ K hK
   replace h10 : f 10 = _ := h10;simp only [ov,oL,h10];go_simp;exact hK _ _ ⟨_,by simp only [ov,oL,h10]; rfl,rfl,hb,hJ,fun _ h => h⟩
  ·intro ph hph f w1 hb hJ ⟨h11,_⟩ K hK
   replace h11 : f 11 = _ := h11;simp only [ov,oL,h11];go_simp;exact hK _ _ ⟨_,by simp only [ov,oL,h11]; rfl,rfl,hb,hJ,fun _ h => h⟩
  ·intro ph hph f w1 hb hJ ⟨h12,_⟩ K hK
   replace h12 : f 12 = _ := h12;have hbl := chJ_low hJ;have q0 := (HK.out.later hbl).c 3 rfl;simp only [ov,oL,h12];go_simp;exact hK _ _ ⟨_,by simp only [ov,oL,h12]; rfl,rfl,hb,hJ,fun _ h => h⟩
  ·intro ph hph f w1 hb hJ _ K hK
   simp only [ov,oL];go_simp;exact hK _ _ ⟨_,by simp only [ov,oL]; rfl,rfl,hb,hJ,fun _ h => h⟩
  ·intro ph hph f w1 hb hJ ⟨h14,_⟩ K hK
   replace h14 : f 14 = _ := h14;simp only [ov,oL,h14];go_simp;exact hK _ _ ⟨_,by simp only [ov,oL,h14]; rfl,rfl,hb,hJ,fun _ h => h⟩
  ·intro ph hph f w1 hb hJ ⟨h15,_⟩ K hK
   replace h15 : f 15 = _ := h15;simp only [ov,oL,h15];go_simp;exact hK _ _ ⟨_,by simp only [ov,oL,h15]; rfl,rfl,hb,hJ,fun _ h => h⟩
  ·intro ph hph f w1 hb hJ ⟨h16,_⟩ K hK
   replace h16 : f 16 = _ := h16;have hbl := chJ_low hJ;have q0 := (HK.out.later hbl).c 5 rfl;have q1 := (HK.out.later hbl).c 6 rfl;have q2 := (HK.out.later hbl).c 7 rfl;simp only [ov,oL,h16];go_simp;exact hK _ _ ⟨_,by simp only [ov,oL,h16]; rfl,rfl,hb,hJ,fun _ h => h⟩
  ·intro ph hph f w1 hb hJ ⟨h17,_⟩ K hK
   replace h17 : f 17 = _ := h17;simp only [ov,oL,h17];go_simp;exact hK _ _ ⟨_,by simp only [ov,oL,h17]; rfl,rfl,hb,hJ,fun _ h => h⟩
  ·intro ph hph f w1 hb hJ ⟨h13,h18,_⟩ K hK
   replace h13 : f 13 = _ := h13;replace h18 : f 18 = _ := h18;have hbl := chJ_low hJ;have q0 := HLK.out w1 hbl;simp only [ov,oL,h13,h18];go_simp;exact hK _ _ ⟨_,by simp only [ov,oL,h13,h18]; rfl,rfl,hb,hJ,fun _ h => h⟩
  ·intro ph hph f w1 hb hJ ⟨h19,_⟩ K hK
   replace h19 : f 19 = _ := h19;simp only [ov,oL,h19];go_simp;exact hK _ _ ⟨_,by simp only [ov,oL,h19]; rfl,rfl,hb,hJ,fun _ h => h⟩
  ·intro ph hph f w1 hb hJ ⟨h8,_⟩ K hK
   replace h8 : f 8 = _ := h8;simp only [ov,oL,h8];go_simp;exact hK _ _ ⟨_,by simp only [ov,oL,h8]; rfl,rfl,hb,hJ,fun _ h => h⟩
  ·intro ph hph f w1 hb hJ ⟨h8,_⟩ K hK
   replace h8 : f 8 = _ := h8;simp only [ov,oL,h8];go_simp;exact hK _ _ ⟨_,by simp only [ov,oL,h8]; rfl,rfl,hb,hJ,fun _ h => h⟩
  ·intro ph hph f w1 hb hJ _ K hK
   obtain rfl : ph = 0 := hph.1 0 rfl;have ha : bw w1 (w1.alloc (.cells #[.int .i64 0,.int .i64 0,.int .i64 0] 55)) := (brf).alloc (Nat.le_refl _) _;have hJ2 : bw w0 (w1.alloc (.cells #[.int .i64 0,.int .i64 0,.int .i64 0] 55)) := Below.trans hJ (ha.mono (Below.size hJ));have hsz : w0.heap.size ≤ w1.heap.size := Below.size hJ;simp only [ov,oL];go_simp;exact hK _ _ ⟨_,by simp only [ov,oL]; rfl,trivial,hJ2,⟨hJ2,_,rfl,hsz,Bk.new w1 [.int .i64 0,.int .i64 0,.int .i64 0] 55 _ rfl⟩,fun _ h => h⟩
  ·intro ph hph f w1 hb hJ ⟨_,h20,_⟩ K hK
   replace h20 : f 20 = _ := h20;obtain rfl : ph = 1 := hph.1 1 rfl;obtain ⟨hbw,x,h5,hx0,hbx⟩ := hJ;have e0 := hbx.c 0 rfl;have ef0 := hbx.f 0 rfl;have e1 := hbx.c 1 rfl;have ef1 := hbx.f 1 rfl;have e2 := hbx.c 2 rfl;have ef2 := hbx.f 2 rfl;simp only [ov,oL,h20,h5];go_simp;exact hK _ _ ⟨undef,by simp only [ov,oL,h20,h5]; rfl,trivial,((hb.setCell hx0 _).setCell hx0 _).setCell hx0 _,⟨((hbw.setCell hx0 _).setCell hx0 _).setCell hx0 _,x,h5,hx0,((hbx.put 0 _).put 1 _).put 2 _⟩,fun _ h => h⟩
  ·intro ph hph f w1 hb hJ ⟨h21,_⟩ K hK
   replace h21 : f 21 = _ := h21;simp only [ov,oL,h21];go_simp;exact hK _ _ ⟨_,by simp only [ov,oL,h21]; rfl,rfl,hb,hJ,fun _ h => h⟩
 intro f w4 hb4 hJ4 hv;have hb : bw w0 w4 := chJ_low hJ4;obtain ⟨_,x,h5,_,hbx⟩ := hJ4;have h6 : f 6 = .bool ok := hv.2.2.2.2.2.2.2.2.2.2.2.2.2.2.2.2.1;have HC4 := hdd (HC.out.next hb);have HX4 := hdd hbx;have HK4 := HK.out.later hb;have q8 := HK4.c 8 rfl;have e0 := hbx.c 0 rfl;have e1 := hbx.c 1 rfl;have e2 := hbx.c 2 rfl;simp only [oeq,oL,h6,h5,Nat.reduceAdd];clear hv h6 h5 hb4 hb HK4 hbx
 cases ok with
 | false =>
  go_wp2;go_ret;exact ⟨rfl,HC4.out⟩
 | true =>
  have HMV : Hid (∀ w5,Wch wB w5 bc ts bv mp ms ⟨s.pos,s.plug,s.acts ++ pressL pl (n - s.plug)⟩ → Wch wB (w5.setCell ⟨bc,8,none⟩ (.int .i64 n)) bc ts bv mp ms ⟨s.pos,n,s.acts ++ pressL pl (n - s.plug)⟩) := fun w5 h => h.plug n
  have hpv : ∀ w5,Wch wB w5 bc ts bv mp ms ⟨s.pos,s.plug,s.acts ++ pressL pl (n - s.plug)⟩ → w5.cell? ⟨bc,8,none⟩ = some (.int .i64 s.plug) ∧ w5.frozen? ⟨bc,8,none⟩ = false := fun w5 h => by
   obtain ⟨_,_,_,_,_,h3,_⟩ := h;exact ⟨h3.c 8 rfl,h3.f 8 rfl⟩
  have HPV := hid hpv;clear hpv
  by_cases h0 : 0 < n - s.plug
  ·have e : pressL pl (n - s.plug) = [acP 8 pl (n - s.plug)] := if_pos h0
   have HT := hid (tellW_any wB w4 bc ts bv mp ms s (acP 8 pl (n - s.plug)) HC4.out HL.out);have HE := hid e;clear e
   go_wp2_with fail
   refine Calls.mono HT.out ?_;rintro e w5 ⟨rfl,h5⟩;have H5 : Hid (Wch wB w5 bc ts bv mp ms ⟨s.pos,s.plug,s.acts ++ pressL pl (n - s.plug)⟩) := by show Wch _ _ _ _ _ _ _ _; rw [HE.out]; exact h5
   obtain ⟨q8',qf8'⟩ := HPV.out w5 H5.out;clear h5 HT q8 e0 e1 e2 HPV;go_wp2;go_ret;exact ⟨rfl,HMV.out w5 H5.out⟩
  ·by_cases h1 : n - s.plug < 0
   ·have e : pressL pl (n - s.plug) = [acP 9 pl (-(n - s.plug))] := by unfold pressL; rw [if_neg h0,if_pos h1]
    have HT := hid (tellW_any wB w4 bc ts bv mp ms s (acP 9 pl (-(n - s.plug))) HC4.out HL.out);have HE := hid e;clear e
    go_wp2_with fail
    refine Calls.mono HT.out ?_;rintro e w5 ⟨rfl,h5⟩;have H5 : Hid (Wch wB w5 bc ts bv mp ms ⟨s.pos,s.plug,s.acts ++ pressL pl (n - s.plug)⟩) := by show Wch _ _ _ _ _ _ _ _; rw [HE.out]; exact h5
    obtain ⟨q8',qf8'⟩ := HPV.out w5 H5.out;clear h5 HT q8 e0 e1 e2 HPV;go_wp2;go_ret;exact ⟨rfl,HMV.out w5 H5.out⟩
   ·have e : pressL pl (n - s.plug) = [] := by unfold pressL; rw [if_neg h0,if_neg h1]
    have H5 : Hid (Wch wB w4 bc ts bv mp ms ⟨s.pos,s.plug,s.acts ++ pressL pl (n - s.plug)⟩) := by show Wch _ _ _ _ _ _ _ _; rw [e,List.append_nil]; exact HC4.out
    have qf8 := (HPV.out w4 H5.out).2;clear e HPV e0 e1 e2;go_wp2;go_ret;exact ⟨rfl,HMV.out w4 H5.out⟩
structure WIn (s : Wt) (c : Cd) : Prop where
 wf : ∀ k,1 ≤ k → k ≤ 3 → Wf4 (stdOf k s.pos)
 plug : -1000000000 ≤ s.plug ∧ s.plug ≤ 1000000000
 few : s.acts.length ≤ 1000000000
 val : -1000000000 ≤ c.v ∧ c.v ≤ 1000000000
theorem watch_home (wB w : World) (bc : Nat) (ts bv : Value) (mp ms c0 : Nat) (ls : List Sit) (s : Wt) (x y z v : Int) (h : Wch wB w bc ts bv mp ms s) (hm : MF kkS wB ms c0 (floorS ls)) (hi : WIn s ⟨1,x,y,z,v⟩) :
  Calls Tryz.prog 41 #[ptr bc,cdv ⟨1,x,y,z,v⟩] w fun e w' => e = .returned (.int .i64 (watchC (floorG ls) s ⟨1,x,y,z,v⟩).2) ∧ Wch wB w' bc ts bv mp ms (watchC (floorG ls) s ⟨1,x,y,z,v⟩).1 := by
 have hb0 : bw w (w.alloc (.cells #[.int .i64 1,.int .i64 x,.int .i64 y,.int .i64 z,.int .i64 v] 49)) := (brf).alloc (Nat.le_refl _) _;have HC0 : Hid (Wch wB (w.alloc (.cells #[.int .i64 1,.int .i64 x,.int .i64 y,.int .i64 z,.int .i64 v] 49)) bc ts bv mp ms s) := h.next hb0
 have HS : Hid (watchC (floorG ls) s ⟨1,x,y,z,v⟩ = (⟨⟨0,0,0⟩,s.plug,s.acts⟩,0)) := by
  show _ = _
  rfl
 have H2 := hid (HC0.out.move ⟨0,0,0⟩);obtain ⟨_,_,ao,m,cap,hk3,_⟩ := HC0.out;have q5 := hk3.c 5 rfl;have q6 := hk3.c 6 rfl;have q7 := hk3.c 7 rfl;have qf5 := hk3.f 5 rfl;have qf6 := hk3.f 6 rfl;have qf7 := hk3.f 7 rfl;clear hk3;clear h hm hi hb0
 go_enter Tryz.func41,Tryz.ntmps41
 go_wp2;go_ret;rw [HS.out];exact ⟨rfl,H2.out⟩
theorem watch_move (wB w : World) (bc : Nat) (ts bv : Value) (mp ms c0 : Nat) (ls : List Sit) (s : Wt) (x y z v : Int) (h : Wch wB w bc ts bv mp ms s) (hm : MF kkS wB ms c0 (floorS ls)) (hi : WIn s ⟨2,x,y,z,v⟩) :
  Calls Tryz.prog 41 #[ptr bc,cdv ⟨2,x,y,z,v⟩] w fun e w' => e = .returned (.int .i64 (watchC (floorG ls) s ⟨2,x,y,z,v⟩).2) ∧ Wch wB w' bc ts bv mp ms (watchC (floorG ls) s ⟨2,x,y,z,v⟩).1 := by
 have hb0 : bw w (w.alloc (.cells #[.int .i64 2,.int .i64 x,.int .i64 y,.int .i64 z,.int .i64 v] 49)) := (brf).alloc (Nat.le_refl _) _;have HC0 : Hid (Wch wB (w.alloc (.cells #[.int .i64 2,.int .i64 x,.int .i64 y,.int .i64 z,.int .i64 v] 49)) bc ts bv mp ms s) := h.next hb0
 have HS : Hid (watchC (floorG ls) s ⟨2,x,y,z,v⟩ = (⟨⟨x,y,z⟩,s.plug,s.acts⟩,0)) := by
  show _ = _
  rfl
 have H2 := hid (HC0.out.move ⟨x,y,z⟩);obtain ⟨_,_,ao,m,cap,hk3,_⟩ := HC0.out;have q5 := hk3.c 5 rfl;have q6 := hk3.c 6 rfl;have q7 := hk3.c 7 rfl;have qf5 := hk3.f 5 rfl;have qf6 := hk3.f 6 rfl;have qf7 := hk3.f 7 rfl;clear hk3;clear h hm hi hb0
 go_enter Tryz.func41,Tryz.ntmps41
 go_wp2;go_ret;rw [HS.out];exact ⟨rfl,H2.out⟩
theorem watch_grab (wB w : World) (bc : Nat) (ts bv : Value) (mp ms c0 : Nat) (ls : List Sit) (s : Wt) (x y z v : Int) (h : Wch wB w bc ts bv mp ms s) (hm : MF kkS wB ms c0 (floorS ls)) (hi : WIn s ⟨4,x,y,z,v⟩) :
  Calls Tryz.prog 41 #[ptr bc,cdv ⟨4,x,y,z,v⟩] w fun e w' => e = .returned (.int .i64 (watchC (floorG ls) s ⟨4,x,y,z,v⟩).2) ∧ Wch wB w' bc ts bv mp ms (watchC (floorG ls) s ⟨4,x,y,z,v⟩).1 := by
 have hb0 : bw w (w.alloc (.cells #[.int .i64 4,.int .i64 x,.int .i64 y,.int .i64 z,.int .i64 v] 49)) := (brf).alloc (Nat.le_refl _) _;have HC0 : Hid (Wch wB (w.alloc (.cells #[.int .i64 4,.int .i64 x,.int .i64 y,.int .i64 z,.int .i64 v] 49)) bc ts bv mp ms s) := h.next hb0
 have HS : Hid (watchC (floorG ls) s ⟨4,x,y,z,v⟩ = ((if (floorG ls (stdOf 2 s.pos)).isSome = true then ⟨s.pos,0,s.acts ++ [acK 6]⟩ else s),(if (floorG ls (stdOf 2 s.pos)).isSome = true then 0 else 5))) := by
  show _ = _;unfold watchC
  cases e : floorG ls (stdOf 2 s.pos) <;> simp
 have HW := hid (change_any wB (w.alloc (.cells #[.int .i64 4,.int .i64 x,.int .i64 y,.int .i64 z,.int .i64 v] 49)) bc ts bv mp ms c0 ls s 2 6 HC0.out hm (hi.wf 2 (by decide) (by decide)) hi.few);obtain ⟨r,hr⟩ : ∃ r : Int,r = if (floorG ls (stdOf 2 s.pos)).isSome = true then 0 else 5 := ⟨_,rfl⟩;rw [← hr] at HW HS;clear hr;clear h hm hi hb0
 go_enter Tryz.func41,Tryz.ntmps41
 go_wp2_with fail
 refine Calls.mono HW.out ?_;rintro e w2 ⟨rfl,hc⟩;have H2 : Hid _ := hc;clear hc HW;go_wp2;go_ret;rw [HS.out];exact ⟨rfl,H2.out⟩
theorem watch_eject (wB w : World) (bc : Nat) (ts bv : Value) (mp ms c0 : Nat) (ls : List Sit) (s : Wt) (x y z v : Int) (h : Wch wB w bc ts bv mp ms s) (hm : MF kkS wB ms c0 (floorS ls)) (hi : WIn s ⟨5,x,y,z,v⟩) :
  Calls Tryz.prog 41 #[ptr bc,cdv ⟨5,x,y,z,v⟩] w fun e w' => e = .returned (.int .i64 (watchC (floorG ls) s ⟨5,x,y,z,v⟩).2) ∧ Wch wB w' bc ts bv mp ms (watchC (floorG ls) s ⟨5,x,y,z,v⟩).1 := by
 have hb0 : bw w (w.alloc (.cells #[.int .i64 5,.int .i64 x,.int .i64 y,.int .i64 z,.int .i64 v] 49)) := (brf).alloc (Nat.le_refl _) _;have HC0 : Hid (Wch wB (w.alloc (.cells #[.int .i64 5,.int .i64 x,.int .i64 y,.int .i64 z,.int .i64 v] 49)) bc ts bv mp ms s) := h.next hb0
 have HS : Hid (watchC (floorG ls) s ⟨5,x,y,z,v⟩ = ((if (floorG ls (stdOf 3 s.pos)).isSome = true then ⟨s.pos,0,s.acts ++ [acK 7]⟩ else s),(if (floorG ls (stdOf 3 s.pos)).isSome = true then 0 else 5))) := by
  show _ = _;unfold watchC
  cases e : floorG ls (stdOf 3 s.pos) <;> simp
 have HW := hid (change_any wB (w.alloc (.cells #[.int .i64 5,.int .i64 x,.int .i64 y,.int .i64 z,.int .i64 v] 49)) bc ts bv mp ms c0 ls s 3 7 HC0.out hm (hi.wf 3 (by decide) (by decide)) hi.few);obtain ⟨r,hr⟩ : ∃ r : Int,r = if (floorG ls (stdOf 3 s.pos)).isSome = true then 0 else 5 := ⟨_,rfl⟩;rw [← hr] at HW HS;clear hr;clear h hm hi hb0
 go_enter Tryz.func41,Tryz.ntmps41
 go_wp2_with fail
 refine Calls.mono HW.out ?_;rintro e w2 ⟨rfl,hc⟩;have H2 : Hid _ := hc;clear hc HW;go_wp2;go_ret;rw [HS.out];exact ⟨rfl,H2.out⟩
theorem watch_plug (wB w : World) (bc : Nat) (ts bv : Value) (mp ms c0 : Nat) (ls : List Sit) (s : Wt) (x y z v : Int) (h : Wch wB w bc ts bv mp ms s) (hm : MF kkS wB ms c0 (floorS ls)) (hi : WIn s ⟨3,x,y,z,v⟩) :
  Calls Tryz.prog 41 #[ptr bc,cdv ⟨3,x,y,z,v⟩] w fun e w' => e = .returned (.int .i64 (watchC (floorG ls) s ⟨3,x,y,z,v⟩).2) ∧ Wch wB w' bc ts bv mp ms (watchC (floorG ls) s ⟨3,x,y,z,v⟩).1 := by
 have hb0 : bw w (w.alloc (.cells #[.int .i64 3,.int .i64 x,.int .i64 y,.int .i64 z,.int .i64 v] 49)) := (brf).alloc (Nat.le_refl _) _;have HC0 : Hid (Wch wB (w.alloc (.cells #[.int .i64 3,.int .i64 x,.int .i64 y,.int .i64 z,.int .i64 v] 49)) bc ts bv mp ms s) := h.next hb0
 have HS : Hid (watchC (floorG ls) s ⟨3,x,y,z,v⟩ = ((if (floorG ls (stdOf 1 s.pos)).isSome = true then ⟨s.pos,v,s.acts ++ pressL ((floorG ls (stdOf 1 s.pos)).getD plc0) (v - s.plug)⟩ else s),(if (floorG ls (stdOf 1 s.pos)).isSome = true then 0 else 5))) := by
  show _ = _;unfold watchC
  cases e : floorG ls (stdOf 1 s.pos) <;> simp
 have HW := hid (pressW_any wB (w.alloc (.cells #[.int .i64 3,.int .i64 x,.int .i64 y,.int .i64 z,.int .i64 v] 49)) bc ts bv mp ms c0 ls s v HC0.out hm (hi.wf 1 (by decide) (by decide)) hi.few hi.val hi.plug);obtain ⟨r,hr⟩ : ∃ r : Int,r = if (floorG ls (stdOf 1 s.pos)).isSome = true then 0 else 5 := ⟨_,rfl⟩;rw [← hr] at HW HS;clear hr;clear h hm hi hb0
 go_enter Tryz.func41,Tryz.ntmps41
 go_wp2_with fail
 refine Calls.mono HW.out ?_;rintro e w2 ⟨rfl,hc⟩;have H2 : Hid _ := hc;clear hc HW;go_wp2;go_ret;rw [HS.out];exact ⟨rfl,H2.out⟩
theorem watch_cook (wB w : World) (bc : Nat) (ts bv : Value) (mp ms c0 : Nat) (ls : List Sit) (s : Wt) (x y z v : Int) (h : Wch wB w bc ts bv mp ms s) (hm : MF kkS wB ms c0 (floorS ls)) (hi : WIn s ⟨6,x,y,z,v⟩) :
  Calls Tryz.prog 41 #[ptr bc,cdv ⟨6,x,y,z,v⟩] w fun e w' => e = .returned (.int .i64 (watchC (floorG ls) s ⟨6,x,y,z,v⟩).2) ∧ Wch wB w' bc ts bv mp ms (watchC (floorG ls) s ⟨6,x,y,z,v⟩).1 := by
 have hb0 : bw w (w.alloc (.cells #[.int .i64 6,.int .i64 x,.int .i64 y,.int .i64 z,.int .i64 v] 49)) := (brf).alloc (Nat.le_refl _) _;have HC0 : Hid (Wch wB (w.alloc (.cells #[.int .i64 6,.int .i64 x,.int .i64 y,.int .i64 z,.int .i64 v] 49)) bc ts bv mp ms s) := h.next hb0
 have HS : Hid (watchC (floorG ls) s ⟨6,x,y,z,v⟩ = (⟨s.pos,s.plug,s.acts ++ [acW v]⟩,0)) := by
  show _ = _
  rfl
 have HW := hid (tellW_any wB (w.alloc (.cells #[.int .i64 6,.int .i64 x,.int .i64 y,.int .i64 z,.int .i64 v] 49)) bc ts bv mp ms s (acW v) HC0.out hi.few);clear h hm hi hb0
 go_enter Tryz.func41,Tryz.ntmps41
 go_wp2_with fail
 refine Calls.mono HW.out ?_;rintro e w2 ⟨rfl,hc⟩;have H2 : Hid _ := hc;clear hc HW;go_wp2;go_ret;rw [HS.out];exact ⟨rfl,H2.out⟩
theorem watch_rest (wB w : World) (bc : Nat) (ts bv : Value) (mp ms c0 : Nat) (ls : List Sit) (s : Wt) (x y z v : Int) (h : Wch wB w bc ts bv mp ms s) (hm : MF kkS wB ms c0 (floorS ls)) (hi : WIn s ⟨7,x,y,z,v⟩) :
  Calls Tryz.prog 41 #[ptr bc,cdv ⟨7,x,y,z,v⟩] w fun e w' => e = .returned (.int .i64 (watchC (floorG ls) s ⟨7,x,y,z,v⟩).2) ∧ Wch wB w' bc ts bv mp ms (watchC (floorG ls) s ⟨7,x,y,z,v⟩).1 := by
 have hb0 : bw w (w.alloc (.cells #[.int .i64 7,.int .i64 x,.int .i64 y,.int .i64 z,.int .i64 v] 49)) := (brf).alloc (Nat.le_refl _) _;have HC0 : Hid (Wch wB (w.alloc (.cells #[.int .i64 7,.int .i64 x,.int .i64 y,.int .i64 z,.int .i64 v] 49)) bc ts bv mp ms s) := h.next hb0
 have HS : Hid (watchC (floorG ls) s ⟨7,x,y,z,v⟩ = (⟨s.pos,s.plug,s.acts ++ [acT v]⟩,0)) := by
  show _ = _
  rfl
 have HW := hid (tellW_any wB (w.alloc (.cells #[.int .i64 7,.int .i64 x,.int .i64 y,.int .i64 z,.int .i64 v] 49)) bc ts bv mp ms s (acT v) HC0.out hi.few);clear h hm hi hb0
 go_enter Tryz.func41,Tryz.ntmps41
 go_wp2_with fail
 refine Calls.mono HW.out ?_;rintro e w2 ⟨rfl,hc⟩;have H2 : Hid _ := hc;clear hc HW;go_wp2;go_ret;rw [HS.out];exact ⟨rfl,H2.out⟩
theorem watch_turn (wB w : World) (bc : Nat) (ts bv : Value) (mp ms c0 : Nat) (ls : List Sit) (s : Wt) (x y z v : Int) (h : Wch wB w bc ts bv mp ms s) (hm : MF kkS wB ms c0 (floorS ls)) (hi : WIn s ⟨8,x,y,z,v⟩) :
  Calls Tryz.prog 41 #[ptr bc,cdv ⟨8,x,y,z,v⟩] w fun e w' => e = .returned (.int .i64 (watchC (floorG ls) s ⟨8,x,y,z,v⟩).2) ∧ Wch wB w' bc ts bv mp ms (watchC (floorG ls) s ⟨8,x,y,z,v⟩).1 := by
 have hb0 : bw w (w.alloc (.cells #[.int .i64 8,.int .i64 x,.int .i64 y,.int .i64 z,.int .i64 v] 49)) := (brf).alloc (Nat.le_refl _) _;have HC0 : Hid (Wch wB (w.alloc (.cells #[.int .i64 8,.int .i64 x,.int .i64 y,.int .i64 z,.int .i64 v] 49)) bc ts bv mp ms s) := h.next hb0
 have HS : Hid (watchC (floorG ls) s ⟨8,x,y,z,v⟩ = (s,0)) := by
  show _ = _
  rfl
 have H2 := HC0;clear h hm hi hb0
 go_enter Tryz.func41,Tryz.ntmps41
 go_wp2;go_ret;rw [HS.out];exact ⟨rfl,H2.out⟩
theorem watch_any (wB w : World) (bc : Nat) (ts bv : Value) (mp ms c0 : Nat) (ls : List Sit) (s : Wt) (c : Cd) (h : Wch wB w bc ts bv mp ms s) (hm : MF kkS wB ms c0 (floorS ls)) (hi : WIn s c) (hk : 1 ≤ c.k ∧ c.k ≤ 8) :
  Calls Tryz.prog 41 #[ptr bc,cdv c] w fun e w' => e = .returned (.int .i64 (watchC (floorG ls) s c).2) ∧ Wch wB w' bc ts bv mp ms (watchC (floorG ls) s c).1 := by
 obtain ⟨k,x,y,z,v⟩ := c;have hk : 1 ≤ k ∧ k ≤ 8 := hk;obtain rfl | rfl | rfl | rfl | rfl | rfl | rfl | rfl : k = 1 ∨ k = 2 ∨ k = 3 ∨ k = 4 ∨ k = 5 ∨ k = 6 ∨ k = 7 ∨ k = 8 := by omega
 ·exact watch_home wB w bc ts bv mp ms c0 ls s x y z v h hm hi
 ·exact watch_move wB w bc ts bv mp ms c0 ls s x y z v h hm hi
 ·exact watch_plug wB w bc ts bv mp ms c0 ls s x y z v h hm hi
 ·exact watch_grab wB w bc ts bv mp ms c0 ls s x y z v h hm hi
 ·exact watch_eject wB w bc ts bv mp ms c0 ls s x y z v h hm hi
 ·exact watch_cook wB w bc ts bv mp ms c0 ls s x y z v h hm hi
 ·exact watch_rest wB w bc ts bv mp ms c0 ls s x y z v h hm hi
 ·exact watch_turn wB w bc ts bv mp ms c0 ls s x y z v h hm hi
theorem sorted_one {l a b : List Sit} (hd : dchk l = 0) (ha : a.Perm l) (hb : b.Perm l) (sa : a.Pairwise fun x y => x.slot ≤ y.slot) (sb : b.Pairwise fun x y => x.slot ≤ y.slot) : a = b :=
 List.Perm.eq_of_pairwise (fun _ _ hx hy h1 h2 => slots_one hd (ha.subset hx) (hb.subset hy) (Int.le_antisymm h1 h2)) sa sb (ha.trans hb.symm)
abbrev chkD (c : Cd) : Int := K.chkC c.k c.x c.y c.z c.v
theorem rdK5 {w : World} {ao : Option Addr} {cs : List Cd} (h : RdR encK w ao cs) {k : Nat} (hk : k < cs.length) : ∃ g off,ao = some ⟨g,off,none⟩ ∧ g < w.heap.size ∧ w.cell? ⟨g,off + k * 5,none⟩ = some (.int .i64 (cs[k]'hk).k) ∧ w.cell? ⟨g,off + k * 5 + 1,none⟩ = some (.int .i64 (cs[k]'hk).x) ∧ w.cell? ⟨g,off + k * 5 + 2,none⟩ = some (.int .i64 (cs[k]'hk).y) ∧ w.cell? ⟨g,off + k * 5 + 3,none⟩ = some (.int .i64 (cs[k]'hk).z) ∧ w.cell? ⟨g,off + k * 5 + 4,none⟩ = some (.int .i64 (cs[k]'hk).v) := by
 rcases h with h | ⟨g,off,e,hg,hc⟩
 ·subst h; simp at hk
 ·exact ⟨g,off,e,hg,hc k hk 0 (by decide),hc k hk 1 (by decide),hc k hk 2 (by decide),hc k hk 3 (by decide),hc k hk 4 (by decide)⟩
theorem isFormless_no (c : Cd) (w : World) (hT : K.WT w) (hc : chkD c = 0) : CR 40 #[cdv c] w (.bool false) := by
 have hb0 : bw w (w.alloc (.cells #[.int .i64 c.k,.int .i64 c.x,.int .i64 c.y,.int .i64 c.z,.int .i64 c.v] 49)) := (brf).alloc (Nat.le_refl _) _;have HB0 := hid hb0;have HC := hid (K.check_any c.k c.x c.y c.z c.v (w.alloc (.cells #[.int .i64 c.k,.int .i64 c.x,.int .i64 c.y,.int .i64 c.z,.int .i64 c.v] 49)) (hT.later hb0));rw [show K.chkC c.k c.x c.y c.z c.v = 0 from hc] at HC;clear hT hc hb0
 go_enter Tryz.func40,Tryz.ntmps40
 go_wp2_with fail
 refine Calls.mono HC.out ?_;rintro e w1 ⟨rfl,hb⟩;have HB : Hid (bw w w1) := HB0.out.trans (hb.mono HB0.out.size);clear hb HC HB0;go_wp2;go_ret;exact ⟨rfl,HB.out⟩
theorem enFl : ∀ args w,(callFunc 40 args).run Tryz.prog w = .ok (.enter 40 args) w := enters_of Tryz.func40 (by kernel_rfl) rfl
theorem formless_none (ao : Option Addr) (cap : Nat) (cs : List Cd) (w : World) (hT : K.WT w) (hR : RdR encK w ao cs) (hl : cs.length ≤ 1000000000) (hc : ∀ c ∈ cs,chkD c = 0) :
  CR 39 #[.slice ao cs.length cap,.func (.func 40) #[] #[]] w (.int .i64 (-1)) := by
 have HT := hdd hT;have HR := hdd hR;have HC := hdd hc;have eg := enFl;clear hT hR hc
 go_enter Tryz.func39,Tryz.ntmps39
 go_wp2
 go_loopw [5,8] (fun _ i wr => ∃ k : Nat,k ≤ cs.length ∧ i = .int .i64 k ∧ bw w wr) (fun _ i _ => cs.length - (intOf i).toNat)
 case atStart => exact ⟨0,Nat.zero_le _,rfl,brf⟩
 case round =>
  obtain ⟨k,hk,rfl,hb⟩ := hrel;have HB := hdd hb;clear hb
  by_cases hlt : k < cs.length
  ·obtain ⟨b,off,rfl,hg,c0,c1,c2,c3,c4⟩ := rdK5 (HR.out.next goodK HB.out) hlt
   have hcall := isFormless_no (cs[k]'hlt) wr (HT.out.later HB.out) (HC.out _ (List.getElem_mem hlt));generalize cs[k]'hlt = a at *
   go_wp2_with (go_at_fn 40; refine hcall.mono ?_; rintro e w' ⟨rfl,hb'⟩)
   go_roundw
   case rel => exact ⟨k + 1,by omega,by go_num,HB.out.trans (hb'.mono HB.out.size)⟩
   case measure => simp [intOf]; omega
  ·go_wp2
   go_ret;exact ⟨rfl,HB.out⟩
theorem chkD_in {c : Cd} (h : chkD c = 0) : (1 ≤ c.k ∧ c.k ≤ 8) ∧ (-10000000 ≤ c.x ∧ c.x ≤ 10000000) ∧ (-10000000 ≤ c.y ∧ c.y ≤ 10000000) ∧ (-10000000 ≤ c.z ∧ c.z ≤ 10000000) ∧ (0 ≤ c.v ∧ c.v ≤ 1000000000) := by
 unfold chkD K.chkC at h
 split at h
 ·simp at h
 ·rename_i h1
  split at h
  ·simp at h
  ·rename_i h2
   have := K.inRg_iff.1 (by simpa using h2);omega
structure WB (s : Wt) (k : Nat) : Prop where
 x : -10000000 ≤ s.pos.x ∧ s.pos.x ≤ 10000000
 y : -10000000 ≤ s.pos.y ∧ s.pos.y ≤ 10000000
 z : -10000000 ≤ s.pos.z ∧ s.pos.z ≤ 10000000
 plug : 0 ≤ s.plug ∧ s.plug ≤ 1000000000
 few : s.acts.length ≤ k
theorem press_len (p : Plc) (m : Int) : (pressL p m).length ≤ 1 := by
 unfold pressL
 repeat' split
 all_goals simp
theorem WB.step {g : Std → Option Plc} {s : Wt} {k : Nat} {c : Cd} (h : WB s k) (hc : chkD c = 0) : WB (watchC g s c).1 (k + 1) := by
 obtain ⟨h0,h1,h2,h3,h4⟩ := chkD_in hc;obtain ⟨a1,a2,a3,a4,a5⟩ := h;unfold watchC
 repeat' split
 all_goals refine ⟨?_,?_,?_,?_,?_⟩
 all_goals try simp only [List.length_append,List.length_cons,List.length_nil]
 all_goals first
  | omega
  | exact Nat.add_le_add a5 (press_len _ _)
theorem WB.win {s : Wt} {k : Nat} {c : Cd} (h : WB s k) (hk : k ≤ 1000000000) (hc : chkD c = 0) : WIn s c := by
 obtain ⟨h0,h1,h2,h3,h4⟩ := chkD_in hc;obtain ⟨a1,a2,a3,a4,a5⟩ := h;refine ⟨fun j j0 j1 => ?_,by omega,by omega,by omega⟩;unfold Wf4 Wf1;simp only;omega
theorem watchL_step {g : Std → Option Plc} {cs : List Cd} {s : Wt} {k : Nat} (hk : k < cs.length) (h : (watchL g s k (cs.drop k)).2.2 = 0) : (watchC g s (cs[k]'hk)).2 = 0 ∧ watchL g s k (cs.drop k) = watchL g (watchC g s (cs[k]'hk)).1 (k + 1) (cs.drop (k + 1)) := by
 rw [List.drop_eq_getElem_cons hk] at h ⊢;simp only [watchL] at h ⊢
 split at h
 ·rename_i h1
  exact ⟨h1,by rw [if_pos h1]⟩
 ·rename_i h1
  exact absurd h h1
theorem Watch_ok (ao : Option Addr) (cap : Nat) (l : List Sit) (aoC : Option Addr) (capC : Nat) (cs : List Cd) (w : World) (hD : Dk w ao cap l) (hd : dchk l = 0) (hR : RdR encK w aoC cs) (hT : K.WT w) (hl : cs.length ≤ 100000000) (hc : ∀ c ∈ cs,chkD c = 0)
  (ls : List Sit) (hp : ls.Perm l) (hpw : ls.Pairwise fun x y => x.slot ≤ y.slot) (W9 : Wt) (hw : watchL (floorG ls) ⟨⟨0,0,0⟩,0,[]⟩ 0 cs = (W9,cs.length,0)) :
  Calls Tryz.prog 16 #[.slice ao l.length cap,.slice aoC cs.length capC] w fun e w' => ∃ aoA nA capA,e = .returned (.tuple #[.slice aoA nA capA,.int .i64 0,.int .i64 0]) ∧ OwnR encA w' w.heap.size (.slice aoA nA capA) W9.acts ∧ bw w w' := by
 have HN := hid (newFloor_ok ao cap l w hD hd);have HDC := hdd hd;have HP : Hid (ls.Perm l ∧ ls.Pairwise fun x y => x.slot ≤ y.slot) := ⟨hp,hpw⟩;have HR := hdd hR;have HT := hdd hT;have HC := hdd hc;have HW := hdd hw;have HL := hdd hl;clear hD hd hR hT hc hp hpw hw
 go_enter Tryz.func16,Tryz.ntmps16
 go_wp2_with fail
 refine Calls.mono HN.out ?_;rintro e w1 ⟨ls1,v,rfl,hf⟩;obtain ⟨hp1,hpw1,hb,aoT,capT,aoB,capB,mp,ms,c,hv,hoT,hoB,hmf,hmg,_,_⟩ := hf;obtain rfl := sorted_one HDC.out hp1 HP.out.1 hpw1 HP.out.2;subst hv;have HB1 := hdd hb;have HM1 := hdd hmg;have hb2 : bw w1 (w1.alloc (.cells #[.slice aoT (tipsL l).length capT,.slice aoB (floorB ls1).length capB,.map (some mp),.map (some ms)] 66)) := (brf).alloc (Nat.le_refl _) _;have HB2 := hid hb2;have KF2 : Hid (Bk w1.heap.size (flc (.slice aoT (tipsL l).length capT) (.slice aoB (floorB ls1).length capB) mp ms) (w1.alloc (.cells #[.slice aoT (tipsL l).length capT,.slice aoB (floorB ls1).length capB,.map (some mp),.map (some ms)] 66))) := Bk.new w1 (flc (.slice aoT (tipsL l).length capT) (.slice aoB (floorB ls1).length capB) mp ms) 66 _ rfl;clear hp1 hpw1 hb hoT hoB hmf hmg hb2 HN;generalize (tipsL l).length = nT at *;generalize (floorB ls1).length = nB at *;have HF := hid (formless_none aoC capC cs (w1.alloc (.cells #[.slice aoT nT capT,.slice aoB nB capB,.map (some mp),.map (some ms)] 66)) (HT.out.later (HB1.out.trans (HB2.out.mono HB1.out.size))) (HR.out.next goodK (HB1.out.trans (HB2.out.mono HB1.out.size))) (by have := HL.out; omega) HC.out)
 go_wp2_with fail
 refine Calls.mono HF.out ?_;rintro e w3 ⟨rfl,hb3⟩;have HB13 : Hid (bw w1 w3) := HB2.out.trans (hb3.mono HB2.out.size);have KF3 := KF2.out.later hb3;have r0 := KF3.c 0 rfl;have r1 := KF3.c 1 rfl;have r2 := KF3.c 2 rfl;have r3 := KF3.c 3 rfl;obtain ⟨w4,hw4⟩ : ∃ w4,w4 = w3.alloc (.cells #[.slice aoT nT capT,.slice aoB nB capB,.map (some mp),.map (some ms),.slice none 0 0,.int .i64 0,.int .i64 0,.int .i64 0,.int .i64 0] 100) := ⟨_,rfl⟩;have hb34 : bw w3 w4 := by rw [hw4]; exact (brf).alloc (Nat.le_refl _) _
 have HB34 := hid hb34;have HC4 : Hid (Wch w3 w4 w3.heap.size (.slice aoT nT capT) (.slice aoB nB capB) mp ms ⟨⟨0,0,0⟩,0,[]⟩) := ⟨hb34,Nat.le_refl _,none,0,0,by rw [hw4]; exact Bk.new w3 (wtc (.slice aoT nT capT) (.slice aoB nB capB) (.slice none 0 0) mp ms ⟨0,0,0⟩ 0) 100 _ rfl,OwnR.nil _ _ _⟩;have HW4 := hdd hw4;have HM3 : Hid (MF kkS w3 ms c (floorS ls1)) := HM1.out.next HB13.out;have HBw3 : Hid (bw w w3) := HB1.out.trans (HB13.out.mono HB1.out.size);have HR3 : Hid (RdR encK w3 aoC cs) := HR.out.next goodK HBw3.out;obtain ⟨bc,hbc⟩ : ∃ bc,bc = w3.heap.size := ⟨_,rfl⟩;have HBC := hdd hbc;rw [← hbc] at HC4;clear hb3 KF3 KF2 HB2 HF hb34 hw4 HR HT
 go_wp2_with fail
 rw [← HW4.out,← hbc];clear hbc HW4 r0 r1 r2 r3
 go_loopw [31] (fun i wr => ∃ (k : Nat) (s : Wt),k ≤ cs.length ∧ i = .int .i64 (k : Int) ∧ Wch w3 wr bc (.slice aoT nT capT) (.slice aoB nB capB) mp ms s ∧ WB s k ∧ watchL (floorG ls1) s k (cs.drop k) = (W9,cs.length,0)) (fun i _ => cs.length - (intOf i).toNat)
 case atStart => exact ⟨0,_,Nat.zero_le _,rfl,HC4.out,⟨by decide,by decide,by decide,by decide,by simp⟩,HW.out⟩
 case round =>
  obtain ⟨k,s,hk,rfl,hwc,hwb,hq⟩ := hrel;have HWC := hdd hwc;have HWB := hdd hwb;have HQ := hdd hq;clear hwc hwb hq
  by_cases hlt : k < cs.length
  ·obtain ⟨g,off,hao,hg,c0,c1,c2,c3,c4⟩ := rdK5 (HR3.out.next goodK HWC.out.below) hlt
   have hst := watchL_step hlt (by rw [HQ.out]);have hch := HC.out _ (List.getElem_mem hlt);generalize cs[k]'hlt = a at *;subst hao;have HQ2 : Hid (watchL (floorG ls1) (watchC (floorG ls1) s a).1 (k + 1) (cs.drop (k + 1)) = (W9,cs.length,0)) := hst.2.symm.trans HQ.out;have HWB2 : Hid (WB (watchC (floorG ls1) s a).1 (k + 1)) := HWB.out.step hch;have hki : (k : Int) < (cs.length : Int) := by omega
   have hb6 : bw wr (wr.alloc (.cells #[.int .i64 a.k,.int .i64 a.x,.int .i64 a.y,.int .i64 a.z,.int .i64 a.v] 49)) := (brf).alloc (Nat.le_refl _) _;have HCA := hid (watch_any w3 _ bc (.slice aoT nT capT) (.slice aoB nB capB) mp ms c ls1 s a (HWC.out.next hb6) HM3.out (HWB.out.win (by have := HL.out; omega) hch) (chkD_in hch).1);rw [hst.1] at HCA;clear hst hch hb6 HQ hg
   go_wp2_with fail
   refine Calls.mono HCA.out ?_;rintro e w6 ⟨rfl,hc6⟩;have HC6 := hid hc6;clear hc6 HCA c0 c1 c2 c3 c4;go_wp2
   go_roundw
   case rel => exact ⟨k + 1,_,by omega,by go_num,HC6.out,HWB2.out,HQ2.out⟩
   case measure => simp [intOf]; omega
  ·have hk9 : k = cs.length := by omega
   have HS : Hid (s = W9) := by
    have := HQ.out;rw [List.drop_eq_nil_of_le (by omega)] at this;simp only [watchL,Prod.mk.injEq] at this;exact this.1
   obtain ⟨h1,h2,aoA,nA,capA,h3,h4⟩ := HWC.out;have q4 := h3.c 4 rfl;have HO9 : Hid (OwnR encA wr w.heap.size (.slice aoA nA capA) s.acts) := h4.base (by have := HBw3.out.size; have := HBC.out; omega);have HB9 : Hid (bw w wr) := HBw3.out.trans (h1.mono HBw3.out.size);clear h1 h2 h3 h4;go_wp2;refine bodyPost_ret (v := .tuple #[.slice aoA nA capA,.int .i64 0,.int .i64 0]) (by simp [results,Tryz.results16,go_sem]) rfl ⟨aoA,nA,capA,rfl,by rw [← HS.out]; exact HO9.out,HB9.out⟩
end Go.Proofs.YtcajifelbldjnaaGreatDoor
namespace Go.Proofs.YtcajifelbldjnaaGreatDoor
open Go.RowKit F
abbrev cmK (c : Cd) : K.Cm := ⟨c.k,c.x,c.y,c.z,c.v⟩
abbrev ptK (q : S.Pt) : K.Pt := ⟨q.x,q.y,q.z⟩
def rgD (m : Int) : K.Rg := ⟨⟨0,0,0⟩,⟨1000000,1000000,200000⟩,⟨1000000,1000,100000,100⟩,10,m⟩
theorem rgD_ok {m : Int} (h : 1 ≤ m ∧ m ≤ 1000000000) : K.RgOk (rgD m) := ⟨by show (-10000000 : Int) ≤ 0 ∧ (0 : Int) ≤ 0 ∧ (0 : Int) ≤ 1000000 ∧ (1000000 : Int) ≤ 10000000; decide,by show (-10000000 : Int) ≤ 0 ∧ (0 : Int) ≤ 0 ∧ (0 : Int) ≤ 1000000 ∧ (1000000 : Int) ≤ 10000000; decide,by show (-10000000 : Int) ≤ 0 ∧ (0 : Int) ≤ 0 ∧ (0 : Int) ≤ 200000 ∧ (200000 : Int) ≤ 10000000; decide,by show K.rpOk ⟨1000000,1000,100000,100⟩ = true; decide,by show (1 : Int) ≤ 10 ∧ (10 : Int) ≤ 100000; decide,h⟩
theorem chk_go {q : S.Pt} (h : PtIn q) : chkD (goC q) = 0 := by
 unfold PtIn InP at h;unfold chkD K.chkC;have h1 : K.inRg q.x q.y q.z 0 = true := K.inRg_iff.2 (by omega);rw [if_neg (by simp),if_neg (by rw [h1]; decide),if_neg (by simp [K.usedC,K.letW])]
theorem chk_v {k v : Int} (hk : k = 3 ∨ k = 6 ∨ k = 7 ∨ k = 8) (hv : 0 ≤ v ∧ v ≤ 1000000000) : chkD (cd k v) = 0 := by
 unfold chkD K.chkC;have h1 : K.inRg 0 0 0 v = true := K.inRg_iff.2 (by omega)
 rcases hk with rfl | rfl | rfl | rfl <;> (rw [if_neg (by simp),if_neg (by rw [h1]; decide),if_neg (by simp [K.usedC,K.letW])])
theorem chk_1 : chkD (cd 1 0) = 0 := by decide
theorem chk_4 : chkD (cd 4 0) = 0 := by decide
theorem chk_5 : chkD (cd 5 0) = 0 := by decide
theorem ptIn_up {q : S.Pt} (h : PtIn q) : PtIn (upC q) := by
 unfold PtIn InP at *;simp only;omega
theorem work_form {q : S.Pt} {c : Cd} (h : PtIn q) (hc : chkD c = 0) : ∀ x ∈ workC q c,chkD x = 0 := by
 intro x hx;unfold workC at hx;simp only [List.mem_cons,List.mem_nil_iff,or_false] at hx
 rcases hx with rfl | rfl | rfl | rfl
 ·exact chk_go (ptIn_up h)
 ·exact chk_go h
 ·exact hc
 ·exact chk_go (ptIn_up h)
theorem rest_form {t : Int} (h : 0 ≤ t ∧ t ≤ 1000000000) : ∀ x ∈ restC t,chkD x = 0 := by
 intro x hx;unfold restC at hx
 split at hx
 ·simp only [List.mem_cons,List.mem_nil_iff,or_false] at hx
  subst hx;exact chk_v (.inr (.inr (.inl rfl))) h
 ·cases hx
theorem chunk_form {l : List Sit} {ts bins : List Plc} {pt : Plc → S.Pt} (hd : dchk l = 0) (hpt : ∀ p,PtIn (pt p)) {st : Sta} {s : Cst} {a : Acn} {t : Sta} (hk : DoK l st a t) (hm : May l t) (ht : (stepC ts bins pt s a).1.held = tot t.held) : ∀ x ∈ chunkC ts bins pt s a,chkD x = 0 := by
 have hin := held_in hd hm;intro x hx;unfold chunkC at hx
 split at hx
 ·exact work_form (hpt _) chk_4 x hx
 ·split at hx
  ·split at hx
   ·cases hx
   ·exact work_form (hpt _) chk_5 x hx
  ·split at hx
   ·rename_i k
    have e : (stepC ts bins pt s a).1.held = s.held + a.vol := by unfold stepC; simp [k]
    rw [e] at ht;exact work_form (hpt _) (chk_v (.inl rfl) (by omega)) x hx
   ·split at hx
    ·rename_i k
     have e : (stepC ts bins pt s a).1.held = s.held + -a.vol := by unfold stepC; simp [k]
     rw [e] at ht;exact work_form (hpt _) (chk_v (.inl rfl) (by omega)) x hx
    ·split at hx
     ·rename_i k
      simp only [List.mem_cons,List.mem_nil_iff,or_false] at hx;subst hx
      cases hk using DoK.elim with
      | warm _ vr => exact chk_v (.inr (.inl rfl)) vr
      | pass kk => exact absurd k (by omega)
      | _ => exact absurd k (by omega)
     ·split at hx
      ·rename_i k
       cases hk using DoK.elim with
       | pass _ tr => exact rest_form tr x hx
       | _ => exact absurd k (by omega)
      ·split at hx
       ·rename_i k
        cases hk using DoK.elim with
        | shake _ vr tr =>
         rcases List.mem_append.1 hx with hx | hx
         ·rcases List.mem_append.1 hx with hx | hx
          ·simp only [List.mem_cons,List.mem_nil_iff,or_false] at hx
           subst hx;exact chk_v (.inr (.inr (.inr rfl))) vr
          ·exact rest_form tr x hx
         ·simp only [List.mem_cons,List.mem_nil_iff,or_false] at hx
          subst hx;exact chk_v (.inr (.inr (.inr rfl))) (by decide)
        | pass kk => exact absurd k (by omega)
        | _ => exact absurd k (by omega)
       ·cases hx
theorem comp_form {l ls : List Sit} (hd : dchk l = 0) (hst : ∀ s ∈ ls,StOk s) {acs : List Acn} (hr : (runR l acs).2.2 = 0) (hc : (compL (tipsL l) (floorB ls) (ptQ ls) cst0 0 acs).2.2 = 0) :
  ∀ c ∈ (compL (tipsL l) (floorB ls) (ptQ ls) cst0 0 acs).1.cs,chkD c = 0 := by
 obtain ⟨st',h,_⟩ := comp_ind (ts := tipsL l) (bins := floorB ls) (pt := ptQ ls) hd (I := fun _ _ s => ∀ c ∈ s.cs,chkD c = 0)
  (fun A st s a h hrl h0 h1 hk => by
   have hr2 := hrl.step hd h0 h1;intro c hcm;rw [step_chunk] at hcm
   rcases List.mem_append.1 hcm with hcm | hcm
   ·exact h c hcm
   ·exact chunk_form hd (fun p => ptQ_in hst p) hk hr2.may hr2.held c hcm)
  acs [] sta0 cst0 0 (by
   intro c hcm;simp only [cst0,List.mem_cons,List.mem_nil_iff,or_false] at hcm
   rcases hcm with rfl | rfl
   ·exact chk_1
   ·exact chk_go (by unfold PtIn InP; simp only; omega)) (Rl.start l) (run_ok hd hr) hc
 exact h
abbrev rpD : K.Rp := ⟨1000000,1000,100000,100⟩
theorem rpD_ok : K.rpOk rpD = true := by decide
theorem tot_small : ∀ n : Nat,n ≤ 20000 → K.totR rpD n ≤ 1000 * n
 | 0,_ => by rw [K.totR_zero]; decide
 | n + 1,h => by
  rw [K.totR_more];have h1 := tot_small n (by omega);have h2 := (K.spA_bd rpD_ok (k := n / 2) (by omega)).1;have h2 : 1000 ≤ K.spA rpD (n / 2) := h2
  have h3 : Int.tdiv 1000000 (K.spA rpD (n / 2)) ≤ 1000 := by
   rw [Int.tdiv_eq_ediv_of_nonneg (by decide)]
   have : (1000000 : Int) / K.spA rpD (n / 2) < 1001 := by
    apply (Int.ediv_lt_iff_lt_mul (by omega)).2
    omega
   omega
  have h4 : Int.tdiv rpD.c (K.spA rpD (n / 2)) ≤ 1000 := h3;omega
theorem run_small (n : Nat) : K.runT rpD n ≤ 1000 * n := by
 have h1 := tot_small 20000 (Nat.le_refl _);have h2 := tot_small (n % 20000) (by omega);have h3 : ((n / 20000 : Nat) : Int) * K.totR rpD 20000 ≤ (n / 20000 : Nat) * 20000000 := Int.mul_le_mul_of_nonneg_left (by omega) (by omega);unfold K.runT;omega
theorem tick_small {m : Int} (hm : 1 ≤ m ∧ m ≤ 1000000000) {p q : K.Pt} (hp : K.inS (rgD m) p = true) (hq : K.inS (rgD m) q = true) : 0 ≤ K.tick (rgD m) p q ∧ K.tick (rgD m) p q ≤ 100000000 := by
 refine ⟨(K.tick_bd (rgD_ok hm) hp hq).1,?_⟩;have hs := K.steps_bd (rgD_ok hm) hp hq;have hg := K.gch_bd (rgD_ok hm) hp hq;have a := K.inS_iff.1 hp;have b := K.inS_iff.1 hq;have e : K.upB (K.gch p q) (rgD m).ps = (K.gch p q + 9) / 10 := by show (K.gch p q + 10 - 1) / 10 = _; congr 1; omega
 have hgm : K.gch p q ≤ 1000000 := by
  have a1 : (0 ≤ p.x ∧ p.x ≤ 1000000) ∧ (0 ≤ p.y ∧ p.y ≤ 1000000) ∧ (0 ≤ p.z ∧ p.z ≤ 200000) := a;have b1 : (0 ≤ q.x ∧ q.x ≤ 1000000) ∧ (0 ≤ q.y ∧ q.y ≤ 1000000) ∧ (0 ≤ q.z ∧ q.z ≤ 200000) := b;unfold K.gch K.chg;omega
 have hn : K.stepsN (rgD m) p q ≤ 100000 := by omega
 have := run_small (K.stepsN (rgD m) p q);have e2 : K.tick (rgD m) p q = K.runT rpD (K.stepsN (rgD m) p q) := rfl;rw [e2];generalize K.stepsN (rgD m) p q = n at *;generalize K.runT rpD n = x at *;clear e e2 hg a b hs hgm hp hq hm;omega
structure Frm (m : Int) (f : K.Fm) (tp : Bool) (pl T : Int) : Prop where
 hm : f.hm = true
 pt : K.inS (rgD m) f.pt = true
 tp : f.tp = tp
 pl : f.pl = pl
 tk : 0 ≤ f.tk ∧ f.tk ≤ T
theorem Frm.up {m : Int} {f : K.Fm} {tp : Bool} {pl T T' : Int} (h : Frm m f tp pl T) (hT : T ≤ T') : Frm m f tp pl T' := ⟨h.hm,h.pt,h.tp,h.pl,h.tk.1,Int.le_trans h.tk.2 hT⟩
theorem chkM_eq (c : Cd) : K.chkM (cmK c) = chkD c := rfl
theorem do_ok {r : K.Rg} {f : K.Fm} {c : Cd} (hc : chkD c = 0) (he : K.errC r f (cmK c) = none) (ht : f.tk + K.durC r f (cmK c) ≤ 1000000000000000) : K.doN r f (cmK c) = 0 ∧ K.doF r f (cmK c) = K.obF r f (cmK c) := by
 have h0 : K.obE r f (cmK c) = none := by
  unfold K.obE;rw [he];exact if_neg (by omega)
 have h1 : K.doN r f (cmK c) = 0 := by
  unfold K.doN;rw [chkM_eq,if_pos hc,h0]
  rfl
 exact ⟨h1,by unfold K.doF; rw [if_pos h1]⟩
theorem pt_in {m : Int} {q : S.Pt} (h : PtIn q) : K.inS (rgD m) (ptK q) = true := by
 unfold PtIn InP at h;refine K.inS_iff.2 ?_;show (0 ≤ q.x ∧ q.x ≤ 1000000) ∧ (0 ≤ q.y ∧ q.y ≤ 1000000) ∧ (0 ≤ q.z ∧ q.z ≤ 200000);omega
theorem do_go {m : Int} (hm : 1 ≤ m ∧ m ≤ 1000000000) {f : K.Fm} {tp : Bool} {pl T : Int} (h : Frm m f tp pl T) {q : S.Pt} (hq : PtIn q) (hT : T + 100000000 ≤ 1000000000000000) :
  K.doN (rgD m) f (cmK (goC q)) = 0 ∧ Frm m (K.doF (rgD m) f (cmK (goC q))) tp pl (T + 100000000) := by
 have hin := pt_in (m := m) hq;have ht := tick_small hm h.pt hin;have hk := h.tk
 have he : K.errC (rgD m) f (cmK (goC q)) = none := by
  show (if f.hm = false then some 3 else if K.inS (rgD m) (ptK q) = false then some 0 else none) = none;rw [if_neg (by rw [h.hm]; decide),if_neg (by rw [hin]; decide)]
 have hd : K.durC (rgD m) f (cmK (goC q)) = K.tick (rgD m) f.pt (ptK q) := by
  unfold K.durC;rw [if_neg (by simp),if_pos rfl]
  rfl
 obtain ⟨h1,h2⟩ := do_ok (chk_go hq) he (by rw [hd]; omega);refine ⟨h1,?_⟩;rw [h2];refine ⟨h.hm,hin,h.tp,h.pl,?_⟩;show 0 ≤ f.tk + K.durC (rgD m) f (cmK (goC q)) ∧ f.tk + K.durC (rgD m) f (cmK (goC q)) ≤ T + 100000000;rw [hd];omega
theorem do_home {m : Int} (hm : 1 ≤ m ∧ m ≤ 1000000000) : K.doN (rgD m) K.f0 (cmK (cd 1 0)) = 0 ∧ Frm m (K.doF (rgD m) K.f0 (cmK (cd 1 0))) false 0 100000000 := by
 have ht := tick_small hm (K.in_hi (rgD_ok hm)) (K.in_lo (rgD_ok hm))
 have hd : K.durC (rgD m) K.f0 (cmK (cd 1 0)) = K.tick (rgD m) (rgD m).hi (rgD m).lo := by
  unfold K.durC K.homeT;rw [if_pos rfl,if_neg (by simp [K.f0])]
 have h0 : K.f0.tk = 0 := rfl;obtain ⟨h1,h2⟩ := do_ok (r := rgD m) (f := K.f0) chk_1 rfl (by rw [hd]; omega);refine ⟨h1,?_⟩;rw [h2];refine ⟨rfl,K.in_zero (rgD_ok hm),rfl,rfl,?_⟩;show 0 ≤ K.f0.tk + K.durC (rgD m) K.f0 (cmK (cd 1 0)) ∧ K.f0.tk + K.durC (rgD m) K.f0 (cmK (cd 1 0)) ≤ 100000000;rw [hd];omega
theorem do_grab {m : Int} {f : K.Fm} {pl T : Int} (h : Frm m f false pl T) (hT : T ≤ 1000000000000000) : K.doN (rgD m) f (cmK (cd 4 0)) = 0 ∧ Frm m (K.doF (rgD m) f (cmK (cd 4 0))) true 0 T := by
 have hk := h.tk
 have he : K.errC (rgD m) f (cmK (cd 4 0)) = none := by
  show (if f.hm = false then some 3 else if f.tp = true then some 5 else none) = none;rw [if_neg (by rw [h.hm]; decide),if_neg (by rw [h.tp]; decide)]
 obtain ⟨h1,h2⟩ := do_ok chk_4 he (by show f.tk + 0 ≤ _; omega);refine ⟨h1,?_⟩;rw [h2];exact ⟨h.hm,h.pt,rfl,rfl,h.tk⟩
theorem do_eject {m : Int} {f : K.Fm} {pl T : Int} (h : Frm m f true pl T) (hT : T ≤ 1000000000000000) : K.doN (rgD m) f (cmK (cd 5 0)) = 0 ∧ Frm m (K.doF (rgD m) f (cmK (cd 5 0))) false 0 T := by
 have hk := h.tk
 have he : K.errC (rgD m) f (cmK (cd 5 0)) = none := by
  show (if f.hm = false then some 3 else if f.tp = false then some 4 else none) = none;rw [if_neg (by rw [h.hm]; decide),if_neg (by rw [h.tp]; decide)]
 obtain ⟨h1,h2⟩ := do_ok chk_5 he (by show f.tk + 0 ≤ _; omega);refine ⟨h1,?_⟩;rw [h2];exact ⟨h.hm,h.pt,rfl,rfl,h.tk⟩
theorem do_plug {m : Int} {f : K.Fm} {pl T v : Int} (h : Frm m f true pl T) (hm : m ≤ 1000000000) (hp : 0 ≤ pl ∧ pl ≤ 1000000000) (hv : 0 ≤ v ∧ v ≤ m) (hT : T + 2000000 ≤ 1000000000000000) : K.doN (rgD m) f (cmK (cd 3 v)) = 0 ∧ Frm m (K.doF (rgD m) f (cmK (cd 3 v))) true v (T + 2000000) := by
 have hk := h.tk
 have he : K.errC (rgD m) f (cmK (cd 3 v)) = none := by
  show (if f.hm = false then some 3 else if f.tp = false then some 4 else if (rgD m).mo < v then some 6 else none) = none;have : ¬ (rgD m).mo < v := by show ¬ m < v; omega
  rw [if_neg (by rw [h.hm]; decide),if_neg (by rw [h.tp]; decide),if_neg this]
 have hd : K.durC (rgD m) f (cmK (cd 3 v)) = K.upB (K.chg pl v) 1000 := by rw [← h.pl]; rfl
 have hb : 0 ≤ K.upB (K.chg pl v) 1000 ∧ K.upB (K.chg pl v) 1000 ≤ 2000000 := by
  unfold K.upB K.chg;omega
 obtain ⟨h1,h2⟩ := do_ok (chk_v (.inl rfl) (by omega)) he (by rw [hd]; omega);refine ⟨h1,?_⟩;rw [h2];refine ⟨h.hm,h.pt,h.tp,rfl,?_⟩;show 0 ≤ f.tk + K.durC (rgD m) f (cmK (cd 3 v)) ∧ f.tk + K.durC (rgD m) f (cmK (cd 3 v)) ≤ T + 2000000;rw [hd];omega
theorem do_set {m : Int} {f : K.Fm} {tp : Bool} {pl T k v : Int} (h : Frm m f tp pl T) (hk : k = 6 ∨ k = 8) (hv : 0 ≤ v ∧ v ≤ 1000000000) (hT : T ≤ 1000000000000000) : K.doN (rgD m) f (cmK (cd k v)) = 0 ∧ Frm m (K.doF (rgD m) f (cmK (cd k v))) tp pl T := by
 have hk2 := h.tk
 rcases hk with rfl | rfl
 ·obtain ⟨h1,h2⟩ := do_ok (r := rgD m) (f := f) (chk_v (k := 6) (.inr (.inl rfl)) hv) rfl (by show f.tk + 0 ≤ _; omega)
  refine ⟨h1,?_⟩;rw [h2];exact ⟨h.hm,h.pt,h.tp,h.pl,h.tk⟩
 ·obtain ⟨h1,h2⟩ := do_ok (r := rgD m) (f := f) (chk_v (k := 8) (.inr (.inr (.inr rfl))) hv) rfl (by show f.tk + 0 ≤ _; omega)
  refine ⟨h1,?_⟩;rw [h2];exact ⟨h.hm,h.pt,h.tp,h.pl,h.tk⟩
theorem do_rest {m : Int} {f : K.Fm} {tp : Bool} {pl T t : Int} (h : Frm m f tp pl T) (ht : 0 ≤ t ∧ t ≤ 1000000000) (hT : T + 1000 * t ≤ 1000000000000000) : K.doN (rgD m) f (cmK (cd 7 t)) = 0 ∧ Frm m (K.doF (rgD m) f (cmK (cd 7 t))) tp pl (T + 1000 * t) := by
 have hk := h.tk
 have hd : K.durC (rgD m) f (cmK (cd 7 t)) = 1000 * t := by
  show K.upB (t * 1000000) 1000 = _;unfold K.upB;omega
 obtain ⟨h1,h2⟩ := do_ok (r := rgD m) (f := f) (chk_v (k := 7) (.inr (.inr (.inl rfl))) ht) rfl (by rw [hd]; omega);refine ⟨h1,?_⟩;rw [h2];refine ⟨h.hm,h.pt,h.tp,h.pl,?_⟩;show 0 ≤ f.tk + K.durC (rgD m) f (cmK (cd 7 t)) ∧ f.tk + K.durC (rgD m) f (cmK (cd 7 t)) ≤ T + 1000 * t;rw [hd];omega
theorem run_nil (r : K.Rg) (f : K.Fm) (k : Nat) : K.runC r f k [] = (f,k,0) := rfl
theorem run_cons {r : K.Rg} {f : K.Fm} {k : Nat} {c : Cd} {l : List Cd} (h : K.doN r f (cmK c) = 0) : K.runC r f k ((c :: l).map cmK) = K.runC r (K.doF r f (cmK c)) (k + 1) (l.map cmK) := by
 rw [List.map_cons];exact if_pos h
theorem run_app {r : K.Rg} : ∀ (a b : List Cd) (f f' : K.Fm) (k n : Nat),K.runC r f k (a.map cmK) = (f',n,0) → K.runC r f k ((a ++ b).map cmK) = K.runC r f' n (b.map cmK)
 | [],b,f,f',k,n,h => by
  simp only [List.map_nil,run_nil,Prod.mk.injEq,and_true] at h;rw [List.nil_append,h.1,h.2]
 | c :: a,b,f,f',k,n,h => by
  by_cases h1 : K.doN r f (cmK c) = 0
  ·rw [run_cons h1] at h
   rw [List.cons_append,run_cons h1];exact run_app a b _ f' (k + 1) n h
  ·have : K.runC r f k ((c :: a).map cmK) = (f,k,K.doN r f (cmK c)) := by rw [List.map_cons]; exact if_neg h1
   rw [this] at h;simp only [Prod.mk.injEq] at h;exact absurd h.2.2 h1
theorem run_work {m : Int} (hm : 1 ≤ m ∧ m ≤ 1000000000) {f : K.Fm} {tp tp' : Bool} {pl pl' T D : Int} (h : Frm m f tp pl T) {q : S.Pt} (hq : PtIn q) {c : Cd} (hD : 0 ≤ D) (hT : T + 300000000 + D ≤ 1000000000000000)
  (hc : ∀ g T',Frm m g tp pl T' → T' + D ≤ 1000000000000000 → K.doN (rgD m) g (cmK c) = 0 ∧ Frm m (K.doF (rgD m) g (cmK c)) tp' pl' (T' + D)) (k : Nat) :
  ∃ f',K.runC (rgD m) f k ((workC q c).map cmK) = (f',k + 4,0) ∧ Frm m f' tp' pl' (T + 300000000 + D) := by
 obtain ⟨a1,b1⟩ := do_go hm h (ptIn_up hq) (by omega);obtain ⟨a2,b2⟩ := do_go hm b1 hq (by omega);obtain ⟨a3,b3⟩ := hc _ _ b2 (by omega);obtain ⟨a4,b4⟩ := do_go hm b3 (ptIn_up hq) (by omega);refine ⟨_,?_,b4.up (by omega)⟩;unfold workC;rw [run_cons a1,run_cons a2,run_cons a3,run_cons a4]
 rfl
theorem run_rest {m : Int} {f : K.Fm} {tp : Bool} {pl T t : Int} (h : Frm m f tp pl T) (ht : 0 ≤ t ∧ t ≤ 1000000000) (hT : T + 1000 * t ≤ 1000000000000000) (k : Nat) :
  ∃ f',K.runC (rgD m) f k ((restC t).map cmK) = (f',k + (restC t).length,0) ∧ Frm m f' tp pl (T + 1000 * t) := by
 unfold restC
 split
 ·obtain ⟨a1,b1⟩ := do_rest h ht hT
  exact ⟨_,by rw [run_cons a1]; rfl,b1⟩
 ·exact ⟨f,rfl,h.up (by omega)⟩
theorem run_chunk {l : List Sit} {ts bins : List Plc} {pt : Plc → S.Pt} {m : Int} (hm : 1 ≤ m ∧ m ≤ 1000000000) (hd : dchk l = 0) (hpt : ∀ p,PtIn (pt p)) (htm : tipM l ≤ m) {st : Sta} {s : Cst} {a : Acn} {t : Sta} (hr : Rl l st s) (hk : DoK l st a t) (hmt : May l t)
  (h1 : (stepC ts bins pt s a).2 = 0) (hh : (stepC ts bins pt s a).1.held = tot t.held) {f : K.Fm} {T : Int} (hf : Frm m f st.tip s.held T) (hT : T + 400000000 + 1000 * (t.clock - st.clock) ≤ 1000000000000000) (k : Nat) :
  ∃ f',K.runC (rgD m) f k ((chunkC ts bins pt s a).map cmK) = (f',k + (chunkC ts bins pt s a).length,0) ∧ Frm m f' t.tip (stepC ts bins pt s a).1.held (T + 400000000 + 1000 * (t.clock - st.clock)) := by
 have hin := held_in hd hr.may;have hin2 := held_in hd hmt;have h0h := hr.held
 cases hk using DoK.elim with
 | fill k5 he ti us cl =>
  have e1 : chunkC ts bins pt s a = [] := by unfold chunkC; simp [k5]
  have e2 : (stepC ts bins pt s a).1.held = s.held := by unfold stepC; simp [k5]
  rw [e1,e2,ti];exact ⟨f,rfl,hf.up (by omega)⟩
 | tip k6 hz he ti ul us cl =>
  have e1 : chunkC ts bins pt s a = workC (pt (ts.getD s.used plc0)) (cd 4 0) := by unfold chunkC; simp [k6]
  have e2 : (stepC ts bins pt s a).1.held = s.held := by unfold stepC; simp [k6]
  have hs0 : s.held = 0 := by rw [h0h,hin.2.2.2 hz]; rfl
  rw [hz] at hf
  obtain ⟨f',q1,q2⟩ := run_work (tp' := true) (pl' := 0) (D := 0) hm hf (hpt (ts.getD s.used plc0)) (c := cd 4 0) (Int.le_refl _) (by omega) (fun g T' hg hT' => by
   obtain ⟨x1,x2⟩ := do_grab hg (by omega)
   exact ⟨x1,x2.up (by omega)⟩) k
  rw [e1,e2,ti,hs0];exact ⟨f',q1,q2.up (by omega)⟩
 | drop k7 hz he ti us cl =>
  cases bins with
  | nil => unfold stepC at h1; simp [k7] at h1
  | cons b r =>
   have e1 : chunkC ts (b :: r) pt s a = workC (pt b) (cd 5 0) := by unfold chunkC; simp [k7]
   have e2 : (stepC ts (b :: r) pt s a).1.held = 0 := by unfold stepC; simp [k7]
   rw [hz] at hf
   obtain ⟨f',q1,q2⟩ := run_work (tp' := false) (pl' := 0) (D := 0) hm hf (hpt b) (c := cd 5 0) (Int.le_refl _) (by omega) (fun g T' hg hT' => by
    obtain ⟨x1,x2⟩ := do_eject hg (by omega)
    exact ⟨x1,x2.up (by omega)⟩) k
   rw [e1,e2,ti];exact ⟨f',q1,q2.up (by omega)⟩
 | draw k8 hz wl v0 he ti us cl =>
  have e1 : chunkC ts bins pt s a = workC (pt a.pl) (cd 3 (s.held + a.vol)) := by unfold chunkC; simp [k8]
  have e2 : (stepC ts bins pt s a).1.held = s.held + a.vol := by unfold stepC; simp [k8]
  have hle := hin2.2.2.1 ti;rw [e2] at hh;rw [hz] at hf;obtain ⟨f',q1,q2⟩ := run_work (tp' := true) (pl' := s.held + a.vol) (D := 2000000) hm hf (hpt a.pl) (c := cd 3 (s.held + a.vol)) (by decide) (by omega) (fun g T' hg hT' => do_plug hg hm.2 (by omega) (by omega) hT') k;rw [e1,e2,ti];exact ⟨f',q1,q2.up (by omega)⟩
 | put k9 hz wl v0 he ti us cl =>
  have e1 : chunkC ts bins pt s a = workC (pt a.pl) (cd 3 (s.held + -a.vol)) := by unfold chunkC; simp [k9]
  have e2 : (stepC ts bins pt s a).1.held = s.held + -a.vol := by unfold stepC; simp [k9]
  have hle := hin2.2.2.1 ti;rw [e2] at hh;rw [hz] at hf;obtain ⟨f',q1,q2⟩ := run_work (tp' := true) (pl' := s.held + -a.vol) (D := 2000000) hm hf (hpt a.pl) (c := cd 3 (s.held + -a.vol)) (by decide) (by omega) (fun g T' hg hT' => do_plug hg hm.2 (by omega) (by omega) hT') k;rw [e1,e2,ti];exact ⟨f',q1,q2.up (by omega)⟩
 | warm k11 vr he ti us cl =>
  have e1 : chunkC ts bins pt s a = [cd 6 a.value] := by unfold chunkC; simp [k11]
  have e2 : (stepC ts bins pt s a).1.held = s.held := by unfold stepC; simp [k11]
  obtain ⟨x1,x2⟩ := do_set (k := 6) hf (.inl rfl) vr (by omega);rw [e1,e2,ti];exact ⟨_,by rw [run_cons x1]; rfl,x2.up (by omega)⟩
 | pass kk tr he ti us cl =>
  have e1 : chunkC ts bins pt s a = restC a.time := by unfold chunkC; rcases kk with kk | kk <;> simp [kk]
  have e2 : (stepC ts bins pt s a).1.held = s.held := by unfold stepC; rcases kk with kk | kk <;> simp [kk]
  obtain ⟨f',q1,q2⟩ := run_rest hf tr (by omega) k;rw [e1,e2,ti];exact ⟨f',q1,q2.up (by omega)⟩
 | shake k13 vr tr he ti us cl =>
  have e1 : chunkC ts bins pt s a = [cd 8 a.value] ++ restC a.time ++ [cd 8 0] := by unfold chunkC; simp [k13]
  have e2 : (stepC ts bins pt s a).1.held = s.held := by unfold stepC; simp [k13]
  obtain ⟨x1,x2⟩ := do_set (k := 8) hf (.inr rfl) vr (by omega);obtain ⟨f',q1,q2⟩ := run_rest x2 tr (by omega) (k + 1);obtain ⟨y1,y2⟩ := do_set (k := 8) (v := 0) q2 (.inr rfl) (by decide) (by omega);rw [e1,e2,ti];refine ⟨_,?_,y2.up (by omega)⟩;have z1 : K.runC (rgD m) f k (([cd 8 a.value] : List Cd).map cmK) = (K.doF (rgD m) f (cmK (cd 8 a.value)),k + 1,0) := by rw [run_cons x1]; rfl
  rw [List.append_assoc,run_app _ _ _ _ _ _ z1,run_app _ _ _ _ _ _ q1,run_cons y1,List.map_nil,run_nil];simp only [List.length_append,List.length_cons,List.length_nil]
  congr 2
  omega
theorem run_start {m : Int} (hm : 1 ≤ m ∧ m ≤ 1000000000) : ∃ f,K.runC (rgD m) K.f0 0 (cst0.cs.map cmK) = (f,2,0) ∧ Frm m f false 0 200000000 := by
 obtain ⟨a1,b1⟩ := do_home hm;obtain ⟨a2,b2⟩ := do_go hm b1 (q := ⟨0,0,200000⟩) (by unfold PtIn InP; simp only; omega) (by decide);refine ⟨_,?_,b2.up (by decide)⟩;show K.runC _ _ _ (([cd 1 0,goC ⟨0,0,200000⟩] : List Cd).map cmK) = _;rw [run_cons a1,run_cons a2]
 rfl
theorem comp_run {l ls : List Sit} {m : Int} (hm : 1 ≤ m ∧ m ≤ 1000000000) (hd : dchk l = 0) (hst : ∀ s ∈ ls,StOk s) (htm : tipM l ≤ m) {acs : List Acn} (hn : acs.length ≤ 1048576) (hr : (runR l acs).2.2 = 0) (hc : (compL (tipsL l) (floorB ls) (ptQ ls) cst0 0 acs).2.2 = 0) :
  ∃ f,K.runC (rgD m) K.f0 0 ((compL (tipsL l) (floorB ls) (ptQ ls) cst0 0 acs).1.cs.map cmK) = (f,(compL (tipsL l) (floorB ls) (ptQ ls) cst0 0 acs).1.cs.length,0) := by
 obtain ⟨st',h,_⟩ := comp_ind (ts := tipsL l) (bins := floorB ls) (pt := ptQ ls) hd
  (I := fun A st s => A.length ≤ 1048576 → ∃ f,K.runC (rgD m) K.f0 0 (s.cs.map cmK) = (f,s.cs.length,0) ∧ Frm m f st.tip s.held (200000000 + 400000000 * (A.length : Int) + 1000 * st.clock))
  (fun A st s a h hrl h0 h1 hk hA => by
   rw [List.length_append,List.length_cons,List.length_nil] at hA;have hr2 := hrl.step hd h0 h1;obtain ⟨f,q1,q2⟩ := h (by omega);have c1 := hrl.may.clock;have c2 := hr2.may.clock;obtain ⟨f',q3,q4⟩ := run_chunk (ts := tipsL l) (bins := floorB ls) hm hd (fun p => ptQ_in hst p) htm hrl hk hr2.may h1 hr2.held q2 (by omega) s.cs.length;refine ⟨f',?_,q4.up (by simp only [List.length_append,List.length_cons,List.length_nil]; omega)⟩
   rw [step_chunk,run_app _ _ _ _ _ _ q1,q3,List.length_append])
  acs [] sta0 cst0 0 (fun _ => by
   obtain ⟨f,q1,q2⟩ := run_start hm
   exact ⟨f,q1,q2.up (by simp)⟩) (Rl.start l) (run_ok hd hr) hc
 obtain ⟨f,q1,_⟩ := h (by simpa using hn);exact ⟨f,q1⟩
end Go.Proofs.YtcajifelbldjnaaGreatDoor
namespace Go.Proofs.YtcajifelbldjnaaGreatDoor
open Go.RowKit Go.Maps
def tmL : List Sit → Int
 | [] => 1
 | s :: r => if s.ware.kind = 2 then s.ware.cap else tmL r
theorem tmL_skip {ls : List Sit} {k : Nat} (hk : k < ls.length) (h : (ls[k]'hk).ware.kind ≠ 2) : tmL (ls.drop k) = tmL (ls.drop (k + 1)) := by
 rw [List.drop_eq_getElem_cons hk];exact if_neg h
theorem tmL_hit {ls : List Sit} {k : Nat} (hk : k < ls.length) (h : (ls[k]'hk).ware.kind = 2) : tmL (ls.drop k) = (ls[k]'hk).ware.cap := by
 rw [List.drop_eq_getElem_cons hk];exact if_pos h
theorem tipMost_any (ao : Option Addr) (cap : Nat) (l : List Sit) (w : World) (hS : Sts w ao l) (hd : dchk l = 0) (ls : List Sit) (hp : ls.Perm l) (hpw : ls.Pairwise fun x y => x.slot ≤ y.slot) :
  CR 27 #[.slice ao l.length cap] w (.int .i64 (tmL ls)) := by
 have HB := hid (bySlots_any ao cap l w hS (dk_len hd));have HDC := hdd hd;have HP : Hid (ls.Perm l ∧ ls.Pairwise fun x y => x.slot ≤ y.slot) := ⟨hp,hpw⟩;clear hS hd hp hpw
 go_enter Tryz.func27,Tryz.ntmps27
 go_wp2_with fail
 refine Calls.mono HB.out ?_;rintro e w1 ⟨l1,ao1,cap1,rfl,hp1,hs1,hst,_,hb⟩;obtain rfl := sorted_one HDC.out hp1 HP.out.1 hs1 HP.out.2;have HST := hdd hst;have HB1 := hdd hb;have HLN : Hid (l1.length ≤ 12) := by show _ ≤ _; rw [hp1.length_eq]; exact dk_len HDC.out
 clear hp1 hs1 hst hb HB HP
 go_wp2_with fail
 go_loopw [8] (fun i wr => ∃ k : Nat,k ≤ l1.length ∧ i = .int .i64 (k : Int) ∧ tmL l1 = tmL (l1.drop k) ∧ bw w1 wr) (fun i _ => l1.length - (intOf i).toNat)
 case atStart => exact ⟨0,Nat.zero_le _,rfl,rfl,brf⟩
 case round =>
  obtain ⟨k,hk,rfl,ht,hb⟩ := hrel;have HT := hdd ht;have HBR := hdd hb;clear ht hb;have hln := HLN.out
  by_cases hlt : k < l1.length
  ·obtain ⟨b,off,rfl,hbx⟩ := (HST.out.next HBR.out).at hlt
   have HSK : Hid ((l1[k]'hlt).ware.kind ≠ 2 → tmL (l1.drop k) = tmL (l1.drop (k + 1))) := tmL_skip hlt;have HHI : Hid ((l1[k]'hlt).ware.kind = 2 → tmL (l1.drop k) = (l1[k]'hlt).ware.cap) := tmL_hit hlt;generalize l1[k]'hlt = a at *;obtain ⟨_,c0,c1,c2,c3,c4,c5,c6,c7,c8,c9,c10,c11,c12,c13⟩ := hbx;have hki : (k : Int) < (l1.length : Int) := by omega
   by_cases ha : a.ware.kind = 2
   ·have HE : Hid (tmL l1 = a.ware.cap) := HT.out.trans (HHI.out ha)
    have h2 : (a.ware.kind == 2) = true := by simp [ha]
    clear HSK HHI HT ha;go_wp2;go_ret;exact ⟨ret_int HE.out.symm,(HB1.out.trans (HBR.out.mono HB1.out.size)).trans (((brf).alloc (Nat.le_refl _) _).mono (Nat.le_trans HB1.out.size HBR.out.size))⟩
   ·have HN : Hid (tmL l1 = tmL (l1.drop (k + 1))) := HT.out.trans (HSK.out ha)
    have h2 : (a.ware.kind == 2) = false := by simp [ha]
    clear HSK HHI HT ha;go_wp2
    go_roundw
    case rel => exact ⟨k + 1,by omega,by go_num,HN.out,HBR.out.trans (((brf).alloc (Nat.le_refl _) _).mono HBR.out.size)⟩
    case measure => simp [intOf]; omega
  ·have HE : Hid (tmL l1 = 1) := by
    have := HT.out;rw [List.drop_eq_nil_of_le (by omega)] at this;exact this
   go_wp2;go_ret;exact ⟨ret_int HE.out.symm,HB1.out.trans (HBR.out.mono HB1.out.size)⟩
abbrev zrc : List Value := [.int .i64 0,.int .i64 0,.int .i64 0,.int .i64 0,.int .i64 0,.int .i64 0,.int .i64 0,.int .i64 0,.int .i64 0,.int .i64 0,.int .i64 0,.int .i64 0]
abbrev rgc (m : Int) : List Value := [.int .i64 0,.int .i64 0,.int .i64 0,.int .i64 1000000,.int .i64 1000000,.int .i64 200000,.int .i64 1000000,.int .i64 1000,.int .i64 100000,.int .i64 100,.int .i64 10,.int .i64 m]
theorem infoR : (Tryz.prog.info? 35).map (·.size) = some 12 := by kernel_rfl
theorem Rig_ok (ao : Option Addr) (cap : Nat) (l : List Sit) (w : World) (hD : Dk w ao cap l) (hd : dchk l = 0) (ls : List Sit) (hp : ls.Perm l) (hpw : ls.Pairwise fun x y => x.slot ≤ y.slot) :
  CR 9 #[.slice ao l.length cap] w (.tuple #[K.rgv (rgD (tmL ls)),.int .i64 0]) := by
 obtain ⟨w0,hw0⟩ : ∃ w0,w0 = w.alloc (.cells zrc.toArray 35) := ⟨_,rfl⟩;have hb0 : bw w w0 := by rw [hw0]; exact (brf).alloc (Nat.le_refl _) _
 have KZ0 : Hid (Bk w.heap.size zrc w0) := by show Bk _ _ _; rw [hw0]; exact Bk.new w zrc 35 w.heap.size rfl
 have HC := hid (dk_check ao cap l w0 (hD.next hb0) (by have := dk_len hd; omega));rw [hd] at HC;have HB0 := hid hb0;have HT : Hid (∀ W,bw w0 W → CR 27 #[.slice ao l.length cap] W (.int .i64 (tmL ls))) := fun W hW => tipMost_any ao cap l W ((hD.next hb0).next hW).sts hd ls hp hpw;have HW0 := hdd hw0;obtain ⟨Z,hZ⟩ : ∃ Z,Z = w.heap.size := ⟨_,rfl⟩;have HZ : Hid (w.heap.size ≤ Z) := Nat.le_of_eq hZ.symm;rw [← hZ] at KZ0;clear hD hd hp hpw hb0 hw0
 go_enter Tryz.func9,Tryz.ntmps9
 go_wp2_with fail
 rw [← HW0.out,← hZ];clear HW0 hZ;refine Calls.mono HC.out ?_;rintro e w1 ⟨rfl,hb1⟩;have HB1 := hid hb1;clear hb1 HC
 go_wp2_with fail
 refine Calls.mono (HT.out w1 HB1.out) ?_;rintro e w2 ⟨rfl,hb2⟩;have KZ2 : Hid (Bk Z zrc w2) := KZ0.out.later (HB1.out.trans (hb2.mono HB1.out.size));have HB2 : Hid (bw w w2) := HB0.out.trans ((HB1.out.trans (hb2.mono HB1.out.size)).mono HB0.out.size);clear hb2 HT HB1 KZ0 HB0
 go_wp2_with (refine wpList_store_mid rfl 35 _ _ rfl Z 0 (rgc (tmL ls)).toArray rfl rfl (KZ2.out.there (Nat.le_refl _)) infoR (by kernel_rfl) ?_)
 have KZ4 : Hid (Bk Z (rgc (tmL ls)) (w2.setCells Z 0 (rgc (tmL ls)))) := KZ2.out.setAll _ rfl;have HB4 : Hid (bw w (w2.setCells Z 0 (rgc (tmL ls)))) := HB2.out.trans ((K.low_setCells (Nat.le_refl _) _ _ _).mono (by have := KZ2.out.1; have := HZ.out; omega));exact bodyPost_ret (v := .tuple #[K.rgv (rgD (tmL ls)),.int .i64 0]) (K.results_ct Tryz.results9 _ _ _ rfl rfl (run_loadVar_mid (P := Tryz.prog) _ Z 0 35 (rgc (tmL ls)) _ KZ4.out.range Tryz.underlying35 rfl infoR)) rfl ⟨rfl,HB4.out⟩
theorem Compile_all (ao : Option Addr) (cap : Nat) (l : List Sit) (aoA : Option Addr) (capA : Nat) (acs : List Acn) (w : World) (hD : Dk w ao cap l) (hl : l.length ≤ 9223372036854775807) (hA : Acs w aoA acs) (hla : acs.length ≤ 10000000) :
  Calls Tryz.prog 6 #[.slice ao l.length cap,.slice aoA acs.length capA] w fun e w' => ∃ ls aoC nC capC,(dchk l = 0 → (runR l acs).2.2 = 0 → ls.Perm l ∧ ls.Pairwise fun x y => x.slot ≤ y.slot) ∧ e = .returned (.tuple #[.slice aoC nC capC,.int .i64 ((compR l ls acs).2.1 : Int),.int .i64 (compR l ls acs).2.2]) ∧ OwnR encK w' w.heap.size (.slice aoC nC capC) (compR l ls acs).1 ∧ bw w w' := by
 by_cases hd : dchk l = 0
 ·by_cases hr : (runR l acs).2.2 = 0
  ·refine (compile_ok ao cap l aoA capA acs w hD hA hla hd hr).mono ?_
   rintro e w' ⟨ls,aoC,nC,capC,h1,h1b,h2,h3,h4⟩;exact ⟨ls,aoC,nC,capC,fun _ _ => ⟨h1,h1b⟩,h2,h3,h4⟩
  ·refine (compile_err2 ao cap l aoA capA acs w hD hA hla hd hr).mono ?_
   rintro e w' ⟨rfl,h⟩;have e1 : compR l l acs = ([],(runR l acs).2.1,(runR l acs).2.2) := by unfold compR; rw [if_neg (by simp [hd]),if_pos hr]
   exact ⟨l,none,0,0,fun _ h => absurd h hr,by rw [e1],by rw [e1]; exact OwnR.nil _ _ _,h⟩
 ·refine (compile_err1 ao cap l aoA capA acs w hD hl hd).mono ?_
  rintro e w' ⟨rfl,h⟩;have e1 : compR l l acs = ([],0,dchk l) := by unfold compR; rw [if_pos hd]
  exact ⟨l,none,0,0,fun h => absurd h hd,by rw [e1]; rfl,by rw [e1]; exact OwnR.nil _ _ _,h⟩
theorem compR_nil (ls : List Sit) : compR [] ls [] = (cst0.cs,0,0) := rfl
theorem compR_cases (l ls : List Sit) (acs : List Acn) : ((compR l ls acs).2.2 ≠ 0 ∧ (compR l ls acs).1 = []) ∨ ((compR l ls acs).2.2 = 0 ∧ dchk l = 0 ∧ (runR l acs).2.2 = 0 ∧ (compL (tipsL l) (floorB ls) (ptQ ls) cst0 0 acs).2.2 = 0 ∧ (compR l ls acs).1 = (compL (tipsL l) (floorB ls) (ptQ ls) cst0 0 acs).1.cs) := by
 unfold compR
 split
 ·rename_i h; exact .inl ⟨h,rfl⟩
 ·rename_i h
  split
  ·rename_i h2; exact .inl ⟨h2,rfl⟩
  ·rename_i h2
   split
   ·rename_i h3; exact .inr ⟨rfl,Classical.not_not.1 h,Classical.not_not.1 h2,h3,rfl⟩
   ·rename_i h3; exact .inl ⟨h3,rfl⟩
theorem step_len (ts bins : List Plc) (pt : Plc → S.Pt) (s : Cst) (a : Acn) : (stepC ts bins pt s a).1.cs.length ≤ s.cs.length + 4 := by
 have hr : ∀ t,(restC t).length ≤ 1 := fun t => by unfold restC; split <;> simp
 have := hr a.time;unfold stepC
 repeat' split
 all_goals simp only [List.length_append,workC,List.length_cons,List.length_nil]
 all_goals omega
theorem comp_len (ts bins : List Plc) (pt : Plc → S.Pt) : ∀ (acs : List Acn) (s : Cst) (k : Nat),(compL ts bins pt s k acs).1.cs.length ≤ s.cs.length + 4 * acs.length
 | [],s,k => Nat.le_refl _
 | a :: r,s,k => by
  simp only [compL];have h1 := step_len ts bins pt s a
  split
  ·have := comp_len ts bins pt r (stepC ts bins pt s a).1 (k + 1)
   rw [List.length_cons];omega
  ·simp only [List.length_cons]; omega
theorem compR_len (l ls : List Sit) (acs : List Acn) : (compR l ls acs).1.length ≤ 2 + 4 * acs.length := by
 unfold compR;have := comp_len (tipsL l) (floorB ls) (ptQ ls) acs cst0 0;have e : cst0.cs.length = 2 := rfl;rw [e] at this
 split
 ·simp
 ·split
  ·simp
  ·split
   ·exact this
   ·simp
theorem rdC_of {w : World} {ao : Option Addr} {cs : List Cd} (h : RdR encK w ao cs) : K.RdC w ao (cs.map cmK) := by
 by_cases hn : cs = []
 ·subst hn; exact .inl rfl
 ·have h0 : 0 < cs.length := List.length_pos_iff.2 hn
  obtain ⟨g,off,e,hg,_⟩ := rdK5 h h0;refine .inr ⟨g,off,e,hg,fun i hi => ?_⟩;have hi2 : i < cs.length := by simpa using hi
  obtain ⟨g2,off2,e2,_,c0,c1,c2,c3,c4⟩ := rdK5 h hi2;rw [e] at e2;injection e2 with e2;injection e2 with e3 e4;subst e3 e4;simp only [List.getElem_map];exact ⟨c0,c1,c2,c3,c4⟩
theorem Run_D (a : Nat → Addr) (n : Nat) (m : Int) (ao : Option Addr) (cap : Nat) (cs : List Cd) (w : World) (hg : K.Gl a n w) (hm : 1 ≤ m ∧ m ≤ 1000000000) (hR : RdR encK w ao cs) (hl : cs.length ≤ 1000000000) (f : K.Fm) (hf : K.runC (rgD m) K.f0 0 (cs.map cmK) = (f,cs.length,0)) :
  CR 17 #[K.rgv (rgD m),.slice ao cs.length cap] w (.tuple #[K.fv f,.int .i64 (cs.length : Int),.int .i64 0]) := by
 have := K.Run_b a n (rgD m) ao cap (cs.map cmK) w hg (K.rgOk_iff.2 (rgD_ok hm)) (rdC_of hR) (by simp; omega);rw [hf,List.length_map] at this;exact this
structure Told (l ls : List Sit) (acs : List Acn) (cs : List Cd) (f : K.Fm) : Prop where
 dk : dchk l = 0
 perm : ls.Perm l
 sorted : ls.Pairwise fun x y => x.slot ≤ y.slot
 run : (runR l acs).2.2 = 0
 comp : ∃ n,compR l ls acs = (cs,n,0)
 most : 1 ≤ tmL ls ∧ tmL ls ≤ 1000000000
 firm : K.runC (rgD (tmL ls)) K.f0 0 (cs.map cmK) = (f,cs.length,0)
 few : cs.length ≤ 100000000
theorem Ticks_ok (a : Nat → Addr) (n : Nat) (ao : Option Addr) (cap : Nat) (l : List Sit) (aoA : Option Addr) (capA : Nat) (acs : List Acn) (w : World) (hg : K.Gl a n w) (hD : Dk w ao cap l) (hA : Acs w aoA acs) (hla : acs.length ≤ 10000000) (ls : List Sit) (cs : List Cd) (f : K.Fm) (ht : Told l ls acs cs f) :
  CR 10 #[.slice ao l.length cap,.slice aoA acs.length capA] w (.tuple #[.int .i64 f.tk,.int .i64 0]) := by
 have HC := hid (Compile_all ao cap l aoA capA acs w hD (by have := dk_len ht.dk; omega) hA hla);have HD := hdd hD;have HT := hdd ht;have HG := hdd hg;clear hD hA hla ht hg
 go_enter Tryz.func10,Tryz.ntmps10
 go_wp2_with fail
 refine Calls.mono HC.out ?_;rintro e w1 ⟨ls1,aoC,nC,capC,hp,rfl,ho,hb⟩;obtain ⟨hp1,hp2⟩ := hp HT.out.dk HT.out.run;obtain rfl := sorted_one HT.out.dk hp1 HT.out.perm hp2 HT.out.sorted;obtain ⟨m,hm⟩ := HT.out.comp;rw [hm] at ho ⊢;have hnC := own_len ho;simp only at hnC ho ⊢;subst hnC;have HB1 := hdd hb;have HR1 : Hid (RdR encK w1 aoC cs) := rd_own goodK ho;have HRG := hid (Rig_ok ao cap l w1 (HD.out.next hb) HT.out.dk ls1 HT.out.perm HT.out.sorted);clear hp hp1 hp2 hm ho hb HC
 go_wp2_with fail
 refine Calls.mono HRG.out ?_;rintro e w2 ⟨rfl,hb2⟩;obtain ⟨w3,hw3⟩ : ∃ w3,w3 = w2.alloc (K.rgo (rgD (tmL ls1))) := ⟨_,rfl⟩;have hb3 : bw w2 w3 := by rw [hw3]; exact (brf).alloc (Nat.le_refl _) _
 have HB3 : Hid (bw w1 w3) := hb2.trans (hb3.mono hb2.size);have HW3 := hdd hw3;have HRN := hid (Run_D a n (tmL ls1) aoC capC cs w3 (HG.out.later (HB1.out.trans (HB3.out.mono HB1.out.size))) HT.out.most (HR1.out.next goodK HB3.out) (by have := HT.out.few; omega) f HT.out.firm);clear hb2 hb3 hw3 HRG
 go_wp2_with fail
 rw [← HW3.out];refine Calls.mono HRN.out ?_;rintro e w4 ⟨rfl,hb4⟩;have HB4 := hdd (HB1.out.trans ((HB3.out.trans (hb4.mono HB3.out.size)).mono HB1.out.size));clear hb4 HRN HW3;go_wp2;refine bodyPost_ret (v := .tuple #[.int .i64 f.tk,.int .i64 0]) (by simp [results,Tryz.results10,go_sem]) rfl ⟨rfl,HB4.out.trans (((brf).alloc (Nat.le_refl _) _).mono HB4.out.size)⟩
theorem rdA_at {w : World} {ao : Option Addr} {xs : List Acn} (h : RdR encA w ao xs) {k : Nat} (hk : k < xs.length) : ∃ g off,ao = some ⟨g,off,none⟩ ∧ g < w.heap.size ∧ ∀ W,bw w W → ∀ a,a = xs[k]'hk → W.cell? ⟨g,off + k * 8,none⟩ = some (.int .i64 a.kind) ∧ W.cell? ⟨g,off + k * 8 + 1,none⟩ = some (.int .i64 a.pl.1) ∧ W.cell? ⟨g,off + k * 8 + 2,none⟩ = some (.int .i64 a.pl.2.1) ∧ W.cell? ⟨g,off + k * 8 + 3,none⟩ = some (.int .i64 a.pl.2.2) ∧ W.cell? ⟨g,off + k * 8 + 4,none⟩ = some (.string a.label) ∧ W.cell? ⟨g,off + k * 8 + 5,none⟩ = some (.int .i64 a.vol) ∧ W.cell? ⟨g,off + k * 8 + 6,none⟩ = some (.int .i64 a.value) ∧ W.cell? ⟨g,off + k * 8 + 7,none⟩ = some (.int .i64 a.time) := by
 rcases h with h | ⟨g,off,e,hg,hc⟩
 ·subst h; simp at hk
 ·refine ⟨g,off,e,hg,fun W hW a ha => ?_⟩
  subst ha;exact ⟨cell_later hW (hc k hk 0 (by decide)),cell_later hW (hc k hk 1 (by decide)),cell_later hW (hc k hk 2 (by decide)),cell_later hW (hc k hk 3 (by decide)),cell_later hW (hc k hk 4 (by decide)),cell_later hW (hc k hk 5 (by decide)),cell_later hW (hc k hk 6 (by decide)),cell_later hW (hc k hk 7 (by decide))⟩
def saV (g off g2 off2 k n cap cap2 : Nat) (a : Acn) (d : Nat) (v : Value) (w : World) : Prop :=
 match d with
 | 17 => v = .slice (some ⟨g,off,none⟩) n cap
 | 18 | 22 => v = .int .i64 (k : Int)
 | 19 => v = .pointer (some ⟨g,off + k * 8,none⟩)
 | 20 | 24 => v = .agg #[.int .i64 a.kind,.int .i64 a.pl.1,.int .i64 a.pl.2.1,.int .i64 a.pl.2.2,.string a.label,.int .i64 a.vol,.int .i64 a.value,.int .i64 a.time]
 | 21 => v = .slice (some ⟨g2,off2,none⟩) n cap2
 | 23 => v = .pointer (some ⟨g2,off2 + k * 8,none⟩)
 | 25 => v = .bool false
 | _ => True
theorem saV_mono (g off g2 off2 k n cap cap2 : Nat) (a : Acn) (d : Nat) (v : Value) (w w' : World) (h : saV g off g2 off2 k n cap cap2 a d v w) (hb : bw w w') : saV g off g2 off2 k n cap cap2 a d v w' := by
 unfold saV at h ⊢
 split <;> simp only [] at h <;> first | exact h | (obtain ⟨x,h1,h2⟩ := h; exact ⟨x,h1,h2.later hb⟩)
theorem same_yes (ao ao2 : Option Addr) (cap cap2 : Nat) (xs : List Acn) (w : World) (h1 : RdR encA w ao xs) (h2 : RdR encA w ao2 xs) (hl : xs.length ≤ 1000000000) :
  CR 18 #[.slice ao xs.length cap,.slice ao2 xs.length cap2] w (.bool true) := by
 have HR1 := hdd h1;have HR2 := hdd h2;clear h1 h2
 go_enter Tryz.func18,Tryz.ntmps18
 go_wp2
 go_loopw [5] (fun i wr => ∃ k : Nat,k ≤ xs.length ∧ i = .int .i64 (k : Int) ∧ bw w wr) (fun i _ => xs.length - (intOf i).toNat)
 case atStart => exact ⟨0,Nat.zero_le _,rfl,brf⟩
 case round =>
  obtain ⟨k,hk,rfl,hb⟩ := hrel;have HB := hdd hb;clear hb
  by_cases hlt : k < xs.length
  ·obtain ⟨g,off,rfl,hg,hc⟩ := rdA_at (HR1.out.next goodA HB.out) hlt
   obtain ⟨g2,off2,rfl,hg2,hc2⟩ := rdA_at (HR2.out.next goodA HB.out) hlt;obtain ⟨a,ha⟩ : ∃ a,a = xs[k]'hlt := ⟨_,rfl⟩;have H1 : Hid (∀ W,bw wr W → W.cell? ⟨g,off + k * 8,none⟩ = some (.int .i64 a.kind) ∧ W.cell? ⟨g,off + k * 8 + 1,none⟩ = some (.int .i64 a.pl.1) ∧ W.cell? ⟨g,off + k * 8 + 2,none⟩ = some (.int .i64 a.pl.2.1) ∧ W.cell? ⟨g,off + k * 8 + 3,none⟩ = some (.int .i64 a.pl.2.2) ∧ W.cell? ⟨g,off + k * 8 + 4,none⟩ = some (.string a.label) ∧ W.cell? ⟨g,off + k * 8 + 5,none⟩ = some (.int .i64 a.vol) ∧ W.cell? ⟨g,off + k * 8 + 6,none⟩ = some (.int .i64 a.value) ∧ W.cell? ⟨g,off + k * 8 + 7,none⟩ = some (.int .i64 a.time)) := fun W hW => hc W hW a ha;have H2 : Hid (∀ W,bw wr W → W.cell? ⟨g2,off2 + k * 8,none⟩ = some (.int .i64 a.kind) ∧ W.cell? ⟨g2,off2 + k * 8 + 1,none⟩ = some (.int .i64 a.pl.1) ∧ W.cell? ⟨g2,off2 + k * 8 + 2,none⟩ = some (.int .i64 a.pl.2.1) ∧ W.cell? ⟨g2,off2 + k * 8 + 3,none⟩ = some (.int .i64 a.pl.2.2) ∧ W.cell? ⟨g2,off2 + k * 8 + 4,none⟩ = some (.string a.label) ∧ W.cell? ⟨g2,off2 + k * 8 + 5,none⟩ = some (.int .i64 a.vol) ∧ W.cell? ⟨g2,off2 + k * 8 + 6,none⟩ = some (.int .i64 a.value) ∧ W.cell? ⟨g2,off2 + k * 8 + 7,none⟩ = some (.int .i64 a.time)) := fun W hW => hc2 W hW a ha;have GH1 := hdd hg;have GH2 := hdd hg2;have hki : (k : Int) < (xs.length : Int) := by omega
   have HKI := hdd hki;clear hc hc2 hg hg2 ha
   go_wp2_with fail
   rename_i hkk;have HKK := (show Hid _ from hkk);clear hkk
   refine region_seq 9 [zf,zf,zf,zf,zf,zf,zf,zf,zf,zf,zf,zf,zf,zf,zf,zf,zf,zt,zt,zt,zt,zt,zt,zt,zt,zt]
    [(17,[],none),(18,[],none),(19,[17,18],none),(20,[19],none),(21,[],none),(22,[],none),(23,[21,22],none),(24,[23],none),(25,[20,24],none)]
    (saV g off g2 off2 k xs.length cap cap2 a) (by kernel_rfl) (by kernel_rfl) (by kernel_rfl) (by kernel_rfl) (by kernel_rfl) (by decide) (saV_mono g off g2 off2 k xs.length cap cap2 a) ?_ ?_
   ·refine ⟨?_,?_,?_,?_,?_,?_,?_,?_,?_,trivial⟩
    any_goals first | (intro f w1 hb _ K hK; simp only [ov,oL]; go_simp; exact hK _ _ ⟨_,rfl,by simp only [ov,oL]; rfl,brf⟩) | fail
    ·rintro f w1 hb ⟨(h17 : f 17 = _),(h18 : f 18 = _),_⟩ K hK
     have hki := HKI.out;simp only [ov,oL,h17,h18];go_simp;exact hK _ _ ⟨_,rfl,by simp only [ov,oL,h17,h18]; rfl,brf⟩
    ·rintro f w1 hb ⟨(h19 : f 19 = _),_⟩ K hK
     have hbk := H1.out w1 hb;obtain ⟨q0,q1,q2,q3,q4,q5,q6,q7⟩ := hbk;have hgl := Nat.lt_of_lt_of_le GH1.out hb.size;simp only [ov,oL,h19];go_simp;exact hK _ _ ⟨_,rfl,by simp only [ov,oL,h19]; rfl,brf⟩
    ·rintro f w1 hb ⟨(h21 : f 21 = _),(h22 : f 22 = _),_⟩ K hK
     have hki := HKI.out;simp only [ov,oL,h21,h22];go_simp;exact hK _ _ ⟨_,rfl,by simp only [ov,oL,h21,h22]; rfl,brf⟩
    ·rintro f w1 hb ⟨(h23 : f 23 = _),_⟩ K hK
     have hbk := H2.out w1 hb;obtain ⟨q0,q1,q2,q3,q4,q5,q6,q7⟩ := hbk;have hgl := Nat.lt_of_lt_of_le GH2.out hb.size;simp only [ov,oL,h23];go_simp;exact hK _ _ ⟨_,rfl,by simp only [ov,oL,h23]; rfl,brf⟩
    ·rintro f w1 hb ⟨(h20 : f 20 = _),(h24 : f 24 = _),_⟩ K hK
     simp only [ov,oL,h20,h24];go_simp;exact hK _ _ ⟨_,rfl,by simp only [ov,oL,h20,h24]; rfl,brf⟩
   intro f w5 hb5 hv;have h25 : f 25 = .bool false := hv.2.2.2.2.2.2.2.2.1;have HB5 := hdd (HB.out.trans (hb5.mono HB.out.size));simp only [oeq,oL,h25,Nat.reduceAdd];clear hv h25 hb5 H1 H2 GH1 GH2;refine HKK.out _ _ ?_;clear HKK;go_wp2
   go_roundw
   case rel => exact ⟨k + 1,by omega,by go_num,HB5.out⟩
   case measure => simp [intOf]; omega
  ·go_wp2
   go_ret;exact ⟨rfl,HB.out⟩
def seenB (a : Acn) : List Acn :=
 if a.kind = 6 ∨ a.kind = 7 then [acK a.kind] else if a.kind = 8 ∨ a.kind = 9 then [acP a.kind a.pl a.vol] else if a.kind = 11 then [acW a.value] else []
theorem seenB_len : ∀ l : List Acn,(l.flatMap seenB).length ≤ l.length
 | [] => Nat.le_refl _
 | a :: r => by
  have h1 : (seenB a).length ≤ 1 := by
   unfold seenB
   repeat' split
   all_goals simp
  have := seenB_len r;simp only [List.flatMap_cons,List.length_append,List.length_cons];omega
theorem take_flat {α β : Type} (f : α → List β) {l : List α} {k : Nat} (hk : k < l.length) : (l.take (k + 1)).flatMap f = (l.take k).flatMap f ++ f (l[k]'hk) := by
 rw [List.take_succ_eq_append_getElem hk,List.flatMap_append];simp
theorem seen_any (ao : Option Addr) (cap : Nat) (acs : List Acn) (w : World) (hA : Acs w ao acs) (hl : acs.length ≤ 10000000) :
  Calls Tryz.prog 19 #[.slice ao acs.length cap] w fun e w' => ∃ ao1 n1 cap1,e = .returned (.slice ao1 n1 cap1) ∧ OwnR encA w' w.heap.size (.slice ao1 n1 cap1) (acs.flatMap seenB) ∧ bw w w' := by
 have HA := hdd hA;clear hA
 go_enter Tryz.func19,Tryz.ntmps19
 go_wp2
 go_loopw [3,4] (fun v i wr => ∃ (k : Nat) (ao1 : Option Addr) (n1 cap1 : Nat),k ≤ acs.length ∧ i = .int .i64 (k : Int) ∧ v = .slice ao1 n1 cap1 ∧ OwnR encA wr w.heap.size (.slice ao1 n1 cap1) ((acs.take k).flatMap seenB) ∧ bw w wr) (fun _ i _ => acs.length - (intOf i).toNat)
 case atStart => exact ⟨0,none,0,0,Nat.zero_le _,rfl,rfl,OwnR.nil _ _ _,brf⟩
 case round =>
  obtain ⟨k,ao1,n1,cap1,hk,rfl,rfl,ho,hb⟩ := hrel;have HB := hdd hb;have HO := hdd ho;have HLN : Hid (((acs.take k).flatMap seenB).length ≤ 1000000000) := by show _ ≤ _; have := seenB_len (acs.take k); rw [List.length_take] at this; omega
  clear hb ho
  by_cases hlt : k < acs.length
  ·obtain ⟨g,off,hao,hcs⟩ := (HA.out.next HB.out).at hlt
   have HTK : Hid ((acs.take (k + 1)).flatMap seenB = (acs.take k).flatMap seenB ++ seenB (acs[k]'hlt)) := take_flat seenB hlt;generalize acs[k]'hlt = a at *;subst hao;have c0 := hcs 0 (by decide);have c1 := hcs 1 (by decide);have c2 := hcs 2 (by decide);have c3 := hcs 3 (by decide);have c4 := hcs 4 (by decide);have c5 := hcs 5 (by decide);have c6 := hcs 6 (by decide);have c7 := hcs 7 (by decide);simp only [acl,List.getElem?_cons_zero,List.getElem?_cons_succ,Nat.add_zero] at c0 c1 c2 c3 c4 c5 c6 c7;have hki : (k : Int) < (acs.length : Int) := by omega
   have HS1 : Hid (w.heap.size ≤ (wr.alloc (aobj a)).heap.size) := by show _ ≤ _; have := HB.out.size; simp; omega
   obtain ⟨ak,apl,al,avl,avv,atm⟩ := a;clear hcs
   by_cases h6 : ak = 6
   ·subst h6
    have HE := hdd (HTK.out);clear HTK
    go_wp2_with (at_builtin; refine wpList_append_row goodA Tryz.underlying23 infoA rfl (by decide) (by decide) _ rfl (.tmp 21) (.tmp 25) rfl w.heap.size (.slice ao1 n1 cap1) ((acs.take k).flatMap seenB) rfl ((HO.out.alloc _).alloc _) (wr.heap.size + 1) (acK 6) rfl (fun j u hu => (Bk.new (wr.alloc _) _ 57 (wr.heap.size + 1) (by simp)).c j hu) HLN.out (by have := HB.out.size; simp; omega) ?_; intro v' w5 ho hg hloc)
    obtain ⟨ao5,n5,cap5,rfl⟩ := ho.form;have HB5 := below_row ((HB.out.alloc HB.out.size _).alloc HS1.out _) ((HO.out.alloc _).alloc _) hg (by have := HB.out.size; simp; omega)
    go_roundw
    case rel => exact ⟨k + 1,ao5,n5,cap5,by omega,by go_num,rfl,by rw [HE.out]; exact ho,HB5⟩
    case measure => simp [intOf]; omega
   ·have b6 : (ak == 6) = false := by simp [h6]
    by_cases h7 : ak = 7
    ·subst h7
     have HE := hdd (HTK.out);clear HTK
     go_wp2_with (at_builtin; refine wpList_append_row goodA Tryz.underlying23 infoA rfl (by decide) (by decide) _ rfl (.tmp 21) (.tmp 25) rfl w.heap.size (.slice ao1 n1 cap1) ((acs.take k).flatMap seenB) rfl ((HO.out.alloc _).alloc _) (wr.heap.size + 1) (acK 7) rfl (fun j u hu => (Bk.new (wr.alloc _) _ 57 (wr.heap.size + 1) (by simp)).c j hu) HLN.out (by have := HB.out.size; simp; omega) ?_; intro v' w5 ho hg hloc)
     obtain ⟨ao5,n5,cap5,rfl⟩ := ho.form;have HB5 := below_row ((HB.out.alloc HB.out.size _).alloc HS1.out _) ((HO.out.alloc _).alloc _) hg (by have := HB.out.size; simp; omega)
     go_roundw
     case rel => exact ⟨k + 1,ao5,n5,cap5,by omega,by go_num,rfl,by rw [HE.out]; exact ho,HB5⟩
     case measure => simp [intOf]; omega
    ·have b7 : (ak == 7) = false := by simp [h7]
     by_cases h8 : ak = 8
     ·subst h8
      have HE := hdd (HTK.out);clear HTK
      go_wp2_with (at_builtin; refine wpList_append_row goodA Tryz.underlying23 infoA rfl (by decide) (by decide) _ rfl (.tmp 30) (.tmp 38) rfl w.heap.size (.slice ao1 n1 cap1) ((acs.take k).flatMap seenB) rfl ((HO.out.alloc _).alloc _) (wr.heap.size + 1) (acP 8 apl avl) rfl (fun j u hu => (Bk.new (wr.alloc _) _ 57 (wr.heap.size + 1) (by simp)).c j hu) HLN.out (by have := HB.out.size; simp; omega) ?_; intro v' w5 ho hg hloc)
      obtain ⟨ao5,n5,cap5,rfl⟩ := ho.form;have HB5 := below_row ((HB.out.alloc HB.out.size _).alloc HS1.out _) ((HO.out.alloc _).alloc _) hg (by have := HB.out.size; simp; omega)
      go_roundw
      case rel => exact ⟨k + 1,ao5,n5,cap5,by omega,by go_num,rfl,by rw [HE.out]; exact ho,HB5⟩
      case measure => simp [intOf]; omega
     ·have b8 : (ak == 8) = false := by simp [h8]
      by_cases h9 : ak = 9
      ·subst h9
       have HE := hdd (HTK.out);clear HTK
       go_wp2_with (at_builtin; refine wpList_append_row goodA Tryz.underlying23 infoA rfl (by decide) (by decide) _ rfl (.tmp 30) (.tmp 38) rfl w.heap.size (.slice ao1 n1 cap1) ((acs.take k).flatMap seenB) rfl ((HO.out.alloc _).alloc _) (wr.heap.size + 1) (acP 9 apl avl) rfl (fun j u hu => (Bk.new (wr.alloc _) _ 57 (wr.heap.size + 1) (by simp)).c j hu) HLN.out (by have := HB.out.size; simp; omega) ?_; intro v' w5 ho hg hloc)
       obtain ⟨ao5,n5,cap5,rfl⟩ := ho.form;have HB5 := below_row ((HB.out.alloc HB.out.size _).alloc HS1.out _) ((HO.out.alloc _).alloc _) hg (by have := HB.out.size; simp; omega)
       go_roundw
       case rel => exact ⟨k + 1,ao5,n5,cap5,by omega,by go_num,rfl,by rw [HE.out]; exact ho,HB5⟩
       case measure => simp [intOf]; omega
      ·have b9 : (ak == 9) = false := by simp [h9]
       by_cases h11 : ak = 11
       ·subst h11
        have HE := hdd (HTK.out);clear HTK
        go_wp2_with (at_builtin; refine wpList_append_row goodA Tryz.underlying23 infoA rfl (by decide) (by decide) _ rfl (.tmp 42) (.tmp 48) rfl w.heap.size (.slice ao1 n1 cap1) ((acs.take k).flatMap seenB) rfl ((HO.out.alloc _).alloc _) (wr.heap.size + 1) (acW avv) rfl (fun j u hu => (Bk.new (wr.alloc _) _ 57 (wr.heap.size + 1) (by simp)).c j hu) HLN.out (by have := HB.out.size; simp; omega) ?_; intro v' w5 ho hg hloc)
        obtain ⟨ao5,n5,cap5,rfl⟩ := ho.form;have HB5 := below_row ((HB.out.alloc HB.out.size _).alloc HS1.out _) ((HO.out.alloc _).alloc _) hg (by have := HB.out.size; simp; omega)
        go_roundw
        case rel => exact ⟨k + 1,ao5,n5,cap5,by omega,by go_num,rfl,by rw [HE.out]; exact ho,HB5⟩
        case measure => simp [intOf]; omega
       ·have b11 : (ak == 11) = false := by simp [h11]
        have HE : Hid ((acs.take (k + 1)).flatMap seenB = (acs.take k).flatMap seenB) := by
         show _ = _;rw [HTK.out];unfold seenB;rw [if_neg (by rintro (h | h); exact h6 h; exact h7 h),if_neg (by rintro (h | h); exact h8 h; exact h9 h),if_neg h11,List.append_nil]
        clear HTK h6 h7 h8 h9 h11;go_wp2
        go_roundw
        case rel => exact ⟨k + 1,ao1,n1,cap1,by omega,by go_num,rfl,by rw [HE.out]; exact HO.out.alloc _,HB.out.alloc HB.out.size _⟩
        case measure => simp [intOf]; omega
  ·have HE : Hid (acs.take k = acs) := List.take_of_length_le (by omega)
   go_wp2;go_ret;exact ⟨ao1,n1,cap1,rfl,by have := HO.out; rw [HE.out] at this; exact this,HB.out⟩
end Go.Proofs.YtcajifelbldjnaaGreatDoor
namespace Go.Proofs.YtcajifelbldjnaaGreatDoor
open Go.RowKit F
theorem tmL_cases : ∀ {ls : List Sit},(ls.Pairwise fun x y => x.slot ≤ y.slot) → (tmL ls = 1 ∧ ∀ s ∈ ls,s.ware.kind ≠ 2) ∨ ∃ s ∈ ls,s.ware.kind = 2 ∧ tmL ls = s.ware.cap ∧ ∀ t ∈ ls,t.ware.kind = 2 → s.slot ≤ t.slot
 | [],_ => .inl ⟨rfl,fun s hs => by cases hs⟩
 | a :: r,h => by
  obtain ⟨h1,h2⟩ := List.pairwise_cons.1 h
  by_cases ha : a.ware.kind = 2
  ·refine .inr ⟨a,List.mem_cons_self ..,ha,if_pos ha,fun t ht _ => ?_⟩
   rcases List.mem_cons.1 ht with rfl | ht
   ·exact Int.le_refl _
   ·exact h1 t ht
  ·have e : tmL (a :: r) = tmL r := if_neg ha
   rcases tmL_cases h2 with ⟨g1,g2⟩ | ⟨s,hs,g1,g2,g3⟩
   ·refine .inl ⟨e.trans g1,fun s hs => ?_⟩
    rcases List.mem_cons.1 hs with rfl | hs
    ·exact ha
    ·exact g2 s hs
   ·refine .inr ⟨s,List.mem_cons_of_mem _ hs,g1,e.trans g2,fun t ht hk => ?_⟩
    rcases List.mem_cons.1 ht with rfl | ht
    ·exact absurd hk ha
    ·exact g3 t ht hk
theorem cap_rack {a : Wr} (h : chk a = 0) (hk : a.kind = 2) : 1 ≤ a.cap ∧ a.cap ≤ 1000000000 := by
 have h1 := (chk_in h).2.2.2.2.1;simp only [rangeOk,Bool.and_eq_true] at h1;have h2 := h1.2;simp only [List.all_cons,List.all_nil,Bool.and_true,inR_iff] at h2;have h3 : 1 ≤ loC a := by unfold loC; rw [hk]; decide
 have h4 : hiC a ≤ 1000000000 := by unfold hiC; split <;> decide
 omega
theorem tm_of {l ls : List Sit} (hd : dchk l = 0) (hp : ls.Perm l) (hpw : ls.Pairwise fun x y => x.slot ≤ y.slot) : (1 ≤ tmL ls ∧ tmL ls ≤ 1000000000) ∧ tipM l ≤ tmL ls := by
 have e := layL_tipM hd
 rcases tmL_cases hpw with ⟨g1,g2⟩ | ⟨s,hs,g1,g2,g3⟩
 ·rcases layL_is l (fun s hs => (dchk_ware hd hs).2.2) with ⟨k1,_⟩ | ⟨t,ht,k1,_⟩
  ·rw [k1] at e
   simp only at e;omega
  ·exact absurd k1 (g2 t (hp.mem_iff.2 ht))
 ·have hc := cap_rack (dchk_ware hd (hp.mem_iff.1 hs)).1 g1
  rcases layL_is l (fun s hs => (dchk_ware hd hs).2.2) with ⟨k1,_⟩ | ⟨t,ht,k1,k2,k3⟩
  ·rw [k1] at e
   simp only at e;omega
  ·have e1 := g3 t (hp.mem_iff.2 ht) k1
   have e2 := k3 s (hp.mem_iff.1 hs) g1;have e3 : s = t := slots_one hd (hp.mem_iff.1 hs) ht (by omega);subst e3;rw [k2] at e;simp only at e;omega
abbrev noW (a : Acn) : Bool := !(a.kind == 14)
theorem seen_one (a : Acn) : (seenA a).filter noW = seenB a := by
 unfold seenA seenB
 by_cases h6 : a.kind = 6 ∨ a.kind = 7
 ·rw [if_pos h6,if_pos h6]
  refine List.filter_eq_self.2 fun x hx => ?_;simp at hx; subst hx
  rcases h6 with h | h <;> simp [noW,h]
 ·rw [if_neg h6,if_neg h6]
  by_cases h8 : a.kind = 8 ∨ a.kind = 9
  ·rw [if_pos h8,if_pos h8]
   refine List.filter_eq_self.2 fun x hx => ?_;simp at hx; subst hx
   rcases h8 with h | h <;> simp [noW,h]
  ·rw [if_neg h8,if_neg h8]
   by_cases h11 : a.kind = 11
   ·rw [if_pos h11,if_pos h11]; rfl
   ·rw [if_neg h11,if_neg h11]
    split
    ·split <;> rfl
    ·rfl
theorem seen_all (acs : List Acn) : (acs.flatMap seenA).filter noW = acs.flatMap seenB := by
 induction acs with
 | nil => rfl
 | cons a r ih => rw [List.flatMap_cons,List.flatMap_cons,List.filter_append,seen_one,ih]
theorem seenA_len (acs : List Acn) : (acs.flatMap seenA).length ≤ acs.length := by
 induction acs with
 | nil => exact Nat.le_refl _
 | cons a r ih =>
  have h1 : (seenA a).length ≤ 1 := by
   unfold seenA
   repeat' split
   all_goals simp
  rw [List.flatMap_cons,List.length_append,List.length_cons];omega
theorem filter_take {xs : List Acn} {k : Nat} (hk : k < xs.length) : (xs.take (k + 1)).filter noW = (xs.take k).filter noW ++ if noW (xs[k]'hk) = true then [xs[k]'hk] else [] := by
 rw [List.take_succ_eq_append_getElem hk,List.filter_append]
 congr 1
 rw [List.filter_cons]
 rfl
theorem told_of {l ls : List Sit} {acs : List Acn} (hok : ∀ s ∈ l,SOk s) (hn : acs.length ≤ 1048576) (hpp : dchk l = 0 → (runR l acs).2.2 = 0 → ls.Perm l ∧ ls.Pairwise fun x y => x.slot ≤ y.slot) (h : (compR l ls acs).2.2 = 0) :
  ∃ f q p,Told l ls acs (compR l ls acs).1 f ∧ (∀ c ∈ (compR l ls acs).1,chkD c = 0) ∧ watchL (floorG ls) ⟨⟨0,0,0⟩,0,[]⟩ 0 (compR l ls acs).1 = (⟨q,p,acs.flatMap seenA⟩,(compR l ls acs).1.length,0) := by
 rcases compR_cases l ls acs with ⟨h1,_⟩ | ⟨_,hd,hr,hc,e⟩
 ·exact absurd h h1
 ·obtain ⟨hp,hpw⟩ := hpp hd hr
  have hst := st_ok hd hok;have hst2 : ∀ s ∈ ls,StOk s := fun s hs => hst s (hp.mem_iff.1 hs);obtain ⟨hm,htm⟩ := tm_of hd hp hpw;obtain ⟨f,hf⟩ := comp_run hm hd hst2 htm hn hr hc;obtain ⟨q,p,hw⟩ := comp_watch hd hst hp hr hc;have hfo := comp_form hd hst2 hr hc;have hlen := compR_len l ls acs;rw [← e] at hf hw hfo;exact ⟨f,q,p,⟨hd,hp,hpw,hr,⟨(compR l ls acs).2.1,by rw [← h]⟩,hm,hf,by omega⟩,hfo,hw⟩
end Go.Proofs.YtcajifelbldjnaaGreatDoor
namespace Go.Proofs.YtcajifelbldjnaaGreatDoor
open Go.RowKit Go.Maps
theorem dk_nil (w : World) : Dk w none 0 [] := ⟨.inl rfl,Nat.le_refl _,fun s hs => by cases hs⟩
theorem acs_nil (w : World) : Acs w none [] := ⟨.inl rfl,fun s hs => by cases hs⟩
theorem cellBack_any (a : Nat → Addr) (n : Nat) (ao : Option Addr) (cap : Nat) (l : List Sit) (aoA : Option Addr) (capA : Nat) (acs : List Acn) (w : World) (hg : K.Gl a n w) (hD : Dk w ao cap l) (hl : l.length ≤ 9223372036854775807) (hA : Acs w aoA acs) (hla : acs.length ≤ 1048576) :
  CR 4 #[.slice ao l.length cap,.slice aoA acs.length capA] w (.bool true) := by
 have HC0 := hid (Compile_all none 0 [] none 0 [] w (dk_nil w) (by decide) (acs_nil w) (by decide));have HG := hdd hg;have HD := hdd hD;have HAC := hdd hA;have HLA := hdd hla;have HLL := hdd hl;clear hg hD hA hla hl
 go_enter Tryz.func4,Tryz.ntmps4
 go_wp2_with fail
 refine Calls.mono HC0.out ?_;rintro e w1 ⟨ls0,aoC0,nC0,capC0,-,rfl,ho,hb⟩;rw [compR_nil] at ho ⊢;have hnC := own_len ho;have hR0 := rd_own goodK ho;obtain ⟨g0,off0,rfl,hg0,c0,-⟩ := rdK5 hR0 (k := 0) (by decide);have hn2 : nC0 = 2 := hnC;subst hn2;have C0 : w1.cell? ⟨g0,off0,none⟩ = some (.int .i64 1) := c0;have HB1 := hdd hb;have HC := hid (Compile_all ao cap l aoA capA acs w1 (HD.out.next HB1.out) HLL.out (HAC.out.next HB1.out) (by have := HLA.out; omega));clear hnC hR0 hg0 c0 ho hb HC0
 go_wp2_with fail
 refine Calls.mono HC.out ?_;rintro e w2 ⟨ls,aoC,nC,capC,hp,rfl,ho,hb⟩;have hnC := own_len ho;have HB2 := hdd (HB1.out.trans (hb.mono HB1.out.size));clear hb HB1 C0 HC
 by_cases h0 : (compR l ls acs).2.2 = 0
 ·obtain ⟨f,q,p,ht,hfo,hw⟩ := told_of HD.out.ok HLA.out hp h0
  clear hp;generalize compR l ls acs = R at ht hfo hw h0 ho hnC ⊢;obtain ⟨cs,m,er⟩ := R;simp only at ht hfo hw h0 ho hnC ⊢;subst h0 hnC;have HT := hdd ht;have HRC : Hid (RdR encK w2 aoC cs) := rd_own goodK ho;have HW := hid (Watch_ok ao cap l aoC capC cs w2 (HD.out.next HB2.out) ht.dk HRC.out (HG.out.later HB2.out).wt ht.few hfo ls ht.perm ht.sorted ⟨q,p,acs.flatMap seenA⟩ hw);clear ht hfo hw ho
  go_wp2_with fail
  refine Calls.mono HW.out ?_;rintro e w3 ⟨aoW,nW,capW,rfl,hoW,hb3⟩;have hnW := own_len hoW;have hRW := rd_own goodA hoW;have hWL : (acs.flatMap seenA).length ≤ 1048576 := Nat.le_trans (seenA_len acs) HLA.out;have hWE : (acs.flatMap seenA).filter noW = acs.flatMap seenB := seen_all acs;generalize acs.flatMap seenA = wl at *;have hSL : (acs.flatMap seenB).length ≤ 1048576 := Nat.le_trans (seenB_len acs) HLA.out;obtain ⟨sb,hsb⟩ : ∃ sb,sb = acs.flatMap seenB := ⟨_,rfl⟩;have HSB : Hid (acs.flatMap seenB = sb) := hsb.symm;rw [← hsb] at hWE hSL;clear hsb;subst hnW;have HRW := hdd hRW;have HWL := hdd hWL;have HWE := hdd hWE;have HSL := hdd hSL;have HB3 := hdd hb3;clear hoW hRW hWL hWE hSL hb3 HW
  go_wp2_with fail
  go_loopw [13,14] (fun v i wr => ∃ (k : Nat) (ao1 : Option Addr) (n1 cap1 : Nat),k ≤ wl.length ∧ i = .int .i64 (k : Int) ∧ v = .slice ao1 n1 cap1 ∧ OwnR encA wr w3.heap.size (.slice ao1 n1 cap1) ((wl.take k).filter noW) ∧ bw w3 wr) (fun _ i _ => wl.length - (intOf i).toNat)
  case atStart => exact ⟨0,none,0,0,Nat.zero_le _,rfl,rfl,OwnR.nil _ _ _,brf⟩
  case round =>
   obtain ⟨k,ao1,n1,cap1,hk,rfl,rfl,ho,hb⟩ := hrel;have HBR := hdd hb;have HO := hdd ho
   have HLN : Hid (((wl.take k).filter noW).length ≤ 1000000000) := by
    show _ ≤ _;have h1 := List.length_filter_le noW (wl.take k);have h2 := HWL.out;rw [List.length_take] at h1;omega
   have hwl := HWL.out;clear hb ho
   by_cases hlt : k < wl.length
   ·obtain ⟨g,off,rfl,hg,hc⟩ := rdA_at (HRW.out.next goodA HBR.out) hlt
    have HFT : Hid ((wl.take (k + 1)).filter noW = (wl.take k).filter noW ++ if noW (wl[k]'hlt) = true then [wl[k]'hlt] else []) := filter_take hlt;generalize wl[k]'hlt = x at *;obtain ⟨c0,c1,c2,c3,c4,c5,c6,c7⟩ := hc wr (brf) x rfl;clear hc hg;have hki : (k : Int) < (wl.length : Int) := by omega
    obtain ⟨ak,apl,al,avl,avv,atm⟩ := x;simp only at c0 c1 c2 c3 c4 c5 c6 c7
    by_cases h14 : ak = 14
    ·have HE : Hid ((wl.take (k + 1)).filter noW = (wl.take k).filter noW) := by
      show _ = _;rw [HFT.out,if_neg (by simp [noW,h14]),List.append_nil]
     subst h14;clear HFT;go_wp2
     go_roundw
     case rel => exact ⟨k + 1,ao1,n1,cap1,by omega,by go_num,rfl,by rw [HE.out]; exact HO.out,HBR.out⟩
     case measure => simp [intOf]; omega
    ·have HE : Hid ((wl.take (k + 1)).filter noW = (wl.take k).filter noW ++ [⟨ak,apl,al,avl,avv,atm⟩]) := by
      show _ = _;rw [HFT.out,if_pos (by simp [noW,h14])]
     have b14 : (ak == 14) = false := by simp [h14]
     clear HFT h14
     go_wp2_with (at_builtin; refine wpList_append_row goodA Tryz.underlying23 infoA rfl (by decide) (by decide) _ rfl (.tmp 78) (.tmp 83) rfl w3.heap.size (.slice ao1 n1 cap1) ((wl.take k).filter noW) rfl (HO.out.alloc _) wr.heap.size ⟨ak,apl,al,avl,avv,atm⟩ rfl (fun j u hu => (Bk.new wr _ 57 wr.heap.size rfl).c j hu) HLN.out (by have := HBR.out.size; simp; omega) ?_; intro v' w5 ho hg hloc)
     obtain ⟨ao5,n5,cap5,rfl⟩ := ho.form;have HB5 := below_row (HBR.out.alloc HBR.out.size _) (HO.out.alloc _) hg (by have := HBR.out.size; simp; omega)
     go_roundw
     case rel => exact ⟨k + 1,ao5,n5,cap5,by omega,by go_num,rfl,by rw [HE.out]; exact ho,HB5⟩
     case measure => simp [intOf]; omega
   ·have HSN : Hid (OwnR encA wr w3.heap.size (.slice ao1 n1 cap1) sb) := by
     have := HO.out;rw [List.take_of_length_le (by omega),HWE.out] at this;exact this
    have hnS := own_len HSN.out;have HBS := hdd (HB3.out.trans (HBR.out.mono HB3.out.size));have HB4 := hdd (HB2.out.trans (HBS.out.mono HB2.out.size));subst hnS;have HRS : Hid (RdR encA wr ao1 sb) := rd_own goodA HSN.out;have HRG := hid (Rig_ok ao cap l wr (HD.out.next HB4.out) HT.out.dk ls HT.out.perm HT.out.sorted);clear HSN HO HLN HBR HWE HRW
    go_wp2_with fail
    refine Calls.mono HRG.out ?_;rintro e w4 ⟨rfl,hb4⟩;obtain ⟨w5,hw5⟩ : ∃ w5,w5 = w4.alloc (K.rgo (rgD (tmL ls))) := ⟨_,rfl⟩;have HB5 : Hid (bw wr w5) := by rw [hw5]; exact hb4.alloc hb4.size _
    have HW5 := hdd hw5;have HRN := hid (Run_D a n (tmL ls) aoC capC cs w5 (HG.out.later (HB4.out.trans (HB5.out.mono HB4.out.size))) HT.out.most (HRC.out.next goodK (HBS.out.trans (HB5.out.mono HBS.out.size))) (by have := HT.out.few; omega) f HT.out.firm);clear hb4 hw5 HRG
    go_wp2_with fail
    rw [← HW5.out];refine Calls.mono HRN.out ?_;rintro e w6 ⟨rfl,hb6⟩;obtain ⟨w7,hw7⟩ : ∃ w7,w7 = w6.alloc (K.fo f) := ⟨_,rfl⟩;obtain ⟨Z,hZ⟩ : ∃ Z,Z = w6.heap.size := ⟨_,rfl⟩;have HK7 : Hid (Bk Z (K.fc f) w7) := by show Bk _ _ _; rw [hw7]; exact Bk.new w6 _ 44 Z hZ
    have HB7 : Hid (bw wr w7) := by rw [hw7]; exact HB5.out.trans ((hb6.alloc hb6.size _).mono HB5.out.size)
    have HW7 := hdd hw7;have HZ := hdd hZ;have HB7w := hdd (HB4.out.trans (HB7.out.mono HB4.out.size));have HTK := hid (Ticks_ok a n ao cap l aoA capA acs w7 (HG.out.later HB7w.out) (HD.out.next HB7w.out) (HAC.out.next HB7w.out) (by have := HLA.out; omega) ls cs f HT.out);clear hb6 hw7 hZ HRN HW5 HB5
    go_wp2_with fail
    rw [← HW7.out];refine Calls.mono HTK.out ?_;rintro e w8 ⟨rfl,hb8⟩;have HB8 := hdd hb8;have HB8w := hdd (HB7w.out.trans (hb8.mono HB7w.out.size));have HSE := hid (seen_any aoA capA acs w8 (HAC.out.next HB8w.out) (by have := HLA.out; omega));rw [HSB.out] at HSE;clear hb8 HTK
    go_wp2_with fail
    refine Calls.mono HSE.out ?_;rintro e w9 ⟨ao2,n2,cap2,rfl,ho2,hb9⟩;have hn2 := own_len ho2;subst hn2;have HB9 := hdd (HB8.out.trans (hb9.mono HB8.out.size));have HSM := hid (same_yes ao1 ao2 cap1 cap2 sb w9 (HRS.out.next goodA (HB7.out.trans (HB9.out.mono HB7.out.size))) (rd_own goodA ho2) (by have := HSL.out; omega));clear hb9 ho2 HSE HB8 HB8w
    go_wp2_with fail
    refine Calls.mono HSM.out ?_;rintro e w10 ⟨rfl,hb10⟩;have HB10 := hdd (HB9.out.trans (hb10.mono HB9.out.size));have CT : w10.cell? ⟨Z,8,none⟩ = some (.int .i64 f.tk) := (HK7.out.later HB10.out).c 8 rfl;rw [HZ.out] at CT;clear hb10 HSM;go_wp2;go_ret;exact ⟨rfl,HB7w.out.trans (HB10.out.mono HB7w.out.size)⟩
 ·have hcs : (compR l ls acs).1 = [] := by
   rcases compR_cases l ls acs with ⟨_,h⟩ | ⟨h,_⟩
   ·exact h
   ·exact absurd h h0
  clear hp;generalize compR l ls acs = R at *;obtain ⟨cs,m,er⟩ := R;simp only at hcs h0 hnC ⊢;subst hcs;simp only [List.length_nil] at hnC;subst hnC;have hne : (er == 0) = false := by simp [h0]
  have hm : (0 : Int) ≤ (m : Int) := Int.natCast_nonneg m;clear ho;go_wp2;go_ret;exact ⟨rfl,HB2.out⟩
end Go.Proofs.YtcajifelbldjnaaGreatDoor
