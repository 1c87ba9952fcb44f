/- MeanSteps walked. -/
import Derived.Test.YtfadmpnpgiceeaaGreatNDG
namespace Go.Proofs.YtfadmpnpgiceeaaGreat
open Go.RowKit Go.Maps

theorem runA_in (l : List Sit) : ∀ (r : List Acn) (s : Sta) (k : Nat), k ≤ (runA l s k r).2.1 ∧ (runA l s k r).2.1 ≤ k + r.length ∧ ((runA l s k r).2.2 = 0 ↔ (runA l s k r).2.1 = k + r.length) := by
  intro r
  induction r with
  | nil => intro s k; simp [runA]
  | cons a r ih =>
    intro s k
    simp only [runA]
    split
    · have := ih (doA l s a).1 (k + 1)
      refine ⟨by omega, by simp only [List.length_cons]; omega, ?_⟩
      rw [this.2.2]
      simp only [List.length_cons]
      omega
    · rename_i h
      refine ⟨Nat.le_refl _, by simp, ?_⟩
      simp only [List.length_cons]
      constructor
      · intro e; exact absurd e h
      · intro e; omega
def AP (n : Nat) (S : Sta) (E : Int) (v : Value) (w : World) : Prop := ∃ t : Sm, v = .tuple #[smv t, .int .i64 E] ∧ t.st = S ∧ SmIn w t ∧ SmHi n t
theorem AP.later {n : Nat} {S : Sta} {E : Int} {v : Value} {w w1 : World} (h : AP n S E v w) (hb : Below w.heap.size w w1) : AP n S E v w1 := by
  obtain ⟨t, h1, h2, h3, h4⟩ := h
  exact ⟨t, h1, h2, h3.next hb, h4⟩
def AQ (n : Nat) (S : Sta) (v : Value) (w : World) : Prop := ∃ t : Sm, v = smv t ∧ t.st = S ∧ SmIn w t ∧ SmHi n t
theorem AQ.later {n : Nat} {S : Sta} {v : Value} {w w1 : World} (h : AQ n S v w) (hb : Below w.heap.size w w1) : AQ n S v w1 := by
  obtain ⟨t, h1, h2, h3, h4⟩ := h
  exact ⟨t, h1, h2, h3.next hb, h4⟩
def AL (M : Nat) (v : Value) (w : World) : Prop := ∃ b, v = ptr b ∧ M ≤ b ∧ b < w.heap.size ∧ w.heap[b]? = some (.cells z7.toArray 27) ∧ Bk b z7 w
theorem AL.later {M : Nat} {v : Value} {w w1 : World} (h : AL M v w) (hb : Below w.heap.size w w1) : AL M v w1 := by
  obtain ⟨b, h1, h2, h3, h4, h5⟩ := h
  exact ⟨b, h1, h2, Nat.lt_of_lt_of_le h3 hb.size, (hb.block b h3).trans h4, h5.later hb⟩
theorem AL.new {M : Nat} {w : World} (h : M ≤ w.heap.size) : AL M (ptr w.heap.size) (w.alloc (.cells z7.toArray 27)) :=
  ⟨w.heap.size, rfl, h, by simp, by show (w.heap.push _)[w.heap.size]? = _; simp, Bk.new w z7 27 w.heap.size rfl⟩
theorem cell_z {w : World} {b : Nat} (h : w.heap[b]? = some (.cells z7.toArray 27)) {o : Nat} {v : Value} (hc : w.cell? ⟨b, o, none⟩ = some v) : z7[o]? = some v := by
  simp only [World.cell?, h] at hc
  simpa using hc
theorem sm_apart {w : World} {b : Nat} (h : w.heap[b]? = some (.cells z7.toArray 27)) {t : Sm} (ht : SmIn w t) : (t.wl = [] ∨ ∀ a, t.aoW = some a → a.block ≠ b) ∧ (∀ x ∈ t.wl, x.2.2.2 = [] ∨ ∀ a, x.2.1 = some a → a.block ≠ b) ∧ (t.held = [] ∨ ∀ a, t.aoH = some a → a.block ≠ b) ∧ (t.touched = [] ∨ ∀ a, t.aoT = some a → a.block ≠ b) := by
  have hfl : ∀ {ao : Option Addr} {ps : List F.Pc}, F.Fl w ao ps → (ps = [] ∨ ∀ a, ao = some a → a.block ≠ b) := by
    intro ao ps hf
    by_cases hn : ps = []
    · exact .inl hn
    · have h0 : 0 < ps.length := List.length_pos_iff.2 hn
      obtain ⟨g, off, e, _, c0, _⟩ := hf.at h0
      refine .inr fun a ha hb => ?_
      rw [e] at ha
      injection ha with ha
      subst ha
      simp only at hb
      subst hb
      have := cell_z h c0
      have hlt := (List.getElem?_eq_some_iff.1 this).1
      simp only [List.length_cons, List.length_nil] at hlt
      rcases (show off + 0 * 2 = 0 ∨ off + 0 * 2 = 1 ∨ off + 0 * 2 = 2 ∨ off + 0 * 2 = 3 ∨ off + 0 * 2 = 4 ∨ off + 0 * 2 = 5 ∨ off + 0 * 2 = 6 by omega) with e | e | e | e | e | e | e <;> rw [e] at this <;> simp at this
  refine ⟨?_, fun x hx => ?_, hfl ht.held, ?_⟩
  · by_cases hn : t.wl = []
    · exact .inl hn
    · have h0 : 0 < t.wl.length := List.length_pos_iff.2 hn
      obtain ⟨g, off, e, hat⟩ := ht.wells.at h0
      refine .inr fun a ha hb => ?_
      rw [e] at ha
      injection ha with ha
      subst ha
      simp only at hb
      subst hb
      have k0 := cell_z h hat.c0
      have k1 := cell_z h hat.c1
      have k2 := cell_z h hat.c2
      have k3 := cell_z h hat.c3
      have hlt := (List.getElem?_eq_some_iff.1 k3).1
      simp only [List.length_cons, List.length_nil] at hlt
      rcases (show off + 0 * 4 = 0 ∨ off + 0 * 4 = 1 ∨ off + 0 * 4 = 2 ∨ off + 0 * 4 = 3 by omega) with e | e | e | e <;> rw [e] at k0 <;> simp at k0
  · obtain ⟨i, hi, rfl⟩ := List.getElem_of_mem hx
    obtain ⟨_, _, _, hat⟩ := ht.wells.at hi
    exact hfl hat.fl
  · by_cases hn : t.touched = []
    · exact .inl hn
    · have h0 : 0 < t.touched.length := List.length_pos_iff.2 hn
      obtain ⟨g, off, e, _, c0, _⟩ := ht.touched.at h0
      refine .inr fun a ha hb => ?_
      rw [e] at ha
      injection ha with ha
      subst ha
      simp only at hb
      subst hb
      have := cell_z h c0
      have hlt := (List.getElem?_eq_some_iff.1 this).1
      simp only [List.length_cons, List.length_nil] at hlt
      rcases (show off + 0 = 0 ∨ off + 0 = 1 ∨ off + 0 = 2 ∨ off + 0 = 3 ∨ off + 0 = 4 ∨ off + 0 = 5 ∨ off + 0 = 6 by omega) with e | e | e | e | e | e | e <;> rw [e] at this <;> simp at this
theorem SmIn.laid {w : World} {b : Nat} (h : w.heap[b]? = some (.cells z7.toArray 27)) {t : Sm} (ht : SmIn w t) {w1 : World} (hbut : But b b w w1) : SmIn w1 t := by
  obtain ⟨a1, a2, a3, a4⟩ := sm_apart h ht
  refine ⟨?_, (Flx.but ⟨ht.held, a3.imp id fun h a ha => ⟨h a ha, h a ha⟩⟩ hbut).1, (Txx.but ⟨ht.touched, a4.imp id fun h a ha => ⟨h a ha, h a ha⟩⟩ hbut).1⟩
  rcases ht.wells with e | ⟨g, off, e, hc⟩
  · exact .inl e
  · rcases a1 with e2 | hr
    · exact .inl e2
    · have hg := hr _ e
      refine .inr ⟨g, off, e, fun k hk => ?_⟩
      obtain ⟨h0, h1, h2, h3, h4, h5⟩ := hc k hk
      have hbl := hbut.block g h0 hg hg
      exact ⟨Nat.lt_of_lt_of_le h0 hbut.size, (World.cell?_of_block (w := w) hbl).trans h1, (World.cell?_of_block (w := w) hbl).trans h2, (World.cell?_of_block (w := w) hbl).trans h3, (World.cell?_of_block (w := w) hbl).trans h4, (Flx.but ⟨h5, (a2 _ (List.getElem_mem hk)).imp id fun h a ha => ⟨h a ha, h a ha⟩⟩ hbut).1⟩
theorem bk_put7 {B : Nat} {w : World} {u0 u1 u2 u3 u4 u5 u6 : Value} (h : Bk B [u0, u1, u2, u3, u4, u5, u6] w) (t : Sm) : Bk B (sml t) (put7 w B t) :=
  ((((((h.put 0 (.slice t.aoW t.wl.length t.capW)).put 1 (.bool t.tip)).put 2 (.slice t.aoH t.held.length t.capH)).put 3 (.slice t.aoT t.touched.length t.capT)).put 4 (.int .i64 t.used)).put 5 (.int .i64 t.heat)).put 6 (.int .i64 t.clock)
theorem bk_oth7 {b B : Nat} {cs : List Value} {w : World} (h : Bk b cs w) (hn : b ≠ B) (t : Sm) : Bk b cs (put7 w B t) :=
  ((((((h.other hn 0 _).other hn 1 _).other hn 2 _).other hn 3 _).other hn 4 _).other hn 5 _).other hn 6 _
def stV (ao : Option Addr) (ln cap g off na capA k n : Nat) (t : Sm) (a : Acn) (Q : Sta) (E : Int) (d : Nat) (v : Value) (w : World) : Prop :=
  match d with
  | 58 => v = .slice ao ln cap
  | 59 => v = .agg #[.slice t.aoW t.wl.length t.capW, .bool t.tip, .slice t.aoH t.held.length t.capH, .slice t.aoT t.touched.length t.capT, .int .i64 t.used, .int .i64 t.heat, .int .i64 t.clock]
  | 60 => v = .slice (some ⟨g, off, none⟩) na capA
  | 61 => v = .int .i64 (k : Int)
  | 62 => v = .pointer (some ⟨g, off + k * 8, none⟩)
  | 63 => v = .agg #[.int .i64 a.kind, .int .i64 a.pl.1, .int .i64 a.pl.2.1, .int .i64 a.pl.2.2, .string a.label, .int .i64 a.vol, .int .i64 a.value, .int .i64 a.time]
  | 64 => AP n Q E v w
  | 57 => AP n Q E v w
  | 65 => AQ n Q v w
  | 66 => v = .int .i64 E
  | 10 => AL n v w
  | _ => True
theorem stV_mono (ao : Option Addr) (ln cap g off na capA k n : Nat) (t : Sm) (a : Acn) (Q : Sta) (E : Int) (d : Nat) (v : Value) (w w' : World) (h : stV ao ln cap g off na capA k n t a Q E d v w) (hb : Below w.heap.size w w') : stV ao ln cap g off na capA k n t a Q E d v w' := by
  unfold stV at h ⊢
  split <;> simp only [] at h <;> first | exact h | exact h.later hb
def seV (ao : Option Addr) (ln cap g off na capA k n : Nat) (t : Sm) (a : Acn) (Q : Sta) (E : Int) (d : Nat) (v : Value) (w : World) : Prop :=
  match d with
  | 75 => v = .slice ao ln cap
  | 76 => v = .agg #[.slice t.aoW t.wl.length t.capW, .bool t.tip, .slice t.aoH t.held.length t.capH, .slice t.aoT t.touched.length t.capT, .int .i64 t.used, .int .i64 t.heat, .int .i64 t.clock]
  | 77 => v = .slice (some ⟨g, off, none⟩) na capA
  | 78 => v = .int .i64 (k : Int)
  | 79 => v = .pointer (some ⟨g, off + k * 8, none⟩)
  | 80 => v = .agg #[.int .i64 a.kind, .int .i64 a.pl.1, .int .i64 a.pl.2.1, .int .i64 a.pl.2.2, .string a.label, .int .i64 a.vol, .int .i64 a.value, .int .i64 a.time]
  | 81 => AP n Q E v w
  | 74 => AP n Q E v w
  | 82 => AQ n Q v w
  | 83 => v = .int .i64 E
  | 12 => AL n v w
  | _ => True
theorem seV_mono (ao : Option Addr) (ln cap g off na capA k n : Nat) (t : Sm) (a : Acn) (Q : Sta) (E : Int) (d : Nat) (v : Value) (w w' : World) (h : seV ao ln cap g off na capA k n t a Q E d v w) (hb : Below w.heap.size w w') : seV ao ln cap g off na capA k n t a Q E d v w' := by
  unfold seV at h ⊢
  split <;> simp only [] at h <;> first | exact h | exact h.later hb
set_option maxHeartbeats 12800000 in
set_option maxRecDepth 100000 in
theorem steps_any (ao : Option Addr) (cap : Nat) (l : List Sit) (aoA : Option Addr) (capA : Nat) (acs : List Acn) (w : World) (hD : Dk w ao cap l) (hln : l.length ≤ 9223372036854775807) (hA : Acs w aoA acs) (hla : acs.length ≤ 9223372036854775807) :
    Calls Tryz.prog 5 #[.slice ao l.length cap, .slice aoA acs.length capA] w fun e w' => e = .returned (.bool true) ∧ Below w.heap.size w w' := by
  have HD : Hid (Dk w ao cap l) := hD
  have HA : Hid (Acs w aoA acs) := hA
  have HLN : Hid (l.length ≤ 9223372036854775807) := hln
  have HM0 : Hid (Calls Tryz.prog 7 #[.slice none 0 0, smv sm0] w fun e w' => e = .returned (.bool true) ∧ Below w.heap.size w w') := by
    have := mayF_any none 0 [] sm0 w (dk_nil _) (by simp) (SmIn.zero _) ⟨by simp, by simp⟩
    rw [may_nil] at this
    exact this
  clear hD hA
  go_enter Tryz.func5, Tryz.ntmps5
  go_wp2_with fail
  refine Calls.mono HM0.out ?_
  rintro e w1 ⟨rfl, hb⟩
  have HB1 : Hid (Below w.heap.size w w1) := hb
  clear hb HM0
  go_wp2_with fail
  refine (run_any ao cap l aoA capA acs w1 (HD.out.next HB1.out) HLN.out (HA.out.next HB1.out) hla).mono ?_
  rintro e w2 ⟨tR, rfl, hst, hin, hhi, hb⟩
  obtain ⟨⟨sR, kR, eR⟩, hrq⟩ : ∃ x, runR l acs = x := ⟨_, rfl⟩
  rw [hrq] at hst ⊢
  simp only at hst ⊢
  have HRQ : Hid (runR l acs = (sR, kR, eR)) := hrq
  obtain ⟨w3, hw3⟩ : ∃ w3, w3 = w2.alloc (smo tR) := ⟨_, rfl⟩
  have b3 : Below w2.heap.size w2 w3 := by rw [hw3]; exact (Below.refl _ _).alloc (Nat.le_refl _) _
  have KS3 : Hid (Bk w2.heap.size (sml tR) w3) := by show Bk _ _ _; rw [hw3]; exact Bk.new w2 (sml tR) 27 w2.heap.size rfl
  have HB3 : Hid (Below w.heap.size w w3) := (HB1.out.trans (hb.mono HB1.out.size)).trans (b3.mono (Nat.le_trans HB1.out.size hb.size))
  have HR3 : Hid (SmIn w3 tR) := hin.next b3
  have HSR : Hid (tR.st = sR) := hst
  have HW3 : Hid (w3 = w2.alloc (smo tR)) := hw3
  have HC3 := (show Hid _ from dk_check ao cap l w3 (HD.out.next HB3.out) HLN.out)
  clear hst hin hhi hb hrq hw3 b3
  go_wp2_with fail
  rw [← HW3.out]
  refine Calls.mono HC3.out ?_
  rintro e w4 ⟨rfl, hb⟩
  have KS4 : Hid (Bk w2.heap.size (sml tR) w4) := KS3.out.later hb
  have HB4 : Hid (Below w.heap.size w w4) := HB3.out.trans (hb.mono HB3.out.size)
  have HR4 : Hid (SmIn w4 tR) := HR3.out.next hb
  have HC4 := (show Hid _ from dk_check ao cap l w4 (HD.out.next HB4.out) HLN.out)
  clear hb HC3 KS3 HB3 HR3
  obtain ⟨c, hc⟩ : ∃ c, dchk l = c := ⟨_, rfl⟩
  have HC : Hid (dchk l = c) := hc
  rw [hc] at HC4 ⊢
  clear hc
  by_cases he : c = 0
  rotate_left
  · have hq : (sta0, 0, c) = (sR, kR, eR) := by rw [← HRQ.out]; unfold runR; rw [HC.out, if_neg he]
    simp only [Prod.mk.injEq] at hq
    obtain ⟨_, rfl, rfl⟩ := hq
    have h2 : (c == 0) = false := by simp [he]
    have h3 : (c != 0) = true := by simp [he]
    clear he
    go_wp2_with fail
    refine Calls.mono HC4.out ?_
    rintro e w5 ⟨rfl, hb⟩
    have HB5 : Hid (Below w.heap.size w w5) := HB4.out.trans (hb.mono HB4.out.size)
    clear hb
    go_wp2
    go_ret
    exact ⟨rfl, HB5.out⟩
  · subst he
    have hq : runA l sta0 0 acs = (sR, kR, eR) := by rw [← HRQ.out]; unfold runR; rw [HC.out, if_pos rfl]
    have HRA : Hid (runA l sta0 0 acs = (sR, kR, eR)) := hq
    have hri := runA_in l acs sta0 0
    rw [hq] at hri
    simp only [Nat.zero_add] at hri
    have HRI : Hid (kR ≤ acs.length ∧ (eR = 0 ↔ kR = acs.length)) := ⟨hri.2.1, hri.2.2⟩
    have hk1 : decide ((kR : Int) < 0) = false := decide_eq_false (by omega)
    have hk2 : decide ((acs.length : Int) < (kR : Int)) = false := decide_eq_false (by have := hri.2.1; omega)
    have hk3 : (eR == 0) = ((kR : Int) == (acs.length : Int)) := by
      rw [Bool.eq_iff_iff, beq_iff_eq, beq_iff_eq, hri.2.2]
      omega
    clear hq hri
    obtain ⟨bq, hbq⟩ : ∃ bq, ((kR : Int) == (acs.length : Int)) = bq := ⟨_, rfl⟩
    rw [hbq] at hk3
    have HBQ : Hid (((kR : Int) == (acs.length : Int)) = bq) := hbq
    obtain ⟨w5, hw5⟩ : ∃ w5, w5 = w4.alloc (.cells z7.toArray 27) := ⟨_, rfl⟩
    have b5 : Below w4.heap.size w4 w5 := by rw [hw5]; exact (Below.refl _ _).alloc (Nat.le_refl _) _
    have KX5 : Hid (Bk w4.heap.size z7 w5) := by show Bk _ _ _; rw [hw5]; exact Bk.new w4 z7 27 w4.heap.size rfl
    have HW5 : Hid (w5 = _) := hw5
    have HB5 : Hid (Below w4.heap.size w4 w5) := b5
    clear hw5 b5 hbq
    have hkq : ((kR : Int) == (acs.length : Int)) = bq := HBQ.out
    have hkn := HRI.out.1
    have hkn2 : ¬ acs.length < kR := by omega
    go_wp2_with fail
    clear hkn2
    clear hk1 hk2 hk3 hkq
    rw [← HW5.out]
    go_loopw [9] (fun i wr => ∃ (k : Nat) (t : Sm), k ≤ kR ∧ i = .int .i64 k ∧ runA l sta0 0 acs = runA l t.st k (acs.drop k) ∧ May l t.st ∧ SmIn wr t ∧ Bk w4.heap.size (sml t) wr ∧ Below w4.heap.size w4 wr) (fun i _ => kR - (intOf i).toNat)
    case atStart => exact ⟨0, sm0, Nat.zero_le _, rfl, rfl, may_sta0 l, SmIn.zero _, KX5.out, HB5.out⟩
    case round =>
      obtain ⟨k, t, hk, rfl, hrn, hmy, hin, hkx, hb⟩ := hrel
      have HRN : Hid (runA l sta0 0 acs = runA l t.st k (acs.drop k)) := hrn
      have HMY : Hid (May l t.st) := hmy
      have HIN : Hid (SmIn wr t) := hin
      have KX : Hid (Bk w4.heap.size (sml t) wr) := hkx
      have HB : Hid (Below w4.heap.size w4 wr) := hb
      have HBW : Hid (Below w.heap.size w wr) := HB4.out.trans (hb.mono HB4.out.size)
      have KS : Hid (Bk w2.heap.size (sml tR) wr) := KS4.out.later hb
      have HR : Hid (SmIn wr tR) := HR4.out.next hb
      have HSL : Hid (SmLen t) := (may_smlen HC.out hmy).1
      clear hrn hmy hin hkx hb
      have lX := KX.out.1
      have lS : w2.heap.size < w4.heap.size := KS4.out.1
      by_cases hlt : k < kR
      · have hka : k < acs.length := by have := HRI.out.1; omega
        obtain ⟨g, off, hao, hcs⟩ := (HA.out.next HBW.out).at hka
        have hok := HA.out.ok _ (List.getElem_mem hka)
        have hdo : (doA l t.st (acs[k]'hka)).2 = 0 := by
          by_cases h : (doA l t.st (acs[k]'hka)).2 = 0
          · exact h
          · have h1 := HRN.out
            rw [HRA.out, runA_stop hka h] at h1
            simp only [Prod.mk.injEq] at h1
            omega
        have HSt : Hid (runA l sta0 0 acs = runA l (doA l t.st (acs[k]'hka)).1 (k + 1) (acs.drop (k + 1))) := by show _ = _; rw [HRN.out]; exact runA_step hka hdo
        have HMx : Hid (May l (doA l t.st (acs[k]'hka)).1) := (left_do HC.out HMY.out hdo).may
        have HAR : Hid (applyR l t.st (acs[k]'hka) = ((doA l t.st (acs[k]'hka)).1, 0)) := by show _ = _; unfold applyR; rw [if_pos (may_of HC.out HMY.out), if_pos hdo]
        clear hdo
        generalize acs[k]'hka = a at *
        subst hao
        have HAP : Hid (∀ W, Below wr.heap.size wr W → Calls Tryz.prog 10 #[.slice ao l.length cap, smv t, av a] W fun e w' => ∃ x, e = .returned x ∧ AP wr.heap.size (doA l t.st a).1 0 x w' ∧ Below W.heap.size W w') := fun W hW => by
          refine (apply_any ao cap l t a W ((HD.out.next HBW.out).next hW) HLN.out (HIN.out.next hW) HSL.out hok.1 hok.2).mono ?_
          rw [HAR.out]
          rintro e w' ⟨t', rfl, h1, h2, h3, h4⟩
          exact ⟨_, rfl, ⟨t', rfl, h1, h2, h3.less hW.size⟩, h4⟩
        have c0 := hcs 0 (by decide)
        have c1 := hcs 1 (by decide)
        have c2 := hcs 2 (by decide)
        have c3 := hcs 3 (by decide)
        have c4 := hcs 4 (by decide)
        have c5 := hcs 5 (by decide)
        have c6 := hcs 6 (by decide)
        have c7 := hcs 7 (by decide)
        simp only [acl, List.getElem?_cons_zero, List.getElem?_cons_succ, Nat.add_zero] at c0 c1 c2 c3 c4 c5 c6 c7
        obtain ⟨S1, hS1⟩ : ∃ x, (doA l t.st a).1 = x := ⟨_, rfl⟩
        rw [hS1] at HAP HSt HMx
        have hki : (k : Int) < (acs.length : Int) := by omega
        have hkr : (k : Int) < (kR : Int) := by omega
        clear hcs hS1 HAR hok
        go_wp2_with fail
        rename_i KK hkk
        have HKK := (show Hid _ from hkk)
        clear hkk
        refine region_seqL 11 9 [false, false, false, false, false, false, false, false, false, false, true, false, false, false, false, false, false, false, false, false, false, false, false, false, false, false, false, false, false, false, false, false, false, false, false, false, false, false, false, false, false, false, false, false, false, false, false, false, false, false, false, false, false, false, false, false, false, true, true, true, true, true, true, true, true, true, true, false, false, false, false, false, false, false, false, false, false, false, false, false, false, false, false, false, false, false, false, false, false, false]
          [(58, [], none), (59, [], none), (60, [], none), (61, [], none), (62, [60, 61], none), (63, [62], none), (64, [58, 59, 63], none), (57, [64], none), (65, [57], none), (66, [57], none), (10, [], none)]
          (stV ao l.length cap g off acs.length capA k wr.heap.size t a S1 0) (by kernel_rfl) (by kernel_rfl) (by kernel_rfl) (by kernel_rfl) (by kernel_rfl) (by decide) (by decide) (stV_mono ao l.length cap g off acs.length capA k wr.heap.size t a S1 0) ?_ ?_ ?_
        · refine ⟨?_, ?_, ?_, ?_, ?_, ?_, ?_, ?_, ?_, ?_, ?_, trivial⟩
          · intro f wA hb _ K hK
            simp only [over, overL, Nat.reduceAdd]
            go_simp
            exact hK _ _ ⟨_, rfl, by simp only [over, overL, Nat.reduceAdd]; rfl, Below.refl _ _⟩
          · intro f wA hb _ K hK
            have q0 := (KX.out.later hb).c 0 rfl
            have q1 := (KX.out.later hb).c 1 rfl
            have q2 := (KX.out.later hb).c 2 rfl
            have q3 := (KX.out.later hb).c 3 rfl
            have q4 := (KX.out.later hb).c 4 rfl
            have q5 := (KX.out.later hb).c 5 rfl
            have q6 := (KX.out.later hb).c 6 rfl
            simp only [over, overL, Nat.reduceAdd]
            go_simp
            exact hK _ _ ⟨_, rfl, by simp only [over, overL, Nat.reduceAdd]; rfl, Below.refl _ _⟩
          · intro f wA hb _ K hK
            simp only [over, overL, Nat.reduceAdd]
            go_simp
            exact hK _ _ ⟨_, rfl, by simp only [over, overL, Nat.reduceAdd]; rfl, Below.refl _ _⟩
          · intro f wA hb _ K hK
            simp only [over, overL, Nat.reduceAdd]
            go_simp
            exact hK _ _ ⟨_, rfl, by simp only [over, overL, Nat.reduceAdd]; rfl, Below.refl _ _⟩
          · intro f wA hb ⟨h60, h61, _⟩ K hK
            replace h60 : f 60 = _ := h60
            replace h61 : f 61 = _ := h61
            simp only [over, overL, Nat.reduceAdd, h60, h61]
            go_simp
            exact hK _ _ ⟨_, rfl, by simp only [over, overL, Nat.reduceAdd, h60, h61]; rfl, Below.refl _ _⟩
          · intro f wA hb ⟨h62, _⟩ K hK
            replace h62 : f 62 = _ := h62
            have q0 := cell_later hb c0
            have q1 := cell_later hb c1
            have q2 := cell_later hb c2
            have q3 := cell_later hb c3
            have q4 := cell_later hb c4
            have q5 := cell_later hb c5
            have q6 := cell_later hb c6
            have q7 := cell_later hb c7
            simp only [over, overL, Nat.reduceAdd, h62]
            go_simp
            exact hK _ _ ⟨_, rfl, by simp only [over, overL, Nat.reduceAdd, h62]; rfl, Below.refl _ _⟩
          · intro f wA hb ⟨h58, h59, h63, _⟩ K hK
            replace h58 : f 58 = _ := h58
            replace h59 : f 59 = _ := h59
            replace h63 : f 63 = _ := h63
            simp only [over, overL, Nat.reduceAdd, h58, h59, h63]
            go_simp
            refine ((HAP.out wA hb).mono) ?_
            rintro e w2 ⟨x, rfl, ht, hb2⟩
            exact hK _ _ ⟨_, ht, by simp only [over, overL, Nat.reduceAdd, h58, h59, h63]; rfl, hb2⟩
          · intro f wA hb ⟨h64, _⟩ K hK
            simp only [over, overL, Nat.reduceAdd]
            go_simp
            exact hK _ _ ⟨_, h64, by simp only [over, overL, Nat.reduceAdd]; rfl, Below.refl _ _⟩
          · intro f wA hb ⟨h57, _⟩ K hK
            obtain ⟨tt, h57, hx⟩ := h57
            simp only [over, overL, Nat.reduceAdd, h57]
            go_simp
            exact hK _ _ ⟨_, ⟨tt, rfl, hx⟩, by simp only [over, overL, Nat.reduceAdd, h57]; rfl, Below.refl _ _⟩
          · intro f wA hb ⟨h57, _⟩ K hK
            obtain ⟨tt, h57, hx⟩ := h57
            simp only [over, overL, Nat.reduceAdd, h57]
            go_simp
            exact hK _ _ ⟨_, rfl, by simp only [over, overL, Nat.reduceAdd, h57]; rfl, Below.refl _ _⟩
          · intro f wA hb _ K hK
            simp only [over, overL, Nat.reduceAdd]
            go_simp
            exact hK _ _ ⟨_, AL.new hb.size, by simp only [over, overL, Nat.reduceAdd]; rfl, (Below.refl _ _).alloc (Nat.le_refl _) _⟩
        · intro f w6 hb hv
          obtain ⟨t', hx0, hst', hin', hhi'⟩ := (show AQ wr.heap.size S1 (f 65) w6 from hv.2.2.2.2.2.2.2.2.1)
          obtain ⟨b, hal, hnb, hbl, hbz, hkb⟩ := (show AL wr.heap.size (f 10) w6 from hv.2.2.2.2.2.2.2.2.2.2.1)
          have hx1 : f 66 = .int .i64 0 := hv.2.2.2.2.2.2.2.2.2.1
          have HST : Hid (t'.st = S1) := hst'
          obtain ⟨w7, hw7⟩ : ∃ w7, w7 = put7 w6 b t' := ⟨_, rfl⟩
          have HIN7 : Hid (SmIn w7 t') := by show SmIn _ _; rw [hw7]; exact hin'.laid hbz (but_put7 b w6 t')
          have HHI : Hid (SmHi wr.heap.size t') := hhi'
          have KB7 : Hid (Bk b (sml t') w7) := by show Bk _ _ _; rw [hw7]; exact bk_put7 hkb t'
          have KX7 : Hid (Bk w4.heap.size (sml t) w7) := by show Bk _ _ _; rw [hw7]; exact bk_oth7 (KX.out.later hb) (by omega) t'
          have HB7 : Hid (Below wr.heap.size wr w7) := by show Below _ _ _; rw [hw7]; exact blw_put7 hb hnb t'
          have q0 := (hkb).c 0 rfl
          have qf0 := (hkb).f 0 rfl
          have q1 := (hkb).c 1 rfl
          have qf1 := (hkb).f 1 rfl
          have q2 := (hkb).c 2 rfl
          have qf2 := (hkb).f 2 rfl
          have q3 := (hkb).c 3 rfl
          have qf3 := (hkb).f 3 rfl
          have q4 := (hkb).c 4 rfl
          have qf4 := (hkb).f 4 rfl
          have q5 := (hkb).c 5 rfl
          have qf5 := (hkb).f 5 rfl
          have q6 := (hkb).c 6 rfl
          have qf6 := (hkb).f 6 rfl
          clear hv hb hbz hst' hin' hhi' c0 c1 c2 c3 c4 c5 c6 c7
          simp only [List.drop, over, overL, Nat.reduceAdd, hx0, hal, hx1]
          go_wp2
          refine HKK.out _ _ ?_
          clear HKK q0 q1 q2 q3 q4 q5 q6 qf0 qf1 qf2 qf3 qf4 qf5 qf6 hkb hx0 hal hx1
          rw [show (((((((w6.setCell ⟨b, 0, none⟩ (.slice t'.aoW t'.wl.length t'.capW)).setCell ⟨b, 1, none⟩ (.bool t'.tip)).setCell ⟨b, 2, none⟩ (.slice t'.aoH t'.held.length t'.capH)).setCell ⟨b, 3, none⟩ (.slice t'.aoT t'.touched.length t'.capT)).setCell ⟨b, 4, none⟩ (.int .i64 t'.used)).setCell ⟨b, 5, none⟩ (.int .i64 t'.heat)).setCell ⟨b, 6, none⟩ (.int .i64 t'.clock)) = w7 from hw7.symm]
          clear hw7
          have lX7 := KX7.out.1
          have hbx : b ≠ w4.heap.size := by omega
          have hxb : w4.heap.size ≠ b := by omega
          have p0 := (KB7.out).c 0 rfl
          have p1 := (KB7.out).c 1 rfl
          have p2 := (KB7.out).c 2 rfl
          have p3 := (KB7.out).c 3 rfl
          have p4 := (KB7.out).c 4 rfl
          have p5 := (KB7.out).c 5 rfl
          have p6 := (KB7.out).c 6 rfl
          have x0 := (KX7.out).c 0 rfl
          have xf0 := (KX7.out).f 0 rfl
          have x1 := (KX7.out).c 1 rfl
          have xf1 := (KX7.out).f 1 rfl
          have x2 := (KX7.out).c 2 rfl
          have xf2 := (KX7.out).f 2 rfl
          have x3 := (KX7.out).c 3 rfl
          have xf3 := (KX7.out).f 3 rfl
          have x4 := (KX7.out).c 4 rfl
          have xf4 := (KX7.out).f 4 rfl
          have x5 := (KX7.out).c 5 rfl
          have xf5 := (KX7.out).f 5 rfl
          have x6 := (KX7.out).c 6 rfl
          have xf6 := (KX7.out).f 6 rfl
          go_wp2
          go_roundw
          case rel => exact ⟨k + 1, t', by omega, by go_num, by rw [HST.out]; exact HSt.out, by rw [HST.out]; exact HMx.out, HIN7.out.but HHI.out (but_put7 w4.heap.size w7 t') lX lX, bk_put7 KX7.out t', blw_put7 (HB.out.trans (HB7.out.mono HB.out.size)) (Nat.le_refl _) t'⟩
          case measure => simp [intOf]; omega
        · intro f w6 ok ol hok hol hb hv
          cases hok
          cases hol
          obtain ⟨t', hx0, hst', hin', hhi'⟩ := (show AQ wr.heap.size S1 (f 65) w6 from hv.2.2.2.2.2.2.2.2.1 (by decide))
          obtain ⟨b, hal, hnb, hbl, hbz, hkb⟩ := (show AL wr.heap.size (f 10) w6 from hv.2.2.2.2.2.2.2.2.2.2.1 (by decide))
          obtain ⟨t2, hmv, _⟩ := (show AP wr.heap.size S1 0 (f 57) w6 from hv.2.2.2.2.2.2.2.1 (by decide))
          have HST : Hid (t'.st = S1) := hst'
          obtain ⟨w7, hw7⟩ : ∃ w7, w7 = put7 w6 b t' := ⟨_, rfl⟩
          have HIN7 : Hid (SmIn w7 t') := by show SmIn _ _; rw [hw7]; exact hin'.laid hbz (but_put7 b w6 t')
          have HHI : Hid (SmHi wr.heap.size t') := hhi'
          have KB7 : Hid (Bk b (sml t') w7) := by show Bk _ _ _; rw [hw7]; exact bk_put7 hkb t'
          have KX7 : Hid (Bk w4.heap.size (sml t) w7) := by show Bk _ _ _; rw [hw7]; exact bk_oth7 (KX.out.later hb) (by omega) t'
          have HB7 : Hid (Below wr.heap.size wr w7) := by show Below _ _ _; rw [hw7]; exact blw_put7 hb hnb t'
          have q0 := (hkb).c 0 rfl
          have qf0 := (hkb).f 0 rfl
          have q1 := (hkb).c 1 rfl
          have qf1 := (hkb).f 1 rfl
          have q2 := (hkb).c 2 rfl
          have qf2 := (hkb).f 2 rfl
          have q3 := (hkb).c 3 rfl
          have qf3 := (hkb).f 3 rfl
          have q4 := (hkb).c 4 rfl
          have qf4 := (hkb).f 4 rfl
          have q5 := (hkb).c 5 rfl
          have qf5 := (hkb).f 5 rfl
          have q6 := (hkb).c 6 rfl
          have qf6 := (hkb).f 6 rfl
          clear hv hb hbz hst' hin' hhi' c0 c1 c2 c3 c4 c5 c6 c7
          simp only [List.drop, over, overL, Nat.reduceAdd, hx0, hal, hmv]
          go_wp2
          refine HKK.out _ _ ?_
          clear HKK q0 q1 q2 q3 q4 q5 q6 qf0 qf1 qf2 qf3 qf4 qf5 qf6 hkb hx0 hal hmv
          rw [show (((((((w6.setCell ⟨b, 0, none⟩ (.slice t'.aoW t'.wl.length t'.capW)).setCell ⟨b, 1, none⟩ (.bool t'.tip)).setCell ⟨b, 2, none⟩ (.slice t'.aoH t'.held.length t'.capH)).setCell ⟨b, 3, none⟩ (.slice t'.aoT t'.touched.length t'.capT)).setCell ⟨b, 4, none⟩ (.int .i64 t'.used)).setCell ⟨b, 5, none⟩ (.int .i64 t'.heat)).setCell ⟨b, 6, none⟩ (.int .i64 t'.clock)) = w7 from hw7.symm]
          clear hw7
          have lX7 := KX7.out.1
          have hbx : b ≠ w4.heap.size := by omega
          have hxb : w4.heap.size ≠ b := by omega
          have p0 := (KB7.out).c 0 rfl
          have p1 := (KB7.out).c 1 rfl
          have p2 := (KB7.out).c 2 rfl
          have p3 := (KB7.out).c 3 rfl
          have p4 := (KB7.out).c 4 rfl
          have p5 := (KB7.out).c 5 rfl
          have p6 := (KB7.out).c 6 rfl
          have x0 := (KX7.out).c 0 rfl
          have xf0 := (KX7.out).f 0 rfl
          have x1 := (KX7.out).c 1 rfl
          have xf1 := (KX7.out).f 1 rfl
          have x2 := (KX7.out).c 2 rfl
          have xf2 := (KX7.out).f 2 rfl
          have x3 := (KX7.out).c 3 rfl
          have xf3 := (KX7.out).f 3 rfl
          have x4 := (KX7.out).c 4 rfl
          have xf4 := (KX7.out).f 4 rfl
          have x5 := (KX7.out).c 5 rfl
          have xf5 := (KX7.out).f 5 rfl
          have x6 := (KX7.out).c 6 rfl
          have xf6 := (KX7.out).f 6 rfl
          go_wp2
          go_roundw
          case rel => exact ⟨k + 1, t', by omega, by go_num, by rw [HST.out]; exact HSt.out, by rw [HST.out]; exact HMx.out, HIN7.out.but HHI.out (but_put7 w4.heap.size w7 t') lX lX, bk_put7 KX7.out t', blw_put7 (HB.out.trans (HB7.out.mono HB.out.size)) (Nat.le_refl _) t'⟩
          case measure => simp [intOf]; omega
      · obtain rfl : k = kR := by omega
        clear hlt
        by_cases hka : k < acs.length
        · obtain ⟨g, off, hao, hcs⟩ := (HA.out.next HBW.out).at hka
          have hok := HA.out.ok _ (List.getElem_mem hka)
          have hdo : (doA l t.st (acs[k]'hka)).2 ≠ 0 := by
            intro h
            have h1 := HRN.out
            rw [HRA.out, runA_step hka h] at h1
            have h2 := (runA_in l (acs.drop (k + 1)) (doA l t.st (acs[k]'hka)).1 (k + 1)).1
            rw [← h1] at h2
            simp only at h2
            omega
          have hq := HRN.out
          rw [HRA.out, runA_stop hka hdo] at hq
          simp only [Prod.mk.injEq] at hq
          have HQ1 : Hid (tR.st = t.st) := HSR.out.trans hq.1
          have HQ2 : Hid (eR = (doA l t.st (acs[k]'hka)).2) := hq.2.2
          have HAR : Hid (applyR l t.st (acs[k]'hka) = (sta0, (doA l t.st (acs[k]'hka)).2)) := by show _ = _; unfold applyR; rw [if_pos (may_of HC.out HMY.out), if_neg hdo]
          clear hq hdo
          generalize acs[k]'hka = a at *
          subst hao
          have HAP : Hid (∀ W, Below wr.heap.size wr W → Calls Tryz.prog 10 #[.slice ao l.length cap, smv t, av a] W fun e w' => ∃ x, e = .returned x ∧ AP wr.heap.size sta0 eR x w' ∧ Below W.heap.size W w') := fun W hW => by
            refine (apply_any ao cap l t a W ((HD.out.next HBW.out).next hW) HLN.out (HIN.out.next hW) HSL.out hok.1 hok.2).mono ?_
            rw [HAR.out, ← HQ2.out]
            rintro e w' ⟨t', rfl, h1, h2, h3, h4⟩
            exact ⟨_, rfl, ⟨t', rfl, h1, h2, h3.less hW.size⟩, h4⟩
          have c0 := hcs 0 (by decide)
          have c1 := hcs 1 (by decide)
          have c2 := hcs 2 (by decide)
          have c3 := hcs 3 (by decide)
          have c4 := hcs 4 (by decide)
          have c5 := hcs 5 (by decide)
          have c6 := hcs 6 (by decide)
          have c7 := hcs 7 (by decide)
          simp only [acl, List.getElem?_cons_zero, List.getElem?_cons_succ, Nat.add_zero] at c0 c1 c2 c3 c4 c5 c6 c7
          have hki : (k : Int) < (acs.length : Int) := by omega
          clear hcs hok HAR
          go_wp2_with fail
          rename_i KK hkk
          have HKK := (show Hid _ from hkk)
          clear hkk
          refine region_seqL 11 9 [false, false, false, false, false, false, false, false, false, false, false, false, true, false, false, false, false, false, false, false, false, false, false, false, false, false, false, false, false, false, false, false, false, false, false, false, false, false, false, false, false, false, false, false, false, false, false, false, false, false, false, false, false, false, false, false, false, false, false, false, false, false, false, false, false, false, false, false, false, false, false, false, false, false, true, true, true, true, true, true, true, true, true, true, false, false, false, false, false, false]
            [(75, [], none), (76, [], none), (77, [], none), (78, [], none), (79, [77, 78], none), (80, [79], none), (81, [75, 76, 80], none), (74, [81], none), (82, [74], none), (83, [74], none), (12, [], none)]
            (seV ao l.length cap g off acs.length capA k wr.heap.size t a sta0 eR) (by kernel_rfl) (by kernel_rfl) (by kernel_rfl) (by kernel_rfl) (by kernel_rfl) (by decide) (by decide) (seV_mono ao l.length cap g off acs.length capA k wr.heap.size t a sta0 eR) ?_ ?_ ?_
          · refine ⟨?_, ?_, ?_, ?_, ?_, ?_, ?_, ?_, ?_, ?_, ?_, trivial⟩
            · intro f wA hb _ K hK
              simp only [over, overL, Nat.reduceAdd]
              go_simp
              exact hK _ _ ⟨_, rfl, by simp only [over, overL, Nat.reduceAdd]; rfl, Below.refl _ _⟩
            · intro f wA hb _ K hK
              have q0 := (KX.out.later hb).c 0 rfl
              have q1 := (KX.out.later hb).c 1 rfl
              have q2 := (KX.out.later hb).c 2 rfl
              have q3 := (KX.out.later hb).c 3 rfl
              have q4 := (KX.out.later hb).c 4 rfl
              have q5 := (KX.out.later hb).c 5 rfl
              have q6 := (KX.out.later hb).c 6 rfl
              simp only [over, overL, Nat.reduceAdd]
              go_simp
              exact hK _ _ ⟨_, rfl, by simp only [over, overL, Nat.reduceAdd]; rfl, Below.refl _ _⟩
            · intro f wA hb _ K hK
              simp only [over, overL, Nat.reduceAdd]
              go_simp
              exact hK _ _ ⟨_, rfl, by simp only [over, overL, Nat.reduceAdd]; rfl, Below.refl _ _⟩
            · intro f wA hb _ K hK
              simp only [over, overL, Nat.reduceAdd]
              go_simp
              exact hK _ _ ⟨_, rfl, by simp only [over, overL, Nat.reduceAdd]; rfl, Below.refl _ _⟩
            · intro f wA hb ⟨h77, h78, _⟩ K hK
              replace h77 : f 77 = _ := h77
              replace h78 : f 78 = _ := h78
              simp only [over, overL, Nat.reduceAdd, h77, h78]
              go_simp
              exact hK _ _ ⟨_, rfl, by simp only [over, overL, Nat.reduceAdd, h77, h78]; rfl, Below.refl _ _⟩
            · intro f wA hb ⟨h79, _⟩ K hK
              replace h79 : f 79 = _ := h79
              have q0 := cell_later hb c0
              have q1 := cell_later hb c1
              have q2 := cell_later hb c2
              have q3 := cell_later hb c3
              have q4 := cell_later hb c4
              have q5 := cell_later hb c5
              have q6 := cell_later hb c6
              have q7 := cell_later hb c7
              simp only [over, overL, Nat.reduceAdd, h79]
              go_simp
              exact hK _ _ ⟨_, rfl, by simp only [over, overL, Nat.reduceAdd, h79]; rfl, Below.refl _ _⟩
            · intro f wA hb ⟨h75, h76, h80, _⟩ K hK
              replace h75 : f 75 = _ := h75
              replace h76 : f 76 = _ := h76
              replace h80 : f 80 = _ := h80
              simp only [over, overL, Nat.reduceAdd, h75, h76, h80]
              go_simp
              refine ((HAP.out wA hb).mono) ?_
              rintro e w2 ⟨x, rfl, ht, hb2⟩
              exact hK _ _ ⟨_, ht, by simp only [over, overL, Nat.reduceAdd, h75, h76, h80]; rfl, hb2⟩
            · intro f wA hb ⟨h81, _⟩ K hK
              simp only [over, overL, Nat.reduceAdd]
              go_simp
              exact hK _ _ ⟨_, h81, by simp only [over, overL, Nat.reduceAdd]; rfl, Below.refl _ _⟩
            · intro f wA hb ⟨h74, _⟩ K hK
              obtain ⟨tt, h74, hx⟩ := h74
              simp only [over, overL, Nat.reduceAdd, h74]
              go_simp
              exact hK _ _ ⟨_, ⟨tt, rfl, hx⟩, by simp only [over, overL, Nat.reduceAdd, h74]; rfl, Below.refl _ _⟩
            · intro f wA hb ⟨h74, _⟩ K hK
              obtain ⟨tt, h74, hx⟩ := h74
              simp only [over, overL, Nat.reduceAdd, h74]
              go_simp
              exact hK _ _ ⟨_, rfl, by simp only [over, overL, Nat.reduceAdd, h74]; rfl, Below.refl _ _⟩
            · intro f wA hb _ K hK
              simp only [over, overL, Nat.reduceAdd]
              go_simp
              exact hK _ _ ⟨_, AL.new hb.size, by simp only [over, overL, Nat.reduceAdd]; rfl, (Below.refl _ _).alloc (Nat.le_refl _) _⟩
          · intro f w6 hb hv
            obtain ⟨t', hx0, hst', hin', hhi'⟩ := (show AQ wr.heap.size sta0 (f 82) w6 from hv.2.2.2.2.2.2.2.2.1)
            obtain ⟨b, hal, hnb, hbl, hbz, hkb⟩ := (show AL wr.heap.size (f 12) w6 from hv.2.2.2.2.2.2.2.2.2.2.1)
            have hx1 : f 83 = .int .i64 eR := hv.2.2.2.2.2.2.2.2.2.1
            have HST : Hid (t'.st = sta0) := hst'
            obtain ⟨w7, hw7⟩ : ∃ w7, w7 = put7 w6 b t' := ⟨_, rfl⟩
            have HIN7 : Hid (SmIn w7 t') := by show SmIn _ _; rw [hw7]; exact hin'.laid hbz (but_put7 b w6 t')
            have HHI : Hid (SmHi wr.heap.size t') := hhi'
            have KB7 : Hid (Bk b (sml t') w7) := by show Bk _ _ _; rw [hw7]; exact bk_put7 hkb t'
            have KX7 : Hid (Bk w4.heap.size (sml t) w7) := by show Bk _ _ _; rw [hw7]; exact bk_oth7 (KX.out.later hb) (by omega) t'
            have HB7 : Hid (Below wr.heap.size wr w7) := by show Below _ _ _; rw [hw7]; exact blw_put7 hb hnb t'
            have q0 := (hkb).c 0 rfl
            have qf0 := (hkb).f 0 rfl
            have q1 := (hkb).c 1 rfl
            have qf1 := (hkb).f 1 rfl
            have q2 := (hkb).c 2 rfl
            have qf2 := (hkb).f 2 rfl
            have q3 := (hkb).c 3 rfl
            have qf3 := (hkb).f 3 rfl
            have q4 := (hkb).c 4 rfl
            have qf4 := (hkb).f 4 rfl
            have q5 := (hkb).c 5 rfl
            have qf5 := (hkb).f 5 rfl
            have q6 := (hkb).c 6 rfl
            have qf6 := (hkb).f 6 rfl
            clear hv hb hbz hst' hin' hhi' c0 c1 c2 c3 c4 c5 c6 c7
            simp only [List.drop, over, overL, Nat.reduceAdd, hx0, hal, hx1]
            go_wp2
            refine HKK.out _ _ ?_
            clear HKK q0 q1 q2 q3 q4 q5 q6 qf0 qf1 qf2 qf3 qf4 qf5 qf6 hkb hx0 hal hx1
            rw [show (((((((w6.setCell ⟨b, 0, none⟩ (.slice t'.aoW t'.wl.length t'.capW)).setCell ⟨b, 1, none⟩ (.bool t'.tip)).setCell ⟨b, 2, none⟩ (.slice t'.aoH t'.held.length t'.capH)).setCell ⟨b, 3, none⟩ (.slice t'.aoT t'.touched.length t'.capT)).setCell ⟨b, 4, none⟩ (.int .i64 t'.used)).setCell ⟨b, 5, none⟩ (.int .i64 t'.heat)).setCell ⟨b, 6, none⟩ (.int .i64 t'.clock)) = w7 from hw7.symm]
            clear hw7
            have KS7 : Hid (Bk w2.heap.size (sml tR) w7) := KS.out.later HB7.out
            have HBB : Hid (Below w.heap.size w w7) := HBW.out.trans (HB7.out.mono HBW.out.size)
            have x0 := (KX7.out).c 0 rfl
            have x1 := (KX7.out).c 1 rfl
            have x2 := (KX7.out).c 2 rfl
            have x3 := (KX7.out).c 3 rfl
            have x4 := (KX7.out).c 4 rfl
            have x5 := (KX7.out).c 5 rfl
            have x6 := (KX7.out).c 6 rfl
            have y0 := (KS7.out).c 0 rfl
            have y1 := (KS7.out).c 1 rfl
            have y2 := (KS7.out).c 2 rfl
            have y3 := (KS7.out).c 3 rfl
            have y4 := (KS7.out).c 4 rfl
            have y5 := (KS7.out).c 5 rfl
            have y6 := (KS7.out).c 6 rfl
            go_wp2_with fail
            have hfr : ∀ z ∈ tR.wl, z.2.2.2.length ≤ 100 := fun z hz => (F.fref_in ((may_frefs (t := tR) (by rw [HQ1.out]; exact HMY.out)).1 z hz)).1
            have hmr : May l tR.st := by rw [HQ1.out]; exact HMY.out
            refine (sameState_same t tR w7 (HIN.out.next HB7.out) (HR.out.next HB7.out) HQ1.out.symm (may_smlen HC.out hmr).2 hfr (may_lens hmr).1 (may_lens hmr).2.1).mono ?_
            rintro e w9 ⟨rfl, hb9⟩
            have HB9 : Hid (Below w.heap.size w w9) := HBB.out.trans (hb9.mono HBB.out.size)
            clear hb9 hfr hmr
            go_wp2
            go_ret
            exact ⟨rfl, HB9.out⟩
          · intro f w6 ok ol hok hol hb hv
            cases hok
            cases hol
            obtain ⟨t', hx0, hst', hin', hhi'⟩ := (show AQ wr.heap.size sta0 (f 82) w6 from hv.2.2.2.2.2.2.2.2.1 (by decide))
            obtain ⟨b, hal, hnb, hbl, hbz, hkb⟩ := (show AL wr.heap.size (f 12) w6 from hv.2.2.2.2.2.2.2.2.2.2.1 (by decide))
            obtain ⟨t2, hmv, _⟩ := (show AP wr.heap.size sta0 eR (f 74) w6 from hv.2.2.2.2.2.2.2.1 (by decide))
            have HST : Hid (t'.st = sta0) := hst'
            obtain ⟨w7, hw7⟩ : ∃ w7, w7 = put7 w6 b t' := ⟨_, rfl⟩
            have HIN7 : Hid (SmIn w7 t') := by show SmIn _ _; rw [hw7]; exact hin'.laid hbz (but_put7 b w6 t')
            have HHI : Hid (SmHi wr.heap.size t') := hhi'
            have KB7 : Hid (Bk b (sml t') w7) := by show Bk _ _ _; rw [hw7]; exact bk_put7 hkb t'
            have KX7 : Hid (Bk w4.heap.size (sml t) w7) := by show Bk _ _ _; rw [hw7]; exact bk_oth7 (KX.out.later hb) (by omega) t'
            have HB7 : Hid (Below wr.heap.size wr w7) := by show Below _ _ _; rw [hw7]; exact blw_put7 hb hnb t'
            have q0 := (hkb).c 0 rfl
            have qf0 := (hkb).f 0 rfl
            have q1 := (hkb).c 1 rfl
            have qf1 := (hkb).f 1 rfl
            have q2 := (hkb).c 2 rfl
            have qf2 := (hkb).f 2 rfl
            have q3 := (hkb).c 3 rfl
            have qf3 := (hkb).f 3 rfl
            have q4 := (hkb).c 4 rfl
            have qf4 := (hkb).f 4 rfl
            have q5 := (hkb).c 5 rfl
            have qf5 := (hkb).f 5 rfl
            have q6 := (hkb).c 6 rfl
            have qf6 := (hkb).f 6 rfl
            clear hv hb hbz hst' hin' hhi' c0 c1 c2 c3 c4 c5 c6 c7
            simp only [List.drop, over, overL, Nat.reduceAdd, hx0, hal, hmv]
            go_wp2
            refine HKK.out _ _ ?_
            clear HKK q0 q1 q2 q3 q4 q5 q6 qf0 qf1 qf2 qf3 qf4 qf5 qf6 hkb hx0 hal hmv
            rw [show (((((((w6.setCell ⟨b, 0, none⟩ (.slice t'.aoW t'.wl.length t'.capW)).setCell ⟨b, 1, none⟩ (.bool t'.tip)).setCell ⟨b, 2, none⟩ (.slice t'.aoH t'.held.length t'.capH)).setCell ⟨b, 3, none⟩ (.slice t'.aoT t'.touched.length t'.capT)).setCell ⟨b, 4, none⟩ (.int .i64 t'.used)).setCell ⟨b, 5, none⟩ (.int .i64 t'.heat)).setCell ⟨b, 6, none⟩ (.int .i64 t'.clock)) = w7 from hw7.symm]
            clear hw7
            have KS7 : Hid (Bk w2.heap.size (sml tR) w7) := KS.out.later HB7.out
            have HBB : Hid (Below w.heap.size w w7) := HBW.out.trans (HB7.out.mono HBW.out.size)
            have x0 := (KX7.out).c 0 rfl
            have x1 := (KX7.out).c 1 rfl
            have x2 := (KX7.out).c 2 rfl
            have x3 := (KX7.out).c 3 rfl
            have x4 := (KX7.out).c 4 rfl
            have x5 := (KX7.out).c 5 rfl
            have x6 := (KX7.out).c 6 rfl
            have y0 := (KS7.out).c 0 rfl
            have y1 := (KS7.out).c 1 rfl
            have y2 := (KS7.out).c 2 rfl
            have y3 := (KS7.out).c 3 rfl
            have y4 := (KS7.out).c 4 rfl
            have y5 := (KS7.out).c 5 rfl
            have y6 := (KS7.out).c 6 rfl
            go_wp2_with fail
            have hfr : ∀ z ∈ tR.wl, z.2.2.2.length ≤ 100 := fun z hz => (F.fref_in ((may_frefs (t := tR) (by rw [HQ1.out]; exact HMY.out)).1 z hz)).1
            have hmr : May l tR.st := by rw [HQ1.out]; exact HMY.out
            refine (sameState_same t tR w7 (HIN.out.next HB7.out) (HR.out.next HB7.out) HQ1.out.symm (may_smlen HC.out hmr).2 hfr (may_lens hmr).1 (may_lens hmr).2.1).mono ?_
            rintro e w9 ⟨rfl, hb9⟩
            have HB9 : Hid (Below w.heap.size w w9) := HBB.out.trans (hb9.mono HBB.out.size)
            clear hb9 hfr hmr
            go_wp2
            go_ret
            exact ⟨rfl, HB9.out⟩
        · obtain rfl : k = acs.length := by have := HRI.out.1; omega
          have hq := HRN.out
          rw [HRA.out, runA_done (Nat.le_refl _)] at hq
          simp only [Prod.mk.injEq] at hq
          have HQ1 : Hid (tR.st = t.st) := HSR.out.trans hq.1
          clear hq hka
          have x0 := (KX.out).c 0 rfl
          have x1 := (KX.out).c 1 rfl
          have x2 := (KX.out).c 2 rfl
          have x3 := (KX.out).c 3 rfl
          have x4 := (KX.out).c 4 rfl
          have x5 := (KX.out).c 5 rfl
          have x6 := (KX.out).c 6 rfl
          have y0 := (KS.out).c 0 rfl
          have y1 := (KS.out).c 1 rfl
          have y2 := (KS.out).c 2 rfl
          have y3 := (KS.out).c 3 rfl
          have y4 := (KS.out).c 4 rfl
          have y5 := (KS.out).c 5 rfl
          have y6 := (KS.out).c 6 rfl
          go_wp2_with fail
          have hfr : ∀ z ∈ tR.wl, z.2.2.2.length ≤ 100 := fun z hz => (F.fref_in ((may_frefs (t := tR) (by rw [HQ1.out]; exact HMY.out)).1 z hz)).1
          have hmr : May l tR.st := by rw [HQ1.out]; exact HMY.out
          refine (sameState_same t tR wr HIN.out HR.out HQ1.out.symm (may_smlen HC.out hmr).2 hfr (may_lens hmr).1 (may_lens hmr).2.1).mono ?_
          rintro e w9 ⟨rfl, hb9⟩
          have HB9 : Hid (Below w.heap.size w w9) := HBW.out.trans (hb9.mono HBW.out.size)
          clear hb9 hfr hmr
          go_wp2
          go_ret
          exact ⟨rfl, HB9.out⟩
end Go.Proofs.YtfadmpnpgiceeaaGreat
