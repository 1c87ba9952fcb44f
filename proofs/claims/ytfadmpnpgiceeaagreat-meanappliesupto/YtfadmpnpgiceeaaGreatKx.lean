import Derived.Test.YtfadmpnpgiceeaaGreatKw
import Derived.Test.YtfadmpnpgiceeaaGreatKu

/- The law MeanApplies walked. -/
namespace Go.Proofs.YtfadmpnpgiceeaaGreat
open Go.RowKit Go.Maps
theorem at_none {k : Int} (h : ∀ x ∈ kndL, k ≠ x) : atR kndL k = -1 := by
 unfold atR
 have : kndL.findIdx? (fun y => y == k) = none := by
  rw [List.findIdx?_eq_none_iff]
  intro x hx
  rw [beq_eq_false_iff_ne]
  exact fun e => h x hx e.symm
 rw [this]
theorem applyAction_any (ao : Option Addr) (cap : Nat) (l : List Sit) (s : Sm) (a : Acn) (w : World) (h : ApIn w ao cap l s a) : Calls Tryz.prog 16 #[.slice ao l.length cap, smv s, av a] w (ApOk w l s a) := by
 by_cases h5 : a.kind = 5
 ·exact apply_fill ao cap l s a w h h5
 by_cases h6 : a.kind = 6
 ·exact apply_tip ao cap l s a w h h6
 by_cases h7 : a.kind = 7
 ·exact apply_drop ao cap l s a w h h7
 by_cases h8 : a.kind = 8
 ·exact apply_draw ao cap l s a w h h8
 by_cases h9 : a.kind = 9
 ·exact apply_put ao cap l s a w h h9
 by_cases h11 : a.kind = 11
 ·exact apply_warm ao cap l s a w h h11
 by_cases h12 : a.kind = 12
 ·exact apply_hold ao cap l s a w h h12
 by_cases h13 : a.kind = 13
 ·exact apply_shake ao cap l s a w h h13
 by_cases h14 : a.kind = 14
 ·exact apply_wait ao cap l s a w h h14
 refine apply_none ao cap l s a w h (at_none fun x hx => ?_)
 simp only [kndL, List.mem_cons, List.not_mem_nil, or_false] at hx
 rcases hx with rfl | rfl | rfl | rfl | rfl | rfl | rfl | rfl | rfl
 ·exact h5
 ·exact h6
 ·exact h7
 ·exact h8
 ·exact h9
 ·exact h11
 ·exact h12
 ·exact h13
 ·exact h14
theorem smB_of {s t : Sm} (h : t.st = s.st) (hb : SmB s) : SmB t := by
 have e1 : whp t.wl = whp s.wl := congrArg Sta.wells h
 have e2 : t.held = s.held := congrArg Sta.held h
 have e3 : t.touched = s.touched := congrArg Sta.touched h
 refine ⟨?_, fun x hx => ?_, by rw [e2]; exact hb.held, by rw [e3]; exact hb.touched⟩
 ·have := congrArg List.length e1
  rw [whp_length, whp_length] at this
  rw [this]
  exact hb.wells
 ·have hm : (x.1, x.2.2.2) ∈ whp t.wl := List.mem_map.2 ⟨x, hx, rfl⟩
  rw [e1] at hm
  obtain ⟨y, hy, e⟩ := List.mem_map.1 hm
  have e4 : y.2.2.2 = x.2.2.2 := (Prod.mk.injEq ..).mp e |>.2
  rw [← e4]
  exact hb.fl y hy
def RDk (l : List Sit) (v : Value) (w : World) : Prop := ∃ ao cap, v = .slice ao l.length cap ∧ Dk w ao cap l
theorem RDk.later {l : List Sit} {v : Value} {w w1 : World} (h : RDk l v w) (hb : Below w.heap.size w w1) : RDk l v w1 := by
 obtain ⟨ao, cap, e, h⟩ := h
 exact ⟨ao, cap, e, h.next hb⟩
def RSm (st : Sta) (v : Value) (w : World) : Prop := ∃ t : Sm, v = smv t ∧ t.st = st ∧ SmIn w t ∧ SmN t
theorem RSm.later {st : Sta} {v : Value} {w w1 : World} (h : RSm st v w) (hb : Below w.heap.size w w1) : RSm st v w1 := by
 obtain ⟨t, e, h1, h2, h3⟩ := h
 exact ⟨t, e, h1, h2.next hb, h3⟩
def RFl (ps : List F.Pc) (v : Value) (w : World) : Prop := ∃ ao cap, v = .slice ao ps.length cap ∧ F.Fl w ao ps
theorem RFl.later {ps : List F.Pc} {v : Value} {w w1 : World} (h : RFl ps v w) (hb : Below w.heap.size w w1) : RFl ps v w1 := by
 obtain ⟨ao, cap, e, h⟩ := h
 exact ⟨ao, cap, e, h.next hb⟩
def RAp (n : Nat) (st : Sta) (e : Int) (v : Value) (w : World) : Prop := ∃ t : Sm, v = .tuple #[smv t, .int .i64 e] ∧ t.st = st ∧ SmIn w t ∧ SmHi n t
theorem RAp.later {n : Nat} {st : Sta} {e : Int} {v : Value} {w w1 : World} (h : RAp n st e v w) (hb : Below w.heap.size w w1) : RAp n st e v w1 := by
 obtain ⟨t, e1, h1, h2, h3⟩ := h
 exact ⟨t, e1, h1, h2.next hb, h3⟩
def AL (M : Nat) (v : Value) (w : World) : Prop := ∃ b, v = ptr b ∧ M ≤ b ∧ b < w.heap.size ∧ w.heap[b]? = some (.cells z7.toArray 27) ∧ Bk b z7 w
theorem AL.later {M : Nat} {v : Value} {w w1 : World} (h : AL M v w) (hb : Below w.heap.size w w1) : AL M v w1 := by
 obtain ⟨b, h1, h2, h3, h4, h5⟩ := h
 exact ⟨b, h1, h2, Nat.lt_of_lt_of_le h3 hb.size, (hb.block b h3).trans h4, h5.later hb⟩
theorem AL.new {M : Nat} {w : World} (h : M ≤ w.heap.size) : AL M (ptr w.heap.size) (w.alloc (.cells z7.toArray 27)) :=
 ⟨w.heap.size, rfl, h, by simp, by show (w.heap.push _)[w.heap.size]? = _; simp, Bk.new w z7 27 w.heap.size rfl⟩
theorem cell_z {w : World} {b : Nat} (h : w.heap[b]? = some (.cells z7.toArray 27)) {o : Nat} {v : Value} (hc : w.cell? ⟨b, o, none⟩ = some v) : z7[o]? = some v := by
 simp only [World.cell?, h] at hc
 simpa using hc
theorem sm_apart {w : World} {b : Nat} (h : w.heap[b]? = some (.cells z7.toArray 27)) {t : Sm} (ht : SmIn w t) : (t.wl = [] ∨ ∀ a, t.aoW = some a → a.block ≠ b) ∧ (∀ x ∈ t.wl, x.2.2.2 = [] ∨ ∀ a, x.2.1 = some a → a.block ≠ b) ∧ (t.held = [] ∨ ∀ a, t.aoH = some a → a.block ≠ b) ∧ (t.touched = [] ∨ ∀ a, t.aoT = some a → a.block ≠ b) := by
 have hfl : ∀ {ao : Option Addr} {ps : List F.Pc}, F.Fl w ao ps → (ps = [] ∨ ∀ a, ao = some a → a.block ≠ b) := by
  intro ao ps hf
  by_cases hn : ps = []
  ·exact .inl hn
  ·have h0 : 0 < ps.length := List.length_pos_iff.2 hn
   obtain ⟨g, off, e, _, c0, _⟩ := hf.at h0
   refine .inr fun a ha hb => ?_
   rw [e] at ha
   injection ha with ha
   subst ha
   simp only at hb
   subst hb
   have := cell_z h c0
   have hlt := (List.getElem?_eq_some_iff.1 this).1
   simp only [List.length_cons, List.length_nil] at hlt
   rcases (show off + 0 * 2 = 0 ∨ off + 0 * 2 = 1 ∨ off + 0 * 2 = 2 ∨ off + 0 * 2 = 3 ∨ off + 0 * 2 = 4 ∨ off + 0 * 2 = 5 ∨ off + 0 * 2 = 6 by omega) with e | e | e | e | e | e | e <;> rw [e] at this <;> simp at this
 refine ⟨?_, fun x hx => ?_, hfl ht.held, ?_⟩
 ·by_cases hn : t.wl = []
  ·exact .inl hn
  ·have h0 : 0 < t.wl.length := List.length_pos_iff.2 hn
   obtain ⟨g, off, e, hat⟩ := ht.wells.at h0
   refine .inr fun a ha hb => ?_
   rw [e] at ha
   injection ha with ha
   subst ha
   simp only at hb
   subst hb
   have k0 := cell_z h hat.c0
   have k1 := cell_z h hat.c1
   have k2 := cell_z h hat.c2
   have k3 := cell_z h hat.c3
   have hlt := (List.getElem?_eq_some_iff.1 k3).1
   simp only [List.length_cons, List.length_nil] at hlt
   rcases (show off + 0 * 4 = 0 ∨ off + 0 * 4 = 1 ∨ off + 0 * 4 = 2 ∨ off + 0 * 4 = 3 by omega) with e | e | e | e <;> rw [e] at k0 <;> simp at k0
 ·obtain ⟨i, hi, rfl⟩ := List.getElem_of_mem hx
  obtain ⟨_, _, _, hat⟩ := ht.wells.at hi
  exact hfl hat.fl
 ·by_cases hn : t.touched = []
  ·exact .inl hn
  ·have h0 : 0 < t.touched.length := List.length_pos_iff.2 hn
   obtain ⟨g, off, e, _, c0, _⟩ := ht.touched.at h0
   refine .inr fun a ha hb => ?_
   rw [e] at ha
   injection ha with ha
   subst ha
   simp only at hb
   subst hb
   have := cell_z h c0
   have hlt := (List.getElem?_eq_some_iff.1 this).1
   simp only [List.length_cons, List.length_nil] at hlt
   rcases (show off + 0 = 0 ∨ off + 0 = 1 ∨ off + 0 = 2 ∨ off + 0 = 3 ∨ off + 0 = 4 ∨ off + 0 = 5 ∨ off + 0 = 6 by omega) with e | e | e | e | e | e | e <;> rw [e] at this <;> simp at this
theorem SmIn.laid {w : World} {b : Nat} (h : w.heap[b]? = some (.cells z7.toArray 27)) {t : Sm} (ht : SmIn w t) {w1 : World} (hbut : But b b w w1) : SmIn w1 t := by
 obtain ⟨a1, a2, a3, a4⟩ := sm_apart h ht
 refine ⟨?_, (Flx.but ⟨ht.held, a3.imp id fun h a ha => ⟨h a ha, h a ha⟩⟩ hbut).1, (Txx.but ⟨ht.touched, a4.imp id fun h a ha => ⟨h a ha, h a ha⟩⟩ hbut).1⟩
 rcases ht.wells with e | ⟨g, off, e, hc⟩
 ·exact .inl e
 ·rcases a1 with e2 | hr
  ·exact .inl e2
  ·have hg := hr _ e
   refine .inr ⟨g, off, e, fun k hk => ?_⟩
   obtain ⟨h0, h1, h2, h3, h4, h5⟩ := hc k hk
   have hbl := hbut.block g h0 hg hg
   exact ⟨Nat.lt_of_lt_of_le h0 hbut.size, (World.cell?_of_block (w := w) hbl).trans h1, (World.cell?_of_block (w := w) hbl).trans h2, (World.cell?_of_block (w := w) hbl).trans h3, (World.cell?_of_block (w := w) hbl).trans h4, (Flx.but ⟨h5, (a2 _ (List.getElem_mem hk)).imp id fun h a ha => ⟨h a ha, h a ha⟩⟩ hbut).1⟩
theorem bk_put7 {B : Nat} {w : World} {u0 u1 u2 u3 u4 u5 u6 : Value} (h : Bk B [u0, u1, u2, u3, u4, u5, u6] w) (t : Sm) : Bk B (sml t) (put7 w B t) :=
 ((((((h.put 0 (.slice t.aoW t.wl.length t.capW)).put 1 (.bool t.tip)).put 2 (.slice t.aoH t.held.length t.capH)).put 3 (.slice t.aoT t.touched.length t.capT)).put 4 (.int .i64 t.used)).put 5 (.int .i64 t.heat)).put 6 (.int .i64 t.clock)
def RAq (n : Nat) (st : Sta) (v : Value) (w : World) : Prop := ∃ t : Sm, v = smv t ∧ t.st = st ∧ SmIn w t ∧ SmHi n t
theorem RAq.later {n : Nat} {st : Sta} {v : Value} {w w1 : World} (h : RAq n st v w) (hb : Below w.heap.size w w1) : RAq n st v w1 := by
 obtain ⟨t, h1, h2, h3, h4⟩ := h
 exact ⟨t, h1, h2, h3.next hb, h4⟩
set_option linter.unusedVariables false in
def laV (ao : Option Addr) (cap : Nat) (l : List Sit) (S A P : Nat) (s : Sm) (a : Acn) (p : Plc) (d : Nat) (v : Value) (w : World) : Prop :=
 match d with
 | 14 => v = .slice ao l.length cap
 | 15 => RDk l v w
 | 16 => v = smv s
 | 17 => RSm s.st v w
 | 18 => v = .bool (mayS l s.st)
 | 9 => v = .bool (mayS l s.st)
 | _ => True
set_option linter.unusedVariables false in
theorem laV_mono (ao : Option Addr) (cap : Nat) (l : List Sit) (S A P : Nat) (s : Sm) (a : Acn) (p : Plc) (d : Nat) (v : Value) (w w' : World) (h : laV ao cap l S A P s a p d v w) (hb : Below w.heap.size w w') : laV ao cap l S A P s a p d v w' := by
 unfold laV at h ⊢
 split <;> simp only [] at h <;> first | exact h | exact h.later hb
set_option linter.unusedVariables false in
def lbV (ao : Option Addr) (cap : Nat) (l : List Sit) (s : Sm) (a : Acn) (n : Nat) (Q : Sta) (E : Int) (d : Nat) (v : Value) (w : World) : Prop :=
 match d with
 | 20 => v = .slice ao l.length cap
 | 21 => RDk l v w
 | 22 => v = smv s
 | 23 => RSm s.st v w
 | 24 => v = .agg #[.int .i64 a.kind, .int .i64 a.pl.1, .int .i64 a.pl.2.1, .int .i64 a.pl.2.2, .string a.label, .int .i64 a.vol, .int .i64 a.value, .int .i64 a.time]
 | 25 => RAp n Q E v w
 | 19 => RAp n Q E v w
 | 26 => RAq n Q v w
 | 27 => v = .int .i64 E
 | 10 => AL n v w
 | _ => True
set_option linter.unusedVariables false in
theorem lbV_mono (ao : Option Addr) (cap : Nat) (l : List Sit) (s : Sm) (a : Acn) (n : Nat) (Q : Sta) (E : Int) (d : Nat) (v : Value) (w w' : World) (h : lbV ao cap l s a n Q E d v w) (hb : Below w.heap.size w w') : lbV ao cap l s a n Q E d v w' := by
 unfold lbV at h ⊢
 split <;> simp only [] at h <;> first | exact h | exact h.later hb
set_option linter.unusedVariables false in
def lcV (ao : Option Addr) (cap : Nat) (l : List Sit) (S P : Nat) (s : Sm) (p : Plc) (mb : Bool) (ps : List F.Pc) (d : Nat) (v : Value) (w : World) : Prop :=
 match d with
 | 28 => v = .bool mb
 | 29 => v = .slice ao l.length cap
 | 30 => v = smv s
 | 31 => v = .bool mb
 | 32 => v = .bool false
 | 33 => v = .bool false
 | 34 => v = smv s
 | 35 => RSm s.st v w
 | 36 => v = plv p
 | 37 => RFl ps v w
 | 38 => v = smv s
 | 39 => v = plv p
 | 40 => RFl ps v w
 | 41 => v = .bool true
 | 42 => v = .bool false
 | 43 => v = .bool false
 | _ => True
set_option linter.unusedVariables false in
theorem lcV_mono (ao : Option Addr) (cap : Nat) (l : List Sit) (S P : Nat) (s : Sm) (p : Plc) (mb : Bool) (ps : List F.Pc) (d : Nat) (v : Value) (w w' : World) (h : lcV ao cap l S P s p mb ps d v w) (hb : Below w.heap.size w w') : lcV ao cap l S P s p mb ps d v w' := by
 unfold lcV at h ⊢
 split <;> simp only [] at h <;> first | exact h | exact h.later hb
theorem wellF_size {w : World} {s : Sm} (h : SmIn w s) (p : Plc) : ∀ q ∈ wellF s.st.wells p, q.1.size ≤ maxLen := by
 rcases wellF_cases s.st.wells p with ⟨_, e⟩ | ⟨f, hf, e⟩
 ·rw [e]; intro q hq; cases hq
 ·rw [e]
  obtain ⟨x, hx, e2⟩ := List.mem_map.1 hf
  have e3 : x.2.2.2 = f := (Prod.mk.injEq ..).mp e2 |>.2
  rw [← e3]
  exact (whs_fl h.wells hx).1
theorem wellF_len {s : Sm} (h : SmB s) (p : Plc) : (wellF s.st.wells p).length ≤ 1000000000 := by
 rcases wellF_cases s.st.wells p with ⟨_, e⟩ | ⟨f, hf, e⟩
 ·rw [e]; simp
 ·rw [e]
  obtain ⟨x, hx, e2⟩ := List.mem_map.1 hf
  have e3 : x.2.2.2 = f := (Prod.mk.injEq ..).mp e2 |>.2
  rw [← e3]
  exact h.fl x hx
theorem may_apply {l : List Sit} {s : Sta} {a : Acn} (hd : dchk l = 0) (h : May l s) (hy : mayS l s = true) : May l (applyR l s a).1 := by
 unfold applyR
 rw [if_pos hy]
 split
 ·rename_i h0
  exact (left_do hd h h0).may
 ·exact may_sta0 l
theorem may_sm {l : List Sit} {t : Sm} (hd : dchk l = 0) (h : May l t.st) : t.wl.length ≤ 4608 ∧ (∀ x ∈ t.wl, x.2.2.2.length ≤ 100) ∧ t.held.length ≤ 100 ∧ t.touched.length ≤ 100 := by
 refine ⟨?_, fun x hx => ?_, (may_lens h).1, (may_lens h).2.1⟩
 ·have := wells_few hd h
  rw [show t.st.wells = whp t.wl from rfl, whp_length] at this
  exact this
 ·have := (h.wells (x.1, x.2.2.2) (List.mem_map.2 ⟨x, hx, rfl⟩)).2.2
  exact (F.fref_in (mayHold_iff.1 this).1).1
set_option maxHeartbeats 12800000 in
set_option maxRecDepth 100000 in
theorem meanApplies_any (ao : Option Addr) (cap : Nat) (l : List Sit) (s : Sm) (a : Acn) (p : Plc) (w : World) (hD : Dk w ao cap l) (hDn : ao = none → cap = 0) (hln : l.length ≤ 1000000000) (hS : SmIn w s) (hN : SmN s) (hB : SmB s) (hlab : a.label.size ≤ maxLen) (hkd : (Lit.int .i64 a.kind).wf = true) :
  Calls Tryz.prog 3 #[.slice ao l.length cap, smv s, av a, plv p] w fun e w' => e = .returned (.bool true) ∧ Below w.heap.size w w' := by
 obtain ⟨w0, hw0⟩ : ∃ w0, w0 = ((w.alloc (smo s)).alloc (aobj a)).alloc (pobj p) := ⟨_, rfl⟩
 have b1 : Below w.heap.size w (w.alloc (smo s)) := (brf).alloc (Nat.le_refl _) _
 have b2 : Below (w.alloc (smo s)).heap.size (w.alloc (smo s)) ((w.alloc (smo s)).alloc (aobj a)) := (brf).alloc (Nat.le_refl _) _
 have b3 : Below ((w.alloc (smo s)).alloc (aobj a)).heap.size ((w.alloc (smo s)).alloc (aobj a)) w0 := by rw [hw0]; exact (brf).alloc (Nat.le_refl _) _
 have KS : Hid (Bk w.heap.size (sml s) w0) := ((Bk.new w (sml s) 27 w.heap.size rfl).later b2).later b3
 have KA : Hid (Bk (w.heap.size + 1) (acl a) w0) := (Bk.new _ (acl a) 33 (w.heap.size + 1) (by simp)).later b3
 have KP : Hid (Bk (w.heap.size + 2) (pcl p) w0) := by show Bk _ _ _; rw [hw0]; exact Bk.new _ (pcl p) 31 (w.heap.size + 2) (by simp)
 have HB0 : Hid (Below w.heap.size w w0) := (b1.trans (b2.mono (by simp))).trans (b3.mono (by simp; omega))
 have HW0 : Hid (w0 = _) := hw0
 have HDK : Hid (Dk w0 ao cap l) := hD.next HB0.out
 have HSI : Hid (SmIn w0 s) := hS.next HB0.out
 have HSN : Hid (SmN s) := hN
 have HSB : Hid (SmB s) := hB
 have HLB : Hid (a.label.size ≤ maxLen) := hlab
 have HKD : Hid ((Lit.int .i64 a.kind).wf = true) := hkd
 have HLL : Hid (l.length ≤ 1000000000) := hln
 have HSE : Hid (∀ W, Below w0.heap.size w0 W → Calls Tryz.prog 8 #[.slice ao l.length cap] W fun e w' => ∃ v, e = .returned v ∧ RDk l v w' ∧ Below W.heap.size W w') := fun W hW => (seats_any ao cap l W (HDK.out.next hW) hDn hln).mono fun e w' ⟨ao', cap', he, hd, hb⟩ => ⟨_, he, ⟨ao', cap', rfl, hd⟩, hb⟩
 have HSO : Hid (∀ W, Below w0.heap.size w0 W → Calls Tryz.prog 9 #[smv s] W fun e w' => ∃ v, e = .returned v ∧ RSm s.st v w' ∧ Below W.heap.size W w') := fun W hW => (stateOf_any s W (HSI.out.next hW) hN hB.wells hB.fl hB.held hB.touched).mono fun e w' ⟨t, he, hst, hin, _, hn, hb⟩ => ⟨_, he, ⟨t, rfl, hst, hin, hn⟩, hb⟩
 have HMY : Hid (∀ W (t : Sm) ao' cap', Dk W ao' cap' l → SmIn W t → t.st = s.st → Calls Tryz.prog 7 #[.slice ao' l.length cap', smv t] W fun e w' => e = .returned (.bool (mayS l s.st)) ∧ Below W.heap.size W w') := fun W t ao' cap' hd hi hst => by
  have hb := smB_of hst HSB.out
  have := mayF_any ao' cap' l t W hd (by omega) hi ⟨by have := hb.wells; omega, by have := hb.touched; omega⟩
  rw [hst] at this
  exact this
 clear hD hDn hS hN hB hlab hkd hw0 b1 b2 b3
 go_enter Tryz.func3, Tryz.ntmps3
 go_wp2_with fail
 rename_i KK hkk
 have HKK := (show Hid _ from hkk)
 clear hkk
 rw [← HW0.out]
 refine region_inv [zf,zf,zf,zf,zf,zf,zf,zf,zf,zt,zf,zf,zf,zf,zt,zt,zt,zt,zt,zf,zf,zf,zf,zf,zf,zf,zf,zf,zf,zf,zf,zf,zf,zf,zf,zf,zf,zf,zf,zf,zf,zf,zf,zf,zf,zf,zf,zf,zf,zf,zf,zf,zf,zf,zf,zf,zf,zf,zf,zf,zf,zf,zf,zf,zf,zf,zf]
  [(14, [], none), (15, [14], none), (16, [], none), (17, [16], none), (18, [15, 17], none), (9, [18], none)]
  (laV ao cap l w.heap.size (w.heap.size + 1) (w.heap.size + 2) s a p) (by kernel_rfl) (by kernel_rfl) (laV_mono ao cap l w.heap.size (w.heap.size + 1) (w.heap.size + 2) s a p) ?_ ?_
 ·refine ⟨?_, ?_, ?_, ?_, ?_, ?_, trivial⟩
  ·intro f wA hb _ K hK
   simp only [over, overL, Nat.reduceAdd]
   go_simp
   exact hK _ _ ⟨_, rfl, by simp only [over, overL, Nat.reduceAdd]; rfl, brf⟩
  ·rintro f wA hb ⟨(h14 : f 14 = _), _⟩ K hK
   simp only [over, overL, Nat.reduceAdd, h14]
   go_simp
   refine ((HSE.out wA hb).mono) ?_
   rintro e w2 ⟨x, rfl, hx, hb2⟩
   exact hK _ _ ⟨_, hx, by simp only [over, overL, Nat.reduceAdd, h14]; rfl, hb2⟩
  ·intro f wA hb _ K hK
   obtain ⟨q0, q1, q2, q3, q4, q5, q6⟩ := (KS.out.later hb).c7
   simp only [over, overL, Nat.reduceAdd]
   go_simp
   exact hK _ _ ⟨_, rfl, by simp only [over, overL, Nat.reduceAdd]; rfl, brf⟩
  ·rintro f wA hb ⟨(h16 : f 16 = _), _⟩ K hK
   simp only [over, overL, Nat.reduceAdd, h16]
   go_simp
   refine ((HSO.out wA hb).mono) ?_
   rintro e w2 ⟨x, rfl, hx, hb2⟩
   exact hK _ _ ⟨_, hx, by simp only [over, overL, Nat.reduceAdd, h16]; rfl, hb2⟩
  ·intro f wA hb ⟨h15, h17, _⟩ K hK
   obtain ⟨ao1, cap1, h15, hd1⟩ := h15
   obtain ⟨t1, h17, hst1, hin1, hnn1⟩ := h17
   simp only [over, overL, Nat.reduceAdd, h15, h17]
   go_simp
   refine ((HMY.out wA t1 ao1 cap1 hd1 hin1 hst1).mono) ?_
   rintro e w2 ⟨rfl, hb2⟩
   exact hK _ _ ⟨_, rfl, by simp only [over, overL, Nat.reduceAdd, h15, h17]; rfl, hb2⟩
  ·rintro f wA hb ⟨(h18 : f 18 = _), _⟩ K hK
   simp only [over, overL, Nat.reduceAdd, h18]
   go_simp
   exact hK _ _ ⟨_, rfl, by simp only [over, overL, Nat.reduceAdd, h18]; rfl, brf⟩
 intro f1 w1 hb hv
 have h9 : f1 9 = .bool (mayS l s.st) := hv.2.2.2.2.2.1
 have HB1 : Hid (Below w0.heap.size w0 w1) := hb
 clear hb hv
 simp only [over, overL, Nat.reduceAdd, h9, arr_mk]
 clear h9
 refine HKK.out _ _ ?_
 clear HKK
 have KS1 : Hid (Bk w.heap.size (sml s) w1) := KS.out.later HB1.out
 have KA1 : Hid (Bk (w.heap.size + 1) (acl a) w1) := KA.out.later HB1.out
 have KP1 : Hid (Bk (w.heap.size + 2) (pcl p) w1) := KP.out.later HB1.out
 obtain ⟨⟨Q, E⟩, hqe⟩ : ∃ x, applyR l s.st a = x := ⟨_, rfl⟩
 have HQE : Hid (applyR l s.st a = (Q, E)) := hqe
 have HAP : Hid (∀ W (t : Sm) ao' cap', Below w1.heap.size w1 W → Dk W ao' cap' l → SmIn W t → t.st = s.st → Calls Tryz.prog 10 #[.slice ao' l.length cap', smv t, av a] W fun e w' => ∃ v, e = .returned v ∧ RAp w1.heap.size Q E v w' ∧ Below W.heap.size W w') := fun W t ao' cap' hW hd hi hst => by
  have hb := smB_of hst HSB.out
  refine (apply_any ao' cap' l t a W hd (by have := HLL.out; omega) hi ⟨by have := hb.wells; omega, by have := hb.touched; omega⟩ HLB.out HKD.out).mono ?_
  rw [hst, hqe]
  rintro e w' ⟨t', rfl, h1, h2, h3, h4⟩
  exact ⟨_, rfl, ⟨t', rfl, h1, h2, h3.less hW.size⟩, h4⟩
 have HSE1 : Hid (∀ W, Below w1.heap.size w1 W → _) := fun W hW => HSE.out W (below_on HB1.out hW)
 have HSO1 : Hid (∀ W, Below w1.heap.size w1 W → _) := fun W hW => HSO.out W (below_on HB1.out hW)
 clear hqe HSE
 go_upto_region 2 with fail
 go_cut [10, 11] from 14 to 66 (fun v10 v11 wx => ∃ (b : Nat) (t : Sm), v10 = ptr b ∧ v11 = .int .i64 E ∧ t.st = Q ∧ SmIn wx t ∧ Bk b (sml t) wx ∧ Below w1.heap.size w1 wx)
 case first =>
  have KS := KS1
  have KA := KA1
  have HSE := HSE1
  have HSO := HSO1
  go_wp2_with fail
  rename_i KK hkk
  have HKK := (show Hid _ from hkk)
  clear hkk
  refine region_seqL 10 8 [zf,zf,zf,zf,zf,zf,zf,zf,zf,zf,zt,zf,zf,zf,zf,zf,zf,zf,zf,zt,zt,zt,zt,zt,zt,zt,zt,zt,zf,zf,zf,zf,zf,zf,zf,zf,zf,zf,zf,zf,zf,zf,zf,zf,zf,zf,zf,zf,zf,zf,zf,zf,zf,zf,zf,zf,zf,zf,zf,zf,zf,zf,zf,zf,zf,zf,zf]
   [(20, [], none), (21, [20], none), (22, [], none), (23, [22], none), (24, [], none), (25, [21, 23, 24], none), (19, [25], none), (26, [19], none), (27, [19], none), (10, [], none)]
   (lbV ao cap l s a w1.heap.size Q E) (by kernel_rfl) (by kernel_rfl) (by kernel_rfl) (by kernel_rfl) (by kernel_rfl) (by decide) (by decide) (lbV_mono ao cap l s a w1.heap.size Q E) ?_ ?_ ?_
  ·refine ⟨?_, ?_, ?_, ?_, ?_, ?_, ?_, ?_, ?_, ?_, trivial⟩
   ·intro f wA hb _ K hK
    simp only [over, overL, Nat.reduceAdd]
    go_simp
    exact hK _ _ ⟨_, rfl, by simp only [over, overL, Nat.reduceAdd]; rfl, brf⟩
   ·rintro f wA hb ⟨(h20 : f 20 = _), _⟩ K hK
    simp only [over, overL, Nat.reduceAdd, h20]
    go_simp
    refine ((HSE.out wA hb).mono) ?_
    rintro e w2 ⟨x, rfl, hx, hb2⟩
    exact hK _ _ ⟨_, hx, by simp only [over, overL, Nat.reduceAdd, h20]; rfl, hb2⟩
   ·intro f wA hb _ K hK
    obtain ⟨q0, q1, q2, q3, q4, q5, q6⟩ := (KS.out.later hb).c7
    simp only [over, overL, Nat.reduceAdd]
    go_simp
    exact hK _ _ ⟨_, rfl, by simp only [over, overL, Nat.reduceAdd]; rfl, brf⟩
   ·rintro f wA hb ⟨(h22 : f 22 = _), _⟩ K hK
    simp only [over, overL, Nat.reduceAdd, h22]
    go_simp
    refine ((HSO.out wA hb).mono) ?_
    rintro e w2 ⟨x, rfl, hx, hb2⟩
    exact hK _ _ ⟨_, hx, by simp only [over, overL, Nat.reduceAdd, h22]; rfl, hb2⟩
   ·intro f wA hb _ K hK
    obtain ⟨q0, q1, q2, q3, q4, q5, q6, q7⟩ := (KA.out.later hb).c8
    simp only [over, overL, Nat.reduceAdd]
    go_simp
    exact hK _ _ ⟨_, rfl, by simp only [over, overL, Nat.reduceAdd]; rfl, brf⟩
   ·rintro f wA hb ⟨h21, h23, (h24 : f 24 = _), _⟩ K hK
    obtain ⟨ao1, cap1, h21, hd1⟩ := h21
    obtain ⟨t1, h23, hst1, hin1, hnn1⟩ := h23
    simp only [over, overL, Nat.reduceAdd, h24, h21, h23]
    go_simp
    refine ((HAP.out wA t1 ao1 cap1 hb hd1 hin1 hst1).mono) ?_
    rintro e w2 ⟨x, rfl, hx, hb2⟩
    exact hK _ _ ⟨_, hx, by simp only [over, overL, Nat.reduceAdd, h24, h21, h23]; rfl, hb2⟩
   ·intro f wA hb ⟨h25, _⟩ K hK
    simp only [over, overL, Nat.reduceAdd]
    go_simp
    exact hK _ _ ⟨_, h25, by simp only [over, overL, Nat.reduceAdd]; rfl, brf⟩
   ·intro f wA hb ⟨h19, _⟩ K hK
    obtain ⟨tt, h19, hx⟩ := h19
    simp only [over, overL, Nat.reduceAdd, h19]
    go_simp
    exact hK _ _ ⟨_, ⟨tt, rfl, hx⟩, by simp only [over, overL, Nat.reduceAdd, h19]; rfl, brf⟩
   ·intro f wA hb ⟨h19, _⟩ K hK
    obtain ⟨tt, h19, hx⟩ := h19
    simp only [over, overL, Nat.reduceAdd, h19]
    go_simp
    exact hK _ _ ⟨_, rfl, by simp only [over, overL, Nat.reduceAdd, h19]; rfl, brf⟩
   ·intro f wA hb _ K hK
    simp only [over, overL, Nat.reduceAdd]
    go_simp
    exact hK _ _ ⟨_, AL.new hb.size, by simp only [over, overL, Nat.reduceAdd]; rfl, (brf).alloc (Nat.le_refl _) _⟩
  ·intro f w6 hb hv
   obtain ⟨t', hx0, hst', hin', hhi'⟩ := (show RAq w1.heap.size Q (f 26) w6 from hv.2.2.2.2.2.2.2.1)
   obtain ⟨b, hal, hnb, hbl, hbz, hkb⟩ := (show AL w1.heap.size (f 10) w6 from hv.2.2.2.2.2.2.2.2.2.1)
   have hx1 : f 27 = .int .i64 E := hv.2.2.2.2.2.2.2.2.1
   have HST : Hid (t'.st = Q) := hst'
   have HIN7 : Hid (SmIn (put7 w6 b t') t') := hin'.laid hbz (but_put7 b w6 t')
   have KB7 : Hid (Bk b (sml t') (put7 w6 b t')) := bk_put7 hkb t'
   have HB7 : Hid (Below w1.heap.size w1 (put7 w6 b t')) := blw_put7 hb hnb t'
   obtain ⟨q0, q1, q2, q3, q4, q5, q6⟩ := (hkb).c7
   obtain ⟨qf0, qf1, qf2, qf3, qf4, qf5, qf6⟩ := (hkb).f7
   clear hv hb hbz hst' hin' hhi'
   simp only [List.drop, over, overL, Nat.reduceAdd, hx0, hal, hx1]
   go_wp2
   refine HKK.out _ _ ?_
   go_meet
   exact ⟨b, t', rfl, rfl, HST.out, HIN7.out, KB7.out, HB7.out⟩
  ·intro f w6 ok ol hok hol hb hv
   cases hok
   cases hol
   obtain ⟨t', hx0, hst', hin', hhi'⟩ := (show RAq w1.heap.size Q (f 26) w6 from hv.2.2.2.2.2.2.2.1 (by decide))
   obtain ⟨b, hal, hnb, hbl, hbz, hkb⟩ := (show AL w1.heap.size (f 10) w6 from hv.2.2.2.2.2.2.2.2.2.1 (by decide))
   obtain ⟨t2, hmv, _⟩ := (show RAp w1.heap.size Q E (f 19) w6 from hv.2.2.2.2.2.2.1 (by decide))
   have HST : Hid (t'.st = Q) := hst'
   have HIN7 : Hid (SmIn (put7 w6 b t') t') := hin'.laid hbz (but_put7 b w6 t')
   have KB7 : Hid (Bk b (sml t') (put7 w6 b t')) := bk_put7 hkb t'
   have HB7 : Hid (Below w1.heap.size w1 (put7 w6 b t')) := blw_put7 hb hnb t'
   obtain ⟨q0, q1, q2, q3, q4, q5, q6⟩ := (hkb).c7
   obtain ⟨qf0, qf1, qf2, qf3, qf4, qf5, qf6⟩ := (hkb).f7
   clear hv hb hbz hst' hin' hhi'
   simp only [List.drop, over, overL, Nat.reduceAdd, hx0, hal, hmv]
   go_wp2
   refine HKK.out _ _ ?_
   go_meet
   exact ⟨b, t', rfl, rfl, HST.out, HIN7.out, KB7.out, HB7.out⟩
 case rest =>
  obtain ⟨b, t, hc1, hc2, hst, hin, hkb, hbc⟩ := hcut
  subst hc1 hc2
  obtain ⟨w2, hw2⟩ : ∃ x, x = wc := ⟨_, rfl⟩
  subst hw2
  have HST : Hid (t.st = Q) := hst
  have HIN2 : Hid (SmIn w2 t) := hin
  have KB2 : Hid (Bk b (sml t) w2) := hkb
  have HB2 : Hid (Below w0.heap.size w0 w2) := below_on HB1.out hbc
  have KS : Hid (Bk w.heap.size (sml s) w2) := KS1.out.later hbc
  have KA2 : Hid (Bk (w.heap.size + 1) (acl a) w2) := KA1.out.later hbc
  have KP : Hid (Bk (w.heap.size + 2) (pcl p) w2) := KP1.out.later hbc
  have HSM0 : Hid (∀ W, Below w2.heap.size w2 W → Calls Tryz.prog 11 #[.slice ao l.length cap, smv s] W fun e w' => e = .returned (.bool (mayS l s.st)) ∧ Below W.heap.size W w') := fun W hW => stateMay_any ao cap l s W (HDK.out.next (below_on HB2.out hW)) (by have := HLL.out; omega) (HSI.out.next (below_on HB2.out hW)) HSB.out
  have HSO2 : Hid (∀ W, Below w2.heap.size w2 W → _) := fun W hW => HSO.out W (below_on HB2.out hW)
  obtain ⟨ps, hps⟩ : ∃ ps, wellF s.st.wells p = ps := ⟨_, rfl⟩
  have HPZ : Hid (∀ q ∈ ps, q.1.size ≤ maxLen) := by show ∀ _, _; rw [← hps]; exact wellF_size HSI.out p
  have HPL : Hid (ps.length ≤ 1000000000) := by show _ ≤ _; rw [← hps]; exact wellF_len HSB.out p
  have HWE : Hid (∀ W (t1 : Sm), SmIn W t1 → t1.st = s.st → Calls Tryz.prog 13 #[smv t1, plv p] W fun e w' => ∃ v, e = .returned v ∧ RFl ps v w' ∧ Below W.heap.size W w') := fun W t1 hi hst1 => by
   have hb := smB_of hst1 HSB.out
   refine (well_any t1 p W hi hb.wells hb.fl).mono ?_
   rw [hst1, hps]
   rintro e w' ⟨v, rfl, ho, hb'⟩
   obtain ⟨ao', cap', e', hf⟩ := fl_of ho HPZ.out
   exact ⟨v, rfl, ⟨ao', cap', e', hf⟩, hb'⟩
  have HWO : Hid (∀ W, Below w2.heap.size w2 W → Calls Tryz.prog 14 #[smv s, plv p] W fun e w' => ∃ v, e = .returned v ∧ RFl ps v w' ∧ Below W.heap.size W w') := fun W hW => by
   refine (wellOf_any s p W (HSI.out.next (below_on HB2.out hW)) HSN.out HSB.out.wells HSB.out.fl).mono ?_
   rw [hps]
   rintro e w' ⟨v, rfl, ho, hb'⟩
   obtain ⟨ao', cap', e', hf⟩ := fl_of ho HPZ.out
   exact ⟨v, rfl, ⟨ao', cap', e', hf⟩, hb'⟩
  have HSF : Hid (∀ W ao1 cap1 ao2 cap2, F.Fl W ao1 ps → F.Fl W ao2 ps → Calls Tryz.prog 12 #[.slice ao1 ps.length cap1, .slice ao2 ps.length cap2] W fun e w' => e = .returned (.bool true) ∧ Below W.heap.size W w') := fun W ao1 cap1 ao2 cap2 h1 h2 => by
   have := refSame_any ao1 ao2 cap1 cap2 ps ps W h1 h2 (by have := HPL.out; omega)
   rw [decide_eq_true rfl] at this
   refine this.mono ?_
   rintro e w' ⟨rfl, n, rfl⟩
   exact ⟨rfl, blw_drewN (brf) n⟩
  obtain ⟨mb, hmb⟩ : ∃ mb, mayS l s.st = mb := ⟨_, rfl⟩
  have HMB : Hid (mayS l s.st = mb) := hmb
  rw [hmb] at HSM0
  rw [hmb]
  have HSM := HSM0
  have HSO := HSO2
  have hbb : (mb != mb) = false := by cases mb <;> rfl
  clear hst hin hkb hbc hps hmb HSM0 HSO1 HSO2 HSE1 HAP HMY
  go_wp2_with fail
  rename_i KK hkk
  have HKK := (show Hid _ from hkk)
  clear hkk
  refine region_inv [zf,zf,zf,zf,zf,zf,zf,zf,zf,zf,zf,zf,zf,zf,zf,zf,zf,zf,zf,zf,zf,zf,zf,zf,zf,zf,zf,zf,zt,zt,zt,zt,zt,zt,zt,zt,zt,zt,zt,zt,zt,zt,zt,zt,zf,zf,zf,zf,zf,zf,zf,zf,zf,zf,zf,zf,zf,zf,zf,zf,zf,zf,zf,zf,zf,zf,zf]
   [(28, [], none), (29, [], none), (30, [], none), (31, [29, 30], none), (32, [28, 31], none), (33, [32], none), (34, [33], some (33, false)), (35, [33, 34], some (33, false)), (36, [33], some (33, false)), (37, [33, 35, 36], some (33, false)), (38, [33], some (33, false)), (39, [33], some (33, false)), (40, [33, 38, 39], some (33, false)), (41, [33, 37, 40], some (33, false)), (42, [33, 41], some (33, false)), (43, [33, 42], none)]
   (lcV ao cap l w.heap.size (w.heap.size + 2) s p mb ps) (by kernel_rfl) (by kernel_rfl) (lcV_mono ao cap l w.heap.size (w.heap.size + 2) s p mb ps) ?_ ?_
  ·refine ⟨?_, ?_, ?_, ?_, ?_, ?_, ?_, ?_, ?_, ?_, ?_, ?_, ?_, ?_, ?_, ?_, trivial⟩
   ·intro f wA hb _ K hK
    simp only [over, overL, Nat.reduceAdd]
    go_simp
    exact hK _ _ ⟨_, rfl, by simp only [over, overL, Nat.reduceAdd]; rfl, brf⟩
   ·intro f wA hb _ K hK
    simp only [over, overL, Nat.reduceAdd]
    go_simp
    exact hK _ _ ⟨_, rfl, by simp only [over, overL, Nat.reduceAdd]; rfl, brf⟩
   ·intro f wA hb _ K hK
    obtain ⟨q0, q1, q2, q3, q4, q5, q6⟩ := (KS.out.later hb).c7
    simp only [over, overL, Nat.reduceAdd]
    go_simp
    exact hK _ _ ⟨_, rfl, by simp only [over, overL, Nat.reduceAdd]; rfl, brf⟩
   ·rintro f wA hb ⟨(h29 : f 29 = _), (h30 : f 30 = _), _⟩ K hK
    simp only [over, overL, Nat.reduceAdd, h29, h30]
    go_simp
    refine ((HSM.out wA hb).mono) ?_
    rintro e w2 ⟨rfl, hb2⟩
    exact hK _ _ ⟨_, rfl, by simp only [over, overL, Nat.reduceAdd, h29, h30]; rfl, hb2⟩
   ·rintro f wA hb ⟨(h28 : f 28 = _), (h31 : f 31 = _), _⟩ K hK
    simp only [over, overL, Nat.reduceAdd, h28, h31]
    go_simp
    exact hK _ _ ⟨_, rfl, by simp only [over, overL, Nat.reduceAdd, h28, h31]; rfl, brf⟩
   ·rintro f wA hb ⟨(h32 : f 32 = _), _⟩ K hK
    simp only [over, overL, Nat.reduceAdd, h32]
    go_simp
    exact hK _ _ ⟨_, rfl, by simp only [over, overL, Nat.reduceAdd, h32]; rfl, brf⟩
   ·rintro f wA hb ⟨(h33 : f 33 = _), _⟩
    refine ⟨fun _ => ?_, fun hg => absurd h33 hg⟩
    intro K hK
    obtain ⟨q0, q1, q2, q3, q4, q5, q6⟩ := (KS.out.later hb).c7
    simp only [over, overL, Nat.reduceAdd, h33]
    go_simp
    exact hK _ _ ⟨_, rfl, by simp only [over, overL, Nat.reduceAdd, h33]; rfl, brf⟩
   ·rintro f wA hb ⟨(h33 : f 33 = _), (h34 : f 34 = _), _⟩
    refine ⟨fun _ => ?_, fun hg => absurd h33 hg⟩
    intro K hK
    simp only [over, overL, Nat.reduceAdd, h33, h34]
    go_simp
    refine ((HSO.out wA hb).mono) ?_
    rintro e w2 ⟨x, rfl, hx, hb2⟩
    exact hK _ _ ⟨_, hx, by simp only [over, overL, Nat.reduceAdd, h33, h34]; rfl, hb2⟩
   ·rintro f wA hb ⟨(h33 : f 33 = _), _⟩
    refine ⟨fun _ => ?_, fun hg => absurd h33 hg⟩
    intro K hK
    have q0 := (KP.out.later hb).c 0 rfl
    have q1 := (KP.out.later hb).c 1 rfl
    have q2 := (KP.out.later hb).c 2 rfl
    simp only [over, overL, Nat.reduceAdd, h33]
    go_simp
    exact hK _ _ ⟨_, rfl, by simp only [over, overL, Nat.reduceAdd, h33]; rfl, brf⟩
   ·rintro f wA hb ⟨(h33 : f 33 = _), h35, (h36 : f 36 = _), _⟩
    refine ⟨fun _ => ?_, fun hg => absurd h33 hg⟩
    intro K hK
    obtain ⟨t1, h35, hst1, hin1, hnn1⟩ := h35
    simp only [over, overL, Nat.reduceAdd, h33, h36, h35]
    go_simp
    refine ((HWE.out wA t1 hin1 hst1).mono) ?_
    rintro e w2 ⟨x, rfl, hx, hb2⟩
    exact hK _ _ ⟨_, hx, by simp only [over, overL, Nat.reduceAdd, h33, h36, h35]; rfl, hb2⟩
   ·rintro f wA hb ⟨(h33 : f 33 = _), _⟩
    refine ⟨fun _ => ?_, fun hg => absurd h33 hg⟩
    intro K hK
    obtain ⟨q0, q1, q2, q3, q4, q5, q6⟩ := (KS.out.later hb).c7
    simp only [over, overL, Nat.reduceAdd, h33]
    go_simp
    exact hK _ _ ⟨_, rfl, by simp only [over, overL, Nat.reduceAdd, h33]; rfl, brf⟩
   ·rintro f wA hb ⟨(h33 : f 33 = _), _⟩
    refine ⟨fun _ => ?_, fun hg => absurd h33 hg⟩
    intro K hK
    have q0 := (KP.out.later hb).c 0 rfl
    have q1 := (KP.out.later hb).c 1 rfl
    have q2 := (KP.out.later hb).c 2 rfl
    simp only [over, overL, Nat.reduceAdd, h33]
    go_simp
    exact hK _ _ ⟨_, rfl, by simp only [over, overL, Nat.reduceAdd, h33]; rfl, brf⟩
   ·rintro f wA hb ⟨(h33 : f 33 = _), (h38 : f 38 = _), (h39 : f 39 = _), _⟩
    refine ⟨fun _ => ?_, fun hg => absurd h33 hg⟩
    intro K hK
    simp only [over, overL, Nat.reduceAdd, h33, h38, h39]
    go_simp
    refine ((HWO.out wA hb).mono) ?_
    rintro e w2 ⟨x, rfl, hx, hb2⟩
    exact hK _ _ ⟨_, hx, by simp only [over, overL, Nat.reduceAdd, h33, h38, h39]; rfl, hb2⟩
   ·rintro f wA hb ⟨(h33 : f 33 = _), h37, h40, _⟩
    refine ⟨fun _ => ?_, fun hg => absurd h33 hg⟩
    intro K hK
    obtain ⟨ao1, cap1, h37, hf1⟩ := h37
    obtain ⟨ao2, cap2, h40, hf2⟩ := h40
    simp only [over, overL, Nat.reduceAdd, h33, h37, h40]
    go_simp
    refine ((HSF.out wA ao1 cap1 ao2 cap2 hf1 hf2).mono) ?_
    rintro e w2 ⟨rfl, hb2⟩
    exact hK _ _ ⟨_, rfl, by simp only [over, overL, Nat.reduceAdd, h33, h37, h40]; rfl, hb2⟩
   ·rintro f wA hb ⟨(h33 : f 33 = _), (h41 : f 41 = _), _⟩
    refine ⟨fun _ => ?_, fun hg => absurd h33 hg⟩
    intro K hK
    simp only [over, overL, Nat.reduceAdd, h33, h41]
    go_simp
    exact hK _ _ ⟨_, rfl, by simp only [over, overL, Nat.reduceAdd, h33, h41]; rfl, brf⟩
   ·rintro f wA hb ⟨(h33 : f 33 = _), (h42 : f 42 = _), _⟩ K hK
    simp only [over, overL, Nat.reduceAdd, h33, h42]
    go_simp
    exact hK _ _ ⟨_, rfl, by simp only [over, overL, Nat.reduceAdd, h33, h42]; rfl, brf⟩
  intro f3 w3 hb3 hv
  have h43 : f3 43 = .bool false := hv.2.2.2.2.2.2.2.2.2.2.2.2.2.2.2.1
  have HB3 : Hid (Below w0.heap.size w0 w3) := below_on HB2.out hb3
  have HIN3 : Hid (SmIn w3 t) := HIN2.out.next hb3
  have KB3 : Hid (Bk b (sml t) w3) := KB2.out.later hb3
  have KS3 : Hid (Bk w.heap.size (sml s) w3) := KS.out.later hb3
  have KA3 : Hid (Bk (w.heap.size + 1) (acl a) w3) := KA2.out.later hb3
  clear hv hb3
  simp only [over, overL, Nat.reduceAdd, h43, arr_mk]
  clear h43 hbb
  refine HKK.out _ _ ?_
  clear HKK KS KP KB2 KA2 HIN2 HWE HWO HSF HSM HSO
  cases mb with
  | false =>
   have HNO : Hid (Q = sta0 ∧ E = 17) := by
    have := HQE.out
    unfold applyR at this
    rw [if_neg (by rw [HMB.out]; decide)] at this
    injection this with h1 h2
    exact ⟨h1.symm, h2.symm⟩
   obtain ⟨hq0, he0⟩ := HNO.out
   subst he0
   have HT0 : Hid (t.st = sta0) := HST.out.trans hq0
   clear hq0 HNO
   obtain ⟨x0, x1, x2, x3, x4, x5, x6⟩ := (KB3.out).c7
   go_wp2_with fail
   refine (noState_any t w3 HT0.out).mono ?_
   rintro e w4 ⟨rfl, hb⟩
   have HB4 : Hid (Below w.heap.size w w4) := HB0.out.trans ((below_on HB3.out hb).mono HB0.out.size)
   clear hb x0 x1 x2 x3 x4 x5 x6
   go_wp2
   go_ret
   exact ⟨rfl, HB4.out⟩
  | true =>
   have HDC : Hid (dchk l = 0 ∧ May l s.st) := by
    have := HMB.out
    unfold mayS at this
    simp only [Bool.and_eq_true, decide_eq_true_eq] at this
    exact ⟨this.1, mayB_iff.1 this.2⟩
   have HMQ : Hid (May l Q) := by
    have := may_apply (a := a) HDC.out.1 HDC.out.2 HMB.out
    rw [HQE.out] at this
    exact this
   obtain ⟨s0, s1, s2, s3, s4, s5, s6⟩ := (KS3.out).c7
   obtain ⟨a0, a1, a2, a3, a4, a5, a6, a7⟩ := (KA3.out).c8
   go_wp2_with fail
   clear s0 s1 s2 s3 s4 s5 s6 a0 a1 a2 a3 a4 a5 a6 a7
   refine (applyAction_any ao cap l s a w3 ⟨HDK.out.next HB3.out, HDC.out.1, HDC.out.2, HMB.out, HSI.out.next HB3.out, HSN.out, HLB.out⟩).mono ?_
   rintro e w4 ⟨y, rfl, hyst, hyin, hb⟩
   rw [HQE.out] at hyst ⊢
   simp only at hyst ⊢
   obtain ⟨w5, hw5⟩ : ∃ w5, w5 = w4.alloc (smo y) := ⟨_, rfl⟩
   have b5 : Below w4.heap.size w4 w5 := by rw [hw5]; exact (brf).alloc (Nat.le_refl _) _
   have KY5 : Hid (Bk w4.heap.size (sml y) w5) := by show Bk _ _ _; rw [hw5]; exact Bk.new w4 (sml y) 27 w4.heap.size rfl
   have KB5 : Hid (Bk b (sml t) w5) := (KB3.out.later hb).later b5
   have HIN5 : Hid (SmIn w5 t) := (HIN3.out.next hb).next b5
   have HYN5 : Hid (SmIn w5 y) := hyin.next b5
   have HB5 : Hid (Below w.heap.size w w5) := HB0.out.trans ((below_on (below_on HB3.out hb) b5).mono HB0.out.size)
   have HYS : Hid (y.st = Q) := hyst
   have HSS := (show Hid _ from refState_same t y w5 HIN5.out HYN5.out (HST.out.trans hyst.symm) (may_sm HDC.out.1 (by rw [hyst]; exact HMQ.out)).1 (may_sm HDC.out.1 (by rw [hyst]; exact HMQ.out)).2.1 (may_sm HDC.out.1 (by rw [hyst]; exact HMQ.out)).2.2.1 (may_sm HDC.out.1 (by rw [hyst]; exact HMQ.out)).2.2.2)
   have HW5 : Hid (w5 = w4.alloc (smo y)) := hw5
   have hEE : (E == E) = true := by simp
   clear hyst hyin hb b5 hw5
   go_upto_region 8 with fail
   rw [← HW5.out]
   obtain ⟨x0, x1, x2, x3, x4, x5, x6⟩ := (KB5.out).c7
   obtain ⟨y0, y1, y2, y3, y4, y5, y6⟩ := (KY5.out).c7
   go_wp2_with fail
   clear x0 x1 x2 x3 x4 x5 x6 y0 y1 y2 y3 y4 y5 y6
   refine Calls.mono HSS.out ?_
   rintro e w6 ⟨rfl, hb⟩
   have HB6 : Hid (Below w.heap.size w w6) := HB5.out.trans (hb.mono HB5.out.size)
   clear hb
   go_wp2
   go_ret
   exact ⟨rfl, HB6.out⟩
end Go.Proofs.YtfadmpnpgiceeaaGreat
