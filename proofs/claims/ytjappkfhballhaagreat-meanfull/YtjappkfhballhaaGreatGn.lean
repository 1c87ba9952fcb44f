import Derived.Test.YtjappkfhballhaaGreatGm

/- fill walked. -/
namespace Go.Proofs.YtjappkfhballhaaGreat
open Go.RowKit Go.Maps
/-- A fluid that lies apart from blocks b and m, as a value. -/
def Fr (b m : Nat) (ps : List F.Pc) (v : Value) (w : World) : Prop := ∃ ao cap, v = .slice ao ps.length cap ∧ Flx b m w ao ps
theorem Fr.later {b m : Nat} {ps : List F.Pc} {v : Value} {w w1 : World} (h : Fr b m ps v w) (hb : Below w.heap.size w w1) : Fr b m ps v w1 := by
  obtain ⟨ao, cap, e, hf⟩ := h
  exact ⟨ao, cap, e, hf.next hb⟩
def TF (b m : Nat) (ps : List F.Pc) (e : Int) (v : Value) (w : World) : Prop := ∃ x, v = .tuple #[x, .int .i64 e] ∧ Fr b m ps x w
theorem TF.later {b m : Nat} {ps : List F.Pc} {e : Int} {v : Value} {w w1 : World} (h : TF b m ps e v w) (hb : Below w.heap.size w w1) : TF b m ps e v w1 := by
  obtain ⟨x, h1, h2⟩ := h
  exact ⟨x, h1, h2.later hb⟩
def TG3 (b m : Nat) (ps qs : List F.Pc) (e : Int) (v : Value) (w : World) : Prop := ∃ x y, v = .tuple #[x, y, .int .i64 e] ∧ Fr b m ps x w ∧ Fr b m qs y w
theorem TG3.later {b m : Nat} {ps qs : List F.Pc} {e : Int} {v : Value} {w w1 : World} (h : TG3 b m ps qs e v w) (hb : Below w.heap.size w w1) : TG3 b m ps qs e v w1 := by
  obtain ⟨x, y, h1, h2, h3⟩ := h
  exact ⟨x, y, h1, h2.later hb, h3.later hb⟩
theorem tog_sizes (f g : List F.Pc) (m : Int) : ∀ p ∈ (togR f g m).1, p.1.size ≤ maxLen := by
  by_cases h : (togR f g m).2 = 0
  · exact F.fine_size (mayHold_iff.1 (mayHold_tog h)).1
  · have : (togR f g m).1 = [] := by
      unfold togR at h ⊢
      split at h
      · rename_i h1; rw [if_pos h1]
      · rename_i h1
        rw [if_neg h1]
        unfold F.putR at h ⊢
        repeat' split at h
        all_goals first | (exfalso; exact h rfl) | (repeat' split) <;> simp_all
    rw [this]
    intro p hp
    simp at hp
theorem draw_sizes (v : Int) (f : List F.Pc) : (∀ p ∈ (F.drawF v f).1, p.1.size ≤ maxLen) ∧ ∀ p ∈ (F.drawF v f).2.1, p.1.size ≤ maxLen := by
  by_cases h : (F.drawF v f).2.2 = 0
  · obtain ⟨h1, h2, h3, h4, h5⟩ := drawF_ok h
    obtain ⟨g1, g2⟩ := F.draw_fine h2 h1
    rw [h4, h5]
    exact ⟨F.fine_size g1, F.fine_size g2⟩
  · have : (F.drawF v f).1 = [] ∧ (F.drawF v f).2.1 = [] := by
      unfold F.drawF at h ⊢
      repeat' split at h
      all_goals first | (exfalso; exact h rfl) | (repeat' split) <;> simp_all
    rw [this.1, this.2]
    exact ⟨fun p hp => by simp at hp, fun p hp => by simp at hp⟩
theorem tog_fr (b m : Nat) (ao ao' : Option Addr) (cap cap' : Nat) (f g : List F.Pc) (mo : Int) (w : World) (h : F.Fl w ao f) (h' : F.Fl w ao' g) (hb : b < w.heap.size) (hm : m < w.heap.size) :
    Calls Tryz.prog 120 #[.slice ao f.length cap, .slice ao' g.length cap', .int .i64 mo] w fun e w' => ∃ v, e = .returned v ∧ TF b m (togR f g mo).1 (togR f g mo).2 v w' ∧ Below w.heap.size w w' := by
  refine (together_any ao ao' cap cap' f g mo w h h').mono ?_
  rintro e w' ⟨v, rfl, ho, hb'⟩
  exact ⟨_, rfl, ⟨v, rfl, flx_of ho (tog_sizes f g mo) hb hm⟩, hb'⟩
theorem draw_fr (b m : Nat) (ao : Option Addr) (cap : Nat) (ps : List F.Pc) (v : Int) (w : World) (h : F.Fl w ao ps) (hb : b < w.heap.size) (hm : m < w.heap.size) :
    Calls Tryz.prog 122 #[.slice ao ps.length cap, .int .i64 v] w fun e w' => ∃ x, e = .returned x ∧ TG3 b m (F.drawF v ps).1 (F.drawF v ps).2.1 (F.drawF v ps).2.2 x w' ∧ Below w.heap.size w w' := by
  refine (F.draw_any ao cap ps v w h).mono ?_
  rintro e w' ⟨x, y, rfl, h1, h2, hb'⟩
  exact ⟨_, rfl, ⟨x, y, rfl, flx_of h1 (draw_sizes v ps).1 hb hm, flx_of h2 (draw_sizes v ps).2 hb hm⟩, hb'⟩
theorem Bn.keptTo {wB w w1 : World} {ao : Option Addr} {cap : Nat} {l : List Sit} {b m md : Nat} {s s' : Sta} (h : Bn wB w ao cap l b m md s) {wl : List Wh} (hwl : whp wl = s.wells) (hfl : ∀ x ∈ wl, Flx b m w x.2.1 x.2.2.2) {p : Plc} {aof : Option Addr} {capf : Nat} {f : List F.Pc} (hbut : But b m w w1) (hwm : WM w1 m (setH wl p (aof, capf, f))) (hf : Flx b m w1 aof f) (hmay : May l s') (hs : s'.wells = wset s.wells p f)
    {cw : Option Addr × Nat × Nat} {aoH : Option Addr} {capH : Nat} {aoT : Option Addr} {capT : Nat} (hbk : Bk b (bcs ao cap l md m cw s' aoH capH aoT capT) w1) (hh : Flx b m w1 aoH s'.held) (ht : Txx b m w1 aoT s'.touched) : Bn wB w1 ao cap l b m md s' :=
  h.turned hbut hmay hwm (by rw [whp_setH, hwl, hs]) (fun x hx => by rcases mem_setH hx with rfl | hx; exact hf; exact (hfl x hx).but hbut) hbk hh ht
theorem flx_at {b m : Nat} {w : World} {wl : List Wh} (h : ∀ x ∈ wl, Flx b m w x.2.1 x.2.2.2) (p : Plc) : Flx b m w (fdAt wl p).1 (fdAt wl p).2.2 := by
  rcases fdAt_cases wl p with ⟨_, e⟩ | ⟨x, hx, _, e⟩
  · rw [e]
    exact ⟨⟨fun p hp => by simp at hp, .inl rfl⟩, .inl rfl⟩
  · rw [e]
    exact h x hx
theorem aim_ok {l : List Sit} {a : Acn} (h : (aimR l a).2 = 0) : (wellM l a.pl).2 = 0 := by
  unfold aimR at h
  split at h
  · assumption
  · exact h
def fiV (b B m c : Nat) (a : Acn) (mo : Int) (fw : F.Fd) (ps : List F.Pc) (e1 : Int) (d : Nat) (v : Value) (w : World) : Prop :=
  match d with
  | 31 => v = .pointer (some ⟨b, 0, none⟩)
  | 32 => v = .pointer (some ⟨b, 0, none⟩)
  | 33 => v = .pointer (some ⟨b, 4, none⟩)
  | 34 => v = .map (some m)
  | 35 => v = .pointer (some ⟨B, 1, none⟩)
  | 36 => v = .agg #[.int .i64 a.pl.1, .int .i64 a.pl.2.1, .int .i64 a.pl.2.2]
  | 37 => v = .slice fw.1 fw.2.2.length fw.2.1
  | 38 => v = .slice (some ⟨c, 0, none⟩) 1 1
  | 39 => v = .int .i64 mo
  | 40 => TF b m ps e1 v w
  | 30 => TF b m ps e1 v w
  | 41 => Fr b m ps v w
  | 42 => v = .int .i64 e1
  | 9 => Fr b m ps v w
  | 6 => v = .int .i64 e1
  | _ => True
theorem fiV_mono (b B m c : Nat) (a : Acn) (mo : Int) (fw : F.Fd) (ps : List F.Pc) (e1 : Int) (d : Nat) (v : Value) (w w' : World) (h : fiV b B m c a mo fw ps e1 d v w) (hb : Below w.heap.size w w') : fiV b B m c a mo fw ps e1 d v w' := by
  unfold fiV at h ⊢
  split <;> simp only [] at h <;> first | exact h | exact h.later hb
set_option maxHeartbeats 3200000 in
set_option maxRecDepth 100000 in
theorem fill_any (wB w : World) (ao : Option Addr) (cap : Nat) (l : List Sit) (b m md : Nat) (s : Sta) (a : Acn) (hB : Bn wB w ao cap l b m md s) (hlab : a.label.size ≤ maxLen) :
    Calls Tryz.prog 97 #[ptr b, av a] w fun e w' => e = .returned (.int .i64 (fillA l s a).2) ∧ Bn wB w' ao cap l b m md (fillA l s a).1 := by
  have HBN : Hid (Bn wB w ao cap l b m md s) := hB
  clear hB
  obtain ⟨w0, hw0⟩ : ∃ w0, w0 = w.alloc (aobj a) := ⟨_, rfl⟩
  have b0 : Below w.heap.size w w0 := by rw [hw0]; exact (Below.refl _ _).alloc (Nat.le_refl _) _
  have KA : Hid (Bk w.heap.size (acl a) w0) := by show Bk _ _ _; rw [hw0]; exact Bk.new w (acl a) 33 w.heap.size rfl
  have HB0 : Hid (Bn wB w0 ao cap l b m md s) := HBN.out.next b0
  have HW0 : Hid (w0 = w.alloc (aobj a)) := hw0
  clear hw0 b0
  obtain ⟨cw, aoH, capH, aoT, capT, K, hh, ht⟩ := HB0.out.bk
  have KB : Hid (Bk b (bcs ao cap l md m cw s aoH capH aoT capT) w0) := K
  have HH : Hid (Flx b m w0 aoH s.held) := hh
  have HT : Hid (Txx b m w0 aoT s.touched) := ht
  have hbw : b < w.heap.size := by obtain ⟨_, _, _, _, _, K', _⟩ := HBN.out.bk; exact K'.1
  have hbn : b ≠ w.heap.size := by omega
  have lt0 := KB.out.1
  clear K hh ht
  clear lt0
  have HLB : Hid (a.label.size ≤ maxLen) := hlab
  clear hlab
  go_enter Tryz.func97, Tryz.ntmps97
  go_wp2_with fail
  rw [← HW0.out]
  refine (aim_any wB w0 ao cap l b m md s a HB0.out).mono ?_
  rintro e w1 ⟨rfl, hb1⟩
  have HBB : Hid (Bn wB w1 ao cap l b m md s) := HB0.out.next hb1
  have KA1 : Hid (Bk w.heap.size (acl a) w1) := KA.out.later hb1
  have KB1 : Hid (Bk b (bcs ao cap l md m cw s aoH capH aoT capT) w1) := KB.out.later hb1
  have HH1 : Hid (Flx b m w1 aoH s.held) := HH.out.next hb1
  have HT1 : Hid (Txx b m w1 aoT s.touched) := HT.out.next hb1
  have ltA := KA1.out.1
  have ltB := KB1.out.1
  clear hb1
  have q0 := (KA1.out).c 0 rfl
  have q1 := (KA1.out).c 1 rfl
  have q2 := (KA1.out).c 2 rfl
  have q3 := (KA1.out).c 3 rfl
  have q4 := (KA1.out).c 4 rfl
  have q5 := (KA1.out).c 5 rfl
  have q6 := (KA1.out).c 6 rfl
  have q7 := (KA1.out).c 7 rfl
  obtain ⟨⟨mo, e0⟩, hM⟩ : ∃ x, aimR l a = x := ⟨_, rfl⟩
  have HA : Hid (aimR l a = (mo, e0)) := hM
  rw [hM]
  clear hM
  by_cases he : e0 = 0
  · subst he
    have HP : Hid (Wf3 a.pl) := wf_place HB0.out.hd (aim_ok (by rw [HA.out]))
    go_wp2_with fail
    have KC : Hid (Bk w1.heap.size [.string a.label, .int .i64 a.vol] (w1.alloc (.cells #[.string a.label, .int .i64 a.vol] 65))) := Bk.new w1 [.string a.label, .int .i64 a.vol] 65 w1.heap.size rfl
    have HB2 : Hid (Below w1.heap.size w1 (w1.alloc (.cells #[.string a.label, .int .i64 a.vol] 65))) := (Below.refl _ _).alloc (Nat.le_refl _) _
    have hpf : F.Fl (w1.alloc (.cells #[.string a.label, .int .i64 a.vol] 65)) (some ⟨w1.heap.size, 0, none⟩) [(a.label, a.vol)] := by
      refine ⟨fun p hp => by simp at hp; rw [hp]; exact HLB.out, .inr ⟨_, 0, rfl, KC.out.1, fun k hk => ?_⟩⟩
      have : k = 0 := by simp at hk; exact hk
      subst this
      exact ⟨KC.out.c 0 rfl, KC.out.c 1 rfl⟩
    have HPF := (show Hid _ from hpf)
    clear hpf
    refine (F.check_any (some ⟨w1.heap.size, 0, none⟩) 1 [(a.label, a.vol)] _ HPF.out).mono ?_
    rintro e w3 ⟨rfl, hb3⟩
    have hb13 : Below w1.heap.size w1 w3 := HB2.out.trans (hb3.mono HB2.out.size)
    have HB3 : Hid (Bn wB w3 ao cap l b m md s) := HBB.out.next hb13
    have KA3 : Hid (Bk w.heap.size (acl a) w3) := KA1.out.later hb13
    have KB3 : Hid (Bk b (bcs ao cap l md m cw s aoH capH aoT capT) w3) := KB1.out.later hb13
    have HH3 : Hid (Flx b m w3 aoH s.held) := HH1.out.next hb13
    have HT3 : Hid (Txx b m w3 aoT s.touched) := HT1.out.next hb13
    have HP3 : Hid (F.Fl w3 (some ⟨w1.heap.size, 0, none⟩) [(a.label, a.vol)]) := F.Fl.next HPF.out hb3
    clear HPF HB2 KC hb13 hb3 HBB KA1 KB1 HH1 HT1 q0 q1 q2 q3 q4 q5 q6 q7
    obtain ⟨e2, hcq⟩ : ∃ e2, F.fref [(a.label, a.vol)] = e2 := ⟨_, rfl⟩
    have HCK : Hid (F.fref [(a.label, a.vol)] = e2) := hcq
    rw [hcq]
    clear hcq
    by_cases hc : e2 = 0
    · subst hc
      go_wp2_with fail
      rename_i KK hkk
      have HKK := (show Hid _ from hkk)
      clear hkk
      obtain ⟨wl, hwm, hwl, hfl⟩ := HB3.out.wells
      obtain ⟨fw, hfw⟩ : ∃ x, fdAt wl a.pl = x := ⟨_, rfl⟩
      have hff := flx_at hfl a.pl
      rw [hfw] at hff
      have HFF : Hid (Flx b m w3 fw.1 fw.2.2) := hff
      have HLK : Hid (∀ W, Below w3.heap.size w3 W → (Instr.lookup 115 (.map (some m)) (plv a.pl) false).run Tryz.prog W = .ok (.slice fw.1 fw.2.2.length fw.2.1) W) := fun W hW => by
        have := (hwm.next hW).look HP.out
        rw [hfw] at this
        exact this
      have HWF : Hid (wellF s.wells a.pl = fw.2.2) := by show _ = _; rw [← hwl, ← fdAt_whp, hfw]
      have HWM : Hid (WM w3 m wl) := hwm
      have HWL : Hid (whp wl = s.wells) := hwl
      have HFL : Hid (∀ x ∈ wl, Flx b m w3 x.2.1 x.2.2.2) := hfl
      have HML : Hid (m < w3.heap.size) := hwm.lt
      obtain ⟨⟨ps, e1⟩, htq⟩ : ∃ x, togR fw.2.2 [(a.label, a.vol)] mo = x := ⟨_, rfl⟩
      have HTQ : Hid (togR fw.2.2 [(a.label, a.vol)] mo = (ps, e1)) := htq
      have HTG : Hid (∀ W, Below w3.heap.size w3 W → Calls Tryz.prog 120 #[.slice fw.1 fw.2.2.length fw.2.1, .slice (some ⟨w1.heap.size, 0, none⟩) 1 1, .int .i64 mo] W fun e w' => ∃ v, e = .returned v ∧ TF b m ps e1 v w' ∧ Below W.heap.size W w') := fun W hW => by
        have := tog_fr b m fw.1 (some ⟨w1.heap.size, 0, none⟩) fw.2.1 1 fw.2.2 [(a.label, a.vol)] mo W (HFF.out.next hW).1 (HP3.out.next hW) (Nat.lt_of_lt_of_le KB3.out.1 hW.size) (Nat.lt_of_lt_of_le HML.out hW.size)
        rw [HTQ.out] at this
        exact this
      clear hwm hwl hfl hfw hff htq
      refine region_seqE 15 [false, false, false, false, false, false, true, false, false, true, false, false, false, false, false, false, false, false, false, false, false, false, false, false, false, false, false, false, false, false, true, true, true, true, true, true, true, true, true, true, true, true, true, false, false, false, false, false, false, false, false]
        [(31, [], none), (32, [31], none), (33, [32], none), (34, [33], none), (35, [], none), (36, [35], none), (37, [34, 36], none), (38, [], none), (39, [], none), (40, [37, 38, 39], none), (30, [40], none), (41, [30], none), (42, [30], none), (9, [41], none), (6, [42], none)]
        (fiV b w.heap.size m w1.heap.size a mo fw ps e1) (by kernel_rfl) (by kernel_rfl) (by kernel_rfl) (by kernel_rfl) (by kernel_rfl) (by decide) (fiV_mono b w.heap.size m w1.heap.size a mo fw ps e1) ?_ ?_
      · refine ⟨?_, ?_, ?_, ?_, ?_, ?_, ?_, ?_, ?_, ?_, ?_, ?_, ?_, ?_, ?_, trivial⟩
        · intro f w1 hb _ K hK
          simp only [over, overL, Nat.reduceAdd]
          go_simp
          exact hK _ _ ⟨_, rfl, by simp only [over, overL, Nat.reduceAdd]; rfl, Below.refl _ _⟩
        · intro f w1 hb ⟨h31, _⟩ K hK
          replace h31 : f 31 = _ := h31
          simp only [over, overL, Nat.reduceAdd, h31]
          go_simp
          exact hK _ _ ⟨_, rfl, by simp only [over, overL, Nat.reduceAdd, h31]; rfl, Below.refl _ _⟩
        · intro f w1 hb ⟨h32, _⟩ K hK
          replace h32 : f 32 = _ := h32
          simp only [over, overL, Nat.reduceAdd, h32]
          go_simp
          exact hK _ _ ⟨_, rfl, by simp only [over, overL, Nat.reduceAdd, h32]; rfl, Below.refl _ _⟩
        · intro f w1 hb ⟨h33, _⟩ K hK
          replace h33 : f 33 = _ := h33
          have q4 := (KB3.out.later hb).c 4 rfl
          simp only [over, overL, Nat.reduceAdd, h33]
          go_simp
          exact hK _ _ ⟨_, rfl, by simp only [over, overL, Nat.reduceAdd, h33]; rfl, Below.refl _ _⟩
        · intro f w1 hb _ K hK
          simp only [over, overL, Nat.reduceAdd]
          go_simp
          exact hK _ _ ⟨_, rfl, by simp only [over, overL, Nat.reduceAdd]; rfl, Below.refl _ _⟩
        · intro f w1 hb ⟨h35, _⟩ K hK
          replace h35 : f 35 = _ := h35
          have q1 := (KA3.out.later hb).c 1 rfl
          have q2 := (KA3.out.later hb).c 2 rfl
          have q3 := (KA3.out.later hb).c 3 rfl
          simp only [over, overL, Nat.reduceAdd, h35]
          go_simp
          exact hK _ _ ⟨_, rfl, by simp only [over, overL, Nat.reduceAdd, h35]; rfl, Below.refl _ _⟩
        · intro f w1 hb ⟨h34, h36, _⟩ K hK
          replace h34 : f 34 = _ := h34
          replace h36 : f 36 = _ := h36
          have ql := HLK.out w1 hb
          simp only [over, overL, Nat.reduceAdd, h34, h36]
          go_simp
          exact hK _ _ ⟨_, rfl, by simp only [over, overL, Nat.reduceAdd, h34, h36]; rfl, Below.refl _ _⟩
        · intro f w1 hb _ K hK
          simp only [over, overL, Nat.reduceAdd]
          go_simp
          exact hK _ _ ⟨_, rfl, by simp only [over, overL, Nat.reduceAdd]; rfl, Below.refl _ _⟩
        · intro f w1 hb _ K hK
          simp only [over, overL, Nat.reduceAdd]
          go_simp
          exact hK _ _ ⟨_, rfl, by simp only [over, overL, Nat.reduceAdd]; rfl, Below.refl _ _⟩
        · intro f w1 hb ⟨h37, h38, h39, _⟩ K hK
          replace h37 : f 37 = _ := h37
          replace h38 : f 38 = _ := h38
          replace h39 : f 39 = _ := h39
          simp only [over, overL, Nat.reduceAdd, h37, h38, h39]
          go_simp
          refine ((HTG.out w1 hb).mono) ?_
          rintro e w2 ⟨x, rfl, ht, hb2⟩
          exact hK _ _ ⟨_, ht, by simp only [over, overL, Nat.reduceAdd, h37, h38, h39]; rfl, hb2⟩
        · intro f w1 hb ⟨h40, _⟩ K hK
          simp only [over, overL, Nat.reduceAdd]
          go_simp
          exact hK _ _ ⟨_, h40, by simp only [over, overL, Nat.reduceAdd]; rfl, Below.refl _ _⟩
        · intro f w1 hb ⟨h30, _⟩ K hK
          obtain ⟨x, h30, hx⟩ := h30
          simp only [over, overL, Nat.reduceAdd, h30]
          go_simp
          exact hK _ _ ⟨_, hx, by simp only [over, overL, Nat.reduceAdd, h30]; rfl, Below.refl _ _⟩
        · intro f w1 hb ⟨h30, _⟩ K hK
          obtain ⟨x, h30, hx⟩ := h30
          simp only [over, overL, Nat.reduceAdd, h30]
          go_simp
          exact hK _ _ ⟨_, rfl, by simp only [over, overL, Nat.reduceAdd, h30]; rfl, Below.refl _ _⟩
        · intro f w1 hb ⟨h41, _⟩ K hK
          simp only [over, overL, Nat.reduceAdd]
          go_simp
          exact hK _ _ ⟨_, h41, by simp only [over, overL, Nat.reduceAdd]; rfl, Below.refl _ _⟩
        · intro f w1 hb ⟨h42, _⟩ K hK
          replace h42 : f 42 = _ := h42
          simp only [over, overL, Nat.reduceAdd, h42]
          go_simp
          exact hK _ _ ⟨_, rfl, by simp only [over, overL, Nat.reduceAdd, h42]; rfl, Below.refl _ _⟩
      intro f w4 hb hv
      have h6 : f 6 = _ := hv.2.2.2.2.2.2.2.2.2.2.2.2.2.2.1
      have h9 : Fr b m ps (f 9) w4 := hv.2.2.2.2.2.2.2.2.2.2.2.2.2.1
      obtain ⟨aof, capf, h9, hf⟩ := h9
      have HF4 : Hid (Flx b m w4 aof ps) := hf
      have HB4 : Hid (Bn wB w4 ao cap l b m md s) := HB3.out.next hb
      have KA4 : Hid (Bk w.heap.size (acl a) w4) := KA3.out.later hb
      have KB4 : Hid (Bk b (bcs ao cap l md m cw s aoH capH aoT capT) w4) := KB3.out.later hb
      have HH4 : Hid (Flx b m w4 aoH s.held) := HH3.out.next hb
      have HT4 : Hid (Txx b m w4 aoT s.touched) := HT3.out.next hb
      have HWM4 : Hid (WM w4 m wl) := HWM.out.next hb
      have HFL4 : Hid (∀ x ∈ wl, Flx b m w4 x.2.1 x.2.2.2) := fun x hx => (HFL.out x hx).next hb
      clear hv hb hf HB3 KA3 KB3 HH3 HT3 HWM HFL HFF HLK HTG HP3
      simp only [List.drop, over, overL, Nat.reduceAdd, h6, h9]
      clear h6 h9
      go_wp2
      refine HKK.out _ _ ?_
      have q0 := (KA4.out).c 0 rfl
      have q1 := (KA4.out).c 1 rfl
      have q2 := (KA4.out).c 2 rfl
      have q3 := (KA4.out).c 3 rfl
      have q4 := (KA4.out).c 4 rfl
      have q5 := (KA4.out).c 5 rfl
      have q6 := (KA4.out).c 6 rfl
      have q7 := (KA4.out).c 7 rfl
      by_cases h1 : e1 = 0
      · subst h1
        have HQ : Hid (fillA l s a = ({ s with wells := wset s.wells a.pl ps }, 0)) := by
          show _ = _
          simp only [fillA, HA.out, HWF.out, HCK.out, HTQ.out]
          simp
        obtain ⟨hon, hfew⟩ := HB4.out.once HWL.out
        go_wp2_with fail
        refine (keep_any b m _ _ _ _ _ _ _ _ _ _ _ wl a.pl aof capf ps w4 KB4.out HWM4.out hon hfew HP.out).mono ?_
        rintro e w5 ⟨rfl, hwm, hg⟩
        have HWM5 : Hid (WM w5 m (setH wl a.pl (aof, capf, ps))) := hwm
        have HG : Hid (w4.grownBy w5 (some m)) := hg
        clear hwm hg hon hfew q0 q1 q2 q3 q4 q5 q6 q7
        go_wp2
        go_ret
        have hmay := (may_fill HB4.out.may (by rw [HQ.out] : (fillA l s a).2 = 0)).1
        rw [HQ.out] at hmay ⊢
        have hbut : But b m w4 w5 := but_grown HG.out
        exact ⟨rfl, HB4.out.keptTo HWL.out HFL4.out hbut HWM5.out (HF4.out.but hbut) hmay rfl (cw := cw) (KB4.out.same HG.out.size (HG.out.block b KB4.out.1 (by simpa using HB4.out.ne.1))) (HH4.out.but hbut) (HT4.out.but hbut)⟩
      · have h2 : (e1 == 0) = false := by simp [h1]
        have h3 : (e1 != 0) = true := by simp [h1]
        have HQ : Hid (fillA l s a = (s, e1)) := by
          show _ = _
          simp only [fillA, HA.out, HWF.out, HCK.out, HTQ.out]
          simp [h1]
        clear h1
        go_wp2
        go_ret
        exact ⟨by rw [HQ.out]; rfl, by rw [HQ.out]; exact HB4.out⟩
    · have h2 : (e2 == 0) = false := by simp [hc]
      have h3 : (e2 != 0) = true := by simp [hc]
      have HQ : Hid (fillA l s a = (s, e2)) := by
        show _ = _
        simp only [fillA, HA.out, HCK.out]
        simp [hc]
      clear hc
      go_wp2
      go_ret
      exact ⟨by rw [HQ.out]; rfl, by rw [HQ.out]; exact HB3.out⟩
  · have h2 : (e0 == 0) = false := by simp [he]
    have h3 : (e0 != 0) = true := by simp [he]
    have HQ : Hid (fillA l s a = (s, e0)) := by
      show _ = _
      simp only [fillA, HA.out]
      simp [he]
    clear he
    go_wp2
    go_ret
    exact ⟨by rw [HQ.out]; rfl, by rw [HQ.out]; exact HBB.out⟩
end Go.Proofs.YtjappkfhballhaaGreat

/- put and draw walked. -/
namespace Go.Proofs.YtjappkfhballhaaGreat
open Go.RowKit Go.Maps
def puV (b B m : Nat) (s : Sta) (a : Acn) (aoH : Option Addr) (capH : Nat) (gs ls : List F.Pc) (e2 : Int) (d : Nat) (v : Value) (w : World) : Prop :=
  match d with
  | 26 => v = .pointer (some ⟨b, 0, none⟩)
  | 27 => v = .pointer (some ⟨b, 0, none⟩)
  | 28 => v = .pointer (some ⟨b, 5, none⟩)
  | 29 => v = .pointer (some ⟨b, 7, none⟩)
  | 30 => v = .slice aoH s.held.length capH
  | 31 => v = .pointer (some ⟨B, 5, none⟩)
  | 32 => v = .int .i64 a.vol
  | 33 => TG3 b m gs ls e2 v w
  | 25 => TG3 b m gs ls e2 v w
  | 34 => Fr b m gs v w
  | 35 => Fr b m ls v w
  | 36 => v = .int .i64 e2
  | 7 => Fr b m gs v w
  | 8 => Fr b m ls v w
  | 6 => v = .int .i64 e2
  | _ => True
theorem puV_mono (b B m : Nat) (s : Sta) (a : Acn) (aoH : Option Addr) (capH : Nat) (gs ls : List F.Pc) (e2 : Int) (d : Nat) (v : Value) (w w' : World) (h : puV b B m s a aoH capH gs ls e2 d v w) (hb : Below w.heap.size w w') : puV b B m s a aoH capH gs ls e2 d v w' := by
  unfold puV at h ⊢
  split <;> simp only [] at h <;> first | exact h | exact h.later hb
def pvV (b B m : Nat) (a : Acn) (mo : Int) (aog : Option Addr) (capg : Nat) (gs : List F.Pc) (fw : F.Fd) (ps : List F.Pc) (e1 : Int) (d : Nat) (v : Value) (w : World) : Prop :=
  match d with
  | 41 => v = .pointer (some ⟨b, 0, none⟩)
  | 42 => v = .pointer (some ⟨b, 0, none⟩)
  | 43 => v = .pointer (some ⟨b, 4, none⟩)
  | 44 => v = .map (some m)
  | 45 => v = .pointer (some ⟨B, 1, none⟩)
  | 46 => v = .agg #[.int .i64 a.pl.1, .int .i64 a.pl.2.1, .int .i64 a.pl.2.2]
  | 47 => v = .slice fw.1 fw.2.2.length fw.2.1
  | 48 => v = .slice aog gs.length capg
  | 49 => v = .int .i64 mo
  | 50 => TF b m ps e1 v w
  | 40 => TF b m ps e1 v w
  | 51 => Fr b m ps v w
  | 52 => v = .int .i64 e1
  | 9 => Fr b m ps v w
  | 6 => v = .int .i64 e1
  | _ => True
theorem pvV_mono (b B m : Nat) (a : Acn) (mo : Int) (aog : Option Addr) (capg : Nat) (gs : List F.Pc) (fw : F.Fd) (ps : List F.Pc) (e1 : Int) (d : Nat) (v : Value) (w w' : World) (h : pvV b B m a mo aog capg gs fw ps e1 d v w) (hb : Below w.heap.size w w') : pvV b B m a mo aog capg gs fw ps e1 d v w' := by
  unfold pvV at h ⊢
  split <;> simp only [] at h <;> first | exact h | exact h.later hb
set_option maxHeartbeats 6400000 in
set_option maxRecDepth 100000 in
theorem put_any (wB w : World) (ao : Option Addr) (cap : Nat) (l : List Sit) (b m md : Nat) (s : Sta) (a : Acn) (hB : Bn wB w ao cap l b m md s) :
    Calls Tryz.prog 101 #[ptr b, av a] w fun e w' => e = .returned (.int .i64 (putA l s a).2) ∧ Bn wB w' ao cap l b m md (putA l s a).1 := by
  have HBN : Hid (Bn wB w ao cap l b m md s) := hB
  clear hB
  obtain ⟨w0, hw0⟩ : ∃ w0, w0 = w.alloc (aobj a) := ⟨_, rfl⟩
  have b0 : Below w.heap.size w w0 := by rw [hw0]; exact (Below.refl _ _).alloc (Nat.le_refl _) _
  have KA : Hid (Bk w.heap.size (acl a) w0) := by show Bk _ _ _; rw [hw0]; exact Bk.new w (acl a) 33 w.heap.size rfl
  have HB0 : Hid (Bn wB w0 ao cap l b m md s) := HBN.out.next b0
  have HW0 : Hid (w0 = w.alloc (aobj a)) := hw0
  clear hw0 b0
  obtain ⟨cw, aoH, capH, aoT, capT, K, hh, ht⟩ := HB0.out.bk
  have KB : Hid (Bk b (bcs ao cap l md m cw s aoH capH aoT capT) w0) := K
  have HH : Hid (Flx b m w0 aoH s.held) := hh
  have HT : Hid (Txx b m w0 aoT s.touched) := ht
  have hbw : b < w.heap.size := by obtain ⟨_, _, _, _, _, K', _⟩ := HBN.out.bk; exact K'.1
  have hbn : b ≠ w.heap.size := by omega
  have lt0 := KB.out.1
  clear K hh ht
  clear lt0
  go_enter Tryz.func101, Tryz.ntmps101
  go_wp2_with fail
  rw [← HW0.out]
  refine (aim_any wB w0 ao cap l b m md s a HB0.out).mono ?_
  rintro e w1 ⟨rfl, hb1⟩
  have HBn0 := HB0
  have KA0 := KA
  have KB0 := KB
  have HH0 := HH
  have HT0 := HT
  have HBn1 : Hid (Bn wB w1 ao cap l b m md s) := HBn0.out.next hb1
  have KA1 : Hid (Bk w.heap.size (acl a) w1) := KA0.out.later hb1
  have KB1 : Hid (Bk b (bcs ao cap l md m cw s aoH capH aoT capT) w1) := KB0.out.later hb1
  have HH1 : Hid (Flx b m w1 aoH s.held) := HH0.out.next hb1
  have HT1 : Hid (Txx b m w1 aoT s.touched) := HT0.out.next hb1
  clear HBn0 KA0 KB0 HH0 HT0
  have hbo1 : b < w1.heap.size := KB1.out.1
  clear hb1 HB0 KA KB HH HT
  obtain ⟨⟨mo, e0⟩, hM⟩ : ∃ x, aimR l a = x := ⟨_, rfl⟩
  have HA : Hid (aimR l a = (mo, e0)) := hM
  rw [hM]
  clear hM
  by_cases he : e0 = 0
  case neg =>
    have h2 : (e0 == 0) = false := by simp [he]
    have h3 : (e0 != 0) = true := by simp [he]
    have HQ : Hid (putA l s a = (s, e0)) := by
      show _ = _
      simp only [putA, HA.out]
      simp [he]
    clear he
    go_wp2
    go_ret
    exact ⟨by rw [HQ.out]; rfl, by rw [HQ.out]; exact HBn1.out⟩
  subst he
  have HP : Hid (Wf3 a.pl) := wf_place HBn1.out.hd (aim_ok (by rw [HA.out]))
  cases htp : s.tip with
  | false =>
    have HQ : Hid (putA l s a = (s, 12)) := by
      show _ = _
      simp only [putA, HA.out, htp]
      simp
    have k0 := (KB1.out).c 0 rfl
    have k1 := (KB1.out).c 1 rfl
    have k2 := (KB1.out).c 2 rfl
    have k3 := (KB1.out).c 3 rfl
    have k4 := (KB1.out).c 4 rfl
    have k5 := (KB1.out).c 5 rfl
    have k6 := (KB1.out).c 6 rfl
    have k7 := (KB1.out).c 7 rfl
    have k8 := (KB1.out).c 8 rfl
    have k9 := (KB1.out).c 9 rfl
    have k10 := (KB1.out).c 10 rfl
    have k11 := (KB1.out).c 11 rfl
    rw [htp] at k6
    go_wp2
    go_ret
    exact ⟨by rw [HQ.out]; rfl, by rw [HQ.out]; exact HBn1.out⟩
  | true =>
    obtain ⟨u1, u2, u3, u4⟩ := tip_parts HBn1.out.may htp
    have HTP : Hid (s.tip = true) := htp
    have HTT : Hid (s.touched.length ≤ 100 ∧ ∀ p ∈ drops s.touched, p.1.size ≤ maxLen) := ⟨(mayTouch_iff.1 u4).1, F.fine_size (withR_iff.1 (mayTouch_iff.1 u4).2.2).2.1⟩
    clear u1 u2 u3 u4
    have k0 := (KB1.out).c 0 rfl
    have k1 := (KB1.out).c 1 rfl
    have k2 := (KB1.out).c 2 rfl
    have k3 := (KB1.out).c 3 rfl
    have k4 := (KB1.out).c 4 rfl
    have k5 := (KB1.out).c 5 rfl
    have k6 := (KB1.out).c 6 rfl
    have k7 := (KB1.out).c 7 rfl
    have k8 := (KB1.out).c 8 rfl
    have k9 := (KB1.out).c 9 rfl
    have k10 := (KB1.out).c 10 rfl
    have k11 := (KB1.out).c 11 rfl
    rw [htp] at k6
    clear htp
    go_wp2_with fail
    rename_i KK hkk
    have HKK := (show Hid _ from hkk)
    clear hkk
    obtain ⟨⟨gs, ls, e2⟩, hdq⟩ : ∃ x, F.drawF a.vol s.held = x := ⟨_, rfl⟩
    have HDQ : Hid (F.drawF a.vol s.held = (gs, ls, e2)) := hdq
    have HML0 : Hid (m < w1.heap.size) := by obtain ⟨wl, hwm, _, _⟩ := HBn1.out.wells; exact hwm.lt
    have HDR : Hid (∀ W, Below w1.heap.size w1 W → Calls Tryz.prog 122 #[.slice aoH s.held.length capH, .int .i64 a.vol] W fun e w' => ∃ x, e = .returned x ∧ TG3 b m gs ls e2 x w' ∧ Below W.heap.size W w') := fun W hW => by
      have := draw_fr b m aoH capH s.held a.vol W (HH1.out.next hW).1 (Nat.lt_of_lt_of_le KB1.out.1 hW.size) (Nat.lt_of_lt_of_le HML0.out hW.size)
      rw [HDQ.out] at this
      exact this
    clear hdq k0 k1 k2 k3 k4 k5 k6 k7 k8 k9 k10 k11
    refine region_seqE 15 [false, false, false, false, false, false, true, true, true, false, false, false, false, false, false, false, false, false, false, false, false, false, false, false, false, true, true, true, true, true, true, true, true, true, true, true, true, false, false, false, false, false, false, false, false, false, false, false, false, false, false, false, false, false, false, false, false, false, false, false, false, false, false, false, false, false]
      [(26, [], none), (27, [26], none), (28, [27], none), (29, [28], none), (30, [29], none), (31, [], none), (32, [31], none), (33, [30, 32], none), (25, [33], none), (34, [25], none), (35, [25], none), (36, [25], none), (7, [34], none), (8, [35], none), (6, [36], none)]
      (puV b w.heap.size m s a aoH capH gs ls e2) (by kernel_rfl) (by kernel_rfl) (by kernel_rfl) (by kernel_rfl) (by kernel_rfl) (by decide) (puV_mono b w.heap.size m s a aoH capH gs ls e2) ?_ ?_
    · refine ⟨?_, ?_, ?_, ?_, ?_, ?_, ?_, ?_, ?_, ?_, ?_, ?_, ?_, ?_, ?_, trivial⟩
      · intro f wA hb _ K hK
        simp only [over, overL, Nat.reduceAdd]
        go_simp
        exact hK _ _ ⟨_, rfl, by simp only [over, overL, Nat.reduceAdd]; rfl, Below.refl _ _⟩
      · intro f wA hb ⟨h26, _⟩ K hK
        replace h26 : f 26 = _ := h26
        simp only [over, overL, Nat.reduceAdd, h26]
        go_simp
        exact hK _ _ ⟨_, rfl, by simp only [over, overL, Nat.reduceAdd, h26]; rfl, Below.refl _ _⟩
      · intro f wA hb ⟨h27, _⟩ K hK
        replace h27 : f 27 = _ := h27
        simp only [over, overL, Nat.reduceAdd, h27]
        go_simp
        exact hK _ _ ⟨_, rfl, by simp only [over, overL, Nat.reduceAdd, h27]; rfl, Below.refl _ _⟩
      · intro f wA hb ⟨h28, _⟩ K hK
        replace h28 : f 28 = _ := h28
        simp only [over, overL, Nat.reduceAdd, h28]
        go_simp
        exact hK _ _ ⟨_, rfl, by simp only [over, overL, Nat.reduceAdd, h28]; rfl, Below.refl _ _⟩
      · intro f wA hb ⟨h29, _⟩ K hK
        replace h29 : f 29 = _ := h29
        have q7 := (KB1.out.later hb).c 7 rfl
        simp only [over, overL, Nat.reduceAdd, h29]
        go_simp
        exact hK _ _ ⟨_, rfl, by simp only [over, overL, Nat.reduceAdd, h29]; rfl, Below.refl _ _⟩
      · intro f wA hb _ K hK
        simp only [over, overL, Nat.reduceAdd]
        go_simp
        exact hK _ _ ⟨_, rfl, by simp only [over, overL, Nat.reduceAdd]; rfl, Below.refl _ _⟩
      · intro f wA hb ⟨h31, _⟩ K hK
        replace h31 : f 31 = _ := h31
        have q5 := (KA1.out.later hb).c 5 rfl
        simp only [over, overL, Nat.reduceAdd, h31]
        go_simp
        exact hK _ _ ⟨_, rfl, by simp only [over, overL, Nat.reduceAdd, h31]; rfl, Below.refl _ _⟩
      · intro f wA hb ⟨h30, h32, _⟩ K hK
        replace h30 : f 30 = _ := h30
        replace h32 : f 32 = _ := h32
        simp only [over, overL, Nat.reduceAdd, h30, h32]
        go_simp
        refine ((HDR.out wA hb).mono) ?_
        rintro e w2 ⟨x, rfl, ht, hb2⟩
        exact hK _ _ ⟨_, ht, by simp only [over, overL, Nat.reduceAdd, h30, h32]; rfl, hb2⟩
      · intro f wA hb ⟨h33, _⟩ K hK
        simp only [over, overL, Nat.reduceAdd]
        go_simp
        exact hK _ _ ⟨_, h33, by simp only [over, overL, Nat.reduceAdd]; rfl, Below.refl _ _⟩
      · intro f wA hb ⟨h25, _⟩ K hK
        obtain ⟨x, y, h25, hx, hy⟩ := h25
        simp only [over, overL, Nat.reduceAdd, h25]
        go_simp
        exact hK _ _ ⟨_, hx, by simp only [over, overL, Nat.reduceAdd, h25]; rfl, Below.refl _ _⟩
      · intro f wA hb ⟨h25, _⟩ K hK
        obtain ⟨x, y, h25, hx, hy⟩ := h25
        simp only [over, overL, Nat.reduceAdd, h25]
        go_simp
        exact hK _ _ ⟨_, hy, by simp only [over, overL, Nat.reduceAdd, h25]; rfl, Below.refl _ _⟩
      · intro f wA hb ⟨h25, _⟩ K hK
        obtain ⟨x, y, h25, hx, hy⟩ := h25
        simp only [over, overL, Nat.reduceAdd, h25]
        go_simp
        exact hK _ _ ⟨_, rfl, by simp only [over, overL, Nat.reduceAdd, h25]; rfl, Below.refl _ _⟩
      · intro f wA hb ⟨h34, _⟩ K hK
        simp only [over, overL, Nat.reduceAdd]
        go_simp
        exact hK _ _ ⟨_, h34, by simp only [over, overL, Nat.reduceAdd]; rfl, Below.refl _ _⟩
      · intro f wA hb ⟨h35, _⟩ K hK
        simp only [over, overL, Nat.reduceAdd]
        go_simp
        exact hK _ _ ⟨_, h35, by simp only [over, overL, Nat.reduceAdd]; rfl, Below.refl _ _⟩
      · intro f wA hb ⟨h36, _⟩ K hK
        replace h36 : f 36 = _ := h36
        simp only [over, overL, Nat.reduceAdd, h36]
        go_simp
        exact hK _ _ ⟨_, rfl, by simp only [over, overL, Nat.reduceAdd, h36]; rfl, Below.refl _ _⟩
    intro f w2 hb hv
    have h6 : f 6 = _ := hv.2.2.2.2.2.2.2.2.2.2.2.2.2.2.1
    have h7 : Fr b m gs (f 7) w2 := hv.2.2.2.2.2.2.2.2.2.2.2.2.1
    have h8 : Fr b m ls (f 8) w2 := hv.2.2.2.2.2.2.2.2.2.2.2.2.2.1
    obtain ⟨aog, capg, h7, hg⟩ := h7
    obtain ⟨aol, capl, h8, hl⟩ := h8
    have HGS2 : Hid (Flx b m w2 aog gs) := hg
    have HLS2 : Hid (Flx b m w2 aol ls) := hl
    have HBn2 : Hid (Bn wB w2 ao cap l b m md s) := HBn1.out.next hb
    have KA2 : Hid (Bk w.heap.size (acl a) w2) := KA1.out.later hb
    have KB2 : Hid (Bk b (bcs ao cap l md m cw s aoH capH aoT capT) w2) := KB1.out.later hb
    have HH2 : Hid (Flx b m w2 aoH s.held) := HH1.out.next hb
    have HT2 : Hid (Txx b m w2 aoT s.touched) := HT1.out.next hb
    clear HBn1 KA1 KB1 HH1 HT1
    clear hv hb hg hl HDR HML0
    simp only [List.drop, over, overL, Nat.reduceAdd, h6, h7, h8]
    clear h6 h7 h8
    go_wp2
    refine HKK.out _ _ ?_
    clear HKK
    by_cases hc : e2 = 0
    case neg =>
      have h2 : (e2 == 0) = false := by simp [hc]
      have h3 : (e2 != 0) = true := by simp [hc]
      have HQ : Hid (putA l s a = (s, e2)) := by
        show _ = _
        simp only [putA, HA.out, HTP.out, HDQ.out]
        simp [hc]
      clear hc
      go_wp2
      go_ret
      exact ⟨by rw [HQ.out]; rfl, by rw [HQ.out]; exact HBn2.out⟩
    subst hc
    go_wp2_with fail
    rename_i KK hkk
    have HKK := (show Hid _ from hkk)
    clear hkk
    obtain ⟨wl, hwm, hwl, hfl⟩ := HBn2.out.wells
    obtain ⟨fw, hfw⟩ : ∃ x, fdAt wl a.pl = x := ⟨_, rfl⟩
    have hff := flx_at hfl a.pl
    rw [hfw] at hff
    have HFF2 : Hid (Flx b m w2 fw.1 fw.2.2) := hff
    have HLK : Hid (∀ W, Below w2.heap.size w2 W → (Instr.lookup 115 (.map (some m)) (plv a.pl) false).run Tryz.prog W = .ok (.slice fw.1 fw.2.2.length fw.2.1) W) := fun W hW => by
      have := (hwm.next hW).look HP.out
      rw [hfw] at this
      exact this
    have HWF : Hid (wellF s.wells a.pl = fw.2.2) := by show _ = _; rw [← hwl, ← fdAt_whp, hfw]
    have HWM2 : Hid (WM w2 m wl) := hwm
    have HWL : Hid (whp wl = s.wells) := hwl
    have HFL2 : Hid (∀ x ∈ wl, Flx b m w2 x.2.1 x.2.2.2) := hfl
    have HML : Hid (m < w2.heap.size) := hwm.lt
    clear hwm hwl hfl hfw hff
    obtain ⟨⟨ps, e1⟩, htq⟩ : ∃ x, togR fw.2.2 gs mo = x := ⟨_, rfl⟩
    have HTQ : Hid (togR fw.2.2 gs mo = (ps, e1)) := htq
    have HTG : Hid (∀ W, Below w2.heap.size w2 W → Calls Tryz.prog 120 #[.slice fw.1 fw.2.2.length fw.2.1, .slice aog gs.length capg, .int .i64 mo] W fun e w' => ∃ v, e = .returned v ∧ TF b m ps e1 v w' ∧ Below W.heap.size W w') := fun W hW => by
      have := tog_fr b m fw.1 aog fw.2.1 capg fw.2.2 gs mo W (HFF2.out.next hW).1 (HGS2.out.next hW).1 (Nat.lt_of_lt_of_le KB2.out.1 hW.size) (Nat.lt_of_lt_of_le HML.out hW.size)
      rw [HTQ.out] at this
      exact this
    clear htq
    refine region_seqE 15 [false, false, false, false, false, false, true, false, false, true, false, false, false, false, false, false, false, false, false, false, false, false, false, false, false, false, false, false, false, false, false, false, false, false, false, false, false, false, false, false, true, true, true, true, true, true, true, true, true, true, true, true, true, false, false, false, false, false, false, false, false, false, false, false, false, false]
      [(41, [], none), (42, [41], none), (43, [42], none), (44, [43], none), (45, [], none), (46, [45], none), (47, [44, 46], none), (48, [], none), (49, [], none), (50, [47, 48, 49], none), (40, [50], none), (51, [40], none), (52, [40], none), (9, [51], none), (6, [52], none)]
      (pvV b w.heap.size m a mo aog capg gs fw ps e1) (by kernel_rfl) (by kernel_rfl) (by kernel_rfl) (by kernel_rfl) (by kernel_rfl) (by decide) (pvV_mono b w.heap.size m a mo aog capg gs fw ps e1) ?_ ?_
    · refine ⟨?_, ?_, ?_, ?_, ?_, ?_, ?_, ?_, ?_, ?_, ?_, ?_, ?_, ?_, ?_, trivial⟩
      · intro f wA hb _ K hK
        simp only [over, overL, Nat.reduceAdd]
        go_simp
        exact hK _ _ ⟨_, rfl, by simp only [over, overL, Nat.reduceAdd]; rfl, Below.refl _ _⟩
      · intro f wA hb ⟨h41, _⟩ K hK
        replace h41 : f 41 = _ := h41
        simp only [over, overL, Nat.reduceAdd, h41]
        go_simp
        exact hK _ _ ⟨_, rfl, by simp only [over, overL, Nat.reduceAdd, h41]; rfl, Below.refl _ _⟩
      · intro f wA hb ⟨h42, _⟩ K hK
        replace h42 : f 42 = _ := h42
        simp only [over, overL, Nat.reduceAdd, h42]
        go_simp
        exact hK _ _ ⟨_, rfl, by simp only [over, overL, Nat.reduceAdd, h42]; rfl, Below.refl _ _⟩
      · intro f wA hb ⟨h43, _⟩ K hK
        replace h43 : f 43 = _ := h43
        have q4 := (KB2.out.later hb).c 4 rfl
        simp only [over, overL, Nat.reduceAdd, h43]
        go_simp
        exact hK _ _ ⟨_, rfl, by simp only [over, overL, Nat.reduceAdd, h43]; rfl, Below.refl _ _⟩
      · intro f wA hb _ K hK
        simp only [over, overL, Nat.reduceAdd]
        go_simp
        exact hK _ _ ⟨_, rfl, by simp only [over, overL, Nat.reduceAdd]; rfl, Below.refl _ _⟩
      · intro f wA hb ⟨h45, _⟩ K hK
        replace h45 : f 45 = _ := h45
        have q1 := (KA2.out.later hb).c 1 rfl
        have q2 := (KA2.out.later hb).c 2 rfl
        have q3 := (KA2.out.later hb).c 3 rfl
        simp only [over, overL, Nat.reduceAdd, h45]
        go_simp
        exact hK _ _ ⟨_, rfl, by simp only [over, overL, Nat.reduceAdd, h45]; rfl, Below.refl _ _⟩
      · intro f wA hb ⟨h44, h46, _⟩ K hK
        replace h44 : f 44 = _ := h44
        replace h46 : f 46 = _ := h46
        have ql := HLK.out wA hb
        simp only [over, overL, Nat.reduceAdd, h44, h46]
        go_simp
        exact hK _ _ ⟨_, rfl, by simp only [over, overL, Nat.reduceAdd, h44, h46]; rfl, Below.refl _ _⟩
      · intro f wA hb _ K hK
        simp only [over, overL, Nat.reduceAdd]
        go_simp
        exact hK _ _ ⟨_, rfl, by simp only [over, overL, Nat.reduceAdd]; rfl, Below.refl _ _⟩
      · intro f wA hb _ K hK
        simp only [over, overL, Nat.reduceAdd]
        go_simp
        exact hK _ _ ⟨_, rfl, by simp only [over, overL, Nat.reduceAdd]; rfl, Below.refl _ _⟩
      · intro f wA hb ⟨h47, h48, h49, _⟩ K hK
        replace h47 : f 47 = _ := h47
        replace h48 : f 48 = _ := h48
        replace h49 : f 49 = _ := h49
        simp only [over, overL, Nat.reduceAdd, h47, h48, h49]
        go_simp
        refine ((HTG.out wA hb).mono) ?_
        rintro e w2 ⟨x, rfl, ht, hb2⟩
        exact hK _ _ ⟨_, ht, by simp only [over, overL, Nat.reduceAdd, h47, h48, h49]; rfl, hb2⟩
      · intro f wA hb ⟨h50, _⟩ K hK
        simp only [over, overL, Nat.reduceAdd]
        go_simp
        exact hK _ _ ⟨_, h50, by simp only [over, overL, Nat.reduceAdd]; rfl, Below.refl _ _⟩
      · intro f wA hb ⟨h40, _⟩ K hK
        obtain ⟨x, h40, hx⟩ := h40
        simp only [over, overL, Nat.reduceAdd, h40]
        go_simp
        exact hK _ _ ⟨_, hx, by simp only [over, overL, Nat.reduceAdd, h40]; rfl, Below.refl _ _⟩
      · intro f wA hb ⟨h40, _⟩ K hK
        obtain ⟨x, h40, hx⟩ := h40
        simp only [over, overL, Nat.reduceAdd, h40]
        go_simp
        exact hK _ _ ⟨_, rfl, by simp only [over, overL, Nat.reduceAdd, h40]; rfl, Below.refl _ _⟩
      · intro f wA hb ⟨h51, _⟩ K hK
        simp only [over, overL, Nat.reduceAdd]
        go_simp
        exact hK _ _ ⟨_, h51, by simp only [over, overL, Nat.reduceAdd]; rfl, Below.refl _ _⟩
      · intro f wA hb ⟨h52, _⟩ K hK
        replace h52 : f 52 = _ := h52
        simp only [over, overL, Nat.reduceAdd, h52]
        go_simp
        exact hK _ _ ⟨_, rfl, by simp only [over, overL, Nat.reduceAdd, h52]; rfl, Below.refl _ _⟩
    intro f w3 hb hv
    have h6 : f 6 = _ := hv.2.2.2.2.2.2.2.2.2.2.2.2.2.2.1
    have h9 : Fr b m ps (f 9) w3 := hv.2.2.2.2.2.2.2.2.2.2.2.2.2.1
    obtain ⟨aof, capf, h9, hf⟩ := h9
    have HF3 : Hid (Flx b m w3 aof ps) := hf
    have HBn3 : Hid (Bn wB w3 ao cap l b m md s) := HBn2.out.next hb
    have KA3 : Hid (Bk w.heap.size (acl a) w3) := KA2.out.later hb
    have KB3 : Hid (Bk b (bcs ao cap l md m cw s aoH capH aoT capT) w3) := KB2.out.later hb
    have HH3 : Hid (Flx b m w3 aoH s.held) := HH2.out.next hb
    have HT3 : Hid (Txx b m w3 aoT s.touched) := HT2.out.next hb
    have HWM3 : Hid (WM w3 m wl) := HWM2.out.next hb
    have HFL3 : Hid (∀ x ∈ wl, Flx b m w3 x.2.1 x.2.2.2) := fun x hx => (HFL2.out x hx).next hb
    have HLS3 : Hid (Flx b m w3 aol ls) := HLS2.out.next hb
    clear HBn2 KA2 KB2 HH2 HT2 HWM2 HFL2 HLS2
    clear hv hb hf HTG HLK HFF2 HGS2
    simp only [List.drop, over, overL, Nat.reduceAdd, h6, h9]
    clear h6 h9
    go_wp2
    refine HKK.out _ _ ?_
    clear HKK
    by_cases h1 : e1 = 0
    case neg =>
      have h2 : (e1 == 0) = false := by simp [h1]
      have h3 : (e1 != 0) = true := by simp [h1]
      have HQ : Hid (putA l s a = (s, e1)) := by
        show _ = _
        simp only [putA, HA.out, HTP.out, HDQ.out, HWF.out, HTQ.out]
        simp [h1]
      clear h1
      go_wp2
      go_ret
      exact ⟨by rw [HQ.out]; rfl, by rw [HQ.out]; exact HBn3.out⟩
    subst h1
    have HQ : Hid (putA l s a = ({ s with wells := wset s.wells a.pl ps, held := ls }, 0)) := by
      show _ = _
      simp only [putA, HA.out, HTP.out, HDQ.out, HWF.out, HTQ.out]
      simp
    obtain ⟨hon, hfew⟩ := HBn3.out.once HWL.out
    have q0 := (KA3.out).c 0 rfl
    have q1 := (KA3.out).c 1 rfl
    have q2 := (KA3.out).c 2 rfl
    have q3 := (KA3.out).c 3 rfl
    have q4 := (KA3.out).c 4 rfl
    have q5 := (KA3.out).c 5 rfl
    have q6 := (KA3.out).c 6 rfl
    have q7 := (KA3.out).c 7 rfl
    go_wp2_with fail
    refine (keep_any b m _ _ _ _ _ _ _ _ _ _ _ wl a.pl aof capf ps w3 KB3.out HWM3.out hon hfew HP.out).mono ?_
    rintro e w5 ⟨rfl, hwm, hg⟩
    have HWM5 : Hid (WM w5 m (setH wl a.pl (aof, capf, ps))) := hwm
    have HG : Hid (w3.grownBy w5 (some m)) := hg
    have KB5 : Hid (Bk b (bcs ao cap l md m cw s aoH capH aoT capT) w5) := KB3.out.same hg.size (hg.block b KB3.out.1 (by simpa using HBn3.out.ne.1))
    clear hwm hg hon hfew q0 q1 q2 q3 q4 q5 q6 q7
    have k0 := (KB5.out).c 0 rfl
    have kf0 := (KB5.out).f 0 rfl
    have k1 := (KB5.out).c 1 rfl
    have kf1 := (KB5.out).f 1 rfl
    have k2 := (KB5.out).c 2 rfl
    have kf2 := (KB5.out).f 2 rfl
    have k3 := (KB5.out).c 3 rfl
    have kf3 := (KB5.out).f 3 rfl
    have k4 := (KB5.out).c 4 rfl
    have kf4 := (KB5.out).f 4 rfl
    have k5 := (KB5.out).c 5 rfl
    have kf5 := (KB5.out).f 5 rfl
    have k6 := (KB5.out).c 6 rfl
    have kf6 := (KB5.out).f 6 rfl
    have k7 := (KB5.out).c 7 rfl
    have kf7 := (KB5.out).f 7 rfl
    have k8 := (KB5.out).c 8 rfl
    have kf8 := (KB5.out).f 8 rfl
    have k9 := (KB5.out).c 9 rfl
    have kf9 := (KB5.out).f 9 rfl
    have k10 := (KB5.out).c 10 rfl
    have kf10 := (KB5.out).f 10 rfl
    have k11 := (KB5.out).c 11 rfl
    have kf11 := (KB5.out).f 11 rfl
    have lt5 := KB5.out.1
    go_wp2
    go_ret
    have hmay := (may_put HBn3.out.may (by rw [HQ.out] : (putA l s a).2 = 0)).1
    rw [HQ.out] at hmay ⊢
    have hbut : But b m w3 (w5.setCell ⟨b, 7, none⟩ (.slice aol ls.length capl)) := (but_grown HG.out).trans (but_set b m w5 7 _)
    have hmb : m ≠ b := fun e => HBn3.out.ne.1 e.symm
    exact ⟨rfl, HBn3.out.keptTo HWL.out HFL3.out hbut (HWM5.out.same (Below.heap_setCell w5 ⟨b, 7, none⟩ _ m hmb)) (HF3.out.but hbut) hmay rfl (cw := cw) (aoH := aol) (capH := capl) (aoT := aoT) (capT := capT) (KB5.out.put 7 _) (HLS3.out.but hbut) (HT3.out.but hbut)⟩
end Go.Proofs.YtjappkfhballhaaGreat

/- draw walked. -/
namespace Go.Proofs.YtjappkfhballhaaGreat
open Go.RowKit Go.Maps
def dwV (b B m : Nat) (a : Acn) (fw : F.Fd) (d : Nat) (v : Value) (_ : World) : Prop :=
  match d with
  | 29 => v = .pointer (some ⟨b, 0, none⟩)
  | 30 => v = .pointer (some ⟨b, 0, none⟩)
  | 31 => v = .pointer (some ⟨b, 4, none⟩)
  | 32 => v = .map (some m)
  | 33 => v = .pointer (some ⟨B, 1, none⟩)
  | 34 => v = .agg #[.int .i64 a.pl.1, .int .i64 a.pl.2.1, .int .i64 a.pl.2.2]
  | 35 => v = .slice fw.1 fw.2.2.length fw.2.1
  | 7 => v = .slice fw.1 fw.2.2.length fw.2.1
  | _ => True
theorem dwV_mono (b B m : Nat) (a : Acn) (fw : F.Fd) (d : Nat) (v : Value) (w w' : World) (h : dwV b B m a fw d v w) (_ : Below w.heap.size w w') : dwV b B m a fw d v w' := h
def dxV (b m : Nat) (l : List Sit) (s : Sta) (aoH : Option Addr) (capH : Nat) (aog : Option Addr) (capg : Nat) (gs : List F.Pc) (ps : List F.Pc) (e1 : Int) (d : Nat) (v : Value) (w : World) : Prop :=
  match d with
  | 61 => v = .pointer (some ⟨b, 0, none⟩)
  | 62 => v = .pointer (some ⟨b, 0, none⟩)
  | 63 => v = .pointer (some ⟨b, 5, none⟩)
  | 64 => v = .pointer (some ⟨b, 7, none⟩)
  | 65 => v = .slice aoH s.held.length capH
  | 66 => v = .slice aog gs.length capg
  | 67 => v = .pointer (some ⟨b, 0, none⟩)
  | 68 => v = .pointer (some ⟨b, 0, none⟩)
  | 69 => v = .pointer (some ⟨b, 0, none⟩)
  | 70 => v = .pointer (some ⟨b, 2, none⟩)
  | 71 => v = .int .i64 (tipM l)
  | 72 => TF b m ps e1 v w
  | 60 => TF b m ps e1 v w
  | 73 => Fr b m ps v w
  | 74 => v = .int .i64 e1
  | 13 => Fr b m ps v w
  | 10 => v = .int .i64 e1
  | _ => True
theorem dxV_mono (b m : Nat) (l : List Sit) (s : Sta) (aoH : Option Addr) (capH : Nat) (aog : Option Addr) (capg : Nat) (gs : List F.Pc) (ps : List F.Pc) (e1 : Int) (d : Nat) (v : Value) (w w' : World) (h : dxV b m l s aoH capH aog capg gs ps e1 d v w) (hb : Below w.heap.size w w') : dxV b m l s aoH capH aog capg gs ps e1 d v w' := by
  unfold dxV at h ⊢
  split <;> simp only [] at h <;> first | exact h | exact h.later hb
set_option maxHeartbeats 6400000 in
set_option maxRecDepth 100000 in
theorem draw_any (wB w : World) (ao : Option Addr) (cap : Nat) (l : List Sit) (b m md : Nat) (s : Sta) (a : Acn) (hB : Bn wB w ao cap l b m md s) :
    Calls Tryz.prog 100 #[ptr b, av a] w fun e w' => e = .returned (.int .i64 (drawA l s a).2) ∧ Bn wB w' ao cap l b m md (drawA l s a).1 := by
  have HBN : Hid (Bn wB w ao cap l b m md s) := hB
  clear hB
  obtain ⟨w0, hw0⟩ : ∃ w0, w0 = w.alloc (aobj a) := ⟨_, rfl⟩
  have b0 : Below w.heap.size w w0 := by rw [hw0]; exact (Below.refl _ _).alloc (Nat.le_refl _) _
  have KA : Hid (Bk w.heap.size (acl a) w0) := by show Bk _ _ _; rw [hw0]; exact Bk.new w (acl a) 33 w.heap.size rfl
  have HB0 : Hid (Bn wB w0 ao cap l b m md s) := HBN.out.next b0
  have HW0 : Hid (w0 = w.alloc (aobj a)) := hw0
  clear hw0 b0
  obtain ⟨cw, aoH, capH, aoT, capT, K, hh, ht⟩ := HB0.out.bk
  have KB : Hid (Bk b (bcs ao cap l md m cw s aoH capH aoT capT) w0) := K
  have HH : Hid (Flx b m w0 aoH s.held) := hh
  have HT : Hid (Txx b m w0 aoT s.touched) := ht
  have hbw : b < w.heap.size := by obtain ⟨_, _, _, _, _, K', _⟩ := HBN.out.bk; exact K'.1
  have hbn : b ≠ w.heap.size := by omega
  have lt0 := KB.out.1
  clear K hh ht
  clear lt0
  go_enter Tryz.func100, Tryz.ntmps100
  go_wp2_with fail
  rw [← HW0.out]
  refine (aim_any wB w0 ao cap l b m md s a HB0.out).mono ?_
  rintro e w1 ⟨rfl, hb1⟩
  have HBn0 := HB0
  have KA0 := KA
  have KB0 := KB
  have HH0 := HH
  have HT0 := HT
  have HBn1 : Hid (Bn wB w1 ao cap l b m md s) := HBn0.out.next hb1
  have KA1 : Hid (Bk w.heap.size (acl a) w1) := KA0.out.later hb1
  have KB1 : Hid (Bk b (bcs ao cap l md m cw s aoH capH aoT capT) w1) := KB0.out.later hb1
  have HH1 : Hid (Flx b m w1 aoH s.held) := HH0.out.next hb1
  have HT1 : Hid (Txx b m w1 aoT s.touched) := HT0.out.next hb1
  clear HBn0 KA0 KB0 HH0 HT0
  have hbo1 : b < w1.heap.size := KB1.out.1
  clear hb1 HB0 KA KB HH HT
  obtain ⟨⟨mo, e0⟩, hM⟩ : ∃ x, aimR l a = x := ⟨_, rfl⟩
  have HA : Hid (aimR l a = (mo, e0)) := hM
  rw [hM]
  clear hM
  by_cases he : e0 = 0
  case neg =>
    have h2 : (e0 == 0) = false := by simp [he]
    have h3 : (e0 != 0) = true := by simp [he]
    have HQ : Hid (drawA l s a = (s, e0)) := by
      show _ = _
      simp only [drawA, HA.out]
      simp [he]
    clear he
    go_wp2
    go_ret
    exact ⟨by rw [HQ.out]; rfl, by rw [HQ.out]; exact HBn1.out⟩
  subst he
  have HP : Hid (Wf3 a.pl) := wf_place HBn1.out.hd (aim_ok (by rw [HA.out]))
  cases htp : s.tip with
  | false =>
    have HQ : Hid (drawA l s a = (s, 12)) := by
      show _ = _
      simp only [drawA, HA.out, htp]
      simp
    have k0 := (KB1.out).c 0 rfl
    have k1 := (KB1.out).c 1 rfl
    have k2 := (KB1.out).c 2 rfl
    have k3 := (KB1.out).c 3 rfl
    have k4 := (KB1.out).c 4 rfl
    have k5 := (KB1.out).c 5 rfl
    have k6 := (KB1.out).c 6 rfl
    have k7 := (KB1.out).c 7 rfl
    have k8 := (KB1.out).c 8 rfl
    have k9 := (KB1.out).c 9 rfl
    have k10 := (KB1.out).c 10 rfl
    have k11 := (KB1.out).c 11 rfl
    rw [htp] at k6
    go_wp2
    go_ret
    exact ⟨by rw [HQ.out]; rfl, by rw [HQ.out]; exact HBn1.out⟩
  | true =>
    obtain ⟨u1, u2, u3, u4⟩ := tip_parts HBn1.out.may htp
    have HTP : Hid (s.tip = true) := htp
    have HTT : Hid (s.touched.length ≤ 100 ∧ ∀ p ∈ drops s.touched, p.1.size ≤ maxLen) := ⟨(mayTouch_iff.1 u4).1, F.fine_size (withR_iff.1 (mayTouch_iff.1 u4).2.2).2.1⟩
    clear u1 u2 u3 u4
    have k0 := (KB1.out).c 0 rfl
    have k1 := (KB1.out).c 1 rfl
    have k2 := (KB1.out).c 2 rfl
    have k3 := (KB1.out).c 3 rfl
    have k4 := (KB1.out).c 4 rfl
    have k5 := (KB1.out).c 5 rfl
    have k6 := (KB1.out).c 6 rfl
    have k7 := (KB1.out).c 7 rfl
    have k8 := (KB1.out).c 8 rfl
    have k9 := (KB1.out).c 9 rfl
    have k10 := (KB1.out).c 10 rfl
    have k11 := (KB1.out).c 11 rfl
    rw [htp] at k6
    clear htp
    go_wp2_with fail
    rename_i KK hkk
    have HKK := (show Hid _ from hkk)
    clear hkk
    obtain ⟨wl, hwm, hwl, hfl⟩ := HBn1.out.wells
    obtain ⟨fw, hfw⟩ : ∃ x, fdAt wl a.pl = x := ⟨_, rfl⟩
    have hff := flx_at hfl a.pl
    rw [hfw] at hff
    have HFF1 : Hid (Flx b m w1 fw.1 fw.2.2) := hff
    have HLK : Hid (∀ W, Below w1.heap.size w1 W → (Instr.lookup 115 (.map (some m)) (plv a.pl) false).run Tryz.prog W = .ok (.slice fw.1 fw.2.2.length fw.2.1) W) := fun W hW => by
      have := (hwm.next hW).look HP.out
      rw [hfw] at this
      exact this
    have HWF : Hid (wellF s.wells a.pl = fw.2.2) := by show _ = _; rw [← hwl, ← fdAt_whp, hfw]
    have HWM1 : Hid (WM w1 m wl) := hwm
    have HWL : Hid (whp wl = s.wells) := hwl
    have HFL1 : Hid (∀ x ∈ wl, Flx b m w1 x.2.1 x.2.2.2) := hfl
    have HML : Hid (m < w1.heap.size) := hwm.lt
    clear hwm hwl hfl hfw hff
    clear k0 k1 k2 k3 k4 k5 k6 k7 k8 k9 k10 k11
    refine region_seqE 8 [false, false, false, false, false, false, false, true, false, false, false, false, false, false, false, false, false, false, false, false, false, false, false, false, false, false, false, false, false, true, true, true, true, true, true, true, false, false, false, false, false, false, false, false, false, false, false, false, false, false, false, false, false, false, false, false, false, false, false, false, false, false, false, false, false, false, false, false, false, false, false, false, false, false, false, false, false, false, false, false, false, false, false, false, false, false, false, false, false, false, false, false, false, false]
      [(29, [], none), (30, [29], none), (31, [30], none), (32, [31], none), (33, [], none), (34, [33], none), (35, [32, 34], none), (7, [35], none)]
      (dwV b w.heap.size m a fw) (by kernel_rfl) (by kernel_rfl) (by kernel_rfl) (by kernel_rfl) (by kernel_rfl) (by decide) (dwV_mono b w.heap.size m a fw) ?_ ?_
    · refine ⟨?_, ?_, ?_, ?_, ?_, ?_, ?_, ?_, trivial⟩
      · intro f wA hb _ K hK
        simp only [over, overL, Nat.reduceAdd]
        go_simp
        exact hK _ _ ⟨_, rfl, by simp only [over, overL, Nat.reduceAdd]; rfl, Below.refl _ _⟩
      · intro f wA hb ⟨h29, _⟩ K hK
        replace h29 : f 29 = _ := h29
        simp only [over, overL, Nat.reduceAdd, h29]
        go_simp
        exact hK _ _ ⟨_, rfl, by simp only [over, overL, Nat.reduceAdd, h29]; rfl, Below.refl _ _⟩
      · intro f wA hb ⟨h30, _⟩ K hK
        replace h30 : f 30 = _ := h30
        simp only [over, overL, Nat.reduceAdd, h30]
        go_simp
        exact hK _ _ ⟨_, rfl, by simp only [over, overL, Nat.reduceAdd, h30]; rfl, Below.refl _ _⟩
      · intro f wA hb ⟨h31, _⟩ K hK
        replace h31 : f 31 = _ := h31
        have q4 := (KB1.out.later hb).c 4 rfl
        simp only [over, overL, Nat.reduceAdd, h31]
        go_simp
        exact hK _ _ ⟨_, rfl, by simp only [over, overL, Nat.reduceAdd, h31]; rfl, Below.refl _ _⟩
      · intro f wA hb _ K hK
        simp only [over, overL, Nat.reduceAdd]
        go_simp
        exact hK _ _ ⟨_, rfl, by simp only [over, overL, Nat.reduceAdd]; rfl, Below.refl _ _⟩
      · intro f wA hb ⟨h33, _⟩ K hK
        replace h33 : f 33 = _ := h33
        have q1 := (KA1.out.later hb).c 1 rfl
        have q2 := (KA1.out.later hb).c 2 rfl
        have q3 := (KA1.out.later hb).c 3 rfl
        simp only [over, overL, Nat.reduceAdd, h33]
        go_simp
        exact hK _ _ ⟨_, rfl, by simp only [over, overL, Nat.reduceAdd, h33]; rfl, Below.refl _ _⟩
      · intro f wA hb ⟨h32, h34, _⟩ K hK
        replace h32 : f 32 = _ := h32
        replace h34 : f 34 = _ := h34
        have ql := HLK.out wA hb
        simp only [over, overL, Nat.reduceAdd, h32, h34]
        go_simp
        exact hK _ _ ⟨_, rfl, by simp only [over, overL, Nat.reduceAdd, h32, h34]; rfl, Below.refl _ _⟩
      · intro f wA hb ⟨h35, _⟩ K hK
        replace h35 : f 35 = _ := h35
        simp only [over, overL, Nat.reduceAdd, h35]
        go_simp
        exact hK _ _ ⟨_, rfl, by simp only [over, overL, Nat.reduceAdd, h35]; rfl, Below.refl _ _⟩
    intro f w2 hb hv
    have h7 : f 7 = _ := hv.2.2.2.2.2.2.2.1
    have HBn2 : Hid (Bn wB w2 ao cap l b m md s) := HBn1.out.next hb
    have KA2 : Hid (Bk w.heap.size (acl a) w2) := KA1.out.later hb
    have KB2 : Hid (Bk b (bcs ao cap l md m cw s aoH capH aoT capT) w2) := KB1.out.later hb
    have HH2 : Hid (Flx b m w2 aoH s.held) := HH1.out.next hb
    have HT2 : Hid (Txx b m w2 aoT s.touched) := HT1.out.next hb
    have HWM2 : Hid (WM w2 m wl) := HWM1.out.next hb
    have HFL2 : Hid (∀ x ∈ wl, Flx b m w2 x.2.1 x.2.2.2) := fun x hx => (HFL1.out x hx).next hb
    have HFF2 : Hid (Flx b m w2 fw.1 fw.2.2) := HFF1.out.next hb
    clear HBn1 KA1 KB1 HH1 HT1 HWM1 HFL1 HFF1
    have HML2 : Hid (m < w2.heap.size) := Nat.lt_of_lt_of_le HML.out hb.size
    clear hv hb HLK HML
    simp only [List.drop, over, overL, Nat.reduceAdd, h7]
    clear h7
    go_wp2
    refine HKK.out _ _ ?_
    clear HKK
    obtain ⟨⟨gs, ls, e2⟩, hdq⟩ : ∃ x, F.drawF a.vol fw.2.2 = x := ⟨_, rfl⟩
    have HDQ : Hid (F.drawF a.vol fw.2.2 = (gs, ls, e2)) := hdq
    clear hdq
    have q0 := (KA2.out).c 0 rfl
    have q1 := (KA2.out).c 1 rfl
    have q2 := (KA2.out).c 2 rfl
    have q3 := (KA2.out).c 3 rfl
    have q4 := (KA2.out).c 4 rfl
    have q5 := (KA2.out).c 5 rfl
    have q6 := (KA2.out).c 6 rfl
    have q7 := (KA2.out).c 7 rfl
    go_wp2_with fail
    clear q0 q1 q2 q3 q4 q5 q6 q7
    refine (draw_fr b m fw.1 fw.2.1 fw.2.2 a.vol w2 HFF2.out.1 KB2.out.1 HML2.out).mono ?_
    rw [HDQ.out]
    rintro e w3 ⟨_, rfl, ⟨_, _, rfl, ⟨aog, capg, rfl, hg⟩, ⟨aol, capl, rfl, hl⟩⟩, hb⟩
    have HGS3 : Hid (Flx b m w3 aog gs) := hg
    have HLS3 : Hid (Flx b m w3 aol ls) := hl
    have HBn3 : Hid (Bn wB w3 ao cap l b m md s) := HBn2.out.next hb
    have KA3 : Hid (Bk w.heap.size (acl a) w3) := KA2.out.later hb
    have KB3 : Hid (Bk b (bcs ao cap l md m cw s aoH capH aoT capT) w3) := KB2.out.later hb
    have HH3 : Hid (Flx b m w3 aoH s.held) := HH2.out.next hb
    have HT3 : Hid (Txx b m w3 aoT s.touched) := HT2.out.next hb
    have HWM3 : Hid (WM w3 m wl) := HWM2.out.next hb
    have HFL3 : Hid (∀ x ∈ wl, Flx b m w3 x.2.1 x.2.2.2) := fun x hx => (HFL2.out x hx).next hb
    have HFF3 : Hid (Flx b m w3 fw.1 fw.2.2) := HFF2.out.next hb
    clear HBn2 KA2 KB2 HH2 HT2 HWM2 HFL2 HFF2
    have HML3 : Hid (m < w3.heap.size) := Nat.lt_of_lt_of_le HML2.out hb.size
    clear hb hg hl HML2
    simp only at HGS3 HLS3 ⊢
    by_cases hc : e2 = 0
    case neg =>
      have h2 : (e2 == 0) = false := by simp [hc]
      have h3 : (e2 != 0) = true := by simp [hc]
      have HQ : Hid (drawA l s a = (s, e2)) := by
        show _ = _
        simp only [drawA, HA.out, HTP.out, HWF.out, HDQ.out]
        simp [hc]
      clear hc
      go_wp2
      go_ret
      exact ⟨by rw [HQ.out]; rfl, by rw [HQ.out]; exact HBn3.out⟩
    subst hc
    have k0 := (KB3.out).c 0 rfl
    have k1 := (KB3.out).c 1 rfl
    have k2 := (KB3.out).c 2 rfl
    have k3 := (KB3.out).c 3 rfl
    have k4 := (KB3.out).c 4 rfl
    have k5 := (KB3.out).c 5 rfl
    have k6 := (KB3.out).c 6 rfl
    have k7 := (KB3.out).c 7 rfl
    have k8 := (KB3.out).c 8 rfl
    have k9 := (KB3.out).c 9 rfl
    have k10 := (KB3.out).c 10 rfl
    have k11 := (KB3.out).c 11 rfl
    go_wp2_with fail
    refine (drops_any aoT capT s.touched w3 HT3.out.1 HTT.out.1).mono ?_
    rintro e w3a ⟨_, rfl, ho, hb⟩
    obtain ⟨aod, capd, rfl, hd⟩ := fl_of ho HTT.out.2
    have HDD : Hid (F.Fl w3a aod (drops s.touched)) := hd
    have HBn3a : Hid (Bn wB w3a ao cap l b m md s) := HBn3.out.next hb
    have KA3a : Hid (Bk w.heap.size (acl a) w3a) := KA3.out.later hb
    have KB3a : Hid (Bk b (bcs ao cap l md m cw s aoH capH aoT capT) w3a) := KB3.out.later hb
    have HH3a : Hid (Flx b m w3a aoH s.held) := HH3.out.next hb
    have HT3a : Hid (Txx b m w3a aoT s.touched) := HT3.out.next hb
    have HWM3a : Hid (WM w3a m wl) := HWM3.out.next hb
    have HFL3a : Hid (∀ x ∈ wl, Flx b m w3a x.2.1 x.2.2.2) := fun x hx => (HFL3.out x hx).next hb
    have HFF3a : Hid (Flx b m w3a fw.1 fw.2.2) := HFF3.out.next hb
    have HGS3a : Hid (Flx b m w3a aog gs) := HGS3.out.next hb
    have HLS3a : Hid (Flx b m w3a aol ls) := HLS3.out.next hb
    clear HBn3 KA3 KB3 HH3 HT3 HWM3 HFL3 HFF3 HGS3 HLS3
    have HML3a : Hid (m < w3a.heap.size) := Nat.lt_of_lt_of_le HML3.out hb.size
    clear hb ho hd HML3 k0 k1 k2 k3 k4 k5 k6 k7 k8 k9 k10 k11
    go_wp2_with fail
    refine (F.withinF_any aod fw.1 capd fw.2.1 (drops s.touched) fw.2.2 w3a HDD.out HFF3a.out.1).mono ?_
    rintro e w4 ⟨rfl, hb⟩
    have HBn4 : Hid (Bn wB w4 ao cap l b m md s) := HBn3a.out.next hb
    have KA4 : Hid (Bk w.heap.size (acl a) w4) := KA3a.out.later hb
    have KB4 : Hid (Bk b (bcs ao cap l md m cw s aoH capH aoT capT) w4) := KB3a.out.later hb
    have HH4 : Hid (Flx b m w4 aoH s.held) := HH3a.out.next hb
    have HT4 : Hid (Txx b m w4 aoT s.touched) := HT3a.out.next hb
    have HWM4 : Hid (WM w4 m wl) := HWM3a.out.next hb
    have HFL4 : Hid (∀ x ∈ wl, Flx b m w4 x.2.1 x.2.2.2) := fun x hx => (HFL3a.out x hx).next hb
    have HFF4 : Hid (Flx b m w4 fw.1 fw.2.2) := HFF3a.out.next hb
    have HGS4 : Hid (Flx b m w4 aog gs) := HGS3a.out.next hb
    have HLS4 : Hid (Flx b m w4 aol ls) := HLS3a.out.next hb
    clear HBn3a KA3a KB3a HH3a HT3a HWM3a HFL3a HFF3a HGS3a HLS3a
    have HML4 : Hid (m < w4.heap.size) := Nat.lt_of_lt_of_le HML3a.out hb.size
    clear hb HDD HML3a
    obtain ⟨⟨cl, e3⟩, hwq⟩ : ∃ x, F.withR (drops s.touched) fw.2.2 = x := ⟨_, rfl⟩
    have HWQ : Hid (F.withR (drops s.touched) fw.2.2 = (cl, e3)) := hwq
    rw [hwq]
    clear hwq
    simp only
    cases cl with
    | false =>
      have HQ : Hid (drawA l s a = (s, 11)) := by
        show _ = _
        simp only [drawA, HA.out, HTP.out, HWF.out, HDQ.out, HWQ.out]
        simp
      go_wp2
      go_ret
      exact ⟨by rw [HQ.out]; rfl, by rw [HQ.out]; exact HBn4.out⟩
    | true =>
    go_wp2_with fail
    rename_i KK hkk
    have HKK := (show Hid _ from hkk)
    clear hkk
    obtain ⟨⟨ps, e1⟩, htq⟩ : ∃ x, togR s.held gs (tipM l) = x := ⟨_, rfl⟩
    have HTQ : Hid (togR s.held gs (tipM l) = (ps, e1)) := htq
    have HTG : Hid (∀ W, Below w4.heap.size w4 W → Calls Tryz.prog 120 #[.slice aoH s.held.length capH, .slice aog gs.length capg, .int .i64 (tipM l)] W fun e w' => ∃ v, e = .returned v ∧ TF b m ps e1 v w' ∧ Below W.heap.size W w') := fun W hW => by
      have := tog_fr b m aoH aog capH capg s.held gs (tipM l) W (HH4.out.next hW).1 (HGS4.out.next hW).1 (Nat.lt_of_lt_of_le KB4.out.1 hW.size) (Nat.lt_of_lt_of_le HML4.out hW.size)
      rw [HTQ.out] at this
      exact this
    clear htq
    refine region_seqE 17 [false, false, false, false, false, false, false, false, false, false, true, false, false, true, false, false, false, false, false, false, false, false, false, false, false, false, false, false, false, false, false, false, false, false, false, false, false, false, false, false, false, false, false, false, false, false, false, false, false, false, false, false, false, false, false, false, false, false, false, false, true, true, true, true, true, true, true, true, true, true, true, true, true, true, true, false, false, false, false, false, false, false, false, false, false, false, false, false, false, false, false, false, false, false]
      [(61, [], none), (62, [61], none), (63, [62], none), (64, [63], none), (65, [64], none), (66, [], none), (67, [], none), (68, [67], none), (69, [68], none), (70, [69], none), (71, [70], none), (72, [65, 66, 71], none), (60, [72], none), (73, [60], none), (74, [60], none), (13, [73], none), (10, [74], none)]
      (dxV b m l s aoH capH aog capg gs ps e1) (by kernel_rfl) (by kernel_rfl) (by kernel_rfl) (by kernel_rfl) (by kernel_rfl) (by decide) (dxV_mono b m l s aoH capH aog capg gs ps e1) ?_ ?_
    · refine ⟨?_, ?_, ?_, ?_, ?_, ?_, ?_, ?_, ?_, ?_, ?_, ?_, ?_, ?_, ?_, ?_, ?_, trivial⟩
      · intro f wA hb _ K hK
        simp only [over, overL, Nat.reduceAdd]
        go_simp
        exact hK _ _ ⟨_, rfl, by simp only [over, overL, Nat.reduceAdd]; rfl, Below.refl _ _⟩
      · intro f wA hb ⟨h61, _⟩ K hK
        replace h61 : f 61 = _ := h61
        simp only [over, overL, Nat.reduceAdd, h61]
        go_simp
        exact hK _ _ ⟨_, rfl, by simp only [over, overL, Nat.reduceAdd, h61]; rfl, Below.refl _ _⟩
      · intro f wA hb ⟨h62, _⟩ K hK
        replace h62 : f 62 = _ := h62
        simp only [over, overL, Nat.reduceAdd, h62]
        go_simp
        exact hK _ _ ⟨_, rfl, by simp only [over, overL, Nat.reduceAdd, h62]; rfl, Below.refl _ _⟩
      · intro f wA hb ⟨h63, _⟩ K hK
        replace h63 : f 63 = _ := h63
        simp only [over, overL, Nat.reduceAdd, h63]
        go_simp
        exact hK _ _ ⟨_, rfl, by simp only [over, overL, Nat.reduceAdd, h63]; rfl, Below.refl _ _⟩
      · intro f wA hb ⟨h64, _⟩ K hK
        replace h64 : f 64 = _ := h64
        have q7 := (KB4.out.later hb).c 7 rfl
        simp only [over, overL, Nat.reduceAdd, h64]
        go_simp
        exact hK _ _ ⟨_, rfl, by simp only [over, overL, Nat.reduceAdd, h64]; rfl, Below.refl _ _⟩
      · intro f wA hb _ K hK
        simp only [over, overL, Nat.reduceAdd]
        go_simp
        exact hK _ _ ⟨_, rfl, by simp only [over, overL, Nat.reduceAdd]; rfl, Below.refl _ _⟩
      · intro f wA hb _ K hK
        simp only [over, overL, Nat.reduceAdd]
        go_simp
        exact hK _ _ ⟨_, rfl, by simp only [over, overL, Nat.reduceAdd]; rfl, Below.refl _ _⟩
      · intro f wA hb ⟨h67, _⟩ K hK
        replace h67 : f 67 = _ := h67
        simp only [over, overL, Nat.reduceAdd, h67]
        go_simp
        exact hK _ _ ⟨_, rfl, by simp only [over, overL, Nat.reduceAdd, h67]; rfl, Below.refl _ _⟩
      · intro f wA hb ⟨h68, _⟩ K hK
        replace h68 : f 68 = _ := h68
        simp only [over, overL, Nat.reduceAdd, h68]
        go_simp
        exact hK _ _ ⟨_, rfl, by simp only [over, overL, Nat.reduceAdd, h68]; rfl, Below.refl _ _⟩
      · intro f wA hb ⟨h69, _⟩ K hK
        replace h69 : f 69 = _ := h69
        simp only [over, overL, Nat.reduceAdd, h69]
        go_simp
        exact hK _ _ ⟨_, rfl, by simp only [over, overL, Nat.reduceAdd, h69]; rfl, Below.refl _ _⟩
      · intro f wA hb ⟨h70, _⟩ K hK
        replace h70 : f 70 = _ := h70
        have q2 := (KB4.out.later hb).c 2 rfl
        simp only [over, overL, Nat.reduceAdd, h70]
        go_simp
        exact hK _ _ ⟨_, rfl, by simp only [over, overL, Nat.reduceAdd, h70]; rfl, Below.refl _ _⟩
      · intro f wA hb ⟨h65, h66, h71, _⟩ K hK
        replace h65 : f 65 = _ := h65
        replace h66 : f 66 = _ := h66
        replace h71 : f 71 = _ := h71
        simp only [over, overL, Nat.reduceAdd, h65, h66, h71]
        go_simp
        refine ((HTG.out wA hb).mono) ?_
        rintro e w2 ⟨x, rfl, ht, hb2⟩
        exact hK _ _ ⟨_, ht, by simp only [over, overL, Nat.reduceAdd, h65, h66, h71]; rfl, hb2⟩
      · intro f wA hb ⟨h72, _⟩ K hK
        simp only [over, overL, Nat.reduceAdd]
        go_simp
        exact hK _ _ ⟨_, h72, by simp only [over, overL, Nat.reduceAdd]; rfl, Below.refl _ _⟩
      · intro f wA hb ⟨h60, _⟩ K hK
        obtain ⟨x, h60, hx⟩ := h60
        simp only [over, overL, Nat.reduceAdd, h60]
        go_simp
        exact hK _ _ ⟨_, hx, by simp only [over, overL, Nat.reduceAdd, h60]; rfl, Below.refl _ _⟩
      · intro f wA hb ⟨h60, _⟩ K hK
        obtain ⟨x, h60, hx⟩ := h60
        simp only [over, overL, Nat.reduceAdd, h60]
        go_simp
        exact hK _ _ ⟨_, rfl, by simp only [over, overL, Nat.reduceAdd, h60]; rfl, Below.refl _ _⟩
      · intro f wA hb ⟨h73, _⟩ K hK
        simp only [over, overL, Nat.reduceAdd]
        go_simp
        exact hK _ _ ⟨_, h73, by simp only [over, overL, Nat.reduceAdd]; rfl, Below.refl _ _⟩
      · intro f wA hb ⟨h74, _⟩ K hK
        replace h74 : f 74 = _ := h74
        simp only [over, overL, Nat.reduceAdd, h74]
        go_simp
        exact hK _ _ ⟨_, rfl, by simp only [over, overL, Nat.reduceAdd, h74]; rfl, Below.refl _ _⟩
    intro f w5 hb hv
    have h10 : f 10 = _ := hv.2.2.2.2.2.2.2.2.2.2.2.2.2.2.2.2.1
    have h13 : Fr b m ps (f 13) w5 := hv.2.2.2.2.2.2.2.2.2.2.2.2.2.2.2.1
    obtain ⟨aof, capf, h13, hf⟩ := h13
    have HF5 : Hid (Flx b m w5 aof ps) := hf
    have HBn5 : Hid (Bn wB w5 ao cap l b m md s) := HBn4.out.next hb
    have KA5 : Hid (Bk w.heap.size (acl a) w5) := KA4.out.later hb
    have KB5 : Hid (Bk b (bcs ao cap l md m cw s aoH capH aoT capT) w5) := KB4.out.later hb
    have HH5 : Hid (Flx b m w5 aoH s.held) := HH4.out.next hb
    have HT5 : Hid (Txx b m w5 aoT s.touched) := HT4.out.next hb
    have HWM5 : Hid (WM w5 m wl) := HWM4.out.next hb
    have HFL5 : Hid (∀ x ∈ wl, Flx b m w5 x.2.1 x.2.2.2) := fun x hx => (HFL4.out x hx).next hb
    have HFF5 : Hid (Flx b m w5 fw.1 fw.2.2) := HFF4.out.next hb
    have HGS5 : Hid (Flx b m w5 aog gs) := HGS4.out.next hb
    have HLS5 : Hid (Flx b m w5 aol ls) := HLS4.out.next hb
    clear HBn4 KA4 KB4 HH4 HT4 HWM4 HFL4 HFF4 HGS4 HLS4
    clear hv hb hf HTG HML4
    simp only [List.drop, over, overL, Nat.reduceAdd, h10, h13]
    clear h10 h13
    go_wp2
    refine HKK.out _ _ ?_
    clear HKK
    by_cases h1 : e1 = 0
    case neg =>
      have h2 : (e1 == 0) = false := by simp [h1]
      have h3 : (e1 != 0) = true := by simp [h1]
      have HQ : Hid (drawA l s a = (s, e1)) := by
        show _ = _
        simp only [drawA, HA.out, HTP.out, HWF.out, HDQ.out, HWQ.out, HTQ.out]
        simp [h1]
      clear h1
      go_wp2
      go_ret
      exact ⟨by rw [HQ.out]; rfl, by rw [HQ.out]; exact HBn5.out⟩
    subst h1
    have HQ : Hid (drawA l s a = ({ s with wells := wset s.wells a.pl ls, held := ps, touched := labsR fw.2.2 }, 0)) := by
      show _ = _
      simp only [drawA, HA.out, HTP.out, HWF.out, HDQ.out, HWQ.out, HTQ.out]
      simp
    have HFR : Hid (F.fref fw.2.2 = 0) := (drawF_ok (by rw [HDQ.out] : (F.drawF a.vol fw.2.2).2.2 = 0)).1
    obtain ⟨hon, hfew⟩ := HBn5.out.once HWL.out
    have q0 := (KA5.out).c 0 rfl
    have q1 := (KA5.out).c 1 rfl
    have q2 := (KA5.out).c 2 rfl
    have q3 := (KA5.out).c 3 rfl
    have q4 := (KA5.out).c 4 rfl
    have q5 := (KA5.out).c 5 rfl
    have q6 := (KA5.out).c 6 rfl
    have q7 := (KA5.out).c 7 rfl
    go_wp2_with fail
    refine (keep_any b m _ _ _ _ _ _ _ _ _ _ _ wl a.pl aol capl ls w5 KB5.out HWM5.out hon hfew HP.out).mono ?_
    rintro e w6 ⟨rfl, hwm, hg⟩
    have hbut : But b m w5 w6 := but_grown hg
    have HWM6 : Hid (WM w6 m (setH wl a.pl (aol, capl, ls))) := hwm
    have KB6 : Hid (Bk b (bcs ao cap l md m cw s aoH capH aoT capT) w6) := KB5.out.same hg.size (hg.block b KB5.out.1 (by simpa using HBn5.out.ne.1))
    have HFF6 : Hid (Flx b m w6 fw.1 fw.2.2) := HFF5.out.but hbut
    have HBU : Hid (But b m w5 w6) := hbut
    clear hwm hg hbut hon hfew q0 q1 q2 q3 q4 q5 q6 q7
    go_wp2_with fail
    refine (labelsOf_any fw.1 fw.2.1 fw.2.2 w6 HFF6.out.1 HFR.out).mono ?_
    rintro e w7 ⟨_, rfl, ho, hb⟩
    have hsz : ∀ x ∈ labsR fw.2.2, x.size ≤ maxLen := fun x hx => by
      obtain ⟨p, hp, rfl, _⟩ := mem_labsR.1 hx
      exact F.fine_size HFR.out p hp
    obtain ⟨aoL, capL, rfl, ht⟩ := txx_of (b := b) (m := m) ho hsz KB6.out.1 HWM6.out.lt
    have HTL : Hid (Txx b m w7 aoL (labsR fw.2.2)) := ht
    have KB7 : Hid (Bk b (bcs ao cap l md m cw s aoH capH aoT capT) w7) := KB6.out.later hb
    have HWM7 : Hid (WM w7 m (setH wl a.pl (aol, capl, ls))) := HWM6.out.next hb
    have HBU7 : Hid (But b m w5 w7) := HBU.out.trans (but_below hb)
    clear ho hsz ht hb
    have k0 := (KB7.out).c 0 rfl
    have kf0 := (KB7.out).f 0 rfl
    have k1 := (KB7.out).c 1 rfl
    have kf1 := (KB7.out).f 1 rfl
    have k2 := (KB7.out).c 2 rfl
    have kf2 := (KB7.out).f 2 rfl
    have k3 := (KB7.out).c 3 rfl
    have kf3 := (KB7.out).f 3 rfl
    have k4 := (KB7.out).c 4 rfl
    have kf4 := (KB7.out).f 4 rfl
    have k5 := (KB7.out).c 5 rfl
    have kf5 := (KB7.out).f 5 rfl
    have k6 := (KB7.out).c 6 rfl
    have kf6 := (KB7.out).f 6 rfl
    have k7 := (KB7.out).c 7 rfl
    have kf7 := (KB7.out).f 7 rfl
    have k8 := (KB7.out).c 8 rfl
    have kf8 := (KB7.out).f 8 rfl
    have k9 := (KB7.out).c 9 rfl
    have kf9 := (KB7.out).f 9 rfl
    have k10 := (KB7.out).c 10 rfl
    have kf10 := (KB7.out).f 10 rfl
    have k11 := (KB7.out).c 11 rfl
    have kf11 := (KB7.out).f 11 rfl
    have lt5 := KB7.out.1
    go_wp2
    go_ret
    have hmay := (may_draw HBn5.out.hd HBn5.out.may (by rw [HQ.out] : (drawA l s a).2 = 0)).1
    rw [HQ.out] at hmay ⊢
    have hst : But b m w7 ((w7.setCell ⟨b, 7, none⟩ (.slice aof ps.length capf)).setCell ⟨b, 8, none⟩ (.slice aoL (labsR fw.2.2).length capL)) := (but_set b m w7 7 _).trans (but_set b m _ 8 _)
    have hbut := HBU7.out.trans hst
    have hmb : m ≠ b := fun e => HBn5.out.ne.1 e.symm
    exact ⟨rfl, HBn5.out.keptTo HWL.out HFL5.out hbut (HWM7.out.same ((Below.heap_setCell _ ⟨b, 8, none⟩ _ m hmb).trans (Below.heap_setCell w7 ⟨b, 7, none⟩ _ m hmb))) (HLS5.out.but hbut) hmay rfl (cw := cw) (aoH := aof) (capH := capf) (aoT := aoL) (capT := capL) ((KB7.out.put 7 _).put 8 _) (HF5.out.but hbut) (HTL.out.but hst)⟩
end Go.Proofs.YtjappkfhballhaaGreat
