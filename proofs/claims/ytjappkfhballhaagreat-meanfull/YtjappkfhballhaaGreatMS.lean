/- fill walked. -/
import Derived.Test.YtjappkfhballhaaGreatMQ
namespace Go.Proofs.YtjappkfhballhaaGreat
open Go.RowKit Go.Maps

/-- A fluid that lies apart from blocks b and m, as a value. -/
def Fr (b m : Nat) (ps : List F.Pc) (v : Value) (w : World) : Prop := ∃ ao cap, v = .slice ao ps.length cap ∧ Flx b m w ao ps
theorem Fr.later {b m : Nat} {ps : List F.Pc} {v : Value} {w w1 : World} (h : Fr b m ps v w) (hb : Below w.heap.size w w1) : Fr b m ps v w1 := by
  obtain ⟨ao, cap, e, hf⟩ := h
  exact ⟨ao, cap, e, hf.next hb⟩
def TF (b m : Nat) (ps : List F.Pc) (e : Int) (v : Value) (w : World) : Prop := ∃ x, v = .tuple #[x, .int .i64 e] ∧ Fr b m ps x w
theorem TF.later {b m : Nat} {ps : List F.Pc} {e : Int} {v : Value} {w w1 : World} (h : TF b m ps e v w) (hb : Below w.heap.size w w1) : TF b m ps e v w1 := by
  obtain ⟨x, h1, h2⟩ := h
  exact ⟨x, h1, h2.later hb⟩
def TG3 (b m : Nat) (ps qs : List F.Pc) (e : Int) (v : Value) (w : World) : Prop := ∃ x y, v = .tuple #[x, y, .int .i64 e] ∧ Fr b m ps x w ∧ Fr b m qs y w
theorem TG3.later {b m : Nat} {ps qs : List F.Pc} {e : Int} {v : Value} {w w1 : World} (h : TG3 b m ps qs e v w) (hb : Below w.heap.size w w1) : TG3 b m ps qs e v w1 := by
  obtain ⟨x, y, h1, h2, h3⟩ := h
  exact ⟨x, y, h1, h2.later hb, h3.later hb⟩
theorem tog_sizes (f g : List F.Pc) (m : Int) : ∀ p ∈ (togR f g m).1, p.1.size ≤ maxLen := by
  by_cases h : (togR f g m).2 = 0
  · exact F.fine_size (mayHold_iff.1 (mayHold_tog h)).1
  · have : (togR f g m).1 = [] := by
      unfold togR at h ⊢
      split at h
      · rename_i h1; rw [if_pos h1]
      · rename_i h1
        rw [if_neg h1]
        unfold F.putR at h ⊢
        repeat' split at h
        all_goals first | (exfalso; exact h rfl) | (repeat' split) <;> simp_all
    rw [this]
    intro p hp
    simp at hp
theorem draw_sizes (v : Int) (f : List F.Pc) : (∀ p ∈ (F.drawF v f).1, p.1.size ≤ maxLen) ∧ ∀ p ∈ (F.drawF v f).2.1, p.1.size ≤ maxLen := by
  by_cases h : (F.drawF v f).2.2 = 0
  · obtain ⟨h1, h2, h3, h4, h5⟩ := drawF_ok h
    obtain ⟨g1, g2⟩ := F.draw_fine h2 h1
    rw [h4, h5]
    exact ⟨F.fine_size g1, F.fine_size g2⟩
  · have : (F.drawF v f).1 = [] ∧ (F.drawF v f).2.1 = [] := by
      unfold F.drawF at h ⊢
      repeat' split at h
      all_goals first | (exfalso; exact h rfl) | (repeat' split) <;> simp_all
    rw [this.1, this.2]
    exact ⟨fun p hp => by simp at hp, fun p hp => by simp at hp⟩
theorem tog_fr (b m : Nat) (ao ao' : Option Addr) (cap cap' : Nat) (f g : List F.Pc) (mo : Int) (w : World) (h : F.Fl w ao f) (h' : F.Fl w ao' g) (hb : b < w.heap.size) (hm : m < w.heap.size) :
    Calls Tryz.prog 120 #[.slice ao f.length cap, .slice ao' g.length cap', .int .i64 mo] w fun e w' => ∃ v, e = .returned v ∧ TF b m (togR f g mo).1 (togR f g mo).2 v w' ∧ Below w.heap.size w w' := by
  refine (together_any ao ao' cap cap' f g mo w h h').mono ?_
  rintro e w' ⟨v, rfl, ho, hb'⟩
  exact ⟨_, rfl, ⟨v, rfl, flx_of ho (tog_sizes f g mo) hb hm⟩, hb'⟩
theorem draw_fr (b m : Nat) (ao : Option Addr) (cap : Nat) (ps : List F.Pc) (v : Int) (w : World) (h : F.Fl w ao ps) (hb : b < w.heap.size) (hm : m < w.heap.size) :
    Calls Tryz.prog 122 #[.slice ao ps.length cap, .int .i64 v] w fun e w' => ∃ x, e = .returned x ∧ TG3 b m (F.drawF v ps).1 (F.drawF v ps).2.1 (F.drawF v ps).2.2 x w' ∧ Below w.heap.size w w' := by
  refine (F.draw_any ao cap ps v w h).mono ?_
  rintro e w' ⟨x, y, rfl, h1, h2, hb'⟩
  exact ⟨_, rfl, ⟨x, y, rfl, flx_of h1 (draw_sizes v ps).1 hb hm, flx_of h2 (draw_sizes v ps).2 hb hm⟩, hb'⟩
theorem Bn.keptTo {wB w w1 : World} {ao : Option Addr} {cap : Nat} {l : List Sit} {b m md : Nat} {s s' : Sta} (h : Bn wB w ao cap l b m md s) {wl : List Wh} (hwl : whp wl = s.wells) (hfl : ∀ x ∈ wl, Flx b m w x.2.1 x.2.2.2) {p : Plc} {aof : Option Addr} {capf : Nat} {f : List F.Pc} (hbut : But b m w w1) (hwm : WM w1 m (setH wl p (aof, capf, f))) (hf : Flx b m w1 aof f) (hmay : May l s') (hs : s'.wells = wset s.wells p f)
    {cw : Option Addr × Nat × Nat} {aoH : Option Addr} {capH : Nat} {aoT : Option Addr} {capT : Nat} (hbk : Bk b (bcs ao cap l md m cw s' aoH capH aoT capT) w1) (hh : Flx b m w1 aoH s'.held) (ht : Txx b m w1 aoT s'.touched) : Bn wB w1 ao cap l b m md s' :=
  h.turned hbut hmay hwm (by rw [whp_setH, hwl, hs]) (fun x hx => by rcases mem_setH hx with rfl | hx; exact hf; exact (hfl x hx).but hbut) hbk hh ht
theorem flx_at {b m : Nat} {w : World} {wl : List Wh} (h : ∀ x ∈ wl, Flx b m w x.2.1 x.2.2.2) (p : Plc) : Flx b m w (fdAt wl p).1 (fdAt wl p).2.2 := by
  rcases fdAt_cases wl p with ⟨_, e⟩ | ⟨x, hx, _, e⟩
  · rw [e]
    exact ⟨⟨fun p hp => by simp at hp, .inl rfl⟩, .inl rfl⟩
  · rw [e]
    exact h x hx
theorem aim_ok {l : List Sit} {a : Acn} (h : (aimR l a).2 = 0) : (wellM l a.pl).2 = 0 := by
  unfold aimR at h
  split at h
  · assumption
  · exact h
def fiV (b B m c : Nat) (a : Acn) (mo : Int) (fw : F.Fd) (ps : List F.Pc) (e1 : Int) (d : Nat) (v : Value) (w : World) : Prop :=
  match d with
  | 31 => v = .pointer (some ⟨b, 0, none⟩)
  | 32 => v = .pointer (some ⟨b, 0, none⟩)
  | 33 => v = .pointer (some ⟨b, 4, none⟩)
  | 34 => v = .map (some m)
  | 35 => v = .pointer (some ⟨B, 1, none⟩)
  | 36 => v = .agg #[.int .i64 a.pl.1, .int .i64 a.pl.2.1, .int .i64 a.pl.2.2]
  | 37 => v = .slice fw.1 fw.2.2.length fw.2.1
  | 38 => v = .slice (some ⟨c, 0, none⟩) 1 1
  | 39 => v = .int .i64 mo
  | 40 => TF b m ps e1 v w
  | 30 => TF b m ps e1 v w
  | 41 => Fr b m ps v w
  | 42 => v = .int .i64 e1
  | 9 => Fr b m ps v w
  | 6 => v = .int .i64 e1
  | _ => True
theorem fiV_mono (b B m c : Nat) (a : Acn) (mo : Int) (fw : F.Fd) (ps : List F.Pc) (e1 : Int) (d : Nat) (v : Value) (w w' : World) (h : fiV b B m c a mo fw ps e1 d v w) (hb : Below w.heap.size w w') : fiV b B m c a mo fw ps e1 d v w' := by
  unfold fiV at h ⊢
  split <;> simp only [] at h <;> first | exact h | exact h.later hb
set_option maxHeartbeats 3200000 in
set_option maxRecDepth 100000 in
theorem fill_any (wB w : World) (ao : Option Addr) (cap : Nat) (l : List Sit) (b m md : Nat) (s : Sta) (a : Acn) (hB : Bn wB w ao cap l b m md s) (hlab : a.label.size ≤ maxLen) :
    Calls Tryz.prog 97 #[ptr b, av a] w fun e w' => e = .returned (.int .i64 (fillA l s a).2) ∧ Bn wB w' ao cap l b m md (fillA l s a).1 := by
  have HBN : Hid (Bn wB w ao cap l b m md s) := hB
  clear hB
  obtain ⟨w0, hw0⟩ : ∃ w0, w0 = w.alloc (aobj a) := ⟨_, rfl⟩
  have b0 : Below w.heap.size w w0 := by rw [hw0]; exact (Below.refl _ _).alloc (Nat.le_refl _) _
  have KA : Hid (Bk w.heap.size (acl a) w0) := by show Bk _ _ _; rw [hw0]; exact Bk.new w (acl a) 33 w.heap.size rfl
  have HB0 : Hid (Bn wB w0 ao cap l b m md s) := HBN.out.next b0
  have HW0 : Hid (w0 = w.alloc (aobj a)) := hw0
  clear hw0 b0
  obtain ⟨cw, aoH, capH, aoT, capT, K, hh, ht⟩ := HB0.out.bk
  have KB : Hid (Bk b (bcs ao cap l md m cw s aoH capH aoT capT) w0) := K
  have HH : Hid (Flx b m w0 aoH s.held) := hh
  have HT : Hid (Txx b m w0 aoT s.touched) := ht
  have hbw : b < w.heap.size := by obtain ⟨_, _, _, _, _, K', _⟩ := HBN.out.bk; exact K'.1
  have hbn : b ≠ w.heap.size := by omega
  have lt0 := KB.out.1
  clear K hh ht
  clear lt0
  have HLB : Hid (a.label.size ≤ maxLen) := hlab
  clear hlab
  go_enter Tryz.func97, Tryz.ntmps97
  go_wp2_with fail
  rw [← HW0.out]
  refine (aim_any wB w0 ao cap l b m md s a HB0.out).mono ?_
  rintro e w1 ⟨rfl, hb1⟩
  have HBB : Hid (Bn wB w1 ao cap l b m md s) := HB0.out.next hb1
  have KA1 : Hid (Bk w.heap.size (acl a) w1) := KA.out.later hb1
  have KB1 : Hid (Bk b (bcs ao cap l md m cw s aoH capH aoT capT) w1) := KB.out.later hb1
  have HH1 : Hid (Flx b m w1 aoH s.held) := HH.out.next hb1
  have HT1 : Hid (Txx b m w1 aoT s.touched) := HT.out.next hb1
  have ltA := KA1.out.1
  have ltB := KB1.out.1
  clear hb1
  have q0 := (KA1.out).c 0 rfl
  have q1 := (KA1.out).c 1 rfl
  have q2 := (KA1.out).c 2 rfl
  have q3 := (KA1.out).c 3 rfl
  have q4 := (KA1.out).c 4 rfl
  have q5 := (KA1.out).c 5 rfl
  have q6 := (KA1.out).c 6 rfl
  have q7 := (KA1.out).c 7 rfl
  obtain ⟨⟨mo, e0⟩, hM⟩ : ∃ x, aimR l a = x := ⟨_, rfl⟩
  have HA : Hid (aimR l a = (mo, e0)) := hM
  rw [hM]
  clear hM
  by_cases he : e0 = 0
  · subst he
    have HP : Hid (Wf3 a.pl) := wf_place HB0.out.hd (aim_ok (by rw [HA.out]))
    go_wp2_with fail
    have KC : Hid (Bk w1.heap.size [.string a.label, .int .i64 a.vol] (w1.alloc (.cells #[.string a.label, .int .i64 a.vol] 65))) := Bk.new w1 [.string a.label, .int .i64 a.vol] 65 w1.heap.size rfl
    have HB2 : Hid (Below w1.heap.size w1 (w1.alloc (.cells #[.string a.label, .int .i64 a.vol] 65))) := (Below.refl _ _).alloc (Nat.le_refl _) _
    have hpf : F.Fl (w1.alloc (.cells #[.string a.label, .int .i64 a.vol] 65)) (some ⟨w1.heap.size, 0, none⟩) [(a.label, a.vol)] := by
      refine ⟨fun p hp => by simp at hp; rw [hp]; exact HLB.out, .inr ⟨_, 0, rfl, KC.out.1, fun k hk => ?_⟩⟩
      have : k = 0 := by simp at hk; exact hk
      subst this
      exact ⟨KC.out.c 0 rfl, KC.out.c 1 rfl⟩
    have HPF := (show Hid _ from hpf)
    clear hpf
    refine (F.check_any (some ⟨w1.heap.size, 0, none⟩) 1 [(a.label, a.vol)] _ HPF.out).mono ?_
    rintro e w3 ⟨rfl, hb3⟩
    have hb13 : Below w1.heap.size w1 w3 := HB2.out.trans (hb3.mono HB2.out.size)
    have HB3 : Hid (Bn wB w3 ao cap l b m md s) := HBB.out.next hb13
    have KA3 : Hid (Bk w.heap.size (acl a) w3) := KA1.out.later hb13
    have KB3 : Hid (Bk b (bcs ao cap l md m cw s aoH capH aoT capT) w3) := KB1.out.later hb13
    have HH3 : Hid (Flx b m w3 aoH s.held) := HH1.out.next hb13
    have HT3 : Hid (Txx b m w3 aoT s.touched) := HT1.out.next hb13
    have HP3 : Hid (F.Fl w3 (some ⟨w1.heap.size, 0, none⟩) [(a.label, a.vol)]) := F.Fl.next HPF.out hb3
    clear HPF HB2 KC hb13 hb3 HBB KA1 KB1 HH1 HT1 q0 q1 q2 q3 q4 q5 q6 q7
    obtain ⟨e2, hcq⟩ : ∃ e2, F.fref [(a.label, a.vol)] = e2 := ⟨_, rfl⟩
    have HCK : Hid (F.fref [(a.label, a.vol)] = e2) := hcq
    rw [hcq]
    clear hcq
    by_cases hc : e2 = 0
    · subst hc
      go_wp2_with fail
      rename_i KK hkk
      have HKK := (show Hid _ from hkk)
      clear hkk
      obtain ⟨wl, hwm, hwl, hfl⟩ := HB3.out.wells
      obtain ⟨fw, hfw⟩ : ∃ x, fdAt wl a.pl = x := ⟨_, rfl⟩
      have hff := flx_at hfl a.pl
      rw [hfw] at hff
      have HFF : Hid (Flx b m w3 fw.1 fw.2.2) := hff
      have HLK : Hid (∀ W, Below w3.heap.size w3 W → (Instr.lookup 115 (.map (some m)) (plv a.pl) false).run Tryz.prog W = .ok (.slice fw.1 fw.2.2.length fw.2.1) W) := fun W hW => by
        have := (hwm.next hW).look HP.out
        rw [hfw] at this
        exact this
      have HWF : Hid (wellF s.wells a.pl = fw.2.2) := by show _ = _; rw [← hwl, ← fdAt_whp, hfw]
      have HWM : Hid (WM w3 m wl) := hwm
      have HWL : Hid (whp wl = s.wells) := hwl
      have HFL : Hid (∀ x ∈ wl, Flx b m w3 x.2.1 x.2.2.2) := hfl
      have HML : Hid (m < w3.heap.size) := hwm.lt
      obtain ⟨⟨ps, e1⟩, htq⟩ : ∃ x, togR fw.2.2 [(a.label, a.vol)] mo = x := ⟨_, rfl⟩
      have HTQ : Hid (togR fw.2.2 [(a.label, a.vol)] mo = (ps, e1)) := htq
      have HTG : Hid (∀ W, Below w3.heap.size w3 W → Calls Tryz.prog 120 #[.slice fw.1 fw.2.2.length fw.2.1, .slice (some ⟨w1.heap.size, 0, none⟩) 1 1, .int .i64 mo] W fun e w' => ∃ v, e = .returned v ∧ TF b m ps e1 v w' ∧ Below W.heap.size W w') := fun W hW => by
        have := tog_fr b m fw.1 (some ⟨w1.heap.size, 0, none⟩) fw.2.1 1 fw.2.2 [(a.label, a.vol)] mo W (HFF.out.next hW).1 (HP3.out.next hW) (Nat.lt_of_lt_of_le KB3.out.1 hW.size) (Nat.lt_of_lt_of_le HML.out hW.size)
        rw [HTQ.out] at this
        exact this
      clear hwm hwl hfl hfw hff htq
      refine region_seqE 15 [false, false, false, false, false, false, true, false, false, true, false, false, false, false, false, false, false, false, false, false, false, false, false, false, false, false, false, false, false, false, true, true, true, true, true, true, true, true, true, true, true, true, true, false, false, false, false, false, false, false, false]
        [(31, [], none), (32, [31], none), (33, [32], none), (34, [33], none), (35, [], none), (36, [35], none), (37, [34, 36], none), (38, [], none), (39, [], none), (40, [37, 38, 39], none), (30, [40], none), (41, [30], none), (42, [30], none), (9, [41], none), (6, [42], none)]
        (fiV b w.heap.size m w1.heap.size a mo fw ps e1) (by kernel_rfl) (by kernel_rfl) (by kernel_rfl) (by kernel_rfl) (by kernel_rfl) (by decide) (fiV_mono b w.heap.size m w1.heap.size a mo fw ps e1) ?_ ?_
      · refine ⟨?_, ?_, ?_, ?_, ?_, ?_, ?_, ?_, ?_, ?_, ?_, ?_, ?_, ?_, ?_, trivial⟩
        · intro f w1 hb _ K hK
          simp only [over, overL, Nat.reduceAdd]
          go_simp
          exact hK _ _ ⟨_, rfl, by simp only [over, overL, Nat.reduceAdd]; rfl, Below.refl _ _⟩
        · intro f w1 hb ⟨h31, _⟩ K hK
          replace h31 : f 31 = _ := h31
          simp only [over, overL, Nat.reduceAdd, h31]
          go_simp
          exact hK _ _ ⟨_, rfl, by simp only [over, overL, Nat.reduceAdd, h31]; rfl, Below.refl _ _⟩
        · intro f w1 hb ⟨h32, _⟩ K hK
          replace h32 : f 32 = _ := h32
          simp only [over, overL, Nat.reduceAdd, h32]
          go_simp
          exact hK _ _ ⟨_, rfl, by simp only [over, overL, Nat.reduceAdd, h32]; rfl, Below.refl _ _⟩
        · intro f w1 hb ⟨h33, _⟩ K hK
          replace h33 : f 33 = _ := h33
          have q4 := (KB3.out.later hb).c 4 rfl
          simp only [over, overL, Nat.reduceAdd, h33]
          go_simp
          exact hK _ _ ⟨_, rfl, by simp only [over, overL, Nat.reduceAdd, h33]; rfl, Below.refl _ _⟩
        · intro f w1 hb _ K hK
          simp only [over, overL, Nat.reduceAdd]
          go_simp
          exact hK _ _ ⟨_, rfl, by simp only [over, overL, Nat.reduceAdd]; rfl, Below.refl _ _⟩
        · intro f w1 hb ⟨h35, _⟩ K hK
          replace h35 : f 35 = _ := h35
          have q1 := (KA3.out.later hb).c 1 rfl
          have q2 := (KA3.out.later hb).c 2 rfl
          have q3 := (KA3.out.later hb).c 3 rfl
          simp only [over, overL, Nat.reduceAdd, h35]
          go_simp
          exact hK _ _ ⟨_, rfl, by simp only [over, overL, Nat.reduceAdd, h35]; rfl, Below.refl _ _⟩
        · intro f w1 hb ⟨h34, h36, _⟩ K hK
          replace h34 : f 34 = _ := h34
          replace h36 : f 36 = _ := h36
          have ql := HLK.out w1 hb
          simp only [over, overL, Nat.reduceAdd, h34, h36]
          go_simp
          exact hK _ _ ⟨_, rfl, by simp only [over, overL, Nat.reduceAdd, h34, h36]; rfl, Below.refl _ _⟩
        · intro f w1 hb _ K hK
          simp only [over, overL, Nat.reduceAdd]
          go_simp
          exact hK _ _ ⟨_, rfl, by simp only [over, overL, Nat.reduceAdd]; rfl, Below.refl _ _⟩
        · intro f w1 hb _ K hK
          simp only [over, overL, Nat.reduceAdd]
          go_simp
          exact hK _ _ ⟨_, rfl, by simp only [over, overL, Nat.reduceAdd]; rfl, Below.refl _ _⟩
        · intro f w1 hb ⟨h37, h38, h39, _⟩ K hK
          replace h37 : f 37 = _ := h37
          replace h38 : f 38 = _ := h38
          replace h39 : f 39 = _ := h39
          simp only [over, overL, Nat.reduceAdd, h37, h38, h39]
          go_simp
          refine ((HTG.out w1 hb).mono) ?_
          rintro e w2 ⟨x, rfl, ht, hb2⟩
          exact hK _ _ ⟨_, ht, by simp only [over, overL, Nat.reduceAdd, h37, h38, h39]; rfl, hb2⟩
        · intro f w1 hb ⟨h40, _⟩ K hK
          simp only [over, overL, Nat.reduceAdd]
          go_simp
          exact hK _ _ ⟨_, h40, by simp only [over, overL, Nat.reduceAdd]; rfl, Below.refl _ _⟩
        · intro f w1 hb ⟨h30, _⟩ K hK
          obtain ⟨x, h30, hx⟩ := h30
          simp only [over, overL, Nat.reduceAdd, h30]
          go_simp
          exact hK _ _ ⟨_, hx, by simp only [over, overL, Nat.reduceAdd, h30]; rfl, Below.refl _ _⟩
        · intro f w1 hb ⟨h30, _⟩ K hK
          obtain ⟨x, h30, hx⟩ := h30
          simp only [over, overL, Nat.reduceAdd, h30]
          go_simp
          exact hK _ _ ⟨_, rfl, by simp only [over, overL, Nat.reduceAdd, h30]; rfl, Below.refl _ _⟩
        · intro f w1 hb ⟨h41, _⟩ K hK
          simp only [over, overL, Nat.reduceAdd]
          go_simp
          exact hK _ _ ⟨_, h41, by simp only [over, overL, Nat.reduceAdd]; rfl, Below.refl _ _⟩
        · intro f w1 hb ⟨h42, _⟩ K hK
          replace h42 : f 42 = _ := h42
          simp only [over, overL, Nat.reduceAdd, h42]
          go_simp
          exact hK _ _ ⟨_, rfl, by simp only [over, overL, Nat.reduceAdd, h42]; rfl, Below.refl _ _⟩
      intro f w4 hb hv
      have h6 : f 6 = _ := hv.2.2.2.2.2.2.2.2.2.2.2.2.2.2.1
      have h9 : Fr b m ps (f 9) w4 := hv.2.2.2.2.2.2.2.2.2.2.2.2.2.1
      obtain ⟨aof, capf, h9, hf⟩ := h9
      have HF4 : Hid (Flx b m w4 aof ps) := hf
      have HB4 : Hid (Bn wB w4 ao cap l b m md s) := HB3.out.next hb
      have KA4 : Hid (Bk w.heap.size (acl a) w4) := KA3.out.later hb
      have KB4 : Hid (Bk b (bcs ao cap l md m cw s aoH capH aoT capT) w4) := KB3.out.later hb
      have HH4 : Hid (Flx b m w4 aoH s.held) := HH3.out.next hb
      have HT4 : Hid (Txx b m w4 aoT s.touched) := HT3.out.next hb
      have HWM4 : Hid (WM w4 m wl) := HWM.out.next hb
      have HFL4 : Hid (∀ x ∈ wl, Flx b m w4 x.2.1 x.2.2.2) := fun x hx => (HFL.out x hx).next hb
      clear hv hb hf HB3 KA3 KB3 HH3 HT3 HWM HFL HFF HLK HTG HP3
      simp only [List.drop, over, overL, Nat.reduceAdd, h6, h9]
      clear h6 h9
      go_wp2
      refine HKK.out _ _ ?_
      have q0 := (KA4.out).c 0 rfl
      have q1 := (KA4.out).c 1 rfl
      have q2 := (KA4.out).c 2 rfl
      have q3 := (KA4.out).c 3 rfl
      have q4 := (KA4.out).c 4 rfl
      have q5 := (KA4.out).c 5 rfl
      have q6 := (KA4.out).c 6 rfl
      have q7 := (KA4.out).c 7 rfl
      by_cases h1 : e1 = 0
      · subst h1
        have HQ : Hid (fillA l s a = ({ s with wells := wset s.wells a.pl ps }, 0)) := by
          show _ = _
          simp only [fillA, HA.out, HWF.out, HCK.out, HTQ.out]
          simp
        obtain ⟨hon, hfew⟩ := HB4.out.once HWL.out
        go_wp2_with fail
        refine (keep_any b m _ _ _ _ _ _ _ _ _ _ _ wl a.pl aof capf ps w4 KB4.out HWM4.out hon hfew HP.out).mono ?_
        rintro e w5 ⟨rfl, hwm, hg⟩
        have HWM5 : Hid (WM w5 m (setH wl a.pl (aof, capf, ps))) := hwm
        have HG : Hid (w4.grownBy w5 (some m)) := hg
        clear hwm hg hon hfew q0 q1 q2 q3 q4 q5 q6 q7
        go_wp2
        go_ret
        have hmay := (may_fill HB4.out.may (by rw [HQ.out] : (fillA l s a).2 = 0)).1
        rw [HQ.out] at hmay ⊢
        have hbut : But b m w4 w5 := but_grown HG.out
        exact ⟨rfl, HB4.out.keptTo HWL.out HFL4.out hbut HWM5.out (HF4.out.but hbut) hmay rfl (cw := cw) (KB4.out.same HG.out.size (HG.out.block b KB4.out.1 (by simpa using HB4.out.ne.1))) (HH4.out.but hbut) (HT4.out.but hbut)⟩
      · have h2 : (e1 == 0) = false := by simp [h1]
        have h3 : (e1 != 0) = true := by simp [h1]
        have HQ : Hid (fillA l s a = (s, e1)) := by
          show _ = _
          simp only [fillA, HA.out, HWF.out, HCK.out, HTQ.out]
          simp [h1]
        clear h1
        go_wp2
        go_ret
        exact ⟨by rw [HQ.out]; rfl, by rw [HQ.out]; exact HB4.out⟩
    · have h2 : (e2 == 0) = false := by simp [hc]
      have h3 : (e2 != 0) = true := by simp [hc]
      have HQ : Hid (fillA l s a = (s, e2)) := by
        show _ = _
        simp only [fillA, HA.out, HCK.out]
        simp [hc]
      clear hc
      go_wp2
      go_ret
      exact ⟨by rw [HQ.out]; rfl, by rw [HQ.out]; exact HB3.out⟩
  · have h2 : (e0 == 0) = false := by simp [he]
    have h3 : (e0 != 0) = true := by simp [he]
    have HQ : Hid (fillA l s a = (s, e0)) := by
      show _ = _
      simp only [fillA, HA.out]
      simp [he]
    clear he
    go_wp2
    go_ret
    exact ⟨by rw [HQ.out]; rfl, by rw [HQ.out]; exact HBB.out⟩
end Go.Proofs.YtjappkfhballhaaGreat
