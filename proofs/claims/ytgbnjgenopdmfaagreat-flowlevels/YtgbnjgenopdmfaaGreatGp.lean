import Derived.Test.YtgbnjgenopdmfaaGreatGo

/- newBench walked. -/
namespace Go.Proofs.YtgbnjgenopdmfaaGreat
open Go.RowKit Go.Maps
theorem DM.next {w w1 : World} {md : Nat} (h : DM w md) (hb : Below w.heap.size w w1) : DM w1 md := h.same (hb.block md h.lt)
theorem dm_wm {w : World} {md m : Nat} (h : DM w md) (h2 : WM w m []) : m ≠ md := by
  rintro rfl
  obtain ⟨es, clock, hb, F, _, hD⟩ := h
  obtain ⟨D2, ⟨es2, clock2, hb2, F2, _, hD2⟩, hr⟩ := h2
  rw [hb] at hb2
  injection hb2 with hb2
  injection hb2 with hb2 _
  subst hb2
  have h1 : Maps.size Ddeeds = es.size := by rw [hD, Maps.size_eq, length_sorted]; simp
  have h2 : Maps.size D2 = es.size := by rw [hD2, Maps.size_eq, length_sorted]; simp
  have h3 : Maps.size Ddeeds = 9 := by kernel_rfl
  have h4 := hr.size
  simp at h4
  omega
def NB10 (M : Nat) (v : Value) (w : World) : Prop := ∃ md, v = .map (some md) ∧ M ≤ md ∧ DM w md
theorem NB10.later {M : Nat} {v : Value} {w w1 : World} (h : NB10 M v w) (hb : Below w.heap.size w w1) : NB10 M v w1 := by
  obtain ⟨md, h1, h2, h3⟩ := h
  exact ⟨md, h1, h2, h3.next hb⟩
def NB11 (M : Nat) (v : Value) (w : World) : Prop := ∃ m, v = .map (some m) ∧ M ≤ m ∧ WM w m []
theorem NB11.later {M : Nat} {v : Value} {w w1 : World} (h : NB11 M v w) (hb : Below w.heap.size w w1) : NB11 M v w1 := by
  obtain ⟨md, h1, h2, h3⟩ := h
  exact ⟨md, h1, h2, h3.next hb⟩
def NB13 (M : Nat) (ao : Option Addr) (cap : Nat) (l : List Sit) (s : Sm) (v : Value) (w : World) : Prop :=
  ∃ md m, v = .agg #[.slice ao l.length cap, .int .i64 ((tipsL l).length : Int), .int .i64 (tipM l), .map (some md), .map (some m), .slice s.aoW s.wl.length s.capW, .bool s.tip, .slice s.aoH s.held.length s.capH, .slice s.aoT s.touched.length s.capT, .int .i64 s.used, .int .i64 s.heat, .int .i64 s.clock] ∧ M ≤ md ∧ M ≤ m ∧ DM w md ∧ WM w m []
theorem NB13.later {M : Nat} {ao : Option Addr} {cap : Nat} {l : List Sit} {s : Sm} {v : Value} {w w1 : World} (h : NB13 M ao cap l s v w) (hb : Below w.heap.size w w1) : NB13 M ao cap l s v w1 := by
  obtain ⟨md, m, h1, h2, h3, h4, h5⟩ := h
  exact ⟨md, m, h1, h2, h3, h4.next hb, h5.next hb⟩
def NB14 (M : Nat) (ao : Option Addr) (cap : Nat) (l : List Sit) (s : Sm) (v : Value) (w : World) : Prop :=
  ∃ b md m, v = ptr b ∧ M ≤ b ∧ M ≤ md ∧ M ≤ m ∧ b ≠ m ∧ b ≠ md ∧ m ≠ md ∧ DM w md ∧ WM w m [] ∧ Bk b (bcs ao cap l md m (s.aoW, s.wl.length, s.capW) s.st s.aoH s.capH s.aoT s.capT) w
theorem NB14.later {M : Nat} {ao : Option Addr} {cap : Nat} {l : List Sit} {s : Sm} {v : Value} {w w1 : World} (h : NB14 M ao cap l s v w) (hb : Below w.heap.size w w1) : NB14 M ao cap l s v w1 := by
  obtain ⟨b, md, m, h1, h2, h3, h4, h5, h6, h7, h8, h9, h10⟩ := h
  exact ⟨b, md, m, h1, h2, h3, h4, h5, h6, h7, h8.next hb, h9.next hb, h10.later hb⟩
theorem insH_last {y : Wh} {l : List Wh} (h : ∀ x ∈ l, pltB x.1 y.1 = true) : insH y l = l ++ [y] := by
  induction l with
  | nil => rfl
  | cons x r ih =>
    have hx := h x (List.mem_cons_self ..)
    have : ¬ pltB y.1 x.1 = true := fun e => plt_ne (plt_trans hx e) rfl
    unfold insH
    rw [if_neg this, ih fun z hz => h z (List.mem_cons_of_mem _ hz)]
    rfl
theorem take_ins {wl : List Wh} (h : Rising (whp wl)) {k : Nat} (hk : k < wl.length) : insH (wl[k]'hk) (delH (wl.take k) (wl[k]'hk).1) = wl.take (k + 1) := by
  have hr : wl.Pairwise fun x y => pltB x.1 y.1 = true := by
    unfold Rising whp at h
    rw [List.pairwise_map] at h
    exact h
  have ha : ∀ x ∈ wl.take k, pltB x.1 (wl[k]'hk).1 = true := by
    intro x hx
    obtain ⟨i, hi, rfl⟩ := List.getElem_of_mem hx
    rw [List.getElem_take]
    have : i < k := by simp at hi; omega
    exact List.pairwise_iff_getElem.1 hr i k (by omega) hk this
  have hd : delH (wl.take k) (wl[k]'hk).1 = wl.take k := by
    unfold delH
    rw [List.filter_eq_self]
    intro x hx
    exact decide_eq_true (plt_ne (ha x hx))
  rw [hd, insH_last ha, List.take_succ_eq_append_getElem hk]
theorem rising_take {wl : List Wh} (h : Rising (whp wl)) (k : Nat) : Rising (whp (wl.take k)) := by
  unfold Rising whp at h ⊢
  rw [List.map_take]
  exact h.sublist (List.take_sublist _ _)
theorem flx_low {b m : Nat} {w w1 : World} {ao : Option Addr} {ps : List F.Pc} (h : F.Fl w ao ps) (hb : Below w.heap.size w w1) (h1 : w.heap.size ≤ b) (h2 : w.heap.size ≤ m) : Flx b m w1 ao ps := by
  refine ⟨h.next hb, ?_⟩
  rcases h.2 with h | ⟨g, off, e, hg, _⟩
  · exact .inl h
  · refine .inr fun a ha => ?_
    rw [e] at ha
    injection ha with ha
    subst ha
    exact ⟨by simp only; omega, by simp only; omega⟩
theorem txx_low {b m : Nat} {w w1 : World} {ao : Option Addr} {ps : List ByteArray} (h : Tx w ao ps) (hb : Below w.heap.size w w1) (h1 : w.heap.size ≤ b) (h2 : w.heap.size ≤ m) : Txx b m w1 ao ps := by
  refine ⟨h.next hb, ?_⟩
  rcases h.2 with h | ⟨g, off, e, hg, _⟩
  · exact .inl h
  · refine .inr fun a ha => ?_
    rw [e] at ha
    injection ha with ha
    subst ha
    exact ⟨by simp only; omega, by simp only; omega⟩
def nbV (M : Nat) (ao : Option Addr) (cap : Nat) (l : List Sit) (s : Sm) (d : Nat) (v : Value) (w : World) : Prop :=
  match d with
  | 8 => v = .slice ao l.length cap
  | 9 => v = .agg #[.slice ao l.length cap, .int .i64 ((tipsL l).length : Int), .int .i64 (tipM l)]
  | 10 => NB10 M v w
  | 11 => NB11 M v w
  | 12 => v = .agg #[.slice s.aoW s.wl.length s.capW, .bool s.tip, .slice s.aoH s.held.length s.capH, .slice s.aoT s.touched.length s.capT, .int .i64 s.used, .int .i64 s.heat, .int .i64 s.clock]
  | 13 => NB13 M ao cap l s v w
  | 14 => NB14 M ao cap l s v w
  | 5 => NB14 M ao cap l s v w
  | _ => True
theorem nbV_mono (M : Nat) (ao : Option Addr) (cap : Nat) (l : List Sit) (s : Sm) (d : Nat) (v : Value) (w w' : World) (h : nbV M ao cap l s d v w) (hb : Below w.heap.size w w') : nbV M ao cap l s d v w' := by
  unfold nbV at h ⊢
  split <;> simp only [] at h <;> first | exact h | exact h.later hb
def nlpV (b Y m : Nat) (y : Wh) (d : Nat) (v : Value) (_ : World) : Prop :=
  match d with
  | 22 => v = .pointer (some ⟨b, 0, none⟩)
  | 23 => v = .pointer (some ⟨b, 0, none⟩)
  | 24 => v = .pointer (some ⟨b, 4, none⟩)
  | 25 => v = .map (some m)
  | 26 => v = .pointer (some ⟨Y, 0, none⟩)
  | 27 => v = .agg #[.int .i64 y.1.1, .int .i64 y.1.2.1, .int .i64 y.1.2.2]
  | 28 => v = .pointer (some ⟨Y, 3, none⟩)
  | 29 => v = .slice y.2.1 y.2.2.2.length y.2.2.1
  | _ => True
theorem nlpV_mono (b Y m : Nat) (y : Wh) (d : Nat) (v : Value) (w w' : World) (h : nlpV b Y m y d v w) (_ : Below w.heap.size w w') : nlpV b Y m y d v w' := h
set_option maxHeartbeats 6400000 in
set_option maxRecDepth 100000 in
theorem newBench_any (ao : Option Addr) (cap : Nat) (l : List Sit) (s : Sm) (w : World) (hD : Dk w ao cap l) (hd : dchk l = 0) (hS : SmIn w s) (hm : May l s.st) :
    Calls Tryz.prog 37 #[.slice ao l.length cap, smv s] w fun e w' => ∃ b m md, e = .returned (ptr b) ∧ Bn w w' ao cap l b m md s.st := by
  have HD : Hid (Dk w ao cap l) := hD
  have HDC : Hid (dchk l = 0) := hd
  have HS : Hid (SmIn w s) := hS
  have HM : Hid (May l s.st) := hm
  have HRI : Hid (Rising (whp s.wl)) := hm.rising
  have hfew : s.wl.length ≤ 4608 := by have := wells_few hd hm; rw [← whp_length]; exact this
  have HWF : Hid (∀ x ∈ s.wl, Wf3 x.1) := fun x hx => wf_place hd (hm.wells (x.1, x.2.2.2) (List.mem_map.2 ⟨x, hx, rfl⟩)).1
  obtain ⟨w0, hw0⟩ : ∃ w0, w0 = w.alloc (smo s) := ⟨_, rfl⟩
  have b0 : Below w.heap.size w w0 := by rw [hw0]; exact (Below.refl _ _).alloc (Nat.le_refl _) _
  have KS : Hid (Bk w.heap.size [.slice s.aoW s.wl.length s.capW, .bool s.tip, .slice s.aoH s.held.length s.capH, .slice s.aoT s.touched.length s.capT, .int .i64 s.used, .int .i64 s.heat, .int .i64 s.clock] w0) := by show Bk _ _ _; rw [hw0]; exact Bk.new w _ 40 w.heap.size rfl
  have HD0 : Hid (Dk w0 ao cap l) := hD.next b0
  have HB0 : Hid (Below w.heap.size w w0) := b0
  have HW0 : Hid (w0 = w.alloc (smo s)) := hw0
  clear hD hd hS hm hw0 b0
  go_enter Tryz.func37, Tryz.ntmps37
  go_wp2_with fail
  rw [← HW0.out]
  rename_i KK hkk
  have HKK := (show Hid _ from hkk)
  clear hkk
  refine region_inv [false, false, false, false, false, true, false, false, true, true, true, true, true, true, true, false, false, false, false, false, false, false, false, false, false, false, false, false, false, false, false, false]
    [(8, [], none), (9, [8], none), (10, [], none), (11, [], none), (12, [], none), (13, [9, 10, 11, 12], none), (14, [13], none), (5, [14], none)]
    (nbV w0.heap.size ao cap l s) (by kernel_rfl) (by kernel_rfl) (nbV_mono w0.heap.size ao cap l s) ?_ ?_
  · refine ⟨?_, ?_, ?_, ?_, ?_, ?_, ?_, ?_, trivial⟩
    · intro f wA hb _ K hK
      simp only [over, overL, Nat.reduceAdd]
      go_simp
      exact hK _ _ ⟨_, rfl, by simp only [over, overL, Nat.reduceAdd]; rfl, Below.refl _ _⟩
    · intro f wA hb ⟨h8, _⟩ K hK
      replace h8 : f 8 = _ := h8
      simp only [over, overL, Nat.reduceAdd, h8]
      go_simp
      refine ((newLayout_any ao cap l wA (HD0.out.next hb) HDC.out).mono) ?_
      rintro e w2 ⟨rfl, hb2⟩
      exact hK _ _ ⟨_, rfl, by simp only [over, overL, Nat.reduceAdd, h8]; rfl, hb2⟩
    · intro f wA hb _ K hK
      simp only [over, overL, Nat.reduceAdd]
      go_simp
      refine ((deedsOfKinds_any wA).mono) ?_
      rintro e w2 ⟨md, rfl, g1, g2, hb2⟩
      exact hK _ _ ⟨_, ⟨md, rfl, Nat.le_trans hb.size g1, g2⟩, by simp only [over, overL, Nat.reduceAdd]; rfl, hb2⟩
    · intro f wA hb _ K hK
      have hmm := @run_makeMap Tryz.prog
      simp only [over, overL, Nat.reduceAdd]
      go_simp
      exact hK _ _ ⟨_, ⟨wA.heap.size, rfl, hb.size, WM.made wA⟩, by simp only [over, overL, Nat.reduceAdd]; rfl, (Below.refl _ _).alloc (Nat.le_refl _) _⟩
    · intro f wA hb _ K hK
      have q0 := (KS.out.later hb).c 0 rfl
      have q1 := (KS.out.later hb).c 1 rfl
      have q2 := (KS.out.later hb).c 2 rfl
      have q3 := (KS.out.later hb).c 3 rfl
      have q4 := (KS.out.later hb).c 4 rfl
      have q5 := (KS.out.later hb).c 5 rfl
      have q6 := (KS.out.later hb).c 6 rfl
      simp only [over, overL, Nat.reduceAdd]
      go_simp
      exact hK _ _ ⟨_, rfl, by simp only [over, overL, Nat.reduceAdd]; rfl, Below.refl _ _⟩
    · intro f wA hb ⟨h9, h10, h11, h12, _⟩ K hK
      replace h9 : f 9 = _ := h9
      replace h12 : f 12 = _ := h12
      obtain ⟨md, h10, g1, g2⟩ := h10
      obtain ⟨m, h11, k1, k2⟩ := h11
      simp only [over, overL, Nat.reduceAdd, h9, h12, h10, h11]
      go_simp
      exact hK _ _ ⟨_, ⟨md, m, rfl, g1, k1, g2, k2⟩, by simp only [over, overL, Nat.reduceAdd, h9, h12, h10, h11]; rfl, Below.refl _ _⟩
    · intro f wA hb ⟨h13, _⟩ K hK
      obtain ⟨md, m, h13, g1, k1, g2, k2⟩ := h13
      have hn := dm_wm g2 k2
      have hl1 := g2.lt
      have hl2 := k2.lt
      have al : Below wA.heap.size wA (wA.alloc (.cells (bcs ao cap l md m (s.aoW, s.wl.length, s.capW) s.st s.aoH s.capH s.aoT s.capT).toArray 132)) := (Below.refl _ _).alloc (Nat.le_refl _) _
      simp only [over, overL, Nat.reduceAdd, h13]
      go_simp
      exact hK _ _ ⟨_, ⟨wA.heap.size, md, m, rfl, hb.size, g1, k1, by omega, by omega, hn, g2.next al, k2.next al, Bk.new wA (bcs ao cap l md m (s.aoW, s.wl.length, s.capW) s.st s.aoH s.capH s.aoT s.capT) 132 wA.heap.size rfl⟩, by simp only [over, overL, Nat.reduceAdd, h13]; rfl, (Below.refl _ _).alloc (Nat.le_refl _) _⟩
    · intro f wA hb ⟨h14, _⟩ K hK
      simp only [over, overL, Nat.reduceAdd]
      go_simp
      exact hK _ _ ⟨_, h14, by simp only [over, overL, Nat.reduceAdd]; rfl, Below.refl _ _⟩
  intro f w1 hb hv
  have h5 : NB14 w0.heap.size ao cap l s (f 5) w1 := hv.2.2.2.2.2.2.2.1
  obtain ⟨b, md, m, h5, g2, g3, g4, g5, g6, g7, g8, g9, g10⟩ := h5
  have HG : Hid (w0.heap.size ≤ b ∧ w0.heap.size ≤ md ∧ w0.heap.size ≤ m ∧ b ≠ m ∧ b ≠ md ∧ m ≠ md) := ⟨g2, g3, g4, g5, g6, g7⟩
  have HDM : Hid (DM w1 md) := g8
  have HWM1 : Hid (WM w1 m []) := g9
  have KB1 : Hid (Bk b (bcs ao cap l md m (s.aoW, s.wl.length, s.capW) s.st s.aoH s.capH s.aoT s.capT) w1) := g10
  have KS1 : Hid (Bk w.heap.size [.slice s.aoW s.wl.length s.capW, .bool s.tip, .slice s.aoH s.held.length s.capH, .slice s.aoT s.touched.length s.capT, .int .i64 s.used, .int .i64 s.heat, .int .i64 s.clock] w1) := KS.out.later hb
  have HB1 : Hid (Below w.heap.size w w1) := HB0.out.trans (hb.mono HB0.out.size)
  clear hv hb g2 g3 g4 g5 g6 g7 g8 g9 g10
  simp only [over, overL, Nat.reduceAdd, h5]
  clear h5
  (try go_wp2)
  refine HKK.out _ _ ?_
  clear HKK
  have q0 := (KS1.out).c 0 rfl
  have q1 := (KS1.out).c 1 rfl
  have q2 := (KS1.out).c 2 rfl
  have q3 := (KS1.out).c 3 rfl
  have q4 := (KS1.out).c 4 rfl
  have q5 := (KS1.out).c 5 rfl
  have q6 := (KS1.out).c 6 rfl
  go_wp2_with fail
  clear q0 q1 q2 q3 q4 q5 q6
  go_loopw [18] (fun i wr => ∃ k : Nat, k ≤ s.wl.length ∧ i = .int .i64 k ∧ But b m w1 wr ∧ WM wr m (s.wl.take k) ∧ Bk b (bcs ao cap l md m (s.aoW, s.wl.length, s.capW) s.st s.aoH s.capH s.aoT s.capT) wr) (fun i _ => s.wl.length - (intOf i).toNat)
  case atStart => exact ⟨0, Nat.zero_le _, rfl, but_below (Below.refl _ _), HWM1.out, KB1.out⟩
  case round =>
    obtain ⟨k, hk, rfl, hbu, hwm, hkb⟩ := hrel
    have HBU : Hid (But b m w1 wr) := hbu
    have HWM : Hid (WM wr m (s.wl.take k)) := hwm
    have KB : Hid (Bk b (bcs ao cap l md m (s.aoW, s.wl.length, s.capW) s.st s.aoH s.capH s.aoT s.capT) wr) := hkb
    have HB : Hid (Below w.heap.size w wr) := hbu.below HB1.out (Nat.le_trans HB0.out.size HG.out.1) (Nat.le_trans HB0.out.size HG.out.2.2.1) HB1.out.size
    clear hbu hwm hkb
    by_cases hlt : k < s.wl.length
    rotate_left
    · go_wp2
      go_ret
      refine ⟨b, m, md, rfl, HD.out, HDC.out, HM.out, HB.out, ⟨Nat.le_trans HB0.out.size HG.out.1, Nat.le_trans HB0.out.size HG.out.2.2.1, Nat.le_trans HB0.out.size HG.out.2.1⟩, ⟨HG.out.2.2.2.1, HG.out.2.2.2.2.1, HG.out.2.2.2.2.2⟩, HDM.out.same (HBU.out.block md HDM.out.lt (fun e => HG.out.2.2.2.2.1 e.symm) (fun e => HG.out.2.2.2.2.2 e.symm)), ⟨s.wl, ?_, rfl, ?_⟩, (s.aoW, s.wl.length, s.capW), s.aoH, s.capH, s.aoT, s.capT, KB.out, ?_, ?_⟩
      · have := HWM.out
        rw [List.take_of_length_le (by omega)] at this
        exact this
      · intro x hx
        obtain ⟨i, hi, rfl⟩ := List.getElem_of_mem hx
        obtain ⟨b', off, _, hat⟩ := HS.out.wells.at hi
        exact flx_low hat.fl HB.out (Nat.le_trans HB0.out.size HG.out.1) (Nat.le_trans HB0.out.size HG.out.2.2.1)
      · exact flx_low HS.out.held HB.out (Nat.le_trans HB0.out.size HG.out.1) (Nat.le_trans HB0.out.size HG.out.2.2.1)
      · exact txx_low HS.out.touched HB.out (Nat.le_trans HB0.out.size HG.out.1) (Nat.le_trans HB0.out.size HG.out.2.2.1)
    · obtain ⟨b', off, hao, hx⟩ := (HS.out.wells.next HB.out).at hlt
      have HAO : Hid (s.aoW = some ⟨b', off, none⟩) := hao
      rw [hao]
      clear hao
      obtain ⟨y, hy⟩ : ∃ y, y = s.wl[k]'hlt := ⟨_, rfl⟩
      rw [← hy] at hx
      obtain ⟨_, c0, c1, c2, c3, _⟩ := hx
      have HTK : Hid (insH y (delH (s.wl.take k) y.1) = s.wl.take (k + 1)) := by show _ = _; rw [hy]; exact take_ins HRI.out hlt
      have HY3 : Hid (Wf3 y.1) := by show Wf3 _; rw [hy]; exact HWF.out _ (List.getElem_mem hlt)
      obtain ⟨w2, hw2⟩ : ∃ w2, w2 = wr.alloc (who y) := ⟨_, rfl⟩
      have b2 : Below wr.heap.size wr w2 := by rw [hw2]; exact (Below.refl _ _).alloc (Nat.le_refl _) _
      have KY : Hid (Bk wr.heap.size [.int .i64 y.1.1, .int .i64 y.1.2.1, .int .i64 y.1.2.2, .slice y.2.1 y.2.2.2.length y.2.2.1] w2) := by show Bk _ _ _; rw [hw2]; exact Bk.new wr _ 91 wr.heap.size rfl
      have KB2 : Hid (Bk b (bcs ao cap l md m (s.aoW, s.wl.length, s.capW) s.st s.aoH s.capH s.aoT s.capT) w2) := KB.out.later b2
      have HB2 : Hid (Below wr.heap.size wr w2) := b2
      have HW2 : Hid (w2 = wr.alloc (who y)) := hw2
      have hki : (k : Int) < (s.wl.length : Int) := by omega
      clear hy hw2 b2
      go_wp2_with fail
      rw [← HW2.out]
      rename_i KK hkk
      have HKK := (show Hid _ from hkk)
      clear hkk
      refine region_seq 8 [false, false, false, false, false, false, false, false, false, false, false, false, false, false, false, false, false, false, false, false, false, false, true, true, true, true, true, true, true, true, false, false]
        [(22, [], none), (23, [22], none), (24, [23], none), (25, [24], none), (26, [], none), (27, [26], none), (28, [], none), (29, [28], none)]
        (nlpV b wr.heap.size m y) (by kernel_rfl) (by kernel_rfl) (by kernel_rfl) (by kernel_rfl) (by kernel_rfl) (by decide) (nlpV_mono b wr.heap.size m y) ?_ ?_
      · refine ⟨?_, ?_, ?_, ?_, ?_, ?_, ?_, ?_, trivial⟩
        · intro f wA hb _ K hK
          simp only [over, overL, Nat.reduceAdd]
          go_simp
          exact hK _ _ ⟨_, rfl, by simp only [over, overL, Nat.reduceAdd]; rfl, Below.refl _ _⟩
        · intro f wA hb ⟨h22, _⟩ K hK
          replace h22 : f 22 = _ := h22
          simp only [over, overL, Nat.reduceAdd, h22]
          go_simp
          exact hK _ _ ⟨_, rfl, by simp only [over, overL, Nat.reduceAdd, h22]; rfl, Below.refl _ _⟩
        · intro f wA hb ⟨h23, _⟩ K hK
          replace h23 : f 23 = _ := h23
          simp only [over, overL, Nat.reduceAdd, h23]
          go_simp
          exact hK _ _ ⟨_, rfl, by simp only [over, overL, Nat.reduceAdd, h23]; rfl, Below.refl _ _⟩
        · intro f wA hb ⟨h24, _⟩ K hK
          replace h24 : f 24 = _ := h24
          have q4 := (KB2.out.later hb).c 4 rfl
          simp only [over, overL, Nat.reduceAdd, h24]
          go_simp
          exact hK _ _ ⟨_, rfl, by simp only [over, overL, Nat.reduceAdd, h24]; rfl, Below.refl _ _⟩
        · intro f wA hb _ K hK
          simp only [over, overL, Nat.reduceAdd]
          go_simp
          exact hK _ _ ⟨_, rfl, by simp only [over, overL, Nat.reduceAdd]; rfl, Below.refl _ _⟩
        · intro f wA hb ⟨h26, _⟩ K hK
          replace h26 : f 26 = _ := h26
          have q0 := (KY.out.later hb).c 0 rfl
          have q1 := (KY.out.later hb).c 1 rfl
          have q2 := (KY.out.later hb).c 2 rfl
          simp only [over, overL, Nat.reduceAdd, h26]
          go_simp
          exact hK _ _ ⟨_, rfl, by simp only [over, overL, Nat.reduceAdd, h26]; rfl, Below.refl _ _⟩
        · intro f wA hb _ K hK
          simp only [over, overL, Nat.reduceAdd]
          go_simp
          exact hK _ _ ⟨_, rfl, by simp only [over, overL, Nat.reduceAdd]; rfl, Below.refl _ _⟩
        · intro f wA hb ⟨h28, _⟩ K hK
          replace h28 : f 28 = _ := h28
          have q3 := (KY.out.later hb).c 3 rfl
          simp only [over, overL, Nat.reduceAdd, h28]
          go_simp
          exact hK _ _ ⟨_, rfl, by simp only [over, overL, Nat.reduceAdd, h28]; rfl, Below.refl _ _⟩
      intro f' w3 hb hv
      have h25 : f' 25 = _ := hv.2.2.2.1
      have h27 : f' 27 = _ := hv.2.2.2.2.2.1
      have h29 : f' 29 = _ := hv.2.2.2.2.2.2.2.1
      have HB3 : Hid (Below wr.heap.size wr w3) := HB2.out.trans (hb.mono HB2.out.size)
      obtain ⟨D, hown, hrd⟩ := HWM.out.next HB3.out
      have HON : Once (s.wl.take k) := once_of (rising_take HRI.out k)
      have HRD : Hid (Reads (D.put (klP y.1) (.held (.slice y.2.1 y.2.2.2.length y.2.2.1))) (s.wl.take (k + 1))) := by
        have := reads_put (x := y) hrd HON HY3.out
        rw [HTK.out] at this
        exact this
      have hsz : Maps.size D < maxLen := by rw [hrd.size]; have : (s.wl.take k).length ≤ s.wl.length := by simp; omega
                                            unfold maxLen; omega
      clear hv hrd hb HON
      simp only [List.drop, over, overL, Nat.reduceAdd, h25, h27, h29]
      go_wp2_with (first | (at_mapUpdate; refine wpList_mapUpdate_own _ rfl _ _ _ 93 rfl 53 37 lawP Tryz.underlying93 RV m (Maps.size D) D rfl hown hsz _ _ _ rfl rfl (keyP_some HY3.out) (.held (.slice y.2.1 y.2.2.2.length y.2.2.1)) [] rfl ?_; intro w4 hown1 hg1) | go_in)
      have HWM4 : Hid (WM w4 m (s.wl.take (k + 1))) := ⟨_, own_tight hown1, HRD.out⟩
      have HBU4 : Hid (But b m w1 w4) := HBU.out.trans ((but_below HB3.out).trans (but_grown hg1))
      have KB4 : Hid (Bk b (bcs ao cap l md m (s.aoW, s.wl.length, s.capW) s.st s.aoH s.capH s.aoT s.capT) w4) := (KB.out.later HB3.out).same hg1.size (hg1.block b (KB.out.later HB3.out).1 (by simpa using HG.out.2.2.2.1))
      clear hown hown1 hg1 h25 h27 h29 hsz
      refine HKK.out _ _ ?_
      go_wp2
      go_roundw
      case rel => exact ⟨k + 1, by omega, by go_num, HBU4.out, HWM4.out, (by have := KB4.out; rw [HAO.out] at this; exact this)⟩
      case measure => simp [intOf]; omega
end Go.Proofs.YtgbnjgenopdmfaaGreat
