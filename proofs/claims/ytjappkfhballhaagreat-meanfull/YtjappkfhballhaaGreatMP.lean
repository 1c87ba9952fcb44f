/- A bench in memory; keep walked. -/
import Derived.Test.YtjappkfhballhaaGreatMO
namespace Go.Proofs.YtjappkfhballhaaGreat
open Go.RowKit Go.Maps

/-- Nothing but block m has turned. -/
theorem grown_cell {w w1 : World} {m : Nat} (hg : w.grownBy w1 (some m)) {b o : Nat} (hb : b < w.heap.size) (hne : b ≠ m) : w1.cell? ⟨b, o, none⟩ = w.cell? ⟨b, o, none⟩ :=
  World.cell?_of_block (w := w) (hg.block b hb (by simpa using hne))
/-- A fluid that lies neither in block b nor in block m. -/
def Flx (b m : Nat) (w : World) (ao : Option Addr) (ps : List F.Pc) : Prop := F.Fl w ao ps ∧ (ps = [] ∨ ∀ a, ao = some a → a.block ≠ b ∧ a.block ≠ m)
def Txx (b m : Nat) (w : World) (ao : Option Addr) (t : List ByteArray) : Prop := Tx w ao t ∧ (t = [] ∨ ∀ a, ao = some a → a.block ≠ b ∧ a.block ≠ m)
theorem Flx.next {b m : Nat} {w w1 : World} {ao : Option Addr} {ps : List F.Pc} (h : Flx b m w ao ps) (hb : Below w.heap.size w w1) : Flx b m w1 ao ps := ⟨h.1.next hb, h.2⟩
theorem Txx.next {b m : Nat} {w w1 : World} {ao : Option Addr} {t : List ByteArray} (h : Txx b m w ao t) (hb : Below w.heap.size w w1) : Txx b m w1 ao t := ⟨h.1.next hb, h.2⟩
/-- What two worlds have alike: all but blocks b and m. -/
structure But (b m : Nat) (w w1 : World) : Prop where
  os : w1.os = w.os
  tape : w1.tape = w.tape
  output : w1.output = w.output
  size : w.heap.size ≤ w1.heap.size
  block : ∀ k, k < w.heap.size → k ≠ b → k ≠ m → w1.heap[k]? = w.heap[k]?
theorem But.below {b m B : Nat} {wB w w1 : World} (h : But b m w w1) (hB : Below B wB w) (h1 : B ≤ b) (h2 : B ≤ m) (h3 : B ≤ w.heap.size) : Below B wB w1 :=
  ⟨h.os.trans hB.os, h.tape.trans hB.tape, h.output.trans hB.output, Nat.le_trans hB.size h.size, fun k hk => (h.block k (by omega) (by omega) (by omega)).trans (hB.block k hk)⟩
theorem but_below {b m : Nat} {w w1 : World} (h : Below w.heap.size w w1) : But b m w w1 := ⟨h.os, h.tape, h.output, h.size, fun k hk _ _ => h.block k hk⟩
theorem but_grown {b m : Nat} {w w1 : World} (h : w.grownBy w1 (some m)) : But b m w w1 := ⟨h.os, h.tape, h.output, h.size, fun k hk _ h2 => h.block k hk (by simpa using h2)⟩
theorem but_set (b m : Nat) (w : World) (k : Nat) (v : Value) : But b m w (w.setCell ⟨b, k, none⟩ v) := ⟨rfl, rfl, rfl, by simp [World.setCell], fun i _ h1 _ => Below.heap_setCell w ⟨b, k, none⟩ v i h1⟩
theorem But.trans {b m : Nat} {w w1 w2 : World} (h : But b m w w1) (h2 : But b m w1 w2) : But b m w w2 :=
  ⟨h2.os.trans h.os, h2.tape.trans h.tape, h2.output.trans h.output, Nat.le_trans h.size h2.size, fun k hk h3 h4 => (h2.block k (Nat.lt_of_lt_of_le hk h.size) h3 h4).trans (h.block k hk h3 h4)⟩
theorem Flx.but {b m : Nat} {w w1 : World} {ao : Option Addr} {ps : List F.Pc} (h : Flx b m w ao ps) (hb : But b m w w1) : Flx b m w1 ao ps := by
  obtain ⟨⟨h0, h1⟩, h2⟩ := h
  refine ⟨⟨h0, ?_⟩, h2⟩
  rcases h1 with h1 | ⟨g, off, e, hg, hc⟩
  · exact .inl h1
  · rcases h2 with h2 | h2
    · exact .inl h2
    · obtain ⟨n1, n2⟩ := h2 _ e
      have hbl := hb.block g hg n1 n2
      exact .inr ⟨g, off, e, Nat.lt_of_lt_of_le hg hb.size, fun k hk => ⟨(World.cell?_of_block (w := w) hbl).trans (hc k hk).1, (World.cell?_of_block (w := w) hbl).trans (hc k hk).2⟩⟩
theorem Txx.but {b m : Nat} {w w1 : World} {ao : Option Addr} {t : List ByteArray} (h : Txx b m w ao t) (hb : But b m w w1) : Txx b m w1 ao t := by
  obtain ⟨⟨h0, h1⟩, h2⟩ := h
  refine ⟨⟨h0, ?_⟩, h2⟩
  rcases h1 with h1 | ⟨g, off, e, hg, hc⟩
  · exact .inl h1
  · rcases h2 with h2 | h2
    · exact .inl h2
    · obtain ⟨n1, n2⟩ := h2 _ e
      have hbl := hb.block g hg n1 n2
      exact .inr ⟨g, off, e, Nat.lt_of_lt_of_le hg hb.size, fun k hk => (World.cell?_of_block (w := w) hbl).trans (hc k hk)⟩
theorem flx_of {b m : Nat} {w : World} {base : Nat} {v : Value} {ps : List F.Pc} (h : F.Own w base v ps) (hs : ∀ p ∈ ps, p.1.size ≤ maxLen) (hb : b < base) (hm : m < base) : ∃ ao cap, v = .slice ao ps.length cap ∧ Flx b m w ao ps := by
  obtain ⟨ao, cap, e, hf⟩ := F.Own.give h hs
  refine ⟨ao, cap, e, hf, ?_⟩
  by_cases hn : ps = []
  · exact .inl hn
  · refine .inr fun a ha => ?_
    subst e
    subst ha
    have := (World.ownsRow.lt h a.block rfl).1
    omega
theorem txx_of {b m : Nat} {w : World} {base : Nat} {v : Value} {t : List ByteArray} (h : OwnR encT w base v t) (hs : ∀ x ∈ t, x.size ≤ maxLen) (hb : b < base) (hm : m < base) : ∃ ao cap, v = .slice ao t.length cap ∧ Txx b m w ao t := by
  obtain ⟨ao, cap, e, hf⟩ := tx_of h hs
  refine ⟨ao, cap, e, hf, ?_⟩
  by_cases hn : t = []
  · exact .inl hn
  · refine .inr fun a ha => ?_
    subst e
    subst ha
    have := (World.ownsRow.lt h a.block rfl).1
    omega
/-- What each kind of action does: the table. -/
abbrev fv (n : Nat) : Value := .func (.func n) #[] #[]
def Ddeeds : DataW Value := ((((((((((DataW.map []).put (.int .i64 5) (.held (fv 97))).put (.int .i64 6) (.held (fv 98))).put (.int .i64 7) (.held (fv 99))).put (.int .i64 8) (.held (fv 100))).put (.int .i64 9) (.held (fv 101))).put (.int .i64 11) (.held (fv 102))).put (.int .i64 12) (.held (fv 103))).put (.int .i64 13) (.held (fv 104))).put (.int .i64 14) (.held (fv 103)))
def DM (w : World) (md : Nat) : Prop := w.ownsMap Tryz.prog 3 RV md 9 Ddeeds
theorem DM.lt {w : World} {md : Nat} (h : DM w md) : md < w.heap.size := World.ownsMap.lt h
theorem DM.same {w w1 : World} {md : Nat} (h : DM w md) (hb : w1.heap[md]? = w.heap[md]?) : DM w1 md := by
  obtain ⟨es, clock, h1, h2⟩ := h
  exact ⟨es, clock, hb.trans h1, h2⟩
abbrev bcs (ao : Option Addr) (cap : Nat) (l : List Sit) (md m : Nat) (cw : Option Addr × Nat × Nat) (s : Sta) (aoH : Option Addr) (capH : Nat) (aoT : Option Addr) (capT : Nat) : List Value :=
  [.slice ao l.length cap, .int .i64 ((tipsL l).length : Int), .int .i64 (tipM l), .map (some md), .map (some m), .slice cw.1 cw.2.1 cw.2.2, .bool s.tip, .slice aoH s.held.length capH, .slice aoT s.touched.length capT, .int .i64 s.used, .int .i64 s.heat, .int .i64 s.clock]
/-- A bench: in block b, its wells in block m, its deeds in block md; made behind world wB. -/
structure Bn (wB w : World) (ao : Option Addr) (cap : Nat) (l : List Sit) (b m md : Nat) (s : Sta) : Prop where
  dk : Dk wB ao cap l
  hd : dchk l = 0
  may : May l s
  below : Below wB.heap.size wB w
  lb : wB.heap.size ≤ b ∧ wB.heap.size ≤ m ∧ wB.heap.size ≤ md
  ne : b ≠ m ∧ b ≠ md ∧ m ≠ md
  deeds : DM w md
  wells : ∃ wl, WM w m wl ∧ whp wl = s.wells ∧ ∀ x ∈ wl, Flx b m w x.2.1 x.2.2.2
  bk : ∃ cw aoH capH aoT capT, Bk b (bcs ao cap l md m cw s aoH capH aoT capT) w ∧ Flx b m w aoH s.held ∧ Txx b m w aoT s.touched
theorem Bn.next {wB w w1 : World} {ao : Option Addr} {cap : Nat} {l : List Sit} {b m md : Nat} {s : Sta} (h : Bn wB w ao cap l b m md s) (hb : Below w.heap.size w w1) : Bn wB w1 ao cap l b m md s := by
  obtain ⟨h1, h2, h3, h4, h5, h6, h7, ⟨wl, h8, h9, h10⟩, cw, aoH, capH, aoT, capT, h11, h12, h13⟩ := h
  exact ⟨h1, h2, h3, h4.trans (hb.mono h4.size), h5, h6, h7.same (hb.block _ h7.lt), ⟨wl, h8.next hb, h9, fun x hx => (h10 x hx).next hb⟩, cw, aoH, capH, aoT, capT, h11.later hb, h12.next hb, h13.next hb⟩
theorem Bn.dkw {wB w : World} {ao : Option Addr} {cap : Nat} {l : List Sit} {b m md : Nat} {s : Sta} (h : Bn wB w ao cap l b m md s) : Dk w ao cap l := h.dk.next h.below
/-- A bench behind a change of its own two blocks. -/
theorem Bn.turned {wB w w1 : World} {ao : Option Addr} {cap : Nat} {l : List Sit} {b m md : Nat} {s s' : Sta} (h : Bn wB w ao cap l b m md s) (hbut : But b m w w1) (hmay : May l s') {wl : List Wh} (hwm : WM w1 m wl) (hwl : whp wl = s'.wells) (hfl : ∀ x ∈ wl, Flx b m w1 x.2.1 x.2.2.2)
    {cw : Option Addr × Nat × Nat} {aoH : Option Addr} {capH : Nat} {aoT : Option Addr} {capT : Nat} (hbk : Bk b (bcs ao cap l md m cw s' aoH capH aoT capT) w1) (hh : Flx b m w1 aoH s'.held) (ht : Txx b m w1 aoT s'.touched) : Bn wB w1 ao cap l b m md s' :=
  ⟨h.dk, h.hd, hmay, hbut.below h.below h.lb.1 h.lb.2.1 h.below.size, h.lb, h.ne, h.deeds.same (hbut.block _ h.deeds.lt (fun e => h.ne.2.1 e.symm) (fun e => h.ne.2.2 e.symm)), ⟨wl, hwm, hwl, hfl⟩, cw, aoH, capH, aoT, capT, hbk, hh, ht⟩
theorem wf_place {l : List Sit} (hd : dchk l = 0) {p : Plc} (h : (wellM l p).2 = 0) : Wf3 p := by
  have := wellM_place hd h
  unfold Wf3 Wf1
  omega
theorem Bn.once {wB w : World} {ao : Option Addr} {cap : Nat} {l : List Sit} {b m md : Nat} {s : Sta} (h : Bn wB w ao cap l b m md s) {wl : List Wh} (hwl : whp wl = s.wells) : Once wl ∧ wl.length ≤ 4608 := by
  refine ⟨once_of (by rw [hwl]; exact h.may.rising), ?_⟩
  have := wells_few h.hd h.may
  rw [← hwl, whp_length] at this
  exact this
/-- What a well has from now on. -/
def setH (wl : List Wh) (p : Plc) (f : F.Fd) : List Wh := if f.2.2 = [] then delH wl p else insH (p, f) (delH wl p)
theorem whp_setH (wl : List Wh) (p : Plc) (f : F.Fd) : whp (setH wl p f) = wset (whp wl) p f.2.2 := by
  unfold setH wset
  split
  · exact whp_delH wl p
  · rw [whp_insH, whp_delH]
theorem mem_setH {wl : List Wh} {p : Plc} {f : F.Fd} {x : Wh} (h : x ∈ setH wl p f) : x = (p, f) ∨ x ∈ wl := by
  unfold setH at h
  split at h
  · exact .inr (mem_delH.1 h).1
  · rcases mem_insH.1 h with h | h
    · exact .inl h
    · exact .inr (mem_delH.1 h).1
theorem grown_of {w w1 : World} {r : Option Nat} (h : Below w.heap.size w w1) : w.grownBy w1 r := ⟨h.os, h.tape, h.output, h.size, fun k hk _ => h.block k hk⟩
def kdV (b m : Nat) (p : Plc) (d : Nat) (v : Value) (_ : World) : Prop :=
  match d with
  | 9 => v = .pointer (some ⟨b, 0, none⟩)
  | 10 => v = .pointer (some ⟨b, 0, none⟩)
  | 11 => v = .pointer (some ⟨b, 4, none⟩)
  | 12 => v = .map (some m)
  | 13 => v = .agg #[.int .i64 p.1, .int .i64 p.2.1, .int .i64 p.2.2]
  | _ => True
theorem kdV_mono (b m : Nat) (p : Plc) (d : Nat) (v : Value) (w w' : World) (h : kdV b m p d v w) (_ : Below w.heap.size w w') : kdV b m p d v w' := h
def kuV (b m : Nat) (p : Plc) (ao : Option Addr) (n cap : Nat) (d : Nat) (v : Value) (_ : World) : Prop :=
  match d with
  | 14 => v = .pointer (some ⟨b, 0, none⟩)
  | 15 => v = .pointer (some ⟨b, 0, none⟩)
  | 16 => v = .pointer (some ⟨b, 4, none⟩)
  | 17 => v = .map (some m)
  | 18 => v = .agg #[.int .i64 p.1, .int .i64 p.2.1, .int .i64 p.2.2]
  | 19 => v = .slice ao n cap
  | _ => True
theorem kuV_mono (b m : Nat) (p : Plc) (ao : Option Addr) (n cap : Nat) (d : Nat) (v : Value) (w w' : World) (h : kuV b m p ao n cap d v w) (_ : Below w.heap.size w w') : kuV b m p ao n cap d v w' := h

set_option maxHeartbeats 3200000 in
set_option maxRecDepth 100000 in
theorem keep_any (b m : Nat) (u0 u1 u2 u3 u5 u6 u7 u8 u9 u10 u11 : Value) (wl : List Wh) (p : Plc) (ao : Option Addr) (cap : Nat) (f : List F.Pc) (w : World) (hK : Bk b [u0, u1, u2, u3, .map (some m), u5, u6, u7, u8, u9, u10, u11] w) (hW : WM w m wl) (ho : Once wl) (hl : wl.length ≤ 4608) (hp : Wf3 p) :
    Calls Tryz.prog 121 #[ptr b, plv p, .slice ao f.length cap] w fun e w' => e = .returned (.tuple #[]) ∧ WM w' m (setH wl p (ao, cap, f)) ∧ w.grownBy w' (some m) := by
  obtain ⟨w0, hw0⟩ : ∃ w0, w0 = w.alloc (pobj p) := ⟨_, rfl⟩
  have b0 : Below w.heap.size w w0 := by rw [hw0]; exact (Below.refl _ _).alloc (Nat.le_refl _) _
  have HB : Hid (Below w.heap.size w w0) := b0
  have KB : Hid (Bk b [u0, u1, u2, u3, .map (some m), u5, u6, u7, u8, u9, u10, u11] w0) := hK.later b0
  have KP : Hid (Bk w.heap.size (pcl p) w0) := by show Bk _ _ _; rw [hw0]; exact Bk.new w (pcl p) 31 w.heap.size rfl
  have HWM : Hid (WM w0 m wl) := hW.next b0
  have HON : Hid (Once wl) := ho
  have HL : Hid (wl.length ≤ 4608) := hl
  have HP : Hid (Wf3 p) := hp
  have HW0 : Hid (w0 = w.alloc (pobj p)) := hw0
  have HML : Hid (m < w.heap.size) := hW.lt
  clear hK hW ho hl hp hw0 b0
  by_cases hf : f = []
  · have hf2 := len0_true hf
    have HQ : Hid (setH wl p (ao, cap, f) = delH wl p) := if_pos hf
    clear hf
    go_enter Tryz.func121, Tryz.ntmps121
    go_wp2_with fail
    rename_i KK hkk
    have HKK := (show Hid _ from hkk)
    clear hkk
    rw [← HW0.out]
    refine region_seq 5 [false, false, false, false, false, false, false, false, false, true, true, true, true, true, false, false, false, false, false, false]
      [(9, [], none), (10, [9], none), (11, [10], none), (12, [11], none), (13, [], none)]
      (kdV b m p) (by kernel_rfl) (by kernel_rfl) (by kernel_rfl) (by kernel_rfl) (by kernel_rfl) (by decide) (kdV_mono b m p) ?_ ?_
    · refine ⟨?_, ?_, ?_, ?_, ?_, trivial⟩
      · intro f w1 hb _ K hK
        simp only [over, overL, Nat.reduceAdd]
        go_simp
        exact hK _ _ ⟨_, rfl, by simp only [over, overL, Nat.reduceAdd]; rfl, Below.refl _ _⟩
      · intro f w1 hb ⟨h9, _⟩ K hK
        replace h9 : f 9 = _ := h9
        simp only [over, overL, Nat.reduceAdd, h9]
        go_simp
        exact hK _ _ ⟨_, rfl, by simp only [over, overL, Nat.reduceAdd, h9]; rfl, Below.refl _ _⟩
      · intro f w1 hb ⟨h10, _⟩ K hK
        replace h10 : f 10 = _ := h10
        simp only [over, overL, Nat.reduceAdd, h10]
        go_simp
        exact hK _ _ ⟨_, rfl, by simp only [over, overL, Nat.reduceAdd, h10]; rfl, Below.refl _ _⟩
      · intro f w1 hb ⟨h11, _⟩ K hK
        replace h11 : f 11 = _ := h11
        have q4 := (KB.out.later hb).c 4 rfl
        simp only [over, overL, Nat.reduceAdd, h11]
        go_simp
        exact hK _ _ ⟨_, rfl, by simp only [over, overL, Nat.reduceAdd, h11]; rfl, Below.refl _ _⟩
      · intro f w1 hb _ K hK
        have q0 := (KP.out.later hb).c 0 rfl
        have q1 := (KP.out.later hb).c 1 rfl
        have q2 := (KP.out.later hb).c 2 rfl
        simp only [over, overL, Nat.reduceAdd]
        go_simp
        exact hK _ _ ⟨_, rfl, by simp only [over, overL, Nat.reduceAdd]; rfl, Below.refl _ _⟩
    intro f w1 hb hv
    have h12 : f 12 = _ := hv.2.2.2.1
    have h13 : f 13 = _ := hv.2.2.2.2.1
    obtain ⟨D, hown, hrd⟩ := HWM.out.next hb
    have HRD : Hid (Reads (D.del (klP p)) (delH wl p)) := reads_del hrd HON.out HP.out
    have HB1 : Hid (Below w.heap.size w w1) := HB.out.trans (hb.mono HB.out.size)
    clear hv hrd hb
    simp only [List.drop, over, overL, Nat.reduceAdd, h12, h13]
    go_wp2_with (first | (at_delete; refine wpList_delete_own _ rfl _ _ 115 31 rfl 24 lawP Tryz.underlying115 RV m (Maps.size D) D rfl hown _ _ rfl (keyP_some HP.out) ?_; intro w2 hown1 hturn1) | go_in)
    have HWM2 : Hid (WM w2 m (delH wl p)) := ⟨_, own_tight hown1, HRD.out⟩
    have HG : Hid (w.grownBy w2 (some m)) := (grown_of HB1.out).trans hturn1.grown
    clear hown hown1 hturn1 h12 h13
    refine HKK.out _ _ ?_
    go_wp2
    (try simp only [Exit.inBlock, Exit.then])
    refine bodyPost_ret (results_none rfl _ _ _) rfl ?_
    exact ⟨rfl, by rw [HQ.out]; exact HWM2.out, HG.out⟩
  · have hf2 := len0_false hf
    have HQ : Hid (setH wl p (ao, cap, f) = insH (p, (ao, cap, f)) (delH wl p)) := if_neg hf
    clear hf
    generalize hfl : f.length = n at *
    have HFL : Hid (f.length = n) := hfl
    clear hfl
    go_enter Tryz.func121, Tryz.ntmps121
    go_wp2_with fail
    rw [← HW0.out]
    refine region_seq 6 [false, false, false, false, false, false, false, false, false, false, false, false, false, false, true, true, true, true, true, true]
      [(14, [], none), (15, [14], none), (16, [15], none), (17, [16], none), (18, [], none), (19, [], none)]
      (kuV b m p ao n cap) (by kernel_rfl) (by kernel_rfl) (by kernel_rfl) (by kernel_rfl) (by kernel_rfl) (by decide) (kuV_mono b m p ao n cap) ?_ ?_
    · refine ⟨?_, ?_, ?_, ?_, ?_, ?_, trivial⟩
      · intro f w1 hb _ K hK
        simp only [over, overL, Nat.reduceAdd]
        go_simp
        exact hK _ _ ⟨_, rfl, by simp only [over, overL, Nat.reduceAdd]; rfl, Below.refl _ _⟩
      · intro f w1 hb ⟨h14, _⟩ K hK
        replace h14 : f 14 = _ := h14
        simp only [over, overL, Nat.reduceAdd, h14]
        go_simp
        exact hK _ _ ⟨_, rfl, by simp only [over, overL, Nat.reduceAdd, h14]; rfl, Below.refl _ _⟩
      · intro f w1 hb ⟨h15, _⟩ K hK
        replace h15 : f 15 = _ := h15
        simp only [over, overL, Nat.reduceAdd, h15]
        go_simp
        exact hK _ _ ⟨_, rfl, by simp only [over, overL, Nat.reduceAdd, h15]; rfl, Below.refl _ _⟩
      · intro f w1 hb ⟨h16, _⟩ K hK
        replace h16 : f 16 = _ := h16
        have q4 := (KB.out.later hb).c 4 rfl
        simp only [over, overL, Nat.reduceAdd, h16]
        go_simp
        exact hK _ _ ⟨_, rfl, by simp only [over, overL, Nat.reduceAdd, h16]; rfl, Below.refl _ _⟩
      · intro f w1 hb _ K hK
        have q0 := (KP.out.later hb).c 0 rfl
        have q1 := (KP.out.later hb).c 1 rfl
        have q2 := (KP.out.later hb).c 2 rfl
        simp only [over, overL, Nat.reduceAdd]
        go_simp
        exact hK _ _ ⟨_, rfl, by simp only [over, overL, Nat.reduceAdd]; rfl, Below.refl _ _⟩
      · intro f w1 hb _ K hK
        simp only [over, overL, Nat.reduceAdd]
        go_simp
        exact hK _ _ ⟨_, rfl, by simp only [over, overL, Nat.reduceAdd]; rfl, Below.refl _ _⟩
    intro f' w1 hb hv
    have h17 : f' 17 = _ := hv.2.2.2.1
    have h18 : f' 18 = _ := hv.2.2.2.2.1
    have h19 : f' 19 = _ := hv.2.2.2.2.2.1
    obtain ⟨D, hown, hrd⟩ := HWM.out.next hb
    have HRD : Hid (Reads (D.put (klP p) (.held (.slice ao n cap))) (insH (p, (ao, cap, f)) (delH wl p))) := by
      have := reads_put (x := (p, (ao, cap, f))) hrd HON.out HP.out
      simp only [hdv] at this
      rw [HFL.out] at this
      exact this
    have HB1 : Hid (Below w.heap.size w w1) := HB.out.trans (hb.mono HB.out.size)
    have hsz : Maps.size D < maxLen := by rw [hrd.size]; have := HL.out; unfold maxLen; omega
    clear hv hrd hb
    simp only [List.drop, over, overL, Nat.reduceAdd, h17, h18, h19]
    go_wp2_with (first | (at_mapUpdate; refine wpList_mapUpdate_own _ rfl _ _ _ 115 rfl 31 24 lawP Tryz.underlying115 RV m (Maps.size D) D rfl hown hsz _ _ _ rfl rfl (keyP_some HP.out) (.held (.slice ao n cap)) [] rfl ?_; intro w2 hown1 hg1) | go_in)
    have HWM2 : Hid (WM w2 m (insH (p, (ao, cap, f)) (delH wl p))) := ⟨_, own_tight hown1, HRD.out⟩
    have HG : Hid (w.grownBy w2 (some m)) := (grown_of HB1.out).trans hg1
    clear hown hown1 hg1 h17 h18 h19 hsz
    go_end0
    exact ⟨rfl, by rw [HQ.out]; exact HWM2.out, HG.out⟩
end Go.Proofs.YtjappkfhballhaaGreat
