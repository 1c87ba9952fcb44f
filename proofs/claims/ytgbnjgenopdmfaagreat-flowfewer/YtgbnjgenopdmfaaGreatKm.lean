import Derived.Test.YtgbnjgenopdmfaaGreatKl

/- flow's bench in memory; shown walked. -/
namespace Go.Proofs.YtgbnjgenopdmfaaGreat
open Go.RowKit Go.Maps
/-- A fluid, texts that lie in none of some blocks. -/
def FlX (X : Nat → Prop) (w : World) (ao : Option Addr) (ps : List F.Pc) : Prop := F.Fl w ao ps ∧ (ps = [] ∨ ∀ a, ao = some a → ¬ X a.block)
def TxX (X : Nat → Prop) (w : World) (ao : Option Addr) (t : List ByteArray) : Prop := Tx w ao t ∧ (t = [] ∨ ∀ a, ao = some a → ¬ X a.block)
theorem FlX.next {X : Nat → Prop} {w w1 : World} {ao : Option Addr} {ps : List F.Pc} (h : FlX X w ao ps) (hb : Below w.heap.size w w1) : FlX X w1 ao ps := ⟨h.1.next hb, h.2⟩
theorem TxX.next {X : Nat → Prop} {w w1 : World} {ao : Option Addr} {t : List ByteArray} (h : TxX X w ao t) (hb : Below w.heap.size w w1) : TxX X w1 ao t := ⟨h.1.next hb, h.2⟩
theorem apart_x {α : Type} {X : Nat → Prop} {b m : Nat} {ps : List α} {ao : Option Addr} (h : ps = [] ∨ ∀ a, ao = some a → ¬ X a.block) (hb : X b) (hm : X m) : ps = [] ∨ ∀ a, ao = some a → a.block ≠ b ∧ a.block ≠ m :=
  h.imp id fun h a ha => ⟨fun e => h a ha (by rw [e]; exact hb), fun e => h a ha (by rw [e]; exact hm)⟩
theorem FlX.but {X : Nat → Prop} {b m : Nat} {w w1 : World} {ao : Option Addr} {ps : List F.Pc} (h : FlX X w ao ps) (hb : X b) (hm : X m) (hw : But b m w w1) : FlX X w1 ao ps := ⟨(Flx.but ⟨h.1, apart_x h.2 hb hm⟩ hw).1, h.2⟩
theorem TxX.but {X : Nat → Prop} {b m : Nat} {w w1 : World} {ao : Option Addr} {t : List ByteArray} (h : TxX X w ao t) (hb : X b) (hm : X m) (hw : But b m w w1) : TxX X w1 ao t := ⟨(Txx.but ⟨h.1, apart_x h.2 hb hm⟩ hw).1, h.2⟩
/-- What lies high lies in none of blocks that are low. -/
theorem high_x {α : Type} {X : Nat → Prop} {n : Nat} {ps : List α} {ao : Option Addr} (h : ps = [] ∨ ∀ a, ao = some a → n ≤ a.block) (hx : ∀ k, X k → k < n) : ps = [] ∨ ∀ a, ao = some a → ¬ X a.block :=
  h.imp id fun h a ha hX => by have := h a ha; have := hx _ hX; omega
abbrev fcs (ao : Option Addr) (cap : Nat) (l : List Sit) (m : Nat) (s : Sta) (aoH : Option Addr) (capH : Nat) (aoT : Option Addr) (capT : Nat) : List Value :=
  [.slice ao l.length cap, .map (some m), .slice none 0 0, .bool s.tip, .slice aoH s.held.length capH, .slice aoT s.touched.length capT, .int .i64 s.used, .int .i64 s.heat, .int .i64 s.clock]
/-- flow's bench: in block b, its wells in block m; what it holds lies in none of the blocks X; made behind world wB. -/
structure Fb (X : Nat → Prop) (wB w : World) (ao : Option Addr) (cap : Nat) (l : List Sit) (b m : Nat) (s : Sta) : Prop where
  dk : Dk wB ao cap l
  hd : dchk l = 0
  may : May l s
  below : Below wB.heap.size wB w
  lb : wB.heap.size ≤ b ∧ wB.heap.size ≤ m
  ne : b ≠ m
  x : X b ∧ X m
  low : ∀ k, X k → k < w.heap.size
  wells : ∃ wl, WM w m wl ∧ whp wl = s.wells ∧ ∀ x ∈ wl, FlX X w x.2.1 x.2.2.2
  bk : ∃ aoH capH aoT capT, Bk b (fcs ao cap l m s aoH capH aoT capT) w ∧ FlX X w aoH s.held ∧ TxX X w aoT s.touched
theorem Fb.next {X : Nat → Prop} {wB w w1 : World} {ao : Option Addr} {cap : Nat} {l : List Sit} {b m : Nat} {s : Sta} (h : Fb X wB w ao cap l b m s) (hb : Below w.heap.size w w1) : Fb X wB w1 ao cap l b m s := by
  obtain ⟨h1, h2, h3, h4, h5, h6, h7, h8, ⟨wl, h9, h10, h11⟩, aoH, capH, aoT, capT, h12, h13, h14⟩ := h
  exact ⟨h1, h2, h3, h4.trans (hb.mono h4.size), h5, h6, h7, fun k hk => Nat.lt_of_lt_of_le (h8 k hk) hb.size, ⟨wl, h9.next hb, h10, fun x hx => (h11 x hx).next hb⟩, aoH, capH, aoT, capT, h12.later hb, h13.next hb, h14.next hb⟩
theorem Fb.dkw {X : Nat → Prop} {wB w : World} {ao : Option Addr} {cap : Nat} {l : List Sit} {b m : Nat} {s : Sta} (h : Fb X wB w ao cap l b m s) : Dk w ao cap l := h.dk.next h.below
/-- Blocks of another bench have turned. -/
theorem Fb.but {X : Nat → Prop} {wB w w1 : World} {ao : Option Addr} {cap : Nat} {l : List Sit} {b m b2 m2 : Nat} {s : Sta} (h : Fb X wB w ao cap l b m s) (hw : But b2 m2 w w1) (hx : X b2 ∧ X m2) (hl : wB.heap.size ≤ b2 ∧ wB.heap.size ≤ m2) (hn : (b ≠ b2 ∧ b ≠ m2) ∧ m ≠ b2 ∧ m ≠ m2) : Fb X wB w1 ao cap l b m s := by
  obtain ⟨h1, h2, h3, h4, h5, h6, h7, h8, ⟨wl, h9, h10, h11⟩, aoH, capH, aoT, capT, h12, h13, h14⟩ := h
  exact ⟨h1, h2, h3, hw.below h4 hl.1 hl.2 h4.size, h5, h6, h7, fun k hk => Nat.lt_of_lt_of_le (h8 k hk) hw.size, ⟨wl, h9.same (hw.block m (h8 m h7.2) hn.2.1 hn.2.2), h10, fun x hx2 => (h11 x hx2).but hx.1 hx.2 hw⟩, aoH, capH, aoT, capT,
    h12.same hw.size (hw.block b (h8 b h7.1) hn.1.1 hn.1.2), h13.but hx.1 hx.2 hw, h14.but hx.1 hx.2 hw⟩
/-- A bench behind a change of its own two blocks. -/
theorem Fb.turned {X : Nat → Prop} {wB w w1 : World} {ao : Option Addr} {cap : Nat} {l : List Sit} {b m : Nat} {s s' : Sta} (h : Fb X wB w ao cap l b m s) (hw : But b m w w1) (hmay : May l s') {wl : List Wh} (hwm : WM w1 m wl) (hwl : whp wl = s'.wells) (hfl : ∀ x ∈ wl, FlX X w1 x.2.1 x.2.2.2)
    {aoH : Option Addr} {capH : Nat} {aoT : Option Addr} {capT : Nat} (hbk : Bk b (fcs ao cap l m s' aoH capH aoT capT) w1) (hh : FlX X w1 aoH s'.held) (ht : TxX X w1 aoT s'.touched) : Fb X wB w1 ao cap l b m s' :=
  ⟨h.dk, h.hd, hmay, hw.below h.below h.lb.1 h.lb.2 h.below.size, h.lb, h.ne, h.x, fun k hk => Nat.lt_of_lt_of_le (h.low k hk) hw.size, ⟨wl, hwm, hwl, hfl⟩, aoH, capH, aoT, capT, hbk, hh, ht⟩
theorem Fb.once {X : Nat → Prop} {wB w : World} {ao : Option Addr} {cap : Nat} {l : List Sit} {b m : Nat} {s : Sta} (h : Fb X wB w ao cap l b m s) {wl : List Wh} (hwl : whp wl = s.wells) : Once wl ∧ wl.length ≤ 4608 := by
  refine ⟨once_of (by rw [hwl]; exact h.may.rising), ?_⟩
  have := wells_few h.hd h.may
  rw [← hwl, whp_length] at this
  exact this
/-- A look-up that tells whether something is there. -/
def hasW (wl : List Wh) (p : Plc) : Bool := (wl.find? fun x => x.1 == p).isSome
theorem has_cases (wl : List Wh) (p : Plc) : ((∀ x ∈ wl, x.1 ≠ p) ∧ hasW wl p = false ∧ fdAt wl p = (none, 0, [])) ∨ ∃ x ∈ wl, x.1 = p ∧ hasW wl p = true ∧ fdAt wl p = x.2 := by
  cases e : wl.find? (fun x => x.1 == p) with
  | none =>
    have h : ∀ x ∈ wl, x.1 ≠ p := fun x hx => by simpa using List.find?_eq_none.1 e x hx
    exact .inl ⟨h, by unfold hasW; rw [e]; rfl, by unfold fdAt; rw [e]; rfl⟩
  | some x =>
    have h1 := List.mem_of_find?_eq_some e
    have h2 : x.1 = p := by simpa using List.find?_some e
    exact .inr ⟨x, h1, h2, by unfold hasW; rw [e]; rfl, by unfold fdAt; rw [e]; rfl⟩
set_option maxRecDepth 100000 in
theorem WM.look2 {w : World} {m : Nat} {wl : List Wh} (h : WM w m wl) {p : Plc} (hp : Wf3 p) : (Instr.lookup 93 (.map (some m)) (plv p) true).run Tryz.prog w = .ok (.tuple #[hdv (fdAt wl p), .bool (hasW wl p)]) w := by
  obtain ⟨D, ⟨es, clock, hb, F, _, hD⟩, h2⟩ := h
  have hk := keyP_some hp
  rcases Maps.fit_look true lawP Tryz.underlying93 (zeroSl w) hb F hk with ⟨hrun, hno, hat⟩ | ⟨e0, y, he0, hk0, hrun, hRv, hat, _⟩
  · rcases has_cases wl p with ⟨_, e1, e2⟩ | ⟨x, hx, hxp, _, _⟩
    · rw [hrun, e1, e2]
      rfl
    · exfalso
      have h4 := h2.at' x hx .nil
      rw [hxp, hD, hat] at h4
      injection h4
  · rcases has_cases wl p with ⟨hn, _, _⟩ | ⟨x, hx, hxp, e1, e2⟩
    · exfalso
      have h3 : Maps.has D (klP p) = true := has_true_of_atKey (D := D) (k := klP p) (y := y.1) (fun zd => by rw [hD]; exact hat zd)
      rw [h2.none' p hp hn] at h3
      cases h3
    · simp only [RV, Option.some.injEq] at hRv
      have h3 := h2.at' x hx .nil
      rw [hxp, hD, hat, ← hRv] at h3
      injection h3 with h3
      rw [hrun, e1, e2, h3]
      rfl
set_option linter.unusedVariables false in
def shV (b P m nf : Nat) (p : Plc) (fd : F.Fd) (has : Bool) (i : Nat) (l : List Value) (w : World) : Prop :=
  match i, l with
  | 0, [v] => v = .pointer (some ⟨b, 0, none⟩)
  | 1, [v] => v = .pointer (some ⟨b, 0, none⟩)
  | 2, [v] => v = .pointer (some ⟨b, 1, none⟩)
  | 3, [v] => v = .map (some m)
  | 4, [v] => v = .agg #[.int .i64 p.1, .int .i64 p.2.1, .int .i64 p.2.2]
  | 5, [v] => v = .tuple #[.slice fd.1 nf fd.2.1, .bool has]
  | 6, [v] => v = .tuple #[.slice fd.1 nf fd.2.1, .bool has]
  | 7, [v] => v = .slice fd.1 nf fd.2.1
  | 8, [v] => v = .bool has
  | 9, [v] => v = .slice fd.1 nf fd.2.1
  | 10, [v] => v = .bool has
  | _, _ => True
set_option maxHeartbeats 3200000 in
set_option maxRecDepth 100000 in
theorem shown_any (X : Nat → Prop) (wB w : World) (ao : Option Addr) (cap : Nat) (l : List Sit) (b m : Nat) (s : Sta) (p : Plc) (h : Fb X wB w ao cap l b m s) (hp : Wf3 p) :
    Calls Tryz.prog 90 #[ptr b, plv p] w fun e w' => ∃ t : Sm, e = .returned (smv t) ∧ t.st = shw s p ∧ SmIn w' t ∧ Below w.heap.size w w' := by
  obtain ⟨wl, hwm, hwl, hfl⟩ := h.wells
  obtain ⟨aoH, capH, aoT, capT, hK, hH, hT⟩ := h.bk
  have HMY : Hid (May l s) := h.may
  have HWL : Hid (whp wl = s.wells) := hwl
  have HFL : Hid (∀ x ∈ wl, F.Fl w x.2.1 x.2.2.2) := fun x hx => (hfl x hx).1
  have HH : Hid (F.Fl w aoH s.held) := hH.1
  have HT : Hid (Tx w aoT s.touched) := hT.1
  obtain ⟨w0, hw0⟩ : ∃ w0, w0 = ((w.alloc (pobj p)).alloc (.cells z7.toArray 40)).alloc (.cells #[.slice none 0 0, .bool s.tip, .slice aoH s.held.length capH, .slice aoT s.touched.length capT, .int .i64 s.used, .int .i64 s.heat, .int .i64 s.clock] 40) := ⟨_, rfl⟩
  have b0 : Below w.heap.size w w0 := by rw [hw0]; exact (((Below.refl _ _).alloc (Nat.le_refl _) _).alloc (by simp) _).alloc (by simp; omega) _
  have HB0 : Hid (Below w.heap.size w w0) := b0
  have KB : Hid (Bk b (fcs ao cap l m s aoH capH aoT capT) w0) := hK.later b0
  have KP : Hid (Bk w.heap.size (pcl p) w0) := by
    show Bk _ _ _
    rw [hw0]
    exact ((Bk.new w (pcl p) 53 w.heap.size rfl).later ((Below.refl _ _).alloc (Nat.le_refl _) _)).later ((Below.refl _ _).alloc (Nat.le_refl _) _)
  have KR : Hid (Bk (w.heap.size + 1) z7 w0) := by
    show Bk _ _ _
    rw [hw0]
    exact (Bk.new _ z7 40 (w.heap.size + 1) (by simp)).later ((Below.refl _ _).alloc (Nat.le_refl _) _)
  have KS : Hid (Bk (w.heap.size + 2) [.slice none 0 0, .bool s.tip, .slice aoH s.held.length capH, .slice aoT s.touched.length capT, .int .i64 s.used, .int .i64 s.heat, .int .i64 s.clock] w0) := by
    show Bk _ _ _
    rw [hw0]
    exact Bk.new _ _ 40 (w.heap.size + 2) (by simp)
  have HLK : Hid (∀ W1, Below w0.heap.size w0 W1 → (Instr.lookup 93 (.map (some m)) (.agg #[.int .i64 p.1, .int .i64 p.2.1, .int .i64 p.2.2]) true).run Tryz.prog W1 = .ok (.tuple #[.slice (fdAt wl p).1 (fdAt wl p).2.2.length (fdAt wl p).2.1, .bool (hasW wl p)]) W1) := fun W1 hb => ((hwm.next b0).next hb).look2 hp
  have HW0 : Hid (w0 = _) := hw0
  have hb2 := hK.1
  have y2 := (hK).c 2 rfl
  have y3 := (hK).c 3 rfl
  have y4 := (hK).c 4 rfl
  have y5 := (hK).c 5 rfl
  have y6 := (hK).c 6 rfl
  have y7 := (hK).c 7 rfl
  have y8 := (hK).c 8 rfl
  have HCS : Hid (((hasW wl p = false ∧ shw s p = { s with wells := [] }) ∨ (hasW wl p = true ∧ F.Fl w (fdAt wl p).1 (fdAt wl p).2.2 ∧ shw s p = { s with wells := [(p, (fdAt wl p).2.2)] }))) := by
    have e := fdAt_whp wl p
    rw [hwl] at e
    rcases has_cases wl p with ⟨_, e1, e2⟩ | ⟨x, hx, hxp, e1, e2⟩
    · refine .inl ⟨e1, ?_⟩
      rw [e2] at e
      unfold shw
      rw [if_pos e.symm]
    · refine .inr ⟨e1, by rw [e2]; exact (hfl x hx).1, ?_⟩
      have hne : x.2.2.2 ≠ [] := (h.may.wells (x.1, x.2.2.2) (by rw [← hwl]; exact List.mem_map.2 ⟨x, hx, rfl⟩)).2.1
      unfold shw
      rw [← e, e2, if_neg hne]
  generalize hfd : fdAt wl p = fd at *
  generalize hhas : hasW wl p = has at *
  generalize hnf : fd.2.2.length = nf at *
  have HNF : Hid (fd.2.2.length = nf) := hnf
  clear h hp hwm hwl hfl hK hH hT hw0 b0 hfd hhas hnf HWL HFL
  go_enter Tryz.func90, Tryz.ntmps90
  go_wp2_with fail
  rw [← HW0.out]
  refine region_all [false, false, false, false, false, false, true, true, false, false, false, false, true, true, true, true, true, true, true, true, true, false, false, false, false, false, false, false]
    [([], [13], none), ([0], [14], none), ([1], [15], none), ([2], [16], none), ([], [17], none), ([3, 4], [18], none), ([5], [12], none), ([6], [19], none), ([6], [20], none), ([7], [6], none), ([8], [7], none)]
    (shV b w.heap.size m nf p fd has) (fun _ _ => True) (by kernel_rfl) (by kernel_rfl) (fun _ _ => trivial) ?_ ?_
  · refine ⟨?_, ?_, ?_, ?_, ?_, ?_, ?_, ?_, ?_, ?_, ?_, trivial⟩
    · intro f w1 hb hJ _ K hK
      simp only [over, overL, Nat.reduceAdd]
      go_simp
      exact hK _ _ ⟨_, by simp only [over, overL, Nat.reduceAdd]; rfl, rfl, hb, trivial, fun _ h => h⟩
    · intro f w1 hb hJ ⟨h13, _⟩ K hK
      replace h13 : f 13 = _ := h13
      simp only [over, overL, Nat.reduceAdd, h13]
      go_simp
      exact hK _ _ ⟨_, by simp only [over, overL, Nat.reduceAdd, h13]; rfl, rfl, hb, trivial, fun _ h => h⟩
    · intro f w1 hb hJ ⟨h14, _⟩ K hK
      replace h14 : f 14 = _ := h14
      simp only [over, overL, Nat.reduceAdd, h14]
      go_simp
      exact hK _ _ ⟨_, by simp only [over, overL, Nat.reduceAdd, h14]; rfl, rfl, hb, trivial, fun _ h => h⟩
    · intro f w1 hb hJ ⟨h15, _⟩ K hK
      replace h15 : f 15 = _ := h15
      have q1 := (KB.out.later hb).c 1 rfl
      simp only [over, overL, Nat.reduceAdd, h15]
      go_simp
      exact hK _ _ ⟨_, by simp only [over, overL, Nat.reduceAdd, h15]; rfl, rfl, hb, trivial, fun _ h => h⟩
    · intro f w1 hb hJ _ K hK
      have q0 := (KP.out.later hb).c 0 rfl
      have q1 := (KP.out.later hb).c 1 rfl
      have q2 := (KP.out.later hb).c 2 rfl
      simp only [over, overL, Nat.reduceAdd]
      go_simp
      exact hK _ _ ⟨_, by simp only [over, overL, Nat.reduceAdd]; rfl, rfl, hb, trivial, fun _ h => h⟩
    · intro f w1 hb hJ ⟨h16, h17, _⟩ K hK
      replace h16 : f 16 = _ := h16
      replace h17 : f 17 = _ := h17
      have q0 := HLK.out w1 hb
      simp only [over, overL, Nat.reduceAdd, h16, h17]
      go_simp
      exact hK _ _ ⟨_, by simp only [over, overL, Nat.reduceAdd, h16, h17]; rfl, rfl, hb, trivial, fun _ h => h⟩
    · intro f w1 hb hJ ⟨h18, _⟩ K hK
      replace h18 : f 18 = _ := h18
      simp only [over, overL, Nat.reduceAdd, h18]
      go_simp
      exact hK _ _ ⟨_, by simp only [over, overL, Nat.reduceAdd, h18]; rfl, rfl, hb, trivial, fun _ h => h⟩
    · intro f w1 hb hJ ⟨h12, _⟩ K hK
      replace h12 : f 12 = _ := h12
      simp only [over, overL, Nat.reduceAdd, h12]
      go_simp
      exact hK _ _ ⟨_, by simp only [over, overL, Nat.reduceAdd, h12]; rfl, rfl, hb, trivial, fun _ h => h⟩
    · intro f w1 hb hJ ⟨h12, _⟩ K hK
      replace h12 : f 12 = _ := h12
      simp only [over, overL, Nat.reduceAdd, h12]
      go_simp
      exact hK _ _ ⟨_, by simp only [over, overL, Nat.reduceAdd, h12]; rfl, rfl, hb, trivial, fun _ h => h⟩
    · intro f w1 hb hJ ⟨h19, _⟩ K hK
      replace h19 : f 19 = _ := h19
      simp only [over, overL, Nat.reduceAdd, h19]
      go_simp
      exact hK _ _ ⟨_, by simp only [over, overL, Nat.reduceAdd, h19]; rfl, rfl, hb, trivial, fun _ h => h⟩
    · intro f w1 hb hJ ⟨h20, _⟩ K hK
      replace h20 : f 20 = _ := h20
      simp only [over, overL, Nat.reduceAdd, h20]
      go_simp
      exact hK _ _ ⟨_, by simp only [over, overL, Nat.reduceAdd, h20]; rfl, rfl, hb, trivial, fun _ h => h⟩
  intro f w1 hb _ hv
  have h6 : f 6 = _ := hv.2.2.2.2.2.2.2.2.2.1
  have h7 : f 7 = _ := hv.2.2.2.2.2.2.2.2.2.2.1
  have HB1 : Hid (Below w.heap.size w w1) := HB0.out.trans (hb.mono HB0.out.size)
  have KP1 : Hid (Bk w.heap.size (pcl p) w1) := KP.out.later hb
  have KR1 : Hid (Bk (w.heap.size + 1) z7 w1) := KR.out.later hb
  have KS1 : Hid (Bk (w.heap.size + 2) [.slice none 0 0, .bool s.tip, .slice aoH s.held.length capH, .slice aoT s.touched.length capT, .int .i64 s.used, .int .i64 s.heat, .int .i64 s.clock] w1) := KS.out.later hb
  clear hv hb y2 y3 y4 y5 y6 y7 y8 hb2
  simp only [over, overL, Nat.reduceAdd, h6, h7]
  clear h6 h7
  have l1 := KS1.out.1
  have l2 := KR1.out.1
  have r0 := (KR1.out).c 0 rfl
  have rf0 := (KR1.out).f 0 rfl
  have r1 := (KR1.out).c 1 rfl
  have rf1 := (KR1.out).f 1 rfl
  have r2 := (KR1.out).c 2 rfl
  have rf2 := (KR1.out).f 2 rfl
  have r3 := (KR1.out).c 3 rfl
  have rf3 := (KR1.out).f 3 rfl
  have r4 := (KR1.out).c 4 rfl
  have rf4 := (KR1.out).f 4 rfl
  have r5 := (KR1.out).c 5 rfl
  have rf5 := (KR1.out).f 5 rfl
  have r6 := (KR1.out).c 6 rfl
  have rf6 := (KR1.out).f 6 rfl
  have k0 := (KS1.out).c 0 rfl
  have kf0 := (KS1.out).f 0 rfl
  have k1 := (KS1.out).c 1 rfl
  have kf1 := (KS1.out).f 1 rfl
  have k2 := (KS1.out).c 2 rfl
  have kf2 := (KS1.out).f 2 rfl
  have k3 := (KS1.out).c 3 rfl
  have kf3 := (KS1.out).f 3 rfl
  have k4 := (KS1.out).c 4 rfl
  have kf4 := (KS1.out).f 4 rfl
  have k5 := (KS1.out).c 5 rfl
  have kf5 := (KS1.out).f 5 rfl
  have k6 := (KS1.out).c 6 rfl
  have kf6 := (KS1.out).f 6 rfl
  have q0 := (KP1.out).c 0 rfl
  have q1 := (KP1.out).c 1 rfl
  have q2 := (KP1.out).c 2 rfl
  rcases HCS.out with ⟨rfl, hsh⟩ | ⟨rfl, hfl, hsh⟩
  · have HSH : Hid (shw s p = { s with wells := [] }) := hsh
    clear hsh
    go_wp2
    refine bodyPost_ret (v := smv ⟨none, 0, [], s.tip, aoH, capH, s.held, aoT, capT, s.touched, s.used, s.heat, s.clock⟩) (by simp [results, Tryz.results90, go_sem, r0, r1, r2, r3, r4, r5, r6]) rfl ⟨_, rfl, ?_, ?_, ?_⟩
    · rw [HSH.out]; rfl
    · have hb2 := blw_put7 HB1.out (show w.heap.size ≤ w.heap.size + 1 by omega) ⟨none, 0, [], s.tip, aoH, capH, s.held, aoT, capT, s.touched, s.used, s.heat, s.clock⟩
      exact ⟨.inl rfl, HH.out.next hb2, HT.out.next hb2⟩
    · exact blw_put7 HB1.out (show w.heap.size ≤ w.heap.size + 1 by omega) ⟨none, 0, [], s.tip, aoH, capH, s.held, aoT, capT, s.touched, s.used, s.heat, s.clock⟩
  · have HSH : Hid (shw s p = { s with wells := [(p, fd.2.2)] }) := hsh
    have HFD : Hid (F.Fl w fd.1 fd.2.2) := hfl
    clear hsh hfl
    have n1 : w.heap.size + 1 ≠ w1.heap.size := by omega
    have n2 : w.heap.size + 2 ≠ w1.heap.size := by omega
    obtain ⟨t, ht⟩ : ∃ t : Sm, t = ⟨some ⟨w1.heap.size, 0, none⟩, 1, [(p, fd)], s.tip, aoH, capH, s.held, aoT, capT, s.touched, s.used, s.heat, s.clock⟩ := ⟨_, rfl⟩
    obtain ⟨wf, hwf⟩ : ∃ wf, wf = ((((((((w1.setCell ⟨w.heap.size + 1 + 1, 0, none⟩ (.slice (some ⟨w1.heap.size, 0, none⟩) 1 1)).setCell ⟨w.heap.size + 1, 0, none⟩ (.slice (some ⟨w1.heap.size, 0, none⟩) 1 1)).setCell ⟨w.heap.size + 1, 1, none⟩ (.bool s.tip)).setCell ⟨w.heap.size + 1, 2, none⟩ (.slice aoH s.held.length capH)).setCell ⟨w.heap.size + 1, 3, none⟩ (.slice aoT s.touched.length capT)).setCell ⟨w.heap.size + 1, 4, none⟩ (.int .i64 s.used)).setCell ⟨w.heap.size + 1, 5, none⟩ (.int .i64 s.heat)).setCell ⟨w.heap.size + 1, 6, none⟩ (.int .i64 s.clock)).alloc (.cells #[.int .i64 p.1, .int .i64 p.2.1, .int .i64 p.2.2, .slice fd.1 nf fd.2.1] 91) := ⟨_, rfl⟩
    have hsz : ((((((((w1.setCell ⟨w.heap.size + 1 + 1, 0, none⟩ (.slice (some ⟨w1.heap.size, 0, none⟩) 1 1)).setCell ⟨w.heap.size + 1, 0, none⟩ (.slice (some ⟨w1.heap.size, 0, none⟩) 1 1)).setCell ⟨w.heap.size + 1, 1, none⟩ (.bool s.tip)).setCell ⟨w.heap.size + 1, 2, none⟩ (.slice aoH s.held.length capH)).setCell ⟨w.heap.size + 1, 3, none⟩ (.slice aoT s.touched.length capT)).setCell ⟨w.heap.size + 1, 4, none⟩ (.int .i64 s.used)).setCell ⟨w.heap.size + 1, 5, none⟩ (.int .i64 s.heat)).setCell ⟨w.heap.size + 1, 6, none⟩ (.int .i64 s.clock)).heap.size = w1.heap.size := by simp [World.setCell]
    have hbf : Below w.heap.size w wf := by
      rw [hwf]
      exact (blw_put7 (HB1.out.setCell (show w.heap.size ≤ w.heap.size + 1 + 1 by omega) _) (show w.heap.size ≤ w.heap.size + 1 by omega) ⟨some ⟨w1.heap.size, 0, none⟩, 1, [(p, fd)], s.tip, aoH, capH, s.held, aoT, capT, s.touched, s.used, s.heat, s.clock⟩).alloc (Nat.le_trans (show w.heap.size ≤ w1.heap.size by omega) (Nat.le_of_eq hsz.symm)) _
    have KF : Hid (Bk (w.heap.size + 1) (sml t) wf) := by
      show Bk _ _ _
      rw [hwf, ht]
      exact (((((((((KR1.out.other (show w.heap.size + 1 ≠ w.heap.size + 1 + 1 by omega) 0 _).put 0 _).put 1 _).put 2 _).put 3 _).put 4 _).put 5 _).put 6 _)).later ((Below.refl _ _).alloc (Nat.le_refl _) _)
    have KN : Hid (Bk w1.heap.size [.int .i64 p.1, .int .i64 p.2.1, .int .i64 p.2.2, .slice fd.1 nf fd.2.1] wf) := by
      show Bk _ _ _
      rw [hwf]
      exact Bk.new _ _ 91 w1.heap.size hsz.symm
    have z0 := (KF.out).c 0 rfl
    have z1 := (KF.out).c 1 rfl
    have z2 := (KF.out).c 2 rfl
    have z3 := (KF.out).c 3 rfl
    have z4 := (KF.out).c 4 rfl
    have z5 := (KF.out).c 5 rfl
    have z6 := (KF.out).c 6 rfl
    have HIN : Hid (t.st = shw s p ∧ SmIn wf t ∧ Below w.heap.size w wf) := by
      refine ⟨by rw [HSH.out, ht]; rfl, ?_, hbf⟩
      rw [ht]
      refine ⟨.inr ⟨w1.heap.size, 0, rfl, fun k hk => ?_⟩, HH.out.next hbf, HT.out.next hbf⟩
      have hk0 : k = 0 := by simpa using hk
      subst hk0
      exact ⟨KN.out.1, KN.out.c 0 rfl, KN.out.c 1 rfl, KN.out.c 2 rfl, by rw [← HNF.out] at KN; exact KN.out.c 3 rfl, HFD.out.next hbf⟩
    have HWF : Hid (wf = _) := hwf
    clear hbf hsz hwf
    go_wp2
    rw [← HWF.out]
    subst ht
    refine bodyPost_ret (v := smv _) (by simp [results, Tryz.results90, go_sem, z0, z1, z2, z3, z4, z5, z6]) rfl ⟨_, rfl, HIN.out⟩
end Go.Proofs.YtgbnjgenopdmfaaGreat

/- mean.Well, flow's keep walked. -/
namespace Go.Proofs.YtgbnjgenopdmfaaGreat
open Go.RowKit Go.Maps
theorem pl_same' (p q : Plc) (W : World) : (binOp .eql 53 (.agg #[.int .i64 p.1, .int .i64 p.2.1, .int .i64 p.2.2]) (.agg #[.int .i64 q.1, .int .i64 q.2.1, .int .i64 q.2.2])).run Tryz.prog W = .ok (.bool (p == q)) W := by
  obtain ⟨a, b, c⟩ := p
  obtain ⟨d, e, f⟩ := q
  go_simp
  by_cases h1 : a = d <;> by_cases h2 : b = e <;> by_cases h3 : c = f <;> simp [h1, h2, h3]
theorem wellF_hit {wl : List Wh} {p : Plc} {k : Nat} (hk : k < wl.length) (h : ∀ x ∈ wl.take k, (x.1 == p) = false) (hs : ((wl[k]'hk).1 == p) = true) : wellF (whp wl) p = (wl[k]'hk).2.2.2 := by
  have e : wl = wl.take k ++ wl[k]'hk :: wl.drop (k + 1) := by rw [← List.drop_eq_getElem_cons hk, List.take_append_drop]
  unfold wellF whp
  have : (wl.map fun x => (x.1, x.2.2.2)).find? (fun x => x.1 == p) = some ((wl[k]'hk).1, (wl[k]'hk).2.2.2) := by
    conv => lhs; rw [e]
    rw [List.map_append, List.find?_append, List.map_cons, List.find?_cons]
    have : (List.map (fun x : Wh => (x.1, x.2.2.2)) (wl.take k)).find? (fun x => x.1 == p) = none := by
      rw [List.find?_eq_none]
      intro x hx
      obtain ⟨y, hy, rfl⟩ := List.mem_map.1 hx
      simp only [h y hy]
      decide
    rw [this]
    simp [hs]
  rw [this]
  rfl
theorem wellF_miss {wl : List Wh} {p : Plc} (h : ∀ x ∈ wl, (x.1 == p) = false) : wellF (whp wl) p = [] := wellF_none fun x hx => by
  obtain ⟨y, hy, rfl⟩ := List.mem_map.1 hx
  simpa using h y hy
theorem enX : ∀ args w, (callFunc 160 args).run Tryz.prog w = .ok (.enter 160 args) w := enters_of Tryz.func160 (by kernel_rfl) rfl
set_option maxHeartbeats 1600000 in
theorem well_test (x : Wh) (p : Plc) (B : Nat) (w : World) (hB : Bk B (pcl p) w) :
    Calls Tryz.prog 160 #[whv x, ptr B] w fun e w' => e = .returned (.bool (x.1 == p)) ∧ Below w.heap.size w w' := by
  have hlt := hB.1
  have hne : B ≠ w.heap.size := by omega
  have c0 := hB.c 0 rfl
  have c1 := hB.c 1 rfl
  have c2 := hB.c 2 rfl
  have hpl := fun W => pl_same' x.1 p W
  clear hB
  cases hz : (x.1 == p) with
  | true =>
    simp only [hz] at hpl
    clear hz
    go_enter Tryz.func160, Tryz.ntmps160
    go_wp2
    go_ret
    exact ⟨rfl, (Below.refl _ _).alloc (Nat.le_refl _) _⟩
  | false =>
    simp only [hz] at hpl
    clear hz
    go_enter Tryz.func160, Tryz.ntmps160
    go_wp2
    go_ret
    exact ⟨rfl, (Below.refl _ _).alloc (Nat.le_refl _) _⟩
set_option maxHeartbeats 3200000 in
theorem indexW_any (p : Plc) (B : Nat) (ao : Option Addr) (cap : Nat) (l : List Wh) (w : World) (hB : Bk B (pcl p) w) (hL : Whs w ao l) (hl : l.length ≤ 1000000000) :
    Calls Tryz.prog 159 #[.slice ao l.length cap, .func (.func 160) #[] #[ptr B]] w fun e w' => (∃ r : Int, e = .returned (.int .i64 r) ∧ ((r = -1 ∧ ∀ x ∈ l, (x.1 == p) = false) ∨ ∃ k, ∃ h : k < l.length, r = (k : Int) ∧ ((l[k]'h).1 == p) = true ∧ ∀ x ∈ l.take k, (x.1 == p) = false)) ∧ Below w.heap.size w w' := by
  have HK : Hid (Bk B (pcl p) w) := hB
  have HL : Hid (Whs w ao l) := hL
  have eg := enX
  clear hB hL
  go_enter Tryz.func159, Tryz.ntmps159
  go_wp2
  go_loopw [5, 8] (fun _ i wr => ∃ k : Nat, k ≤ l.length ∧ i = .int .i64 k ∧ (∀ x ∈ l.take k, (x.1 == p) = false) ∧ Below w.heap.size w wr) (fun _ i _ => l.length - (intOf i).toNat)
  case atStart => exact ⟨0, Nat.zero_le _, rfl, (fun f hf => by simp at hf), Below.refl _ _⟩
  case round =>
    obtain ⟨k, hk, rfl, hok, hb⟩ := hrel
    have HB : Hid (Below w.heap.size w wr) := hb
    have HO : Hid (∀ x ∈ l.take k, (x.1 == p) = false) := hok
    clear hb hok
    by_cases hlt : k < l.length
    · obtain ⟨b, off, rfl, hbx⟩ := (HL.out.next HB.out).at hlt
      have HHit : Hid (((l[k]'hlt).1 == p) = true → ∃ h : k < l.length, ((l[k]'h).1 == p) = true ∧ ∀ x ∈ l.take k, (x.1 == p) = false) := fun h => ⟨hlt, h, HO.out⟩
      have HMiss : Hid (((l[k]'hlt).1 == p) = false → ∀ x ∈ l.take (k + 1), (x.1 == p) = false) := fun h x hx => by
        rw [List.take_succ_eq_append_getElem hlt] at hx
        rcases List.mem_append.1 hx with hx | hx
        · exact HO.out x hx
        · rw [List.mem_singleton] at hx; rw [hx]; exact h
      generalize l[k]'hlt = a at *
      obtain ⟨_, c0, c1, c2, c3, _⟩ := hbx
      have hcall := well_test a p B wr (HK.out.later HB.out)
      have hki : (k : Int) < (l.length : Int) := by omega
      cases hq : (a.1 == p) with
      | true =>
        rw [hq] at hcall
        go_wp2_with (go_at_fn 160; refine hcall.mono ?_; rintro e w' ⟨rfl, hb'⟩)
        go_ret
        obtain ⟨h1, h2⟩ := HHit.out hq
        exact ⟨⟨_, rfl, .inr ⟨k, h1, rfl, h2⟩⟩, HB.out.trans (hb'.mono HB.out.size)⟩
      | false =>
        rw [hq] at hcall
        go_wp2_with (go_at_fn 160; refine hcall.mono ?_; rintro e w' ⟨rfl, hb'⟩)
        go_roundw
        case rel => exact ⟨k + 1, by omega, by go_num, HMiss.out hq, HB.out.trans (hb'.mono HB.out.size)⟩
        case measure => simp [intOf]; omega
    · go_wp2
      go_ret
      exact ⟨⟨_, rfl, .inl ⟨rfl, fun b hb => HO.out b (by rw [List.take_of_length_le (by omega)]; exact hb)⟩⟩, HB.out⟩
set_option maxHeartbeats 3200000 in
theorem well_any (s : Sm) (p : Plc) (w : World) (hS : SmIn w s) (hw : s.wl.length ≤ 1000000000) (hf : ∀ x ∈ s.wl, x.2.2.2.length ≤ 1000) :
    Calls Tryz.prog 129 #[smv s, plv p] w fun e w' => ∃ v, e = .returned v ∧ OwnR encC w' w.heap.size v (wellF s.st.wells p) ∧ Below w.heap.size w w' := by
  have HS : Hid (SmIn w s) := hS
  have HF : Hid (∀ x ∈ s.wl, x.2.2.2.length ≤ 1000) := hf
  obtain ⟨w0, hw0⟩ : ∃ w0, w0 = (w.alloc (smo s)).alloc (pobj p) := ⟨_, rfl⟩
  have HB0 : Hid (Below w.heap.size w w0) := by show Below _ _ _; rw [hw0]; exact ((Below.refl _ _).alloc (Nat.le_refl _) _).alloc (by simp) _
  have KS : Hid (Bk w.heap.size (sml s) w0) := by show Bk _ _ _; rw [hw0]; exact (Bk.new w (sml s) 40 w.heap.size rfl).later ((Below.refl _ _).alloc (Nat.le_refl _) _)
  have KP : Hid (Bk (w.heap.size + 1) (pcl p) w0) := by show Bk _ _ _; rw [hw0]; exact Bk.new _ (pcl p) 53 (w.heap.size + 1) (by simp)
  have HW0 : Hid (w0 = _) := hw0
  clear hS hf hw0
  go_enter Tryz.func129, Tryz.ntmps129
  go_wp2_with fail
  rw [← HW0.out]
  refine (indexW_any p (w.heap.size + 1) s.aoW s.capW s.wl w0 KP.out (HS.out.next HB0.out).wells hw).mono ?_
  rintro e w1 ⟨⟨r, rfl, hr⟩, hb1⟩
  have HB1 : Hid (Below w.heap.size w w1) := HB0.out.trans (hb1.mono HB0.out.size)
  have KS1 : Hid (Bk w.heap.size (sml s) w1) := KS.out.later hb1
  clear hb1
  have s0 := (KS1.out).c 0 rfl
  have s1 := (KS1.out).c 1 rfl
  have s2 := (KS1.out).c 2 rfl
  have s3 := (KS1.out).c 3 rfl
  have s4 := (KS1.out).c 4 rfl
  have s5 := (KS1.out).c 5 rfl
  have s6 := (KS1.out).c 6 rfl
  rcases hr with ⟨rfl, hno⟩ | ⟨k, hk, rfl, hit, hno⟩
  · have HQ : Hid (wellF s.st.wells p = []) := wellF_miss hno
    clear hno
    go_wp2
    go_ret
    exact ⟨_, rfl, by rw [HQ.out]; exact OwnR.nil _ _ _, HB1.out⟩
  · have HQ : Hid (wellF s.st.wells p = (s.wl[k]'hk).2.2.2) := wellF_hit hk hno hit
    obtain ⟨b, off, hao, hx⟩ := (HS.out.next HB1.out).wells.at hk
    have hfy := HF.out _ (List.getElem_mem hk)
    generalize s.wl[k]'hk = y at *
    have HX : Hid (WhAt w1 b (off + k * 4) y) := hx
    obtain ⟨_, c0, c1, c2, c3, _⟩ := hx
    rw [hao] at s0
    have hki : (k : Int) < (s.wl.length : Int) := by omega
    clear hno hit hao
    go_wp2_with fail
    refine (cloneC_any y.2.1 y.2.2.1 y.2.2.2 w1 (rd_fl HX.out.fl) hfy).mono ?_
    rintro e w2 ⟨v, rfl, ho, hb2⟩
    obtain ⟨aoV, capV, rfl⟩ := ho.shape
    have HO : Hid (OwnR encC w2 w1.heap.size (.slice aoV y.2.2.2.length capV) y.2.2.2) := ho
    have HB2 : Hid (Below w.heap.size w w2) := HB1.out.trans (hb2.mono HB1.out.size)
    clear ho hb2
    go_wp2
    go_ret
    exact ⟨_, rfl, by rw [HQ.out]; exact HO.out.base HB1.out.size, HB2.out⟩
/-! ### the law's own -/
set_option linter.unusedVariables false in
def kwV (b P m : Nat) (p : Plc) (aoV : Option Addr) (n capV : Nat) (d : Nat) (v : Value) (_ : World) : Prop :=
  match d with
  | 13 => v = .pointer (some ⟨b, 0, none⟩)
  | 14 => v = .pointer (some ⟨b, 0, none⟩)
  | 15 => v = .pointer (some ⟨b, 1, none⟩)
  | 16 => v = .map (some m)
  | 17 => v = .agg #[.int .i64 p.1, .int .i64 p.2.1, .int .i64 p.2.2]
  | 18 => v = .slice aoV n capV
  | _ => True
set_option linter.unusedVariables false in
theorem kwV_mono (b P m : Nat) (p : Plc) (aoV : Option Addr) (n capV : Nat) (d : Nat) (v : Value) (w w' : World) (h : kwV b P m p aoV n capV d v w) (_ : Below w.heap.size w w') : kwV b P m p aoV n capV d v w' := h
set_option linter.unusedVariables false in
def kxV (b P m : Nat) (p : Plc) (d : Nat) (v : Value) (_ : World) : Prop :=
  match d with
  | 19 => v = .pointer (some ⟨b, 0, none⟩)
  | 20 => v = .pointer (some ⟨b, 0, none⟩)
  | 21 => v = .pointer (some ⟨b, 1, none⟩)
  | 22 => v = .map (some m)
  | 23 => v = .agg #[.int .i64 p.1, .int .i64 p.2.1, .int .i64 p.2.2]
  | _ => True
set_option linter.unusedVariables false in
theorem kxV_mono (b P m : Nat) (p : Plc) (d : Nat) (v : Value) (w w' : World) (h : kxV b P m p d v w) (_ : Below w.heap.size w w') : kxV b P m p d v w' := h
abbrev put9 (w : World) (R : Nat) (t : Sm) : World := (((((((w).setCell ⟨R, 2, none⟩ (.slice none 0 0)).setCell ⟨R, 3, none⟩ (.bool t.tip)).setCell ⟨R, 4, none⟩ (.slice t.aoH t.held.length t.capH)).setCell ⟨R, 5, none⟩ (.slice t.aoT t.touched.length t.capT)).setCell ⟨R, 6, none⟩ (.int .i64 t.used)).setCell ⟨R, 7, none⟩ (.int .i64 t.heat)).setCell ⟨R, 8, none⟩ (.int .i64 t.clock)
theorem but_put9 (b m : Nat) (w : World) (t : Sm) : But b m w (put9 w b t) :=
  ((((((but_set b m w 2 _).trans (but_set b m _ 3 _)).trans (but_set b m _ 4 _)).trans (but_set b m _ 5 _)).trans (but_set b m _ 6 _)).trans (but_set b m _ 7 _)).trans (but_set b m _ 8 _)
theorem Bk.put9 {b : Nat} {ao : Option Addr} {cap : Nat} {l : List Sit} {m : Nat} {s : Sta} {aoH : Option Addr} {capH : Nat} {aoT : Option Addr} {capT : Nat} {w : World} (h : Bk b (fcs ao cap l m s aoH capH aoT capT) w) {p : Plc} (t : Sm) : Bk b (fcs ao cap l m (kep s p t.st) t.aoH t.capH t.aoT t.capT) (put9 w b t) :=
  ((((((h.put 2 (.slice none 0 0)).put 3 (.bool t.tip)).put 4 (.slice t.aoH t.held.length t.capH)).put 5 (.slice t.aoT t.touched.length t.capT)).put 6 (.int .i64 t.used)).put 7 (.int .i64 t.heat)).put 8 (.int .i64 t.clock)
theorem But.high {b m : Nat} {w w1 : World} (h : But b m w w1) {k : Nat} (hk : w.heap.size ≤ k) (o : Nat) (v : Value) : But b m w (w1.setCell ⟨k, o, none⟩ v) :=
  ⟨h.os, h.tape, h.output, by simpa [World.setCell] using h.size, fun i hi h1 h2 => (Below.heap_setCell w1 ⟨k, o, none⟩ v i (fun e => by have e2 : i = k := e; omega)).trans (h.block i hi h1 h2)⟩
theorem e2m {b m : Nat} (hn : b ≠ m) (w : World) (t : Sm) : (put9 w b t).heap[m]? = w.heap[m]? := by
  have h : ∀ (W : World) (o : Nat) (v : Value), (W.setCell ⟨b, o, none⟩ v).heap[m]? = W.heap[m]? := fun W o v => Below.heap_setCell W ⟨b, o, none⟩ v m (fun e => hn e.symm)
  rw [h, h, h, h, h, h, h]
theorem fl_lt {w : World} {ao : Option Addr} {ps : List F.Pc} (h : F.Fl w ao ps) : ps = [] ∨ ∀ a, ao = some a → a.block < w.heap.size := by
  rcases h.2 with h1 | ⟨g, off, e, hg, _⟩
  · exact .inl h1
  · exact .inr fun a ha => by rw [e] at ha; injection ha with ha; rw [← ha]; exact hg
theorem tx_lt {w : World} {ao : Option Addr} {t : List ByteArray} (h : Tx w ao t) : t = [] ∨ ∀ a, ao = some a → a.block < w.heap.size := by
  rcases h.2 with h1 | ⟨g, off, e, hg, _⟩
  · exact .inl h1
  · exact .inr fun a ha => by rw [e] at ha; injection ha with ha; rw [← ha]; exact hg
theorem more_x {α : Type} {X Y : Nat → Prop} {n : Nat} {ps : List α} {ao : Option Addr} (h : ps = [] ∨ ∀ a, ao = some a → ¬ X a.block) (hl : ps = [] ∨ ∀ a, ao = some a → a.block < n) (hY : ∀ k, Y k → X k ∨ n ≤ k) : ps = [] ∨ ∀ a, ao = some a → ¬ Y a.block := by
  rcases h with h | h
  · exact .inl h
  · rcases hl with hl | hl
    · exact .inl hl
    · refine .inr fun a ha hYa => ?_
      rcases hY _ hYa with h2 | h2
      · exact h a ha h2
      · have := hl a ha; omega
theorem FlX.more {X Y : Nat → Prop} {w : World} {ao : Option Addr} {ps : List F.Pc} (h : FlX X w ao ps) (hY : ∀ k, Y k → X k ∨ w.heap.size ≤ k) : FlX Y w ao ps := ⟨h.1, more_x h.2 (fl_lt h.1) hY⟩
theorem TxX.more {X Y : Nat → Prop} {w : World} {ao : Option Addr} {ps : List ByteArray} (h : TxX X w ao ps) (hY : ∀ k, Y k → X k ∨ w.heap.size ≤ k) : TxX Y w ao ps := ⟨h.1, more_x h.2 (tx_lt h.1) hY⟩
theorem FlX.less {X Y : Nat → Prop} {w : World} {ao : Option Addr} {ps : List F.Pc} (h : FlX X w ao ps) (hY : ∀ k, Y k → X k) : FlX Y w ao ps := ⟨h.1, h.2.imp id fun h a ha hy => h a ha (hY _ hy)⟩
theorem TxX.less {X Y : Nat → Prop} {w : World} {ao : Option Addr} {ps : List ByteArray} (h : TxX X w ao ps) (hY : ∀ k, Y k → X k) : TxX Y w ao ps := ⟨h.1, h.2.imp id fun h a ha hy => h a ha (hY _ hy)⟩
theorem flX_own {Y : Nat → Prop} {w : World} {base : Nat} {ao : Option Addr} {n cap : Nat} {ps : List F.Pc} (h : OwnR encC w base (.slice ao n cap) ps) (hs : ∀ p ∈ ps, p.1.size ≤ maxLen) (hy : ∀ k, Y k → k < base) : FlX Y w ao ps := by
  obtain ⟨ao2, cap2, e, hf⟩ := fl_of h hs
  injection e with e1 e2 e3
  subst e1 e2 e3
  refine ⟨hf, ?_⟩
  by_cases hn : ps = []
  · exact .inl hn
  · refine .inr fun a ha hya => ?_
    subst ha
    have := (World.ownsRow.lt h a.block rfl).1
    have := hy _ hya
    omega
theorem sm_sizes {w : World} {t : Sm} (h : SmIn w t) (p : Plc) : ∀ q ∈ wellF t.st.wells p, q.1.size ≤ maxLen := by
  rcases wellF_cases t.st.wells p with ⟨_, e⟩ | ⟨f, hm, e⟩
  · rw [e]; intro q hq; cases hq
  · rw [e]
    obtain ⟨x, hx, e2⟩ := List.mem_map.1 (show (p, f) ∈ whp t.wl from hm)
    injection e2 with _ e2
    obtain ⟨k, hk, rfl⟩ := List.getElem_of_mem hx
    obtain ⟨_, _, _, hw⟩ := h.wells.at hk
    rw [← e2]
    exact hw.fl.1
/-- What keep leaves: the map has turned, a state's box, the bench's own cells. -/
theorem keep_end {X Y : Nat → Prop} {wB w w2 : World} {ao : Option Addr} {cap : Nat} {l : List Sit} {b m : Nat} {s : Sta} {p : Plc} {t : Sm} {aoH : Option Addr} {capH : Nat} {aoT : Option Addr} {capT : Nat} {wl' : List Wh}
    (hFB : Fb X wB w ao cap l b m s) (hBU : But b m w w2) (hMY : May l (kep s p t.st)) (hNE : b ≠ m) (hN2 : w.heap.size + 1 ≠ m) (hNB : b ≠ w.heap.size + 1) (hY : Y b ∧ Y m ∧ Y (w.heap.size + 1)) (hYX : ∀ k, X k → Y k) (hK : Bk b (fcs ao cap l m s aoH capH aoT capT) w2) (hWM : WM w2 m wl') (hWL : whp wl' = (kep s p t.st).wells)
    (hF : ∀ x ∈ wl', FlX Y w2 x.2.1 x.2.2.2) (hH : FlX Y w2 t.aoH t.held) (hT : TxX Y w2 t.aoT t.touched) :
    Ending.returned (.tuple #[]) = Ending.returned (.tuple #[]) ∧ Fb X wB (put9 (w2.setCell ⟨w.heap.size + 1, 0, none⟩ (.slice none 0 0)) b t) ao cap l b m (kep s p t.st) ∧ But b m w (put9 (w2.setCell ⟨w.heap.size + 1, 0, none⟩ (.slice none 0 0)) b t) := by
  have e1 : But (w.heap.size + 1) (w.heap.size + 1) w2 (w2.setCell ⟨w.heap.size + 1, 0, none⟩ (.slice none 0 0)) := but_set _ _ _ 0 _
  have e2 : But b m (w2.setCell ⟨w.heap.size + 1, 0, none⟩ (.slice none 0 0)) (put9 (w2.setCell ⟨w.heap.size + 1, 0, none⟩ (.slice none 0 0)) b t) := but_put9 b m _ t
  have e3 : But b m w (w2.setCell ⟨w.heap.size + 1, 0, none⟩ (.slice none 0 0)) := hBU.high (by omega) 0 _
  refine ⟨rfl, hFB.turned (e3.trans e2) hMY (wl := wl') ?_ hWL ?_ ((hK.other hNB 0 _).put9 t) ?_ ?_, e3.trans e2⟩
  · exact (hWM.same (Below.heap_setCell w2 ⟨w.heap.size + 1, 0, none⟩ _ m (fun e => hN2 e.symm))).same (e2m hNE _ t)
  · exact fun x hx => (((hF x hx).but hY.2.2 hY.2.2 e1).but hY.1 hY.2.1 e2).less hYX
  · exact ((hH.but hY.2.2 hY.2.2 e1).but hY.1 hY.2.1 e2).less hYX
  · exact ((hT.but hY.2.2 hY.2.2 e1).but hY.1 hY.2.1 e2).less hYX
set_option maxHeartbeats 6400000 in
set_option maxRecDepth 100000 in
theorem keepF_any (X : Nat → Prop) (wB w : World) (ao : Option Addr) (cap : Nat) (l : List Sit) (b m : Nat) (s : Sta) (p : Plc) (t : Sm) (h : Fb X wB w ao cap l b m s) (hp : Wf3 p) (hT : SmIn w t) (hw : t.wl.length ≤ 1000000000) (hf : ∀ x ∈ t.wl, x.2.2.2.length ≤ 1000) (hH : FlX X w t.aoH t.held) (hTT : TxX X w t.aoT t.touched) (hmay : May l (kep s p t.st)) :
    Calls Tryz.prog 91 #[ptr b, plv p, smv t] w fun e w' => e = .returned (.tuple #[]) ∧ Fb X wB w' ao cap l b m (kep s p t.st) ∧ But b m w w' := by
  obtain ⟨wl, hwm, hwl, hfl⟩ := h.wells
  obtain ⟨aoH, capH, aoT, capT, hK, _, _⟩ := h.bk
  obtain ⟨hon, hlen⟩ := h.once hwl
  obtain ⟨Y, hYd⟩ : ∃ Y : Nat → Prop, Y = fun k => X k ∨ k = w.heap.size + 1 := ⟨_, rfl⟩
  have hYm : ∀ k, Y k → X k ∨ w.heap.size ≤ k := fun k hk => by rw [hYd] at hk; rcases hk with hk | hk; exact .inl hk; exact .inr (by omega)
  have HY : Hid (Y b ∧ Y m ∧ Y (w.heap.size + 1)) := by rw [hYd]; exact ⟨.inl h.x.1, .inl h.x.2, .inr rfl⟩
  have HYX : Hid (∀ k, X k → Y k) := fun k hk => by rw [hYd]; exact .inl hk
  have HYL : Hid (∀ k, Y k → k < w.heap.size + 2) := fun k hk => by rw [hYd] at hk; rcases hk with hk | hk; have := h.low k hk; omega; omega
  have HFB : Hid (Fb X wB w ao cap l b m s) := h
  have HMY : Hid (May l (kep s p t.st)) := hmay
  have HP : Hid (Wf3 p) := hp
  have HON : Hid (Once wl ∧ wl.length ≤ 4608) := ⟨hon, hlen⟩
  have HWS : Hid (whp wl = s.wells) := hwl
  have HNE : Hid (b ≠ m) := h.ne
  have HN2 : Hid (w.heap.size + 1 ≠ m) := by have := h.low m h.x.2; show _ ≠ _; omega
  have HNB : Hid (b ≠ w.heap.size + 1) := by have := h.low b h.x.1; show _ ≠ _; omega
  obtain ⟨w0, hw0⟩ : ∃ w0, w0 = (w.alloc (pobj p)).alloc (smo t) := ⟨_, rfl⟩
  have b0 : Below w.heap.size w w0 := by rw [hw0]; exact ((Below.refl _ _).alloc (Nat.le_refl _) _).alloc (by simp) _
  have HB0 : Hid (Below w.heap.size w w0) := b0
  have HS0 : Hid (w0.heap.size = w.heap.size + 2) := by show _ = _; rw [hw0]; simp
  have KB0 : Hid (Bk b (fcs ao cap l m s aoH capH aoT capT) w0) := hK.later b0
  have KP0 : Hid (Bk w.heap.size (pcl p) w0) := by show Bk _ _ _; rw [hw0]; exact (Bk.new w (pcl p) 53 w.heap.size rfl).later ((Below.refl _ _).alloc (Nat.le_refl _) _)
  have KT0 : Hid (Bk (w.heap.size + 1) (sml t) w0) := by show Bk _ _ _; rw [hw0]; exact Bk.new _ (sml t) 40 (w.heap.size + 1) (by simp)
  have HM0 : Hid (WM w0 m wl) := hwm.next b0
  have HFO : Hid (∀ x ∈ wl, FlX Y w x.2.1 x.2.2.2) := fun x hx => (hfl x hx).more hYm
  have HH : Hid (FlX Y w t.aoH t.held) := hH.more hYm
  have HT : Hid (TxX Y w t.aoT t.touched) := hTT.more hYm
  have HTI : Hid (SmIn w t) := hT
  have HW0 : Hid (w0 = _) := hw0
  have HWE := (show Hid _ from well_any t p w0 (hT.next b0) hw hf)
  clear h hp hT hw hf hH hTT hmay hwm hwl hfl hK hon hlen hYm hYd hw0 b0
  go_enter Tryz.func91, Tryz.ntmps91
  go_wp2_with fail
  rw [← HW0.out]
  refine Calls.mono HWE.out ?_
  rintro e w1 ⟨v, rfl, hov, hb1⟩
  obtain ⟨aoV, capV, rfl⟩ := hov.shape
  have HB1 : Hid (Below w.heap.size w w1) := HB0.out.trans (hb1.mono HB0.out.size)
  have KB1 : Hid (Bk b (fcs ao cap l m s aoH capH aoT capT) w1) := KB0.out.later hb1
  have KP1 : Hid (Bk w.heap.size (pcl p) w1) := KP0.out.later hb1
  have KT1 : Hid (Bk (w.heap.size + 1) (sml t) w1) := KT0.out.later hb1
  have HM1 : Hid (WM w1 m wl) := HM0.out.next hb1
  have HFV : Hid (FlX Y w1 aoV (wellF t.st.wells p)) := flX_own hov (sm_sizes HTI.out p) (fun k hk => by have := HYL.out k hk; rw [HS0.out]; exact this)
  have HWW : Hid (∀ f, f = wellF t.st.wells p → whp (setH wl p (aoV, capV, f)) = (kep s p t.st).wells) := fun f hf => by rw [whp_setH, HWS.out, hf]; rfl
  clear hov hb1 HWE HW0 HWS
  generalize wellF t.st.wells p = fl at *
  have HFL : Hid (∃ f, f = fl) := ⟨_, rfl⟩
  by_cases hf : fl = []
  · obtain ⟨wl', hwl'⟩ : ∃ wl', wl' = setH wl p (aoV, capV, fl) := ⟨_, rfl⟩
    have HWL : Hid (whp wl' = (kep s p t.st).wells) := by show _ = _; rw [hwl']; exact HWW.out _ rfl
    have HQ : Hid (delH wl p = wl') := by show _ = _; rw [hwl']; exact (if_pos hf).symm
    have HF1 : Hid (∀ x ∈ wl', FlX Y w1 x.2.1 x.2.2.2) := fun x hx => by
      rw [hwl'] at hx
      rcases mem_setH hx with rfl | hx
      · exact HFV.out
      · exact (HFO.out x hx).next HB1.out
    have hn0 : fl.length = 0 := by rw [hf]; rfl
    rw [hn0]
    clear hwl' hf HFL HWW hn0
    go_wp2_with fail
    rename_i KK hkk
    have HKK := (show Hid _ from hkk)
    clear hkk
    refine region_seq 5 [false, false, false, false, false, false, false, false, false, false, false, false, false, false, false, false, false, false, false, true, true, true, true, true, false, false, false, false, false]
      [(19, [], none), (20, [19], none), (21, [20], none), (22, [21], none), (23, [], none)]
      (kxV b w.heap.size m p) (by kernel_rfl) (by kernel_rfl) (by kernel_rfl) (by kernel_rfl) (by kernel_rfl) (by decide) (kxV_mono b w.heap.size m p) ?_ ?_
    · refine ⟨?_, ?_, ?_, ?_, ?_, trivial⟩
      · intro f w1 hb _ K hK
        simp only [over, overL, Nat.reduceAdd]
        go_simp
        exact hK _ _ ⟨_, rfl, by simp only [over, overL, Nat.reduceAdd]; rfl, Below.refl _ _⟩
      · intro f w1 hb ⟨h19, _⟩ K hK
        replace h19 : f 19 = _ := h19
        simp only [over, overL, Nat.reduceAdd, h19]
        go_simp
        exact hK _ _ ⟨_, rfl, by simp only [over, overL, Nat.reduceAdd, h19]; rfl, Below.refl _ _⟩
      · intro f w1 hb ⟨h20, _⟩ K hK
        replace h20 : f 20 = _ := h20
        simp only [over, overL, Nat.reduceAdd, h20]
        go_simp
        exact hK _ _ ⟨_, rfl, by simp only [over, overL, Nat.reduceAdd, h20]; rfl, Below.refl _ _⟩
      · intro f w1 hb ⟨h21, _⟩ K hK
        replace h21 : f 21 = _ := h21
        have q1 := (KB1.out.later hb).c 1 rfl
        simp only [over, overL, Nat.reduceAdd, h21]
        go_simp
        exact hK _ _ ⟨_, rfl, by simp only [over, overL, Nat.reduceAdd, h21]; rfl, Below.refl _ _⟩
      · intro f w1 hb _ K hK
        have q0 := (KP1.out.later hb).c 0 rfl
        have q1 := (KP1.out.later hb).c 1 rfl
        have q2 := (KP1.out.later hb).c 2 rfl
        simp only [over, overL, Nat.reduceAdd]
        go_simp
        exact hK _ _ ⟨_, rfl, by simp only [over, overL, Nat.reduceAdd]; rfl, Below.refl _ _⟩
    intro f w3 hb hv
    have h22 : f 22 = _ := hv.2.2.2.1
    have h23 : f 23 = _ := hv.2.2.2.2.1
    obtain ⟨D, hown, hrd⟩ := HM1.out.next hb
    have HRD : Hid (Reads (D.del (klP p)) wl') := by rw [← HQ.out]; exact reads_del hrd HON.out.1 HP.out
    obtain ⟨wz, rfl⟩ : ∃ wz, wz = w1 := ⟨_, rfl⟩
    have HB3 : Hid (Below w.heap.size w w3) := HB1.out.trans (hb.mono HB1.out.size)
    have KB3 : Hid (Bk b (fcs ao cap l m s aoH capH aoT capT) w3) := KB1.out.later hb
    have KT3 : Hid (Bk (w.heap.size + 1) (sml t) w3) := KT1.out.later hb
    have HF3 : Hid (∀ x ∈ wl', FlX Y w3 x.2.1 x.2.2.2) := fun x hx => (HF1.out x hx).next hb
    clear hv hrd hb
    simp only [List.drop, over, overL, Nat.reduceAdd, h22, h23]
    go_wp2_with (first | (at_delete; refine wpList_delete_own _ rfl _ _ 93 53 rfl 37 lawP Tryz.underlying93 RV m (Maps.size D) D rfl hown _ _ rfl (keyP_some HP.out) ?_; intro w2 hown1 hturn1) | go_in)
    have HWM2 : Hid (WM w2 m wl') := ⟨_, own_tight hown1, HRD.out⟩
    have HG : Hid (w3.grownBy w2 (some m)) := hturn1.grown
    clear hown hown1 hturn1 h22 h23
    refine HKK.out _ _ ?_
    have HBU : Hid (But b m w w2) := (but_below HB3.out).trans (but_grown HG.out)
    have KB2 : Hid (Bk b (fcs ao cap l m s aoH capH aoT capT) w2) := KB3.out.same HG.out.size (HG.out.block b KB3.out.1 (by simpa using HNE.out))
    have KT2 : Hid (Bk (w.heap.size + 1) (sml t) w2) := KT3.out.same HG.out.size (HG.out.block _ KT3.out.1 (by simpa using HN2.out))
    have HH2 : Hid (FlX Y w2 t.aoH t.held) := (HH.out.next HB3.out).but HY.out.1 HY.out.2.1 (but_grown HG.out)
    have HT2 : Hid (TxX Y w2 t.aoT t.touched) := (HT.out.next HB3.out).but HY.out.1 HY.out.2.1 (but_grown HG.out)
    have HF2 : Hid (∀ x ∈ wl', FlX Y w2 x.2.1 x.2.2.2) := fun x hx => (HF3.out x hx).but HY.out.1 HY.out.2.1 (but_grown HG.out)
    have hne := HNB.out
    have y2 := (KB2.out).c 2 rfl
    have yf2 := (KB2.out).f 2 rfl
    have y3 := (KB2.out).c 3 rfl
    have yf3 := (KB2.out).f 3 rfl
    have y4 := (KB2.out).c 4 rfl
    have yf4 := (KB2.out).f 4 rfl
    have y5 := (KB2.out).c 5 rfl
    have yf5 := (KB2.out).f 5 rfl
    have y6 := (KB2.out).c 6 rfl
    have yf6 := (KB2.out).f 6 rfl
    have y7 := (KB2.out).c 7 rfl
    have yf7 := (KB2.out).f 7 rfl
    have y8 := (KB2.out).c 8 rfl
    have yf8 := (KB2.out).f 8 rfl
    have k0 := (KT2.out).c 0 rfl
    have kf0 := (KT2.out).f 0 rfl
    have k1 := (KT2.out).c 1 rfl
    have kf1 := (KT2.out).f 1 rfl
    have k2 := (KT2.out).c 2 rfl
    have kf2 := (KT2.out).f 2 rfl
    have k3 := (KT2.out).c 3 rfl
    have kf3 := (KT2.out).f 3 rfl
    have k4 := (KT2.out).c 4 rfl
    have kf4 := (KT2.out).f 4 rfl
    have k5 := (KT2.out).c 5 rfl
    have kf5 := (KT2.out).f 5 rfl
    have k6 := (KT2.out).c 6 rfl
    have kf6 := (KT2.out).f 6 rfl
    go_wp2
    go_end0
    exact keep_end HFB.out HBU.out HMY.out HNE.out HN2.out HNB.out HY.out HYX.out KB2.out HWM2.out HWL.out HF2.out HH2.out HT2.out
  · obtain ⟨wl', hwl'⟩ : ∃ wl', wl' = setH wl p (aoV, capV, fl) := ⟨_, rfl⟩
    have HWL : Hid (whp wl' = (kep s p t.st).wells) := by show _ = _; rw [hwl']; exact HWW.out _ rfl
    have HQ : Hid (insH (p, (aoV, capV, fl)) (delH wl p) = wl') := by show _ = _; rw [hwl']; exact (if_neg hf).symm
    have HF1 : Hid (∀ x ∈ wl', FlX Y w1 x.2.1 x.2.2.2) := fun x hx => by
      rw [hwl'] at hx
      rcases mem_setH hx with rfl | hx
      · exact HFV.out
      · exact (HFO.out x hx).next HB1.out
    have hn0 : 0 < fl.length := List.length_pos_iff.2 hf
    clear hwl' hf HFL HWW
    generalize hfl : fl.length = n at *
    have HFN : Hid (fl.length = n) := hfl
    clear hfl
    go_wp2_with fail
    rename_i KK hkk
    have HKK := (show Hid _ from hkk)
    clear hkk
    refine region_seq 6 [false, false, false, false, false, false, false, false, false, false, false, false, false, true, true, true, true, true, true, false, false, false, false, false, false, false, false, false, false]
      [(13, [], none), (14, [13], none), (15, [14], none), (16, [15], none), (17, [], none), (18, [], none)]
      (kwV b w.heap.size m p aoV n capV) (by kernel_rfl) (by kernel_rfl) (by kernel_rfl) (by kernel_rfl) (by kernel_rfl) (by decide) (kwV_mono b w.heap.size m p aoV n capV) ?_ ?_
    · refine ⟨?_, ?_, ?_, ?_, ?_, ?_, trivial⟩
      · intro f w1 hb _ K hK
        simp only [over, overL, Nat.reduceAdd]
        go_simp
        exact hK _ _ ⟨_, rfl, by simp only [over, overL, Nat.reduceAdd]; rfl, Below.refl _ _⟩
      · intro f w1 hb ⟨h13, _⟩ K hK
        replace h13 : f 13 = _ := h13
        simp only [over, overL, Nat.reduceAdd, h13]
        go_simp
        exact hK _ _ ⟨_, rfl, by simp only [over, overL, Nat.reduceAdd, h13]; rfl, Below.refl _ _⟩
      · intro f w1 hb ⟨h14, _⟩ K hK
        replace h14 : f 14 = _ := h14
        simp only [over, overL, Nat.reduceAdd, h14]
        go_simp
        exact hK _ _ ⟨_, rfl, by simp only [over, overL, Nat.reduceAdd, h14]; rfl, Below.refl _ _⟩
      · intro f w1 hb ⟨h15, _⟩ K hK
        replace h15 : f 15 = _ := h15
        have q1 := (KB1.out.later hb).c 1 rfl
        simp only [over, overL, Nat.reduceAdd, h15]
        go_simp
        exact hK _ _ ⟨_, rfl, by simp only [over, overL, Nat.reduceAdd, h15]; rfl, Below.refl _ _⟩
      · intro f w1 hb _ K hK
        have q0 := (KP1.out.later hb).c 0 rfl
        have q1 := (KP1.out.later hb).c 1 rfl
        have q2 := (KP1.out.later hb).c 2 rfl
        simp only [over, overL, Nat.reduceAdd]
        go_simp
        exact hK _ _ ⟨_, rfl, by simp only [over, overL, Nat.reduceAdd]; rfl, Below.refl _ _⟩
      · intro f w1 hb _ K hK
        simp only [over, overL, Nat.reduceAdd]
        go_simp
        exact hK _ _ ⟨_, rfl, by simp only [over, overL, Nat.reduceAdd]; rfl, Below.refl _ _⟩
    intro f w3 hb hv
    have h16 : f 16 = _ := hv.2.2.2.1
    have h17 : f 17 = _ := hv.2.2.2.2.1
    have h18 : f 18 = _ := hv.2.2.2.2.2.1
    obtain ⟨D, hown, hrd⟩ := HM1.out.next hb
    have HRD : Hid (Reads (D.put (klP p) (.held (.slice aoV n capV))) wl') := by
      have := reads_put (x := (p, (aoV, capV, fl))) hrd HON.out.1 HP.out
      simp only [hdv] at this
      rw [HFN.out, HQ.out] at this
      exact this
    have hsz : Maps.size D < maxLen := by rw [hrd.size]; have := HON.out.2; unfold maxLen; omega
    obtain ⟨wz, rfl⟩ : ∃ wz, wz = w1 := ⟨_, rfl⟩
    have HB3 : Hid (Below w.heap.size w w3) := HB1.out.trans (hb.mono HB1.out.size)
    have KB3 : Hid (Bk b (fcs ao cap l m s aoH capH aoT capT) w3) := KB1.out.later hb
    have KT3 : Hid (Bk (w.heap.size + 1) (sml t) w3) := KT1.out.later hb
    have HF3 : Hid (∀ x ∈ wl', FlX Y w3 x.2.1 x.2.2.2) := fun x hx => (HF1.out x hx).next hb
    clear hv hrd hb
    simp only [List.drop, over, overL, Nat.reduceAdd, h16, h17, h18]
    go_wp2_with (first | (at_mapUpdate; refine wpList_mapUpdate_own _ rfl _ _ _ 93 rfl 53 37 lawP Tryz.underlying93 RV m (Maps.size D) D rfl hown hsz _ _ _ rfl rfl (keyP_some HP.out) (.held (.slice aoV n capV)) [] rfl ?_; intro w2 hown1 hg1) | go_in)
    have HWM2 : Hid (WM w2 m wl') := ⟨_, own_tight hown1, HRD.out⟩
    have HG : Hid (w3.grownBy w2 (some m)) := hg1
    clear hown hown1 hg1 h16 h17 h18 hsz
    refine HKK.out _ _ ?_
    have HBU : Hid (But b m w w2) := (but_below HB3.out).trans (but_grown HG.out)
    have KB2 : Hid (Bk b (fcs ao cap l m s aoH capH aoT capT) w2) := KB3.out.same HG.out.size (HG.out.block b KB3.out.1 (by simpa using HNE.out))
    have KT2 : Hid (Bk (w.heap.size + 1) (sml t) w2) := KT3.out.same HG.out.size (HG.out.block _ KT3.out.1 (by simpa using HN2.out))
    have HH2 : Hid (FlX Y w2 t.aoH t.held) := (HH.out.next HB3.out).but HY.out.1 HY.out.2.1 (but_grown HG.out)
    have HT2 : Hid (TxX Y w2 t.aoT t.touched) := (HT.out.next HB3.out).but HY.out.1 HY.out.2.1 (but_grown HG.out)
    have HF2 : Hid (∀ x ∈ wl', FlX Y w2 x.2.1 x.2.2.2) := fun x hx => (HF3.out x hx).but HY.out.1 HY.out.2.1 (but_grown HG.out)
    have hne := HNB.out
    have y2 := (KB2.out).c 2 rfl
    have yf2 := (KB2.out).f 2 rfl
    have y3 := (KB2.out).c 3 rfl
    have yf3 := (KB2.out).f 3 rfl
    have y4 := (KB2.out).c 4 rfl
    have yf4 := (KB2.out).f 4 rfl
    have y5 := (KB2.out).c 5 rfl
    have yf5 := (KB2.out).f 5 rfl
    have y6 := (KB2.out).c 6 rfl
    have yf6 := (KB2.out).f 6 rfl
    have y7 := (KB2.out).c 7 rfl
    have yf7 := (KB2.out).f 7 rfl
    have y8 := (KB2.out).c 8 rfl
    have yf8 := (KB2.out).f 8 rfl
    have k0 := (KT2.out).c 0 rfl
    have kf0 := (KT2.out).f 0 rfl
    have k1 := (KT2.out).c 1 rfl
    have kf1 := (KT2.out).f 1 rfl
    have k2 := (KT2.out).c 2 rfl
    have kf2 := (KT2.out).f 2 rfl
    have k3 := (KT2.out).c 3 rfl
    have kf3 := (KT2.out).f 3 rfl
    have k4 := (KT2.out).c 4 rfl
    have kf4 := (KT2.out).f 4 rfl
    have k5 := (KT2.out).c 5 rfl
    have kf5 := (KT2.out).f 5 rfl
    have k6 := (KT2.out).c 6 rfl
    have kf6 := (KT2.out).f 6 rfl
    go_wp2
    go_end0
    exact keep_end HFB.out HBU.out HMY.out HNE.out HN2.out HNB.out HY.out HYX.out KB2.out HWM2.out HWL.out HF2.out HH2.out HT2.out
end Go.Proofs.YtgbnjgenopdmfaaGreat

/- isChange, untilDrop, source, sameSource walked. -/
namespace Go.Proofs.YtgbnjgenopdmfaaGreat
open Go.RowKit Go.Maps
theorem Acs.cells {w : World} {ao : Option Addr} {acs : List Acn} (h : Acs w ao acs) {k : Nat} (hk : k < acs.length) : ∃ g off, ao = some ⟨g, off, none⟩ ∧ w.cell? ⟨g, off + k * 8, none⟩ = some (.int .i64 (acs[k]'hk).kind) := by
  obtain ⟨g, off, e, hc⟩ := h.at hk
  exact ⟨g, off, e, hc 0 (by decide)⟩
theorem chgB_at {acs : List Acn} (h1 : 1 < acs.length) : chgB acs = (decide ((acs[0]'(by omega)).kind = 7) && decide ((acs[1]'h1).kind = 6)) := by
  cases acs with
  | nil => simp at h1
  | cons a r =>
    cases r with
    | nil => simp at h1
    | cons b r => rfl
set_option maxHeartbeats 1600000 in
theorem isChange_any (ao : Option Addr) (cap : Nat) (acs : List Acn) (w : World) (hA : Acs w ao acs) (hl : acs.length ≤ 1000000000) :
    Calls Tryz.prog 43 #[.slice ao acs.length cap] w fun e w' => e = .returned (.bool (chgB acs)) ∧ w' = w := by
  by_cases h1 : 1 < acs.length
  · obtain ⟨g, off, rfl, c0⟩ := hA.cells (k := 0) (by omega)
    obtain ⟨g2, off2, e2, c1⟩ := hA.cells (k := 1) h1
    injection e2 with e2
    injection e2 with e2 e3
    subst e2 e3
    have hch := chgB_at h1
    simp only [Nat.zero_mul, Nat.add_zero, Nat.one_mul] at c0 c1
    rw [hch]
    generalize (acs[0]'(by omega)).kind = x at *
    generalize (acs[1]'h1).kind = y at *
    have h0 : (0 : Int) < (acs.length : Int) := by omega
    have h1i : (1 : Int) < (acs.length : Int) := by omega
    clear hA hch
    generalize acs.length = n at *
    by_cases hx : x = 7
    · subst hx
      by_cases hy : y = 6
      · subst hy
        go_enter Tryz.func43, Tryz.ntmps43
        go_wp2
        go_ret
        exact ⟨rfl, rfl⟩
      · go_enter Tryz.func43, Tryz.ntmps43
        go_wp2
        go_ret
        exact ⟨by simp_all, rfl⟩
    · go_enter Tryz.func43, Tryz.ntmps43
      go_wp2
      go_ret
      exact ⟨by simp_all, rfl⟩
  · have hch : chgB acs = false := by
      match acs, h1 with
      | [], _ => rfl
      | [_], _ => rfl
      | _ :: _ :: _, h => exact absurd (by simp) h
    have h1i : ¬ (1 : Int) < (acs.length : Int) := by omega
    rw [hch]
    clear hA hch
    go_enter Tryz.func43, Tryz.ntmps43
    go_wp2
    go_ret
    exact ⟨rfl, rfl⟩
theorem en_D : ∀ args w, (callFunc 84 args).run Tryz.prog w = .ok (.enter 84 args) w := enters_of Tryz.func84 (by kernel_rfl) rfl
theorem drop_test (a : Acn) (w : World) : Calls Tryz.prog 84 #[av a] w fun e w' => e = .returned (.bool (decide (a.kind = 7))) ∧ Below w.heap.size w w' := by
  by_cases h : a.kind = 7
  · go_enter Tryz.func84, Tryz.ntmps84
    go_wp2
    go_ret
    exact ⟨by simp [h], (Below.refl _ _).alloc (Nat.le_refl _) _⟩
  · go_enter Tryz.func84, Tryz.ntmps84
    go_wp2
    go_ret
    exact ⟨by simp [h], (Below.refl _ _).alloc (Nat.le_refl _) _⟩
theorem until_hit {l : List Acn} {k : Nat} (hk : k < l.length) (h : ∀ x ∈ l.take k, x.kind ≠ 7) (hq : (l[k]'hk).kind = 7) : untilR l = l.take k := by
  induction l generalizing k with
  | nil => simp at hk
  | cons a r ih =>
    cases k with
    | zero =>
      have e : a.kind = 7 := hq
      simp [untilR, e]
    | succ k =>
      have ha : a.kind ≠ 7 := h a (by simp)
      have e : untilR (a :: r) = a :: untilR r := by simp [untilR, ha]
      rw [e, List.take_succ_cons, ih (by simpa using hk) (fun x hx => h x (by simp [hx])) (by simpa using hq)]
theorem until_all {l : List Acn} (h : ∀ x ∈ l, x.kind ≠ 7) : untilR l = l := by
  induction l with
  | nil => rfl
  | cons a r ih =>
    have ha : a.kind ≠ 7 := h a (by simp)
    have e : untilR (a :: r) = a :: untilR r := by simp [untilR, ha]
    rw [e, ih (fun x hx => h x (by simp [hx]))]
set_option maxHeartbeats 3200000 in
theorem indexA_any (ao : Option Addr) (cap : Nat) (l : List Acn) (w : World) (hL : Acs w ao l) (hl : l.length ≤ 1000000000) :
    Calls Tryz.prog 83 #[.slice ao l.length cap, .func (.func 84) #[] #[]] w fun e w' => (∃ r : Int, e = .returned (.int .i64 r) ∧ ((r = -1 ∧ untilR l = l) ∨ ∃ k, k < l.length ∧ r = (k : Int) ∧ untilR l = l.take k)) ∧ Below w.heap.size w w' := by
  have HL : Hid (Acs w ao l) := hL
  have eg := en_D
  clear hL
  go_enter Tryz.func83, Tryz.ntmps83
  go_wp2
  go_loopw [5, 8] (fun _ i wr => ∃ k : Nat, k ≤ l.length ∧ i = .int .i64 k ∧ (∀ x ∈ l.take k, x.kind ≠ 7) ∧ Below w.heap.size w wr) (fun _ i _ => l.length - (intOf i).toNat)
  case atStart => exact ⟨0, Nat.zero_le _, rfl, (fun f hf => by simp at hf), Below.refl _ _⟩
  case round =>
    obtain ⟨k, hk, rfl, hok, hb⟩ := hrel
    have HB : Hid (Below w.heap.size w wr) := hb
    have HO : Hid (∀ x ∈ l.take k, x.kind ≠ 7) := hok
    clear hb hok
    by_cases hlt : k < l.length
    · obtain ⟨g, off, rfl, hc⟩ := (HL.out.next HB.out).at hlt
      have HHit : Hid ((l[k]'hlt).kind = 7 → untilR l = l.take k) := fun h => until_hit hlt HO.out h
      have HMiss : Hid ((l[k]'hlt).kind ≠ 7 → ∀ x ∈ l.take (k + 1), x.kind ≠ 7) := fun h x hx => by
        rw [List.take_succ_eq_append_getElem hlt] at hx
        rcases List.mem_append.1 hx with hx | hx
        · exact HO.out x hx
        · rw [List.mem_singleton] at hx; rw [hx]; exact h
      generalize l[k]'hlt = a at *
      have c0 := hc 0 (by decide)
      have c1 := hc 1 (by decide)
      have c2 := hc 2 (by decide)
      have c3 := hc 3 (by decide)
      have c4 := hc 4 (by decide)
      have c5 := hc 5 (by decide)
      have c6 := hc 6 (by decide)
      have c7 := hc 7 (by decide)
      simp only [acl, List.getElem?_cons_zero, List.getElem?_cons_succ, Nat.add_zero] at c0 c1 c2 c3 c4 c5 c6 c7
      clear hc
      have hcall := drop_test a wr
      have hki : (k : Int) < (l.length : Int) := by omega
      by_cases hq : a.kind = 7
      · rw [decide_eq_true hq] at hcall
        have HQ : Hid (a.kind = 7) := hq
        clear hq
        go_wp2_with (go_at_fn 84; refine hcall.mono ?_; rintro e w' ⟨rfl, hb'⟩)
        go_ret
        exact ⟨⟨_, rfl, .inr ⟨k, hlt, rfl, HHit.out HQ.out⟩⟩, HB.out.trans (hb'.mono HB.out.size)⟩
      · rw [decide_eq_false hq] at hcall
        have HQ : Hid (a.kind ≠ 7) := hq
        clear hq
        go_wp2_with (go_at_fn 84; refine hcall.mono ?_; rintro e w' ⟨rfl, hb'⟩)
        go_roundw
        case rel => exact ⟨k + 1, by omega, by go_num, HMiss.out HQ.out, HB.out.trans (hb'.mono HB.out.size)⟩
        case measure => simp [intOf]; omega
    · have HE : Hid (untilR l = l) := until_all (by have h := HO.out; rw [List.take_of_length_le (by omega)] at h; exact h)
      go_wp2
      go_ret
      exact ⟨⟨_, rfl, .inl ⟨rfl, HE.out⟩⟩, HB.out⟩
set_option maxHeartbeats 1600000 in
theorem untilDrop_any (ao : Option Addr) (cap : Nat) (acs : List Acn) (w : World) (hA : Acs w ao acs) (hl : acs.length ≤ 1000000000) (hcap : acs.length ≤ cap) :
    Calls Tryz.prog 45 #[.slice ao acs.length cap] w fun e w' => e = .returned (.slice ao (untilR acs).length cap) ∧ Below w.heap.size w w' := by
  have HI := (show Hid _ from indexA_any ao cap acs w hA hl)
  have HA : Hid (Acs w ao acs) := hA
  clear hA
  go_enter Tryz.func45, Tryz.ntmps45
  go_wp2_with fail
  refine Calls.mono HI.out ?_
  rintro e w1 ⟨⟨r, rfl, hr⟩, hb⟩
  have HB : Hid (Below w.heap.size w w1) := hb
  clear hb
  rcases hr with ⟨rfl, hu⟩ | ⟨k, hk, rfl, hu⟩
  · have HU : Hid (untilR acs = acs) := hu
    clear hu
    go_wp2
    go_ret
    exact ⟨by rw [HU.out]; rfl, HB.out⟩
  · obtain ⟨g, off, rfl, _⟩ := HA.out.at hk
    have hn : (untilR acs).length = k := by rw [hu, List.length_take]; omega
    have HN : Hid ((untilR acs).length = k) := hn
    have h0 : ¬ ((k : Int) < 0) := by omega
    have h1 : (k : Int) ≤ (cap : Int) := by omega
    clear hu hn
    go_wp2
    go_ret
    exact ⟨by rw [HN.out]; rfl, HB.out⟩
end Go.Proofs.YtgbnjgenopdmfaaGreat

/- source, sameSource walked. -/
namespace Go.Proofs.YtgbnjgenopdmfaaGreat
open Go.RowKit Go.Maps
theorem pl_neq' (p q : Plc) (W : World) : (binOp .neq 53 (.agg #[.int .i64 p.1, .int .i64 p.2.1, .int .i64 p.2.2]) (.agg #[.int .i64 q.1, .int .i64 q.2.1, .int .i64 q.2.2])).run Tryz.prog W = .ok (.bool (p != q)) W := by
  obtain ⟨a, b, c⟩ := p
  obtain ⟨d, e, f⟩ := q
  go_simp
  by_cases h1 : a = d <;> by_cases h2 : b = e <;> by_cases h3 : c = f <;> simp [h1, h2, h3]
abbrev zp3 : Plc := (0, 0, 0)
set_option maxHeartbeats 6400000 in
set_option maxRecDepth 100000 in
theorem source_any (ao : Option Addr) (cap : Nat) (acs : List Acn) (w : World) (hA : Acs w ao acs) (hl : acs.length ≤ 1000000000) :
    Calls Tryz.prog 82 #[.slice ao acs.length cap] w fun e w' => e = .returned (.tuple #[plv (src acs).1, .bool (src acs).2]) ∧ Below w.heap.size w w' := by
  have HA : Hid (Acs w ao acs) := hA
  have b0 : Below w.heap.size w (w.alloc (.cells (pcl zp3).toArray 53)) := (Below.refl _ _).alloc (Nat.le_refl _) _
  have K0 : Hid (Bk w.heap.size (pcl zp3) (w.alloc (.cells (pcl zp3).toArray 53))) := Bk.new w (pcl zp3) 53 w.heap.size rfl
  have HB0 : Hid (Below w.heap.size w (w.alloc (.cells (pcl zp3).toArray 53))) := b0
  clear hA b0
  go_enter Tryz.func82, Tryz.ntmps82
  go_wp2
  go_loopw [3, 8] (fun q3 q8 wr => ∃ (k : Nat) (p : Plc) (j : Bool), k ≤ acs.length ∧ q8 = .int .i64 k ∧ q3 = .bool j ∧ Bk w.heap.size (pcl p) wr ∧ Below w.heap.size w wr ∧ src acs = srcR p j (acs.drop k)) (fun _ i _ => acs.length - (intOf i).toNat)
  case atStart => exact ⟨0, zp3, false, Nat.zero_le _, rfl, rfl, K0.out, HB0.out, rfl⟩
  case round =>
    obtain ⟨k, p, j, hk, rfl, rfl, hK, hb, hsr⟩ := hrel
    have KR : Hid (Bk w.heap.size (pcl p) wr) := hK
    have HB : Hid (Below w.heap.size w wr) := hb
    have HSR : Hid (src acs = srcR p j (acs.drop k)) := hsr
    have hlt0 := hK.1
    clear hK hb hsr
    by_cases hlt : k < acs.length
    · obtain ⟨g, off, rfl, hc⟩ := (HA.out.next HB.out).at hlt
      have HDR : Hid (src acs = srcR p j ((acs[k]'hlt) :: acs.drop (k + 1))) := by show _ = _; rw [HSR.out, List.drop_eq_getElem_cons hlt]
      generalize acs[k]'hlt = a at *
      have c0 := hc 0 (by decide)
      have c1 := hc 1 (by decide)
      have c2 := hc 2 (by decide)
      have c3 := hc 3 (by decide)
      have c4 := hc 4 (by decide)
      have c5 := hc 5 (by decide)
      have c6 := hc 6 (by decide)
      have c7 := hc 7 (by decide)
      simp only [acl, List.getElem?_cons_zero, List.getElem?_cons_succ, Nat.add_zero] at c0 c1 c2 c3 c4 c5 c6 c7
      have hki : (k : Int) < (acs.length : Int) := by omega
      clear hc
      have hne : w.heap.size ≠ wr.heap.size := by omega
      have r0 := (KR.out).c 0 rfl
      have rf0 := (KR.out).f 0 rfl
      have r1 := (KR.out).c 1 rfl
      have rf1 := (KR.out).f 1 rfl
      have r2 := (KR.out).c 2 rfl
      have rf2 := (KR.out).f 2 rfl
      by_cases h8 : a.kind = 8
      · have hz8 : (a.kind == 8) = true := by simp [h8]
        cases j with
        | false =>
          have HN : Hid (src acs = srcR a.pl true (acs.drop (k + 1))) := by show _ = _; rw [HDR.out]; simp [srcR, h8]
          have KN : Hid (Bk w.heap.size (pcl a.pl) (P3 wr w.heap.size a.pl)) := KR.out.put3 a.pl
          go_wp2
          go_roundw
          case rel => exact ⟨k + 1, a.pl, true, by omega, by go_num, rfl, KN.out.later ((Below.refl _ _).alloc (Nat.le_refl _) _), (((HB.out.setCell (Nat.le_refl _) _).setCell (Nat.le_refl _) _).setCell (Nat.le_refl _) _).alloc (by simp [World.setCell]; omega) _, HN.out⟩
          case measure => simp [intOf]; omega
        | true =>
          have hpl := fun W => pl_neq' a.pl p W
          cases hq : (a.pl != p) with
          | true =>
            have HN : Hid (src acs = ((0, 0, 0), false)) := by
              show _ = _
              rw [HDR.out]
              unfold srcR
              rw [if_pos h8, if_pos ⟨rfl, by simpa using hq⟩]
            rw [hq] at hpl
            clear hq
            have K3 : Bk w.heap.size (pcl zp3) ((P3 wr w.heap.size zp3).alloc (.cells #[.int .i64 8, .int .i64 a.pl.1, .int .i64 a.pl.2.1, .int .i64 a.pl.2.2, .string a.label, .int .i64 a.vol, .int .i64 a.value, .int .i64 a.time] 55)) := (KR.out.put3 zp3).later ((Below.refl _ _).alloc (Nat.le_refl _) _)
            have z0 := K3.c 0 rfl
            have z1 := K3.c 1 rfl
            have z2 := K3.c 2 rfl
            clear K3
            go_wp2
            refine bodyPost_ret (v := .tuple #[plv zp3, .bool false]) (by simp [results, Tryz.results82, go_sem, z0, z1, z2]) rfl ⟨by rw [HN.out], ?_⟩
            exact (((HB.out.setCell (Nat.le_refl _) _).setCell (Nat.le_refl _) _).setCell (Nat.le_refl _) _).alloc (by simp [World.setCell]; omega) _
          | false =>
            have HN : Hid (src acs = srcR a.pl true (acs.drop (k + 1))) := by
              show _ = _
              rw [HDR.out]
              conv => lhs; unfold srcR
              rw [if_pos h8, if_neg (fun h => h.2 (by simpa using hq))]
            have KN : Hid (Bk w.heap.size (pcl a.pl) (P3 wr w.heap.size a.pl)) := KR.out.put3 a.pl
            rw [hq] at hpl
            clear hq
            go_wp2
            go_roundw
            case rel => exact ⟨k + 1, a.pl, true, by omega, by go_num, rfl, KN.out.later ((Below.refl _ _).alloc (Nat.le_refl _) _), (((HB.out.setCell (Nat.le_refl _) _).setCell (Nat.le_refl _) _).setCell (Nat.le_refl _) _).alloc (by simp [World.setCell]; omega) _, HN.out⟩
            case measure => simp [intOf]; omega
      · have HN : Hid (src acs = srcR p j (acs.drop (k + 1))) := by show _ = _; rw [HDR.out]; simp [srcR, h8]
        have hz8 : (a.kind == 8) = false := by simp [h8]
        have hz9 : (a.kind != 8) = true := by simp [h8]
        go_wp2
        go_roundw
        case rel => exact ⟨k + 1, p, j, by omega, by go_num, rfl, KR.out.later ((Below.refl _ _).alloc (Nat.le_refl _) _), HB.out.alloc HB.out.size _, HN.out⟩
        case measure => simp [intOf]; omega
    · have hki : ¬ (k : Int) < (acs.length : Int) := by omega
      have HE : Hid (src acs = (p, j)) := by show _ = _; rw [HSR.out, List.drop_eq_nil_of_le (by omega)]; rfl
      have r0 := (KR.out).c 0 rfl
      have rf0 := (KR.out).f 0 rfl
      have r1 := (KR.out).c 1 rfl
      have rf1 := (KR.out).f 1 rfl
      have r2 := (KR.out).c 2 rfl
      have rf2 := (KR.out).f 2 rfl
      have K3 : Bk w.heap.size (pcl p) (P3 wr w.heap.size p) := KR.out.put3 p
      have z0 := K3.c 0 rfl
      have z1 := K3.c 1 rfl
      have z2 := K3.c 2 rfl
      clear K3
      go_wp2
      refine bodyPost_ret (v := .tuple #[plv p, .bool j]) (by simp [results, Tryz.results82, go_sem, z0, z1, z2]) rfl ⟨by rw [HE.out], ?_⟩
      exact ((HB.out.setCell (Nat.le_refl _) _).setCell (Nat.le_refl _) _).setCell (Nat.le_refl _) _
set_option maxHeartbeats 3200000 in
set_option maxRecDepth 100000 in
theorem sameSource_any (ao ao2 : Option Addr) (cap cap2 : Nat) (acs acs2 : List Acn) (w : World) (hA : Acs w ao acs) (hA2 : Acs w ao2 acs2) (hl : acs.length ≤ 1000000000) (hl2 : acs2.length ≤ 1000000000) :
    Calls Tryz.prog 44 #[.slice ao acs.length cap, .slice ao2 acs2.length cap2] w fun e w' => e = .returned (.bool (sameSrc acs acs2)) ∧ Below w.heap.size w w' := by
  have HS1 := (show Hid _ from source_any ao cap acs w hA hl)
  have HS2 : Hid (∀ W, Below w.heap.size w W → Calls Tryz.prog 82 #[.slice ao2 acs2.length cap2] W fun e w' => e = .returned (.tuple #[plv (src acs2).1, .bool (src acs2).2]) ∧ Below W.heap.size W w') := fun W hb => source_any ao2 cap2 acs2 W (hA2.next hb) hl2
  have HQ : Hid (sameSrc acs acs2 = ((src acs).2 && ((src acs2).2 && ((src acs).1 == (src acs2).1)))) := by
    show _ = _
    unfold sameSrc
    rw [show decide ((src acs).1 = (src acs2).1) = ((src acs).1 == (src acs2).1) from by rw [Bool.eq_iff_iff]; simp]
  clear hA hA2
  generalize src acs = s1 at *
  generalize src acs2 = s2 at *
  obtain ⟨p, j⟩ := s1
  obtain ⟨q, j2⟩ := s2
  simp only at HS1 HS2 HQ
  go_enter Tryz.func44, Tryz.ntmps44
  go_wp2_with fail
  refine Calls.mono HS1.out ?_
  rintro e w1 ⟨rfl, hb1⟩
  obtain ⟨w2, hw2⟩ : ∃ w2, w2 = w1.alloc (pobj p) := ⟨_, rfl⟩
  have HB2 : Hid (Below w.heap.size w w2) := by show Below _ _ _; rw [hw2]; exact hb1.alloc hb1.size _
  have KP : Hid (Bk w1.heap.size (pcl p) w2) := by show Bk _ _ _; rw [hw2]; exact Bk.new w1 (pcl p) 53 w1.heap.size rfl
  have HW2 : Hid (w2 = _) := hw2
  clear hw2 hb1
  go_wp2_with fail
  rw [← HW2.out]
  refine (HS2.out w2 HB2.out).mono ?_
  rintro e w3 ⟨rfl, hb3⟩
  obtain ⟨w4, hw4⟩ : ∃ w4, w4 = w3.alloc (pobj q) := ⟨_, rfl⟩
  have hb4 : Below w2.heap.size w2 w4 := by rw [hw4]; exact hb3.alloc hb3.size _
  have HB4 : Hid (Below w.heap.size w w4) := below_on HB2.out hb4
  have KP4 : Hid (Bk w1.heap.size (pcl p) w4) := KP.out.later hb4
  have KQ4 : Hid (Bk w3.heap.size (pcl q) w4) := by show Bk _ _ _; rw [hw4]; exact Bk.new w3 (pcl q) 53 w3.heap.size rfl
  have p0 := (KP4.out).c 0 rfl
  have p1 := (KP4.out).c 1 rfl
  have p2 := (KP4.out).c 2 rfl
  have q0 := (KQ4.out).c 0 rfl
  have q1 := (KQ4.out).c 1 rfl
  have q2 := (KQ4.out).c 2 rfl
  have hpl := fun W => pl_same' p q W
  rw [hw4] at p0 p1 p2 q0 q1 q2
  have HW4 : Hid (w4 = _) := hw4
  clear hb3 hb4 hw4
  cases j with
  | false =>
    go_wp2
    go_ret
    exact ⟨by rw [HQ.out]; rfl, by rw [← HW4.out]; exact HB4.out⟩
  | true =>
    cases j2 with
    | false =>
      go_wp2
      go_ret
      exact ⟨by rw [HQ.out]; rfl, by rw [← HW4.out]; exact HB4.out⟩
    | true =>
      generalize (p == q) = r at *
      go_wp2
      go_ret
      exact ⟨by rw [HQ.out]; rfl, by rw [← HW4.out]; exact HB4.out⟩
end Go.Proofs.YtgbnjgenopdmfaaGreat

/- sameWell, slices.EqualFunc at wells, isAlike walked. -/
namespace Go.Proofs.YtgbnjgenopdmfaaGreat
open Go.RowKit Go.Maps
set_option maxHeartbeats 3200000 in
set_option maxRecDepth 100000 in
theorem sameWell_any (x y : Wh) (w : World) (hx : F.Fl w x.2.1 x.2.2.2) (hy : F.Fl w y.2.1 y.2.2.2) (hl : x.2.2.2.length ≤ 1000) :
    Calls Tryz.prog 128 #[whv x, whv y] w fun e w' => e = .returned (.bool ((x.1 == y.1) && decide (x.2.2.2 = y.2.2.2))) ∧ Below w.heap.size w w' := by
  have hpl := fun W => pl_same' x.1 y.1 W
  obtain ⟨w0, hw0⟩ : ∃ w0, w0 = (w.alloc (who x)).alloc (who y) := ⟨_, rfl⟩
  have HB0 : Hid (Below w.heap.size w w0) := by show Below _ _ _; rw [hw0]; exact ((Below.refl _ _).alloc (Nat.le_refl _) _).alloc (by simp) _
  have HQ : Hid (Calls Tryz.prog 125 #[.slice x.2.1 x.2.2.2.length x.2.2.1, .slice y.2.1 y.2.2.2.length y.2.2.1] w0 fun e w' => e = .returned (.bool (decide (x.2.2.2 = y.2.2.2))) ∧ ∃ n, w' = w0.drewN n) := equal_any _ _ _ _ _ _ w0 (hx.next HB0.out) (hy.next HB0.out) (by omega)
  have HW0 : Hid (w0 = _) := hw0
  clear hx hy hw0
  generalize decide (x.2.2.2 = y.2.2.2) = r at *
  cases hz : (x.1 == y.1) with
  | true =>
    simp only [hz] at hpl
    clear hz
    go_enter Tryz.func128, Tryz.ntmps128
    go_wp2_with fail
    rw [← HW0.out]
    refine Calls.mono HQ.out ?_
    rintro e w1 ⟨rfl, n, rfl⟩
    go_wp2
    go_ret
    exact ⟨rfl, blw_drewN HB0.out n⟩
  | false =>
    simp only [hz] at hpl
    clear hz
    go_enter Tryz.func128, Tryz.ntmps128
    go_wp2
    go_ret
    rw [← HW0.out]
    exact ⟨rfl, HB0.out⟩
theorem en_W : ∀ args w, (callFunc 128 args).run Tryz.prog w = .ok (.enter 128 args) w := enters_of Tryz.func128 (by kernel_rfl) rfl
theorem whp_ne {a b : List Wh} {k : Nat} (ha : k < a.length) (hb : k < b.length) (h : ((a[k]'ha).1 == (b[k]'hb).1 && decide ((a[k]'ha).2.2.2 = (b[k]'hb).2.2.2)) = false) : whp a ≠ whp b := by
  intro e
  have h1 : (whp a)[k]? = (whp b)[k]? := by rw [e]
  rw [List.getElem?_eq_getElem (by rw [whp_length]; exact ha), List.getElem?_eq_getElem (by rw [whp_length]; exact hb), whp_at ha, whp_at hb] at h1
  injection h1 with h1
  injection h1 with h2 h3
  rw [h2, h3] at h
  simp at h
theorem whp_eq {a b : List Wh} (hl : a.length = b.length) (h : ∀ k (ha : k < a.length) (hb : k < b.length), ((a[k]'ha).1 == (b[k]'hb).1 && decide ((a[k]'ha).2.2.2 = (b[k]'hb).2.2.2)) = true) : whp a = whp b := by
  refine List.ext_getElem (by rw [whp_length, whp_length, hl]) fun k h1 h2 => ?_
  rw [whp_length] at h1 h2
  rw [whp_at h1, whp_at h2]
  have := h k h1 h2
  rw [Bool.and_eq_true, beq_iff_eq, decide_eq_true_eq] at this
  rw [this.1, this.2]
set_option maxHeartbeats 6400000 in
set_option maxRecDepth 100000 in
theorem equalWs_any (ao ao2 : Option Addr) (cap cap2 : Nat) (a b : List Wh) (w : World) (ha : Whs w ao a) (hb : Whs w ao2 b) (hl : a.length ≤ 1000000000) (hf : ∀ x ∈ a, x.2.2.2.length ≤ 1000) :
    Calls Tryz.prog 127 #[.slice ao a.length cap, .slice ao2 b.length cap2, .func (.func 128) #[] #[]] w fun e w' => e = .returned (.bool (decide (whp a = whp b))) ∧ Below w.heap.size w w' := by
  have HA : Hid (Whs w ao a) := ha
  have HBB : Hid (Whs w ao2 b) := hb
  have HF : Hid (∀ x ∈ a, x.2.2.2.length ≤ 1000) := hf
  have eg := en_W
  clear ha hb hf
  by_cases hlen : a.length = b.length
  rotate_left
  · have HQ : Hid (decide (whp a = whp b) = false) := by show _ = _; rw [decide_eq_false_iff_not]; exact fun e => hlen (by rw [← whp_length a, e, whp_length])
    have hne : ((a.length : Int) != (b.length : Int)) = true := by simp; omega
    have hne2 : ¬ ((a.length : Int) = (b.length : Int)) := by omega
    clear hlen
    go_enter Tryz.func127, Tryz.ntmps127
    go_wp2
    go_ret
    exact ⟨by rw [HQ.out]; rfl, Below.refl _ _⟩
  have HLE : Hid (a.length = b.length) := hlen
  rw [← hlen]
  clear hlen
  go_enter Tryz.func127, Tryz.ntmps127
  go_wp2
  go_loopw [7, 17] (fun _ i wr => ∃ k : Nat, k ≤ a.length ∧ i = .int .i64 k ∧ (∀ j, j < k → ∀ (ha : j < a.length) (hb : j < b.length), ((a[j]'ha).1 == (b[j]'hb).1 && decide ((a[j]'ha).2.2.2 = (b[j]'hb).2.2.2)) = true) ∧ Below w.heap.size w wr) (fun _ i _ => a.length - (intOf i).toNat)
  case atStart => exact ⟨0, Nat.zero_le _, rfl, (fun j h => absurd h (Nat.not_lt_zero _)), Below.refl _ _⟩
  case round =>
    obtain ⟨k, hk, rfl, hok, hb⟩ := hrel
    have HB : Hid (Below w.heap.size w wr) := hb
    have HO : Hid (∀ j, j < k → ∀ (ha : j < a.length) (hb : j < b.length), ((a[j]'ha).1 == (b[j]'hb).1 && decide ((a[j]'ha).2.2.2 = (b[j]'hb).2.2.2)) = true) := hok
    clear hb hok
    by_cases hlt : k < a.length
    · have hlt2 : k < b.length := by rw [← HLE.out]; exact hlt
      obtain ⟨g, off, rfl, hx⟩ := (HA.out.next HB.out).at hlt
      obtain ⟨g2, off2, rfl, hy⟩ := (HBB.out.next HB.out).at hlt2
      have HHit : Hid ((((a[k]'hlt).1 == (b[k]'hlt2).1) && decide ((a[k]'hlt).2.2.2 = (b[k]'hlt2).2.2.2)) = true → ∀ j, j < k + 1 → ∀ (ha : j < a.length) (hb : j < b.length), ((a[j]'ha).1 == (b[j]'hb).1 && decide ((a[j]'ha).2.2.2 = (b[j]'hb).2.2.2)) = true) := fun h j hj ha hb => by
        by_cases e : j = k
        · subst e; exact h
        · exact HO.out j (by omega) ha hb
      have HMiss : Hid ((((a[k]'hlt).1 == (b[k]'hlt2).1) && decide ((a[k]'hlt).2.2.2 = (b[k]'hlt2).2.2.2)) = false → decide (whp a = whp b) = false) := fun h => by rw [decide_eq_false_iff_not]; exact whp_ne hlt hlt2 h
      have hfx := HF.out _ (List.getElem_mem hlt)
      generalize a[k]'hlt = x at *
      generalize b[k]'hlt2 = y at *
      have HX : Hid (WhAt wr g (off + k * 4) x) := hx
      have HY : Hid (WhAt wr g2 (off2 + k * 4) y) := hy
      obtain ⟨_, c0, c1, c2, c3, _⟩ := hx
      obtain ⟨_, d0, d1, d2, d3, _⟩ := hy
      have hki : (k : Int) < (a.length : Int) := by omega
      have hg1 := HX.out.lt
      have hg2 := HY.out.lt
      obtain ⟨w2, hw2⟩ : ∃ w2, w2 = (wr.alloc (who x)).alloc (who y) := ⟨_, rfl⟩
      have b2 : Below wr.heap.size wr w2 := by rw [hw2]; exact ((Below.refl _ _).alloc (Nat.le_refl _) _).alloc (by simp) _
      have hcall := sameWell_any x y w2 (HX.out.fl.next b2) (HY.out.fl.next b2) hfx
      have HB2 : Hid (Below w.heap.size w w2) := below_on HB.out b2
      rw [hw2] at hcall
      have HW2 : Hid (w2 = _) := hw2
      clear b2 hw2
      cases hq : ((x.1 == y.1) && decide (x.2.2.2 = y.2.2.2)) with
      | true =>
        rw [hq] at hcall
        have HQ := HHit.out hq
        have HQ2 : Hid (∀ j, j < k + 1 → ∀ (ha : j < a.length) (hb : j < b.length), ((a[j]'ha).1 == (b[j]'hb).1 && decide ((a[j]'ha).2.2.2 = (b[j]'hb).2.2.2)) = true) := HQ
        clear hq HQ
        go_wp2_with (go_at_fn 128; refine hcall.mono ?_; rintro e w' ⟨rfl, hb'⟩)
        go_roundw
        case rel => exact ⟨k + 1, by omega, by go_num, HQ2.out, HB2.out.trans ((by rw [HW2.out]; exact hb' : Below w2.heap.size w2 w').mono HB2.out.size)⟩
        case measure => simp [intOf]; omega
      | false =>
        rw [hq] at hcall
        have HQ : Hid (decide (whp a = whp b) = false) := HMiss.out hq
        clear hq
        go_wp2_with (go_at_fn 128; refine hcall.mono ?_; rintro e w' ⟨rfl, hb'⟩)
        go_ret
        exact ⟨by rw [HQ.out]; rfl, HB2.out.trans ((by rw [HW2.out]; exact hb' : Below w2.heap.size w2 w').mono HB2.out.size)⟩
    · have hki : ¬ (k : Int) < (a.length : Int) := by omega
      have HE : Hid (decide (whp a = whp b) = true) := by
        show _ = _
        rw [decide_eq_true_eq]
        exact whp_eq HLE.out fun j h1 h2 => HO.out j (by omega) h1 h2
      go_wp2
      go_ret
      exact ⟨by rw [HE.out]; rfl, HB.out⟩
set_option maxHeartbeats 3200000 in
set_option maxRecDepth 100000 in
theorem isAlike_any (s t : Sm) (w : World) (hs : SmIn w s) (ht : SmIn w t) (hl : s.wl.length ≤ 1000000000) (hf : ∀ x ∈ s.wl, x.2.2.2.length ≤ 1000) :
    Calls Tryz.prog 88 #[smv s, smv t] w fun e w' => e = .returned (.bool (alikeB s.st t.st)) ∧ Below w.heap.size w w' := by
  obtain ⟨w0, hw0⟩ : ∃ w0, w0 = (w.alloc (smo s)).alloc (smo t) := ⟨_, rfl⟩
  have HB0 : Hid (Below w.heap.size w w0) := by show Below _ _ _; rw [hw0]; exact ((Below.refl _ _).alloc (Nat.le_refl _) _).alloc (by simp) _
  have HEQ := (show Hid _ from equalWs_any s.aoW t.aoW s.capW t.capW s.wl t.wl w0 (hs.next HB0.out).wells (ht.next HB0.out).wells hl hf)
  have KS : Hid (Bk w.heap.size (sml s) w0) := by show Bk _ _ _; rw [hw0]; exact (Bk.new w (sml s) 40 w.heap.size rfl).later ((Below.refl _ _).alloc (Nat.le_refl _) _)
  have KT : Hid (Bk (w.heap.size + 1) (sml t) w0) := by show Bk _ _ _; rw [hw0]; exact Bk.new _ (sml t) 40 (w.heap.size + 1) (by simp)
  have HQ : Hid (alikeB s.st t.st = (decide (whp s.wl = whp t.wl) && (decide (s.heat = t.heat) && decide (s.clock = t.clock)))) := rfl
  have HW0 : Hid (w0 = _) := hw0
  clear hs ht hw0
  generalize decide (whp s.wl = whp t.wl) = r at *
  go_enter Tryz.func88, Tryz.ntmps88
  go_wp2_with fail
  rw [← HW0.out]
  refine Calls.mono HEQ.out ?_
  rintro e w1 ⟨rfl, hb1⟩
  have HB1 : Hid (Below w.heap.size w w1) := below_on HB0.out hb1
  have KS1 : Hid (Bk w.heap.size (sml s) w1) := KS.out.later hb1
  have KT1 : Hid (Bk (w.heap.size + 1) (sml t) w1) := KT.out.later hb1
  clear hb1
  have p0 := (KS1.out).c 0 rfl
  have p1 := (KS1.out).c 1 rfl
  have p2 := (KS1.out).c 2 rfl
  have p3 := (KS1.out).c 3 rfl
  have p4 := (KS1.out).c 4 rfl
  have p5 := (KS1.out).c 5 rfl
  have p6 := (KS1.out).c 6 rfl
  have q0 := (KT1.out).c 0 rfl
  have q1 := (KT1.out).c 1 rfl
  have q2 := (KT1.out).c 2 rfl
  have q3 := (KT1.out).c 3 rfl
  have q4 := (KT1.out).c 4 rfl
  have q5 := (KT1.out).c 5 rfl
  have q6 := (KT1.out).c 6 rfl
  cases r with
  | false =>
    go_wp2
    go_ret
    exact ⟨by rw [HQ.out]; rfl, HB1.out⟩
  | true =>
    by_cases h1 : s.heat = t.heat
    · by_cases h2 : s.clock = t.clock
      · go_wp2
        go_ret
        exact ⟨by rw [HQ.out]; simp [h1, h2], HB1.out⟩
      · go_wp2
        go_ret
        exact ⟨by rw [HQ.out]; simp [h1, h2], HB1.out⟩
    · go_wp2
      go_ret
      exact ⟨by rw [HQ.out]; simp [h1], HB1.out⟩
end Go.Proofs.YtgbnjgenopdmfaaGreat

/- The law FlowLevels walked. -/
namespace Go.Proofs.YtgbnjgenopdmfaaGreat
open Go.RowKit Go.Maps
theorem infoA : (Tryz.prog.info? 55).map (fun i => (i.zero, i.size, i.bytes)) = some (some (.agg #[.int .i64 0, .int .i64 0, .int .i64 0, .int .i64 0, .string ⟨#[]⟩, .int .i64 0, .int .i64 0, .int .i64 0]), 8, 72) := by kernel_rfl
end Go.Proofs.YtgbnjgenopdmfaaGreat
