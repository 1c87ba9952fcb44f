/- Speeds and Ticks walked. -/
import Derived.Test.YtfoikaneigmlcaaRG
import Derived.OwnWalk
import Derived.Laws.MakeOwn
namespace Go.Proofs.Ytfoikaneigmlcaa
open Go.RowKit

attribute [local go_sem] Oper.semAt_some
/-- Numbers as elements. -/
def encI : Enc Int := ⟨3, 1, fun x => [.int .i64 x]⟩
theorem goodI : Good encI := ⟨fun _ => rfl, fun x u hu => by simp [encI] at hu; subst hu; rfl⟩
theorem infoI : (Try.prog.info? 3).map (fun i => (i.zero, i.size, i.bytes)) = some (some (.int .i64 0), 1, 8) := by kernel_rfl
theorem new_cell (W : World) (x : Int) (j : Nat) (u : Value) (hu : [Value.int .i64 x][j]? = some u) : (W.alloc (.cells #[.int .i64 x] 3)).cell? ((⟨W.heap.size, 0, none⟩ : Addr).add j) = some u := by
  have hj := (List.getElem?_eq_some_iff.1 hu).1
  have : j = 0 := by simpa using hj
  subst this
  have h2 : u = .int .i64 x := by simpa using hu.symm
  subst h2
  simp [Addr.add, go_sem]
/-- A made slice, empty, with room. -/
theorem make_room (n : Nat) (hn : n ≤ 20000) : ∃ cs : Array Value, cs.size = n ∧ ∀ W : World, (Instr.makeSlice 24 (.int .i64 0) (.int .i64 (n : Int))).run Try.prog W = .ok (.slice (some ⟨W.heap.size, 0, none⟩) 0 n) (W.alloc (.cells cs 3)) := by
  obtain ⟨i0, hi, hz0, hz1, hz2⟩ := info_parts infoI
  refine ⟨madeCells (Value.int .i64 0).cells (n * 1), by simp [size_madeCells], fun W => ?_⟩
  have := run_make (P := Try.prog) W 24 3 i0 (.int .i64 0) Try.underlying24 hi hz0 .i64 .i64 0 n (Int.le_refl _) (by omega) (by rw [hz2]; omega) (by omega)
  rw [hz1] at this
  simpa using this
/-- Between two rounds that append. -/
structure ApI (w : World) (G T n : Nat) (xs : List Int) (k : Nat) (W : World) : Prop where
  box : Bk T [.slice (some ⟨G, 0, none⟩) k n] W
  own : OwnR encI W G (.slice (some ⟨G, 0, none⟩) k n) (xs.take k)
  below : Below w.heap.size w W
theorem ApI.kpt {w : World} {G T n : Nat} {xs : List Int} {k : Nat} {A B : World} {M : Nat → Prop} (h : ApI w G T n xs k A) (hk : Kpt M A B) (hG : ¬ M G) (hT : ¬ M T) (hM : ∀ k, M k → w.heap.size ≤ k) : ApI w G T n xs k B := by
  obtain ⟨h1, h2, h3⟩ := h
  refine ⟨bk_kpt h1 hk hT, ?_, Kpt.belowB h3 hk hM⟩
  obtain ⟨q1, q2⟩ := h2
  refine ⟨q1, q2.imp id ?_⟩
  rintro ⟨g, cap, cur, e, hg, hh, r⟩
  have eg : g = G := by injection e with e; injection e with e; injection e with e; exact e.symm
  subst eg
  exact ⟨g, cap, cur, e, hg, (hk.block g (Array.getElem?_eq_some_iff.1 hh).1 hG).trans hh, r⟩
/-- The numbers can be read. -/
def Ints (xs : List Int) (G : Nat) (w : World) : Prop := G < w.heap.size ∧ ∀ k (h : k < xs.length), w.cell? ⟨G, k, none⟩ = some (.int .i64 (xs[k]'h))
theorem Ints.later {xs : List Int} {G : Nat} {w w1 : World} (h : Ints xs G w) (hb : Below w.heap.size w w1) : Ints xs G w1 := ⟨Nat.lt_of_lt_of_le h.1 hb.size, fun k hk => cell_later hb (h.2 k hk)⟩
theorem ints_of {xs : List Int} {G n B : Nat} {w : World} (hG : G < w.heap.size) (h : OwnR encI w B (.slice (some ⟨G, 0, none⟩) xs.length n) xs) : Ints xs G w := by
  refine ⟨hG, fun k hk => ?_⟩
  rcases h.read goodI with ⟨rfl, _⟩ | ⟨g, cap, e, _, _, _, hc⟩
  · simp at hk
  · have eg : g = G := by injection e with e; injection e with e; injection e with e; exact e.symm
    subst eg
    have := hc k hk 0 (by decide)
    simpa [encI] using this
theorem own_other {w w1 : World} {G n k : Nat} {xs : List Int} {M : Nat → Prop} (h : OwnR encI w G (.slice (some ⟨G, 0, none⟩) k n) xs) (hk : Kpt M w w1) (hG : ¬ M G) : OwnR encI w1 G (.slice (some ⟨G, 0, none⟩) k n) xs := by
  obtain ⟨q1, q2⟩ := h
  refine ⟨q1, q2.imp id ?_⟩
  rintro ⟨g, cap, cur, e, hg, hh, r⟩
  have eg : g = G := by injection e with e; injection e with e; injection e with e; exact e.symm
  subst eg
  exact ⟨g, cap, cur, e, hg, (hk.block g (Array.getElem?_eq_some_iff.1 hh).1 hG).trans hh, r⟩
set_option maxHeartbeats 6400000 in
set_option maxRecDepth 100000 in
theorem speedsF_yes (r : Rp) (n : Nat) (w : World) (hr : rpOk r = true) (hn : n ≤ 20000) :
    Calls Try.prog 6 #[rv r, .int .i64 (n : Int)] w fun e w' => ∃ G, e = .returned (.tuple #[.slice (some ⟨G, 0, none⟩) n n, .int .i64 0]) ∧ w.heap.size ≤ G ∧ Ints (speedsL r n) G w' ∧ Below w.heap.size w w' := by
  have HF : Hid (∀ W, Calls Try.prog 18 #[rv r, .int .i64 (n : Int)] W fun e w' => e = .returned (.int .i64 0) ∧ Below W.heap.size W w') := fun W => (refusal_any r n W).mono fun e w' ⟨h1, h2⟩ => ⟨by rw [h1, refR_ok hr (by omega) (by omega)], h2⟩
  have HS : Hid (∀ lo W, lo ≤ W.heap.size → Calls Try.prog 19 #[rv r, .int .i64 (n : Int)] W fun e w' => ∃ v, e = .returned v ∧ FnV (speedsL r n) 0 lo v w' ∧ Below W.heap.size W w') := fun lo W h => speeds_fn r n lo W hr hn h
  have HL : Hid ((speedsL r n).length = n) := speedsL_length r n
  obtain ⟨cs, hcs, hmk⟩ := make_room n hn
  have HCS : Hid (cs.size = n) := hcs
  have HB0 : Hid (Below w.heap.size w (w.alloc (ro r))) := (Below.refl _ _).alloc (Nat.le_refl _) _
  have KR0 : Hid (Bk w.heap.size (rcl r) (w.alloc (ro r))) := Bk.new w (rcl r) 23 w.heap.size rfl
  clear hr hcs
  refine (callsIn_wide (n := 9)).1 (callsIn_of_wp_marks Try.func6 rfl trivial (wpIn_wide.2 ?_) rfl)
  simp only [Try.ntmps6, List.size_toArray, List.length_cons, List.length_nil, Nat.reduceAdd, Nat.reduceSub, Array.replicate_succ, Array.replicate_zero, List.push_toArray, List.append_toArray, List.nil_append, List.cons_append]
  go_wp2_with fail
  refine Calls.mono (HF.out _) ?_
  rintro e w1 ⟨rfl, hb1⟩
  have HB1 : Hid (Below w.heap.size w w1) := HB0.out.trans (hb1.mono HB0.out.size)
  have KR1 : Hid (Bk w.heap.size (rcl r) w1) := KR0.out.later hb1
  have hs1 : w.heap.size < w1.heap.size := KR1.out.1
  have r0 := KR1.out.c 0 rfl
  have r1 := KR1.out.c 1 rfl
  have r2 := KR1.out.c 2 rfl
  have r3 := KR1.out.c 3 rfl
  clear hb1
  go_wp2_with fail
  clear r0 r1 r2 r3 hmk
  obtain ⟨G, hG⟩ : ∃ G, G = w1.heap.size := ⟨_, rfl⟩
  obtain ⟨w2, hw2⟩ : ∃ x, x = (w1.alloc (.cells cs 3)).alloc (.cells #[.slice (some ⟨w1.heap.size, 0, none⟩) 0 n] 24) := ⟨_, rfl⟩
  have hs2 : w2.heap.size = w1.heap.size + 2 := by rw [hw2]; simp
  have hb2 : Below w1.heap.size w1 w2 := by rw [hw2]; exact ((Below.refl _ _).alloc (Nat.le_refl _) _).alloc (by simp) _
  have KT : Hid (Bk (G + 1) [.slice (some ⟨G, 0, none⟩) 0 n] w2) := by show Bk _ _ _; rw [hw2, hG]; exact Bk.new (w1.alloc (.cells cs 3)) [.slice (some ⟨w1.heap.size, 0, none⟩) 0 n] 24 (w1.heap.size + 1) (by simp)
  have KO : Hid (OwnR encI w2 G (.slice (some ⟨G, 0, none⟩) 0 n) []) := by
    refine ⟨by simp [encI, Enc.cells], .inr ⟨G, n, cs, rfl, Nat.le_refl _, ?_, Nat.zero_le _, by unfold maxLen; omega, by simp [encI, HCS.out], by simp [encI, Enc.cells]⟩⟩
    rw [hw2, hG]
    exact (Below.heap_alloc _ _ _ (by simp)).trans (World.alloc_heap_new w1 _)
  have KR : Hid (Bk w.heap.size (rcl r) w2) := KR1.out.later hb2
  have HB2 : Hid (Below w.heap.size w w2) := HB1.out.trans (hb2.mono HB1.out.size)
  try rw [← hw2]
  try simp only [← hG]
  have hsG : w2.heap.size = G + 2 := by omega
  have hwG : w.heap.size < G := by omega
  clear hw2 hb2 hG hs2 hs1
  refine Calls.mono (HS.out w2.heap.size _ (Nat.le_refl _)) ?_
  rintro e w3 ⟨v, rfl, ⟨gf, lb, rfl, HG0⟩, hb⟩
  have HG : Hid (GivesAt gf lb (speedsL r n) 0 w2.heap.size w3) := HG0
  have KT3 : Hid (Bk (G + 1) [.slice (some ⟨G, 0, none⟩) 0 n] w3) := KT.out.later hb
  have KO3 : Hid (OwnR encI w3 G (.slice (some ⟨G, 0, none⟩) 0 n) []) := KO.out.later hb
  have HB3 : Hid (Below w.heap.size w w3) := HB2.out.trans (hb.mono HB2.out.size)
  have hs3 : w2.heap.size ≤ w3.heap.size := hb.size
  clear hb HG0
  obtain ⟨xs, hxs⟩ : ∃ xs, xs = speedsL r n := ⟨_, rfl⟩
  have HEQ : Hid (xs = speedsL r n) := hxs
  rw [← hxs] at HL HG
  clear hxs
  go_wp2_with fail
  refine (wpIn_wide (n := 9)).1 (range_it (n := 9) (gf := gf) (lb := lb) rfl HG.out.1 xs (fun k => w3.heap.size + 2 ≤ k ∧ k < w3.heap.size + 2 + 0) (fun k => k = G ∨ k = G + 1) rfl ?_ (fun k e => e.1) (by omega) (by omega)
    (ApI w G (G + 1) n xs) (fun _ _ => False) ?_ (fun _ _ _ h _ => h) ⟨KT3.out, KO3.out, HB3.out⟩
    (fun x => { tmps := #[rv r, .int .i64 (n : Int), ptr w.heap.size, undef, .slice none 0 0, .int .i64 0, .int .i64 0, ptr (G + 1), .int .i64 x, rv r, .int .i64 (n : Int), .int .i64 0, .int .i64 0, .bool false, undef, .int .i64 (n : Int), .slice (some ⟨G, 0, none⟩) 0 n, rv r, .int .i64 (n : Int), .func (.func gf) #[] lb, .int .i64 x, undef, undef, undef, undef, undef], defers := [] }) .ret .ret (.inl ⟨rfl, rfl⟩) ?_ ?_ ?_ (fun _ _ _ h => h.elim))
  · intro W2 hb2 hs2
    have := HG.out.2 (9 - 1) (fun k => k = G ∨ k = G + 1) (w3.heap.size + 1) W2 hb2 (by rintro k e; omega) (by omega) (by omega)
    rw [hs2] at this
    exact this
  · rintro s A2 B2 h hk
    exact h.kpt hk (by omega) (by omega) (fun k e => by omega)
  · intro l2 x W2 K hK
    have HK : Hid _ := hK
    clear hK
    gi_wp2
    exact HK.out
  · rintro l2 k hk W2 ⟨h1, h2, h3⟩ hs
    have HE : Hid (xs.take (k + 1) = xs.take k ++ [xs[k]'hk]) := List.take_succ_eq_append_getElem hk
    have hkn : k + 1 ≤ n := by have := HL.out; omega
    obtain ⟨x, hxe⟩ : ∃ x, x = xs[k]'hk := ⟨_, rfl⟩
    rw [← hxe] at HE ⊢
    obtain ⟨i0, hi, hz0, hz1, hz2⟩ := info_parts infoI
    have HI0 : Hid (Try.prog.info? 3 = some i0) := hi
    have HI1 : Hid (i0.size = 1) := hz1
    have H1 : Hid (Bk (G + 1) [.slice (some ⟨G, 0, none⟩) k n] W2) := h1
    have H2 : Hid (OwnR encI W2 G (.slice (some ⟨G, 0, none⟩) k n) (xs.take k)) := h2
    have H3 : Hid (Below w.heap.size w W2) := h3
    have HLT : Hid ((xs.take k).length = k) := by show _ = _; rw [List.length_take]; omega
    have hG2 : G + 1 < W2.heap.size := h1.1
    have c1 := h1.c 0 rfl
    have f1 := h1.f 0 rfl
    clear h1 h2 h3 hxe hs hk hi hz0 hz1 hz2
    generalize xs.take k = pre at *
    refine wpIn_block (region_round l2 _ (by rintro ⟨a, w, h⟩; rcases h with h | h <;> cases h.1) (by kernel_rfl) ?_)
    go_wp2_with (at_builtin; refine wpList_append_fits _ rfl _ _ 24 rfl G 3 i0 1 Try.underlying24 HI0.out HI1.out G k n (encI.cells pre) rfl (by have := H2.out; unfold OwnR at this; rw [HLT.out] at this; exact this.alloc _) ⟨W2.heap.size, 0, none⟩ 1 1 [.int .i64 x] rfl rfl (new_cell W2 x) (by simp [Value.oneCell']) hkn ?_; intro w4 ho hg; have hbx : Bk (G + 1) [.slice (some ⟨G, 0, none⟩) k n] w4 := (H1.out.later ((Below.refl _ _).alloc (Nat.le_refl _) _)).same hg.size (hg.block _ (by simp; omega) (fun e => by injection e with e; omega)); have e0 := hbx.c 0 rfl; have ef0 := hbx.f 0 rfl)
    have k1 : Kpt (fun k => k = G ∨ k = G + 1) W2 w4 := (Kpt.of_below ((Below.refl _ _).alloc (Nat.le_refl _) _)).trans (Kpt.grown hg fun k e => .inl (by injection e with e; exact e.symm))
    have k2 : Kpt (fun k => k = G ∨ k = G + 1) W2 (w4.setCell ⟨G + 1, 0, none⟩ (.slice (some ⟨G, 0, none⟩) (k + 1) n)) := k1.trans (Kpt.setCell _ _ _ _ (.inr rfl))
    refine .inl ⟨trivial, k2, hbx.put 0 _, ?_, Kpt.belowB H3.out k2 (fun k e => by omega)⟩
    rw [HE.out]
    have ho2 : OwnR encI w4 G (.slice (some ⟨G, 0, none⟩) (k + 1) n) (pre ++ [x]) := by
      unfold OwnR
      rw [cells_append, List.length_append, HLT.out]
      exact ho
    exact own_other ho2 (Kpt.setCell (M := fun k => k = G + 1) _ _ _ _ rfl) (by omega)
  · rintro W2 ⟨h1, h2, h3⟩ hs hd
    have c1 := h1.c 0 rfl
    have HL2 := HL.out
    have kp : Kpt (fun k => k = w3.heap.size) W2 (W2.putObj w3.heap.size (.deferred none)) := Kpt.putObj _ _ _ _ rfl
    have HF2 : Hid (Below w.heap.size w (W2.putObj w3.heap.size (.deferred none))) := Kpt.belowB h3 kp (fun k e => by omega)
    have h4 : OwnR encI (W2.putObj w3.heap.size (.deferred none)) G (.slice (some ⟨G, 0, none⟩) xs.length n) xs := by
      have := own_other h2 kp (by omega)
      rwa [List.take_length] at this
    have HN : Hid (Ints xs G (W2.putObj w3.heap.size (.deferred none))) := ints_of (by have := kp.size; omega) h4
    have HWG : Hid (w.heap.size ≤ G) := by show _ ≤ _; omega
    rw [HL2] at c1
    clear h1 h2 h3 h4 kp HL2
    go_wp2
    exact leave_mark hd (v := .tuple #[.slice (some ⟨G, 0, none⟩) n n, .int .i64 0]) (by simp [results, Try.results6, go_sem]) ⟨G, rfl, HWG.out, HEQ.out ▸ HN.out, HF2.out⟩
set_option linter.unusedVariables false in
def tiV (r : Rp) (n lo : Nat) (d : Nat) (v : Value) (w : World) : Prop :=
  match d with
  | 17 => v = rv r
  | 18 => v = rv r
  | 19 => v = .int .i64 (n : Int)
  | 20 => FnV (speedsL r n) 0 lo v w
  | 21 => FnV (timesL r (speedsL r n)) 3 lo v w
  | _ => True
set_option linter.unusedVariables false in
theorem tiV_mono (r : Rp) (n lo : Nat) (d : Nat) (v : Value) (w w' : World) (h : tiV r n lo d v w) (hb : Below w.heap.size w w') : tiV r n lo d v w' := by
  unfold tiV at h ⊢
  split <;> simp only [] at h <;> first | exact h | exact FnV.later h hb
set_option maxHeartbeats 6400000 in
set_option maxRecDepth 100000 in
theorem ticks_yes (r : Rp) (n : Nat) (w : World) (hr : rpOk r = true) (hn : n ≤ 20000) :
    Calls Try.prog 7 #[rv r, .int .i64 (n : Int)] w fun e w' => ∃ G, e = .returned (.tuple #[.slice (some ⟨G, 0, none⟩) n n, .int .i64 0]) ∧ w.heap.size ≤ G ∧ Ints (timesL r (speedsL r n)) G w' ∧ Below w.heap.size w w' := by
  have HF : Hid (∀ W, Calls Try.prog 18 #[rv r, .int .i64 (n : Int)] W fun e w' => e = .returned (.int .i64 0) ∧ Below W.heap.size W w') := fun W => (refusal_any r n W).mono fun e w' ⟨h1, h2⟩ => ⟨by rw [h1, refR_ok hr (by omega) (by omega)], h2⟩
  have HS : Hid (∀ lo W, lo ≤ W.heap.size → Calls Try.prog 19 #[rv r, .int .i64 (n : Int)] W fun e w' => ∃ v, e = .returned v ∧ FnV (speedsL r n) 0 lo v w' ∧ Below W.heap.size W w') := fun lo W h => speeds_fn r n lo W hr hn h
  have HT : Hid (∀ lo W v, lo ≤ W.heap.size → FnV (speedsL r n) 0 lo v W → Calls Try.prog 20 #[rv r, v] W fun e w' => ∃ v, e = .returned v ∧ FnV (timesL r (speedsL r n)) 3 lo v w' ∧ Below W.heap.size W w') := fun lo W v h0 h => times_fn r W hr (speedsL_pos hr hn) h0 h
  have HL : Hid ((timesL r (speedsL r n)).length = n) := by show _ = _; rw [timesL_length, speedsL_length]
  obtain ⟨cs, hcs, hmk⟩ := make_room n hn
  have HCS : Hid (cs.size = n) := hcs
  have HB0 : Hid (Below w.heap.size w (w.alloc (ro r))) := (Below.refl _ _).alloc (Nat.le_refl _) _
  have KR0 : Hid (Bk w.heap.size (rcl r) (w.alloc (ro r))) := Bk.new w (rcl r) 23 w.heap.size rfl
  clear hr hcs
  refine (callsIn_wide (n := 9)).1 (callsIn_of_wp_marks Try.func7 rfl trivial (wpIn_wide.2 ?_) rfl)
  simp only [Try.ntmps7, List.size_toArray, List.length_cons, List.length_nil, Nat.reduceAdd, Nat.reduceSub, Array.replicate_succ, Array.replicate_zero, List.push_toArray, List.append_toArray, List.nil_append, List.cons_append]
  go_wp2_with fail
  refine Calls.mono (HF.out _) ?_
  rintro e w1 ⟨rfl, hb1⟩
  have HB1 : Hid (Below w.heap.size w w1) := HB0.out.trans (hb1.mono HB0.out.size)
  have KR1 : Hid (Bk w.heap.size (rcl r) w1) := KR0.out.later hb1
  have hs1 : w.heap.size < w1.heap.size := KR1.out.1
  have r0 := KR1.out.c 0 rfl
  have r1 := KR1.out.c 1 rfl
  have r2 := KR1.out.c 2 rfl
  have r3 := KR1.out.c 3 rfl
  clear hb1
  go_wp2_with fail
  clear r0 r1 r2 r3 hmk
  obtain ⟨G, hG⟩ : ∃ G, G = w1.heap.size := ⟨_, rfl⟩
  obtain ⟨w2, hw2⟩ : ∃ x, x = (w1.alloc (.cells cs 3)).alloc (.cells #[.slice (some ⟨w1.heap.size, 0, none⟩) 0 n] 24) := ⟨_, rfl⟩
  have hs2 : w2.heap.size = w1.heap.size + 2 := by rw [hw2]; simp
  have hb2 : Below w1.heap.size w1 w2 := by rw [hw2]; exact ((Below.refl _ _).alloc (Nat.le_refl _) _).alloc (by simp) _
  have KT : Hid (Bk (G + 1) [.slice (some ⟨G, 0, none⟩) 0 n] w2) := by show Bk _ _ _; rw [hw2, hG]; exact Bk.new (w1.alloc (.cells cs 3)) [.slice (some ⟨w1.heap.size, 0, none⟩) 0 n] 24 (w1.heap.size + 1) (by simp)
  have KO : Hid (OwnR encI w2 G (.slice (some ⟨G, 0, none⟩) 0 n) []) := by
    refine ⟨by simp [encI, Enc.cells], .inr ⟨G, n, cs, rfl, Nat.le_refl _, ?_, Nat.zero_le _, by unfold maxLen; omega, by simp [encI, HCS.out], by simp [encI, Enc.cells]⟩⟩
    rw [hw2, hG]
    exact (Below.heap_alloc _ _ _ (by simp)).trans (World.alloc_heap_new w1 _)
  have KR : Hid (Bk w.heap.size (rcl r) w2) := KR1.out.later hb2
  have HB2 : Hid (Below w.heap.size w w2) := HB1.out.trans (hb2.mono HB1.out.size)
  try rw [← hw2]
  try simp only [← hG]
  have hsG : w2.heap.size = G + 2 := by omega
  have hwG : w.heap.size < G := by omega
  clear hw2 hb2 hG hs2 hs1
  rename_i KK hkk
  have HKK := (show Hid _ from hkk)
  clear hkk
  refine region_inv [false, false, false, false, false, false, false, false, false, false, false, false, false, false, false, false, false, true, true, true, true, true, false, false, false, false, false, false]
    [(17, [], none), (18, [], none), (19, [], none), (20, [18, 19], none), (21, [17, 20], none)]
    (tiV r n w2.heap.size) (by kernel_rfl) (by kernel_rfl) (tiV_mono r n w2.heap.size) ?_ ?_
  · refine ⟨?_, ?_, ?_, ?_, ?_, trivial⟩
    · intro f w1 hb _ K hK
      have q0 := cell_later hb (KR.out.c 0 rfl)
      have q1 := cell_later hb (KR.out.c 1 rfl)
      have q2 := cell_later hb (KR.out.c 2 rfl)
      have q3 := cell_later hb (KR.out.c 3 rfl)
      simp only [over, overL, Nat.reduceAdd]
      go_simp
      exact hK _ _ ⟨_, rfl, by simp only [over, overL, Nat.reduceAdd]; rfl, Below.refl _ _⟩
    · intro f w1 hb _ K hK
      have q0 := cell_later hb (KR.out.c 0 rfl)
      have q1 := cell_later hb (KR.out.c 1 rfl)
      have q2 := cell_later hb (KR.out.c 2 rfl)
      have q3 := cell_later hb (KR.out.c 3 rfl)
      simp only [over, overL, Nat.reduceAdd]
      go_simp
      exact hK _ _ ⟨_, rfl, by simp only [over, overL, Nat.reduceAdd]; rfl, Below.refl _ _⟩
    · intro f w1 hb _ K hK
      simp only [over, overL, Nat.reduceAdd]
      go_simp
      exact hK _ _ ⟨_, rfl, by simp only [over, overL, Nat.reduceAdd]; rfl, Below.refl _ _⟩
    · intro f w1 hb ⟨h18, h19, _⟩ K hK
      replace h18 : f 18 = _ := h18
      replace h19 : f 19 = _ := h19
      simp only [over, overL, Nat.reduceAdd, h18, h19]
      go_simp
      refine Calls.mono (HS.out w2.heap.size _ hb.size) ?_
      rintro e w9 ⟨v, rfl, h1, hb2⟩
      exact hK _ _ ⟨_, h1, by simp only [over, overL, Nat.reduceAdd, h18, h19]; rfl, hb2⟩
    · intro f w1 hb ⟨h17, h20, _⟩ K hK
      replace h17 : f 17 = _ := h17
      replace h20 : FnV (speedsL r n) 0 w2.heap.size (f 20) w1 := h20
      simp only [over, overL, Nat.reduceAdd, h17]
      go_simp
      refine Calls.mono (HT.out w2.heap.size _ _ hb.size h20) ?_
      rintro e w9 ⟨v, rfl, h1, hb2⟩
      exact hK _ _ ⟨_, h1, by simp only [over, overL, Nat.reduceAdd, h17]; rfl, hb2⟩
  intro f w3 hb hv
  obtain ⟨gf, lb, hfn, HG0⟩ : FnV (timesL r (speedsL r n)) 3 w2.heap.size (f 21) w3 := hv.2.2.2.2.1
  have HG : Hid (GivesAt gf lb (timesL r (speedsL r n)) 3 w2.heap.size w3) := HG0
  have KT3 : Hid (Bk (G + 1) [.slice (some ⟨G, 0, none⟩) 0 n] w3) := KT.out.later hb
  have KO3 : Hid (OwnR encI w3 G (.slice (some ⟨G, 0, none⟩) 0 n) []) := KO.out.later hb
  have HB3 : Hid (Below w.heap.size w w3) := HB2.out.trans (hb.mono HB2.out.size)
  have hs3 : w2.heap.size ≤ w3.heap.size := hb.size
  clear hv hb HG0
  obtain ⟨xs, hxs⟩ : ∃ xs, xs = timesL r (speedsL r n) := ⟨_, rfl⟩
  have HEQ : Hid (xs = timesL r (speedsL r n)) := hxs
  rw [← hxs] at HL HG
  clear hxs
  refine HKK.out _ _ ?_
  simp only [over_eq, overL, hfn, Nat.reduceAdd]
  go_wp2_with fail
  refine (wpIn_wide (n := 9)).1 (range_it (n := 9) (gf := gf) (lb := lb) rfl HG.out.1 xs (fun k => w3.heap.size + 2 ≤ k ∧ k < w3.heap.size + 2 + 3) (fun k => k = G ∨ k = G + 1) rfl ?_ (fun k e => e.1) (by omega) (by omega)
    (ApI w G (G + 1) n xs) (fun _ _ => False) ?_ (fun _ _ _ h _ => h) ⟨KT3.out, KO3.out, HB3.out⟩
    (fun x => { tmps := #[rv r, .int .i64 (n : Int), ptr w.heap.size, undef, .slice none 0 0, .int .i64 0, .int .i64 0, ptr (G + 1), .int .i64 x, rv r, .int .i64 (n : Int), .int .i64 0, .int .i64 0, .bool false, undef, .int .i64 (n : Int), .slice (some ⟨G, 0, none⟩) 0 n, f 17, f 18, f 19, f 20, .func (.func gf) #[] lb, .int .i64 x, undef, undef, undef, undef, undef], defers := [] }) .ret .ret (.inl ⟨rfl, rfl⟩) ?_ ?_ ?_ (fun _ _ _ h => h.elim))
  · intro W2 hb2 hs2
    have := HG.out.2 (9 - 1) (fun k => k = G ∨ k = G + 1) (w3.heap.size + 1) W2 hb2 (by rintro k e; omega) (by omega) (by omega)
    rw [hs2] at this
    exact this
  · rintro s A2 B2 h hk
    exact h.kpt hk (by omega) (by omega) (fun k e => by omega)
  · intro l2 x W2 K hK
    have HK : Hid _ := hK
    clear hK
    gi_wp2
    exact HK.out
  · rintro l2 k hk W2 ⟨h1, h2, h3⟩ hs
    have HE : Hid (xs.take (k + 1) = xs.take k ++ [xs[k]'hk]) := List.take_succ_eq_append_getElem hk
    have hkn : k + 1 ≤ n := by have := HL.out; omega
    obtain ⟨x, hxe⟩ : ∃ x, x = xs[k]'hk := ⟨_, rfl⟩
    rw [← hxe] at HE ⊢
    obtain ⟨i0, hi, hz0, hz1, hz2⟩ := info_parts infoI
    have HI0 : Hid (Try.prog.info? 3 = some i0) := hi
    have HI1 : Hid (i0.size = 1) := hz1
    have H1 : Hid (Bk (G + 1) [.slice (some ⟨G, 0, none⟩) k n] W2) := h1
    have H2 : Hid (OwnR encI W2 G (.slice (some ⟨G, 0, none⟩) k n) (xs.take k)) := h2
    have H3 : Hid (Below w.heap.size w W2) := h3
    have HLT : Hid ((xs.take k).length = k) := by show _ = _; rw [List.length_take]; omega
    have hG2 : G + 1 < W2.heap.size := h1.1
    have c1 := h1.c 0 rfl
    have f1 := h1.f 0 rfl
    clear h1 h2 h3 hxe hs hk hi hz0 hz1 hz2
    generalize xs.take k = pre at *
    refine wpIn_block (region_round l2 _ (by rintro ⟨a, w, h⟩; rcases h with h | h <;> cases h.1) (by kernel_rfl) ?_)
    go_wp2_with (at_builtin; refine wpList_append_fits _ rfl _ _ 24 rfl G 3 i0 1 Try.underlying24 HI0.out HI1.out G k n (encI.cells pre) rfl (by have := H2.out; unfold OwnR at this; rw [HLT.out] at this; exact this.alloc _) ⟨W2.heap.size, 0, none⟩ 1 1 [.int .i64 x] rfl rfl (new_cell W2 x) (by simp [Value.oneCell']) hkn ?_; intro w4 ho hg; have hbx : Bk (G + 1) [.slice (some ⟨G, 0, none⟩) k n] w4 := (H1.out.later ((Below.refl _ _).alloc (Nat.le_refl _) _)).same hg.size (hg.block _ (by simp; omega) (fun e => by injection e with e; omega)); have e0 := hbx.c 0 rfl; have ef0 := hbx.f 0 rfl)
    have k1 : Kpt (fun k => k = G ∨ k = G + 1) W2 w4 := (Kpt.of_below ((Below.refl _ _).alloc (Nat.le_refl _) _)).trans (Kpt.grown hg fun k e => .inl (by injection e with e; exact e.symm))
    have k2 : Kpt (fun k => k = G ∨ k = G + 1) W2 (w4.setCell ⟨G + 1, 0, none⟩ (.slice (some ⟨G, 0, none⟩) (k + 1) n)) := k1.trans (Kpt.setCell _ _ _ _ (.inr rfl))
    refine .inl ⟨trivial, k2, hbx.put 0 _, ?_, Kpt.belowB H3.out k2 (fun k e => by omega)⟩
    rw [HE.out]
    have ho2 : OwnR encI w4 G (.slice (some ⟨G, 0, none⟩) (k + 1) n) (pre ++ [x]) := by
      unfold OwnR
      rw [cells_append, List.length_append, HLT.out]
      exact ho
    exact own_other ho2 (Kpt.setCell (M := fun k => k = G + 1) _ _ _ _ rfl) (by omega)
  · rintro W2 ⟨h1, h2, h3⟩ hs hd
    have c1 := h1.c 0 rfl
    have HL2 := HL.out
    have kp : Kpt (fun k => k = w3.heap.size) W2 (W2.putObj w3.heap.size (.deferred none)) := Kpt.putObj _ _ _ _ rfl
    have HF2 : Hid (Below w.heap.size w (W2.putObj w3.heap.size (.deferred none))) := Kpt.belowB h3 kp (fun k e => by omega)
    have h4 : OwnR encI (W2.putObj w3.heap.size (.deferred none)) G (.slice (some ⟨G, 0, none⟩) xs.length n) xs := by
      have := own_other h2 kp (by omega)
      rwa [List.take_length] at this
    have HN : Hid (Ints xs G (W2.putObj w3.heap.size (.deferred none))) := ints_of (by have := kp.size; omega) h4
    have HWG : Hid (w.heap.size ≤ G) := by show _ ≤ _; omega
    rw [HL2] at c1
    clear h1 h2 h3 h4 kp HL2
    go_wp2
    exact leave_mark hd (v := .tuple #[.slice (some ⟨G, 0, none⟩) n n, .int .i64 0]) (by simp [results, Try.results7, go_sem]) ⟨G, rfl, HWG.out, HEQ.out ▸ HN.out, HF2.out⟩
end Go.Proofs.Ytfoikaneigmlcaa
