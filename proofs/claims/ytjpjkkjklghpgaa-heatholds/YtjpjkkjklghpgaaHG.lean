/- Bang walked. -/
import Derived.Test.YtjpjkkjklghpgaaHF
import Derived.Test.YtjpjkkjklghpgaaHD
import Derived.OwnWalk
import Derived.Laws.MakeOwn
namespace Go.Proofs.Ytjpjkkjklghpgaa
open Go.RowKit

attribute [local go_sem] Oper.semAt_some
/-- Numbers as elements. -/
def encI : Enc Int := ⟨3, 1, fun x => [.int .i64 x]⟩
theorem goodI : Good encI := ⟨fun _ => rfl, fun x u hu => by simp [encI] at hu; subst hu; rfl⟩
theorem infoI : (Try.prog.info? 3).map (fun i => (i.zero, i.size, i.bytes)) = some (some (.int .i64 0), 1, 8) := by kernel_rfl
theorem new_cell (W : World) (x : Int) (j : Nat) (u : Value) (hu : [Value.int .i64 x][j]? = some u) : (W.alloc (.cells #[.int .i64 x] 3)).cell? ((⟨W.heap.size, 0, none⟩ : Addr).add j) = some u := by
  have hj := (List.getElem?_eq_some_iff.1 hu).1
  have : j = 0 := by simpa using hj
  subst this
  have h2 : u = .int .i64 x := by simpa using hu.symm
  subst h2
  simp [Addr.add, go_sem]
/-- A made slice, empty, with room. -/
theorem make_room (n : Nat) (hn : n ≤ 20000) : ∃ cs : Array Value, cs.size = n ∧ ∀ W : World, (Instr.makeSlice 28 (.int .i64 0) (.int .i64 (n : Int))).run Try.prog W = .ok (.slice (some ⟨W.heap.size, 0, none⟩) 0 n) (W.alloc (.cells cs 3)) := by
  obtain ⟨i0, hi, hz0, hz1, hz2⟩ := info_parts infoI
  refine ⟨madeCells (Value.int .i64 0).cells (n * 1), by simp [size_madeCells], fun W => ?_⟩
  have := run_make (P := Try.prog) W 28 3 i0 (.int .i64 0) Try.underlying28 hi hz0 .i64 .i64 0 n (Int.le_refl _) (by omega) (by rw [hz2]; omega) (by omega)
  rw [hz1] at this
  simpa using this
/-- Between two rounds that append. -/
structure ApI (w : World) (G T n : Nat) (xs : List Int) (k : Nat) (W : World) : Prop where
  box : Bk T [.slice (some ⟨G, 0, none⟩) k n] W
  own : OwnR encI W G (.slice (some ⟨G, 0, none⟩) k n) (xs.take k)
  below : Below w.heap.size w W
theorem ApI.kpt {w : World} {G T n : Nat} {xs : List Int} {k : Nat} {A B : World} {M : Nat → Prop} (h : ApI w G T n xs k A) (hk : Kpt M A B) (hG : ¬ M G) (hT : ¬ M T) (hM : ∀ k, M k → w.heap.size ≤ k) : ApI w G T n xs k B := by
  obtain ⟨h1, h2, h3⟩ := h
  refine ⟨bk_kpt h1 hk hT, ?_, Kpt.belowB h3 hk hM⟩
  obtain ⟨q1, q2⟩ := h2
  refine ⟨q1, q2.imp id ?_⟩
  rintro ⟨g, cap, cur, e, hg, hh, r⟩
  have eg : g = G := by injection e with e; injection e with e; injection e with e; exact e.symm
  subst eg
  exact ⟨g, cap, cur, e, hg, (hk.block g (Array.getElem?_eq_some_iff.1 hh).1 hG).trans hh, r⟩
/-- The numbers can be read. -/
def Ints (xs : List Int) (G : Nat) (w : World) : Prop := G < w.heap.size ∧ ∀ k (h : k < xs.length), w.cell? ⟨G, k, none⟩ = some (.int .i64 (xs[k]'h))
theorem Ints.later {xs : List Int} {G : Nat} {w w1 : World} (h : Ints xs G w) (hb : Below w.heap.size w w1) : Ints xs G w1 := ⟨Nat.lt_of_lt_of_le h.1 hb.size, fun k hk => cell_later hb (h.2 k hk)⟩
theorem RdI.of_ints {w : World} {xs : List Int} {G : Nat} (h : Ints xs G w) : RdI w (some ⟨G, 0, none⟩) xs := .inr ⟨G, 0, rfl, h.1, fun k hk => by rw [Nat.zero_add]; exact h.2 k hk⟩
theorem ints_of {xs : List Int} {G n B : Nat} {w : World} (hG : G < w.heap.size) (h : OwnR encI w B (.slice (some ⟨G, 0, none⟩) xs.length n) xs) : Ints xs G w := by
  refine ⟨hG, fun k hk => ?_⟩
  rcases h.read goodI with ⟨rfl, _⟩ | ⟨g, cap, e, _, _, _, hc⟩
  · simp at hk
  · have eg : g = G := by injection e with e; injection e with e; injection e with e; exact e.symm
    subst eg
    have := hc k hk 0 (by decide)
    simpa [encI] using this
theorem own_other {w w1 : World} {G n k : Nat} {xs : List Int} {M : Nat → Prop} (h : OwnR encI w G (.slice (some ⟨G, 0, none⟩) k n) xs) (hk : Kpt M w w1) (hG : ¬ M G) : OwnR encI w1 G (.slice (some ⟨G, 0, none⟩) k n) xs := by
  obtain ⟨q1, q2⟩ := h
  refine ⟨q1, q2.imp id ?_⟩
  rintro ⟨g, cap, cur, e, hg, hh, r⟩
  have eg : g = G := by injection e with e; injection e with e; injection e with e; exact e.symm
  subst eg
  exact ⟨g, cap, cur, e, hg, (hk.block g (Array.getElem?_eq_some_iff.1 hh).1 hG).trans hh, r⟩
/-- Where a slice of numbers is returned with an error. -/
abbrev sl2 (v : Value) (e : Int) : Value := .tuple #[v, .int .i64 e]
set_option maxHeartbeats 6400000 in
set_option maxRecDepth 100000 in
theorem bang_yes (h : Ht) (t g b : Int) (n : Nat) (w : World) (hok : htOk h = true) (t0 : 0 ≤ t) (t1 : t ≤ 1000000) (g0 : 0 ≤ g) (g1 : g ≤ 1000000) (b0 : 0 ≤ b) (b1 : b ≤ 100000) (hn : n ≤ 5000) :
    Calls Try.prog 10 #[hv h, .int .i64 t, .int .i64 g, .int .i64 b, .int .i64 (n : Int)] w fun e w' => ∃ G, e = .returned (sl2 (.slice (some ⟨G, 0, none⟩) n n) 0) ∧ w.heap.size ≤ G ∧ Ints (heatsL h (g - b) (g + b) t n) G w' ∧ Below w.heap.size w w' := by
  have HF : Hid (∀ (W : World) q, q = W.heap.size → Calls Try.prog 20 #[hv h, .slice (some ⟨q, 0, none⟩) 2 2] (W.alloc (.cells #[.int .i64 t, .int .i64 g] 3)) fun e w' => e = .returned (.int .i64 0) ∧ Below W.heap.size W w') := fun W q hq => (ref2 h t g W q hq).mono fun e w' ⟨q1, q2⟩ => ⟨by rw [q1, inR_yes t0 t1, inR_yes g0 g1]; exact congrArg _ (congrArg _ (refH_ok hok)), q2⟩
  have HU1 : Hid (∀ (W : World) q, q = W.heap.size → Calls Try.prog 24 #[.int .i64 100000, .slice (some ⟨q, 0, none⟩) 1 1] (W.alloc (.cells #[.int .i64 b] 3)) fun e w' => e = .returned (.bool true) ∧ w' = W.alloc (.cells #[.int .i64 b] 3)) := fun W q hq => (upA 100000 b W q hq).mono fun e w' ⟨q1, q2⟩ => ⟨by rw [q1, inR_yes b0 b1], q2⟩
  have HU2 : Hid (∀ (W : World) q, q = W.heap.size → Calls Try.prog 24 #[.int .i64 5000, .slice (some ⟨q, 0, none⟩) 1 1] (W.alloc (.cells #[.int .i64 (n : Int)] 3)) fun e w' => e = .returned (.bool true) ∧ w' = W.alloc (.cells #[.int .i64 (n : Int)] 3)) := fun W q hq => (upA 5000 n W q hq).mono fun e w' ⟨q1, q2⟩ => ⟨by rw [q1, inR_yes (by omega) (by omega)], q2⟩
  have HA : Hid (∀ W, Calls Try.prog 25 #[hv h, .int .i64 t, .int .i64 g, .int .i64 b] W fun e w' => e = .returned (ptr (W.heap.size + 1)) ∧ w' = (W.alloc (ho h)).alloc (wko h (g - b) (g + b) (t, false))) := fun W => atWork_any h t g b W g0 g1 b0 b1
  have HTI : Hid (∀ B W, Calls Try.prog 26 #[ptr B, .int .i64 (n : Int)] W fun e w' => e = .returned (tiC (W.heap.size + 1) W.heap.size) ∧ w' = (W.alloc (.cells #[ptr B] 49)).alloc (io n)) := fun B W => ticks_any B n W
  have HG : Hid (∀ N0 T P B l M W, Bk T [.int .i64 n] W → Bk P [ptr B] W → Bk B (wkc h (g - b) (g + b) (t, false)) W → ¬ ((M T ∨ T = l) ∨ T = B) → ¬ ((M P ∨ P = l) ∨ P = B) → ¬ (M B ∨ B = l) →
    GivesS Try.prog N0 30 #[ptr T, ptr P] (heatsL h (g - b) (g + b) t n) (fun k w => Bk B (wkc h (g - b) (g + b) (stN h (g - b) (g + b) t k)) w) (fun k => k = B) M l W) := fun N0 T P B l M W q1 q2 q3 q4 q5 q6 => ticks_gives N0 h (g - b) (g + b) t n T P B l M W hok t0 t1 (by omega) q1 q2 q3 q4 q5 q6
  have HL : Hid ((heatsL h (g - b) (g + b) t n).length = n) := heatsL_length _ _ _ _ _
  obtain ⟨cs, hcs, hmk⟩ := make_room n (by omega)
  have HCS : Hid (cs.size = n) := hcs
  have HB0 : Hid (Below w.heap.size w (w.alloc (ho h))) := (Below.refl _ _).alloc (Nat.le_refl _) _
  have KR0 : Hid (Bk w.heap.size (hcl h) (w.alloc (ho h))) := Bk.new w (hcl h) 23 w.heap.size rfl
  clear hok hcs t0 t1 g0 g1 b0 b1
  refine (callsIn_wide (n := 9)).1 (callsIn_of_wp_marks Try.func10 rfl trivial (wpIn_wide.2 ?_) rfl)
  simp only [Try.ntmps10, List.size_toArray, List.length_cons, List.length_nil, Nat.reduceAdd, Nat.reduceSub, Array.replicate_succ, Array.replicate_zero, List.push_toArray, List.append_toArray, List.nil_append, List.cons_append]
  go_wp2_with fail
  refine Calls.mono (HF.out _ _ (by simp)) ?_
  rintro e w1 ⟨rfl, hb1⟩
  have HB1 : Hid (Below w.heap.size w w1) := HB0.out.trans (hb1.mono HB0.out.size)
  have KR1 : Hid (Bk w.heap.size (hcl h) w1) := KR0.out.later hb1
  have hs1 : w.heap.size < w1.heap.size := KR1.out.1
  clear hb1
  go_wp2_with fail
  refine Calls.mono (HU1.out _ _ rfl) ?_
  rintro e w2 ⟨rfl, rfl⟩
  go_wp2_with fail
  refine Calls.mono (HU2.out _ _ (by simp)) ?_
  rintro e w2 ⟨rfl, rfl⟩
  obtain ⟨w2, hw2⟩ : ∃ x, x = (w1.alloc (.cells #[.int .i64 b] 3)).alloc (.cells #[.int .i64 (n : Int)] 3) := ⟨_, rfl⟩
  have hb2 : Below w1.heap.size w1 w2 := by rw [hw2]; exact below_two _ _ _
  have HB2 : Hid (Below w.heap.size w w2) := HB1.out.trans (hb2.mono HB1.out.size)
  have KR2 : Hid (Bk w.heap.size (hcl h) w2) := KR1.out.later hb2
  try rw [← hw2]
  clear hw2 hb2 hs1
  have r0 := KR2.out.c 0 rfl
  have r1 := KR2.out.c 1 rfl
  have r2 := KR2.out.c 2 rfl
  have r3 := KR2.out.c 3 rfl
  go_wp2_with fail
  refine Calls.mono (HA.out _) ?_
  rintro e w3 ⟨rfl, rfl⟩
  clear r0 r1 r2 r3
  go_wp2_with fail
  clear hmk
  obtain ⟨w3, hw3⟩ : ∃ x, x = (((w2.alloc (ho h)).alloc (wko h (g - b) (g + b) (t, false))).alloc (.cells cs 3)).alloc (.cells #[.slice (some ⟨w2.heap.size + 1 + 1, 0, none⟩) 0 n] 28) := ⟨_, rfl⟩
  have hb3 : Below w2.heap.size w2 w3 := by rw [hw3]; exact below_four _ _ _ _ _
  have hs3 : w3.heap.size = w2.heap.size + 4 := by rw [hw3]; simp
  have KB3 : Hid (Bk (w2.heap.size + 1) (wkc h (g - b) (g + b) (t, false)) w3) := by
    show Bk _ _ _
    rw [hw3]
    exact (Bk.new (w2.alloc (ho h)) (wkc h (g - b) (g + b) (t, false)) 57 (w2.heap.size + 1) (by simp)).later (below_two _ _ _)
  have KT3 : Hid (Bk (w2.heap.size + 1 + 1 + 1) [.slice (some ⟨w2.heap.size + 1 + 1, 0, none⟩) 0 n] w3) := by
    show Bk _ _ _
    rw [hw3]
    exact Bk.new (((w2.alloc (ho h)).alloc (wko h (g - b) (g + b) (t, false))).alloc (.cells cs 3)) [.slice (some ⟨w2.heap.size + 1 + 1, 0, none⟩) 0 n] 28 (w2.heap.size + 1 + 1 + 1) (by simp)
  have KO3 : Hid (OwnR encI w3 (w2.heap.size + 1 + 1) (.slice (some ⟨w2.heap.size + 1 + 1, 0, none⟩) 0 n) []) := by
    refine ⟨by simp [encI, Enc.cells], .inr ⟨w2.heap.size + 1 + 1, n, cs, rfl, Nat.le_refl _, ?_, Nat.zero_le _, by unfold maxLen; omega, by simp [encI, HCS.out], by simp [encI, Enc.cells]⟩⟩
    rw [hw3]
    refine (Below.heap_alloc _ _ _ (by simp)).trans ?_
    have := World.alloc_heap_new ((w2.alloc (ho h)).alloc (wko h (g - b) (g + b) (t, false))) (.cells cs 3)
    simpa [encI] using this
  have HB3 : Hid (Below w.heap.size w w3) := HB2.out.trans (hb3.mono HB2.out.size)
  have hw0 : w.heap.size ≤ w2.heap.size := HB2.out.size
  try rw [← hw3]
  clear hw3 hb3
  obtain ⟨B, hB⟩ : ∃ B, B = w2.heap.size + 1 := ⟨_, rfl⟩
  simp only [← hB] at KB3 KT3 KO3 ⊢
  obtain ⟨G, hG⟩ : ∃ G, G = B + 1 := ⟨_, rfl⟩
  simp only [← hG] at KT3 KO3 ⊢
  obtain ⟨D, hD⟩ : ∃ D, D = G + 1 := ⟨_, rfl⟩
  simp only [← hD] at KT3 ⊢
  have o1 : w.heap.size < B := by omega
  have o2 : B < G := by omega
  have o3 : G < D := by omega
  have o4 : D < w3.heap.size := by omega
  clear hB hG hD hs3 hw0
  refine Calls.mono (HTI.out _ _) ?_
  rintro e w4 ⟨rfl, hw4⟩
  have hb4 : Below w3.heap.size w3 w4 := by rw [hw4]; exact below_two _ _ _
  have hs4 : w4.heap.size = w3.heap.size + 2 := by rw [hw4]; simp
  have KP4 : Hid (Bk w3.heap.size [ptr B] w4) := by
    show Bk _ _ _
    rw [hw4]
    exact (Bk.new w3 [ptr B] 49 w3.heap.size rfl).later ((Below.refl _ _).alloc (Nat.le_refl _) _)
  have KN4 : Hid (Bk (w3.heap.size + 1) [.int .i64 (n : Int)] w4) := by
    show Bk _ _ _
    rw [hw4]
    exact Bk.new (w3.alloc (.cells #[ptr B] 49)) [.int .i64 (n : Int)] 3 (w3.heap.size + 1) (by simp)
  have KB4 : Hid (Bk B (wkc h (g - b) (g + b) (t, false)) w4) := KB3.out.later hb4
  have KT4 : Hid (Bk D [.slice (some ⟨G, 0, none⟩) 0 n] w4) := KT3.out.later hb4
  have KO4 : Hid (OwnR encI w4 G (.slice (some ⟨G, 0, none⟩) 0 n) []) := KO3.out.later hb4
  have HB4 : Hid (Below w.heap.size w w4) := HB3.out.trans (hb4.mono HB3.out.size)
  obtain ⟨P, hP⟩ : ∃ P, P = w3.heap.size := ⟨_, rfl⟩
  have e4 : w4.heap.size = P + 2 := by omega
  rw [← hP] at KP4 KN4
  simp only [tiC, ← hP]
  have o5 : D < P := by omega
  clear hw4 hb4 hs4 KB3 KT3 KO3 HB3 o4 hP
  obtain ⟨xs, hxs⟩ : ∃ xs, xs = heatsL h (g - b) (g + b) t n := ⟨_, rfl⟩
  have HEQ : Hid (xs = heatsL h (g - b) (g + b) t n) := hxs
  rw [← hxs] at HL HG
  clear hxs
  go_wp2_with fail
  refine (wpIn_wide (n := 9)).1 (range_itS (n := 9) (gf := 30) (lb := #[ptr (P + 1), ptr P]) rfl en30 xs (fun k w => Bk B (wkc h (g - b) (g + b) (stN h (g - b) (g + b) t k)) w) (fun k => k = B) (fun k => k = G ∨ k = D) ?_ rfl ?_ (fun k e => by omega) (by omega) (by omega)
    (ApI w G D n xs) (fun _ _ => False) ?_ (fun _ _ _ h _ => h) ⟨KT4.out, KO4.out, HB4.out⟩
    (fun x => { tmps := #[hv h, .int .i64 t, .int .i64 g, .int .i64 b, .int .i64 (n : Int), ptr w.heap.size, undef, undef, undef, undef, .slice none 0 0, .int .i64 0, .int .i64 0, ptr B, ptr D, .int .i64 x, hv h, .int .i64 t, .int .i64 g,
      .slice (some ⟨w.heap.size + 1, 0, none⟩) 2 2, .int .i64 0, .int .i64 0, .bool false, undef, .int .i64 b, .slice (some ⟨w1.heap.size, 0, none⟩) 1 1, .bool true, .bool false, .bool false, .int .i64 (n : Int), .slice (some ⟨w1.heap.size + 1, 0, none⟩) 1 1, .bool true, .bool false, .bool false,
      hv h, .int .i64 t, .int .i64 g, .int .i64 b, ptr B, .int .i64 (n : Int), .slice (some ⟨G, 0, none⟩) 0 n, ptr B, .int .i64 (n : Int), .func (.func 30) #[] #[ptr (P + 1), ptr P], .int .i64 x, undef, undef, undef, undef, undef], defers := [] }) .ret .ret (.inl ⟨rfl, rfl⟩) ?_ ?_ ?_ (fun _ _ _ h => h.elim))
  · rintro s A2 B2 h2 hk
    exact bk_kpt h2 hk (by omega)
  · intro W2 hb2 hs2
    exact HG.out (9 - 1) (P + 1) P B (w4.heap.size + 1) (fun k => k = G ∨ k = D) W2 (KN4.out.later hb2) (KP4.out.later hb2) (KB4.out.later hb2) (by omega) (by omega) (by omega)
  · rintro s A2 B2 h2 hk
    exact h2.kpt hk (by omega) (by omega) (fun k e => by omega)
  · intro l2 x W2 K hK
    have HK : Hid _ := hK
    clear hK
    gi_wp2
    exact HK.out
  · rintro l2 k hk W2 ⟨h1, h2, h3⟩ hS hs
    have HE : Hid (xs.take (k + 1) = xs.take k ++ [xs[k]'hk]) := List.take_succ_eq_append_getElem hk
    have hkn : k + 1 ≤ n := by have := HL.out; omega
    obtain ⟨x, hxe⟩ : ∃ x, x = xs[k]'hk := ⟨_, rfl⟩
    rw [← hxe] at HE ⊢
    obtain ⟨i0, hi, hz0, hz1, hz2⟩ := info_parts infoI
    have HI0 : Hid (Try.prog.info? 3 = some i0) := hi
    have HI1 : Hid (i0.size = 1) := hz1
    have H1 : Hid (Bk D [.slice (some ⟨G, 0, none⟩) k n] W2) := h1
    have H2 : Hid (OwnR encI W2 G (.slice (some ⟨G, 0, none⟩) k n) (xs.take k)) := h2
    have H3 : Hid (Below w.heap.size w W2) := h3
    have HLT : Hid ((xs.take k).length = k) := by show _ = _; rw [List.length_take]; omega
    have hD2 : D < W2.heap.size := h1.1
    have c1 := h1.c 0 rfl
    have f1 := h1.f 0 rfl
    clear h1 h2 h3 hxe hs hk hi hz0 hz1 hz2 hS
    generalize xs.take k = pre at *
    refine wpIn_block (region_round l2 _ (by rintro ⟨a, w, h⟩; rcases h with h | h <;> cases h.1) (by kernel_rfl) ?_)
    go_wp2_with (at_builtin; refine wpList_append_fits _ rfl _ _ 28 rfl G 3 i0 1 Try.underlying28 HI0.out HI1.out G k n (encI.cells pre) rfl (by have := H2.out; unfold OwnR at this; rw [HLT.out] at this; exact this.alloc _) ⟨W2.heap.size, 0, none⟩ 1 1 [.int .i64 x] rfl rfl (new_cell W2 x) (by simp [Value.oneCell']) hkn ?_; intro w5 ho hg; have hbx : Bk D [.slice (some ⟨G, 0, none⟩) k n] w5 := (H1.out.later ((Below.refl _ _).alloc (Nat.le_refl _) _)).same hg.size (hg.block _ (by simp; omega) (fun e => by injection e with e; omega)); have e0 := hbx.c 0 rfl; have ef0 := hbx.f 0 rfl)
    have k1 : Kpt (fun k => k = G ∨ k = D) W2 w5 := (Kpt.of_below ((Below.refl _ _).alloc (Nat.le_refl _) _)).trans (Kpt.grown hg fun k e => .inl (by injection e with e; exact e.symm))
    have k2 : Kpt (fun k => k = G ∨ k = D) W2 (w5.setCell ⟨D, 0, none⟩ (.slice (some ⟨G, 0, none⟩) (k + 1) n)) := k1.trans (Kpt.setCell _ _ _ _ (.inr rfl))
    refine .inl ⟨trivial, k2, hbx.put 0 _, ?_, Kpt.belowB H3.out k2 (fun k e => by omega)⟩
    rw [HE.out]
    have ho2 : OwnR encI w5 G (.slice (some ⟨G, 0, none⟩) (k + 1) n) (pre ++ [x]) := by
      unfold OwnR
      rw [cells_append, List.length_append, HLT.out]
      exact ho
    exact own_other ho2 (Kpt.setCell (M := fun k => k = D) _ _ _ _ rfl) (by omega)
  · rintro W2 ⟨h1, h2, h3⟩ hS hs hd
    have c1 := h1.c 0 rfl
    have HL2 := HL.out
    have kp : Kpt (fun k => k = w4.heap.size) W2 (W2.putObj w4.heap.size (.deferred none)) := Kpt.putObj _ _ _ _ rfl
    have HF2 : Hid (Below w.heap.size w (W2.putObj w4.heap.size (.deferred none))) := Kpt.belowB h3 kp (fun k e => by omega)
    have h4 : OwnR encI (W2.putObj w4.heap.size (.deferred none)) G (.slice (some ⟨G, 0, none⟩) xs.length n) xs := by
      have := own_other h2 kp (by omega)
      rwa [List.take_length] at this
    have HN : Hid (Ints xs G (W2.putObj w4.heap.size (.deferred none))) := ints_of (by have := kp.size; omega) h4
    have HWG : Hid (w.heap.size ≤ G) := by show _ ≤ _; omega
    rw [HL2] at c1
    clear h1 h2 h3 h4 kp HL2 hS
    go_wp2
    exact leave_mark hd (v := .tuple #[.slice (some ⟨G, 0, none⟩) n n, .int .i64 0]) (by simp [results, Try.results10, go_sem]) ⟨G, rfl, HWG.out, HEQ.out ▸ HN.out, HF2.out⟩
end Go.Proofs.Ytjpjkkjklghpgaa
