/- Hold walked. -/
import Derived.Test.YtjpjkkjklghpgaaSeqX
import Derived.Test.YtjpjkkjklghpgaaHG
namespace Go.Proofs.Ytjpjkkjklghpgaa
open Go.RowKit

attribute [local go_sem] Oper.semAt_some
theorem Kpt.drew {M : Nat → Prop} {w w' : World} (h : Kpt M w w') : Kpt M w w'.drew := ⟨h.os, h.tape, h.output, h.size, h.block⟩
theorem Bk.drew {b : Nat} {cs : List Value} {w : World} (h : Bk b cs w) : Bk b cs w.drew := h.later ⟨rfl, rfl, rfl, Nat.le_refl _, fun _ _ => rfl⟩
set_option linter.unusedVariables false in
/-- What the operations hold that store the three results. -/
def hoV (u x e : Int) (B X Z : Nat) (i : Nat) (l : List Value) (w : World) : Prop :=
  match i, l with
  | 0, [v] => v = .int .i64 u
  | 1, [v] => v = ptr B
  | 2, [v] => v = ptr B
  | 3, [v] => v = .pointer (some ⟨B, 4, none⟩)
  | 4, [v] => v = .int .i64 x
  | 6, [] => Bk X [.int .i64 x] w
  | 7, [] => Bk Z [.int .i64 e] w
  | _, _ => True
theorem hoV_other {u x e : Int} {B X Z i U : Nat} {l : List Value} {w : World} (h : hoV u x e B X Z i l w) (hX : X ≠ U) (hZ : Z ≠ U) (k : Nat) (v : Value) : hoV u x e B X Z i l (w.setCell ⟨U, k, none⟩ v) := by
  unfold hoV at h ⊢
  split <;> simp only [] at h <;> first | exact h | exact Bk.other h hX k v | exact Bk.other h hZ k v
theorem hoV_x {u x e : Int} {B X Z i : Nat} {l : List Value} {w : World} (h : hoV u x e B X Z i l w) (hZ : Z ≠ X) : hoV u x e B X Z i l (w.setCell ⟨X, 0, none⟩ (.int .i64 x)) := by
  unfold hoV at h ⊢
  split <;> simp only [] at h <;> first | exact h | exact Bk.other h hZ 0 _ | exact Bk.put h 0 _
theorem hoV_z {u x e : Int} {B X Z i : Nat} {l : List Value} {w : World} (h : hoV u x e B X Z i l w) (hX : X ≠ Z) : hoV u x e B X Z i l (w.setCell ⟨Z, 0, none⟩ (.int .i64 e)) := by
  unfold hoV at h ⊢
  split <;> simp only [] at h <;> first | exact h | exact Bk.other h hX 0 _ | exact Bk.put h 0 _
/-- How a hold ends. -/
def HoldIs (h : Ht) (lo hi t : Int) (need most : Nat) (u x e : Int) : Prop :=
  (∃ k, 1 ≤ k ∧ k ≤ most ∧ HeldAt h lo hi t need k ∧ u = (k : Int) ∧ x = (stN h lo hi t k).1 ∧ e = 0) ∨ (NotBy h lo hi t need most ∧ u = (most : Int) ∧ x = (stN h lo hi t most).1 ∧ e = 18)
abbrev three (u x e : Int) : Value := .tuple #[.int .i64 u, .int .i64 x, .int .i64 e]
/-- Between two rounds of a hold. -/
structure HoI (h : Ht) (lo hi t : Int) (need : Nat) (w : World) (U X Z C V N B : Nat) (k : Nat) (W : World) : Prop where
  u : Bk U [.int .i64 (k : Int)] W
  x : Bk X [.int .i64 0] W
  z : Bk Z [.int .i64 0] W
  c : Bk C [.int .i64 (runN h lo hi t k : Int)] W
  v : Bk V [ptr B] W
  n : Bk N [.int .i64 (need : Int)] W
  not : NotBy h lo hi t need k
  below : Below w.heap.size w W
/-- Behind a hold. -/
structure HoX (h : Ht) (lo hi t : Int) (need : Nat) (w : World) (U X Z : Nat) (k : Nat) (W : World) : Prop where
  u : Bk U [.int .i64 (k : Int)] W
  x : Bk X [.int .i64 (stN h lo hi t k).1] W
  z : Bk Z [.int .i64 0] W
  held : HeldAt h lo hi t need k
  below : Below w.heap.size w W
theorem results_ccc {fn : Func} {a b c : Tmp} {s t r : TypeId} (h : fn.results = #[.cell a s, .cell b t, .cell c r]) (tmps : Array Value) (P : Program) (w : World) {A B C : Addr} {x y z : Value} (ha : tmps.getD a undef = .pointer (some A)) (hb : tmps.getD b undef = .pointer (some B)) (hc : tmps.getD c undef = .pointer (some C))
    (la : (loadVar s A).run P w = .ok x w) (lb : (loadVar t B).run P w = .ok y w) (lc : (loadVar r C).run P w = .ok z w) : (results fn tmps).run P w = .ok (.tuple #[x, y, z]) w := by
  rw [Array.getD_eq_getD_getElem?] at ha hb hc
  simp [results, h, ha, hb, hc, la, lb, lc, asAddr]
theorem load_int {b : Nat} {x : Int} {w : World} (h : Bk b [.int .i64 x] w) : (loadVar 3 ⟨b, 0, none⟩).run Try.prog w = .ok (.int .i64 x) w := by
  have := h.c 0 rfl
  simp [go_sem, this]
theorem load_err {b : Nat} {x : Int} {w : World} (h : Bk b [.int .i64 x] w) : (loadVar 24 ⟨b, 0, none⟩).run Try.prog w = .ok (.int .i64 x) w := by
  have := h.c 0 rfl
  simp [go_sem, this]
set_option maxHeartbeats 6400000 in
set_option maxRecDepth 100000 in
theorem hold_yes (h : Ht) (t g b : Int) (need most : Nat) (w : World) (hok : htOk h = true) (t0 : 0 ≤ t) (t1 : t ≤ 1000000) (g0 : 0 ≤ g) (g1 : g ≤ 1000000) (b0 : 0 ≤ b) (b1 : b ≤ 100000) (hn0 : 1 ≤ need) (hn : need ≤ 100000) (hm : most ≤ 100000) :
    Calls Try.prog 17 #[hv h, .int .i64 t, .int .i64 g, .int .i64 b, .int .i64 (need : Int), .int .i64 (most : Int)] w fun e w' => ∃ u x er, e = .returned (three u x er) ∧ HoldIs h (g - b) (g + b) t need most u x er ∧ Below w.heap.size w w' := by
  have HF : Hid (∀ (W : World) q, q = W.heap.size → Calls Try.prog 20 #[hv h, .slice (some ⟨q, 0, none⟩) 2 2] (W.alloc (.cells #[.int .i64 t, .int .i64 g] 3)) fun e w' => e = .returned (.int .i64 0) ∧ Below W.heap.size W w') := fun W q hq => (ref2 h t g W q hq).mono fun e w' ⟨q1, q2⟩ => ⟨by rw [q1, inR_yes t0 t1, inR_yes g0 g1]; exact congrArg _ (congrArg _ (refH_ok hok)), q2⟩
  have HU1 : Hid (∀ (W : World) q, q = W.heap.size → Calls Try.prog 24 #[.int .i64 100000, .slice (some ⟨q, 0, none⟩) 3 3] (W.alloc (.cells #[.int .i64 b, .int .i64 (need : Int), .int .i64 (most : Int)] 3)) fun e w' => e = .returned (.bool true) ∧ w' = W.alloc (.cells #[.int .i64 b, .int .i64 (need : Int), .int .i64 (most : Int)] 3)) := fun W q hq => (upC 100000 b need most W q hq).mono fun e w' ⟨q1, q2⟩ => ⟨by rw [q1, inR_yes b0 b1, inR_yes (by omega) (by omega), inR_yes (by omega) (by omega)]; rfl, q2⟩
  have HA : Hid (∀ W, Calls Try.prog 25 #[hv h, .int .i64 t, .int .i64 g, .int .i64 b] W fun e w' => e = .returned (ptr (W.heap.size + 1)) ∧ w' = (W.alloc (ho h)).alloc (wko h (g - b) (g + b) (t, false))) := fun W => atWork_any h t g b W g0 g1 b0 b1
  have HTI : Hid (∀ B W, Calls Try.prog 26 #[ptr B, .int .i64 (most : Int)] W fun e w' => e = .returned (tiC (W.heap.size + 1) W.heap.size) ∧ w' = (W.alloc (.cells #[ptr B] 49)).alloc (io most)) := fun B W => ticks_any B most W
  obtain ⟨lo, hlo⟩ : ∃ x, x = g - b := ⟨_, rfl⟩
  obtain ⟨hi, hhi⟩ : ∃ x, x = g + b := ⟨_, rfl⟩
  rw [← hlo, ← hhi] at HA ⊢
  have HG : Hid (∀ N0 T P B l M W, Bk T [.int .i64 most] W → Bk P [ptr B] W → Bk B (wkc h lo hi (t, false)) W → ¬ ((M T ∨ T = l) ∨ T = B) → ¬ ((M P ∨ P = l) ∨ P = B) → ¬ (M B ∨ B = l) →
    GivesS Try.prog N0 30 #[ptr T, ptr P] (heatsL h lo hi t most) (fun k w => Bk B (wkc h lo hi (stN h lo hi t k)) w) (fun k => k = B) M l W) := fun N0 T P B l M W q1 q2 q3 q4 q5 q6 => ticks_gives N0 h lo hi t most T P B l M W hok t0 t1 hm q1 q2 q3 q4 q5 q6
  have HL : Hid ((heatsL h lo hi t most).length = most) := heatsL_length _ _ _ _ _
  clear hlo hhi
  obtain ⟨w0, hw0⟩ : ∃ x, x = ((((w.alloc (ho h)).alloc (io need)).alloc (io 0)).alloc (io 0)).alloc (.cells #[.int .i64 0] 24) := ⟨_, rfl⟩
  have hb0 : Below w.heap.size w w0 := by rw [hw0]; exact (below_four _ _ _ _ _).alloc (by simp; omega) _
  have HB0 : Hid (Below w.heap.size w w0) := hb0
  have KA : Hid (Bk w.heap.size (hcl h) w0) := by show Bk _ _ _; rw [hw0]; exact (Bk.new w (hcl h) 23 w.heap.size rfl).later (below_four _ _ _ _ _)
  have KN : Hid (Bk (w.heap.size + 1) [.int .i64 (need : Int)] w0) := by show Bk _ _ _; rw [hw0]; exact (Bk.new (w.alloc (ho h)) [.int .i64 (need : Int)] 3 (w.heap.size + 1) (by simp)).later (below_three _ _ _ _)
  have KU : Hid (Bk (w.heap.size + 1 + 1) [.int .i64 0] w0) := by show Bk _ _ _; rw [hw0]; exact (Bk.new ((w.alloc (ho h)).alloc (io need)) [.int .i64 0] 3 (w.heap.size + 1 + 1) (by simp)).later (below_two _ _ _)
  have KX : Hid (Bk (w.heap.size + 1 + 1 + 1) [.int .i64 0] w0) := by show Bk _ _ _; rw [hw0]; exact (Bk.new (((w.alloc (ho h)).alloc (io need)).alloc (io 0)) [.int .i64 0] 3 (w.heap.size + 1 + 1 + 1) (by simp)).later ((Below.refl _ _).alloc (Nat.le_refl _) _)
  have KZ : Hid (Bk (w.heap.size + 1 + 1 + 1 + 1) [.int .i64 0] w0) := by show Bk _ _ _; rw [hw0]; exact Bk.new ((((w.alloc (ho h)).alloc (io need)).alloc (io 0)).alloc (io 0)) [.int .i64 0] 24 (w.heap.size + 1 + 1 + 1 + 1) (by simp)
  have hs0 : w0.heap.size = w.heap.size + 5 := by rw [hw0]; simp
  clear hok t0 t1 g0 g1 b0 b1 hb0
  refine (callsIn_wide (n := 9)).1 (callsIn_of_wp_marks Try.func17 rfl trivial (wpIn_wide.2 ?_) rfl)
  simp only [Try.ntmps17, List.size_toArray, List.length_cons, List.length_nil, Nat.reduceAdd, Nat.reduceSub, Array.replicate_succ, Array.replicate_zero, List.push_toArray, List.append_toArray, List.nil_append, List.cons_append]
  have q1 : (need : Int) ≠ 0 := by omega
  go_wp2_with fail
  try rw [← hw0]
  clear hw0
  obtain ⟨N, hN⟩ : ∃ N, N = w.heap.size + 1 := ⟨_, rfl⟩
  simp only [← hN] at KN KU KX KZ ⊢
  obtain ⟨U, hU⟩ : ∃ U, U = N + 1 := ⟨_, rfl⟩
  simp only [← hU] at KU KX KZ ⊢
  obtain ⟨X, hX⟩ : ∃ X, X = U + 1 := ⟨_, rfl⟩
  simp only [← hX] at KX KZ ⊢
  obtain ⟨Z, hZ⟩ : ∃ Z, Z = X + 1 := ⟨_, rfl⟩
  simp only [← hZ] at KZ ⊢
  have o1 : w.heap.size < N := by omega
  have o2 : N < U := by omega
  have o3 : U < X := by omega
  have o4 : X < Z := by omega
  have o5 : Z + 1 = w0.heap.size := by omega
  clear hN hU hX hZ hs0
  refine Calls.mono (HF.out _ _ o5) ?_
  rintro e w1 ⟨rfl, hb1⟩
  have HB1 : Hid (Below w.heap.size w w1) := HB0.out.trans (hb1.mono HB0.out.size)
  have KA1 : Hid (Bk w.heap.size (hcl h) w1) := KA.out.later hb1
  have KN1 : Hid (Bk N [.int .i64 (need : Int)] w1) := KN.out.later hb1
  have KU1 : Hid (Bk U [.int .i64 0] w1) := KU.out.later hb1
  have KX1 : Hid (Bk X [.int .i64 0] w1) := KX.out.later hb1
  have KZ1 : Hid (Bk Z [.int .i64 0] w1) := KZ.out.later hb1
  have hs1 : w0.heap.size ≤ w1.heap.size := hb1.size
  clear hb1 KA KN KU KX KZ HB0
  have cN := KN1.out.c 0 rfl
  have hw1 : w.heap.size < w1.heap.size := KA1.out.1
  have hn1 : N < w1.heap.size := KN1.out.1
  go_wp2_with fail
  refine Calls.mono (HU1.out _ _ rfl) ?_
  rintro e w2 ⟨rfl, hw2⟩
  have hb2 : Below w1.heap.size w1 w2 := by rw [hw2]; exact (Below.refl _ _).alloc (Nat.le_refl _) _
  have HB2 : Hid (Below w.heap.size w w2) := HB1.out.trans (hb2.mono HB1.out.size)
  have KA2 : Hid (Bk w.heap.size (hcl h) w2) := KA1.out.later hb2
  have KN2 : Hid (Bk N [.int .i64 (need : Int)] w2) := KN1.out.later hb2
  have KU2 : Hid (Bk U [.int .i64 0] w2) := KU1.out.later hb2
  have KX2 : Hid (Bk X [.int .i64 0] w2) := KX1.out.later hb2
  have KZ2 : Hid (Bk Z [.int .i64 0] w2) := KZ1.out.later hb2
  have hs2 : w1.heap.size ≤ w2.heap.size := hb2.size
  clear hb2 hw2 KA1 KN1 KU1 KX1 KZ1 HB1 cN hw1 hn1
  have cN := KN2.out.c 0 rfl
  have r0 := KA2.out.c 0 rfl
  have r1 := KA2.out.c 1 rfl
  have r2 := KA2.out.c 2 rfl
  have r3 := KA2.out.c 3 rfl
  go_wp2_with fail
  refine Calls.mono (HA.out _) ?_
  rintro e w3 ⟨rfl, rfl⟩
  clear cN r0 r1 r2 r3
  go_wp2_with fail
  obtain ⟨w3, hw3⟩ : ∃ x, x = (((w2.alloc (ho h)).alloc (wko h lo hi (t, false))).alloc (.cells #[ptr (w2.heap.size + 1)] 49)).alloc (io 0) := ⟨_, rfl⟩
  have hb3 : Below w2.heap.size w2 w3 := by rw [hw3]; exact below_four _ _ _ _ _
  have hs3 : w3.heap.size = w2.heap.size + 4 := by rw [hw3]; simp
  have KB3 : Hid (Bk (w2.heap.size + 1) (wkc h lo hi (t, false)) w3) := by show Bk _ _ _; rw [hw3]; exact (Bk.new (w2.alloc (ho h)) (wkc h lo hi (t, false)) 57 (w2.heap.size + 1) (by simp)).later (below_two _ _ _)
  have KV3 : Hid (Bk (w2.heap.size + 1 + 1) [ptr (w2.heap.size + 1)] w3) := by show Bk _ _ _; rw [hw3]; exact (Bk.new ((w2.alloc (ho h)).alloc (wko h lo hi (t, false))) [ptr (w2.heap.size + 1)] 49 (w2.heap.size + 1 + 1) (by simp)).later ((Below.refl _ _).alloc (Nat.le_refl _) _)
  have KC3 : Hid (Bk (w2.heap.size + 1 + 1 + 1) [.int .i64 0] w3) := by show Bk _ _ _; rw [hw3]; exact Bk.new (((w2.alloc (ho h)).alloc (wko h lo hi (t, false))).alloc (.cells #[ptr (w2.heap.size + 1)] 49)) [.int .i64 0] 3 (w2.heap.size + 1 + 1 + 1) (by simp)
  have HB3 : Hid (Below w.heap.size w w3) := HB2.out.trans (hb3.mono HB2.out.size)
  have KN3 : Hid (Bk N [.int .i64 (need : Int)] w3) := KN2.out.later hb3
  have KU3 : Hid (Bk U [.int .i64 0] w3) := KU2.out.later hb3
  have KX3 : Hid (Bk X [.int .i64 0] w3) := KX2.out.later hb3
  have KZ3 : Hid (Bk Z [.int .i64 0] w3) := KZ2.out.later hb3
  try rw [← hw3]
  clear hw3 hb3 KA2 KN2 KU2 KX2 KZ2
  obtain ⟨B, hB⟩ : ∃ B, B = w2.heap.size + 1 := ⟨_, rfl⟩
  simp only [← hB] at KB3 KV3 KC3 ⊢
  obtain ⟨V, hV⟩ : ∃ V, V = B + 1 := ⟨_, rfl⟩
  simp only [← hV] at KV3 KC3 ⊢
  obtain ⟨C, hC⟩ : ∃ C, C = V + 1 := ⟨_, rfl⟩
  simp only [← hC] at KC3 ⊢
  have o6 : Z < B := by omega
  have o7 : B < V := by omega
  have o8 : V < C := by omega
  have o9 : C < w3.heap.size := by omega
  clear hB hV hC hs3 hs2 hs1 o5
  refine Calls.mono (HTI.out _ _) ?_
  rintro e w4 ⟨rfl, hw4⟩
  have hb4 : Below w3.heap.size w3 w4 := by rw [hw4]; exact below_two _ _ _
  have hs4 : w4.heap.size = w3.heap.size + 2 := by rw [hw4]; simp
  have KP4 : Hid (Bk w3.heap.size [ptr B] w4) := by show Bk _ _ _; rw [hw4]; exact (Bk.new w3 [ptr B] 49 w3.heap.size rfl).later ((Below.refl _ _).alloc (Nat.le_refl _) _)
  have KM4 : Hid (Bk (w3.heap.size + 1) [.int .i64 (most : Int)] w4) := by show Bk _ _ _; rw [hw4]; exact Bk.new (w3.alloc (.cells #[ptr B] 49)) [.int .i64 (most : Int)] 3 (w3.heap.size + 1) (by simp)
  have KB4 : Hid (Bk B (wkc h lo hi (t, false)) w4) := KB3.out.later hb4
  have HI4 : Hid (HoI h lo hi t need w U X Z C V N B 0 w4) := by
    refine ⟨KU3.out.later hb4, KX3.out.later hb4, KZ3.out.later hb4, KC3.out.later hb4, KV3.out.later hb4, KN3.out.later hb4, ?_, HB3.out.trans (hb4.mono HB3.out.size)⟩
    intro j hj
    obtain rfl : j = 0 := by omega
    show 0 ≠ need
    omega
  obtain ⟨P, hP⟩ : ∃ P, P = w3.heap.size := ⟨_, rfl⟩
  have e4 : w4.heap.size ≤ P + 2 := by omega
  have e5 : P + 2 ≤ w4.heap.size := by omega
  rw [← hP] at KP4 KM4
  simp only [tiC, ← hP]
  have o10 : C < P := by omega
  clear hw4 hb4 hs4 KB3 KV3 KC3 KN3 KU3 KX3 KZ3 HB3 o9 hP HF HU1 HA HTI HB2
  obtain ⟨xs, hxs⟩ : ∃ xs, xs = heatsL h lo hi t most := ⟨_, rfl⟩
  rw [← hxs] at HL HG
  clear hxs
  go_wp2_with fail
  refine (wpIn_wide (n := 9)).1 (range_itS (n := 9) (gf := 30) (lb := #[ptr (P + 1), ptr P]) rfl en30 xs (fun k w => Bk B (wkc h lo hi (stN h lo hi t k)) w) (fun k => k = B) (fun k => k = U ∨ k = X ∨ k = Z ∨ k = C) ?_ rfl ?_ (fun k e => by omega) (by omega) (by omega)
    (HoI h lo hi t need w U X Z C V N B) (HoX h lo hi t need w U X Z) ?_ ?_ HI4.out
    (fun x => { tmps := #[hv h, .int .i64 t, .int .i64 g, .int .i64 b, .int .i64 (need : Int), .int .i64 (most : Int), ptr w.heap.size, undef, undef, undef, ptr N, undef, ptr U, ptr X, ptr Z, .int .i64 0, ptr V, ptr C, hv h, .int .i64 t, .int .i64 g, .slice (some ⟨w0.heap.size, 0, none⟩) 2 2, .int .i64 0,
      .int .i64 0, .bool false, undef, .int .i64 b, .int .i64 (need : Int), .int .i64 (most : Int), .slice (some ⟨w1.heap.size, 0, none⟩) 3 3, .bool true, .bool false, .int .i64 (need : Int), .bool false, undef, hv h, .int .i64 t, .int .i64 g, .int .i64 b, ptr B, ptr B, .int .i64 (most : Int), .func (.func 30) #[] #[ptr (P + 1), ptr P], .int .i64 x, undef, undef, undef, undef, undef, undef, undef, undef, undef, undef, undef, undef, undef, undef, undef, undef, undef, undef, undef, undef], defers := [] }) .ret .ret (.inl ⟨rfl, rfl⟩) ?_ ?_ ?_ ?_)
  · rintro s A2 B2 h2 hk
    exact bk_kpt h2 hk (by omega)
  · intro W2 hb2 hs2
    exact HG.out (9 - 1) (P + 1) P B (w4.heap.size + 1) (fun k => k = U ∨ k = X ∨ k = Z ∨ k = C) W2 (KM4.out.later hb2) (KP4.out.later hb2) (KB4.out.later hb2) (by omega) (by omega) (by omega)
  · rintro s A2 B2 ⟨a1, a2, a3, a4, a5, a6, a7, a8⟩ hk
    exact ⟨bk_kpt a1 hk (by omega), bk_kpt a2 hk (by omega), bk_kpt a3 hk (by omega), bk_kpt a4 hk (by omega), bk_kpt a5 hk (by omega), bk_kpt a6 hk (by omega), a7, Kpt.belowB a8 hk (fun k e => by omega)⟩
  · rintro s A2 B2 ⟨a1, a2, a3, a4, a5⟩ hk
    exact ⟨bk_kpt a1 hk (by omega), bk_kpt a2 hk (by omega), bk_kpt a3 hk (by omega), a4, Kpt.belowB a5 hk (fun k e => by omega)⟩
  · intro l2 x W2 K hK
    have HK : Hid _ := hK
    clear hK
    gi_wp2
    exact HK.out
  · rintro l2 k hk W2 ⟨a1, a2, a3, a4, a5, a6, a7, a8⟩ hS hs
    have hkm : k < most := by have := HL.out; omega
    have hr1 := runN_le h lo hi t k
    have HNX : Hid (runN h lo hi t (k + 1) = if isW lo hi (stN h lo hi t (k + 1)).1 then runN h lo hi t k + 1 else 0) := rfl
    have HNOT : Hid (NotBy h lo hi t need k) := a7
    have HN2 : Hid (NotBy h lo hi t need k → runN h lo hi t (k + 1) ≠ need → NotBy h lo hi t need (k + 1)) := fun q1 q2 j hj => by
      rcases Nat.lt_or_ge k j with c | c
      · obtain rfl : j = k + 1 := by omega
        exact q2
      · exact q1 j c
    have HN3 : Hid (NotBy h lo hi t need k → runN h lo hi t (k + 1) = need → HeldAt h lo hi t need (k + 1)) := fun q1 q2 => ⟨q2, fun j hj => q1 j (by omega)⟩
    obtain ⟨r, hr⟩ : ∃ r, r = runN h lo hi t k := ⟨_, rfl⟩
    rw [← hr] at hr1 a4 HNX
    obtain ⟨⟨x, on⟩, hx⟩ : ∃ s, s = stN h lo hi t (k + 1) := ⟨_, rfl⟩
    have HSX : Hid (stN h lo hi t (k + 1) = (x, on)) := hx.symm
    rw [← hx] at hS HNX
    clear hr hx a7
    obtain ⟨k1, hk1⟩ : ∃ k1 : Int, k1 = ((k + 1 : Nat) : Int) := ⟨_, rfl⟩
    have HK1 : Hid (k1 = ((k + 1 : Nat) : Int)) := hk1
    have hk2 : (k : Int) + 1 = k1 := by omega
    have HU2 : Hid (Bk U [.int .i64 (k : Int)] W2) := a1
    have HC2 : Hid (Bk C [.int .i64 (r : Int)] W2) := a4
    obtain ⟨W3, hW3⟩ : ∃ q, q = (W2.setCell ⟨U, 0, none⟩ (.int .i64 ((k : Int) + 1))).setCell ⟨C, 0, none⟩ (.int .i64 ((r : Int) + 1)) := ⟨_, rfl⟩
    have HW3 : Hid (W3 = (W2.setCell ⟨U, 0, none⟩ (.int .i64 ((k : Int) + 1))).setCell ⟨C, 0, none⟩ (.int .i64 ((r : Int) + 1))) := hW3
    have k3 : Kpt (fun k => k = U ∨ k = X ∨ k = Z ∨ k = C) W2 W3 := by rw [hW3]; exact (Kpt.setCell _ _ _ _ (.inl rfl)).trans (Kpt.setCell _ _ _ _ (.inr (.inr (.inr rfl))))
    have KU3 : Hid (Bk U [.int .i64 k1] W3) := by show Bk _ _ _; rw [hW3, ← hk2]; exact (a1.put 0 _).other (by omega) 0 _
    have KC3 : Hid (Bk C [.int .i64 ((r : Int) + 1)] W3) := by show Bk _ _ _; rw [hW3]; exact (a4.other (by omega) 0 _).put 0 _
    have KX3 : Hid (Bk X [.int .i64 0] W3) := by show Bk _ _ _; rw [hW3]; exact (a2.other (by omega) 0 _).other (by omega) 0 _
    have KZ3 : Hid (Bk Z [.int .i64 0] W3) := by show Bk _ _ _; rw [hW3]; exact (a3.other (by omega) 0 _).other (by omega) 0 _
    have KV3 : Hid (Bk V [ptr B] W3) := by show Bk _ _ _; rw [hW3]; exact (a5.other (by omega) 0 _).other (by omega) 0 _
    have KN3 : Hid (Bk N [.int .i64 (need : Int)] W3) := by show Bk _ _ _; rw [hW3]; exact (a6.other (by omega) 0 _).other (by omega) 0 _
    have KB3 : Hid (Bk B (wkc h lo hi (x, on)) W3) := by show Bk _ _ _; rw [hW3]; exact (hS.other (by omega) 0 _).other (by omega) 0 _
    have HB3 : Hid (Below w.heap.size w W3) := Kpt.belowB a8 k3 (fun k e => by omega)
    have HK3 : Hid (Kpt (fun k => k = U ∨ k = X ∨ k = Z ∨ k = C) W2 W3) := k3
    have c1 := HU2.out.c 0 rfl
    have f1 := HU2.out.f 0 rfl
    have c4 := ((HC2.out.other (show C ≠ U by omega) 0 (.int .i64 ((k : Int) + 1)))).c 0 rfl
    have f4 := ((HC2.out.other (show C ≠ U by omega) 0 (.int .i64 ((k : Int) + 1)))).f 0 rfl
    have cV : ((W2.setCell ⟨U, 0, none⟩ (.int .i64 ((k : Int) + 1))).setCell ⟨C, 0, none⟩ (.int .i64 ((r : Int) + 1))).cell? ⟨V, 0, none⟩ = some (ptr B) := by rw [← hW3]; exact KV3.out.c 0 rfl
    clear a1 a2 a3 a4 a5 a6 a8 hS hW3 k3 hs hk2 hk1
    gi_wp2_with fail
    try rw [← HW3.out]
    clear c1 f1 c4 f4 cV HU2 HC2 HW3
    refine ⟨trivial, (CallsIn.inRound l2 (callsIn_wide.2 (isThere_any B h lo hi (x, on) W3 KB3.out))).mono ?_⟩
    rintro e W5 ⟨rfl, hb5⟩
    simp only
    have HK5 : Hid (Kpt (fun k => k = U ∨ k = X ∨ k = Z ∨ k = C) W2 W5) := HK3.out.trans (Kpt.of_below hb5)
    have HB5 : Hid (Below w.heap.size w W5) := below_on HB3.out hb5 HB3.out.size
    have KU5 : Hid (Bk U [.int .i64 k1] W5) := KU3.out.later hb5
    have KX5 : Hid (Bk X [.int .i64 0] W5) := KX3.out.later hb5
    have KZ5 : Hid (Bk Z [.int .i64 0] W5) := KZ3.out.later hb5
    have KV5 : Hid (Bk V [ptr B] W5) := KV3.out.later hb5
    have KN5 : Hid (Bk N [.int .i64 (need : Int)] W5) := KN3.out.later hb5
    have KB5 : Hid (Bk B (wkc h lo hi (x, on)) W5) := KB3.out.later hb5
    obtain ⟨c, hc⟩ : ∃ c : Int, c = (r : Int) + 1 := ⟨_, rfl⟩
    have KC5 : Hid (Bk C [.int .i64 c] W5) := by have := KC3.out.later hb5; rw [hc]; exact this
    have HC : Hid (c = (r : Int) + 1) := hc
    clear hc hb5 KU3 KX3 KZ3 KV3 KN3 KB3 KC3 HK3 HB3
    cases hw : isW lo hi x with
    | true =>
      simp only [hw, if_true] at HNX
      by_cases hq : c = (need : Int)
      · have HRN : Hid (runN h lo hi t (k + 1) = need) := by show _ = _; rw [HNX.out]; have := HC.out; omega
        have cN := KN5.out.c 0 rfl
        have cC := KC5.out.c 0 (v := .int .i64 (need : Int)) (by rw [hq]; rfl)
        clear hq
        gi_wp2_with fail
        rename_i KK hkk
        have HKK := (show Hid _ from hkk)
        clear hkk cN cC
        have HVN : Hid (¬ (V = U ∨ V = X ∨ V = Z)) := by show ¬ _; omega
        have HBN : Hid (¬ (B = U ∨ B = X ∨ B = Z)) := by show ¬ _; omega
        have HXU : Hid (X ≠ U) := by show _ ≠ _; omega
        have HZU : Hid (Z ≠ U) := by show _ ≠ _; omega
        have HZX : Hid (Z ≠ X) := by show _ ≠ _; omega
        refine ev_r l2 _ (by kernel_rfl) (by rintro ⟨a, w, h⟩; rcases h with h | h <;> cases h.1) [false, false, false, false, false, false, false, false, false, false, false, false, false, false, false, false, false, false, false, false, false, false, false, false, false, false, false, false, false, false, false, false, false, false, false, false, false, false, false, false, false, false, false, false, false, false, false, false, false, false, false, false, false, false, true, true, true, true, true, false, false, false, false, false]
          [([], [54], none), ([], [55], none), ([1], [56], none), ([2], [57], none), ([3], [58], none), ([0], [], none), ([4], [], none), ([6], [], none)]
          (hoV k1 x 0 B X Z) (fun _ W => Bk U [.int .i64 k1] W ∧ (∃ y, Bk X [.int .i64 y] W) ∧ (∃ y, Bk Z [.int .i64 y] W)) (Kpt (fun k => k = U ∨ k = X ∨ k = Z) W5) (by kernel_rfl) (by kernel_rfl) (Kpt.refl _ _).drew ⟨KU5.out.drew, ⟨_, KX5.out.drew⟩, ⟨_, KZ5.out.drew⟩⟩ ?_ ?_
        · refine ⟨?_, ?_, ?_, ?_, ?_, ?_, ?_, ?_, trivial⟩
          · intro f w1 hb hJ _ K hK
            have q0 := hJ.1.c 0 rfl
            simp only [over, overL, Nat.reduceAdd]
            go_simp
            exact hK _ _ ⟨_, by simp only [over, overL, Nat.reduceAdd]; rfl, rfl, hb, hJ, fun _ h => h⟩
          · intro f w1 hb hJ _ K hK
            have q0 := (bk_kpt KV5.out hb HVN.out).c 0 rfl
            simp only [over, overL, Nat.reduceAdd]
            go_simp
            exact hK _ _ ⟨_, by simp only [over, overL, Nat.reduceAdd]; rfl, rfl, hb, hJ, fun _ h => h⟩
          · intro f w1 hb hJ ⟨h55, _⟩ K hK
            replace h55 : f 55 = _ := h55
            simp only [over, overL, Nat.reduceAdd, h55]
            go_simp
            exact hK _ _ ⟨_, by simp only [over, overL, Nat.reduceAdd, h55]; rfl, rfl, hb, hJ, fun _ h => h⟩
          · intro f w1 hb hJ ⟨h56, _⟩ K hK
            replace h56 : f 56 = _ := h56
            simp only [over, overL, Nat.reduceAdd, h56]
            go_simp
            exact hK _ _ ⟨_, by simp only [over, overL, Nat.reduceAdd, h56]; rfl, rfl, hb, hJ, fun _ h => h⟩
          · intro f w1 hb hJ ⟨h57, _⟩ K hK
            replace h57 : f 57 = _ := h57
            have q4 := (bk_kpt KB5.out hb HBN.out).c 4 (v := .int .i64 x) rfl
            simp only [over, overL, Nat.reduceAdd, h57]
            go_simp
            exact hK _ _ ⟨_, by simp only [over, overL, Nat.reduceAdd, h57]; rfl, rfl, hb, hJ, fun _ h => h⟩
          · intro f w1 hb hJ ⟨h54, _⟩ K hK
            replace h54 : f 54 = _ := h54
            have q0 := hJ.1.c 0 rfl
            have f0 := hJ.1.f 0 rfl
            simp only [over, overL, Nat.reduceAdd, h54]
            go_simp
            exact hK _ _ ⟨undef, by simp only [over, overL, Nat.reduceAdd, h54]; rfl, trivial, hb.trans (Kpt.setCell _ _ _ _ (.inl rfl)), ⟨hJ.1.put 0 _, hJ.2.1.imp fun y q => q.other HXU.out 0 _, hJ.2.2.imp fun y q => q.other HZU.out 0 _⟩, fun j h => hoV_other h HXU.out HZU.out 0 _⟩
          · intro f w1 hb hJ ⟨h58, _⟩ K hK
            replace h58 : f 58 = _ := h58
            obtain ⟨y, hy⟩ := hJ.2.1
            have q0 := hy.c 0 rfl
            have f0 := hy.f 0 rfl
            simp only [over, overL, Nat.reduceAdd, h58]
            go_simp
            exact hK _ _ ⟨undef, by simp only [over, overL, Nat.reduceAdd, h58]; rfl, hy.put 0 _, hb.trans (Kpt.setCell _ _ _ _ (.inr (.inl rfl))), ⟨hJ.1.other (Ne.symm HXU.out) 0 _, ⟨_, hy.put 0 _⟩, hJ.2.2.imp fun y q => q.other HZX.out 0 _⟩, fun j h => hoV_x h HZX.out⟩
          · intro f w1 hb hJ ⟨j6, _⟩ K hK
            obtain ⟨y, hy⟩ := hJ.2.2
            have q0 := hy.c 0 rfl
            have f0 := hy.f 0 rfl
            simp only [over, overL, Nat.reduceAdd]
            go_simp
            exact hK _ _ ⟨undef, by simp only [over, overL, Nat.reduceAdd]; rfl, hy.put 0 _, hb.trans (Kpt.setCell _ _ _ _ (.inr (.inr rfl))), ⟨hJ.1.other (Ne.symm HZU.out) 0 _, hJ.2.1.imp fun y q => q.other (Ne.symm HZX.out) 0 _, ⟨_, hy.put 0 _⟩⟩, fun j h => hoV_z h (Ne.symm HZX.out)⟩
        · intro f w6 hb hJ hv
          have HX6 : Hid (Bk X [.int .i64 x] w6) := hv.2.2.2.2.2.2.1
          have HZ6 : Hid (Bk Z [.int .i64 0] w6) := hv.2.2.2.2.2.2.2.1
          have HU6 : Hid (Bk U [.int .i64 k1] w6) := hJ.1
          have HK6 : Hid (Kpt (fun k => k = U ∨ k = X ∨ k = Z ∨ k = C) W2 w6) := HK5.out.trans (hb.mono fun k e => by omega)
          have HB6 : Hid (Below w.heap.size w w6) := Kpt.belowB HB5.out hb (fun k e => by omega)
          clear hv hJ hb
          refine HKK.out _ _ ?_
          simp only [over_eq, overL, Nat.reduceAdd]
          gi_wp2
          exact ⟨HK6.out, by rw [← HK1.out]; exact HU6.out, by rw [HSX.out]; exact HX6.out, HZ6.out, HN3.out HNOT.out HRN.out, HB6.out⟩
      · have HRN : Hid (runN h lo hi t (k + 1) ≠ need) := by show _ ≠ _; rw [HNX.out]; have := HC.out; omega
        have cN := KN5.out.c 0 rfl
        have cC := KC5.out.c 0 rfl
        gi_wp2
        refine ⟨HK5.out, ?_⟩
        have hcr : c = ((runN h lo hi t (k + 1) : Nat) : Int) := by rw [HNX.out]; have := HC.out; omega
        exact ⟨by rw [← HK1.out]; exact KU5.out, KX5.out, KZ5.out, by rw [← hcr]; exact KC5.out, KV5.out, KN5.out, HN2.out HNOT.out HRN.out, HB5.out⟩
    | false =>
      simp only [hw, Bool.false_eq_true, if_false] at HNX
      have HRN : Hid (runN h lo hi t (k + 1) ≠ need) := by show _ ≠ _; rw [HNX.out]; omega
      have cC := KC5.out.c 0 rfl
      have fC := KC5.out.f 0 rfl
      have KC6 := KC5.out.put 0 (.int .i64 0)
      have cC6 := KC6.c 0 rfl
      have cN := (KN5.out.other (show N ≠ C by omega) 0 (.int .i64 0)).c 0 rfl
      have q2 : (0 : Int) ≠ (need : Int) := by omega
      clear KC6
      gi_wp2
      refine ⟨HK5.out.trans (Kpt.setCell _ _ _ _ (.inr (.inr (.inr rfl)))), ?_⟩
      exact ⟨by rw [← HK1.out]; exact KU5.out.other (by omega) 0 _, KX5.out.other (by omega) 0 _, KZ5.out.other (by omega) 0 _, by rw [HNX.out]; exact KC5.out.put 0 _, KV5.out.other (by omega) 0 _, KN5.out.other (by omega) 0 _, HN2.out HNOT.out HRN.out, HB5.out.setCell (by show w.heap.size ≤ C; omega) _⟩
  · rintro W2 ⟨a1, a2, a3, a4, a5, a6, a7, a8⟩ hS hs hd
    have HL2 := HL.out
    rw [HL2] at a1 a7 hS
    obtain ⟨⟨x, on⟩, hx⟩ : ∃ s, s = stN h lo hi t most := ⟨_, rfl⟩
    have HSX : Hid (stN h lo hi t most = (x, on)) := hx.symm
    rw [← hx] at hS
    have KU5 : Hid (Bk U [.int .i64 (most : Int)] W2) := a1
    have KX5 : Hid (Bk X [.int .i64 0] W2) := a2
    have KZ5 : Hid (Bk Z [.int .i64 0] W2) := a3
    have KV5 : Hid (Bk V [ptr B] W2) := a5
    have KB5 : Hid (Bk B (wkc h lo hi (x, on)) W2) := hS
    have HB5 : Hid (Below w.heap.size w W2) := a8
    have HNOT : Hid (NotBy h lo hi t need most) := a7
    have HD5 : Hid (W2.heap[w4.heap.size]? = some (.deferred (some []))) := hd
    have HS5 : Hid (w4.heap.size + 2 ≤ W2.heap.size) := hs
    clear a1 a2 a3 a4 a5 a6 a7 a8 hS hx hd HL2 hs
    go_wp2_with fail
    rename_i KK hkk
    have HKK := (show Hid _ from hkk)
    clear hkk
    have HVN : Hid (¬ (V = U ∨ V = X ∨ V = Z)) := by show ¬ _; omega
    have HBN : Hid (¬ (B = U ∨ B = X ∨ B = Z)) := by show ¬ _; omega
    have HXU : Hid (X ≠ U) := by show _ ≠ _; omega
    have HZU : Hid (Z ≠ U) := by show _ ≠ _; omega
    have HZX : Hid (Z ≠ X) := by show _ ≠ _; omega
    refine region_ev [false, false, false, false, false, false, false, false, false, false, false, false, false, false, false, false, false, false, false, false, false, false, false, false, false, false, false, false, false, false, false, false, false, false, false, false, false, false, false, false, false, false, false, false, false, false, false, false, false, false, false, false, false, false, false, false, false, false, false, true, true, true, true, true]
      [([], [59], none), ([], [60], none), ([1], [61], none), ([2], [62], none), ([3], [63], none), ([0], [], none), ([4], [], none), ([6], [], none)]
      (hoV (most : Int) x 18 B X Z) (fun _ W => Bk U [.int .i64 (most : Int)] W ∧ (∃ y, Bk X [.int .i64 y] W) ∧ (∃ y, Bk Z [.int .i64 y] W)) (Kpt (fun k => k = U ∨ k = X ∨ k = Z) W2) (by kernel_rfl) (by kernel_rfl) (Kpt.refl _ _).drew ⟨KU5.out.drew, ⟨_, KX5.out.drew⟩, ⟨_, KZ5.out.drew⟩⟩ ?_ ?_
    · refine ⟨?_, ?_, ?_, ?_, ?_, ?_, ?_, ?_, trivial⟩
      · intro f w1 hb hJ _ K hK
        have q0 := hJ.1.c 0 rfl
        simp only [over, overL, Nat.reduceAdd]
        go_simp
        exact hK _ _ ⟨_, by simp only [over, overL, Nat.reduceAdd]; rfl, rfl, hb, hJ, fun _ h => h⟩
      · intro f w1 hb hJ _ K hK
        have q0 := (bk_kpt KV5.out hb HVN.out).c 0 rfl
        simp only [over, overL, Nat.reduceAdd]
        go_simp
        exact hK _ _ ⟨_, by simp only [over, overL, Nat.reduceAdd]; rfl, rfl, hb, hJ, fun _ h => h⟩
      · intro f w1 hb hJ ⟨h60, _⟩ K hK
        replace h60 : f 60 = _ := h60
        simp only [over, overL, Nat.reduceAdd, h60]
        go_simp
        exact hK _ _ ⟨_, by simp only [over, overL, Nat.reduceAdd, h60]; rfl, rfl, hb, hJ, fun _ h => h⟩
      · intro f w1 hb hJ ⟨h61, _⟩ K hK
        replace h61 : f 61 = _ := h61
        simp only [over, overL, Nat.reduceAdd, h61]
        go_simp
        exact hK _ _ ⟨_, by simp only [over, overL, Nat.reduceAdd, h61]; rfl, rfl, hb, hJ, fun _ h => h⟩
      · intro f w1 hb hJ ⟨h62, _⟩ K hK
        replace h62 : f 62 = _ := h62
        have q4 := (bk_kpt KB5.out hb HBN.out).c 4 (v := .int .i64 x) rfl
        simp only [over, overL, Nat.reduceAdd, h62]
        go_simp
        exact hK _ _ ⟨_, by simp only [over, overL, Nat.reduceAdd, h62]; rfl, rfl, hb, hJ, fun _ h => h⟩
      · intro f w1 hb hJ ⟨h59, _⟩ K hK
        replace h59 : f 59 = _ := h59
        have q0 := hJ.1.c 0 rfl
        have f0 := hJ.1.f 0 rfl
        simp only [over, overL, Nat.reduceAdd, h59]
        go_simp
        exact hK _ _ ⟨undef, by simp only [over, overL, Nat.reduceAdd, h59]; rfl, trivial, hb.trans (Kpt.setCell _ _ _ _ (.inl rfl)), ⟨hJ.1.put 0 _, hJ.2.1.imp fun y q => q.other HXU.out 0 _, hJ.2.2.imp fun y q => q.other HZU.out 0 _⟩, fun j h => hoV_other h HXU.out HZU.out 0 _⟩
      · intro f w1 hb hJ ⟨h63, _⟩ K hK
        replace h63 : f 63 = _ := h63
        obtain ⟨y, hy⟩ := hJ.2.1
        have q0 := hy.c 0 rfl
        have f0 := hy.f 0 rfl
        simp only [over, overL, Nat.reduceAdd, h63]
        go_simp
        exact hK _ _ ⟨undef, by simp only [over, overL, Nat.reduceAdd, h63]; rfl, hy.put 0 _, hb.trans (Kpt.setCell _ _ _ _ (.inr (.inl rfl))), ⟨hJ.1.other (Ne.symm HXU.out) 0 _, ⟨_, hy.put 0 _⟩, hJ.2.2.imp fun y q => q.other HZX.out 0 _⟩, fun j h => hoV_x h HZX.out⟩
      · intro f w1 hb hJ ⟨j6, _⟩ K hK
        obtain ⟨y, hy⟩ := hJ.2.2
        have q0 := hy.c 0 rfl
        have f0 := hy.f 0 rfl
        simp only [over, overL, Nat.reduceAdd]
        go_simp
        exact hK _ _ ⟨undef, by simp only [over, overL, Nat.reduceAdd]; rfl, hy.put 0 _, hb.trans (Kpt.setCell _ _ _ _ (.inr (.inr rfl))), ⟨hJ.1.other (Ne.symm HZU.out) 0 _, hJ.2.1.imp fun y q => q.other (Ne.symm HZX.out) 0 _, ⟨_, hy.put 0 _⟩⟩, fun j h => hoV_z h (Ne.symm HZX.out)⟩
    · intro f w6 hb hJ hv
      have hX6 : Bk X [.int .i64 x] w6 := hv.2.2.2.2.2.2.1
      have hZ6 : Bk Z [.int .i64 18] w6 := hv.2.2.2.2.2.2.2.1
      have hU6 : Bk U [.int .i64 (most : Int)] w6 := hJ.1
      have hd6 : w6.heap[w4.heap.size]? = some (.deferred (some [])) := (hb.block _ (by have := HS5.out; omega) (by omega)).trans HD5.out
      have kp : Kpt (fun k => k = w4.heap.size) w6 (w6.putObj w4.heap.size (.deferred none)) := Kpt.putObj _ _ _ _ rfl
      have HX6 : Hid (Bk X [.int .i64 x] (w6.putObj w4.heap.size (.deferred none))) := bk_kpt hX6 kp (by omega)
      have HZ6 : Hid (Bk Z [.int .i64 18] (w6.putObj w4.heap.size (.deferred none))) := bk_kpt hZ6 kp (by omega)
      have HU6 : Hid (Bk U [.int .i64 (most : Int)] (w6.putObj w4.heap.size (.deferred none))) := bk_kpt hU6 kp (by omega)
      have HB6 : Hid (Below w.heap.size w (w6.putObj w4.heap.size (.deferred none))) := Kpt.belowB (Kpt.belowB HB5.out hb (fun k e => by omega)) kp (fun k e => by omega)
      have HD6 : Hid _ := hd6
      clear hv hJ hb hX6 hZ6 hU6 hd6 kp
      refine HKK.out _ _ ?_
      simp only [over_eq, overL, Nat.reduceAdd]
      go_wp2
      exact leave_mark HD6.out (v := three most x 18) (results_ccc Try.results17 _ _ _ rfl rfl rfl (load_int HU6.out) (load_int HX6.out) (load_err HZ6.out)) ⟨_, _, _, rfl, .inr ⟨HNOT.out, rfl, by rw [HSX.out], rfl⟩, HB6.out⟩
  · rintro k W2 hk ⟨a1, a2, a3, a4, a5⟩ hS hs hd
    have kp : Kpt (fun k => k = w4.heap.size) W2 (W2.putObj w4.heap.size (.deferred none)) := Kpt.putObj _ _ _ _ rfl
    have HU6 : Hid (Bk U [.int .i64 ((k + 1 : Nat) : Int)] (W2.putObj w4.heap.size (.deferred none))) := bk_kpt a1 kp (by omega)
    have HX6 : Hid (Bk X [.int .i64 (stN h lo hi t (k + 1)).1] (W2.putObj w4.heap.size (.deferred none))) := bk_kpt a2 kp (by omega)
    have HZ6 : Hid (Bk Z [.int .i64 0] (W2.putObj w4.heap.size (.deferred none))) := bk_kpt a3 kp (by omega)
    have HB6 : Hid (Below w.heap.size w (W2.putObj w4.heap.size (.deferred none))) := Kpt.belowB a5 kp (fun k e => by omega)
    have HH : Hid (HeldAt h lo hi t need (k + 1)) := a4
    have HD6 : Hid _ := hd
    have hkm : k + 1 ≤ most := by have := HL.out; omega
    clear a1 a2 a3 a4 a5 hS hs hd kp
    refine wpIn_wide.2 ?_
    go_wp2
    exact leave_mark HD6.out (v := three ((k + 1 : Nat) : Int) (stN h lo hi t (k + 1)).1 0) (results_ccc Try.results17 _ _ _ rfl rfl rfl (load_int HU6.out) (load_int HX6.out) (load_err HZ6.out)) ⟨_, _, _, rfl, .inl ⟨k + 1, by omega, hkm, HH.out, rfl, rfl, rfl⟩, HB6.out⟩
end Go.Proofs.Ytjpjkkjklghpgaa
