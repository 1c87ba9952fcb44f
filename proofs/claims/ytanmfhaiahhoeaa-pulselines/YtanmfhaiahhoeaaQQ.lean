/- The document's places. -/
import Derived.Test.YtanmfhaiahhoeaaQP
namespace Go.Proofs.Ytanmfhaiahhoeaa
open Go.RowKit

theorem own_kpt {α : Type} {c : Enc α} {w w1 : World} {B : Nat} {v : Value} {xs : List α} {M : Nat → Prop} (h : OwnR c w B v xs) (hk : Kpt M w w1) (hM : ∀ q, B ≤ q → ¬ M q) : OwnR c w1 B v xs := by
  obtain ⟨q1, q2⟩ := h
  refine ⟨q1, q2.imp id ?_⟩
  rintro ⟨g, cap, cur, e, hg, hh, r⟩
  exact ⟨g, cap, cur, e, hg, (hk.block g (Array.getElem?_eq_some_iff.1 hh).1 (hM g hg)).trans hh, r⟩
/-- Points that can be read. -/
def RdP (w : World) (ao : Option Addr) (l : List V3) : Prop := l = [] ∨ ∃ b off, ao = some ⟨b, off, none⟩ ∧ b < w.heap.size ∧ ∀ k (h : k < l.length), w.cell? ⟨b, off + k * 3, none⟩ = some (.int .i64 (l[k]'h).x) ∧ w.cell? ⟨b, off + k * 3 + 1, none⟩ = some (.int .i64 (l[k]'h).y) ∧ w.cell? ⟨b, off + k * 3 + 2, none⟩ = some (.int .i64 (l[k]'h).z)
theorem RdP.later {w w1 : World} {ao : Option Addr} {l : List V3} (h : RdP w ao l) (hb : Below w.heap.size w w1) : RdP w1 ao l := by
  rcases h with h | ⟨b, off, e, hlt, hc⟩
  · exact .inl h
  · exact .inr ⟨b, off, e, Nat.lt_of_lt_of_le hlt hb.size, fun k hk => ⟨cell_later hb (hc k hk).1, cell_later hb (hc k hk).2.1, cell_later hb (hc k hk).2.2⟩⟩
theorem own_rdP {w : World} {B : Nat} {v : Value} {l : List V3} (h : OwnR encP w B v l) : ∃ ao cap, v = .slice ao l.length cap ∧ RdP w ao l := by
  obtain ⟨ao, cap, rfl⟩ := h.shape
  refine ⟨ao, cap, rfl, ?_⟩
  rcases h.read goodP with ⟨rfl, _⟩ | ⟨g, cap', e, _, _, hlt, hc⟩
  · exact .inl rfl
  · injection e with e1 e2 e3
    refine .inr ⟨g, 0, e1, hlt, fun k hk => ?_⟩
    have h0 := hc k hk 0 (by decide)
    have h1 := hc k hk 1 (by decide)
    have h2 := hc k hk 2 (by decide)
    rw [Nat.zero_add]
    exact ⟨by simpa [encP] using h0, by simpa [encP] using h1, by simpa [encP] using h2⟩
theorem own_rdI {w : World} {B : Nat} {v : Value} {l : List Int} (h : OwnR encI w B v l) : ∃ ao cap, v = .slice ao l.length cap ∧ RdI w ao l := by
  obtain ⟨ao, cap, rfl⟩ := h.shape
  refine ⟨ao, cap, rfl, ?_⟩
  rcases h.read goodI with ⟨rfl, _⟩ | ⟨g, cap', e, _, _, hlt, hc⟩
  · exact .inl rfl
  · injection e with e1 e2 e3
    refine .inr ⟨g, 0, e1, hlt, fun k hk => ?_⟩
    have h0 := hc k hk 0 (by decide)
    rw [Nat.zero_add]
    simpa [encI] using h0
set_option linter.unusedVariables false in
def pl6V (x y z s t u a : Int) (b off m cap k : Nat) (d : Nat) (v : Value) (_ : World) : Prop :=
  match d with
  | 13 => v = v3 x y z
  | 14 => v = .slice (some ⟨b, off, none⟩) m cap
  | 15 => v = .int .i64 (k : Nat)
  | 16 => v = .pointer (some ⟨b, off + k, none⟩)
  | 17 => v = .int .i64 a
  | 18 => v = .int .i64 s
  | 19 => v = .slice (some ⟨b, off, none⟩) m cap
  | 20 => v = .int .i64 (k : Nat)
  | 21 => v = .pointer (some ⟨b, off + k, none⟩)
  | 22 => v = .int .i64 a
  | 23 => v = .int .i64 t
  | 24 => v = .slice (some ⟨b, off, none⟩) m cap
  | 25 => v = .int .i64 (k : Nat)
  | 26 => v = .pointer (some ⟨b, off + k, none⟩)
  | 27 => v = .int .i64 a
  | 28 => v = .int .i64 u
  | 29 => v = v3 s t u
  | 30 => v = v3 (x + s) (y + t) (z + u)
  | _ => True
set_option linter.unusedVariables false in
theorem pl6V_mono (x y z s t u a : Int) (b off m cap k : Nat) (d : Nat) (v : Value) (w w' : World) (h : pl6V x y z s t u a b off m cap k d v w) (_ : Below w.heap.size w w') : pl6V x y z s t u a b off m cap k d v w' := h
set_option maxHeartbeats 6400000 in
set_option maxRecDepth 100000 in
theorem pulsePlaces_any (ao : Option Addr) (cap : Nat) (l : List Int) (w : World) (hR : RdI w ao l) (hl : l.length ≤ 20000) (hv : ∀ b ∈ l, isP b = true) :
    Calls Try.prog 13 #[.slice ao l.length cap] w fun e w' => ∃ ao2 cap2, e = .returned (.slice ao2 l.length cap2) ∧ RdP w' ao2 (placesL l) ∧ Below w.heap.size w w' := by
  have HR : Hid (RdI w ao l) := hR
  have HV : Hid (∀ b ∈ l, isP b = true) := hv
  have HLL : Hid ((placesL l).length = l.length) := placesL_length l
  have HAT : Hid (∀ k (h : k < (placesL l).length), (placesL l)[k]'h = plc l (k + 1)) := fun k h => placesL_at h
  obtain ⟨xs, hxs⟩ : ∃ xs, xs = placesL l := ⟨_, rfl⟩
  rw [← hxs] at HLL HAT ⊢
  have HB0 : Hid (Below w.heap.size w (w.alloc (o3 0 0 0 23))) := (Below.refl _ _).alloc (Nat.le_refl _) _
  have KA0 : Hid (Bk w.heap.size [.int .i64 0, .int .i64 0, .int .i64 0] (w.alloc (o3 0 0 0 23))) := Bk.new w [.int .i64 0, .int .i64 0, .int .i64 0] 23 _ rfl
  clear hxs hR hv
  go_enter Try.func13, Try.ntmps13
  go_wp2
  obtain ⟨A, hA⟩ : ∃ A, A = w.heap.size := ⟨_, rfl⟩
  have KA1 : Hid (Bk A [.int .i64 0, .int .i64 0, .int .i64 0] (w.alloc (o3 0 0 0 23))) := by show Bk _ _ _; rw [hA]; exact KA0.out
  have hwA : w.heap.size ≤ A := by omega
  have hwA2 : w.heap.size < A + 1 := by omega
  simp only [← hA]
  clear hA KA0
  go_loopw [3, 5] (fun v i wr => ∃ k : Nat, k ≤ l.length ∧ i = .int .i64 k ∧ OwnR encP wr (A + 1) v (xs.take k) ∧ Bk A [.int .i64 (plc l k).x, .int .i64 (plc l k).y, .int .i64 (plc l k).z] wr ∧ Below w.heap.size w wr) (fun _ i _ => l.length - (intOf i).toNat)
  case atStart => exact ⟨0, Nat.zero_le _, rfl, OwnR.nil _ _ _, KA1.out, HB0.out⟩
  case round =>
    obtain ⟨k, hk, rfl, hown, ha, hb⟩ := hrel
    obtain ⟨aoV, nV, capV, hform⟩ := hown.form
    subst hform
    have HO : Hid (OwnR encP wr (A + 1) (.slice aoV nV capV) (xs.take k)) := hown
    have HA : Hid (Bk A [.int .i64 (plc l k).x, .int .i64 (plc l k).y, .int .i64 (plc l k).z] wr) := ha
    have HB : Hid (Below w.heap.size w wr) := hb
    clear hown ha hb
    by_cases hlt : k < l.length
    · obtain ⟨b, off, rfl, _, hc⟩ := (HR.out.later HB.out).at hlt
      obtain ⟨a, ha⟩ : ∃ a, a = l[k]'hlt := ⟨_, rfl⟩
      rw [← ha] at hc
      have HC : Hid (wr.cell? ⟨b, off + k, none⟩ = some (.int .i64 a)) := hc
      have hva : isP a = true := by rw [ha]; exact HV.out _ (List.getElem_mem hlt)
      have e0 := sumD_next hlt 0
      have e1 := sumD_next hlt 1
      have e2 := sumD_next hlt 2
      rw [← ha] at e0 e1 e2
      obtain ⟨x, hx⟩ : ∃ x, x = sumD (l.take k) 0 := ⟨_, rfl⟩
      obtain ⟨y, hy⟩ : ∃ y, y = sumD (l.take k) 1 := ⟨_, rfl⟩
      obtain ⟨z, hz⟩ : ∃ z, z = sumD (l.take k) 2 := ⟨_, rfl⟩
      have KA : Hid (Bk A [.int .i64 x, .int .i64 y, .int .i64 z] wr) := by
        show Bk _ _ _
        rw [hx, hy, hz]
        exact HA.out
      have hlk : (l.take k).length ≤ 20000 := by rw [List.length_take]; omega
      have hx2 := sumD_in 0 (l.take k)
      have hy2 := sumD_in 1 (l.take k)
      have hz2 := sumD_in 2 (l.take k)
      have d0 := dg_in a 0
      have d1 := dg_in a 1
      have d2 := dg_in a 2
      have HS0 : Hid (∀ W, Calls Try.prog 34 #[.int .i64 a, .int .i64 0] W fun e w' => e = .returned (.int .i64 (dg a 0)) ∧ w' = W) := fun W => pulseStep0 a W hva
      have HS1 : Hid (∀ W, Calls Try.prog 34 #[.int .i64 a, .int .i64 1] W fun e w' => e = .returned (.int .i64 (dg a 1)) ∧ w' = W) := fun W => pulseStep1 a W hva
      have HS2 : Hid (∀ W, Calls Try.prog 34 #[.int .i64 a, .int .i64 2] W fun e w' => e = .returned (.int .i64 (dg a 2)) ∧ w' = W) := fun W => pulseStep2 a W hva
      rw [← hx] at hx2 e0
      rw [← hy] at hy2 e1
      rw [← hz] at hz2 e2
      generalize dg a 0 = s at *
      generalize dg a 1 = t at *
      generalize dg a 2 = u at *
      have HP : Hid (plc l (k + 1) = ⟨x + s, y + t, z + u⟩) := by show _ = _; unfold plc; rw [e0, e1, e2]
      have HPS : Hid (∀ W, Calls Try.prog 33 #[v3 x y z, v3 s t u] W fun e w' => e = .returned (v3 (x + s) (y + t) (z + u)) ∧ Below W.heap.size W w') := fun W => pointSum_any x y z s t u W (by omega) (by omega)
      have HTK : Hid (xs.take (k + 1) = xs.take k ++ [⟨x + s, y + t, z + u⟩]) := by
        show _ = _
        rw [List.take_succ_eq_append_getElem (by rw [HLL.out]; exact hlt), HAT.out, HP.out]
      have HLT : Hid ((xs.take k).length ≤ 1000000000) := by show _ ≤ _; rw [List.length_take, HLL.out]; omega
      clear hx hy hz e0 e1 e2 hlk hx2 hy2 hz2 ha d0 d1 d2 hc hva
      generalize hpre : xs.take k = pr at *
      clear hpre
      go_wp2_with fail
      refine region_seq 18 [false, false, false, false, false, false, false, false, false, false, false, false, false, true, true, true, true, true, true, true, true, true, true, true, true, true, true, true, true, true, true, false, false, false, false, false]
        [(13, [], none), (14, [], none), (15, [], none), (16, [14, 15], none), (17, [16], none), (18, [17], none), (19, [], none), (20, [], none), (21, [19, 20], none), (22, [21], none), (23, [22], none), (24, [], none), (25, [], none), (26, [24, 25], none), (27, [26], none), (28, [27], none), (29, [18, 23, 28], none), (30, [13, 29], none)]
        (pl6V x y z s t u a b off l.length cap k) (by kernel_rfl) (by kernel_rfl) (by kernel_rfl) (by kernel_rfl) (by kernel_rfl) (by decide) (pl6V_mono x y z s t u a b off l.length cap k) ?_ ?_
      · refine ⟨?_, ?_, ?_, ?_, ?_, ?_, ?_, ?_, ?_, ?_, ?_, ?_, ?_, ?_, ?_, ?_, ?_, ?_, trivial⟩
        · intro f w1 hb _ K hK
          have q0 := (KA.out.later hb).c 0 rfl
          have q1 := (KA.out.later hb).c 1 rfl
          have q2 := (KA.out.later hb).c 2 rfl
          simp only [over, overL, Nat.reduceAdd]
          go_simp
          exact hK _ _ ⟨_, rfl, by simp only [over, overL, Nat.reduceAdd]; rfl, Below.refl _ _⟩
        · intro f w1 hb _ K hK
          simp only [over, overL, Nat.reduceAdd]
          go_simp
          exact hK _ _ ⟨_, rfl, by simp only [over, overL, Nat.reduceAdd]; rfl, Below.refl _ _⟩
        · intro f w1 hb _ K hK
          simp only [over, overL, Nat.reduceAdd]
          go_simp
          exact hK _ _ ⟨_, rfl, by simp only [over, overL, Nat.reduceAdd]; rfl, Below.refl _ _⟩
        · intro f w1 hb ⟨h14, h15, _⟩ K hK
          replace h14 : f 14 = _ := h14
          replace h15 : f 15 = _ := h15
          simp only [over, overL, Nat.reduceAdd, h14, h15]
          go_simp
          exact hK _ _ ⟨_, rfl, by simp only [over, overL, Nat.reduceAdd, h14, h15]; rfl, Below.refl _ _⟩
        · intro f w1 hb ⟨h16, _⟩ K hK
          replace h16 : f 16 = _ := h16
          have q := cell_later hb HC.out
          simp only [over, overL, Nat.reduceAdd, h16]
          go_simp
          exact hK _ _ ⟨_, rfl, by simp only [over, overL, Nat.reduceAdd, h16]; rfl, Below.refl _ _⟩
        · intro f w1 hb ⟨h17, _⟩ K hK
          replace h17 : f 17 = _ := h17
          simp only [over, overL, Nat.reduceAdd, h17]
          go_simp
          refine (HS0.out w1).mono ?_
          rintro e w2 ⟨rfl, hw2⟩
          exact hK _ _ ⟨_, rfl, by simp only [over, overL, Nat.reduceAdd, h17]; rfl, hw2 ▸ Below.refl _ _⟩
        · intro f w1 hb _ K hK
          simp only [over, overL, Nat.reduceAdd]
          go_simp
          exact hK _ _ ⟨_, rfl, by simp only [over, overL, Nat.reduceAdd]; rfl, Below.refl _ _⟩
        · intro f w1 hb _ K hK
          simp only [over, overL, Nat.reduceAdd]
          go_simp
          exact hK _ _ ⟨_, rfl, by simp only [over, overL, Nat.reduceAdd]; rfl, Below.refl _ _⟩
        · intro f w1 hb ⟨h19, h20, _⟩ K hK
          replace h19 : f 19 = _ := h19
          replace h20 : f 20 = _ := h20
          simp only [over, overL, Nat.reduceAdd, h19, h20]
          go_simp
          exact hK _ _ ⟨_, rfl, by simp only [over, overL, Nat.reduceAdd, h19, h20]; rfl, Below.refl _ _⟩
        · intro f w1 hb ⟨h21, _⟩ K hK
          replace h21 : f 21 = _ := h21
          have q := cell_later hb HC.out
          simp only [over, overL, Nat.reduceAdd, h21]
          go_simp
          exact hK _ _ ⟨_, rfl, by simp only [over, overL, Nat.reduceAdd, h21]; rfl, Below.refl _ _⟩
        · intro f w1 hb ⟨h22, _⟩ K hK
          replace h22 : f 22 = _ := h22
          simp only [over, overL, Nat.reduceAdd, h22]
          go_simp
          refine (HS1.out w1).mono ?_
          rintro e w2 ⟨rfl, hw2⟩
          exact hK _ _ ⟨_, rfl, by simp only [over, overL, Nat.reduceAdd, h22]; rfl, hw2 ▸ Below.refl _ _⟩
        · intro f w1 hb _ K hK
          simp only [over, overL, Nat.reduceAdd]
          go_simp
          exact hK _ _ ⟨_, rfl, by simp only [over, overL, Nat.reduceAdd]; rfl, Below.refl _ _⟩
        · intro f w1 hb _ K hK
          simp only [over, overL, Nat.reduceAdd]
          go_simp
          exact hK _ _ ⟨_, rfl, by simp only [over, overL, Nat.reduceAdd]; rfl, Below.refl _ _⟩
        · intro f w1 hb ⟨h24, h25, _⟩ K hK
          replace h24 : f 24 = _ := h24
          replace h25 : f 25 = _ := h25
          simp only [over, overL, Nat.reduceAdd, h24, h25]
          go_simp
          exact hK _ _ ⟨_, rfl, by simp only [over, overL, Nat.reduceAdd, h24, h25]; rfl, Below.refl _ _⟩
        · intro f w1 hb ⟨h26, _⟩ K hK
          replace h26 : f 26 = _ := h26
          have q := cell_later hb HC.out
          simp only [over, overL, Nat.reduceAdd, h26]
          go_simp
          exact hK _ _ ⟨_, rfl, by simp only [over, overL, Nat.reduceAdd, h26]; rfl, Below.refl _ _⟩
        · intro f w1 hb ⟨h27, _⟩ K hK
          replace h27 : f 27 = _ := h27
          simp only [over, overL, Nat.reduceAdd, h27]
          go_simp
          refine (HS2.out w1).mono ?_
          rintro e w2 ⟨rfl, hw2⟩
          exact hK _ _ ⟨_, rfl, by simp only [over, overL, Nat.reduceAdd, h27]; rfl, hw2 ▸ Below.refl _ _⟩
        · intro f w1 hb ⟨h18, h23, h28, _⟩ K hK
          replace h18 : f 18 = _ := h18
          replace h23 : f 23 = _ := h23
          replace h28 : f 28 = _ := h28
          simp only [over, overL, Nat.reduceAdd, h18, h23, h28]
          go_simp
          exact hK _ _ ⟨_, rfl, by simp only [over, overL, Nat.reduceAdd, h18, h23, h28]; rfl, Below.refl _ _⟩
        · intro f w1 hb ⟨h13, h29, _⟩ K hK
          replace h13 : f 13 = _ := h13
          replace h29 : f 29 = _ := h29
          simp only [over, overL, Nat.reduceAdd, h13, h29]
          go_simp
          refine (HPS.out w1).mono ?_
          rintro e w2 ⟨rfl, hb2⟩
          exact hK _ _ ⟨_, rfl, by simp only [over, overL, Nat.reduceAdd, h13, h29]; rfl, hb2⟩
      intro f w4 hb4 hv
      have h30 : f 30 = v3 (x + s) (y + t) (z + u) := hv.2.2.2.2.2.2.2.2.2.2.2.2.2.2.2.2.2.1
      have KA4 : Hid (Bk A [.int .i64 x, .int .i64 y, .int .i64 z] w4) := KA.out.later hb4
      have HO4 : Hid (OwnR encP w4 (A + 1) (.slice aoV nV capV) pr) := HO.out.later hb4
      have HB4 : Hid (Below w.heap.size w w4) := HB.out.trans (hb4.mono HB.out.size)
      simp only [over_eq, overL, h30, Nat.reduceAdd, List.drop_succ_cons, List.drop_zero]
      clear hv h30 hb4
      have q0 := KA4.out.c 0 rfl
      have q1 := KA4.out.c 1 rfl
      have q2 := KA4.out.c 2 rfl
      have g0 := KA4.out.f 0 rfl
      have g1 := KA4.out.f 1 rfl
      have g2 := KA4.out.f 2 rfl
      obtain ⟨x', hx'⟩ : ∃ x', x' = x + s := ⟨_, rfl⟩
      obtain ⟨y', hy'⟩ : ∃ y', y' = y + t := ⟨_, rfl⟩
      obtain ⟨z', hz'⟩ : ∃ z', z' = z + u := ⟨_, rfl⟩
      rw [← hx', ← hy', ← hz'] at HTK HP ⊢
      clear hx' hy' hz'
      go_upto_region 7 with fail
      clear q0 q1 q2 g0 g1 g2
      obtain ⟨w5, hw5⟩ : ∃ q : World, q = ((w4.setCell ⟨A, 0, none⟩ (.int .i64 x')).setCell ⟨A, 1, none⟩ (.int .i64 y')).setCell ⟨A, 2, none⟩ (.int .i64 z') := ⟨_, rfl⟩
      rw [← hw5]
      have K5 : Hid (Kpt (fun q => q = A) w4 w5) := by show Kpt _ _ _; rw [hw5]; exact ((Kpt.setCell (M := fun q => q = A) _ _ _ _ rfl).trans (Kpt.setCell _ _ _ _ rfl)).trans (Kpt.setCell _ _ _ _ rfl)
      have KA5 : Hid (Bk A [.int .i64 x', .int .i64 y', .int .i64 z'] w5) := by show Bk _ _ _; rw [hw5]; exact ((KA4.out.put 0 _).put 1 _).put 2 _
      have HO5 : Hid (OwnR encP w5 (A + 1) (.slice aoV nV capV) pr) := own_kpt HO4.out K5.out (fun q h e => by omega)
      have HB5 : Hid (Below w.heap.size w w5) := Kpt.belowB HB4.out K5.out (fun q e => by omega)
      clear hw5
      have q0 := KA5.out.c 0 rfl
      have q1 := KA5.out.c 1 rfl
      have q2 := KA5.out.c 2 rfl
      have hA5 : A < w5.heap.size := KA5.out.1
      have HB6 : Hid (Below w.heap.size w (w5.alloc (o3 x' y' z' 23))) := HB5.out.trans (((Below.refl _ _).alloc (Nat.le_refl _) _).mono HB5.out.size)
      have KA6 : Hid (Bk A [.int .i64 x', .int .i64 y', .int .i64 z'] (w5.alloc (o3 x' y' z' 23))) := KA5.out.later ((Below.refl _ _).alloc (Nat.le_refl _) _)
      have HZ6 : Hid (A + 1 ≤ (w5.alloc (o3 x' y' z' 23)).heap.size) := by show _ ≤ _; simp; omega
      go_wp2_with (at_builtin; refine wpList_append_row goodP Try.underlying31 infoP rfl (by decide) (by decide) _ rfl (.tmp 31) (.tmp 33) rfl (A + 1) (.slice aoV nV capV) pr rfl (HO5.out.alloc _) w5.heap.size ⟨x', y', z'⟩ rfl (fun j u hu => (Bk.new w5 [.int .i64 x', .int .i64 y', .int .i64 z'] 23 w5.heap.size rfl).c j hu) HLT.out HZ6.out ?_; intro v' w7 ho hg hloc; have HO7 : Hid (OwnR encP w7 (A + 1) v' (pr ++ [⟨x', y', z'⟩])) := ho; have HB7 : Hid (Below w.heap.size w w7) := below_row HB6.out ((HO5.out.alloc (o3 x' y' z' 23)).base (by omega)) hg HB6.out.size; have KA7 : Hid (Bk A [.int .i64 x', .int .i64 y', .int .i64 z'] w7) := KA6.out.same hg.size (hg.block _ KA6.out.1 (fun e => by have := (World.ownsRow.lt (HO5.out.alloc (o3 x' y' z' 23)) A e.symm).1; omega)); clear ho hg hloc)
      go_roundw
      case rel => exact ⟨k + 1, by omega, by go_num, HTK.out ▸ HO7.out, by rw [HP.out]; exact KA7.out, HB7.out⟩
      case measure => simp [intOf]; omega
    · have HF : Hid (OwnR encP wr (A + 1) (.slice aoV nV capV) xs) := by
        have := HO.out
        rw [List.take_of_length_le (by rw [HLL.out]; omega)] at this
        exact this
      go_wp2
      go_ret
      obtain ⟨ao2, cap2, e, hr⟩ := own_rdP HF.out
      rw [HLL.out] at e
      exact ⟨ao2, cap2, by rw [← e]; rfl, hr, HB.out⟩
end Go.Proofs.Ytanmfhaiahhoeaa
