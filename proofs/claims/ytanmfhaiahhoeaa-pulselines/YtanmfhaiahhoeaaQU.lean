/- PulseLines walked. -/
import Derived.Test.YtanmfhaiahhoeaaQT
import Derived.Deep.Cut
import Derived.Deep.CutRange
namespace Go.Proofs.Ytanmfhaiahhoeaa
open Go.RowKit

/-- What Line, Curve, Sum, Places answer. -/
def LineR (x y z : Int) (v : Value) (e : Int) (w : World) : Prop := (mv x y z = true ∧ e = 0 ∧ ∃ G, v = .slice (some ⟨G, 0, none⟩) (lg x y z) (lg x y z) ∧ Ints (lineL x y z) G w) ∨ (mv x y z = false ∧ e = 2 ∧ v = .slice none 0 0)
theorem LineR.later {x y z e : Int} {v : Value} {w w1 : World} (h : LineR x y z v e w) (hb : Below w.heap.size w w1) : LineR x y z v e w1 := by
  rcases h with ⟨h1, h2, G, h3, h4⟩ | h
  · exact .inl ⟨h1, h2, G, h3, h4.later hb⟩
  · exact .inr h
theorem line_r (x y z : Int) (w : World) : Calls Try.prog 7 #[v3 x y z] w fun e w' => ∃ v n, e = .returned (.tuple #[v, .int .i64 n]) ∧ LineR x y z v n w' ∧ Below w.heap.size w w' := by
  cases hm : mv x y z with
  | true => exact (line_yes x y z w hm).mono fun e w' ⟨G, h1, h2, h3, h4⟩ => ⟨_, _, h1, .inl ⟨hm, rfl, G, rfl, h3⟩, h4⟩
  | false => exact (line_no x y z w hm).mono fun e w' ⟨h1, h2⟩ => ⟨_, _, h1, .inr ⟨hm, rfl, rfl⟩, h2⟩
def CurveR (x y z q : Int) (v : Value) (e : Int) (w : World) : Prop := (mv x y z = true ∧ e = 0 ∧ ∃ (G p : Nat), q = (p : Nat) ∧ 1 ≤ p ∧ p ≤ 1000 ∧ v = .slice (some ⟨G, 0, none⟩) p p ∧ Pnts (curveL x y z p) G w) ∨ (mv x y z = true ∧ (q < 1 ∨ 1000 < q) ∧ e = 7 ∧ v = .slice none 0 0) ∨ (mv x y z = false ∧ e = 2 ∧ v = .slice none 0 0)
theorem CurveR.later {x y z q e : Int} {v : Value} {w w1 : World} (h : CurveR x y z q v e w) (hb : Below w.heap.size w w1) : CurveR x y z q v e w1 := by
  rcases h with ⟨h1, h2, G, p, h3, h4, h5, h6, h7⟩ | h
  · exact .inl ⟨h1, h2, G, p, h3, h4, h5, h6, h7.later hb⟩
  · exact .inr h
theorem curve_r (x y z q : Int) (w : World) : Calls Try.prog 11 #[v3 x y z, .int .i64 q] w fun e w' => ∃ v n, e = .returned (.tuple #[v, .int .i64 n]) ∧ CurveR x y z q v n w' ∧ Below w.heap.size w w' := by
  cases hm : mv x y z with
  | true =>
    by_cases hq : 1 ≤ q ∧ q ≤ 1000
    · obtain ⟨p, rfl⟩ : ∃ p : Nat, q = p := ⟨q.toNat, by omega⟩
      exact (curve_yes x y z p w hm (by omega) (by omega)).mono fun e w' ⟨G, h1, h2, h3, h4⟩ => ⟨_, _, h1, .inl ⟨hm, rfl, G, p, rfl, by omega, by omega, rfl, h3⟩, h4⟩
    · exact (curve_count x y z q w hm (by omega)).mono fun e w' ⟨h1, h2⟩ => ⟨_, _, h1, .inr (.inl ⟨hm, by omega, rfl, rfl⟩), h2⟩
  | false => exact (curve_no x y z q w hm).mono fun e w' ⟨h1, h2⟩ => ⟨_, _, h1, .inr (.inr ⟨hm, rfl, rfl⟩), h2⟩
def SumR (l : List Int) (a b c e : Int) : Prop := (refuP l = 0 ∧ e = 0 ∧ plc l l.length = ⟨a, b, c⟩) ∨ (¬ refuP l = 0 ∧ e = refuP l ∧ a = 0 ∧ b = 0 ∧ c = 0)
theorem ne_b {e : Int} (h : ¬ e = 0) : (e != 0) = true := by simpa using h
theorem sum_r (ao : Option Addr) (cap : Nat) (l : List Int) (w : World) (hR : RdI w ao l) (hl : l.length ≤ 9223372036854775807) :
    Calls Try.prog 8 #[.slice ao l.length cap] w fun e w' => ∃ a b c n, e = .returned (.tuple #[v3 a b c, .int .i64 n]) ∧ SumR l a b c n ∧ Below w.heap.size w w' := by
  by_cases h0 : refuP l = 0
  · exact (sum_ok ao cap l w hR h0).mono fun e w' ⟨h1, h2⟩ => ⟨_, _, _, _, h1, .inl ⟨h0, rfl, rfl⟩, h2⟩
  · exact (sum_no ao cap l w (refuP l) hR hl rfl (ne_b h0)).mono fun e w' ⟨h1, h2⟩ => ⟨_, _, _, _, h1, .inr ⟨h0, rfl, rfl, rfl, rfl⟩, h2⟩
def PlacesR (l : List Int) (v : Value) (e : Int) (w : World) : Prop := (refuP l = 0 ∧ e = 0 ∧ ∃ G, v = .slice (some ⟨G, 0, none⟩) l.length l.length ∧ Pnts (placesL l) G w) ∨ (¬ refuP l = 0 ∧ e = refuP l ∧ v = .slice none 0 0)
theorem PlacesR.later {l : List Int} {e : Int} {v : Value} {w w1 : World} (h : PlacesR l v e w) (hb : Below w.heap.size w w1) : PlacesR l v e w1 := by
  rcases h with ⟨h1, h2, G, h3, h4⟩ | h
  · exact .inl ⟨h1, h2, G, h3, h4.later hb⟩
  · exact .inr h
theorem places_r (ao : Option Addr) (cap : Nat) (l : List Int) (w : World) (hR : RdI w ao l) (hl : l.length ≤ 9223372036854775807) :
    Calls Try.prog 10 #[.slice ao l.length cap] w fun e w' => ∃ v n, e = .returned (.tuple #[v, .int .i64 n]) ∧ PlacesR l v n w' ∧ Below w.heap.size w w' := by
  by_cases h0 : refuP l = 0
  · exact (places_ok ao cap l w hR h0).mono fun e w' ⟨G, h1, h2, h3, h4⟩ => ⟨_, _, h1, .inl ⟨h0, rfl, G, rfl, h3⟩, h4⟩
  · exact (places_no ao cap l w (refuP l) hR hl rfl (ne_b h0)).mono fun e w' ⟨h1, h2⟩ => ⟨_, _, h1, .inr ⟨h0, rfl, rfl⟩, h2⟩
theorem refuP_all {l : List Int} (h : refuP l = 0) : ∀ b ∈ l, isP b = true := by
  unfold refuP at h
  split at h
  · cases h
  · split at h
    · rename_i ha
      exact List.all_eq_true.1 ha
    · cases h
set_option maxHeartbeats 6400000 in
set_option maxRecDepth 100000 in
theorem pulseLines_any (x y z q : Int) (ao : Option Addr) (cap : Nat) (l : List Int) (w : World) (hR : RdI w ao l) (hn : ao = none → cap = 0) (hreach : l.length * 8 ≤ 140737488351232) :
    Calls Try.prog 3 #[v3 x y z, .slice ao l.length cap, .int .i64 q] w fun e w' => e = .returned (.bool true) ∧ Below w.heap.size w w' := by
  have hl : l.length ≤ 9223372036854775807 := by omega
  have HL7 : Hid (∀ W, Calls Try.prog 7 #[v3 x y z] W fun e w' => ∃ v n, e = .returned (.tuple #[v, .int .i64 n]) ∧ LineR x y z v n w' ∧ Below W.heap.size W w') := line_r x y z
  have HL11 : Hid (∀ W, Calls Try.prog 11 #[v3 x y z, .int .i64 q] W fun e w' => ∃ v n, e = .returned (.tuple #[v, .int .i64 n]) ∧ CurveR x y z q v n w' ∧ Below W.heap.size W w') := curve_r x y z q
  have HL8 : Hid (∀ ao2 cap2 W, RdI W ao2 l → Calls Try.prog 8 #[.slice ao2 l.length cap2] W fun e w' => ∃ a b c n, e = .returned (.tuple #[v3 a b c, .int .i64 n]) ∧ SumR l a b c n ∧ Below W.heap.size W w') := fun ao2 cap2 W h => sum_r ao2 cap2 l W h hl
  have HL10 : Hid (∀ ao2 cap2 W, RdI W ao2 l → Calls Try.prog 10 #[.slice ao2 l.length cap2] W fun e w' => ∃ v n, e = .returned (.tuple #[v, .int .i64 n]) ∧ PlacesR l v n w' ∧ Below W.heap.size W w') := fun ao2 cap2 W h => places_r ao2 cap2 l W h hl
  have HL9 : Hid (∀ W, RdI W ao l → Calls Try.prog 9 #[.slice ao l.length cap] W fun e w' => ∃ ao2 cap2, e = .returned (.slice ao2 l.length cap2) ∧ RdI w' ao2 l ∧ Below W.heap.size W w') := fun W h => ints_any ao cap l W h hn hreach
  have HL12 : Hid (∀ W, RdI W ao l → Calls Try.prog 12 #[.slice ao l.length cap] W fun e w' => e = .returned (.int .i64 (refuP l)) ∧ w' = W) := fun W h => pulsesMay_any ao cap l W h hl
  have HL13 : Hid (∀ W, RdI W ao l → refuP l = 0 → Calls Try.prog 13 #[.slice ao l.length cap] W fun e w' => ∃ ao2 cap2, e = .returned (.slice ao2 l.length cap2) ∧ RdP w' ao2 (placesL l) ∧ Below W.heap.size W w') := fun W h h0 => pulsePlaces_any ao cap l W h (refuP_len h0) (refuP_all h0)
  have HLEN : Hid (refuP l = 0 → l.length ≤ 20000) := refuP_len
  obtain ⟨nL, hnL⟩ : ∃ n, n = l.length := ⟨_, rfl⟩
  obtain ⟨e0, he0⟩ : ∃ e, e = refuP l := ⟨_, rfl⟩
  rw [← hnL] at HL8 HL10 HL9 HL12 HL13 HLEN ⊢
  rw [← he0] at HL12 HL13 HLEN
  have HNL : Hid (nL = l.length) := hnL
  have HE0 : Hid (e0 = refuP l) := he0
  have HRw0 : Hid (RdI (w.alloc (o3 x y z 23)) ao l) := hR.later ((Below.refl _ _).alloc (Nat.le_refl _) _)
  have HBw0 : Hid (Below w.heap.size w (w.alloc (o3 x y z 23))) := (Below.refl _ _).alloc (Nat.le_refl _) _
  have KBw0 : Hid (Bk w.heap.size [.int .i64 x, .int .i64 y, .int .i64 z] (w.alloc (o3 x y z 23))) := Bk.new w [.int .i64 x, .int .i64 y, .int .i64 z] 23 _ rfl
  obtain ⟨B, hB⟩ : ∃ B, B = w.heap.size := ⟨_, rfl⟩
  obtain ⟨w0, hw0⟩ : ∃ w0, w0 = w.alloc (o3 x y z 23) := ⟨_, rfl⟩
  rw [← hw0] at HRw0 HBw0 KBw0
  rw [← hB] at KBw0
  clear hR hn hreach hl hnL he0
  go_enter Try.func3, Try.ntmps3
  go_upto_region 1 with fail
  try rw [← hw0]
  try simp only [← hB]
  clear hw0 hB
  have r0 := KBw0.out.c 0 rfl
  have r1 := KBw0.out.c 1 rfl
  have r2 := KBw0.out.c 2 rfl
  go_wp2_with fail
  refine (HL7.out _).mono ?_
  rintro e w1 ⟨av, ae, rfl, hr, hb⟩
  have HRw1 : Hid (RdI w1 ao l) := HRw0.out.later hb
  have KBw1 : Hid (Bk B [.int .i64 x, .int .i64 y, .int .i64 z] w1) := KBw0.out.later hb
  have HBw1 : Hid (Below w.heap.size w w1) := HBw0.out.trans (hb.mono HBw0.out.size)
  have HAw1 : Hid (LineR x y z av ae w1) := hr
  clear hr hb r0 r1 r2
  go_wp2_with fail
  refine (HL9.out _ HRw1.out).mono ?_
  rintro e w2 ⟨ao2, cap2, rfl, hr, hb⟩
  have HRw2 : Hid (RdI w2 ao l) := HRw1.out.later hb
  have KBw2 : Hid (Bk B [.int .i64 x, .int .i64 y, .int .i64 z] w2) := KBw1.out.later hb
  have HAw2 : Hid (LineR x y z av ae w2) := HAw1.out.later hb
  have HBw2 : Hid (Below w.heap.size w w2) := HBw1.out.trans (hb.mono HBw1.out.size)
  have HR2 : Hid (RdI w2 ao2 l) := hr
  clear hr hb
  go_wp2_with fail
  refine (HL8.out ao2 cap2 _ HR2.out).mono ?_
  rintro e w3 ⟨a, b, c, se, rfl, hr, hb⟩
  have HRw3 : Hid (RdI w3 ao l) := HRw2.out.later hb
  have KBw3 : Hid (Bk B [.int .i64 x, .int .i64 y, .int .i64 z] w3) := KBw2.out.later hb
  have HAw3 : Hid (LineR x y z av ae w3) := HAw2.out.later hb
  have HBw3 : Hid (Below w.heap.size w w3) := HBw2.out.trans (hb.mono HBw2.out.size)
  have HSR : Hid (SumR l a b c se) := hr
  clear hr hb
  go_upto_region 3 with fail
  obtain ⟨S, hS⟩ : ∃ S, S = w3.heap.size := ⟨_, rfl⟩
  obtain ⟨w4, hw4⟩ : ∃ k, k = w3.alloc (o3 a b c 23) := ⟨_, rfl⟩
  have hb : Below w3.heap.size w3 w4 := by rw [hw4]; exact (Below.refl _ _).alloc (Nat.le_refl _) _
  have KSw4 : Hid (Bk S [.int .i64 a, .int .i64 b, .int .i64 c] w4) := by show Bk _ _ _; rw [hw4, hS]; exact Bk.new w3 [.int .i64 a, .int .i64 b, .int .i64 c] 23 _ rfl
  have HRw4 : Hid (RdI w4 ao l) := HRw3.out.later hb
  have KBw4 : Hid (Bk B [.int .i64 x, .int .i64 y, .int .i64 z] w4) := KBw3.out.later hb
  have HAw4 : Hid (LineR x y z av ae w4) := HAw3.out.later hb
  have HBw4 : Hid (Below w.heap.size w w4) := HBw3.out.trans (hb.mono HBw3.out.size)
  try rw [← hw4]
  try simp only [← hS]
  clear hb hw4 hS
  go_wp2_with fail
  refine (HL9.out _ HRw4.out).mono ?_
  rintro e w5 ⟨ao3, cap3, rfl, hr, hb⟩
  have HRw5 : Hid (RdI w5 ao l) := HRw4.out.later hb
  have KBw5 : Hid (Bk B [.int .i64 x, .int .i64 y, .int .i64 z] w5) := KBw4.out.later hb
  have HAw5 : Hid (LineR x y z av ae w5) := HAw4.out.later hb
  have KSw5 : Hid (Bk S [.int .i64 a, .int .i64 b, .int .i64 c] w5) := KSw4.out.later hb
  have HBw5 : Hid (Below w.heap.size w w5) := HBw4.out.trans (hb.mono HBw4.out.size)
  have HR5 : Hid (RdI w5 ao3 l) := hr
  clear hr hb
  go_wp2_with fail
  refine (HL10.out ao3 cap3 _ HR5.out).mono ?_
  rintro e w6 ⟨pv, pe, rfl, hr, hb⟩
  have HRw6 : Hid (RdI w6 ao l) := HRw5.out.later hb
  have KBw6 : Hid (Bk B [.int .i64 x, .int .i64 y, .int .i64 z] w6) := KBw5.out.later hb
  have HAw6 : Hid (LineR x y z av ae w6) := HAw5.out.later hb
  have KSw6 : Hid (Bk S [.int .i64 a, .int .i64 b, .int .i64 c] w6) := KSw5.out.later hb
  have HBw6 : Hid (Below w.heap.size w w6) := HBw5.out.trans (hb.mono HBw5.out.size)
  have HPw6 : Hid (PlacesR l pv pe w6) := hr
  clear hr hb
  have r0 := KBw6.out.c 0 rfl
  have r1 := KBw6.out.c 1 rfl
  have r2 := KBw6.out.c 2 rfl
  go_wp2_with fail
  refine (HL11.out _).mono ?_
  rintro e w7 ⟨cv, ce, rfl, hr, hb⟩
  have HRw7 : Hid (RdI w7 ao l) := HRw6.out.later hb
  have KBw7 : Hid (Bk B [.int .i64 x, .int .i64 y, .int .i64 z] w7) := KBw6.out.later hb
  have HAw7 : Hid (LineR x y z av ae w7) := HAw6.out.later hb
  have KSw7 : Hid (Bk S [.int .i64 a, .int .i64 b, .int .i64 c] w7) := KSw6.out.later hb
  have HPw7 : Hid (PlacesR l pv pe w7) := HPw6.out.later hb
  have HBw7 : Hid (Below w.heap.size w w7) := HBw6.out.trans (hb.mono HBw6.out.size)
  have HCw7 : Hid (CurveR x y z q cv ce w7) := hr
  clear hr hb r0 r1 r2
  go_wp2_with fail
  refine (HL12.out _ HRw7.out).mono ?_
  rintro e w8 ⟨rfl, hw8⟩
  rw [hw8]
  clear hw8 w8
  go_upto_if 45 with fail
  obtain ⟨Z, hZ⟩ : ∃ Z, Z = w7.heap.size := ⟨_, rfl⟩
  obtain ⟨w8, hw8⟩ : ∃ k, k = w7.alloc (o3 0 0 0 23) := ⟨_, rfl⟩
  have hb : Below w7.heap.size w7 w8 := by rw [hw8]; exact (Below.refl _ _).alloc (Nat.le_refl _) _
  have KZ : Hid (Bk Z [.int .i64 0, .int .i64 0, .int .i64 0] w8) := by show Bk _ _ _; rw [hw8, hZ]; exact Bk.new w7 [.int .i64 0, .int .i64 0, .int .i64 0] 23 _ rfl
  have HRw8 : Hid (RdI w8 ao l) := HRw7.out.later hb
  have KBw8 : Hid (Bk B [.int .i64 x, .int .i64 y, .int .i64 z] w8) := KBw7.out.later hb
  have HAw8 : Hid (LineR x y z av ae w8) := HAw7.out.later hb
  have KSw8 : Hid (Bk S [.int .i64 a, .int .i64 b, .int .i64 c] w8) := KSw7.out.later hb
  have HPw8 : Hid (PlacesR l pv pe w8) := HPw7.out.later hb
  have HCw8 : Hid (CurveR x y z q cv ce w8) := HCw7.out.later hb
  have HBw8 : Hid (Below w.heap.size w w8) := HBw7.out.trans (hb.mono HBw7.out.size)
  try rw [← hw8]
  try simp only [← hZ]
  clear hb hw8 hZ
  go_cut [17, 18] from 46 to 92 (fun _ _ wc => Below w8.heap.size w8 wc)
  case first =>
    have s0 := KSw8.out.c 0 rfl
    have s1 := KSw8.out.c 1 rfl
    have s2 := KSw8.out.c 2 rfl
    have z0 := KZ.out.c 0 rfl
    have z1 := KZ.out.c 1 rfl
    have z2 := KZ.out.c 2 rfl
    by_cases h0 : e0 = 0
    · subst h0
      have h0 : refuP l = 0 := HE0.out.symm
      rcases HSR.out with ⟨_, hse, hpl⟩ | ⟨h1, _⟩
      rotate_left
      · exact absurd h0 h1
      rcases HPw8.out with ⟨_, hpe, G, hpv, hpn⟩ | ⟨h1, _⟩
      rotate_left
      · exact absurd h0 h1
      rw [← HNL.out] at hpl hpv
      subst hse hpe hpv
      have hl2 := HLEN.out rfl
      have HPN : Hid (Pnts (placesL l) G w8) := hpn
      have HPLC : Hid (plc l nL = ⟨a, b, c⟩) := hpl
      have H13 : Hid (Calls Try.prog 13 #[.slice ao nL cap] w8 fun e w' => ∃ ao2 cap2, e = .returned (.slice ao2 nL cap2) ∧ RdP w' ao2 (placesL l) ∧ Below w8.heap.size w8 w') := HL13.out w8 HRw8.out rfl
      have H14 : Hid (∀ ao9 c1 c2 W, Pnts (placesL l) G W → RdP W ao9 (placesL l) → Calls Try.prog 14 #[.slice (some ⟨G, 0, none⟩) nL c1, .slice ao9 nL c2] W fun e w' => e = .returned (.bool true) ∧ Below W.heap.size W w') := fun ao9 c1 c2 W h1 h2 => samePoints_any (placesL l) G nL c1 c2 ao9 W (by rw [placesL_length, HNL.out]) hl2 h1 h2
      clear hpn hpl h0
      go_wp2_with fail
      refine Calls.mono H13.out ?_
      rintro e w9 ⟨ao9, cap9, rfl, hr, hb⟩
      have HR9 : Hid (RdP w9 ao9 (placesL l)) := hr
      have HPN9 : Hid (Pnts (placesL l) G w9) := HPN.out.later hb
      have KS9 : Hid (Bk S [.int .i64 a, .int .i64 b, .int .i64 c] w9) := KSw8.out.later hb
      have KZ9 : Hid (Bk Z [.int .i64 0, .int .i64 0, .int .i64 0] w9) := KZ.out.later hb
      have HB9 : Hid (Below w8.heap.size w8 w9) := hb
      clear hr hb s0 s1 s2 z0 z1 z2
      have z0 := KZ9.out.c 0 rfl
      have z1 := KZ9.out.c 1 rfl
      have z2 := KZ9.out.c 2 rfl
      go_upto_region 12 with fail
      obtain ⟨T, hT⟩ : ∃ T, T = w9.heap.size := ⟨_, rfl⟩
      obtain ⟨w10, hw10⟩ : ∃ k, k = w9.alloc (o3 0 0 0 23) := ⟨_, rfl⟩
      have hb : Below w9.heap.size w9 w10 := by rw [hw10]; exact (Below.refl _ _).alloc (Nat.le_refl _) _
      have KT : Hid (Bk T [.int .i64 0, .int .i64 0, .int .i64 0] w10) := by show Bk _ _ _; rw [hw10, hT]; exact Bk.new w9 [.int .i64 0, .int .i64 0, .int .i64 0] 23 _ rfl
      have HBT : Hid (Below w9.heap.size w9 w10) := hb
      have HTT : Hid (w9.heap.size ≤ T) := by show _ ≤ _; omega
      try rw [← hw10]
      try simp only [← hT]
      clear hb hw10 hT z0 z1 z2
      by_cases hlen : nL = 0
      · subst hlen
        have HR10 : Hid (RdP w10 ao9 (placesL l)) := HR9.out.later HBT.out
        have HPN10 : Hid (Pnts (placesL l) G w10) := HPN9.out.later HBT.out
        have KS10 : Hid (Bk S [.int .i64 a, .int .i64 b, .int .i64 c] w10) := KS9.out.later HBT.out
        have HB10 : Hid (Below w8.heap.size w8 w10) := HB9.out.trans (HBT.out.mono HB9.out.size)
        have H14a : Hid (Calls Try.prog 14 #[.slice (some ⟨G, 0, none⟩) 0 0, .slice ao9 0 cap9] w10 fun e w' => e = .returned (.bool true) ∧ Below w10.heap.size w10 w') := H14.out ao9 0 cap9 w10 HPN10.out HR10.out
        have habc : a = 0 ∧ b = 0 ∧ c = 0 := by
          have := HPLC.out
          unfold plc at this
          injection this with e1 e2 e3
          exact ⟨e1.symm, e2.symm, e3.symm⟩
        obtain ⟨rfl, rfl, rfl⟩ := habc
        clear HPLC
        have s0 := KS10.out.c 0 rfl
        have s1 := KS10.out.c 1 rfl
        have s2 := KS10.out.c 2 rfl
        have t0 := KT.out.c 0 rfl
        have t1 := KT.out.c 1 rfl
        have t2 := KT.out.c 2 rfl
        go_wp2_with fail
        refine Calls.mono H14a.out ?_
        rintro e w11 ⟨rfl, hb⟩
        have HB11 : Hid (Below w8.heap.size w8 w11) := HB10.out.trans (hb.mono HB10.out.size)
        clear hb
        go_wp2
        go_meet
        exact HB11.out
      · obtain ⟨m, rfl⟩ : ∃ m, nL = m + 1 := ⟨nL - 1, by omega⟩
        have hk : m < (placesL l).length := by rw [placesL_length, ← HNL.out]; omega
        obtain ⟨b9, off9, rfl, y0, y1, y2⟩ := (HR9.out.later HBT.out).at hk
        rw [placesL_at, HPLC.out] at y0 y1 y2
        clear hk HPLC hlen
        have t0 := KT.out.c 0 rfl
        have t1 := KT.out.c 1 rfl
        have t2 := KT.out.c 2 rfl
        have f0 := KT.out.f 0 rfl
        have f1 := KT.out.f 1 rfl
        have f2 := KT.out.f 2 rfl
        go_upto_region 14 with fail
        clear t0 t1 t2 f0 f1 f2 y0 y1 y2
        obtain ⟨w11, hw11⟩ : ∃ k : World, k = ((w10.setCell ⟨T, 0, none⟩ (.int .i64 a)).setCell ⟨T, 1, none⟩ (.int .i64 b)).setCell ⟨T, 2, none⟩ (.int .i64 c) := ⟨_, rfl⟩
        rw [← hw11]
        have HBU : Hid (Below w9.heap.size w9 w11) := by show Below _ _ _; rw [hw11]; exact ((HBT.out.setCell HTT.out _).setCell HTT.out _).setCell HTT.out _
        have KT11 : Hid (Bk T [.int .i64 a, .int .i64 b, .int .i64 c] w11) := by show Bk _ _ _; rw [hw11]; exact ((KT.out.put 0 _).put 1 _).put 2 _
        have KS11 : Hid (Bk S [.int .i64 a, .int .i64 b, .int .i64 c] w11) := KS9.out.later HBU.out
        have HB11 : Hid (Below w8.heap.size w8 w11) := HB9.out.trans (HBU.out.mono HB9.out.size)
        have H14a : Hid (Calls Try.prog 14 #[.slice (some ⟨G, 0, none⟩) (m + 1) (m + 1), .slice (some ⟨b9, off9, none⟩) (m + 1) cap9] w11 fun e w' => e = .returned (.bool true) ∧ Below w11.heap.size w11 w') := H14.out _ (m + 1) cap9 w11 (HPN9.out.later HBU.out) (HR9.out.later HBU.out)
        clear hw11
        have s0 := KS11.out.c 0 rfl
        have s1 := KS11.out.c 1 rfl
        have s2 := KS11.out.c 2 rfl
        have t0 := KT11.out.c 0 rfl
        have t1 := KT11.out.c 1 rfl
        have t2 := KT11.out.c 2 rfl
        go_wp2_with fail
        refine Calls.mono H14a.out ?_
        rintro e w12 ⟨rfl, hb⟩
        have HB12 : Hid (Below w8.heap.size w8 w12) := HB11.out.trans (hb.mono HB11.out.size)
        clear hb
        go_wp2
        go_meet
        exact HB12.out
    · have hne : (e0 != 0) = true := ne_b h0
      have h00 : ¬ refuP l = 0 := by rw [← HE0.out]; exact h0
      rcases HSR.out with ⟨h1, _⟩ | ⟨_, hse, rfl, rfl, rfl⟩
      · exact absurd h1 h00
      rcases HPw8.out with ⟨h1, _⟩ | ⟨_, hpe, hpv⟩
      · exact absurd h1 h00
      rw [← HE0.out] at hse hpe
      subst hse hpe hpv
      clear h0 h00
      go_wp2
      go_meet
      exact Below.refl _ _
  case rest =>
    have HBC : Hid (Below w8.heap.size w8 wc) := hcut
    obtain ⟨w20, hww⟩ : ∃ k : World, k = wc := ⟨_, rfl⟩
    subst hww
    clear hcut
    have KB20 : Hid (Bk B [.int .i64 x, .int .i64 y, .int .i64 z] w20) := KBw8.out.later HBC.out
    have HA20 : Hid (LineR x y z av ae w20) := HAw8.out.later HBC.out
    have HC20 : Hid (CurveR x y z q cv ce w20) := HCw8.out.later HBC.out
    have HB20 : Hid (Below w.heap.size w w20) := HBw8.out.trans (HBC.out.mono HBw8.out.size)
    have r0 := KB20.out.c 0 rfl
    have r1 := KB20.out.c 1 rfl
    have r2 := KB20.out.c 2 rfl
    cases hm : mv x y z with
    | false =>
      have H15 : Hid (∀ W, Calls Try.prog 15 #[v3 x y z] W fun e w' => e = .returned (.bool false) ∧ Below W.heap.size W w') := fun W => (moveMay_any x y z W).mono fun e w' ⟨h1, h2⟩ => ⟨hm ▸ h1, h2⟩
      rcases HA20.out with ⟨h1, _⟩ | ⟨_, rfl, rfl⟩
      · rw [hm] at h1; cases h1
      rcases HC20.out with ⟨h1, _⟩ | ⟨h1, _⟩ | ⟨_, rfl, rfl⟩
      · rw [hm] at h1; cases h1
      · rw [hm] at h1; cases h1
      clear hm
      go_wp2_with fail
      refine (H15.out _).mono ?_
      rintro e w21 ⟨rfl, hb⟩
      have HB21 : Hid (Below w.heap.size w w21) := HB20.out.trans (hb.mono HB20.out.size)
      clear hb
      go_wp2
      go_ret
      exact ⟨rfl, HB21.out⟩
    | true =>
      have H15 : Hid (∀ W, Calls Try.prog 15 #[v3 x y z] W fun e w' => e = .returned (.bool true) ∧ Below W.heap.size W w') := fun W => (moveMay_any x y z W).mono fun e w' ⟨h1, h2⟩ => ⟨hm ▸ h1, h2⟩
      have H17 : Hid (∀ W, Calls Try.prog 17 #[v3 x y z] W fun e w' => ∃ ao cap, e = .returned (.slice ao (lg x y z) cap) ∧ RdI w' ao (lineL x y z) ∧ Below W.heap.size W w') := fun W => lineOf_any x y z W hm
      have H16 : Hid (∀ G ao c1 c2 W, Ints (lineL x y z) G W → RdI W ao (lineL x y z) → Calls Try.prog 16 #[.slice (some ⟨G, 0, none⟩) (lg x y z) c1, .slice ao (lg x y z) c2] W fun e w' => e = .returned (.bool true) ∧ Below W.heap.size W w') := fun G ao c1 c2 W h1 h2 => sameInts_any (lineL x y z) G (lg x y z) c1 c2 ao W (lineL_length x y z) (lg_le hm) h1 h2
      have HMT : Hid (mv x y z = true) := hm
      rcases HA20.out with ⟨_, rfl, G1, rfl, hi⟩ | ⟨h1, _⟩
      rotate_left
      · rw [hm] at h1; cases h1
      have HI20 : Hid (Ints (lineL x y z) G1 w20) := hi
      generalize lg x y z = n at *
      clear hm hi
      go_wp2_with fail
      refine (H15.out _).mono ?_
      rintro e w21 ⟨rfl, hb⟩
      have HB21 : Hid (Below w.heap.size w w21) := HB20.out.trans (hb.mono HB20.out.size)
      have HI21 : Hid (Ints (lineL x y z) G1 w21) := HI20.out.later hb
      have KB21 : Hid (Bk B [.int .i64 x, .int .i64 y, .int .i64 z] w21) := KB20.out.later hb
      have HC21 : Hid (CurveR x y z q cv ce w21) := HC20.out.later hb
      clear hb r0 r1 r2
      have r0 := KB21.out.c 0 rfl
      have r1 := KB21.out.c 1 rfl
      have r2 := KB21.out.c 2 rfl
      go_wp2_with fail
      refine (H17.out _).mono ?_
      rintro e w22 ⟨ao5, cap5, rfl, hr, hb⟩
      have HR22 : Hid (RdI w22 ao5 (lineL x y z)) := hr
      have HB22 : Hid (Below w.heap.size w w22) := HB21.out.trans (hb.mono HB21.out.size)
      have HI22 : Hid (Ints (lineL x y z) G1 w22) := HI21.out.later hb
      have KB22 : Hid (Bk B [.int .i64 x, .int .i64 y, .int .i64 z] w22) := KB21.out.later hb
      have HC22 : Hid (CurveR x y z q cv ce w22) := HC21.out.later hb
      clear hb hr r0 r1 r2
      go_wp2_with fail
      refine (H16.out G1 ao5 _ _ _ HI22.out HR22.out).mono ?_
      rintro e w23 ⟨rfl, hb⟩
      have HB23 : Hid (Below w.heap.size w w23) := HB22.out.trans (hb.mono HB22.out.size)
      have KB23 : Hid (Bk B [.int .i64 x, .int .i64 y, .int .i64 z] w23) := KB22.out.later hb
      have HC23 : Hid (CurveR x y z q cv ce w23) := HC22.out.later hb
      clear hb
      rcases HC23.out with ⟨_, rfl, G, p, rfl, hp1, hp2, rfl, hpn⟩ | ⟨_, hq, rfl, rfl⟩ | ⟨h1, _⟩
      rotate_left
      · go_wp2
        all_goals
          go_ret
          exact ⟨rfl, HB23.out⟩
      · rw [HMT.out] at h1; cases h1
      · have HPN : Hid (Pnts (curveL x y z p) G w23) := hpn
        have H18 : Hid (∀ W, Calls Try.prog 18 #[v3 x y z, .int .i64 (p : Nat)] W fun e w' => ∃ ao cap, e = .returned (.slice ao p cap) ∧ RdP w' ao (curveL x y z p) ∧ Below W.heap.size W w') := fun W => curveParts_any x y z p W HMT.out hp1 hp2
        have H14 : Hid (∀ ao c1 c2 W, Pnts (curveL x y z p) G W → RdP W ao (curveL x y z p) → Calls Try.prog 14 #[.slice (some ⟨G, 0, none⟩) p c1, .slice ao p c2] W fun e w' => e = .returned (.bool true) ∧ Below W.heap.size W w') := fun ao c1 c2 W h1 h2 => samePoints_any (curveL x y z p) G p c1 c2 ao W (curveL_length x y z p) (by omega) h1 h2
        have hp3 : (1 : Int) ≤ p := by omega
        have hp4 : (p : Int) ≤ 1000 := by omega
        clear hpn
        have r0 := KB23.out.c 0 rfl
        have r1 := KB23.out.c 1 rfl
        have r2 := KB23.out.c 2 rfl
        go_wp2_with fail
        refine (H18.out _).mono ?_
        rintro e w24 ⟨ao6, cap6, rfl, hr, hb⟩
        have HR24 : Hid (RdP w24 ao6 (curveL x y z p)) := hr
        have HP24 : Hid (Pnts (curveL x y z p) G w24) := HPN.out.later hb
        have HB24 : Hid (Below w.heap.size w w24) := HB23.out.trans (hb.mono HB23.out.size)
        clear hr hb r0 r1 r2
        go_wp2_with fail
        refine (H14.out ao6 _ _ _ HP24.out HR24.out).mono ?_
        rintro e w25 ⟨rfl, hb⟩
        have HB25 : Hid (Below w.heap.size w w25) := HB24.out.trans (hb.mono HB24.out.size)
        clear hb
        go_wp2
        go_ret
        exact ⟨rfl, HB25.out⟩
end Go.Proofs.Ytanmfhaiahhoeaa
