/- FirmGoesOn walked, where all can be done. -/
import Derived.Test.YtgahlhfgpkklaaaDoorFW
namespace Go.Proofs.YtgahlhfgpkklaaaDoor
open Go.RowKit Go.Maps

/-- What holds in the loop of FirmGoesOn. -/
structure GoI (a : Nat → Addr) (n : Nat) (r : Rg) (l : List Cm) (R X G : Nat) (g : Fm) (ao : Option Addr) (w : World) (i : Nat) (W : World) : Prop where
  kr : Bk R (rgc r) W
  kx : Bk X (fc (stF r f0 (l.take i))) W
  kg : Bk G (fc g) W
  gl : Gl a n W
  rd : RdC W ao l
  low : Below w.heap.size w W
set_option maxHeartbeats 6400000 in
set_option maxRecDepth 100000 in
theorem goesOn_c (a : Nat → Addr) (n : Nat) (r : Rg) (ao : Option Addr) (cap : Nat) (l : List Cm) (cut : Int) (w : World) (hg : Gl a n w) (hR : RdC w ao l) (hl : l.length * 40 ≤ 140737488351232) (hc1 : -9223372036854775808 ≤ cut) (hc2 : cut ≤ 9223372036854775807) (hcap : l.length ≤ cap) (h : rgOk r = true) (he : (runC r f0 0 l).2.2 = 0) : Calls Tryd.prog 6 #[rgv r, .slice ao l.length cap, .int .i64 cut] w fun e w' => e = .returned (.bool true) ∧ Below w.heap.size w w' := by
  have HDo : Hid (∀ W, Gl a n W → Calls Tryd.prog 9 #[rgv r1, fv f0, cmv c1] W fun e w' => e = .returned (.tuple #[.agg #[.bool true, .int .i64 0, .int .i64 0, .int .i64 0, .int .i64 0, .bool false, .int .i64 0, .int .i64 0, .int .i64 90], .int .i64 0]) ∧ Below W.heap.size W w') := fun W hW => by
    have := Do_any a n r1 f0 c1 W hW
    rw [home1.1, home1.2] at this
    exact this
  obtain ⟨w0, hw0⟩ : ∃ x, x = (w.alloc (rgo r)).alloc r1o := ⟨_, rfl⟩
  have HB0 : Hid (Below w.heap.size w w0) := by show Below _ _ _; rw [hw0]; exact two_new _ _ _
  have KR0 : Hid (Bk w.heap.size (rgc r) w0) := by show Bk _ _ _; rw [hw0]; exact (Bk.new w (rgc r) 27 w.heap.size rfl).later (one_new _ _)
  have HG0 : Hid (Gl a n w0) := hg.later HB0.out
  have HRd : Hid (RdC w ao l) := hR
  obtain ⟨R, hRe⟩ : ∃ b, b = w.heap.size := ⟨_, rfl⟩
  rw [← hRe] at KR0
  have hRw0 : w.heap.size ≤ R := by omega
  obtain ⟨len, hlen⟩ : ∃ x, x = l.length := ⟨_, rfl⟩
  have HLen : Hid (len = l.length) := hlen
  rw [← hlen] at hl
  rw [← hlen]
  have hk := run_len he
  rw [← hlen, Nat.zero_add] at hk
  obtain ⟨g, hge⟩ : ∃ g, g = (runC r f0 0 l).1 := ⟨_, rfl⟩
  have HGS : Hid (stF r f0 l = g) := by show _ = _; rw [hge, run_st he]
  have HRn : Hid (∀ W, Gl a n W → RdC W ao l → Calls Tryd.prog 15 #[rgv r, .slice ao len cap] W fun e w' => e = .returned (.tuple #[fv g, .int .i64 (len : Int), .int .i64 0]) ∧ Below W.heap.size W w') := fun W hW hr2 => by
    have := Run_b a n r ao cap l W hW h hr2 (by omega)
    rwa [← hge, hk, he, ← hlen] at this
  obtain ⟨n0, hp1, hp2⟩ := pkd_nat (x := cut) (n := len)
  have HPk : Hid (∀ W, Calls Tryd.prog 18 #[.int .i64 cut, .int .i64 ((len : Int) + 1)] W fun e w' => e = .returned (.int .i64 (n0 : Int)) ∧ w' = W) := fun W => by rw [← hp1]; exact picked_any cut ((len : Int) + 1) W hc1 hc2 (by omega) (by omega)
  obtain ⟨x, hxe⟩ : ∃ x, x = stF r f0 (l.take n0) := ⟨_, rfl⟩
  have HRt : Hid (∀ W, Gl a n W → RdC W ao l → Calls Tryd.prog 15 #[rgv r, .slice ao n0 cap] W fun e w' => e = .returned (.tuple #[fv x, .int .i64 (n0 : Int), .int .i64 0]) ∧ Below W.heap.size W w') := fun W hW hr2 => by
    have ht := run_take n0 he
    have hl2 : (l.take n0).length = n0 := by rw [List.length_take]; omega
    have hlt := run_len ht
    rw [hl2, Nat.zero_add] at hlt
    have := Run_b a n r ao cap (l.take n0) W hW h (hr2.take n0) (by omega)
    rwa [run_st ht, hlt, ht, hl2, ← hxe] at this
  have HX0 : Hid (x = stF r f0 (l.take n0)) := hxe
  have HDo2 : Hid (∀ i (hi : i < l.length) W, Gl a n W → Calls Tryd.prog 9 #[rgv r, fv (stF r f0 (l.take i)), cmv (l[i]'hi)] W fun e w' => e = .returned (.tuple #[fv (stF r f0 (l.take (i + 1))), .int .i64 0]) ∧ Below W.heap.size W w') := fun i hi W hW => by
    have := Do_any a n r (stF r f0 (l.take i)) (l[i]'hi) W hW
    rwa [(st_do h he hi).1, (st_do h he hi).2] at this
  rw [← hlen] at hcap
  have HGn : Hid (n ≤ w.heap.size) := hg.size
  have HRb : Hid (∀ b o, l ≠ [] → ao = some ⟨b, o, none⟩ → b < w.heap.size) := fun b o hne e => by
    rcases hR with h0 | ⟨b', o', h1, h2, _⟩
    · exact absurd h0 hne
    · rw [h1] at e; injection e with e; injection e with e1 e2; omega
  clear h he hk hge hxe hp1 hc1 hc2
  clear hlen hg hR
  go_enter Tryd.func6, Tryd.ntmps6
  go_wp2_with (refine wpList_store_new rfl 27 _ _ rfl (w.alloc (rgo r)) (w.heap.size + 1) _ _ rfl (by simp) rfl rfl info27 rfl (by kernel_rfl) ?_)
  simp only [show (w.alloc (rgo r)).alloc r1o = w0 from hw0.symm]
  simp only [← hRe]
  clear hw0 hRe
  refine Calls.mono (HDo.out _ HG0.out) ?_
  rintro e w1 ⟨rfl, hb1⟩
  obtain ⟨w2, hw2⟩ : ∃ x, x = w1.alloc (.cells (fc f1).toArray 29) := ⟨_, rfl⟩
  have HB2 : Hid (Below w.heap.size w w2) := by show Below _ _ _; rw [hw2]; exact below_on (below_on HB0.out hb1) (one_new _ _)
  have KR2 : Hid (Bk R (rgc r) w2) := by show Bk _ _ _; rw [hw2]; exact (KR0.out.later hb1).later (one_new _ _)
  have HG2 : Hid (Gl a n w2) := by show Gl _ _ _; rw [hw2]; exact (HG0.out.later hb1).later (one_new _ _)
  have KR1 := KR0.out.later hb1
  have r0 := KR1.c 0 rfl
  have r1 := KR1.c 1 rfl
  have r2 := KR1.c 2 rfl
  have r3 := KR1.c 3 rfl
  have r4 := KR1.c 4 rfl
  have r5 := KR1.c 5 rfl
  have r6 := KR1.c 6 rfl
  have r7 := KR1.c 7 rfl
  have r8 := KR1.c 8 rfl
  have r9 := KR1.c 9 rfl
  have r10 := KR1.c 10 rfl
  have r11 := KR1.c 11 rfl
  have hRw : R < w1.heap.size := KR1.1
  clear hb1 KR0 HG0 HB0 KR1
  go_wp2_with fail
  simp only [show w1.alloc (.cells #[.bool true, .int .i64 0, .int .i64 0, .int .i64 0, .int .i64 0, .bool false, .int .i64 0, .int .i64 0, .int .i64 90] 29) = w2 from hw2.symm]
  clear hw2 hRw r0 r1 r2 r3 r4 r5 r6 r7 r8 r9 r10 r11
  refine Calls.mono (HRn.out _ HG2.out (HRd.out.later HB2.out)) ?_
  rintro e w3 ⟨rfl, hb3⟩
  obtain ⟨w4, hw4⟩ : ∃ y, y = w3.alloc (fo g) := ⟨_, rfl⟩
  have hb4 : Below w2.heap.size w2 w4 := by rw [hw4]; exact below_on hb3 (one_new _ _)
  have HB4 : Hid (Below w.heap.size w w4) := below_on HB2.out hb4
  have HG4 : Hid (Gl a n w4) := HG2.out.later hb4
  have KR4 : Hid (Bk R (rgc r) w4) := KR2.out.later hb4
  have KG4 : Hid (Bk w3.heap.size (fc g) w4) := by show Bk _ _ _; rw [hw4]; exact Bk.new w3 (fc g) 29 w3.heap.size rfl
  obtain ⟨G, hG⟩ : ∃ b, b = w3.heap.size := ⟨_, rfl⟩
  rw [← hG] at KG4
  have hwG : w.heap.size ≤ G := by rw [hG]; exact Nat.le_trans HB2.out.size hb3.size
  clear hb3 hb4 HG2 KR2
  go_wp2_with fail
  simp only [← hw4, ← hG]
  have HRd4 : Hid (RdC w4 ao l) := HRd.out.later HB4.out
  have KR2 : Hid (Bk R (rgc r) w4) := KR4.out
  clear hw4 hG KR4 HB2 HRd
  refine (HPk.out _).mono ?_
  rintro e w5 ⟨rfl, hw5⟩
  subst w5
  go_wp2_with fail
  rename_i KK hkk
  have HKK := (show Hid _ from hkk)
  clear hkk
  refine region_all [false, false, false, false, false, false, false, false, false, false, false, false, false, true, true, true, false, false, false, false, false, false, false, false, false, false, false, false, false, false, false, false, false, false, false, false, false, false, false, false, false, false, false, false, false, false, false, false, false, false, false, false, false, false, false, false, false, false, false, false, false, false, true, true, true, true, true, true, true, true, true, false, false, false, false, false, false, false, false, false, false, false, false, false, false, false, false, false, false, false, false, false, false, false, false, false, false, false, false, false, false, false, false, false, false, false, false]
    [([], [63], none), ([], [64], none), ([], [65], none), ([1, 2], [66], none), ([0, 3], [67], none), ([4], [62], none), ([5], [68], none), ([5], [69], none), ([5], [70], none), ([], [13], none), ([9, 6], [13], none), ([7], [14], none), ([8], [15], none)]
    (gnV w4.heap.size R r x ao len cap n0) (fun _ _ => True) (by kernel_rfl) (by kernel_rfl) (fun _ _ => trivial) ?_ ?_
  · refine ⟨?_, ?_, ?_, ?_, ?_, ?_, ?_, ?_, ?_, ?_, ?_, ?_, ?_, trivial⟩
    · intro f w1 hb hJ _ K hK
      have q0 := (KR2.out.later hb).c 0 rfl
      have q1 := (KR2.out.later hb).c 1 rfl
      have q2 := (KR2.out.later hb).c 2 rfl
      have q3 := (KR2.out.later hb).c 3 rfl
      have q4 := (KR2.out.later hb).c 4 rfl
      have q5 := (KR2.out.later hb).c 5 rfl
      have q6 := (KR2.out.later hb).c 6 rfl
      have q7 := (KR2.out.later hb).c 7 rfl
      have q8 := (KR2.out.later hb).c 8 rfl
      have q9 := (KR2.out.later hb).c 9 rfl
      have q10 := (KR2.out.later hb).c 10 rfl
      have q11 := (KR2.out.later hb).c 11 rfl
      simp only [over, overL, Nat.reduceAdd]
      go_simp
      exact hK _ _ ⟨_, by simp only [over, overL, Nat.reduceAdd]; rfl, rfl, hb, trivial, fun _ h => h⟩
    · intro f w1 hb hJ _ K hK
      simp only [over, overL, Nat.reduceAdd]
      go_simp
      exact hK _ _ ⟨_, by simp only [over, overL, Nat.reduceAdd]; rfl, rfl, hb, trivial, fun _ h => h⟩
    · intro f w1 hb hJ _ K hK
      simp only [over, overL, Nat.reduceAdd]
      go_simp
      exact hK _ _ ⟨_, by simp only [over, overL, Nat.reduceAdd]; rfl, rfl, hb, trivial, fun _ h => h⟩
    · intro f w1 hb hJ ⟨h64, h65, _⟩ K hK
      replace h64 : f 64 = _ := h64
      replace h65 : f 65 = _ := h65
      have hn0 : n0 ≤ cap := by omega
      simp only [over, overL, Nat.reduceAdd, h64, h65]
      go_simp
      exact hK _ _ ⟨_, by simp only [over, overL, Nat.reduceAdd, h64, h65]; rfl, rfl, hb, trivial, fun _ h => h⟩
    · intro f w1 hb hJ ⟨h63, h66, _⟩ K hK
      replace h63 : f 63 = _ := h63
      replace h66 : f 66 = _ := h66
      simp only [over, overL, Nat.reduceAdd, h63, h66]
      go_simp
      refine Calls.mono (HRt.out _ (HG4.out.later hb) (HRd4.out.later hb)) ?_
      rintro e w2 ⟨rfl, hb2⟩
      exact hK _ _ ⟨_, by simp only [over, overL, Nat.reduceAdd, h63, h66]; rfl, rfl, below_on hb hb2, trivial, fun j h => gnV_mono w4.heap.size R r x ao len cap n0 j _ _ _ h hb2⟩
    · intro f w1 hb hJ ⟨h67, _⟩ K hK
      replace h67 : f 67 = _ := h67
      simp only [over, overL, Nat.reduceAdd, h67]
      go_simp
      exact hK _ _ ⟨_, by simp only [over, overL, Nat.reduceAdd, h67]; rfl, rfl, hb, trivial, fun _ h => h⟩
    · intro f w1 hb hJ ⟨h62, _⟩ K hK
      replace h62 : f 62 = _ := h62
      simp only [over, overL, Nat.reduceAdd, h62]
      go_simp
      exact hK _ _ ⟨_, by simp only [over, overL, Nat.reduceAdd, h62]; rfl, rfl, hb, trivial, fun _ h => h⟩
    · intro f w1 hb hJ ⟨h62, _⟩ K hK
      replace h62 : f 62 = _ := h62
      simp only [over, overL, Nat.reduceAdd, h62]
      go_simp
      exact hK _ _ ⟨_, by simp only [over, overL, Nat.reduceAdd, h62]; rfl, rfl, hb, trivial, fun _ h => h⟩
    · intro f w1 hb hJ ⟨h62, _⟩ K hK
      replace h62 : f 62 = _ := h62
      simp only [over, overL, Nat.reduceAdd, h62]
      go_simp
      exact hK _ _ ⟨_, by simp only [over, overL, Nat.reduceAdd, h62]; rfl, rfl, hb, trivial, fun _ h => h⟩
    · intro f w1 hb hJ _ K hK
      simp only [over, overL, Nat.reduceAdd]
      go_simp
      exact hK _ _ ⟨_, by simp only [over, overL, Nat.reduceAdd]; rfl, ⟨w1.heap.size, zfc, rfl, hb.size, rfl, Bk.new w1 zfc 29 w1.heap.size rfl⟩, below_on hb (one_new _ _), trivial, fun j h => gnV_mono w4.heap.size R r x ao len cap n0 j _ _ _ h (one_new _ _)⟩
    · intro f w1 hb hJ ⟨h13, h68, _⟩ K hK
      replace h68 : f 68 = _ := h68
      obtain ⟨b9, cs9, h13, hm9, hl9, KB9⟩ := (show NwF _ (f 13) w1 from h13)
      simp only [over, overL, Nat.reduceAdd, h68, h13]
      refine wp_store_mid 29 _ _ rfl b9 0 (fc x).toArray rfl rfl (KB9.there (Nat.le_of_eq (by rw [hl9]; rfl))) info29 (by kernel_rfl) ?_
      exact hK _ _ ⟨undef, by simp only [over, overL, Nat.reduceAdd, h68, h13], ⟨b9, h13, hm9, KB9.setAll (fc x) (by rw [hl9]; rfl)⟩, hb.trans (low_setCells hm9 _ _ _), trivial, fun j h => gnV_put w4.heap.size R r x ao len cap n0 j _ w1 KB9 hl9 h⟩
    · intro f w1 hb hJ ⟨h69, _⟩ K hK
      replace h69 : f 69 = _ := h69
      simp only [over, overL, Nat.reduceAdd, h69]
      go_simp
      exact hK _ _ ⟨_, by simp only [over, overL, Nat.reduceAdd, h69]; rfl, rfl, hb, trivial, fun _ h => h⟩
    · intro f w1 hb hJ ⟨h70, _⟩ K hK
      replace h70 : f 70 = _ := h70
      simp only [over, overL, Nat.reduceAdd, h70]
      go_simp
      exact hK _ _ ⟨_, by simp only [over, overL, Nat.reduceAdd, h70]; rfl, rfl, hb, trivial, fun _ h => h⟩
  · intro fr w6 hb6 hJ hv
    have h14 : fr 14 = .int .i64 (n0 : Int) := hv.2.2.2.2.2.2.2.2.2.2.2.1
    have h15 : fr 15 = .int .i64 0 := hv.2.2.2.2.2.2.2.2.2.2.2.2.1
    obtain ⟨X, h13, hX, KX⟩ := (show IsF w4.heap.size x (fr 13) w6 from hv.2.2.2.2.2.2.2.2.2.2.1)
    have HI6 : Hid (GoI a n r l R X G g ao w n0 w6) := ⟨KR2.out.later hb6, by rw [← HX0.out]; exact KX, KG4.out.later hb6, HG4.out.later hb6, HRd4.out.later hb6, below_on HB4.out hb6⟩
    have HXb : Hid (w.heap.size ≤ X ∧ X ≠ R ∧ X ≠ G) := by
      have h1 := HB4.out.size
      have h2 := KR2.out.1
      have h3 := KG4.out.1
      show _ ∧ _
      omega
    simp only [over_eq, overL, h13, h14, h15, Nat.reduceAdd]
    clear hv h13 h14 h15 hb6 hJ KX hX
    refine HKK.out _ _ ?_
    clear HKK
    go_wp2_with fail
    go_loopw [16] (fun v wr => ∃ i : Nat, n0 ≤ i ∧ i ≤ len ∧ v = .int .i64 (i : Int) ∧ GoI a n r l R X G g ao w i wr) (fun v _ => len - (intOf v).toNat)
    case atStart => exact ⟨n0, Nat.le_refl _, hp2, rfl, HI6.out⟩
    case round =>
      obtain ⟨i0, hi1, hi2, rfl, hI⟩ := hrel
      have HI : Hid (GoI a n r l R X G g ao w i0 wr) := hI
      clear hI
      by_cases hlt : i0 < len
      · have hil : i0 < l.length := by rw [← HLen.out]; exact hlt
        obtain ⟨bl, off, hao, hbw, e0, e1, e2, e3, e4⟩ := HI.out.rd.at hil
        have HDi := HDo2.out i0 hil
        obtain ⟨c, hc⟩ : ∃ c, c = l[i0]'hil := ⟨_, rfl⟩
        obtain ⟨xi, hxi⟩ : ∃ y, y = stF r f0 (l.take i0) := ⟨_, rfl⟩
        obtain ⟨yi, hyi⟩ : ∃ y, y = stF r f0 (l.take (i0 + 1)) := ⟨_, rfl⟩
        rw [← hc] at e0 e1 e2 e3 e4 HDi
        rw [← hxi, ← hyi] at HDi
        have HDi2 := (show Hid (∀ W, Gl a n W → Calls Tryd.prog 9 #[rgv r, fv xi, cmv c] W fun e w' => e = .returned (.tuple #[fv yi, .int .i64 0]) ∧ Below W.heap.size W w') from HDi)
        have HYi : Hid (yi = stF r f0 (l.take (i0 + 1))) := hyi
        have KXr : Hid (Bk X (fc xi) wr) := by show Bk _ _ _; rw [hxi]; exact HI.out.kx
        have KRr : Hid (Bk R (rgc r) wr) := HI.out.kr
        have HC0 := (show Hid _ from e0)
        have HC1 := (show Hid _ from e1)
        have HC2 := (show Hid _ from e2)
        have HC3 := (show Hid _ from e3)
        have HC4 := (show Hid _ from e4)
        subst hao
        clear HDi hc hxi hyi e0 e1 e2 e3 e4 hbw
        go_wp2_with fail
        rename_i KK2 hkk2
        have HKK := (show Hid _ from hkk2)
        clear hkk2
        refine region_all [false, false, false, false, false, false, false, false, false, false, false, false, false, false, false, false, false, true, true, false, false, false, false, false, false, false, false, false, false, false, false, false, false, false, false, false, false, false, false, false, false, false, false, false, false, false, false, false, false, false, false, false, false, false, false, false, false, false, false, false, false, false, false, false, false, false, false, false, false, false, false, false, false, false, false, false, false, false, false, false, false, false, false, false, false, false, false, false, false, false, false, true, true, true, true, true, true, true, true, true, true, false, false, false, false, false, false]
          [([], [92], none), ([], [93], none), ([], [94], none), ([], [95], none), ([2, 3], [96], none), ([4], [97], none), ([0, 1, 5], [98], none), ([6], [91], none), ([7], [99], none), ([7], [100], none), ([], [17], none), ([10, 8], [17], none), ([9], [18], none)]
          (gdV wr.heap.size R X r xi yi c bl off len cap i0) (fun _ _ => True) (by kernel_rfl) (by kernel_rfl) (fun _ _ => trivial) ?_ ?_
        · refine ⟨?_, ?_, ?_, ?_, ?_, ?_, ?_, ?_, ?_, ?_, ?_, ?_, ?_, trivial⟩
          · intro f w1 hb hJ _ K hK
            have q0 := (KRr.out.later hb).c 0 rfl
            have q1 := (KRr.out.later hb).c 1 rfl
            have q2 := (KRr.out.later hb).c 2 rfl
            have q3 := (KRr.out.later hb).c 3 rfl
            have q4 := (KRr.out.later hb).c 4 rfl
            have q5 := (KRr.out.later hb).c 5 rfl
            have q6 := (KRr.out.later hb).c 6 rfl
            have q7 := (KRr.out.later hb).c 7 rfl
            have q8 := (KRr.out.later hb).c 8 rfl
            have q9 := (KRr.out.later hb).c 9 rfl
            have q10 := (KRr.out.later hb).c 10 rfl
            have q11 := (KRr.out.later hb).c 11 rfl
            simp only [over, overL, Nat.reduceAdd]
            go_simp
            exact hK _ _ ⟨_, by simp only [over, overL, Nat.reduceAdd]; rfl, rfl, hb, trivial, fun _ h => h⟩
          · intro f w1 hb hJ _ K hK
            have q0 := (KXr.out.later hb).c 0 rfl
            have q1 := (KXr.out.later hb).c 1 rfl
            have q2 := (KXr.out.later hb).c 2 rfl
            have q3 := (KXr.out.later hb).c 3 rfl
            have q4 := (KXr.out.later hb).c 4 rfl
            have q5 := (KXr.out.later hb).c 5 rfl
            have q6 := (KXr.out.later hb).c 6 rfl
            have q7 := (KXr.out.later hb).c 7 rfl
            have q8 := (KXr.out.later hb).c 8 rfl
            simp only [over, overL, Nat.reduceAdd]
            go_simp
            exact hK _ _ ⟨_, by simp only [over, overL, Nat.reduceAdd]; rfl, rfl, hb, trivial, fun _ h => h⟩
          · intro f w1 hb hJ _ K hK
            simp only [over, overL, Nat.reduceAdd]
            go_simp
            exact hK _ _ ⟨_, by simp only [over, overL, Nat.reduceAdd]; rfl, rfl, hb, trivial, fun _ h => h⟩
          · intro f w1 hb hJ _ K hK
            simp only [over, overL, Nat.reduceAdd]
            go_simp
            exact hK _ _ ⟨_, by simp only [over, overL, Nat.reduceAdd]; rfl, rfl, hb, trivial, fun _ h => h⟩
          · intro f w1 hb hJ ⟨h94, h95, _⟩ K hK
            replace h94 : f 94 = _ := h94
            replace h95 : f 95 = _ := h95
            have hlt2 : (i0 : Int) < len := by omega
            simp only [over, overL, Nat.reduceAdd, h94, h95]
            go_simp
            exact hK _ _ ⟨_, by simp only [over, overL, Nat.reduceAdd, h94, h95]; rfl, rfl, hb, trivial, fun _ h => h⟩
          · intro f w1 hb hJ ⟨h96, _⟩ K hK
            replace h96 : f 96 = _ := h96
            have q0 := cell_later hb HC0.out
            have q1 := cell_later hb HC1.out
            have q2 := cell_later hb HC2.out
            have q3 := cell_later hb HC3.out
            have q4 := cell_later hb HC4.out
            simp only [over, overL, Nat.reduceAdd, h96]
            go_simp
            exact hK _ _ ⟨_, by simp only [over, overL, Nat.reduceAdd, h96]; rfl, rfl, hb, trivial, fun _ h => h⟩
          · intro f w1 hb hJ ⟨h92, h93, h97, _⟩ K hK
            replace h92 : f 92 = _ := h92
            replace h93 : f 93 = _ := h93
            replace h97 : f 97 = _ := h97
            simp only [over, overL, Nat.reduceAdd, h92, h93, h97]
            go_simp
            refine Calls.mono (HDi2.out _ (HI.out.gl.later hb)) ?_
            rintro e w2 ⟨rfl, hb2⟩
            exact hK _ _ ⟨_, by simp only [over, overL, Nat.reduceAdd, h92, h93, h97]; rfl, rfl, below_on hb hb2, trivial, fun j h => gdV_mono wr.heap.size R X r xi yi c bl off len cap i0 j _ _ _ h hb2⟩
          · intro f w1 hb hJ ⟨h98, _⟩ K hK
            replace h98 : f 98 = _ := h98
            simp only [over, overL, Nat.reduceAdd, h98]
            go_simp
            exact hK _ _ ⟨_, by simp only [over, overL, Nat.reduceAdd, h98]; rfl, rfl, hb, trivial, fun _ h => h⟩
          · intro f w1 hb hJ ⟨h91, _⟩ K hK
            replace h91 : f 91 = _ := h91
            simp only [over, overL, Nat.reduceAdd, h91]
            go_simp
            exact hK _ _ ⟨_, by simp only [over, overL, Nat.reduceAdd, h91]; rfl, rfl, hb, trivial, fun _ h => h⟩
          · intro f w1 hb hJ ⟨h91, _⟩ K hK
            replace h91 : f 91 = _ := h91
            simp only [over, overL, Nat.reduceAdd, h91]
            go_simp
            exact hK _ _ ⟨_, by simp only [over, overL, Nat.reduceAdd, h91]; rfl, rfl, hb, trivial, fun _ h => h⟩
          · intro f w1 hb hJ _ K hK
            simp only [over, overL, Nat.reduceAdd]
            go_simp
            exact hK _ _ ⟨_, by simp only [over, overL, Nat.reduceAdd]; rfl, ⟨w1.heap.size, zfc, rfl, hb.size, rfl, Bk.new w1 zfc 29 w1.heap.size rfl⟩, below_on hb (one_new _ _), trivial, fun j h => gdV_mono wr.heap.size R X r xi yi c bl off len cap i0 j _ _ _ h (one_new _ _)⟩
          · intro f w1 hb hJ ⟨h17, h99, _⟩ K hK
            replace h99 : f 99 = _ := h99
            obtain ⟨b9, cs9, h17, hm9, hl9, KB9⟩ := (show NwF _ (f 17) w1 from h17)
            simp only [over, overL, Nat.reduceAdd, h99, h17]
            refine wp_store_mid 29 _ _ rfl b9 0 (fc yi).toArray rfl rfl (KB9.there (Nat.le_of_eq (by rw [hl9]; rfl))) info29 (by kernel_rfl) ?_
            exact hK _ _ ⟨undef, by simp only [over, overL, Nat.reduceAdd, h99, h17], ⟨b9, h17, hm9, KB9.setAll (fc yi) (by rw [hl9]; rfl)⟩, hb.trans (low_setCells hm9 _ _ _), trivial, fun j h => gdV_put wr.heap.size R X r xi yi c bl off len cap i0 j _ w1 KB9 hl9 h⟩
          · intro f w1 hb hJ ⟨h100, _⟩ K hK
            replace h100 : f 100 = _ := h100
            simp only [over, overL, Nat.reduceAdd, h100]
            go_simp
            exact hK _ _ ⟨_, by simp only [over, overL, Nat.reduceAdd, h100]; rfl, rfl, hb, trivial, fun _ h => h⟩
        · intro fs w7 hb7 hJ hv
          have h18 : fs 18 = .int .i64 0 := hv.2.2.2.2.2.2.2.2.2.2.2.2.1
          obtain ⟨Y, h17, hY, KY⟩ := (show IsF wr.heap.size yi (fs 17) w7 from hv.2.2.2.2.2.2.2.2.2.2.2.1)
          have HB7 : Hid (Below wr.heap.size wr w7) := hb7
          have KX7 : Hid (Bk X (fc xi) w7) := KXr.out.later hb7
          have hXw : X < wr.heap.size := KXr.out.1
          have HY : Hid (X ≠ Y) := by show _ ≠ _; omega
          have KY7 : Hid (Bk Y (fc yi) w7) := KY
          simp only [over_eq, overL, h17, h18, Nat.reduceAdd]
          clear hv h17 h18 hb7 hJ KY hY hXw
          refine HKK.out _ _ ?_
          clear HKK
          have y0 := KY7.out.c 0 rfl
          have x0 := KX7.out.c 0 rfl
          have z0 := KX7.out.f 0 rfl
          have y1 := KY7.out.c 1 rfl
          have x1 := KX7.out.c 1 rfl
          have z1 := KX7.out.f 1 rfl
          have y2 := KY7.out.c 2 rfl
          have x2 := KX7.out.c 2 rfl
          have z2 := KX7.out.f 2 rfl
          have y3 := KY7.out.c 3 rfl
          have x3 := KX7.out.c 3 rfl
          have z3 := KX7.out.f 3 rfl
          have y4 := KY7.out.c 4 rfl
          have x4 := KX7.out.c 4 rfl
          have z4 := KX7.out.f 4 rfl
          have y5 := KY7.out.c 5 rfl
          have x5 := KX7.out.c 5 rfl
          have z5 := KX7.out.f 5 rfl
          have y6 := KY7.out.c 6 rfl
          have x6 := KX7.out.c 6 rfl
          have z6 := KX7.out.f 6 rfl
          have y7 := KY7.out.c 7 rfl
          have x7 := KX7.out.c 7 rfl
          have z7 := KX7.out.f 7 rfl
          have y8 := KY7.out.c 8 rfl
          have x8 := KX7.out.c 8 rfl
          have z8 := KX7.out.f 8 rfl
          obtain ⟨w8, hw8⟩ : ∃ x, x = w7.setCells X 0 (fc yi) := ⟨_, rfl⟩
          have HI8 : Hid (GoI a n r l R X G g (some ⟨bl, off, none⟩) w (i0 + 1) w8) := by
            have hl8 : Below w.heap.size w7 w8 := by rw [hw8]; exact low_setCells HXb.out.1 _ _ _
            have q7 : Below w.heap.size w w7 := below_on HI.out.low HB7.out
            refine ⟨by rw [hw8]; exact (HI.out.kr.later HB7.out).out (Ne.symm HXb.out.2.1), by rw [← HYi.out, hw8]; exact KX7.out.setAll _ rfl, by rw [hw8]; exact (HI.out.kg.later HB7.out).out (Ne.symm HXb.out.2.2), (HI.out.gl.later HB7.out).below (hl8.mono HGn.out), (HI.out.rd.later HB7.out).low (N := w.heap.size) hl8 (fun b' o' e => HRb.out b' o' (by intro h0; rw [h0] at hil; simp at hil) e), q7.trans hl8⟩
          have hw9 : w8 = (((((((((w7.setCell ⟨X, 0, none⟩ (.bool yi.hm)).setCell ⟨X, 1, none⟩ (.int .i64 yi.pt.x)).setCell ⟨X, 2, none⟩ (.int .i64 yi.pt.y)).setCell ⟨X, 3, none⟩ (.int .i64 yi.pt.z)).setCell ⟨X, 4, none⟩ (.int .i64 yi.pl)).setCell ⟨X, 5, none⟩ (.bool yi.tp)).setCell ⟨X, 6, none⟩ (.int .i64 yi.ht)).setCell ⟨X, 7, none⟩ (.int .i64 yi.tu)).setCell ⟨X, 8, none⟩ (.int .i64 yi.tk)) := hw8
          clear hw8 HB7 KX7 KY7 HI
          go_wp2_with fail
          simp only [← hw9]
          clear hw9
          go_roundw
          case rel => exact ⟨i0 + 1, by omega, by omega, by go_num, HI8.out⟩
          case measure => simp [intOf]; omega
      · have hie : i0 = len := by omega
        have KXe : Hid (Bk X (fc g) wr) := by
          have := HI.out.kx
          rw [hie, HLen.out, List.take_length, HGS.out] at this
          exact this
        have KGe : Hid (Bk G (fc g) wr) := HI.out.kg
        have y0 := KXe.out.c 0 rfl
        have z0 := KGe.out.c 0 rfl
        have y1 := KXe.out.c 1 rfl
        have z1 := KGe.out.c 1 rfl
        have y2 := KXe.out.c 2 rfl
        have z2 := KGe.out.c 2 rfl
        have y3 := KXe.out.c 3 rfl
        have z3 := KGe.out.c 3 rfl
        have y4 := KXe.out.c 4 rfl
        have z4 := KGe.out.c 4 rfl
        have y5 := KXe.out.c 5 rfl
        have z5 := KGe.out.c 5 rfl
        have y6 := KXe.out.c 6 rfl
        have z6 := KGe.out.c 6 rfl
        have y7 := KXe.out.c 7 rfl
        have z7 := KGe.out.c 7 rfl
        have y8 := KXe.out.c 8 rfl
        have z8 := KGe.out.c 8 rfl
        go_wp2
        go_ret
        exact ⟨rfl, HI.out.low⟩
theorem firmGoesOn_any (a : Nat → Addr) (n : Nat) (r : Rg) (ao : Option Addr) (cap : Nat) (l : List Cm) (cut : Int) (w : World) (hg : Gl a n w) (hR : RdC w ao l) (hl : l.length * 40 ≤ 140737488351232) (hd : l.length ≤ cap) (hc1 : -9223372036854775808 ≤ cut) (hc2 : cut ≤ 9223372036854775807) : Calls Tryd.prog 6 #[rgv r, .slice ao l.length cap, .int .i64 cut] w fun e w' => e = .returned (.bool true) ∧ Below w.heap.size w w' := by
  cases h : rgOk r with
  | false => exact goesOn_a a n r ao cap l cut w hg h
  | true =>
    by_cases he : (runC r f0 0 l).2.2 = 0
    · exact goesOn_c a n r ao cap l cut w hg hR hl hc1 hc2 hd h he
    · exact goesOn_b a n r ao cap l cut w hg hR hl h he
end Go.Proofs.YtgahlhfgpkklaaaDoor
