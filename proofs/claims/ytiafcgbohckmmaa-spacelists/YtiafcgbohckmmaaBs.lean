/- BoxSafe walked. -/
import Derived.Test.YtiafcgbohckmmaaBsM
namespace Go.Proofs.Ytiafcgbohckmmaa
open Go.RowKit

set_option maxHeartbeats 20000000 in
set_option maxRecDepth 100000 in
theorem BoxSafe_any (ao : Option Addr) (cap : Nat) (l : List Bx) (a : Bx) (p : Pt) (H : Int) (w : World) (hL : Bxs w ao l) (hll : l.length ≤ 40) (hg : badL l = 0) (ha : bad1 a = 0) (hp : nearP p = true) (hH : Least l (wayX a p) (wayY a p) H) :
    Calls Try.prog 24 #[.slice ao l.length cap, bv a, pv p] w fun e w' => e = .returned (.tuple #[.int .i64 H, .bool (nearB (movB (endB a p) ⟨0, 0, H⟩))]) ∧ Below w.heap.size w w' := by
  have HL : Hid (Bxs w ao l) := hL
  have HG : Hid (∀ b ∈ l, -10000000 ≤ b.hz ∧ b.hz ≤ 10000000) := fun b hb => by
    have h := nearB_iff.1 (bad1_ok.1 (badL_zero.1 hg b hb)).1
    exact h.2.2.2.2.2
  have hf := safe_facts ha hp
  have hH0 := hH.1
  have hHin := least_in hg hH hf.z0 hf.z1
  have haz : -10000000 ≤ a.lz ∧ a.lz ≤ 10000000 := (bad1_iff.1 ha).1.2.2.1
  obtain ⟨k, hk⟩ : ∃ k, k = cornerB a p := ⟨_, rfl⟩
  obtain ⟨m, hm⟩ : ∃ m, m = movB k ⟨0, p.y, 0⟩ := ⟨_, rfl⟩
  have HK : Hid (k = movB a ⟨p.x, 0, 0⟩) := hk
  have HM : Hid (m = movB k ⟨0, p.y, 0⟩) := hm
  have em : endB a p = m := by rw [hm, hk]
  obtain ⟨x, hx⟩ : ∃ x, x = hullB a k := ⟨_, rfl⟩
  obtain ⟨y, hy⟩ : ∃ y, y = hullB k m := ⟨_, rfl⟩
  have HX : Hid (x = hullB a k) := hx
  have HY : Hid (y = hullB k m) := hy
  have ex : wayX a p = x := by rw [hx, hk]
  have ey : wayY a p = y := by rw [hy, ← em, hk]
  have HH : Hid (Least l x y H) := by show Least _ _ _ _; rw [← ex, ← ey]; exact hH
  have HSX : Hid (SmB x) := by show SmB _; rw [← ex]; exact hf.kx
  have HSY : Hid (SmB y) := by show SmB _; rw [← ey]; exact hf.ky
  have HXZ : Hid (x.lz = a.lz) := by show _ = _; rw [← ex]; exact hf.za
  have HSA : Hid (SmB a ∧ SmP ⟨p.x, 0, 0⟩) := ⟨hf.ka, hf.px⟩
  have HSK : Hid (SmB k ∧ SmP ⟨0, p.y, 0⟩) := by show _ ∧ _; rw [hk]; exact ⟨hf.kc, hf.py⟩
  have HN : Hid (∀ r, nearB (movB (endB a p) ⟨0, 0, H⟩) = r → (r = true → bad1 k = 0 ∧ bad1 m = 0 ∧ bad1 (movB x ⟨0, 0, H⟩) = 0 ∧ bad1 (movB y ⟨0, 0, H⟩) = 0) ∧ (bad1 k = 0 ∧ bad1 m = 0 ∧ bad1 (movB x ⟨0, 0, H⟩) = 0 ∧ bad1 (movB y ⟨0, 0, H⟩) = 0 → r = true)) := by
    show ∀ r, _
    intro r hr
    rw [← ex, ← ey, ← em, hk]
    exact ⟨fun h => safe_near2 ha hH0 (by rw [hr]; exact h), fun h => by rw [← hr]; exact safe_near ha hH0 h⟩
  obtain ⟨r, hr⟩ : ∃ r, nearB (movB (endB a p) ⟨0, 0, H⟩) = r := ⟨_, rfl⟩
  have HNR := (show Hid _ from HN.out r hr)
  rw [hr]
  clear hL hg ha hp hH hf hk hm em hx hy ex ey HN hr
  have HB0 : Hid (Below w.heap.size w w) := Below.refl _ _
  go_enter Try.func24, Try.ntmps24
  go_wp2_with fail
  refine (BoxMoved_r a k ⟨p.x, 0, 0⟩ HK.out HSA.out.1 HSA.out.2 _).mono ?_
  rintro e w1 ⟨rfl, hb1⟩
  have hal : Below w.heap.size w ((w.alloc (bo (a))).alloc (po (p))) := (below_grow _ (Nat.le_refl _) (below_grow _ (Nat.le_refl _) (Below.refl _ _) _) _)
  have hn : Below w.heap.size w w1 := hal.trans (hb1.mono hal.size)
  have HB1 : Hid (Below w.heap.size w w1) := HB0.out.trans (hn.mono HB0.out.size)
  have Ka1 : Hid (Bf (w.heap.size) (a) w1) := by
    have h := ((Bf.new w (a)).later (below_grow _ (Nat.le_refl _) (Below.refl _ _) _)).later hb1
    show Bf _ _ _
    simpa using h
  have Kp1 : Hid (Pf (w.heap.size + 1) (p) w1) := by
    have h := ((Pf.new (w.alloc (bo (a))) (p)).later (Below.refl _ _)).later hb1
    show Pf _ _ _
    simpa using h
  clear hal hn hb1
  obtain ⟨pl, p0, p1, p2⟩ := Kp1.out
  go_wp2_with fail
  refine (BoxMoved_r k m ⟨0, p.y, 0⟩ HM.out HSK.out.1 HSK.out.2 _).mono ?_
  rintro e w2 ⟨rfl, hb2⟩
  clear pl p0 p1 p2
  have hal : Below w1.heap.size w1 (w1.alloc (bo (k))) := (below_grow _ (Nat.le_refl _) (Below.refl _ _) _)
  have hn : Below w1.heap.size w1 w2 := hal.trans (hb2.mono hal.size)
  have HB2 : Hid (Below w.heap.size w w2) := HB1.out.trans (hn.mono HB1.out.size)
  have Ka2 : Hid (Bf (w.heap.size) (a) w2) := Ka1.out.later hn
  have Kp2 : Hid (Pf (w.heap.size + 1) (p) w2) := Kp1.out.later hn
  have Kk2 : Hid (Bf (w1.heap.size) (k) w2) := by
    have h := ((Bf.new w1 (k)).later (Below.refl _ _)).later hb2
    show Bf _ _ _
    simpa using h
  clear hal hn hb2
  go_wp2_with fail
  rename_i KK hkk
  have HKK := (show Hid _ from hkk)
  clear hkk
  obtain ⟨w3, hw3⟩ : ∃ w3, w3 = (w2.alloc (bo (m))) := ⟨_, rfl⟩
  have hal : Below w2.heap.size w2 w3 := by rw [hw3]; exact (below_grow _ (Nat.le_refl _) (Below.refl _ _) _)
  have HB3 : Hid (Below w.heap.size w w3) := HB2.out.trans (hal.mono HB2.out.size)
  have Ka3 : Hid (Bf (w.heap.size) (a) w3) := Ka2.out.later hal
  have Kp3 : Hid (Pf (w.heap.size + 1) (p) w3) := Kp2.out.later hal
  have Kk3 : Hid (Bf (w1.heap.size) (k) w3) := Kk2.out.later hal
  have Km3 : Hid (Bf (w2.heap.size) (m) w3) := by
    have h := (Bf.new w2 (m)).later (Below.refl _ _)
    rw [← hw3] at h
    show Bf _ _ _
    simpa using h
  rw [← hw3]
  clear hw3 hal
  obtain ⟨⟨al, a0, a1, a2, a3, a4, a5⟩, af0, af1, af2, af3, af4, af5⟩ := Ka3.out
  simp only [Nat.zero_add] at a1 a2 a3 a4 a5
  obtain ⟨⟨kl, k0, k1, k2, k3, k4, k5⟩, kf0, kf1, kf2, kf3, kf4, kf5⟩ := Kk3.out
  simp only [Nat.zero_add] at k1 k2 k3 k4 k5
  obtain ⟨⟨ml, m0, m1, m2, m3, m4, m5⟩, mf0, mf1, mf2, mf3, mf4, mf5⟩ := Km3.out
  simp only [Nat.zero_add] at m1 m2 m3 m4 m5
  refine region_seqJ 8 [false, false, false, false, false, false, false, false, false, false, true, true, false, false, false, false, false, false, false, false, false, false, false, false, false, false, false, false, true, true, true, true, true, true, false, false, false, false, false, false, false, false, false, false, false, false, false, false, false, false, false, false, false, false, false, false, false, false, false, false, false, false, false, false, false, false, false, false, false, false, false, false, false, false, false, false, false, false, false, false, false, false, false, false, false, false, false, false, false, false, false, false, false, false, false, false, false, false, false, false, false, false, false, false, false, false]
    [(28, [], none), (29, [], none), (30, [28, 29], none), (31, [], none), (32, [], none), (33, [31, 32], none), (10, [], none), (11, [], none)]
    (bs3V a k m w3.heap.size) (Apart 10 11) ?_ (by kernel_rfl) (by kernel_rfl) (by kernel_rfl) (by kernel_rfl) (by kernel_rfl) (by decide) (bs3V_mono a k m w3.heap.size) ?_ ?_
  · intro w4 _
    refine ⟨fun b e => ?_, fun b e => ?_, fun b e _ => ?_⟩
    all_goals (simp [undef] at e)
  · refine ⟨?_, ?_, ?_, ?_, ?_, ?_, ?_, ?_, trivial⟩
    · intro f wr hb hJ _ K hK
      have ca0 := cell_later hb a0
      have ca1 := cell_later hb a1
      have ca2 := cell_later hb a2
      have ca3 := cell_later hb a3
      have ca4 := cell_later hb a4
      have ca5 := cell_later hb a5
      simp only [over, overL, Nat.reduceAdd]
      go_simp
      exact hK _ _ ⟨_, rfl, by simp only [over, overL, Nat.reduceAdd]; rfl, Below.refl _ _, hJ.other (by decide) (by decide) (Below.refl _ _)⟩
    · intro f wr hb hJ _ K hK
      have ck0 := cell_later hb k0
      have ck1 := cell_later hb k1
      have ck2 := cell_later hb k2
      have ck3 := cell_later hb k3
      have ck4 := cell_later hb k4
      have ck5 := cell_later hb k5
      simp only [over, overL, Nat.reduceAdd]
      go_simp
      exact hK _ _ ⟨_, rfl, by simp only [over, overL, Nat.reduceAdd]; rfl, Below.refl _ _, hJ.other (by decide) (by decide) (Below.refl _ _)⟩
    · intro f wr hb hJ ⟨h28, h29, _⟩ K hK
      have h28 : f 28 = _ := h28
      have h29 : f 29 = _ := h29
      simp only [over, overL, Nat.reduceAdd, h28, h29]
      go_simp
      refine (BoxHull_any a k wr).mono ?_
      rintro e w9 ⟨rfl, hbn⟩
      exact hK _ _ ⟨_, rfl, by simp only [over, overL, Nat.reduceAdd, h28, h29]; rfl, hbn, hJ.other (by decide) (by decide) hbn⟩
    · intro f wr hb hJ _ K hK
      have ck0 := cell_later hb k0
      have ck1 := cell_later hb k1
      have ck2 := cell_later hb k2
      have ck3 := cell_later hb k3
      have ck4 := cell_later hb k4
      have ck5 := cell_later hb k5
      simp only [over, overL, Nat.reduceAdd]
      go_simp
      exact hK _ _ ⟨_, rfl, by simp only [over, overL, Nat.reduceAdd]; rfl, Below.refl _ _, hJ.other (by decide) (by decide) (Below.refl _ _)⟩
    · intro f wr hb hJ _ K hK
      have cm0 := cell_later hb m0
      have cm1 := cell_later hb m1
      have cm2 := cell_later hb m2
      have cm3 := cell_later hb m3
      have cm4 := cell_later hb m4
      have cm5 := cell_later hb m5
      simp only [over, overL, Nat.reduceAdd]
      go_simp
      exact hK _ _ ⟨_, rfl, by simp only [over, overL, Nat.reduceAdd]; rfl, Below.refl _ _, hJ.other (by decide) (by decide) (Below.refl _ _)⟩
    · intro f wr hb hJ ⟨h31, h32, _⟩ K hK
      have h31 : f 31 = _ := h31
      have h32 : f 32 = _ := h32
      simp only [over, overL, Nat.reduceAdd, h31, h32]
      go_simp
      refine (BoxHull_any k m wr).mono ?_
      rintro e w9 ⟨rfl, hbn⟩
      exact hK _ _ ⟨_, rfl, by simp only [over, overL, Nat.reduceAdd, h31, h32]; rfl, hbn, hJ.other (by decide) (by decide) hbn⟩
    · intro f wr hb hJ _ K hK
      simp only [over, overL, Nat.reduceAdd]
      go_simp
      exact hK _ _ ⟨_, ⟨_, rfl, hb.size, Bf.new wr zB⟩, by simp only [over, overL, Nat.reduceAdd]; rfl, (Below.refl _ _).alloc (Nat.le_refl _) _, hJ.left (by decide)⟩
    · intro f wr hb hJ _ K hK
      simp only [over, overL, Nat.reduceAdd]
      go_simp
      exact hK _ _ ⟨_, ⟨_, rfl, hb.size, Bf.new wr zB⟩, by simp only [over, overL, Nat.reduceAdd]; rfl, (Below.refl _ _).alloc (Nat.le_refl _) _, hJ.right (by decide)⟩
  intro f w4 hb4 hJ h
  have h30 : f 30 = bv x := by rw [HX.out]; exact h.2.2.1
  have h33 : f 33 = bv y := by rw [HY.out]; exact h.2.2.2.2.2.1
  obtain ⟨bX, h10, n10, A10⟩ := (show ∃ b, f 10 = ptr b ∧ w3.heap.size ≤ b ∧ Bf b zB w4 from h.2.2.2.2.2.2.1)
  obtain ⟨bY, h11, n11, A11⟩ := (show ∃ b, f 11 = ptr b ∧ w3.heap.size ≤ b ∧ Bf b zB w4 from h.2.2.2.2.2.2.2.1)
  have hne : bX ≠ bY := fun e => hJ.2.2 bX h10 (by rw [h11, e])
  have hBel : Below w3.heap.size w3 (put6 (put6 w4 bX x) bY y) := below_put6 (below_put6 hb4 n10) n11
  have KX : Hid (Bf bX x (put6 (put6 w4 bX x) bY y)) := (A10.put x).other hne
  have KY : Hid (Bf bY y (put6 (put6 w4 bX x) bY y)) := (A11.other (Ne.symm hne)).put y
  have KA : Hid (Bf w.heap.size a (put6 (put6 w4 bX x) bY y)) := Ka3.out.later hBel
  have KK5 : Hid (Bf w1.heap.size k (put6 (put6 w4 bX x) bY y)) := Kk3.out.later hBel
  have KM : Hid (Bf w2.heap.size m (put6 (put6 w4 bX x) bY y)) := Km3.out.later hBel
  have HB5 : Hid (Below w.heap.size w (put6 (put6 w4 bX x) bY y)) := HB3.out.trans (hBel.mono HB3.out.size)
  clear al a0 a1 a2 a3 a4 a5 af0 af1 af2 af3 af4 af5 kl k0 k1 k2 k3 k4 k5 kf0 kf1 kf2 kf3 kf4 kf5 ml m0 m1 m2 m3 m4 m5 mf0 mf1 mf2 mf3 mf4 mf5
  obtain ⟨⟨x0l, u0, u1, u2, u3, u4, u5⟩, uf0, uf1, uf2, uf3, uf4, uf5⟩ := A10
  obtain ⟨⟨x1l, v0, v1, v2, v3, v4, v5⟩, vf0, vf1, vf2, vf3, vf4, vf5⟩ := A11
  simp only [Nat.zero_add] at u1 u2 u3 u4 u5 v1 v2 v3 v4 v5
  simp only [over_eq, overL, Nat.reduceAdd, h10, h11, h30, h33, List.drop_succ_cons, List.drop_zero]
  clear h h10 h11 h30 h33 hBel hb4 hJ n10 n11
  go_wp2
  clear x0l u0 u1 u2 u3 u4 u5 uf0 uf1 uf2 uf3 uf4 uf5 x1l v0 v1 v2 v3 v4 v5 vf0 vf1 vf2 vf3 vf4 vf5 hne
  change KK _ (put6 (put6 w4 bX x) bY y)
  generalize put6 (put6 w4 bX x) bY y = w5 at *
  refine HKK.out _ _ ?_
  clear HKK
  go_wp2_with fail
  go_loopw [12, 13] (fun bst i wr => ∃ (n : Nat) (best : Int), n ≤ l.length + 1 ∧ i = .int .i64 ((n : Int) - 1) ∧ bst = .int .i64 best ∧ BsI l x y a.lz H n best ∧ Below w5.heap.size w5 wr) (fun _ i _ => l.length + 1 - (intOf i + 1).toNat)
  case atStart => exact ⟨0, -1, Nat.zero_le _, rfl, rfl, ⟨.inl rfl, fun hs => by rcases hs with ⟨h, _⟩ | ⟨_, _, h, _⟩ <;> omega, fun _ => rfl⟩, Below.refl _ _⟩
  case round =>
    obtain ⟨n, best, hn, rfl, rfl, hI, hb⟩ := hrel
    have HI : Hid (BsI l x y a.lz H n best) := hI
    have HB : Hid (Below w5.heap.size w5 wr) := hb
    have HBW : Hid (Below w.heap.size w wr) := HB5.out.trans (hb.mono HB5.out.size)
    clear hI hb
    by_cases hlt : n < l.length + 1
    rotate_left
    · have hnn : n = l.length + 1 := by omega
      subst hnn
      have HE : Hid (best = H) := bsi_end HXZ.out HH.out HI.out
      have e0 : ((l.length + 1 : Nat) : Int) - 1 = (l.length : Int) := by omega
      rw [e0, HE.out]
      clear HI e0 hlt hn
      have dl : decide ((l.length : Int) < (l.length : Int)) = false := by simp
      by_cases g0 : bad1 k = 0
      rotate_left
      · have HF : Hid (r = false) := by
          show r = false
          cases e : r with
          | false => rfl
          | true => exact absurd (HNR.out.1 e).1 g0
        obtain ⟨ee, hee⟩ : ∃ ee, bad1 k = ee := ⟨_, rfl⟩
        have HEE : Hid (bad1 k = ee) := hee
        have dd : (ee == 0) = false := by rw [← hee]; simp [g0]
        clear hee g0
        have Kk20 : Hid (Bf (w1.heap.size) (k) wr) := KK5.out.later HB.out
        have Km20 : Hid (Bf (w2.heap.size) (m) wr) := KM.out.later HB.out
        have Kx20 : Hid (Bf (bX) (x) wr) := KX.out.later HB.out
        have Ky20 : Hid (Bf (bY) (y) wr) := KY.out.later HB.out
        obtain ⟨⟨kl, k0, k1, k2, k3, k4, k5⟩, kf0, kf1, kf2, kf3, kf4, kf5⟩ := Kk20.out
        simp only [Nat.zero_add] at k1 k2 k3 k4 k5
        go_wp2_with fail
        refine (BoxMay_r k ee HEE.out _).mono ?_
        rintro e w21 ⟨rfl, hb21⟩
        clear kl k0 k1 k2 k3 k4 k5 kf0 kf1 kf2 kf3 kf4 kf5
        have hal : Below wr.heap.size wr (wr.alloc (po (⟨0, 0, H⟩))) := (below_grow _ (Nat.le_refl _) (Below.refl _ _) _)
        have hn : Below wr.heap.size wr w21 := hal.trans (hb21.mono hal.size)
        have HB21 : Hid (Below w.heap.size w w21) := HBW.out.trans (hn.mono HBW.out.size)
        have Kk21 : Hid (Bf (w1.heap.size) (k) w21) := Kk20.out.later hn
        have Km21 : Hid (Bf (w2.heap.size) (m) w21) := Km20.out.later hn
        have Kx21 : Hid (Bf (bX) (x) w21) := Kx20.out.later hn
        have Ky21 : Hid (Bf (bY) (y) w21) := Ky20.out.later hn
        have Kq21 : Hid (Pf (wr.heap.size) (⟨0, 0, H⟩) w21) := by
          have h := ((Pf.new wr (⟨0, 0, H⟩)).later (Below.refl _ _)).later hb21
          show Pf _ _ _
          simpa using h
        clear hal hn hb21
        go_wp2
        go_ret2
        exact ⟨by rw [HF.out]; rfl, HB21.out⟩
      have G0 : Hid (bad1 k = 0) := g0
      clear g0
      by_cases g1 : bad1 m = 0
      rotate_left
      · have HF : Hid (r = false) := by
          show r = false
          cases e : r with
          | false => rfl
          | true => exact absurd (HNR.out.1 e).2.1 g1
        obtain ⟨ee, hee⟩ : ∃ ee, bad1 m = ee := ⟨_, rfl⟩
        have HEE : Hid (bad1 m = ee) := hee
        have dd : (ee == 0) = false := by rw [← hee]; simp [g1]
        clear hee g1
        have Kk20 : Hid (Bf (w1.heap.size) (k) wr) := KK5.out.later HB.out
        have Km20 : Hid (Bf (w2.heap.size) (m) wr) := KM.out.later HB.out
        have Kx20 : Hid (Bf (bX) (x) wr) := KX.out.later HB.out
        have Ky20 : Hid (Bf (bY) (y) wr) := KY.out.later HB.out
        obtain ⟨⟨kl, k0, k1, k2, k3, k4, k5⟩, kf0, kf1, kf2, kf3, kf4, kf5⟩ := Kk20.out
        simp only [Nat.zero_add] at k1 k2 k3 k4 k5
        go_wp2_with fail
        refine (BoxMay_r k 0 G0.out _).mono ?_
        rintro e w21 ⟨rfl, hb21⟩
        clear kl k0 k1 k2 k3 k4 k5 kf0 kf1 kf2 kf3 kf4 kf5
        have hal : Below wr.heap.size wr (wr.alloc (po (⟨0, 0, H⟩))) := (below_grow _ (Nat.le_refl _) (Below.refl _ _) _)
        have hn : Below wr.heap.size wr w21 := hal.trans (hb21.mono hal.size)
        have HB21 : Hid (Below w.heap.size w w21) := HBW.out.trans (hn.mono HBW.out.size)
        have Kk21 : Hid (Bf (w1.heap.size) (k) w21) := Kk20.out.later hn
        have Km21 : Hid (Bf (w2.heap.size) (m) w21) := Km20.out.later hn
        have Kx21 : Hid (Bf (bX) (x) w21) := Kx20.out.later hn
        have Ky21 : Hid (Bf (bY) (y) w21) := Ky20.out.later hn
        have Kq21 : Hid (Pf (wr.heap.size) (⟨0, 0, H⟩) w21) := by
          have h := ((Pf.new wr (⟨0, 0, H⟩)).later (Below.refl _ _)).later hb21
          show Pf _ _ _
          simpa using h
        clear hal hn hb21
        obtain ⟨⟨ml, m0, m1, m2, m3, m4, m5⟩, mf0, mf1, mf2, mf3, mf4, mf5⟩ := Km21.out
        simp only [Nat.zero_add] at m1 m2 m3 m4 m5
        go_wp2_with fail
        refine (BoxMay_r m ee HEE.out _).mono ?_
        rintro e w22 ⟨rfl, hb22⟩
        clear ml m0 m1 m2 m3 m4 m5 mf0 mf1 mf2 mf3 mf4 mf5
        have hal : Below w21.heap.size w21 w21 := (Below.refl _ _)
        have hn : Below w21.heap.size w21 w22 := hal.trans (hb22.mono hal.size)
        have HB22 : Hid (Below w.heap.size w w22) := HB21.out.trans (hn.mono HB21.out.size)
        have Kk22 : Hid (Bf (w1.heap.size) (k) w22) := Kk21.out.later hn
        have Km22 : Hid (Bf (w2.heap.size) (m) w22) := Km21.out.later hn
        have Kx22 : Hid (Bf (bX) (x) w22) := Kx21.out.later hn
        have Ky22 : Hid (Bf (bY) (y) w22) := Ky21.out.later hn
        have Kq22 : Hid (Pf (wr.heap.size) (⟨0, 0, H⟩) w22) := Kq21.out.later hn
        clear hal hn hb22
        go_wp2
        go_ret2
        exact ⟨by rw [HF.out]; rfl, HB22.out⟩
      have G1 : Hid (bad1 m = 0) := g1
      clear g1
      by_cases g2 : bad1 (movB x ⟨0, 0, H⟩) = 0
      rotate_left
      · have HF : Hid (r = false) := by
          show r = false
          cases e : r with
          | false => rfl
          | true => exact absurd (HNR.out.1 e).2.2.1 g2
        obtain ⟨ee, hee⟩ : ∃ ee, bad1 (movB x ⟨0, 0, H⟩) = ee := ⟨_, rfl⟩
        have HEE : Hid (bad1 (movB x ⟨0, 0, H⟩) = ee) := hee
        have dd : (ee == 0) = false := by rw [← hee]; simp [g2]
        clear hee g2
        have Kk20 : Hid (Bf (w1.heap.size) (k) wr) := KK5.out.later HB.out
        have Km20 : Hid (Bf (w2.heap.size) (m) wr) := KM.out.later HB.out
        have Kx20 : Hid (Bf (bX) (x) wr) := KX.out.later HB.out
        have Ky20 : Hid (Bf (bY) (y) wr) := KY.out.later HB.out
        obtain ⟨⟨kl, k0, k1, k2, k3, k4, k5⟩, kf0, kf1, kf2, kf3, kf4, kf5⟩ := Kk20.out
        simp only [Nat.zero_add] at k1 k2 k3 k4 k5
        go_wp2_with fail
        refine (BoxMay_r k 0 G0.out _).mono ?_
        rintro e w21 ⟨rfl, hb21⟩
        clear kl k0 k1 k2 k3 k4 k5 kf0 kf1 kf2 kf3 kf4 kf5
        have hal : Below wr.heap.size wr (wr.alloc (po (⟨0, 0, H⟩))) := (below_grow _ (Nat.le_refl _) (Below.refl _ _) _)
        have hn : Below wr.heap.size wr w21 := hal.trans (hb21.mono hal.size)
        have HB21 : Hid (Below w.heap.size w w21) := HBW.out.trans (hn.mono HBW.out.size)
        have Kk21 : Hid (Bf (w1.heap.size) (k) w21) := Kk20.out.later hn
        have Km21 : Hid (Bf (w2.heap.size) (m) w21) := Km20.out.later hn
        have Kx21 : Hid (Bf (bX) (x) w21) := Kx20.out.later hn
        have Ky21 : Hid (Bf (bY) (y) w21) := Ky20.out.later hn
        have Kq21 : Hid (Pf (wr.heap.size) (⟨0, 0, H⟩) w21) := by
          have h := ((Pf.new wr (⟨0, 0, H⟩)).later (Below.refl _ _)).later hb21
          show Pf _ _ _
          simpa using h
        clear hal hn hb21
        obtain ⟨⟨ml, m0, m1, m2, m3, m4, m5⟩, mf0, mf1, mf2, mf3, mf4, mf5⟩ := Km21.out
        simp only [Nat.zero_add] at m1 m2 m3 m4 m5
        go_wp2_with fail
        refine (BoxMay_r m 0 G1.out _).mono ?_
        rintro e w22 ⟨rfl, hb22⟩
        clear ml m0 m1 m2 m3 m4 m5 mf0 mf1 mf2 mf3 mf4 mf5
        have hal : Below w21.heap.size w21 w21 := (Below.refl _ _)
        have hn : Below w21.heap.size w21 w22 := hal.trans (hb22.mono hal.size)
        have HB22 : Hid (Below w.heap.size w w22) := HB21.out.trans (hn.mono HB21.out.size)
        have Kk22 : Hid (Bf (w1.heap.size) (k) w22) := Kk21.out.later hn
        have Km22 : Hid (Bf (w2.heap.size) (m) w22) := Km21.out.later hn
        have Kx22 : Hid (Bf (bX) (x) w22) := Kx21.out.later hn
        have Ky22 : Hid (Bf (bY) (y) w22) := Ky21.out.later hn
        have Kq22 : Hid (Pf (wr.heap.size) (⟨0, 0, H⟩) w22) := Kq21.out.later hn
        clear hal hn hb22
        obtain ⟨⟨xl, x0, x1, x2, x3, x4, x5⟩, xf0, xf1, xf2, xf3, xf4, xf5⟩ := Kx22.out
        simp only [Nat.zero_add] at x1 x2 x3 x4 x5
        obtain ⟨ql, q0, q1, q2⟩ := Kq22.out
        go_wp2_with fail
        refine (BoxMoved_any x ⟨0, 0, H⟩ w22 HSX.out (by unfold SmP; simp only; omega)).mono ?_
        rintro e w23 ⟨rfl, hb23⟩
        clear xl x0 x1 x2 x3 x4 x5 xf0 xf1 xf2 xf3 xf4 xf5 ql q0 q1 q2
        have hal : Below w22.heap.size w22 w22 := (Below.refl _ _)
        have hn : Below w22.heap.size w22 w23 := hal.trans (hb23.mono hal.size)
        have HB23 : Hid (Below w.heap.size w w23) := HB22.out.trans (hn.mono HB22.out.size)
        have Kk23 : Hid (Bf (w1.heap.size) (k) w23) := Kk22.out.later hn
        have Km23 : Hid (Bf (w2.heap.size) (m) w23) := Km22.out.later hn
        have Kx23 : Hid (Bf (bX) (x) w23) := Kx22.out.later hn
        have Ky23 : Hid (Bf (bY) (y) w23) := Ky22.out.later hn
        have Kq23 : Hid (Pf (wr.heap.size) (⟨0, 0, H⟩) w23) := Kq22.out.later hn
        clear hal hn hb23
        go_wp2_with fail
        refine (BoxMay_r (movB x ⟨0, 0, H⟩) ee HEE.out _).mono ?_
        rintro e w24 ⟨rfl, hb24⟩
        have hal : Below w23.heap.size w23 w23 := (Below.refl _ _)
        have hn : Below w23.heap.size w23 w24 := hal.trans (hb24.mono hal.size)
        have HB24 : Hid (Below w.heap.size w w24) := HB23.out.trans (hn.mono HB23.out.size)
        have Kk24 : Hid (Bf (w1.heap.size) (k) w24) := Kk23.out.later hn
        have Km24 : Hid (Bf (w2.heap.size) (m) w24) := Km23.out.later hn
        have Kx24 : Hid (Bf (bX) (x) w24) := Kx23.out.later hn
        have Ky24 : Hid (Bf (bY) (y) w24) := Ky23.out.later hn
        have Kq24 : Hid (Pf (wr.heap.size) (⟨0, 0, H⟩) w24) := Kq23.out.later hn
        clear hal hn hb24
        go_wp2
        go_ret2
        exact ⟨by rw [HF.out]; rfl, HB24.out⟩
      have G2 : Hid (bad1 (movB x ⟨0, 0, H⟩) = 0) := g2
      clear g2
      by_cases g3 : bad1 (movB y ⟨0, 0, H⟩) = 0
      rotate_left
      · have HF : Hid (r = false) := by
          show r = false
          cases e : r with
          | false => rfl
          | true => exact absurd (HNR.out.1 e).2.2.2 g3
        obtain ⟨ee, hee⟩ : ∃ ee, bad1 (movB y ⟨0, 0, H⟩) = ee := ⟨_, rfl⟩
        have HEE : Hid (bad1 (movB y ⟨0, 0, H⟩) = ee) := hee
        have dd : (ee == 0) = false := by rw [← hee]; simp [g3]
        clear hee g3
        have Kk20 : Hid (Bf (w1.heap.size) (k) wr) := KK5.out.later HB.out
        have Km20 : Hid (Bf (w2.heap.size) (m) wr) := KM.out.later HB.out
        have Kx20 : Hid (Bf (bX) (x) wr) := KX.out.later HB.out
        have Ky20 : Hid (Bf (bY) (y) wr) := KY.out.later HB.out
        obtain ⟨⟨kl, k0, k1, k2, k3, k4, k5⟩, kf0, kf1, kf2, kf3, kf4, kf5⟩ := Kk20.out
        simp only [Nat.zero_add] at k1 k2 k3 k4 k5
        go_wp2_with fail
        refine (BoxMay_r k 0 G0.out _).mono ?_
        rintro e w21 ⟨rfl, hb21⟩
        clear kl k0 k1 k2 k3 k4 k5 kf0 kf1 kf2 kf3 kf4 kf5
        have hal : Below wr.heap.size wr (wr.alloc (po (⟨0, 0, H⟩))) := (below_grow _ (Nat.le_refl _) (Below.refl _ _) _)
        have hn : Below wr.heap.size wr w21 := hal.trans (hb21.mono hal.size)
        have HB21 : Hid (Below w.heap.size w w21) := HBW.out.trans (hn.mono HBW.out.size)
        have Kk21 : Hid (Bf (w1.heap.size) (k) w21) := Kk20.out.later hn
        have Km21 : Hid (Bf (w2.heap.size) (m) w21) := Km20.out.later hn
        have Kx21 : Hid (Bf (bX) (x) w21) := Kx20.out.later hn
        have Ky21 : Hid (Bf (bY) (y) w21) := Ky20.out.later hn
        have Kq21 : Hid (Pf (wr.heap.size) (⟨0, 0, H⟩) w21) := by
          have h := ((Pf.new wr (⟨0, 0, H⟩)).later (Below.refl _ _)).later hb21
          show Pf _ _ _
          simpa using h
        clear hal hn hb21
        obtain ⟨⟨ml, m0, m1, m2, m3, m4, m5⟩, mf0, mf1, mf2, mf3, mf4, mf5⟩ := Km21.out
        simp only [Nat.zero_add] at m1 m2 m3 m4 m5
        go_wp2_with fail
        refine (BoxMay_r m 0 G1.out _).mono ?_
        rintro e w22 ⟨rfl, hb22⟩
        clear ml m0 m1 m2 m3 m4 m5 mf0 mf1 mf2 mf3 mf4 mf5
        have hal : Below w21.heap.size w21 w21 := (Below.refl _ _)
        have hn : Below w21.heap.size w21 w22 := hal.trans (hb22.mono hal.size)
        have HB22 : Hid (Below w.heap.size w w22) := HB21.out.trans (hn.mono HB21.out.size)
        have Kk22 : Hid (Bf (w1.heap.size) (k) w22) := Kk21.out.later hn
        have Km22 : Hid (Bf (w2.heap.size) (m) w22) := Km21.out.later hn
        have Kx22 : Hid (Bf (bX) (x) w22) := Kx21.out.later hn
        have Ky22 : Hid (Bf (bY) (y) w22) := Ky21.out.later hn
        have Kq22 : Hid (Pf (wr.heap.size) (⟨0, 0, H⟩) w22) := Kq21.out.later hn
        clear hal hn hb22
        obtain ⟨⟨xl, x0, x1, x2, x3, x4, x5⟩, xf0, xf1, xf2, xf3, xf4, xf5⟩ := Kx22.out
        simp only [Nat.zero_add] at x1 x2 x3 x4 x5
        obtain ⟨ql, q0, q1, q2⟩ := Kq22.out
        go_wp2_with fail
        refine (BoxMoved_any x ⟨0, 0, H⟩ w22 HSX.out (by unfold SmP; simp only; omega)).mono ?_
        rintro e w23 ⟨rfl, hb23⟩
        clear xl x0 x1 x2 x3 x4 x5 xf0 xf1 xf2 xf3 xf4 xf5 ql q0 q1 q2
        have hal : Below w22.heap.size w22 w22 := (Below.refl _ _)
        have hn : Below w22.heap.size w22 w23 := hal.trans (hb23.mono hal.size)
        have HB23 : Hid (Below w.heap.size w w23) := HB22.out.trans (hn.mono HB22.out.size)
        have Kk23 : Hid (Bf (w1.heap.size) (k) w23) := Kk22.out.later hn
        have Km23 : Hid (Bf (w2.heap.size) (m) w23) := Km22.out.later hn
        have Kx23 : Hid (Bf (bX) (x) w23) := Kx22.out.later hn
        have Ky23 : Hid (Bf (bY) (y) w23) := Ky22.out.later hn
        have Kq23 : Hid (Pf (wr.heap.size) (⟨0, 0, H⟩) w23) := Kq22.out.later hn
        clear hal hn hb23
        go_wp2_with fail
        refine (BoxMay_r (movB x ⟨0, 0, H⟩) 0 G2.out _).mono ?_
        rintro e w24 ⟨rfl, hb24⟩
        have hal : Below w23.heap.size w23 w23 := (Below.refl _ _)
        have hn : Below w23.heap.size w23 w24 := hal.trans (hb24.mono hal.size)
        have HB24 : Hid (Below w.heap.size w w24) := HB23.out.trans (hn.mono HB23.out.size)
        have Kk24 : Hid (Bf (w1.heap.size) (k) w24) := Kk23.out.later hn
        have Km24 : Hid (Bf (w2.heap.size) (m) w24) := Km23.out.later hn
        have Kx24 : Hid (Bf (bX) (x) w24) := Kx23.out.later hn
        have Ky24 : Hid (Bf (bY) (y) w24) := Ky23.out.later hn
        have Kq24 : Hid (Pf (wr.heap.size) (⟨0, 0, H⟩) w24) := Kq23.out.later hn
        clear hal hn hb24
        obtain ⟨⟨yl, y0, y1, y2, y3, y4, y5⟩, yf0, yf1, yf2, yf3, yf4, yf5⟩ := Ky24.out
        simp only [Nat.zero_add] at y1 y2 y3 y4 y5
        obtain ⟨ql, q0, q1, q2⟩ := Kq24.out
        go_wp2_with fail
        refine (BoxMoved_any y ⟨0, 0, H⟩ w24 HSY.out (by unfold SmP; simp only; omega)).mono ?_
        rintro e w25 ⟨rfl, hb25⟩
        clear yl y0 y1 y2 y3 y4 y5 yf0 yf1 yf2 yf3 yf4 yf5 ql q0 q1 q2
        have hal : Below w24.heap.size w24 w24 := (Below.refl _ _)
        have hn : Below w24.heap.size w24 w25 := hal.trans (hb25.mono hal.size)
        have HB25 : Hid (Below w.heap.size w w25) := HB24.out.trans (hn.mono HB24.out.size)
        have Kk25 : Hid (Bf (w1.heap.size) (k) w25) := Kk24.out.later hn
        have Km25 : Hid (Bf (w2.heap.size) (m) w25) := Km24.out.later hn
        have Kx25 : Hid (Bf (bX) (x) w25) := Kx24.out.later hn
        have Ky25 : Hid (Bf (bY) (y) w25) := Ky24.out.later hn
        have Kq25 : Hid (Pf (wr.heap.size) (⟨0, 0, H⟩) w25) := Kq24.out.later hn
        clear hal hn hb25
        go_wp2_with fail
        refine (BoxMay_r (movB y ⟨0, 0, H⟩) ee HEE.out _).mono ?_
        rintro e w26 ⟨rfl, hb26⟩
        have hal : Below w25.heap.size w25 w25 := (Below.refl _ _)
        have hn : Below w25.heap.size w25 w26 := hal.trans (hb26.mono hal.size)
        have HB26 : Hid (Below w.heap.size w w26) := HB25.out.trans (hn.mono HB25.out.size)
        have Kk26 : Hid (Bf (w1.heap.size) (k) w26) := Kk25.out.later hn
        have Km26 : Hid (Bf (w2.heap.size) (m) w26) := Km25.out.later hn
        have Kx26 : Hid (Bf (bX) (x) w26) := Kx25.out.later hn
        have Ky26 : Hid (Bf (bY) (y) w26) := Ky25.out.later hn
        have Kq26 : Hid (Pf (wr.heap.size) (⟨0, 0, H⟩) w26) := Kq25.out.later hn
        clear hal hn hb26
        go_wp2
        go_ret2
        exact ⟨by rw [HF.out]; rfl, HB26.out⟩
      have G3 : Hid (bad1 (movB y ⟨0, 0, H⟩) = 0) := g3
      clear g3
      have HF : Hid (r = true) := HNR.out.2 ⟨G0.out, G1.out, G2.out, G3.out⟩
      have Kk20 : Hid (Bf (w1.heap.size) (k) wr) := KK5.out.later HB.out
      have Km20 : Hid (Bf (w2.heap.size) (m) wr) := KM.out.later HB.out
      have Kx20 : Hid (Bf (bX) (x) wr) := KX.out.later HB.out
      have Ky20 : Hid (Bf (bY) (y) wr) := KY.out.later HB.out
      obtain ⟨⟨kl, k0, k1, k2, k3, k4, k5⟩, kf0, kf1, kf2, kf3, kf4, kf5⟩ := Kk20.out
      simp only [Nat.zero_add] at k1 k2 k3 k4 k5
      go_wp2_with fail
      refine (BoxMay_r k 0 G0.out _).mono ?_
      rintro e w21 ⟨rfl, hb21⟩
      clear kl k0 k1 k2 k3 k4 k5 kf0 kf1 kf2 kf3 kf4 kf5
      have hal : Below wr.heap.size wr (wr.alloc (po (⟨0, 0, H⟩))) := (below_grow _ (Nat.le_refl _) (Below.refl _ _) _)
      have hn : Below wr.heap.size wr w21 := hal.trans (hb21.mono hal.size)
      have HB21 : Hid (Below w.heap.size w w21) := HBW.out.trans (hn.mono HBW.out.size)
      have Kk21 : Hid (Bf (w1.heap.size) (k) w21) := Kk20.out.later hn
      have Km21 : Hid (Bf (w2.heap.size) (m) w21) := Km20.out.later hn
      have Kx21 : Hid (Bf (bX) (x) w21) := Kx20.out.later hn
      have Ky21 : Hid (Bf (bY) (y) w21) := Ky20.out.later hn
      have Kq21 : Hid (Pf (wr.heap.size) (⟨0, 0, H⟩) w21) := by
        have h := ((Pf.new wr (⟨0, 0, H⟩)).later (Below.refl _ _)).later hb21
        show Pf _ _ _
        simpa using h
      clear hal hn hb21
      obtain ⟨⟨ml, m0, m1, m2, m3, m4, m5⟩, mf0, mf1, mf2, mf3, mf4, mf5⟩ := Km21.out
      simp only [Nat.zero_add] at m1 m2 m3 m4 m5
      go_wp2_with fail
      refine (BoxMay_r m 0 G1.out _).mono ?_
      rintro e w22 ⟨rfl, hb22⟩
      clear ml m0 m1 m2 m3 m4 m5 mf0 mf1 mf2 mf3 mf4 mf5
      have hal : Below w21.heap.size w21 w21 := (Below.refl _ _)
      have hn : Below w21.heap.size w21 w22 := hal.trans (hb22.mono hal.size)
      have HB22 : Hid (Below w.heap.size w w22) := HB21.out.trans (hn.mono HB21.out.size)
      have Kk22 : Hid (Bf (w1.heap.size) (k) w22) := Kk21.out.later hn
      have Km22 : Hid (Bf (w2.heap.size) (m) w22) := Km21.out.later hn
      have Kx22 : Hid (Bf (bX) (x) w22) := Kx21.out.later hn
      have Ky22 : Hid (Bf (bY) (y) w22) := Ky21.out.later hn
      have Kq22 : Hid (Pf (wr.heap.size) (⟨0, 0, H⟩) w22) := Kq21.out.later hn
      clear hal hn hb22
      obtain ⟨⟨xl, x0, x1, x2, x3, x4, x5⟩, xf0, xf1, xf2, xf3, xf4, xf5⟩ := Kx22.out
      simp only [Nat.zero_add] at x1 x2 x3 x4 x5
      obtain ⟨ql, q0, q1, q2⟩ := Kq22.out
      go_wp2_with fail
      refine (BoxMoved_any x ⟨0, 0, H⟩ w22 HSX.out (by unfold SmP; simp only; omega)).mono ?_
      rintro e w23 ⟨rfl, hb23⟩
      clear xl x0 x1 x2 x3 x4 x5 xf0 xf1 xf2 xf3 xf4 xf5 ql q0 q1 q2
      have hal : Below w22.heap.size w22 w22 := (Below.refl _ _)
      have hn : Below w22.heap.size w22 w23 := hal.trans (hb23.mono hal.size)
      have HB23 : Hid (Below w.heap.size w w23) := HB22.out.trans (hn.mono HB22.out.size)
      have Kk23 : Hid (Bf (w1.heap.size) (k) w23) := Kk22.out.later hn
      have Km23 : Hid (Bf (w2.heap.size) (m) w23) := Km22.out.later hn
      have Kx23 : Hid (Bf (bX) (x) w23) := Kx22.out.later hn
      have Ky23 : Hid (Bf (bY) (y) w23) := Ky22.out.later hn
      have Kq23 : Hid (Pf (wr.heap.size) (⟨0, 0, H⟩) w23) := Kq22.out.later hn
      clear hal hn hb23
      go_wp2_with fail
      refine (BoxMay_r (movB x ⟨0, 0, H⟩) 0 G2.out _).mono ?_
      rintro e w24 ⟨rfl, hb24⟩
      have hal : Below w23.heap.size w23 w23 := (Below.refl _ _)
      have hn : Below w23.heap.size w23 w24 := hal.trans (hb24.mono hal.size)
      have HB24 : Hid (Below w.heap.size w w24) := HB23.out.trans (hn.mono HB23.out.size)
      have Kk24 : Hid (Bf (w1.heap.size) (k) w24) := Kk23.out.later hn
      have Km24 : Hid (Bf (w2.heap.size) (m) w24) := Km23.out.later hn
      have Kx24 : Hid (Bf (bX) (x) w24) := Kx23.out.later hn
      have Ky24 : Hid (Bf (bY) (y) w24) := Ky23.out.later hn
      have Kq24 : Hid (Pf (wr.heap.size) (⟨0, 0, H⟩) w24) := Kq23.out.later hn
      clear hal hn hb24
      obtain ⟨⟨yl, y0, y1, y2, y3, y4, y5⟩, yf0, yf1, yf2, yf3, yf4, yf5⟩ := Ky24.out
      simp only [Nat.zero_add] at y1 y2 y3 y4 y5
      obtain ⟨ql, q0, q1, q2⟩ := Kq24.out
      go_wp2_with fail
      refine (BoxMoved_any y ⟨0, 0, H⟩ w24 HSY.out (by unfold SmP; simp only; omega)).mono ?_
      rintro e w25 ⟨rfl, hb25⟩
      clear yl y0 y1 y2 y3 y4 y5 yf0 yf1 yf2 yf3 yf4 yf5 ql q0 q1 q2
      have hal : Below w24.heap.size w24 w24 := (Below.refl _ _)
      have hn : Below w24.heap.size w24 w25 := hal.trans (hb25.mono hal.size)
      have HB25 : Hid (Below w.heap.size w w25) := HB24.out.trans (hn.mono HB24.out.size)
      have Kk25 : Hid (Bf (w1.heap.size) (k) w25) := Kk24.out.later hn
      have Km25 : Hid (Bf (w2.heap.size) (m) w25) := Km24.out.later hn
      have Kx25 : Hid (Bf (bX) (x) w25) := Kx24.out.later hn
      have Ky25 : Hid (Bf (bY) (y) w25) := Ky24.out.later hn
      have Kq25 : Hid (Pf (wr.heap.size) (⟨0, 0, H⟩) w25) := Kq24.out.later hn
      clear hal hn hb25
      go_wp2_with fail
      refine (BoxMay_r (movB y ⟨0, 0, H⟩) 0 G3.out _).mono ?_
      rintro e w26 ⟨rfl, hb26⟩
      have hal : Below w25.heap.size w25 w25 := (Below.refl _ _)
      have hn : Below w25.heap.size w25 w26 := hal.trans (hb26.mono hal.size)
      have HB26 : Hid (Below w.heap.size w w26) := HB25.out.trans (hn.mono HB25.out.size)
      have Kk26 : Hid (Bf (w1.heap.size) (k) w26) := Kk25.out.later hn
      have Km26 : Hid (Bf (w2.heap.size) (m) w26) := Km25.out.later hn
      have Kx26 : Hid (Bf (bX) (x) w26) := Kx25.out.later hn
      have Ky26 : Hid (Bf (bY) (y) w26) := Ky25.out.later hn
      have Kq26 : Hid (Pf (wr.heap.size) (⟨0, 0, H⟩) w26) := Kq25.out.later hn
      clear hal hn hb26
      go_wp2
      go_ret2
      exact ⟨by rw [HF.out]; rfl, HB26.out⟩
    cases n with
    | zero =>
      have HB1 : Hid (best = -1) := HI.out.2.2 rfl
      have e1 : best = -1 := HB1.out
      subst e1
      have dl : decide ((-1 : Int) < (l.length : Int)) = true := by simp; omega
      rw [show ((0 : Nat) : Int) - 1 = -1 from rfl]
      by_cases f1 : firstI l (movB x ⟨0, 0, 0⟩) < 0
      rotate_left
      · have HMET : Hid (BsI l x y a.lz H 1 (-1)) := by
          obtain ⟨bb, hb, hm⟩ := met_of1 (y := y) f1
          exact bsi_met0 HH.out HI.out hb hm
        have HBV : Hid (Below w.heap.size w wr) := HB5.out.trans (HB.out.mono HB5.out.size)
        have HVV : Hid (Below w5.heap.size w5 wr) := HB.out
        have Kx30 : Hid (Bf (bX) (x) wr) := KX.out.later HB.out
        have Ky30 : Hid (Bf (bY) (y) wr) := KY.out.later HB.out
        obtain ⟨⟨xl, x0, x1, x2, x3, x4, x5⟩, xf0, xf1, xf2, xf3, xf4, xf5⟩ := Kx30.out
        simp only [Nat.zero_add] at x1 x2 x3 x4 x5
        go_wp2_with fail
        refine (BoxMoved_any x ⟨0, 0, 0⟩ _ HSX.out (by unfold SmP; simp only; omega)).mono ?_
        rintro e w31 ⟨rfl, hb31⟩
        clear xl x0 x1 x2 x3 x4 x5 xf0 xf1 xf2 xf3 xf4 xf5
        have hal : Below wr.heap.size wr (wr.alloc (po (⟨0, 0, 0⟩))) := (below_grow _ (Nat.le_refl _) (Below.refl _ _) _)
        have hn : Below wr.heap.size wr w31 := hal.trans (hb31.mono hal.size)
        have HB31 : Hid (Below w.heap.size w w31) := HBV.out.trans (hn.mono HBV.out.size)
        have HV31 : Hid (Below w5.heap.size w5 w31) := HVV.out.trans (hn.mono HVV.out.size)
        have Kx31 : Hid (Bf (bX) (x) w31) := Kx30.out.later hn
        have Ky31 : Hid (Bf (bY) (y) w31) := Ky30.out.later hn
        have Kq31 : Hid (Pf (wr.heap.size) (⟨0, 0, 0⟩) w31) := by
          have h := ((Pf.new wr (⟨0, 0, 0⟩)).later (Below.refl _ _)).later hb31
          show Pf _ _ _
          simpa using h
        clear hal hn hb31
        go_wp2_with fail
        obtain ⟨i1, hi1⟩ : ∃ i1, firstI l (movB x ⟨0, 0, 0⟩) = i1 := ⟨_, rfl⟩
        have HI1 : Hid (firstI l (movB x ⟨0, 0, 0⟩) = i1) := hi1
        rw [hi1] at f1
        clear hi1
        have dd1 : decide (i1 < 0) = false := decide_eq_false (by omega)
        refine (BoxFirst_r ao cap l (movB x ⟨0, 0, 0⟩) i1 HI1.out w31 (HL.out.next HB31.out) hll).mono ?_
        rintro e w32 ⟨rfl, hb32⟩
        have hal : Below w31.heap.size w31 w31 := (Below.refl _ _)
        have hn : Below w31.heap.size w31 w32 := hal.trans (hb32.mono hal.size)
        have HB32 : Hid (Below w.heap.size w w32) := HB31.out.trans (hn.mono HB31.out.size)
        have HV32 : Hid (Below w5.heap.size w5 w32) := HV31.out.trans (hn.mono HV31.out.size)
        have Kx32 : Hid (Bf (bX) (x) w32) := Kx31.out.later hn
        have Ky32 : Hid (Bf (bY) (y) w32) := Ky31.out.later hn
        have Kq32 : Hid (Pf (wr.heap.size) (⟨0, 0, 0⟩) w32) := Kq31.out.later hn
        clear hal hn hb32
        go_wp2
        go_roundw
        case rel => exact ⟨1, -1, by omega, rfl, rfl, HMET.out, HV32.out⟩
        case measure => simp [intOf] <;> omega
      by_cases f2 : firstI l (movB y ⟨0, 0, 0⟩) < 0
      rotate_left
      · have HMET : Hid (BsI l x y a.lz H 1 (-1)) := by
          obtain ⟨bb, hb, hm⟩ := met_of2 (x := x) f2
          exact bsi_met0 HH.out HI.out hb hm
        have HBV : Hid (Below w.heap.size w wr) := HB5.out.trans (HB.out.mono HB5.out.size)
        have HVV : Hid (Below w5.heap.size w5 wr) := HB.out
        have Kx30 : Hid (Bf (bX) (x) wr) := KX.out.later HB.out
        have Ky30 : Hid (Bf (bY) (y) wr) := KY.out.later HB.out
        obtain ⟨⟨xl, x0, x1, x2, x3, x4, x5⟩, xf0, xf1, xf2, xf3, xf4, xf5⟩ := Kx30.out
        simp only [Nat.zero_add] at x1 x2 x3 x4 x5
        go_wp2_with fail
        refine (BoxMoved_any x ⟨0, 0, 0⟩ _ HSX.out (by unfold SmP; simp only; omega)).mono ?_
        rintro e w31 ⟨rfl, hb31⟩
        clear xl x0 x1 x2 x3 x4 x5 xf0 xf1 xf2 xf3 xf4 xf5
        have hal : Below wr.heap.size wr (wr.alloc (po (⟨0, 0, 0⟩))) := (below_grow _ (Nat.le_refl _) (Below.refl _ _) _)
        have hn : Below wr.heap.size wr w31 := hal.trans (hb31.mono hal.size)
        have HB31 : Hid (Below w.heap.size w w31) := HBV.out.trans (hn.mono HBV.out.size)
        have HV31 : Hid (Below w5.heap.size w5 w31) := HVV.out.trans (hn.mono HVV.out.size)
        have Kx31 : Hid (Bf (bX) (x) w31) := Kx30.out.later hn
        have Ky31 : Hid (Bf (bY) (y) w31) := Ky30.out.later hn
        have Kq31 : Hid (Pf (wr.heap.size) (⟨0, 0, 0⟩) w31) := by
          have h := ((Pf.new wr (⟨0, 0, 0⟩)).later (Below.refl _ _)).later hb31
          show Pf _ _ _
          simpa using h
        clear hal hn hb31
        go_wp2_with fail
        obtain ⟨i1, hi1⟩ : ∃ i1, firstI l (movB x ⟨0, 0, 0⟩) = i1 := ⟨_, rfl⟩
        have HI1 : Hid (firstI l (movB x ⟨0, 0, 0⟩) = i1) := hi1
        rw [hi1] at f1
        clear hi1
        have dd1 : decide (i1 < 0) = true := decide_eq_true (by omega)
        refine (BoxFirst_r ao cap l (movB x ⟨0, 0, 0⟩) i1 HI1.out w31 (HL.out.next HB31.out) hll).mono ?_
        rintro e w32 ⟨rfl, hb32⟩
        have hal : Below w31.heap.size w31 w31 := (Below.refl _ _)
        have hn : Below w31.heap.size w31 w32 := hal.trans (hb32.mono hal.size)
        have HB32 : Hid (Below w.heap.size w w32) := HB31.out.trans (hn.mono HB31.out.size)
        have HV32 : Hid (Below w5.heap.size w5 w32) := HV31.out.trans (hn.mono HV31.out.size)
        have Kx32 : Hid (Bf (bX) (x) w32) := Kx31.out.later hn
        have Ky32 : Hid (Bf (bY) (y) w32) := Ky31.out.later hn
        have Kq32 : Hid (Pf (wr.heap.size) (⟨0, 0, 0⟩) w32) := Kq31.out.later hn
        clear hal hn hb32
        obtain ⟨⟨yl, y0, y1, y2, y3, y4, y5⟩, yf0, yf1, yf2, yf3, yf4, yf5⟩ := Ky32.out
        simp only [Nat.zero_add] at y1 y2 y3 y4 y5
        obtain ⟨ql, q0, q1, q2⟩ := Kq32.out
        go_wp2_with fail
        refine (BoxMoved_any y ⟨0, 0, 0⟩ w32 HSY.out (by unfold SmP; simp only; omega)).mono ?_
        rintro e w33 ⟨rfl, hb33⟩
        clear yl y0 y1 y2 y3 y4 y5 yf0 yf1 yf2 yf3 yf4 yf5 ql q0 q1 q2
        have hal : Below w32.heap.size w32 w32 := (Below.refl _ _)
        have hn : Below w32.heap.size w32 w33 := hal.trans (hb33.mono hal.size)
        have HB33 : Hid (Below w.heap.size w w33) := HB32.out.trans (hn.mono HB32.out.size)
        have HV33 : Hid (Below w5.heap.size w5 w33) := HV32.out.trans (hn.mono HV32.out.size)
        have Kx33 : Hid (Bf (bX) (x) w33) := Kx32.out.later hn
        have Ky33 : Hid (Bf (bY) (y) w33) := Ky32.out.later hn
        have Kq33 : Hid (Pf (wr.heap.size) (⟨0, 0, 0⟩) w33) := Kq32.out.later hn
        clear hal hn hb33
        go_wp2_with fail
        obtain ⟨i2, hi2⟩ : ∃ i2, firstI l (movB y ⟨0, 0, 0⟩) = i2 := ⟨_, rfl⟩
        have HI2 : Hid (firstI l (movB y ⟨0, 0, 0⟩) = i2) := hi2
        rw [hi2] at f2
        clear hi2
        have dd2 : decide (i2 < 0) = false := decide_eq_false (by omega)
        refine (BoxFirst_r ao cap l (movB y ⟨0, 0, 0⟩) i2 HI2.out w33 (HL.out.next HB33.out) hll).mono ?_
        rintro e w34 ⟨rfl, hb34⟩
        have hal : Below w33.heap.size w33 w33 := (Below.refl _ _)
        have hn : Below w33.heap.size w33 w34 := hal.trans (hb34.mono hal.size)
        have HB34 : Hid (Below w.heap.size w w34) := HB33.out.trans (hn.mono HB33.out.size)
        have HV34 : Hid (Below w5.heap.size w5 w34) := HV33.out.trans (hn.mono HV33.out.size)
        have Kx34 : Hid (Bf (bX) (x) w34) := Kx33.out.later hn
        have Ky34 : Hid (Bf (bY) (y) w34) := Ky33.out.later hn
        have Kq34 : Hid (Pf (wr.heap.size) (⟨0, 0, 0⟩) w34) := Kq33.out.later hn
        clear hal hn hb34
        go_wp2
        go_roundw
        case rel => exact ⟨1, -1, by omega, rfl, rfl, HMET.out, HV34.out⟩
        case measure => simp [intOf] <;> omega
      have HFREE : Hid (BsI l x y a.lz H 1 (0)) := bsi_free0 (free_of f1 f2)
      have HBV : Hid (Below w.heap.size w wr) := HB5.out.trans (HB.out.mono HB5.out.size)
      have HVV : Hid (Below w5.heap.size w5 wr) := HB.out
      have Kx30 : Hid (Bf (bX) (x) wr) := KX.out.later HB.out
      have Ky30 : Hid (Bf (bY) (y) wr) := KY.out.later HB.out
      obtain ⟨⟨xl, x0, x1, x2, x3, x4, x5⟩, xf0, xf1, xf2, xf3, xf4, xf5⟩ := Kx30.out
      simp only [Nat.zero_add] at x1 x2 x3 x4 x5
      go_wp2_with fail
      refine (BoxMoved_any x ⟨0, 0, 0⟩ _ HSX.out (by unfold SmP; simp only; omega)).mono ?_
      rintro e w31 ⟨rfl, hb31⟩
      clear xl x0 x1 x2 x3 x4 x5 xf0 xf1 xf2 xf3 xf4 xf5
      have hal : Below wr.heap.size wr (wr.alloc (po (⟨0, 0, 0⟩))) := (below_grow _ (Nat.le_refl _) (Below.refl _ _) _)
      have hn : Below wr.heap.size wr w31 := hal.trans (hb31.mono hal.size)
      have HB31 : Hid (Below w.heap.size w w31) := HBV.out.trans (hn.mono HBV.out.size)
      have HV31 : Hid (Below w5.heap.size w5 w31) := HVV.out.trans (hn.mono HVV.out.size)
      have Kx31 : Hid (Bf (bX) (x) w31) := Kx30.out.later hn
      have Ky31 : Hid (Bf (bY) (y) w31) := Ky30.out.later hn
      have Kq31 : Hid (Pf (wr.heap.size) (⟨0, 0, 0⟩) w31) := by
        have h := ((Pf.new wr (⟨0, 0, 0⟩)).later (Below.refl _ _)).later hb31
        show Pf _ _ _
        simpa using h
      clear hal hn hb31
      go_wp2_with fail
      obtain ⟨i1, hi1⟩ : ∃ i1, firstI l (movB x ⟨0, 0, 0⟩) = i1 := ⟨_, rfl⟩
      have HI1 : Hid (firstI l (movB x ⟨0, 0, 0⟩) = i1) := hi1
      rw [hi1] at f1
      clear hi1
      have dd1 : decide (i1 < 0) = true := decide_eq_true (by omega)
      refine (BoxFirst_r ao cap l (movB x ⟨0, 0, 0⟩) i1 HI1.out w31 (HL.out.next HB31.out) hll).mono ?_
      rintro e w32 ⟨rfl, hb32⟩
      have hal : Below w31.heap.size w31 w31 := (Below.refl _ _)
      have hn : Below w31.heap.size w31 w32 := hal.trans (hb32.mono hal.size)
      have HB32 : Hid (Below w.heap.size w w32) := HB31.out.trans (hn.mono HB31.out.size)
      have HV32 : Hid (Below w5.heap.size w5 w32) := HV31.out.trans (hn.mono HV31.out.size)
      have Kx32 : Hid (Bf (bX) (x) w32) := Kx31.out.later hn
      have Ky32 : Hid (Bf (bY) (y) w32) := Ky31.out.later hn
      have Kq32 : Hid (Pf (wr.heap.size) (⟨0, 0, 0⟩) w32) := Kq31.out.later hn
      clear hal hn hb32
      obtain ⟨⟨yl, y0, y1, y2, y3, y4, y5⟩, yf0, yf1, yf2, yf3, yf4, yf5⟩ := Ky32.out
      simp only [Nat.zero_add] at y1 y2 y3 y4 y5
      obtain ⟨ql, q0, q1, q2⟩ := Kq32.out
      go_wp2_with fail
      refine (BoxMoved_any y ⟨0, 0, 0⟩ w32 HSY.out (by unfold SmP; simp only; omega)).mono ?_
      rintro e w33 ⟨rfl, hb33⟩
      clear yl y0 y1 y2 y3 y4 y5 yf0 yf1 yf2 yf3 yf4 yf5 ql q0 q1 q2
      have hal : Below w32.heap.size w32 w32 := (Below.refl _ _)
      have hn : Below w32.heap.size w32 w33 := hal.trans (hb33.mono hal.size)
      have HB33 : Hid (Below w.heap.size w w33) := HB32.out.trans (hn.mono HB32.out.size)
      have HV33 : Hid (Below w5.heap.size w5 w33) := HV32.out.trans (hn.mono HV32.out.size)
      have Kx33 : Hid (Bf (bX) (x) w33) := Kx32.out.later hn
      have Ky33 : Hid (Bf (bY) (y) w33) := Ky32.out.later hn
      have Kq33 : Hid (Pf (wr.heap.size) (⟨0, 0, 0⟩) w33) := Kq32.out.later hn
      clear hal hn hb33
      go_wp2_with fail
      obtain ⟨i2, hi2⟩ : ∃ i2, firstI l (movB y ⟨0, 0, 0⟩) = i2 := ⟨_, rfl⟩
      have HI2 : Hid (firstI l (movB y ⟨0, 0, 0⟩) = i2) := hi2
      rw [hi2] at f2
      clear hi2
      have dd2 : decide (i2 < 0) = true := decide_eq_true (by omega)
      refine (BoxFirst_r ao cap l (movB y ⟨0, 0, 0⟩) i2 HI2.out w33 (HL.out.next HB33.out) hll).mono ?_
      rintro e w34 ⟨rfl, hb34⟩
      have hal : Below w33.heap.size w33 w33 := (Below.refl _ _)
      have hn : Below w33.heap.size w33 w34 := hal.trans (hb34.mono hal.size)
      have HB34 : Hid (Below w.heap.size w w34) := HB33.out.trans (hn.mono HB33.out.size)
      have HV34 : Hid (Below w5.heap.size w5 w34) := HV33.out.trans (hn.mono HV33.out.size)
      have Kx34 : Hid (Bf (bX) (x) w34) := Kx33.out.later hn
      have Ky34 : Hid (Bf (bY) (y) w34) := Ky33.out.later hn
      have Kq34 : Hid (Pf (wr.heap.size) (⟨0, 0, 0⟩) w34) := Kq33.out.later hn
      clear hal hn hb34
      go_wp2
      go_roundw
      case rel => exact ⟨1, 0, by omega, rfl, rfl, HFREE.out, HV34.out⟩
      case measure => simp [intOf] <;> omega
    | succ j =>
      have hj : j < l.length := by omega
      rw [show ((j + 1 : Nat) : Int) - 1 = (j : Int) by omega]
      have dl : decide ((j : Int) < (l.length : Int)) = true := by simp; omega
      have dj : decide (0 ≤ (j : Int)) = true := by simp
      have hki : (j : Int) < (l.length : Int) := by omega
      have hgz := HG.out _ (List.getElem_mem hj)
      have HLow : Hid ((l[j]'hj).hz - a.lz < 0 → BsI l x y a.lz H (j + 2) best) := bsi_low hj HH.out HI.out
      have HHigh : Hid (0 ≤ best → best ≤ (l[j]'hj).hz - a.lz → BsI l x y a.lz H (j + 2) best) := bsi_high hj HH.out HI.out
      have HFr : Hid (0 ≤ (l[j]'hj).hz - a.lz → (l[j]'hj).hz - a.lz ≤ 100000000 → (best < 0 ∨ (l[j]'hj).hz - a.lz < best) → Free l x y ((l[j]'hj).hz - a.lz) → BsI l x y a.lz H (j + 2) ((l[j]'hj).hz - a.lz)) := bsi_free hj HH.out HI.out
      have HMt : Hid (∀ b ∈ l, hits x y ((l[j]'hj).hz - a.lz) b = true → BsI l x y a.lz H (j + 2) best) := fun b hb hm => bsi_met hj HH.out HI.out hb hm
      obtain ⟨b, off, rfl, hbx⟩ := (HL.out.next HBW.out).at hj
      generalize l[j]'hj = c at *
      obtain ⟨_, c0, c1, c2, c3, c4, c5⟩ := hbx
      obtain ⟨⟨_, a0, a1, a2, a3, a4, a5⟩, _⟩ := KA.out.later HB.out
      simp only [Nat.zero_add] at a1 a2 a3 a4 a5
      obtain ⟨z0, z1⟩ := hgz
      have hw : IntKind.i64.wrap (c.hz - a.lz) = c.hz - a.lz := wrap_is (by omega) (by omega)
      go_wp2_with fail
      rename_i KK2 hkk2
      have HKK2 := (show Hid _ from hkk2)
      clear hkk2
      refine region_inv [false, false, false, false, false, false, false, false, false, false, false, false, false, false, true, false, false, false, false, false, false, false, false, false, false, false, false, false, false, false, false, false, false, false, false, false, false, false, false, false, false, false, true, true, true, true, true, true, true, true, true, true, false, false, false, false, false, false, false, false, false, false, false, false, false, false, false, false, false, false, false, false, false, false, false, false, false, false, false, false, false, false, false, false, false, false, false, false, false, false, false, false, false, false, false, false, false, false, false, false, false, false, false, false, false, false]
        [(42, [], none), (43, [], none), (44, [42, 43], none), (45, [44], none), (46, [45], none), (47, [46], none), (48, [], none), (49, [48], none), (50, [49], none), (51, [47, 50], none), (14, [51], none)]
        (bs10V (some ⟨b, off, none⟩) l.length cap w.heap.size b off j c.hz a.lz) (by kernel_rfl) (by kernel_rfl) (fun _ _ _ _ h _ => h) ?_ ?_
      · refine ⟨?_, ?_, ?_, ?_, ?_, ?_, ?_, ?_, ?_, ?_, ?_, trivial⟩
        · intro f wr2 hb _ K hK
          simp only [over, overL, Nat.reduceAdd]
          go_simp
          exact hK _ _ ⟨_, rfl, by simp only [over, overL, Nat.reduceAdd]; rfl, Below.refl _ _⟩
        · intro f wr2 hb _ K hK
          simp only [over, overL, Nat.reduceAdd]
          go_simp
          exact hK _ _ ⟨_, rfl, by simp only [over, overL, Nat.reduceAdd]; rfl, Below.refl _ _⟩
        · intro f wr2 hb ⟨h42, h43, _⟩ K hK
          have h42 : f 42 = _ := h42
          have h43 : f 43 = _ := h43
          simp only [over, overL, Nat.reduceAdd, h42, h43]
          go_simp
          exact hK _ _ ⟨_, rfl, by simp only [over, overL, Nat.reduceAdd, h42, h43]; rfl, Below.refl _ _⟩
        · intro f wr2 hb ⟨h44, _⟩ K hK
          have h44 : f 44 = _ := h44
          simp only [over, overL, Nat.reduceAdd, h44]
          go_simp
          exact hK _ _ ⟨_, rfl, by simp only [over, overL, Nat.reduceAdd, h44]; rfl, Below.refl _ _⟩
        · intro f wr2 hb ⟨h45, _⟩ K hK
          have h45 : f 45 = _ := h45
          simp only [over, overL, Nat.reduceAdd, h45]
          go_simp
          exact hK _ _ ⟨_, rfl, by simp only [over, overL, Nat.reduceAdd, h45]; rfl, Below.refl _ _⟩
        · intro f wr2 hb ⟨h46, _⟩ K hK
          have h46 : f 46 = _ := h46
          have cc := cell_later hb c5
          simp only [over, overL, Nat.reduceAdd, h46]
          go_simp
          exact hK _ _ ⟨_, rfl, by simp only [over, overL, Nat.reduceAdd, h46]; rfl, Below.refl _ _⟩
        · intro f wr2 hb _ K hK
          simp only [over, overL, Nat.reduceAdd]
          go_simp
          exact hK _ _ ⟨_, rfl, by simp only [over, overL, Nat.reduceAdd]; rfl, Below.refl _ _⟩
        · intro f wr2 hb ⟨h48, _⟩ K hK
          have h48 : f 48 = _ := h48
          simp only [over, overL, Nat.reduceAdd, h48]
          go_simp
          exact hK _ _ ⟨_, rfl, by simp only [over, overL, Nat.reduceAdd, h48]; rfl, Below.refl _ _⟩
        · intro f wr2 hb ⟨h49, _⟩ K hK
          have h49 : f 49 = _ := h49
          have cc := cell_later hb a2
          simp only [over, overL, Nat.reduceAdd, h49]
          go_simp
          exact hK _ _ ⟨_, rfl, by simp only [over, overL, Nat.reduceAdd, h49]; rfl, Below.refl _ _⟩
        · intro f wr2 hb ⟨h47, h50, _⟩ K hK
          have h47 : f 47 = _ := h47
          have h50 : f 50 = _ := h50
          simp only [over, overL, Nat.reduceAdd, h47, h50]
          go_simp
          exact hK _ _ ⟨_, rfl, by simp only [over, overL, Nat.reduceAdd, h47, h50]; rfl, Below.refl _ _⟩
        · intro f wr2 hb ⟨h51, _⟩ K hK
          have h51 : f 51 = _ := h51
          simp only [over, overL, Nat.reduceAdd, h51]
          go_simp
          exact hK _ _ ⟨_, rfl, by simp only [over, overL, Nat.reduceAdd, h51]; rfl, Below.refl _ _⟩
      intro f w6 hb6 hv
      have h14 : f 14 = .int .i64 (c.hz - a.lz) := hv.2.2.2.2.2.2.2.2.2.2.1
      have HB6 : Hid (Below w5.heap.size w5 w6) := HB.out.trans (hb6.mono HB.out.size)
      have HBW6 : Hid (Below w.heap.size w w6) := HB5.out.trans (HB6.out.mono HB5.out.size)
      clear c0 c1 c2 c3 c4 c5 a0 a1 a2 a3 a4 a5 hb6 hv
      simp only [over_eq, overL, Nat.reduceAdd, h14]
      clear h14
      obtain ⟨up, hup⟩ : ∃ up, c.hz - a.lz = up := ⟨_, rfl⟩
      rw [hup] at HLow HHigh HFr HMt ⊢
      have hup1 : up ≤ 100000000 := by omega
      have hup0 : -100000000 ≤ up := by omega
      clear hup hw
      refine HKK2.out _ _ ?_
      clear HKK2
      by_cases q0 : up < 0
      · have HX1 : Hid (BsI l x y a.lz H (j + 2) best) := HLow.out q0
        have t1 : decide (up < 0) = true := decide_eq_true q0
        go_wp2
        go_roundw
        case rel => exact ⟨j + 2, best, by omega, by go_num, rfl, HX1.out, HB6.out⟩
        case measure => simp [intOf] <;> omega
      have t1 : decide (up < 0) = false := decide_eq_false q0
      by_cases q1 : 0 ≤ best
      · have t2 : decide (0 ≤ best) = true := decide_eq_true q1
        by_cases q2 : best ≤ up
        · have HX1 : Hid (BsI l x y a.lz H (j + 2) best) := HHigh.out q1 q2
          have t3 : decide (best ≤ up) = true := decide_eq_true q2
          go_wp2
          go_roundw
          case rel => exact ⟨j + 2, best, by omega, by go_num, rfl, HX1.out, HB6.out⟩
          case measure => simp [intOf] <;> omega
        have t3 : decide (best ≤ up) = false := decide_eq_false q2
        by_cases f1 : firstI l (movB x ⟨0, 0, up⟩) < 0
        rotate_left
        · have HMET : Hid (BsI l x y a.lz H (j + 2) best) := by
            obtain ⟨bb, hb, hm⟩ := met_of1 (y := y) f1
            exact HMt.out bb hb hm
          have HBV : Hid (Below w.heap.size w w6) := HB5.out.trans (HB6.out.mono HB5.out.size)
          have HVV : Hid (Below w5.heap.size w5 w6) := HB6.out
          have Kx30 : Hid (Bf (bX) (x) w6) := KX.out.later HB6.out
          have Ky30 : Hid (Bf (bY) (y) w6) := KY.out.later HB6.out
          obtain ⟨⟨xl, x0, x1, x2, x3, x4, x5⟩, xf0, xf1, xf2, xf3, xf4, xf5⟩ := Kx30.out
          simp only [Nat.zero_add] at x1 x2 x3 x4 x5
          go_wp2_with fail
          refine (BoxMoved_any x ⟨0, 0, up⟩ _ HSX.out (by unfold SmP; simp only; omega)).mono ?_
          rintro e w31 ⟨rfl, hb31⟩
          clear xl x0 x1 x2 x3 x4 x5 xf0 xf1 xf2 xf3 xf4 xf5
          have hal : Below w6.heap.size w6 (w6.alloc (po (⟨0, 0, up⟩))) := (below_grow _ (Nat.le_refl _) (Below.refl _ _) _)
          have hn : Below w6.heap.size w6 w31 := hal.trans (hb31.mono hal.size)
          have HB31 : Hid (Below w.heap.size w w31) := HBV.out.trans (hn.mono HBV.out.size)
          have HV31 : Hid (Below w5.heap.size w5 w31) := HVV.out.trans (hn.mono HVV.out.size)
          have Kx31 : Hid (Bf (bX) (x) w31) := Kx30.out.later hn
          have Ky31 : Hid (Bf (bY) (y) w31) := Ky30.out.later hn
          have Kq31 : Hid (Pf (w6.heap.size) (⟨0, 0, up⟩) w31) := by
            have h := ((Pf.new w6 (⟨0, 0, up⟩)).later (Below.refl _ _)).later hb31
            show Pf _ _ _
            simpa using h
          clear hal hn hb31
          go_wp2_with fail
          obtain ⟨i1, hi1⟩ : ∃ i1, firstI l (movB x ⟨0, 0, up⟩) = i1 := ⟨_, rfl⟩
          have HI1 : Hid (firstI l (movB x ⟨0, 0, up⟩) = i1) := hi1
          rw [hi1] at f1
          clear hi1
          have dd1 : decide (i1 < 0) = false := decide_eq_false (by omega)
          refine (BoxFirst_r (some ⟨b, off, none⟩) cap l (movB x ⟨0, 0, up⟩) i1 HI1.out w31 (HL.out.next HB31.out) hll).mono ?_
          rintro e w32 ⟨rfl, hb32⟩
          have hal : Below w31.heap.size w31 w31 := (Below.refl _ _)
          have hn : Below w31.heap.size w31 w32 := hal.trans (hb32.mono hal.size)
          have HB32 : Hid (Below w.heap.size w w32) := HB31.out.trans (hn.mono HB31.out.size)
          have HV32 : Hid (Below w5.heap.size w5 w32) := HV31.out.trans (hn.mono HV31.out.size)
          have Kx32 : Hid (Bf (bX) (x) w32) := Kx31.out.later hn
          have Ky32 : Hid (Bf (bY) (y) w32) := Ky31.out.later hn
          have Kq32 : Hid (Pf (w6.heap.size) (⟨0, 0, up⟩) w32) := Kq31.out.later hn
          clear hal hn hb32
          go_wp2
          go_roundw
          case rel => exact ⟨j + 2, best, by omega, by go_num, rfl, HMET.out, HV32.out⟩
          case measure => simp [intOf] <;> omega
        by_cases f2 : firstI l (movB y ⟨0, 0, up⟩) < 0
        rotate_left
        · have HMET : Hid (BsI l x y a.lz H (j + 2) best) := by
            obtain ⟨bb, hb, hm⟩ := met_of2 (x := x) f2
            exact HMt.out bb hb hm
          have HBV : Hid (Below w.heap.size w w6) := HB5.out.trans (HB6.out.mono HB5.out.size)
          have HVV : Hid (Below w5.heap.size w5 w6) := HB6.out
          have Kx30 : Hid (Bf (bX) (x) w6) := KX.out.later HB6.out
          have Ky30 : Hid (Bf (bY) (y) w6) := KY.out.later HB6.out
          obtain ⟨⟨xl, x0, x1, x2, x3, x4, x5⟩, xf0, xf1, xf2, xf3, xf4, xf5⟩ := Kx30.out
          simp only [Nat.zero_add] at x1 x2 x3 x4 x5
          go_wp2_with fail
          refine (BoxMoved_any x ⟨0, 0, up⟩ _ HSX.out (by unfold SmP; simp only; omega)).mono ?_
          rintro e w31 ⟨rfl, hb31⟩
          clear xl x0 x1 x2 x3 x4 x5 xf0 xf1 xf2 xf3 xf4 xf5
          have hal : Below w6.heap.size w6 (w6.alloc (po (⟨0, 0, up⟩))) := (below_grow _ (Nat.le_refl _) (Below.refl _ _) _)
          have hn : Below w6.heap.size w6 w31 := hal.trans (hb31.mono hal.size)
          have HB31 : Hid (Below w.heap.size w w31) := HBV.out.trans (hn.mono HBV.out.size)
          have HV31 : Hid (Below w5.heap.size w5 w31) := HVV.out.trans (hn.mono HVV.out.size)
          have Kx31 : Hid (Bf (bX) (x) w31) := Kx30.out.later hn
          have Ky31 : Hid (Bf (bY) (y) w31) := Ky30.out.later hn
          have Kq31 : Hid (Pf (w6.heap.size) (⟨0, 0, up⟩) w31) := by
            have h := ((Pf.new w6 (⟨0, 0, up⟩)).later (Below.refl _ _)).later hb31
            show Pf _ _ _
            simpa using h
          clear hal hn hb31
          go_wp2_with fail
          obtain ⟨i1, hi1⟩ : ∃ i1, firstI l (movB x ⟨0, 0, up⟩) = i1 := ⟨_, rfl⟩
          have HI1 : Hid (firstI l (movB x ⟨0, 0, up⟩) = i1) := hi1
          rw [hi1] at f1
          clear hi1
          have dd1 : decide (i1 < 0) = true := decide_eq_true (by omega)
          refine (BoxFirst_r (some ⟨b, off, none⟩) cap l (movB x ⟨0, 0, up⟩) i1 HI1.out w31 (HL.out.next HB31.out) hll).mono ?_
          rintro e w32 ⟨rfl, hb32⟩
          have hal : Below w31.heap.size w31 w31 := (Below.refl _ _)
          have hn : Below w31.heap.size w31 w32 := hal.trans (hb32.mono hal.size)
          have HB32 : Hid (Below w.heap.size w w32) := HB31.out.trans (hn.mono HB31.out.size)
          have HV32 : Hid (Below w5.heap.size w5 w32) := HV31.out.trans (hn.mono HV31.out.size)
          have Kx32 : Hid (Bf (bX) (x) w32) := Kx31.out.later hn
          have Ky32 : Hid (Bf (bY) (y) w32) := Ky31.out.later hn
          have Kq32 : Hid (Pf (w6.heap.size) (⟨0, 0, up⟩) w32) := Kq31.out.later hn
          clear hal hn hb32
          obtain ⟨⟨yl, y0, y1, y2, y3, y4, y5⟩, yf0, yf1, yf2, yf3, yf4, yf5⟩ := Ky32.out
          simp only [Nat.zero_add] at y1 y2 y3 y4 y5
          obtain ⟨ql, q0, q1, q2⟩ := Kq32.out
          go_wp2_with fail
          refine (BoxMoved_any y ⟨0, 0, up⟩ w32 HSY.out (by unfold SmP; simp only; omega)).mono ?_
          rintro e w33 ⟨rfl, hb33⟩
          clear yl y0 y1 y2 y3 y4 y5 yf0 yf1 yf2 yf3 yf4 yf5 ql q0 q1 q2
          have hal : Below w32.heap.size w32 w32 := (Below.refl _ _)
          have hn : Below w32.heap.size w32 w33 := hal.trans (hb33.mono hal.size)
          have HB33 : Hid (Below w.heap.size w w33) := HB32.out.trans (hn.mono HB32.out.size)
          have HV33 : Hid (Below w5.heap.size w5 w33) := HV32.out.trans (hn.mono HV32.out.size)
          have Kx33 : Hid (Bf (bX) (x) w33) := Kx32.out.later hn
          have Ky33 : Hid (Bf (bY) (y) w33) := Ky32.out.later hn
          have Kq33 : Hid (Pf (w6.heap.size) (⟨0, 0, up⟩) w33) := Kq32.out.later hn
          clear hal hn hb33
          go_wp2_with fail
          obtain ⟨i2, hi2⟩ : ∃ i2, firstI l (movB y ⟨0, 0, up⟩) = i2 := ⟨_, rfl⟩
          have HI2 : Hid (firstI l (movB y ⟨0, 0, up⟩) = i2) := hi2
          rw [hi2] at f2
          clear hi2
          have dd2 : decide (i2 < 0) = false := decide_eq_false (by omega)
          refine (BoxFirst_r (some ⟨b, off, none⟩) cap l (movB y ⟨0, 0, up⟩) i2 HI2.out w33 (HL.out.next HB33.out) hll).mono ?_
          rintro e w34 ⟨rfl, hb34⟩
          have hal : Below w33.heap.size w33 w33 := (Below.refl _ _)
          have hn : Below w33.heap.size w33 w34 := hal.trans (hb34.mono hal.size)
          have HB34 : Hid (Below w.heap.size w w34) := HB33.out.trans (hn.mono HB33.out.size)
          have HV34 : Hid (Below w5.heap.size w5 w34) := HV33.out.trans (hn.mono HV33.out.size)
          have Kx34 : Hid (Bf (bX) (x) w34) := Kx33.out.later hn
          have Ky34 : Hid (Bf (bY) (y) w34) := Ky33.out.later hn
          have Kq34 : Hid (Pf (w6.heap.size) (⟨0, 0, up⟩) w34) := Kq33.out.later hn
          clear hal hn hb34
          go_wp2
          go_roundw
          case rel => exact ⟨j + 2, best, by omega, by go_num, rfl, HMET.out, HV34.out⟩
          case measure => simp [intOf] <;> omega
        have HFREE : Hid (BsI l x y a.lz H (j + 2) (up)) := HFr.out (by omega) hup1 (by omega) (free_of f1 f2)
        have HBV : Hid (Below w.heap.size w w6) := HB5.out.trans (HB6.out.mono HB5.out.size)
        have HVV : Hid (Below w5.heap.size w5 w6) := HB6.out
        have Kx30 : Hid (Bf (bX) (x) w6) := KX.out.later HB6.out
        have Ky30 : Hid (Bf (bY) (y) w6) := KY.out.later HB6.out
        obtain ⟨⟨xl, x0, x1, x2, x3, x4, x5⟩, xf0, xf1, xf2, xf3, xf4, xf5⟩ := Kx30.out
        simp only [Nat.zero_add] at x1 x2 x3 x4 x5
        go_wp2_with fail
        refine (BoxMoved_any x ⟨0, 0, up⟩ _ HSX.out (by unfold SmP; simp only; omega)).mono ?_
        rintro e w31 ⟨rfl, hb31⟩
        clear xl x0 x1 x2 x3 x4 x5 xf0 xf1 xf2 xf3 xf4 xf5
        have hal : Below w6.heap.size w6 (w6.alloc (po (⟨0, 0, up⟩))) := (below_grow _ (Nat.le_refl _) (Below.refl _ _) _)
        have hn : Below w6.heap.size w6 w31 := hal.trans (hb31.mono hal.size)
        have HB31 : Hid (Below w.heap.size w w31) := HBV.out.trans (hn.mono HBV.out.size)
        have HV31 : Hid (Below w5.heap.size w5 w31) := HVV.out.trans (hn.mono HVV.out.size)
        have Kx31 : Hid (Bf (bX) (x) w31) := Kx30.out.later hn
        have Ky31 : Hid (Bf (bY) (y) w31) := Ky30.out.later hn
        have Kq31 : Hid (Pf (w6.heap.size) (⟨0, 0, up⟩) w31) := by
          have h := ((Pf.new w6 (⟨0, 0, up⟩)).later (Below.refl _ _)).later hb31
          show Pf _ _ _
          simpa using h
        clear hal hn hb31
        go_wp2_with fail
        obtain ⟨i1, hi1⟩ : ∃ i1, firstI l (movB x ⟨0, 0, up⟩) = i1 := ⟨_, rfl⟩
        have HI1 : Hid (firstI l (movB x ⟨0, 0, up⟩) = i1) := hi1
        rw [hi1] at f1
        clear hi1
        have dd1 : decide (i1 < 0) = true := decide_eq_true (by omega)
        refine (BoxFirst_r (some ⟨b, off, none⟩) cap l (movB x ⟨0, 0, up⟩) i1 HI1.out w31 (HL.out.next HB31.out) hll).mono ?_
        rintro e w32 ⟨rfl, hb32⟩
        have hal : Below w31.heap.size w31 w31 := (Below.refl _ _)
        have hn : Below w31.heap.size w31 w32 := hal.trans (hb32.mono hal.size)
        have HB32 : Hid (Below w.heap.size w w32) := HB31.out.trans (hn.mono HB31.out.size)
        have HV32 : Hid (Below w5.heap.size w5 w32) := HV31.out.trans (hn.mono HV31.out.size)
        have Kx32 : Hid (Bf (bX) (x) w32) := Kx31.out.later hn
        have Ky32 : Hid (Bf (bY) (y) w32) := Ky31.out.later hn
        have Kq32 : Hid (Pf (w6.heap.size) (⟨0, 0, up⟩) w32) := Kq31.out.later hn
        clear hal hn hb32
        obtain ⟨⟨yl, y0, y1, y2, y3, y4, y5⟩, yf0, yf1, yf2, yf3, yf4, yf5⟩ := Ky32.out
        simp only [Nat.zero_add] at y1 y2 y3 y4 y5
        obtain ⟨ql, q0, q1, q2⟩ := Kq32.out
        go_wp2_with fail
        refine (BoxMoved_any y ⟨0, 0, up⟩ w32 HSY.out (by unfold SmP; simp only; omega)).mono ?_
        rintro e w33 ⟨rfl, hb33⟩
        clear yl y0 y1 y2 y3 y4 y5 yf0 yf1 yf2 yf3 yf4 yf5 ql q0 q1 q2
        have hal : Below w32.heap.size w32 w32 := (Below.refl _ _)
        have hn : Below w32.heap.size w32 w33 := hal.trans (hb33.mono hal.size)
        have HB33 : Hid (Below w.heap.size w w33) := HB32.out.trans (hn.mono HB32.out.size)
        have HV33 : Hid (Below w5.heap.size w5 w33) := HV32.out.trans (hn.mono HV32.out.size)
        have Kx33 : Hid (Bf (bX) (x) w33) := Kx32.out.later hn
        have Ky33 : Hid (Bf (bY) (y) w33) := Ky32.out.later hn
        have Kq33 : Hid (Pf (w6.heap.size) (⟨0, 0, up⟩) w33) := Kq32.out.later hn
        clear hal hn hb33
        go_wp2_with fail
        obtain ⟨i2, hi2⟩ : ∃ i2, firstI l (movB y ⟨0, 0, up⟩) = i2 := ⟨_, rfl⟩
        have HI2 : Hid (firstI l (movB y ⟨0, 0, up⟩) = i2) := hi2
        rw [hi2] at f2
        clear hi2
        have dd2 : decide (i2 < 0) = true := decide_eq_true (by omega)
        refine (BoxFirst_r (some ⟨b, off, none⟩) cap l (movB y ⟨0, 0, up⟩) i2 HI2.out w33 (HL.out.next HB33.out) hll).mono ?_
        rintro e w34 ⟨rfl, hb34⟩
        have hal : Below w33.heap.size w33 w33 := (Below.refl _ _)
        have hn : Below w33.heap.size w33 w34 := hal.trans (hb34.mono hal.size)
        have HB34 : Hid (Below w.heap.size w w34) := HB33.out.trans (hn.mono HB33.out.size)
        have HV34 : Hid (Below w5.heap.size w5 w34) := HV33.out.trans (hn.mono HV33.out.size)
        have Kx34 : Hid (Bf (bX) (x) w34) := Kx33.out.later hn
        have Ky34 : Hid (Bf (bY) (y) w34) := Ky33.out.later hn
        have Kq34 : Hid (Pf (w6.heap.size) (⟨0, 0, up⟩) w34) := Kq33.out.later hn
        clear hal hn hb34
        go_wp2
        go_roundw
        case rel => exact ⟨j + 2, up, by omega, by go_num, rfl, HFREE.out, HV34.out⟩
        case measure => simp [intOf] <;> omega
      have t2 : decide (0 ≤ best) = false := decide_eq_false q1
      by_cases f1 : firstI l (movB x ⟨0, 0, up⟩) < 0
      rotate_left
      · have HMET : Hid (BsI l x y a.lz H (j + 2) best) := by
          obtain ⟨bb, hb, hm⟩ := met_of1 (y := y) f1
          exact HMt.out bb hb hm
        have HBV : Hid (Below w.heap.size w w6) := HB5.out.trans (HB6.out.mono HB5.out.size)
        have HVV : Hid (Below w5.heap.size w5 w6) := HB6.out
        have Kx30 : Hid (Bf (bX) (x) w6) := KX.out.later HB6.out
        have Ky30 : Hid (Bf (bY) (y) w6) := KY.out.later HB6.out
        obtain ⟨⟨xl, x0, x1, x2, x3, x4, x5⟩, xf0, xf1, xf2, xf3, xf4, xf5⟩ := Kx30.out
        simp only [Nat.zero_add] at x1 x2 x3 x4 x5
        go_wp2_with fail
        refine (BoxMoved_any x ⟨0, 0, up⟩ _ HSX.out (by unfold SmP; simp only; omega)).mono ?_
        rintro e w31 ⟨rfl, hb31⟩
        clear xl x0 x1 x2 x3 x4 x5 xf0 xf1 xf2 xf3 xf4 xf5
        have hal : Below w6.heap.size w6 (w6.alloc (po (⟨0, 0, up⟩))) := (below_grow _ (Nat.le_refl _) (Below.refl _ _) _)
        have hn : Below w6.heap.size w6 w31 := hal.trans (hb31.mono hal.size)
        have HB31 : Hid (Below w.heap.size w w31) := HBV.out.trans (hn.mono HBV.out.size)
        have HV31 : Hid (Below w5.heap.size w5 w31) := HVV.out.trans (hn.mono HVV.out.size)
        have Kx31 : Hid (Bf (bX) (x) w31) := Kx30.out.later hn
        have Ky31 : Hid (Bf (bY) (y) w31) := Ky30.out.later hn
        have Kq31 : Hid (Pf (w6.heap.size) (⟨0, 0, up⟩) w31) := by
          have h := ((Pf.new w6 (⟨0, 0, up⟩)).later (Below.refl _ _)).later hb31
          show Pf _ _ _
          simpa using h
        clear hal hn hb31
        go_wp2_with fail
        obtain ⟨i1, hi1⟩ : ∃ i1, firstI l (movB x ⟨0, 0, up⟩) = i1 := ⟨_, rfl⟩
        have HI1 : Hid (firstI l (movB x ⟨0, 0, up⟩) = i1) := hi1
        rw [hi1] at f1
        clear hi1
        have dd1 : decide (i1 < 0) = false := decide_eq_false (by omega)
        refine (BoxFirst_r (some ⟨b, off, none⟩) cap l (movB x ⟨0, 0, up⟩) i1 HI1.out w31 (HL.out.next HB31.out) hll).mono ?_
        rintro e w32 ⟨rfl, hb32⟩
        have hal : Below w31.heap.size w31 w31 := (Below.refl _ _)
        have hn : Below w31.heap.size w31 w32 := hal.trans (hb32.mono hal.size)
        have HB32 : Hid (Below w.heap.size w w32) := HB31.out.trans (hn.mono HB31.out.size)
        have HV32 : Hid (Below w5.heap.size w5 w32) := HV31.out.trans (hn.mono HV31.out.size)
        have Kx32 : Hid (Bf (bX) (x) w32) := Kx31.out.later hn
        have Ky32 : Hid (Bf (bY) (y) w32) := Ky31.out.later hn
        have Kq32 : Hid (Pf (w6.heap.size) (⟨0, 0, up⟩) w32) := Kq31.out.later hn
        clear hal hn hb32
        go_wp2
        go_roundw
        case rel => exact ⟨j + 2, best, by omega, by go_num, rfl, HMET.out, HV32.out⟩
        case measure => simp [intOf] <;> omega
      by_cases f2 : firstI l (movB y ⟨0, 0, up⟩) < 0
      rotate_left
      · have HMET : Hid (BsI l x y a.lz H (j + 2) best) := by
          obtain ⟨bb, hb, hm⟩ := met_of2 (x := x) f2
          exact HMt.out bb hb hm
        have HBV : Hid (Below w.heap.size w w6) := HB5.out.trans (HB6.out.mono HB5.out.size)
        have HVV : Hid (Below w5.heap.size w5 w6) := HB6.out
        have Kx30 : Hid (Bf (bX) (x) w6) := KX.out.later HB6.out
        have Ky30 : Hid (Bf (bY) (y) w6) := KY.out.later HB6.out
        obtain ⟨⟨xl, x0, x1, x2, x3, x4, x5⟩, xf0, xf1, xf2, xf3, xf4, xf5⟩ := Kx30.out
        simp only [Nat.zero_add] at x1 x2 x3 x4 x5
        go_wp2_with fail
        refine (BoxMoved_any x ⟨0, 0, up⟩ _ HSX.out (by unfold SmP; simp only; omega)).mono ?_
        rintro e w31 ⟨rfl, hb31⟩
        clear xl x0 x1 x2 x3 x4 x5 xf0 xf1 xf2 xf3 xf4 xf5
        have hal : Below w6.heap.size w6 (w6.alloc (po (⟨0, 0, up⟩))) := (below_grow _ (Nat.le_refl _) (Below.refl _ _) _)
        have hn : Below w6.heap.size w6 w31 := hal.trans (hb31.mono hal.size)
        have HB31 : Hid (Below w.heap.size w w31) := HBV.out.trans (hn.mono HBV.out.size)
        have HV31 : Hid (Below w5.heap.size w5 w31) := HVV.out.trans (hn.mono HVV.out.size)
        have Kx31 : Hid (Bf (bX) (x) w31) := Kx30.out.later hn
        have Ky31 : Hid (Bf (bY) (y) w31) := Ky30.out.later hn
        have Kq31 : Hid (Pf (w6.heap.size) (⟨0, 0, up⟩) w31) := by
          have h := ((Pf.new w6 (⟨0, 0, up⟩)).later (Below.refl _ _)).later hb31
          show Pf _ _ _
          simpa using h
        clear hal hn hb31
        go_wp2_with fail
        obtain ⟨i1, hi1⟩ : ∃ i1, firstI l (movB x ⟨0, 0, up⟩) = i1 := ⟨_, rfl⟩
        have HI1 : Hid (firstI l (movB x ⟨0, 0, up⟩) = i1) := hi1
        rw [hi1] at f1
        clear hi1
        have dd1 : decide (i1 < 0) = true := decide_eq_true (by omega)
        refine (BoxFirst_r (some ⟨b, off, none⟩) cap l (movB x ⟨0, 0, up⟩) i1 HI1.out w31 (HL.out.next HB31.out) hll).mono ?_
        rintro e w32 ⟨rfl, hb32⟩
        have hal : Below w31.heap.size w31 w31 := (Below.refl _ _)
        have hn : Below w31.heap.size w31 w32 := hal.trans (hb32.mono hal.size)
        have HB32 : Hid (Below w.heap.size w w32) := HB31.out.trans (hn.mono HB31.out.size)
        have HV32 : Hid (Below w5.heap.size w5 w32) := HV31.out.trans (hn.mono HV31.out.size)
        have Kx32 : Hid (Bf (bX) (x) w32) := Kx31.out.later hn
        have Ky32 : Hid (Bf (bY) (y) w32) := Ky31.out.later hn
        have Kq32 : Hid (Pf (w6.heap.size) (⟨0, 0, up⟩) w32) := Kq31.out.later hn
        clear hal hn hb32
        obtain ⟨⟨yl, y0, y1, y2, y3, y4, y5⟩, yf0, yf1, yf2, yf3, yf4, yf5⟩ := Ky32.out
        simp only [Nat.zero_add] at y1 y2 y3 y4 y5
        obtain ⟨ql, q0, q1, q2⟩ := Kq32.out
        go_wp2_with fail
        refine (BoxMoved_any y ⟨0, 0, up⟩ w32 HSY.out (by unfold SmP; simp only; omega)).mono ?_
        rintro e w33 ⟨rfl, hb33⟩
        clear yl y0 y1 y2 y3 y4 y5 yf0 yf1 yf2 yf3 yf4 yf5 ql q0 q1 q2
        have hal : Below w32.heap.size w32 w32 := (Below.refl _ _)
        have hn : Below w32.heap.size w32 w33 := hal.trans (hb33.mono hal.size)
        have HB33 : Hid (Below w.heap.size w w33) := HB32.out.trans (hn.mono HB32.out.size)
        have HV33 : Hid (Below w5.heap.size w5 w33) := HV32.out.trans (hn.mono HV32.out.size)
        have Kx33 : Hid (Bf (bX) (x) w33) := Kx32.out.later hn
        have Ky33 : Hid (Bf (bY) (y) w33) := Ky32.out.later hn
        have Kq33 : Hid (Pf (w6.heap.size) (⟨0, 0, up⟩) w33) := Kq32.out.later hn
        clear hal hn hb33
        go_wp2_with fail
        obtain ⟨i2, hi2⟩ : ∃ i2, firstI l (movB y ⟨0, 0, up⟩) = i2 := ⟨_, rfl⟩
        have HI2 : Hid (firstI l (movB y ⟨0, 0, up⟩) = i2) := hi2
        rw [hi2] at f2
        clear hi2
        have dd2 : decide (i2 < 0) = false := decide_eq_false (by omega)
        refine (BoxFirst_r (some ⟨b, off, none⟩) cap l (movB y ⟨0, 0, up⟩) i2 HI2.out w33 (HL.out.next HB33.out) hll).mono ?_
        rintro e w34 ⟨rfl, hb34⟩
        have hal : Below w33.heap.size w33 w33 := (Below.refl _ _)
        have hn : Below w33.heap.size w33 w34 := hal.trans (hb34.mono hal.size)
        have HB34 : Hid (Below w.heap.size w w34) := HB33.out.trans (hn.mono HB33.out.size)
        have HV34 : Hid (Below w5.heap.size w5 w34) := HV33.out.trans (hn.mono HV33.out.size)
        have Kx34 : Hid (Bf (bX) (x) w34) := Kx33.out.later hn
        have Ky34 : Hid (Bf (bY) (y) w34) := Ky33.out.later hn
        have Kq34 : Hid (Pf (w6.heap.size) (⟨0, 0, up⟩) w34) := Kq33.out.later hn
        clear hal hn hb34
        go_wp2
        go_roundw
        case rel => exact ⟨j + 2, best, by omega, by go_num, rfl, HMET.out, HV34.out⟩
        case measure => simp [intOf] <;> omega
      have HFREE : Hid (BsI l x y a.lz H (j + 2) (up)) := HFr.out (by omega) hup1 (by omega) (free_of f1 f2)
      have HBV : Hid (Below w.heap.size w w6) := HB5.out.trans (HB6.out.mono HB5.out.size)
      have HVV : Hid (Below w5.heap.size w5 w6) := HB6.out
      have Kx30 : Hid (Bf (bX) (x) w6) := KX.out.later HB6.out
      have Ky30 : Hid (Bf (bY) (y) w6) := KY.out.later HB6.out
      obtain ⟨⟨xl, x0, x1, x2, x3, x4, x5⟩, xf0, xf1, xf2, xf3, xf4, xf5⟩ := Kx30.out
      simp only [Nat.zero_add] at x1 x2 x3 x4 x5
      go_wp2_with fail
      refine (BoxMoved_any x ⟨0, 0, up⟩ _ HSX.out (by unfold SmP; simp only; omega)).mono ?_
      rintro e w31 ⟨rfl, hb31⟩
      clear xl x0 x1 x2 x3 x4 x5 xf0 xf1 xf2 xf3 xf4 xf5
      have hal : Below w6.heap.size w6 (w6.alloc (po (⟨0, 0, up⟩))) := (below_grow _ (Nat.le_refl _) (Below.refl _ _) _)
      have hn : Below w6.heap.size w6 w31 := hal.trans (hb31.mono hal.size)
      have HB31 : Hid (Below w.heap.size w w31) := HBV.out.trans (hn.mono HBV.out.size)
      have HV31 : Hid (Below w5.heap.size w5 w31) := HVV.out.trans (hn.mono HVV.out.size)
      have Kx31 : Hid (Bf (bX) (x) w31) := Kx30.out.later hn
      have Ky31 : Hid (Bf (bY) (y) w31) := Ky30.out.later hn
      have Kq31 : Hid (Pf (w6.heap.size) (⟨0, 0, up⟩) w31) := by
        have h := ((Pf.new w6 (⟨0, 0, up⟩)).later (Below.refl _ _)).later hb31
        show Pf _ _ _
        simpa using h
      clear hal hn hb31
      go_wp2_with fail
      obtain ⟨i1, hi1⟩ : ∃ i1, firstI l (movB x ⟨0, 0, up⟩) = i1 := ⟨_, rfl⟩
      have HI1 : Hid (firstI l (movB x ⟨0, 0, up⟩) = i1) := hi1
      rw [hi1] at f1
      clear hi1
      have dd1 : decide (i1 < 0) = true := decide_eq_true (by omega)
      refine (BoxFirst_r (some ⟨b, off, none⟩) cap l (movB x ⟨0, 0, up⟩) i1 HI1.out w31 (HL.out.next HB31.out) hll).mono ?_
      rintro e w32 ⟨rfl, hb32⟩
      have hal : Below w31.heap.size w31 w31 := (Below.refl _ _)
      have hn : Below w31.heap.size w31 w32 := hal.trans (hb32.mono hal.size)
      have HB32 : Hid (Below w.heap.size w w32) := HB31.out.trans (hn.mono HB31.out.size)
      have HV32 : Hid (Below w5.heap.size w5 w32) := HV31.out.trans (hn.mono HV31.out.size)
      have Kx32 : Hid (Bf (bX) (x) w32) := Kx31.out.later hn
      have Ky32 : Hid (Bf (bY) (y) w32) := Ky31.out.later hn
      have Kq32 : Hid (Pf (w6.heap.size) (⟨0, 0, up⟩) w32) := Kq31.out.later hn
      clear hal hn hb32
      obtain ⟨⟨yl, y0, y1, y2, y3, y4, y5⟩, yf0, yf1, yf2, yf3, yf4, yf5⟩ := Ky32.out
      simp only [Nat.zero_add] at y1 y2 y3 y4 y5
      obtain ⟨ql, q0, q1, q2⟩ := Kq32.out
      go_wp2_with fail
      refine (BoxMoved_any y ⟨0, 0, up⟩ w32 HSY.out (by unfold SmP; simp only; omega)).mono ?_
      rintro e w33 ⟨rfl, hb33⟩
      clear yl y0 y1 y2 y3 y4 y5 yf0 yf1 yf2 yf3 yf4 yf5 ql q0 q1 q2
      have hal : Below w32.heap.size w32 w32 := (Below.refl _ _)
      have hn : Below w32.heap.size w32 w33 := hal.trans (hb33.mono hal.size)
      have HB33 : Hid (Below w.heap.size w w33) := HB32.out.trans (hn.mono HB32.out.size)
      have HV33 : Hid (Below w5.heap.size w5 w33) := HV32.out.trans (hn.mono HV32.out.size)
      have Kx33 : Hid (Bf (bX) (x) w33) := Kx32.out.later hn
      have Ky33 : Hid (Bf (bY) (y) w33) := Ky32.out.later hn
      have Kq33 : Hid (Pf (w6.heap.size) (⟨0, 0, up⟩) w33) := Kq32.out.later hn
      clear hal hn hb33
      go_wp2_with fail
      obtain ⟨i2, hi2⟩ : ∃ i2, firstI l (movB y ⟨0, 0, up⟩) = i2 := ⟨_, rfl⟩
      have HI2 : Hid (firstI l (movB y ⟨0, 0, up⟩) = i2) := hi2
      rw [hi2] at f2
      clear hi2
      have dd2 : decide (i2 < 0) = true := decide_eq_true (by omega)
      refine (BoxFirst_r (some ⟨b, off, none⟩) cap l (movB y ⟨0, 0, up⟩) i2 HI2.out w33 (HL.out.next HB33.out) hll).mono ?_
      rintro e w34 ⟨rfl, hb34⟩
      have hal : Below w33.heap.size w33 w33 := (Below.refl _ _)
      have hn : Below w33.heap.size w33 w34 := hal.trans (hb34.mono hal.size)
      have HB34 : Hid (Below w.heap.size w w34) := HB33.out.trans (hn.mono HB33.out.size)
      have HV34 : Hid (Below w5.heap.size w5 w34) := HV33.out.trans (hn.mono HV33.out.size)
      have Kx34 : Hid (Bf (bX) (x) w34) := Kx33.out.later hn
      have Ky34 : Hid (Bf (bY) (y) w34) := Ky33.out.later hn
      have Kq34 : Hid (Pf (w6.heap.size) (⟨0, 0, up⟩) w34) := Kq33.out.later hn
      clear hal hn hb34
      go_wp2
      go_roundw
      case rel => exact ⟨j + 2, up, by omega, by go_num, rfl, HFREE.out, HV34.out⟩
      case measure => simp [intOf] <;> omega
end Go.Proofs.Ytiafcgbohckmmaa
