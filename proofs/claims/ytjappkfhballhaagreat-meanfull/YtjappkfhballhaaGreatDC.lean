/- deck.Check walked. -/
import Derived.Test.YtjappkfhballhaaGreatDB
namespace Go.Proofs.YtjappkfhballhaaGreat
open Go.RowKit


/-- What is wrong with a seat, those ahead of it known. -/
def one3 (l : List Sit) (k : Nat) (s : Sit) : Int := orL [plc s, chk s.ware, fit (l.take k) s]
def errAt (l : List Sit) (k : Nat) : Int := if h : k < l.length then one3 l k (l[k]'h) else 0
/-- What deck.Check says. -/
def dchk (l : List Sit) : Int := if 12 < l.length then 7 else orL ((List.range l.length).map (errAt l))
theorem errAt_lt {l : List Sit} {k : Nat} (h : k < l.length) : errAt l k = one3 l k (l[k]'h) := dif_pos h
theorem dchk_many {l : List Sit} (h : 12 < l.length) : dchk l = 7 := if_pos h
theorem dchk_hit {l : List Sit} {k : Nat} (h12 : l.length ≤ 12) (hk : k < l.length) (ha : ∀ j, j < k → errAt l j = 0) (hb : errAt l k ≠ 0) : dchk l = errAt l k := by
  unfold dchk
  rw [if_neg (by omega)]
  have hl : k < ((List.range l.length).map (errAt l)).length := by simpa using hk
  have e : ((List.range l.length).map (errAt l))[k]'hl = errAt l k := by simp
  rw [orL_at hl ?_ (by rw [e]; exact hb), e]
  intro n hn
  rw [← List.map_take] at hn
  obtain ⟨j, hj, rfl⟩ := List.mem_map.1 hn
  rw [List.take_range] at hj
  exact ha j (by have := List.mem_range.1 hj; omega)
theorem dchk_ok {l : List Sit} (h12 : l.length ≤ 12) (ha : ∀ j, j < l.length → errAt l j = 0) : dchk l = 0 := by
  unfold dchk
  rw [if_neg (by omega)]
  refine orL_zero fun n hn => ?_
  obtain ⟨j, hj, rfl⟩ := List.mem_map.1 hn
  exact ha j (List.mem_range.1 hj)
theorem succ_all {P : Nat → Prop} {k : Nat} (h : ∀ j, j < k → P j) (hk : P k) : ∀ j, j < k + 1 → P j := fun j hj => by
  by_cases e : j = k
  · subst e; exact hk
  · exact h j (by omega)
theorem cmpOr_is (xs : List Int) (r : Int) (hr : orL xs = r) (v : Value) (w : World) (hl : xs.length ≤ 100) (h : IsInts xs v w) :
    Calls Tryz.prog 58 #[v] w fun e w' => e = .returned (.int .i64 r) ∧ w' = w := by
  subst hr
  obtain ⟨b, rfl, hc⟩ := h
  refine cmpOr_any b xs.length xs w hl fun k hk => ?_
  rw [hc k hk, List.getD_eq_getElem?_getD, List.getElem?_eq_getElem hk]; rfl
def chkV (s : Sit) (p c q r : Int) (b off k n cap : Nat) (B : Nat) (d : Nat) (v : Value) (w : World) : Prop :=
  match d with
  | 16 => v = sv s
  | 17 => v = .int .i64 p
  | 18 => v = .pointer (some ⟨B, 1, none⟩)
  | 19 => v = wv s.ware
  | 20 => v = .int .i64 c
  | 21 => v = .slice (some ⟨b, off, none⟩) n cap
  | 22 => v = .int .i64 k
  | 23 => v = .slice (some ⟨b, off, none⟩) k cap
  | 24 => v = sv s
  | 25 => v = .int .i64 q
  | 26 => IsInts [p, c, q] v w
  | 27 => v = .int .i64 r
  | 5 => v = .int .i64 r
  | _ => True
theorem chkV_mono (s : Sit) (p c q r : Int) (b off k n cap : Nat) (B : Nat) (d : Nat) (v : Value) (w w' : World) (h : chkV s p c q r b off k n cap B d v w) (hb : Below w.heap.size w w') : chkV s p c q r b off k n cap B d v w' := by
  unfold chkV at h ⊢
  split <;> simp only [] at h <;> first | exact h | exact h.later hb

set_option maxHeartbeats 6400000 in
set_option maxRecDepth 100000 in
theorem deckCheck_any (ao : Option Addr) (cap : Nat) (l : List Sit) (w : World) (hL : Sts w ao l) (hcap : l.length ≤ cap) (hl : l.length ≤ 9223372036854775807) (hok : ∀ s ∈ l, SOk s) :
    Calls Tryz.prog 25 #[.slice ao l.length cap] w fun e w' => e = .returned (.int .i64 (dchk l)) ∧ Below w.heap.size w w' := by
  have HL : Hid (Sts w ao l) := hL
  have HOK : Hid (∀ s ∈ l, SOk s) := hok
  clear hL hok
  by_cases h12 : 12 < l.length
  · have HP : Hid (dchk l = 7) := dchk_many h12
    go_enter Tryz.func25, Tryz.ntmps25
    go_wp2
    go_ret
    exact ⟨ret_int HP.out.symm, Below.refl _ _⟩
  have h12' : l.length ≤ 12 := by omega
  clear h12
  go_enter Tryz.func25, Tryz.ntmps25
  go_wp2
  go_loopw [11] (fun i wr => ∃ k : Nat, k ≤ l.length ∧ i = .int .i64 k ∧ (∀ j, j < k → errAt l j = 0) ∧ Below w.heap.size w wr) (fun i _ => l.length - (intOf i).toNat)
  case atStart => exact ⟨0, Nat.zero_le _, rfl, (fun j hj => absurd hj (Nat.not_lt_zero _)), Below.refl _ _⟩
  case round =>
    obtain ⟨k, hk, rfl, hno, hb⟩ := hrel
    have HB : Hid (Below w.heap.size w wr) := hb
    have HNO : Hid (∀ j, j < k → errAt l j = 0) := hno
    clear hb hno
    by_cases hlt : k < l.length
    · obtain ⟨b, off, rfl, hbx⟩ := (HL.out.next HB.out).at hlt
      have HE : Hid (errAt l k = one3 l k (l[k]'hlt)) := errAt_lt hlt
      have HSO : Hid (SOk (l[k]'hlt)) := HOK.out _ (List.getElem_mem hlt)
      have HTK : Hid ((l.take k).length = k) := by show _ = _; rw [List.length_take]; omega
      generalize l[k]'hlt = s at *
      obtain ⟨_, c0, c1, c2, c3, c4, c5, c6, c7, c8, c9, c10, c11, c12, c13⟩ := hbx
      have hki : (k : Int) < (l.length : Int) := by omega
      go_wp2_with fail
      rename_i KK hkk
      have HKK := (show Hid _ from hkk)
      clear hkk c0 c1 c2 c3 c4 c5 c6 c7 c8 c9 c10 c11 c12 c13
      obtain ⟨w2, hw2⟩ : ∃ w2, w2 = wr.alloc (sobj s) := ⟨_, rfl⟩
      have HB2 : Hid (Below w.heap.size w w2) := by show Below _ _ _; rw [hw2]; exact HB.out.alloc HB.out.size _
      have KA : Hid (Sf wr.heap.size s w2) := by show Sf _ _ _; rw [hw2]; exact Sf.new wr s
      rw [← hw2]
      clear hw2
      try rw [show decide ((k : Int) < (l.length : Int)) = true by simp; omega]
      obtain ⟨p, hp⟩ : ∃ p, p = plc s := ⟨_, rfl⟩
      obtain ⟨c, hc⟩ : ∃ c, c = chk s.ware := ⟨_, rfl⟩
      obtain ⟨q, hq⟩ : ∃ q, q = fit (l.take k) s := ⟨_, rfl⟩
      obtain ⟨r, hr⟩ : ∃ r, r = orL [p, c, q] := ⟨_, rfl⟩
      have HE2 : Hid (errAt l k = r) := by show _ = _; rw [HE.out, hr, hp, hc, hq]; rfl
      have HP : Hid (∀ W : World, Calls Tryz.prog 59 #[sv s] W fun e w' => e = .returned (.int .i64 p) ∧ Below W.heap.size W w') := fun W => by rw [hp]; exact placing_any s W HSO.out
      have HC : Hid (∀ W : World, Calls Tryz.prog 60 #[wv s.ware] W fun e w' => e = .returned (.int .i64 c) ∧ Below W.heap.size W w') := fun W => by rw [hc]; exact check_any s.ware W HSO.out.1
      have HQ : Hid (∀ W : World, Below w2.heap.size w2 W → Calls Tryz.prog 61 #[.slice (some ⟨b, off, none⟩) k cap, sv s] W fun e w' => e = .returned (.int .i64 q) ∧ Below W.heap.size W w') := fun W hW => by
        have := fitting_any (some ⟨b, off, none⟩) cap (l.take k) s W (((HL.out.next HB2.out).next hW).take k) (by rw [HTK.out]; omega)
        rw [hq]
        rw [HTK.out] at this
        exact this
      have HR : Hid (orL [p, c, q] = r) := hr.symm
      clear hp hc hq hr HE HSO HTK
      refine region_inv [false, false, false, false, false, true, false, false, false, false, false, false, false, false, false, false, true, true, true, true, true, true, true, true, true, true, true, true, false, false, false, false]
        [(16, [], none), (17, [16], none), (18, [], none), (19, [18], none), (20, [19], none), (21, [], none), (22, [], none), (23, [21, 22], none), (24, [], none), (25, [23, 24], none), (26, [17, 20, 25], none), (27, [26], none), (5, [27], none)]
        (chkV s p c q r b off k l.length cap wr.heap.size) (by kernel_rfl) (by kernel_rfl) (chkV_mono s p c q r b off k l.length cap wr.heap.size) ?_ ?_
      · refine ⟨?_, ?_, ?_, ?_, ?_, ?_, ?_, ?_, ?_, ?_, ?_, ?_, ?_, trivial⟩
        · intro f w1 hb _ K hK
          obtain ⟨⟨al, a0, a1, a2, a3, a4, a5, a6, a7, a8, a9, a10, a11, a12, a13⟩, _⟩ := (KA.out).later hb
          simp only [Nat.zero_add] at a1 a2 a3 a4 a5 a6 a7 a8 a9 a10 a11 a12 a13
          simp only [over, overL, Nat.reduceAdd]
          go_simp
          exact hK _ _ ⟨_, rfl, by simp only [over, overL, Nat.reduceAdd]; rfl, Below.refl _ _⟩
        · intro f w1 hb ⟨h16, _⟩ K hK
          have h16 : f 16 = _ := h16
          simp only [over, overL, Nat.reduceAdd, h16]
          go_simp
          refine (HP.out _).mono ?_
          rintro e w2 ⟨rfl, hb2⟩
          exact hK _ _ ⟨_, rfl, by simp only [over, overL, Nat.reduceAdd, h16]; rfl, hb2⟩
        · intro f w1 hb _ K hK
          simp only [over, overL, Nat.reduceAdd]
          go_simp
          exact hK _ _ ⟨_, rfl, by simp only [over, overL, Nat.reduceAdd]; rfl, Below.refl _ _⟩
        · intro f w1 hb ⟨h18, _⟩ K hK
          have h18 : f 18 = _ := h18
          obtain ⟨⟨al, a0, a1, a2, a3, a4, a5, a6, a7, a8, a9, a10, a11, a12, a13⟩, _⟩ := (KA.out).later hb
          simp only [Nat.zero_add] at a1 a2 a3 a4 a5 a6 a7 a8 a9 a10 a11 a12 a13
          simp only [over, overL, Nat.reduceAdd, h18]
          go_simp
          exact hK _ _ ⟨_, rfl, by simp only [over, overL, Nat.reduceAdd, h18]; rfl, Below.refl _ _⟩
        · intro f w1 hb ⟨h19, _⟩ K hK
          have h19 : f 19 = _ := h19
          simp only [over, overL, Nat.reduceAdd, h19]
          go_simp
          refine (HC.out _).mono ?_
          rintro e w2 ⟨rfl, hb2⟩
          exact hK _ _ ⟨_, rfl, by simp only [over, overL, Nat.reduceAdd, h19]; rfl, hb2⟩
        · intro f w1 hb _ K hK
          simp only [over, overL, Nat.reduceAdd]
          go_simp
          exact hK _ _ ⟨_, rfl, by simp only [over, overL, Nat.reduceAdd]; rfl, Below.refl _ _⟩
        · intro f w1 hb _ K hK
          simp only [over, overL, Nat.reduceAdd]
          go_simp
          exact hK _ _ ⟨_, rfl, by simp only [over, overL, Nat.reduceAdd]; rfl, Below.refl _ _⟩
        · intro f w1 hb ⟨h21, h22, _⟩ K hK
          have h21 : f 21 = _ := h21
          have h22 : f 22 = _ := h22
          simp only [over, overL, Nat.reduceAdd, h21, h22]
          go_simp
          rw [if_pos (by omega)]
          exact hK _ _ ⟨_, rfl, by simp only [over, overL, Nat.reduceAdd, h21, h22], Below.refl _ _⟩
        · intro f w1 hb _ K hK
          obtain ⟨⟨al, a0, a1, a2, a3, a4, a5, a6, a7, a8, a9, a10, a11, a12, a13⟩, _⟩ := (KA.out).later hb
          simp only [Nat.zero_add] at a1 a2 a3 a4 a5 a6 a7 a8 a9 a10 a11 a12 a13
          simp only [over, overL, Nat.reduceAdd]
          go_simp
          exact hK _ _ ⟨_, rfl, by simp only [over, overL, Nat.reduceAdd]; rfl, Below.refl _ _⟩
        · intro f w1 hb ⟨h23, h24, _⟩ K hK
          have h23 : f 23 = _ := h23
          have h24 : f 24 = _ := h24
          simp only [over, overL, Nat.reduceAdd, h23, h24]
          go_simp
          refine (HQ.out _ hb).mono ?_
          rintro e w2 ⟨rfl, hb2⟩
          exact hK _ _ ⟨_, rfl, by simp only [over, overL, Nat.reduceAdd, h23, h24]; rfl, hb2⟩
        · intro f w1 hb ⟨h17, h20, h25, _⟩ K hK
          have h17 : f 17 = _ := h17
          have h20 : f 20 = _ := h20
          have h25 : f 25 = _ := h25
          simp only [over, overL, Nat.reduceAdd, h17, h20, h25]
          go_simp
          exact hK _ _ ⟨_, new_three _ _ _ _ _, by simp only [over, overL, Nat.reduceAdd, h17, h20, h25]; rfl, (Below.refl _ _).alloc (Nat.le_refl _) _⟩
        · intro f w1 hb ⟨h26, _⟩ K hK
          simp only [over, overL, Nat.reduceAdd]
          go_simp
          refine (cmpOr_is [p, c, q] r HR.out _ _ (by simp) h26).mono ?_
          rintro e w2 ⟨rfl, hw⟩
          exact hK _ _ ⟨_, rfl, by simp only [over, overL, Nat.reduceAdd]; rfl, hw ▸ Below.refl _ _⟩
        · intro f w1 hb ⟨h27, _⟩ K hK
          have h27 : f 27 = _ := h27
          simp only [over, overL, Nat.reduceAdd, h27]
          go_simp
          exact hK _ _ ⟨_, rfl, by simp only [over, overL, Nat.reduceAdd, h27]; rfl, Below.refl _ _⟩
      intro f w3 hb3 hv
      have h5 : f 5 = .int .i64 r := hv.2.2.2.2.2.2.2.2.2.2.2.2.1
      have HB3 : Hid (Below w.heap.size w w3) := HB2.out.trans (hb3.mono HB2.out.size)
      clear hb3 hv HP HC HQ HR
      simp only [over, overL, Nat.reduceAdd, h5]
      clear h5
      by_cases hr : r = 0
      · have HN2 : Hid (∀ j, j < k + 1 → errAt l j = 0) := succ_all HNO.out (by rw [HE2.out]; exact hr)
        have hne : (r != 0) = false := by simp [hr]
        clear hr
        refine HKK.out _ _ ?_
        go_wp2
        go_roundw
        case rel => exact ⟨k + 1, by omega, by go_num, HN2.out, HB3.out⟩
        case measure => simp [intOf]; omega
      · have HD : Hid (dchk l = r) := by show _ = _; rw [dchk_hit h12' hlt HNO.out (by rw [HE2.out]; exact hr), HE2.out]
        have hne : (r != 0) = true := by simp [hr]
        clear hr
        refine HKK.out _ _ ?_
        go_wp2
        go_ret
        exact ⟨ret_int HD.out.symm, HB3.out⟩
    · have HD : Hid (dchk l = 0) := dchk_ok h12' fun j hj => HNO.out j (by omega)
      go_wp2
      go_ret
      exact ⟨ret_int HD.out.symm, HB.out⟩


end Go.Proofs.YtjappkfhballhaaGreat
