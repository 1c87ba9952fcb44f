import Derived.Test.YtfadmpnpgiceeaaGreatKs
import Derived.Test.YtfadmpnpgiceeaaGreatKn

/- workcellref: TipCapacity walked. -/
namespace Go.Proofs.YtfadmpnpgiceeaaGreat
open Go.RowKit Go.Maps
theorem tip_in {l : List Sit} (hd : dchk l = 0) {p : Plc} (h : p ∈ tipsL l) : ∃ z, seatOf l p.1 = some z ∧ wareOf l p = some z.ware := by
 unfold tipsL at h
 obtain ⟨k, _, h⟩ := List.mem_flatMap.1 h
 unfold rackIn at h
 split at h
 ·rename_i z hz
  split at h
  ·obtain ⟨q, hq, rfl⟩ := List.mem_map.1 h
   refine ⟨z, hz, ?_⟩
   unfold wareOf
   simp only
   rw [hz]
   simp only
   unfold spots at hq
   obtain ⟨i, hi, rfl⟩ := List.mem_map.1 hq
   have hi' : i < z.ware.rows.toNat * z.ware.cols.toNat := by simpa using hi
   have hzl := (seatOf_in hz).1
   obtain ⟨j, hj, hjz⟩ := List.getElem_of_mem hzl
   have hq2 := ((dchk_in hd).2 j hj).2.1
   rw [hjz] at hq2
   have hr := inR_iff.1 (chk_in hq2).2.2.1
   have hR : 0 < z.ware.rows.toNat := by omega
   have h1 : i % z.ware.rows.toNat < z.ware.rows.toNat := Nat.mod_lt _ hR
   have h2 : i / z.ware.rows.toNat < z.ware.cols.toNat := (Nat.div_lt_iff_lt_mul hR).2 (by rw [Nat.mul_comm]; exact hi')
   clear hi hi'
   generalize i % z.ware.rows.toNat = u at *
   generalize i / z.ware.rows.toNat = v at *
   rw [if_pos (spotOk_iff.2 ⟨⟨by simp only; omega, by simp only; omega⟩, by simp only; omega, by simp only; omega⟩)]
  ·cases h
 ·cases h
set_option maxHeartbeats 3200000 in
set_option maxRecDepth 100000 in
theorem tipCap_any (ao : Option Addr) (cap : Nat) (l : List Sit) (w : World) (hD : Dk w ao cap l) (hd : dchk l = 0) :
  Calls Tryz.prog 34 #[.slice ao l.length cap] w fun e w' => e = .returned (.int .i64 (tipM l)) ∧ Below w.heap.size w w' := by
 have HD : Hid (Dk w ao cap l) := hD
 have HDC : Hid (dchk l = 0) := hd
 have hl12 := dk_len hd
 clear hD hd
 go_enter Tryz.func34, Tryz.ntmps34
 go_wp2_with fail
 refine (tipsOf_any ao cap l w HD.out HDC.out).mono ?_
 rintro e w1 ⟨v, rfl, ho, hb⟩
 have HB1 : Hid (Below w.heap.size w w1) := hb
 have hfew := tips_few HDC.out
 cases hts : tipsL l with
 | nil =>
  have HR : Hid (tipM l = 0) := by show _ = _; unfold tipM; rw [hts]
  rw [hts] at ho
  obtain ⟨aoV, capV, rfl⟩ := ho.shape
  clear hts ho hb hfew
  simp only [List.length_nil]
  go_wp2
  go_ret
  exact ⟨ret_int HR.out.symm, HB1.out⟩
 | cons p r =>
  obtain ⟨z, hz, hwz⟩ := tip_in HDC.out (p := p) (by rw [hts]; exact List.mem_cons_self ..)
  have HR : Hid (tipM l = z.ware.cap) := by show _ = _; unfold tipM; rw [hts]; simp only; rw [hwz]
  rw [hts] at ho hfew
  obtain ⟨g, cp, rfl, _, _, hg, hc⟩ := (ho.read goodP).resolve_left (by simp)
  have c0 := hc 0 (by simp) 0 (by decide)
  simp only [List.getElem_cons_zero, List.getElem?_cons_zero, Nat.zero_mul, Nat.zero_add] at c0
  have hlp : (0 : Int) < ((p :: r).length : Int) := by rw [List.length_cons]; omega
  have hlq : (((p :: r).length : Int) == 0) = false := by rw [beq_eq_false_iff_ne, List.length_cons]; omega
  obtain ⟨nr, hnr⟩ : ∃ nr, (p :: r).length = nr := ⟨_, rfl⟩
  rw [hnr] at hlp hlq ⊢
  clear hts ho hb hc hwz hfew hnr
  go_wp2_with fail
  refine (seatAt_any ao cap l p.1 w1 (HD.out.next HB1.out) (by omega)).mono ?_
  rintro e w2 ⟨rfl, hw1⟩
  have hw2 := hw1.symm
  clear hw1
  subst hw2
  rcases find_cases l p.1 with ⟨e1, e2⟩ | ⟨k, h0, e1, e2, e3⟩
  ·rw [e1] at hz; cases hz
  ·rw [seatAt_hit h0 e3 (by simp [e2])]
   obtain ⟨b, off, hao, hst⟩ := (HD.out.next HB1.out).sts.at h0
   rw [e1] at hz
   injection hz with hz
   rw [hz] at hst
   subst hao
   have g12 := hst.c12
   have hki : (k : Int) < (l.length : Int) := by omega
   clear e1 e2 e3 hst hz
   go_wp2
   go_ret
   exact ⟨ret_int HR.out.symm, HB1.out⟩
end Go.Proofs.YtfadmpnpgiceeaaGreat

/- workcellref: DeckMay, textAt walked. -/
namespace Go.Proofs.YtfadmpnpgiceeaaGreat
open Go.RowKit Go.Maps
theorem seatR_zero {s : Sit} : seatR s = 0 ↔ plc s = 0 ∧ chk s.ware = 0 ∧ ¬ (132500 < s.ware.wid ∨ 90500 < s.ware.len) := by
 unfold seatR
 by_cases h1 : plc s = 0
 ·by_cases h2 : chk s.ware = 0
  ·by_cases h3 : 132500 < s.ware.wid ∨ 90500 < s.ware.len
   ·rw [if_pos h1, if_pos h2, if_pos h3]; exact ⟨fun h => absurd h (by decide), fun h => absurd h3 h.2.2⟩
   ·rw [if_pos h1, if_pos h2, if_neg h3]; exact ⟨fun _ => ⟨h1, h2, h3⟩, fun _ => rfl⟩
  ·rw [if_pos h1, if_neg h2]; exact ⟨fun h => absurd h h2, fun h => absurd h.2.1 h2⟩
 ·rw [if_neg h1]; exact ⟨fun h => absurd h h1, fun h => absurd h.1 h1⟩
def Twn (l : List Sit) (k j : Nat) : Prop := ∀ (hk : k < l.length) (hj : j < l.length), ((l[k]'hk).slot == (l[j]'hj).slot) = false ∧ ((l[k]'hk).name.toList == (l[j]'hj).name.toList) = false
theorem ba_toList {a b : ByteArray} (h : a.toList = b.toList) : a = b := ba_ext (by rw [← ByteArray.toList_eq, ← ByteArray.toList_eq]; exact h)
theorem dchk_iff {l : List Sit} : dchk l = 0 ↔ l.length ≤ 12 ∧ (∀ k (h : k < l.length), seatR (l[k]'h) = 0) ∧ ∀ k j, j < k → Twn l k j := by
 constructor
 ·intro h
  obtain ⟨h1, h2⟩ := dchk_in h
  have hf : ∀ k (hk : k < l.length), ¬ (132500 < (l[k]'hk).ware.wid ∨ 90500 < (l[k]'hk).ware.len) ∧ ¬ (((l.take k).any fun a => a.slot == (l[k]'hk).slot) = true ∨ ((l.take k).any fun a => a.name == (l[k]'hk).name) = true) := fun k hk => by
   have := (h2 k hk).2.2
   unfold fit at this
   split at this
   ·exact absurd this (by decide)
   ·rename_i h3
    split at this
    ·exact absurd this (by decide)
    ·rename_i h4; exact ⟨h3, h4⟩
  refine ⟨h1, fun k hk => seatR_zero.2 ⟨(h2 k hk).1, (h2 k hk).2.1, (hf k hk).1⟩, fun k j hj hk hjl => ?_⟩
  have h4 := (hf k hk).2
  have hm : l[j]'hjl ∈ l.take k := by
   rw [List.mem_iff_getElem]
   exact ⟨j, by rw [List.length_take]; omega, by rw [List.getElem_take]⟩
  constructor
  ·rw [beq_eq_false_iff_ne]
   intro e
   exact h4 (.inl (List.any_eq_true.2 ⟨_, hm, by simp [e]⟩))
  ·rw [beq_eq_false_iff_ne]
   intro e
   exact h4 (.inr (List.any_eq_true.2 ⟨_, hm, by rw [beq_toListBytes, beq_iff_eq]; exact e.symm⟩))
 ·rintro ⟨h1, h2, h3⟩
  refine dchk_ok h1 fun k hk => ?_
  rw [errAt_lt hk]
  obtain ⟨p1, p2, p3⟩ := seatR_zero.1 (h2 k hk)
  have hf : fit (l.take k) (l[k]'hk) = 0 := by
   unfold fit
   rw [if_neg p3, if_neg]
   rintro (h | h) <;> obtain ⟨a, ha, he⟩ := List.any_eq_true.1 h <;> obtain ⟨j, hj, rfl⟩ := List.getElem_of_mem ha
   ·rw [List.length_take] at hj
    rw [List.getElem_take] at he
    have := (h3 k j (by omega) hk (by omega)).1
    rw [beq_eq_false_iff_ne] at this
    have h5 : (l[j]'(by omega)).slot = (l[k]'hk).slot := by simpa using he
    exact this h5.symm
   ·rw [List.length_take] at hj
    rw [List.getElem_take] at he
    have := (h3 k j (by omega) hk (by omega)).2
    rw [beq_eq_false_iff_ne] at this
    rw [beq_toListBytes, beq_iff_eq] at he
    exact this he.symm
  unfold one3
  rw [p1, p2, hf]
  decide
set_option maxHeartbeats 6400000 in
set_option maxRecDepth 100000 in
theorem deckMay_any (ao : Option Addr) (cap : Nat) (l : List Sit) (w : World) (hD : Dk w ao cap l) (hln : l.length ≤ 9223372036854775807) :
  Calls Tryz.prog 30 #[.slice ao l.length cap] w fun e w' => ∃ r : Int, e = .returned (.int .i64 r) ∧ (r = 0 ↔ dchk l = 0) ∧ Below w.heap.size w w' := by
 have HD : Hid (Dk w ao cap l) := hD
 clear hD
 by_cases h12 : 12 < l.length
 ·have HP : Hid (dchk l = 7) := dchk_many h12
  go_enter Tryz.func30, Tryz.ntmps30
  go_wp2
  go_ret
  exact ⟨7, rfl, by rw [HP.out], brf⟩
 have h12' : l.length ≤ 12 := by omega
 clear h12
 go_enter Tryz.func30, Tryz.ntmps30
 go_wp2
 go_loopw [3] (fun i wr => ∃ k : Nat, k ≤ l.length ∧ i = .int .i64 k ∧ (∀ j (h : j < l.length), j < k → seatR (l[j]'h) = 0) ∧ Below w.heap.size w wr) (fun i _ => l.length - (intOf i).toNat)
 case atStart => exact ⟨0, Nat.zero_le _, rfl, (fun j _ hj => absurd hj (Nat.not_lt_zero _)), brf⟩
 case round =>
  obtain ⟨k, hk, rfl, hno, hb⟩ := hrel
  have HB : Hid (Below w.heap.size w wr) := hb
  have HNO : Hid (∀ j (h : j < l.length), j < k → seatR (l[j]'h) = 0) := hno
  clear hb hno
  by_cases hlt : k < l.length
  ·obtain ⟨b, off, rfl, hbx⟩ := (HD.out.next HB.out).sts.at hlt
   have HSO : Hid (SOk (l[k]'hlt)) := HD.out.ok _ (List.getElem_mem hlt)
   have HZ : Hid (seatR (l[k]'hlt) = 0 → ∀ j (h : j < l.length), j < k + 1 → seatR (l[j]'h) = 0) := fun h0 j hj hjk => by
    by_cases e : j = k
    ·subst e; exact h0
    ·exact HNO.out j hj (by omega)
   have HY : Hid (seatR (l[k]'hlt) ≠ 0 → dchk l ≠ 0) := fun h0 hd => h0 ((dchk_iff.1 hd).2.1 k hlt)
   generalize l[k]'hlt = s at *
   obtain ⟨_, c0, c1, c2, c3, c4, c5, c6, c7, c8, c9, c10, c11, c12, c13⟩ := hbx
   have hki : (k : Int) < (l.length : Int) := by omega
   go_wp2_with fail
   refine (seatMay_any s wr HSO.out).mono ?_
   rintro e w1 ⟨rfl, hb1⟩
   have HB1 : Hid (Below w.heap.size w w1) := HB.out.trans (hb1.mono HB.out.size)
   clear c0 c1 c2 c3 c4 c5 c6 c7 c8 c9 c10 c11 c12 c13 hb1
   by_cases hs : seatR s = 0
   ·have HM : Hid (∀ j (h : j < l.length), j < k + 1 → seatR (l[j]'h) = 0) := HZ.out hs
    rw [hs]
    clear HZ HY hs
    go_wp2
    go_roundw
    case rel => exact ⟨k + 1, by omega, by go_num, HM.out, HB1.out⟩
    case measure => simp [intOf]; omega
   ·have HM : Hid (dchk l ≠ 0) := HY.out hs
    have HS : Hid (seatR s ≠ 0) := hs
    have h2 : (seatR s == 0) = false := by simp [hs]
    have h3 : (seatR s != 0) = true := by simp [hs]
    clear HZ HY hs
    generalize seatR s = r at *
    go_wp2
    go_ret
    exact ⟨r, rfl, ⟨fun h => absurd h HS.out, fun h => absurd h HM.out⟩, HB1.out⟩
  ·have HALL : Hid (∀ j (h : j < l.length), seatR (l[j]'h) = 0) := fun j h => HNO.out j h (by omega)
   have hB := HB.out
   obtain ⟨wA, hwA⟩ : ∃ x, x = wr := ⟨_, rfl⟩
   subst hwA
   clear HNO hB hk
   go_wp2
   go_loopw [5] (fun i wr => ∃ k : Nat, k ≤ l.length ∧ i = .int .i64 k ∧ (∀ i j, i < k → j < i → Twn l i j) ∧ Below w.heap.size w wr) (fun i _ => l.length - (intOf i).toNat)
   case atStart => exact ⟨0, Nat.zero_le _, rfl, (fun i _ hi => absurd hi (Nat.not_lt_zero _)), HB.out⟩
   case round =>
    obtain ⟨k, hk, rfl, hno, hb⟩ := hrel
    have HB2 : Hid (Below w.heap.size w wr) := hb
    have HNO : Hid (∀ i j, i < k → j < i → Twn l i j) := hno
    clear hb hno
    by_cases hlk : k < l.length
    ·obtain ⟨wC, hwC⟩ : ∃ x, x = wr := ⟨_, rfl⟩
     subst hwC
     have hkk : (k : Int) < (l.length : Int) := by omega
     go_wp2
     go_loopw [6] (fun i wr => ∃ j : Nat, j ≤ k ∧ i = .int .i64 j ∧ (∀ i, i < j → Twn l k i) ∧ ∃ n, wr = wC.drewN n) (fun i _ => k - (intOf i).toNat)
     case atStart => exact ⟨0, Nat.zero_le _, rfl, (fun i hi => absurd hi (Nat.not_lt_zero _)), 0, rfl⟩
     case round =>
      obtain ⟨j, hj, rfl, hin, n, rfl⟩ := hrel
      have HIN : Hid (∀ i, i < j → Twn l k i) := hin
      clear hin
      by_cases hjk : j < k
      ·have hjl : j < l.length := by omega
       obtain ⟨b, off, hao, hx⟩ := (HD.out.next HB2.out).sts.at hlk
       obtain ⟨b', off', hao', hy⟩ := (HD.out.next HB2.out).sts.at hjl
       have c0 := hx.c0
       have c13 := hx.c13
       have e0 := hy.c0
       have e13 := hy.c13
       have HTW : Hid (((l[k]'hlk).slot == (l[j]'hjl).slot) = false → ((l[k]'hlk).name.toList == (l[j]'hjl).name.toList) = false → Twn l k j) := fun h1 h2 _ _ => ⟨h1, h2⟩
       have HNT : Hid ((((l[k]'hlk).slot == (l[j]'hjl).slot) = true ∨ ((l[k]'hlk).name.toList == (l[j]'hjl).name.toList) = true) → dchk l ≠ 0) := fun h hd => by
        have := (dchk_iff.1 hd).2.2 k j hjk hlk hjl
        rcases h with h | h
        ·rw [this.1] at h; cases h
        ·rw [this.2] at h; cases h
       rw [hao] at hao'
       simp only [Option.some.injEq, Addr.mk.injEq, and_true] at hao'
       obtain ⟨rfl, rfl⟩ := hao'
       subst hao
       generalize l[k]'hlk = x at *
       generalize l[j]'hjl = y at *
       clear hx hy
       generalize x.slot = xs at *
       generalize y.slot = ys at *
       generalize x.name = xn at *
       generalize y.name = yn at *
       have hji : (j : Int) < (l.length : Int) := by omega
       have hjki : (j : Int) < (k : Int) := by omega
       cases h1 : (xs == ys) with
       | true =>
        have HM : Hid (dchk l ≠ 0) := HNT.out (.inl h1)
        clear HTW HNT HIN
        go_wp2
        go_big_quiet (fail)
        go_wp2
        go_ret
        exact ⟨4, rfl, ⟨fun h => absurd h (by decide), fun h => absurd h HM.out⟩, blw_drewN (blw_drewN HB2.out _) _⟩
       | false =>
        cases h2 : (xn.toList == yn.toList) with
        | true =>
         have HM : Hid (dchk l ≠ 0) := HNT.out (.inr h2)
         clear HTW HNT HIN
         go_wp2
         go_big_quiet (fail)
         go_wp2
         go_ret
         exact ⟨4, rfl, ⟨fun h => absurd h (by decide), fun h => absurd h HM.out⟩, blw_drewN (blw_drewN HB2.out _) _⟩
        | false =>
         have HM : Hid (∀ i, i < j + 1 → Twn l k i) := fun i hi => by
          by_cases e : i = j
          ·subst e; exact HTW.out h1 h2
          ·exact HIN.out i (by omega)
         clear HTW HNT HIN
         go_wp2
         go_big_quiet (fail)
         go_wp2
         go_roundw
         case rel => exact ⟨j + 1, by omega, by go_num, HM.out, n + nq, by simp⟩
         case measure => simp [intOf]; omega
      ·have HM : Hid (∀ i j, i < k + 1 → j < i → Twn l i j) := fun i j' hi hj' => by
        by_cases e : i = k
        ·subst e; exact HIN.out j' (by omega)
        ·exact HNO.out i j' (by omega) hj'
       go_wp2
       go_roundw
       case rel => exact ⟨k + 1, by omega, by go_num, HM.out, blw_drewN HB2.out _⟩
       case measure => simp [intOf]; omega
    ·have HM : Hid (dchk l = 0) := dchk_iff.2 ⟨h12', HALL.out, fun i j hj hi hjl => HNO.out i j (by omega) hj hi hjl⟩
     go_wp2
     go_ret
     exact ⟨0, rfl, ⟨fun _ => HM.out, fun _ => rfl⟩, HB2.out⟩
def txAt (t : List ByteArray) (x : ByteArray) : Int := match t.findIdx? (fun y => y.toList == x.toList) with
 | some k => k
 | none => -1
theorem txAt_hit {l : List ByteArray} {n : ByteArray} {k : Nat} (hk : k < l.length) (h : ∀ s ∈ l.take k, (s.toList == n.toList) = false) (hs : ((l[k]'hk).toList == n.toList) = true) : txAt l n = k := by
 unfold txAt
 have : l.findIdx? (fun s => s.toList == n.toList) = some k := by
  rw [List.findIdx?_eq_some_iff_getElem]
  refine ⟨hk, hs, fun j hj => ?_⟩
  have := h (l[j]'(by omega)) (by rw [List.mem_iff_getElem]; exact ⟨j, by rw [List.length_take]; omega, by rw [List.getElem_take]⟩)
  simp only [this]
  decide
 rw [this]
theorem txAt_none {l : List ByteArray} {n : ByteArray} (h : ∀ s ∈ l, (s.toList == n.toList) = false) : txAt l n = -1 := by
 unfold txAt
 have : l.findIdx? (fun s => s.toList == n.toList) = none := by
  rw [List.findIdx?_eq_none_iff]
  intro s hs
  exact h s hs
 rw [this]
theorem txAt_neg {t : List ByteArray} {x : ByteArray} : txAt t x < 0 ↔ x ∉ t := by
 constructor
 ·intro h hm
  unfold txAt at h
  cases e : t.findIdx? (fun y => y.toList == x.toList) with
  | some k => rw [e] at h; simp only at h; omega
  | none =>
   have := List.findIdx?_eq_none_iff.1 e x hm
   simp at this
 ·intro h
  rw [txAt_none]
  ·decide
  ·intro s hs
   rw [beq_eq_false_iff_ne]
   intro e
   exact h (ba_toList e ▸ hs)
set_option maxHeartbeats 1600000 in
theorem textAt_any (ao : Option Addr) (cap : Nat) (l : List ByteArray) (n : ByteArray) (w : World) (hT : Tx w ao l) (hln : l.length ≤ 1000000000) :
  Calls Tryz.prog 36 #[.slice ao l.length cap, .string n] w fun e w' => e = .returned (.int .i64 (txAt l n)) ∧ w' = w := by
 have HD : Hid (Tx w ao l) := hT
 clear hT
 go_enter Tryz.func36, Tryz.ntmps36
 go_wp2
 go_loopw [5] (fun i wr => ∃ k : Nat, k ≤ l.length ∧ i = .int .i64 k ∧ (∀ s ∈ l.take k, (s.toList == n.toList) = false) ∧ w = wr) (fun i _ => l.length - (intOf i).toNat)
 case atStart => exact ⟨0, Nat.zero_le _, rfl, (fun s hs => by simp at hs), rfl⟩
 case round =>
  obtain ⟨k, hk, rfl, ha, hwr⟩ := hrel
  subst hwr
  have HA : Hid (∀ s ∈ l.take k, (s.toList == n.toList) = false) := ha
  clear ha
  by_cases hlt : k < l.length
  ·obtain ⟨b, off, hao, _, c0, _⟩ := HD.out.at hlt
   have HN : Hid (((l[k]'hlt).toList == n.toList) = false → ∀ s ∈ l.take (k + 1), (s.toList == n.toList) = false) := fun h s hs => by
    rw [List.take_succ_eq_append_getElem hlt] at hs
    rcases List.mem_append.1 hs with hs | hs
    ·exact HA.out s hs
    ·rw [List.mem_singleton] at hs; rw [hs]; exact h
   have HH : Hid (((l[k]'hlt).toList == n.toList) = true → txAt l n = k) := fun h => txAt_hit hlt HA.out h
   generalize l[k]'hlt = z at *
   subst hao
   have hki : (k : Int) < (l.length : Int) := by omega
   cases hz : (z.toList == n.toList) with
   | true =>
    have HQ : Hid (txAt l n = k) := HH.out hz
    clear HN HH
    go_wp2
    go_ret
    exact ⟨ret_int HQ.out.symm, rfl⟩
   | false =>
    have HM : Hid (_) := HN.out hz
    clear HN HH
    go_wp2
    go_roundw
    case rel => exact ⟨k + 1, by omega, by go_num, HM.out, (by first | rfl | trivial)⟩
    case measure => simp [intOf]; omega
  ·have HQ : Hid (txAt l n = -1) := txAt_none fun s hs => HA.out s (by rw [List.take_of_length_le (by omega)]; exact hs)
   go_wp2
   go_ret
   exact ⟨ret_int HQ.out.symm, rfl⟩
end Go.Proofs.YtfadmpnpgiceeaaGreat
