import Derived.Test.YtcajifelbldjnaaGreatHp
import Derived.Test.YtcajifelbldjnaaGreatHn

/- newFloor walked. -/
namespace Go.Proofs.YtcajifelbldjnaaGreat
open Go.RowKit Go.Maps
theorem hid {p : Prop} (h : p) : Hid p := h
theorem st_ok {l : List Sit} (hd : dchk l = 0) (hok : ∀ s ∈ l, SOk s) : ∀ s ∈ l, StOk s := by
  intro s hs
  obtain ⟨k, hk, rfl⟩ := List.mem_iff_getElem.1 hs
  obtain ⟨h1, h2, h3⟩ := (dchk_in hd).2 k hk
  have hsz : (l[k]'hk).ware.wid ≤ 132500 ∧ (l[k]'hk).ware.len ≤ 90500 := by
    unfold fit at h3
    split at h3
    · omega
    · omega
  have hf : fit ([(l[k]'hk)].take 0) (l[k]'hk) = 0 := by
    unfold fit
    rw [if_neg (by omega)]
    simp
  have ha : dchk [(l[k]'hk)] = 0 := by
    refine dchk_ok (by simp) fun j hj => ?_
    obtain rfl : j = 0 := by (have : j < 1 := hj; omega)
    rw [errAt_lt (by simp)]
    show one3 [(l[k]'hk)] 0 (l[k]'hk) = 0
    unfold one3
    refine orL_zero fun n hn => ?_
    simp only [List.mem_cons, List.mem_nil_iff, or_false] at hn
    rcases hn with rfl | rfl | rfl
    · exact h1
    · exact h2
    · exact hf
  exact ⟨hok _ hs, h2, ⟨(plc_in h1).1, (plc_in h1).2.1⟩, ha, hsz⟩
/-- The spots of a seat. -/
def spotsOf (s : Sit) : List (Nat × Nat) := spots s.ware.rows.toNat (s.ware.cols.toNat * s.ware.rows.toNat)
def floorP (ls : List Sit) : Plc → Option Value := ls.foldl (fun f s => flrP s (spotsOf s) f) (fun _ => none)
def floorS (ls : List Sit) : Std → Option Value := ls.foldl (fun g s => flrS s (spotsOf s) g) (fun _ => none)
def floorB (ls : List Sit) : List Plc := ls.flatMap fun s => flrB s (spotsOf s)
theorem floorP_succ (ls : List Sit) (s : Sit) : floorP (ls ++ [s]) = flrP s (spotsOf s) (floorP ls) := by simp [floorP, List.foldl_append]
theorem floorS_succ (ls : List Sit) (s : Sit) : floorS (ls ++ [s]) = flrS s (spotsOf s) (floorS ls) := by simp [floorS, List.foldl_append]
theorem floorB_succ (ls : List Sit) (s : Sit) : floorB (ls ++ [s]) = floorB ls ++ flrB s (spotsOf s) := by simp [floorB]
set_option maxHeartbeats 1600000 in
theorem tips_err (ao : Option Addr) (cap : Nat) (l : List Sit) (w : World) (hD : Dk w ao cap l) (hl : l.length ≤ 9223372036854775807) (hd : dchk l ≠ 0) :
    Calls Tryz.prog 16 #[.slice ao l.length cap] w fun e w' => e = .returned (.tuple #[.slice none 0 0, .int .i64 (dchk l)]) ∧ Below w.heap.size w w' := by
  have HC := (show Hid _ from dk_check ao cap l w hD hl)
  have hne : (dchk l != 0) = true := by simp [hd]
  clear hD hl hd
  generalize dchk l = d at *
  go_enter Tryz.func16, Tryz.ntmps16
  go_wp2_with fail
  refine Calls.mono HC.out ?_
  rintro e w1 ⟨rfl, hb⟩
  have HB : Hid _ := hb
  clear hb HC
  go_wp2
  refine bodyPost_ret (v := .tuple #[.slice none 0 0, .int .i64 d]) (by simp [results, Tryz.results16, go_sem]) rfl ⟨rfl, HB.out⟩
abbrev flz : List Value := [.slice none 0 0, .slice none 0 0, .map none, .map none]
abbrev flv (ts bv : Value) (mp ms : Nat) : Value := .agg #[ts, bv, .map (some mp), .map (some ms)]
/-- A floor in memory, made behind world w. -/
structure Flr (w w' : World) (l ls : List Sit) (v : Value) : Prop where
  perm : ls.Perm l
  sorted : ls.Pairwise fun x y => x.slot ≤ y.slot
  below : Below w.heap.size w w'
  val : ∃ aoT capT aoB capB mp ms c, v = flv (.slice aoT (tipsL l).length capT) (.slice aoB (floorB ls).length capB) mp ms ∧ OwnR encP w' w.heap.size (.slice aoT (tipsL l).length capT) (tipsL l) ∧ OwnR encP w' w.heap.size (.slice aoB (floorB ls).length capB) (floorB ls) ∧
    MF kkP w' mp c (floorP ls) ∧ MF kkS w' ms c (floorS ls) ∧ w.heap.size ≤ mp ∧ w.heap.size ≤ ms
set_option maxHeartbeats 1600000 in
theorem newFloor_err (ao : Option Addr) (cap : Nat) (l : List Sit) (w : World) (hD : Dk w ao cap l) (hl : l.length ≤ 9223372036854775807) (hd : dchk l ≠ 0) :
    Calls Tryz.prog 6 #[.slice ao l.length cap] w fun e w' => e = .returned (.tuple #[.agg #[.slice none 0 0, .slice none 0 0, .map none, .map none], .int .i64 (dchk l)]) ∧ Below w.heap.size w w' := by
  have hb0 : Below w.heap.size w (w.alloc (.cells flz.toArray 42)) := (Below.refl _ _).alloc (Nat.le_refl _) _
  have HC := (show Hid _ from tips_err ao cap l (w.alloc (.cells flz.toArray 42)) (hD.next hb0) hl hd)
  have KF : Hid (Bk w.heap.size flz (w.alloc (.cells flz.toArray 42))) := Bk.new w flz 42 w.heap.size rfl
  have HB0 : Hid _ := hb0
  have hne : (dchk l != 0) = true := by simp [hd]
  clear hD hl hd hb0
  generalize dchk l = d at *
  go_enter Tryz.func6, Tryz.ntmps6
  go_wp2_with fail
  refine Calls.mono HC.out ?_
  rintro e w1 ⟨rfl, hb⟩
  have KF1 := KF.out.later hb
  have HB : Hid (Below w.heap.size w w1) := HB0.out.trans (hb.mono HB0.out.size)
  have r0 := KF1.c 0 rfl
  have rf0 := KF1.f 0 rfl
  have r1 := KF1.c 1 rfl
  have rf1 := KF1.f 1 rfl
  have r2 := KF1.c 2 rfl
  have rf2 := KF1.f 2 rfl
  have r3 := KF1.c 3 rfl
  have rf3 := KF1.f 3 rfl
  have hlt := KF1.1
  clear hb HC KF KF1
  go_wp2
  refine bodyPost_ret (v := .tuple #[.agg #[.slice none 0 0, .slice none 0 0, .map none, .map none], .int .i64 d]) (by simp [results, Tryz.results6, go_sem, r0, r1, r2, r3]) rfl ⟨rfl, ?_⟩
  exact (((HB.out.setCell (Nat.le_refl _) _).setCell (Nat.le_refl _) _).setCell (Nat.le_refl _) _).setCell (Nat.le_refl _) _
/-- Between two seats. -/
structure NfI (w1 w4 : World) (ls : List Sit) (b mp ms : Nat) (ts : Value) (k : Nat) (wr : World) : Prop where
  kpt : Kpt (fun j => j = b ∨ j = mp ∨ j = ms) w4 wr
  maps : ∃ c, c ≤ 384 * k ∧ MF kkP wr mp c (floorP (ls.take k)) ∧ MF kkS wr ms c (floorS (ls.take k))
  len : (floorB (ls.take k)).length ≤ 384 * k
  bk : ∃ ao n cap, Bk b (flc ts (.slice ao n cap) mp ms) wr ∧ OwnR encP wr w1.heap.size (.slice ao n cap) (floorB (ls.take k)) ∧ (Value.slice ao n cap).ownBlock ≠ some b ∧ ∀ j, (Value.slice ao n cap).ownBlock = some j → w4.heap.size ≤ j
theorem own_len {α : Type} {c : Enc α} {w : World} {B : Nat} {ao : Option Addr} {n cap : Nat} {xs : List α} (h : OwnR c w B (.slice ao n cap) xs) : n = xs.length := by
  obtain ⟨a, b, e⟩ := h.shape
  injection e
theorem Kpt.belowC {M : Nat → Prop} {W W' w : World} (hk : Kpt M W W') (h : Below w.heap.size w W) (hM : ∀ k, M k → w.heap.size ≤ k) : Below w.heap.size w W' := h.trans (hk.below h.size hM)
set_option maxHeartbeats 6400000 in
set_option maxRecDepth 100000 in
theorem newFloor_ok (ao : Option Addr) (cap : Nat) (l : List Sit) (w : World) (hD : Dk w ao cap l) (hd : dchk l = 0) :
    Calls Tryz.prog 6 #[.slice ao l.length cap] w fun e w' => ∃ ls v, e = .returned (.tuple #[v, .int .i64 0]) ∧ Flr w w' l ls v := by
  have hb0 : Below w.heap.size w (w.alloc (.cells flz.toArray 42)) := (Below.refl _ _).alloc (Nat.le_refl _) _
  have HC := (show Hid _ from tips_any ao cap l (w.alloc (.cells flz.toArray 42)) (hD.next hb0) hd)
  have KF : Hid (Bk w.heap.size flz (w.alloc (.cells flz.toArray 42))) := Bk.new w flz 42 w.heap.size rfl
  have HB0 : Hid _ := hb0
  have HD : Hid (Dk w ao cap l) := hD
  have HL : Hid (l.length ≤ 12) := dk_len hd
  have HSO : Hid (∀ s ∈ l, StOk s) := st_ok hd hD.ok
  clear hD hd hb0
  go_enter Tryz.func6, Tryz.ntmps6
  go_wp2_with fail
  refine Calls.mono HC.out ?_
  rintro e w1 ⟨vT, rfl, hoT, hb⟩
  obtain ⟨aoT, nT, capT, rfl⟩ := hoT.form
  obtain rfl := own_len hoT
  have HB1 : Hid (Below w.heap.size w w1) := HB0.out.trans (hb.mono HB0.out.size)
  have KF1 : Hid (Bk w.heap.size flz w1) := KF.out.later hb
  have HT1 : Hid (OwnR encP w1 (w.heap.size + 1) (.slice aoT (tipsL l).length capT) (tipsL l)) := hoT.base (by simp)
  clear hb HC KF hoT HB0
  generalize hTL : tipsL l = tl at *
  have HTLE : Hid (tipsL l = tl) := hTL
  clear hTL
  have hmm := @run_makeMap Tryz.prog
  go_wp2_with fail
  clear hmm
  obtain ⟨w3, hw3⟩ : ∃ w3, w3 = ((w1.alloc (.map #[] 0)).alloc (.map #[] 0)).alloc (.cells (flc (.slice aoT tl.length capT) (.slice none 0 0) w1.heap.size (w1.heap.size + 1)).toArray 42) := ⟨_, rfl⟩
  have hb13 : Below w1.heap.size w1 w3 := by rw [hw3]; exact (((Below.refl _ _).alloc (Nat.le_refl _) _).alloc (by simp) _).alloc (by simp; omega) _
  have hs3 : w3.heap.size = w1.heap.size + 3 := by rw [hw3]; simp
  have MP3 : Hid (MF kkP w3 w1.heap.size 0 (fun _ => none)) := by
    show MF _ _ _ _ _
    rw [hw3]
    exact ((MF.made w1).next ((Below.refl _ _).alloc (Nat.le_refl _) _)).next ((Below.refl _ _).alloc (Nat.le_refl _) _)
  have MS3 : Hid (MF kkS w3 (w1.heap.size + 1) 0 (fun _ => none)) := by
    show MF _ _ _ _ _
    rw [hw3]
    have := MF.made (c := kkS) (w1.alloc (.map #[] 0))
    simp only [World.size_alloc] at this
    exact this.next ((Below.refl _ _).alloc (Nat.le_refl _) _)
  have KB3 : Hid (Bk (w1.heap.size + 2) (flc (.slice aoT tl.length capT) (.slice none 0 0) w1.heap.size (w1.heap.size + 1)) w3) := by
    show Bk _ _ _
    rw [hw3]
    exact Bk.new _ (flc (.slice aoT tl.length capT) (.slice none 0 0) w1.heap.size (w1.heap.size + 1)) 42 (w1.heap.size + 2) (by simp)
  have HB3 : Hid (Below w.heap.size w w3) := HB1.out.trans (hb13.mono HB1.out.size)
  have HB13 : Hid (Below w1.heap.size w1 w3) := hb13
  have HW3 : Hid (w3 = _) := hw3
  have HS3 : Hid (w3.heap.size = w1.heap.size + 3) := hs3
  try rw [← hw3]
  clear hb13 hw3 hs3
  refine Calls.mono (bySlots_any ao cap l w3 (HD.out.sts.next HB3.out) HL.out) ?_
  rintro e w4 ⟨ls, aoL, capL, rfl, hp, hpw, hsts, hadl, hb34⟩
  have HP : Hid (ls.Perm l) := hp
  have HPW : Hid (ls.Pairwise fun x y => x.slot ≤ y.slot) := hpw
  have HLS : Hid (ls.length ≤ 12) := by show _ ≤ _; rw [hp.length_eq]; exact HL.out
  have HSS : Hid (∀ s ∈ ls, StOk s) := fun s hs => HSO.out s (hp.subset hs)
  have HST : Hid (Sts w4 aoL ls) := hsts
  have HADL : Hid (∀ ad, aoL = some ad → w3.heap.size ≤ ad.block) := hadl
  have HB14 : Hid (Below w1.heap.size w1 w4) := HB13.out.trans (hb34.mono HB13.out.size)
  have HB4 : Hid (Below w.heap.size w w4) := HB3.out.trans (hb34.mono HB3.out.size)
  have HI0 : Hid (NfI w1 w4 ls (w1.heap.size + 2) w1.heap.size (w1.heap.size + 1) (.slice aoT tl.length capT) 0 w4) :=
    ⟨Kpt.refl _ _, ⟨0, Nat.zero_le _, MP3.out.next hb34, MS3.out.next hb34⟩, by simp [floorB], none, 0, 0, KB3.out.later hb34, OwnR.nil _ _ _, (fun e => by cases e), (fun j e => by cases e)⟩
  have HW4 : Hid (w1.heap.size + 3 ≤ w4.heap.size) := by have := hb34.size; have := HS3.out; show _ ≤ _; omega
  have HADL2 : Hid (∀ ad, aoL = some ad → w1.heap.size + 3 ≤ ad.block) := fun ad e => by have := hadl ad e; have := HS3.out; omega
  clear HADL
  clear hadl hp hpw hsts hb34 MP3 MS3 KB3 HW3 HS3 HB3 HB13 HSO
  go_wp2_with fail
  go_loopw [25] (fun i wr => ∃ k : Nat, k ≤ ls.length ∧ i = .int .i64 (k : Int) ∧ NfI w1 w4 ls (w1.heap.size + 2) w1.heap.size (w1.heap.size + 1) (.slice aoT tl.length capT) k wr) (fun i _ => ls.length - (intOf i).toNat)
  case atStart => exact ⟨0, Nat.zero_le _, rfl, HI0.out⟩
  case round =>
    obtain ⟨k, hk, rfl, hI⟩ := hrel
    have HI : Hid (NfI w1 w4 ls (w1.heap.size + 2) w1.heap.size (w1.heap.size + 1) (.slice aoT tl.length capT) k wr) := hI
    have hw4 := HW4.out
    have HSTr : Hid (Sts wr aoL ls) := by
      show Sts _ _ _
      refine HST.out.kpt hI.kpt fun hne ad e => ?_
      have := HADL2.out ad e
      omega
    have HWr : Hid (w4.heap.size ≤ wr.heap.size) := hI.kpt.size
    have HB1r : Hid (Below w1.heap.size w1 wr) := HB14.out.trans (hI.kpt.below HB14.out.size (fun j e => by omega))
    clear hI
    have hls := HLS.out
    by_cases hlt : k < ls.length
    · obtain ⟨g, off, hao, hat⟩ := HSTr.out.at hlt
      have HTK : Hid (ls.take (k + 1) = ls.take k ++ [ls[k]'hlt]) := List.take_succ_eq_append_getElem hlt
      have HSO := (show Hid _ from HSS.out _ (List.getElem_mem hlt))
      generalize ls[k]'hlt = s at *
      subst hao
      obtain ⟨c, hc, hf, hg⟩ := HI.out.maps
      obtain ⟨ao2, n2, cap2, hbk, hown, hob, hol⟩ := HI.out.bk
      obtain ⟨R, hR⟩ : ∃ R : Nat, s.ware.rows = R := ⟨s.ware.rows.toNat, by have := inR_iff.1 (chk_in HSO.out.chk).2.2.1; omega⟩
      obtain ⟨C, hC⟩ : ∃ C : Nat, s.ware.cols = C := ⟨s.ware.cols.toNat, by have := inR_iff.1 (chk_in HSO.out.chk).2.2.2.1; omega⟩
      have hCR : C * R ≤ 384 := by
        have a1 := inR_iff.1 (chk_in HSO.out.chk).2.2.1
        have a2 := inR_iff.1 (chk_in HSO.out.chk).2.2.2.1
        have := Nat.mul_le_mul (show C ≤ 24 by omega) (show R ≤ 16 by omega)
        omega
      have HSPO : Hid (spotsOf s = spots R (C * R)) := by show _ = _; unfold spotsOf; rw [hR, hC]; rfl
      have HLN : Hid ((flrB s (spots R (C * R))).length ≤ 384) := by
        show _ ≤ _
        unfold flrB
        split
        · rw [List.length_map, spots_length]; exact hCR
        · simp
      have hb5 : Below wr.heap.size wr (wr.alloc (sobj s)) := (Below.refl _ _).alloc (Nat.le_refl _) _
      have HLAY := hid (lay_any w1 (wr.alloc (sobj s)) s R C (w1.heap.size + 2) w1.heap.size (w1.heap.size + 1) c (.slice aoT tl.length capT) ao2 n2 cap2 (floorB (ls.take k)) (floorP (ls.take k)) (floorS (ls.take k)) HSO.out hR hC (HB1r.out.trans (hb5.mono HB1r.out.size)) (by omega) (by omega) (hbk.later hb5) (hown.later hb5) hob (hf.next hb5) (hg.next hb5) (by omega) (by have := HI.out.len; omega))
      have HCC : Hid (c + C * R ≤ 384 * (k + 1)) := by show _ ≤ _; omega
      have HOL2 : Hid (∀ j, (Value.slice ao2 n2 cap2).ownBlock = some j → w4.heap.size ≤ j) := hol
      have HB5 : Hid (Below wr.heap.size wr (wr.alloc (sobj s))) := hb5
      obtain ⟨_, c0, c1, c2, c3, c4, c5, c6, c7, c8, c9, c10, c11, c12, c13⟩ := hat
      have hki : (k : Int) < (ls.length : Int) := by omega
      clear hc hf hg hbk hown hob hol hR hC hCR hb5
      go_wp2_with fail
      refine Calls.mono HLAY.out ?_
      rintro e w5 ⟨rfl, ao5, n5, cap5, hbk5, hown5, hob5, hol5, hf5, hg5, hk5⟩
      have HI5 : Hid (NfI w1 w4 ls (w1.heap.size + 2) w1.heap.size (w1.heap.size + 1) (.slice aoT tl.length capT) (k + 1) w5) := by
        have hI := HI.out
        have e1 := floorP_succ (ls.take k) s
        have e2 := floorS_succ (ls.take k) s
        have e3 := floorB_succ (ls.take k) s
        rw [HSPO.out] at e1 e2 e3
        refine ⟨⟨hk5.os.trans (HB5.out.os.trans hI.kpt.os), hk5.tape.trans (HB5.out.tape.trans hI.kpt.tape), hk5.output.trans (HB5.out.output.trans hI.kpt.output), Nat.le_trans hI.kpt.size (Nat.le_trans HB5.out.size hk5.size), fun j hj hn => ?_⟩, ⟨c + C * R, HCC.out, ?_, ?_⟩, ?_, ao5, n5, cap5, hbk5, ?_, hob5, fun j e => ?_⟩
        · have hjr : j < wr.heap.size := Nat.lt_of_lt_of_le hj hI.kpt.size
          refine ((hk5.block j (Nat.lt_of_lt_of_le hjr HB5.out.size) fun e => ?_).trans (HB5.out.block j hjr)).trans (hI.kpt.block j hj hn)
          rcases e with e | e | e | e
          · exact hn (.inl e)
          · exact hn (.inr (.inl e))
          · exact hn (.inr (.inr e))
          · have := HOL2.out j e; omega
        · rw [HTK.out, e1]; exact hf5
        · rw [HTK.out, e2]; exact hg5
        · rw [HTK.out, e3, List.length_append]
          have := hI.len
          have := HLN.out
          omega
        · rw [HTK.out, e3]; exact hown5
        · rcases hol5 j e with h | h
          · exact HOL2.out j h
          · have := HB5.out.size; have := HWr.out; omega
      clear hbk5 hown5 hob5 hol5 hf5 hg5 hk5 c0 c1 c2 c3 c4 c5 c6 c7 c8 c9 c10 c11 c12 c13 HLAY
      go_wp2
      go_roundw
      case rel => exact ⟨k + 1, by omega, by go_num, HI5.out⟩
      case measure => simp [intOf]; omega
    · have HE : Hid (k = ls.length) := by show _ = _; omega
      have hI := HI.out
      rw [HE.out] at hI
      obtain ⟨ao2, n2, cap2, hbk, hown, hob, hol⟩ := hI.bk
      have HKF : Hid (Bk w.heap.size flz wr) := bkK (KF1.out.later (HB14.out)) hI.kpt (fun e => by have := KF1.out.1; omega)
      have HBKr : Hid (Bk (w1.heap.size + 2) (flc (.slice aoT tl.length capT) (.slice ao2 n2 cap2) w1.heap.size (w1.heap.size + 1)) wr) := hbk
      have HOr : Hid (OwnR encP wr w1.heap.size (.slice ao2 n2 cap2) (floorB (ls.take ls.length))) := hown
      have HTr : Hid (OwnR encP wr (w.heap.size + 1) (.slice aoT tl.length capT) tl) := own_kpt (HT1.out.later HB14.out) hI.kpt (fun j e e2 => by have := own_lt HT1.out e; omega)
      have HBr : Hid (Below w.heap.size w wr) := hI.kpt.belowC HB4.out (fun j e => by have := HB1.out.size; omega)
      have HMr := (show Hid _ from hI.maps)
      have e0 := hbk.c 0 rfl
      have e1 := hbk.c 1 rfl
      have e2 := hbk.c 2 rfl
      have e3 := hbk.c 3 rfl
      have hbne : w1.heap.size + 2 ≠ w.heap.size := fun e => by have := KF1.out.1; omega
      have r0 := HKF.out.c 0 rfl
      have rf0 := HKF.out.f 0 rfl
      have r1 := HKF.out.c 1 rfl
      have rf1 := HKF.out.f 1 rfl
      have r2 := HKF.out.c 2 rfl
      have rf2 := HKF.out.f 2 rfl
      have r3 := HKF.out.c 3 rfl
      have rf3 := HKF.out.f 3 rfl
      have hFlt := HKF.out.1
      clear hI hbk hown hob hol
      go_wp2
      refine bodyPost_ret (v := .tuple #[flv (.slice aoT tl.length capT) (.slice ao2 n2 cap2) w1.heap.size (w1.heap.size + 1), .int .i64 0]) (by simp [results, Tryz.results6, go_sem, r0, r1, r2, r3]) rfl ⟨ls, _, rfl, HP.out, HPW.out, ?_, ?_⟩
      · exact (((HBr.out.setCell (Nat.le_refl _) _).setCell (Nat.le_refl _) _).setCell (Nat.le_refl _) _).setCell (Nat.le_refl _) _
      · have hLT : ls.take ls.length = ls := List.take_length
        obtain ⟨c, hc, hf, hg⟩ := HMr.out
        have hO := HOr.out
        rw [hLT] at hf hg hO
        have k4 : Kpt (fun j => j = w.heap.size) wr ((((wr.setCell ⟨w.heap.size, 0, none⟩ (.slice aoT tl.length capT)).setCell ⟨w.heap.size, 1, none⟩ (.slice ao2 n2 cap2)).setCell ⟨w.heap.size, 2, none⟩ (.map (some w1.heap.size))).setCell ⟨w.heap.size, 3, none⟩ (.map (some (w1.heap.size + 1)))) :=
          (((Kpt.setCell (M := fun j => j = w.heap.size) wr w.heap.size 0 _ rfl).trans (Kpt.setCell _ w.heap.size 1 _ rfl)).trans (Kpt.setCell _ w.heap.size 2 _ rfl)).trans (Kpt.setCell _ w.heap.size 3 _ rfl)
        obtain rfl := own_len hO
        have hlt1 := KF1.out.1
        rw [HTLE.out]
        refine ⟨aoT, capT, ao2, cap2, w1.heap.size, w1.heap.size + 1, c, rfl, ?_, ?_, ?_, ?_, by omega, by omega⟩
        · exact (own_kpt HTr.out k4 (fun j e e2 => by have := own_lt HTr.out e; omega)).base (by omega)
        · exact (own_kpt hO k4 (fun j e e2 => by have := own_lt hO e; omega)).base (by omega)
        · exact hf.same (k4.block _ hf.lt (by omega))
        · exact hg.same (k4.block _ hg.lt (by omega))
end Go.Proofs.YtcajifelbldjnaaGreat

/- told walked. -/
namespace Go.Proofs.YtcajifelbldjnaaGreat
open Go.RowKit Go.Maps
/-- What two worlds have alike: all but the blocks bs. -/
structure ButL (bs : List Nat) (w w1 : World) : Prop where
  os : w1.os = w.os
  tape : w1.tape = w.tape
  output : w1.output = w.output
  size : w.heap.size ≤ w1.heap.size
  block : ∀ k, k < w.heap.size → k ∉ bs → w1.heap[k]? = w.heap[k]?
/-- A fluid that lies in none of the blocks bs. -/
def Fla (bs : List Nat) (w : World) (ao : Option Addr) (ps : List F.Pc) : Prop := F.Fl w ao ps ∧ (ps = [] ∨ ∀ a, ao = some a → a.block ∉ bs ∧ bs.headD 0 ≤ a.block)
theorem Fla.but {bs : List Nat} {w w1 : World} {ao : Option Addr} {ps : List F.Pc} (h : Fla bs w ao ps) (hb : ButL bs w w1) : Fla bs w1 ao ps := by
  obtain ⟨⟨h0, h1⟩, h2⟩ := h
  refine ⟨⟨h0, ?_⟩, h2⟩
  rcases h1 with h1 | ⟨g, off, e, hg, hc⟩
  · exact .inl h1
  · rcases h2 with h2 | h2
    · exact .inl h2
    · have hbl := hb.block g hg (h2 _ e).1
      exact .inr ⟨g, off, e, Nat.lt_of_lt_of_le hg hb.size, fun k hk => ⟨(World.cell?_of_block (w := w) hbl).trans (hc k hk).1, (World.cell?_of_block (w := w) hbl).trans (hc k hk).2⟩⟩
theorem Fla.more {bs bs' : List Nat} {w : World} {ao : Option Addr} {ps : List F.Pc} (h : Fla bs w ao ps) (hs : ∀ k, k < w.heap.size → k ∈ bs' → k ∈ bs) (hd : bs'.headD 0 ≤ bs.headD 0) : Fla bs' w ao ps := by
  obtain ⟨⟨h0, h1⟩, h2⟩ := h
  refine ⟨⟨h0, h1⟩, ?_⟩
  rcases h2 with h2 | h2
  · exact .inl h2
  · rcases h1 with h1 | ⟨g, off, e, hg, hc⟩
    · exact .inl h1
    · refine .inr fun a ha => ?_
      rw [e] at ha
      injection ha with ha
      subst ha
      exact ⟨fun hm => (h2 _ e).1 (hs _ hg hm), Nat.le_trans hd (h2 _ e).2⟩
theorem butL_below {bs : List Nat} {w w1 : World} (h : Below w.heap.size w w1) : ButL bs w w1 := ⟨h.os, h.tape, h.output, h.size, fun k hk _ => h.block k hk⟩
theorem butL_grown {bs : List Nat} {w w1 : World} {r : Option Nat} (h : w.grownBy w1 r) (hr : ∀ k, r = some k → k ∈ bs) : ButL bs w w1 := ⟨h.os, h.tape, h.output, h.size, fun k hk hn => h.block k hk (fun e => hn (hr k e.symm))⟩
theorem butL_set {bs : List Nat} (w : World) (b k : Nat) (v : Value) (hb : b ∈ bs) : ButL bs w (w.setCell ⟨b, k, none⟩ v) := ⟨rfl, rfl, rfl, by simp [World.setCell], fun i _ h1 => Below.heap_setCell w ⟨b, k, none⟩ v i (fun e => h1 (by simp only at e; rw [e]; exact hb))⟩
theorem fla_own {bs : List Nat} {w : World} {base : Nat} {v : Value} {ps : List F.Pc} (h : OwnR encC w base v ps) (hs : ∀ p ∈ ps, p.1.size ≤ maxLen) (hb : ∀ k ∈ bs, k < base) : ∃ ao cap, v = .slice ao ps.length cap ∧ Fla bs w ao ps := by
  obtain ⟨ao, cap, e, hf⟩ := fl_of h hs
  refine ⟨ao, cap, e, hf, ?_⟩
  by_cases hn : ps = []
  · exact .inl hn
  · refine .inr fun a ha => ?_
    subst e
    subst ha
    have h1 := (World.ownsRow.lt h a.block rfl).1
    refine ⟨fun hm => ?_, ?_⟩
    · have := hb _ hm
      omega
    · cases bs with
      | nil => exact Nat.zero_le _
      | cons k r =>
        have := hb k (List.mem_cons_self ..)
        simp only [List.headD_cons]
        omega
/-- What has been told, and what is still to come, are all. -/
def Tk (wl acc : List Wh) (left : Lit → Bool) : Prop := (whp acc ++ whp (wl.filter fun x => left (klP x.1))).Perm (whp wl)
theorem filter_one {wl : List Wh} {left : Lit → Bool} {y : Wh} (ho : Once wl) (hw : ∀ x ∈ wl, Wf3 x.1) (hy : y ∈ wl) (hl : left (klP y.1) = true) :
    (wl.filter fun x => left (klP x.1)).Perm (y :: wl.filter fun x => left (klP x.1) && !(klP x.1).sameKey (klP y.1)) := by
  induction wl with
  | nil => cases hy
  | cons x r ih =>
    obtain ⟨h1, h2⟩ := List.pairwise_cons.1 ho
    have hwr : ∀ z ∈ r, Wf3 z.1 := fun z hz => hw z (List.mem_cons_of_mem _ hz)
    rcases List.mem_cons.1 hy with rfl | hy
    · have hs : (klP y.1).sameKey (klP y.1) = true := WideAt.sameKey_self (lawP.key (keyP_some (hw y (List.mem_cons_self ..))))
      have e : (r.filter fun x => left (klP x.1) && !(klP x.1).sameKey (klP y.1)) = r.filter fun x => left (klP x.1) := by
        refine List.filter_congr fun z hz => ?_
        have : (klP z.1).sameKey (klP y.1) = false := sameKey_ne fun e => h1 z hz (klP_inj (hwr z hz) (hw y (List.mem_cons_self ..)) e).symm
        rw [this]; simp
      rw [List.filter_cons, List.filter_cons, hl, hs, e]
      simp
    · have hne : x.1 ≠ y.1 := h1 y hy
      have hs : (klP x.1).sameKey (klP y.1) = false := sameKey_ne fun e => hne (klP_inj (hw x (List.mem_cons_self ..)) (hwr y hy) e)
      have := ih h2 hwr hy
      rw [List.filter_cons, List.filter_cons, hs]
      cases left (klP x.1)
      · simpa using this
      · simp only [Bool.not_false, Bool.and_true, if_true]
        exact (this.cons x).trans (List.Perm.swap ..)
theorem tk_step {wl acc : List Wh} {left : Lit → Bool} {y : Wh} (h : Tk wl acc left) (ho : Once wl) (hw : ∀ x ∈ wl, Wf3 x.1) (hy : y ∈ wl) (hl : left (klP y.1) = true) {z : Wh} (hz : (z.1, z.2.2.2) = (y.1, y.2.2.2)) :
    Tk wl (acc ++ [z]) (fun x => left x && !x.sameKey (klP y.1)) := by
  unfold Tk at h ⊢
  refine List.Perm.trans ?_ h
  have h1 := (filter_one ho hw hy hl).map fun x : Wh => (x.1, x.2.2.2)
  have e : whp (acc ++ [z]) = whp acc ++ [(y.1, y.2.2.2)] := by simp only [whp, List.map_append, List.map_cons, List.map_nil, hz]
  rw [e, List.append_assoc]
  exact List.Perm.append_left _ h1.symm
theorem tk_end {wl acc : List Wh} {left : Lit → Bool} (h : Tk wl acc left) (hl : ∀ k, left k = false) : (whp acc).Perm (whp wl) := by
  unfold Tk at h
  have : (wl.filter fun x => left (klP x.1)) = [] := List.filter_eq_nil_iff.2 fun x _ => by rw [hl]; simp
  rw [this] at h
  simpa [whp] using h
theorem perm_rising {a b : Wls} (h : a.Perm b) (ha : a.Pairwise fun x y => pltB y.1 x.1 = false) (hb : Rising b) : a = b := by
  have hr : Rising a := by
    have hn : a.Pairwise fun x y => x.1 ≠ y.1 := (List.Perm.pairwise_iff (fun hxy => hxy.symm) h).2 (List.Pairwise.imp (fun hlt => plt_ne hlt) hb)
    exact List.Pairwise.imp₂ (fun x y h1 h2 => by
      rcases plt_total h2 with h3 | h3
      · exact h3
      · rw [h1] at h3; cases h3) ha hn
  exact List.Perm.eq_of_pairwise (fun x y _ _ h1 h2 => absurd h2 (by rw [plt_not h1]; decide)) hr hb h
theorem left_at {wl : List Wh} {D : DataW Value} (h : Reads D wl) {p : Plc} (hp : Wf3 p) (hh : has D (klP p) = true) : ∃ y ∈ wl, y.1 = p := by
  by_cases hn : ∃ y ∈ wl, y.1 = p
  · exact hn
  · have := h.none' p hp fun x hx e => hn ⟨x, hx, e⟩
    rw [this] at hh
    cases hh
theorem has_of {wl : List Wh} {D : DataW Value} (h : Reads D wl) {x : Wh} (hx : x ∈ wl) : has D (klP x.1) = true := has_true_of_atKey (h.at' x hx)
/-- A state whose lists lie from block n on. -/
structure SmHi (n : Nat) (t : Sm) : Prop where
  row : t.wl = [] ∨ ∀ a, t.aoW = some a → n ≤ a.block
  fl : ∀ x ∈ t.wl, x.2.2.2 = [] ∨ ∀ a, x.2.1 = some a → n ≤ a.block
  held : t.held = [] ∨ ∀ a, t.aoH = some a → n ≤ a.block
  touched : t.touched = [] ∨ ∀ a, t.aoT = some a → n ≤ a.block
theorem apart_of {α : Type} {n b m : Nat} {ps : List α} {ao : Option Addr} (h : ps = [] ∨ ∀ a, ao = some a → n ≤ a.block) (hb : b < n) (hm : m < n) : ps = [] ∨ ∀ a, ao = some a → a.block ≠ b ∧ a.block ≠ m :=
  h.imp id fun h a ha => by have := h a ha; exact ⟨by omega, by omega⟩
theorem SmIn.but {n b m : Nat} {w w1 : World} {t : Sm} (h : SmIn w t) (hi : SmHi n t) (hbut : But b m w w1) (hb : b < n) (hm : m < n) : SmIn w1 t := by
  refine ⟨?_, (Flx.but ⟨h.held, apart_of hi.held hb hm⟩ hbut).1, (Txx.but ⟨h.touched, apart_of hi.touched hb hm⟩ hbut).1⟩
  rcases h.wells with e | ⟨g, off, e, hc⟩
  · exact .inl e
  · rcases hi.row with e2 | hr
    · exact .inl e2
    · have hg := hr _ e
      refine .inr ⟨g, off, e, fun k hk => ?_⟩
      obtain ⟨h0, h1, h2, h3, h4, h5⟩ := hc k hk
      have hbl := hbut.block g h0 (by simp only at hg; omega) (by simp only at hg; omega)
      exact ⟨Nat.lt_of_lt_of_le h0 hbut.size, (World.cell?_of_block (w := w) hbl).trans h1, (World.cell?_of_block (w := w) hbl).trans h2, (World.cell?_of_block (w := w) hbl).trans h3, (World.cell?_of_block (w := w) hbl).trans h4, (Flx.but ⟨h5, apart_of (hi.fl _ (List.getElem_mem hk)) hb hm⟩ hbut).1⟩
theorem flxR_of {b m : Nat} {w : World} {base : Nat} {v : Value} {ps : List F.Pc} (h : OwnR encC w base v ps) (hs : ∀ p ∈ ps, p.1.size ≤ maxLen) (hb : b < base) (hm : m < base) : ∃ ao cap, v = .slice ao ps.length cap ∧ Flx b m w ao ps := by
  obtain ⟨ao, cap, e, hf⟩ := fl_of h hs
  refine ⟨ao, cap, e, hf, ?_⟩
  by_cases hn : ps = []
  · exact .inl hn
  · refine .inr fun a ha => ?_
    subst e
    subst ha
    have := (World.ownsRow.lt h a.block rfl).1
    omega
theorem but_set' (b m : Nat) (w : World) (k : Nat) (v : Value) : But b m w (w.setCell ⟨m, k, none⟩ v) := ⟨rfl, rfl, rfl, by simp [World.setCell], fun i _ _ h1 => Below.heap_setCell w ⟨m, k, none⟩ v i h1⟩
theorem grown_set (w : World) (b k : Nat) (v : Value) : w.grownBy (w.setCell ⟨b, k, none⟩ v) (some b) := ⟨rfl, rfl, rfl, by simp [World.setCell], fun i _ h1 => Below.heap_setCell w ⟨b, k, none⟩ v i (fun e => h1 (by simp only at e; rw [e]))⟩
theorem Fla.row {bs bs' : List Nat} {w w1 : World} {ao : Option Addr} {ps : List F.Pc} (h : Fla bs w ao ps) (hb : ButL bs w w1) (hs : ∀ k, k < w.heap.size → k ∈ bs' → k ∈ bs) (hd : bs'.headD 0 ≤ bs.headD 0) : Fla bs' w1 ao ps := ⟨(h.but hb).1, (h.more hs hd).2⟩
theorem whs_of {w : World} {ao : Option Addr} {l : List Wh} (h : RdR encW w ao l) (hf : ∀ x ∈ l, F.Fl w x.2.1 x.2.2.2) : Whs w ao l := by
  rcases h with h | ⟨b, off, e, hlt, hc⟩
  · exact .inl h
  · refine .inr ⟨b, off, e, fun k hk => ⟨hlt, ?_, ?_, ?_, ?_, hf _ (List.getElem_mem hk)⟩⟩
    · exact hc k hk 0 (by decide)
    · exact hc k hk 1 (by decide)
    · exact hc k hk 2 (by decide)
    · exact hc k hk 3 (by decide)
theorem RdR.but {α : Type} {c : Enc α} {b m : Nat} {w w1 : World} {ao : Option Addr} {l : List α} (h : RdR c w ao l) (ha : ∀ a, ao = some a → a.block ≠ b ∧ a.block ≠ m) (hb : But b m w w1) : RdR c w1 ao l := by
  rcases h with h | ⟨g, off, e, hlt, hc⟩
  · exact .inl h
  · obtain ⟨n1, n2⟩ := ha _ e
    have hbl := hb.block g hlt n1 n2
    exact .inr ⟨g, off, e, Nat.lt_of_lt_of_le hlt hb.size, fun k hk j hj => (World.cell?_of_block (w := w) hbl).trans (hc k hk j hj)⟩
theorem may_lens {l : List Sit} {s : Sta} (h : May l s) : s.held.length ≤ 100 ∧ s.touched.length ≤ 100 ∧ (∀ p ∈ s.held, p.1.size ≤ maxLen) := by
  cases ht : s.tip with
  | true =>
    obtain ⟨u1, u2, u3, u4⟩ := tip_parts h ht
    have := (mayHold_iff.1 u3).1
    exact ⟨(F.fref_in this).1, (mayTouch_iff.1 u4).1, F.fine_size this⟩
  | false =>
    have := h.take
    unfold mayTake at this
    rw [if_neg (by rw [ht]; decide)] at this
    simp only [Bool.and_eq_true, decide_eq_true_eq] at this
    rw [this.2.1, this.2.2]
    exact ⟨Nat.zero_le _, Nat.zero_le _, fun p hp => by cases hp⟩
abbrev z7 : List Value := [.slice none 0 0, .bool false, .slice none 0 0, .slice none 0 0, .int .i64 0, .int .i64 0, .int .i64 0]
abbrev s7 (v : Value) (s : Sta) (vh vt : Value) : List Value := [v, .bool s.tip, vh, vt, .int .i64 s.used, .int .i64 s.heat, .int .i64 s.clock]
abbrev avo (n r : Nat) (v : Value) : List Nat := [n, n + 1, r, v.ownBlock.getD n]
/-- What holds while the wells are told. -/
structure Ti (w wr : World) (r : Nat) (wl : List Wh) (D : DataW Value) (s : Sta) (vh vt : Value) (left : Lit → Bool) (acc : List Wh) (v : Value) : Prop where
  sub : ∀ kl, left kl = true → has D kl = true
  tk : Tk wl acc left
  own : OwnR encW wr (r + 1) v acc
  k0 : Bk w.heap.size z7 wr
  k1 : Bk (w.heap.size + 1) (s7 v s vh vt) wr
  fl : ∀ x ∈ acc, Fla (avo w.heap.size r v) wr x.2.1 x.2.2.2
  below : Below w.heap.size w wr
  lt : r < wr.heap.size
def FC (bs : List Nat) (ps : List F.Pc) (v : Value) (w : World) : Prop := ∃ ao cap, v = .slice ao ps.length cap ∧ Fla bs w ao ps
theorem FC.later {bs : List Nat} {ps : List F.Pc} {v : Value} {w w1 : World} (h : FC bs ps v w) (hb : Below w.heap.size w w1) : FC bs ps v w1 := by
  obtain ⟨ao, cap, e, hf⟩ := h
  exact ⟨ao, cap, e, hf.but (butL_below hb)⟩
def FD (bs : List Nat) (p : Plc) (ps : List F.Pc) (v : Value) (w : World) : Prop := ∃ ao cap, v = .agg #[.int .i64 p.1, .int .i64 p.2.1, .int .i64 p.2.2, .slice ao ps.length cap] ∧ Fla bs w ao ps
theorem FD.later {bs : List Nat} {p : Plc} {ps : List F.Pc} {v : Value} {w w1 : World} (h : FD bs p ps v w) (hb : Below w.heap.size w w1) : FD bs p ps v w1 := by
  obtain ⟨ao, cap, e, hf⟩ := h
  exact ⟨ao, cap, e, hf.but (butL_below hb)⟩
def FE (bs : List Nat) (p : Plc) (ps : List F.Pc) (v : Value) (w : World) : Prop := ∃ g ao cap, v = .slice (some ⟨g, 0, none⟩) 1 1 ∧ Bk g [.int .i64 p.1, .int .i64 p.2.1, .int .i64 p.2.2, .slice ao ps.length cap] w ∧ Fla bs w ao ps
theorem FE.later {bs : List Nat} {p : Plc} {ps : List F.Pc} {v : Value} {w w1 : World} (h : FE bs p ps v w) (hb : Below w.heap.size w w1) : FE bs p ps v w1 := by
  obtain ⟨g, ao, cap, e, hk, hf⟩ := h
  exact ⟨g, ao, cap, e, hk.later hb, hf.but (butL_below hb)⟩
def tdV (S : Nat) (aoV : Option Addr) (nV capV : Nat) (y : Wh) (bs : List Nat) (d : Nat) (v : Value) (w : World) : Prop :=
  match d with
  | 21 => v = .pointer (some ⟨S, 0, none⟩)
  | 22 => v = .slice aoV nV capV
  | 23 => v = .agg #[.int .i64 y.1.1, .int .i64 y.1.2.1, .int .i64 y.1.2.2]
  | 24 => v = .slice y.2.1 y.2.2.2.length y.2.2.1
  | 25 => FC bs y.2.2.2 v w
  | 26 => FD bs y.1 y.2.2.2 v w
  | 27 => FE bs y.1 y.2.2.2 v w
  | _ => True
theorem tdV_mono (S : Nat) (aoV : Option Addr) (nV capV : Nat) (y : Wh) (bs : List Nat) (d : Nat) (v : Value) (w w' : World) (h : tdV S aoV nV capV y bs d v w) (hb : Below w.heap.size w w') : tdV S aoV nV capV y bs d v w' := by
  unfold tdV at h ⊢
  split <;> simp only [] at h <;> first | exact h | exact h.later hb
set_option maxHeartbeats 6400000 in
set_option maxRecDepth 100000 in
theorem told_any (wB w : World) (ao : Option Addr) (cap : Nat) (l : List Sit) (b m md : Nat) (s : Sta) (hB : Bn wB w ao cap l b m md s) :
    Calls Tryz.prog 22 #[ptr b] w fun e w' => ∃ t : Sm, e = .returned (smv t) ∧ t.st = s ∧ SmIn w' t ∧ SmHi w.heap.size t ∧ Below w.heap.size w w' := by
  have HBN : Hid (Bn wB w ao cap l b m md s) := hB
  clear hB
  obtain ⟨cw, aoH, capH, aoT, capT, K, hh, ht⟩ := HBN.out.bk
  have KB : Hid (Bk b (bcs ao cap l md m cw s aoH capH aoT capT) w) := K
  have HH : Hid (F.Fl w aoH s.held) := hh.1
  have HT : Hid (Tx w aoT s.touched) := ht.1
  have hbw := KB.out.1
  obtain ⟨wl, hwm, hwl, hfl⟩ := HBN.out.wells
  have HON : Hid (Once wl ∧ wl.length ≤ 4608) := HBN.out.once hwl
  have HLN : Hid (s.held.length ≤ 100 ∧ s.touched.length ≤ 100 ∧ (∀ p ∈ s.held, p.1.size ≤ maxLen)) := may_lens HBN.out.may
  have HWL : Hid (whp wl = s.wells) := hwl
  have HFL : Hid (∀ x ∈ wl, F.Fl w x.2.1 x.2.2.2 ∧ F.fref x.2.2.2 = 0) := fun x hx => ⟨(hfl x hx).1, (mayHold_iff.1 (HBN.out.may.wells (x.1, x.2.2.2) (by rw [← hwl]; exact List.mem_map.2 ⟨x, hx, rfl⟩)).2.2).1⟩
  have HML : Hid (m < w.heap.size) := hwm.lt
  obtain ⟨D, hown, hrd⟩ := hwm
  have HRD : Hid (Reads D wl) := hrd
  obtain ⟨wA, hwA⟩ : ∃ wA, wA = (w.alloc (.cells z7.toArray 49)).alloc (.cells (s7 (.slice none 0 0) s (.slice aoH s.held.length capH) (.slice aoT s.touched.length capT)).toArray 49) := ⟨_, rfl⟩
  have hbA : Below w.heap.size w wA := by rw [hwA]; exact ((Below.refl _ _).alloc (Nat.le_refl _) _).alloc (by simp) _
  have HOW : Hid (wA.ownsMap Tryz.prog 57 RV m (Maps.size D) D) := by
    obtain ⟨es, clock, h1, h2⟩ := hown
    exact ⟨es, clock, (hbA.block m HML.out).trans h1, h2⟩
  have HKA : Hid (Bk w.heap.size z7 wA ∧ Bk (w.heap.size + 1) (s7 (.slice none 0 0) s (.slice aoH s.held.length capH) (.slice aoT s.touched.length capT)) wA) := by
    refine ⟨?_, ?_⟩
    · rw [hwA]; exact (Bk.new w z7 49 w.heap.size rfl).later ((Below.refl _ _).alloc (Nat.le_refl _) _)
    · rw [hwA]; exact Bk.new _ _ 49 (w.heap.size + 1) (by simp)
  have HAS : Hid (wA.heap.size = w.heap.size + 2) := by show _ = _; rw [hwA]; simp
  have HBA : Hid (Below w.heap.size w wA) := hbA
  have HWA : Hid (wA = _) := hwA
  clear K hh ht hwl hfl hown hrd hwA hbA
  have k0 := (KB.out).c 0 rfl
  have k1 := (KB.out).c 1 rfl
  have k2 := (KB.out).c 2 rfl
  have k3 := (KB.out).c 3 rfl
  have k4 := (KB.out).c 4 rfl
  have k5 := (KB.out).c 5 rfl
  have k6 := (KB.out).c 6 rfl
  have k7 := (KB.out).c 7 rfl
  have k8 := (KB.out).c 8 rfl
  have k9 := (KB.out).c 9 rfl
  have k10 := (KB.out).c 10 rfl
  have k11 := (KB.out).c 11 rfl
  go_enter Tryz.func22, Tryz.ntmps22
  go_wp2_with (first
    | (at_range; rw [← HWA.out]; refine wpList_range_own _ rfl _ 128 rfl 57 46 lawP Tryz.underlying128 RV m (Maps.size D) D rfl HOW.out ?_; intro w0 hrg0 hg0 hs0)
    | go_in)
  go_frame
  have HTI : Hid (Ti w w0 wA.heap.size wl D s (.slice aoH s.held.length capH) (.slice aoT s.touched.length capT) (has D) [] (.slice none 0 0)) := by
    have hb0 : Below wA.heap.size wA w0 := ⟨hg0.os, hg0.tape, hg0.output, hg0.size, fun k hk => hg0.block k hk (by simp)⟩
    refine ⟨fun _ h => h, ?_, OwnR.nil _ _ _, HKA.out.1.later hb0, HKA.out.2.later hb0, (fun x hx => by cases hx), HBA.out.trans (hb0.mono HBA.out.size), by rw [hs0]; omega⟩
    unfold Tk
    have : (wl.filter fun x => has D (klP x.1)) = wl := List.filter_eq_self.2 fun x hx => has_of HRD.out hx
    rw [this]
    exact List.Perm.refl _
  have HRG0 : Hid (w0.ranges Tryz.prog 57 RV m wA.heap.size (Maps.size D) D (has D) (Maps.size D)) := hrg0
  clear hrg0 hg0 hs0 k0 k1 k2 k3 k4 k5 k6 k7 k8 k9 k10 k11
  go_loopw [16] (fun _ wr => ∃ (left : Lit → Bool) (cnt : Nat) (acc : List Wh) (v : Value), wr.ranges Tryz.prog 57 RV m wA.heap.size (Maps.size D) D left cnt ∧ Ti w wr wA.heap.size wl D s (.slice aoH s.held.length capH) (.slice aoT s.touched.length capT) left acc v) (fun _ wr => wr.rangeLeft m wA.heap.size)
  case atStart => exact ⟨_, _, _, _, HRG0.out, HTI.out⟩
  case round =>
    obtain ⟨left, cnt, acc, v, hrg, hti⟩ := hrel
    have HI : Hid (Ti w wr wA.heap.size wl D s (.slice aoH s.held.length capH) (.slice aoT s.touched.length capT) left acc v) := hti
    have HRG : Hid (wr.ranges Tryz.prog 57 RV m wA.heap.size (Maps.size D) D left cnt) := hrg
    obtain ⟨aoV, capV, hvv⟩ := hti.own.shape
    subst hvv
    clear hti
    go_wp2_with (first
      | (at_next; refine wpList_next_ranges _ rfl _ rfl 57 lawP RV plv (fun v : Value => v) (fun key kl h => by obtain ⟨p, hp, _⟩ := keyP_inv h; exact ⟨p, hp⟩) (fun v _ _ => ⟨v, rfl⟩) m wA.heap.size (Maps.size D) D left cnt rfl HRG.out ?_ ?_)
      | go_in)
    · intro _ hl0
      clear hrg
      have HPE : Hid ((whp acc).Perm (whp wl)) := tk_end HI.out.tk hl0
      have hln : acc.length ≤ 4608 := by
        have := HPE.out.length_eq
        rw [whp_length, whp_length] at this
        have := HON.out.2
        omega
      have HO : Hid (OwnR encW wr (wA.heap.size + 1) (.slice aoV acc.length capV) acc) := HI.out.own
      have K1 : Hid (Bk (w.heap.size + 1) (s7 (.slice aoV acc.length capV) s (.slice aoH s.held.length capH) (.slice aoT s.touched.length capT)) wr) := HI.out.k1
      clear hl0
      have q0 := (K1.out).c 0 rfl
      have q1 := (K1.out).c 1 rfl
      have q2 := (K1.out).c 2 rfl
      have q3 := (K1.out).c 3 rfl
      have q4 := (K1.out).c 4 rfl
      have q5 := (K1.out).c 5 rfl
      have q6 := (K1.out).c 6 rfl
      go_wp2_with fail
      refine (sortW_any (wA.heap.size + 1) _ acc wr HO.out hln).mono ?_
      rintro e w2 ⟨rfl, ⟨l', ao2, cap2, hp, hs, hv, hrd⟩, hg⟩
      injection hv with hv1 hv2 hv3
      subst hv1 hv3
      have hrow : ∀ k, (Value.slice aoV acc.length capV).ownBlock = some k → wA.heap.size + 1 ≤ k := fun k hk => (World.ownsRow.lt HO.out k hk).1
      have h12 : w.heap.size + 2 = wA.heap.size := HAS.out.symm
      have KR2 : Hid (Bk w.heap.size z7 w2) := HI.out.k0.same hg.size (hg.block _ HI.out.k0.1 (fun e => by have := hrow _ e.symm; omega))
      have K2 : Hid (Bk (w.heap.size + 1) (s7 (.slice aoV acc.length capV) s (.slice aoH s.held.length capH) (.slice aoT s.touched.length capT)) w2) := K1.out.same hg.size (hg.block _ K1.out.1 (fun e => by have := hrow _ e.symm; omega))
      have HB2 : Hid (Below w.heap.size w w2) := HI.out.below.grown hg HI.out.below.size (fun k hk => by have := hrow k hk; omega)
      have HF2 : Hid (∀ x ∈ l', Flx w.heap.size (w.heap.size + 1) w2 x.2.1 x.2.2.2) := fun x hx => by
        have h1 := (HI.out.fl x (hp.mem_iff.1 hx)).but (butL_grown hg (fun k hk => by show k ∈ [_, _, _, Option.getD _ _]; rw [hk]; simp))
        exact ⟨h1.1, h1.2.imp id fun h a ha => ⟨fun e => (h a ha).1 (by rw [e]; simp), fun e => (h a ha).1 (by rw [e]; simp)⟩⟩
      have HHI : Hid (∀ x ∈ l', x.2.2.2 = [] ∨ ∀ a, x.2.1 = some a → w.heap.size ≤ a.block) := fun x hx => (HI.out.fl x (hp.mem_iff.1 hx)).2.imp id fun h a ha => (h a ha).2
      have HR2 : Hid (RdR encW w2 aoV l') := hrd
      have HAP : Hid (∀ a, aoV = some a → a.block ≠ w.heap.size ∧ a.block ≠ w.heap.size + 1) := fun a ha => by
        have := hrow a.block (by rw [ha]; rfl)
        exact ⟨by omega, by omega⟩
      have HAW : Hid (∀ a, aoV = some a → w.heap.size ≤ a.block) := fun a ha => by
        have := hrow a.block (by rw [ha]; rfl)
        omega
      have HLL : Hid (acc.length = l'.length) := hv2
      have HST : Hid (whp l' = s.wells) := by
        show _ = _
        rw [← HWL.out]
        refine perm_rising ((hp.map _).trans HPE.out) ?_ (by rw [HWL.out]; exact HBN.out.may.rising)
        unfold whp
        rw [List.pairwise_map]
        exact hs
      clear hp hs hv2 hrd hg hrow h12 q0 q1 q2 q3 q4 q5 q6
      have q0 := (K2.out).c 0 rfl
      have q1 := (K2.out).c 1 rfl
      have q2 := (K2.out).c 2 rfl
      have q3 := (K2.out).c 3 rfl
      have q4 := (K2.out).c 4 rfl
      have q5 := (K2.out).c 5 rfl
      have q6 := (K2.out).c 6 rfl
      go_wp2_with fail
      refine (cloneC_any aoH capH s.held w2 (rd_fl (HH.out.next HB2.out)) (by have := HLN.out.1; omega)).mono ?_
      rintro e w3 ⟨_, rfl, ho, hb⟩
      obtain ⟨aoH2, capH2, rfl, hh2⟩ := flxR_of (b := w.heap.size) (m := w.heap.size + 1) ho HLN.out.2.2 KR2.out.1 K2.out.1
      have HHH : Hid (s.held = [] ∨ ∀ a, aoH2 = some a → w.heap.size ≤ a.block) := .inr fun a ha => by
        have h1 := (World.ownsRow.lt ho a.block (by rw [ha]; rfl)).1
        have h2 := HB2.out.size
        omega
      obtain ⟨w4, hw4⟩ : ∃ w4, w4 = w3.setCell ⟨w.heap.size + 1, 2, none⟩ (.slice aoH2 s.held.length capH2) := ⟨_, rfl⟩
      have hbu : But w.heap.size (w.heap.size + 1) w2 w4 := by rw [hw4]; exact (but_below hb).trans ⟨rfl, rfl, rfl, by simp [World.setCell], fun i _ _ h1 => Below.heap_setCell w3 ⟨w.heap.size + 1, 2, none⟩ _ i h1⟩
      have hbu3 : But w.heap.size (w.heap.size + 1) w3 w4 := by rw [hw4]; exact ⟨rfl, rfl, rfl, by simp [World.setCell], fun i _ _ h1 => Below.heap_setCell w3 ⟨w.heap.size + 1, 2, none⟩ _ i h1⟩
      have HH4 : Hid (Flx w.heap.size (w.heap.size + 1) w4 aoH2 s.held) := hh2.but hbu3
      have KR4 : Hid (Bk w.heap.size z7 w4) := by show Bk _ _ _; rw [hw4]; exact (KR2.out.later hb).other (by omega) 2 _
      have K4 : Hid (Bk (w.heap.size + 1) (s7 (.slice aoV acc.length capV) s (.slice aoH2 s.held.length capH2) (.slice aoT s.touched.length capT)) w4) := by show Bk _ _ _; rw [hw4]; exact (K2.out.later hb).put 2 _
      have K3 : Hid (Bk (w.heap.size + 1) (s7 (.slice aoV acc.length capV) s (.slice aoH s.held.length capH) (.slice aoT s.touched.length capT)) w3) := K2.out.later hb
      have HB4 : Hid (Below w.heap.size w w4) := by show Below _ _ _; rw [hw4]; exact (HB2.out.trans (hb.mono HB2.out.size)).setCell (by simp) _
      have HF4 : Hid (∀ x ∈ l', Flx w.heap.size (w.heap.size + 1) w4 x.2.1 x.2.2.2) := fun x hx => (HF2.out x hx).but hbu
      have HR4 : Hid (RdR encW w4 aoV l') := HR2.out.but HAP.out hbu
      have HW4 : Hid (w4 = w3.setCell ⟨w.heap.size + 1, 2, none⟩ (.slice aoH2 s.held.length capH2)) := hw4
      clear ho hb hh2 hbu hbu3 hw4 q0 q1 q2 q3 q4 q5 q6
      have lt3 := K3.out.1
      have q0 := (K3.out).c 0 rfl
      have qf0 := (K3.out).f 0 rfl
      have q1 := (K3.out).c 1 rfl
      have qf1 := (K3.out).f 1 rfl
      have q2 := (K3.out).c 2 rfl
      have qf2 := (K3.out).f 2 rfl
      have q3 := (K3.out).c 3 rfl
      have qf3 := (K3.out).f 3 rfl
      have q4 := (K3.out).c 4 rfl
      have qf4 := (K3.out).f 4 rfl
      have q5 := (K3.out).c 5 rfl
      have qf5 := (K3.out).f 5 rfl
      have q6 := (K3.out).c 6 rfl
      have qf6 := (K3.out).f 6 rfl
      go_wp2_with fail
      clear q0 q1 q2 q3 q4 q5 q6 qf0 qf1 qf2 qf3 qf4 qf5 qf6
      rw [← HW4.out]
      refine (cloneT_any aoT capT s.touched w4 (rd_tx (HT.out.next HB4.out)) (by have := HLN.out.2.1; omega)).mono ?_
      rintro e w5 ⟨_, rfl, ho, hb⟩
      obtain ⟨aoT2, capT2, rfl, ht2⟩ := txx_of (b := w.heap.size) (m := w.heap.size + 1) ho HT.out.1 KR4.out.1 K4.out.1
      have HHT : Hid (s.touched = [] ∨ ∀ a, aoT2 = some a → w.heap.size ≤ a.block) := .inr fun a ha => by
        have h1 := (World.ownsRow.lt ho a.block (by rw [ha]; rfl)).1
        have h2 := HB4.out.size
        omega
      have HT5 : Hid (Txx w.heap.size (w.heap.size + 1) w5 aoT2 s.touched) := ht2
      have HH5 : Hid (Flx w.heap.size (w.heap.size + 1) w5 aoH2 s.held) := HH4.out.next hb
      have KR5 : Hid (Bk w.heap.size z7 w5) := KR4.out.later hb
      have K5 : Hid (Bk (w.heap.size + 1) (s7 (.slice aoV acc.length capV) s (.slice aoH2 s.held.length capH2) (.slice aoT s.touched.length capT)) w5) := K4.out.later hb
      have HB5 : Hid (Below w.heap.size w w5) := HB4.out.trans (hb.mono HB4.out.size)
      have HF5 : Hid (∀ x ∈ l', Flx w.heap.size (w.heap.size + 1) w5 x.2.1 x.2.2.2) := fun x hx => (HF4.out x hx).next hb
      have HR5 : Hid (RdR encW w5 aoV l') := HR4.out.next goodW hb
      clear ho hb ht2
      have lt5 := K5.out.1
      have lt6 := KR5.out.1
      have ne1 : w.heap.size ≠ w.heap.size + 1 := by omega
      have ne2 : w.heap.size + 1 ≠ w.heap.size := by omega
      have q0 := (K5.out).c 0 rfl
      have qf0 := (K5.out).f 0 rfl
      have q1 := (K5.out).c 1 rfl
      have qf1 := (K5.out).f 1 rfl
      have q2 := (K5.out).c 2 rfl
      have qf2 := (K5.out).f 2 rfl
      have q3 := (K5.out).c 3 rfl
      have qf3 := (K5.out).f 3 rfl
      have q4 := (K5.out).c 4 rfl
      have qf4 := (K5.out).f 4 rfl
      have q5 := (K5.out).c 5 rfl
      have qf5 := (K5.out).f 5 rfl
      have q6 := (K5.out).c 6 rfl
      have qf6 := (K5.out).f 6 rfl
      have p0 := (KR5.out).c 0 rfl
      have pf0 := (KR5.out).f 0 rfl
      have p1 := (KR5.out).c 1 rfl
      have pf1 := (KR5.out).f 1 rfl
      have p2 := (KR5.out).c 2 rfl
      have pf2 := (KR5.out).f 2 rfl
      have p3 := (KR5.out).c 3 rfl
      have pf3 := (KR5.out).f 3 rfl
      have p4 := (KR5.out).c 4 rfl
      have pf4 := (KR5.out).f 4 rfl
      have p5 := (KR5.out).c 5 rfl
      have pf5 := (KR5.out).f 5 rfl
      have p6 := (KR5.out).c 6 rfl
      have pf6 := (KR5.out).f 6 rfl
      go_wp2
      have hch : But w.heap.size (w.heap.size + 1) w5 ((((((((w5.setCell ⟨w.heap.size + 1, 3, none⟩ (.slice aoT2 s.touched.length capT2)).setCell ⟨w.heap.size, 0, none⟩ (.slice aoV acc.length capV)).setCell ⟨w.heap.size, 1, none⟩ (.bool s.tip)).setCell ⟨w.heap.size, 2, none⟩ (.slice aoH2 s.held.length capH2)).setCell ⟨w.heap.size, 3, none⟩ (.slice aoT2 s.touched.length capT2)).setCell ⟨w.heap.size, 4, none⟩ (.int .i64 s.used)).setCell ⟨w.heap.size, 5, none⟩ (.int .i64 s.heat)).setCell ⟨w.heap.size, 6, none⟩ (.int .i64 s.clock)) :=
        (((((((but_set' _ _ w5 3 _).trans (but_set _ _ _ 0 _)).trans (but_set _ _ _ 1 _)).trans (but_set _ _ _ 2 _)).trans (but_set _ _ _ 3 _)).trans (but_set _ _ _ 4 _)).trans (but_set _ _ _ 5 _)).trans (but_set _ _ _ 6 _)
      refine bodyPost_ret (v := .agg #[.slice aoV acc.length capV, .bool s.tip, .slice aoH2 s.held.length capH2, .slice aoT2 s.touched.length capT2, .int .i64 s.used, .int .i64 s.heat, .int .i64 s.clock]) (by simp [results, Tryz.results22, go_sem, p0, p1, p2, p3, p4, p5, p6]) rfl ⟨⟨aoV, capV, l', s.tip, aoH2, capH2, s.held, aoT2, capT2, s.touched, s.used, s.heat, s.clock⟩, ?_, ?_, ?_, ?_, ?_⟩
      · simp only [smv, smc]
        rw [HLL.out]
      · unfold Sm.st
        simp only
        rw [HST.out]
      · exact ⟨whs_of (HR5.out.but HAP.out hch) fun x hx => ((HF5.out x hx).but hch).1, (HH5.out.but hch).1, (HT5.out.but hch).1⟩
      · exact ⟨.inr HAW.out, HHI.out, HHH.out, HHT.out⟩
      · exact (((((((HB5.out.setCell (by simp) _).setCell (by simp) _).setCell (by simp) _).setCell (by simp) _).setCell (by simp) _).setCell (by simp) _).setCell (by simp) _).setCell (by simp) _
    · intro x1 x2 x3 c kl yd yp w1 cnt1 hkey hlk hv hat hrg1 hlt hg1 hs1 hen
      obtain ⟨x', hxx, hwf⟩ := keyP_inv (v := plv (x1, x2, x3)) hkey
      obtain rfl : (x1, x2, x3) = x' := by
        simp only [plv] at hxx
        injection hxx with hxx
        simp at hxx
        obtain ⟨a1, a2, a3⟩ := hxx
        exact Prod.ext a1 (Prod.ext a2 a3)
      obtain rfl : klP (x1, x2, x3) = kl := by
        have := keyP_some hwf
        rw [show keyOf Tryz.prog 57 (plv (x1, x2, x3)) = some kl from hkey] at this
        injection this with this
        exact this.symm
      obtain ⟨y, hy, hyx⟩ := left_at HRD.out hwf (HI.out.sub _ hlk)
      obtain ⟨rfl, rfl, rfl⟩ : x1 = y.1.1 ∧ x2 = y.1.2.1 ∧ x3 = y.1.2.2 := by rw [hyx]; exact ⟨rfl, rfl, rfl⟩
      clear hyx
      obtain rfl : c = hdv y.2 := by
        have h1 := HRD.out.at' y hy .nil
        have h2 := hat .nil
        rw [show D.atKey (klP y.1) .nil = yd from h2] at h1
        simp only [RV, Option.some.injEq, Prod.mk.injEq] at hv
        rw [← hv.1] at h1
        injection h1
      have HEN : Hid (_) := hen
      have hit : wA.heap.size < wr.heap.size := HI.out.lt
      have h12 : w.heap.size + 2 = wA.heap.size := HAS.out.symm
      have hrow : ∀ k, (Value.slice aoV acc.length capV).ownBlock = some k → wA.heap.size + 1 ≤ k ∧ k < wr.heap.size := fun k hk => World.ownsRow.lt HI.out.own k hk
      have hbu1 : ButL (avo w.heap.size wA.heap.size (.slice aoV acc.length capV)) wr w1 := butL_grown hg1 (fun k hk => by injection hk with hk; rw [← hk]; simp)
      have HO1 : Hid (OwnR encW w1 (wA.heap.size + 1) (.slice aoV acc.length capV) acc) := HI.out.own.kept hg1 (.inr fun e => by have := hrow _ e; omega)
      have KR1 : Hid (Bk w.heap.size z7 w1) := HI.out.k0.same hg1.size (hg1.block _ HI.out.k0.1 (by simp; omega))
      have KS1 : Hid (Bk (w.heap.size + 1) (s7 (.slice aoV acc.length capV) s (.slice aoH s.held.length capH) (.slice aoT s.touched.length capT)) w1) := HI.out.k1.same hg1.size (hg1.block _ HI.out.k1.1 (by simp; omega))
      have HF1 : Hid (∀ x ∈ acc, Fla (avo w.heap.size wA.heap.size (.slice aoV acc.length capV)) w1 x.2.1 x.2.2.2) := fun x hx => (HI.out.fl x hx).but hbu1
      have HB1 : Hid (Below w.heap.size w w1) := HI.out.below.grown hg1 HI.out.below.size (fun k hk => by injection hk with hk; omega)
      have HTS : Hid (∀ z : Wh, (z.1, z.2.2.2) = (y.1, y.2.2.2) → Tk wl (acc ++ [z]) (fun x => left x && !x.sameKey (klP y.1))) := fun z hz => tk_step HI.out.tk HON.out.1 HRD.out.wf hy hlk hz
      have HSU : Hid (∀ kl, (left kl && !kl.sameKey (klP y.1)) = true → has D kl = true) := fun kl h => HI.out.sub kl (by simp at h; exact h.1)
      have HRG1 : Hid (w1.ranges Tryz.prog 57 RV m wA.heap.size (Maps.size D) D (fun x => left x && !x.sameKey (klP y.1)) cnt1) := hrg1
      have HLT : Hid (cnt1 < cnt) := hlt
      have hac : acc.length ≤ 4608 := by
        have := HI.out.tk.length_eq
        rw [List.length_append, whp_length, whp_length, whp_length] at this
        have := HON.out.2
        omega
      have HFY : Hid (F.Fl w y.2.1 y.2.2.2 ∧ F.fref y.2.2.2 = 0) := HFL.out y hy
      have HIS : Hid (wA.heap.size < w1.heap.size) := by show _ < _; rw [hs1]; exact hit
      have HRO : Hid (∀ k, (Value.slice aoV acc.length capV).ownBlock = some k → wA.heap.size + 1 ≤ k) := fun k hk => (hrow k hk).1
      clear hkey hlk hv hat hrg1 hlt hg1 hs1 hen hxx hwf hy hrow hbu1 hrg hit
      have hen := HEN
      unfold Hid at hen
      obtain ⟨w2, hw2⟩ : ∃ w2, w2 = w1.alloc (pobj y.1) := ⟨_, rfl⟩
      have b2 : Below w1.heap.size w1 w2 := by rw [hw2]; exact (Below.refl _ _).alloc (Nat.le_refl _) _
      have KP : Hid (Bk w1.heap.size (pcl y.1) w2) := by show Bk _ _ _; rw [hw2]; exact Bk.new w1 (pcl y.1) 57 w1.heap.size rfl
      have KS2 : Hid (Bk (w.heap.size + 1) (s7 (.slice aoV acc.length capV) s (.slice aoH s.held.length capH) (.slice aoT s.touched.length capT)) w2) := KS1.out.later b2
      have HB2 : Hid (Below w1.heap.size w1 w2) := b2
      have HW2 : Hid (w2 = w1.alloc (pobj y.1)) := hw2
      have HCL : Hid (∀ W, Below w2.heap.size w2 W → Calls Tryz.prog 53 #[.slice y.2.1 y.2.2.2.length y.2.2.1] W fun e w' => ∃ v, e = .returned v ∧ FC (avo w.heap.size wA.heap.size (.slice aoV acc.length capV)) y.2.2.2 v w' ∧ Below W.heap.size W w') := fun W hW => by
        have hw : Below w.heap.size w W := (HB1.out.trans (HB2.out.mono HB1.out.size)).trans (hW.mono (Nat.le_trans HB1.out.size HB2.out.size))
        refine (cloneC_any y.2.1 y.2.2.1 y.2.2.2 W (rd_fl (HFY.out.1.next hw)) (by have := (F.fref_in HFY.out.2).1; omega)).mono ?_
        rintro e w' ⟨v, rfl, ho, hb⟩
        refine ⟨v, rfl, fla_own ho (F.fine_size HFY.out.2) ?_, hb⟩
        intro k hk
        have h1 := HIS.out
        have h2 := HB2.out.size
        have h3 := hW.size
        have h4 := KS1.out.1
        simp only [avo, List.mem_cons, List.not_mem_nil, or_false] at hk
        rcases hk with rfl | rfl | rfl | rfl
        · omega
        · omega
        · omega
        · cases e : (Value.slice aoV acc.length capV).ownBlock with
          | none => simp only [Option.getD_none]; omega
          | some g => simp only [Option.getD_some]; have := (World.ownsRow.lt HO1.out g e).2; omega
      clear b2 hw2
      generalize hn : acc.length = nV at *
      have HN : Hid (acc.length = nV) := hn
      clear hn
      go_wp2_with fail
      rw [← HW2.out]
      refine region_seq 7 [false, false, false, false, false, false, false, false, false, false, false, false, false, false, false, false, false, false, false, false, false, true, true, true, true, true, true, true, false, false, false, false, false, false, false, false, false, false, false, false, false, false]
        [(21, [], none), (22, [21], none), (23, [], none), (24, [], none), (25, [24], none), (26, [23, 25], none), (27, [26], none)]
        (tdV (w.heap.size + 1) aoV nV capV y (avo w.heap.size wA.heap.size (.slice aoV nV capV))) (by kernel_rfl) (by kernel_rfl) (by kernel_rfl) (by kernel_rfl) (by kernel_rfl) (by decide) (tdV_mono (w.heap.size + 1) aoV nV capV y (avo w.heap.size wA.heap.size (.slice aoV nV capV))) ?_ ?_
      · refine ⟨?_, ?_, ?_, ?_, ?_, ?_, ?_, trivial⟩
        · intro f wA hb _ K hK
          simp only [over, overL, Nat.reduceAdd]
          go_simp
          exact hK _ _ ⟨_, rfl, by simp only [over, overL, Nat.reduceAdd]; rfl, Below.refl _ _⟩
        · intro f wA hb ⟨h21, _⟩ K hK
          replace h21 : f 21 = _ := h21
          have q0 := (KS2.out.later hb).c 0 rfl
          simp only [over, overL, Nat.reduceAdd, h21]
          go_simp
          exact hK _ _ ⟨_, rfl, by simp only [over, overL, Nat.reduceAdd, h21]; rfl, Below.refl _ _⟩
        · intro f wA hb _ K hK
          have q0 := (KP.out.later hb).c 0 rfl
          have q1 := (KP.out.later hb).c 1 rfl
          have q2 := (KP.out.later hb).c 2 rfl
          simp only [over, overL, Nat.reduceAdd]
          go_simp
          exact hK _ _ ⟨_, rfl, by simp only [over, overL, Nat.reduceAdd]; rfl, Below.refl _ _⟩
        · intro f wA hb _ K hK
          simp only [over, overL, Nat.reduceAdd]
          go_simp
          exact hK _ _ ⟨_, rfl, by simp only [over, overL, Nat.reduceAdd]; rfl, Below.refl _ _⟩
        · intro f wA hb ⟨h24, _⟩ K hK
          replace h24 : f 24 = _ := h24
          simp only [over, overL, Nat.reduceAdd, h24]
          go_simp
          refine ((HCL.out wA hb).mono) ?_
          rintro e w2 ⟨x, rfl, ht, hb2⟩
          exact hK _ _ ⟨_, ht, by simp only [over, overL, Nat.reduceAdd, h24]; rfl, hb2⟩
        · intro f wA hb ⟨h23, h25, _⟩ K hK
          replace h23 : f 23 = _ := h23
          obtain ⟨aoN, capN, h25, hx⟩ := h25
          simp only [over, overL, Nat.reduceAdd, h23, h25]
          go_simp
          exact hK _ _ ⟨_, ⟨aoN, capN, rfl, hx⟩, by simp only [over, overL, Nat.reduceAdd, h23, h25]; rfl, Below.refl _ _⟩
        · intro f wA hb ⟨h26, _⟩ K hK
          obtain ⟨aoN, capN, h26, hx⟩ := h26
          have al : Below wA.heap.size wA (wA.alloc (.cells #[.int .i64 y.1.1, .int .i64 y.1.2.1, .int .i64 y.1.2.2, .slice aoN y.2.2.2.length capN] 132)) := (Below.refl _ _).alloc (Nat.le_refl _) _
          simp only [over, overL, Nat.reduceAdd, h26]
          go_simp
          exact hK _ _ ⟨_, ⟨wA.heap.size, aoN, capN, rfl, Bk.new wA [.int .i64 y.1.1, .int .i64 y.1.2.1, .int .i64 y.1.2.2, .slice aoN y.2.2.2.length capN] 132 wA.heap.size rfl, hx.but (butL_below al)⟩, by simp only [over, overL, Nat.reduceAdd, h26]; rfl, (Below.refl _ _).alloc (Nat.le_refl _) _⟩
      intro f w3 hb hv
      have h22 : f 22 = _ := hv.2.1
      have h27 : FE (avo w.heap.size wA.heap.size (.slice aoV nV capV)) y.1 y.2.2.2 (f 27) w3 := hv.2.2.2.2.2.2.1
      obtain ⟨g, aoN, capN, h27, hkg, hx⟩ := h27
      have KG : Hid (Bk g [.int .i64 y.1.1, .int .i64 y.1.2.1, .int .i64 y.1.2.2, .slice aoN y.2.2.2.length capN] w3) := hkg
      have HX3 : Hid (Fla (avo w.heap.size wA.heap.size (.slice aoV nV capV)) w3 aoN y.2.2.2) := hx
      have HB13 : Hid (Below w1.heap.size w1 w3) := HB2.out.trans (hb.mono HB2.out.size)
      have HO3 : Hid (OwnR encW w3 (wA.heap.size + 1) (.slice aoV nV capV) acc) := HO1.out.later HB13.out
      have HF3 : Hid (∀ x ∈ acc, Fla (avo w.heap.size wA.heap.size (.slice aoV nV capV)) w3 x.2.1 x.2.2.2) := fun x hx => (HF1.out x hx).but (butL_below HB13.out)
      have HB3 : Hid (Below w.heap.size w w3) := HB1.out.trans (HB13.out.mono HB1.out.size)
      have KR3 : Hid (Bk w.heap.size z7 w3) := KR1.out.later HB13.out
      have KS3 : Hid (Bk (w.heap.size + 1) (s7 (.slice aoV nV capV) s (.slice aoH s.held.length capH) (.slice aoT s.touched.length capT)) w3) := KS1.out.later HB13.out
      have HRG3 : Hid (w3.ranges Tryz.prog 57 RV m wA.heap.size (Maps.size D) D (fun x => left x && !x.sameKey (klP y.1)) cnt1) := HRG1.out.kept (grown_of HB13.out (r := none)) (by simp) (by simp)
      have hl3 : wA.heap.size + 1 ≤ w3.heap.size := by have := HIS.out; have := HB13.out.size; omega
      have hle : acc.length ≤ 1000000000 := by rw [HN.out]; omega
      clear hv hb hkg hx hen
      simp only [List.drop, over, overL, Nat.reduceAdd, h22, h27]
      clear h22 h27
      go_wp2_with (first
        | (at_builtin; refine wpList_append_row goodW Tryz.underlying45 infoW rfl (by decide) (by decide) _ rfl (.tmp 22) (.tmp 27) rfl (wA.heap.size + 1) (.slice aoV nV capV) acc rfl HO3.out g (y.1, (aoN, capN, y.2.2.2)) rfl (fun j u hu => KG.out.c j hu) hle hl3 ?_; intro v' w4 ho hg hloc; obtain ⟨aoW, capW, rfl⟩ := ho.shape; have KS4 : Hid (Bk (w.heap.size + 1) (s7 (.slice aoV nV capV) s (.slice aoH s.held.length capH) (.slice aoT s.touched.length capT)) w4) := KS3.out.same hg.size (hg.block _ KS3.out.1 (fun e => by have := HRO.out _ e.symm; omega)); have s0 := KS4.out.c 0 rfl; have sf0 := KS4.out.f 0 rfl; have lt4 := KS4.out.1)
        | go_in)
      have hrow' : ∀ k, (Value.slice aoW (acc ++ [(y.1, (aoN, capN, y.2.2.2))]).length capW).ownBlock = some k → wA.heap.size + 1 ≤ k := fun k hk => (World.ownsRow.lt ho k hk).1
      have hml := HML.out
      have HRG5 : Hid ((w4.setCell ⟨w.heap.size + 1, 0, none⟩ (.slice aoW (acc ++ [(y.1, (aoN, capN, y.2.2.2))]).length capW)).ranges Tryz.prog 57 RV m wA.heap.size (Maps.size D) D (fun x => left x && !x.sameKey (klP y.1)) cnt1) :=
        (HRG3.out.kept hg (fun e => by have := HRO.out _ e.symm; omega) (fun e => by have := HRO.out _ e.symm; omega)).kept (grown_set w4 (w.heap.size + 1) 0 _) (by simp; omega) (by simp; omega)
      have hbu : ButL (avo w.heap.size wA.heap.size (.slice aoV nV capV)) w3 w4 := butL_grown hg (fun k hk => by show k ∈ [_, _, _, Option.getD _ _]; rw [hk]; simp)
      have hmem : ∀ k, k < w3.heap.size → k ∈ avo w.heap.size wA.heap.size (.slice aoW (acc ++ [(y.1, (aoN, capN, y.2.2.2))]).length capW) → k ∈ (avo w.heap.size wA.heap.size (.slice aoV nV capV)) := by
        intro k hk hm
        simp only [avo, List.mem_cons, List.not_mem_nil, or_false] at hm ⊢
        rcases hm with h | h | h | h
        · exact .inl h
        · exact .inr (.inl h)
        · exact .inr (.inr (.inl h))
        · rcases hloc with e | e
          · rw [e] at h
            exact .inr (.inr (.inr h))
          · rw [e, Option.getD_some] at h
            omega
      have HTI5 : Hid (Ti w (w4.setCell ⟨w.heap.size + 1, 0, none⟩ (.slice aoW (acc ++ [(y.1, (aoN, capN, y.2.2.2))]).length capW)) wA.heap.size wl D s (.slice aoH s.held.length capH) (.slice aoT s.touched.length capT) (fun x => left x && !x.sameKey (klP y.1)) (acc ++ [(y.1, (aoN, capN, y.2.2.2))]) (.slice aoW (acc ++ [(y.1, (aoN, capN, y.2.2.2))]).length capW)) := by
        have hbs := fun v => butL_set (bs := avo w.heap.size wA.heap.size (.slice aoW (acc ++ [(y.1, (aoN, capN, y.2.2.2))]).length capW)) w4 (w.heap.size + 1) 0 v (by simp)
        refine ⟨HSU.out, HTS.out _ rfl, ho.kept (grown_set w4 _ 0 _) (.inr fun e => by have := hrow' _ e; omega), ?_, KS4.out.put 0 _, ?_, ?_, ?_⟩
        · exact (KR3.out.same hg.size (hg.block _ KR3.out.1 (fun e => by have := HRO.out _ e.symm; omega))).other (by omega) 0 _
        · intro x hx
          rcases List.mem_append.1 hx with hx | hx
          · exact ((HF3.out x hx).row hbu hmem (Nat.le_refl _)).but (hbs _)
          · rw [List.mem_singleton] at hx
            subst hx
            exact (HX3.out.row hbu hmem (Nat.le_refl _)).but (hbs _)
        · exact (HB3.out.grown hg HB3.out.size (fun k hk => by have := HRO.out k hk; omega)).setCell (by simp) _
        · have := hg.size
          show _ < (w4.setCell _ _).heap.size
          simp only [World.setCell, Array.size_modify] 
          omega
      clear ho hg hloc hrow' hbu hmem
      have hle2 : (acc ++ [(y.1, (aoN, capN, y.2.2.2))]).length = acc.length + 1 := by simp
      rw [hle2] at HRG5 HTI5
      go_roundw
      case rel => exact ⟨_, _, _, _, HRG5.out, HTI5.out⟩
      case measure => rw [HRG5.out.left_eq, HRG.out.left_eq]; exact HLT.out
end Go.Proofs.YtcajifelbldjnaaGreat

/- Apply walked. -/
namespace Go.Proofs.YtcajifelbldjnaaGreat
open Go.RowKit Go.Maps
/-- Seven cells laid into a block. -/
abbrev put7 (w : World) (R : Nat) (t : Sm) : World := (((((((w).setCell ⟨R, 0, none⟩ (.slice t.aoW t.wl.length t.capW)).setCell ⟨R, 1, none⟩ (.bool t.tip)).setCell ⟨R, 2, none⟩ (.slice t.aoH t.held.length t.capH)).setCell ⟨R, 3, none⟩ (.slice t.aoT t.touched.length t.capT)).setCell ⟨R, 4, none⟩ (.int .i64 t.used)).setCell ⟨R, 5, none⟩ (.int .i64 t.heat)).setCell ⟨R, 6, none⟩ (.int .i64 t.clock)
theorem but_put7 (R : Nat) (w : World) (t : Sm) : But R R w (put7 w R t) :=
  ((((((but_set R R w 0 _).trans (but_set R R _ 1 _)).trans (but_set R R _ 2 _)).trans (but_set R R _ 3 _)).trans (but_set R R _ 4 _)).trans (but_set R R _ 5 _)).trans (but_set R R _ 6 _)
theorem blw_put7 {B R : Nat} {a w : World} (h : Below B a w) (hR : B ≤ R) (t : Sm) : Below B a (put7 w R t) :=
  ((((((h.setCell hR _).setCell hR _).setCell hR _).setCell hR _).setCell hR _).setCell hR _).setCell hR _
theorem SmHi.less {n n' : Nat} {t : Sm} (h : SmHi n t) (hn : n' ≤ n) : SmHi n' t :=
  ⟨h.row.imp id fun h a ha => Nat.le_trans hn (h a ha), fun x hx => (h.fl x hx).imp id fun h a ha => Nat.le_trans hn (h a ha), h.held.imp id fun h a ha => Nat.le_trans hn (h a ha), h.touched.imp id fun h a ha => Nat.le_trans hn (h a ha)⟩
theorem SmHi.zero (n : Nat) : SmHi n sm0 := ⟨.inl rfl, (fun x hx => by cases hx), .inl rfl, .inl rfl⟩
end Go.Proofs.YtcajifelbldjnaaGreat

/- Run walked. -/
namespace Go.Proofs.YtcajifelbldjnaaGreat
open Go.RowKit Go.Maps
abbrev encA : Enc Acn := ⟨59, 8, acl⟩
/-- Actions, one behind the other. -/
structure Acs (w : World) (ao : Option Addr) (acs : List Acn) : Prop where
  rd : RdR encA w ao acs
  ok : ∀ a ∈ acs, a.label.size ≤ maxLen ∧ (Lit.int .i64 a.kind).wf = true
theorem goodA : Good encA := ⟨fun _ => rfl, fun x u hu => by simp [acl] at hu; rcases hu with rfl | rfl | rfl | rfl | rfl | rfl | rfl | rfl <;> rfl⟩
theorem Acs.next {w w1 : World} {ao : Option Addr} {acs : List Acn} (h : Acs w ao acs) (hb : Below w.heap.size w w1) : Acs w1 ao acs := ⟨h.rd.next goodA hb, h.ok⟩
theorem Acs.at {w : World} {ao : Option Addr} {acs : List Acn} (h : Acs w ao acs) {k : Nat} (hk : k < acs.length) : ∃ g off, ao = some ⟨g, off, none⟩ ∧ ∀ j, j < 8 → w.cell? ⟨g, off + k * 8 + j, none⟩ = (acl (acs[k]'hk))[j]? := by
  rcases h.rd with rfl | ⟨g, off, e, _, hc⟩
  · simp at hk
  · exact ⟨g, off, e, fun j hj => hc k hk j hj⟩
def runR (l : List Sit) (acs : List Acn) : Sta × Nat × Int := if dchk l = 0 then runA l sta0 0 acs else (sta0, 0, dchk l)
theorem runA_step {l : List Sit} {acs : List Acn} {s : Sta} {k : Nat} (hk : k < acs.length) (h : (doA l s (acs[k]'hk)).2 = 0) : runA l s k (acs.drop k) = runA l (doA l s (acs[k]'hk)).1 (k + 1) (acs.drop (k + 1)) := by
  rw [List.drop_eq_getElem_cons hk]
  simp only [runA]
  rw [if_pos h]
theorem runA_stop {l : List Sit} {acs : List Acn} {s : Sta} {k : Nat} (hk : k < acs.length) (h : (doA l s (acs[k]'hk)).2 ≠ 0) : runA l s k (acs.drop k) = (s, k, (doA l s (acs[k]'hk)).2) := by
  rw [List.drop_eq_getElem_cons hk]
  simp only [runA]
  rw [if_neg h]
theorem runA_done {l : List Sit} {acs : List Acn} {s : Sta} {k : Nat} (hk : acs.length ≤ k) : runA l s k (acs.drop k) = (s, k, 0) := by
  rw [List.drop_eq_nil_of_le hk]
  rfl
theorem fill_or (l : List Sit) (s : Sta) (a : Acn) : (fillA l s a).2 = 0 ∨ (fillA l s a).1 = s := by
  unfold fillA
  repeat' split
  all_goals first | exact .inr rfl | exact .inl rfl
theorem draw_or (l : List Sit) (s : Sta) (a : Acn) : (drawA l s a).2 = 0 ∨ (drawA l s a).1 = s := by
  unfold drawA
  repeat' split
  all_goals first | exact .inr rfl | exact .inl rfl
theorem put_or (l : List Sit) (s : Sta) (a : Acn) : (putA l s a).2 = 0 ∨ (putA l s a).1 = s := by
  unfold putA
  repeat' split
  all_goals first | exact .inr rfl | exact .inl rfl
theorem tip_or (l : List Sit) (s : Sta) : (tipA l s).2 = 0 ∨ (tipA l s).1 = s := by
  unfold tipA
  repeat' split
  all_goals first | exact .inr rfl | exact .inl rfl
theorem drop_or (s : Sta) : (dropA s).2 = 0 ∨ (dropA s).1 = s := by
  unfold dropA
  repeat' split
  all_goals first | exact .inr rfl | exact .inl rfl
theorem warm_or (s : Sta) (a : Acn) : (warmA s a).2 = 0 ∨ (warmA s a).1 = s := by
  unfold warmA
  repeat' split
  all_goals first | exact .inr rfl | exact .inl rfl
theorem pass_or (s : Sta) (a : Acn) : (passA s a).2 = 0 ∨ (passA s a).1 = s := by
  unfold passA
  repeat' split
  all_goals first | exact .inr rfl | exact .inl rfl
theorem shake_or (s : Sta) (a : Acn) : (shakeA s a).2 = 0 ∨ (shakeA s a).1 = s := by
  unfold shakeA passA
  repeat' split
  all_goals first | exact .inr rfl | exact .inl rfl
theorem do_same {l : List Sit} {s : Sta} {a : Acn} (h : (doA l s a).2 ≠ 0) : (doA l s a).1 = s := by
  refine (show (doA l s a).2 = 0 ∨ (doA l s a).1 = s from ?_).resolve_left h
  unfold doA
  repeat' split
  all_goals first | exact fill_or l s a | exact tip_or l s | exact drop_or s | exact draw_or l s a | exact put_or l s a | exact warm_or s a | exact pass_or s a | exact shake_or s a | exact .inr rfl
set_option maxHeartbeats 6400000 in
set_option maxRecDepth 100000 in
theorem run_any (ao : Option Addr) (cap : Nat) (l : List Sit) (aoA : Option Addr) (capA : Nat) (acs : List Acn) (w : World) (hD : Dk w ao cap l) (hln : l.length ≤ 9223372036854775807) (hA : Acs w aoA acs) (hla : acs.length ≤ 9223372036854775807) :
    Calls Tryz.prog 7 #[.slice ao l.length cap, .slice aoA acs.length capA] w fun e w' => ∃ t : Sm, e = .returned (.tuple #[smv t, .int .i64 ((runR l acs).2.1 : Int), .int .i64 (runR l acs).2.2]) ∧ t.st = (runR l acs).1 ∧ SmIn w' t ∧ SmHi w.heap.size t ∧ Below w.heap.size w w' := by
  obtain ⟨w0, hw0⟩ : ∃ w0, w0 = w.alloc (.cells z7.toArray 49) := ⟨_, rfl⟩
  have b0 : Below w.heap.size w w0 := by rw [hw0]; exact (Below.refl _ _).alloc (Nat.le_refl _) _
  have KR0 : Hid (Bk w.heap.size z7 w0) := by show Bk _ _ _; rw [hw0]; exact Bk.new _ z7 49 w.heap.size rfl
  have HB0 : Hid (Below w.heap.size w w0) := b0
  have HW0 : Hid (w0 = _) := hw0
  have HD0 : Hid (Dk w0 ao cap l) := hD.next b0
  have HA0 : Hid (Acs w0 aoA acs) := hA.next b0
  have HCK := (show Hid _ from dk_check ao cap l w0 HD0.out hln)
  clear hD hA hw0 b0
  go_enter Tryz.func7, Tryz.ntmps7
  go_wp2_with fail
  rw [← HW0.out]
  refine Calls.mono HCK.out ?_
  rintro e w1 ⟨rfl, hb1⟩
  have KR1 : Hid (Bk w.heap.size z7 w1) := KR0.out.later hb1
  have HB1 : Hid (Below w.heap.size w w1) := HB0.out.trans (hb1.mono HB0.out.size)
  have HD1 : Hid (Dk w1 ao cap l) := HD0.out.next hb1
  have HA1 : Hid (Acs w1 aoA acs) := HA0.out.next hb1
  clear hb1 HCK HD0 HA0 KR0 HB0
  obtain ⟨c, hc⟩ : ∃ c, dchk l = c := ⟨_, rfl⟩
  have HC : Hid (dchk l = c) := hc
  rw [hc]
  clear hc
  by_cases he : c = 0
  rotate_left
  · have h2 : (c == 0) = false := by simp [he]
    have h3 : (c != 0) = true := by simp [he]
    have HQ : Hid (runR l acs = (sta0, 0, c)) := by show _ = _; unfold runR; rw [HC.out, if_neg he]
    have r0 := (KR1.out).c 0 rfl
    have rf0 := (KR1.out).f 0 rfl
    have r1 := (KR1.out).c 1 rfl
    have rf1 := (KR1.out).f 1 rfl
    have r2 := (KR1.out).c 2 rfl
    have rf2 := (KR1.out).f 2 rfl
    have r3 := (KR1.out).c 3 rfl
    have rf3 := (KR1.out).f 3 rfl
    have r4 := (KR1.out).c 4 rfl
    have rf4 := (KR1.out).f 4 rfl
    have r5 := (KR1.out).c 5 rfl
    have rf5 := (KR1.out).f 5 rfl
    have r6 := (KR1.out).c 6 rfl
    have rf6 := (KR1.out).f 6 rfl
    have lt1 := KR1.out.1
    clear he
    go_wp2
    refine bodyPost_ret (v := .tuple #[smv sm0, .int .i64 0, .int .i64 c]) (by simp [results, Tryz.results7, go_sem, r0, r1, r2, r3, r4, r5, r6]) rfl ⟨sm0, ?_, ?_, ?_, ?_, ?_⟩
    · rw [HQ.out]; rfl
    · rw [HQ.out]; rfl
    · exact SmIn.zero _
    · exact SmHi.zero _
    · exact blw_put7 HB1.out (by omega) sm0
  · subst he
    have HQ0 : Hid (runR l acs = runA l sta0 0 acs) := by show _ = _; unfold runR; rw [HC.out, if_pos rfl]
    go_wp2_with fail
    refine (newBench_any ao cap l sm0 w1 HD1.out HC.out (SmIn.zero _) (may_sta0 l)).mono ?_
    rintro e w2 ⟨b, m, md, rfl, hB⟩
    have HBn2 : Hid (Bn w1 w2 ao cap l b m md sta0) := hB
    clear hB
    go_wp2_with fail
    go_loopw [23] (fun i wr => ∃ (k : Nat) (s : Sta), k ≤ acs.length ∧ i = .int .i64 k ∧ runR l acs = runA l s k (acs.drop k) ∧ Bn w1 wr ao cap l b m md s) (fun i _ => acs.length - (intOf i).toNat)
    case atStart => exact ⟨0, sta0, Nat.zero_le _, rfl, HQ0.out, HBn2.out⟩
    case round =>
      obtain ⟨k, s, hk, rfl, hq, hB⟩ := hrel
      have HBn3 : Hid (Bn w1 wr ao cap l b m md s) := hB
      have HQ1 : Hid (runR l acs = runA l s k (acs.drop k)) := hq
      have KR3 : Hid (Bk w.heap.size z7 wr) := KR1.out.later hB.below
      have HB3 : Hid (Below w.heap.size w wr) := HB1.out.trans (hB.below.mono HB1.out.size)
      clear hq hB
      by_cases hlt : k < acs.length
      rotate_left
      · obtain rfl : k = acs.length := by omega
        have HQ : Hid (runR l acs = (s, acs.length, 0)) := by show _ = _; rw [HQ1.out]; exact runA_done (Nat.le_refl _)
        clear hlt
        go_wp2_with fail
        refine (told_any w1 wr ao cap l b m md s HBn3.out).mono ?_
        rintro e w4 ⟨t, rfl, hst, hin, hhi, hb4⟩
        have KR4 : Hid (Bk w.heap.size z7 w4) := KR3.out.later hb4
        have HST : Hid (t.st = s) := hst
        have HIN : Hid (SmIn w4 t) := hin
        have HHI : Hid (SmHi wr.heap.size t) := hhi
        have HB4 : Hid (Below w.heap.size w w4) := HB3.out.trans (hb4.mono HB3.out.size)
        have l3 := KR3.out.1
        clear hst hin hhi hb4
        have r0 := (KR4.out).c 0 rfl
        have rf0 := (KR4.out).f 0 rfl
        have r1 := (KR4.out).c 1 rfl
        have rf1 := (KR4.out).f 1 rfl
        have r2 := (KR4.out).c 2 rfl
        have rf2 := (KR4.out).f 2 rfl
        have r3 := (KR4.out).c 3 rfl
        have rf3 := (KR4.out).f 3 rfl
        have r4 := (KR4.out).c 4 rfl
        have rf4 := (KR4.out).f 4 rfl
        have r5 := (KR4.out).c 5 rfl
        have rf5 := (KR4.out).f 5 rfl
        have r6 := (KR4.out).c 6 rfl
        have rf6 := (KR4.out).f 6 rfl
        have lt1 := KR4.out.1
        go_wp2
        refine bodyPost_ret (v := .tuple #[smv t, .int .i64 (acs.length : Int), .int .i64 0]) (by simp [results, Tryz.results7, go_sem, r0, r1, r2, r3, r4, r5, r6]) rfl ⟨t, ?_, ?_, ?_, ?_, ?_⟩
        · rw [HQ.out]
        · rw [HQ.out]; exact HST.out
        · exact HIN.out.but HHI.out (but_put7 w.heap.size w4 t) l3 l3
        · exact HHI.out.less (by omega)
        · exact blw_put7 HB4.out (by omega) t
      · obtain ⟨g, off, hao, hcs⟩ := (HA1.out.next HBn3.out.below).at hlt
        have hok := HA1.out.ok _ (List.getElem_mem hlt)
        have HS1 : Hid ((doA l s (acs[k]'hlt)).2 = 0 → runR l acs = runA l (doA l s (acs[k]'hlt)).1 (k + 1) (acs.drop (k + 1))) := fun h => by rw [HQ1.out]; exact runA_step hlt h
        have HS2 : Hid ((doA l s (acs[k]'hlt)).2 ≠ 0 → runR l acs = (s, k, (doA l s (acs[k]'hlt)).2)) := fun h => by rw [HQ1.out]; exact runA_stop hlt h
        generalize acs[k]'hlt = a at *
        subst hao
        have c0 := hcs 0 (by decide)
        have c1 := hcs 1 (by decide)
        have c2 := hcs 2 (by decide)
        have c3 := hcs 3 (by decide)
        have c4 := hcs 4 (by decide)
        have c5 := hcs 5 (by decide)
        have c6 := hcs 6 (by decide)
        have c7 := hcs 7 (by decide)
        simp only [acl, List.getElem?_cons_zero, List.getElem?_cons_succ, Nat.add_zero] at c0 c1 c2 c3 c4 c5 c6 c7
        have HOK : Hid (a.label.size ≤ maxLen ∧ (Lit.int .i64 a.kind).wf = true) := hok
        obtain ⟨w4, hw4⟩ : ∃ w4, w4 = wr.alloc (aobj a) := ⟨_, rfl⟩
        have b4 : Below wr.heap.size wr w4 := by rw [hw4]; exact (Below.refl _ _).alloc (Nat.le_refl _) _
        have HBn4 : Hid (Bn w1 w4 ao cap l b m md s) := HBn3.out.next b4
        have HW4 : Hid (w4 = wr.alloc (aobj a)) := hw4
        have hki : (k : Int) < (acs.length : Int) := by omega
        clear hcs hok hw4 b4
        go_wp2_with fail
        rw [← HW4.out]
        refine (do_any w1 w4 ao cap l b m md s a HBn4.out HOK.out.1 HOK.out.2).mono ?_
        rintro e w5 ⟨rfl, hB⟩
        obtain ⟨⟨s', e1⟩, hdq⟩ : ∃ x, doA l s a = x := ⟨_, rfl⟩
        rw [hdq] at hB HS1 HS2
        rw [hdq]
        simp only at hB HS1 HS2
        have HBn5 : Hid (Bn w1 w5 ao cap l b m md s') := hB
        have HDQ : Hid (doA l s a = (s', e1)) := hdq
        clear hB hdq c0 c1 c2 c3 c4 c5 c6 c7
        simp only
        by_cases he : e1 = 0
        · subst he
          have HQ : Hid (runR l acs = runA l s' (k + 1) (acs.drop (k + 1))) := HS1.out rfl
          go_wp2
          go_roundw
          case rel => exact ⟨k + 1, s', by omega, by go_num, HQ.out, HBn5.out⟩
          case measure => simp [intOf]; omega
        · have h2 : (e1 == 0) = false := by simp [he]
          have h3 : (e1 != 0) = true := by simp [he]
          have HQ : Hid (runR l acs = (s, k, e1)) := HS2.out he
          have hne : s' = s := by have := do_same (l := l) (s := s) (a := a) (by rw [HDQ.out]; exact he); rw [HDQ.out] at this; exact this
          subst hne
          have KR5 : Hid (Bk w.heap.size z7 w5) := KR1.out.later HBn5.out.below
          have HB5 : Hid (Below w.heap.size w w5) := HB1.out.trans (HBn5.out.below.mono HB1.out.size)
          clear he
          go_wp2_with fail
          refine (told_any w1 w5 ao cap l b m md _ HBn5.out).mono ?_
          rintro e w6 ⟨t, rfl, hst, hin, hhi, hb4⟩
          have KR6 : Hid (Bk w.heap.size z7 w6) := KR5.out.later hb4
          have HST : Hid (t.st = _) := hst
          have HIN : Hid (SmIn w6 t) := hin
          have HHI : Hid (SmHi w5.heap.size t) := hhi
          have HB6 : Hid (Below w.heap.size w w6) := HB5.out.trans (hb4.mono HB5.out.size)
          have l3 := KR5.out.1
          clear hst hin hhi hb4
          have r0 := (KR6.out).c 0 rfl
          have rf0 := (KR6.out).f 0 rfl
          have r1 := (KR6.out).c 1 rfl
          have rf1 := (KR6.out).f 1 rfl
          have r2 := (KR6.out).c 2 rfl
          have rf2 := (KR6.out).f 2 rfl
          have r3 := (KR6.out).c 3 rfl
          have rf3 := (KR6.out).f 3 rfl
          have r4 := (KR6.out).c 4 rfl
          have rf4 := (KR6.out).f 4 rfl
          have r5 := (KR6.out).c 5 rfl
          have rf5 := (KR6.out).f 5 rfl
          have r6 := (KR6.out).c 6 rfl
          have rf6 := (KR6.out).f 6 rfl
          have lt1 := KR6.out.1
          go_wp2
          refine bodyPost_ret (v := .tuple #[smv t, .int .i64 (k : Int), .int .i64 e1]) (by simp [results, Tryz.results7, go_sem, r0, r1, r2, r3, r4, r5, r6]) rfl ⟨t, ?_, ?_, ?_, ?_, ?_⟩
          · rw [HQ.out]
          · rw [HQ.out]; exact HST.out
          · exact HIN.out.but HHI.out (but_put7 w.heap.size w6 t) l3 l3
          · exact HHI.out.less (by omega)
          · exact blw_put7 HB6.out (by omega) t
end Go.Proofs.YtcajifelbldjnaaGreat

/- What Compile tells, plainly: commands, one behind the other. No Go in sight. -/
namespace Go.Proofs.YtcajifelbldjnaaGreat
open Go.RowKit
/-- A command: its kind, a point, a value. -/
structure Cd where
  k : Int
  x : Int
  y : Int
  z : Int
  v : Int
abbrev cd (k v : Int) : Cd := ⟨k, 0, 0, 0, v⟩
abbrev goC (p : S.Pt) : Cd := ⟨2, p.x, p.y, p.z, 0⟩
abbrev upC (p : S.Pt) : S.Pt := ⟨p.x, p.y, 200000⟩
def workC (p : S.Pt) (c : Cd) : List Cd := [goC (upC p), goC p, c, goC (upC p)]
def restC (t : Int) : List Cd := if 0 < t then [cd 7 t] else []
/-- Between two actions: what was told, how many tips were taken, how much the tip holds. -/
structure Cst where
  cs : List Cd
  used : Nat
  held : Int
def cst0 : Cst := ⟨[cd 1 0, goC ⟨0, 0, 200000⟩], 0, 0⟩
abbrev plc0 : Plc := (0, 0, 0)
/-- What an action becomes; 5: there is no trash. -/
def stepC (ts bins : List Plc) (pt : Plc → S.Pt) (s : Cst) (a : Acn) : Cst × Int :=
  if a.kind = 6 then (⟨s.cs ++ workC (pt (ts.getD s.used plc0)) (cd 4 0), s.used + 1, s.held⟩, 0)
  else if a.kind = 7 then (match bins with
    | [] => (s, 5)
    | b :: _ => (⟨s.cs ++ workC (pt b) (cd 5 0), s.used, 0⟩, 0))
  else if a.kind = 8 then (⟨s.cs ++ workC (pt a.pl) (cd 3 (s.held + a.vol)), s.used, s.held + a.vol⟩, 0)
  else if a.kind = 9 then (⟨s.cs ++ workC (pt a.pl) (cd 3 (s.held + -a.vol)), s.used, s.held + -a.vol⟩, 0)
  else if a.kind = 11 then (⟨s.cs ++ [cd 6 a.value], s.used, s.held⟩, 0)
  else if a.kind = 12 ∨ a.kind = 14 then (⟨s.cs ++ restC a.time, s.used, s.held⟩, 0)
  else if a.kind = 13 then (⟨s.cs ++ [cd 8 a.value] ++ restC a.time ++ [cd 8 0], s.used, s.held⟩, 0)
  else (s, 0)
def compL (ts bins : List Plc) (pt : Plc → S.Pt) : Cst → Nat → List Acn → Cst × Nat × Int
  | s, k, [] => (s, k, 0)
  | s, k, a :: r => if (stepC ts bins pt s a).2 = 0 then compL ts bins pt (stepC ts bins pt s a).1 (k + 1) r else (s, k, (stepC ts bins pt s a).2)
theorem compL_step {ts bins : List Plc} {pt : Plc → S.Pt} {acs : List Acn} {s : Cst} {k : Nat} (hk : k < acs.length) (h : (stepC ts bins pt s (acs[k]'hk)).2 = 0) :
    compL ts bins pt s k (acs.drop k) = compL ts bins pt (stepC ts bins pt s (acs[k]'hk)).1 (k + 1) (acs.drop (k + 1)) := by
  rw [List.drop_eq_getElem_cons hk]
  simp only [compL]
  rw [if_pos h]
theorem compL_stop {ts bins : List Plc} {pt : Plc → S.Pt} {acs : List Acn} {s : Cst} {k : Nat} (hk : k < acs.length) (h : (stepC ts bins pt s (acs[k]'hk)).2 ≠ 0) :
    compL ts bins pt s k (acs.drop k) = (s, k, (stepC ts bins pt s (acs[k]'hk)).2) := by
  rw [List.drop_eq_getElem_cons hk]
  simp only [compL]
  rw [if_neg h]
theorem compL_done {ts bins : List Plc} {pt : Plc → S.Pt} {acs : List Acn} {s : Cst} {k : Nat} (hk : acs.length ≤ k) : compL ts bins pt s k (acs.drop k) = (s, k, 0) := by
  rw [List.drop_eq_nil_of_le hk]
  rfl
/-! ### actions that may be -/
/-- The state behind k actions. -/
def staA (l : List Sit) (acs : List Acn) (k : Nat) : Sta := (acs.take k).foldl (fun s a => (doA l s a).1) sta0
theorem staA_succ {l : List Sit} {acs : List Acn} {k : Nat} (hk : k < acs.length) : staA l acs (k + 1) = (doA l (staA l acs k) (acs[k]'hk)).1 := by
  unfold staA
  rw [List.take_succ_eq_append_getElem hk, List.foldl_append]
  rfl
theorem runA_ok {l : List Sit} : ∀ (acs : List Acn) (s : Sta) (k : Nat), (runA l s k acs).2.2 = 0 → ∀ j (hj : j < acs.length), (doA l ((acs.take j).foldl (fun s a => (doA l s a).1) s) (acs[j]'hj)).2 = 0
  | [], s, k, _, j, hj => by simp at hj
  | a :: r, s, k, h, j, hj => by
    simp only [runA] at h
    split at h
    · rename_i h0
      match j with
      | 0 => simpa using h0
      | j + 1 => simpa using runA_ok r _ _ h j (by simpa using hj)
    · rename_i h0
      exact absurd h h0
/-- All of the actions may be. -/
theorem run_ok {l : List Sit} {acs : List Acn} (hd : dchk l = 0) (h : (runR l acs).2.2 = 0) : ∀ j (hj : j < acs.length), (doA l (staA l acs j) (acs[j]'hj)).2 = 0 := by
  unfold runR at h
  rw [if_pos hd] at h
  exact runA_ok acs sta0 0 h
theorem tip_ok {l : List Sit} {s : Sta} (h : (tipA l s).2 = 0) : s.tip = false ∧ s.used < (tipsL l).length ∧ (tipA l s).1.used = s.used + 1 := by
  unfold tipA at h ⊢
  split at h
  · simp at h
  · split at h
    · simp at h
    · rename_i h1 h2
      rw [if_neg h1, if_neg h2]
      exact ⟨by simpa using h1, by omega, rfl⟩
theorem do_tip {l : List Sit} {s : Sta} {a : Acn} (hk : a.kind = 6) : doA l s a = tipA l s := by unfold doA; simp [hk]
theorem fill_used (l : List Sit) (s : Sta) (a : Acn) : (fillA l s a).1.used = s.used := by
  unfold fillA
  repeat' split
  all_goals rfl
theorem drop_used (s : Sta) : (dropA s).1.used = s.used := by
  unfold dropA
  repeat' split
  all_goals rfl
theorem draw_used (l : List Sit) (s : Sta) (a : Acn) : (drawA l s a).1.used = s.used := by
  unfold drawA
  repeat' split
  all_goals rfl
theorem put_used (l : List Sit) (s : Sta) (a : Acn) : (putA l s a).1.used = s.used := by
  unfold putA
  repeat' split
  all_goals rfl
theorem warm_used (s : Sta) (a : Acn) : (warmA s a).1.used = s.used := by
  unfold warmA
  repeat' split
  all_goals rfl
theorem pass_used (s : Sta) (a : Acn) : (passA s a).1.used = s.used := by
  unfold passA
  repeat' split
  all_goals rfl
theorem shake_used (s : Sta) (a : Acn) : (shakeA s a).1.used = s.used := by
  unfold shakeA
  split
  · exact pass_used s a
  · rfl
theorem used_same {l : List Sit} {s : Sta} {a : Acn} (hk : a.kind ≠ 6) : (doA l s a).1.used = s.used := by
  unfold doA
  rw [if_neg hk]
  repeat' split
  all_goals first | exact fill_used l s a | exact drop_used s | exact draw_used l s a | exact put_used l s a | exact warm_used s a | exact pass_used s a | exact shake_used s a | rfl
theorem used_tip {l : List Sit} {s : Sta} {a : Acn} (hk : a.kind = 6) (h : (doA l s a).2 = 0) : s.used < (tipsL l).length ∧ (doA l s a).1.used = s.used + 1 := by
  rw [do_tip hk] at h ⊢
  exact (tip_ok h).2
/-- What is in range where an action may be. -/
theorem aim_vol {l : List Sit} {a : Acn} (h : (aimR l a).2 = 0) : 1 ≤ a.vol ∧ a.vol ≤ 1000000000 := by
  unfold aimR at h
  split at h
  · rename_i h0
    split at h
    · rename_i h1
      exact inR_iff.1 h1
    · simp at h
  · rename_i h0
    exact absurd h h0
theorem vol_draw {l : List Sit} {s : Sta} {a : Acn} (hk : a.kind = 8) (h : (doA l s a).2 = 0) : (wellM l a.pl).2 = 0 ∧ 1 ≤ a.vol ∧ a.vol ≤ 1000000000 := by
  have e : doA l s a = drawA l s a := by unfold doA; simp [hk]
  rw [e] at h
  unfold drawA at h
  split at h
  · rename_i h0; exact absurd h h0
  · rename_i h0
    have h1 : (aimR l a).2 = 0 := Classical.not_not.1 h0
    refine ⟨?_, aim_vol h1⟩
    unfold aimR at h1
    split at h1
    · assumption
    · exact h1
theorem vol_put {l : List Sit} {s : Sta} {a : Acn} (hk : a.kind = 9) (h : (doA l s a).2 = 0) : (wellM l a.pl).2 = 0 ∧ 1 ≤ a.vol ∧ a.vol ≤ 1000000000 := by
  have e : doA l s a = putA l s a := by unfold doA; simp [hk]
  rw [e] at h
  unfold putA at h
  split at h
  · rename_i h0; exact absurd h h0
  · rename_i h0
    have h1 : (aimR l a).2 = 0 := Classical.not_not.1 h0
    refine ⟨?_, aim_vol h1⟩
    unfold aimR at h1
    split at h1
    · assumption
    · exact h1
/-! ### the way -/
/-- Where the machine is told to be behind commands. -/
def posC (p : S.Pt) : List Cd → S.Pt
  | [] => p
  | c :: r => posC (if c.k = 2 then ⟨c.x, c.y, c.z⟩ else p) r
/-- Across just high above. -/
def highC (p : S.Pt) : List Cd → Prop
  | [] => True
  | c :: r => (c.k = 2 → (c.x = p.x ∧ c.y = p.y) ∨ (p.z = 200000 ∧ c.z = 200000 ∧ (0 ≤ p.x ∧ p.x ≤ 1000000) ∧ (0 ≤ p.y ∧ p.y ≤ 1000000) ∧ (0 ≤ c.x ∧ c.x ≤ 1000000) ∧ (0 ≤ c.y ∧ c.y ≤ 1000000))) ∧ highC (if c.k = 2 then ⟨c.x, c.y, c.z⟩ else p) r
theorem posC_app (a b : List Cd) : ∀ p, posC p (a ++ b) = posC (posC p a) b := by
  induction a with
  | nil => intro p; rfl
  | cons c r ih => intro p; simp only [List.cons_append, posC]; exact ih _
theorem highC_app {a b : List Cd} : ∀ {p}, highC p a → highC (posC p a) b → highC p (a ++ b) := by
  induction a with
  | nil => intro p _ h; exact h
  | cons c r ih => intro p h h2; simp only [List.cons_append, highC, posC] at h h2 ⊢; exact ⟨h.1, ih h.2 h2⟩
/-- Within the deck. -/
def InP (p : S.Pt) : Prop := (0 ≤ p.x ∧ p.x ≤ 1000000) ∧ (0 ≤ p.y ∧ p.y ≤ 1000000)
/-- High above the deck. -/
def Above (p : S.Pt) : Prop := InP p ∧ p.z = 200000
theorem high_work {q p : S.Pt} {c : Cd} (hc : c.k ≠ 2) (hq : Above q) (hp : InP p) : highC q (workC p c) ∧ Above (posC q (workC p c)) := by
  obtain ⟨⟨a1, a2⟩, a3⟩ := hq
  obtain ⟨b1, b2⟩ := hp
  refine ⟨?_, ?_⟩
  · simp only [workC, highC, if_true, if_neg hc]
    exact ⟨fun _ => .inr ⟨a3, trivial, a1, a2, b1, b2⟩, fun _ => .inl ⟨trivial, trivial⟩, fun h => absurd h hc, fun _ => .inl ⟨trivial, trivial⟩, trivial⟩
  · simp only [workC, posC, if_true, if_neg hc]
    exact ⟨⟨b1, b2⟩, rfl⟩
theorem high_none {q : S.Pt} {cs : List Cd} (h : ∀ c ∈ cs, c.k ≠ 2) (hq : Above q) : highC q cs ∧ Above (posC q cs) := by
  induction cs with
  | nil => exact ⟨trivial, hq⟩
  | cons c r ih =>
    have h1 := h c (by simp)
    have h2 := ih fun x hx => h x (by simp [hx])
    simp only [highC, posC, if_neg h1]
    exact ⟨⟨fun e => absurd e h1, h2.1⟩, h2.2⟩
/-- What is told goes across just high above. -/
def CsOk (s : Cst) : Prop := highC ⟨0, 0, 0⟩ s.cs ∧ Above (posC ⟨0, 0, 0⟩ s.cs)
theorem csOk0 : CsOk cst0 := by
  simp [CsOk, cst0, highC, posC, Above, InP]
theorem csOk_app {s : Cst} (h : CsOk s) {b : List Cd} (hb : ∀ q, Above q → highC q b ∧ Above (posC q b)) (u : Nat) (n : Int) : CsOk ⟨s.cs ++ b, u, n⟩ := by
  obtain ⟨h1, h2⟩ := h
  obtain ⟨h3, h4⟩ := hb _ h2
  exact ⟨highC_app h1 h3, by rw [posC_app]; exact h4⟩
theorem rest_no (t : Int) : ∀ c ∈ restC t, c.k ≠ 2 := by
  intro c hc
  unfold restC at hc
  split at hc
  · simp at hc; subst hc; simp
  · cases hc
theorem step_csOk {ts bins : List Plc} {pt : Plc → S.Pt} (hpt : ∀ p, InP (pt p)) {s : Cst} (h : CsOk s) (a : Acn) : CsOk (stepC ts bins pt s a).1 := by
  unfold stepC
  repeat' split
  all_goals first
    | exact h
    | exact csOk_app h (fun q hq => high_work (by simp) hq (hpt _)) _ _
    | exact csOk_app h (fun q hq => high_none (fun c hc => by simp at hc; subst hc; simp) hq) _ _
    | exact csOk_app h (fun q hq => high_none (rest_no _) hq) _ _
    | (rw [List.append_assoc, List.append_assoc]
       refine csOk_app h (fun q hq => high_none (fun c hc => ?_) hq) _ _
       rcases List.mem_append.1 hc with hc | hc
       · simp at hc; subst hc; simp
       · rcases List.mem_append.1 hc with hc | hc
         · exact rest_no _ c hc
         · simp at hc; subst hc; simp)
theorem comp_csOk {ts bins : List Plc} {pt : Plc → S.Pt} (hpt : ∀ p, InP (pt p)) : ∀ (acs : List Acn) (s : Cst) (k : Nat), CsOk s → CsOk (compL ts bins pt s k acs).1
  | [], s, k, h => h
  | a :: r, s, k, h => by
    simp only [compL]
    split
    · exact comp_csOk hpt r _ _ (step_csOk hpt h a)
    · exact h
end Go.Proofs.YtcajifelbldjnaaGreat
