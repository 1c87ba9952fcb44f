import Derived.Test.YtfadmpnpgiceeaaGreatKr
import Derived.Test.YtfadmpnpgiceeaaGreatKu

/- workcellref: at, isFlow; ApplyAction up to its switch. -/
namespace Go.Proofs.YtfadmpnpgiceeaaGreat
open Go.RowKit Go.Maps
def atR (t : List Int) (x : Int) : Int := match t.findIdx? (fun y => y == x) with
 | some k => k
 | none => -1
set_option maxHeartbeats 1600000 in
theorem at_any (b cap : Nat) (l : List Int) (n : Int) (w : World) (hT : ∀ k (h : k < l.length), w.cell? ⟨b, k, none⟩ = some (.int .i64 (l[k]'h))) (hln : l.length ≤ 1000000000) :
  Calls Tryz.prog 42 #[.slice (some ⟨b, 0, none⟩) l.length cap, .int .i64 n] w fun e w' => e = .returned (.int .i64 (atR l n)) ∧ w' = w := by
 have HD : Hid (∀ k (h : k < l.length), w.cell? ⟨b, k, none⟩ = some (.int .i64 (l[k]'h))) := hT
 clear hT
 go_enter Tryz.func42, Tryz.ntmps42
 go_wp2
 go_loopw [5] (fun i wr => ∃ k : Nat, k ≤ l.length ∧ i = .int .i64 k ∧ (∀ s ∈ l.take k, (s == n) = false) ∧ w = wr) (fun i _ => l.length - (intOf i).toNat)
 case atStart => exact ⟨0, Nat.zero_le _, rfl, (fun s hs => by simp at hs), rfl⟩
 case round =>
  obtain ⟨k, hk, rfl, ha, hwr⟩ := hrel
  subst hwr
  have HA : Hid (∀ s ∈ l.take k, (s == n) = false) := ha
  clear ha
  by_cases hlt : k < l.length
  ·have c0 := HD.out k hlt
   have HN : Hid (((l[k]'hlt) == n) = false → ∀ s ∈ l.take (k + 1), (s == n) = false) := fun h s hs => by
    rw [List.take_succ_eq_append_getElem hlt] at hs
    rcases List.mem_append.1 hs with hs | hs
    ·exact HA.out s hs
    ·rw [List.mem_singleton] at hs; rw [hs]; exact h
   have HH : Hid (((l[k]'hlt) == n) = true → atR l n = k) := fun h => by
    unfold atR
    have : l.findIdx? (fun s => s == n) = some k := by
     rw [List.findIdx?_eq_some_iff_getElem]
     refine ⟨hlt, h, fun j hj => ?_⟩
     have := HA.out (l[j]'(by omega)) (by rw [List.mem_iff_getElem]; exact ⟨j, by rw [List.length_take]; omega, by rw [List.getElem_take]⟩)
     simp only [this]
     decide
    rw [this]
   generalize l[k]'hlt = z at *
   have hki : (k : Int) < (l.length : Int) := by omega
   cases hz : (z == n) with
   | true =>
    have HQ : Hid (atR l n = k) := HH.out hz
    clear HN HH
    go_wp2
    go_ret
    exact ⟨ret_int HQ.out.symm, rfl⟩
   | false =>
    have HM : Hid (_) := HN.out hz
    clear HN HH
    go_wp2
    go_roundw
    case rel => exact ⟨k + 1, by omega, by go_num, HM.out, (by first | rfl | trivial)⟩
    case measure => simp [intOf]; omega
  ·have HQ : Hid (atR l n = -1) := by
    show _ = _
    unfold atR
    have : l.findIdx? (fun s => s == n) = none := by
     rw [List.findIdx?_eq_none_iff]
     exact fun s hs => HA.out s (by rw [List.take_of_length_le (by omega)]; exact hs)
    rw [this]
   go_wp2
   go_ret
   exact ⟨ret_int HQ.out.symm, rfl⟩
def isFl (k : Int) : Bool := (k == 5) || ((k == 8) || (k == 9))
set_option maxHeartbeats 800000 in
theorem isFlow_any (k : Int) (w : World) : Calls Tryz.prog 43 #[.int .i64 k] w fun e w' => e = .returned (.bool (isFl k)) ∧ w' = w := by
 unfold isFl
 cases h5 : (k == 5) with
 | true =>
  go_enter Tryz.func43, Tryz.ntmps43
  go_wp2
  go_ret
  exact ⟨rfl, rfl⟩
 | false =>
  cases h8 : (k == 8) with
  | true =>
   go_enter Tryz.func43, Tryz.ntmps43
   go_wp2
   go_ret
   exact ⟨rfl, rfl⟩
  | false =>
   cases h9 : (k == 9) with
   | true =>
    go_enter Tryz.func43, Tryz.ntmps43
    go_wp2
    go_ret
    exact ⟨rfl, rfl⟩
   | false =>
    go_enter Tryz.func43, Tryz.ntmps43
    go_wp2
    go_ret
    exact ⟨rfl, rfl⟩
abbrev kndL : List Int := [5, 6, 7, 8, 9, 11, 12, 13, 14]
theorem at_knd {B : Nat} {w2 : World} (hk : Bk B [.int .i64 5, .int .i64 6, .int .i64 7, .int .i64 8, .int .i64 9, .int .i64 11, .int .i64 12, .int .i64 13, .int .i64 14] w2) (n : Int) :
  Calls Tryz.prog 42 #[.slice (some ⟨B, 0, none⟩) kndL.length 9, .int .i64 n] w2 fun e w' => e = .returned (.int .i64 (atR kndL n)) ∧ w' = w2 :=
 at_any B 9 kndL n w2 (fun k h => by
  match k, h with
  | 0, _ => exact hk.c 0 rfl
  | 1, _ => exact hk.c 1 rfl
  | 2, _ => exact hk.c 2 rfl
  | 3, _ => exact hk.c 3 rfl
  | 4, _ => exact hk.c 4 rfl
  | 5, _ => exact hk.c 5 rfl
  | 6, _ => exact hk.c 6 rfl
  | 7, _ => exact hk.c 7 rfl
  | 8, _ => exact hk.c 8 rfl) (by decide)
structure Ab (w wr : World) (B : Nat) (a : Acn) (t : Sm) : Prop where
 ka : Bk (w.heap.size + 1) (acl a) wr
 kr : Bk (w.heap.size + 2) z7 wr
 ks : Bk B (sml t) wr
 kz : Bk (B + 1) z7 wr
 hi : w.heap.size + 3 ≤ B
 sin : SmIn wr t
 nil : SmN t
 apart : SmX [B, w.heap.size + 2] t
 below : Below w.heap.size w wr
theorem Ab.later {w wr w1 : World} {B : Nat} {a : Acn} {t : Sm} (h : Ab w wr B a t) (hb : Below wr.heap.size wr w1) : Ab w w1 B a t :=
 ⟨h.ka.later hb, h.kr.later hb, h.ks.later hb, h.kz.later hb, h.hi, h.sin.next hb, h.nil, h.apart, h.below.trans (hb.mono h.below.size)⟩
abbrev kobj : Obj := .cells #[.int .i64 5, .int .i64 6, .int .i64 7, .int .i64 8, .int .i64 9, .int .i64 11, .int .i64 12, .int .i64 13, .int .i64 14] 3
def ApOk (w : World) (l : List Sit) (s : Sm) (a : Acn) (e : Ending) (w' : World) : Prop := ∃ y : Sm, e = .returned (.tuple #[smv y, .int .i64 (applyR l s.st a).2]) ∧ y.st = (applyR l s.st a).1 ∧ SmIn w' y ∧ Below w.heap.size w w'
structure ApIn (w : World) (ao : Option Addr) (cap : Nat) (l : List Sit) (s : Sm) (a : Acn) : Prop where
 deck : Dk w ao cap l
 dc : dchk l = 0
 may : May l s.st
 yes : mayS l s.st = true
 sin : SmIn w s
 nil : SmN s
 lab : a.label.size ≤ maxLen
theorem apIn_lens {w : World} {ao : Option Addr} {cap : Nat} {l : List Sit} {s : Sm} {a : Acn} (h : ApIn w ao cap l s a) : s.wl.length ≤ 4608 ∧ (∀ x ∈ s.wl, x.2.2.2.length ≤ 100) ∧ s.held.length ≤ 100 ∧ s.touched.length ≤ 100 := by
 refine ⟨?_, fun x hx => ?_, (may_lens h.may).1, (may_lens h.may).2.1⟩
 ·have := wells_few h.dc h.may
  rw [show s.st.wells = whp s.wl from rfl, whp_length] at this
  exact this
 ·have := (h.may.wells (x.1, x.2.2.2) (List.mem_map.2 ⟨x, hx, rfl⟩)).2.2
  exact (F.fref_in (mayHold_iff.1 this).1).1
theorem ap_first {w w0 w1 w2 : World} {a : Acn} {s t : Sm} (h0 : w0 = ((w.alloc (smo s)).alloc (aobj a)).alloc (.cells z7.toArray 27)) (hb : Below w0.heap.size w0 w1) (hin : SmIn w1 t) (hhi : SmHi w0.heap.size t) (hn : SmN t)
  (h2 : w2 = ((w1.alloc (smo t)).alloc (.cells z7.toArray 27)).alloc kobj) : Ab w w2 w1.heap.size a t ∧ Bk (w1.heap.size + 2) [.int .i64 5, .int .i64 6, .int .i64 7, .int .i64 8, .int .i64 9, .int .i64 11, .int .i64 12, .int .i64 13, .int .i64 14] w2 := by
 have a1 : Below w.heap.size w (w.alloc (smo s)) := (brf).alloc (Nat.le_refl _) _
 have a2 : Below (w.alloc (smo s)).heap.size (w.alloc (smo s)) ((w.alloc (smo s)).alloc (aobj a)) := (brf).alloc (Nat.le_refl _) _
 have a3 : Below ((w.alloc (smo s)).alloc (aobj a)).heap.size ((w.alloc (smo s)).alloc (aobj a)) w0 := by rw [h0]; exact (brf).alloc (Nat.le_refl _) _
 have s0 : w0.heap.size = w.heap.size + 3 := by rw [h0]; simp
 have c1 : Below w1.heap.size w1 (w1.alloc (smo t)) := (brf).alloc (Nat.le_refl _) _
 have c2 : Below (w1.alloc (smo t)).heap.size (w1.alloc (smo t)) ((w1.alloc (smo t)).alloc (.cells z7.toArray 27)) := (brf).alloc (Nat.le_refl _) _
 have c3 : Below ((w1.alloc (smo t)).alloc (.cells z7.toArray 27)).heap.size ((w1.alloc (smo t)).alloc (.cells z7.toArray 27)) w2 := by rw [h2]; exact (brf).alloc (Nat.le_refl _) _
 have hle := hb.size
 have h12 : Below w1.heap.size w1 w2 := (c1.trans (c2.mono (by simp))).trans (c3.mono (by simp; omega))
 have ka0 : Bk (w.heap.size + 1) (acl a) w0 := (Bk.new (w.alloc (smo s)) (acl a) 33 (w.heap.size + 1) (by simp)).later a3
 have kr0 : Bk (w.heap.size + 2) z7 w0 := by rw [h0]; exact Bk.new _ z7 27 (w.heap.size + 2) (by simp)
 refine ⟨⟨(ka0.later hb).later h12, (kr0.later hb).later h12, ?_, ?_, by omega, hin.next h12, hn, ?_, ?_⟩, ?_⟩
 ·exact ((Bk.new w1 (sml t) 27 w1.heap.size rfl).later c2).later c3
 ·exact (Bk.new (w1.alloc (smo t)) z7 27 (w1.heap.size + 1) (by simp)).later c3
 ·refine SmX.add ⟨?_, fun x hx => ?_, ?_, ?_⟩ hin (Nat.le_refl _)
  ·exact hhi.row.imp id fun h b hb2 hm => by have := h b hb2; simp at hm; omega
  ·exact (hhi.fl x hx).imp id fun h b hb2 hm => by have := h b hb2; simp at hm; omega
  ·exact hhi.held.imp id fun h b hb2 hm => by have := h b hb2; simp at hm; omega
  ·exact hhi.touched.imp id fun h b hb2 hm => by have := h b hb2; simp at hm; omega
 ·exact ((a1.trans (a2.mono (by simp))).trans (a3.mono (by simp; omega))).trans ((hb.trans (h12.mono hle)).mono (by omega))
 ·rw [h2]
  exact Bk.new _ [.int .i64 5, .int .i64 6, .int .i64 7, .int .i64 8, .int .i64 9, .int .i64 11, .int .i64 12, .int .i64 13, .int .i64 14] 3 (w1.heap.size + 2) (by simp)
theorem ap_ret {w wr : World} {B : Nat} {a : Acn} {t : Sm} (h : Ab w wr B a t) : SmIn (put7 wr (w.heap.size + 2) t) t ∧ Below w.heap.size w (put7 wr (w.heap.size + 2) t) :=
 ⟨h.sin.butL h.apart (butL_put7 (by simp) wr t), blw_put7 h.below (by omega) t⟩
theorem ap_zero {w wr : World} (h : Below w.heap.size w wr) : SmIn (put7 wr (w.heap.size + 2) sm0) sm0 ∧ Below w.heap.size w (put7 wr (w.heap.size + 2) sm0) :=
 ⟨SmIn.zero _, blw_put7 h (by omega) sm0⟩
theorem ap_err {l : List Sit} {s : Sta} {a : Acn} {e : Int} {x : Sta} (hm : mayS l s = true) (h : doA l s a = (x, e)) (he : e ≠ 0) : applyR l s a = (sta0, e) := by
 unfold applyR
 rw [if_pos hm, h]
 exact if_neg he
theorem ap_ok {l : List Sit} {s : Sta} {a : Acn} {x : Sta} (hm : mayS l s = true) (h : doA l s a = (x, 0)) : applyR l s a = (x, 0) := by
 unfold applyR
 rw [if_pos hm, h]
 rfl
end Go.Proofs.YtfadmpnpgiceeaaGreat

/- workcellref: ApplyAction at Fill. -/
namespace Go.Proofs.YtfadmpnpgiceeaaGreat
open Go.RowKit Go.Maps
theorem Bk.butL {bs : List Nat} {b : Nat} {cs : List Value} {w w1 : World} (h : Bk b cs w) (hb : ButL bs w w1) (hn : b ∉ bs) : Bk b cs w1 := h.same hb.size (hb.block b h.1 hn)
theorem Ab.box {w wr : World} {B : Nat} {a : Acn} {t t' : Sm} (h : Ab w wr B a t) (hin : SmIn wr t') (hn : SmN t') (hx : SmX [B, w.heap.size + 2] t') : Ab w (put7 wr B t') B a t' := by
 have hi := h.hi
 have hb : ButL [B] wr (put7 wr B t') := butL_put7 (by simp) wr t'
 refine ⟨h.ka.butL hb (by simp; omega), h.kr.butL hb (by simp; omega), ?_, h.kz.butL hb (by simp), hi, hin.butL hx (butL_put7 (by simp) wr t'), hn, hx, blw_put7 h.below (by omega) t'⟩
 exact ((((((h.ks.put 0 _).put 1 _).put 2 _).put 3 _).put 4 _).put 5 _).put 6 _
theorem ap_wells {w : World} {ao : Option Addr} {cap : Nat} {l : List Sit} {s t : Sm} {a : Acn} (h : ApIn w ao cap l s a) (ht : t.st = s.st) : t.wl.length ≤ 4608 ∧ (∀ x ∈ t.wl, x.2.2.2.length ≤ 1000000000) ∧ May l t.st := by
 have hm : May l t.st := by rw [ht]; exact h.may
 refine ⟨?_, fun x hx => ?_, hm⟩
 ·have := wells_few h.dc hm
  rw [show t.st.wells = whp t.wl from rfl, whp_length] at this
  exact this
 ·have := (hm.wells (x.1, x.2.2.2) (List.mem_map.2 ⟨x, hx, rfl⟩)).2.2
  have h2 : x.2.2.2.length ≤ 100 := (F.fref_in (mayHold_iff.1 this).1).1
  omega
theorem well_fref {l : List Sit} {s : Sta} (hd : dchk l = 0) (h : May l s) (p : Plc) : F.fref (wellF s.wells p) = 0 := (mayHold_iff.1 (h.well p (wellM_in hd p).1)).1
theorem fref_one {x : ByteArray} {v : Int} (hv : 1 ≤ v ∧ v ≤ 1000000000) : F.fref [(x, v)] = if lab x = true then 0 else 3 := by
 cases h : lab x with
 | true =>
  rw [F.fref_ok (by simp) (by simp [F.badL, F.bad1, h]; omega) (by simp [F.tot]; omega)]
  rfl
 | false =>
  rw [F.fref_bad (by simp) (by simp [F.badL, F.bad1, h])]
  simp [F.badL, F.bad1, h]
set_option maxHeartbeats 12800000 in
set_option maxRecDepth 100000 in
theorem apply_fill (ao : Option Addr) (cap : Nat) (l : List Sit) (s : Sm) (a : Acn) (w : World) (h : ApIn w ao cap l s a) (hk : a.kind = 5) :
  Calls Tryz.prog 16 #[.slice ao l.length cap, smv s, av a] w (ApOk w l s a) := by
 have HA : Hid (ApIn w ao cap l s a) := h
 obtain ⟨hlw, hlf, hlh, hlt⟩ := apIn_lens h
 have HLW : Hid (s.wl.length ≤ 4608) := hlw
 have HLF : Hid (∀ x ∈ s.wl, x.2.2.2.length ≤ 100) := hlf
 have HLH : Hid (s.held.length ≤ 100) := hlh
 have HLT : Hid (s.touched.length ≤ 100) := hlt
 have HK : Hid (a.kind = 5) := hk
 have HAK : Hid (atR kndL a.kind = 0) := by show _ = _; rw [hk]; rfl
 clear hk
 obtain ⟨w0, hw0⟩ : ∃ w0, w0 = ((w.alloc (smo s)).alloc (aobj a)).alloc (.cells z7.toArray 27) := ⟨_, rfl⟩
 have HB0 : Hid (Below w.heap.size w w0) := by show Below _ _ _; rw [hw0]; exact (((brf).alloc (Nat.le_refl _) _).alloc (by simp) _).alloc (by simp; omega) _
 have KA0 : Hid (Bk (w.heap.size + 1) (acl a) w0) := by show Bk _ _ _; rw [hw0]; exact (Bk.new (w.alloc (smo s)) (acl a) 33 (w.heap.size + 1) (by simp)).later ((brf).alloc (Nat.le_refl _) _)
 have HW0 : Hid (w0 = ((w.alloc (smo s)).alloc (aobj a)).alloc (.cells z7.toArray 27)) := hw0
 have HS0 : Hid (SmIn w0 s) := h.sin.next HB0.out
 clear h hlw hlf hlh hlt hw0
 go_enter Tryz.func16, Tryz.ntmps16
 go_wp2_with fail
 rw [← HW0.out]
 refine (stateOf_any s w0 HS0.out HA.out.nil (by have := HLW.out; omega) (fun x hx => by have := HLF.out x hx; omega) (by have := HLH.out; omega) (by have := HLT.out; omega)).mono ?_
 rintro e w1 ⟨t, rfl, hst, hin, hhi, hnn, hb1⟩
 obtain ⟨w2, hw2⟩ : ∃ w2, w2 = ((w1.alloc (smo t)).alloc (.cells z7.toArray 27)).alloc kobj := ⟨_, rfl⟩
 obtain ⟨hab, hkk2⟩ := ap_first HW0.out hb1 hin hhi hnn hw2
 have HST : Hid (t.st = s.st) := hst
 have HABw2 : Hid (Ab w w2 w1.heap.size a t) := hab
 have KK2 : Hid (Bk (w1.heap.size + 2) [.int .i64 5, .int .i64 6, .int .i64 7, .int .i64 8, .int .i64 9, .int .i64 11, .int .i64 12, .int .i64 13, .int .i64 14] w2) := hkk2
 have HW2 : Hid (w2 = ((w1.alloc (smo t)).alloc (.cells z7.toArray 27)).alloc kobj) := hw2
 have hsz1 : w.heap.size + 3 ≤ w1.heap.size := hab.hi
 have HAT := (show Hid _ from at_knd hkk2 a.kind)
 clear hst hab hkk2 hin hhi hnn hb1 hw2
 go_upto_region 4 with fail
 rw [← HW2.out]
 obtain ⟨a0, a1, a2, a3, a4, a5, a6, a7⟩ := (HABw2.out.ka).c8
 go_wp2_with fail
 clear a0 a1 a2 a3 a4 a5 a6 a7 HW2 HS0 KA0 HB0
 refine Calls.mono HAT.out ?_
 rintro e w3 ⟨rfl, hw3⟩
 have hw4 := hw3.symm
 clear hw3 HAT
 subst hw4
 rw [HAK.out]
 obtain ⟨a0, a1, a2, a3, a4, a5, a6, a7⟩ := (HABw2.out.ka).c8
 obtain ⟨s0, s1, s2, s3, s4, s5, s6⟩ := (HABw2.out.ks).c7
 rw [HK.out] at a0
 go_wp2_with fail
 clear a0 a1 a2 a3 a4 a5 a6 a7 s0 s1 s2 s3 s4 s5 s6
 refine (isFlow_any 5 w2).mono ?_
 rintro e w3 ⟨rfl, hw3⟩
 have hw4 := hw3.symm
 clear hw3
 subst hw4
 rw [show isFl 5 = true from rfl]
 have HYS : Hid (mayS l t.st = true) := by show _ = _; rw [HST.out]; exact HA.out.yes
 have HDO : Hid (doA l t.st a = fillA l t.st a) := by show _ = _; unfold doA; rw [HK.out]; rfl
 obtain ⟨a0, a1, a2, a3, a4, a5, a6, a7⟩ := (HABw2.out.ka).c8
 obtain ⟨s0, s1, s2, s3, s4, s5, s6⟩ := (HABw2.out.ks).c7
 rw [HK.out] at a0
 go_wp2_with fail
 clear a0 a1 a2 a3 a4 a5 a6 a7 s0 s1 s2 s3 s4 s5 s6
 refine (wellCap_any ao cap l a.pl w2 (HA.out.deck.next HABw2.out.below) HA.out.dc).mono ?_
 rintro e w5 ⟨rfl, hb⟩
 have HABw5 : Hid (Ab w w5 w1.heap.size a t) := HABw2.out.later hb
 clear hb HABw2
 obtain ⟨⟨mo, e0⟩, hM⟩ : ∃ x, wellM l a.pl = x := ⟨_, rfl⟩
 have HM : Hid (wellM l a.pl = (mo, e0)) := hM
 rw [hM]
 clear hM
 by_cases he : e0 = 0
 rotate_left
 ·have HQ : Hid (applyR l s.st a = (sta0, e0)) := by
   show _ = _
   rw [← HST.out]
   refine ap_err (x := t.st) HYS.out ?_ he
   rw [HDO.out]
   unfold fillA aimR
   rw [HM.out]
   simp [he]
  have h2 : (e0 == 0) = false := by simp [he]
  have h3 : (e0 != 0) = true := by simp [he]
  clear he
  obtain ⟨a0, a1, a2, a3, a4, a5, a6, a7⟩ := (HABw5.out.ka).c8
  obtain ⟨s0, s1, s2, s3, s4, s5, s6⟩ := (HABw5.out.ks).c7
  rw [HK.out] at a0
  have ltR := HABw5.out.kr.1
  have ltZ := HABw5.out.kz.1
  have hiB := HABw5.out.hi
  have neR : w.heap.size + 2 ≠ w1.heap.size + 1 := by omega
  obtain ⟨r0, r1, r2, r3, r4, r5, r6⟩ := (HABw5.out.kr).c7
  obtain ⟨rf0, rf1, rf2, rf3, rf4, rf5, rf6⟩ := (HABw5.out.kr).f7
  obtain ⟨z0, z1, z2, z3, z4, z5, z6⟩ := (HABw5.out.kz).c7
  go_wp2
  refine bodyPost_ret (v := .tuple #[smv sm0, .int .i64 e0]) (by simp [results, Tryz.results16, go_sem, r0, r1, r2, r3, r4, r5, r6]) rfl ⟨sm0, by rw [HQ.out], by rw [HQ.out]; rfl, (ap_zero HABw5.out.below).1, (ap_zero HABw5.out.below).2⟩
 subst he
 simp only
 obtain ⟨a0, a1, a2, a3, a4, a5, a6, a7⟩ := (HABw5.out.ka).c8
 obtain ⟨s0, s1, s2, s3, s4, s5, s6⟩ := (HABw5.out.ks).c7
 rw [HK.out] at a0
 go_wp2_with fail
 clear a0 a1 a2 a3 a4 a5 a6 a7 s0 s1 s2 s3 s4 s5 s6
 refine (rwithin_any 1 a.vol 1000000000 w5).mono ?_
 rintro e w6 ⟨rfl, hw6⟩
 have hw7 := hw6.symm
 clear hw6
 subst hw7
 cases hvl : inR 1 1000000000 a.vol with
 | false =>
  have HQ : Hid (applyR l s.st a = (sta0, 2)) := by
   show _ = _
   rw [← HST.out]
   refine ap_err (x := t.st) HYS.out ?_ (by decide)
   rw [HDO.out]
   unfold fillA aimR
   rw [HM.out, hvl]
   simp
  clear hvl
  obtain ⟨a0, a1, a2, a3, a4, a5, a6, a7⟩ := (HABw5.out.ka).c8
  obtain ⟨s0, s1, s2, s3, s4, s5, s6⟩ := (HABw5.out.ks).c7
  rw [HK.out] at a0
  have ltR := HABw5.out.kr.1
  have ltZ := HABw5.out.kz.1
  have hiB := HABw5.out.hi
  have neR : w.heap.size + 2 ≠ w1.heap.size + 1 := by omega
  obtain ⟨r0, r1, r2, r3, r4, r5, r6⟩ := (HABw5.out.kr).c7
  obtain ⟨rf0, rf1, rf2, rf3, rf4, rf5, rf6⟩ := (HABw5.out.kr).f7
  obtain ⟨z0, z1, z2, z3, z4, z5, z6⟩ := (HABw5.out.kz).c7
  go_wp2
  refine bodyPost_ret (v := .tuple #[smv sm0, .int .i64 2]) (by simp [results, Tryz.results16, go_sem, r0, r1, r2, r3, r4, r5, r6]) rfl ⟨sm0, by rw [HQ.out], by rw [HQ.out]; rfl, (ap_zero HABw5.out.below).1, (ap_zero HABw5.out.below).2⟩
 | true =>
 have HAIM : Hid (aimR l a = (mo, 0)) := by
  show _ = _
  unfold aimR
  rw [HM.out, hvl]
  rfl
 have HVL : Hid (1 ≤ a.vol ∧ a.vol ≤ 1000000000) := inR_iff.1 hvl
 clear hvl
 have HFO := (show Hid _ from fref_one (x := a.label) HVL.out)
 obtain ⟨a0, a1, a2, a3, a4, a5, a6, a7⟩ := (HABw5.out.ka).c8
 obtain ⟨s0, s1, s2, s3, s4, s5, s6⟩ := (HABw5.out.ks).c7
 rw [HK.out] at a0
 go_wp2_with fail
 clear a0 a1 a2 a3 a4 a5 a6 a7 s0 s1 s2 s3 s4 s5 s6
 refine (F.labelMay_any a.label w5 HA.out.lab).mono ?_
 rintro e w6 ⟨rfl, hw6⟩
 have hw7 := hw6.symm
 clear hw6
 subst hw7
 cases hlb : lab a.label with
 | false =>
  have HQ : Hid (applyR l s.st a = (sta0, 3)) := by
   show _ = _
   rw [← HST.out]
   refine ap_err (x := t.st) HYS.out ?_ (by decide)
   rw [HDO.out]
   unfold fillA
   rw [HAIM.out, HFO.out, hlb]
   simp
  clear hlb
  obtain ⟨a0, a1, a2, a3, a4, a5, a6, a7⟩ := (HABw5.out.ka).c8
  obtain ⟨s0, s1, s2, s3, s4, s5, s6⟩ := (HABw5.out.ks).c7
  rw [HK.out] at a0
  have ltR := HABw5.out.kr.1
  have ltZ := HABw5.out.kz.1
  have hiB := HABw5.out.hi
  have neR : w.heap.size + 2 ≠ w1.heap.size + 1 := by omega
  obtain ⟨r0, r1, r2, r3, r4, r5, r6⟩ := (HABw5.out.kr).c7
  obtain ⟨rf0, rf1, rf2, rf3, rf4, rf5, rf6⟩ := (HABw5.out.kr).f7
  obtain ⟨z0, z1, z2, z3, z4, z5, z6⟩ := (HABw5.out.kz).c7
  go_wp2
  refine bodyPost_ret (v := .tuple #[smv sm0, .int .i64 3]) (by simp [results, Tryz.results16, go_sem, r0, r1, r2, r3, r4, r5, r6]) rfl ⟨sm0, by rw [HQ.out], by rw [HQ.out]; rfl, (ap_zero HABw5.out.below).1, (ap_zero HABw5.out.below).2⟩
 | true =>
 have HF0 : Hid (F.fref [(a.label, a.vol)] = 0) := by show _ = _; rw [HFO.out, hlb]; rfl
 clear hlb HFO
 obtain ⟨w7, hw7⟩ : ∃ w7, w7 = w5.alloc (.cells #[.string a.label, .int .i64 a.vol] 64) := ⟨_, rfl⟩
 have b7 : Below w5.heap.size w5 w7 := by rw [hw7]; exact (brf).alloc (Nat.le_refl _) _
 have K7 : Hid (Bk w5.heap.size [.string a.label, .int .i64 a.vol] w7) := by show Bk _ _ _; rw [hw7]; exact Bk.new w5 [.string a.label, .int .i64 a.vol] 64 w5.heap.size rfl
 have HABw7 : Hid (Ab w w7 w1.heap.size a t) := HABw5.out.later b7
 have HFL7 : Hid (F.Fl w7 (some ⟨w5.heap.size, 0, none⟩) [(a.label, a.vol)]) := by
  refine ⟨fun q hq => by rw [List.mem_singleton] at hq; rw [hq]; exact HA.out.lab, .inr ⟨w5.heap.size, 0, rfl, K7.out.1, fun k hk => ?_⟩⟩
  match k, hk with
  | 0, _ => exact ⟨K7.out.c 0 rfl, K7.out.c 1 rfl⟩
 have HW7 : Hid (w7 = w5.alloc (.cells #[.string a.label, .int .i64 a.vol] 64)) := hw7
 obtain ⟨hq1, hq2, hq3⟩ := ap_wells HA.out HST.out
 have HADD := (show Hid _ from wellAdd_any [w1.heap.size, w.heap.size + 2] ao cap l t a.pl (some ⟨w5.heap.size, 0, none⟩) 1 [(a.label, a.vol)] w7 (fun k hk => by
  simp only [List.mem_cons, List.not_mem_nil, or_false] at hk
  rcases hk with rfl | rfl
  ·exact HABw7.out.ks.1
  ·exact HABw7.out.kr.1) (HA.out.deck.next HABw7.out.below) HA.out.dc HABw7.out.sin HABw7.out.nil HABw7.out.apart HFL7.out (fun h => by cases h) hq1 hq2 (well_fref HA.out.dc hq3 a.pl) HF0.out)
 have HTGE : Hid (doA l t.st a = if (togR (wellF t.st.wells a.pl) [(a.label, a.vol)] (wellM l a.pl).1).2 ≠ 0 then (t.st, (togR (wellF t.st.wells a.pl) [(a.label, a.vol)] (wellM l a.pl).1).2) else ({ t.st with wells := wset t.st.wells a.pl (togR (wellF t.st.wells a.pl) [(a.label, a.vol)] (wellM l a.pl).1).1 }, 0)) := by
  show _ = _
  rw [HDO.out]
  unfold fillA
  rw [HAIM.out, HF0.out, HM.out]
  simp
 clear b7 hw7 hq1 hq2 hq3 HFL7 HF0
 obtain ⟨a0, a1, a2, a3, a4, a5, a6, a7⟩ := (HABw5.out.ka).c8
 obtain ⟨s0, s1, s2, s3, s4, s5, s6⟩ := (HABw5.out.ks).c7
 rw [HK.out] at a0
 go_wp2_with fail
 clear a0 a1 a2 a3 a4 a5 a6 a7 s0 s1 s2 s3 s4 s5 s6
 rw [← HW7.out]
 refine Calls.mono HADD.out ?_
 rintro e w8 ⟨t', rfl, hst, hin, hnn, hxx, hb⟩
 have HABw8 : Hid (Ab w w8 w1.heap.size a t) := HABw7.out.later hb
 have HABX : Hid (Ab w (put7 w8 w1.heap.size t') w1.heap.size a t') := HABw8.out.box hin hnn hxx
 clear HADD hin hnn hxx hb HABw7 HABw5
 obtain ⟨e1, he1⟩ : ∃ e1, (togR (wellF t.st.wells a.pl) [(a.label, a.vol)] (wellM l a.pl).1).2 = e1 := ⟨_, rfl⟩
 rw [he1] at hst HTGE ⊢
 by_cases he : e1 = 0
 ·subst he
  have HQ : Hid (applyR l s.st a = (t'.st, 0)) := by
   show _ = _
   rw [← HST.out]
   refine ap_ok HYS.out ?_
   rw [HTGE.out, hst rfl]
   rfl
  clear hst he1 HTGE
  have ltR := HABw8.out.kr.1
  have ltB := HABw8.out.ks.1
  have ltZ := HABw8.out.kz.1
  have hiB := HABw8.out.hi
  have neR : w.heap.size + 2 ≠ w1.heap.size := by omega
  have neS : w1.heap.size ≠ w.heap.size + 2 := by omega
  have neT : w.heap.size + 2 ≠ w1.heap.size + 1 := by omega
  have neU : w1.heap.size + 1 ≠ w1.heap.size := by omega
  obtain ⟨r0, r1, r2, r3, r4, r5, r6⟩ := (HABw8.out.kr).c7
  obtain ⟨rf0, rf1, rf2, rf3, rf4, rf5, rf6⟩ := (HABw8.out.kr).f7
  obtain ⟨s0, s1, s2, s3, s4, s5, s6⟩ := (HABw8.out.ks).c7
  obtain ⟨sf0, sf1, sf2, sf3, sf4, sf5, sf6⟩ := (HABw8.out.ks).f7
  obtain ⟨z0, z1, z2, z3, z4, z5, z6⟩ := (HABw8.out.kz).c7
  go_wp2
  refine bodyPost_ret (v := .tuple #[smv t', .int .i64 0]) (by simp [results, Tryz.results16, go_sem, r0, r1, r2, r3, r4, r5, r6]) rfl ⟨t', by rw [HQ.out], by rw [HQ.out], (ap_ret HABX.out).1, (ap_ret HABX.out).2⟩
 ·have HQ : Hid (applyR l s.st a = (sta0, e1)) := by
   show _ = _
   rw [← HST.out]
   refine ap_err (x := t.st) HYS.out ?_ he
   rw [HTGE.out, if_pos he]
  have h2 : (e1 == 0) = false := by simp [he]
  have h3 : (e1 != 0) = true := by simp [he]
  clear hst he1 HTGE he
  have ltR := HABw8.out.kr.1
  have ltB := HABw8.out.ks.1
  have ltZ := HABw8.out.kz.1
  have hiB := HABw8.out.hi
  have neR : w.heap.size + 2 ≠ w1.heap.size := by omega
  have neS : w1.heap.size ≠ w.heap.size + 2 := by omega
  have neT : w.heap.size + 2 ≠ w1.heap.size + 1 := by omega
  have neU : w1.heap.size + 1 ≠ w1.heap.size := by omega
  obtain ⟨r0, r1, r2, r3, r4, r5, r6⟩ := (HABw8.out.kr).c7
  obtain ⟨rf0, rf1, rf2, rf3, rf4, rf5, rf6⟩ := (HABw8.out.kr).f7
  obtain ⟨s0, s1, s2, s3, s4, s5, s6⟩ := (HABw8.out.ks).c7
  obtain ⟨sf0, sf1, sf2, sf3, sf4, sf5, sf6⟩ := (HABw8.out.ks).f7
  obtain ⟨z0, z1, z2, z3, z4, z5, z6⟩ := (HABw8.out.kz).c7
  go_wp2
  refine bodyPost_ret (v := .tuple #[smv sm0, .int .i64 e1]) (by simp [results, Tryz.results16, go_sem, r0, r1, r2, r3, r4, r5, r6]) rfl ⟨sm0, by rw [HQ.out], by rw [HQ.out]; rfl, (ap_zero HABX.out.below).1, (ap_zero HABX.out.below).2⟩
end Go.Proofs.YtfadmpnpgiceeaaGreat

/- workcellref: ApplyAction at kinds that are none, at Tip, Drop, Warm, Hold, Shake, Wait. -/
namespace Go.Proofs.YtfadmpnpgiceeaaGreat
open Go.RowKit Go.Maps
theorem kind_none {l : List Sit} {s : Sta} {a : Acn} (h : atR kndL a.kind = -1) : doA l s a = (s, 6) := by
 have hn : ∀ x ∈ kndL, (x == a.kind) = false := by
  unfold atR at h
  cases e : kndL.findIdx? (fun y => y == a.kind) with
  | some k => rw [e] at h; simp only at h; omega
  | none => exact List.findIdx?_eq_none_iff.1 e
 have ne : ∀ x ∈ kndL, a.kind ≠ x := fun x hx e => by have := hn x hx; rw [e] at this; simp at this
 unfold doA
 rw [if_neg (ne 5 (by simp)), if_neg (ne 6 (by simp)), if_neg (ne 7 (by simp)), if_neg (ne 8 (by simp)), if_neg (ne 9 (by simp)), if_neg (ne 11 (by simp)), if_neg (ne 12 (by simp)), if_neg (ne 13 (by simp)), if_neg (ne 14 (by simp))]
theorem Ab.set {w wr : World} {B : Nat} {a : Acn} {t : Sm} (h : Ab w wr B a t) (k : Nat) (v : Value) (t' : Sm) (hs : sml t' = (sml t).set k v) (hin : SmIn wr t → SmIn wr t') (hn : SmN t') (hx : SmX [B, w.heap.size + 2] t') : Ab w (wr.setCell ⟨B, k, none⟩ v) B a t' := by
 have hi := h.hi
 refine ⟨h.ka.other (by omega) k v, h.kr.other (by omega) k v, ?_, h.kz.other (by omega) k v, hi, ?_, hn, hx, h.below.setCell (by simp only; omega) _⟩
 ·rw [hs]; exact h.ks.put k v
 ·exact (hin h.sin).butL hx (butL_set wr B k v (by simp))
set_option maxHeartbeats 12800000 in
set_option maxRecDepth 100000 in
theorem apply_none (ao : Option Addr) (cap : Nat) (l : List Sit) (s : Sm) (a : Acn) (w : World) (h : ApIn w ao cap l s a) (hk : atR kndL a.kind = -1) :
  Calls Tryz.prog 16 #[.slice ao l.length cap, smv s, av a] w (ApOk w l s a) := by
 have HA : Hid (ApIn w ao cap l s a) := h
 obtain ⟨hlw, hlf, hlh, hlt⟩ := apIn_lens h
 have HLW : Hid (s.wl.length ≤ 4608) := hlw
 have HLF : Hid (∀ x ∈ s.wl, x.2.2.2.length ≤ 100) := hlf
 have HLH : Hid (s.held.length ≤ 100) := hlh
 have HLT : Hid (s.touched.length ≤ 100) := hlt
 have HK : Hid (atR kndL a.kind = -1) := hk
 have HQ : Hid (applyR l s.st a = (sta0, 6)) := ap_err h.yes (kind_none hk) (by decide)
 clear hk
 obtain ⟨w0, hw0⟩ : ∃ w0, w0 = ((w.alloc (smo s)).alloc (aobj a)).alloc (.cells z7.toArray 27) := ⟨_, rfl⟩
 have HB0 : Hid (Below w.heap.size w w0) := by show Below _ _ _; rw [hw0]; exact (((brf).alloc (Nat.le_refl _) _).alloc (by simp) _).alloc (by simp; omega) _
 have KA0 : Hid (Bk (w.heap.size + 1) (acl a) w0) := by show Bk _ _ _; rw [hw0]; exact (Bk.new (w.alloc (smo s)) (acl a) 33 (w.heap.size + 1) (by simp)).later ((brf).alloc (Nat.le_refl _) _)
 have HW0 : Hid (w0 = ((w.alloc (smo s)).alloc (aobj a)).alloc (.cells z7.toArray 27)) := hw0
 have HS0 : Hid (SmIn w0 s) := h.sin.next HB0.out
 clear h hlw hlf hlh hlt hw0
 go_enter Tryz.func16, Tryz.ntmps16
 go_wp2_with fail
 rw [← HW0.out]
 refine (stateOf_any s w0 HS0.out HA.out.nil (by have := HLW.out; omega) (fun x hx => by have := HLF.out x hx; omega) (by have := HLH.out; omega) (by have := HLT.out; omega)).mono ?_
 rintro e w1 ⟨t, rfl, hst, hin, hhi, hnn, hb1⟩
 obtain ⟨w2, hw2⟩ : ∃ w2, w2 = ((w1.alloc (smo t)).alloc (.cells z7.toArray 27)).alloc kobj := ⟨_, rfl⟩
 obtain ⟨hab, hkk2⟩ := ap_first HW0.out hb1 hin hhi hnn hw2
 have HST : Hid (t.st = s.st) := hst
 have HABw2 : Hid (Ab w w2 w1.heap.size a t) := hab
 have KK2 : Hid (Bk (w1.heap.size + 2) [.int .i64 5, .int .i64 6, .int .i64 7, .int .i64 8, .int .i64 9, .int .i64 11, .int .i64 12, .int .i64 13, .int .i64 14] w2) := hkk2
 have HW2 : Hid (w2 = ((w1.alloc (smo t)).alloc (.cells z7.toArray 27)).alloc kobj) := hw2
 have hsz1 : w.heap.size + 3 ≤ w1.heap.size := hab.hi
 have HAT := (show Hid _ from at_knd hkk2 a.kind)
 clear hst hab hkk2 hin hhi hnn hb1 hw2
 go_upto_region 4 with fail
 rw [← HW2.out]
 obtain ⟨a0, a1, a2, a3, a4, a5, a6, a7⟩ := (HABw2.out.ka).c8
 go_wp2_with fail
 clear a0 a1 a2 a3 a4 a5 a6 a7 HW2 HS0 KA0 HB0
 refine Calls.mono HAT.out ?_
 rintro e w3 ⟨rfl, hw3⟩
 have hw4 := hw3.symm
 clear hw3 HAT
 subst hw4
 rw [HK.out]
 obtain ⟨a0, a1, a2, a3, a4, a5, a6, a7⟩ := (HABw2.out.ka).c8
 obtain ⟨s0, s1, s2, s3, s4, s5, s6⟩ := (HABw2.out.ks).c7
 have ltR := HABw2.out.kr.1
 have ltZ := HABw2.out.kz.1
 have hiB := HABw2.out.hi
 have neR : w.heap.size + 2 ≠ w1.heap.size + 1 := by omega
 obtain ⟨r0, r1, r2, r3, r4, r5, r6⟩ := (HABw2.out.kr).c7
 obtain ⟨rf0, rf1, rf2, rf3, rf4, rf5, rf6⟩ := (HABw2.out.kr).f7
 obtain ⟨z0, z1, z2, z3, z4, z5, z6⟩ := (HABw2.out.kz).c7
 go_wp2
 refine bodyPost_ret (v := .tuple #[smv sm0, .int .i64 6]) (by simp [results, Tryz.results16, go_sem, r0, r1, r2, r3, r4, r5, r6]) rfl ⟨sm0, by rw [HQ.out], by rw [HQ.out]; rfl, (ap_zero HABw2.out.below).1, (ap_zero HABw2.out.below).2⟩
set_option linter.unusedVariables false in
def taV (ao : Option Addr) (nl cap B nt : Nat) (us : Int) (d : Nat) (v : Value) (_ : World) : Prop :=
 match d with
 | 112 => v = .pointer (some ⟨B, 4, none⟩)
 | 113 => v = .int .i64 us
 | 114 => v = .slice ao nl cap
 | 115 => ∃ aoV capV, v = .slice aoV nt capV
 | 116 => v = .int .i64 (nt : Int)
 | 117 => v = .bool true
 | _ => True
set_option linter.unusedVariables false in
theorem taV_mono (ao : Option Addr) (nl cap B nt : Nat) (us : Int) (d : Nat) (v : Value) (w w' : World) (h : taV ao nl cap B nt us d v w) (_ : Below w.heap.size w w') : taV ao nl cap B nt us d v w' := h
set_option linter.unusedVariables false in
def tbV (ao : Option Addr) (nl cap B nt : Nat) (us : Int) (d : Nat) (v : Value) (_ : World) : Prop :=
 match d with
 | 112 => v = .pointer (some ⟨B, 4, none⟩)
 | 113 => v = .int .i64 us
 | 114 => v = .slice ao nl cap
 | 115 => ∃ aoV capV, v = .slice aoV nt capV
 | 116 => v = .int .i64 (nt : Int)
 | 117 => v = .bool false
 | _ => True
set_option linter.unusedVariables false in
theorem tbV_mono (ao : Option Addr) (nl cap B nt : Nat) (us : Int) (d : Nat) (v : Value) (w w' : World) (h : tbV ao nl cap B nt us d v w) (_ : Below w.heap.size w w') : tbV ao nl cap B nt us d v w' := h
set_option maxHeartbeats 12800000 in
set_option maxRecDepth 100000 in
theorem apply_tip (ao : Option Addr) (cap : Nat) (l : List Sit) (s : Sm) (a : Acn) (w : World) (h : ApIn w ao cap l s a) (hk : a.kind = 6) :
  Calls Tryz.prog 16 #[.slice ao l.length cap, smv s, av a] w (ApOk w l s a) := by
 have HA : Hid (ApIn w ao cap l s a) := h
 obtain ⟨hlw, hlf, hlh, hlt⟩ := apIn_lens h
 have HLW : Hid (s.wl.length ≤ 4608) := hlw
 have HLF : Hid (∀ x ∈ s.wl, x.2.2.2.length ≤ 100) := hlf
 have HLH : Hid (s.held.length ≤ 100) := hlh
 have HLT : Hid (s.touched.length ≤ 100) := hlt
 have HK : Hid (a.kind = 6) := hk
 have HAK : Hid (atR kndL a.kind = 1) := by show _ = _; rw [hk]; rfl
 clear hk
 obtain ⟨w0, hw0⟩ : ∃ w0, w0 = ((w.alloc (smo s)).alloc (aobj a)).alloc (.cells z7.toArray 27) := ⟨_, rfl⟩
 have HB0 : Hid (Below w.heap.size w w0) := by show Below _ _ _; rw [hw0]; exact (((brf).alloc (Nat.le_refl _) _).alloc (by simp) _).alloc (by simp; omega) _
 have KA0 : Hid (Bk (w.heap.size + 1) (acl a) w0) := by show Bk _ _ _; rw [hw0]; exact (Bk.new (w.alloc (smo s)) (acl a) 33 (w.heap.size + 1) (by simp)).later ((brf).alloc (Nat.le_refl _) _)
 have HW0 : Hid (w0 = ((w.alloc (smo s)).alloc (aobj a)).alloc (.cells z7.toArray 27)) := hw0
 have HS0 : Hid (SmIn w0 s) := h.sin.next HB0.out
 clear h hlw hlf hlh hlt hw0
 go_enter Tryz.func16, Tryz.ntmps16
 go_wp2_with fail
 rw [← HW0.out]
 refine (stateOf_any s w0 HS0.out HA.out.nil (by have := HLW.out; omega) (fun x hx => by have := HLF.out x hx; omega) (by have := HLH.out; omega) (by have := HLT.out; omega)).mono ?_
 rintro e w1 ⟨t, rfl, hst, hin, hhi, hnn, hb1⟩
 obtain ⟨w2, hw2⟩ : ∃ w2, w2 = ((w1.alloc (smo t)).alloc (.cells z7.toArray 27)).alloc kobj := ⟨_, rfl⟩
 obtain ⟨hab, hkk2⟩ := ap_first HW0.out hb1 hin hhi hnn hw2
 have HST : Hid (t.st = s.st) := hst
 have HABw2 : Hid (Ab w w2 w1.heap.size a t) := hab
 have KK2 : Hid (Bk (w1.heap.size + 2) [.int .i64 5, .int .i64 6, .int .i64 7, .int .i64 8, .int .i64 9, .int .i64 11, .int .i64 12, .int .i64 13, .int .i64 14] w2) := hkk2
 have HW2 : Hid (w2 = ((w1.alloc (smo t)).alloc (.cells z7.toArray 27)).alloc kobj) := hw2
 have hsz1 : w.heap.size + 3 ≤ w1.heap.size := hab.hi
 have HAT := (show Hid _ from at_knd hkk2 a.kind)
 clear hst hab hkk2 hin hhi hnn hb1 hw2
 go_upto_region 4 with fail
 rw [← HW2.out]
 obtain ⟨a0, a1, a2, a3, a4, a5, a6, a7⟩ := (HABw2.out.ka).c8
 go_wp2_with fail
 clear a0 a1 a2 a3 a4 a5 a6 a7 HW2 HS0 KA0 HB0
 refine Calls.mono HAT.out ?_
 rintro e w3 ⟨rfl, hw3⟩
 have hw4 := hw3.symm
 clear hw3 HAT
 subst hw4
 rw [HAK.out]
 obtain ⟨a0, a1, a2, a3, a4, a5, a6, a7⟩ := (HABw2.out.ka).c8
 obtain ⟨s0, s1, s2, s3, s4, s5, s6⟩ := (HABw2.out.ks).c7
 rw [HK.out] at a0
 go_wp2_with fail
 clear a0 a1 a2 a3 a4 a5 a6 a7 s0 s1 s2 s3 s4 s5 s6
 refine (isFlow_any 6 w2).mono ?_
 rintro e w3 ⟨rfl, hw3⟩
 have hw4 := hw3.symm
 clear hw3
 subst hw4
 rw [show isFl 6 = false from rfl]
 have HDO : Hid (doA l t.st a = tipA l t.st) := by show _ = _; unfold doA; rw [HK.out]; rfl
 have HYS : Hid (mayS l t.st = true) := by show _ = _; rw [HST.out]; exact HA.out.yes
 cases htp : t.tip with
 | true =>
  have HQ : Hid (applyR l s.st a = (sta0, 12)) := by
   show _ = _
   rw [← HST.out]
   refine ap_err (x := t.st) HYS.out ?_ (by decide)
   rw [HDO.out]
   unfold tipA
   rw [if_pos (show t.st.tip = true from htp)]
  obtain ⟨a0, a1, a2, a3, a4, a5, a6, a7⟩ := (HABw2.out.ka).c8
  obtain ⟨s0, s1, s2, s3, s4, s5, s6⟩ := (HABw2.out.ks).c7
  rw [HK.out] at a0
  rw [htp] at s1
  clear htp
  have ltR := HABw2.out.kr.1
  have ltZ := HABw2.out.kz.1
  have hiB := HABw2.out.hi
  have neR : w.heap.size + 2 ≠ w1.heap.size + 1 := by omega
  obtain ⟨r0, r1, r2, r3, r4, r5, r6⟩ := (HABw2.out.kr).c7
  obtain ⟨rf0, rf1, rf2, rf3, rf4, rf5, rf6⟩ := (HABw2.out.kr).f7
  obtain ⟨z0, z1, z2, z3, z4, z5, z6⟩ := (HABw2.out.kz).c7
  go_wp2
  refine bodyPost_ret (v := .tuple #[smv sm0, .int .i64 12]) (by simp [results, Tryz.results16, go_sem, r0, r1, r2, r3, r4, r5, r6]) rfl ⟨sm0, by rw [HQ.out], by rw [HQ.out]; rfl, (ap_zero HABw2.out.below).1, (ap_zero HABw2.out.below).2⟩
 | false =>
  have KS : Hid (Bk w1.heap.size (sml t) w2) := HABw2.out.ks
  have HTO : Hid (∀ W, Below w2.heap.size w2 W → Calls Tryz.prog 38 #[.slice ao l.length cap] W fun e w' => ∃ v, e = .returned v ∧ (∃ aoV capV, v = .slice aoV (tipsL l).length capV) ∧ Below W.heap.size W w') := fun W hW => (tipsOf_any ao cap l W ((HA.out.deck.next HABw2.out.below).next hW) HA.out.dc).mono fun e w' ⟨v, he, ho, hb⟩ => ⟨v, he, ho.shape, hb⟩
  obtain ⟨a0, a1, a2, a3, a4, a5, a6, a7⟩ := (HABw2.out.ka).c8
  obtain ⟨s0, s1, s2, s3, s4, s5, s6⟩ := (HABw2.out.ks).c7
  rw [HK.out] at a0
  rw [htp] at s1
  go_wp2_with fail
  clear a0 a1 a2 a3 a4 a5 a6 a7 s0 s1 s2 s3 s4 s5 s6
  rename_i KK hkk
  have HKK := (show Hid _ from hkk)
  clear hkk
  cases hus : (t.used == ((tipsL l).length : Int)) with
  | true =>
   have HQ : Hid (applyR l s.st a = (sta0, 19)) := by
    show _ = _
    rw [← HST.out]
    refine ap_err (x := t.st) HYS.out ?_ (by decide)
    rw [HDO.out]
    unfold tipA
    have hus2 : t.used = ((tipsL l).length : Int) := by simpa using hus
    rw [if_neg (show ¬ t.st.tip = true by rw [show t.st.tip = t.tip from rfl, htp]; decide), if_pos (show ((tipsL l).length : Int) ≤ t.st.used by rw [show t.st.used = t.used from rfl]; omega)]
   refine region_inv [zf,zf,zf,zf,zf,zf,zf,zf,zf,zf,zf,zf,zf,zf,zf,zf,zf,zf,zf,zf,zf,zf,zf,zf,zf,zf,zf,zf,zf,zf,zf,zf,zf,zf,zf,zf,zf,zf,zf,zf,zf,zf,zf,zf,zf,zf,zf,zf,zf,zf,zf,zf,zf,zf,zf,zf,zf,zf,zf,zf,zf,zf,zf,zf,zf,zf,zf,zf,zf,zf,zf,zf,zf,zf,zf,zf,zf,zf,zf,zf,zf,zf,zf,zf,zf,zf,zf,zf,zf,zf,zf,zf,zf,zf,zf,zf,zf,zf,zf,zf,zf,zf,zf,zf,zf,zf,zf,zf,zf,zf,zf,zf,zt,zt,zt,zt,zt,zt,zf,zf,zf,zf,zf,zf,zf,zf,zf,zf,zf,zf,zf,zf,zf,zf,zf,zf,zf,zf,zf,zf,zf,zf,zf,zf,zf,zf,zf,zf,zf,zf,zf,zf,zf,zf,zf,zf,zf,zf,zf,zf,zf,zf,zf,zf,zf,zf,zf,zf,zf,zf,zf,zf,zf,zf,zf,zf,zf,zf,zf,zf,zf,zf,zf,zf,zf,zf,zf,zf,zf,zf,zf,zf,zf,zf,zf,zf,zf,zf,zf,zf,zf,zf,zf,zf,zf,zf,zf,zf,zf,zf,zf,zf,zf,zf,zf,zf,zf,zf,zf,zf,zf,zf,zf,zf,zf,zf,zf,zf,zf,zf,zf,zf,zf,zf,zf,zf,zf,zf,zf,zf,zf,zf,zf,zf,zf,zf,zf,zf,zf,zf,zf,zf,zf,zf,zf,zf,zf,zf,zf,zf,zf,zf,zf,zf,zf,zf,zf]
    [(112, [], none), (113, [112], none), (114, [], none), (115, [114], none), (116, [115], none), (117, [113, 116], none)]
    (taV ao l.length cap w1.heap.size (tipsL l).length t.used) (by kernel_rfl) (by kernel_rfl) (taV_mono ao l.length cap w1.heap.size (tipsL l).length t.used) ?_ ?_
   ·refine ⟨?_, ?_, ?_, ?_, ?_, ?_, trivial⟩
    ·intro f wA hb _ K hK
     simp only [over, overL, Nat.reduceAdd]
     go_simp
     exact hK _ _ ⟨_, rfl, by simp only [over, overL, Nat.reduceAdd]; rfl, brf⟩
    ·rintro f wA hb ⟨(h112 : f 112 = _), _⟩ K hK
     have q4 := (KS.out.later hb).c 4 rfl
     simp only [over, overL, Nat.reduceAdd, h112]
     go_simp
     exact hK _ _ ⟨_, rfl, by simp only [over, overL, Nat.reduceAdd, h112]; rfl, brf⟩
    ·intro f wA hb _ K hK
     simp only [over, overL, Nat.reduceAdd]
     go_simp
     exact hK _ _ ⟨_, rfl, by simp only [over, overL, Nat.reduceAdd]; rfl, brf⟩
    ·rintro f wA hb ⟨(h114 : f 114 = _), _⟩ K hK
     simp only [over, overL, Nat.reduceAdd, h114]
     go_simp
     refine ((HTO.out wA hb).mono) ?_
     rintro e w2 ⟨v, rfl, hsh, hb2⟩
     exact hK _ _ ⟨_, hsh, by simp only [over, overL, Nat.reduceAdd, h114]; rfl, hb2⟩
    ·intro f wA hb ⟨h115, _⟩ K hK
     obtain ⟨aoV, capV, h115⟩ := h115
     simp only [over, overL, Nat.reduceAdd, h115]
     go_simp
     exact hK _ _ ⟨_, rfl, by simp only [over, overL, Nat.reduceAdd, h115]; rfl, brf⟩
    ·rintro f wA hb ⟨(h113 : f 113 = _), (h116 : f 116 = _), _⟩ K hK
     simp only [over, overL, Nat.reduceAdd, h113, h116]
     go_simp
     exact hK _ _ ⟨_, rfl, by simp only [over, overL, Nat.reduceAdd, h113, h116]; rfl, brf⟩
   intro f w5 hbn hv
   have h117 : f 117 = .bool true := hv.2.2.2.2.2.1
   have HABw5 : Hid (Ab w w5 w1.heap.size a t) := HABw2.out.later hbn
   clear hbn hv
   simp only [over, overL, Nat.reduceAdd, h117, arr_mk]
   clear h117
   refine HKK.out _ _ ?_
   have ltR := HABw5.out.kr.1
   have ltZ := HABw5.out.kz.1
   have hiB := HABw5.out.hi
   have neR : w.heap.size + 2 ≠ w1.heap.size + 1 := by omega
   obtain ⟨r0, r1, r2, r3, r4, r5, r6⟩ := (HABw5.out.kr).c7
   obtain ⟨rf0, rf1, rf2, rf3, rf4, rf5, rf6⟩ := (HABw5.out.kr).f7
   obtain ⟨z0, z1, z2, z3, z4, z5, z6⟩ := (HABw5.out.kz).c7
   go_wp2
   refine bodyPost_ret (v := .tuple #[smv sm0, .int .i64 19]) (by simp [results, Tryz.results16, go_sem, r0, r1, r2, r3, r4, r5, r6]) rfl ⟨sm0, by rw [HQ.out], by rw [HQ.out]; rfl, (ap_zero HABw5.out.below).1, (ap_zero HABw5.out.below).2⟩
  | false =>
   have hne : t.used ≠ ((tipsL l).length : Int) := by simpa using hus
   have hlt : t.used < ((tipsL l).length : Int) ∧ 0 ≤ t.used := by
    have := HA.out.may.take
    rw [← HST.out] at this
    unfold mayTake at this
    rw [if_neg (show ¬ t.st.tip = true by rw [show t.st.tip = t.tip from rfl, htp]; decide)] at this
    simp only [Bool.and_eq_true] at this
    have h1 := inR_iff.1 this.1
    rw [show t.st.used = t.used from rfl] at h1
    omega
   have hfew := tips_few HA.out.dc
   have hwp : IntKind.i64.wrap (t.used + 1) = t.used + 1 := wrap_in (by omega) (by omega)
   have HQ : Hid (applyR l s.st a = ({ t.st with tip := true, used := t.used + 1 }, 0)) := by
    show _ = _
    rw [← HST.out]
    refine ap_ok HYS.out ?_
    rw [HDO.out]
    unfold tipA
    rw [if_neg (show ¬ t.st.tip = true by rw [show t.st.tip = t.tip from rfl, htp]; decide), if_neg (show ¬ ((tipsL l).length : Int) ≤ t.st.used by rw [show t.st.used = t.used from rfl]; omega)]
    rfl
   clear htp hne hlt hfew
   refine region_inv [zf,zf,zf,zf,zf,zf,zf,zf,zf,zf,zf,zf,zf,zf,zf,zf,zf,zf,zf,zf,zf,zf,zf,zf,zf,zf,zf,zf,zf,zf,zf,zf,zf,zf,zf,zf,zf,zf,zf,zf,zf,zf,zf,zf,zf,zf,zf,zf,zf,zf,zf,zf,zf,zf,zf,zf,zf,zf,zf,zf,zf,zf,zf,zf,zf,zf,zf,zf,zf,zf,zf,zf,zf,zf,zf,zf,zf,zf,zf,zf,zf,zf,zf,zf,zf,zf,zf,zf,zf,zf,zf,zf,zf,zf,zf,zf,zf,zf,zf,zf,zf,zf,zf,zf,zf,zf,zf,zf,zf,zf,zf,zf,zt,zt,zt,zt,zt,zt,zf,zf,zf,zf,zf,zf,zf,zf,zf,zf,zf,zf,zf,zf,zf,zf,zf,zf,zf,zf,zf,zf,zf,zf,zf,zf,zf,zf,zf,zf,zf,zf,zf,zf,zf,zf,zf,zf,zf,zf,zf,zf,zf,zf,zf,zf,zf,zf,zf,zf,zf,zf,zf,zf,zf,zf,zf,zf,zf,zf,zf,zf,zf,zf,zf,zf,zf,zf,zf,zf,zf,zf,zf,zf,zf,zf,zf,zf,zf,zf,zf,zf,zf,zf,zf,zf,zf,zf,zf,zf,zf,zf,zf,zf,zf,zf,zf,zf,zf,zf,zf,zf,zf,zf,zf,zf,zf,zf,zf,zf,zf,zf,zf,zf,zf,zf,zf,zf,zf,zf,zf,zf,zf,zf,zf,zf,zf,zf,zf,zf,zf,zf,zf,zf,zf,zf,zf,zf,zf,zf,zf,zf,zf,zf,zf,zf,zf,zf,zf]
    [(112, [], none), (113, [112], none), (114, [], none), (115, [114], none), (116, [115], none), (117, [113, 116], none)]
    (tbV ao l.length cap w1.heap.size (tipsL l).length t.used) (by kernel_rfl) (by kernel_rfl) (tbV_mono ao l.length cap w1.heap.size (tipsL l).length t.used) ?_ ?_
   ·refine ⟨?_, ?_, ?_, ?_, ?_, ?_, trivial⟩
    ·intro f wA hb _ K hK
     simp only [over, overL, Nat.reduceAdd]
     go_simp
     exact hK _ _ ⟨_, rfl, by simp only [over, overL, Nat.reduceAdd]; rfl, brf⟩
    ·rintro f wA hb ⟨(h112 : f 112 = _), _⟩ K hK
     have q4 := (KS.out.later hb).c 4 rfl
     simp only [over, overL, Nat.reduceAdd, h112]
     go_simp
     exact hK _ _ ⟨_, rfl, by simp only [over, overL, Nat.reduceAdd, h112]; rfl, brf⟩
    ·intro f wA hb _ K hK
     simp only [over, overL, Nat.reduceAdd]
     go_simp
     exact hK _ _ ⟨_, rfl, by simp only [over, overL, Nat.reduceAdd]; rfl, brf⟩
    ·rintro f wA hb ⟨(h114 : f 114 = _), _⟩ K hK
     simp only [over, overL, Nat.reduceAdd, h114]
     go_simp
     refine ((HTO.out wA hb).mono) ?_
     rintro e w2 ⟨v, rfl, hsh, hb2⟩
     exact hK _ _ ⟨_, hsh, by simp only [over, overL, Nat.reduceAdd, h114]; rfl, hb2⟩
    ·intro f wA hb ⟨h115, _⟩ K hK
     obtain ⟨aoV, capV, h115⟩ := h115
     simp only [over, overL, Nat.reduceAdd, h115]
     go_simp
     exact hK _ _ ⟨_, rfl, by simp only [over, overL, Nat.reduceAdd, h115]; rfl, brf⟩
    ·rintro f wA hb ⟨(h113 : f 113 = _), (h116 : f 116 = _), _⟩ K hK
     simp only [over, overL, Nat.reduceAdd, h113, h116]
     go_simp
     exact hK _ _ ⟨_, rfl, by simp only [over, overL, Nat.reduceAdd, h113, h116]; rfl, brf⟩
   intro f w5 hbn hv
   have h117 : f 117 = .bool false := hv.2.2.2.2.2.1
   have HABw5 : Hid (Ab w w5 w1.heap.size a t) := HABw2.out.later hbn
   clear hbn hv
   simp only [over, overL, Nat.reduceAdd, h117, arr_mk]
   clear h117
   refine HKK.out _ _ ?_
   have HABX : Hid (Ab w ((w5.setCell ⟨w1.heap.size, 1, none⟩ (.bool true)).setCell ⟨w1.heap.size, 4, none⟩ (.int .i64 (t.used + 1))) w1.heap.size a { t with tip := true, used := t.used + 1 }) :=
    (HABw5.out.set 1 (.bool true) { t with tip := true } rfl (fun h => ⟨h.wells, h.held, h.touched⟩) ⟨HABw5.out.nil.fl, HABw5.out.nil.held, HABw5.out.nil.touched⟩ ⟨HABw5.out.apart.row, HABw5.out.apart.fl, HABw5.out.apart.held, HABw5.out.apart.touched⟩).set 4 (.int .i64 (t.used + 1)) { t with tip := true, used := t.used + 1 } rfl (fun h => ⟨h.wells, h.held, h.touched⟩) ⟨HABw5.out.nil.fl, HABw5.out.nil.held, HABw5.out.nil.touched⟩ ⟨HABw5.out.apart.row, HABw5.out.apart.fl, HABw5.out.apart.held, HABw5.out.apart.touched⟩
   have ltR := HABw5.out.kr.1
   have ltB := HABw5.out.ks.1
   have hiB := HABw5.out.hi
   have neR : w.heap.size + 2 ≠ w1.heap.size := by omega
   have neS : w1.heap.size ≠ w.heap.size + 2 := by omega
   obtain ⟨r0, r1, r2, r3, r4, r5, r6⟩ := (HABw5.out.kr).c7
   obtain ⟨rf0, rf1, rf2, rf3, rf4, rf5, rf6⟩ := (HABw5.out.kr).f7
   obtain ⟨s0, s1, s2, s3, s4, s5, s6⟩ := (HABw5.out.ks).c7
   obtain ⟨sf0, sf1, sf2, sf3, sf4, sf5, sf6⟩ := (HABw5.out.ks).f7
   go_wp2
   refine bodyPost_ret (v := .tuple #[smv { t with tip := true, used := t.used + 1 }, .int .i64 0]) (by simp [results, Tryz.results16, go_sem, r0, r1, r2, r3, r4, r5, r6]) rfl ⟨{ t with tip := true, used := t.used + 1 }, by rw [HQ.out], by rw [HQ.out]; rfl, (ap_ret HABX.out).1, (ap_ret HABX.out).2⟩
set_option maxHeartbeats 12800000 in
set_option maxRecDepth 100000 in
theorem apply_drop (ao : Option Addr) (cap : Nat) (l : List Sit) (s : Sm) (a : Acn) (w : World) (h : ApIn w ao cap l s a) (hk : a.kind = 7) :
  Calls Tryz.prog 16 #[.slice ao l.length cap, smv s, av a] w (ApOk w l s a) := by
 have HA : Hid (ApIn w ao cap l s a) := h
 obtain ⟨hlw, hlf, hlh, hlt⟩ := apIn_lens h
 have HLW : Hid (s.wl.length ≤ 4608) := hlw
 have HLF : Hid (∀ x ∈ s.wl, x.2.2.2.length ≤ 100) := hlf
 have HLH : Hid (s.held.length ≤ 100) := hlh
 have HLT : Hid (s.touched.length ≤ 100) := hlt
 have HK : Hid (a.kind = 7) := hk
 have HAK : Hid (atR kndL a.kind = 2) := by show _ = _; rw [hk]; rfl
 clear hk
 obtain ⟨w0, hw0⟩ : ∃ w0, w0 = ((w.alloc (smo s)).alloc (aobj a)).alloc (.cells z7.toArray 27) := ⟨_, rfl⟩
 have HB0 : Hid (Below w.heap.size w w0) := by show Below _ _ _; rw [hw0]; exact (((brf).alloc (Nat.le_refl _) _).alloc (by simp) _).alloc (by simp; omega) _
 have KA0 : Hid (Bk (w.heap.size + 1) (acl a) w0) := by show Bk _ _ _; rw [hw0]; exact (Bk.new (w.alloc (smo s)) (acl a) 33 (w.heap.size + 1) (by simp)).later ((brf).alloc (Nat.le_refl _) _)
 have HW0 : Hid (w0 = ((w.alloc (smo s)).alloc (aobj a)).alloc (.cells z7.toArray 27)) := hw0
 have HS0 : Hid (SmIn w0 s) := h.sin.next HB0.out
 clear h hlw hlf hlh hlt hw0
 go_enter Tryz.func16, Tryz.ntmps16
 go_wp2_with fail
 rw [← HW0.out]
 refine (stateOf_any s w0 HS0.out HA.out.nil (by have := HLW.out; omega) (fun x hx => by have := HLF.out x hx; omega) (by have := HLH.out; omega) (by have := HLT.out; omega)).mono ?_
 rintro e w1 ⟨t, rfl, hst, hin, hhi, hnn, hb1⟩
 obtain ⟨w2, hw2⟩ : ∃ w2, w2 = ((w1.alloc (smo t)).alloc (.cells z7.toArray 27)).alloc kobj := ⟨_, rfl⟩
 obtain ⟨hab, hkk2⟩ := ap_first HW0.out hb1 hin hhi hnn hw2
 have HST : Hid (t.st = s.st) := hst
 have HABw2 : Hid (Ab w w2 w1.heap.size a t) := hab
 have KK2 : Hid (Bk (w1.heap.size + 2) [.int .i64 5, .int .i64 6, .int .i64 7, .int .i64 8, .int .i64 9, .int .i64 11, .int .i64 12, .int .i64 13, .int .i64 14] w2) := hkk2
 have HW2 : Hid (w2 = ((w1.alloc (smo t)).alloc (.cells z7.toArray 27)).alloc kobj) := hw2
 have hsz1 : w.heap.size + 3 ≤ w1.heap.size := hab.hi
 have HAT := (show Hid _ from at_knd hkk2 a.kind)
 clear hst hab hkk2 hin hhi hnn hb1 hw2
 go_upto_region 4 with fail
 rw [← HW2.out]
 obtain ⟨a0, a1, a2, a3, a4, a5, a6, a7⟩ := (HABw2.out.ka).c8
 go_wp2_with fail
 clear a0 a1 a2 a3 a4 a5 a6 a7 HW2 HS0 KA0 HB0
 refine Calls.mono HAT.out ?_
 rintro e w3 ⟨rfl, hw3⟩
 have hw4 := hw3.symm
 clear hw3 HAT
 subst hw4
 rw [HAK.out]
 obtain ⟨a0, a1, a2, a3, a4, a5, a6, a7⟩ := (HABw2.out.ka).c8
 obtain ⟨s0, s1, s2, s3, s4, s5, s6⟩ := (HABw2.out.ks).c7
 rw [HK.out] at a0
 go_wp2_with fail
 clear a0 a1 a2 a3 a4 a5 a6 a7 s0 s1 s2 s3 s4 s5 s6
 refine (isFlow_any 7 w2).mono ?_
 rintro e w3 ⟨rfl, hw3⟩
 have hw4 := hw3.symm
 clear hw3
 subst hw4
 rw [show isFl 7 = false from rfl]
 have HDO : Hid (doA l t.st a = dropA t.st) := by show _ = _; unfold doA; rw [HK.out]; rfl
 have HYS : Hid (mayS l t.st = true) := by show _ = _; rw [HST.out]; exact HA.out.yes
 cases htp : t.tip with
 | false =>
  have HQ : Hid (applyR l s.st a = (sta0, 12)) := by
   show _ = _
   rw [← HST.out]
   refine ap_err (x := t.st) HYS.out ?_ (by decide)
   rw [HDO.out]
   unfold dropA
   rw [if_neg (show ¬ t.st.tip = true by rw [show t.st.tip = t.tip from rfl, htp]; decide)]
  obtain ⟨a0, a1, a2, a3, a4, a5, a6, a7⟩ := (HABw2.out.ka).c8
  obtain ⟨s0, s1, s2, s3, s4, s5, s6⟩ := (HABw2.out.ks).c7
  rw [HK.out] at a0
  rw [htp] at s1
  clear htp
  have ltR := HABw2.out.kr.1
  have ltZ := HABw2.out.kz.1
  have hiB := HABw2.out.hi
  have neR : w.heap.size + 2 ≠ w1.heap.size + 1 := by omega
  obtain ⟨r0, r1, r2, r3, r4, r5, r6⟩ := (HABw2.out.kr).c7
  obtain ⟨rf0, rf1, rf2, rf3, rf4, rf5, rf6⟩ := (HABw2.out.kr).f7
  obtain ⟨z0, z1, z2, z3, z4, z5, z6⟩ := (HABw2.out.kz).c7
  go_wp2
  refine bodyPost_ret (v := .tuple #[smv sm0, .int .i64 12]) (by simp [results, Tryz.results16, go_sem, r0, r1, r2, r3, r4, r5, r6]) rfl ⟨sm0, by rw [HQ.out], by rw [HQ.out]; rfl, (ap_zero HABw2.out.below).1, (ap_zero HABw2.out.below).2⟩
 | true =>
  have HQ : Hid (applyR l s.st a = ({ t.st with tip := false, held := [], touched := [] }, 0)) := by
   show _ = _
   rw [← HST.out]
   refine ap_ok HYS.out ?_
   rw [HDO.out]
   unfold dropA
   rw [if_pos (show t.st.tip = true from htp)]
  have HABX : Hid (Ab w (((w2.setCell ⟨w1.heap.size, 1, none⟩ (.bool false)).setCell ⟨w1.heap.size, 2, none⟩ (.slice none 0 0)).setCell ⟨w1.heap.size, 3, none⟩ (.slice none 0 0)) w1.heap.size a { t with tip := false, aoH := none, capH := 0, held := [], aoT := none, capT := 0, touched := [] }) :=
   ((HABw2.out.set 1 (.bool false) { t with tip := false } rfl (fun h => ⟨h.wells, h.held, h.touched⟩) ⟨HABw2.out.nil.fl, HABw2.out.nil.held, HABw2.out.nil.touched⟩ ⟨HABw2.out.apart.row, HABw2.out.apart.fl, HABw2.out.apart.held, HABw2.out.apart.touched⟩).set 2 (.slice none 0 0) { t with tip := false, aoH := none, capH := 0, held := [] } rfl (fun h => ⟨h.wells, F.Fl.nil _ _, h.touched⟩) ⟨HABw2.out.nil.fl, fun _ => rfl, HABw2.out.nil.touched⟩ ⟨HABw2.out.apart.row, HABw2.out.apart.fl, .inl rfl, HABw2.out.apart.touched⟩).set 3 (.slice none 0 0) { t with tip := false, aoH := none, capH := 0, held := [], aoT := none, capT := 0, touched := [] } rfl (fun h => ⟨h.wells, F.Fl.nil _ _, Tx.nil _ _⟩) ⟨HABw2.out.nil.fl, fun _ => rfl, fun _ => rfl⟩ ⟨HABw2.out.apart.row, HABw2.out.apart.fl, .inl rfl, .inl rfl⟩
  obtain ⟨a0, a1, a2, a3, a4, a5, a6, a7⟩ := (HABw2.out.ka).c8
  rw [HK.out] at a0
  have ltR := HABw2.out.kr.1
  have ltB := HABw2.out.ks.1
  have hiB := HABw2.out.hi
  have neR : w.heap.size + 2 ≠ w1.heap.size := by omega
  have neS : w1.heap.size ≠ w.heap.size + 2 := by omega
  obtain ⟨r0, r1, r2, r3, r4, r5, r6⟩ := (HABw2.out.kr).c7
  obtain ⟨rf0, rf1, rf2, rf3, rf4, rf5, rf6⟩ := (HABw2.out.kr).f7
  obtain ⟨s0, s1, s2, s3, s4, s5, s6⟩ := (HABw2.out.ks).c7
  obtain ⟨sf0, sf1, sf2, sf3, sf4, sf5, sf6⟩ := (HABw2.out.ks).f7
  rw [htp] at s1
  clear htp
  go_wp2
  refine bodyPost_ret (v := .tuple #[smv { t with tip := false, aoH := none, capH := 0, held := [], aoT := none, capT := 0, touched := [] }, .int .i64 0]) (by simp [results, Tryz.results16, go_sem, r0, r1, r2, r3, r4, r5, r6]) rfl ⟨{ t with tip := false, aoH := none, capH := 0, held := [], aoT := none, capT := 0, touched := [] }, by rw [HQ.out], by rw [HQ.out]; rfl, (ap_ret HABX.out).1, (ap_ret HABX.out).2⟩
set_option maxHeartbeats 12800000 in
set_option maxRecDepth 100000 in
theorem apply_warm (ao : Option Addr) (cap : Nat) (l : List Sit) (s : Sm) (a : Acn) (w : World) (h : ApIn w ao cap l s a) (hk : a.kind = 11) :
  Calls Tryz.prog 16 #[.slice ao l.length cap, smv s, av a] w (ApOk w l s a) := by
 have HA : Hid (ApIn w ao cap l s a) := h
 obtain ⟨hlw, hlf, hlh, hlt⟩ := apIn_lens h
 have HLW : Hid (s.wl.length ≤ 4608) := hlw
 have HLF : Hid (∀ x ∈ s.wl, x.2.2.2.length ≤ 100) := hlf
 have HLH : Hid (s.held.length ≤ 100) := hlh
 have HLT : Hid (s.touched.length ≤ 100) := hlt
 have HK : Hid (a.kind = 11) := hk
 have HAK : Hid (atR kndL a.kind = 5) := by show _ = _; rw [hk]; rfl
 clear hk
 obtain ⟨w0, hw0⟩ : ∃ w0, w0 = ((w.alloc (smo s)).alloc (aobj a)).alloc (.cells z7.toArray 27) := ⟨_, rfl⟩
 have HB0 : Hid (Below w.heap.size w w0) := by show Below _ _ _; rw [hw0]; exact (((brf).alloc (Nat.le_refl _) _).alloc (by simp) _).alloc (by simp; omega) _
 have KA0 : Hid (Bk (w.heap.size + 1) (acl a) w0) := by show Bk _ _ _; rw [hw0]; exact (Bk.new (w.alloc (smo s)) (acl a) 33 (w.heap.size + 1) (by simp)).later ((brf).alloc (Nat.le_refl _) _)
 have HW0 : Hid (w0 = ((w.alloc (smo s)).alloc (aobj a)).alloc (.cells z7.toArray 27)) := hw0
 have HS0 : Hid (SmIn w0 s) := h.sin.next HB0.out
 clear h hlw hlf hlh hlt hw0
 go_enter Tryz.func16, Tryz.ntmps16
 go_wp2_with fail
 rw [← HW0.out]
 refine (stateOf_any s w0 HS0.out HA.out.nil (by have := HLW.out; omega) (fun x hx => by have := HLF.out x hx; omega) (by have := HLH.out; omega) (by have := HLT.out; omega)).mono ?_
 rintro e w1 ⟨t, rfl, hst, hin, hhi, hnn, hb1⟩
 obtain ⟨w2, hw2⟩ : ∃ w2, w2 = ((w1.alloc (smo t)).alloc (.cells z7.toArray 27)).alloc kobj := ⟨_, rfl⟩
 obtain ⟨hab, hkk2⟩ := ap_first HW0.out hb1 hin hhi hnn hw2
 have HST : Hid (t.st = s.st) := hst
 have HABw2 : Hid (Ab w w2 w1.heap.size a t) := hab
 have KK2 : Hid (Bk (w1.heap.size + 2) [.int .i64 5, .int .i64 6, .int .i64 7, .int .i64 8, .int .i64 9, .int .i64 11, .int .i64 12, .int .i64 13, .int .i64 14] w2) := hkk2
 have HW2 : Hid (w2 = ((w1.alloc (smo t)).alloc (.cells z7.toArray 27)).alloc kobj) := hw2
 have hsz1 : w.heap.size + 3 ≤ w1.heap.size := hab.hi
 have HAT := (show Hid _ from at_knd hkk2 a.kind)
 clear hst hab hkk2 hin hhi hnn hb1 hw2
 go_upto_region 4 with fail
 rw [← HW2.out]
 obtain ⟨a0, a1, a2, a3, a4, a5, a6, a7⟩ := (HABw2.out.ka).c8
 go_wp2_with fail
 clear a0 a1 a2 a3 a4 a5 a6 a7 HW2 HS0 KA0 HB0
 refine Calls.mono HAT.out ?_
 rintro e w3 ⟨rfl, hw3⟩
 have hw4 := hw3.symm
 clear hw3 HAT
 subst hw4
 rw [HAK.out]
 obtain ⟨a0, a1, a2, a3, a4, a5, a6, a7⟩ := (HABw2.out.ka).c8
 obtain ⟨s0, s1, s2, s3, s4, s5, s6⟩ := (HABw2.out.ks).c7
 rw [HK.out] at a0
 go_wp2_with fail
 clear a0 a1 a2 a3 a4 a5 a6 a7 s0 s1 s2 s3 s4 s5 s6
 refine (isFlow_any 11 w2).mono ?_
 rintro e w3 ⟨rfl, hw3⟩
 have hw4 := hw3.symm
 clear hw3
 subst hw4
 rw [show isFl 11 = false from rfl]
 have HDO : Hid (doA l t.st a = warmA t.st a) := by show _ = _; unfold doA; rw [HK.out]; rfl
 have HYS : Hid (mayS l t.st = true) := by show _ = _; rw [HST.out]; exact HA.out.yes
 obtain ⟨a0, a1, a2, a3, a4, a5, a6, a7⟩ := (HABw2.out.ka).c8
 obtain ⟨s0, s1, s2, s3, s4, s5, s6⟩ := (HABw2.out.ks).c7
 rw [HK.out] at a0
 go_wp2_with fail
 clear a0 a1 a2 a3 a4 a5 a6 a7 s0 s1 s2 s3 s4 s5 s6
 refine (rwithin_any 0 a.value 1000000000 w2).mono ?_
 rintro e w3 ⟨rfl, hw3⟩
 have hw4 := hw3.symm
 clear hw3
 subst hw4
 cases hin : inR 0 1000000000 a.value with
 | false =>
  have HQ : Hid (applyR l s.st a = (sta0, 2)) := by
   show _ = _
   rw [← HST.out]
   refine ap_err (x := t.st) HYS.out ?_ (by decide)
   rw [HDO.out]
   unfold warmA
   rw [hin]
   rfl
  clear hin
  obtain ⟨a0, a1, a2, a3, a4, a5, a6, a7⟩ := (HABw2.out.ka).c8
  obtain ⟨s0, s1, s2, s3, s4, s5, s6⟩ := (HABw2.out.ks).c7
  rw [HK.out] at a0
  have ltR := HABw2.out.kr.1
  have ltZ := HABw2.out.kz.1
  have hiB := HABw2.out.hi
  have neR : w.heap.size + 2 ≠ w1.heap.size + 1 := by omega
  obtain ⟨r0, r1, r2, r3, r4, r5, r6⟩ := (HABw2.out.kr).c7
  obtain ⟨rf0, rf1, rf2, rf3, rf4, rf5, rf6⟩ := (HABw2.out.kr).f7
  obtain ⟨z0, z1, z2, z3, z4, z5, z6⟩ := (HABw2.out.kz).c7
  go_wp2
  refine bodyPost_ret (v := .tuple #[smv sm0, .int .i64 2]) (by simp [results, Tryz.results16, go_sem, r0, r1, r2, r3, r4, r5, r6]) rfl ⟨sm0, by rw [HQ.out], by rw [HQ.out]; rfl, (ap_zero HABw2.out.below).1, (ap_zero HABw2.out.below).2⟩
 | true =>
  have HQ : Hid (applyR l s.st a = ({ t.st with heat := a.value }, 0)) := by
   show _ = _
   rw [← HST.out]
   refine ap_ok HYS.out ?_
   rw [HDO.out]
   unfold warmA
   rw [hin]
   rfl
  clear hin
  have HABX : Hid (Ab w (w2.setCell ⟨w1.heap.size, 5, none⟩ (.int .i64 a.value)) w1.heap.size a { t with heat := a.value }) :=
   HABw2.out.set 5 (.int .i64 a.value) { t with heat := a.value } rfl (fun h => ⟨h.wells, h.held, h.touched⟩) ⟨HABw2.out.nil.fl, HABw2.out.nil.held, HABw2.out.nil.touched⟩ ⟨HABw2.out.apart.row, HABw2.out.apart.fl, HABw2.out.apart.held, HABw2.out.apart.touched⟩
  obtain ⟨a0, a1, a2, a3, a4, a5, a6, a7⟩ := (HABw2.out.ka).c8
  rw [HK.out] at a0
  have ltR := HABw2.out.kr.1
  have ltB := HABw2.out.ks.1
  have hiB := HABw2.out.hi
  have neR : w.heap.size + 2 ≠ w1.heap.size := by omega
  have neS : w1.heap.size ≠ w.heap.size + 2 := by omega
  obtain ⟨r0, r1, r2, r3, r4, r5, r6⟩ := (HABw2.out.kr).c7
  obtain ⟨rf0, rf1, rf2, rf3, rf4, rf5, rf6⟩ := (HABw2.out.kr).f7
  obtain ⟨s0, s1, s2, s3, s4, s5, s6⟩ := (HABw2.out.ks).c7
  obtain ⟨sf0, sf1, sf2, sf3, sf4, sf5, sf6⟩ := (HABw2.out.ks).f7
  go_wp2
  refine bodyPost_ret (v := .tuple #[smv { t with heat := a.value }, .int .i64 0]) (by simp [results, Tryz.results16, go_sem, r0, r1, r2, r3, r4, r5, r6]) rfl ⟨{ t with heat := a.value }, by rw [HQ.out], by rw [HQ.out]; rfl, (ap_ret HABX.out).1, (ap_ret HABX.out).2⟩
set_option maxHeartbeats 12800000 in
set_option maxRecDepth 100000 in
theorem apply_hold (ao : Option Addr) (cap : Nat) (l : List Sit) (s : Sm) (a : Acn) (w : World) (h : ApIn w ao cap l s a) (hk : a.kind = 12) :
  Calls Tryz.prog 16 #[.slice ao l.length cap, smv s, av a] w (ApOk w l s a) := by
 have HA : Hid (ApIn w ao cap l s a) := h
 obtain ⟨hlw, hlf, hlh, hlt⟩ := apIn_lens h
 have HLW : Hid (s.wl.length ≤ 4608) := hlw
 have HLF : Hid (∀ x ∈ s.wl, x.2.2.2.length ≤ 100) := hlf
 have HLH : Hid (s.held.length ≤ 100) := hlh
 have HLT : Hid (s.touched.length ≤ 100) := hlt
 have HK : Hid (a.kind = 12) := hk
 have HAK : Hid (atR kndL a.kind = 6) := by show _ = _; rw [hk]; rfl
 clear hk
 obtain ⟨w0, hw0⟩ : ∃ w0, w0 = ((w.alloc (smo s)).alloc (aobj a)).alloc (.cells z7.toArray 27) := ⟨_, rfl⟩
 have HB0 : Hid (Below w.heap.size w w0) := by show Below _ _ _; rw [hw0]; exact (((brf).alloc (Nat.le_refl _) _).alloc (by simp) _).alloc (by simp; omega) _
 have KA0 : Hid (Bk (w.heap.size + 1) (acl a) w0) := by show Bk _ _ _; rw [hw0]; exact (Bk.new (w.alloc (smo s)) (acl a) 33 (w.heap.size + 1) (by simp)).later ((brf).alloc (Nat.le_refl _) _)
 have HW0 : Hid (w0 = ((w.alloc (smo s)).alloc (aobj a)).alloc (.cells z7.toArray 27)) := hw0
 have HS0 : Hid (SmIn w0 s) := h.sin.next HB0.out
 clear h hlw hlf hlh hlt hw0
 go_enter Tryz.func16, Tryz.ntmps16
 go_wp2_with fail
 rw [← HW0.out]
 refine (stateOf_any s w0 HS0.out HA.out.nil (by have := HLW.out; omega) (fun x hx => by have := HLF.out x hx; omega) (by have := HLH.out; omega) (by have := HLT.out; omega)).mono ?_
 rintro e w1 ⟨t, rfl, hst, hin, hhi, hnn, hb1⟩
 obtain ⟨w2, hw2⟩ : ∃ w2, w2 = ((w1.alloc (smo t)).alloc (.cells z7.toArray 27)).alloc kobj := ⟨_, rfl⟩
 obtain ⟨hab, hkk2⟩ := ap_first HW0.out hb1 hin hhi hnn hw2
 have HST : Hid (t.st = s.st) := hst
 have HABw2 : Hid (Ab w w2 w1.heap.size a t) := hab
 have KK2 : Hid (Bk (w1.heap.size + 2) [.int .i64 5, .int .i64 6, .int .i64 7, .int .i64 8, .int .i64 9, .int .i64 11, .int .i64 12, .int .i64 13, .int .i64 14] w2) := hkk2
 have HW2 : Hid (w2 = ((w1.alloc (smo t)).alloc (.cells z7.toArray 27)).alloc kobj) := hw2
 have hsz1 : w.heap.size + 3 ≤ w1.heap.size := hab.hi
 have HAT := (show Hid _ from at_knd hkk2 a.kind)
 clear hst hab hkk2 hin hhi hnn hb1 hw2
 go_upto_region 4 with fail
 rw [← HW2.out]
 obtain ⟨a0, a1, a2, a3, a4, a5, a6, a7⟩ := (HABw2.out.ka).c8
 go_wp2_with fail
 clear a0 a1 a2 a3 a4 a5 a6 a7 HW2 HS0 KA0 HB0
 refine Calls.mono HAT.out ?_
 rintro e w3 ⟨rfl, hw3⟩
 have hw4 := hw3.symm
 clear hw3 HAT
 subst hw4
 rw [HAK.out]
 obtain ⟨a0, a1, a2, a3, a4, a5, a6, a7⟩ := (HABw2.out.ka).c8
 obtain ⟨s0, s1, s2, s3, s4, s5, s6⟩ := (HABw2.out.ks).c7
 rw [HK.out] at a0
 go_wp2_with fail
 clear a0 a1 a2 a3 a4 a5 a6 a7 s0 s1 s2 s3 s4 s5 s6
 refine (isFlow_any 12 w2).mono ?_
 rintro e w3 ⟨rfl, hw3⟩
 have hw4 := hw3.symm
 clear hw3
 subst hw4
 rw [show isFl 12 = false from rfl]
 have HYS : Hid (mayS l t.st = true) := by show _ = _; rw [HST.out]; exact HA.out.yes
 have HCK : Hid (inR 0 1000000000 t.clock = true) := by
  have := HA.out.yes
  rw [← HST.out] at this
  unfold mayS mayB at this
  simp only [Bool.and_eq_true] at this
  exact this.2.2.2.2
 have HDO : Hid (doA l t.st a = passA t.st a) := by show _ = _; unfold doA; rw [HK.out]; rfl
 obtain ⟨a0, a1, a2, a3, a4, a5, a6, a7⟩ := (HABw2.out.ka).c8
 obtain ⟨s0, s1, s2, s3, s4, s5, s6⟩ := (HABw2.out.ks).c7
 rw [HK.out] at a0
 go_wp2_with fail
 clear a0 a1 a2 a3 a4 a5 a6 a7 s0 s1 s2 s3 s4 s5 s6
 refine (rwithin_any 0 a.time 1000000000 w2).mono ?_
 rintro e w3 ⟨rfl, hw3⟩
 have hw4 := hw3.symm
 clear hw3
 subst hw4
 cases htm : inR 0 1000000000 a.time with
 | false =>
  have HQ : Hid (applyR l s.st a = (sta0, 2)) := by
   show _ = _
   rw [← HST.out]
   refine ap_err (x := t.st) HYS.out ?_ (by decide)
   rw [HDO.out]
   unfold passA
   rw [htm]
   simp
  clear htm
  obtain ⟨a0, a1, a2, a3, a4, a5, a6, a7⟩ := (HABw2.out.ka).c8
  obtain ⟨s0, s1, s2, s3, s4, s5, s6⟩ := (HABw2.out.ks).c7
  rw [HK.out] at a0
  have ltR := HABw2.out.kr.1
  have ltZ := HABw2.out.kz.1
  have hiB := HABw2.out.hi
  have neR : w.heap.size + 2 ≠ w1.heap.size + 1 := by omega
  obtain ⟨r0, r1, r2, r3, r4, r5, r6⟩ := (HABw2.out.kr).c7
  obtain ⟨rf0, rf1, rf2, rf3, rf4, rf5, rf6⟩ := (HABw2.out.kr).f7
  obtain ⟨z0, z1, z2, z3, z4, z5, z6⟩ := (HABw2.out.kz).c7
  go_wp2
  refine bodyPost_ret (v := .tuple #[smv sm0, .int .i64 2]) (by simp [results, Tryz.results16, go_sem, r0, r1, r2, r3, r4, r5, r6]) rfl ⟨sm0, by rw [HQ.out], by rw [HQ.out]; rfl, (ap_zero HABw2.out.below).1, (ap_zero HABw2.out.below).2⟩
 | true =>
  have htm2 := inR_iff.1 htm
  have hck := inR_iff.1 HCK.out
  have hwp : IntKind.i64.wrap (t.clock + a.time) = t.clock + a.time := wrap_in (by omega) (by omega)
  by_cases hbig : 1000000000 < t.clock + a.time
  ·have HQ : Hid (applyR l s.st a = (sta0, 8)) := by
    show _ = _
    rw [← HST.out]
    refine ap_err (x := t.st) HYS.out ?_ (by decide)
    rw [HDO.out]
    unfold passA
    rw [htm]
    simp only [if_true]
    rw [if_pos (show 1000000000 < t.st.clock + a.time from hbig)]
   clear htm htm2 hck
   obtain ⟨a0, a1, a2, a3, a4, a5, a6, a7⟩ := (HABw2.out.ka).c8
   obtain ⟨s0, s1, s2, s3, s4, s5, s6⟩ := (HABw2.out.ks).c7
   rw [HK.out] at a0
   have ltR := HABw2.out.kr.1
   have ltZ := HABw2.out.kz.1
   have hiB := HABw2.out.hi
   have neR : w.heap.size + 2 ≠ w1.heap.size + 1 := by omega
   obtain ⟨r0, r1, r2, r3, r4, r5, r6⟩ := (HABw2.out.kr).c7
   obtain ⟨rf0, rf1, rf2, rf3, rf4, rf5, rf6⟩ := (HABw2.out.kr).f7
   obtain ⟨z0, z1, z2, z3, z4, z5, z6⟩ := (HABw2.out.kz).c7
   go_wp2
   refine bodyPost_ret (v := .tuple #[smv sm0, .int .i64 8]) (by simp [results, Tryz.results16, go_sem, r0, r1, r2, r3, r4, r5, r6]) rfl ⟨sm0, by rw [HQ.out], by rw [HQ.out]; rfl, (ap_zero HABw2.out.below).1, (ap_zero HABw2.out.below).2⟩
  ·have HQ : Hid (applyR l s.st a = ({ t.st with clock := t.clock + a.time }, 0)) := by
    show _ = _
    rw [← HST.out]
    refine ap_ok HYS.out ?_
    rw [HDO.out]
    unfold passA
    rw [htm]
    simp only [if_true]
    rw [if_neg (show ¬ 1000000000 < t.st.clock + a.time from hbig)]
    rfl
   clear htm htm2 hck
   have HABX : Hid (Ab w (w2.setCell ⟨w1.heap.size, 6, none⟩ (.int .i64 (t.clock + a.time))) w1.heap.size a { t with clock := t.clock + a.time }) :=
    HABw2.out.set 6 (.int .i64 (t.clock + a.time)) { t with clock := t.clock + a.time } rfl (fun h => ⟨h.wells, h.held, h.touched⟩) ⟨HABw2.out.nil.fl, HABw2.out.nil.held, HABw2.out.nil.touched⟩ ⟨HABw2.out.apart.row, HABw2.out.apart.fl, HABw2.out.apart.held, HABw2.out.apart.touched⟩
   obtain ⟨a0, a1, a2, a3, a4, a5, a6, a7⟩ := (HABw2.out.ka).c8
   rw [HK.out] at a0
   have ltR := HABw2.out.kr.1
   have ltB := HABw2.out.ks.1
   have hiB := HABw2.out.hi
   have neR : w.heap.size + 2 ≠ w1.heap.size := by omega
   have neS : w1.heap.size ≠ w.heap.size + 2 := by omega
   obtain ⟨r0, r1, r2, r3, r4, r5, r6⟩ := (HABw2.out.kr).c7
   obtain ⟨rf0, rf1, rf2, rf3, rf4, rf5, rf6⟩ := (HABw2.out.kr).f7
   obtain ⟨s0, s1, s2, s3, s4, s5, s6⟩ := (HABw2.out.ks).c7
   obtain ⟨sf0, sf1, sf2, sf3, sf4, sf5, sf6⟩ := (HABw2.out.ks).f7
   go_wp2
   refine bodyPost_ret (v := .tuple #[smv { t with clock := t.clock + a.time }, .int .i64 0]) (by simp [results, Tryz.results16, go_sem, r0, r1, r2, r3, r4, r5, r6]) rfl ⟨{ t with clock := t.clock + a.time }, by rw [HQ.out], by rw [HQ.out]; rfl, (ap_ret HABX.out).1, (ap_ret HABX.out).2⟩
set_option maxHeartbeats 12800000 in
set_option maxRecDepth 100000 in
theorem apply_shake (ao : Option Addr) (cap : Nat) (l : List Sit) (s : Sm) (a : Acn) (w : World) (h : ApIn w ao cap l s a) (hk : a.kind = 13) :
  Calls Tryz.prog 16 #[.slice ao l.length cap, smv s, av a] w (ApOk w l s a) := by
 have HA : Hid (ApIn w ao cap l s a) := h
 obtain ⟨hlw, hlf, hlh, hlt⟩ := apIn_lens h
 have HLW : Hid (s.wl.length ≤ 4608) := hlw
 have HLF : Hid (∀ x ∈ s.wl, x.2.2.2.length ≤ 100) := hlf
 have HLH : Hid (s.held.length ≤ 100) := hlh
 have HLT : Hid (s.touched.length ≤ 100) := hlt
 have HK : Hid (a.kind = 13) := hk
 have HAK : Hid (atR kndL a.kind = 7) := by show _ = _; rw [hk]; rfl
 clear hk
 obtain ⟨w0, hw0⟩ : ∃ w0, w0 = ((w.alloc (smo s)).alloc (aobj a)).alloc (.cells z7.toArray 27) := ⟨_, rfl⟩
 have HB0 : Hid (Below w.heap.size w w0) := by show Below _ _ _; rw [hw0]; exact (((brf).alloc (Nat.le_refl _) _).alloc (by simp) _).alloc (by simp; omega) _
 have KA0 : Hid (Bk (w.heap.size + 1) (acl a) w0) := by show Bk _ _ _; rw [hw0]; exact (Bk.new (w.alloc (smo s)) (acl a) 33 (w.heap.size + 1) (by simp)).later ((brf).alloc (Nat.le_refl _) _)
 have HW0 : Hid (w0 = ((w.alloc (smo s)).alloc (aobj a)).alloc (.cells z7.toArray 27)) := hw0
 have HS0 : Hid (SmIn w0 s) := h.sin.next HB0.out
 clear h hlw hlf hlh hlt hw0
 go_enter Tryz.func16, Tryz.ntmps16
 go_wp2_with fail
 rw [← HW0.out]
 refine (stateOf_any s w0 HS0.out HA.out.nil (by have := HLW.out; omega) (fun x hx => by have := HLF.out x hx; omega) (by have := HLH.out; omega) (by have := HLT.out; omega)).mono ?_
 rintro e w1 ⟨t, rfl, hst, hin, hhi, hnn, hb1⟩
 obtain ⟨w2, hw2⟩ : ∃ w2, w2 = ((w1.alloc (smo t)).alloc (.cells z7.toArray 27)).alloc kobj := ⟨_, rfl⟩
 obtain ⟨hab, hkk2⟩ := ap_first HW0.out hb1 hin hhi hnn hw2
 have HST : Hid (t.st = s.st) := hst
 have HABw2 : Hid (Ab w w2 w1.heap.size a t) := hab
 have KK2 : Hid (Bk (w1.heap.size + 2) [.int .i64 5, .int .i64 6, .int .i64 7, .int .i64 8, .int .i64 9, .int .i64 11, .int .i64 12, .int .i64 13, .int .i64 14] w2) := hkk2
 have HW2 : Hid (w2 = ((w1.alloc (smo t)).alloc (.cells z7.toArray 27)).alloc kobj) := hw2
 have hsz1 : w.heap.size + 3 ≤ w1.heap.size := hab.hi
 have HAT := (show Hid _ from at_knd hkk2 a.kind)
 clear hst hab hkk2 hin hhi hnn hb1 hw2
 go_upto_region 4 with fail
 rw [← HW2.out]
 obtain ⟨a0, a1, a2, a3, a4, a5, a6, a7⟩ := (HABw2.out.ka).c8
 go_wp2_with fail
 clear a0 a1 a2 a3 a4 a5 a6 a7 HW2 HS0 KA0 HB0
 refine Calls.mono HAT.out ?_
 rintro e w3 ⟨rfl, hw3⟩
 have hw4 := hw3.symm
 clear hw3 HAT
 subst hw4
 rw [HAK.out]
 obtain ⟨a0, a1, a2, a3, a4, a5, a6, a7⟩ := (HABw2.out.ka).c8
 obtain ⟨s0, s1, s2, s3, s4, s5, s6⟩ := (HABw2.out.ks).c7
 rw [HK.out] at a0
 go_wp2_with fail
 clear a0 a1 a2 a3 a4 a5 a6 a7 s0 s1 s2 s3 s4 s5 s6
 refine (isFlow_any 13 w2).mono ?_
 rintro e w3 ⟨rfl, hw3⟩
 have hw4 := hw3.symm
 clear hw3
 subst hw4
 rw [show isFl 13 = false from rfl]
 have HYS : Hid (mayS l t.st = true) := by show _ = _; rw [HST.out]; exact HA.out.yes
 have HCK : Hid (inR 0 1000000000 t.clock = true) := by
  have := HA.out.yes
  rw [← HST.out] at this
  unfold mayS mayB at this
  simp only [Bool.and_eq_true] at this
  exact this.2.2.2.2
 have HDO : Hid (doA l t.st a = if inR 0 1000000000 a.value = true then passA t.st a else (t.st, 2)) := by show _ = _; unfold doA; rw [HK.out]; rfl
 obtain ⟨a0, a1, a2, a3, a4, a5, a6, a7⟩ := (HABw2.out.ka).c8
 obtain ⟨s0, s1, s2, s3, s4, s5, s6⟩ := (HABw2.out.ks).c7
 rw [HK.out] at a0
 go_wp2_with fail
 clear a0 a1 a2 a3 a4 a5 a6 a7 s0 s1 s2 s3 s4 s5 s6
 refine (rwithin_any 0 a.time 1000000000 w2).mono ?_
 rintro e w3 ⟨rfl, hw3⟩
 have hw4 := hw3.symm
 clear hw3
 subst hw4
 cases htm : inR 0 1000000000 a.time with
 | false =>
  have HQ : Hid (applyR l s.st a = (sta0, 2)) := by
   show _ = _
   rw [← HST.out]
   refine ap_err (x := t.st) HYS.out ?_ (by decide)
   rw [HDO.out]
   unfold passA
   rw [htm]
   simp
  clear htm
  obtain ⟨a0, a1, a2, a3, a4, a5, a6, a7⟩ := (HABw2.out.ka).c8
  obtain ⟨s0, s1, s2, s3, s4, s5, s6⟩ := (HABw2.out.ks).c7
  rw [HK.out] at a0
  have ltR := HABw2.out.kr.1
  have ltZ := HABw2.out.kz.1
  have hiB := HABw2.out.hi
  have neR : w.heap.size + 2 ≠ w1.heap.size + 1 := by omega
  obtain ⟨r0, r1, r2, r3, r4, r5, r6⟩ := (HABw2.out.kr).c7
  obtain ⟨rf0, rf1, rf2, rf3, rf4, rf5, rf6⟩ := (HABw2.out.kr).f7
  obtain ⟨z0, z1, z2, z3, z4, z5, z6⟩ := (HABw2.out.kz).c7
  go_wp2
  refine bodyPost_ret (v := .tuple #[smv sm0, .int .i64 2]) (by simp [results, Tryz.results16, go_sem, r0, r1, r2, r3, r4, r5, r6]) rfl ⟨sm0, by rw [HQ.out], by rw [HQ.out]; rfl, (ap_zero HABw2.out.below).1, (ap_zero HABw2.out.below).2⟩
 | true =>
  obtain ⟨a0, a1, a2, a3, a4, a5, a6, a7⟩ := (HABw2.out.ka).c8
  obtain ⟨s0, s1, s2, s3, s4, s5, s6⟩ := (HABw2.out.ks).c7
  rw [HK.out] at a0
  go_wp2_with fail
  clear a0 a1 a2 a3 a4 a5 a6 a7 s0 s1 s2 s3 s4 s5 s6
  refine (rwithin_any 0 a.value 1000000000 w2).mono ?_
  rintro e w3 ⟨rfl, hw3⟩
  have hw4 := hw3.symm
  clear hw3
  subst hw4
  cases hvl : inR 0 1000000000 a.value with
  | false =>
   have HQ : Hid (applyR l s.st a = (sta0, 2)) := by
    show _ = _
    rw [← HST.out]
    refine ap_err (x := t.st) HYS.out ?_ (by decide)
    rw [HDO.out, hvl]
    rfl
   clear hvl htm
   obtain ⟨a0, a1, a2, a3, a4, a5, a6, a7⟩ := (HABw2.out.ka).c8
   obtain ⟨s0, s1, s2, s3, s4, s5, s6⟩ := (HABw2.out.ks).c7
   rw [HK.out] at a0
   have ltR := HABw2.out.kr.1
   have ltZ := HABw2.out.kz.1
   have hiB := HABw2.out.hi
   have neR : w.heap.size + 2 ≠ w1.heap.size + 1 := by omega
   obtain ⟨r0, r1, r2, r3, r4, r5, r6⟩ := (HABw2.out.kr).c7
   obtain ⟨rf0, rf1, rf2, rf3, rf4, rf5, rf6⟩ := (HABw2.out.kr).f7
   obtain ⟨z0, z1, z2, z3, z4, z5, z6⟩ := (HABw2.out.kz).c7
   go_wp2
   refine bodyPost_ret (v := .tuple #[smv sm0, .int .i64 2]) (by simp [results, Tryz.results16, go_sem, r0, r1, r2, r3, r4, r5, r6]) rfl ⟨sm0, by rw [HQ.out], by rw [HQ.out]; rfl, (ap_zero HABw2.out.below).1, (ap_zero HABw2.out.below).2⟩
  | true =>
  rw [hvl] at HDO
  clear hvl
  have htm2 := inR_iff.1 htm
  have hck := inR_iff.1 HCK.out
  have hwp : IntKind.i64.wrap (t.clock + a.time) = t.clock + a.time := wrap_in (by omega) (by omega)
  by_cases hbig : 1000000000 < t.clock + a.time
  ·have HQ : Hid (applyR l s.st a = (sta0, 8)) := by
    show _ = _
    rw [← HST.out]
    refine ap_err (x := t.st) HYS.out ?_ (by decide)
    rw [HDO.out]
    unfold passA
    rw [htm]
    simp only [if_true]
    rw [if_pos (show 1000000000 < t.st.clock + a.time from hbig)]
   clear htm htm2 hck
   obtain ⟨a0, a1, a2, a3, a4, a5, a6, a7⟩ := (HABw2.out.ka).c8
   obtain ⟨s0, s1, s2, s3, s4, s5, s6⟩ := (HABw2.out.ks).c7
   rw [HK.out] at a0
   have ltR := HABw2.out.kr.1
   have ltZ := HABw2.out.kz.1
   have hiB := HABw2.out.hi
   have neR : w.heap.size + 2 ≠ w1.heap.size + 1 := by omega
   obtain ⟨r0, r1, r2, r3, r4, r5, r6⟩ := (HABw2.out.kr).c7
   obtain ⟨rf0, rf1, rf2, rf3, rf4, rf5, rf6⟩ := (HABw2.out.kr).f7
   obtain ⟨z0, z1, z2, z3, z4, z5, z6⟩ := (HABw2.out.kz).c7
   go_wp2
   refine bodyPost_ret (v := .tuple #[smv sm0, .int .i64 8]) (by simp [results, Tryz.results16, go_sem, r0, r1, r2, r3, r4, r5, r6]) rfl ⟨sm0, by rw [HQ.out], by rw [HQ.out]; rfl, (ap_zero HABw2.out.below).1, (ap_zero HABw2.out.below).2⟩
  ·have HQ : Hid (applyR l s.st a = ({ t.st with clock := t.clock + a.time }, 0)) := by
    show _ = _
    rw [← HST.out]
    refine ap_ok HYS.out ?_
    rw [HDO.out]
    unfold passA
    rw [htm]
    simp only [if_true]
    rw [if_neg (show ¬ 1000000000 < t.st.clock + a.time from hbig)]
    rfl
   clear htm htm2 hck
   have HABX : Hid (Ab w (w2.setCell ⟨w1.heap.size, 6, none⟩ (.int .i64 (t.clock + a.time))) w1.heap.size a { t with clock := t.clock + a.time }) :=
    HABw2.out.set 6 (.int .i64 (t.clock + a.time)) { t with clock := t.clock + a.time } rfl (fun h => ⟨h.wells, h.held, h.touched⟩) ⟨HABw2.out.nil.fl, HABw2.out.nil.held, HABw2.out.nil.touched⟩ ⟨HABw2.out.apart.row, HABw2.out.apart.fl, HABw2.out.apart.held, HABw2.out.apart.touched⟩
   obtain ⟨a0, a1, a2, a3, a4, a5, a6, a7⟩ := (HABw2.out.ka).c8
   rw [HK.out] at a0
   have ltR := HABw2.out.kr.1
   have ltB := HABw2.out.ks.1
   have hiB := HABw2.out.hi
   have neR : w.heap.size + 2 ≠ w1.heap.size := by omega
   have neS : w1.heap.size ≠ w.heap.size + 2 := by omega
   obtain ⟨r0, r1, r2, r3, r4, r5, r6⟩ := (HABw2.out.kr).c7
   obtain ⟨rf0, rf1, rf2, rf3, rf4, rf5, rf6⟩ := (HABw2.out.kr).f7
   obtain ⟨s0, s1, s2, s3, s4, s5, s6⟩ := (HABw2.out.ks).c7
   obtain ⟨sf0, sf1, sf2, sf3, sf4, sf5, sf6⟩ := (HABw2.out.ks).f7
   go_wp2
   refine bodyPost_ret (v := .tuple #[smv { t with clock := t.clock + a.time }, .int .i64 0]) (by simp [results, Tryz.results16, go_sem, r0, r1, r2, r3, r4, r5, r6]) rfl ⟨{ t with clock := t.clock + a.time }, by rw [HQ.out], by rw [HQ.out]; rfl, (ap_ret HABX.out).1, (ap_ret HABX.out).2⟩
set_option maxHeartbeats 12800000 in
set_option maxRecDepth 100000 in
theorem apply_wait (ao : Option Addr) (cap : Nat) (l : List Sit) (s : Sm) (a : Acn) (w : World) (h : ApIn w ao cap l s a) (hk : a.kind = 14) :
  Calls Tryz.prog 16 #[.slice ao l.length cap, smv s, av a] w (ApOk w l s a) := by
 have HA : Hid (ApIn w ao cap l s a) := h
 obtain ⟨hlw, hlf, hlh, hlt⟩ := apIn_lens h
 have HLW : Hid (s.wl.length ≤ 4608) := hlw
 have HLF : Hid (∀ x ∈ s.wl, x.2.2.2.length ≤ 100) := hlf
 have HLH : Hid (s.held.length ≤ 100) := hlh
 have HLT : Hid (s.touched.length ≤ 100) := hlt
 have HK : Hid (a.kind = 14) := hk
 have HAK : Hid (atR kndL a.kind = 8) := by show _ = _; rw [hk]; rfl
 clear hk
 obtain ⟨w0, hw0⟩ : ∃ w0, w0 = ((w.alloc (smo s)).alloc (aobj a)).alloc (.cells z7.toArray 27) := ⟨_, rfl⟩
 have HB0 : Hid (Below w.heap.size w w0) := by show Below _ _ _; rw [hw0]; exact (((brf).alloc (Nat.le_refl _) _).alloc (by simp) _).alloc (by simp; omega) _
 have KA0 : Hid (Bk (w.heap.size + 1) (acl a) w0) := by show Bk _ _ _; rw [hw0]; exact (Bk.new (w.alloc (smo s)) (acl a) 33 (w.heap.size + 1) (by simp)).later ((brf).alloc (Nat.le_refl _) _)
 have HW0 : Hid (w0 = ((w.alloc (smo s)).alloc (aobj a)).alloc (.cells z7.toArray 27)) := hw0
 have HS0 : Hid (SmIn w0 s) := h.sin.next HB0.out
 clear h hlw hlf hlh hlt hw0
 go_enter Tryz.func16, Tryz.ntmps16
 go_wp2_with fail
 rw [← HW0.out]
 refine (stateOf_any s w0 HS0.out HA.out.nil (by have := HLW.out; omega) (fun x hx => by have := HLF.out x hx; omega) (by have := HLH.out; omega) (by have := HLT.out; omega)).mono ?_
 rintro e w1 ⟨t, rfl, hst, hin, hhi, hnn, hb1⟩
 obtain ⟨w2, hw2⟩ : ∃ w2, w2 = ((w1.alloc (smo t)).alloc (.cells z7.toArray 27)).alloc kobj := ⟨_, rfl⟩
 obtain ⟨hab, hkk2⟩ := ap_first HW0.out hb1 hin hhi hnn hw2
 have HST : Hid (t.st = s.st) := hst
 have HABw2 : Hid (Ab w w2 w1.heap.size a t) := hab
 have KK2 : Hid (Bk (w1.heap.size + 2) [.int .i64 5, .int .i64 6, .int .i64 7, .int .i64 8, .int .i64 9, .int .i64 11, .int .i64 12, .int .i64 13, .int .i64 14] w2) := hkk2
 have HW2 : Hid (w2 = ((w1.alloc (smo t)).alloc (.cells z7.toArray 27)).alloc kobj) := hw2
 have hsz1 : w.heap.size + 3 ≤ w1.heap.size := hab.hi
 have HAT := (show Hid _ from at_knd hkk2 a.kind)
 clear hst hab hkk2 hin hhi hnn hb1 hw2
 go_upto_region 4 with fail
 rw [← HW2.out]
 obtain ⟨a0, a1, a2, a3, a4, a5, a6, a7⟩ := (HABw2.out.ka).c8
 go_wp2_with fail
 clear a0 a1 a2 a3 a4 a5 a6 a7 HW2 HS0 KA0 HB0
 refine Calls.mono HAT.out ?_
 rintro e w3 ⟨rfl, hw3⟩
 have hw4 := hw3.symm
 clear hw3 HAT
 subst hw4
 rw [HAK.out]
 obtain ⟨a0, a1, a2, a3, a4, a5, a6, a7⟩ := (HABw2.out.ka).c8
 obtain ⟨s0, s1, s2, s3, s4, s5, s6⟩ := (HABw2.out.ks).c7
 rw [HK.out] at a0
 go_wp2_with fail
 clear a0 a1 a2 a3 a4 a5 a6 a7 s0 s1 s2 s3 s4 s5 s6
 refine (isFlow_any 14 w2).mono ?_
 rintro e w3 ⟨rfl, hw3⟩
 have hw4 := hw3.symm
 clear hw3
 subst hw4
 rw [show isFl 14 = false from rfl]
 have HYS : Hid (mayS l t.st = true) := by show _ = _; rw [HST.out]; exact HA.out.yes
 have HCK : Hid (inR 0 1000000000 t.clock = true) := by
  have := HA.out.yes
  rw [← HST.out] at this
  unfold mayS mayB at this
  simp only [Bool.and_eq_true] at this
  exact this.2.2.2.2
 have HDO : Hid (doA l t.st a = passA t.st a) := by show _ = _; unfold doA; rw [HK.out]; rfl
 obtain ⟨a0, a1, a2, a3, a4, a5, a6, a7⟩ := (HABw2.out.ka).c8
 obtain ⟨s0, s1, s2, s3, s4, s5, s6⟩ := (HABw2.out.ks).c7
 rw [HK.out] at a0
 go_wp2_with fail
 clear a0 a1 a2 a3 a4 a5 a6 a7 s0 s1 s2 s3 s4 s5 s6
 refine (rwithin_any 0 a.time 1000000000 w2).mono ?_
 rintro e w3 ⟨rfl, hw3⟩
 have hw4 := hw3.symm
 clear hw3
 subst hw4
 cases htm : inR 0 1000000000 a.time with
 | false =>
  have HQ : Hid (applyR l s.st a = (sta0, 2)) := by
   show _ = _
   rw [← HST.out]
   refine ap_err (x := t.st) HYS.out ?_ (by decide)
   rw [HDO.out]
   unfold passA
   rw [htm]
   simp
  clear htm
  obtain ⟨a0, a1, a2, a3, a4, a5, a6, a7⟩ := (HABw2.out.ka).c8
  obtain ⟨s0, s1, s2, s3, s4, s5, s6⟩ := (HABw2.out.ks).c7
  rw [HK.out] at a0
  have ltR := HABw2.out.kr.1
  have ltZ := HABw2.out.kz.1
  have hiB := HABw2.out.hi
  have neR : w.heap.size + 2 ≠ w1.heap.size + 1 := by omega
  obtain ⟨r0, r1, r2, r3, r4, r5, r6⟩ := (HABw2.out.kr).c7
  obtain ⟨rf0, rf1, rf2, rf3, rf4, rf5, rf6⟩ := (HABw2.out.kr).f7
  obtain ⟨z0, z1, z2, z3, z4, z5, z6⟩ := (HABw2.out.kz).c7
  go_wp2
  refine bodyPost_ret (v := .tuple #[smv sm0, .int .i64 2]) (by simp [results, Tryz.results16, go_sem, r0, r1, r2, r3, r4, r5, r6]) rfl ⟨sm0, by rw [HQ.out], by rw [HQ.out]; rfl, (ap_zero HABw2.out.below).1, (ap_zero HABw2.out.below).2⟩
 | true =>
  have htm2 := inR_iff.1 htm
  have hck := inR_iff.1 HCK.out
  have hwp : IntKind.i64.wrap (t.clock + a.time) = t.clock + a.time := wrap_in (by omega) (by omega)
  by_cases hbig : 1000000000 < t.clock + a.time
  ·have HQ : Hid (applyR l s.st a = (sta0, 8)) := by
    show _ = _
    rw [← HST.out]
    refine ap_err (x := t.st) HYS.out ?_ (by decide)
    rw [HDO.out]
    unfold passA
    rw [htm]
    simp only [if_true]
    rw [if_pos (show 1000000000 < t.st.clock + a.time from hbig)]
   clear htm htm2 hck
   obtain ⟨a0, a1, a2, a3, a4, a5, a6, a7⟩ := (HABw2.out.ka).c8
   obtain ⟨s0, s1, s2, s3, s4, s5, s6⟩ := (HABw2.out.ks).c7
   rw [HK.out] at a0
   have ltR := HABw2.out.kr.1
   have ltZ := HABw2.out.kz.1
   have hiB := HABw2.out.hi
   have neR : w.heap.size + 2 ≠ w1.heap.size + 1 := by omega
   obtain ⟨r0, r1, r2, r3, r4, r5, r6⟩ := (HABw2.out.kr).c7
   obtain ⟨rf0, rf1, rf2, rf3, rf4, rf5, rf6⟩ := (HABw2.out.kr).f7
   obtain ⟨z0, z1, z2, z3, z4, z5, z6⟩ := (HABw2.out.kz).c7
   go_wp2
   refine bodyPost_ret (v := .tuple #[smv sm0, .int .i64 8]) (by simp [results, Tryz.results16, go_sem, r0, r1, r2, r3, r4, r5, r6]) rfl ⟨sm0, by rw [HQ.out], by rw [HQ.out]; rfl, (ap_zero HABw2.out.below).1, (ap_zero HABw2.out.below).2⟩
  ·have HQ : Hid (applyR l s.st a = ({ t.st with clock := t.clock + a.time }, 0)) := by
    show _ = _
    rw [← HST.out]
    refine ap_ok HYS.out ?_
    rw [HDO.out]
    unfold passA
    rw [htm]
    simp only [if_true]
    rw [if_neg (show ¬ 1000000000 < t.st.clock + a.time from hbig)]
    rfl
   clear htm htm2 hck
   have HABX : Hid (Ab w (w2.setCell ⟨w1.heap.size, 6, none⟩ (.int .i64 (t.clock + a.time))) w1.heap.size a { t with clock := t.clock + a.time }) :=
    HABw2.out.set 6 (.int .i64 (t.clock + a.time)) { t with clock := t.clock + a.time } rfl (fun h => ⟨h.wells, h.held, h.touched⟩) ⟨HABw2.out.nil.fl, HABw2.out.nil.held, HABw2.out.nil.touched⟩ ⟨HABw2.out.apart.row, HABw2.out.apart.fl, HABw2.out.apart.held, HABw2.out.apart.touched⟩
   obtain ⟨a0, a1, a2, a3, a4, a5, a6, a7⟩ := (HABw2.out.ka).c8
   rw [HK.out] at a0
   have ltR := HABw2.out.kr.1
   have ltB := HABw2.out.ks.1
   have hiB := HABw2.out.hi
   have neR : w.heap.size + 2 ≠ w1.heap.size := by omega
   have neS : w1.heap.size ≠ w.heap.size + 2 := by omega
   obtain ⟨r0, r1, r2, r3, r4, r5, r6⟩ := (HABw2.out.kr).c7
   obtain ⟨rf0, rf1, rf2, rf3, rf4, rf5, rf6⟩ := (HABw2.out.kr).f7
   obtain ⟨s0, s1, s2, s3, s4, s5, s6⟩ := (HABw2.out.ks).c7
   obtain ⟨sf0, sf1, sf2, sf3, sf4, sf5, sf6⟩ := (HABw2.out.ks).f7
   go_wp2
   refine bodyPost_ret (v := .tuple #[smv { t with clock := t.clock + a.time }, .int .i64 0]) (by simp [results, Tryz.results16, go_sem, r0, r1, r2, r3, r4, r5, r6]) rfl ⟨{ t with clock := t.clock + a.time }, by rw [HQ.out], by rw [HQ.out]; rfl, (ap_ret HABX.out).1, (ap_ret HABX.out).2⟩
end Go.Proofs.YtfadmpnpgiceeaaGreat
