/- MeanFull walked. -/
import Derived.Test.YtfadmpnpgiceeaaGreatGj
import Derived.Test.YtfadmpnpgiceeaaGreatNDG
namespace Go.Proofs.YtfadmpnpgiceeaaGreat
open Go.RowKit Go.Maps

theorem runA_may {l : List Sit} (hd : dchk l = 0) : ∀ (r : List Acn) (s : Sta) (k : Nat), May l s → May l (runA l s k r).1 := by
  intro r
  induction r with
  | nil => intro s k h; exact h
  | cons a r ih =>
    intro s k h
    simp only [runA]
    split
    · rename_i h0
      exact ih _ _ (left_do hd h h0).may
    · exact h
theorem slot_lt {l : List Sit} (hd : dchk l = 0) {i j : Nat} (hi : i < l.length) (hj : j < l.length) (hij : i < j) : (l[i]'hi).slot ≠ (l[j]'hj).slot := by
  intro e
  have hf := ((dchk_in hd).2 j hj).2.2
  unfold fit at hf
  split at hf
  · simp at hf
  · split at hf
    · simp at hf
    · rename_i h
      apply h
      left
      rw [List.any_eq_true]
      refine ⟨l[i]'hi, ?_, by simp [e]⟩
      rw [List.mem_take_iff_getElem]
      exact ⟨i, by omega, rfl⟩
theorem slot_one {l : List Sit} (hd : dchk l = 0) {i j : Nat} (hi : i < l.length) (hj : j < l.length) (e : (l[i]'hi).slot = (l[j]'hj).slot) : i = j := by
  rcases Nat.lt_trichotomy i j with h | h | h
  · exact absurd e (slot_lt hd hi hj h)
  · exact h
  · exact absurd e.symm (slot_lt hd hj hi h)
theorem seat_ok {l : List Sit} (hd : dchk l = 0) {p : Plc} {f : List F.Pc} (h : (wellM l p).2 = 0) (hf : F.tot f ≤ (wellM l p).1) : (∀ k (hk : k < l.length), ((l[k]'hk).slot == p.1) = true → (l[k]'hk).ware.kind = 1 ∧ F.tot f ≤ (l[k]'hk).ware.cap) ∧ (l.any fun s => s.slot == p.1) = true := by
  unfold wellM wareOf at h hf
  rcases find_cases l p.1 with ⟨e, _⟩ | ⟨k0, h0, e, hs, _⟩
  · rw [e] at h
    simp at h
  · rw [e] at h hf
    simp only at h hf
    split at h
    · rename_i a ha
      split at ha
      · injection ha with ha
        subst ha
        rw [if_pos (by assumption)] at hf
        split at h
        · rename_i hk1
          simp only [if_pos hk1] at hf
          refine ⟨fun k hk hkk => ?_, ?_⟩
          · have hkk' : (l[k]'hk).slot = p.1 := by simpa using hkk
            obtain rfl := slot_one hd hk h0 (hkk'.trans hs.symm)
            exact ⟨hk1, hf⟩
          · rw [List.any_eq_true]
            exact ⟨_, List.getElem_mem h0, by simp [hs]⟩
        · simp at h
      · cases ha
    · simp at h
theorem any_succ {α : Type} {l : List α} {k : Nat} (hk : k < l.length) (f : α → Bool) : (l.take (k + 1)).any f = ((l.take k).any f || f (l[k]'hk)) := by
  rw [List.take_succ_eq_append_getElem hk, List.any_append]
  simp
theorem held_ok {l : List Sit} {t : Sm} (h : May l t.st) {p : F.Pc} (hp : p ∈ t.held) : t.tip = true ∧ (t.touched.any fun x => x.toList == p.1.toList) = true := by
  cases ht : t.st.tip with
  | false =>
    have := h.take
    unfold mayTake at this
    rw [if_neg (by rw [ht]; decide)] at this
    simp only [Bool.and_eq_true, decide_eq_true_eq] at this
    have e : t.held = [] := this.2.1
    rw [e] at hp
    cases hp
  | true =>
    refine ⟨ht, ?_⟩
    obtain ⟨_, _, u3, u4⟩ := tip_parts h ht
    obtain ⟨n1, n2, n3⟩ := withR_iff.1 (mayTouch_iff.1 u4).2.2
    have hpl := pl_of (mayHold_iff.1 u3).1 (mayHold_iff.1 u3).2.1
    obtain ⟨r, hr, e, _⟩ := (wthn_iff (drops_nn _)).1 n3 p hp (hpl.1 p hp)
    rw [List.any_eq_true]
    exact ⟨r.1, (mem_drops.1 hr).1, by simp [e]⟩
set_option maxHeartbeats 12800000 in
set_option maxRecDepth 100000 in
theorem full_any (ao : Option Addr) (cap : Nat) (l : List Sit) (aoA : Option Addr) (capA : Nat) (acs : List Acn) (w : World) (hD : Dk w ao cap l) (hln : l.length ≤ 9223372036854775807) (hA : Acs w aoA acs) (hla : acs.length ≤ 9223372036854775807) :
    Calls Tryz.prog 6 #[.slice ao l.length cap, .slice aoA acs.length capA] w fun e w' => e = .returned (.bool true) ∧ Below w.heap.size w w' := by
  have HD : Hid (Dk w ao cap l) := hD
  have HA : Hid (Acs w aoA acs) := hA
  have HLN : Hid (l.length ≤ 9223372036854775807) := hln
  have HM0 : Hid (Calls Tryz.prog 7 #[.slice none 0 0, smv sm0] w fun e w' => e = .returned (.bool true) ∧ Below w.heap.size w w') := by
    have := mayF_any none 0 [] sm0 w (dk_nil _) (by simp) (SmIn.zero _) ⟨by simp, by simp⟩
    rw [may_nil] at this
    exact this
  clear hD hA
  go_enter Tryz.func6, Tryz.ntmps6
  go_wp2_with fail
  refine Calls.mono HM0.out ?_
  rintro e w1 ⟨rfl, hb⟩
  have HB1 : Hid (Below w.heap.size w w1) := hb
  clear hb HM0
  go_wp2_with fail
  refine (run_any ao cap l aoA capA acs w1 (HD.out.next HB1.out) HLN.out (HA.out.next HB1.out) hla).mono ?_
  rintro e w2 ⟨t, rfl, hst, hin, hhi, hb⟩
  obtain ⟨⟨sR, kR, eR⟩, hrq⟩ : ∃ x, runR l acs = x := ⟨_, rfl⟩
  rw [hrq] at hst ⊢
  simp only at hst ⊢
  have HRQ : Hid (runR l acs = (sR, kR, eR)) := hrq
  obtain ⟨w3, hw3⟩ : ∃ w3, w3 = w2.alloc (smo t) := ⟨_, rfl⟩
  have b3 : Below w2.heap.size w2 w3 := by rw [hw3]; exact (Below.refl _ _).alloc (Nat.le_refl _) _
  have KS3 : Hid (Bk w2.heap.size (sml t) w3) := by show Bk _ _ _; rw [hw3]; exact Bk.new w2 (sml t) 27 w2.heap.size rfl
  have HB3 : Hid (Below w.heap.size w w3) := (HB1.out.trans (hb.mono HB1.out.size)).trans (b3.mono (Nat.le_trans HB1.out.size hb.size))
  have HR3 : Hid (SmIn w3 t) := hin.next b3
  have HSR : Hid (t.st = sR) := hst
  have HW3 : Hid (w3 = w2.alloc (smo t)) := hw3
  have HC3 := (show Hid _ from dk_check ao cap l w3 (HD.out.next HB3.out) HLN.out)
  clear hst hin hhi hb hrq hw3 b3
  go_wp2_with fail
  rw [← HW3.out]
  refine Calls.mono HC3.out ?_
  rintro e w4 ⟨rfl, hb⟩
  have KS4 : Hid (Bk w2.heap.size (sml t) w4) := KS3.out.later hb
  have HB4 : Hid (Below w.heap.size w w4) := HB3.out.trans (hb.mono HB3.out.size)
  have HR4 : Hid (SmIn w4 t) := HR3.out.next hb
  have HC4 := (show Hid _ from dk_check ao cap l w4 (HD.out.next HB4.out) HLN.out)
  clear hb HC3 KS3 HB3 HR3
  obtain ⟨c, hc⟩ : ∃ c, dchk l = c := ⟨_, rfl⟩
  have HC : Hid (dchk l = c) := hc
  rw [hc] at HC4 ⊢
  clear hc
  by_cases he : c = 0
  rotate_left
  · have hq : (sta0, 0, c) = (sR, kR, eR) := by rw [← HRQ.out]; unfold runR; rw [HC.out, if_neg he]
    simp only [Prod.mk.injEq] at hq
    obtain ⟨_, rfl, rfl⟩ := hq
    have h2 : (c == 0) = false := by simp [he]
    have h3 : (c != 0) = true := by simp [he]
    clear he
    go_wp2_with fail
    refine Calls.mono HC4.out ?_
    rintro e w5 ⟨rfl, hb⟩
    have HB5 : Hid (Below w.heap.size w w5) := HB4.out.trans (hb.mono HB4.out.size)
    clear hb
    go_wp2
    go_ret
    exact ⟨rfl, HB5.out⟩
  · subst he
    have hq : runA l sta0 0 acs = (sR, kR, eR) := by rw [← HRQ.out]; unfold runR; rw [HC.out, if_pos rfl]
    have hmy : May l t.st := by
      have := runA_may HC.out acs sta0 0 (may_sta0 l)
      rw [hq] at this
      rw [HSR.out]
      exact this
    have HMY : Hid (May l t.st) := hmy
    have hus : t.used ≤ ((tipsL l).length : Int) := by
      have h1 := hmy.take
      unfold mayTake at h1
      split at h1
      · simp only [Bool.and_eq_true, inR_iff] at h1; exact h1.1.2
      · simp only [Bool.and_eq_true, inR_iff] at h1; exact h1.1.2
    have hu : decide (((tipsL l).length : Int) < t.used) = false := decide_eq_false (by omega)
    have hwn := (may_smlen HC.out hmy).2
    have hhn : t.held.length ≤ 100 := (may_lens hmy).1
    have htn : t.touched.length ≤ 100 := (may_lens hmy).2.1
    have hl12 := dk_len HC.out
    clear hq hmy hus
    go_wp2_with fail
    refine (tips_any ao cap l w4 (HD.out.next HB4.out) HC.out).mono ?_
    rintro e w5 ⟨v, rfl, ho, hb⟩
    obtain ⟨aoP, capP, rfl⟩ := ho.shape
    have KS5 : Hid (Bk w2.heap.size (sml t) w5) := KS4.out.later hb
    have HB5 : Hid (Below w.heap.size w w5) := HB4.out.trans (hb.mono HB4.out.size)
    have HR5 : Hid (SmIn w5 t) := HR4.out.next hb
    clear hb ho KS4 HR4
    have y0 := (KS5.out).c 0 rfl
    have y1 := (KS5.out).c 1 rfl
    have y2 := (KS5.out).c 2 rfl
    have y3 := (KS5.out).c 3 rfl
    have y4 := (KS5.out).c 4 rfl
    have y5 := (KS5.out).c 5 rfl
    have y6 := (KS5.out).c 6 rfl
    go_wp2_with fail
    clear hu y0 y1 y2 y3 y4 y5 y6
    go_loopw [10] (fun i wr => ∃ k : Nat, k ≤ t.wl.length ∧ i = .int .i64 k ∧ Below w5.heap.size w5 wr) (fun i _ => t.wl.length - (intOf i).toNat)
    case atStart => exact ⟨0, Nat.zero_le _, rfl, Below.refl _ _⟩
    case round =>
      obtain ⟨k, hk, rfl, hb⟩ := hrel
      have HBr : Hid (Below w.heap.size w wr) := HB5.out.trans (hb.mono HB5.out.size)
      have HB : Hid (Below w5.heap.size w5 wr) := hb
      have KS : Hid (Bk w2.heap.size (sml t) wr) := KS5.out.later hb
      have HR : Hid (SmIn wr t) := HR5.out.next hb
      clear hb
      by_cases hlt : k < t.wl.length
      rotate_left
      · obtain rfl : k = t.wl.length := by omega
        clear hlt
        have y0 := (KS.out).c 0 rfl
        have y1 := (KS.out).c 1 rfl
        have y2 := (KS.out).c 2 rfl
        have y3 := (KS.out).c 3 rfl
        have y4 := (KS.out).c 4 rfl
        have y5 := (KS.out).c 5 rfl
        have y6 := (KS.out).c 6 rfl
        go_wp2_with fail
        clear y0 y1 y2 y3 y4 y5 y6
        obtain ⟨wP, hwP⟩ : ∃ x, x = wr := ⟨_, rfl⟩
        subst hwP
        go_loopw [15] (fun i wr => ∃ k : Nat, k ≤ t.held.length ∧ i = .int .i64 k ∧ Below wP.heap.size wP wr) (fun i _ => t.held.length - (intOf i).toNat)
        case atStart => exact ⟨0, Nat.zero_le _, rfl, Below.refl _ _⟩
        case round =>
          obtain ⟨k, hk, rfl, hb⟩ := hrel
          have HBq : Hid (Below wP.heap.size wP wr) := hb
          have KSq : Hid (Bk w2.heap.size (sml t) wr) := KS.out.later hb
          have HRq : Hid (SmIn wr t) := HR.out.next hb
          clear hb
          have y0 := (KSq.out).c 0 rfl
          have y1 := (KSq.out).c 1 rfl
          have y2 := (KSq.out).c 2 rfl
          have y3 := (KSq.out).c 3 rfl
          have y4 := (KSq.out).c 4 rfl
          have y5 := (KSq.out).c 5 rfl
          have y6 := (KSq.out).c 6 rfl
          by_cases hlt : k < t.held.length
          rotate_left
          · obtain rfl : k = t.held.length := by omega
            clear hlt
            go_wp2
            go_ret
            exact ⟨rfl, HBr.out.trans (HBq.out.mono HBr.out.size)⟩
          · obtain ⟨b1, o1, ha1, _, c0, _, _⟩ := HRq.out.held.at hlt
            have hok := held_ok HMY.out (List.getElem_mem hlt)
            generalize t.held[k]'hlt = p at *
            have hki : (k : Int) < (t.held.length : Int) := by omega
            have HTP : Hid (t.tip = true) := hok.1
            have HAN : Hid ((t.touched.any fun x => x.toList == p.1.toList) = true) := hok.2
            have HA1 : Hid (t.aoH = some ⟨b1, o1, none⟩) := ha1
            have HC0 : Hid (wr.cell? ⟨b1, o1 + k * 2, none⟩ = some (.string p.1)) := c0
            clear hok ha1 c0
            go_wp2_with fail
            clear y0 y1 y2 y3 y4 y5 y6
            go_loopw [16, 17] (fun b i wz => ∃ j : Nat, j ≤ t.touched.length ∧ i = .int .i64 j ∧ b = .bool ((t.touched.take j).any fun x => x.toList == p.1.toList) ∧ ∃ n, wz = wr.drewN n) (fun _ i _ => t.touched.length - (intOf i).toNat)
            case atStart => exact ⟨0, Nat.zero_le _, rfl, rfl, 0, rfl⟩
            case round =>
              obtain ⟨j, hj, rfl, rfl, n, rfl⟩ := hrel
              have y0 := (KSq.out).c 0 rfl
              have y1 := (KSq.out).c 1 rfl
              have y2 := (KSq.out).c 2 rfl
              have y3 := (KSq.out).c 3 rfl
              have y4 := (KSq.out).c 4 rfl
              have y5 := (KSq.out).c 5 rfl
              have y6 := (KSq.out).c 6 rfl
              by_cases hlj : j < t.touched.length
              rotate_left
              · obtain rfl : j = t.touched.length := by omega
                rw [List.take_length, HAN.out]
                rw [HTP.out] at y1
                clear hlj
                go_wp2
                go_roundw
                case rel => exact ⟨k + 1, by omega, by go_num, HBq.out.trans (blw_drewN (Below.refl _ _) _)⟩
                case measure => simp [intOf]; omega
              · obtain ⟨b2, o2, ha2, _, c1, _⟩ := HRq.out.touched.at hlj
                have HAS : Hid (_) := any_succ hlj (fun x => x.toList == p.1.toList)
                generalize t.touched[j]'hlj = q at *
                have c0 := HC0.out
                rw [HA1.out] at y2
                rw [ha2] at y3
                have hji : (j : Int) < (t.touched.length : Int) := by omega
                obtain ⟨B, hB⟩ : ∃ B, ((t.touched.take j).any fun x => x.toList == p.1.toList) = B := ⟨_, rfl⟩
                rw [hB] at HAS ⊢
                clear ha2 hB
                cases B with
                | true =>
                  go_wp2_with fail
                  go_big_quiet (fail)
                  go_wp2
                  go_roundw
                  case rel => exact ⟨j + 1, by omega, by go_num, by rw [HAS.out]; rfl, n + nq, by simp⟩
                  case measure => simp [intOf]; omega
                | false =>
                  cases hqp : (q.toList == p.1.toList) with
                  | true =>
                    go_wp2_with fail
                    go_big_quiet (fail)
                    go_wp2
                    go_roundw
                    case rel => exact ⟨j + 1, by omega, by go_num, by rw [HAS.out, hqp]; rfl, n + nq, by simp⟩
                    case measure => simp [intOf]; omega
                  | false =>
                    go_wp2_with fail
                    go_big_quiet (fail)
                    go_wp2
                    go_roundw
                    case rel => exact ⟨j + 1, by omega, by go_num, by rw [HAS.out, hqp]; rfl, n + nq, by simp⟩
                    case measure => simp [intOf]; omega
      · obtain ⟨bx, ox, hax, hx⟩ := HR.out.wells.at hlt
        have hmw := HMY.out.wells (((t.wl[k]'hlt).1, (t.wl[k]'hlt).2.2.2)) (List.mem_map.2 ⟨_, List.getElem_mem hlt, rfl⟩)
        generalize t.wl[k]'hlt = y at *
        simp only at hmw
        have hmh := mayHold_iff.1 hmw.2.2
        have hso := seat_ok HC.out hmw.1 hmh.2.2
        have HSO : Hid (∀ k (hk : k < l.length), ((l[k]'hk).slot == y.1.1) = true → (l[k]'hk).ware.kind = 1 ∧ F.tot y.2.2.2 ≤ (l[k]'hk).ware.cap) := hso.1
        have HAN : Hid ((l.any fun s => s.slot == y.1.1) = true) := hso.2
        have htp : 1 ≤ F.tot y.2.2.2 := pl_pos (pl_of hmh.1 hmh.2.1) hmw.2.1
        have HTR : Hid (F.totR y.2.2.2 = (F.tot y.2.2.2, 0)) := by show _ = _; unfold F.totR; rw [if_pos hmh.1]
        have HX : Hid (WhAt wr bx (ox + k * 4) y) := hx
        have HAX : Hid (t.aoW = some ⟨bx, ox, none⟩) := hax
        obtain ⟨_, c0, c1, c2, c3, _⟩ := hx
        have hki : (k : Int) < (t.wl.length : Int) := by omega
        have y0 := (KS.out).c 0 rfl
        have y1 := (KS.out).c 1 rfl
        have y2 := (KS.out).c 2 rfl
        have y3 := (KS.out).c 3 rfl
        have y4 := (KS.out).c 4 rfl
        have y5 := (KS.out).c 5 rfl
        have y6 := (KS.out).c 6 rfl
        rw [hax] at y0
        clear hmw hmh hso hax
        go_wp2_with fail
        refine (F.totalF_any y.2.1 y.2.2.1 y.2.2.2 wr HX.out.fl).mono ?_
        rw [HTR.out]
        rintro e w6 ⟨rfl, hb⟩
        have HB6 : Hid (Below wr.heap.size wr w6) := hb
        have HBw6 : Hid (Below w5.heap.size w5 w6) := HB.out.trans (hb.mono HB.out.size)
        have KS6 : Hid (Bk w2.heap.size (sml t) w6) := KS.out.later hb
        have HX6 : Hid (WhAt w6 bx (ox + k * 4) y) := HX.out.next hb
        have HD6 : Hid (Dk w6 ao cap l) := HD.out.next (HBr.out.trans (hb.mono HBr.out.size))
        simp only
        obtain ⟨TT, hTT⟩ : ∃ x, F.tot y.2.2.2 = x := ⟨_, rfl⟩
        rw [hTT] at htp HSO ⊢
        have hlt1 : decide (TT < 1) = false := decide_eq_false (by omega)
        clear hb c0 c1 c2 c3 y0 y1 y2 y3 y4 y5 y6 hTT HTR
        go_wp2_with fail
        go_loopw [13, 14] (fun b i wz => ∃ j : Nat, j ≤ l.length ∧ i = .int .i64 j ∧ b = .bool ((l.take j).any fun s => s.slot == y.1.1) ∧ ∃ n, wz = w6.drewN n) (fun _ i _ => l.length - (intOf i).toNat)
        case atStart => exact ⟨0, Nat.zero_le _, rfl, rfl, 0, rfl⟩
        case round =>
          obtain ⟨j, hj, rfl, rfl, n, rfl⟩ := hrel
          by_cases hlj : j < l.length
          rotate_left
          · obtain rfl : j = l.length := by omega
            rw [List.take_length, HAN.out]
            clear hlj
            go_wp2
            go_roundw
            case rel => exact ⟨k + 1, by omega, by go_num, HBw6.out.trans (blw_drewN (Below.refl _ _) _)⟩
            case measure => simp [intOf]; omega
          · obtain ⟨b2, o2, hao, hc⟩ := HD6.out.sts.at hlj
            have hso := HSO.out j hlj
            have HAS : Hid (_) := any_succ hlj (fun s => s.slot == y.1.1)
            generalize l[j]'hlj = z at *
            subst hao
            have g0 := hc.c0
            have g2 := hc.c2
            have g12 := hc.c12
            have c0 := HX6.out.c0
            have y0 := KS6.out.c 0 rfl
            rw [HAX.out] at y0
            have hji : (j : Int) < (l.length : Int) := by omega
            obtain ⟨B, hB⟩ : ∃ B, ((l.take j).any fun s => s.slot == y.1.1) = B := ⟨_, rfl⟩
            rw [hB] at HAS ⊢
            clear hB hc
            cases hsl : (z.slot == y.1.1) with
            | true =>
              have hkd : (z.ware.kind == 1) = true := by simp [(hso hsl).1]
              have hcp : decide (TT ≤ z.ware.cap) = true := decide_eq_true (hso hsl).2
              have HT : Hid (z.slot == y.1.1) := hsl
              clear hso
              go_wp2_with fail
              go_big_quiet (fail)
              go_wp2
              go_roundw
              case rel => exact ⟨j + 1, by omega, by go_num, by rw [HAS.out, HT.out]; simp, n + nq, by simp⟩
              case measure => simp [intOf]; omega
            | false =>
              have HT : Hid ((z.slot == y.1.1) = false) := hsl
              clear hso
              go_wp2_with fail
              go_big_quiet (fail)
              go_wp2
              go_roundw
              case rel => exact ⟨j + 1, by omega, by go_num, by rw [HAS.out, HT.out]; simp, n + nq, by simp⟩
              case measure => simp [intOf]; omega
end Go.Proofs.YtfadmpnpgiceeaaGreat
