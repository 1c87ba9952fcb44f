/- spelt, isOrdered, written, walked. -/
import Derived.Test.YtpfpfnkagmmanaaGreatDoorBld
import Derived.Test.YtpfpfnkagmmanaaGreatDoorJnM
namespace Go.Proofs.YtpfpfnkagmmanaaGreatDoor
open Go.RowKit Go.Shelf

theorem cat_quotes (x : List UInt8) : (⟨#[34]⟩ : ByteArray) ++ ⟨x.toArray⟩ ++ ⟨#[34]⟩ = ⟨([34] ++ x ++ [34]).toArray⟩ := by
  apply ByteArray.ext
  rw [ByteArray.data_append, ByteArray.data_append]
  simp
set_option maxHeartbeats 1600000 in
theorem spelt_any (p : Tk) (w : World) (hl : p.t.length ≤ 1048576) :
    Calls Tryz.prog 22 #[.agg #[.int .i64 p.k, .string ⟨p.t.toArray⟩, .int .i64 p.n]] w fun e w' => e = .returned (.string ⟨(spl p).toArray⟩) ∧ Below w.heap.size w w' := by
  obtain ⟨k, x, n⟩ := p
  simp only at hl ⊢
  by_cases hk : k = 4
  · subst hk
    have e : spl ⟨4, x, n⟩ = [34] ++ x ++ [34] := rfl
    have hc := cat_quotes x
    rw [e, ← hc]
    have z1 : ¬ 9223372036854775807 < 1 + x.length := by omega
    have z2 : ¬ 9223372036854775807 < 1 + x.length + 1 := by omega
    clear e hc
    go_enter Tryz.func22, Tryz.ntmps22
    go_wp2
    go_ret
    exact ⟨rfl, (Below.refl _ _).alloc (Nat.le_refl _) _⟩
  · have e : spl ⟨k, x, n⟩ = x := if_neg hk
    have q : (k == 4) = false := by simp [hk]
    rw [e]
    clear e hk
    go_enter Tryz.func22, Tryz.ntmps22
    go_wp2
    go_ret
    exact ⟨rfl, (Below.refl _ _).alloc (Nat.le_refl _) _⟩
set_option maxHeartbeats 3200000 in
theorem isOrdered_any (ao : Option Addr) (cap : Nat) (l : List Tk) (w : World) (hL : Tks w ao l) (hl : l.length ≤ 4398046511104) :
    Calls Tryz.prog 8 #[.slice ao l.length cap] w fun e w' => e = .returned (.bool (ordB 1 l)) ∧ Below w.heap.size w w' := by
  obtain ⟨O, hO⟩ : ∃ O, O = ordB 1 l := ⟨_, rfl⟩
  have HO : Hid (ordB 1 (l.drop 0) = O) := by show _ = _; rw [List.drop_zero, hO]
  rw [← hO]
  have HL : Hid (Tks w ao l) := hL
  obtain ⟨m, hm⟩ : ∃ m, m = l.length := ⟨_, rfl⟩
  have HM : Hid (m = l.length) := hm
  rw [← hm] at hl ⊢
  clear hL hO hm
  go_enter Tryz.func8, Tryz.ntmps8
  go_wp2
  go_loopw [3, 8] (fun v3 v8 wr => ∃ (k : Nat) (a : Int), v8 = .int .i64 (k : Int) ∧ v3 = .int .i64 a ∧ k ≤ m ∧ Hid (ordB a (l.drop k) = O) ∧ Below w.heap.size w wr) (fun _ v8 _ => m - (intOf v8).toNat)
  case atStart => exact ⟨0, 1, rfl, rfl, Nat.zero_le _, HO, Below.refl _ _⟩
  case round =>
    obtain ⟨k, a, rfl, rfl, hk, hI, hb⟩ := hrel
    have HB : Hid (Below w.heap.size w wr) := hb
    clear hb
    by_cases hkm : k < m
    · have h1 : k < l.length := by rw [← HM.out]; exact hkm
      obtain ⟨b, off, rfl, hlt, c0, c1, c2⟩ := (HL.out.next HB.out).at h1
      have hdr : l.drop k = l[k]'h1 :: l.drop (k + 1) := List.drop_eq_getElem_cons h1
      rw [hdr] at hI
      obtain ⟨p, hp⟩ : ∃ p, l[k]'h1 = p := ⟨_, rfl⟩
      rw [hp] at hI c0 c1 c2
      have k0 : (0 : Int) ≤ (k : Int) := by omega
      have k1 : (k : Int) < (m : Int) := by omega
      obtain ⟨pk, pt, pn⟩ := p
      simp only at c0 c1 c2
      clear hp hdr
      by_cases h2 : pn < a
      · have HX : Hid (O = false) := by have := hI.out; simp only [ordB] at this; rw [if_pos (.inl h2)] at this; exact this.symm
        have q : decide (pn < a) = true := by simp [h2]
        clear hI h2
        go_wp2
        go_ret
        exact ⟨ret_bool HX.out.symm, HB.out.alloc HB.out.size _⟩
      · have q : decide (pn < a) = false := by simp; omega
        by_cases h3 : 10000 < pn
        · have HX : Hid (O = false) := by have := hI.out; simp only [ordB] at this; rw [if_pos (.inr h3)] at this; exact this.symm
          have q2 : decide (10000 < pn) = true := by simp [h3]
          clear hI h2 h3
          go_wp2
          go_ret
          exact ⟨ret_bool HX.out.symm, HB.out.alloc HB.out.size _⟩
        · have HX : Hid (ordB pn (l.drop (k + 1)) = O) := by have := hI.out; simp only [ordB] at this; rw [if_neg (by omega)] at this; exact this
          have q2 : decide (10000 < pn) = false := by simp; omega
          clear hI h2 h3
          go_wp2
          go_roundw
          case rel => exact ⟨k + 1, pn, by go_num, rfl, by omega, HX, HB.out.alloc HB.out.size _⟩
          case measure => simp [intOf]; omega
    · have HX : Hid (O = true) := by
        have := hI.out
        rw [List.drop_eq_nil_of_le (by rw [← HM.out]; omega)] at this
        exact this.symm
      obtain rfl : k = m := by omega
      have q : decide ((k : Int) < (k : Int)) = false := by simp
      clear hI
      go_wp2
      go_ret
      exact ⟨ret_bool HX.out.symm, HB.out⟩
theorem ord_lines : ∀ (l : List Tk) (a : Int), ordB a l = true → ∀ p ∈ l, a ≤ p.n ∧ p.n ≤ 10000
  | [], _, _, p, hp => by cases hp
  | q :: l, a, h, p, hp => by
    simp only [ordB] at h
    split at h
    · cases h
    · rename_i hc
      rcases List.mem_cons.1 hp with rfl | hp
      · omega
      · have := ord_lines l q.n h p hp
        omega
theorem sep_len (f : Bool) (n : Int) (p : Tk) (hn : 1 ≤ n) (hp : p.n ≤ 10000) : (sepT f n p).length ≤ 10000 := by
  unfold sepT
  split
  · rw [List.length_replicate]; omega
  · split <;> simp
theorem spl_len (p : Tk) (h : p.t.length ≤ 1048576) : (spl p).length ≤ 1048578 := by
  unfold spl
  split
  · simp; omega
  · omega
set_option maxHeartbeats 6400000 in
theorem written_any (ao : Option Addr) (cap : Nat) (l : List Tk) (w : World) (hL : Tks w ao l) (hl : l.length ≤ 4398046511104) (ho : ordB 1 l = true) (ht : ∀ p ∈ l, p.t.length ≤ 1048576) :
    Calls Tryz.prog 9 #[.slice ao l.length cap] w fun e w' => e = .returned (.string ⟨(wrT [] true 1 l).toArray⟩) ∧ Below w.heap.size w w' := by
  obtain ⟨J, hJ⟩ : ∃ J, J = wrT [] true 1 l := ⟨_, rfl⟩
  have HJ : Hid (wrT [] true 1 (l.drop 0) = J) := by show _ = _; rw [List.drop_zero, hJ]
  rw [← hJ]
  have HL : Hid (Tks w ao l) := hL
  have HO : Hid (∀ p ∈ l, 1 ≤ p.n ∧ p.n ≤ 10000) := ord_lines l 1 ho
  have HT : Hid (∀ p ∈ l, p.t.length ≤ 1048576) := ht
  obtain ⟨m, hm⟩ : ∃ m, m = l.length := ⟨_, rfl⟩
  have HM : Hid (m = l.length) := hm
  rw [← hm] at hl ⊢
  clear hL hJ hm ho ht
  go_enter Tryz.func9, Tryz.ntmps9
  go_wp2
  go_loopw [4, 9] (fun v4 v9 wr => ∃ (k : Nat) (n : Int) (acc : List UInt8), v9 = .int .i64 (k : Int) ∧ v4 = .int .i64 n ∧ k ≤ m ∧ 1 ≤ n ∧ n ≤ 10000 ∧ acc.length ≤ 1100000 ∧ Hid (wrT acc (decide (k = 0)) n (l.drop k) = J) ∧ Bd wr w.heap.size acc ∧ Below w.heap.size w wr) (fun _ v9 _ => m - (intOf v9).toNat)
  case atStart => exact ⟨0, 1, [], rfl, rfl, Nat.zero_le _, by omega, by omega, by simp, HJ, Bd.new w, (Below.refl _ _).alloc (Nat.le_refl _) _⟩
  case round =>
    obtain ⟨k, n, acc, rfl, rfl, hk, hn1, hn2, hac, hI, hbd, hb⟩ := hrel
    have HB : Hid (Below w.heap.size w wr) := hb
    have HBD : Hid (Bd wr w.heap.size acc) := hbd
    have hBlt : w.heap.size < wr.heap.size := hbd.lt
    clear hb hbd
    by_cases hkm : k < m
    · have h1 : k < l.length := by rw [← HM.out]; exact hkm
      obtain ⟨b, off, rfl, hlt, c0, c1, c2⟩ := (HL.out.next HB.out).at h1
      have hdr : l.drop k = l[k]'h1 :: l.drop (k + 1) := List.drop_eq_getElem_cons h1
      rw [hdr] at hI
      obtain ⟨p, hp⟩ : ∃ p, l[k]'h1 = p := ⟨_, rfl⟩
      have hmem : p ∈ l := by rw [← hp]; exact List.getElem_mem h1
      rw [hp] at hI c0 c1 c2
      have hpn := HO.out p hmem
      have hpt := HT.out p hmem
      have k0 : (0 : Int) ≤ (k : Int) := by omega
      have k1 : (k : Int) < (m : Int) := by omega
      clear hp hdr hmem
      have al : Below wr.heap.size wr (wr.alloc (.cells #[.int .i64 p.k, .string ⟨p.t.toArray⟩, .int .i64 p.n] 36)) := (Below.refl _ _).alloc (Nat.le_refl _) _
      have HBD1 : Hid (Bd (wr.alloc (.cells #[.int .i64 p.k, .string ⟨p.t.toArray⟩, .int .i64 p.n] 36)) w.heap.size acc) := HBD.out.later al
      have HTB : Hid (TkBlk (wr.alloc (.cells #[.int .i64 p.k, .string ⟨p.t.toArray⟩, .int .i64 p.n] 36)) wr.heap.size p) := TkBlk.new wr p
      have HB1 : Hid (Below w.heap.size w (wr.alloc (.cells #[.int .i64 p.k, .string ⟨p.t.toArray⟩, .int .i64 p.n] 36))) := HB.out.alloc HB.out.size _
      clear al
      by_cases hbig : 20000 < acc.length
      · have HX : Hid (acc = J) := by have := hI.out; simp only [wrT] at this; rw [if_pos hbig] at this; exact this
        have q : decide ((20000 : Int) < (acc.length : Int)) = true := by simp; omega
        clear hI hbig
        go_wp2_with fail
        refine Calls.mono (bd_len _ acc _ HBD1.out) ?_
        rintro x w1 ⟨rfl, rfl⟩
        go_wp2_with fail
        refine Calls.mono (bd_read _ acc _ HBD1.out) ?_
        rintro x w2 ⟨rfl, hb2⟩
        go_wp2
        go_ret
        exact ⟨by rw [HX.out]; rfl, HB1.out.trans hb2⟩
      · have HX : Hid (wrT (acc ++ (sepT (decide (k = 0)) n p ++ spl p)) false p.n (l.drop (k + 1)) = J) := by have := hI.out; simp only [wrT] at this; rw [if_neg hbig] at this; exact this
        have q : decide ((20000 : Int) < (acc.length : Int)) = false := by simp; omega
        have hac2 : acc.length ≤ 20000 := by omega
        have hsp := spl_len p hpt
        have HSP : Hid (∀ W : World, Calls Tryz.prog 22 #[.agg #[.int .i64 p.k, .string ⟨p.t.toArray⟩, .int .i64 p.n]] W fun e w' => e = .returned (.string ⟨(spl p).toArray⟩) ∧ Below W.heap.size W w') := fun W => spelt_any p W hpt
        clear hI hbig hac
        by_cases hln : n < p.n
        · obtain ⟨c, hc⟩ : ∃ c : Nat, p.n - n = (c : Int) := ⟨(p.n - n).toNat, by omega⟩
          have HSEP : Hid (sepT (decide (k = 0)) n p = List.replicate c 10) := by show _ = _; unfold sepT; rw [if_pos hln, hc]; simp
          have hc2 : c ≤ 10000 := by omega
          have HCI : Hid (p.n - n = (c : Int)) := hc
          have q2 : decide (n < p.n) = true := by simp [hln]
          clear hc hln
          go_wp2_with fail
          refine Calls.mono (bd_len _ acc _ HBD1.out) ?_
          rintro x w1 ⟨rfl, rfl⟩
          obtain ⟨d0, d1, d2⟩ := HTB.out.cells
          go_wp2_with fail
          rw [HCI.out]
          refine Calls.mono (feeds c _ hc2) ?_
          rintro x w2 ⟨rfl, hb2⟩
          have HBD2a : Hid (Bd w2 w.heap.size acc) := HBD1.out.later hb2
          have HTB2a : Hid (TkBlk w2 wr.heap.size p) := HTB.out.later hb2
          have HB2a : Hid (Below w.heap.size w w2) := HB1.out.trans (hb2.mono HB1.out.size)
          clear hb2 d0 d1 d2
          go_wp2_with fail
          refine Calls.mono (bd_str _ acc (List.replicate c 10) _ HBD2a.out (by rw [List.length_replicate]; omega)) ?_
          rintro x w3 ⟨n3, rfl, hbd3, hb3, hk3⟩
          have HBD2 : Hid (Bd w3 w.heap.size (acc ++ List.replicate c 10)) := hbd3
          have HTB2 : Hid (TkBlk w3 wr.heap.size p) := HTB2a.out.kept hk3 (by omega)
          have HB2 : Hid (Below w.heap.size w w3) := HB2a.out.trans hb3
          clear hbd3 hb3 hk3 HBD2a HTB2a HB2a
          obtain ⟨d0, d1, d2⟩ := HTB2.out.cells
          go_wp2_with fail
          refine Calls.mono (HSP.out _) ?_
          rintro x w5 ⟨rfl, hb5⟩
          have HBD5 : Hid (Bd w5 w.heap.size (acc ++ List.replicate c 10)) := HBD2.out.later hb5
          have HTB5 : Hid (TkBlk w5 wr.heap.size p) := HTB2.out.later hb5
          have HB5 : Hid (Below w.heap.size w w5) := HB2.out.trans (hb5.mono HB2.out.size)
          clear hb5 d0 d1 d2
          go_wp2_with fail
          refine Calls.mono (bd_str _ (acc ++ List.replicate c 10) (spl p) _ HBD5.out (by rw [List.length_append, List.length_replicate]; omega)) ?_
          rintro x w6 ⟨n6, rfl, hbd6, hb6, hk6⟩
          have HBD6 : Hid (Bd w6 w.heap.size ((acc ++ List.replicate c 10) ++ spl p)) := hbd6
          have HTB6 : Hid (TkBlk w6 wr.heap.size p) := HTB5.out.kept hk6 (by omega)
          have HB6 : Hid (Below w.heap.size w w6) := HB5.out.trans hb6
          obtain ⟨d0, d1, d2⟩ := HTB6.out.cells
          clear hbd6 hb6 hk6 d0 d1
          go_wp2
          go_roundw
          case rel =>
            refine ⟨k + 1, p.n, (acc ++ List.replicate c 10) ++ spl p, by go_num, rfl, by omega, hpn.1, hpn.2, by simp only [List.length_append, List.length_replicate]; omega, ?_, HBD6.out, HB6.out⟩
            have h := HX.out
            rw [HSEP.out] at h
            show wrT _ (decide (k + 1 = 0)) _ _ = _
            rw [show decide (k + 1 = 0) = false by simp]
            simpa [List.append_assoc] using h
          case measure => simp [intOf]; omega
        · have q2 : decide (n < p.n) = false := by simp; omega
          by_cases hk0 : 0 < k
          · have HSEP : Hid (sepT (decide (k = 0)) n p = [32]) := by show _ = _; unfold sepT; rw [if_neg hln, if_neg (by simp; omega)]
            have q3 : decide ((0 : Int) < (k : Int)) = true := by simp; omega
            clear hln
            go_wp2_with fail
            refine Calls.mono (bd_len _ acc _ HBD1.out) ?_
            rintro x w1 ⟨rfl, rfl⟩
            obtain ⟨d0, d1, d2⟩ := HTB.out.cells
            go_wp2_with fail
            refine Calls.mono (bd_byte _ acc _ HBD1.out (by omega)) ?_
            rintro x w3 ⟨rfl, hbd3, hb3, hk3⟩
            have HBD2 : Hid (Bd w3 w.heap.size (acc ++ [32])) := hbd3
            have HTB2 : Hid (TkBlk w3 wr.heap.size p) := HTB.out.kept hk3 (by omega)
            have HB2 : Hid (Below w.heap.size w w3) := HB1.out.trans hb3
            clear hbd3 hb3 hk3 d0 d1 d2
            obtain ⟨d0, d1, d2⟩ := HTB2.out.cells
            go_wp2_with fail
            refine Calls.mono (HSP.out _) ?_
            rintro x w5 ⟨rfl, hb5⟩
            have HBD5 : Hid (Bd w5 w.heap.size (acc ++ [32])) := HBD2.out.later hb5
            have HTB5 : Hid (TkBlk w5 wr.heap.size p) := HTB2.out.later hb5
            have HB5 : Hid (Below w.heap.size w w5) := HB2.out.trans (hb5.mono HB2.out.size)
            clear hb5 d0 d1 d2
            go_wp2_with fail
            refine Calls.mono (bd_str _ (acc ++ [32]) (spl p) _ HBD5.out (by rw [List.length_append]; simp only [List.length_cons, List.length_nil]; omega)) ?_
            rintro x w6 ⟨n6, rfl, hbd6, hb6, hk6⟩
            have HBD6 : Hid (Bd w6 w.heap.size ((acc ++ [32]) ++ spl p)) := hbd6
            have HTB6 : Hid (TkBlk w6 wr.heap.size p) := HTB5.out.kept hk6 (by omega)
            have HB6 : Hid (Below w.heap.size w w6) := HB5.out.trans hb6
            obtain ⟨d0, d1, d2⟩ := HTB6.out.cells
            clear hbd6 hb6 hk6 d0 d1
            go_wp2
            go_roundw
            case rel =>
              refine ⟨k + 1, p.n, (acc ++ [32]) ++ spl p, by go_num, rfl, by omega, hpn.1, hpn.2, by simp only [List.length_append, List.length_cons, List.length_nil]; omega, ?_, HBD6.out, HB6.out⟩
              have h := HX.out
              rw [HSEP.out] at h
              show wrT _ (decide (k + 1 = 0)) _ _ = _
              rw [show decide (k + 1 = 0) = false by simp]
              simpa [List.append_assoc] using h
            case measure => simp [intOf]; omega
          · have HSEP : Hid (sepT (decide (k = 0)) n p = []) := by show _ = _; unfold sepT; rw [if_neg hln, if_pos (by simp; omega)]
            have q3 : decide ((0 : Int) < (k : Int)) = false := by simp; omega
            clear hln
            go_wp2_with fail
            refine Calls.mono (bd_len _ acc _ HBD1.out) ?_
            rintro x w1 ⟨rfl, rfl⟩
            obtain ⟨d0, d1, d2⟩ := HTB.out.cells
            have HBD2 : Hid (Bd (wr.alloc (.cells #[.int .i64 p.k, .string ⟨p.t.toArray⟩, .int .i64 p.n] 36)) w.heap.size acc) := HBD1.out
            have HTB2 : Hid (TkBlk (wr.alloc (.cells #[.int .i64 p.k, .string ⟨p.t.toArray⟩, .int .i64 p.n] 36)) wr.heap.size p) := HTB.out
            have HB2 : Hid (Below w.heap.size w (wr.alloc (.cells #[.int .i64 p.k, .string ⟨p.t.toArray⟩, .int .i64 p.n] 36))) := HB1.out
            clear d0 d1 d2
            obtain ⟨d0, d1, d2⟩ := HTB2.out.cells
            go_wp2_with fail
            refine Calls.mono (HSP.out _) ?_
            rintro x w5 ⟨rfl, hb5⟩
            have HBD5 : Hid (Bd w5 w.heap.size (acc)) := HBD2.out.later hb5
            have HTB5 : Hid (TkBlk w5 wr.heap.size p) := HTB2.out.later hb5
            have HB5 : Hid (Below w.heap.size w w5) := HB2.out.trans (hb5.mono HB2.out.size)
            clear hb5 d0 d1 d2
            go_wp2_with fail
            refine Calls.mono (bd_str _ (acc) (spl p) _ HBD5.out (by omega)) ?_
            rintro x w6 ⟨n6, rfl, hbd6, hb6, hk6⟩
            have HBD6 : Hid (Bd w6 w.heap.size ((acc) ++ spl p)) := hbd6
            have HTB6 : Hid (TkBlk w6 wr.heap.size p) := HTB5.out.kept hk6 (by omega)
            have HB6 : Hid (Below w.heap.size w w6) := HB5.out.trans hb6
            obtain ⟨d0, d1, d2⟩ := HTB6.out.cells
            clear hbd6 hb6 hk6 d0 d1
            go_wp2
            go_roundw
            case rel =>
              refine ⟨k + 1, p.n, (acc) ++ spl p, by go_num, rfl, by omega, hpn.1, hpn.2, by simp only [List.length_append]; omega, ?_, HBD6.out, HB6.out⟩
              have h := HX.out
              rw [HSEP.out] at h
              show wrT _ (decide (k + 1 = 0)) _ _ = _
              rw [show decide (k + 1 = 0) = false by simp]
              simpa [List.append_assoc] using h
            case measure => simp [intOf]; omega
    · have HX : Hid (acc = J) := by
        have := hI.out
        rw [List.drop_eq_nil_of_le (by rw [← HM.out]; omega)] at this
        exact this
      obtain rfl : k = m := by omega
      have q : decide ((k : Int) < (k : Int)) = false := by simp
      clear hI
      go_wp2_with fail
      refine Calls.mono (bd_read _ acc _ HBD.out) ?_
      rintro x w2 ⟨rfl, hb2⟩
      go_wp2
      go_ret
      exact ⟨by rw [HX.out]; rfl, HB.out.trans hb2⟩
end Go.Proofs.YtpfpfnkagmmanaaGreatDoor
