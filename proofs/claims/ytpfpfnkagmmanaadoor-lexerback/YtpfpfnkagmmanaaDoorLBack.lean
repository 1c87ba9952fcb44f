/- The law LexerBack walked. -/
import Derived.Test.YtpfpfnkagmmanaaDoorJn
namespace Go.Proofs.YtpfpfnkagmmanaaDoor
open Go.RowKit Go.Shelf

def exL : List UInt8 := [100, 114, 97, 119, 32, 49, 50, 46, 53, 117, 108, 32, 102, 114, 111, 109, 32, 112, 46, 65, 49, 32, 35, 32, 102, 105, 114, 115, 116]
def sixL : List Tk := [⟨1, [100, 114, 97, 119], 1⟩, ⟨2, [49, 50, 46, 53, 117, 108], 1⟩, ⟨1, [102, 114, 111, 109], 1⟩, ⟨1, [112], 1⟩, ⟨3, [46], 1⟩, ⟨1, [65, 49], 1⟩]
theorem ex_lex : lexR exL = (sixL, 0, 0) := by kernel_rfl
theorem ex_call (w : World) (hT : Tab w) : Calls Tryd.prog 5 #[.string ⟨#[100, 114, 97, 119, 32, 49, 50, 46, 53, 117, 108, 32, 102, 114, 111, 109, 32, 112, 46, 65, 49, 32, 35, 32, 102, 105, 114, 115, 116]⟩] w fun e w' => ∃ b off cap, e = .returned (.tuple #[.slice (some ⟨b, off, none⟩) 6 cap, .int .i64 0, .int .i64 0]) ∧ w'.cell? ⟨b, off + 3, none⟩ = some (.int .i64 2) ∧ Below w.heap.size w w' := by
  refine (lex_any exL w hT sixL 0 0 ex_lex).mono ?_
  rintro e w' ⟨v, rfl, hv, hb⟩
  obtain ⟨ao, cap, rfl, hk⟩ := hv.tks
  obtain ⟨b, off, rfl, _, c0, _⟩ := hk.at (k := 1) (by decide)
  exact ⟨b, off, cap, rfl, by simpa [sixL] using c0, hb⟩
set_option maxHeartbeats 3200000 in
set_option maxRecDepth 100000 in
theorem back_err (u : List UInt8) (w : World) (hT : Tab w) (N E : Int) (hres : lexR u = ([], N, E)) (hE : E ≠ 0) :
    Calls Tryd.prog 4 #[.string ⟨u.toArray⟩] w fun e w' => e = .returned (.bool true) ∧ Below w.heap.size w w' := by
  have HEX : Hid (∀ W, Tab W → Calls Tryd.prog 5 #[.string ⟨#[100, 114, 97, 119, 32, 49, 50, 46, 53, 117, 108, 32, 102, 114, 111, 109, 32, 112, 46, 65, 49, 32, 35, 32, 102, 105, 114, 115, 116]⟩] W fun e w' => ∃ b off cap, e = .returned (.tuple #[.slice (some ⟨b, off, none⟩) 6 cap, .int .i64 0, .int .i64 0]) ∧ w'.cell? ⟨b, off + 3, none⟩ = some (.int .i64 2) ∧ Below W.heap.size W w') := fun W h => ex_call W h
  have HT : Hid (Tab w) := hT
  have HLX : Hid (∀ W, Tab W → Calls Tryd.prog 5 #[.string ⟨u.toArray⟩] W fun e w' => ∃ v, e = .returned (.tuple #[v, .int .i64 N, .int .i64 E]) ∧ OwnT w' W.heap.size v [] ∧ Below W.heap.size W w') := fun W h => lex_any u W h [] N E hres
  have q : (E != 0) = true := by simp [hE]
  clear hT hres hE
  go_enter Tryd.func4, Tryd.ntmps4
  go_wp2_with fail
  refine Calls.mono (HEX.out w HT.out) ?_
  rintro x w1 ⟨xb, xoff, xcap, rfl, hx3, hb1⟩
  have HB1 : Hid (Below w.heap.size w w1) := hb1
  clear hb1
  go_wp2_with fail
  refine Calls.mono (HLX.out w1 (HT.out.next HB1.out)) ?_
  rintro x w2 ⟨v, rfl, hv, hb2⟩
  have HB2 : Hid (Below w.heap.size w w2) := below_on HB1.out hb2
  obtain ⟨a2, c2, rfl, hk2⟩ := hv.tks
  have HK2 : Hid (Tks w2 a2 []) := hk2
  clear hb2 hv hk2 hx3
  go_wp2
  go_ret
  exact ⟨rfl, HB2.out⟩
set_option maxHeartbeats 6400000 in
set_option maxRecDepth 100000 in
theorem back_ord (u : List UInt8) (w : World) (hT : Tab w) (ts : List Tk) (hres : lexR u = (ts, 0, 0)) (hg : GoodL 1 ts) (hlen : ts.length ≤ 20000) (hne : ∀ p ∈ ts, p.t ≠ [] ∧ p.t.length ≤ 20000) (ho : ordB 1 ts = false) :
    Calls Tryd.prog 4 #[.string ⟨u.toArray⟩] w fun e w' => e = .returned (.bool true) ∧ Below w.heap.size w w' := by
  have HEX : Hid (∀ W, Tab W → Calls Tryd.prog 5 #[.string ⟨#[100, 114, 97, 119, 32, 49, 50, 46, 53, 117, 108, 32, 102, 114, 111, 109, 32, 112, 46, 65, 49, 32, 35, 32, 102, 105, 114, 115, 116]⟩] W fun e w' => ∃ b off cap, e = .returned (.tuple #[.slice (some ⟨b, off, none⟩) 6 cap, .int .i64 0, .int .i64 0]) ∧ w'.cell? ⟨b, off + 3, none⟩ = some (.int .i64 2) ∧ Below W.heap.size W w') := fun W h => ex_call W h
  have HT : Hid (Tab w) := hT
  have HLX : Hid (∀ W, Tab W → Calls Tryd.prog 5 #[.string ⟨u.toArray⟩] W fun e w' => ∃ v, e = .returned (.tuple #[v, .int .i64 0, .int .i64 0]) ∧ OwnT w' W.heap.size v ts ∧ Below W.heap.size W w') := fun W h => lex_any u W h ts 0 0 hres
  have HJN : Hid (Joins ts [] 15) := .inl ⟨ho, rfl, rfl⟩
  have HG : Hid (GoodL 1 (ts.drop 0)) := hg
  have HNE : Hid (∀ p ∈ ts, p.t ≠ [] ∧ p.t.length ≤ 20000) := hne
  obtain ⟨LST, hLST⟩ : ∃ L, L = lastL 1 ts := ⟨_, rfl⟩
  have HLST : Hid (lastL 1 (ts.drop 0) = LST) := hLST.symm
  have HLS2 : Hid (LST = lastL 1 ts) := hLST
  have qL : decide (10000 < LST) = true := by rw [hLST]; have := ord_last ts 1 hg ho; simpa using this
  clear ho
  obtain ⟨m, hm⟩ : ∃ m, m = ts.length := ⟨_, rfl⟩
  have HM : Hid (m = ts.length) := hm
  rw [← hm] at hlen
  clear hT hres hg hne hLST hm
  go_enter Tryd.func4, Tryd.ntmps4
  go_wp2_with fail
  refine Calls.mono (HEX.out w HT.out) ?_
  rintro x w1 ⟨xb, xoff, xcap, rfl, hx3, hb1⟩
  have HB1 : Hid (Below w.heap.size w w1) := hb1
  clear hb1
  go_wp2_with fail
  refine Calls.mono (HLX.out w1 (HT.out.next HB1.out)) ?_
  rintro x w2 ⟨v, rfl, hv, hb2⟩
  have HB2 : Hid (Below w.heap.size w w2) := below_on HB1.out hb2
  obtain ⟨a2, c2, rfl, hk2⟩ := hv.tks
  have HK2 : Hid (Tks w2 a2 ts) := hk2
  clear hb2 hv hk2 hx3
  rw [← HM.out]
  go_wp2
  go_loopw [7, 8] (fun v7 v8 wr => ∃ (k : Nat) (a : Int), v8 = .int .i64 (k : Int) ∧ v7 = .int .i64 a ∧ k ≤ m ∧ Hid (GoodL a (ts.drop k)) ∧ Hid (lastL a (ts.drop k) = LST) ∧ wr = w2) (fun _ v8 _ => m - (intOf v8).toNat)
  case atStart => exact ⟨0, 1, rfl, rfl, Nat.zero_le _, HG, HLST, rfl⟩
  case round =>
    obtain ⟨k, a, rfl, rfl, hk, hI, hJ, rfl⟩ := hrel
    by_cases hkm : k < m
    · have h1 : k < ts.length := by rw [← HM.out]; exact hkm
      obtain ⟨b, off, rfl, _, c0, c1, c2'⟩ := HK2.out.at h1
      have hdr : ts.drop k = ts[k]'h1 :: ts.drop (k + 1) := List.drop_eq_getElem_cons h1
      rw [hdr] at hI hJ
      obtain ⟨p, hp⟩ : ∃ p, ts[k]'h1 = p := ⟨_, rfl⟩
      have hmem : p ∈ ts := by rw [← hp]; exact List.getElem_mem h1
      rw [hp] at hI hJ c0 c1 c2'
      have hpne := (HNE.out p hmem).1
      have k0 : (0 : Int) ≤ (k : Int) := by omega
      have k1 : (k : Int) < (m : Int) := by omega
      obtain ⟨pk, pt, pn⟩ := p
      simp only at c0 c1 c2' hpne
      have HX : Hid (GoodL pn (ts.drop (k + 1))) := hI.out.2.2
      have HY : Hid (lastL pn (ts.drop (k + 1)) = LST) := hJ.out
      have q1 : (pt == []) = false := by cases pt <;> simp_all
      have q2 : decide (pn < a) = false := by have := hI.out.1; simp at this ⊢; omega
      clear hp hdr hmem hI hJ hpne
      go_wp2
      go_roundw
      case rel => exact ⟨k + 1, pn, by go_num, rfl, by omega, HX, HY, by first | rfl | trivial⟩
      case measure => simp [intOf]; omega
    · obtain rfl : k = m := by omega
      have HLA : Hid (a = LST) := by
        have := hJ.out
        rw [List.drop_eq_nil_of_le (by rw [← HM.out]; exact Nat.le_refl _)] at this
        exact this
      have qk : decide ((k : Int) < (k : Int)) = false := by simp
      rw [HLA.out]
      clear hI hJ
      go_wp2_with fail
      rw [HM.out]
      refine Calls.mono (join_any a2 c2 ts wr (HT.out.next HB2.out) HK2.out (by rw [← HM.out]; omega) (fun p hp => by have := (HNE.out p hp).2; omega)) ?_
      rintro x w3 ⟨s, y, rfl, hjn, hb3⟩
      have HB3 : Hid (Below w.heap.size w w3) := below_on HB2.out hb3
      obtain ⟨rfl, rfl⟩ := hjn.one HJN.out
      have HK3 : Hid (Tks w3 a2 ts) := HK2.out.next hb3
      clear hjn hb3
      go_wp2
      go_ret
      exact ⟨rfl, HB3.out⟩
set_option maxHeartbeats 6400000 in
set_option maxRecDepth 100000 in
theorem back_form (u : List UInt8) (w : World) (hT : Tab w) (ts : List Tk) (hres : lexR u = (ts, 0, 0)) (hg : GoodL 1 ts) (hlen : ts.length ≤ 20000) (hne : ∀ p ∈ ts, p.t ≠ [] ∧ p.t.length ≤ 20000) (ho : ordB 1 ts = true) (hbig : 20000 < (joinT true 1 ts).length) (h2 : (joinT true 1 ts).length ≤ 2 * u.length) :
    Calls Tryd.prog 4 #[.string ⟨u.toArray⟩] w fun e w' => e = .returned (.bool true) ∧ Below w.heap.size w w' := by
  have HEX : Hid (∀ W, Tab W → Calls Tryd.prog 5 #[.string ⟨#[100, 114, 97, 119, 32, 49, 50, 46, 53, 117, 108, 32, 102, 114, 111, 109, 32, 112, 46, 65, 49, 32, 35, 32, 102, 105, 114, 115, 116]⟩] W fun e w' => ∃ b off cap, e = .returned (.tuple #[.slice (some ⟨b, off, none⟩) 6 cap, .int .i64 0, .int .i64 0]) ∧ w'.cell? ⟨b, off + 3, none⟩ = some (.int .i64 2) ∧ Below W.heap.size W w') := fun W h => ex_call W h
  have HT : Hid (Tab w) := hT
  have HLX : Hid (∀ W, Tab W → Calls Tryd.prog 5 #[.string ⟨u.toArray⟩] W fun e w' => ∃ v, e = .returned (.tuple #[v, .int .i64 0, .int .i64 0]) ∧ OwnT w' W.heap.size v ts ∧ Below W.heap.size W w') := fun W h => lex_any u W h ts 0 0 hres
  have HJN : Hid (Joins ts [] 1) := .inr ⟨ho, .inr ⟨fun h => by have := h.1; omega, rfl, rfl⟩⟩
  have HG : Hid (GoodL 1 (ts.drop 0)) := hg
  have HNE : Hid (∀ p ∈ ts, p.t ≠ [] ∧ p.t.length ≤ 20000) := hne
  obtain ⟨LST, hLST⟩ : ∃ L, L = lastL 1 ts := ⟨_, rfl⟩
  have HLST : Hid (lastL 1 (ts.drop 0) = LST) := hLST.symm
  have HLS2 : Hid (LST = lastL 1 ts) := hLST
  have qL : decide (1 ≤ LST) = true := by rw [hLST]; have := lastL_ge ts 1 hg; simpa using this
  have qU : decide ((10000 : Int) < (u.length : Int)) = true := by simp; omega
  clear ho hbig h2
  obtain ⟨m, hm⟩ : ∃ m, m = ts.length := ⟨_, rfl⟩
  have HM : Hid (m = ts.length) := hm
  rw [← hm] at hlen
  clear hT hres hg hne hLST hm
  go_enter Tryd.func4, Tryd.ntmps4
  go_wp2_with fail
  refine Calls.mono (HEX.out w HT.out) ?_
  rintro x w1 ⟨xb, xoff, xcap, rfl, hx3, hb1⟩
  have HB1 : Hid (Below w.heap.size w w1) := hb1
  clear hb1
  go_wp2_with fail
  refine Calls.mono (HLX.out w1 (HT.out.next HB1.out)) ?_
  rintro x w2 ⟨v, rfl, hv, hb2⟩
  have HB2 : Hid (Below w.heap.size w w2) := below_on HB1.out hb2
  obtain ⟨a2, c2, rfl, hk2⟩ := hv.tks
  have HK2 : Hid (Tks w2 a2 ts) := hk2
  clear hb2 hv hk2 hx3
  rw [← HM.out]
  go_wp2
  go_loopw [7, 8] (fun v7 v8 wr => ∃ (k : Nat) (a : Int), v8 = .int .i64 (k : Int) ∧ v7 = .int .i64 a ∧ k ≤ m ∧ Hid (GoodL a (ts.drop k)) ∧ Hid (lastL a (ts.drop k) = LST) ∧ wr = w2) (fun _ v8 _ => m - (intOf v8).toNat)
  case atStart => exact ⟨0, 1, rfl, rfl, Nat.zero_le _, HG, HLST, rfl⟩
  case round =>
    obtain ⟨k, a, rfl, rfl, hk, hI, hJ, rfl⟩ := hrel
    by_cases hkm : k < m
    · have h1 : k < ts.length := by rw [← HM.out]; exact hkm
      obtain ⟨b, off, rfl, _, c0, c1, c2'⟩ := HK2.out.at h1
      have hdr : ts.drop k = ts[k]'h1 :: ts.drop (k + 1) := List.drop_eq_getElem_cons h1
      rw [hdr] at hI hJ
      obtain ⟨p, hp⟩ : ∃ p, ts[k]'h1 = p := ⟨_, rfl⟩
      have hmem : p ∈ ts := by rw [← hp]; exact List.getElem_mem h1
      rw [hp] at hI hJ c0 c1 c2'
      have hpne := (HNE.out p hmem).1
      have k0 : (0 : Int) ≤ (k : Int) := by omega
      have k1 : (k : Int) < (m : Int) := by omega
      obtain ⟨pk, pt, pn⟩ := p
      simp only at c0 c1 c2' hpne
      have HX : Hid (GoodL pn (ts.drop (k + 1))) := hI.out.2.2
      have HY : Hid (lastL pn (ts.drop (k + 1)) = LST) := hJ.out
      have q1 : (pt == []) = false := by cases pt <;> simp_all
      have q2 : decide (pn < a) = false := by have := hI.out.1; simp at this ⊢; omega
      clear hp hdr hmem hI hJ hpne
      go_wp2
      go_roundw
      case rel => exact ⟨k + 1, pn, by go_num, rfl, by omega, HX, HY, by first | rfl | trivial⟩
      case measure => simp [intOf]; omega
    · obtain rfl : k = m := by omega
      have HLA : Hid (a = LST) := by
        have := hJ.out
        rw [List.drop_eq_nil_of_le (by rw [← HM.out]; exact Nat.le_refl _)] at this
        exact this
      have qk : decide ((k : Int) < (k : Int)) = false := by simp
      rw [HLA.out]
      clear hI hJ
      go_wp2_with fail
      rw [HM.out]
      refine Calls.mono (join_any a2 c2 ts wr (HT.out.next HB2.out) HK2.out (by rw [← HM.out]; omega) (fun p hp => by have := (HNE.out p hp).2; omega)) ?_
      rintro x w3 ⟨s, y, rfl, hjn, hb3⟩
      have HB3 : Hid (Below w.heap.size w w3) := below_on HB2.out hb3
      obtain ⟨rfl, rfl⟩ := hjn.one HJN.out
      have HK3 : Hid (Tks w3 a2 ts) := HK2.out.next hb3
      clear hjn hb3
      go_wp2
      go_ret
      exact ⟨rfl, HB3.out⟩
set_option maxHeartbeats 6400000 in
set_option maxRecDepth 100000 in
theorem back_ok (u : List UInt8) (w : World) (hT : Tab w) (ts : List Tk) (hres : lexR u = (ts, 0, 0)) (hg : GoodL 1 ts) (hlen : ts.length ≤ 20000) (hne : ∀ p ∈ ts, p.t ≠ [] ∧ p.t.length ≤ 20000) (ho : ordB 1 ts = true) (hsm : (joinT true 1 ts).length ≤ 20000) :
    Calls Tryd.prog 4 #[.string ⟨u.toArray⟩] w fun e w' => e = .returned (.bool true) ∧ Below w.heap.size w w' := by
  have HEX : Hid (∀ W, Tab W → Calls Tryd.prog 5 #[.string ⟨#[100, 114, 97, 119, 32, 49, 50, 46, 53, 117, 108, 32, 102, 114, 111, 109, 32, 112, 46, 65, 49, 32, 35, 32, 102, 105, 114, 115, 116]⟩] W fun e w' => ∃ b off cap, e = .returned (.tuple #[.slice (some ⟨b, off, none⟩) 6 cap, .int .i64 0, .int .i64 0]) ∧ w'.cell? ⟨b, off + 3, none⟩ = some (.int .i64 2) ∧ Below W.heap.size W w') := fun W h => ex_call W h
  have HT : Hid (Tab w) := hT
  have HLX : Hid (∀ W, Tab W → Calls Tryd.prog 5 #[.string ⟨u.toArray⟩] W fun e w' => ∃ v, e = .returned (.tuple #[v, .int .i64 0, .int .i64 0]) ∧ OwnT w' W.heap.size v ts ∧ Below W.heap.size W w') := fun W h => lex_any u W h ts 0 0 hres
  have hjl := lex_join ts true 1 [] hg
  rw [List.nil_append] at hjl
  have HJN : Hid (Joins ts (joinT true 1 ts) 0) := .inr ⟨ho, .inl ⟨⟨hsm, hjl⟩, rfl, rfl⟩⟩
  have HL2 : Hid (∀ W, Tab W → Calls Tryd.prog 5 #[.string ⟨(joinT true 1 ts).toArray⟩] W fun e w' => ∃ v, e = .returned (.tuple #[v, .int .i64 0, .int .i64 0]) ∧ OwnT w' W.heap.size v ts ∧ Below W.heap.size W w') := fun W h => lex_any _ W h ts 0 0 (by unfold lexR; rw [if_neg (by omega)]; exact hjl)
  have HG : Hid (GoodL 1 (ts.drop 0)) := hg
  have HNE : Hid (∀ p ∈ ts, p.t ≠ [] ∧ p.t.length ≤ 20000) := hne
  obtain ⟨LST, hLST⟩ : ∃ L, L = lastL 1 ts := ⟨_, rfl⟩
  have HLST : Hid (lastL 1 (ts.drop 0) = LST) := hLST.symm
  have HLS2 : Hid (LST = lastL 1 ts) := hLST
  clear ho hsm hjl
  obtain ⟨m, hm⟩ : ∃ m, m = ts.length := ⟨_, rfl⟩
  have HM : Hid (m = ts.length) := hm
  rw [← hm] at hlen
  clear hT hres hg hne hLST hm
  go_enter Tryd.func4, Tryd.ntmps4
  go_wp2_with fail
  refine Calls.mono (HEX.out w HT.out) ?_
  rintro x w1 ⟨xb, xoff, xcap, rfl, hx3, hb1⟩
  have HB1 : Hid (Below w.heap.size w w1) := hb1
  clear hb1
  go_wp2_with fail
  refine Calls.mono (HLX.out w1 (HT.out.next HB1.out)) ?_
  rintro x w2 ⟨v, rfl, hv, hb2⟩
  have HB2 : Hid (Below w.heap.size w w2) := below_on HB1.out hb2
  obtain ⟨a2, c2, rfl, hk2⟩ := hv.tks
  have HK2 : Hid (Tks w2 a2 ts) := hk2
  clear hb2 hv hk2 hx3
  rw [← HM.out]
  go_wp2
  go_loopw [7, 8] (fun v7 v8 wr => ∃ (k : Nat) (a : Int), v8 = .int .i64 (k : Int) ∧ v7 = .int .i64 a ∧ k ≤ m ∧ Hid (GoodL a (ts.drop k)) ∧ Hid (lastL a (ts.drop k) = LST) ∧ wr = w2) (fun _ v8 _ => m - (intOf v8).toNat)
  case atStart => exact ⟨0, 1, rfl, rfl, Nat.zero_le _, HG, HLST, rfl⟩
  case round =>
    obtain ⟨k, a, rfl, rfl, hk, hI, hJ, rfl⟩ := hrel
    by_cases hkm : k < m
    · have h1 : k < ts.length := by rw [← HM.out]; exact hkm
      obtain ⟨b, off, rfl, _, c0, c1, c2'⟩ := HK2.out.at h1
      have hdr : ts.drop k = ts[k]'h1 :: ts.drop (k + 1) := List.drop_eq_getElem_cons h1
      rw [hdr] at hI hJ
      obtain ⟨p, hp⟩ : ∃ p, ts[k]'h1 = p := ⟨_, rfl⟩
      have hmem : p ∈ ts := by rw [← hp]; exact List.getElem_mem h1
      rw [hp] at hI hJ c0 c1 c2'
      have hpne := (HNE.out p hmem).1
      have k0 : (0 : Int) ≤ (k : Int) := by omega
      have k1 : (k : Int) < (m : Int) := by omega
      obtain ⟨pk, pt, pn⟩ := p
      simp only at c0 c1 c2' hpne
      have HX : Hid (GoodL pn (ts.drop (k + 1))) := hI.out.2.2
      have HY : Hid (lastL pn (ts.drop (k + 1)) = LST) := hJ.out
      have q1 : (pt == []) = false := by cases pt <;> simp_all
      have q2 : decide (pn < a) = false := by have := hI.out.1; simp at this ⊢; omega
      clear hp hdr hmem hI hJ hpne
      go_wp2
      go_roundw
      case rel => exact ⟨k + 1, pn, by go_num, rfl, by omega, HX, HY, by first | rfl | trivial⟩
      case measure => simp [intOf]; omega
    · obtain rfl : k = m := by omega
      have HLA : Hid (a = LST) := by
        have := hJ.out
        rw [List.drop_eq_nil_of_le (by rw [← HM.out]; exact Nat.le_refl _)] at this
        exact this
      have qk : decide ((k : Int) < (k : Int)) = false := by simp
      rw [HLA.out]
      clear hI hJ
      go_wp2_with fail
      rw [HM.out]
      refine Calls.mono (join_any a2 c2 ts wr (HT.out.next HB2.out) HK2.out (by rw [← HM.out]; omega) (fun p hp => by have := (HNE.out p hp).2; omega)) ?_
      rintro x w3 ⟨s, y, rfl, hjn, hb3⟩
      have HB3 : Hid (Below w.heap.size w w3) := below_on HB2.out hb3
      obtain ⟨rfl, rfl⟩ := hjn.one HJN.out
      have HK3 : Hid (Tks w3 a2 ts) := HK2.out.next hb3
      clear hjn hb3
      rw [← HM.out]
      go_wp2_with fail
      refine Calls.mono (HL2.out w3 (HT.out.next HB3.out)) ?_
      rintro x w4 ⟨v4, rfl, hv4, hb4⟩
      have HB4 : Hid (Below w.heap.size w w4) := below_on HB3.out hb4
      have HK3' : Hid (Tks w4 a2 ts) := HK3.out.next hb4
      obtain ⟨a4, c4, rfl, hk4⟩ := hv4.tks
      have HK4 : Hid (Tks w4 a4 ts) := hk4
      clear hb4 hv4 hk4
      rw [← HM.out]
      go_wp2
      go_loopw [14] (fun v14 wx => ∃ j : Nat, v14 = .int .i64 (j : Int) ∧ j ≤ k ∧ ∃ q, wx = w4.drewN q) (fun v14 _ => k - (intOf v14).toNat)
      case atStart => exact ⟨0, rfl, Nat.zero_le _, 0, rfl⟩
      case round =>
        obtain ⟨j, rfl, hj, q, rfl⟩ := hrel
        by_cases hjm : j < k
        · have h1 : j < ts.length := by rw [← HM.out]; exact hjm
          obtain ⟨ba, oa, rfl, _, x0, x1, x2⟩ := HK3'.out.at h1
          obtain ⟨bb, ob, rfl, _, y0, y1, y2⟩ := HK4.out.at h1
          obtain ⟨p, hp⟩ : ∃ p, ts[j]'h1 = p := ⟨_, rfl⟩
          rw [hp] at x0 x1 x2 y0 y1 y2
          have j0 : (0 : Int) ≤ (j : Int) := by omega
          have j1 : (j : Int) < (k : Int) := by omega
          obtain ⟨pk, pt, pn⟩ := p
          simp only at x0 x1 x2 y0 y1 y2
          have hsame := fun W => tk_same W pk pn pt
          clear hp
          go_wp2_with fail
          go_big_quiet (fail)
          go_wp2
          go_roundw
          case rel => exact ⟨j + 1, by go_num, by omega, _, rfl⟩
          case measure => simp [intOf]; omega
        · obtain rfl : j = k := by omega
          have qj : decide ((j : Int) < (j : Int)) = false := by simp
          go_wp2
          go_ret
          exact ⟨rfl, below_drewN HB4.out _⟩
theorem back_any (u : List UInt8) (w : World) (hT : Tab w) :
    Calls Tryd.prog 4 #[.string ⟨u.toArray⟩] w fun e w' => e = .returned (.bool true) ∧ Below w.heap.size w w' := by
  obtain ⟨ts, N, E, hres⟩ : ∃ ts N E, lexR u = (ts, N, E) := ⟨_, _, _, rfl⟩
  rcases lexR_good hres with ⟨h1, h2⟩ | ⟨_, rfl, rfl, hg, h2, hlen, hne⟩
  · subst h2; exact back_err u w hT N E hres h1
  · cases ho : ordB 1 ts with
    | false => exact back_ord u w hT ts hres hg hlen hne ho
    | true =>
      by_cases hb : 20000 < (joinT true 1 ts).length
      · exact back_form u w hT ts hres hg hlen hne ho hb h2
      · exact back_ok u w hT ts hres hg hlen hne ho (by omega)
theorem back_str (s : ByteArray) (w : World) (hT : Lib.Utf8Tabs 0 1 w) :
    Calls Tryd.prog 4 #[.string s] w fun e w' => e = .returned (.bool true) ∧ Below w.heap.size w w' := back_any s.data.toList w hT
end Go.Proofs.YtpfpfnkagmmanaaDoor
