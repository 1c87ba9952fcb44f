/- Run walked. -/
import Derived.Test.YtjappkfhballhaaGreatMZ
namespace Go.Proofs.YtjappkfhballhaaGreat
open Go.RowKit Go.Maps

abbrev encA : Enc Acn := ⟨33, 8, acl⟩
/-- Actions, one behind the other. -/
structure Acs (w : World) (ao : Option Addr) (acs : List Acn) : Prop where
  rd : RdR encA w ao acs
  ok : ∀ a ∈ acs, a.label.size ≤ maxLen ∧ (Lit.int .i64 a.kind).wf = true
theorem goodA : Good encA := ⟨fun _ => rfl, fun x u hu => by simp [acl] at hu; rcases hu with rfl | rfl | rfl | rfl | rfl | rfl | rfl | rfl <;> rfl⟩
theorem Acs.next {w w1 : World} {ao : Option Addr} {acs : List Acn} (h : Acs w ao acs) (hb : Below w.heap.size w w1) : Acs w1 ao acs := ⟨h.rd.next goodA hb, h.ok⟩
theorem Acs.at {w : World} {ao : Option Addr} {acs : List Acn} (h : Acs w ao acs) {k : Nat} (hk : k < acs.length) : ∃ g off, ao = some ⟨g, off, none⟩ ∧ ∀ j, j < 8 → w.cell? ⟨g, off + k * 8 + j, none⟩ = (acl (acs[k]'hk))[j]? := by
  rcases h.rd with rfl | ⟨g, off, e, _, hc⟩
  · simp at hk
  · exact ⟨g, off, e, fun j hj => hc k hk j hj⟩
def runR (l : List Sit) (acs : List Acn) : Sta × Nat × Int := if dchk l = 0 then runA l sta0 0 acs else (sta0, 0, dchk l)
theorem runA_step {l : List Sit} {acs : List Acn} {s : Sta} {k : Nat} (hk : k < acs.length) (h : (doA l s (acs[k]'hk)).2 = 0) : runA l s k (acs.drop k) = runA l (doA l s (acs[k]'hk)).1 (k + 1) (acs.drop (k + 1)) := by
  rw [List.drop_eq_getElem_cons hk]
  simp only [runA]
  rw [if_pos h]
theorem runA_stop {l : List Sit} {acs : List Acn} {s : Sta} {k : Nat} (hk : k < acs.length) (h : (doA l s (acs[k]'hk)).2 ≠ 0) : runA l s k (acs.drop k) = (s, k, (doA l s (acs[k]'hk)).2) := by
  rw [List.drop_eq_getElem_cons hk]
  simp only [runA]
  rw [if_neg h]
theorem runA_done {l : List Sit} {acs : List Acn} {s : Sta} {k : Nat} (hk : acs.length ≤ k) : runA l s k (acs.drop k) = (s, k, 0) := by
  rw [List.drop_eq_nil_of_le hk]
  rfl
theorem fill_or (l : List Sit) (s : Sta) (a : Acn) : (fillA l s a).2 = 0 ∨ (fillA l s a).1 = s := by
  unfold fillA
  repeat' split
  all_goals first | exact .inr rfl | exact .inl rfl
theorem draw_or (l : List Sit) (s : Sta) (a : Acn) : (drawA l s a).2 = 0 ∨ (drawA l s a).1 = s := by
  unfold drawA
  repeat' split
  all_goals first | exact .inr rfl | exact .inl rfl
theorem put_or (l : List Sit) (s : Sta) (a : Acn) : (putA l s a).2 = 0 ∨ (putA l s a).1 = s := by
  unfold putA
  repeat' split
  all_goals first | exact .inr rfl | exact .inl rfl
theorem tip_or (l : List Sit) (s : Sta) : (tipA l s).2 = 0 ∨ (tipA l s).1 = s := by
  unfold tipA
  repeat' split
  all_goals first | exact .inr rfl | exact .inl rfl
theorem drop_or (s : Sta) : (dropA s).2 = 0 ∨ (dropA s).1 = s := by
  unfold dropA
  repeat' split
  all_goals first | exact .inr rfl | exact .inl rfl
theorem warm_or (s : Sta) (a : Acn) : (warmA s a).2 = 0 ∨ (warmA s a).1 = s := by
  unfold warmA
  repeat' split
  all_goals first | exact .inr rfl | exact .inl rfl
theorem pass_or (s : Sta) (a : Acn) : (passA s a).2 = 0 ∨ (passA s a).1 = s := by
  unfold passA
  repeat' split
  all_goals first | exact .inr rfl | exact .inl rfl
theorem shake_or (s : Sta) (a : Acn) : (shakeA s a).2 = 0 ∨ (shakeA s a).1 = s := by
  unfold shakeA passA
  repeat' split
  all_goals first | exact .inr rfl | exact .inl rfl
theorem do_same {l : List Sit} {s : Sta} {a : Acn} (h : (doA l s a).2 ≠ 0) : (doA l s a).1 = s := by
  refine (show (doA l s a).2 = 0 ∨ (doA l s a).1 = s from ?_).resolve_left h
  unfold doA
  repeat' split
  all_goals first | exact fill_or l s a | exact tip_or l s | exact drop_or s | exact draw_or l s a | exact put_or l s a | exact warm_or s a | exact pass_or s a | exact shake_or s a | exact .inr rfl
set_option maxHeartbeats 6400000 in
set_option maxRecDepth 100000 in
theorem run_any (ao : Option Addr) (cap : Nat) (l : List Sit) (aoA : Option Addr) (capA : Nat) (acs : List Acn) (w : World) (hD : Dk w ao cap l) (hln : l.length ≤ 9223372036854775807) (hA : Acs w aoA acs) (hla : acs.length ≤ 9223372036854775807) :
    Calls Tryz.prog 19 #[.slice ao l.length cap, .slice aoA acs.length capA] w fun e w' => ∃ t : Sm, e = .returned (.tuple #[smv t, .int .i64 ((runR l acs).2.1 : Int), .int .i64 (runR l acs).2.2]) ∧ t.st = (runR l acs).1 ∧ SmIn w' t ∧ SmHi w.heap.size t ∧ Below w.heap.size w w' := by
  obtain ⟨w0, hw0⟩ : ∃ w0, w0 = w.alloc (.cells z7.toArray 27) := ⟨_, rfl⟩
  have b0 : Below w.heap.size w w0 := by rw [hw0]; exact (Below.refl _ _).alloc (Nat.le_refl _) _
  have KR0 : Hid (Bk w.heap.size z7 w0) := by show Bk _ _ _; rw [hw0]; exact Bk.new _ z7 27 w.heap.size rfl
  have HB0 : Hid (Below w.heap.size w w0) := b0
  have HW0 : Hid (w0 = _) := hw0
  have HD0 : Hid (Dk w0 ao cap l) := hD.next b0
  have HA0 : Hid (Acs w0 aoA acs) := hA.next b0
  have HCK := (show Hid _ from dk_check ao cap l w0 HD0.out hln)
  clear hD hA hw0 b0
  go_enter Tryz.func19, Tryz.ntmps19
  go_wp2_with fail
  rw [← HW0.out]
  refine Calls.mono HCK.out ?_
  rintro e w1 ⟨rfl, hb1⟩
  have KR1 : Hid (Bk w.heap.size z7 w1) := KR0.out.later hb1
  have HB1 : Hid (Below w.heap.size w w1) := HB0.out.trans (hb1.mono HB0.out.size)
  have HD1 : Hid (Dk w1 ao cap l) := HD0.out.next hb1
  have HA1 : Hid (Acs w1 aoA acs) := HA0.out.next hb1
  clear hb1 HCK HD0 HA0 KR0 HB0
  obtain ⟨c, hc⟩ : ∃ c, dchk l = c := ⟨_, rfl⟩
  have HC : Hid (dchk l = c) := hc
  rw [hc]
  clear hc
  by_cases he : c = 0
  rotate_left
  · have h2 : (c == 0) = false := by simp [he]
    have h3 : (c != 0) = true := by simp [he]
    have HQ : Hid (runR l acs = (sta0, 0, c)) := by show _ = _; unfold runR; rw [HC.out, if_neg he]
    have r0 := (KR1.out).c 0 rfl
    have rf0 := (KR1.out).f 0 rfl
    have r1 := (KR1.out).c 1 rfl
    have rf1 := (KR1.out).f 1 rfl
    have r2 := (KR1.out).c 2 rfl
    have rf2 := (KR1.out).f 2 rfl
    have r3 := (KR1.out).c 3 rfl
    have rf3 := (KR1.out).f 3 rfl
    have r4 := (KR1.out).c 4 rfl
    have rf4 := (KR1.out).f 4 rfl
    have r5 := (KR1.out).c 5 rfl
    have rf5 := (KR1.out).f 5 rfl
    have r6 := (KR1.out).c 6 rfl
    have rf6 := (KR1.out).f 6 rfl
    have lt1 := KR1.out.1
    clear he
    go_wp2
    refine bodyPost_ret (v := .tuple #[smv sm0, .int .i64 0, .int .i64 c]) (by simp [results, Tryz.results19, go_sem, r0, r1, r2, r3, r4, r5, r6]) rfl ⟨sm0, ?_, ?_, ?_, ?_, ?_⟩
    · rw [HQ.out]; rfl
    · rw [HQ.out]; rfl
    · exact SmIn.zero _
    · exact SmHi.zero _
    · exact blw_put7 HB1.out (by omega) sm0
  · subst he
    have HQ0 : Hid (runR l acs = runA l sta0 0 acs) := by show _ = _; unfold runR; rw [HC.out, if_pos rfl]
    go_wp2_with fail
    refine (newBench_any ao cap l sm0 w1 HD1.out HC.out (SmIn.zero _) (may_sta0 l)).mono ?_
    rintro e w2 ⟨b, m, md, rfl, hB⟩
    have HBn2 : Hid (Bn w1 w2 ao cap l b m md sta0) := hB
    clear hB
    go_wp2_with fail
    go_loopw [23] (fun i wr => ∃ (k : Nat) (s : Sta), k ≤ acs.length ∧ i = .int .i64 k ∧ runR l acs = runA l s k (acs.drop k) ∧ Bn w1 wr ao cap l b m md s) (fun i _ => acs.length - (intOf i).toNat)
    case atStart => exact ⟨0, sta0, Nat.zero_le _, rfl, HQ0.out, HBn2.out⟩
    case round =>
      obtain ⟨k, s, hk, rfl, hq, hB⟩ := hrel
      have HBn3 : Hid (Bn w1 wr ao cap l b m md s) := hB
      have HQ1 : Hid (runR l acs = runA l s k (acs.drop k)) := hq
      have KR3 : Hid (Bk w.heap.size z7 wr) := KR1.out.later hB.below
      have HB3 : Hid (Below w.heap.size w wr) := HB1.out.trans (hB.below.mono HB1.out.size)
      clear hq hB
      by_cases hlt : k < acs.length
      rotate_left
      · obtain rfl : k = acs.length := by omega
        have HQ : Hid (runR l acs = (s, acs.length, 0)) := by show _ = _; rw [HQ1.out]; exact runA_done (Nat.le_refl _)
        clear hlt
        go_wp2_with fail
        refine (told_any w1 wr ao cap l b m md s HBn3.out).mono ?_
        rintro e w4 ⟨t, rfl, hst, hin, hhi, hb4⟩
        have KR4 : Hid (Bk w.heap.size z7 w4) := KR3.out.later hb4
        have HST : Hid (t.st = s) := hst
        have HIN : Hid (SmIn w4 t) := hin
        have HHI : Hid (SmHi wr.heap.size t) := hhi
        have HB4 : Hid (Below w.heap.size w w4) := HB3.out.trans (hb4.mono HB3.out.size)
        have l3 := KR3.out.1
        clear hst hin hhi hb4
        have r0 := (KR4.out).c 0 rfl
        have rf0 := (KR4.out).f 0 rfl
        have r1 := (KR4.out).c 1 rfl
        have rf1 := (KR4.out).f 1 rfl
        have r2 := (KR4.out).c 2 rfl
        have rf2 := (KR4.out).f 2 rfl
        have r3 := (KR4.out).c 3 rfl
        have rf3 := (KR4.out).f 3 rfl
        have r4 := (KR4.out).c 4 rfl
        have rf4 := (KR4.out).f 4 rfl
        have r5 := (KR4.out).c 5 rfl
        have rf5 := (KR4.out).f 5 rfl
        have r6 := (KR4.out).c 6 rfl
        have rf6 := (KR4.out).f 6 rfl
        have lt1 := KR4.out.1
        go_wp2
        refine bodyPost_ret (v := .tuple #[smv t, .int .i64 (acs.length : Int), .int .i64 0]) (by simp [results, Tryz.results19, go_sem, r0, r1, r2, r3, r4, r5, r6]) rfl ⟨t, ?_, ?_, ?_, ?_, ?_⟩
        · rw [HQ.out]
        · rw [HQ.out]; exact HST.out
        · exact HIN.out.but HHI.out (but_put7 w.heap.size w4 t) l3 l3
        · exact HHI.out.less (by omega)
        · exact blw_put7 HB4.out (by omega) t
      · obtain ⟨g, off, hao, hcs⟩ := (HA1.out.next HBn3.out.below).at hlt
        have hok := HA1.out.ok _ (List.getElem_mem hlt)
        have HS1 : Hid ((doA l s (acs[k]'hlt)).2 = 0 → runR l acs = runA l (doA l s (acs[k]'hlt)).1 (k + 1) (acs.drop (k + 1))) := fun h => by rw [HQ1.out]; exact runA_step hlt h
        have HS2 : Hid ((doA l s (acs[k]'hlt)).2 ≠ 0 → runR l acs = (s, k, (doA l s (acs[k]'hlt)).2)) := fun h => by rw [HQ1.out]; exact runA_stop hlt h
        generalize acs[k]'hlt = a at *
        subst hao
        have c0 := hcs 0 (by decide)
        have c1 := hcs 1 (by decide)
        have c2 := hcs 2 (by decide)
        have c3 := hcs 3 (by decide)
        have c4 := hcs 4 (by decide)
        have c5 := hcs 5 (by decide)
        have c6 := hcs 6 (by decide)
        have c7 := hcs 7 (by decide)
        simp only [acl, List.getElem?_cons_zero, List.getElem?_cons_succ, Nat.add_zero] at c0 c1 c2 c3 c4 c5 c6 c7
        have HOK : Hid (a.label.size ≤ maxLen ∧ (Lit.int .i64 a.kind).wf = true) := hok
        obtain ⟨w4, hw4⟩ : ∃ w4, w4 = wr.alloc (aobj a) := ⟨_, rfl⟩
        have b4 : Below wr.heap.size wr w4 := by rw [hw4]; exact (Below.refl _ _).alloc (Nat.le_refl _) _
        have HBn4 : Hid (Bn w1 w4 ao cap l b m md s) := HBn3.out.next b4
        have HW4 : Hid (w4 = wr.alloc (aobj a)) := hw4
        have hki : (k : Int) < (acs.length : Int) := by omega
        clear hcs hok hw4 b4
        go_wp2_with fail
        rw [← HW4.out]
        refine (do_any w1 w4 ao cap l b m md s a HBn4.out HOK.out.1 HOK.out.2).mono ?_
        rintro e w5 ⟨rfl, hB⟩
        obtain ⟨⟨s', e1⟩, hdq⟩ : ∃ x, doA l s a = x := ⟨_, rfl⟩
        rw [hdq] at hB HS1 HS2
        rw [hdq]
        simp only at hB HS1 HS2
        have HBn5 : Hid (Bn w1 w5 ao cap l b m md s') := hB
        have HDQ : Hid (doA l s a = (s', e1)) := hdq
        clear hB hdq c0 c1 c2 c3 c4 c5 c6 c7
        simp only
        by_cases he : e1 = 0
        · subst he
          have HQ : Hid (runR l acs = runA l s' (k + 1) (acs.drop (k + 1))) := HS1.out rfl
          go_wp2
          go_roundw
          case rel => exact ⟨k + 1, s', by omega, by go_num, HQ.out, HBn5.out⟩
          case measure => simp [intOf]; omega
        · have h2 : (e1 == 0) = false := by simp [he]
          have h3 : (e1 != 0) = true := by simp [he]
          have HQ : Hid (runR l acs = (s, k, e1)) := HS2.out he
          have hne : s' = s := by have := do_same (l := l) (s := s) (a := a) (by rw [HDQ.out]; exact he); rw [HDQ.out] at this; exact this
          subst hne
          have KR5 : Hid (Bk w.heap.size z7 w5) := KR1.out.later HBn5.out.below
          have HB5 : Hid (Below w.heap.size w w5) := HB1.out.trans (HBn5.out.below.mono HB1.out.size)
          clear he
          go_wp2_with fail
          refine (told_any w1 w5 ao cap l b m md _ HBn5.out).mono ?_
          rintro e w6 ⟨t, rfl, hst, hin, hhi, hb4⟩
          have KR6 : Hid (Bk w.heap.size z7 w6) := KR5.out.later hb4
          have HST : Hid (t.st = _) := hst
          have HIN : Hid (SmIn w6 t) := hin
          have HHI : Hid (SmHi w5.heap.size t) := hhi
          have HB6 : Hid (Below w.heap.size w w6) := HB5.out.trans (hb4.mono HB5.out.size)
          have l3 := KR5.out.1
          clear hst hin hhi hb4
          have r0 := (KR6.out).c 0 rfl
          have rf0 := (KR6.out).f 0 rfl
          have r1 := (KR6.out).c 1 rfl
          have rf1 := (KR6.out).f 1 rfl
          have r2 := (KR6.out).c 2 rfl
          have rf2 := (KR6.out).f 2 rfl
          have r3 := (KR6.out).c 3 rfl
          have rf3 := (KR6.out).f 3 rfl
          have r4 := (KR6.out).c 4 rfl
          have rf4 := (KR6.out).f 4 rfl
          have r5 := (KR6.out).c 5 rfl
          have rf5 := (KR6.out).f 5 rfl
          have r6 := (KR6.out).c 6 rfl
          have rf6 := (KR6.out).f 6 rfl
          have lt1 := KR6.out.1
          go_wp2
          refine bodyPost_ret (v := .tuple #[smv t, .int .i64 (k : Int), .int .i64 e1]) (by simp [results, Tryz.results19, go_sem, r0, r1, r2, r3, r4, r5, r6]) rfl ⟨t, ?_, ?_, ?_, ?_, ?_⟩
          · rw [HQ.out]
          · rw [HQ.out]; exact HST.out
          · exact HIN.out.but HHI.out (but_put7 w.heap.size w6 t) l3 l3
          · exact HHI.out.less (by omega)
          · exact blw_put7 HB6.out (by omega) t
end Go.Proofs.YtjappkfhballhaaGreat
