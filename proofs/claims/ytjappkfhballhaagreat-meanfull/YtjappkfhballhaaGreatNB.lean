/- liquid walked. -/
import Derived.Test.YtjappkfhballhaaGreatNA
namespace Go.Proofs.YtjappkfhballhaaGreat
open Go.RowKit Go.Maps

theorem liq_append (a b : Wls) : liq (a ++ b) = liq a + liq b := by
  induction a with
  | nil => simp [liq]
  | cons x a ih => simp only [List.cons_append, liq, ih]; omega
theorem liq_succ {wl : List Wh} {k : Nat} (h : k < wl.length) : liq (whp (wl.take (k + 1))) = liq (whp (wl.take k)) + F.tot (wl[k]'h).2.2.2 := by
  rw [List.take_succ_eq_append_getElem h]
  simp only [whp, List.map_append, liq_append, List.map_cons, List.map_nil, liq]
  omega
theorem tot_succ {f : List F.Pc} {k : Nat} (h : k < f.length) : F.tot (f.take (k + 1)) = F.tot (f.take k) + (f[k]'h).2 := by
  rw [List.take_succ_eq_append_getElem h, F.tot_append]
  simp only [F.tot]
  omega
theorem tot_nn {f : List F.Pc} (h : ∀ p ∈ f, 0 ≤ p.2) : 0 ≤ F.tot f := by
  induction f with
  | nil => exact Int.le_refl _
  | cons p r ih =>
    have h1 := h p (List.mem_cons_self ..)
    have h2 := ih fun q hq => h q (List.mem_cons_of_mem _ hq)
    simp only [F.tot]
    omega
theorem tot_take_in {f : List F.Pc} (h : F.fref f = 0) (k : Nat) : 0 ≤ F.tot (f.take k) ∧ F.tot (f.take k) ≤ 1000000000 := by
  obtain ⟨_, h2, h3⟩ := F.fref_in h
  have hn : ∀ p ∈ f, 0 ≤ p.2 := h2.nn
  have e : F.tot f = F.tot (f.take k) + F.tot (f.drop k) := by rw [← F.tot_append, List.take_append_drop]
  have a1 := tot_nn (f := f.take k) fun p hp => hn p (List.mem_of_mem_take hp)
  have a2 := tot_nn (f := f.drop k) fun p hp => hn p (List.mem_of_mem_drop hp)
  omega
theorem tot_in {f : List F.Pc} (h : F.fref f = 0) : 0 ≤ F.tot f ∧ F.tot f ≤ 1000000000 := by
  have := tot_take_in h f.length
  rw [List.take_length] at this
  exact this
theorem liq_take_in {wl : List Wh} (h : ∀ x ∈ wl, F.fref x.2.2.2 = 0) : ∀ k, k ≤ wl.length → 0 ≤ liq (whp (wl.take k)) ∧ liq (whp (wl.take k)) ≤ 1000000000 * (k : Int) := by
  intro k
  induction k with
  | zero => intro _; simp [whp, liq]
  | succ k ih =>
    intro hk
    have h1 := ih (by omega)
    rw [liq_succ (show k < wl.length by omega)]
    have h2 := tot_in (h _ (List.getElem_mem (show k < wl.length by omega)))
    omega
theorem fl_at {w : World} {ao : Option Addr} {f : List F.Pc} (h : F.Fl w ao f) {k : Nat} (hk : k < f.length) : ∃ b off, ao = some ⟨b, off, none⟩ ∧ w.cell? ⟨b, off + k * 2 + 1, none⟩ = some (.int .i64 (f[k]'hk).2) := by
  rcases h.2 with rfl | ⟨b, off, e, _, hc⟩
  · simp at hk
  · exact ⟨b, off, e, (hc k hk).2⟩
set_option maxHeartbeats 6400000 in
set_option maxRecDepth 100000 in
theorem liquid_any (s : Sm) (w : World) (hS : SmIn w s) (hf : ∀ x ∈ s.wl, F.fref x.2.2.2 = 0) (hn : s.wl.length ≤ 4608) (hh : F.fref s.held = 0) :
    Calls Tryz.prog 23 #[smv s] w fun e w' => e = .returned (.int .i64 (liqS s.st)) ∧ Below w.heap.size w w' := by
  obtain ⟨w0, hw0⟩ : ∃ w0, w0 = w.alloc (smo s) := ⟨_, rfl⟩
  have b0 : Below w.heap.size w w0 := by rw [hw0]; exact (Below.refl _ _).alloc (Nat.le_refl _) _
  have KS : Hid (Bk w.heap.size (sml s) w0) := by show Bk _ _ _; rw [hw0]; exact Bk.new w (sml s) 27 w.heap.size rfl
  have HS : Hid (SmIn w0 s) := hS.next b0
  have HF : Hid (∀ x ∈ s.wl, F.fref x.2.2.2 = 0) := hf
  have HH : Hid (F.fref s.held = 0) := hh
  have hhl := (F.fref_in hh).1
  have HB : Hid (Below w.heap.size w w0) := b0
  have HW0 : Hid (w0 = w.alloc (smo s)) := hw0
  clear hS hf hh hw0 b0
  go_enter Tryz.func23, Tryz.ntmps23
  go_wp2_with fail
  rw [← HW0.out]
  go_loopw [3, 4] (fun n i wr => ∃ k : Nat, k ≤ s.wl.length ∧ i = .int .i64 k ∧ n = .int .i64 (liq (whp (s.wl.take k))) ∧ w0 = wr) (fun _ i _ => s.wl.length - (intOf i).toNat)
  case atStart => exact ⟨0, Nat.zero_le _, rfl, rfl, rfl⟩
  case round =>
    obtain ⟨k, hk, rfl, rfl, hwr⟩ := hrel
    subst hwr
    by_cases hlt : k < s.wl.length
    rotate_left
    · obtain rfl : k = s.wl.length := by omega
      have HA : Hid (liq (whp (s.wl.take s.wl.length)) = liq (whp s.wl)) := by show _ = _; rw [List.take_length]
      rw [HA.out]
      have hA := liq_take_in HF.out s.wl.length (Nat.le_refl _)
      rw [List.take_length] at hA
      obtain ⟨A, hAA⟩ : ∃ A, liq (whp s.wl) = A := ⟨_, rfl⟩
      rw [hAA] at hA
      rw [hAA]
      have HAA : Hid (liq (whp s.wl) = A) := hAA
      clear hAA hlt
      have q0 := (KS.out).c 0 rfl
      have q1 := (KS.out).c 1 rfl
      have q2 := (KS.out).c 2 rfl
      have q3 := (KS.out).c 3 rfl
      have q4 := (KS.out).c 4 rfl
      have q5 := (KS.out).c 5 rfl
      have q6 := (KS.out).c 6 rfl
      go_wp2_with fail
      go_loopw [3, 6] (fun n i wr => ∃ k : Nat, k ≤ s.held.length ∧ i = .int .i64 k ∧ n = .int .i64 (A + F.tot (s.held.take k)) ∧ w0 = wr) (fun _ i _ => s.held.length - (intOf i).toNat)
      case atStart => exact ⟨0, Nat.zero_le _, rfl, by simp [F.tot], rfl⟩
      case round =>
        obtain ⟨k, hk, rfl, rfl, hwr⟩ := hrel
        subst hwr
        by_cases hlt : k < s.held.length
        rotate_left
        · obtain rfl : k = s.held.length := by omega
          have HE : Hid (A + F.tot (s.held.take s.held.length) = liqS s.st) := by show _ = _; rw [List.take_length]; unfold liqS; rw [← HAA.out]; rfl
          rw [HE.out]
          clear hlt
          go_wp2
          go_ret
          exact ⟨rfl, HB.out⟩
        · obtain ⟨b', off, hao, hx⟩ := fl_at HS.out.held hlt
          rw [hao] at q2
          have hb1 := tot_take_in HH.out k
          have hb2 := tot_take_in HH.out (k + 1)
          rw [tot_succ hlt] at hb2
          have HT : Hid (F.tot (s.held.take (k + 1)) = F.tot (s.held.take k) + (s.held[k]'hlt).2) := tot_succ hlt
          generalize (s.held[k]'hlt).2 = v at *
          have hwp : IntKind.i64.wrap (A + F.tot (s.held.take k) + v) = A + F.tot (s.held.take k) + v := wrap_in (by omega) (by omega)
          have hki : (k : Int) < (s.held.length : Int) := by omega
          clear hao hb1 hb2
          go_wp2
          go_roundw
          case rel => exact ⟨k + 1, by omega, by go_num, by rw [HT.out]; congr 1; omega, (by first | rfl | trivial)⟩
          case measure => simp [intOf]; omega
    · obtain ⟨b', off, hao, hx⟩ := HS.out.wells.at hlt
      have hA := liq_take_in HF.out k hk
      obtain ⟨A, hAA⟩ : ∃ A, liq (whp (s.wl.take k)) = A := ⟨_, rfl⟩
      rw [hAA] at hA
      rw [hAA]
      have HS1 : Hid (liq (whp (s.wl.take (k + 1))) = A + F.tot (s.wl[k]'hlt).2.2.2) := by show _ = _; rw [liq_succ hlt, hAA]
      have HFY : Hid (F.fref (s.wl[k]'hlt).2.2.2 = 0) := HF.out _ (List.getElem_mem hlt)
      generalize s.wl[k]'hlt = y at *
      have HX : Hid (WhAt w0 b' (off + k * 4) y) := hx
      have hyl := (F.fref_in HFY.out).1
      have q0 := (KS.out).c 0 rfl
      have q1 := (KS.out).c 1 rfl
      have q2 := (KS.out).c 2 rfl
      have q3 := (KS.out).c 3 rfl
      have q4 := (KS.out).c 4 rfl
      have q5 := (KS.out).c 5 rfl
      have q6 := (KS.out).c 6 rfl
      rw [hao] at q0
      obtain ⟨_, c0, c1, c2, c3, _⟩ := hx
      have hki : (k : Int) < (s.wl.length : Int) := by omega
      clear hao hAA
      go_wp2_with fail
      go_loopw [3, 5] (fun n i wr => ∃ j : Nat, j ≤ y.2.2.2.length ∧ i = .int .i64 j ∧ n = .int .i64 (A + F.tot (y.2.2.2.take j)) ∧ w0 = wr) (fun _ i _ => y.2.2.2.length - (intOf i).toNat)
      case atStart => exact ⟨0, Nat.zero_le _, rfl, by simp [F.tot], rfl⟩
      case round =>
        obtain ⟨j, hj, rfl, rfl, hwr⟩ := hrel
        subst hwr
        by_cases hlj : j < y.2.2.2.length
        rotate_left
        · obtain rfl : j = y.2.2.2.length := by omega
          rw [List.take_length]
          clear hlj
          go_wp2
          go_roundw
          case rel => exact ⟨k + 1, by omega, by go_num, by rw [HS1.out], (by first | rfl | trivial)⟩
          case measure => simp [intOf]; omega
        · obtain ⟨b2, off2, hao2, hx2⟩ := fl_at HX.out.fl hlj
          rw [hao2] at c3
          have hb1 := tot_take_in HFY.out j
          have hb2 := tot_take_in HFY.out (j + 1)
          rw [tot_succ hlj] at hb2
          have HT : Hid (F.tot (y.2.2.2.take (j + 1)) = F.tot (y.2.2.2.take j) + (y.2.2.2[j]'hlj).2) := tot_succ hlj
          generalize (y.2.2.2[j]'hlj).2 = v at *
          have hwp : IntKind.i64.wrap (A + F.tot (y.2.2.2.take j) + v) = A + F.tot (y.2.2.2.take j) + v := wrap_in (by omega) (by omega)
          have hji : (j : Int) < (y.2.2.2.length : Int) := by omega
          clear hao2 hb1 hb2
          go_wp2
          go_roundw
          case rel => exact ⟨j + 1, by omega, by go_num, by rw [HT.out]; congr 1; omega, (by first | rfl | trivial)⟩
          case measure => simp [intOf]; omega
end Go.Proofs.YtjappkfhballhaaGreat
