/- The law FlowCarries walked. -/
import Derived.Test.YtgbnjgenopdmfaaLX
import Derived.Test.YtgbnjgenopdmfaaLT
namespace Go.Proofs.Ytgbnjgenopdmfaa
open Go.RowKit Go.Maps

theorem reach_share (acs : List Acn) (s : Shr) (hs : s ∈ shares acs) : plA acs s.put ∈ (reachM acs (plA acs s.draw)).map (·.1) := by
  obtain ⟨a, b, e⟩ := List.append_of_mem hs
  have e2 : shares acs = (a ++ [s]) ++ b := by rw [e]; simp
  unfold reachM
  rw [e2]
  obtain ⟨t, ht⟩ := rchF_prefix acs (plA acs s.draw) (a ++ [s]) b
  rw [ht, List.map_append]
  refine List.mem_append_left _ ?_
  rw [rchF_snoc]
  obtain ⟨u, hu⟩ := rchF_first acs (plA acs s.draw) a
  have h1 : atS (rchF acs (plA acs s.draw) a) (plA acs s.draw) = some (-1) := by rw [hu]; simp [atS]
  unfold rchS
  rw [h1]
  simp only
  rw [if_neg (by omega)]
  cases h2 : atS (rchF acs (plA acs s.draw) a) (plA acs s.put) with
  | none => simp
  | some v =>
    simp only
    refine Decidable.by_contra fun hn => ?_
    have : atS (rchF acs (plA acs s.draw) a) (plA acs s.put) = none := atS_none.2 fun x hx e => hn (List.mem_map.2 ⟨x, hx, e⟩)
    rw [h2] at this
    cases this
theorem pair_reached (acs : List Acn) (x : Rt × Int) (hx : x ∈ pairsR acs) : 1 ≤ x.2 ∧ x.1.2 ∈ (reachM acs x.1.1).map (·.1) ∧ ∃ s ∈ shares acs, x.1 = rtA acs s := by
  obtain ⟨h1, s, hs, e⟩ := pairsF_mem acs (shares acs) (fun s hs => (shares_ok acs s hs).2.2.2.1) x hx
  refine ⟨h1, ?_, s, hs, e.symm⟩
  rw [← e]
  exact reach_share acs s hs
theorem sumP_append (a b : Prs) : sumP (a ++ b) = sumP a + sumP b := by
  induction a with
  | nil => simp [sumP]
  | cons x r ih => simp only [List.cons_append, sumP, ih]; omega
theorem sumP_take (acs : List Acn) (hl : acs.length ≤ 3000) (n : Nat) : 0 ≤ sumP ((pairsR acs).take n) ∧ sumP ((pairsR acs).take n) ≤ 9000000000000000 := by
  have hpos : ∀ x ∈ pairsR acs, 0 ≤ x.2 := fun x hx => by have := (pair_reached acs x hx).1; omega
  have h1 := (sumP_one (l := (pairsR acs).take n) fun x hx => hpos x (List.mem_of_mem_take hx)).1
  have h2 := (sumP_one (l := (pairsR acs).drop n) fun x hx => hpos x (List.mem_of_mem_drop hx)).1
  have h3 : sumP ((pairsR acs).take n) + sumP ((pairsR acs).drop n) = volsR (shares acs) := by rw [← sumP_append, List.take_append_drop]; exact pairsF_sum acs (shares acs)
  have h4 := vols_pre hl (List.prefix_refl (shares acs))
  omega
theorem pairs_few (acs : List Acn) (hl : acs.length ≤ 3000) : (pairsR acs).length ≤ 9000000000000000 := by
  have h : ∀ l : Prs, (∀ x ∈ l, 1 ≤ x.2) → (l.length : Int) ≤ sumP l := by
    intro l
    induction l with
    | nil => intro _; simp [sumP]
    | cons y q ih =>
      intro h
      have h1 := ih fun x hx => h x (by simp [hx])
      have h2 := h y (by simp)
      simp only [List.length_cons, sumP]
      omega
  have h1 := h (pairsR acs) fun x hx => (pair_reached acs x hx).1
  have h2 := (sumP_take acs hl (pairsR acs).length).2
  rw [List.take_length] at h2
  omega
def acs0 : List Acn := [⟨6, (0, 0, 0), ⟨#[]⟩, 0, 0, 0⟩, ⟨8, (1, 0, 0), ⟨#[]⟩, 5, 0, 0⟩, ⟨9, (2, 0, 0), ⟨#[]⟩, 3, 0, 0⟩]
theorem pairs0 : pairsR acs0 = [(((1, 0, 0), (2, 0, 0)), 3)] := by decide
theorem acs0_in (x : World) : Acs (x.alloc (.cells #[.int .i64 6, .int .i64 0, .int .i64 0, .int .i64 0, .string ⟨#[]⟩, .int .i64 0, .int .i64 0, .int .i64 0, .int .i64 8, .int .i64 1, .int .i64 0, .int .i64 0, .string ⟨#[]⟩, .int .i64 5, .int .i64 0, .int .i64 0, .int .i64 9, .int .i64 2, .int .i64 0, .int .i64 0, .string ⟨#[]⟩, .int .i64 3, .int .i64 0, .int .i64 0] 45)) (some ⟨x.heap.size, 0, none⟩) acs0 := by
  refine ⟨.inr ⟨x.heap.size, 0, rfl, by simp, ?_⟩, ?_⟩
  · intro k hk j hj
    have h := (Bk.new x [.int .i64 6, .int .i64 0, .int .i64 0, .int .i64 0, .string ⟨#[]⟩, .int .i64 0, .int .i64 0, .int .i64 0, .int .i64 8, .int .i64 1, .int .i64 0, .int .i64 0, .string ⟨#[]⟩, .int .i64 5, .int .i64 0, .int .i64 0, .int .i64 9, .int .i64 2, .int .i64 0, .int .i64 0, .string ⟨#[]⟩, .int .i64 3, .int .i64 0, .int .i64 0] 45 x.heap.size rfl)
    have hk3 : k < 3 := hk
    rcases (show k = 0 ∨ k = 1 ∨ k = 2 by omega) with rfl | rfl | rfl <;> rcases (show j = 0 ∨ j = 1 ∨ j = 2 ∨ j = 3 ∨ j = 4 ∨ j = 5 ∨ j = 6 ∨ j = 7 by simp at hj; omega) with rfl | rfl | rfl | rfl | rfl | rfl | rfl | rfl <;> exact h.c _ rfl
  · intro a ha
    simp [acs0] at ha
    rcases ha with rfl | rfl | rfl <;> exact ⟨Nat.zero_le _, by decide⟩
theorem pairs_ok (ao : Option Addr) (cap : Nat) (acs : List Acn) (w : World) (hA : Acs w ao acs) (hal : ∀ ad, ao = some ad → acs ≠ [] → ad.block < w.heap.size) (hl : acs.length ≤ 3000) (hpl : ∀ a ∈ acs, Wf3 a.pl) :
    Calls Try.prog 6 #[.slice ao acs.length cap] w fun e w' => Below w.heap.size w w' ∧ ∃ aoS capS, e = .returned (.tuple #[.slice aoS (pairsR acs).length capS, .int .i64 0]) ∧ RdR encPr w' aoS (pairsR acs) := by
  refine (pairs_any ao cap acs w hA hal (by omega) hpl).mono ?_
  rintro e w' ⟨hb, ⟨h, _⟩ | ⟨_, h⟩⟩
  · omega
  · exact ⟨hb, h⟩
theorem pairs_big (ao : Option Addr) (cap : Nat) (acs : List Acn) (w : World) (hA : Acs w ao acs) (hal : ∀ ad, ao = some ad → acs ≠ [] → ad.block < w.heap.size) (hl : 3000 < acs.length) (hla : acs.length ≤ 9223372036854775807) (hpl : ∀ a ∈ acs, Wf3 a.pl) :
    Calls Try.prog 6 #[.slice ao acs.length cap] w fun e w' => Below w.heap.size w w' ∧ e = .returned (.tuple #[.slice none 0 0, .int .i64 7]) := by
  refine (pairs_any ao cap acs w hA hal hla hpl).mono ?_
  rintro e w' ⟨hb, ⟨_, h⟩ | ⟨h, _⟩⟩
  · exact ⟨hb, h⟩
  · omega
theorem pairs_const (x : World) (B : Nat) (hB : B = x.heap.size) : Calls Try.prog 6 #[.slice (some ⟨B, 0, none⟩) 3 3] (x.alloc (.cells #[.int .i64 6, .int .i64 0, .int .i64 0, .int .i64 0, .string ⟨#[]⟩, .int .i64 0, .int .i64 0, .int .i64 0, .int .i64 8, .int .i64 1, .int .i64 0, .int .i64 0, .string ⟨#[]⟩, .int .i64 5, .int .i64 0, .int .i64 0, .int .i64 9, .int .i64 2, .int .i64 0, .int .i64 0, .string ⟨#[]⟩, .int .i64 3, .int .i64 0, .int .i64 0] 45)) fun e w' => Below (x.alloc (.cells #[.int .i64 6, .int .i64 0, .int .i64 0, .int .i64 0, .string ⟨#[]⟩, .int .i64 0, .int .i64 0, .int .i64 0, .int .i64 8, .int .i64 1, .int .i64 0, .int .i64 0, .string ⟨#[]⟩, .int .i64 5, .int .i64 0, .int .i64 0, .int .i64 9, .int .i64 2, .int .i64 0, .int .i64 0, .string ⟨#[]⟩, .int .i64 3, .int .i64 0, .int .i64 0] 45)).heap.size (x.alloc (.cells #[.int .i64 6, .int .i64 0, .int .i64 0, .int .i64 0, .string ⟨#[]⟩, .int .i64 0, .int .i64 0, .int .i64 0, .int .i64 8, .int .i64 1, .int .i64 0, .int .i64 0, .string ⟨#[]⟩, .int .i64 5, .int .i64 0, .int .i64 0, .int .i64 9, .int .i64 2, .int .i64 0, .int .i64 0, .string ⟨#[]⟩, .int .i64 3, .int .i64 0, .int .i64 0] 45)) w' ∧ ∃ g off cap, e = .returned (.tuple #[.slice (some ⟨g, off, none⟩) 1 cap, .int .i64 0]) ∧ w'.cell? ⟨g, off + 6, none⟩ = some (.int .i64 3) := by
  subst hB
  refine Calls.mono (pairs_ok (some ⟨x.heap.size, 0, none⟩) 3 acs0 _ (acs0_in x) (fun ad e _ => by injection e with e; subst e; simp) (by decide) (fun a ha => by simp [acs0] at ha; rcases ha with rfl | rfl | rfl <;> exact ⟨⟨by decide, by decide⟩, ⟨by decide, by decide⟩, ⟨by decide, by decide⟩⟩)) ?_
  rintro e w' ⟨hb, ao, cap, rfl, hrd⟩
  rw [pairs0] at hrd ⊢
  rcases hrd with h | ⟨g, off, rfl, _, hc⟩
  · cases h
  · have := hc 0 (by simp) 6 (by decide)
    simp at this
    exact ⟨hb, g, off, cap, rfl, this⟩
theorem pairs_okC (x : World) (B : Nat) (hA : Acs x (some ⟨B, 0, none⟩) acs0) (hB : B < x.heap.size) : Calls Try.prog 6 #[.slice (some ⟨B, 0, none⟩) 3 3] x fun e w' => Below x.heap.size x w' ∧ ∃ g off cap, e = .returned (.tuple #[.slice (some ⟨g, off, none⟩) 1 cap, .int .i64 0]) ∧ w'.cell? ⟨g, off + 6, none⟩ = some (.int .i64 3) := by
  refine Calls.mono (pairs_ok (some ⟨B, 0, none⟩) 3 acs0 x hA (fun ad e _ => by injection e with e; subst e; exact hB) (by decide) (fun a ha => by simp [acs0] at ha; rcases ha with rfl | rfl | rfl <;> exact ⟨⟨by decide, by decide⟩, ⟨by decide, by decide⟩, ⟨by decide, by decide⟩⟩)) ?_
  rintro e w' ⟨hb, ao, cap, rfl, hrd⟩
  rw [pairs0] at hrd ⊢
  rcases hrd with h | ⟨g, off, rfl, _, hc⟩
  · cases h
  · have := hc 0 (by simp) 6 (by decide)
    simp at this
    exact ⟨hb, g, off, cap, rfl, this⟩
set_option linter.unusedVariables false in
def ca19T (ga oa na ca k gp op np cp i : Nat) (x y : Plc) (b : Bool) (d : Nat) (v : Value) (_ : World) : Prop :=
  match d with
  | 103 => v = .bool true
  | 104 => v = .bool true
  | 115 => v = .bool true
  | _ => True
set_option linter.unusedVariables false in
theorem ca19T_mono (ga oa na ca k gp op np cp i : Nat) (x y : Plc) (b : Bool) (d : Nat) (v : Value) (w w' : World) (h : ca19T ga oa na ca k gp op np cp i x y b d v w) (_ : Below w.heap.size w w') : ca19T ga oa na ca k gp op np cp i x y b d v w' := h
set_option linter.unusedVariables false in
def ca19F (ga oa na ca k gp op np cp i : Nat) (x y : Plc) (b : Bool) (d : Nat) (v : Value) (_ : World) : Prop :=
  match d with
  | 103 => v = .bool false
  | 104 => v = .bool false
  | 105 => v = .slice (some ⟨ga, oa, none⟩) na ca
  | 106 => v = .int .i64 k
  | 107 => v = .pointer (some ⟨ga, oa + k * 3, none⟩)
  | 108 => v = .agg #[.int .i64 x.1, .int .i64 x.2.1, .int .i64 x.2.2]
  | 109 => v = .slice (some ⟨gp, op, none⟩) np cp
  | 110 => v = .int .i64 i
  | 111 => v = .pointer (some ⟨gp, op + i * 7, none⟩)
  | 112 => v = .pointer (some ⟨gp, op + i * 7 + 3, none⟩)
  | 113 => v = .agg #[.int .i64 y.1, .int .i64 y.2.1, .int .i64 y.2.2]
  | 114 => v = .bool b
  | 115 => v = .bool b
  | _ => True
set_option linter.unusedVariables false in
theorem ca19F_mono (ga oa na ca k gp op np cp i : Nat) (x y : Plc) (b : Bool) (d : Nat) (v : Value) (w w' : World) (h : ca19F ga oa na ca k gp op np cp i x y b d v w) (_ : Below w.heap.size w w') : ca19F ga oa na ca k gp op np cp i x y b d v w' := h
set_option maxHeartbeats 6400000 in
set_option maxRecDepth 100000 in
theorem carries_any (ao : Option Addr) (cap : Nat) (acs : List Acn) (w : World) (hA : Acs w ao acs) (hal : ∀ ad, ao = some ad → acs ≠ [] → ad.block < w.heap.size) (hla : acs.length ≤ 9223372036854775807) (hpl : ∀ a ∈ acs, Wf3 a.pl) :
    Calls Try.prog 4 #[.slice ao acs.length cap] w fun e w' => e = .returned (.bool true) ∧ Below w.heap.size w w' := by
  have HA : Hid (Acs w ao acs) := hA
  have HAL : Hid (∀ ad, ao = some ad → acs ≠ [] → ad.block < w.heap.size) := hal
  have HPL : Hid (∀ a ∈ acs, Wf3 a.pl) := hpl
  clear hA hal hpl
  go_enter Try.func4, Try.ntmps4
  obtain ⟨wC, hwC⟩ : ∃ wC, wC = (((w.alloc (.cells #[.int .i64 1, .int .i64 0, .int .i64 0] 26)).alloc (.cells #[.int .i64 2, .int .i64 0, .int .i64 0] 26)).alloc (.cells #[.int .i64 6, .int .i64 0, .int .i64 0, .int .i64 0, .string ⟨#[]⟩, .int .i64 0, .int .i64 0, .int .i64 0, .int .i64 8, .int .i64 1, .int .i64 0, .int .i64 0, .string ⟨#[]⟩, .int .i64 5, .int .i64 0, .int .i64 0, .int .i64 9, .int .i64 2, .int .i64 0, .int .i64 0, .string ⟨#[]⟩, .int .i64 3, .int .i64 0, .int .i64 0] 45)) := ⟨_, rfl⟩
  have HC0 : Hid (Acs wC (some ⟨w.heap.size + 1 + 1, 0, none⟩) acs0) := by
    have h := acs0_in ((w.alloc (.cells #[.int .i64 1, .int .i64 0, .int .i64 0] 26)).alloc (.cells #[.int .i64 2, .int .i64 0, .int .i64 0] 26))
    rw [← hwC, World.size_alloc, World.size_alloc] at h
    exact h
  have HCB : Hid (Below w.heap.size w wC ∧ wC.heap.size = w.heap.size + 3) := by
    refine ⟨?_, by rw [hwC]; simp⟩
    rw [hwC]
    exact (((Below.refl _ _).alloc (Nat.le_refl _) _).alloc (by simp) _).alloc (by simp; omega) _
  go_wp2_with fail
  rw [← hwC]
  clear hwC
  refine Calls.mono (pairs_okC wC (w.heap.size + 1 + 1) HC0.out (by have := HCB.out.2; omega)) ?_
  rintro e w2 ⟨hb2, g, off, c1, rfl, hc1⟩
  have HB2 : Hid (Below w.heap.size w w2) := below_on HCB.out.1 hb2
  clear hb2
  have HA2 : Hid (Acs w2 ao acs) := HA.out.next HB2.out
  have HAL2 : Hid (∀ ad, ao = some ad → acs ≠ [] → ad.block < w2.heap.size) := fun ad e h => Nat.lt_of_lt_of_le (HAL.out ad e h) HB2.out.size
  by_cases hbig : 3000 < acs.length
  · have HR7 : Hid (usR acs = (0, 0, 0, 7)) := if_pos hbig
    go_wp2_with (first
      | (go_at_call 6; refine (pairs_big ao cap acs _ HA2.out HAL2.out hbig hla HPL.out).mono ?_; rintro e w3 ⟨hb3, rfl⟩)
      | (go_at_call 9; refine (usage_any ao cap acs _ (HA2.out.next hb3) hla).mono ?_; rintro e w4 ⟨rfl, hb4⟩; rw [HR7.out]))
    go_ret
    exact ⟨rfl, below_on (below_on HB2.out hb3) hb4⟩
  · have hl : acs.length ≤ 3000 := by omega
    obtain ⟨tp, vo, ti, er, HU⟩ : ∃ tp vo ti er, Hid (usR acs = (tp, vo, ti, er)) := ⟨_, _, _, _, rfl⟩
    by_cases her : er = 0
    · subst her
      have HVO : Hid (vo = volsR (shares acs)) := by
        have h := HU.out
        unfold usR at h
        rw [if_neg hbig] at h
        show _ = _
        split at h
        · simp at h
        · simp at h; exact h.2.1.symm
      go_wp2_with (first
        | (go_at_call 6; refine (pairs_ok ao cap acs _ HA2.out HAL2.out hl HPL.out).mono ?_; rintro e w3 ⟨hb3, aoP, cP, rfl, hrd⟩)
        | (go_at_call 9; refine (usage_any ao cap acs _ (HA2.out.next hb3) hla).mono ?_; rintro e w4 ⟨rfl, hb4⟩; rw [HU.out]))
      have HRD : Hid (RdR encPr w4 aoP (pairsR acs)) := hrd.next goodPr hb4
      have HB4 : Hid (Below w.heap.size w w4) := below_on (below_on HB2.out hb3) hb4
      have HA4 : Hid (Acs w4 ao acs) := (HA2.out.next hb3).next hb4
      have HAL4 : Hid (∀ ad, ao = some ad → acs ≠ [] → ad.block < w4.heap.size) := fun ad e h => Nat.lt_of_lt_of_le (HAL2.out ad e h) (Nat.le_trans hb3.size hb4.size)
      have hpf := pairs_few acs hl
      have HST : Hid (∀ n, 0 ≤ sumP ((pairsR acs).take n) ∧ sumP ((pairsR acs).take n) ≤ 9000000000000000) := fun n => sumP_take acs hl n
      have HPR : Hid (∀ x ∈ pairsR acs, 1 ≤ x.2 ∧ x.1.2 ∈ (reachM acs x.1.1).map (·.1) ∧ ∃ s ∈ shares acs, x.1 = rtA acs s) := fun x hx => pair_reached acs x hx
      have HTOT : Hid (sumP (pairsR acs) = vo) := by show _ = _; rw [HVO.out]; exact pairsF_sum acs (shares acs)
      have HWF : Hid (∀ x ∈ pairsR acs, Wf3 x.1.1) := fun x hx => by
        obtain ⟨_, _, s, hs, e⟩ := pair_reached acs x hx
        have h1 := shares_ok acs s hs
        rw [e]
        show Wf3 (plA acs s.draw)
        rw [plA_at h1.1]
        exact HPL.out _ (List.getElem_mem h1.1)
      clear hrd hb3 hb4
      generalize pairsR acs = P at *
      go_loopw [12, 13] (fun sm i wr => ∃ n : Nat, n ≤ P.length ∧ i = .int .i64 n ∧ sm = .int .i64 (sumP (P.take n)) ∧ Below w4.heap.size w4 wr) (fun _ i _ => P.length - (intOf i).toNat)
      case atStart => exact ⟨0, Nat.zero_le _, rfl, rfl, Below.refl _ _⟩
      case round =>
        obtain ⟨i, hi, rfl, rfl, hbr⟩ := hrel
        have HBR : Hid (Below w4.heap.size w4 wr) := hbr
        clear hbr
        by_cases hil : i < P.length
        · have hii : (i : Int) < (P.length : Int) := by omega
          have HPX := (show Hid _ from HPR.out (P[i]'hil) (List.getElem_mem hil))
          have HWX := (show Hid _ from HWF.out (P[i]'hil) (List.getElem_mem hil))
          have HTI : Hid (sumP (P.take (i + 1)) = sumP (P.take i) + (P[i]'hil).2) := by show _ = _; rw [List.take_succ_eq_append_getElem hil, sumP_append]; simp [sumP]
          have hs0 := HST.out i
          have hs1 := HST.out (i + 1)
          rw [HTI.out] at hs1
          obtain ⟨gp, op, rfl, hcs⟩ : ∃ gp op, aoP = some ⟨gp, op, none⟩ ∧ ∀ j, j < 7 → wr.cell? ⟨gp, op + i * 7 + j, none⟩ = (prl (P[i]'hil))[j]? := by
            rcases HRD.out.next goodPr HBR.out with h | ⟨gp, op, e, _, hc⟩
            · rw [h] at hil; simp at hil
            · exact ⟨gp, op, e, fun j hj => hc i hil j hj⟩
          generalize P[i]'hil = px at *
          obtain ⟨⟨fr, into⟩, vol⟩ := px
          obtain ⟨hv1, hin, _⟩ := HPX.out
          have HIN : Hid (into ∈ (reachM acs fr).map (·.1)) := hin
          have p0 := hcs 0 (by decide)
          have p1 := hcs 1 (by decide)
          have p2 := hcs 2 (by decide)
          have p3 := hcs 3 (by decide)
          have p4 := hcs 4 (by decide)
          have p5 := hcs 5 (by decide)
          have p6 := hcs 6 (by decide)
          simp only [prl, List.getElem?_cons_zero, List.getElem?_cons_succ, Nat.add_zero] at p0 p1 p2 p3 p4 p5 p6
          clear hcs hin HPX
          generalize sumP (P.take i) = sm at *
          simp only at hs1 hv1
          obtain ⟨hs00, hs01⟩ := hs0
          obtain ⟨hs10, hs11⟩ := hs1
          go_wp2_with (go_at_call 8; refine (reach_ok ao cap acs.length acs fr _ rfl (HA4.out.next HBR.out) (fun ad e h => Nat.lt_of_lt_of_le (HAL4.out ad e h) HBR.out.size) hl HPL.out HWX.out).mono ?_; rintro e w5 ⟨hb5, all, aoA, ca, rfl, hall⟩)
          have HALL : Hid (Rs acs fr w5 all aoA) := hall
          have HB5 : Hid (Below w4.heap.size w4 w5) := below_on HBR.out hb5
          have HMEM : Hid (into ∈ all) := hall.perm.mem_iff.2 HIN.out
          have hmost : all.length ≤ 10000000 := by
            have h2 := hall.perm.length_eq
            have h3 := rch_len acs fr (shares acs)
            have h4 := shares_most hl
            simp at h2
            unfold reachM at h2
            omega
          have HYC : Hid (w5.cell? ⟨gp, op + i * 7 + 3, none⟩ = some (.int .i64 into.1) ∧ w5.cell? ⟨gp, op + i * 7 + 4, none⟩ = some (.int .i64 into.2.1) ∧ w5.cell? ⟨gp, op + i * 7 + 5, none⟩ = some (.int .i64 into.2.2) ∧ w5.cell? ⟨gp, op + i * 7 + 6, none⟩ = some (.int .i64 vol)) := ⟨cell_later hb5 p3, cell_later hb5 p4, cell_later hb5 p5, cell_later hb5 p6⟩
          clear hall hb5 p0 p1 p2 p3 p4 p5 p6
          go_loopw [16, 17] (fun b k wr => ∃ n : Nat, n ≤ all.length ∧ k = .int .i64 n ∧ b = .bool (decide (into ∈ all.take n)) ∧ Below w5.heap.size w5 wr) (fun _ k _ => all.length - (intOf k).toNat)
          case atStart => exact ⟨0, Nat.zero_le _, rfl, by simp, Below.refl _ _⟩
          case round =>
            obtain ⟨k, hk, rfl, rfl, hbr⟩ := hrel
            have HBQ : Hid (Below w5.heap.size w5 wr) := hbr
            clear hbr
            by_cases hkl2 : k < all.length
            · have hki : (k : Int) < (all.length : Int) := by omega
              have HTK : Hid (decide (into ∈ all.take (k + 1)) = (decide (into ∈ all.take k) || decide (all[k]'hkl2 = into))) := by
                show _ = _
                rw [← Bool.decide_or]
                refine decide_eq_decide.2 ?_
                rw [List.take_succ_eq_append_getElem hkl2, List.mem_append, List.mem_singleton, eq_comm (a := into)]
              have HAT := (show Hid _ from (HALL.out.next HBQ.out).at hkl2)
              generalize all[k]'hkl2 = x at *
              by_cases hin : into ∈ all.take k
              · rw [decide_eq_true hin] at HTK ⊢
                clear hin
                go_wp2_with fail
                refine region_seq 13 [false, false, false, false, false, false, false, false, false, false, false, false, false, false, false, false, false, false, false, false, false, false, false, false, false, false, false, false, false, false, false, false, false, false, false, false, false, false, false, false, false, false, false, false, false, false, false, false, false, false, false, false, false, false, false, false, false, false, false, false, false, false, false, false, false, false, false, false, false, false, false, false, false, false, false, false, false, false, false, false, false, false, false, false, false, false, false, false, false, false, false, false, false, false, false, false, false, false, false, false, false, false, false, true, true, true, true, true, true, true, true, true, true, true, true, true, false, false, false, false, false, false, false, false, false, false, false, false, false, false, false, false, false]
                  [(103, [], none), (104, [103], none), (105, [104], some (104, false)), (106, [104], some (104, false)), (107, [104, 105, 106], some (104, false)), (108, [104, 107], some (104, false)), (109, [104], some (104, false)), (110, [104], some (104, false)), (111, [104, 109, 110], some (104, false)), (112, [104, 111], some (104, false)), (113, [104, 112], some (104, false)), (114, [104, 108, 113], some (104, false)), (115, [104, 114], none)]
                  (ca19T 0 0 0 0 k 0 0 0 0 i fr fr true) (by kernel_rfl) (by kernel_rfl) (by kernel_rfl) (by kernel_rfl) (by kernel_rfl) (by decide) (ca19T_mono 0 0 0 0 k 0 0 0 0 i fr fr true) ?_ ?_
                · refine ⟨?_, ?_, ?_, ?_, ?_, ?_, ?_, ?_, ?_, ?_, ?_, ?_, ?_, trivial⟩
                  · intro f w1 hb _ K hK
                    simp only [over, overL, Nat.reduceAdd]
                    go_simp
                    exact hK _ _ ⟨_, rfl, by simp only [over, overL, Nat.reduceAdd]; rfl, Below.refl _ _⟩
                  · intro f w1 hb ⟨h103, _⟩ K hK
                    replace h103 : f 103 = _ := h103
                    simp only [over, overL, Nat.reduceAdd, h103]
                    go_simp
                    exact hK _ _ ⟨_, rfl, by simp only [over, overL, Nat.reduceAdd, h103]; rfl, Below.refl _ _⟩
                  · intro f w1 hb ⟨h104, _⟩
                    replace h104 : f 104 = _ := h104
                    exact ⟨fun hg => absurd (h104.symm.trans hg) (by simp), fun _ => trivial⟩
                  · intro f w1 hb ⟨h104, _⟩
                    replace h104 : f 104 = _ := h104
                    exact ⟨fun hg => absurd (h104.symm.trans hg) (by simp), fun _ => trivial⟩
                  · intro f w1 hb ⟨h104, h105, h106, _⟩
                    replace h104 : f 104 = _ := h104
                    exact ⟨fun hg => absurd (h104.symm.trans hg) (by simp), fun _ => trivial⟩
                  · intro f w1 hb ⟨h104, h107, _⟩
                    replace h104 : f 104 = _ := h104
                    exact ⟨fun hg => absurd (h104.symm.trans hg) (by simp), fun _ => trivial⟩
                  · intro f w1 hb ⟨h104, _⟩
                    replace h104 : f 104 = _ := h104
                    exact ⟨fun hg => absurd (h104.symm.trans hg) (by simp), fun _ => trivial⟩
                  · intro f w1 hb ⟨h104, _⟩
                    replace h104 : f 104 = _ := h104
                    exact ⟨fun hg => absurd (h104.symm.trans hg) (by simp), fun _ => trivial⟩
                  · intro f w1 hb ⟨h104, h109, h110, _⟩
                    replace h104 : f 104 = _ := h104
                    exact ⟨fun hg => absurd (h104.symm.trans hg) (by simp), fun _ => trivial⟩
                  · intro f w1 hb ⟨h104, h111, _⟩
                    replace h104 : f 104 = _ := h104
                    exact ⟨fun hg => absurd (h104.symm.trans hg) (by simp), fun _ => trivial⟩
                  · intro f w1 hb ⟨h104, h112, _⟩
                    replace h104 : f 104 = _ := h104
                    exact ⟨fun hg => absurd (h104.symm.trans hg) (by simp), fun _ => trivial⟩
                  · intro f w1 hb ⟨h104, h108, h113, _⟩
                    replace h104 : f 104 = _ := h104
                    exact ⟨fun hg => absurd (h104.symm.trans hg) (by simp), fun _ => trivial⟩
                  · intro f w1 hb ⟨h104, h114, _⟩ K hK
                    replace h104 : f 104 = _ := h104
                    simp only [over, overL, Nat.reduceAdd, h104]
                    go_simp
                    exact hK _ _ ⟨_, rfl, by simp only [over, overL, Nat.reduceAdd, h104]; rfl, Below.refl _ _⟩
                · intro f3 w6 hb6 hv
                  have h115 : f3 115 = .bool true := hv.2.2.2.2.2.2.2.2.2.2.2.2.1
                  simp only [List.drop, over, overL, Nat.reduceAdd, h115]
                  go_wp2
                  go_roundw
                  case rel => exact ⟨k + 1, by omega, by go_num, by rw [HTK.out]; rfl, below_on HBQ.out hb6⟩
                  case measure => simp [intOf]; omega
              · rw [decide_eq_false hin] at HTK ⊢
                clear hin
                obtain ⟨ga, oa, rfl, a0, a1, a2⟩ := HAT.out
                have HX : Hid (∀ W1, Below wr.heap.size wr W1 → W1.cell? ⟨ga, oa + k * 3, none⟩ = some (.int .i64 x.1) ∧ W1.cell? ⟨ga, oa + k * 3 + 1, none⟩ = some (.int .i64 x.2.1) ∧ W1.cell? ⟨ga, oa + k * 3 + 2, none⟩ = some (.int .i64 x.2.2)) := fun W1 hb => ⟨cell_later hb a0, cell_later hb a1, cell_later hb a2⟩
                have HY : Hid (∀ W1, Below wr.heap.size wr W1 → W1.cell? ⟨gp, op + i * 7 + 3, none⟩ = some (.int .i64 into.1) ∧ W1.cell? ⟨gp, op + i * 7 + 4, none⟩ = some (.int .i64 into.2.1) ∧ W1.cell? ⟨gp, op + i * 7 + 5, none⟩ = some (.int .i64 into.2.2)) := fun W1 hb => ⟨cell_later hb (cell_later HBQ.out HYC.out.1), cell_later hb (cell_later HBQ.out HYC.out.2.1), cell_later hb (cell_later HBQ.out HYC.out.2.2.1)⟩
                have HE : Hid (∀ W1, (binOp .eql 26 (.agg #[.int .i64 x.1, .int .i64 x.2.1, .int .i64 x.2.2]) (.agg #[.int .i64 into.1, .int .i64 into.2.1, .int .i64 into.2.2])).run Try.prog W1 = .ok (.bool (decide (x = into))) W1) := fun W1 => pl_same x into W1
                clear a0 a1 a2 HAT
                generalize decide (x = into) = b at *
                go_wp2_with fail
                refine region_seq 13 [false, false, false, false, false, false, false, false, false, false, false, false, false, false, false, false, false, false, false, false, false, false, false, false, false, false, false, false, false, false, false, false, false, false, false, false, false, false, false, false, false, false, false, false, false, false, false, false, false, false, false, false, false, false, false, false, false, false, false, false, false, false, false, false, false, false, false, false, false, false, false, false, false, false, false, false, false, false, false, false, false, false, false, false, false, false, false, false, false, false, false, false, false, false, false, false, false, false, false, false, false, false, false, true, true, true, true, true, true, true, true, true, true, true, true, true, false, false, false, false, false, false, false, false, false, false, false, false, false, false, false, false, false]
                  [(103, [], none), (104, [103], none), (105, [104], some (104, false)), (106, [104], some (104, false)), (107, [104, 105, 106], some (104, false)), (108, [104, 107], some (104, false)), (109, [104], some (104, false)), (110, [104], some (104, false)), (111, [104, 109, 110], some (104, false)), (112, [104, 111], some (104, false)), (113, [104, 112], some (104, false)), (114, [104, 108, 113], some (104, false)), (115, [104, 114], none)]
                  (ca19F ga oa all.length ca k gp op P.length cP i x into b) (by kernel_rfl) (by kernel_rfl) (by kernel_rfl) (by kernel_rfl) (by kernel_rfl) (by decide) (ca19F_mono ga oa all.length ca k gp op P.length cP i x into b) ?_ ?_
                · refine ⟨?_, ?_, ?_, ?_, ?_, ?_, ?_, ?_, ?_, ?_, ?_, ?_, ?_, trivial⟩
                  · intro f w1 hb _ K hK
                    simp only [over, overL, Nat.reduceAdd]
                    go_simp
                    exact hK _ _ ⟨_, rfl, by simp only [over, overL, Nat.reduceAdd]; rfl, Below.refl _ _⟩
                  · intro f w1 hb ⟨h103, _⟩ K hK
                    replace h103 : f 103 = _ := h103
                    simp only [over, overL, Nat.reduceAdd, h103]
                    go_simp
                    exact hK _ _ ⟨_, rfl, by simp only [over, overL, Nat.reduceAdd, h103]; rfl, Below.refl _ _⟩
                  · intro f w1 hb ⟨h104, _⟩
                    replace h104 : f 104 = _ := h104
                    refine ⟨fun _ => ?_, fun hg => absurd h104 hg⟩
                    intro K hK
                    simp only [over, overL, Nat.reduceAdd, h104]
                    go_simp
                    exact hK _ _ ⟨_, rfl, by simp only [over, overL, Nat.reduceAdd, h104]; rfl, Below.refl _ _⟩
                  · intro f w1 hb ⟨h104, _⟩
                    replace h104 : f 104 = _ := h104
                    refine ⟨fun _ => ?_, fun hg => absurd h104 hg⟩
                    intro K hK
                    simp only [over, overL, Nat.reduceAdd, h104]
                    go_simp
                    exact hK _ _ ⟨_, rfl, by simp only [over, overL, Nat.reduceAdd, h104]; rfl, Below.refl _ _⟩
                  · intro f w1 hb ⟨h104, h105, h106, _⟩
                    replace h104 : f 104 = _ := h104
                    replace h105 : f 105 = _ := h105
                    replace h106 : f 106 = _ := h106
                    refine ⟨fun _ => ?_, fun hg => absurd h104 hg⟩
                    intro K hK
                    simp only [over, overL, Nat.reduceAdd, h104, h105, h106]
                    go_simp
                    exact hK _ _ ⟨_, rfl, by simp only [over, overL, Nat.reduceAdd, h104, h105, h106]; rfl, Below.refl _ _⟩
                  · intro f w1 hb ⟨h104, h107, _⟩
                    replace h104 : f 104 = _ := h104
                    replace h107 : f 107 = _ := h107
                    refine ⟨fun _ => ?_, fun hg => absurd h104 hg⟩
                    intro K hK
                    obtain ⟨q0, q1, q2⟩ := HX.out w1 hb
                    simp only [over, overL, Nat.reduceAdd, h104, h107]
                    go_simp
                    exact hK _ _ ⟨_, rfl, by simp only [over, overL, Nat.reduceAdd, h104, h107]; rfl, Below.refl _ _⟩
                  · intro f w1 hb ⟨h104, _⟩
                    replace h104 : f 104 = _ := h104
                    refine ⟨fun _ => ?_, fun hg => absurd h104 hg⟩
                    intro K hK
                    simp only [over, overL, Nat.reduceAdd, h104]
                    go_simp
                    exact hK _ _ ⟨_, rfl, by simp only [over, overL, Nat.reduceAdd, h104]; rfl, Below.refl _ _⟩
                  · intro f w1 hb ⟨h104, _⟩
                    replace h104 : f 104 = _ := h104
                    refine ⟨fun _ => ?_, fun hg => absurd h104 hg⟩
                    intro K hK
                    simp only [over, overL, Nat.reduceAdd, h104]
                    go_simp
                    exact hK _ _ ⟨_, rfl, by simp only [over, overL, Nat.reduceAdd, h104]; rfl, Below.refl _ _⟩
                  · intro f w1 hb ⟨h104, h109, h110, _⟩
                    replace h104 : f 104 = _ := h104
                    replace h109 : f 109 = _ := h109
                    replace h110 : f 110 = _ := h110
                    refine ⟨fun _ => ?_, fun hg => absurd h104 hg⟩
                    intro K hK
                    simp only [over, overL, Nat.reduceAdd, h104, h109, h110]
                    go_simp
                    exact hK _ _ ⟨_, rfl, by simp only [over, overL, Nat.reduceAdd, h104, h109, h110]; rfl, Below.refl _ _⟩
                  · intro f w1 hb ⟨h104, h111, _⟩
                    replace h104 : f 104 = _ := h104
                    replace h111 : f 111 = _ := h111
                    refine ⟨fun _ => ?_, fun hg => absurd h104 hg⟩
                    intro K hK
                    simp only [over, overL, Nat.reduceAdd, h104, h111]
                    go_simp
                    exact hK _ _ ⟨_, rfl, by simp only [over, overL, Nat.reduceAdd, h104, h111]; rfl, Below.refl _ _⟩
                  · intro f w1 hb ⟨h104, h112, _⟩
                    replace h104 : f 104 = _ := h104
                    replace h112 : f 112 = _ := h112
                    refine ⟨fun _ => ?_, fun hg => absurd h104 hg⟩
                    intro K hK
                    obtain ⟨q0, q1, q2⟩ := HY.out w1 hb
                    simp only [over, overL, Nat.reduceAdd, h104, h112]
                    go_simp
                    exact hK _ _ ⟨_, rfl, by simp only [over, overL, Nat.reduceAdd, h104, h112]; rfl, Below.refl _ _⟩
                  · intro f w1 hb ⟨h104, h108, h113, _⟩
                    replace h104 : f 104 = _ := h104
                    replace h108 : f 108 = _ := h108
                    replace h113 : f 113 = _ := h113
                    refine ⟨fun _ => ?_, fun hg => absurd h104 hg⟩
                    intro K hK
                    have q0 := HE.out w1
                    simp only [over, overL, Nat.reduceAdd, h104, h108, h113]
                    refine wp_binop rfl (by go_simp) q0 ?_
                    exact hK _ _ ⟨_, rfl, by simp only [over, overL, Nat.reduceAdd, h104, h108, h113], Below.refl _ _⟩
                  · intro f w1 hb ⟨h104, h114, _⟩ K hK
                    replace h104 : f 104 = _ := h104
                    replace h114 : f 114 = _ := h114
                    simp only [over, overL, Nat.reduceAdd, h104, h114]
                    go_simp
                    exact hK _ _ ⟨_, rfl, by simp only [over, overL, Nat.reduceAdd, h104, h114]; rfl, Below.refl _ _⟩
                · intro f3 w6 hb6 hv
                  have h115 : f3 115 = .bool b := hv.2.2.2.2.2.2.2.2.2.2.2.2.1
                  simp only [List.drop, over, overL, Nat.reduceAdd, h115]
                  go_wp2
                  go_roundw
                  case rel => exact ⟨k + 1, by omega, by go_num, by rw [HTK.out]; rfl, below_on HBQ.out hb6⟩
                  case measure => simp [intOf]; omega
            · have hki : ¬ (k : Int) < (all.length : Int) := by omega
              have e : all.take k = all := List.take_of_length_le (by omega)
              have y6 := cell_later HBQ.out HYC.out.2.2.2
              rw [e, decide_eq_true HMEM.out]
              clear e
              go_wp2
              go_roundw
              case rel => exact ⟨i + 1, by omega, by go_num, by rw [HTI.out], below_on HB5.out HBQ.out⟩
              case measure => simp [intOf]; omega
        · have hii : ¬ (i : Int) < (P.length : Int) := by omega
          have e : P.take i = P := List.take_of_length_le (by omega)
          rw [e, HTOT.out]
          clear e
          go_wp2
          go_ret
          exact ⟨by simp, below_on HB4.out HBR.out⟩
    · go_wp2_with (first
        | (go_at_call 6; refine (pairs_ok ao cap acs _ HA2.out HAL2.out hl HPL.out).mono ?_; rintro e w3 ⟨hb3, aoP, cP, rfl, hrd⟩)
        | (go_at_call 9; refine (usage_any ao cap acs _ (HA2.out.next hb3) hla).mono ?_; rintro e w4 ⟨rfl, hb4⟩; rw [HU.out]))
      go_ret
      exact ⟨rfl, below_on (below_on HB2.out hb3) hb4⟩
end Go.Proofs.Ytgbnjgenopdmfaa
