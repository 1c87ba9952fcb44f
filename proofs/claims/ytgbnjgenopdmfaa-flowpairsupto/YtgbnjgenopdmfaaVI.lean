/- The law FlowPairs walked. -/
import Derived.Test.YtgbnjgenopdmfaaVG
import Derived.Test.YtgbnjgenopdmfaaVH
import Derived.Test.YtgbnjgenopdmfaaLZ
namespace Go.Proofs.Ytgbnjgenopdmfaa
open Go.RowKit Go.Maps

/-- What Reach answers. -/
def reS (acs : List Acn) (p : Plc) : List Plc := if 3000 < acs.length then [] else insL (keysM (reachM acs p))
def reE (acs : List Acn) : Int := if 3000 < acs.length then 7 else 0
def IsA (acs : List Acn) (v : Value) (w : World) : Prop := ∃ ao2 cap2, v = .slice ao2 acs.length cap2 ∧ Acs w ao2 acs ∧ ∀ ad, ao2 = some ad → ad.block < w.heap.size
theorem IsA.later {acs : List Acn} {v : Value} {w w1 : World} (h : IsA acs v w) (hb : Below w.heap.size w w1) : IsA acs v w1 := by
  obtain ⟨a, c, e, h1, h2⟩ := h
  exact ⟨a, c, e, h1.next hb, fun ad e => Nat.lt_of_lt_of_le (h2 ad e) hb.size⟩
def IsRe (acs : List Acn) (p : Plc) (v : Value) (w : World) : Prop := ∃ aoS capS, v = .tuple #[.slice aoS (reS acs p).length capS, .int .i64 (reE acs)] ∧ RdR encP w aoS (reS acs p)
theorem IsRe.later {acs : List Acn} {p : Plc} {v : Value} {w w1 : World} (h : IsRe acs p v w) (hb : Below w.heap.size w w1) : IsRe acs p v w1 := by
  obtain ⟨a, c, e, h1⟩ := h
  exact ⟨a, c, e, h1.next goodP hb⟩
def IsR1 (acs : List Acn) (p : Plc) (v : Value) (w : World) : Prop := ∃ aoS capS, v = .slice aoS (reS acs p).length capS ∧ RdR encP w aoS (reS acs p)
theorem IsR1.later {acs : List Acn} {p : Plc} {v : Value} {w w1 : World} (h : IsR1 acs p v w) (hb : Below w.heap.size w w1) : IsR1 acs p v w1 := by
  obtain ⟨a, c, e, h1⟩ := h
  exact ⟨a, c, e, h1.next goodP hb⟩
theorem actions_is (ao : Option Addr) (cap : Nat) (acs : List Acn) (w : World) (hA : Acs w ao acs) (hcap : ao = none → cap = 0) (hb : acs.length ≤ 1500000) :
    Calls Try.prog 7 #[.slice ao acs.length cap] w fun e w' => ∃ r, e = .returned r ∧ IsA acs r w' ∧ Below w.heap.size w w' := by
  refine (actions_any ao cap acs w hA hcap hb).mono ?_
  rintro e w' ⟨hb, a2, c2, rfl, h1, h2⟩
  exact ⟨_, rfl, ⟨a2, c2, rfl, h1, h2⟩, hb⟩
theorem reach_is (acs : List Acn) (p : Plc) (v : Value) (w : World) (h : IsA acs v w) (hla : acs.length ≤ 9223372036854775807) (hpl : ∀ a ∈ acs, Wf3 a.pl) (hp : Wf3 p) :
    Calls Try.prog 8 #[v, plv p] w fun e w' => ∃ r, e = .returned r ∧ IsRe acs p r w' ∧ Below w.heap.size w w' := by
  obtain ⟨ao, cap, rfl, hA, hal⟩ := h
  refine (reach_any ao cap acs p w hA (fun ad e _ => hal ad e) hla hpl hp).mono ?_
  rintro e w' ⟨hb, ⟨hbig, rfl⟩ | ⟨hl, s, aoS, cS, rfl, hp1, hp2, hrd, _⟩⟩
  · have e1 : reS acs p = [] := if_pos hbig
    have e2 : reE acs = 7 := if_pos hbig
    refine ⟨_, rfl, ⟨none, 0, ?_, ?_⟩, hb⟩
    · rw [e1, e2]; rfl
    · rw [e1]; exact .inl rfl
  · have hbig : ¬ 3000 < acs.length := by omega
    have e1 : reS acs p = s := by
      unfold reS
      rw [if_neg hbig]
      exact insL_unique (rchF_nd acs p (shares acs)) hp1 hp2
    have e2 : reE acs = 0 := if_neg hbig
    refine ⟨_, rfl, ⟨aoS, cS, ?_, ?_⟩, hb⟩
    · rw [e1, e2]
    · rw [e1]; exact hrd
def prS (acs : List Acn) : Prs := if 3000 < acs.length then [] else pairsR acs
theorem pairs_is (acs : List Acn) (ao : Option Addr) (cap : Nat) (w : World) (hA : Acs w ao acs) (hal : ∀ ad, ao = some ad → ad.block < w.heap.size) (hla : acs.length ≤ 9223372036854775807) (hpl : ∀ a ∈ acs, Wf3 a.pl) :
    Calls Try.prog 6 #[.slice ao acs.length cap] w fun e w' => Below w.heap.size w w' ∧ ∃ aoS capS, e = .returned (.tuple #[.slice aoS (prS acs).length capS, .int .i64 (reE acs)]) ∧ RdR encQ w' aoS (prS acs) := by
  refine (pairs_any ao cap acs w hA (fun ad e _ => hal ad e) hla hpl).mono ?_
  rintro e w' ⟨hb, ⟨hbig, rfl⟩ | ⟨hl, aoS, cS, rfl, hrd⟩⟩
  · have e1 : prS acs = [] := if_pos hbig
    have e2 : reE acs = 7 := if_pos hbig
    rw [e1, e2]
    exact ⟨hb, none, 0, rfl, .inl rfl⟩
  · have hbig : ¬ 3000 < acs.length := by omega
    have e1 : prS acs = pairsR acs := if_neg hbig
    have e2 : reE acs = 0 := if_neg hbig
    rw [e1, e2]
    exact ⟨hb, aoS, cS, rfl, hrd⟩
theorem pr_same (x : Rt × Int) (W : World) : (binOp .neq 39 (.agg #[.int .i64 x.1.1.1, .int .i64 x.1.1.2.1, .int .i64 x.1.1.2.2, .int .i64 x.1.2.1, .int .i64 x.1.2.2.1, .int .i64 x.1.2.2.2, .int .i64 x.2]) (.agg #[.int .i64 x.1.1.1, .int .i64 x.1.1.2.1, .int .i64 x.1.1.2.2, .int .i64 x.1.2.1, .int .i64 x.1.2.2.1, .int .i64 x.1.2.2.2, .int .i64 x.2])).run Try.prog W = .ok (.bool false) W := by go_simp
theorem pl_same2 (x : Plc) (W : World) : (binOp .neq 26 (.agg #[.int .i64 x.1, .int .i64 x.2.1, .int .i64 x.2.2]) (.agg #[.int .i64 x.1, .int .i64 x.2.1, .int .i64 x.2.2])).run Try.prog W = .ok (.bool false) W := by go_simp
def fpW (ao : Option Addr) (n cap : Nat) (acs : List Acn) (p : Plc) (j : Nat) (l : List Value) (w : World) : Prop :=
  match j, l with
  | 0, [v] => v = .slice ao n cap
  | 1, [v] => IsA acs v w
  | 2, [v] => v = .agg #[.int .i64 p.1, .int .i64 p.2.1, .int .i64 p.2.2]
  | 3, [v] => IsRe acs p v w
  | 4, [v] => IsRe acs p v w
  | 5, [v] => IsR1 acs p v w
  | 6, [v] => v = .int .i64 (reE acs)
  | 7, [v] => IsR1 acs p v w
  | 8, [v] => v = .int .i64 (reE acs)
  | _, _ => True
theorem fpW_mono (ao : Option Addr) (n cap : Nat) (acs : List Acn) (p : Plc) (j : Nat) (l : List Value) (w w' : World) (h : fpW ao n cap acs p j l w) (hb : Below w.heap.size w w') : fpW ao n cap acs p j l w' := by
  unfold fpW at h ⊢
  split <;> simp only [] at h <;> first | exact h | exact h.later hb
set_option linter.unusedVariables false in
def fpA (ga oa n ca i gb ob cb : Nat) (x : Rt × Int) (d : Nat) (v : Value) (_ : World) : Prop :=
  match d with
  | 94 => v = .slice (some ⟨ga, oa, none⟩) n ca
  | 95 => v = .int .i64 i
  | 96 => v = .pointer (some ⟨ga, oa + i * 7, none⟩)
  | 97 => v = .agg #[.int .i64 x.1.1.1, .int .i64 x.1.1.2.1, .int .i64 x.1.1.2.2, .int .i64 x.1.2.1, .int .i64 x.1.2.2.1, .int .i64 x.1.2.2.2, .int .i64 x.2]
  | 98 => v = .slice (some ⟨gb, ob, none⟩) n cb
  | 99 => v = .int .i64 i
  | 100 => v = .pointer (some ⟨gb, ob + i * 7, none⟩)
  | 101 => v = .agg #[.int .i64 x.1.1.1, .int .i64 x.1.1.2.1, .int .i64 x.1.1.2.2, .int .i64 x.1.2.1, .int .i64 x.1.2.2.1, .int .i64 x.1.2.2.2, .int .i64 x.2]
  | 102 => v = .bool false
  | _ => True
set_option linter.unusedVariables false in
theorem fpA_mono (ga oa n ca i gb ob cb : Nat) (x : Rt × Int) (d : Nat) (v : Value) (w w' : World) (h : fpA ga oa n ca i gb ob cb x d v w) (_ : Below w.heap.size w w') : fpA ga oa n ca i gb ob cb x d v w' := h
set_option linter.unusedVariables false in
def fpB (ga oa n ca i gb ob cb : Nat) (x : Plc) (d : Nat) (v : Value) (_ : World) : Prop :=
  match d with
  | 121 => v = .slice (some ⟨ga, oa, none⟩) n ca
  | 122 => v = .int .i64 i
  | 123 => v = .pointer (some ⟨ga, oa + i * 3, none⟩)
  | 124 => v = .agg #[.int .i64 x.1, .int .i64 x.2.1, .int .i64 x.2.2]
  | 125 => v = .slice (some ⟨gb, ob, none⟩) n cb
  | 126 => v = .int .i64 i
  | 127 => v = .pointer (some ⟨gb, ob + i * 3, none⟩)
  | 128 => v = .agg #[.int .i64 x.1, .int .i64 x.2.1, .int .i64 x.2.2]
  | 129 => v = .bool false
  | _ => True
set_option linter.unusedVariables false in
theorem fpB_mono (ga oa n ca i gb ob cb : Nat) (x : Plc) (d : Nat) (v : Value) (w w' : World) (h : fpB ga oa n ca i gb ob cb x d v w) (_ : Below w.heap.size w w') : fpB ga oa n ca i gb ob cb x d v w' := h
set_option maxHeartbeats 12800000 in
set_option maxRecDepth 100000 in
theorem flowPairs_any (ao : Option Addr) (cap : Nat) (acs : List Acn) (p : Plc) (w : World) (hA : Acs w ao acs) (hal : ∀ ad, ao = some ad → acs ≠ [] → ad.block < w.heap.size) (hcap : ao = none → cap = 0) (hbulk : acs.length ≤ 1500000) (hpl : ∀ a ∈ acs, Wf3 a.pl) (hp : Wf3 p) :
    Calls Try.prog 3 #[.slice ao acs.length cap, plv p] w fun e w' => e = .returned (.bool true) ∧ Below w.heap.size w w' := by
  have hla : acs.length ≤ 9223372036854775807 := by omega
  have HA0 : Hid (Acs w ao acs) := hA
  have HAL : Hid (∀ ad, ao = some ad → acs ≠ [] → ad.block < w.heap.size) := hal
  have HCP : Hid (ao = none → cap = 0) := hcap
  have HPL : Hid (∀ a ∈ acs, Wf3 a.pl) := hpl
  have HP : Hid (Wf3 p) := hp
  have K0 : Hid (Bk w.heap.size (pcq p) (w.alloc (pobj p))) := Bk.new w _ _ w.heap.size rfl
  have B0 : Hid (Below w.heap.size w (w.alloc (pobj p))) := (Below.refl _ _).alloc (Nat.le_refl _) _
  clear hA hal hcap hpl hp
  go_enter Try.func3, Try.ntmps3
  go_wp2_with (first
    | (go_at_call 7; refine (actions_any ao cap acs _ (HA0.out.next B0.out) HCP.out hbulk).mono ?_; rintro e w1 ⟨hb1, ao1, cap1, rfl, ha1, hl1⟩)
    | (go_at_call 6; refine (pairs_is acs ao1 cap1 _ ha1 hl1 hla HPL.out).mono ?_; rintro e w2 ⟨hb2, aoA, cA, rfl, hra⟩))
  have HB2 : Hid (Below w.heap.size w w2) := below_on B0.out (below_on hb1 hb2)
  have HRA2 : Hid (RdR encQ w2 aoA (prS acs)) := hra
  have KP : Hid (Bk w.heap.size (pcq p) w2) := (K0.out.later hb1).later hb2
  have HA : Hid (Acs w2 ao acs) := HA0.out.next HB2.out
  clear hra hb1 hb2 ha1 hl1
  refine region_all [false, false, false, false, false, false, false, true, true, false, false, false, false, false, false, false, false, false, false, false, false, false, false, false, false, false, false, true, true, true, true, true, true, true, false, false, false, false, false, false, false, false, false, false, false, false, false, false, false, false, false, false, false, false, false, false, false, false, false, false, false, false, false, false, false, false, false, false, false, false, false, false, false, false, false, false, false, false, false, false, false, false, false, false, false, false, false, false, false, false, false, false, false, false, false, false, false, false, false, false, false, false, false, false, false, false, false, false, false, false, false, false, false, false, false, false, false, false, false, false, false, false, false, false, false, false, false, false, false, false, false, false, false, false, false, false, false, false, false, false, false, false, false, false, false, false, false, false, false, false, false, false, false, false, false, false, false, false, false, false, false, false, false, false, false, false, false, false, false, false]
    [([], [28], none), ([0], [29], none), ([], [30], none), ([1, 2], [31], none), ([3], [27], none), ([4], [32], none), ([4], [33], none), ([5], [7], none), ([6], [8], none)] (fpW ao acs.length cap acs p) (fun _ _ => True) (by kernel_rfl) (by kernel_rfl) (fun _ _ => trivial) ?_ ?_
  · refine ⟨?_, ?_, ?_, ?_, ?_, ?_, ?_, ?_, ?_, trivial⟩
    · intro f w1 hb _ _ K hK
      simp only [over, overL, Nat.reduceAdd]
      go_simp
      exact hK _ _ ⟨_, by simp only [over, overL, Nat.reduceAdd]; rfl, rfl, hb, trivial, fun _ h => h⟩
    · intro f w1 hb _ ⟨h28, _⟩ K hK
      replace h28 : f 28 = _ := h28
      simp only [over, overL, Nat.reduceAdd, h28]
      go_simp
      refine (actions_is ao cap acs w1 (HA.out.next hb) HCP.out hbulk).mono ?_
      rintro e w2 ⟨r, rfl, hr, hb2⟩
      exact hK _ _ ⟨_, by simp only [over, overL, Nat.reduceAdd, h28]; rfl, hr, below_on hb hb2, trivial, fun j h => fpW_mono ao acs.length cap acs p j _ _ _ h hb2⟩
    · intro f w1 hb _ _ K hK
      have q0 := (KP.out.later hb).c 0 rfl
      have q1 := (KP.out.later hb).c 1 rfl
      have q2 := (KP.out.later hb).c 2 rfl
      simp only [over, overL, Nat.reduceAdd]
      go_simp
      exact hK _ _ ⟨_, by simp only [over, overL, Nat.reduceAdd]; rfl, rfl, hb, trivial, fun _ h => h⟩
    · intro f w1 hb _ ⟨h29, h30, _⟩ K hK
      replace h30 : f 30 = _ := h30
      replace h29 : IsA acs (f 29) w1 := h29
      obtain ⟨v29, e29⟩ : ∃ v, f 29 = v := ⟨_, rfl⟩
      rw [e29] at h29
      simp only [over, overL, Nat.reduceAdd, e29, h30]
      go_simp
      refine (reach_is acs p v29 w1 h29 hla HPL.out HP.out).mono ?_
      rintro e w2 ⟨r, rfl, hr, hb2⟩
      exact hK _ _ ⟨_, by simp only [over, overL, Nat.reduceAdd, e29, h30]; rfl, hr, below_on hb hb2, trivial, fun j h => fpW_mono ao acs.length cap acs p j _ _ _ h hb2⟩
    · intro f w1 hb _ ⟨h31, _⟩ K hK
      replace h31 : IsRe acs p (f 31) w1 := h31
      obtain ⟨v31, e31⟩ : ∃ v, f 31 = v := ⟨_, rfl⟩
      rw [e31] at h31
      simp only [over, overL, Nat.reduceAdd, e31]
      go_simp
      exact hK _ _ ⟨_, by simp only [over, overL, Nat.reduceAdd, e31]; rfl, h31, hb, trivial, fun _ h => h⟩
    · intro f w1 hb _ ⟨h27, _⟩ K hK
      obtain ⟨aoS, cS, e27, r27⟩ := (show IsRe acs p (f 27) w1 from h27)
      simp only [over, overL, Nat.reduceAdd, e27]
      go_simp
      exact hK _ _ ⟨_, by simp only [over, overL, Nat.reduceAdd, e27]; rfl, ⟨aoS, cS, rfl, r27⟩, hb, trivial, fun _ h => h⟩
    · intro f w1 hb _ ⟨h27, _⟩ K hK
      obtain ⟨aoS, cS, e27, r27⟩ := (show IsRe acs p (f 27) w1 from h27)
      simp only [over, overL, Nat.reduceAdd, e27]
      go_simp
      exact hK _ _ ⟨_, by simp only [over, overL, Nat.reduceAdd, e27]; rfl, rfl, hb, trivial, fun _ h => h⟩
    · intro f w1 hb _ ⟨h32, _⟩ K hK
      replace h32 : IsR1 acs p (f 32) w1 := h32
      obtain ⟨v32, e32⟩ : ∃ v, f 32 = v := ⟨_, rfl⟩
      rw [e32] at h32
      simp only [over, overL, Nat.reduceAdd, e32]
      go_simp
      exact hK _ _ ⟨_, by simp only [over, overL, Nat.reduceAdd, e32]; rfl, h32, hb, trivial, fun _ h => h⟩
    · intro f w1 hb _ ⟨h33, _⟩ K hK
      replace h33 : f 33 = .int .i64 (reE acs) := h33
      simp only [over, overL, Nat.reduceAdd, h33]
      go_simp
      exact hK _ _ ⟨_, by simp only [over, overL, Nat.reduceAdd, h33]; rfl, rfl, hb, trivial, fun _ h => h⟩
  · intro f w3 b3 _ hv
    obtain ⟨aoR, cR, h7, hr7⟩ := (show IsR1 acs p (f 7) w3 from hv.2.2.2.2.2.2.2.1)
    have h8 : f 8 = .int .i64 (reE acs) := hv.2.2.2.2.2.2.2.2.1

    simp only [over, overL, Nat.reduceAdd, h7, h8]
    have HB3 : Hid (Below w.heap.size w w3) := below_on HB2.out b3
    have HRA3 : Hid (RdR encQ w3 aoA (prS acs)) := HRA2.out.next goodQ b3
    have HRR3 : Hid (RdR encP w3 aoR (reS acs p)) := hr7
    have KP3 : Hid (Bk w.heap.size (pcq p) w3) := KP.out.later b3
    have HA3 : Hid (Acs w3 ao acs) := HA.out.next b3
    obtain ⟨tp, vo, ti, er, HU⟩ : ∃ tp vo ti er, Hid (usR acs = (tp, vo, ti, er)) := ⟨_, _, _, _, rfl⟩
    clear hv hr7 b3 HRA2 KP HA
    by_cases hbig : 3000 < acs.length
    · have e1 : prS acs = [] := if_pos hbig
      have e2 : reS acs p = [] := if_pos hbig
      have e3 : reE acs = 7 := if_pos hbig
      have e4 : (tp, vo, ti, er) = ((0, 0, 0, 7) : Int × Int × Int × Int) := HU.out.symm.trans (if_pos hbig)
      simp only [Prod.mk.injEq] at e4
      obtain ⟨rfl, rfl, rfl, rfl⟩ := e4
      simp only [e1, e2, e3, List.length_nil]
      have hbi : (3000 : Int) < (acs.length : Int) := by omega
      clear e1 e2 e3
      go_wp2_with (first
        | (go_at_call 7; refine (actions_any ao cap acs _ HA3.out HCP.out hbulk).mono ?_; rintro e w4 ⟨hb4, ao4, cap4, rfl, ha4, hl4⟩)
        | (go_at_call 9; refine (usage_any ao4 cap4 acs _ ha4 hla).mono ?_; rintro e w5 ⟨rfl, hb5⟩; rw [HU.out]))
      go_ret
      exact ⟨rfl, below_on HB3.out (below_on hb4 hb5)⟩
    · have hl : acs.length ≤ 3000 := by omega
      have e1 : prS acs = pairsR acs := if_neg hbig
      have e3 : reE acs = 0 := if_neg hbig
      have HUS : Hid (match usT 0 acs with | none => tp = 0 ∧ vo = 0 ∧ ti = 0 ∧ er = 8 | some t => tp = tipsC acs ∧ vo = volsR (shares acs) ∧ ti = t ∧ er = 0) := by
        have h := HU.out
        unfold usR at h
        rw [if_neg hbig] at h
        show (match usT 0 acs with | none => tp = 0 ∧ vo = 0 ∧ ti = 0 ∧ er = 8 | some t => tp = tipsC acs ∧ vo = volsR (shares acs) ∧ ti = t ∧ er = 0)
        cases hu : usT 0 acs with
        | none => rw [hu] at h; simp at h; simp only; omega
        | some t => rw [hu] at h; simp at h; exact ⟨h.1.symm, h.2.1.symm, h.2.2.1.symm, h.2.2.2.symm⟩
      have HRE : Hid (insL (moves acs [p]).marks = reS acs p) := by show _ = _; unfold reS; rw [if_neg hbig, moves_reach]
      have hbi : ¬ (3000 : Int) < (acs.length : Int) := by omega
      have hpf := pairs_few acs hl
      have hsf : (reS acs p).length ≤ 9000001 := by
        rw [← HRE.out, (insL_perm _).length_eq]
        have := (mvB_all acs [p] hl acs.length (Nat.le_refl _)).marks
        rw [List.take_length] at this
        simp only [List.length_cons, List.length_nil] at this
        omega
      simp only [e1, e3] at HRA3 ⊢
      clear e1 e3
      obtain ⟨S, hS⟩ : ∃ S, S = reS acs p := ⟨_, rfl⟩
      rw [← hS] at HRR3 HRE hsf ⊢
      obtain ⟨Q, hQ⟩ : ∃ Q, Q = pairsR acs := ⟨_, rfl⟩
      have HQ : Hid (Q = pairsR acs) := hQ
      rw [← hQ] at HRA3 hpf ⊢
      clear hS hQ
      go_wp2_with (first
        | (go_at_call 7; refine (actions_any ao cap acs _ HA3.out HCP.out hbulk).mono ?_; rintro e w4 ⟨hb4, ao4, cap4, rfl, ha4, hl4⟩)
        | (go_at_call 9; refine (usage_any ao4 cap4 acs _ ha4 hla).mono ?_; rintro e w5 ⟨rfl, hb5⟩; rw [HU.out])
        | (go_at_call 10; refine (pairsOf_any ao cap acs _ ((HA3.out.next hb4).next hb5) (fun ad e h => Nat.lt_of_lt_of_le (HAL.out ad e h) (Nat.le_trans HB3.out.size (Nat.le_trans hb4.size hb5.size))) hl).mono ?_; rintro e w6 ⟨hb6, aoX, cX, rfl, hrx⟩; rw [← HQ.out] at hrx ⊢))
      have hb36 : Below w3.heap.size w3 w6 := below_on (below_on hb4 hb5) hb6
      have HB6 : Hid (Below w.heap.size w w6) := below_on HB3.out hb36
      have HRA : Hid (RdR encQ w6 aoA Q) := HRA3.out.next goodQ hb36
      have HRB : Hid (RdR encQ w6 aoX Q) := hrx
      have HRR : Hid (RdR encP w6 aoR S) := HRR3.out.next goodP hb36
      have HKP6 : Hid (Bk w.heap.size (pcq p) w6) := KP3.out.later hb36
      have HA6 : Hid (Acs w6 ao acs) := HA3.out.next hb36
      have HAL6 : Hid (∀ ad, ao = some ad → acs ≠ [] → ad.block < w6.heap.size) := fun ad e h => Nat.lt_of_lt_of_le (HAL.out ad e h) HB6.out.size
      clear hb4 hb5 hb6 hb36 hrx ha4 hl4
      go_loopw [14] (fun q wr => ∃ i : Nat, i ≤ Q.length ∧ q = .int .i64 i ∧ Below w6.heap.size w6 wr) (fun i _ => Q.length - (intOf i).toNat)
      case atStart => exact ⟨0, Nat.zero_le _, rfl, Below.refl _ _⟩
      case round =>
        obtain ⟨i, hi, rfl, hbr⟩ := hrel
        have HBR : Hid (Below w6.heap.size w6 wr) := hbr
        clear hbr
        by_cases hlt : i < Q.length
        · have hii : (i : Int) < (Q.length : Int) := by omega
          obtain ⟨ga, oa, rfl, hca⟩ : ∃ ga oa, aoA = some ⟨ga, oa, none⟩ ∧ ∀ W1, Below wr.heap.size wr W1 → ∀ j, j < 7 → W1.cell? ⟨ga, oa + i * 7 + j, none⟩ = (encQ.enc (Q[i]'hlt))[j]? := by
            rcases HRA.out.next goodQ HBR.out with h | ⟨gp, op, e, hl, hc⟩
            · rw [h] at hlt; simp at hlt
            · exact ⟨gp, op, e, fun W1 hb j hj => (hb.cell (p := ⟨gp, _, none⟩) hl).trans (hc i hlt j hj)⟩
          obtain ⟨gb, ob, rfl, hcb⟩ : ∃ ga oa, aoX = some ⟨ga, oa, none⟩ ∧ ∀ W1, Below wr.heap.size wr W1 → ∀ j, j < 7 → W1.cell? ⟨ga, oa + i * 7 + j, none⟩ = (encQ.enc (Q[i]'hlt))[j]? := by
            rcases HRB.out.next goodQ HBR.out with h | ⟨gp, op, e, hl, hc⟩
            · rw [h] at hlt; simp at hlt
            · exact ⟨gp, op, e, fun W1 hb j hj => (hb.cell (p := ⟨gp, _, none⟩) hl).trans (hc i hlt j hj)⟩
          generalize Q[i]'hlt = x at *
          have HXA : Hid (∀ W1, Below wr.heap.size wr W1 → W1.cell? ⟨ga, oa + i * 7, none⟩ = (encQ.enc x)[0]? ∧ W1.cell? ⟨ga, oa + i * 7 + 1, none⟩ = (encQ.enc x)[1]? ∧ W1.cell? ⟨ga, oa + i * 7 + 2, none⟩ = (encQ.enc x)[2]? ∧ W1.cell? ⟨ga, oa + i * 7 + 3, none⟩ = (encQ.enc x)[3]? ∧ W1.cell? ⟨ga, oa + i * 7 + 4, none⟩ = (encQ.enc x)[4]? ∧ W1.cell? ⟨ga, oa + i * 7 + 5, none⟩ = (encQ.enc x)[5]? ∧ W1.cell? ⟨ga, oa + i * 7 + 6, none⟩ = (encQ.enc x)[6]?) := fun W1 hb => ⟨hca W1 hb 0 (by decide), hca W1 hb 1 (by decide), hca W1 hb 2 (by decide), hca W1 hb 3 (by decide), hca W1 hb 4 (by decide), hca W1 hb 5 (by decide), hca W1 hb 6 (by decide)⟩
          have HXB : Hid (∀ W1, Below wr.heap.size wr W1 → W1.cell? ⟨gb, ob + i * 7, none⟩ = (encQ.enc x)[0]? ∧ W1.cell? ⟨gb, ob + i * 7 + 1, none⟩ = (encQ.enc x)[1]? ∧ W1.cell? ⟨gb, ob + i * 7 + 2, none⟩ = (encQ.enc x)[2]? ∧ W1.cell? ⟨gb, ob + i * 7 + 3, none⟩ = (encQ.enc x)[3]? ∧ W1.cell? ⟨gb, ob + i * 7 + 4, none⟩ = (encQ.enc x)[4]? ∧ W1.cell? ⟨gb, ob + i * 7 + 5, none⟩ = (encQ.enc x)[5]? ∧ W1.cell? ⟨gb, ob + i * 7 + 6, none⟩ = (encQ.enc x)[6]?) := fun W1 hb => ⟨hcb W1 hb 0 (by decide), hcb W1 hb 1 (by decide), hcb W1 hb 2 (by decide), hcb W1 hb 3 (by decide), hcb W1 hb 4 (by decide), hcb W1 hb 5 (by decide), hcb W1 hb 6 (by decide)⟩
          have HE : Hid (∀ W1, (binOp .neq 39 (.agg #[.int .i64 x.1.1.1, .int .i64 x.1.1.2.1, .int .i64 x.1.1.2.2, .int .i64 x.1.2.1, .int .i64 x.1.2.2.1, .int .i64 x.1.2.2.2, .int .i64 x.2]) (.agg #[.int .i64 x.1.1.1, .int .i64 x.1.1.2.1, .int .i64 x.1.1.2.2, .int .i64 x.1.2.1, .int .i64 x.1.2.2.1, .int .i64 x.1.2.2.2, .int .i64 x.2])).run Try.prog W1 = .ok (.bool false) W1) := fun W1 => pr_same x W1
          clear hca hcb
          go_wp2_with fail
          refine region_inv [false, false, false, false, false, false, false, false, false, false, false, false, false, false, false, false, false, false, false, false, false, false, false, false, false, false, false, false, false, false, false, false, false, false, false, false, false, false, false, false, false, false, false, false, false, false, false, false, false, false, false, false, false, false, false, false, false, false, false, false, false, false, false, false, false, false, false, false, false, false, false, false, false, false, false, false, false, false, false, false, false, false, false, false, false, false, false, false, false, false, false, false, false, false, true, true, true, true, true, true, true, true, true, false, false, false, false, false, false, false, false, false, false, false, false, false, false, false, false, false, false, false, false, false, false, false, false, false, false, false, false, false, false, false, false, false, false, false, false, false, false, false, false, false, false, false, false, false, false, false, false, false, false, false, false, false, false, false, false, false, false, false, false, false, false, false, false, false, false, false]
            [(94, [], none), (95, [], none), (96, [94, 95], none), (97, [96], none), (98, [], none), (99, [], none), (100, [98, 99], none), (101, [100], none), (102, [97, 101], none)]
            (fpA ga oa Q.length cA i gb ob cX x) (by kernel_rfl) (by kernel_rfl) (fpA_mono ga oa Q.length cA i gb ob cX x) ?_ ?_
          · refine ⟨?_, ?_, ?_, ?_, ?_, ?_, ?_, ?_, ?_, trivial⟩
            · intro f w1 hb _ K hK
              simp only [over, overL, Nat.reduceAdd]
              go_simp
              exact hK _ _ ⟨_, rfl, by simp only [over, overL, Nat.reduceAdd]; rfl, Below.refl _ _⟩
            · intro f w1 hb _ K hK
              simp only [over, overL, Nat.reduceAdd]
              go_simp
              exact hK _ _ ⟨_, rfl, by simp only [over, overL, Nat.reduceAdd]; rfl, Below.refl _ _⟩
            · intro f w1 hb ⟨h94, h95, _⟩ K hK
              replace h94 : f 94 = _ := h94
              replace h95 : f 95 = _ := h95
              simp only [over, overL, Nat.reduceAdd, h94, h95]
              go_simp
              exact hK _ _ ⟨_, rfl, by simp only [over, overL, Nat.reduceAdd, h94, h95]; rfl, Below.refl _ _⟩
            · intro f w1 hb ⟨h96, _⟩ K hK
              replace h96 : f 96 = _ := h96
              obtain ⟨q0, q1, q2, q3, q4, q5, q6⟩ := HXA.out w1 hb
              simp only [over, overL, Nat.reduceAdd, h96]
              go_simp
              exact hK _ _ ⟨_, rfl, by simp only [over, overL, Nat.reduceAdd, h96]; rfl, Below.refl _ _⟩
            · intro f w1 hb _ K hK
              simp only [over, overL, Nat.reduceAdd]
              go_simp
              exact hK _ _ ⟨_, rfl, by simp only [over, overL, Nat.reduceAdd]; rfl, Below.refl _ _⟩
            · intro f w1 hb _ K hK
              simp only [over, overL, Nat.reduceAdd]
              go_simp
              exact hK _ _ ⟨_, rfl, by simp only [over, overL, Nat.reduceAdd]; rfl, Below.refl _ _⟩
            · intro f w1 hb ⟨h98, h99, _⟩ K hK
              replace h98 : f 98 = _ := h98
              replace h99 : f 99 = _ := h99
              simp only [over, overL, Nat.reduceAdd, h98, h99]
              go_simp
              exact hK _ _ ⟨_, rfl, by simp only [over, overL, Nat.reduceAdd, h98, h99]; rfl, Below.refl _ _⟩
            · intro f w1 hb ⟨h100, _⟩ K hK
              replace h100 : f 100 = _ := h100
              obtain ⟨q0, q1, q2, q3, q4, q5, q6⟩ := HXB.out w1 hb
              simp only [over, overL, Nat.reduceAdd, h100]
              go_simp
              exact hK _ _ ⟨_, rfl, by simp only [over, overL, Nat.reduceAdd, h100]; rfl, Below.refl _ _⟩
            · intro f w1 hb ⟨h97, h101, _⟩ K hK
              replace h97 : f 97 = _ := h97
              replace h101 : f 101 = _ := h101
              have q0 := HE.out w1
              simp only [over, overL, Nat.reduceAdd, h97, h101]
              refine wp_binopV rfl (by go_simp) q0 ?_
              exact hK _ _ ⟨_, rfl, by simp only [over, overL, Nat.reduceAdd, h97, h101], Below.refl _ _⟩
          · intro f7 w7 b7 hv7
            have hlast : f7 102 = .bool false := hv7.2.2.2.2.2.2.2.2.1
            simp only [over, overL, Nat.reduceAdd, hlast]
            clear hv7
            go_wp2
            go_roundw
            case rel => exact ⟨i + 1, by omega, by go_num, below_on HBR.out b7⟩
            case measure => simp [intOf]; omega
        · have hii : ¬ (i : Int) < (Q.length : Int) := by omega
          have HPB : Hid (Bk w.heap.size (pcq p) wr) := HKP6.out.later HBR.out
          have k0 := HPB.out.c 0 rfl
          have k1 := HPB.out.c 1 rfl
          have k2 := HPB.out.c 2 rfl
          go_wp2_with (go_at_call 11; refine (reachOf_any ao cap acs p _ (HA6.out.next HBR.out) (fun ad e h => Nat.lt_of_lt_of_le (HAL6.out ad e h) HBR.out.size) hl).mono ?_; rintro e w7 ⟨hb7, aoY, cY, rfl, hry⟩; rw [HRE.out] at hry ⊢)
          have HB7 : Hid (Below w.heap.size w w7) := below_on HB6.out (below_on HBR.out hb7)
          have HRA2 : Hid (RdR encP w7 aoR S) := (HRR.out.next goodP HBR.out).next goodP hb7
          have HRB2 : Hid (RdR encP w7 aoY S) := hry
          have HA7 : Hid (Acs w7 ao acs) := (HA6.out.next HBR.out).next hb7
          have HAL7 : Hid (∀ ad, ao = some ad → acs ≠ [] → ad.block < w7.heap.size) := fun ad e h => Nat.lt_of_lt_of_le (HAL6.out ad e h) (Nat.le_trans HBR.out.size hb7.size)
          clear hry hb7
          obtain ⟨w6, rfl⟩ : ∃ w6, w6 = w7 := ⟨w7, rfl⟩
          have HRA : Hid (RdR encP w6 aoR S) := HRA2.out
          have HRB : Hid (RdR encP w6 aoY S) := HRB2.out
          have HA6 : Hid (Acs w6 ao acs) := HA7.out
          have HAL6 : Hid (∀ ad, ao = some ad → acs ≠ [] → ad.block < w6.heap.size) := HAL7.out
          have HB6 : Hid (Below w.heap.size w w6) := HB7.out
          go_loopw [16] (fun q wr => ∃ i : Nat, i ≤ S.length ∧ q = .int .i64 i ∧ Below w6.heap.size w6 wr) (fun i _ => S.length - (intOf i).toNat)
          case atStart => exact ⟨0, Nat.zero_le _, rfl, Below.refl _ _⟩
          case round =>
            obtain ⟨i, hi, rfl, hbr⟩ := hrel
            have HBR : Hid (Below w6.heap.size w6 wr) := hbr
            clear hbr
            by_cases hlt : i < S.length
            · have hii : (i : Int) < (S.length : Int) := by omega
              obtain ⟨ga, oa, rfl, hca⟩ : ∃ ga oa, aoR = some ⟨ga, oa, none⟩ ∧ ∀ W1, Below wr.heap.size wr W1 → ∀ j, j < 3 → W1.cell? ⟨ga, oa + i * 3 + j, none⟩ = (encP.enc (S[i]'hlt))[j]? := by
                rcases HRA.out.next goodP HBR.out with h | ⟨gp, op, e, hl, hc⟩
                · rw [h] at hlt; simp at hlt
                · exact ⟨gp, op, e, fun W1 hb j hj => (hb.cell (p := ⟨gp, _, none⟩) hl).trans (hc i hlt j hj)⟩
              obtain ⟨gb, ob, rfl, hcb⟩ : ∃ ga oa, aoY = some ⟨ga, oa, none⟩ ∧ ∀ W1, Below wr.heap.size wr W1 → ∀ j, j < 3 → W1.cell? ⟨ga, oa + i * 3 + j, none⟩ = (encP.enc (S[i]'hlt))[j]? := by
                rcases HRB.out.next goodP HBR.out with h | ⟨gp, op, e, hl, hc⟩
                · rw [h] at hlt; simp at hlt
                · exact ⟨gp, op, e, fun W1 hb j hj => (hb.cell (p := ⟨gp, _, none⟩) hl).trans (hc i hlt j hj)⟩
              generalize S[i]'hlt = x at *
              have HXA : Hid (∀ W1, Below wr.heap.size wr W1 → W1.cell? ⟨ga, oa + i * 3, none⟩ = (encP.enc x)[0]? ∧ W1.cell? ⟨ga, oa + i * 3 + 1, none⟩ = (encP.enc x)[1]? ∧ W1.cell? ⟨ga, oa + i * 3 + 2, none⟩ = (encP.enc x)[2]?) := fun W1 hb => ⟨hca W1 hb 0 (by decide), hca W1 hb 1 (by decide), hca W1 hb 2 (by decide)⟩
              have HXB : Hid (∀ W1, Below wr.heap.size wr W1 → W1.cell? ⟨gb, ob + i * 3, none⟩ = (encP.enc x)[0]? ∧ W1.cell? ⟨gb, ob + i * 3 + 1, none⟩ = (encP.enc x)[1]? ∧ W1.cell? ⟨gb, ob + i * 3 + 2, none⟩ = (encP.enc x)[2]?) := fun W1 hb => ⟨hcb W1 hb 0 (by decide), hcb W1 hb 1 (by decide), hcb W1 hb 2 (by decide)⟩
              have HE : Hid (∀ W1, (binOp .neq 26 (.agg #[.int .i64 x.1, .int .i64 x.2.1, .int .i64 x.2.2]) (.agg #[.int .i64 x.1, .int .i64 x.2.1, .int .i64 x.2.2])).run Try.prog W1 = .ok (.bool false) W1) := fun W1 => pl_same2 x W1
              clear hca hcb
              go_wp2_with fail
              refine region_inv [false, false, false, false, false, false, false, false, false, false, false, false, false, false, false, false, false, false, false, false, false, false, false, false, false, false, false, false, false, false, false, false, false, false, false, false, false, false, false, false, false, false, false, false, false, false, false, false, false, false, false, false, false, false, false, false, false, false, false, false, false, false, false, false, false, false, false, false, false, false, false, false, false, false, false, false, false, false, false, false, false, false, false, false, false, false, false, false, false, false, false, false, false, false, false, false, false, false, false, false, false, false, false, false, false, false, false, false, false, false, false, false, false, false, false, false, false, false, false, false, false, true, true, true, true, true, true, true, true, true, false, false, false, false, false, false, false, false, false, false, false, false, false, false, false, false, false, false, false, false, false, false, false, false, false, false, false, false, false, false, false, false, false, false, false, false, false, false, false, false]
                [(121, [], none), (122, [], none), (123, [121, 122], none), (124, [123], none), (125, [], none), (126, [], none), (127, [125, 126], none), (128, [127], none), (129, [124, 128], none)]
                (fpB ga oa S.length cR i gb ob cY x) (by kernel_rfl) (by kernel_rfl) (fpB_mono ga oa S.length cR i gb ob cY x) ?_ ?_
              · refine ⟨?_, ?_, ?_, ?_, ?_, ?_, ?_, ?_, ?_, trivial⟩
                · intro f w1 hb _ K hK
                  simp only [over, overL, Nat.reduceAdd]
                  go_simp
                  exact hK _ _ ⟨_, rfl, by simp only [over, overL, Nat.reduceAdd]; rfl, Below.refl _ _⟩
                · intro f w1 hb _ K hK
                  simp only [over, overL, Nat.reduceAdd]
                  go_simp
                  exact hK _ _ ⟨_, rfl, by simp only [over, overL, Nat.reduceAdd]; rfl, Below.refl _ _⟩
                · intro f w1 hb ⟨h121, h122, _⟩ K hK
                  replace h121 : f 121 = _ := h121
                  replace h122 : f 122 = _ := h122
                  simp only [over, overL, Nat.reduceAdd, h121, h122]
                  go_simp
                  exact hK _ _ ⟨_, rfl, by simp only [over, overL, Nat.reduceAdd, h121, h122]; rfl, Below.refl _ _⟩
                · intro f w1 hb ⟨h123, _⟩ K hK
                  replace h123 : f 123 = _ := h123
                  obtain ⟨q0, q1, q2⟩ := HXA.out w1 hb
                  simp only [over, overL, Nat.reduceAdd, h123]
                  go_simp
                  exact hK _ _ ⟨_, rfl, by simp only [over, overL, Nat.reduceAdd, h123]; rfl, Below.refl _ _⟩
                · intro f w1 hb _ K hK
                  simp only [over, overL, Nat.reduceAdd]
                  go_simp
                  exact hK _ _ ⟨_, rfl, by simp only [over, overL, Nat.reduceAdd]; rfl, Below.refl _ _⟩
                · intro f w1 hb _ K hK
                  simp only [over, overL, Nat.reduceAdd]
                  go_simp
                  exact hK _ _ ⟨_, rfl, by simp only [over, overL, Nat.reduceAdd]; rfl, Below.refl _ _⟩
                · intro f w1 hb ⟨h125, h126, _⟩ K hK
                  replace h125 : f 125 = _ := h125
                  replace h126 : f 126 = _ := h126
                  simp only [over, overL, Nat.reduceAdd, h125, h126]
                  go_simp
                  exact hK _ _ ⟨_, rfl, by simp only [over, overL, Nat.reduceAdd, h125, h126]; rfl, Below.refl _ _⟩
                · intro f w1 hb ⟨h127, _⟩ K hK
                  replace h127 : f 127 = _ := h127
                  obtain ⟨q0, q1, q2⟩ := HXB.out w1 hb
                  simp only [over, overL, Nat.reduceAdd, h127]
                  go_simp
                  exact hK _ _ ⟨_, rfl, by simp only [over, overL, Nat.reduceAdd, h127]; rfl, Below.refl _ _⟩
                · intro f w1 hb ⟨h124, h128, _⟩ K hK
                  replace h124 : f 124 = _ := h124
                  replace h128 : f 128 = _ := h128
                  have q0 := HE.out w1
                  simp only [over, overL, Nat.reduceAdd, h124, h128]
                  refine wp_binopV rfl (by go_simp) q0 ?_
                  exact hK _ _ ⟨_, rfl, by simp only [over, overL, Nat.reduceAdd, h124, h128], Below.refl _ _⟩
              · intro f7 w7 b7 hv7
                have hlast : f7 129 = .bool false := hv7.2.2.2.2.2.2.2.2.1
                simp only [over, overL, Nat.reduceAdd, hlast]
                clear hv7
                go_wp2
                go_roundw
                case rel => exact ⟨i + 1, by omega, by go_num, below_on HBR.out b7⟩
                case measure => simp [intOf]; omega
            · have hii : ¬ (i : Int) < (S.length : Int) := by omega
              cases hus : usT 0 acs with
              | none =>
                have HU0 : Hid (uoR acs = (0, 0, 0, false)) := by show _ = _; unfold uoR; rw [hus]
                have HUS0 := HUS.out
                rw [hus] at HUS0
                simp only at HUS0
                obtain ⟨rfl, rfl, rfl, rfl⟩ := HUS0
                go_wp2_with (go_at_call 12; refine (usageOf_any ao cap acs _ (HA6.out.next HBR.out) (fun ad e h => Nat.lt_of_lt_of_le (HAL6.out ad e h) HBR.out.size) hl).mono ?_; rintro e w8 ⟨rfl, hb8⟩; rw [HU0.out])
                go_ret
                exact ⟨rfl, below_on HB6.out (below_on HBR.out hb8)⟩
              | some t =>
                have HU0 : Hid (uoR acs = (tipsC acs, volsR (shares acs), t, true)) := by show _ = _; unfold uoR; rw [hus]
                have HUS0 := HUS.out
                rw [hus] at HUS0
                simp only at HUS0
                obtain ⟨rfl, rfl, rfl, rfl⟩ := HUS0
                go_wp2_with (go_at_call 12; refine (usageOf_any ao cap acs _ (HA6.out.next HBR.out) (fun ad e h => Nat.lt_of_lt_of_le (HAL6.out ad e h) HBR.out.size) hl).mono ?_; rintro e w8 ⟨rfl, hb8⟩; rw [HU0.out])
                go_ret
                exact ⟨by simp, below_on HB6.out (below_on HBR.out hb8)⟩
end Go.Proofs.Ytgbnjgenopdmfaa
