import Derived.Test.YtgbnjgenopdmfaaGreatGr

/- What the law FlowLevels says, plainly. -/
namespace Go.Proofs.YtgbnjgenopdmfaaGreat
open Go.RowKit F
theorem may_frefs {l : List Sit} {t : Sm} (h : May l t.st) : (∀ x ∈ t.wl, F.fref x.2.2.2 = 0) ∧ F.fref t.held = 0 := by
  refine ⟨fun x hx => (mayHold_iff.1 (h.wells (x.1, x.2.2.2) (List.mem_map.2 ⟨x, hx, rfl⟩)).2.2).1, ?_⟩
  cases ht : t.st.tip with
  | true => exact (mayHold_iff.1 (tip_parts h ht).2.2.1).1
  | false =>
    have := h.take
    unfold mayTake at this
    rw [if_neg (by rw [ht]; decide)] at this
    simp only [Bool.and_eq_true, decide_eq_true_eq] at this
    have e : t.held = [] := this.2.1
    rw [e]
    rfl
theorem may_smlen {l : List Sit} {t : Sm} (hd : dchk l = 0) (h : May l t.st) : SmLen t ∧ t.wl.length ≤ 4608 := by
  have h1 : t.wl.length ≤ 4608 := by have := wells_few hd h; rw [← whp_length]; exact this
  have h2 : t.touched.length ≤ 100 := (may_lens h).2.1
  exact ⟨⟨by omega, by omega⟩, h1⟩
def pkR (n m : Int) : Int := if n < 0 then (-(n + 1)).tmod m else n.tmod m
theorem pkR_in (n m : Int) (hm : 0 < m) : 0 ≤ pkR n m ∧ pkR n m < m := by
  unfold pkR
  split
  · exact ⟨Int.tmod_nonneg _ (by omega), Int.tmod_lt_of_pos _ hm⟩
  · exact ⟨Int.tmod_nonneg _ (by omega), Int.tmod_lt_of_pos _ hm⟩
theorem wrap_inZ {x : Int} (h : -9223372036854775808 ≤ x) (h2 : x ≤ 9223372036854775807) : IntKind.i64.wrap x = x := by
  rw [IntWalk.i64_left]; exact IntWalk.wrap64_in _ ⟨h, h2⟩
theorem picked_any (n m : Int) (w : World) (h0 : -9223372036854775808 ≤ n) (h1 : n ≤ 9223372036854775807) (hm : 0 < m) (hm2 : m ≤ 1000000) :
    Calls Tryz.prog 20 #[.int .i64 n, .int .i64 m] w fun e w' => e = .returned (.int .i64 (pkR n m)) ∧ w' = w := by
  have hne : m ≠ 0 := by omega
  by_cases hn : n < 0
  · have hw : IntKind.i64.wrap (n + 1) = n + 1 := wrap_inZ (by omega) (by omega)
    have HK : Hid (0 ≤ (-(n + 1)).tmod m ∧ (-(n + 1)).tmod m < m) := ⟨Int.tmod_nonneg _ (by omega), Int.tmod_lt_of_pos _ hm⟩
    have HP : Hid (pkR n m = (-(n + 1)).tmod m) := if_pos hn
    go_enter Tryz.func20, Tryz.ntmps20
    go_wp2
    go_ret
    refine ⟨ret_int ?_, rfl⟩
    rw [HP.out, Int.neg_tmod]
  · have HK : Hid (0 ≤ n.tmod m ∧ n.tmod m < m) := ⟨Int.tmod_nonneg _ (by omega), Int.tmod_lt_of_pos _ hm⟩
    have HP : Hid (pkR n m = n.tmod m) := if_neg hn
    go_enter Tryz.func20, Tryz.ntmps20
    go_wp2
    go_ret
    refine ⟨ret_int ?_, rfl⟩
    rw [HP.out, Int.tmod_eq_emod_of_nonneg (by omega)]
def frL (ord : Int) (r : List Nat) : Nat := (pkR ord r.length).toNat
def grL (ord : Int) (g : List (List Nat)) : List (List Nat) := g.map fun r => rotL (frL ord r) r
theorem frL_lt {ord : Int} {r : List Nat} (h : 0 < r.length) : frL ord r < r.length ∧ ((frL ord r : Nat) : Int) = pkR ord r.length := by
  have := pkR_in ord r.length (by omega)
  unfold frL
  omega
theorem rotL_len (f : Nat) (r : List Nat) : (rotL f r).length = r.length := by
  unfold rotL
  rw [List.length_append, List.length_drop, List.length_take]
  omega
theorem rot_at {f : Nat} {r : List Nat} (hf : f < r.length) {k : Nat} (hk : k < r.length) : (rotL f r)[k]'(by rw [rotL_len]; exact hk) = r[(f + k) % r.length]'(Nat.mod_lt _ (by omega)) := by
  unfold rotL
  by_cases h : f + k < r.length
  · rw [List.getElem_append_left (by rw [List.length_drop]; omega), List.getElem_drop]
    congr 1
    exact (Nat.mod_eq_of_lt h).symm
  · rw [List.getElem_append_right (by rw [List.length_drop]; omega), List.getElem_take]
    congr 1
    rw [List.length_drop, Nat.mod_eq_sub_mod (by omega), Nat.mod_eq_of_lt (by omega)]
    omega
def visL (gr : List (List Nat)) (i k : Nat) : List Nat := (gr.take i).flatten ++ ((gr[i]?).getD []).take k
theorem vis_zero (gr : List (List Nat)) (i : Nat) : visL gr i 0 = (gr.take i).flatten := by simp [visL]
theorem vis_row {gr : List (List Nat)} {i : Nat} (h : i < gr.length) : visL gr i (gr[i]'h).length = visL gr (i + 1) 0 := by
  rw [vis_zero, List.take_succ_eq_append_getElem h, List.flatten_append, visL, List.getElem?_eq_getElem h]
  simp
theorem vis_next {gr : List (List Nat)} {i k : Nat} (h : i < gr.length) (hk : k < (gr[i]'h).length) : visL gr i (k + 1) = visL gr i k ++ [(gr[i]'h)[k]'hk] := by
  unfold visL
  rw [List.getElem?_eq_getElem h]
  simp only [Option.getD_some]
  rw [List.take_succ_eq_append_getElem hk, List.append_assoc]
theorem vis_pre {gr : List (List Nat)} {i k : Nat} (h : i < gr.length) : visL gr i k <+: gr.flatten := by
  have e0 : gr = gr.take i ++ (gr[i]'h) :: gr.drop (i + 1) := by rw [← List.drop_eq_getElem_cons h, List.take_append_drop]
  have e : gr.flatten = (gr.take i).flatten ++ ((gr[i]'h) ++ (gr.drop (i + 1)).flatten) := (congrArg List.flatten e0).trans (by rw [List.flatten_append, List.flatten_cons])
  unfold visL
  rw [List.getElem?_eq_getElem h, e]
  simp only [Option.getD_some]
  refine List.prefix_append_right_inj _ |>.2 ?_
  exact (List.take_prefix k _).trans (List.prefix_append _ _)
theorem vis_end (gr : List (List Nat)) : visL gr gr.length 0 = gr.flatten := by rw [vis_zero, List.take_length]
theorem vis_fresh {gr : List (List Nat)} {n : Nat} (hp : gr.flatten.Perm (List.range n)) {i k : Nat} (h : i < gr.length) (hk : k < (gr[i]'h).length) : (gr[i]'h)[k]'hk < n ∧ (gr[i]'h)[k]'hk ∉ visL gr i k ∧ (visL gr i k).length < n := by
  have h1 := vis_pre (k := k + 1) h
  rw [vis_next h hk] at h1
  have hnd : gr.flatten.Nodup := hp.nodup_iff.2 List.nodup_range
  have hnd2 := h1.sublist.nodup hnd
  have hm : (gr[i]'h)[k]'hk ∈ gr.flatten := h1.subset (by simp)
  have hl := h1.length_le
  rw [hp.length_eq, List.length_range, List.length_append] at hl
  refine ⟨by have := hp.mem_iff.1 hm; simpa using this, ?_, by simp at hl; omega⟩
  have := List.nodup_append.1 hnd2
  intro hv
  exact this.2.2 _ hv _ (by simp) rfl
/-- Which were seen. -/
def seenL (n : Nat) (done : List Nat) : List Value := (List.range n).map fun j => .bool (decide (j ∈ done))
theorem seen_at {n x : Nat} (done : List Nat) (h : x < n) : (seenL n done)[x]? = some (.bool (decide (x ∈ done))) := by
  unfold seenL
  rw [List.getElem?_map, List.getElem?_range h]
  rfl
theorem seen_set (n x : Nat) (done : List Nat) : (seenL n done).set x (.bool true) = seenL n (done ++ [x]) := by
  apply List.ext_getElem?
  intro j
  rw [List.getElem?_set]
  by_cases hj : j < n
  · rw [seen_at _ hj, seen_at _ hj]
    by_cases e : x = j
    · subst e
      rw [if_pos rfl, if_pos (by simp [seenL]; exact hj)]
      simp
    · rw [if_neg e]
      simp only [List.mem_append, List.mem_singleton]
      congr 2
      simp only [decide_eq_decide]
      exact ⟨fun h => .inl h, fun h => h.resolve_right (fun h => e h.symm)⟩
  · have e1 : (seenL n done)[j]? = none := by simp [seenL]; omega
    have e2 : (seenL n (done ++ [x]))[j]? = none := by simp [seenL]; omega
    rw [e1, e2]
    split
    · rename_i e
      subst e
      rw [if_neg (by simp [seenL]; omega)]
    · rfl
theorem seen_none (n : Nat) : seenL n [] = List.replicate n (.bool false) := by
  unfold seenL
  apply List.ext_getElem (by simp)
  intro i h1 h2
  simp
/-- A row of the call's own, as a block. -/
theorem bk_of_row {w : World} {base e g n cap : Nat} {xs : List Value} (h : w.ownsRow base e 1 (.slice (some ⟨g, 0, none⟩) n cap) n xs) : Bk g xs w := by
  rcases h.2 with ⟨h1, _⟩ | ⟨g', cap', cur, e1, _, h3, h4, _, h6, h7⟩
  · cases h1
  · injection e1 with e1
    injection e1 with e1
    injection e1 with e1
    subst e1
    refine ⟨(Array.getElem?_eq_some_iff.1 h3).1, fun k v hv => ?_⟩
    have hv2 : cur[k]? = some v := by
      rw [← h7, List.getElem?_take] at hv
      split at hv
      · simpa using hv
      · cases hv
    constructor
    · unfold World.cell?
      simp only [h3]
      simpa using hv2
    · unfold World.frozen?
      simp only [h3]
      simp
theorem runO_may {l : List Sit} (hd : dchk l = 0) : ∀ (r : List Acn) (s t : Sta), May l s → runO l r s = some t → May l t
  | [], s, t, h, e => by injection e with e; rw [← e]; exact h
  | a :: r, s, t, h, e => by
    unfold runO at e
    cases h1 : stp l a s with
    | none => rw [h1] at e; cases e
    | some u =>
      rw [h1] at e
      have h2 : (doA l s a).2 = 0 ∧ (doA l s a).1 = u := by
        unfold stp at h1
        split at h1
        · rename_i h0
          injection h1 with h1
          exact ⟨h0, h1⟩
        · cases h1
      have h3 := (left_do hd h h2.1).may
      rw [h2.2] at h3
      exact runO_may hd r u t h3 e
/-- What the other order of the levels comes to. -/
theorem other_same {l : List Sit} {acs : List Acn} (ord : Int) (h0 : (runR l acs).2.2 = 0) : dchk l = 0 ∧ May l (runR l acs).1 ∧ (runR l ((grL ord (levR acs)).flatten.map (acAt acs))).2.2 = 0 ∧ (runR l ((grL ord (levR acs)).flatten.map (acAt acs))).1 = (runR l acs).1 := by
  have hd : dchk l = 0 := by
    refine Decidable.by_contra fun hn => ?_
    unfold runR at h0
    rw [if_neg hn] at h0
    exact hn h0
  have e1 : runR l acs = runA l sta0 0 acs := if_pos hd
  have e2 : ∀ r, runR l r = runA l sta0 0 r := fun r => if_pos hd
  rw [e1] at h0 ⊢
  rw [e2]
  have h1 := runA_some acs sta0 0 h0
  have hR : Rising sta0.wells := List.Pairwise.nil
  have h2 := levels_same l (rot_part (lvs_inv acs).1 (frL ord)) hR
  rw [h1] at h2
  have h3 := runA_of 0 h2
  exact ⟨hd, runO_may hd acs sta0 _ (may_sta0 l) h1, h3.1, h3.2⟩
theorem other_perm (ord : Int) (acs : List Acn) : (grL ord (levR acs)).flatten.Perm (List.range acs.length) := by
  have := (rot_part (lvs_inv acs).1 (frL ord)).perm
  rwa [lvs_length] at this
theorem lev_ne {acs : List Acn} {i : Nat} (h : i < (levR acs).length) : 0 < ((levR acs)[i]'h).length := by
  have := ((lvs_inv acs).1.each i h).1
  exact List.length_pos_iff.2 this
def acsC : List Acn := [⟨6, (0, 0, 0), ⟨#[]⟩, 0, 0, 0⟩, ⟨14, (0, 0, 0), ⟨#[]⟩, 0, 0, 0⟩]
theorem levC : levR acsC = [[0, 1]] := by decide
end Go.Proofs.YtgbnjgenopdmfaaGreat

/- The law FlowLevels walked. -/
namespace Go.Proofs.YtgbnjgenopdmfaaGreat
open Go.RowKit Go.Maps
theorem wp_binopZ {P : Program} {o : Oper} {a : Act} {w : World} {K : Act → World → Prop} {Q : Exit → Act → World → Prop} {op : BinOp} {t rt : TypeId} {x y : Operand} {v : Value} (ho : o.op = .binOp op t x y rt) (hg : (eqGuard op t x y (a.eval x) (a.eval y)).run P w = .ok () w) (hr : (binOp op t (a.eval x) (a.eval y)).run P w = .ok v w) (hK : K (a.put o.dst v) w) : o.wp P a w K Q := by
  unfold Oper.wp
  simp [execOp, ho, hg, hr, Result.andThen]
  exact hK
theorem infoA : (Tryz.prog.info? 55).map (fun i => (i.zero, i.size, i.bytes)) = some (some (.agg #[.int .i64 0, .int .i64 0, .int .i64 0, .int .i64 0, .string ⟨#[]⟩, .int .i64 0, .int .i64 0, .int .i64 0]), 8, 72) := by kernel_rfl
theorem infoB : (Tryz.prog.info? 4).map (fun i => (i.zero, i.size, i.bytes)) = some (some (.bool false), 1, 1) := by kernel_rfl
theorem add_smallZ (a b : Nat) (h : a + b ≤ 1000000) (W : World) : (binOp .add 3 (.int .i64 (a : Int)) (.int .i64 (b : Int))).run Tryz.prog W = .ok (.int .i64 ((a + b : Nat) : Int)) W := by
  go_simp
  rw [IntKind.wrap_i64]
  omega
theorem rem_smallZ (a b : Nat) (h : a ≤ 1000000) (hb : 0 < b) (hb2 : b ≤ 1000000) (W : World) : (binOp .rem 3 (.int .i64 (a : Int)) (.int .i64 (b : Int))).run Tryz.prog W = .ok (.int .i64 ((a % b : Nat) : Int)) W := by
  have hne : (b : Int) ≠ 0 := by omega
  have e1 : (a : Int).tmod (b : Int) = ((a % b : Nat) : Int) := by rw [Int.tmod_eq_emod_of_nonneg (by omega)]; rfl
  have hlt := Nat.mod_lt a hb
  have hle := Nat.mod_le a b
  go_simp
  first | done | (rw [IntKind.wrap_i64]; omega) | omega
set_option linter.unusedVariables false in
def flV (gb nv cv i f0 k m ga oa cR x ix : Nat) (d : Nat) (v : Value) (_ : World) : Prop :=
  match d with
  | 77 => v = .slice (some ⟨gb, 0, none⟩) nv cv
  | 78 => v = .int .i64 i
  | 79 => v = .pointer (some ⟨gb, i, none⟩)
  | 80 => v = .slice (some ⟨ga, oa, none⟩) m cR
  | 81 => v = .int .i64 (f0 : Nat)
  | 82 => v = .int .i64 (k : Nat)
  | 83 => v = .int .i64 ((f0 + k : Nat) : Int)
  | 84 => v = .int .i64 (m : Nat)
  | 85 => v = .int .i64 (ix : Nat)
  | 86 => v = .pointer (some ⟨ga, oa + ix, none⟩)
  | 87 => v = .int .i64 (x : Nat)
  | _ => True
set_option linter.unusedVariables false in
theorem flV_mono (gb nv cv i f0 k m ga oa cR x ix : Nat) (d : Nat) (v : Value) (w w' : World) (h : flV gb nv cv i f0 k m ga oa cR x ix d v w) (_ : Below w.heap.size w w') : flV gb nv cv i f0 k m ga oa cR x ix d v w' := h
theorem acsC_in (x : World) : Acs (x.alloc (.cells #[.int .i64 6, .int .i64 0, .int .i64 0, .int .i64 0, .string ⟨#[]⟩, .int .i64 0, .int .i64 0, .int .i64 0, .int .i64 14, .int .i64 0, .int .i64 0, .int .i64 0, .string ⟨#[]⟩, .int .i64 0, .int .i64 0, .int .i64 0] 55)) (some ⟨x.heap.size, 0, none⟩) acsC := by
  refine ⟨.inr ⟨x.heap.size, 0, rfl, by simp, ?_⟩, ?_⟩
  · intro k hk j hj
    have h := (Bk.new x [.int .i64 6, .int .i64 0, .int .i64 0, .int .i64 0, .string ⟨#[]⟩, .int .i64 0, .int .i64 0, .int .i64 0, .int .i64 14, .int .i64 0, .int .i64 0, .int .i64 0, .string ⟨#[]⟩, .int .i64 0, .int .i64 0, .int .i64 0] 55 x.heap.size rfl)
    have hk3 : k < 2 := hk
    rcases (show k = 0 ∨ k = 1 by omega) with rfl | rfl <;> rcases (show j = 0 ∨ j = 1 ∨ j = 2 ∨ j = 3 ∨ j = 4 ∨ j = 5 ∨ j = 6 ∨ j = 7 by simp at hj; omega) with rfl | rfl | rfl | rfl | rfl | rfl | rfl | rfl <;> exact h.c _ rfl
  · intro a ha
    simp [acsC] at ha
    rcases ha with rfl | rfl <;> exact ⟨Nat.zero_le _, by decide⟩
theorem levelC (x : World) (B : Nat) (hA : Acs x (some ⟨B, 0, none⟩) acsC) : Calls Tryz.prog 9 #[.slice (some ⟨B, 0, none⟩) 2 2] x fun e w' => Below x.heap.size x w' ∧ ∃ gb cp aoR cR, e = .returned (.tuple #[.slice (some ⟨gb, 0, none⟩) 1 cp, .int .i64 0]) ∧ w'.cell? ⟨gb, 0, none⟩ = some (.slice aoR 2 cR) := by
  refine Calls.mono (level_any (some ⟨B, 0, none⟩) 2 acsC x hA (by decide) (fun a ha => by simp [acsC] at ha; rcases ha with rfl | rfl <;> exact ⟨⟨by decide, by decide⟩, ⟨by decide, by decide⟩, ⟨by decide, by decide⟩⟩)) ?_
  rintro e w' ⟨hb, ⟨h, _⟩ | ⟨_, v, vs, rfl, L⟩⟩
  · exact absurd h (by decide)
  · rw [levC] at L
    have hl : vs.length = 1 := L.len
    obtain ⟨gb, cp, rfl, _, _⟩ := own_some L.own (by intro e; rw [e] at hl; simp at hl)
    have h1 := L.row 0 (by omega) (by simp)
    obtain ⟨ao, cap, e1⟩ := h1.shape
    have h2 := (L.own.cellAt goodL (k := 0) (by omega) (j := 0) (by decide)).1
    have e3 : encL.enc (vs[0]'(by omega)) = [.slice ao 2 cap] := by rw [show encL.enc (vs[0]'(by omega)) = [slv (vs[0]'(by omega))] from rfl, e1]; rfl
    rw [e3] at h2
    rw [hl]
    exact ⟨hb, gb, cp, ao, cap, rfl, h2⟩
theorem acs_other {w : World} {ao : Option Addr} {acs : List Acn} {done : List Nat} {aoO : Option Addr} (h : Acs w ao acs) (hd : ∀ x ∈ done, x < acs.length) (hr : RdR encA w aoO (done.map (acAt acs))) : Acs w aoO (done.map (acAt acs)) := by
  refine ⟨hr, fun a ha => ?_⟩
  obtain ⟨x, hx, rfl⟩ := List.mem_map.1 ha
  rw [acAt_lt (hd x hx)]
  exact h.ok _ (List.getElem_mem _)
set_option maxHeartbeats 25600000 in
set_option maxRecDepth 100000 in
theorem flowLevels_any (aoD : Option Addr) (capD : Nat) (l : List Sit) (aoA : Option Addr) (capA : Nat) (acs : List Acn) (ord : Int) (w : World) (hD : Dk w aoD capD l) (hln : l.length ≤ 9223372036854775807) (hA : Acs w aoA acs) (hla : acs.length ≤ 9223372036854775807) (hpl : ∀ a ∈ acs, Wf3 a.pl) (ho1 : -9223372036854775808 ≤ ord) (ho2 : ord ≤ 9223372036854775807) :
    Calls Tryz.prog 5 #[.slice aoD l.length capD, .slice aoA acs.length capA, .int .i64 ord] w fun e w' => e = .returned (.bool true) ∧ Below w.heap.size w w' := by
  have HD : Hid (Dk w aoD capD l) := hD
  have HLN : Hid (l.length ≤ 9223372036854775807) := hln
  have HA : Hid (Acs w aoA acs) := hA
  have HPL : Hid (∀ a ∈ acs, Wf3 a.pl) := hpl
  have HO : Hid (-9223372036854775808 ≤ ord ∧ ord ≤ 9223372036854775807) := ⟨ho1, ho2⟩
  obtain ⟨iB, hiB, hzB0, hzB1, hzB2⟩ := info_parts infoB
  have HIB : Hid (Tryz.prog.info? 4 = some iB ∧ iB.zero = some (.bool false) ∧ iB.size = 1 ∧ iB.bytes = 1) := ⟨hiB, hzB0, hzB1, hzB2⟩
  obtain ⟨wC, hwC⟩ : ∃ wC, wC = w.alloc (.cells #[.int .i64 6, .int .i64 0, .int .i64 0, .int .i64 0, .string ⟨#[]⟩, .int .i64 0, .int .i64 0, .int .i64 0, .int .i64 14, .int .i64 0, .int .i64 0, .int .i64 0, .string ⟨#[]⟩, .int .i64 0, .int .i64 0, .int .i64 0] 55) := ⟨_, rfl⟩
  have HC0 : Hid (Acs wC (some ⟨w.heap.size, 0, none⟩) acsC) := by have h := acsC_in w; rw [← hwC] at h; exact h
  have HBC : Hid (Below w.heap.size w wC) := by show Below _ _ _; rw [hwC]; exact (Below.refl _ _).alloc (Nat.le_refl _) _
  clear hD hln hA hpl ho1 ho2 hiB hzB0 hzB1 hzB2
  go_enter Tryz.func5, Tryz.ntmps5
  go_wp2_with fail
  rw [← hwC]
  clear hwC
  refine Calls.mono (levelC wC w.heap.size HC0.out) ?_
  rintro e w2 ⟨hb2, gc, cc, aoR, cR, rfl, hc1⟩
  have HB2 : Hid (Below w.heap.size w w2) := HBC.out.trans (hb2.mono HBC.out.size)
  have HA2 : Hid (Acs w2 aoA acs) := HA.out.next HB2.out
  clear hb2 HC0 HBC
  by_cases hbig : 3000 < acs.length
  · go_wp2_with (go_at_call 9; refine (level_any aoA capA acs _ HA2.out hla HPL.out).mono ?_; rintro e w3 ⟨hb3, h3⟩; obtain ⟨_, rfl⟩ := h3.resolve_right (fun h => by omega))
    go_ret
    exact ⟨rfl, HB2.out.trans (hb3.mono HB2.out.size)⟩
  · have hl : acs.length ≤ 3000 := by omega
    go_wp2_with (first
      | (go_at_call 9; refine (level_any aoA capA acs _ HA2.out hla HPL.out).mono ?_; rintro e w3 ⟨hb3, h3⟩; obtain ⟨_, v, vs, rfl, L⟩ := h3.resolve_left (fun h => by omega))
      | (at_make; refine wpList_make_full _ rfl _ _ 56 rfl w3.heap.size 4 iB (.bool false) 1 Tryz.underlying56 HIB.out.1 HIB.out.2.1 HIB.out.2.2.1 _ _ _ _ acs.length rfl rfl rfl rfl (by rw [HIB.out.2.2.2]; omega) (by unfold maxLen; omega) (Nat.le_refl _) ?_; intro w4 ho4 hg4))
    have HL : Hid (Lvs w3 (w2.heap.size + 1) v (levR acs) vs) := L
    have HB3 : Hid (Below w.heap.size w w3) := HB2.out.trans (hb3.mono HB2.out.size)
    have HA3 : Hid (Acs w3 aoA acs) := HA.out.next HB3.out
    have HD3 : Hid (Dk w3 aoD capD l) := HD.out.next HB3.out
    have b34 : Below w3.heap.size w3 w4 := (Below.refl _ _).grown hg4 (Nat.le_refl _) (fun b e => by cases e)
    have HB34 : Hid (Below w3.heap.size w3 w4) := b34
    have HK4 : Hid (Bk w3.heap.size (seenL acs.length []) w4) := by
      have h := bk_of_row ho4
      rw [Nat.mul_one, show (Value.bool false).cells = #[.bool false] from rfl, toList_madeCells_one, ← seen_none] at h
      exact h
    have HS4 : Hid (w3.heap.size + 1 ≤ w4.heap.size) := HK4.out.1
    clear L hb3 ho4 hg4 b34 h3
    obtain ⟨g, hg⟩ : ∃ g, g = levR acs := ⟨_, rfl⟩
    have HG : Hid (g = levR acs) := hg
    have hgl := levR_len acs
    rw [← hg] at HL hgl
    have HRN : Hid (∀ i (h : i < g.length), 0 < (g[i]'h).length ∧ (g[i]'h).length ≤ 3000) := by
      intro i h
      subst hg
      exact ⟨lev_ne h, by have := row_len acs _ (List.getElem_mem h); omega⟩
    obtain ⟨gr, hgr⟩ : ∃ gr, gr = grL ord g := ⟨_, rfl⟩
    have HGR : Hid (gr = grL ord g) := hgr
    have HPM : Hid (gr.flatten.Perm (List.range acs.length)) := by show List.Perm _ _; rw [hgr, hg]; exact other_perm ord acs
    have HGL : Hid (gr.length = g.length) := by show _ = _; rw [hgr]; simp [grL]
    have HGI : Hid (∀ i (h : i < g.length) (h2 : i < gr.length), gr[i]'h2 = rotL (frL ord (g[i]'h)) (g[i]'h)) := fun i h h2 => by subst hgr; simp [grL]
    have hvl0 := HL.out.len
    have hvl1 : vs.length ≤ g.length := by omega
    have hvl2 : g.length ≤ vs.length := by omega
    obtain ⟨aoV, cV, rfl⟩ := HL.out.own.shape
    clear hg hgr hvl0
    go_wp2
    go_loopw [11, 12] (fun q11 q12 wr => ∃ (i : Nat) (ov : Value), i ≤ g.length ∧ ov = q11 ∧ q12 = .int .i64 i ∧ OwnR encA wr (w3.heap.size + 1) ov ((visL gr i 0).map (acAt acs)) ∧ Bk w3.heap.size (seenL acs.length (visL gr i 0)) wr ∧ Below w3.heap.size w3 wr ∧ w3.heap.size + 1 ≤ wr.heap.size) (fun _ i _ => g.length - (intOf i).toNat)
    case atStart => exact ⟨0, _, Nat.zero_le _, rfl, rfl, by rw [vis_zero]; exact OwnR.nil _ _ _, by rw [vis_zero]; exact HK4.out, HB34.out, HS4.out⟩
    case round =>
      obtain ⟨i, ov, hi, rfl, rfl, hov, hkk, hbb, hss⟩ := hrel
      have HOV : Hid (OwnR encA wr (w3.heap.size + 1) ov ((visL gr i 0).map (acAt acs))) := hov
      have HKK : Hid (Bk w3.heap.size (seenL acs.length (visL gr i 0)) wr) := hkk
      have HBB : Hid (Below w3.heap.size w3 wr) := hbb
      have HSS : Hid (w3.heap.size + 1 ≤ wr.heap.size) := hss
      clear hov hkk hbb hss
      by_cases hil : i < g.length
      · have hiv : i < vs.length := by omega
        have hii : (i : Int) < (vs.length : Int) := by omega
        obtain ⟨hr0, hr1⟩ := HRN.out i hil
        have hig : i < gr.length := by have := HGL.out; omega
        have HGX : Hid (gr[i]'hig = rotL (frL ord (g[i]'hil)) (g[i]'hil)) := HGI.out i hil hig
        have HROW : Hid (OwnR encN w3 (w2.heap.size + 1) (slv (vs[i]'hiv)) (g[i]'hil)) := HL.out.row i hiv hil
        obtain ⟨row, hrow⟩ : ∃ row, g[i]'hil = row := ⟨_, rfl⟩
        rw [hrow] at HGX HROW hr0 hr1
        obtain ⟨gb, cp, hv, _, _⟩ := own_some HL.out.own (by intro e; rw [e] at hiv; simp at hiv)
        simp only [Value.slice.injEq, true_and] at hv
        obtain ⟨rfl, rfl⟩ := hv
        obtain ⟨aoR2, cR2, hsh⟩ := HROW.out.shape
        have hcell := (HL.out.own.cellAt goodL hiv (j := 0) (by decide)).1
        have e3 : encL.enc (vs[i]'hiv) = [.slice aoR2 row.length cR2] := by rw [show encL.enc (vs[i]'hiv) = [slv (vs[i]'hiv)] from rfl, hsh]
        rw [e3] at hcell
        have HD4 : Hid (∀ W, Below w3.heap.size w3 W → W.cell? ⟨gb, i, none⟩ = some (.slice aoR2 row.length cR2)) := fun W hb => cell_later hb (by simpa using hcell)
        have HRR : Hid (RdR encN w3 aoR2 row) := by have h := HROW.out; rw [hsh] at h; exact h.rd goodN
        obtain ⟨ga, oa, rfl, _⟩ := rd_at HRR.out hr0
        have HRC : Hid (∀ W, Below w3.heap.size w3 W → ∀ j (hj : j < row.length), W.cell? ⟨ga, oa + j, none⟩ = some (.int .i64 (row[j]'hj : Nat))) := by
          intro W hb j hj
          obtain ⟨g9, o9, e9, hc9⟩ := rd_at HRR.out hj
          injection e9 with e9
          injection e9 with e91 e92
          subst e91 e92
          have h := hc9 0 (by decide)
          refine cell_later hb ?_
          simpa using h
        obtain ⟨f0, hf0⟩ : ∃ f0, f0 = frL ord row := ⟨_, rfl⟩
        have hfl := frL_lt (ord := ord) hr0
        rw [← hf0] at HGX hfl
        obtain ⟨hfl, hfe⟩ := hfl
        have HPK : Hid (∀ W, Calls Tryz.prog 20 #[.int .i64 ord, .int .i64 (row.length : Nat)] W fun e w' => e = .returned (.int .i64 (f0 : Nat)) ∧ w' = W) := fun W => by
          rw [hfe]
          exact picked_any ord row.length W HO.out.1 HO.out.2 (by omega) (by omega)
        have HRL : Hid ((gr[i]'hig).length = row.length) := by show _ = _; rw [HGX.out, rotL_len]
        have d0 := HD4.out wr HBB.out
        have hz : ((row.length : Int) == 0) = false := by rw [beq_eq_false_iff_ne]; omega
        clear hsh hcell e3 hf0 hfe HROW hrow
        go_wp2_with (go_at_call 20; refine (HPK.out _).mono ?_; rintro e w5 ⟨rfl, rfl⟩)
        go_loopw [11, 15] (fun q11 q15 wr => ∃ (k : Nat) (ov2 : Value), k ≤ row.length ∧ ov2 = q11 ∧ q15 = .int .i64 k ∧ OwnR encA wr (w3.heap.size + 1) ov2 ((visL gr i k).map (acAt acs)) ∧ Bk w3.heap.size (seenL acs.length (visL gr i k)) wr ∧ Below w3.heap.size w3 wr ∧ w3.heap.size + 1 ≤ wr.heap.size) (fun _ k _ => row.length - (intOf k).toNat)
        case atStart => exact ⟨0, _, Nat.zero_le _, rfl, rfl, HOV.out, HKK.out, HBB.out, HSS.out⟩
        case round =>
          obtain ⟨k, ov2, hk, rfl, rfl, hov, hkk, hbb, hss⟩ := hrel
          have HOV2 : Hid (OwnR encA wr (w3.heap.size + 1) ov2 ((visL gr i k).map (acAt acs))) := hov
          have HKK2 : Hid (Bk w3.heap.size (seenL acs.length (visL gr i k)) wr) := hkk
          have HBB2 : Hid (Below w3.heap.size w3 wr) := hbb
          have HSS2 : Hid (w3.heap.size + 1 ≤ wr.heap.size) := hss
          clear hov hkk hbb hss
          by_cases hkl : k < row.length
          · have hki : (k : Int) < (row.length : Int) := by omega
            have hkg : k < (gr[i]'hig).length := by have := HRL.out; omega
            have hfr := vis_fresh HPM.out hig hkg
            have HVN : Hid (visL gr i (k + 1) = visL gr i k ++ [(gr[i]'hig)[k]'hkg]) := vis_next hig hkg
            have hmod : (f0 + k) % row.length < row.length := Nat.mod_lt _ (by omega)
            have HXE : Hid ((gr[i]'hig)[k]'hkg = row[(f0 + k) % row.length]'hmod) := by
              show _ = _
              have h1 := rot_at hfl hkl
              rw [← h1]
              congr 1
              all_goals exact HGX.out
            obtain ⟨x, hx⟩ : ∃ x, x = (gr[i]'hig)[k]'hkg := ⟨_, rfl⟩
            rw [← hx] at hfr HVN HXE
            obtain ⟨hx1, hx2, hx3⟩ := hfr
            obtain ⟨ix, hix⟩ : ∃ ix, ix = (f0 + k) % row.length := ⟨_, rfl⟩
            have HX5 : Hid (∀ W, Below wr.heap.size wr W → W.cell? ⟨ga, oa + ix, none⟩ = some (.int .i64 (x : Nat))) := fun W hb => by
              rw [HXE.out, hix]
              exact HRC.out W (HBB2.out.trans (hb.mono HBB2.out.size)) _ hmod
            have HD4b : Hid (∀ W, Below wr.heap.size wr W → W.cell? ⟨gb, i, none⟩ = some (.slice (some ⟨ga, oa, none⟩) row.length cR2)) := fun W hb => HD4.out W (HBB2.out.trans (hb.mono HBB2.out.size))
            have HD4 : Hid (∀ W, Below wr.heap.size wr W → W.cell? ⟨gb, i, none⟩ = some (.slice (some ⟨ga, oa, none⟩) row.length cR2)) := HD4b.out
            have HADD : Hid (∀ W1, (binOp .add 3 (.int .i64 (f0 : Int)) (.int .i64 (k : Int))).run Tryz.prog W1 = .ok (.int .i64 ((f0 + k : Nat) : Int)) W1) := fun W1 => add_smallZ f0 k (by omega) W1
            have HREM : Hid (∀ W1, (binOp .rem 3 (.int .i64 ((f0 + k : Nat) : Int)) (.int .i64 (row.length : Int))).run Tryz.prog W1 = .ok (.int .i64 (ix : Nat)) W1) := fun W1 => by rw [hix]; exact rem_smallZ (f0 + k) row.length (by omega) hr0 (by omega) W1
            have hmi0 : ix < row.length := by rw [hix]; exact hmod
            have hmi : (ix : Int) < (row.length : Int) := by omega
            clear hx HD4b hix
            go_wp2_with fail
            refine region_seq 11 [false, false, false, false, false, false, false, false, false, false, false, false, false, false, false, false, false, false, false, false, false, false, false, false, false, false, false, false, false, false, false, false, false, false, false, false, false, false, false, false, false, false, false, false, false, false, false, false, false, false, false, false, false, false, false, false, false, false, false, false, false, false, false, false, false, false, false, false, false, false, false, false, false, false, false, false, false, true, true, true, true, true, true, true, true, true, true, true, false, false, false, false, false, false, false, false, false, false, false, false, false, false, false, false, false, false, false, false, false, false, false, false, false, false, false, false, false, false, false, false, false, false, false, false, false, false, false, false, false, false, false, false, false, false, false, false, false, false, false, false, false, false, false, false, false, false, false]
              [(77, [], none), (78, [], none), (79, [77, 78], none), (80, [79], none), (81, [], none), (82, [], none), (83, [81, 82], none), (84, [], none), (85, [83, 84], none), (86, [80, 85], none), (87, [86], none)]
              (flV gb vs.length cV i f0 k row.length ga oa cR2 x ix) (by kernel_rfl) (by kernel_rfl) (by kernel_rfl) (by kernel_rfl) (by kernel_rfl) (by decide) (flV_mono gb vs.length cV i f0 k row.length ga oa cR2 x ix) ?_ ?_
            · refine ⟨?_, ?_, ?_, ?_, ?_, ?_, ?_, ?_, ?_, ?_, ?_, trivial⟩
              · intro f w1 hb _ K hK
                simp only [over, overL, Nat.reduceAdd]
                go_simp
                exact hK _ _ ⟨_, rfl, by simp only [over, overL, Nat.reduceAdd]; rfl, Below.refl _ _⟩
              · intro f w1 hb _ K hK
                simp only [over, overL, Nat.reduceAdd]
                go_simp
                exact hK _ _ ⟨_, rfl, by simp only [over, overL, Nat.reduceAdd]; rfl, Below.refl _ _⟩
              · intro f w1 hb ⟨h77, h78, _⟩ K hK
                replace h77 : f 77 = _ := h77
                replace h78 : f 78 = _ := h78
                simp only [over, overL, Nat.reduceAdd, h77, h78]
                go_simp
                exact hK _ _ ⟨_, rfl, by simp only [over, overL, Nat.reduceAdd, h77, h78]; rfl, Below.refl _ _⟩
              · intro f w1 hb ⟨h79, _⟩ K hK
                replace h79 : f 79 = _ := h79
                have q0 := HD4.out w1 hb
                simp only [over, overL, Nat.reduceAdd, h79]
                go_simp
                exact hK _ _ ⟨_, rfl, by simp only [over, overL, Nat.reduceAdd, h79]; rfl, Below.refl _ _⟩
              · intro f w1 hb _ K hK
                simp only [over, overL, Nat.reduceAdd]
                go_simp
                exact hK _ _ ⟨_, rfl, by simp only [over, overL, Nat.reduceAdd]; rfl, Below.refl _ _⟩
              · intro f w1 hb _ K hK
                simp only [over, overL, Nat.reduceAdd]
                go_simp
                exact hK _ _ ⟨_, rfl, by simp only [over, overL, Nat.reduceAdd]; rfl, Below.refl _ _⟩
              · intro f w1 hb ⟨h81, h82, _⟩ K hK
                replace h81 : f 81 = _ := h81
                replace h82 : f 82 = _ := h82
                have q0 := HADD.out w1
                simp only [over, overL, Nat.reduceAdd, h81, h82]
                refine wp_binopZ rfl (by go_simp) q0 ?_
                exact hK _ _ ⟨_, rfl, by simp only [over, overL, Nat.reduceAdd, h81, h82], Below.refl _ _⟩
              · intro f w1 hb _ K hK
                simp only [over, overL, Nat.reduceAdd]
                go_simp
                exact hK _ _ ⟨_, rfl, by simp only [over, overL, Nat.reduceAdd]; rfl, Below.refl _ _⟩
              · intro f w1 hb ⟨h83, h84, _⟩ K hK
                replace h83 : f 83 = _ := h83
                replace h84 : f 84 = _ := h84
                have q0 := HREM.out w1
                simp only [over, overL, Nat.reduceAdd, h83, h84]
                refine wp_binopZ rfl (by go_simp) q0 ?_
                exact hK _ _ ⟨_, rfl, by simp only [over, overL, Nat.reduceAdd, h83, h84], Below.refl _ _⟩
              · intro f w1 hb ⟨h80, h85, _⟩ K hK
                replace h80 : f 80 = _ := h80
                replace h85 : f 85 = _ := h85
                simp only [over, overL, Nat.reduceAdd, h80, h85]
                go_simp
                exact hK _ _ ⟨_, rfl, by simp only [over, overL, Nat.reduceAdd, h80, h85]; rfl, Below.refl _ _⟩
              · intro f w1 hb ⟨h86, _⟩ K hK
                replace h86 : f 86 = _ := h86
                have q0 := HX5.out w1 hb
                simp only [over, overL, Nat.reduceAdd, h86]
                go_simp
                exact hK _ _ ⟨_, rfl, by simp only [over, overL, Nat.reduceAdd, h86]; rfl, Below.refl _ _⟩
            · intro f w5 hb5 hv
              have h87 : f 87 = .int .i64 (x : Nat) := hv.2.2.2.2.2.2.2.2.2.2.1
              have K5 := HKK2.out.later hb5
              have s0 : w5.cell? ⟨w3.heap.size, x, none⟩ = some (.bool false) := by
                have h := K5.c x (seen_at (visL gr i k) hx1)
                rwa [decide_eq_false hx2] at h
              have sf0 : w5.frozen? ⟨w3.heap.size, x, none⟩ = false := K5.f x (seen_at (visL gr i k) hx1)
              have hB5 : Below w3.heap.size w3 w5 := HBB2.out.trans (hb5.mono HBB2.out.size)
              have hB6 : Below w3.heap.size w3 (w5.setCell ⟨w3.heap.size, x, none⟩ (.bool true)) := hB5.setCell (Nat.le_refl _) _
              have O5 := HOV2.out.later hb5
              have hno : ov2.ownBlock = none ∨ ov2.ownBlock ≠ some w3.heap.size := .inr fun e => by have := (ownR_lt HOV2.out e).1; omega
              have O6 := O5.kept (grown_setZ w5 w3.heap.size x (.bool true)) hno
              have HO6 : Hid (OwnR encA (w5.setCell ⟨w3.heap.size, x, none⟩ (.bool true)) (w3.heap.size + 1) ov2 ((visL gr i k).map (acAt acs))) := O6
              have HK6 : Hid (Bk w3.heap.size (seenL acs.length (visL gr i (k + 1))) (w5.setCell ⟨w3.heap.size, x, none⟩ (.bool true))) := by
                have h := K5.put x (.bool true)
                rw [seen_set, ← HVN.out] at h
                exact h
              have HB6 : Hid (Below w3.heap.size w3 (w5.setCell ⟨w3.heap.size, x, none⟩ (.bool true))) := hB6
              have HS6 : Hid (w3.heap.size + 1 ≤ w5.heap.size) := Nat.le_trans HSS2.out hb5.size
              obtain ⟨gA, oA, rfl, hcA⟩ := (HA3.out.next hB6).at hx1
              have HAT : Hid (acAt acs x = acs[x]'hx1) := acAt_lt hx1
              generalize acs[x]'hx1 = a at *
              have c0 := hcA 0 (by decide)
              have c1 := hcA 1 (by decide)
              have c2 := hcA 2 (by decide)
              have c3 := hcA 3 (by decide)
              have c4 := hcA 4 (by decide)
              have c5 := hcA 5 (by decide)
              have c6 := hcA 6 (by decide)
              have c7 := hcA 7 (by decide)
              simp only [acl, List.getElem?_cons_zero, List.getElem?_cons_succ, Nat.add_zero] at c0 c1 c2 c3 c4 c5 c6 c7
              have hxi : (x : Int) < (acs.length : Int) := by omega
              obtain ⟨aoO, nO, cO, rfl⟩ := HO6.out.form
              have hvl : ((visL gr i k).map (acAt acs)).length ≤ 3000 := by rw [List.length_map]; omega
              clear hcA hB5 hB6 O5 O6 K5 hv
              simp only [List.drop, over, overL, Nat.reduceAdd, h87]
              go_wp2_with (at_builtin; refine wpList_append_row goodA Tryz.underlying23 infoA rfl (by decide) (by decide) _ rfl (.tmp 105) (.tmp 110) rfl (w3.heap.size + 1) (.slice aoO nO cO) ((visL gr i k).map (acAt acs)) rfl (HO6.out.alloc _) w5.heap.size a rfl (fun j u hu => (Bk.new (w5.setCell ⟨w3.heap.size, x, none⟩ (.bool true)) (acl a) 55 w5.heap.size (by simp [World.setCell])).c j hu) (by omega) (by have := HS6.out; simp [World.setCell]; omega) ?_; intro v7 w7 o7 g7 n7)
              go_roundw
              case rel =>
                have hb7 : Below w3.heap.size w3 w7 := (HB6.out.alloc HB6.out.size _).grown g7 (by have := HB6.out.size; simp at *; omega) (fun b e => by have := (ownR_lt HO6.out e).1; omega)
                have hk7 : Bk w3.heap.size (seenL acs.length (visL gr i (k + 1))) w7 := (HK6.out.later ((Below.refl _ _).alloc (Nat.le_refl _) _)).same g7.size (g7.block w3.heap.size (by have := HS6.out; simp [World.setCell]; omega) (fun e => by have := (ownR_lt HO6.out e.symm).1; omega))
                refine ⟨k + 1, _, by omega, rfl, by go_num, ?_, hk7, hb7, hk7.1⟩
                rw [HVN.out, List.map_append, List.map_cons, List.map_nil, HAT.out]
                exact o7
              case measure => simp [intOf]; omega
          · have hki : ¬ (k : Int) < (row.length : Int) := by omega
            have hke : k = row.length := by omega
            have HVE : Hid (visL gr i k = visL gr (i + 1) 0) := by
              show _ = _
              rw [hke, ← HRL.out]
              exact vis_row hig
            clear hke
            go_wp2
            go_roundw
            case rel => exact ⟨i + 1, _, by omega, rfl, by go_num, by rw [← HVE.out]; exact HOV2.out, by rw [← HVE.out]; exact HKK2.out, HBB2.out, HSS2.out⟩
            case measure => simp [intOf]; omega
      · have hii : ¬ (i : Int) < (vs.length : Int) := by omega
        have hie : i = g.length := by omega
        have HVE : Hid (visL gr i 0 = gr.flatten) := by
          show _ = _
          rw [hie, ← HGL.out]
          exact vis_end gr
        have HLEN : Hid (gr.flatten.length = acs.length) := by have h := HPM.out.length_eq; rw [List.length_range] at h; exact h
        have hmem : ∀ x ∈ gr.flatten, x < acs.length := fun x hx => by have := HPM.out.mem_iff.1 hx; simpa using this
        have HOV2 : Hid (OwnR encA wr (w3.heap.size + 1) ov (gr.flatten.map (acAt acs))) := by have h := HOV.out; rw [HVE.out] at h; exact h
        obtain ⟨aoO, cO, hsh⟩ := HOV2.out.shape
        rw [List.length_map, HLEN.out] at hsh
        subst hsh
        have HBW : Hid (Below w.heap.size w wr) := HB3.out.trans (HBB.out.mono HB3.out.size)
        have HAO : Hid (Acs wr aoO (gr.flatten.map (acAt acs))) := acs_other (HA3.out.next HBB.out) hmem (HOV2.out.rd goodA)
        have HOL : Hid ((gr.flatten.map (acAt acs)).length = acs.length) := by show _ = _; rw [List.length_map]; exact HLEN.out
        have HSAME : Hid ((runR l acs).2.2 = 0 → dchk l = 0 ∧ May l (runR l acs).1 ∧ (runR l (gr.flatten.map (acAt acs))).2.2 = 0 ∧ (runR l (gr.flatten.map (acAt acs))).1 = (runR l acs).1) := fun h => by
          have h1 := other_same ord h
          rw [HGR.out, HG.out]
          exact h1
        clear hie hmem
        generalize gr.flatten.map (acAt acs) = oth at *
        go_wp2_with fail
        refine (run_any aoD capD l aoA capA acs wr (HD3.out.next HBB.out) HLN.out (HA3.out.next HBB.out) hla).mono ?_
        rintro e w5 ⟨tR, rfl, hst, hin, _, hb5⟩
        obtain ⟨⟨sR, kR, eR⟩, hrq⟩ : ∃ x, runR l acs = x := ⟨_, rfl⟩
        rw [hrq] at hst HSAME ⊢
        simp only at hst HSAME ⊢
        have b6 : Below w5.heap.size w5 (w5.alloc (smo tR)) := (Below.refl _ _).alloc (Nat.le_refl _) _
        have KS6 : Hid (Bk w5.heap.size (sml tR) (w5.alloc (smo tR))) := Bk.new w5 (sml tR) 40 w5.heap.size rfl
        have HBR6 : Hid (Below wr.heap.size wr (w5.alloc (smo tR))) := below_on hb5 b6
        have HIN6 : Hid (SmIn (w5.alloc (smo tR)) tR) := hin.next b6
        have HST : Hid (tR.st = sR) := hst
        clear hst hin hb5 b6 hrq
        by_cases he : eR = 0
        · subst he
          obtain ⟨hd0, hmay, hz2, hs2⟩ := HSAME.out rfl
          have HMAY : Hid (May l sR) := hmay
          have HD0 : Hid (dchk l = 0) := hd0
          have HS2 : Hid ((runR l oth).1 = sR) := hs2
          have HZ2 : Hid ((runR l oth).2.2 = 0) := hz2
          have HCO : Hid (∀ W, Below wr.heap.size wr W → Calls Tryz.prog 17 #[.slice aoD l.length capD, .slice aoO acs.length cO] W fun e w' => ∃ t : Sm, e = .returned (.tuple #[smv t, .int .i64 ((runR l oth).2.1 : Int), .int .i64 0]) ∧ t.st = sR ∧ SmIn w' t ∧ Below W.heap.size W w') := fun W hb => by
            have h := run_any aoD capD l aoO cO oth W ((HD3.out.next HBB.out).next hb) HLN.out (HAO.out.next hb) (by have := HOL.out; omega)
            rw [HOL.out, HZ2.out, HS2.out] at h
            refine h.mono ?_
            rintro e w' ⟨t, h1, h2, h3, _, h4⟩
            exact ⟨t, h1, h2, h3, h4⟩
          clear hd0 hmay hz2 hs2
          go_wp2_with (go_at_call 17; refine (HCO.out _ HBR6.out).mono ?_; rintro e w7 ⟨t2, rfl, hst2, hin2, hb7⟩; have KS7 := KS6.out.later hb7; have h57 : w5.heap.size ≠ w7.heap.size := (by have := KS7.1; omega); have KS8 := KS7.later ((Below.refl _ _).alloc (Nat.le_refl _) (smo t2)); have y0 := KS8.c 0 rfl; have y1 := KS8.c 1 rfl; have y2 := KS8.c 2 rfl; have y3 := KS8.c 3 rfl; have y4 := KS8.c 4 rfl; have y5 := KS8.c 5 rfl; have y6 := KS8.c 6 rfl; have z0 := KS7.c 0 rfl; have z1 := KS7.c 1 rfl; have z2 := KS7.c 2 rfl; have z3 := KS7.c 3 rfl; have z4 := KS7.c 4 rfl; have z5 := KS7.c 5 rfl; have z6 := KS7.c 6 rfl)
          have b8 : Below w7.heap.size w7 (w7.alloc (smo t2)) := (Below.refl _ _).alloc (Nat.le_refl _) _
          have KX : Hid (Bk w7.heap.size (sml t2) (w7.alloc (smo t2))) := Bk.new w7 (sml t2) 40 w7.heap.size rfl
          have KS : Hid (Bk w5.heap.size (sml tR) (w7.alloc (smo t2))) := (KS6.out.later hb7).later b8
          have HINR : Hid (SmIn (w7.alloc (smo t2)) tR) := (HIN6.out.next hb7).next b8
          have HIN2 : Hid (SmIn (w7.alloc (smo t2)) t2) := hin2.next b8
          have HST2 : Hid (t2.st = sR) := hst2
          have HB8 : Hid (Below w.heap.size w (w7.alloc (smo t2))) := HBW.out.trans ((below_on HBR6.out (below_on hb7 b8)).mono HBW.out.size)
          clear hst2 hin2 hb7 b8
          have hfr : ∀ z ∈ t2.wl, z.2.2.2.length ≤ 100 := fun z hz => (F.fref_in ((may_frefs (t := t2) (by rw [HST2.out]; exact HMAY.out)).1 z hz)).1
          have hmr : May l t2.st := by rw [HST2.out]; exact HMAY.out
          refine (sameState_same tR t2 _ HINR.out HIN2.out (HST.out.trans HST2.out.symm) (may_smlen HD0.out hmr).2 hfr (may_lens hmr).1 (may_lens hmr).2.1).mono ?_
          rintro e w9 ⟨rfl, hb9⟩
          have HB9 : Hid (Below w.heap.size w w9) := HB8.out.trans (hb9.mono HB8.out.size)
          clear hb9 hfr hmr
          go_wp2
          go_ret
          exact ⟨rfl, HB9.out⟩
        · go_wp2_with fail
          go_wp2
          go_ret
          exact ⟨by simp, HBW.out.trans (HBR6.out.mono HBW.out.size)⟩
end Go.Proofs.YtgbnjgenopdmfaaGreat
