/- flow.Usage walked. -/
import Derived.Test.YtgbnjgenopdmfaaLS
namespace Go.Proofs.Ytgbnjgenopdmfaa
open Go.RowKit
attribute [local go_sem] Oper.semAt_some

/-- The sum of all times above 0 of Hold, Shake, Wait. -/
def usT : Int → List Acn → Option Int
  | t, [] => some t
  | t, a :: r => if (a.kind = 12 ∨ a.kind = 14 ∨ a.kind = 13) ∧ 0 < a.time then (if 1000000000 - t < a.time then none else usT (t + a.time) r) else usT t r
def tipsC : List Acn → Int
  | [] => 0
  | a :: r => (if a.kind = 6 then 1 else 0) + tipsC r
theorem tipsC_append (a b : List Acn) : tipsC (a ++ b) = tipsC a + tipsC b := by
  induction a with
  | nil => simp [tipsC]
  | cons x r ih => simp only [List.cons_append, tipsC, ih]; omega
theorem tipsC_in (l : List Acn) : 0 ≤ tipsC l ∧ tipsC l ≤ l.length := by
  induction l with
  | nil => simp [tipsC]
  | cons x r ih =>
    simp only [tipsC, List.length_cons]
    split <;> omega
def usR (l : List Acn) : Int × Int × Int × Int := if 3000 < l.length then (0, 0, 0, 7) else match usT 0 l with
  | none => (0, 0, 0, 8)
  | some t => (tipsC l, volsR (shares l), t, 0)
theorem setCell_id {w : World} {b k : Nat} {v : Value} (h : w.cell? ⟨b, k, none⟩ = some v) : w.setCell ⟨b, k, none⟩ v = w := by
  unfold World.cell? at h
  have e : (w.setCell ⟨b, k, none⟩ v).heap = w.heap := by
    unfold World.setCell
    apply Array.ext_getElem?
    intro i
    simp only [Array.getElem?_modify]
    split
    · rename_i e
      subst e
      cases hb : w.heap[b]? with
      | none => rfl
      | some o =>
        simp only [hb] at h
        cases o with
        | cells c t fz =>
          simp only [Option.isSome_none, Bool.false_eq_true, if_false] at h
          simp only [Option.map_some, Option.isSome_none, Bool.false_eq_true, if_false]
          congr 2
          apply Array.ext_getElem?
          intro j
          rw [Array.getElem?_setIfInBounds]
          split
          · rename_i e2
            subst e2
            rw [if_pos (Array.getElem?_eq_some_iff.1 h).1, h]
          · rfl
        | _ => simp at h
    · rfl
  calc w.setCell ⟨b, k, none⟩ v = { w with heap := (w.setCell ⟨b, k, none⟩ v).heap } := rfl
    _ = w := by rw [e]
theorem volsR_snoc (a : List Shr) (s : Shr) : volsR (a ++ [s]) = volsR a + s.vol := by rw [volsR_append]; simp [volsR]
set_option linter.unusedVariables false in
def usV (tp vo ti : Int) (i : Nat) (l : List Value) (w : World) : Prop :=
  match i, l with
  | 0, [v] => v = .int .i64 tp
  | 1, [v] => v = .int .i64 vo
  | 2, [v] => v = .int .i64 ti
  | 6, [v] => v = .int .i64 0
  | _, _ => True
def usJ (tp vo ti : Int) (M : Nat) (f : Nat → Value) (w : World) : Prop := f 2 = .int .i64 tp ∧ f 4 = .int .i64 ti ∧ Bk M [.int .i64 vo] w
theorem takesTime_any (k : Int) (w : World) : Calls Try.prog 20 #[.int .i64 k] w fun e w' => e = .returned (.bool (decide (k = 12 ∨ k = 14 ∨ k = 13))) ∧ w' = w := by
  by_cases h12 : k = 12
  · have b1 : (k == 12) = true := by simp [h12]
    have HR : Hid (decide (k = 12 ∨ k = 14 ∨ k = 13) = true) := by show _ = _; simp [h12]
    clear h12
    go_enter Try.func20, Try.ntmps20
    go_wp2
    go_ret
    exact ⟨ret_bool HR.out.symm, rfl⟩
  · have b1 : (k == 12) = false := by simp [h12]
    by_cases h14 : k = 14
    · have b2 : (k == 14) = true := by simp [h14]
      have HR : Hid (decide (k = 12 ∨ k = 14 ∨ k = 13) = true) := by show _ = _; simp [h14]
      clear h12 h14
      go_enter Try.func20, Try.ntmps20
      go_wp2
      go_ret
      exact ⟨ret_bool HR.out.symm, rfl⟩
    · have b2 : (k == 14) = false := by simp [h14]
      by_cases h13 : k = 13
      · have b3 : (k == 13) = true := by simp [h13]
        have HR : Hid (decide (k = 12 ∨ k = 14 ∨ k = 13) = true) := by show _ = _; simp [h13]
        clear h12 h14 h13
        go_enter Try.func20, Try.ntmps20
        go_wp2
        go_ret
        exact ⟨ret_bool HR.out.symm, rfl⟩
      · have b3 : (k == 13) = false := by simp [h13]
        have HR : Hid (decide (k = 12 ∨ k = 14 ∨ k = 13) = false) := by show _ = _; simp [h12, h13, h14]
        clear h12 h14 h13
        go_enter Try.func20, Try.ntmps20
        go_wp2
        go_ret
        exact ⟨ret_bool HR.out.symm, rfl⟩
abbrev usv (r : Int × Int × Int × Int) : Value := .tuple #[.int .i64 r.1, .int .i64 r.2.1, .int .i64 r.2.2.1, .int .i64 r.2.2.2]
theorem usT_le : ∀ (l : List Acn) (t : Int), 0 ≤ t → t ≤ 1000000000 → ∀ s, usT t l = some s → t ≤ s ∧ s ≤ 1000000000
  | [], t, h0, h1, s, h => by simp [usT] at h; omega
  | a :: r, t, h0, h1, s, h => by
    unfold usT at h
    split at h
    · rename_i hc
      split at h
      · cases h
      · have := usT_le r (t + a.time) (by omega) (by omega) s h; omega
    · exact usT_le r t h0 h1 s h
theorem vols_in {ss : List Shr} (h : ∀ s ∈ ss, 1 ≤ s.vol ∧ s.vol ≤ 1000000000) : 0 ≤ volsR ss ∧ volsR ss ≤ 1000000000 * ss.length := by
  induction ss with
  | nil => simp [volsR]
  | cons s r ih =>
    have h1 := h s (by simp)
    have h2 := ih fun x hx => h x (by simp [hx])
    simp only [volsR, List.length_cons]
    omega
theorem vols_pre {acs : List Acn} {pre : List Shr} (hl : acs.length ≤ 3000) (h : pre <+: shares acs) : 0 ≤ volsR pre ∧ volsR pre ≤ 9000000000000000 := by
  have h1 := vols_in (ss := pre) fun s hs => (shares_ok acs s (h.subset hs)).2.2.2
  have h2 := h.length_le
  have h3 := shares_few acs
  have h4 : acs.length * acs.length ≤ 3000 * 3000 := Nat.mul_le_mul hl hl
  omega
set_option maxHeartbeats 6400000 in
set_option maxRecDepth 100000 in
theorem usage_any (ao : Option Addr) (cap : Nat) (acs : List Acn) (w : World) (hA : Acs w ao acs) (hla : acs.length ≤ 9223372036854775807) :
    Calls Try.prog 9 #[.slice ao acs.length cap] w fun e w' => e = .returned (usv (usR acs)) ∧ Below w.heap.size w w' := by
  have HA : Hid (Acs w ao acs) := hA
  clear hA
  refine (callsIn_wide (n := 3)).1 (callsIn_of_wp_marks Try.func9 rfl trivial (wpIn_wide.2 ?_) rfl)
  simp only [Try.ntmps9, List.size_toArray, List.length_cons, List.length_nil, Nat.reduceAdd, Nat.reduceSub, Array.replicate_succ, Array.replicate_zero, List.push_toArray, List.append_toArray, List.nil_append, List.cons_append]
  by_cases hbig : 3000 < acs.length
  · have HR : Hid (usR acs = (0, 0, 0, 7)) := if_pos hbig
    go_wp2
    refine leave_plain (v := usv (0, 0, 0, 7)) (by simp [results, Try.results9, go_sem]) ⟨by rw [HR.out], ?_⟩
    first
      | exact ((Below.refl _ _).alloc (Nat.le_refl _) _).setCell (Nat.le_refl _) _
      | exact (Below.refl _ _).alloc (Nat.le_refl _) _
  · have hl : acs.length ≤ 3000 := by omega
    have HUR : Hid (usR acs = match usT 0 acs with | none => (0, 0, 0, 8) | some t => (tipsC acs, volsR (shares acs), t, 0)) := if_neg hbig
    have K0 : Hid (Bk w.heap.size [.int .i64 0] (w.alloc (.cells #[.int .i64 0] 3))) := Bk.new w [.int .i64 0] 3 w.heap.size rfl
    have HB0 : Hid (Below w.heap.size w (w.alloc (.cells #[.int .i64 0] 3))) := (Below.refl _ _).alloc (Nat.le_refl _) _
    clear hbig
    go_wp2
    go_loopw [2, 4, 14] (fun a b i wr => ∃ (k : Nat) (t : Int), k ≤ acs.length ∧ i = .int .i64 k ∧ a = .int .i64 (tipsC (acs.take k)) ∧ b = .int .i64 t ∧ 0 ≤ t ∧ t ≤ 1000000000 ∧ usT 0 acs = usT t (acs.drop k) ∧ Bk w.heap.size [.int .i64 0] wr ∧ Below w.heap.size w wr) (fun _ _ i _ => acs.length - (intOf i).toNat)
    case atStart => exact ⟨0, 0, Nat.zero_le _, rfl, rfl, rfl, Int.le_refl _, by decide, rfl, K0.out, HB0.out⟩
    case round =>
      obtain ⟨k, t, hk, rfl, rfl, rfl, ht0, ht1, hus, hK, hB⟩ := hrel
      have HUS : Hid (usT 0 acs = usT t (acs.drop k)) := hus
      have HK : Hid (Bk w.heap.size [.int .i64 0] wr) := hK
      have HB : Hid (Below w.heap.size w wr) := hB
      clear hus hK hB
      by_cases hlt : k < acs.length
      · obtain ⟨g, off, rfl, hc⟩ := (HA.out.next HB.out).at hlt
        have HT : Hid (acs.take (k + 1) = acs.take k ++ [acs[k]'hlt]) := by show _ = _; rw [List.take_succ_eq_append_getElem]
        have HUS2 : Hid (usT 0 acs = usT t (acs[k]'hlt :: acs.drop (k + 1))) := by show _ = _; rw [HUS.out, List.drop_eq_getElem_cons hlt]
        have htc := tipsC_in (acs.take k)
        have htl : (acs.take k).length = k := by rw [List.length_take]; omega
        rw [htl] at htc
        have hwf := (HA.out.ok _ (List.getElem_mem hlt))
        generalize acs[k]'hlt = a at *
        clear htl
        have c0 := hc 0 (by decide)
        have c1 := hc 1 (by decide)
        have c2 := hc 2 (by decide)
        have c3 := hc 3 (by decide)
        have c4 := hc 4 (by decide)
        have c5 := hc 5 (by decide)
        have c6 := hc 6 (by decide)
        have c7 := hc 7 (by decide)
        simp only [acl, List.getElem?_cons_zero, List.getElem?_cons_succ, Nat.add_zero] at c0 c1 c2 c3 c4 c5 c6 c7
        clear hc
        have hki : (k : Int) < (acs.length : Int) := by omega
        have HCT : Hid (∀ W, Calls Try.prog 20 #[.int .i64 a.kind] W fun e w' => e = .returned (.bool (decide (a.kind = 12 ∨ a.kind = 14 ∨ a.kind = 13))) ∧ w' = W) := fun W => takesTime_any a.kind W
        have b2 : Below wr.heap.size wr (wr.alloc (aobj a)) := (Below.refl _ _).alloc (Nat.le_refl _) _
        have HK2 : Hid (Bk w.heap.size [.int .i64 0] (wr.alloc (aobj a))) := HK.out.later b2
        have HB2 : Hid (Below w.heap.size w (wr.alloc (aobj a))) := below_on HB.out b2
        clear b2
        have m0 := HK.out.c 0 rfl
        have mf0 := HK.out.f 0 rfl
        have hmw : w.heap.size ≠ wr.heap.size := by have := HK.out.1; omega
        by_cases h6 : a.kind = 6
        · have b6 : (a.kind == 6) = true := by simp [h6]
          have HTC : Hid (tipsC (acs.take (k + 1)) = tipsC (acs.take k) + 1) := by show _ = _; rw [HT.out, tipsC_append]; simp [tipsC, h6]
          have htt : decide (a.kind = 12 ∨ a.kind = 14 ∨ a.kind = 13) = false := by simp; omega
          have HUS3 : Hid (usT 0 acs = usT t (acs.drop (k + 1))) := by show _ = _; rw [HUS2.out, usT, if_neg (by omega)]
          rw [htt] at HCT
          clear h6 htt
          go_wp2_with (go_at_call 20; refine (HCT.out _).mono ?_; rintro e w2 ⟨rfl, rfl⟩)
          go_roundw
          case rel => exact ⟨k + 1, t, by omega, by go_num, by rw [HTC.out], rfl, ht0, ht1, HUS3.out, HK2.out, HB2.out⟩
          case measure => simp [intOf]; omega
        · have b6 : (a.kind == 6) = false := by simp [h6]
          have HTC : Hid (tipsC (acs.take (k + 1)) = tipsC (acs.take k)) := by show _ = _; rw [HT.out, tipsC_append]; simp [tipsC, h6]
          clear h6
          by_cases htt : (a.kind = 12 ∨ a.kind = 14 ∨ a.kind = 13)
          · rw [decide_eq_true htt] at HCT
            by_cases hp : 0 < a.time
            · by_cases hov : 1000000000 - t < a.time
              · have HR : Hid (usR acs = (0, 0, 0, 8)) := by show _ = _; rw [HUR.out, HUS2.out, usT, if_pos ⟨htt, hp⟩, if_pos hov]
                clear htt
                have n0 := HK2.out.c 0 rfl
                have nf0 := HK2.out.f 0 rfl
                have hlt2 : w.heap.size < wr.heap.size := HK.out.1
                go_wp2_with (go_at_call 20; refine (HCT.out _).mono ?_; rintro e w2 ⟨rfl, rfl⟩)
                rw [setCell_id m0]
                exact leave_plain (v := usv (0, 0, 0, 8)) (by simp [results, Try.results9, go_sem, n0]) ⟨by rw [HR.out], HB2.out⟩
              · have HUS3 : Hid (usT 0 acs = usT (t + a.time) (acs.drop (k + 1))) := by show _ = _; rw [HUS2.out, usT, if_pos ⟨htt, hp⟩, if_neg hov]
                clear htt
                go_wp2_with (go_at_call 20; refine (HCT.out _).mono ?_; rintro e w2 ⟨rfl, rfl⟩)
                go_roundw
                case rel => exact ⟨k + 1, t + a.time, by omega, by go_num, by rw [HTC.out], rfl, by omega, by omega, HUS3.out, HK2.out, HB2.out⟩
                case measure => simp [intOf]; omega
            · have HUS3 : Hid (usT 0 acs = usT t (acs.drop (k + 1))) := by show _ = _; rw [HUS2.out, usT, if_neg (fun h => hp h.2)]
              clear htt
              go_wp2_with (go_at_call 20; refine (HCT.out _).mono ?_; rintro e w2 ⟨rfl, rfl⟩)
              go_roundw
              case rel => exact ⟨k + 1, t, by omega, by go_num, by rw [HTC.out], rfl, ht0, ht1, HUS3.out, HK2.out, HB2.out⟩
              case measure => simp [intOf]; omega
          · rw [decide_eq_false htt] at HCT
            have HUS3 : Hid (usT 0 acs = usT t (acs.drop (k + 1))) := by show _ = _; rw [HUS2.out, usT, if_neg (fun h => htt h.1)]
            clear htt
            go_wp2_with (go_at_call 20; refine (HCT.out _).mono ?_; rintro e w2 ⟨rfl, rfl⟩)
            go_roundw
            case rel => exact ⟨k + 1, t, by omega, by go_num, by rw [HTC.out], rfl, ht0, ht1, HUS3.out, HK2.out, HB2.out⟩
            case measure => simp [intOf]; omega
      · have ek : k = acs.length := by omega
        subst ek

        have HUF : Hid (usR acs = (tipsC acs, volsR (shares acs), t, 0)) := by
          show _ = _
          rw [HUR.out, HUS.out, List.drop_length]
          rfl
        have HAR : Hid (Acs wr ao acs) := HA.out.next HB.out
        clear HUS HUR
        go_wp2_with (go_at_call 14; refine (shares_make ao acs.length cap _).mono ?_; rintro e w3 ⟨rfl, rfl⟩)
        obtain ⟨wR, hwR⟩ : ∃ wR, wR = wr.alloc (.cells #[.slice ao acs.length cap] 22) := ⟨_, rfl⟩
        have hsR : wR.heap.size = wr.heap.size + 1 := by rw [hwR]; simp
        have bR : Below wr.heap.size wr wR := by rw [hwR]; exact (Below.refl _ _).alloc (Nat.le_refl _) _
        have KC : Hid (Bk wr.heap.size [.slice ao acs.length cap] wR) := by
          show Bk _ _ _
          rw [hwR]
          exact Bk.new _ [.slice ao acs.length cap] 22 wr.heap.size rfl
        have HI0 : Hid (Bk w.heap.size [.int .i64 (volsR [])] wR ∧ Below w.heap.size w wR) := ⟨HK.out.later bR, below_on HB.out bR⟩
        have HAR2 : Hid (Acs wR ao acs) := HAR.out.next bR
        have HLA : Hid (∀ ad, ao = some ad → acs ≠ [] → ad.block < w.heap.size) := by
          intro ad e hne
          rcases HA.out.rd with h | ⟨b, off, e2, hlt, _⟩
          · exact absurd h hne
          · rw [e2] at e
            injection e with e
            subst e
            exact hlt
        have hwl : w.heap.size < wr.heap.size := HK.out.1
        rw [← hwR]
        clear hwR HAR
        refine range_gen (n := 3) (gf := 23) (lb := #[ptr wr.heap.size]) rfl (fun args w => en_S args w) (fun k => wr.heap.size + 3 ≤ k) (fun k => k = w.heap.size)
          (· <+: shares acs) (· = shares acs) (fun s : Shr => #[shv s]) (fun _ => rfl) ?_ (by rw [hsR]; exact fun k h => h) (by rw [hsR]; omega) (by rw [hsR]; omega) (fun pre W => Bk w.heap.size [.int .i64 (volsR pre)] W ∧ Below w.heap.size w W) ?_ HI0.out
          (fun s a1 A => ∃ (g : Nat) (v0 v1 v2 v4 v5 v6 v7 v9 v10 v11 v12 v13 v14 v15 v16 v17 v18 v19 v20 v21 v22 v23 v24 v25 v26 v27 v28 v29 v30 v31 v32 v33 v34 v35 v36 v37 v38 v39 v40 v41 v42 v43 v45 v46 v47 v48 v49 v50 v51 : Value), wr.heap.size + 3 ≤ g ∧ a1 = { tmps := #[v0, v1, v2, ptr w.heap.size, v4, v5, v6, v7, ptr g, v9, v10, v11, v12, v13, v14, v15, v16, v17, v18, v19, v20, v21, v22, v23, v24, v25, v26, v27, v28, v29, v30, v31, v32, v33, v34, v35, v36, v37, v38, v39, v40, v41, v42, v43, shv s, v45, v46, v47, v48, v49, v50, v51], defers := [] } ∧ Bk g [.int .i64 s.draw, .int .i64 s.put, .int .i64 s.vol] A) ?_ ?_ ?_ ?_
        · intro W hb hs
          have e : W.heap.size = wr.heap.size + 3 := by rw [hs, hsR]
          have := shares_all 2 ao cap acs wr.heap.size w.heap.size (wR.heap.size + 1) W ((KC.out.later hb).c 0 rfl) (by omega) (HAR2.out.next hb) hl (by omega) (fun ad e hne => by have := HLA.out ad e hne; omega)
          rw [e] at this
          exact this
        · rintro s A B ⟨h1, h2⟩ hk
          exact ⟨h1.same hk.size (hk.block _ h1.1 (by omega)), h2.trans (hk.below h2.size (fun k e => by omega))⟩
        · rintro s a1 A B ⟨g, v0, v1, v2, v4, v5, v6, v7, v9, v10, v11, v12, v13, v14, v15, v16, v17, v18, v19, v20, v21, v22, v23, v24, v25, v26, v27, v28, v29, v30, v31, v32, v33, v34, v35, v36, v37, v38, v39, v40, v41, v42, v43, v45, v46, v47, v48, v49, v50, v51, h1, h2, h3⟩ hk
          exact ⟨g, v0, v1, v2, v4, v5, v6, v7, v9, v10, v11, v12, v13, v14, v15, v16, v17, v18, v19, v20, v21, v22, v23, v24, v25, v26, v27, v28, v29, v30, v31, v32, v33, v34, v35, v36, v37, v38, v39, v40, v41, v42, v43, v45, v46, v47, v48, v49, v50, v51, h1, h2, h3.same hk.size (hk.block _ h3.1 (by omega))⟩
        · intro l pre s W K hI hpre hs hK
          have HKK : Hid _ := hK
          clear hK
          have K1 : Hid (Bk W.heap.size [.int .i64 s.draw, .int .i64 s.put, .int .i64 s.vol] (W.alloc (.cells #[.int .i64 s.draw, .int .i64 s.put, .int .i64 s.vol] 54))) := Bk.new W [.int .i64 s.draw, .int .i64 s.put, .int .i64 s.vol] 54 W.heap.size rfl
          refine region_round l _ (by rintro ⟨a, w, h⟩; exact h) (by kernel_rfl) ?_
          go_wp2
          exact HKK.out _ _ ⟨W.heap.size, _, _, _, _, _, _, _, _, _, _, _, _, _, _, _, _, _, _, _, _, _, _, _, _, _, _, _, _, _, _, _, _, _, _, _, _, _, _, _, _, _, _, _, _, _, _, _, _, _, by omega, rfl, K1.out⟩ ((Below.refl _ _).alloc (Nat.le_refl _) _)
        · rintro l pre s a1 W ⟨hk1, hb1⟩ hpre hs ⟨g, v0, v1, v2, v4, v5, v6, v7, v9, v10, v11, v12, v13, v14, v15, v16, v17, v18, v19, v20, v21, v22, v23, v24, v25, v26, v27, v28, v29, v30, v31, v32, v33, v34, v35, v36, v37, v38, v39, v40, v41, v42, v43, v45, v46, v47, v48, v49, v50, v51, hg, rfl, hk⟩
          have hok := shares_ok acs s (hpre.subset (by simp))
          obtain ⟨_, _, _, hs1, hs2⟩ := hok
          have hv := vols_pre hl ((List.prefix_append pre [s]).trans hpre)
          obtain ⟨hv0, hv1⟩ := hv
          have HVS : Hid (volsR (pre ++ [s]) = volsR pre + s.vol) := volsR_snoc pre s
          have HK1 : Hid (Bk w.heap.size [.int .i64 (volsR pre)] W) := hk1
          have HB1 : Hid (Below w.heap.size w W) := hb1
          have c0 := hk1.c 0 rfl
          have f0 := hk1.f 0 rfl
          have g2 := hk.c 2 rfl
          generalize volsR pre = vp at *
          clear hpre hk1 hb1 hk
          refine wpIn_block (region_round l _ (by rintro ⟨a, w, h⟩; cases h.1) (by kernel_rfl) ?_)
          go_wp2
          have k2 : Kpt (fun k => k = w.heap.size) W (W.setCell ⟨w.heap.size, 0, none⟩ (.int .i64 (vp + s.vol))) := Kpt.setCell _ _ _ _ rfl
          refine ⟨trivial, k2, ?_, HB1.out.trans (k2.below HB1.out.size (fun k e => by omega))⟩
          rw [HVS.out]
          exact HK1.out.put 0 _
        · intro xs W hS hI hs hd
          subst hS
          obtain ⟨hI1, hI2⟩ := hI
          have HI1 : Hid (Bk w.heap.size [.int .i64 (volsR (shares acs))] W) := hI1
          have HI2 : Hid (Below w.heap.size w W) := hI2
          clear hI1 hI2
          have HSR : Hid (wR.heap.size = wr.heap.size + 1) := hsR
          clear hsR
          go_wp2_with fail
          refine region_all [false, false, true, false, true, true, false, false, false, false, false, false, false, false, false, false, false, false, false, false, false, false, false, false, false, false, false, false, false, false, false, false, false, false, false, false, false, false, false, false, false, false, false, false, false, false, false, false, false, true, true, true]
            [([], [49], none), ([], [50], none), ([], [51], none), ([0], [2], none), ([1], [], none), ([2], [4], none), ([], [5], none)]
            (usV (tipsC acs) (volsR (shares acs)) t) (usJ (tipsC acs) (volsR (shares acs)) t w.heap.size) (by kernel_rfl) (by kernel_rfl) (fun w1 hb => ⟨rfl, rfl, HI1.out.later hb⟩) ?_ ?_
          · refine ⟨?_, ?_, ?_, ?_, ?_, ?_, ?_, trivial⟩
            · intro f w1 hb hJ _ K hK
              obtain ⟨j2, j4, jb⟩ := hJ
              simp only [over, overL, Nat.reduceAdd, j2, j4]
              go_simp
              exact hK _ _ ⟨_, by simp only [over, overL, Nat.reduceAdd, j2, j4]; rfl, rfl, hb, ⟨j2, j4, jb⟩, fun _ h => h⟩
            · intro f w1 hb hJ _ K hK
              obtain ⟨j2, j4, jb⟩ := hJ
              have q0 := jb.c 0 rfl
              simp only [over, overL, Nat.reduceAdd, j2, j4]
              go_simp
              exact hK _ _ ⟨_, by simp only [over, overL, Nat.reduceAdd, j2, j4]; rfl, rfl, hb, ⟨j2, j4, jb⟩, fun _ h => h⟩
            · intro f w1 hb hJ _ K hK
              obtain ⟨j2, j4, jb⟩ := hJ
              simp only [over, overL, Nat.reduceAdd, j2, j4]
              go_simp
              exact hK _ _ ⟨_, by simp only [over, overL, Nat.reduceAdd, j2, j4]; rfl, rfl, hb, ⟨j2, j4, jb⟩, fun _ h => h⟩
            · intro f w1 hb hJ ⟨h49, _⟩ K hK
              obtain ⟨j2, j4, jb⟩ := hJ
              replace h49 : f 49 = .int .i64 (tipsC acs) := h49
              simp only [over, overL, Nat.reduceAdd, j2, j4, h49]
              go_simp
              exact hK _ _ ⟨_, by simp only [over, overL, Nat.reduceAdd, j2, j4, h49]; rfl, trivial, hb, ⟨rfl, j4, jb⟩, fun _ h => h⟩
            · intro f w1 hb hJ ⟨h50, _⟩ K hK
              obtain ⟨j2, j4, jb⟩ := hJ
              replace h50 : f 50 = .int .i64 (volsR (shares acs)) := h50
              have q0 := jb.c 0 rfl
              have q1 := jb.f 0 rfl
              have q2 := setCell_id q0
              simp only [over, overL, Nat.reduceAdd, j2, j4, h50]
              go_simp
              exact hK _ _ ⟨undef, by simp only [over, overL, Nat.reduceAdd, j2, j4, h50]; rfl, trivial, hb, ⟨j2, j4, jb⟩, fun _ h => h⟩
            · intro f w1 hb hJ ⟨h51, _⟩ K hK
              obtain ⟨j2, j4, jb⟩ := hJ
              replace h51 : f 51 = .int .i64 t := h51
              simp only [over, overL, Nat.reduceAdd, j2, j4, h51]
              go_simp
              exact hK _ _ ⟨_, by simp only [over, overL, Nat.reduceAdd, j2, j4, h51]; rfl, trivial, hb, ⟨j2, rfl, jb⟩, fun _ h => h⟩
            · intro f w1 hb hJ _ K hK
              obtain ⟨j2, j4, jb⟩ := hJ
              simp only [over, overL, Nat.reduceAdd, j2, j4]
              go_simp
              exact hK _ _ ⟨_, by simp only [over, overL, Nat.reduceAdd, j2, j4]; rfl, rfl, hb, ⟨j2, j4, jb⟩, fun _ h => h⟩
          · intro f w1 hb hJ hv
            obtain ⟨j2, j4, jb⟩ := hJ
            have h5 : f 5 = .int .i64 0 := hv.2.2.2.2.2.2.1
            simp only [over, overL, Nat.reduceAdd, j2, j4, h5]
            have hd1 : w1.heap[wR.heap.size]? = some (.deferred (some [])) := (hb.block _ (by have := HSR.out; omega)).trans hd
            have hpk := Kpt.putObj (fun k => k = wR.heap.size) w1 wR.heap.size (.deferred none) rfl
            have jp := (jb.same hpk.size (hpk.block _ jb.1 (by have := HSR.out; omega))).c 0 rfl
            have hbw : Below w.heap.size w w1 := below_on HI2.out hb
            have HF : Hid (Below w.heap.size w (w1.putObj wR.heap.size (.deferred none))) := hbw.trans (hpk.below hbw.size (fun k e => by have := HSR.out; omega))
            go_wp2
            exact leave_mark hd1 (v := usv (tipsC acs, volsR (shares acs), t, 0)) (by simp [results, Try.results9, go_sem, jp]) ⟨by rw [HUF.out], HF.out⟩
end Go.Proofs.Ytgbnjgenopdmfaa
