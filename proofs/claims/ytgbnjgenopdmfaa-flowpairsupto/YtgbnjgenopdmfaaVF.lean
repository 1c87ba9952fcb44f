/- workcellref.ReachOf walked. -/
import Derived.Test.YtgbnjgenopdmfaaVD
import Derived.Test.YtgbnjgenopdmfaaVE
namespace Go.Proofs.Ytgbnjgenopdmfaa
open Go.RowKit Go.Maps

set_option linter.unusedVariables false in
def roT (g n cp gm om nm cm k i : Nat) (x y : Plc) (d : Nat) (v : Value) (_ : World) : Prop :=
  match d with
  | 24 => v = .int .i64 k
  | 25 => v = .slice (some ⟨g, 0, none⟩) n cp
  | 26 => v = .int .i64 n
  | 27 => v = .bool true
  | 28 => v = .bool true
  | 29 => v = .slice (some ⟨g, 0, none⟩) n cp
  | 30 => v = .int .i64 k
  | 31 => v = .pointer (some ⟨g, k * 3, none⟩)
  | 32 => v = .agg #[.int .i64 y.1, .int .i64 y.2.1, .int .i64 y.2.2]
  | 33 => v = .slice (some ⟨gm, om, none⟩) nm cm
  | 34 => v = .int .i64 i
  | 35 => v = .pointer (some ⟨gm, om + i * 3, none⟩)
  | 36 => v = .agg #[.int .i64 x.1, .int .i64 x.2.1, .int .i64 x.2.2]
  | 37 => v = .bool (pltB y x)
  | 38 => v = .bool (pltB y x)
  | _ => True
set_option linter.unusedVariables false in
theorem roT_mono (g n cp gm om nm cm k i : Nat) (x y : Plc) (d : Nat) (v : Value) (w w' : World) (h : roT g n cp gm om nm cm k i x y d v w) (_ : Below w.heap.size w w') : roT g n cp gm om nm cm k i x y d v w' := h
set_option linter.unusedVariables false in
def roF (g n cp gm om nm cm k i : Nat) (x y : Plc) (d : Nat) (v : Value) (_ : World) : Prop :=
  match d with
  | 24 => v = .int .i64 k
  | 25 => v = .slice (some ⟨g, 0, none⟩) n cp
  | 26 => v = .int .i64 n
  | 27 => v = .bool false
  | 28 => v = .bool false
  | 38 => v = .bool false
  | _ => True
set_option linter.unusedVariables false in
theorem roF_mono (g n cp gm om nm cm k i : Nat) (x y : Plc) (d : Nat) (v : Value) (w w' : World) (h : roF g n cp gm om nm cm k i x y d v w) (_ : Below w.heap.size w w') : roF g n cp gm om nm cm k i x y d v w' := h
set_option linter.unusedVariables false in
def roN (g n cp gm om nm cm k i : Nat) (x y : Plc) (d : Nat) (v : Value) (_ : World) : Prop :=
  match d with
  | 24 => v = .int .i64 k
  | 25 => v = .slice none 0 0
  | 26 => v = .int .i64 0
  | 27 => v = .bool false
  | 28 => v = .bool false
  | 38 => v = .bool false
  | _ => True
set_option linter.unusedVariables false in
theorem roN_mono (g n cp gm om nm cm k i : Nat) (x y : Plc) (d : Nat) (v : Value) (w w' : World) (h : roN g n cp gm om nm cm k i x y d v w) (_ : Below w.heap.size w w') : roN g n cp gm om nm cm k i x y d v w' := h
theorem own_one {x : World} {p : Plc} : OwnR encP (x.alloc (pobj p)) x.heap.size (.slice (some ⟨x.heap.size, 0, none⟩) 1 1) [p] :=
  ⟨rfl, .inr ⟨x.heap.size, 1, #[.int .i64 p.1, .int .i64 p.2.1, .int .i64 p.2.2], rfl, Nat.le_refl _, World.alloc_heap_new x (pobj p), Nat.le_refl _, by unfold maxLen; decide, rfl, rfl⟩⟩
set_option maxHeartbeats 6400000 in
set_option maxRecDepth 100000 in
theorem reachOf_any (ao : Option Addr) (cap : Nat) (acs : List Acn) (p : Plc) (w : World) (hA : Acs w ao acs) (hal : ∀ ad, ao = some ad → acs ≠ [] → ad.block < w.heap.size) (hl : acs.length ≤ 3000) :
    Calls Try.prog 11 #[.slice ao acs.length cap, plv p] w fun e w' => Below w.heap.size w w' ∧ ∃ aoS capS, e = .returned (.slice aoS (insL (moves acs [p]).marks).length capS) ∧ RdR encP w' aoS (insL (moves acs [p]).marks) := by
  obtain ⟨w2, hw2⟩ : ∃ w2, w2 = (w.alloc (pobj p)).alloc (pobj p) := ⟨_, rfl⟩
  have HB2 : Hid (Below w.heap.size w w2) := by show Below _ _ _; rw [hw2]; exact ((Below.refl _ _).alloc (Nat.le_refl _) _).alloc (by simp) _
  have hs2 : w2.heap.size = w.heap.size + 2 := by rw [hw2]; simp
  have HM2 : Hid (OwnR encP w2 (w.heap.size + 1) (.slice (some ⟨w.heap.size + 1, 0, none⟩) 1 1) [p]) := by
    have h := own_one (x := w.alloc (pobj p)) (p := p)
    rw [← hw2, World.size_alloc] at h
    exact h
  have HC : Hid (Calls Try.prog 21 #[.slice ao acs.length cap, .slice (some ⟨w.heap.size + 1, 0, none⟩) 1 1] w2 fun e w' => Below (w.heap.size + 1) w2 w' ∧ ∃ ov mv, e = .returned (.tuple #[ov, mv]) ∧ OwnR encM w' (w.heap.size + 1) ov (moves acs [p]).out ∧ OwnR encP w' (w.heap.size + 1) mv (moves acs [p]).marks) :=
    movesOf_any ao cap acs [p] _ (w.heap.size + 1) w2 (hA.next HB2.out) (fun ad e h => Nat.lt_succ_of_lt (hal ad e h)) hl HM2.out (by simp) (by omega)
  have hmb := (mvB_all acs [p] hl acs.length (Nat.le_refl _)).marks
  rw [List.take_length] at hmb
  simp only [List.length_cons, List.length_nil] at hmb
  clear hA hal HM2
  go_enter Try.func11, Try.ntmps11
  go_wp2_with fail
  rw [← hw2]
  clear hw2
  refine HC.out.mono ?_
  rintro e w3 ⟨hb3, ov, mv, rfl, ho3, hm3⟩
  have HB3 : Hid (Below w.heap.size w w3) := HB2.out.trans (hb3.mono (by omega))
  obtain ⟨aoM, cM, rfl⟩ := hm3.shape
  obtain ⟨aoO, nO, cO, rfl⟩ := ho3.form
  have HMR : Hid (RdR encP w3 aoM (moves acs [p]).marks) := hm3.rd goodP
  clear ho3 hm3 hb3 HC HB2 hs2
  obtain ⟨ms, hms⟩ : ∃ ms, ms = (moves acs [p]).marks := ⟨_, rfl⟩
  have HMS : Hid (ms = (moves acs [p]).marks) := hms
  rw [← hms] at HMR hmb ⊢
  clear hms
  have hml : ms.length ≤ 9000001 := by omega
  clear hmb
  go_wp2
  go_loopw [7, 8] (fun q7 q8 wr => ∃ (i : Nat) (ov : Value), i ≤ ms.length ∧ ov = q7 ∧ q8 = .int .i64 i ∧ OwnR encP wr w3.heap.size ov (insL (ms.take i)) ∧ Below w3.heap.size w3 wr) (fun _ i _ => ms.length - (intOf i).toNat)
  case atStart => exact ⟨0, _, Nat.zero_le _, rfl, rfl, OwnR.nil _ _ _, Below.refl _ _⟩
  case round =>
    obtain ⟨i, ov, hi, rfl, rfl, hov, hbo⟩ := hrel
    obtain ⟨wo, rfl⟩ : ∃ wo, wo = wr := ⟨wr, rfl⟩
    have HOV : Hid (OwnR encP wo w3.heap.size ov (insL (ms.take i))) := hov
    have HBO : Hid (Below w3.heap.size w3 wo) := hbo
    clear hov hbo
    by_cases hlt : i < ms.length
    · have hii : (i : Int) < (ms.length : Int) := by omega
      obtain ⟨gm, om, rfl, hcs⟩ : ∃ gm om, aoM = some ⟨gm, om, none⟩ ∧ ∀ j, j < 3 → wo.cell? ⟨gm, om + i * 3 + j, none⟩ = (encP.enc (ms[i]'hlt))[j]? := by
        rcases HMR.out.next goodP HBO.out with h | ⟨gp, op, e, _, hc⟩
        · rw [h] at hlt; simp at hlt
        · exact ⟨gp, op, e, fun j hj => hc i hlt j hj⟩
      have HNX : Hid (insL (ms.take (i + 1)) = insP (ms[i]'hlt) (insL (ms.take i))) := by show _ = _; rw [List.take_succ_eq_append_getElem hlt, insL_snoc]
      have hol : (insL (ms.take i)).length ≤ 9000001 := by rw [(insL_perm _).length_eq, List.length_take]; omega
      generalize ms[i]'hlt = x at *
      generalize insL (ms.take i) = out at *
      have a0 := hcs 0 (by decide)
      have a1 := hcs 1 (by decide)
      have a2 := hcs 2 (by decide)
      simp only [List.getElem?_cons_zero, List.getElem?_cons_succ, Nat.add_zero] at a0 a1 a2
      have HX : Hid (∀ W1, Below wo.heap.size wo W1 → W1.cell? ⟨gm, om + i * 3, none⟩ = some (.int .i64 x.1) ∧ W1.cell? ⟨gm, om + i * 3 + 1, none⟩ = some (.int .i64 x.2.1) ∧ W1.cell? ⟨gm, om + i * 3 + 2, none⟩ = some (.int .i64 x.2.2)) := fun W1 hb => ⟨cell_later hb a0, cell_later hb a1, cell_later hb a2⟩
      clear a0 a1 a2 hcs
      rcases HOV.out.inv with ⟨rfl, rfl⟩ | ⟨g, cap2, rfl, hg1, hg2, hc1, hc2⟩
      · go_wp2
        go_loopw [9] (fun q9 wr => q9 = .int .i64 0 ∧ wr = wo) (fun _ _ => 0)
        case atStart => exact ⟨rfl, rfl⟩
        case round =>
          obtain ⟨rfl, rfl⟩ := hrel
          go_wp2_with fail
          refine region_inv [false, false, false, false, false, false, false, false, false, false, false, false, false, false, false, false, false, false, false, false, false, false, false, false, true, true, true, true, true, true, true, true, true, true, true, true, true, true, true, false, false, false, false, false, false, false, false, false, false, false, false, false, false, false, false, false, false, false, false]
            [(24, [], none), (25, [], none), (26, [25], none), (27, [24, 26], none), (28, [27], none), (29, [28], some (28, true)), (30, [28], some (28, true)), (31, [28, 29, 30], some (28, true)), (32, [28, 31], some (28, true)), (33, [28], some (28, true)), (34, [28], some (28, true)), (35, [28, 33, 34], some (28, true)), (36, [28, 35], some (28, true)), (37, [28, 32, 36], some (28, true)), (38, [28, 37], none)]
            (roN 0 0 0 gm om ms.length cM 0 i x x) (by kernel_rfl) (by kernel_rfl) (roN_mono 0 0 0 gm om ms.length cM 0 i x x) ?_ ?_
          · refine ⟨?_, ?_, ?_, ?_, ?_, ?_, ?_, ?_, ?_, ?_, ?_, ?_, ?_, ?_, ?_, trivial⟩
            · intro f w1 hb _ K hK
              simp only [over, overL, Nat.reduceAdd]
              go_simp
              exact hK _ _ ⟨_, rfl, by simp only [over, overL, Nat.reduceAdd]; rfl, Below.refl _ _⟩
            · intro f w1 hb _ K hK
              simp only [over, overL, Nat.reduceAdd]
              go_simp
              exact hK _ _ ⟨_, rfl, by simp only [over, overL, Nat.reduceAdd]; rfl, Below.refl _ _⟩
            · intro f w1 hb ⟨h25, _⟩ K hK
              replace h25 : f 25 = _ := h25
              simp only [over, overL, Nat.reduceAdd, h25]
              go_simp
              exact hK _ _ ⟨_, rfl, by simp only [over, overL, Nat.reduceAdd, h25]; rfl, Below.refl _ _⟩
            · intro f w1 hb ⟨h24, h26, _⟩ K hK
              replace h24 : f 24 = _ := h24
              replace h26 : f 26 = _ := h26
              simp only [over, overL, Nat.reduceAdd, h24, h26]
              go_simp
              exact hK _ _ ⟨_, rfl, by simp only [over, overL, Nat.reduceAdd, h24, h26]; rfl, Below.refl _ _⟩
            · intro f w1 hb ⟨h27, _⟩ K hK
              replace h27 : f 27 = _ := h27
              simp only [over, overL, Nat.reduceAdd, h27]
              go_simp
              exact hK _ _ ⟨_, rfl, by simp only [over, overL, Nat.reduceAdd, h27]; rfl, Below.refl _ _⟩
            · intro f w1 hb ⟨h28, _⟩
              replace h28 : f 28 = _ := h28
              exact ⟨fun hg => absurd (h28.symm.trans hg) (by simp), fun _ => trivial⟩
            · intro f w1 hb ⟨h28, _⟩
              replace h28 : f 28 = _ := h28
              exact ⟨fun hg => absurd (h28.symm.trans hg) (by simp), fun _ => trivial⟩
            · intro f w1 hb ⟨h28, h29, h30, _⟩
              replace h28 : f 28 = _ := h28
              exact ⟨fun hg => absurd (h28.symm.trans hg) (by simp), fun _ => trivial⟩
            · intro f w1 hb ⟨h28, h31, _⟩
              replace h28 : f 28 = _ := h28
              exact ⟨fun hg => absurd (h28.symm.trans hg) (by simp), fun _ => trivial⟩
            · intro f w1 hb ⟨h28, _⟩
              replace h28 : f 28 = _ := h28
              exact ⟨fun hg => absurd (h28.symm.trans hg) (by simp), fun _ => trivial⟩
            · intro f w1 hb ⟨h28, _⟩
              replace h28 : f 28 = _ := h28
              exact ⟨fun hg => absurd (h28.symm.trans hg) (by simp), fun _ => trivial⟩
            · intro f w1 hb ⟨h28, h33, h34, _⟩
              replace h28 : f 28 = _ := h28
              exact ⟨fun hg => absurd (h28.symm.trans hg) (by simp), fun _ => trivial⟩
            · intro f w1 hb ⟨h28, h35, _⟩
              replace h28 : f 28 = _ := h28
              exact ⟨fun hg => absurd (h28.symm.trans hg) (by simp), fun _ => trivial⟩
            · intro f w1 hb ⟨h28, h32, h36, _⟩
              replace h28 : f 28 = _ := h28
              exact ⟨fun hg => absurd (h28.symm.trans hg) (by simp), fun _ => trivial⟩
            · intro f w1 hb ⟨h28, h37, _⟩ K hK
              replace h28 : f 28 = _ := h28
              simp only [over, overL, Nat.reduceAdd, h28]
              go_simp
              exact hK _ _ ⟨_, rfl, by simp only [over, overL, Nat.reduceAdd, h28]; rfl, Below.refl _ _⟩
          · intro f w5 b5 hv
            have h38 : f 38 = .bool false := hv.2.2.2.2.2.2.2.2.2.2.2.2.2.2.1
            simp only [over, overL, Nat.reduceAdd, h38]
            clear hv
            go_wp2_with (first
              | (at_builtin; refine wpList_append_opt goodP Try.underlying32 infoP rfl (by decide) _ rfl (.tmp 41) (.tmp 44) rfl w5.heap.size (.slice none 0 0) [] rfl (OwnR.nil _ _ _) none 0 _ [] rfl rfl (.inl rfl) (fun _ => rfl) (by unfold maxLen; simp) (by simp) (Nat.le_refl _) ?_; intro v6 w6 o6 g6 n6; have b6 := below_row (Below.refl _ _) (OwnR.nil encP w5 w5.heap.size) g6 (Nat.le_refl _); obtain ⟨z0, z1, z2⟩ := HX.out w6 (below_on b5 b6); obtain ⟨ao6, m6, c6, rfl⟩ := o6.form)
              | (at_builtin; refine wpList_append_row goodP Try.underlying32 infoP rfl (by decide) (by decide) _ rfl (.tmp 46) (.tmp 51) rfl w5.heap.size (.slice ao6 m6 c6) ([] ++ []) rfl (o6.alloc _) w6.heap.size x rfl (fun j u hu => three_new w6 _ _ _ _ j u hu) (by simp) (by have := b6.size; simp; omega) ?_; intro v7 w7 o7 g7 n7; have b7 := below_row (below_on b6 ((Below.refl _ _).alloc (Nat.le_refl _) _)) (o6.alloc _) g7 (by have := b6.size; simp; omega); obtain ⟨ao7, m7, c7, rfl⟩ := o7.form)
              | (at_builtin; refine wpList_append_opt goodP Try.underlying32 infoP rfl (by decide) _ rfl (.tmp 53) (.tmp 56) rfl w5.heap.size (.slice ao7 m7 c7) ([] ++ [] ++ [x]) rfl o7 none 0 _ [] rfl rfl (.inl rfl) (fun _ => rfl) (by unfold maxLen; simp) (by simp) b7.size ?_; intro v8 w8 o8 g8 n8; have b8 := below_row b7 o7 g8 b7.size; obtain ⟨ao8, m8, c8, rfl⟩ := o8.form))
            go_roundw
            case rel =>
              refine ⟨i + 1, _, by omega, rfl, by go_num, ?_, below_on HBO.out (below_on b5 b8)⟩
              rw [HNX.out, insP]
              have o9 := o8.base (base' := w3.heap.size) (by have := HBO.out.size; have := b5.size; omega)
              simpa using o9
            case measure => simp [intOf]; omega
      · have HOR : Hid (RdR encP wo (some ⟨g, 0, none⟩) out) := HOV.out.rd goodP
        go_wp2
        go_loopw [9] (fun q9 wr => ∃ k : Nat, k ≤ out.length ∧ q9 = .int .i64 k ∧ (∀ y ∈ out.take k, pltB y x = true) ∧ Below wo.heap.size wo wr) (fun i _ => out.length - (intOf i).toNat)
        case atStart => exact ⟨0, Nat.zero_le _, rfl, (fun y hy => by simp at hy), Below.refl _ _⟩
        case round =>
          obtain ⟨k, hk, rfl, hall, hbk⟩ := hrel
          have HALL : Hid (∀ y ∈ out.take k, pltB y x = true) := hall
          have HBK : Hid (Below wo.heap.size wo wr) := hbk
          clear hall hbk
          by_cases hkl : k < out.length
          · have hki : (k : Int) < (out.length : Int) := by omega
            have hcy : ∀ j, j < 3 → wr.cell? ⟨g, k * 3 + j, none⟩ = (encP.enc (out[k]'hkl))[j]? := by
              rcases HOR.out.next goodP HBK.out with h | ⟨gp, op, e, _, hc⟩
              · rw [h] at hkl; simp at hkl
              · injection e with e
                injection e with e1 e2
                subst e1 e2
                intro j hj
                have := hc k hkl j hj
                rwa [Nat.zero_add] at this
            have HTK : Hid (out.take (k + 1) = out.take k ++ [out[k]'hkl]) := by show _ = _; rw [List.take_succ_eq_append_getElem hkl]
            have HAT : Hid (pltB (out[k]'hkl) x = false → insP x out = out.take k ++ x :: out.drop k) := fun h => insP_at hk HALL.out (fun _ => h)
            generalize out[k]'hkl = y at *
            have b0 := hcy 0 (by decide)
            have b1 := hcy 1 (by decide)
            have b2 := hcy 2 (by decide)
            simp only [List.getElem?_cons_zero, List.getElem?_cons_succ, Nat.add_zero] at b0 b1 b2
            have HY : Hid (∀ W1, Below wr.heap.size wr W1 → W1.cell? ⟨g, k * 3, none⟩ = some (.int .i64 y.1) ∧ W1.cell? ⟨g, k * 3 + 1, none⟩ = some (.int .i64 y.2.1) ∧ W1.cell? ⟨g, k * 3 + 2, none⟩ = some (.int .i64 y.2.2)) := fun W1 hb => ⟨cell_later hb b0, cell_later hb b1, cell_later hb b2⟩
            clear b0 b1 b2 hcy
            go_wp2_with fail
            refine region_inv [false, false, false, false, false, false, false, false, false, false, false, false, false, false, false, false, false, false, false, false, false, false, false, false, true, true, true, true, true, true, true, true, true, true, true, true, true, true, true, false, false, false, false, false, false, false, false, false, false, false, false, false, false, false, false, false, false, false, false]
              [(24, [], none), (25, [], none), (26, [25], none), (27, [24, 26], none), (28, [27], none), (29, [28], some (28, true)), (30, [28], some (28, true)), (31, [28, 29, 30], some (28, true)), (32, [28, 31], some (28, true)), (33, [28], some (28, true)), (34, [28], some (28, true)), (35, [28, 33, 34], some (28, true)), (36, [28, 35], some (28, true)), (37, [28, 32, 36], some (28, true)), (38, [28, 37], none)]
              (roT g out.length cap2 gm om ms.length cM k i x y) (by kernel_rfl) (by kernel_rfl) (roT_mono g out.length cap2 gm om ms.length cM k i x y) ?_ ?_
            · refine ⟨?_, ?_, ?_, ?_, ?_, ?_, ?_, ?_, ?_, ?_, ?_, ?_, ?_, ?_, ?_, trivial⟩
              · intro f w1 hb _ K hK
                simp only [over, overL, Nat.reduceAdd]
                go_simp
                exact hK _ _ ⟨_, rfl, by simp only [over, overL, Nat.reduceAdd]; rfl, Below.refl _ _⟩
              · intro f w1 hb _ K hK
                simp only [over, overL, Nat.reduceAdd]
                go_simp
                exact hK _ _ ⟨_, rfl, by simp only [over, overL, Nat.reduceAdd]; rfl, Below.refl _ _⟩
              · intro f w1 hb ⟨h25, _⟩ K hK
                replace h25 : f 25 = _ := h25
                simp only [over, overL, Nat.reduceAdd, h25]
                go_simp
                exact hK _ _ ⟨_, rfl, by simp only [over, overL, Nat.reduceAdd, h25]; rfl, Below.refl _ _⟩
              · intro f w1 hb ⟨h24, h26, _⟩ K hK
                replace h24 : f 24 = _ := h24
                replace h26 : f 26 = _ := h26
                simp only [over, overL, Nat.reduceAdd, h24, h26]
                go_simp
                exact hK _ _ ⟨_, rfl, by simp only [over, overL, Nat.reduceAdd, h24, h26]; rfl, Below.refl _ _⟩
              · intro f w1 hb ⟨h27, _⟩ K hK
                replace h27 : f 27 = _ := h27
                simp only [over, overL, Nat.reduceAdd, h27]
                go_simp
                exact hK _ _ ⟨_, rfl, by simp only [over, overL, Nat.reduceAdd, h27]; rfl, Below.refl _ _⟩
              · intro f w1 hb ⟨h28, _⟩
                replace h28 : f 28 = _ := h28
                refine ⟨fun _ => ?_, fun hg => absurd h28 hg⟩
                intro K hK
                simp only [over, overL, Nat.reduceAdd, h28]
                go_simp
                exact hK _ _ ⟨_, rfl, by simp only [over, overL, Nat.reduceAdd, h28]; rfl, Below.refl _ _⟩
              · intro f w1 hb ⟨h28, _⟩
                replace h28 : f 28 = _ := h28
                refine ⟨fun _ => ?_, fun hg => absurd h28 hg⟩
                intro K hK
                simp only [over, overL, Nat.reduceAdd, h28]
                go_simp
                exact hK _ _ ⟨_, rfl, by simp only [over, overL, Nat.reduceAdd, h28]; rfl, Below.refl _ _⟩
              · intro f w1 hb ⟨h28, h29, h30, _⟩
                replace h28 : f 28 = _ := h28
                replace h29 : f 29 = _ := h29
                replace h30 : f 30 = _ := h30
                refine ⟨fun _ => ?_, fun hg => absurd h28 hg⟩
                intro K hK
                simp only [over, overL, Nat.reduceAdd, h28, h29, h30]
                go_simp
                exact hK _ _ ⟨_, rfl, by simp only [over, overL, Nat.reduceAdd, h28, h29, h30]; rfl, Below.refl _ _⟩
              · intro f w1 hb ⟨h28, h31, _⟩
                replace h28 : f 28 = _ := h28
                replace h31 : f 31 = _ := h31
                refine ⟨fun _ => ?_, fun hg => absurd h28 hg⟩
                intro K hK
                obtain ⟨q0, q1, q2⟩ := HY.out w1 hb
                simp only [over, overL, Nat.reduceAdd, h28, h31]
                go_simp
                exact hK _ _ ⟨_, rfl, by simp only [over, overL, Nat.reduceAdd, h28, h31]; rfl, Below.refl _ _⟩
              · intro f w1 hb ⟨h28, _⟩
                replace h28 : f 28 = _ := h28
                refine ⟨fun _ => ?_, fun hg => absurd h28 hg⟩
                intro K hK
                simp only [over, overL, Nat.reduceAdd, h28]
                go_simp
                exact hK _ _ ⟨_, rfl, by simp only [over, overL, Nat.reduceAdd, h28]; rfl, Below.refl _ _⟩
              · intro f w1 hb ⟨h28, _⟩
                replace h28 : f 28 = _ := h28
                refine ⟨fun _ => ?_, fun hg => absurd h28 hg⟩
                intro K hK
                simp only [over, overL, Nat.reduceAdd, h28]
                go_simp
                exact hK _ _ ⟨_, rfl, by simp only [over, overL, Nat.reduceAdd, h28]; rfl, Below.refl _ _⟩
              · intro f w1 hb ⟨h28, h33, h34, _⟩
                replace h28 : f 28 = _ := h28
                replace h33 : f 33 = _ := h33
                replace h34 : f 34 = _ := h34
                refine ⟨fun _ => ?_, fun hg => absurd h28 hg⟩
                intro K hK
                simp only [over, overL, Nat.reduceAdd, h28, h33, h34]
                go_simp
                exact hK _ _ ⟨_, rfl, by simp only [over, overL, Nat.reduceAdd, h28, h33, h34]; rfl, Below.refl _ _⟩
              · intro f w1 hb ⟨h28, h35, _⟩
                replace h28 : f 28 = _ := h28
                replace h35 : f 35 = _ := h35
                refine ⟨fun _ => ?_, fun hg => absurd h28 hg⟩
                intro K hK
                obtain ⟨q0, q1, q2⟩ := HX.out w1 (below_on HBK.out hb)
                simp only [over, overL, Nat.reduceAdd, h28, h35]
                go_simp
                exact hK _ _ ⟨_, rfl, by simp only [over, overL, Nat.reduceAdd, h28, h35]; rfl, Below.refl _ _⟩
              · intro f w1 hb ⟨h28, h32, h36, _⟩
                replace h28 : f 28 = _ := h28
                replace h32 : f 32 = _ := h32
                replace h36 : f 36 = _ := h36
                refine ⟨fun _ => ?_, fun hg => absurd h28 hg⟩
                intro K hK
                simp only [over, overL, Nat.reduceAdd, h28, h32, h36]
                go_simp
                refine (placeLess_any y x w1).mono ?_
                rintro e w2 ⟨rfl, hb2⟩
                exact hK _ _ ⟨_, rfl, by simp only [over, overL, Nat.reduceAdd, h28, h32, h36]; rfl, hb2⟩
              · intro f w1 hb ⟨h28, h37, _⟩ K hK
                replace h28 : f 28 = _ := h28
                replace h37 : f 37 = _ := h37
                simp only [over, overL, Nat.reduceAdd, h28, h37]
                go_simp
                exact hK _ _ ⟨_, rfl, by simp only [over, overL, Nat.reduceAdd, h28, h37]; rfl, Below.refl _ _⟩
            · intro f w4 b4 hv
              have h38 : f 38 = .bool (pltB y x) := hv.2.2.2.2.2.2.2.2.2.2.2.2.2.2.1
              have b5 := below_on HBK.out b4
              clear hv b4
              by_cases hp : pltB y x = true
              · rw [hp] at h38
                simp only [over, overL, Nat.reduceAdd, h38]
                go_wp2
                go_roundw
                case rel =>
                  refine ⟨k + 1, by omega, by go_num, ?_, b5⟩
                  intro z hz
                  rw [HTK.out] at hz
                  rcases List.mem_append.1 hz with hz | hz
                  · exact HALL.out z hz
                  · simp at hz; rw [hz]; exact hp
                case measure => simp [intOf]; omega
              · have hpf : pltB y x = false := by simpa using hp
                rw [hpf] at h38
                have HAT2 : Hid (insP x out = out.take k ++ x :: out.drop k) := HAT.out hpf
                obtain ⟨w5, rfl⟩ : ∃ w5, w5 = w4 := ⟨w4, rfl⟩
                simp only [over, overL, Nat.reduceAdd, h38]
                have HO5 := HOV.out.later b5
                have hck2 : k < cap2 := by omega
                go_wp2_with (first
                  | (at_builtin; refine wpList_append_opt goodP Try.underlying32 infoP rfl (by decide) _ rfl (.tmp 41) (.tmp 44) rfl w5.heap.size (.slice none 0 0) [] rfl (OwnR.nil _ _ _) (some ⟨g, 0, none⟩) k _ (out.take k) (by rw [List.length_take]; omega) rfl (HO5.pre goodP k) (fun h => by cases h) (by unfold maxLen; simp <;> omega) (by simp <;> omega) (Nat.le_refl _) ?_; intro v6 w6 o6 g6 n6; have b6 := below_row (Below.refl _ _) (OwnR.nil encP w5 w5.heap.size) g6 (Nat.le_refl _); obtain ⟨z0, z1, z2⟩ := HX.out w6 (below_on b5 b6); obtain ⟨ao6, m6, c6, rfl⟩ := o6.form)
                  | (at_builtin; refine wpList_append_row goodP Try.underlying32 infoP rfl (by decide) (by decide) _ rfl (.tmp 46) (.tmp 51) rfl w5.heap.size (.slice ao6 m6 c6) ([] ++ (out.take k)) rfl (o6.alloc _) w6.heap.size x rfl (fun j u hu => three_new w6 _ _ _ _ j u hu) (by simp <;> omega) (by have := b6.size; simp; omega) ?_; intro v7 w7 o7 g7 n7; have b7 := below_row (below_on b6 ((Below.refl _ _).alloc (Nat.le_refl _) _)) (o6.alloc _) g7 (by have := b6.size; simp; omega); obtain ⟨ao7, m7, c7, rfl⟩ := o7.form; have HO5b := HO5.later b7)
                  | (at_builtin; refine wpList_append_opt goodP Try.underlying32 infoP rfl (by decide) _ rfl (.tmp 53) (.tmp 56) rfl w5.heap.size (.slice ao7 m7 c7) ([] ++ (out.take k) ++ [x]) rfl o7 _ (out.length - k) _ (out.drop k) (by rw [List.length_drop]) rfl ((by simpa using HO5b.suf goodP k)) (fun h => by cases h) (by unfold maxLen; simp <;> omega) (by simp <;> omega) b7.size ?_; intro v8 w8 o8 g8 n8; have b8 := below_row b7 o7 g8 b7.size; obtain ⟨ao8, m8, c8, rfl⟩ := o8.form))
                go_roundw
                case rel =>
                  refine ⟨i + 1, _, by omega, rfl, by go_num, ?_, below_on HBO.out (below_on b5 b8)⟩
                  rw [HNX.out, HAT2.out]
                  have o9 := o8.base (base' := w3.heap.size) (by have := HBO.out.size; have := b5.size; omega)
                  simpa using o9
                case measure => simp [intOf]; omega
          · have hki : ¬ (k : Int) < (out.length : Int) := by omega
            have HAT2 : Hid (insP x out = out.take k ++ x :: out.drop k) := insP_at hk HALL.out (fun h => absurd h hkl)
            go_wp2_with fail
            refine region_inv [false, false, false, false, false, false, false, false, false, false, false, false, false, false, false, false, false, false, false, false, false, false, false, false, true, true, true, true, true, true, true, true, true, true, true, true, true, true, true, false, false, false, false, false, false, false, false, false, false, false, false, false, false, false, false, false, false, false, false]
              [(24, [], none), (25, [], none), (26, [25], none), (27, [24, 26], none), (28, [27], none), (29, [28], some (28, true)), (30, [28], some (28, true)), (31, [28, 29, 30], some (28, true)), (32, [28, 31], some (28, true)), (33, [28], some (28, true)), (34, [28], some (28, true)), (35, [28, 33, 34], some (28, true)), (36, [28, 35], some (28, true)), (37, [28, 32, 36], some (28, true)), (38, [28, 37], none)]
              (roF g out.length cap2 gm om ms.length cM k i x x) (by kernel_rfl) (by kernel_rfl) (roF_mono g out.length cap2 gm om ms.length cM k i x x) ?_ ?_
            · refine ⟨?_, ?_, ?_, ?_, ?_, ?_, ?_, ?_, ?_, ?_, ?_, ?_, ?_, ?_, ?_, trivial⟩
              · intro f w1 hb _ K hK
                simp only [over, overL, Nat.reduceAdd]
                go_simp
                exact hK _ _ ⟨_, rfl, by simp only [over, overL, Nat.reduceAdd]; rfl, Below.refl _ _⟩
              · intro f w1 hb _ K hK
                simp only [over, overL, Nat.reduceAdd]
                go_simp
                exact hK _ _ ⟨_, rfl, by simp only [over, overL, Nat.reduceAdd]; rfl, Below.refl _ _⟩
              · intro f w1 hb ⟨h25, _⟩ K hK
                replace h25 : f 25 = _ := h25
                simp only [over, overL, Nat.reduceAdd, h25]
                go_simp
                exact hK _ _ ⟨_, rfl, by simp only [over, overL, Nat.reduceAdd, h25]; rfl, Below.refl _ _⟩
              · intro f w1 hb ⟨h24, h26, _⟩ K hK
                replace h24 : f 24 = _ := h24
                replace h26 : f 26 = _ := h26
                simp only [over, overL, Nat.reduceAdd, h24, h26]
                go_simp
                exact hK _ _ ⟨_, rfl, by simp only [over, overL, Nat.reduceAdd, h24, h26]; rfl, Below.refl _ _⟩
              · intro f w1 hb ⟨h27, _⟩ K hK
                replace h27 : f 27 = _ := h27
                simp only [over, overL, Nat.reduceAdd, h27]
                go_simp
                exact hK _ _ ⟨_, rfl, by simp only [over, overL, Nat.reduceAdd, h27]; rfl, Below.refl _ _⟩
              · intro f w1 hb ⟨h28, _⟩
                replace h28 : f 28 = _ := h28
                exact ⟨fun hg => absurd (h28.symm.trans hg) (by simp), fun _ => trivial⟩
              · intro f w1 hb ⟨h28, _⟩
                replace h28 : f 28 = _ := h28
                exact ⟨fun hg => absurd (h28.symm.trans hg) (by simp), fun _ => trivial⟩
              · intro f w1 hb ⟨h28, h29, h30, _⟩
                replace h28 : f 28 = _ := h28
                exact ⟨fun hg => absurd (h28.symm.trans hg) (by simp), fun _ => trivial⟩
              · intro f w1 hb ⟨h28, h31, _⟩
                replace h28 : f 28 = _ := h28
                exact ⟨fun hg => absurd (h28.symm.trans hg) (by simp), fun _ => trivial⟩
              · intro f w1 hb ⟨h28, _⟩
                replace h28 : f 28 = _ := h28
                exact ⟨fun hg => absurd (h28.symm.trans hg) (by simp), fun _ => trivial⟩
              · intro f w1 hb ⟨h28, _⟩
                replace h28 : f 28 = _ := h28
                exact ⟨fun hg => absurd (h28.symm.trans hg) (by simp), fun _ => trivial⟩
              · intro f w1 hb ⟨h28, h33, h34, _⟩
                replace h28 : f 28 = _ := h28
                exact ⟨fun hg => absurd (h28.symm.trans hg) (by simp), fun _ => trivial⟩
              · intro f w1 hb ⟨h28, h35, _⟩
                replace h28 : f 28 = _ := h28
                exact ⟨fun hg => absurd (h28.symm.trans hg) (by simp), fun _ => trivial⟩
              · intro f w1 hb ⟨h28, h32, h36, _⟩
                replace h28 : f 28 = _ := h28
                exact ⟨fun hg => absurd (h28.symm.trans hg) (by simp), fun _ => trivial⟩
              · intro f w1 hb ⟨h28, h37, _⟩ K hK
                replace h28 : f 28 = _ := h28
                simp only [over, overL, Nat.reduceAdd, h28]
                go_simp
                exact hK _ _ ⟨_, rfl, by simp only [over, overL, Nat.reduceAdd, h28]; rfl, Below.refl _ _⟩
            · intro f w5 b4 hv
              have h38 : f 38 = .bool false := hv.2.2.2.2.2.2.2.2.2.2.2.2.2.2.1
              have b5 := below_on HBK.out b4
              clear hv b4
              simp only [over, overL, Nat.reduceAdd, h38]
              have HO5 := HOV.out.later b5
              by_cases hc0 : cap2 = 0
              · subst hc0
                have hk0 : k = 0 := by omega
                subst hk0
                go_wp2_with (first
                  | (at_builtin; refine wpList_append_opt goodP Try.underlying32 infoP rfl (by decide) _ rfl (.tmp 41) (.tmp 44) rfl w5.heap.size (.slice none 0 0) [] rfl (OwnR.nil _ _ _) (some ⟨g, 0, none⟩) 0 _ (out.take 0) (by rw [List.length_take]; omega) rfl (HO5.pre goodP 0) (fun h => by cases h) (by unfold maxLen; simp <;> omega) (by simp <;> omega) (Nat.le_refl _) ?_; intro v6 w6 o6 g6 n6; have b6 := below_row (Below.refl _ _) (OwnR.nil encP w5 w5.heap.size) g6 (Nat.le_refl _); obtain ⟨z0, z1, z2⟩ := HX.out w6 (below_on b5 b6); obtain ⟨ao6, m6, c6, rfl⟩ := o6.form)
                  | (at_builtin; refine wpList_append_row goodP Try.underlying32 infoP rfl (by decide) (by decide) _ rfl (.tmp 46) (.tmp 51) rfl w5.heap.size (.slice ao6 m6 c6) ([] ++ (out.take 0)) rfl (o6.alloc _) w6.heap.size x rfl (fun j u hu => three_new w6 _ _ _ _ j u hu) (by simp <;> omega) (by have := b6.size; simp; omega) ?_; intro v7 w7 o7 g7 n7; have b7 := below_row (below_on b6 ((Below.refl _ _).alloc (Nat.le_refl _) _)) (o6.alloc _) g7 (by have := b6.size; simp; omega); obtain ⟨ao7, m7, c7, rfl⟩ := o7.form)
                  | (at_builtin; refine wpList_append_opt goodP Try.underlying32 infoP rfl (by decide) _ rfl (.tmp 53) (.tmp 56) rfl w5.heap.size (.slice ao7 m7 c7) ([] ++ (out.take 0) ++ [x]) rfl o7 (some ⟨g, 0, none⟩) _ _ (out.drop 0) (by simp <;> omega) rfl ((by rw [List.drop_of_length_le (by omega)]; exact .inl rfl)) (fun h => by cases h) (by unfold maxLen; simp <;> omega) (by simp <;> omega) b7.size ?_; intro v8 w8 o8 g8 n8; have b8 := below_row b7 o7 g8 b7.size; obtain ⟨ao8, m8, c8, rfl⟩ := o8.form))
                go_roundw
                case rel =>
                  refine ⟨i + 1, _, by omega, rfl, by go_num, ?_, below_on HBO.out (below_on b5 b8)⟩
                  rw [HNX.out, HAT2.out]
                  have o9 := o8.base (base' := w3.heap.size) (by have := HBO.out.size; have := b5.size; omega)
                  simpa using o9
                case measure => simp [intOf]; omega
              · by_cases hck : k = cap2
                · subst hck
                  go_wp2_with (first
                    | (at_builtin; refine wpList_append_opt goodP Try.underlying32 infoP rfl (by decide) _ rfl (.tmp 41) (.tmp 44) rfl w5.heap.size (.slice none 0 0) [] rfl (OwnR.nil _ _ _) (some ⟨g, 0, none⟩) k _ (out.take k) (by rw [List.length_take]; omega) rfl (HO5.pre goodP k) (fun h => by cases h) (by unfold maxLen; simp <;> omega) (by simp <;> omega) (Nat.le_refl _) ?_; intro v6 w6 o6 g6 n6; have b6 := below_row (Below.refl _ _) (OwnR.nil encP w5 w5.heap.size) g6 (Nat.le_refl _); obtain ⟨z0, z1, z2⟩ := HX.out w6 (below_on b5 b6); obtain ⟨ao6, m6, c6, rfl⟩ := o6.form)
                    | (at_builtin; refine wpList_append_row goodP Try.underlying32 infoP rfl (by decide) (by decide) _ rfl (.tmp 46) (.tmp 51) rfl w5.heap.size (.slice ao6 m6 c6) ([] ++ (out.take k)) rfl (o6.alloc _) w6.heap.size x rfl (fun j u hu => three_new w6 _ _ _ _ j u hu) (by simp <;> omega) (by have := b6.size; simp; omega) ?_; intro v7 w7 o7 g7 n7; have b7 := below_row (below_on b6 ((Below.refl _ _).alloc (Nat.le_refl _) _)) (o6.alloc _) g7 (by have := b6.size; simp; omega); obtain ⟨ao7, m7, c7, rfl⟩ := o7.form)
                    | (at_builtin; refine wpList_append_opt goodP Try.underlying32 infoP rfl (by decide) _ rfl (.tmp 53) (.tmp 56) rfl w5.heap.size (.slice ao7 m7 c7) ([] ++ (out.take k) ++ [x]) rfl o7 (some ⟨g, 0, none⟩) _ _ (out.drop k) (by simp <;> omega) rfl ((by rw [List.drop_of_length_le (by omega)]; exact .inl rfl)) (fun h => by cases h) (by unfold maxLen; simp <;> omega) (by simp <;> omega) b7.size ?_; intro v8 w8 o8 g8 n8; have b8 := below_row b7 o7 g8 b7.size; obtain ⟨ao8, m8, c8, rfl⟩ := o8.form))
                  go_roundw
                  case rel =>
                    refine ⟨i + 1, _, by omega, rfl, by go_num, ?_, below_on HBO.out (below_on b5 b8)⟩
                    rw [HNX.out, HAT2.out]
                    have o9 := o8.base (base' := w3.heap.size) (by have := HBO.out.size; have := b5.size; omega)
                    simpa using o9
                  case measure => simp [intOf]; omega
                · have hck2 : k < cap2 := by omega
                  go_wp2_with (first
                    | (at_builtin; refine wpList_append_opt goodP Try.underlying32 infoP rfl (by decide) _ rfl (.tmp 41) (.tmp 44) rfl w5.heap.size (.slice none 0 0) [] rfl (OwnR.nil _ _ _) (some ⟨g, 0, none⟩) k _ (out.take k) (by rw [List.length_take]; omega) rfl (HO5.pre goodP k) (fun h => by cases h) (by unfold maxLen; simp <;> omega) (by simp <;> omega) (Nat.le_refl _) ?_; intro v6 w6 o6 g6 n6; have b6 := below_row (Below.refl _ _) (OwnR.nil encP w5 w5.heap.size) g6 (Nat.le_refl _); obtain ⟨z0, z1, z2⟩ := HX.out w6 (below_on b5 b6); obtain ⟨ao6, m6, c6, rfl⟩ := o6.form)
                    | (at_builtin; refine wpList_append_row goodP Try.underlying32 infoP rfl (by decide) (by decide) _ rfl (.tmp 46) (.tmp 51) rfl w5.heap.size (.slice ao6 m6 c6) ([] ++ (out.take k)) rfl (o6.alloc _) w6.heap.size x rfl (fun j u hu => three_new w6 _ _ _ _ j u hu) (by simp <;> omega) (by have := b6.size; simp; omega) ?_; intro v7 w7 o7 g7 n7; have b7 := below_row (below_on b6 ((Below.refl _ _).alloc (Nat.le_refl _) _)) (o6.alloc _) g7 (by have := b6.size; simp; omega); obtain ⟨ao7, m7, c7, rfl⟩ := o7.form; have HO5b := HO5.later b7)
                    | (at_builtin; refine wpList_append_opt goodP Try.underlying32 infoP rfl (by decide) _ rfl (.tmp 53) (.tmp 56) rfl w5.heap.size (.slice ao7 m7 c7) ([] ++ (out.take k) ++ [x]) rfl o7 _ (out.length - k) _ (out.drop k) (by rw [List.length_drop]) rfl ((by simpa using HO5b.suf goodP k)) (fun h => by cases h) (by unfold maxLen; simp <;> omega) (by simp <;> omega) b7.size ?_; intro v8 w8 o8 g8 n8; have b8 := below_row b7 o7 g8 b7.size; obtain ⟨ao8, m8, c8, rfl⟩ := o8.form))
                  go_roundw
                  case rel =>
                    refine ⟨i + 1, _, by omega, rfl, by go_num, ?_, below_on HBO.out (below_on b5 b8)⟩
                    rw [HNX.out, HAT2.out]
                    have o9 := o8.base (base' := w3.heap.size) (by have := HBO.out.size; have := b5.size; omega)
                    simpa using o9
                  case measure => simp [intOf]; omega
    · have hii : ¬ (i : Int) < (ms.length : Int) := by omega
      have e : ms.take i = ms := List.take_of_length_le (by omega)
      rw [e] at HOV
      clear e
      obtain ⟨aoV, cV, rfl⟩ := HOV.out.shape
      go_wp2
      go_ret
      exact ⟨below_on HB3.out HBO.out, aoV, ⟨cV, by rw [← HMS.out]; rfl⟩, by rw [← HMS.out]; exact HOV.out.rd goodP⟩
end Go.Proofs.Ytgbnjgenopdmfaa
