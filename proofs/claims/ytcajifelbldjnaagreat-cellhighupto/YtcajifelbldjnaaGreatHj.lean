import Derived.Test.YtcajifelbldjnaaGreatHh
import Derived.Test.YtcajifelbldjnaaGreatHi

/- Regions that draw their order and end in stores, where an edge that does not bind may point forward. -/
namespace Go.Proofs.YtcajifelbldjnaaGreat
open Go.RowKit
section
variable {P : Program} {Q : Exit → Act → World → Prop} {a : Act} {m : List Bool} {V : Nat → Value → World → Prop} {w0 : World} {ops : Array Oper} {plan : Plan} {k : Nat}
theorem seqE_any (hmono : ∀ d v w w', V d v w → Below w.heap.size w w' → V d v w') (hback : backE 0 ops.toList = true) (hnd : nodupB (plan.map (·.1)) = true) (hall : planAll ops m a.tmps.size (ops.toList.take k) plan = true) (hseq : seqB ops k = true) (hk : k ≤ ops.size)
    (hob : Obls P Q a m V w0 (ops.toList.take k) plan) (hsuf : ∀ f w, Below w0.heap.size w0 w → AllP V f w plan → wpList P ops Q (ops.toList.drop k) (over a m f) w) :
    ∀ (fuel : Nat) (listed : Array Bool) (a' : Act) (w : World), listed.size = ops.size → listed.toList.count false ≤ fuel → St P Q a m V w0 ops k listed a' w → wpAny P .any ops Q fuel listed a' w := by
  have hcov : ∀ {listed : Array Bool}, Closed ops listed → ∀ {i : Nat}, i ∈ Region.ready .any ops listed → k ≤ i → ∀ j, j < i → listed[j]? = some true := by
    intro listed hc i hi hki j hj
    obtain ⟨hlt, _, hp⟩ := ready_pre hi
    unfold seqB at hseq
    have h1 := List.all_eq_true.1 hseq i (by simpa using hlt)
    rw [Bool.or_eq_true] at h1
    rcases h1 with h1 | h1
    · simp at h1; omega
    · exact covers_listed hc _ i j hp (List.all_eq_true.1 h1 j (by simpa using hj))
  have htoSuf : ∀ {listed : Array Bool} {a' : Act} {w : World}, Inv a m V w0 ops listed a' w → (∀ j, j < k → listed[j]? = some true) → wpList P ops Q (ops.toList.drop k) a' w := by
    rintro listed a' w ⟨f, rfl, hb, hV⟩ hl
    refine hsuf f w hb (allP_of hall fun i o d ho hd => ?_)
    have hik : i < k := by
      by_cases h : i < k
      · exact h
      · rw [List.getElem?_take, if_neg h] at ho; cases ho
    rw [List.getElem?_take, if_pos hik] at ho
    exact hV i o d (by simpa using ho) hd (hl i hik)
  have hend : ∀ (listed : Array Bool) (a' : Act) (w : World), listed.size = ops.size → St P Q a m V w0 ops k listed a' w → Region.ready .any ops listed = [] → Q .normal a' w := by
    rintro listed a' w hsz ⟨_, h⟩ hr
    have hal := all_listedE hback hsz hr
    rcases h with ⟨hs, hI⟩ | ⟨i, hki, hl, hw⟩
    · have hks : k = ops.size := by
        by_cases h : k < ops.size
        · exact absurd (hal k h) (hs k (Nat.le_refl _))
        · omega
      have := htoSuf hI fun j hj => hal j (by omega)
      rw [List.drop_eq_nil_of_le (by simp; omega)] at this
      exact this
    · have : ops.size ≤ i := by
        by_cases h : i < ops.size
        · have := (hl i h).1 (hal i h); omega
        · omega
      rw [List.drop_eq_nil_of_le (by simpa using this)] at hw
      exact hw
  have hstepL : ∀ {listed : Array Bool} {a' : Act} {w : World} {i : Nat}, i < ops.size → k ≤ i → (∀ j, j < ops.size → (listed[j]? = some true ↔ j < i)) → Closed ops (listed.setIfInBounds i true) → listed.size = ops.size → wpList P ops Q (ops.toList.drop i) a' w →
      wpOp P ops Q i (fun a2 w2 => St P Q a m V w0 ops k (listed.setIfInBounds i true) a2 w2) a' w := by
    intro listed a' w i hi hki hl hc hsz hw
    have hd : ops.toList.drop i = ops[i] :: ops.toList.drop (i + 1) := by
      rw [List.drop_eq_getElem_cons (by simpa using hi)]; simp
    have hnext : ∀ a2 w2, wpList P ops Q (ops.toList.drop (i + 1)) a2 w2 → St P Q a m V w0 ops k (listed.setIfInBounds i true) a2 w2 := fun a2 w2 h =>
      ⟨hc, .inr ⟨i + 1, by omega, fun j hj => by
        rw [Array.getElem?_setIfInBounds]
        by_cases e : i = j
        · subst e; rw [if_pos rfl, if_pos (by omega)]; simp
        · rw [if_neg e, hl j hj]; omega, h⟩⟩
    rw [hd] at hw
    unfold wpList at hw
    unfold wpOp
    rw [show ops[i]? = some ops[i] by simp [hi]]
    simp only
    split
    · rename_i hwn
      rw [if_pos hwn] at hw
      exact hw.imp (Oper.wp_mono hnext) id
    · rename_i hwn
      rw [if_neg hwn] at hw
      exact hnext _ _ hw
  intro fuel
  induction fuel with
  | zero =>
    intro listed a' w hsz hc hI
    have hr : Region.ready .any ops listed = [] := by
      rw [List.eq_nil_iff_forall_not_mem]
      intro i hi
      obtain ⟨hlt, h1, _⟩ := ready_pre hi
      have h0 : listed.toList.count false = 0 := by omega
      rw [List.count_eq_zero] at h0
      have hlt2 : i < listed.size := by omega
      simp only [Array.getD_eq_getD_getElem?, Array.getElem?_eq_getElem hlt2, Option.getD_some] at h1
      exact h0 (by rw [← h1]; simp)
    exact ⟨hr, hend listed a' w hsz hI hr⟩
  | succ fuel ih =>
    intro listed a' w hsz hc hI
    refine ⟨hend listed a' w hsz hI, fun i hi => ?_⟩
    have hrp := ready_pre hi
    have hlt2 : i < listed.size := by omega
    have h1 := hrp.2.1
    simp only [Array.getD_eq_getD_getElem?, Array.getElem?_eq_getElem hlt2, Option.getD_some] at h1
    have hcount : (listed.setIfInBounds i true).toList.count false ≤ fuel := by
      have hl : i < listed.toList.length := by simpa using hlt2
      have h2 : listed.toList[i] = false := by simpa using h1
      rw [Array.toList_setIfInBounds, List.count_set hl, h2]
      have hp : 0 < listed.toList.count false := List.count_pos_iff.2 (by rw [← h2]; exact List.getElem_mem _)
      rw [if_pos (by rfl), if_neg (by decide)]
      omega
    have hnl : listed[i]? ≠ some true := by rw [Array.getElem?_eq_getElem hlt2, h1]; simp
    refine wpOp_mono (K := fun a2 w2 => St P Q a m V w0 ops k (listed.setIfInBounds i true) a2 w2) (fun a2 w2 h2 => ih _ _ _ (by simpa using hsz) hcount h2) ?_
    obtain ⟨hcl, hS⟩ := hI
    have hcl2 := closed_next hcl hi
    rcases hS with ⟨hsu, hI⟩ | ⟨i0, hki, hl, hw⟩
    · by_cases hik : i < k
      · refine wpOp_mono (fun a2 w2 h2 => ⟨hcl2, .inl ⟨fun j hj => ?_, h2⟩⟩) (seq_step hmono hnd hall hob hik hsu hi hI)
        rw [Array.getElem?_setIfInBounds, if_neg (by omega)]
        exact hsu j hj
      · have hlow := hcov hcl hi (by omega)
        have he : i = k := by
          by_cases h : i = k
          · exact h
          · exact absurd (hlow k (by omega)) (hsu k (Nat.le_refl _))
        subst he
        refine hstepL hrp.1 (Nat.le_refl _) (fun j hj => ⟨fun h => ?_, fun h => hlow j h⟩) hcl2 hsz (htoSuf hI hlow)
        by_cases h2 : j < i
        · exact h2
        · exact absurd h (hsu j (by omega))
    · have hge : i0 ≤ i := by
        by_cases h : i < i0
        · exact absurd ((hl i hrp.1).2 h) hnl
        · omega
      have hlow := hcov hcl hi (by omega)
      have he : i = i0 := by
        by_cases h : i = i0
        · exact h
        · have := (hl i0 (by omega)).1 (hlow i0 (by omega)); omega
      subst he
      exact hstepL hrp.1 hki hl hcl2 hsz hw

/-- A region that draws its order and ends in stores. -/
theorem region_seqE {id : Nat} (k : Nat) (m : List Bool) (plan : Plan) (V : Nat → Value → World → Prop) (hmix : P.follows .mixedOrders = true) (hback : backE 0 ops.toList = true) (hnd : nodupB (plan.map (·.1)) = true) (hall : planAll ops m a.tmps.size (ops.toList.take k) plan = true)
    (hseq : seqB ops k = true) (hk : k ≤ ops.size) (hmono : ∀ d v w w', V d v w → Below w.heap.size w w' → V d v w') (hob : Obls P Q a m V w0 (ops.toList.take k) plan)
    (hsuf : ∀ f w, Below w0.heap.size w0 w → AllP V f w plan → wpList P ops Q (ops.toList.drop k) (over a m f) w) : (Code.region id ops true).wp P Q a w0 := by
  refine wp_region_any hmix (seqE_any hmono hback hnd hall hseq hk hob hsuf _ _ _ _ (by simp) (by simp) ⟨?_, .inl ⟨?_, fun k => (a.tmps.toList[k]?).getD undef, (over_start a m).symm, ⟨rfl, rfl, rfl, Nat.le_refl _, fun _ _ => rfl⟩, ?_⟩⟩)
  · intro i o _ h
    simp [Array.getElem?_replicate] at h
  · intro j _ h
    simp [Array.getElem?_replicate] at h
  · intro i o d _ _ h
    simp [Array.getElem?_replicate] at h
end
end Go.Proofs.YtcajifelbldjnaaGreat

/- newLayout walked. -/
namespace Go.Proofs.YtcajifelbldjnaaGreat
open Go.RowKit F
set_option linter.unusedVariables false in
def nlV (S : Nat) (s : Sit) (d : Nat) (v : Value) (_ : World) : Prop :=
  match d with
  | 34 => v = .pointer (some ⟨S, 0, none⟩)
  | 35 => v = .int .i64 s.slot
  | 36 => v = .pointer (some ⟨S, 1, none⟩)
  | 37 => v = .pointer (some ⟨S, 12, none⟩)
  | 38 => v = .int .i64 s.ware.cap
  | 4 => v = .int .i64 s.slot
  | _ => True
set_option linter.unusedVariables false in
theorem nlV_mono (S : Nat) (s : Sit) (d : Nat) (v : Value) (w w' : World) (h : nlV S s d v w) (_ : Below w.heap.size w w') : nlV S s d v w' := h
abbrev sl14 (s : Sit) : List Value := [.int .i64 s.slot, .string s.ware.name, .int .i64 s.ware.kind, .int .i64 s.ware.rows, .int .i64 s.ware.cols, .int .i64 s.ware.x, .int .i64 s.ware.y, .int .i64 s.ware.pitch, .int .i64 s.ware.wid, .int .i64 s.ware.len, .int .i64 s.ware.hei, .int .i64 s.ware.deep, .int .i64 s.ware.cap, .string s.name]
set_option maxHeartbeats 6400000 in
set_option maxRecDepth 100000 in
theorem newLayout_any (ao : Option Addr) (cap : Nat) (l : List Sit) (w : World) (hD : Dk w ao cap l) (hd : dchk l = 0) :
    Calls Tryz.prog 51 #[.slice ao l.length cap] w fun e w' => e = .returned (layv ao cap l) ∧ Below w.heap.size w w' := by
  have HD : Hid (Dk w ao cap l) := hD
  have hl12 : l.length ≤ 12 := dk_len hd
  have HV : Hid (layv ao cap l = .agg #[.slice ao l.length cap, .int .i64 (rkSum l : Nat), .int .i64 (layL l).2]) := by
    show _ = _
    rw [layv, tips_sum (slots_of hd), layL_tipM hd]
  have HDC : Hid (dchk l = 0) := hd
  clear hD hd
  obtain ⟨w0, hw0⟩ : ∃ w0, w0 = (w.alloc (.cells #[.slice none 0 0, .int .i64 0, .int .i64 0] 124)).alloc (.cells #[.slice ao l.length cap, .int .i64 0, .int .i64 0] 124) := ⟨_, rfl⟩
  have KR0 : Hid (Bk w.heap.size [.slice none 0 0, .int .i64 0, .int .i64 0] w0) := by
    show Bk _ _ _
    rw [hw0]
    exact (Bk.new w [.slice none 0 0, .int .i64 0, .int .i64 0] 124 w.heap.size rfl).later ((Below.refl _ _).alloc (Nat.le_refl _) _)
  have KY0 : Hid (Bk (w.heap.size + 1) [.slice ao l.length cap, .int .i64 0, .int .i64 0] w0) := by
    show Bk _ _ _
    rw [hw0]
    exact Bk.new _ [.slice ao l.length cap, .int .i64 0, .int .i64 0] 124 (w.heap.size + 1) (by simp)
  have HB0 : Hid (Below w.heap.size w w0) := by show Below _ _ _; rw [hw0]; exact ((Below.refl _ _).alloc (Nat.le_refl _) _).alloc (by simp) _
  go_enter Tryz.func51, Tryz.ntmps51
  go_wp2
  try rw [← hw0]
  clear hw0
  go_loopw [4, 11] (fun a i wr => ∃ k : Nat, k ≤ l.length ∧ i = .int .i64 k ∧ a = .int .i64 (layL (l.take k)).1 ∧ Bk w.heap.size [.slice none 0 0, .int .i64 0, .int .i64 0] wr ∧ Bk (w.heap.size + 1) [.slice ao l.length cap, .int .i64 (rkSum (l.take k) : Nat), .int .i64 (layL (l.take k)).2] wr ∧ Below w.heap.size w wr) (fun _ i _ => l.length - (intOf i).toNat)
  case atStart => exact ⟨0, Nat.zero_le _, rfl, rfl, KR0.out, KY0.out, HB0.out⟩
  case round =>
    obtain ⟨k, hk, rfl, rfl, hR, hY, hB⟩ := hrel
    have HR : Hid (Bk w.heap.size [.slice none 0 0, .int .i64 0, .int .i64 0] wr) := hR
    have HY : Hid (Bk (w.heap.size + 1) [.slice ao l.length cap, .int .i64 (rkSum (l.take k) : Nat), .int .i64 (layL (l.take k)).2] wr) := hY
    have HB : Hid (Below w.heap.size w wr) := hB
    clear hR hY hB
    by_cases hlt : k < l.length
    · obtain ⟨b, off, rfl, hbx⟩ := (HD.out.next HB.out).sts.at hlt
      have hmem := List.getElem_mem hlt
      have hw := dchk_ware HDC.out hmem
      have hR := inR_iff.1 (chk_in hw.1).2.2.1
      have hC := inR_iff.1 (chk_in hw.1).2.2.2.1
      have HT : Hid (l.take (k + 1) = l.take k ++ [l[k]'hlt]) := by show _ = _; rw [List.take_succ_eq_append_getElem]
      have HSM : Hid (rkSum (l.take k) ≤ 384 * k) := by
        show _ ≤ _
        have : ∀ j, j ≤ k → rkSum (l.take j) ≤ 384 * j := by
          intro j
          induction j with
          | zero => intro _; simp [rkSum]
          | succ j ih =>
            intro hj
            have e : l.take (j + 1) = l.take j ++ [l[j]'(by omega)] := by rw [List.take_succ_eq_append_getElem]
            have hw2 := dchk_ware HDC.out (List.getElem_mem (show j < l.length by omega))
            have h1 := inR_iff.1 (chk_in hw2.1).2.2.1
            have h2 := inR_iff.1 (chk_in hw2.1).2.2.2.1
            rw [e, rkSum_append]
            have h3 : rkN (l[j]'(by omega)) ≤ 384 := by
              unfold rkN
              split
              · have := Nat.mul_le_mul (show (l[j]'(by omega)).ware.rows.toNat ≤ 16 by omega) (show (l[j]'(by omega)).ware.cols.toNat ≤ 24 by omega)
                omega
              · omega
            have := ih (by omega)
            simp only [rkSum]
            omega
        exact this k (Nat.le_refl _)
      generalize l[k]'hlt = s at *
      have HCap := (show Hid _ from chk_cap hw.1)
      obtain ⟨_, c0, c1, c2, c3, c4, c5, c6, c7, c8, c9, c10, c11, c12, c13⟩ := hbx
      have hsz : w.heap.size + 1 < wr.heap.size := HY.out.1
      have hki : (k : Int) < (l.length : Int) := by omega
      have y1 := HY.out.c 1 rfl
      have yf1 := HY.out.f 1 rfl
      have yf2 := HY.out.f 2 rfl
      have y2 := HY.out.c 2 rfl
      have hsum := HSM.out
      have hne1 : w.heap.size + 1 ≠ wr.heap.size := by omega
      by_cases hkd : s.ware.kind = 2
      · have hkd2 : (s.ware.kind != 2) = false := by simp [hkd]
        have hmle : s.ware.rows.toNat * s.ware.cols.toNat ≤ 384 := by
          have := Nat.mul_le_mul (show s.ware.rows.toNat ≤ 16 by omega) (show s.ware.cols.toNat ≤ 24 by omega)
          omega
        have hmul : s.ware.rows * s.ware.cols = ((s.ware.rows.toNat * s.ware.cols.toNat : Nat) : Int) := by
          rw [Int.natCast_mul, Int.toNat_of_nonneg (by omega), Int.toNat_of_nonneg (by omega)]
        obtain ⟨M, hM⟩ : ∃ M : Int, M = ((s.ware.rows.toNat * s.ware.cols.toNat : Nat) : Int) := ⟨_, rfl⟩
        have hA : wrap64 (s.ware.rows * s.ware.cols) = M := by
          rw [hmul, hM]
          unfold wrap64
          omega
        obtain ⟨N, hN⟩ : ∃ N : Int, N = ((rkSum (l.take k) + s.ware.rows.toNat * s.ware.cols.toNat : Nat) : Int) := ⟨_, rfl⟩
        have hA2 : wrap64 ((rkSum (l.take k) : Int) + M) = N := by
          rw [hN, hM]
          unfold wrap64
          omega
        have HNN : Hid (N = ((rkSum (l.take k) + s.ware.rows.toNat * s.ware.cols.toNat : Nat) : Int)) := hN
        clear hN hM hmul hmle
        have HRK : Hid (rkN s = s.ware.rows.toNat * s.ware.cols.toNat) := if_pos hkd
        have HLS : Hid (layS (layL (l.take k)) s = if s.slot < (layL (l.take k)).1 then (s.slot, s.ware.cap) else layL (l.take k)) := if_pos hkd
        clear hkd
        by_cases hsl : s.slot < (layL (l.take k)).1
        · go_wp2_with fail
          try rw [hA]
          try rw [hA2]
          clear hA hA2
          obtain ⟨w2, hw2⟩ : ∃ w2, w2 = (wr.setCell ⟨w.heap.size + 1, 1, none⟩ (.int .i64 N)).alloc (sobj s) := ⟨_, rfl⟩
          have hz : (wr.setCell ⟨w.heap.size + 1, 1, none⟩ (.int .i64 N)).heap.size = wr.heap.size := by simp [World.setCell]
          have al := (Below.refl (wr.setCell ⟨w.heap.size + 1, 1, none⟩ (.int .i64 N)).heap.size (wr.setCell ⟨w.heap.size + 1, 1, none⟩ (.int .i64 N))).alloc (Nat.le_refl _) (sobj s)
          have KS : Hid (Bk wr.heap.size (sl14 s) w2) := by show Bk _ _ _; rw [hw2]; exact Bk.new _ (sl14 s) 78 wr.heap.size hz.symm
          have KR2 : Hid (Bk w.heap.size [.slice none 0 0, .int .i64 0, .int .i64 0] w2) := by show Bk _ _ _; rw [hw2]; exact (HR.out.other (by simp) 1 _).later al
          have KY2 : Hid (Bk (w.heap.size + 1) [.slice (some ⟨b, off, none⟩) l.length cap, .int .i64 N, .int .i64 (layL (l.take k)).2] w2) := by show Bk _ _ _; rw [hw2]; exact (HY.out.put 1 (.int .i64 N)).later al
          have HB2 : Hid (Below w.heap.size w w2) := by show Below _ _ _; rw [hw2]; exact (HB.out.setCell (by simp) _).alloc (by have := HB.out.size; simp [World.setCell]; omega) _
          rw [← hw2]
          clear hw2 al hz
          refine region_seqE 6 [false, false, false, false, true, false, false, false, false, false, false, false, false, false, false, false, false, false, false, false, false, false, false, false, false, false, false, false, false, false, false, false, false, false, true, true, true, true, true, false, false, false]
            [(34, [], none), (35, [34], none), (36, [], none), (37, [36], none), (38, [37], none), (4, [35], none)]
            (nlV wr.heap.size s) (by kernel_rfl) (by kernel_rfl) (by kernel_rfl) (by kernel_rfl) (by kernel_rfl) (by decide) (nlV_mono wr.heap.size s) ?_ ?_
          · refine ⟨?_, ?_, ?_, ?_, ?_, ?_, trivial⟩
            · intro f w1 hb _ K hK
              simp only [over, overL, Nat.reduceAdd]
              go_simp
              exact hK _ _ ⟨_, rfl, by simp only [over, overL, Nat.reduceAdd]; rfl, Below.refl _ _⟩
            · intro f w1 hb ⟨h34, _⟩ K hK
              replace h34 : f 34 = _ := h34
              have q0 := (KS.out.later hb).c 0 rfl
              simp only [over, overL, Nat.reduceAdd, h34]
              go_simp
              exact hK _ _ ⟨_, rfl, by simp only [over, overL, Nat.reduceAdd, h34]; rfl, Below.refl _ _⟩
            · intro f w1 hb _ K hK
              simp only [over, overL, Nat.reduceAdd]
              go_simp
              exact hK _ _ ⟨_, rfl, by simp only [over, overL, Nat.reduceAdd]; rfl, Below.refl _ _⟩
            · intro f w1 hb ⟨h36, _⟩ K hK
              replace h36 : f 36 = _ := h36
              simp only [over, overL, Nat.reduceAdd, h36]
              go_simp
              exact hK _ _ ⟨_, rfl, by simp only [over, overL, Nat.reduceAdd, h36]; rfl, Below.refl _ _⟩
            · intro f w1 hb ⟨h37, _⟩ K hK
              replace h37 : f 37 = _ := h37
              have q12 := (KS.out.later hb).c 12 rfl
              simp only [over, overL, Nat.reduceAdd, h37]
              go_simp
              exact hK _ _ ⟨_, rfl, by simp only [over, overL, Nat.reduceAdd, h37]; rfl, Below.refl _ _⟩
            · intro f w1 hb ⟨h35, _⟩ K hK
              replace h35 : f 35 = _ := h35
              simp only [over, overL, Nat.reduceAdd, h35]
              go_simp
              exact hK _ _ ⟨_, rfl, by simp only [over, overL, Nat.reduceAdd, h35]; rfl, Below.refl _ _⟩
          · intro f w3 hb3 hv
            have h38 : f 38 = .int .i64 s.ware.cap := hv.2.2.2.2.1
            have h4 : f 4 = .int .i64 s.slot := hv.2.2.2.2.2.1
            have KY3 := KY2.out.later hb3
            have q2 := KY3.c 2 rfl
            have qf2 := KY3.f 2 rfl
            simp only [over, overL, Nat.reduceAdd, h38, h4]
            go_wp2
            go_roundw
            case rel =>
              refine ⟨k + 1, by omega, by go_num, ?_, (KR2.out.later hb3).other (by simp) _ _, ?_, (below_on HB2.out hb3).setCell (by simp) _⟩
              · rw [HT.out, layL_snoc, HLS.out, if_pos hsl]
              · rw [HT.out, layL_snoc, HLS.out, if_pos hsl, rkSum_append]
                have hh := KY3.put 2 (.int .i64 s.ware.cap)
                simp only [rkSum, HRK.out, Nat.add_zero]
                rw [HNN.out] at hh
                exact hh
            case measure => simp [intOf]; omega
        · go_wp2
          go_roundw
          case rel =>
            have b2 : Below w.heap.size w ((wr.setCell ⟨w.heap.size + 1, 1, none⟩ (.int .i64 N)).alloc (sobj s)) := (HB.out.setCell (by simp) _).alloc (by have := HB.out.size; simp [World.setCell]; omega) _
            refine ⟨k + 1, by omega, by go_num, ?_, (HR.out.other (by simp) 1 _).later ((Below.refl _ _).alloc (Nat.le_refl _) _), ?_, b2⟩
            · rw [HT.out, layL_snoc, HLS.out, if_neg hsl]
            · rw [HT.out, layL_snoc, HLS.out, if_neg hsl, rkSum_append]
              have hh := (HY.out.put 1 (.int .i64 N)).later ((Below.refl _ _).alloc (Nat.le_refl _) (sobj s))
              rw [HNN.out] at hh
              simp only [rkSum, HRK.out, Nat.add_zero]
              rw [HNN.out]
              exact hh
          case measure => simp [intOf]; omega
      · have hkd2 : (s.ware.kind != 2) = true := by simp [hkd]
        have HRK : Hid (rkN s = 0) := if_neg hkd
        have HLS : Hid (layS (layL (l.take k)) s = layL (l.take k)) := if_neg hkd
        clear hkd
        go_wp2
        go_roundw
        case rel =>
          have b2 : Below wr.heap.size wr (wr.alloc (sobj s)) := (Below.refl _ _).alloc (Nat.le_refl _) _
          refine ⟨k + 1, by omega, by go_num, ?_, HR.out.later b2, ?_, below_on HB.out b2⟩
          · rw [HT.out, layL_snoc, HLS.out]
          · rw [HT.out, layL_snoc, HLS.out, rkSum_append]
            simp only [rkSum, HRK.out, Nat.add_zero]
            exact HY.out.later b2
        case measure => simp [intOf]; omega
    · have e : k = l.length := by omega
      have y0 := HY.out.c 0 rfl
      have y1 := HY.out.c 1 rfl
      have y2 := HY.out.c 2 rfl
      have r0 := HR.out.c 0 rfl
      have rf0 := HR.out.f 0 rfl
      have r1 := HR.out.c 1 rfl
      have rf1 := HR.out.f 1 rfl
      have r2 := HR.out.c 2 rfl
      have rf2 := HR.out.f 2 rfl
      have lt := HR.out.1
      have HE : Hid (l.take k = l) := List.take_of_length_le (by omega)
      rw [HE.out] at y1 y2
      go_wp2
      refine bodyPost_ret (v := .agg #[.slice ao l.length cap, .int .i64 (rkSum l : Nat), .int .i64 (layL l).2]) (by simp [results, Tryz.results51, go_sem, r0, r1, r2]) rfl ⟨by rw [HV.out], ?_⟩
      exact ((HB.out.setCell (Nat.le_refl _) _).setCell (Nat.le_refl _) _).setCell (Nat.le_refl _) _
end Go.Proofs.YtcajifelbldjnaaGreat

/- mayTake, mayFill, may, May walked. -/
namespace Go.Proofs.YtcajifelbldjnaaGreat
open Go.RowKit
theorem len0_true {α : Type} {l : List α} (h : l = []) : ((l.length : Int) == 0) = true := by simp [h]
theorem len0_false {α : Type} {l : List α} (h : l ≠ []) : ((l.length : Int) == 0) = false := by
  have : l.length ≠ 0 := fun e => h (List.eq_nil_of_length_eq_zero e)
  simp; omega
end Go.Proofs.YtcajifelbldjnaaGreat

/- may, May walked. -/
namespace Go.Proofs.YtcajifelbldjnaaGreat
open Go.RowKit
end Go.Proofs.YtcajifelbldjnaaGreat
