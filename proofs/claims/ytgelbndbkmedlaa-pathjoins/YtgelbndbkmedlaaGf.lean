import Derived.Test.YtgelbndbkmedlaaGd
import Derived.OwnWalkIn
import Derived.TacticsInMore
import Derived.LoopNIn
import Derived.LoopIn
import Derived.Test.YtgelbndbkmedlaaGa

/- The steps of a way: path.steps and what it yields. -/
namespace Go.Proofs.Ytgelbndbkmedlaa.S
open Go.RowKit
attribute [local go_sem] Oper.semAt_some
/-- Each point with the next one. -/
def stepsL (l : List Pt) : List (Pt × Pt) := l.zip l.tail
theorem stepsL_length (l : List Pt) : (stepsL l).length = l.length - 1 := by simp [stepsL]
theorem stepsL_at {l : List Pt} {k : Nat} (h : k + 1 < l.length) : (stepsL l)[k]? = some (l[k]'(by omega), l[k + 1]'h) := by
  unfold stepsL
  rw [List.getElem?_zip_eq_some]
  exact ⟨List.getElem?_eq_getElem (by omega), by rw [List.getElem?_tail]; exact List.getElem?_eq_getElem h⟩
theorem stepsL_take {l : List Pt} {k : Nat} (h : k + 1 < l.length) : (stepsL l).take (k + 1) = (stepsL l).take k ++ [(l[k]'(by omega), l[k + 1]'h)] := by
  have hk : k < (stepsL l).length := by rw [stepsL_length]; omega
  rw [List.take_succ_eq_append_getElem hk]
  have := stepsL_at h
  rw [List.getElem?_eq_getElem hk] at this
  injection this with this
  rw [this]
theorem stepsL_all {l : List Pt} {k : Nat} (h : l.length ≤ k + 1) : (stepsL l).take k = stepsL l := List.take_of_length_le (by rw [stepsL_length]; omega)
theorem steps_any (ao : Option Addr) (n cap : Nat) (w : World) :
    Calls Try.prog 39 #[.slice ao n cap] w fun e w' => e = .returned (.func (.func 64) #[] #[ptr w.heap.size]) ∧ w' = w.alloc (.cells #[.slice ao n cap] 27) := by
  go_enter Try.func39, Try.ntmps39
  go_wp2
  go_ret
  exact ⟨rfl, rfl⟩
theorem enSt : ∀ args w, (callFunc 64 args).run Try.prog w = .ok (.enter 64 args) w := enters_of Try.func64 (by kernel_rfl) rfl
set_option linter.unusedVariables false in
def st3V (l : Nat) (p q : Pt) (b off n cap j k : Nat) (d : Nat) (v : Value) (_ : World) : Prop :=
  match d with
  | 10 => v = .func (.yield l) #[] #[]
  | 11 => v = .slice (some ⟨b, off, none⟩) n cap
  | 12 => v = .int .i64 (j : Int)
  | 13 => v = .int .i64 (k : Int)
  | 14 => v = .pointer (some ⟨b, off + k * 3, none⟩)
  | 15 => v = pv p
  | 16 => v = .slice (some ⟨b, off, none⟩) n cap
  | 17 => v = .int .i64 (j : Int)
  | 18 => v = .pointer (some ⟨b, off + j * 3, none⟩)
  | 19 => v = pv q
  | _ => True
set_option linter.unusedVariables false in
theorem st3V_mono (l : Nat) (p q : Pt) (b off n cap j k : Nat) (d : Nat) (v : Value) (w w' : World) (h : st3V l p q b off n cap j k d v w) (_ : Below w.heap.size w w') : st3V l p q b off n cap j k d v w' := h
set_option maxHeartbeats 6400000 in
set_option maxRecDepth 100000 in
/-- The iterator: each step once, in order, until the body leaves. -/
theorem steps_lv (N0 : Nat) (ao : Option Addr) (cap : Nat) (way : List Pt) (C l : Nat) (M : Nat → Prop) (W : World) (hC : W.cell? ⟨C, 0, none⟩ = some (.slice ao way.length cap)) (hCl : C < W.heap.size) (hA : Pns W ao way) (hl : way.length ≤ 9223372036854775807)
    (hCM : ¬ (M C ∨ C = l)) (hAM : way ≠ [] → ∀ ad, ao = some ad → ¬ (M ad.block ∨ ad.block = l)) :
    SeqLv Try.prog N0 64 #[ptr C] (fun s : Pt × Pt => #[pv s.1, pv s.2]) (· <+: stepsL way) (· = stepsL way) M l W := by
  intro J Jx hJ hJx hY h0
  have HA : Hid (Pns W ao way) := hA
  have HCW : Hid (W.cell? ⟨C, 0, none⟩ = some (.slice ao way.length cap)) := hC
  have HCM : Hid (¬ (M C ∨ C = l)) := hCM
  have HAM : Hid (way ≠ [] → ∀ ad, ao = some ad → ¬ (M ad.block ∨ ad.block = l)) := hAM
  have HY : Hid (∀ pre x W1, J pre W1 → pre ++ [x] <+: stepsL way → W.heap.size ≤ W1.heap.size → YieldAt Fence.wide (N0 - 1) Try.prog l #[pv x.1, pv x.2] W1 fun e W' => (e = .returned (.bool true) ∧ J (pre ++ [x]) W' ∧ Kpt (fun k => M k ∨ k = l) W1 W') ∨ (e = .returned (.bool false) ∧ Jx (pre ++ [x]) W')) := hY
  have HJ : Hid (∀ s A B, J s A → Below A.heap.size A B → J s B) := hJ
  have HJX : Hid (∀ s A B, Jx s A → Below A.heap.size A B → Jx s B) := hJx
  have H0 : Hid (J [] W) := h0
  have HCL : Hid (C < W.heap.size) := hCl
  clear hA hC hCM hAM hY hJ hJx h0 hCl
  refine callsIn_of_wp Try.func64 rfl trivial ?_ rfl
  simp only [Try.ntmps64, List.size_toArray, List.length_cons, List.length_nil, Nat.reduceAdd, Nat.reduceSub, Array.replicate_succ, Array.replicate_zero, List.push_toArray, List.append_toArray, List.nil_append, List.cons_append]
  gi_wp2
  gi_loopw [3] (fun i wr => ∃ k : Nat, (k = 0 ∨ k + 1 ≤ way.length) ∧ i = .int .i64 ((k + 1 : Nat) : Int) ∧ J ((stepsL way).take k) wr ∧ Kpt (fun x => M x ∨ x = l) W wr) (fun i _ => way.length + 1 - (intOf i).toNat)
  case atStart => exact ⟨0, .inl rfl, rfl, by simpa using H0.out, Kpt.refl _ _⟩
  case round =>
    obtain ⟨k, hk, rfl, hj, hkp⟩ := hrel
    have HJ1 : Hid (J ((stepsL way).take k) wr) := hj
    have HKP : Hid (Kpt (fun x => M x ∨ x = l) W wr) := hkp
    clear hj hkp
    obtain ⟨j, hjk⟩ : ∃ j, j = k + 1 := ⟨_, rfl⟩
    rw [← hjk]
    have HC : Hid (wr.cell? ⟨C, 0, none⟩ = some (.slice ao way.length cap)) := (World.cell?_of_block (a := ⟨C, 0, none⟩) (HKP.out.block C HCL.out HCM.out)).trans HCW.out
    have HJK : Hid (j = k + 1) := hjk
    have c0 := HC.out
    by_cases hlt : j < way.length
    · have hkl : k < way.length := by omega
      have HTK : Hid ((stepsL way).take (k + 1) = (stepsL way).take k ++ [(way[k]'hkl, way[j]'hlt)]) := by
        have := stepsL_take (l := way) (k := k) (by omega)
        subst hjk
        exact this
      have HPX : Hid ((stepsL way).take k ++ [(way[k]'hkl, way[j]'hlt)] <+: stepsL way) := by show _ <+: _; rw [← HTK.out]; exact List.take_prefix _ _
      have hAw := HA.out.kpt HKP.out HAM.out
      obtain ⟨b, off, e1, hp⟩ := hAw.at hkl
      obtain ⟨b', off', e2, hq⟩ := hAw.at hlt
      rw [e1] at e2
      injection e2 with e2
      injection e2 with e2 e3
      subst e2 e3
      subst e1
      clear hAw hjk hk
      generalize way[k]'hkl = p at *
      generalize way[j]'hlt = q at *
      have HP0 : Hid (wr.cell? ⟨b, off + k * 3, none⟩ = some (.int .i64 p.x)) := hp.2.1
      have HP1 : Hid (wr.cell? ⟨b, off + k * 3 + 1, none⟩ = some (.int .i64 p.y)) := hp.2.2.1
      have HP2 : Hid (wr.cell? ⟨b, off + k * 3 + 2, none⟩ = some (.int .i64 p.z)) := hp.2.2.2
      have HQ0 : Hid (wr.cell? ⟨b, off + j * 3, none⟩ = some (.int .i64 q.x)) := hq.2.1
      have HQ1 : Hid (wr.cell? ⟨b, off + j * 3 + 1, none⟩ = some (.int .i64 q.y)) := hq.2.2.1
      have HQ2 : Hid (wr.cell? ⟨b, off + j * 3 + 2, none⟩ = some (.int .i64 q.z)) := hq.2.2.2
      have HV : Hid (Value.int .i64 (IntKind.i64.wrap ((j : Int) - 1)) = .int .i64 (k : Int)) := by
        show _ = _
        have := HJK.out
        rw [wrap_is (by omega) (by omega)]
        congr 1
        omega
      have hji : (j : Int) < (way.length : Int) := by omega
      have hki : (k : Int) < (way.length : Int) := by omega
      clear hp hq
      generalize way.length = n at *
      gi_wp2_with fail
      refine region_seqI 10 [false, false, false, false, false, false, false, false, false, false, true, true, true, true, true, true, true, true, true, true, false, false]
        [(10, [], none), (11, [], none), (12, [], none), (13, [12], none), (14, [11, 13], none), (15, [14], none), (16, [], none), (17, [], none), (18, [16, 17], none), (19, [18], none)]
        (st3V l p q b off n cap j k) (by kernel_rfl) (by kernel_rfl) (by kernel_rfl) (by kernel_rfl) (by kernel_rfl) (by decide) (st3V_mono l p q b off n cap j k) ?_ ?_
      · refine ⟨?_, ?_, ?_, ?_, ?_, ?_, ?_, ?_, ?_, ?_, trivial⟩
        · intro f w1 hb _ K hK
          simp only [over, overL, Nat.reduceAdd]
          go_simp
          exact hK _ _ ⟨_, rfl, by simp only [over, overL, Nat.reduceAdd]; rfl, Below.refl _ _⟩
        · intro f w1 hb _ K hK
          have q0 := cell_later hb HC.out
          simp only [over, overL, Nat.reduceAdd]
          go_simp
          exact hK _ _ ⟨_, rfl, by simp only [over, overL, Nat.reduceAdd]; rfl, Below.refl _ _⟩
        · intro f w1 hb _ K hK
          simp only [over, overL, Nat.reduceAdd]
          go_simp
          exact hK _ _ ⟨_, rfl, by simp only [over, overL, Nat.reduceAdd]; rfl, Below.refl _ _⟩
        · intro f w1 hb ⟨h12, _⟩ K hK
          replace h12 : f 12 = _ := h12
          simp only [over, overL, Nat.reduceAdd, h12]
          go_simp
          exact hK _ _ ⟨_, HV.out, by simp only [over, overL, Nat.reduceAdd, h12]; rfl, Below.refl _ _⟩
        · intro f w1 hb ⟨h11, h13, _⟩ K hK
          replace h11 : f 11 = _ := h11
          replace h13 : f 13 = _ := h13
          simp only [over, overL, Nat.reduceAdd, h11, h13]
          go_simp
          exact hK _ _ ⟨_, rfl, by simp only [over, overL, Nat.reduceAdd, h11, h13]; rfl, Below.refl _ _⟩
        · intro f w1 hb ⟨h14, _⟩ K hK
          replace h14 : f 14 = _ := h14
          have q0 := cell_later hb HP0.out
          have q1 := cell_later hb HP1.out
          have q2 := cell_later hb HP2.out
          simp only [over, overL, Nat.reduceAdd, h14]
          go_simp
          exact hK _ _ ⟨_, rfl, by simp only [over, overL, Nat.reduceAdd, h14]; rfl, Below.refl _ _⟩
        · intro f w1 hb _ K hK
          have q0 := cell_later hb HC.out
          simp only [over, overL, Nat.reduceAdd]
          go_simp
          exact hK _ _ ⟨_, rfl, by simp only [over, overL, Nat.reduceAdd]; rfl, Below.refl _ _⟩
        · intro f w1 hb _ K hK
          simp only [over, overL, Nat.reduceAdd]
          go_simp
          exact hK _ _ ⟨_, rfl, by simp only [over, overL, Nat.reduceAdd]; rfl, Below.refl _ _⟩
        · intro f w1 hb ⟨h16, h17, _⟩ K hK
          replace h16 : f 16 = _ := h16
          replace h17 : f 17 = _ := h17
          simp only [over, overL, Nat.reduceAdd, h16, h17]
          go_simp
          exact hK _ _ ⟨_, rfl, by simp only [over, overL, Nat.reduceAdd, h16, h17]; rfl, Below.refl _ _⟩
        · intro f w1 hb ⟨h18, _⟩ K hK
          replace h18 : f 18 = _ := h18
          have q0 := cell_later hb HQ0.out
          have q1 := cell_later hb HQ1.out
          have q2 := cell_later hb HQ2.out
          simp only [over, overL, Nat.reduceAdd, h18]
          go_simp
          exact hK _ _ ⟨_, rfl, by simp only [over, overL, Nat.reduceAdd, h18]; rfl, Below.refl _ _⟩
      intro f w1 hb hv
      have h10 : f 10 = _ := hv.1
      have h15 : f 15 = _ := hv.2.2.2.2.2.1
      have h19 : f 19 = _ := hv.2.2.2.2.2.2.2.2.2.1
      obtain ⟨fn, tmps, assign, body, hy, hR⟩ := HY.out _ (p, q) w1 (HJ.out _ _ _ HJ1.out hb) HPX.out (Nat.le_trans HKP.out.size hb.size)
      have HB : Hid (Below wr.heap.size wr w1) := hb
      clear hv hb
      dsimp only at hy
      simp only [over_eq, overL, h10, h15, h19, Nat.reduceAdd, List.drop_succ_cons, List.drop_zero]
      gi_wp2
      refine ⟨(fun h => by cases h), hR.mono ?_⟩
      rintro e w4 (⟨rfl, hJ4, hk4⟩ | ⟨rfl, hJ4⟩)
      · gi_wp2
        go_roundw
        case rel =>
          have hJK := HJK.out
          exact ⟨k + 1, .inr (by omega), by go_num, by rw [HTK.out]; exact hJ4, (HKP.out.trans (Kpt.of_below HB.out)).trans hk4⟩
        case measure => have := HJK.out; simp [intOf]; omega
      · gi_wp2
        refine bodyPost_ret (v := .tuple #[]) (results_none (by kernel_rfl) _ _ _) rfl ?_
        exact ⟨⟨_, rfl⟩, .inr ⟨_, HPX.out, hJ4⟩⟩
    · have HE : Hid ((stepsL way).take k = stepsL way) := stepsL_all (by omega)
      gi_wp2
      go_end0
      have := HJ1.out
      rw [HE.out] at this
      exact ⟨⟨_, rfl⟩, .inl ⟨_, rfl, this⟩⟩
end Go.Proofs.Ytgelbndbkmedlaa.S

/- isSlanting walked. -/
namespace Go.Proofs.Ytgelbndbkmedlaa.S
open Go.RowKit
attribute [local go_sem] Oper.semAt_some
/-- Does more than one number change on a step? -/
def slant (l : List Pt) : Bool := (stepsL l).any fun s => decide (1 < turnsN s.1 s.2)
theorem mem_step {l : List Pt} {s : Pt × Pt} (h : s ∈ stepsL l) : s.1 ∈ l ∧ s.2 ∈ l := by
  unfold stepsL at h
  have := List.of_mem_zip (a := s.1) (b := s.2) h
  exact ⟨this.1, List.mem_of_mem_tail this.2⟩
/-- What holds between two steps; where a step was slanting. -/
structure SlI (w : World) (pre : List (Pt × Pt)) (W : World) : Prop where
  ok : ∀ s ∈ pre, turnsN s.1 s.2 ≤ 1
  bk : Bk w.heap.size [.bool false] W
  below : Below w.heap.size w W
structure SlX (w : World) (pre : List (Pt × Pt)) (W : World) : Prop where
  ok : ∃ s ∈ pre, 1 < turnsN s.1 s.2
  bk : Bk w.heap.size [.bool true] W
  below : Below w.heap.size w W
abbrev bo1 (v : Bool) : Obj := .cells #[.bool v] 4
theorem bk_kpt {M : Nat → Prop} {b : Nat} {cs : List Value} {w w1 : World} (h : Bk b cs w) (hk : Kpt M w w1) (hM : ¬ M b) : Bk b cs w1 := h.same hk.size (hk.block b h.1 hM)
set_option maxHeartbeats 6400000 in
set_option maxRecDepth 100000 in
theorem isSlanting_any (ao : Option Addr) (cap : Nat) (way : List Pt) (w : World) (hA : Pns w ao way) (hl : way.length ≤ 9223372036854775807) (hn : ∀ p ∈ way, SmP p) :
    Calls Try.prog 37 #[.slice ao way.length cap] w fun e w' => e = .returned (.bool (slant way)) ∧ Below w.heap.size w w' := by
  have HA : Hid (Pns w ao way) := hA
  have HN : Hid (∀ p ∈ way, SmP p) := hn
  clear hA hn
  refine (callsIn_wide (n := 3)).1 (callsIn_of_wp_marks Try.func37 rfl trivial (wpIn_wide.2 ?_) rfl)
  simp only [Try.ntmps37, List.size_toArray, List.length_cons, List.length_nil, Nat.reduceAdd, Nat.reduceSub, Array.replicate_succ, Array.replicate_zero, List.push_toArray, List.append_toArray, List.nil_append, List.cons_append]
  go_wp2_with fail
  refine (steps_any ao way.length cap _).mono ?_
  rintro e w1 ⟨rfl, rfl⟩
  obtain ⟨wR, hwR⟩ : ∃ x, x = (w.alloc (bo1 false)).alloc (.cells #[.slice ao way.length cap] 27) := ⟨_, rfl⟩
  have hsR : wR.heap.size = w.heap.size + 2 := by rw [hwR]; simp
  have bR : Below w.heap.size w wR := by rw [hwR]; exact ((Below.refl _ _).alloc (Nat.le_refl _) _).alloc (by simp) _
  have KR : Hid (Bk w.heap.size [.bool false] wR) := by
    show Bk _ _ _
    rw [hwR]
    exact (Bk.new w [.bool false] 4 w.heap.size rfl).later ((Below.refl _ _).alloc (Nat.le_refl _) _)
  have KC : Hid (Bk (w.heap.size + 1) [.slice ao way.length cap] wR) := by
    show Bk _ _ _
    rw [hwR]
    exact Bk.new (w.alloc (bo1 false)) [.slice ao way.length cap] 27 (w.heap.size + 1) (by simp)
  have HBR : Hid (Below w.heap.size w wR) := bR
  simp only [World.size_alloc]
  go_wp2_with fail
  rw [← hwR]
  clear hwR bR
  refine range_leave (n := 3) (gf := 64) (lb := #[ptr (w.heap.size + 1)]) rfl enSt (fun k => k = w.heap.size)
    (· <+: stepsL way) (· = stepsL way) (fun s : Pt × Pt => #[pv s.1, pv s.2]) (fun _ => rfl) ?_ (by rw [hsR]; omega) (by rw [hsR]; omega)
    (SlI w) (SlX w) ?_ ?_ ⟨(fun s hs => by cases hs), KR.out, HBR.out⟩
    (fun s a1 A => ∃ (g1 g2 : Nat) (v0 v1 v5 v6 v9 v10 v11 v12 : Value), (wR.heap.size + 2 ≤ g1 ∧ wR.heap.size + 2 ≤ g2) ∧ a1 = { tmps := #[v0, v1, ptr w.heap.size, ptr g1, ptr g2, v5, v6, pv s.1, pv s.2, v9, v10, v11, v12], defers := [] } ∧ Bk g1 (pcl s.1) A ∧ Bk g2 (pcl s.2) A) ?_ ?_ ?_ ?_ ?_
  · intro W hb hs
    exact steps_lv 2 ao cap way (w.heap.size + 1) (wR.heap.size + 1) _ W ((KC.out.later hb).c 0 rfl) (by omega) ((HA.out.next HBR.out).next hb) hl (by omega) (fun hne ad e => by have := HA.out.lt hne ad e; omega)
  · rintro s A B ⟨h1, h2, h3⟩ hk
    exact ⟨h1, bk_kpt h2 hk (by omega), h3.trans (hk.below h3.size (fun k e => by omega))⟩
  · rintro s A B ⟨h1, h2, h3⟩ hk
    exact ⟨h1, bk_kpt h2 hk (by omega), h3.trans (hk.below h3.size (fun k e => by omega))⟩
  · rintro s a1 A B ⟨g1, g2, v0, v1, v5, v6, v9, v10, v11, v12, hg, h2, h3, h4⟩ hk
    exact ⟨g1, g2, v0, v1, v5, v6, v9, v10, v11, v12, hg, h2, bk_kpt h3 hk (by omega), bk_kpt h4 hk (by omega)⟩
  · intro l pre s W K hI hpre hs hK
    have HKK : Hid _ := hK
    have K1 : Hid (Bk W.heap.size (pcl s.1) ((W.alloc (po s.1)).alloc (po s.2))) := (Bk.new W (pcl s.1) 24 W.heap.size rfl).later ((Below.refl _ _).alloc (Nat.le_refl _) _)
    have K2 : Hid (Bk (W.heap.size + 1) (pcl s.2) ((W.alloc (po s.1)).alloc (po s.2))) := Bk.new (W.alloc (po s.1)) (pcl s.2) 24 (W.heap.size + 1) (by simp)
    clear hK
    gi_wp2
    exact HKK.out _ _ ⟨W.heap.size, W.heap.size + 1, _, _, _, _, _, _, _, _, by omega, rfl, K1.out, K2.out⟩ (((Below.refl _ _).alloc (Nat.le_refl _) _).alloc (by simp) _)
  · rintro l pre s a1 W ⟨hi, hk1, hb1⟩ hpre hs ⟨g1, g2, v0, v1, v5, v6, v9, v10, v11, v12, hg, rfl, hkA, hkB⟩
    have HI : Hid (∀ s ∈ pre, turnsN s.1 s.2 ≤ 1) := hi
    have HK1 : Hid (Bk w.heap.size [.bool false] W) := hk1
    have HB1 : Hid (Below w.heap.size w W) := hb1
    have HST : Hid (s.1 ∈ way ∧ s.2 ∈ way) := mem_step (hpre.subset (by simp))
    have HC : Hid (∀ X, Calls Try.prog 62 #[pv s.1, pv s.2] X fun e w' => e = .returned (.int .i64 (turnsN s.1 s.2)) ∧ Below X.heap.size X w') := fun X => turns_any s.1 s.2 X (HN.out _ HST.out.1) (HN.out _ HST.out.2)
    have a0 := hkA.c 0 rfl
    have a1 := hkA.c 1 rfl
    have a2 := hkA.c 2 rfl
    have b0 := hkB.c 0 rfl
    have b1 := hkB.c 1 rfl
    have b2 := hkB.c 2 rfl
    clear hi hk1 hb1 hpre hkA hkB
    gi_wp2_with fail
    refine ⟨trivial, ?_⟩
    refine (CallsIn.inRound l (callsIn_wide.2 (HC.out _))).mono ?_
    rintro e w2 ⟨rfl, hb2⟩
    have HK2 : Hid (Bk w.heap.size [.bool false] w2) := HK1.out.later hb2
    have HB2 : Hid (Below w.heap.size w w2) := HB1.out.trans (hb2.mono HB1.out.size)
    have HB12 : Hid (Below W.heap.size W w2) := hb2
    have m0 := HK2.out.c 0 rfl
    have mf := HK2.out.f 0 rfl
    clear hb2
    by_cases ht : 1 < turnsN s.1 s.2
    · have HT : Hid (1 < turnsN s.1 s.2) := ht
      gi_wp2
      exact ⟨(Kpt.of_below HB12.out).trans (Kpt.setCell _ _ _ _ rfl), ⟨s, by simp, HT.out⟩, HK2.out.put 0 _, HB2.out.setCell (Nat.le_refl _) _⟩
    · have HT : Hid (turnsN s.1 s.2 ≤ 1) := by show _ ≤ _; omega
      gi_wp2
      refine ⟨Kpt.of_below HB12.out, fun x hx => ?_, HK2.out, HB2.out⟩
      rcases List.mem_append.1 hx with hx | hx
      · exact HI.out x hx
      · simp at hx
        subst hx
        exact HT.out
  · rintro xs W rfl ⟨h1, h2, h3⟩ hs hd
    have HR : Hid (slant way = false) := by
      show _ = _
      unfold slant
      rw [List.any_eq_false]
      intro x hx
      have := h1 x hx
      simp only [decide_eq_true_eq]
      omega
    have m0 := h2.c 0 rfl
    have mf := h2.f 0 rfl
    have HB : Hid (Below w.heap.size w W) := h3
    have H2 : Hid (Bk w.heap.size [.bool false] W) := h2
    clear h1 h2 h3
    have kp : Kpt (fun k => k = wR.heap.size) (W.setCell ⟨w.heap.size, 0, none⟩ (.bool false)) ((W.setCell ⟨w.heap.size, 0, none⟩ (.bool false)).putObj wR.heap.size (.deferred none)) := Kpt.putObj _ _ _ _ rfl
    have hd1 : (W.setCell ⟨w.heap.size, 0, none⟩ (.bool false)).heap[wR.heap.size]? = some (.deferred (some [])) := (Below.heap_setCell W ⟨w.heap.size, 0, none⟩ (.bool false) wR.heap.size (by show wR.heap.size ≠ w.heap.size; omega)).trans hd
    have jp := (bk_kpt (H2.out.put 0 (.bool false)) kp (by omega)).c 0 rfl
    have HF : Hid (Below w.heap.size w ((W.setCell ⟨w.heap.size, 0, none⟩ (.bool false)).putObj wR.heap.size (.deferred none))) := (HB.out.setCell (Nat.le_refl _) _).trans (kp.below (by simpa using HB.out.size) (fun k e => by omega))
    clear kp
    go_wp2
    exact leave_mark hd1 (v := .bool false) (by simp [results, Try.results37, go_sem, jp]) ⟨by rw [HR.out], HF.out⟩
  · rintro pre W hpre ⟨⟨x, hx, h1⟩, h2, h3⟩ hs hd
    have HR : Hid (slant way = true) := by
      show _ = _
      unfold slant
      rw [List.any_eq_true]
      exact ⟨x, hpre.subset hx, by simpa using h1⟩
    have kp : Kpt (fun k => k = wR.heap.size) W (W.putObj wR.heap.size (.deferred none)) := Kpt.putObj _ _ _ _ rfl
    have jp := (bk_kpt h2 kp (by omega)).c 0 rfl
    have HF : Hid (Below w.heap.size w (W.putObj wR.heap.size (.deferred none))) := h3.trans (kp.below h3.size (fun k e => by omega))
    clear kp
    exact leave_mark hd (v := .bool true) (by simp [results, Try.results37, go_sem, jp]) ⟨by rw [HR.out], HF.out⟩
end Go.Proofs.Ytgelbndbkmedlaa.S

/- Small lemmas on texts. -/
namespace Go.Proofs.Ytgelbndbkmedlaa
open Go.RowKit
theorem in_rune' (x lo hi : Int) (v : Bool) (hv : inR lo hi x = v) (p q : Nat) (w : World) (hp : w.cell? ⟨p, 0, none⟩ = some (.int .i32 lo)) (hq : w.cell? ⟨q, 0, none⟩ = some (.int .i32 hi)) :
    Calls Try.prog 114 #[.int .i32 x, .pointer (some ⟨p, 0, none⟩), .pointer (some ⟨q, 0, none⟩)] w fun e w' => e = .returned (.bool v) ∧ w' = w := by
  subst hv; exact in_rune x lo hi p q w hp hq

theorem getL {s : ByteArray} {k : Nat} (h : k < s.size) : s.data.toList[k]? = some (s[k]'h) := by
  have : k < s.data.toList.length := by simpa using h
  rw [List.getElem?_eq_getElem this]; rfl
theorem lenL (s : ByteArray) : s.data.toList.length = s.size := by simp
theorem take_succL {s : ByteArray} {k : Nat} (h : k < s.size) : s.data.toList.take (k + 1) = s.data.toList.take k ++ [s[k]'h] := by
  rw [List.take_add_one, getL h]; rfl

end Go.Proofs.Ytgelbndbkmedlaa
