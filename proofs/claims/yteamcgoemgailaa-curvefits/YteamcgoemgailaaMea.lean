/- means walked. -/
import Derived.Test.YteamcgoemgailaaSrd
import Derived.Test.YteamcgoemgailaaFitM
import Derived.Laws.AppendOwnNone
namespace Go.Proofs.Yteamcgoemgailaa
open Go.RowKit

theorem over_eq2 (a : Act) (m : List Bool) (f : Nat → Value) : over a m f = { tmps := (overL f m 0 a.tmps.toList).toArray, defers := a.defers } := rfl
theorem Kns.drop {w : World} {b off : Nat} {l : List Kn} (h : Kns w (some ⟨b, off, none⟩) l) (k : Nat) : Kns w (some ⟨b, off + k * 2, none⟩) (l.drop k) := by
  rcases h with rfl | ⟨b', off', e, hc⟩
  · exact .inl (by simp)
  · injection e with e
    injection e with e e'
    subst e e'
    refine .inr ⟨b, off + k * 2, rfl, fun j hj => ?_⟩
    have hj2 : k + j < l.length := by simp at hj; omega
    have := hc (k + j) hj2
    rw [show off + (k + j) * 2 = off + k * 2 + j * 2 by omega] at this
    rw [List.getElem_drop]; exact this
def lenOf : Value → Nat
  | .slice _ n _ => n
  | _ => 0
theorem OwnK.later {w w' : World} {base : Nat} {v : Value} {l : List Kn} (h : OwnK w base v l) (hb : Below w.heap.size w w') : OwnK w' base v l := by
  refine ⟨h.1, ?_⟩
  rcases h.2 with h1 | ⟨g, cap, cur, h1, h2, h3, h4⟩
  · exact .inl h1
  · exact .inr ⟨g, cap, cur, h1, h2, (hb.block g (Array.getElem?_eq_some_iff.1 h3).1).trans h3, h4⟩
theorem OwnK.base {w : World} {base : Nat} {v : Value} {l : List Kn} (h : OwnK w base v l) : ∀ k, v.ownBlock = some k → base ≤ k := by
  intro k hk
  rcases h.2 with ⟨h1, _⟩ | ⟨g, cap, cur, h1, h2, _⟩
  · rw [h1] at hk; cases hk
  · rw [h1] at hk; simp [Value.ownBlock] at hk; omega
def meV (x s : Int) (n k b0 : Nat) (v3 : Value) (d : Nat) (v : Value) (w : World) : Prop :=
  match d with
  | 36 => v = v3
  | 37 => v = .pointer (some ⟨b0, 0, none⟩)
  | 38 => v = .int .i64 x
  | 39 => v = .int .i64 s
  | 40 => v = .int .i64 (k : Int)
  | 41 => v = .int .i64 (s / (k : Int))
  | 42 => v = kv ⟨x, s / (k : Int)⟩
  | 43 => ∃ B, v = .slice (some ⟨B, 0, none⟩) 1 1 ∧ n ≤ B ∧ B < w.heap.size ∧ w.cell? ⟨B, 0, none⟩ = some (.int .i64 x) ∧ w.cell? ⟨B, 1, none⟩ = some (.int .i64 (s / (k : Int)))
  | _ => True
theorem meV_mono (x s : Int) (n k b0 : Nat) (v3 : Value) (d : Nat) (v : Value) (w w' : World) (h : meV x s n k b0 v3 d v w) (hb : Below w.heap.size w w') : meV x s n k b0 v3 d v w' := by
  unfold meV at h ⊢
  split <;> simp only [] at h <;> first | exact h | (obtain ⟨b, h1, h2, h3, h4, h5⟩ := h; exact ⟨b, h1, h2, Nat.lt_of_lt_of_le h3 hb.size, cell_later hb h4, cell_later hb h5⟩)
theorem Kns.single {w : World} {B : Nat} {k : Kn} (hB : B < w.heap.size) (h0 : w.cell? ⟨B, 0, none⟩ = some (.int .i64 k.v)) (h1 : w.cell? ⟨B, 1, none⟩ = some (.int .i64 k.s)) : Kns w (some ⟨B, 0, none⟩) [k] := by
  refine .inr ⟨B, 0, rfl, fun j hj => ?_⟩
  match j, hj with
  | 0, _ => exact ⟨hB, h0, h1⟩
theorem sorted_group {D : List Kn} {k : Nat} {x : Int} (hs : D.Pairwise fun a b => a.v ≤ b.v) (hx : ∀ d ∈ D, x ≤ d.v) (hk : k = D.length ∨ ∃ h : k < D.length, (D[k]'h).v ≠ x) : ∀ d ∈ D.drop k, x < d.v := by
  intro d hd
  rcases hk with e | ⟨h, e⟩
  · subst e; simp at hd
  · have h1 := hx (D[k]'h) (List.getElem_mem h)
    rw [List.drop_eq_getElem_cons h] at hd
    rcases List.mem_cons.1 hd with rfl | hd
    · omega
    · have h2 : (D.drop k).Pairwise fun a b => a.v ≤ b.v := hs.sublist (List.drop_sublist _ _)
      rw [List.drop_eq_getElem_cons h, List.pairwise_cons] at h2
      have := h2.1 d hd
      omega
/-- What holds at the outer loop's head. -/
def MeI (w : World) (S : List Kn) (s0 s3 : Value) (wr : World) : Prop :=
  ∃ A D M b off cap ao3 cap3, S = A ++ D ∧ s0 = .slice (some ⟨b, off, none⟩) D.length cap ∧ D.length ≤ cap ∧ Kns w (some ⟨b, off, none⟩) D ∧ Means A M ∧ M.length ≤ A.length ∧ (∀ a ∈ A, ∀ d ∈ D, a.v < d.v) ∧ s3 = .slice ao3 M.length cap3 ∧ OwnK wr w.heap.size (.slice ao3 M.length cap3) M ∧ Below w.heap.size w wr
set_option maxHeartbeats 12800000 in
set_option maxRecDepth 100000 in
theorem means_some (b off cap : Nat) (S : List Kn) (w : World) (hL : Kns w (some ⟨b, off, none⟩) S) (hcap : S.length ≤ cap) (hl : S.length ≤ 50) (hs : S.Pairwise fun a b => a.v ≤ b.v) (ho : ∀ k ∈ S, outK k = false) :
    Calls Try.prog 27 #[.slice (some ⟨b, off, none⟩) S.length cap] w fun e w' => ∃ v M, e = .returned v ∧ OwnK w' w.heap.size v M ∧ Means S M ∧ M.length ≤ S.length ∧ Below w.heap.size w w' := by
  have HL : Hid (Kns w (some ⟨b, off, none⟩) S) := hL
  have HS := (show Hid _ from hs)
  have HO : Hid (∀ k ∈ S, outK k = false) := ho
  clear hL hs ho
  go_enter Try.func27, Try.ntmps27
  go_wp2
  go_loopw [0, 3, 4, 5, 6] (fun s0 s3 _ _ _ wr => Hid (MeI w S s0 s3 wr)) (fun s0 _ _ _ _ _ => lenOf s0)
  case atStart => exact ⟨[], S, [], b, off, cap, none, 0, rfl, rfl, hcap, HL.out, Means.nil, Nat.le_refl _, (fun a h => by simp at h), rfl, OwnK.nil _ _, Below.refl _ _⟩
  case round =>
    have hm := hrel
    obtain ⟨A, D, M, b, off, cap, ao3, cap3, hS, rfl, hcap, hK, hM, hMl, hAD, rfl, hOwn, hb⟩ := hm.out
    obtain ⟨w1, rfl⟩ : ∃ w1, w1 = wr := ⟨_, rfl⟩
    clear hm hrel HL
    have HK : Hid (Kns w (some ⟨b, off, none⟩) D) := hK
    have HM : Hid (Means A M) := hM
    have HAD : Hid (∀ a ∈ A, ∀ d ∈ D, a.v < d.v) := hAD
    have HOwn : Hid (OwnK w1 w.heap.size (.slice ao3 M.length cap3) M) := hOwn
    have HB : Hid (Below w.heap.size w w1) := hb
    have HSD : Hid (S = A ++ D) := hS
    have hDl : A.length + D.length = S.length := by rw [hS]; simp
    have HD : Hid (D.Pairwise fun a b => a.v ≤ b.v) := by have := HS.out; rw [hS] at this; exact (List.pairwise_append.1 this).2.1
    have HDo : Hid (∀ k ∈ D, outK k = false) := fun k hk => HO.out k (by rw [hS]; simp [hk])
    clear hK hM hAD hOwn hb hS
    by_cases h0 : D.length = 0
    · have HR : Hid (∃ M', OwnK w1 w.heap.size (.slice ao3 M.length cap3) M' ∧ Means S M' ∧ M'.length ≤ S.length)   := ⟨M, HOwn.out, by rw [HSD.out, List.eq_nil_of_length_eq_zero h0, List.append_nil]; exact HM.out, by omega⟩
      rw [h0]
      go_wp2
      go_ret
      obtain ⟨M', h1, h2, h3⟩ := HR.out
      exact ⟨_, M', rfl, h1, h2, h3, HB.out⟩
    · have hpos : 0 < D.length := by omega
      clear h0
      obtain ⟨b', off', e, hbl, c0, c1⟩ := (HK.out.next HB.out).at hpos
      injection e with e
      injection e with e e'
      subst e e'
      rw [Nat.zero_mul, Nat.add_zero] at c0 c1
      have HX : Hid (∀ d ∈ D, (D[0]'hpos).v ≤ d.v) := by
        intro d hd
        have := HD.out
        rw [← List.drop_zero (l := D), List.drop_eq_getElem_cons hpos, List.pairwise_cons] at this
        rw [← List.drop_zero (l := D), List.drop_eq_getElem_cons hpos] at hd
        rcases List.mem_cons.1 hd with rfl | hd
        · exact Int.le_refl _
        · exact this.1 d hd
      have HXA : Hid (∀ a ∈ A, a.v < (D[0]'hpos).v) := fun a ha => HAD.out a ha _ (List.getElem_mem hpos)
      have HX0 : Hid ((D[0]'hpos).v = (D[0]'hpos).v) := rfl
      obtain ⟨x, hx⟩ : ∃ x, x = (D[0]'hpos).v := ⟨_, rfl⟩
      obtain ⟨y, hy⟩ : ∃ y, y = (D[0]'hpos).s := ⟨_, rfl⟩
      rw [← hx] at c0 HX HXA
      rw [← hy] at c1
      have HX1 : Hid (x = (D[0]'hpos).v) := hx
      clear hx hy HX0
      go_wp2
      have f0 : (w1.alloc (.cells #[.int .i64 x, .int .i64 y] 31)).cell? ⟨w1.heap.size, 0, none⟩ = some (.int .i64 x) := by go_simp
      have hb2 : Below w1.heap.size w1 (w1.alloc (.cells #[.int .i64 x, .int .i64 y] 31)) := (Below.refl _ _).alloc (Nat.le_refl _) _
      have hOwn2 := HOwn.out.alloc (.cells #[.int .i64 x, .int .i64 y] 31)
      have hbs : w1.heap.size < (w1.alloc (.cells #[.int .i64 x, .int .i64 y] 31)).heap.size := by simp
      generalize w1.alloc (.cells #[.int .i64 x, .int .i64 y] 31) = w2 at *
      have HOwn2 : Hid (OwnK w2 w.heap.size (.slice ao3 M.length cap3) M) := hOwn2
      have HB2 : Hid (Below w.heap.size w w2) := below_on HB.out hb2
      have HP : Hid (w1.heap.size < w2.heap.size) := hbs
      clear hb2 hOwn2 hbs c0 c1 hbl HOwn HB
      generalize w1.heap.size = P at *
      clear w1
      go_loopw [5, 6] (fun s5 s6 wr => ∃ k : Nat, s6 = .int .i64 (k : Int) ∧ s5 = .int .i64 (sumV (D.take k) x) ∧ k ≤ D.length ∧ Hid (∀ d ∈ D.take k, d.v = x) ∧ ∃ q, wr = w2.drewN q) (fun _ s6 _ => D.length - (intOf s6).toNat)
      case atStart => exact ⟨0, rfl, rfl, Nat.zero_le _, (fun d hd => by simp at hd : ∀ d ∈ D.take 0, d.v = x), 0, rfl⟩
      case round =>
        obtain ⟨k, rfl, rfl, hk, hall, q, rfl⟩ := hrel
        have F0 : Hid (w2.cell? ⟨P, 0, none⟩ = some (.int .i64 x)) := f0
        have g0 : w2.cell? ⟨P, 0, none⟩ = some (.int .i64 x) := f0
        have HB3 : Hid (Below w.heap.size w (w2.drewN q)) := below_drewN HB2.out _
        have hsum := sumV_in (l := D.take k) x fun d hd => HDo.out d (List.mem_of_mem_take hd)
        have hcn := cntV_le (D.take k) x
        rw [List.length_take, Nat.min_eq_left hk] at hcn
        have hsum2 : 0 ≤ sumV (D.take k) x ∧ sumV (D.take k) x ≤ 50000000000 := by omega
        clear hsum hcn f0
        by_cases hlt : k < D.length
        · obtain ⟨b', off', e, _, c0, c1⟩ := (HK.out.next HB2.out).at hlt
          injection e with e
          injection e with e e'
          subst e e'
          by_cases hv : (D[k]'hlt).v = x
          · have HN : Hid (sumV (D.take (k + 1)) x = sumV (D.take k) x + (D[k]'hlt).s) := by
              show sumV _ _ = _
              rw [List.take_succ_eq_append_getElem hlt, sumV_append]
              simp only [sumV, if_pos hv]; omega
            have HALL : Hid (∀ d ∈ D.take (k + 1), d.v = x) := take_succ_all hlt hall.out hv
            have hsv := (outK_no.1 (HDo.out _ (List.getElem_mem hlt))).2
            rw [hv] at c0
            generalize (D[k]'hlt).s = sk at *
            clear hv
            generalize sumV (D.take k) x = sm at *
            have tb : (x == x) = true := by simp
            have tl : decide (k < D.length) = true := decide_eq_true hlt
            go_wp2_with fail
            go_big_quiet (fail)
            go_wp2
            go_roundw
            case rel => exact ⟨k + 1, by go_num, by rw [HN.out], by omega, HALL.out, _, rfl⟩
            case measure => simp [intOf]; omega
          · have HEX : Hid (∀ d ∈ D.drop k, x < d.v) := sorted_group HD.out HX.out (.inr ⟨hlt, hv⟩)
            have hk1 : 1 ≤ k := by
              by_cases e : k = 0
              · subst e; exact absurd HX1.out.symm hv
              · omega
            have tb : ((D[k]'hlt).v == x) = false := by simp [hv]
            generalize (D[k]'hlt).v = vk at *
            clear hv c1
            have tl : decide (k < D.length) = true := decide_eq_true hlt
            go_wp2_with fail
            go_big_quiet (fail)
            go_wp2_with fail
            have HSM : Hid (Means (A ++ D.take k) (M ++ [⟨x, sumV (D.take k) x / (k : Int)⟩])) := by
              have := HM.out.step HXA.out hall.out (fun e => by have := congrArg List.length e; rw [List.length_take, Nat.min_eq_left hk] at this; simp at this; omega)
              rw [List.length_take, Nat.min_eq_left hk] at this; exact this
            generalize sumV (D.take k) x = sm at *
            have F0 : Hid (w2.cell? ⟨P, 0, none⟩ = some (.int .i64 x)) := g0
            have hk0 : (k : Int) ≠ 0 := by omega
            have hq0 : 0 ≤ sm / (k : Int) := Int.ediv_nonneg (by omega) (by omega)
            have hq1 : sm / (k : Int) ≤ sm := Int.ediv_le_self _ (by omega)
            have hkn : ¬ k = 0 := by omega
            have hdv : IntKind.i64.wrap (sm.tdiv (k : Int)) = sm / (k : Int) := by rw [Int.tdiv_eq_ediv_of_nonneg (by omega), IntWalk.i64_left, IntWalk.wrap64_in _ ⟨by omega, by omega⟩]
            refine region_seq 8 [false, false, false, false, false, false, false, false, false, false, false, false, false, false, false, false, false, false, false, false, false, false, false, false, false, false, false, false, false, false, false, false, false, false, false, false, true, true, true, true, true, true, true, true, false, false, false, false, false]
              [(36, [], none), (37, [], none), (38, [37], none), (39, [], none), (40, [], none), (41, [39, 40], none), (42, [38, 41], none), (43, [42], none)]
              (meV x sm w2.heap.size k P (.slice ao3 M.length cap3)) (by kernel_rfl) (by kernel_rfl) (by kernel_rfl) (by kernel_rfl) (by kernel_rfl) (by decide) (meV_mono x sm w2.heap.size k P _) ?_ ?_
            · refine ⟨?_, ?_, ?_, ?_, ?_, ?_, ?_, ?_, trivial⟩
              · intro f w1 hb _ K hK
                simp only [over, overL, Nat.reduceAdd]
                go_simp
                exact hK _ _ ⟨_, rfl, by simp only [over, overL, Nat.reduceAdd]; rfl, Below.refl _ _⟩
              · intro f w1 hb _ K hK
                simp only [over, overL, Nat.reduceAdd]
                go_simp
                exact hK _ _ ⟨_, rfl, by simp only [over, overL, Nat.reduceAdd]; rfl, Below.refl _ _⟩
              · intro f w1 hb ⟨h37, _⟩ K hK
                replace h37 : f 37 = _ := h37
                have e0 := cell_later hb F0.out
                simp only [over, overL, Nat.reduceAdd, h37]
                go_simp
                exact hK _ _ ⟨_, rfl, by simp only [over, overL, Nat.reduceAdd, h37]; rfl, Below.refl _ _⟩
              · intro f w1 hb _ K hK
                simp only [over, overL, Nat.reduceAdd]
                go_simp
                exact hK _ _ ⟨_, rfl, by simp only [over, overL, Nat.reduceAdd]; rfl, Below.refl _ _⟩
              · intro f w1 hb _ K hK
                simp only [over, overL, Nat.reduceAdd]
                go_simp
                exact hK _ _ ⟨_, rfl, by simp only [over, overL, Nat.reduceAdd]; rfl, Below.refl _ _⟩
              · intro f w1 hb ⟨h39, h40, _⟩ K hK
                replace h39 : f 39 = _ := h39
                replace h40 : f 40 = _ := h40
                simp only [over, overL, Nat.reduceAdd, h39, h40]
                go_simp
                exact hK _ _ ⟨_, rfl, by simp only [over, overL, Nat.reduceAdd, h39, h40]; rfl, Below.refl _ _⟩
              · intro f w1 hb ⟨h38, h41, _⟩ K hK
                replace h38 : f 38 = _ := h38
                replace h41 : f 41 = _ := h41
                simp only [over, overL, Nat.reduceAdd, h38, h41]
                go_simp
                exact hK _ _ ⟨_, rfl, by simp only [over, overL, Nat.reduceAdd, h38, h41]; rfl, Below.refl _ _⟩
              · intro f w1 hb ⟨h42, _⟩ K hK
                replace h42 : f 42 = _ := h42
                simp only [over, overL, Nat.reduceAdd, h42]
                go_simp
                exact hK _ _ ⟨_, ⟨w1.heap.size, rfl, hb.size, by simp, by go_simp, by go_simp⟩, by simp only [over, overL, Nat.reduceAdd, h42]; rfl, (Below.refl _ _).alloc (Nat.le_refl _) _⟩
            intro f w3 hb3 h
            have h36 : f 36 = .slice ao3 M.length cap3 := h.1
            obtain ⟨B, h43, hnB, hBs, e0, e1⟩ := (show ∃ B, f 43 = .slice (some ⟨B, 0, none⟩) 1 1 ∧ w2.heap.size ≤ B ∧ B < w3.heap.size ∧ w3.cell? ⟨B, 0, none⟩ = some (.int .i64 x) ∧ w3.cell? ⟨B, 1, none⟩ = some (.int .i64 (sm / (k : Int))) from h.2.2.2.2.2.2.2.1)
            simp only [over_eq2, overL, h36, h43, Nat.reduceAdd, List.drop_succ_cons, List.drop_zero]
            have ho3 : OwnK w3 w.heap.size (.slice ao3 M.length cap3) M := OwnK.later (by exact HOwn2.out) hb3
            have HB4 : Hid (Below w.heap.size w w3) := below_on (below_drewN HB3.out _) hb3
            refine wpList_append_kn w3 rfl (.tmp 36) (.tmp 43) rfl w.heap.size _ M rfl ho3 ⟨B, 0, none⟩ 1 [⟨x, sm / (k : Int)⟩] rfl (Kns.single hBs e0 e1) (by simp; omega) HB4.out.size ?_
            intro v' w4 ho4 hg4 _
            have HB5 : Hid (Below w.heap.size w w4) := HB4.out.grown hg4 HB4.out.size ho3.base
            have HO4 : Hid (OwnK w4 w.heap.size v' (M ++ [⟨x, sm / (k : Int)⟩])) := ho4
            obtain ⟨ao4, cap4, rfl, _, _⟩ := ho4.shape
            clear ho3 ho4 hg4 h h36 h43 e0 e1 hBs hnB hb3 F0 g0 hq0 hq1 hdv hkn hk0
            go_wp2
            go_roundw
            case rel =>
              refine ⟨A ++ D.take k, D.drop k, M ++ [⟨x, sm / (k : Int)⟩], b, off + k * 2, cap - k, ao4, cap4, ?_, by rw [List.length_drop], by rw [List.length_drop]; omega, HK.out.drop k, HSM.out, ?_, ?_, by simp, HO4.out, HB5.out⟩
              · rw [List.append_assoc, List.take_append_drop]; exact HSD.out
              · rw [List.length_append, List.length_append, List.length_take, Nat.min_eq_left hk]; simp; omega
              · intro a ha d hd
                have h1 := HEX.out d hd
                rcases List.mem_append.1 ha with ha | ha
                · have := HXA.out a ha; omega
                · have := hall.out a ha; omega
            case measure => simp only [lenOf]; omega
        · have HEX : Hid (∀ d ∈ D.drop k, x < d.v) := sorted_group HD.out HX.out (.inl (by omega))
          have hk1 : 1 ≤ k := by omega
          have tl : decide (k < D.length) = false := decide_eq_false hlt
          go_wp2_with fail
          go_big_quiet (fail)
          go_wp2_with fail
          have HSM : Hid (Means (A ++ D.take k) (M ++ [⟨x, sumV (D.take k) x / (k : Int)⟩])) := by
            have := HM.out.step HXA.out hall.out (fun e => by have := congrArg List.length e; rw [List.length_take, Nat.min_eq_left hk] at this; simp at this; omega)
            rw [List.length_take, Nat.min_eq_left hk] at this; exact this
          generalize sumV (D.take k) x = sm at *
          have F0 : Hid (w2.cell? ⟨P, 0, none⟩ = some (.int .i64 x)) := g0
          have hk0 : (k : Int) ≠ 0 := by omega
          have hq0 : 0 ≤ sm / (k : Int) := Int.ediv_nonneg (by omega) (by omega)
          have hq1 : sm / (k : Int) ≤ sm := Int.ediv_le_self _ (by omega)
          have hkn : ¬ k = 0 := by omega
          have hdv : IntKind.i64.wrap (sm.tdiv (k : Int)) = sm / (k : Int) := by rw [Int.tdiv_eq_ediv_of_nonneg (by omega), IntWalk.i64_left, IntWalk.wrap64_in _ ⟨by omega, by omega⟩]
          refine region_seq 8 [false, false, false, false, false, false, false, false, false, false, false, false, false, false, false, false, false, false, false, false, false, false, false, false, false, false, false, false, false, false, false, false, false, false, false, false, true, true, true, true, true, true, true, true, false, false, false, false, false]
            [(36, [], none), (37, [], none), (38, [37], none), (39, [], none), (40, [], none), (41, [39, 40], none), (42, [38, 41], none), (43, [42], none)]
            (meV x sm w2.heap.size k P (.slice ao3 M.length cap3)) (by kernel_rfl) (by kernel_rfl) (by kernel_rfl) (by kernel_rfl) (by kernel_rfl) (by decide) (meV_mono x sm w2.heap.size k P _) ?_ ?_
          · refine ⟨?_, ?_, ?_, ?_, ?_, ?_, ?_, ?_, trivial⟩
            · intro f w1 hb _ K hK
              simp only [over, overL, Nat.reduceAdd]
              go_simp
              exact hK _ _ ⟨_, rfl, by simp only [over, overL, Nat.reduceAdd]; rfl, Below.refl _ _⟩
            · intro f w1 hb _ K hK
              simp only [over, overL, Nat.reduceAdd]
              go_simp
              exact hK _ _ ⟨_, rfl, by simp only [over, overL, Nat.reduceAdd]; rfl, Below.refl _ _⟩
            · intro f w1 hb ⟨h37, _⟩ K hK
              replace h37 : f 37 = _ := h37
              have e0 := cell_later hb F0.out
              simp only [over, overL, Nat.reduceAdd, h37]
              go_simp
              exact hK _ _ ⟨_, rfl, by simp only [over, overL, Nat.reduceAdd, h37]; rfl, Below.refl _ _⟩
            · intro f w1 hb _ K hK
              simp only [over, overL, Nat.reduceAdd]
              go_simp
              exact hK _ _ ⟨_, rfl, by simp only [over, overL, Nat.reduceAdd]; rfl, Below.refl _ _⟩
            · intro f w1 hb _ K hK
              simp only [over, overL, Nat.reduceAdd]
              go_simp
              exact hK _ _ ⟨_, rfl, by simp only [over, overL, Nat.reduceAdd]; rfl, Below.refl _ _⟩
            · intro f w1 hb ⟨h39, h40, _⟩ K hK
              replace h39 : f 39 = _ := h39
              replace h40 : f 40 = _ := h40
              simp only [over, overL, Nat.reduceAdd, h39, h40]
              go_simp
              exact hK _ _ ⟨_, rfl, by simp only [over, overL, Nat.reduceAdd, h39, h40]; rfl, Below.refl _ _⟩
            · intro f w1 hb ⟨h38, h41, _⟩ K hK
              replace h38 : f 38 = _ := h38
              replace h41 : f 41 = _ := h41
              simp only [over, overL, Nat.reduceAdd, h38, h41]
              go_simp
              exact hK _ _ ⟨_, rfl, by simp only [over, overL, Nat.reduceAdd, h38, h41]; rfl, Below.refl _ _⟩
            · intro f w1 hb ⟨h42, _⟩ K hK
              replace h42 : f 42 = _ := h42
              simp only [over, overL, Nat.reduceAdd, h42]
              go_simp
              exact hK _ _ ⟨_, ⟨w1.heap.size, rfl, hb.size, by simp, by go_simp, by go_simp⟩, by simp only [over, overL, Nat.reduceAdd, h42]; rfl, (Below.refl _ _).alloc (Nat.le_refl _) _⟩
          intro f w3 hb3 h
          have h36 : f 36 = .slice ao3 M.length cap3 := h.1
          obtain ⟨B, h43, hnB, hBs, e0, e1⟩ := (show ∃ B, f 43 = .slice (some ⟨B, 0, none⟩) 1 1 ∧ w2.heap.size ≤ B ∧ B < w3.heap.size ∧ w3.cell? ⟨B, 0, none⟩ = some (.int .i64 x) ∧ w3.cell? ⟨B, 1, none⟩ = some (.int .i64 (sm / (k : Int))) from h.2.2.2.2.2.2.2.1)
          simp only [over_eq2, overL, h36, h43, Nat.reduceAdd, List.drop_succ_cons, List.drop_zero]
          have ho3 : OwnK w3 w.heap.size (.slice ao3 M.length cap3) M := OwnK.later (by exact HOwn2.out) hb3
          have HB4 : Hid (Below w.heap.size w w3) := below_on (below_drewN HB3.out _) hb3
          refine wpList_append_kn w3 rfl (.tmp 36) (.tmp 43) rfl w.heap.size _ M rfl ho3 ⟨B, 0, none⟩ 1 [⟨x, sm / (k : Int)⟩] rfl (Kns.single hBs e0 e1) (by simp; omega) HB4.out.size ?_
          intro v' w4 ho4 hg4 _
          have HB5 : Hid (Below w.heap.size w w4) := HB4.out.grown hg4 HB4.out.size ho3.base
          have HO4 : Hid (OwnK w4 w.heap.size v' (M ++ [⟨x, sm / (k : Int)⟩])) := ho4
          obtain ⟨ao4, cap4, rfl, _, _⟩ := ho4.shape
          clear ho3 ho4 hg4 h h36 h43 e0 e1 hBs hnB hb3 F0 g0 hq0 hq1 hdv hkn hk0
          go_wp2
          go_roundw
          case rel =>
            obtain ⟨b2, off2, e2⟩ : ∃ b2 off2, (if cap = k then some (⟨b, off, none⟩ : Addr) else some ⟨b, off + k * 2, none⟩) = some ⟨b2, off2, none⟩ := by
              split
              · exact ⟨_, _, rfl⟩
              · exact ⟨_, _, rfl⟩
            rw [e2]
            refine ⟨A ++ D.take k, D.drop k, M ++ [⟨x, sm / (k : Int)⟩], b2, off2, cap - k, ao4, cap4, ?_, by rw [List.length_drop], by rw [List.length_drop]; omega, .inl (List.drop_eq_nil_of_le (by omega)), HSM.out, ?_, ?_, by simp, HO4.out, HB5.out⟩
            · rw [List.append_assoc, List.take_append_drop]; exact HSD.out
            · rw [List.length_append, List.length_append, List.length_take, Nat.min_eq_left hk]; simp; omega
            · intro a ha d hd
              have h1 := HEX.out d hd
              rcases List.mem_append.1 ha with ha | ha
              · have := HXA.out a ha; omega
              · have := hall.out a ha; omega
          case measure => simp only [lenOf]; omega
set_option maxHeartbeats 1600000 in
theorem means_any (v : Value) (S : List Kn) (w : World) (hL : IsCopy S v w) (hl : S.length ≤ 50) (hs : S.Pairwise fun a b => a.v ≤ b.v) (ho : ∀ k ∈ S, outK k = false) :
    Calls Try.prog 27 #[v] w fun e w' => ∃ v M, e = .returned v ∧ OwnK w' w.heap.size v M ∧ Means S M ∧ M.length ≤ S.length ∧ Below w.heap.size w w' := by
  obtain ⟨ao, cap, rfl, hk, hc⟩ := hL
  cases ao with
  | some a =>
    obtain ⟨b, off, spot⟩ := a
    by_cases h0 : S = []
    · subst h0
      clear hk
      have HR : Hid (OwnK w w.heap.size (.slice none 0 0) []) := OwnK.nil _ _
      simp only [List.length_nil]
      go_enter Try.func27, Try.ntmps27
      go_wp2
      refine wp_loop_rounds 1 ?_
      rw [rounds_succ]
      go_wp2
      go_ret
      exact ⟨_, [], rfl, HR.out, Means.nil, Nat.le_refl _, Below.refl _ _⟩
    · rcases hk with h | ⟨b', off', e, h⟩
      · exact absurd h h0
      · injection e with e
        injection e with e1 e2 e3
        subst e1 e2 e3
        exact means_some b off cap S w (.inr ⟨b, off, rfl, h⟩) hc hl hs ho
  | none =>
    obtain rfl : S = [] := by
      rcases hk with h | ⟨b, off, h, _⟩
      · exact h
      · cases h
    clear hk
    have HR : Hid (OwnK w w.heap.size (.slice none 0 0) []) := OwnK.nil _ _
    simp only [List.length_nil]
    go_enter Try.func27, Try.ntmps27
    go_wp2
    refine wp_loop_rounds 1 ?_
    rw [rounds_succ]
    go_wp2
    go_ret
    exact ⟨_, [], rfl, HR.out, Means.nil, Nat.le_refl _, Below.refl _ _⟩
end Go.Proofs.Yteamcgoemgailaa
