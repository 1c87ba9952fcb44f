/- begun, climbing walked. -/
import Derived.Test.YteamcgoemgailaaMea
namespace Go.Proofs.Yteamcgoemgailaa
open Go.RowKit

theorem own_one (w : World) (base : Nat) (k : Kn) (h : base ≤ w.heap.size) : OwnK (w.alloc (ko k)) base (.slice (some ⟨w.heap.size, 0, none⟩) 1 1) [k] := by
  refine ⟨rfl, .inr ⟨w.heap.size, 1, #[.int .i64 k.v, .int .i64 k.s], rfl, h, ?_, Nat.le_refl _, by decide, rfl, rfl⟩⟩
  show (w.heap.push _)[w.heap.size]? = _
  rw [Array.getElem?_push_size]
theorem OwnK.kns {w : World} {base : Nat} {ao : Option Addr} {n cap : Nat} {l : List Kn} (h : OwnK w base (.slice ao n cap) l) : Kns w ao l ∧ n = l.length ∧ l.length ≤ cap ∧ (ao = none → cap = 0) := by
  obtain ⟨ao', cap', e, hk, hc⟩ := h.shape
  simp only [Value.slice.injEq] at e
  obtain ⟨rfl, rfl, rfl⟩ := e
  refine ⟨hk, rfl, hc, fun e => ?_⟩
  rcases h.2 with ⟨h1, _⟩ | ⟨g, cap', cur, h1, _⟩
  · simp only [Value.slice.injEq] at h1; exact h1.2.2
  · simp only [Value.slice.injEq] at h1; rw [h1.1] at e; cases e
set_option maxHeartbeats 3200000 in
theorem begun_any (v : Value) (M : List Kn) (base : Nat) (w : World) (hO : OwnK w base v M) (hl : M.length ≤ 50) :
    Calls Try.prog 26 #[v] w fun e w' => ∃ v', e = .returned v' ∧ OwnK w' w.heap.size v' (z0 :: beg M) ∧ Below w.heap.size w w' := by
  obtain ⟨ao, cap, rfl, _, _⟩ := hO.shape
  obtain ⟨hk, _, hc, hn⟩ := hO.kns
  have HK : Hid (Kns w ao M) := hk
  have HN : Hid (∀ v', OwnK v' w.heap.size (.slice (some ⟨w.heap.size, 0, none⟩) 1 1) [z0] → True) := fun _ _ => trivial
  have HO1 : Hid (OwnK (w.alloc (ko z0)) w.heap.size (.slice (some ⟨w.heap.size, 0, none⟩) 1 1) [z0]) := own_one w _ z0 (Nat.le_refl _)
  have HB1 : Hid (Below w.heap.size w (w.alloc (ko z0))) := (Below.refl _ _).alloc (Nat.le_refl _) _
  obtain ⟨i0, hi, _⟩ := info_parts Try.info31
  clear hk HN
  cases M with
  | nil =>
    cases ao with
    | none =>
      rw [hn rfl]
      clear hn hc hO
      simp only [List.length_nil]
      go_enter Try.func26, Try.ntmps26
      go_wp2_with (at_builtin; refine wpList_append_own_none rfl (.tmp 16) (.tmp 17) 22 rfl w.heap.size 31 i0 2 Try.underlying22 hi _ 1 _ rfl HO1.out rfl ?_)
      go_ret
      exact ⟨_, rfl, HO1.out, HB1.out⟩
    | some a =>
      clear hn hO
      simp only [List.length_nil]
      go_enter Try.func26, Try.ntmps26
      go_wp2_with (at_builtin; refine wpList_append_kn _ rfl (.tmp 16) (.tmp 17) rfl w.heap.size _ [z0] rfl HO1.out a cap [] rfl (Kns.nil _ _) (by simp) HB1.out.size ?_; intro v' w1 ho hg _)
      go_ret
      exact ⟨v', rfl, ho, HB1.out.grown hg HB1.out.size HO1.out.base⟩
  | cons k R =>
    obtain ⟨b, off, rfl, _, c0, c1⟩ := HK.out.at (k := 0) (by simp)
    simp only [Nat.zero_mul, Nat.add_zero, List.getElem_cons_zero] at c0 c1
    clear hn hO c1
    simp only [List.length_cons] at hl hc ⊢
    by_cases hv : k.v = 0
    · have HR : Hid (beg (k :: R) = R) := by show beg _ = _; simp [beg, hv]
      rw [HR.out]
      rw [hv] at c0
      clear hv
      by_cases hc1 : cap = 1
      · obtain rfl : R = [] := List.eq_nil_of_length_eq_zero (by omega)
        subst hc1
        simp only [List.length_nil]
        go_enter Try.func26, Try.ntmps26
        go_wp2_with (at_builtin; refine wpList_append_kn _ rfl (.tmp 16) (.tmp 17) rfl w.heap.size _ [z0] rfl HO1.out _ 0 [] rfl (Kns.nil _ _) (by simp) HB1.out.size ?_; intro v' w1 ho hg _)
        go_ret
        exact ⟨v', rfl, ho, HB1.out.grown hg HB1.out.size HO1.out.base⟩
      · have HK2 : Hid (Kns (w.alloc (ko z0)) (some ⟨b, off + 2, none⟩) R) := by show Kns _ _ _; have := (HK.out.next HB1.out).drop 1; simpa using this
        go_enter Try.func26, Try.ntmps26
        go_wp2_with (at_builtin; refine wpList_append_kn _ rfl (.tmp 16) (.tmp 17) rfl w.heap.size _ [z0] rfl HO1.out _ (cap - 1) R rfl HK2.out (by simp; omega) HB1.out.size ?_; intro v' w1 ho hg _)
        go_ret
        exact ⟨v', rfl, ho, HB1.out.grown hg HB1.out.size HO1.out.base⟩
    · have HR : Hid (beg (k :: R) = k :: R) := by show beg _ = _; simp [beg, hv]
      rw [HR.out]
      have tv : (k.v == 0) = false := by simp [hv]
      clear hv
      go_enter Try.func26, Try.ntmps26
      go_wp2_with (at_builtin; refine wpList_append_kn _ rfl (.tmp 16) (.tmp 17) rfl w.heap.size _ [z0] rfl HO1.out _ cap (k :: R) rfl (HK.out.next HB1.out) (by simp; omega) HB1.out.size ?_; intro v' w1 ho hg _)
      go_ret
      exact ⟨v', rfl, ho, HB1.out.grown hg HB1.out.size HO1.out.base⟩

theorem clim1_empty {acc : List Kn} {p : Kn} (h : acc.length = 0) : clim1 acc p = acc ++ [p] := if_pos (.inl h)
theorem clim1_more {acc : List Kn} {p : Kn} (h : cs acc (acc.length - 1) < p.s) : clim1 acc p = acc ++ [p] := if_pos (.inr h)
theorem clim1_no {acc : List Kn} {p : Kn} (h0 : acc.length ≠ 0) (h : p.s ≤ cs acc (acc.length - 1)) : clim1 acc p = acc := if_neg (by omega)
/-- What holds at the loop's head. -/
def ClI (w : World) (P : List Kn) (k : Nat) (s3 : Value) (wr : World) : Prop :=
  ∃ C ao3 cap3, C = climb [] (P.take k) ∧ s3 = .slice ao3 C.length cap3 ∧ OwnK wr w.heap.size (.slice ao3 C.length cap3) C ∧ Below w.heap.size w wr
set_option maxHeartbeats 6400000 in
theorem climbing_any (v : Value) (P : List Kn) (w : World) (hL : IsCopy P v w) (hl : P.length ≤ 51) :
    Calls Try.prog 25 #[v] w fun e w' => ∃ v', e = .returned v' ∧ OwnK w' w.heap.size v' (climb [] P) ∧ Below w.heap.size w w' := by
  obtain ⟨ao, cap, rfl, hk, _⟩ := hL
  have HL : Hid (Kns w ao P) := hk
  clear hk
  go_enter Try.func25, Try.ntmps25
  go_wp2
  go_loopw [3, 5, 8] (fun s3 _ i wr => ∃ k : Nat, k ≤ P.length ∧ i = .int .i64 (k : Int) ∧ Hid (ClI w P k s3 wr)) (fun _ _ i _ => P.length - (intOf i).toNat)
  case atStart => exact ⟨0, Nat.zero_le _, rfl, [], none, 0, rfl, rfl, OwnK.nil _ _, Below.refl _ _⟩
  case round =>
    obtain ⟨k, hk, rfl, hI⟩ := hrel
    obtain ⟨C, ao3, cap3, hC, rfl, hO, hb⟩ := hI.out
    have HC : Hid (C = climb [] (P.take k)) := hC
    have HO : Hid (OwnK wr w.heap.size (.slice ao3 C.length cap3) C) := hO
    have HB : Hid (Below w.heap.size w wr) := hb
    have hCl : C.length ≤ k := by
      have := climb_length (P.take k) []
      rw [← hC, List.length_take, Nat.min_eq_left hk] at this
      simpa using this
    clear hI hC hO hb
    by_cases hlt : k < P.length
    · obtain ⟨b, off, rfl, hbl, c0, c1⟩ := (HL.out.next HB.out).at hlt
      have HN : Hid (climb [] (P.take (k + 1)) = clim1 C (P[k]'hlt)) := by show climb _ _ = _; rw [climb_succ hlt, HC.out]
      generalize P[k]'hlt = p at *
      have HB1 : Hid (Below w.heap.size w (wr.alloc (ko p))) := below_on HB.out ((Below.refl _ _).alloc (Nat.le_refl _) _)
      have HO1 : Hid (OwnK (wr.alloc (ko p)) w.heap.size (.slice ao3 C.length cap3) C) := HO.out.alloc _
      by_cases hz : C.length = 0
      · have HE : Hid (clim1 C p = C ++ [p]) := clim1_empty hz
        obtain rfl : C = [] := List.eq_nil_of_length_eq_zero hz
        simp only [List.length_nil]
        clear hz
        go_wp2_with fail
        go_big_quiet (fail)
        go_wp2_with (at_builtin; refine wpList_append_kn _ rfl (.tmp 27) (.tmp 29) rfl w.heap.size _ [] rfl ((HO1.out.drewN _).alloc _) ⟨wr.heap.size + 1, 0, none⟩ 1 [p] rfl ?qc1 ?qc2 ?qc3 ?_)
        case qc1 => exact Kns.single (by simp) (by go_simp) (by go_simp)
        case qc2 => simp
        case qc3 => have := HB1.out.size; simp at this ⊢; omega
        intro v' w1 ho hg _
        have HB2 : Hid (Below w.heap.size w w1) := ((below_drewN HB1.out _).alloc (by have := HB.out.size; simp; omega) _).grown hg (by have := HB.out.size; simp; omega) HO1.out.base
        have HO2 : Hid (OwnK w1 w.heap.size v' ([] ++ [p])) := ho
        obtain ⟨ao4, cap4, rfl, _, _⟩ := ho.shape
        clear ho hg
        go_wp2
        go_roundw
        case rel => exact ⟨k + 1, by omega, by go_num, _, ao4, cap4, rfl, by rw [HN.out, HE.out]; rfl, by rw [HN.out, HE.out]; exact HO2.out, HB2.out⟩
        case measure => simp [intOf]; omega
      · obtain ⟨c, hc⟩ : ∃ c, C.length = c + 1 := ⟨C.length - 1, by omega⟩
        have hcl : c < C.length := by omega
        obtain ⟨g, o, rfl, hg, d0, d1⟩ := HO.out.kns.1.at hcl
        clear d0
        rw [← cs_at] at d1
        have hne : g ≠ wr.heap.size := by omega
        have HCS : Hid (cs C (C.length - 1) = cs C c) := by show cs C _ = _; rw [hc]; rfl
        have HCL : Hid (C.length = c + 1) := hc
        have hc50 : c ≤ 50 := by omega
        have hz1 : ((c : Int) + 1 == 0) = false := by simp; omega
        rw [hc] at hCl ⊢
        rw [hc] at HO1
        clear hz hc
        by_cases hs : cs C c < p.s
        · have HE : Hid (clim1 C p = C ++ [p]) := clim1_more (by rw [HCS.out]; exact hs)
          generalize cs C c = sl at *
          have ts : decide (sl < p.s) = true := decide_eq_true hs
          go_wp2_with fail
          go_big_quiet (fail)
          go_wp2_with (at_builtin; refine wpList_append_kn _ rfl (.tmp 27) (.tmp 29) rfl w.heap.size _ C rfl ((HO1.out.drewN _).alloc _) ⟨wr.heap.size + 1, 0, none⟩ 1 [p] rfl ?qc1 ?qc2 ?qc3 ?_)
          case qc1 => exact Kns.single (by simp) (by go_simp) (by go_simp)
          case qc2 => simp [HCL.out]; omega
          case qc3 => have := HB1.out.size; simp at this ⊢; omega
          intro v' w1 ho hg _
          have HB2 : Hid (Below w.heap.size w w1) := ((below_drewN HB1.out _).alloc (by have := HB.out.size; simp; omega) _).grown hg (by have := HB.out.size; simp; omega) HO1.out.base
          have HO2 : Hid (OwnK w1 w.heap.size v' (C ++ [p])) := ho
          obtain ⟨ao4, cap4, rfl, _, _⟩ := ho.shape
          clear ho hg
          go_wp2
          go_roundw
          case rel => exact ⟨k + 1, by omega, by go_num, _, ao4, cap4, rfl, by rw [HN.out, HE.out], by rw [HN.out, HE.out]; exact HO2.out, HB2.out⟩
          case measure => simp [intOf]; omega
        · have HE : Hid (clim1 C p = C) := clim1_no (by rw [HCL.out]; omega) (by rw [HCS.out]; omega)
          generalize cs C c = sl at *
          have ts : decide (sl < p.s) = false := decide_eq_false hs
          go_wp2_with fail
          go_big_quiet (fail)
          go_wp2
          go_roundw
          case rel => exact ⟨k + 1, by omega, by go_num, C, _, cap3, by rw [HN.out, HE.out], by rw [HCL.out], by rw [HCL.out]; exact HO1.out.drewN _, below_drewN HB1.out _⟩
          case measure => simp [intOf]; omega
    · have HE : Hid (climb [] P = C) := by show climb _ _ = _; rw [HC.out, List.take_of_length_le (by omega)]
      go_wp2
      go_ret
      exact ⟨_, rfl, by rw [HE.out]; exact HO.out, HB.out⟩
end Go.Proofs.Yteamcgoemgailaa
