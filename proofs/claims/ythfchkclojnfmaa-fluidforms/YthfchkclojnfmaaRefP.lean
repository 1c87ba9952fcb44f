/- The document's FluidPlain, walked. -/
import Derived.Test.YthfchkclojnfmaaRef
namespace Go.Proofs.Ythfchkclojnfmaa
open Go.RowKit

/-- What the document's plain form asks of the parcels. -/
def Tame (ps : List Pc) : Prop := Nn ps ∧ tot ps ≤ 1000000000000 ∧ ps.length ≤ 1000
theorem Tame.take {ps : List Pc} (h : Tame ps) (m : Nat) : Tame (ps.take m) := ⟨h.1.take m, by have := tot_take_le h.1 m; have := h.2.1; omega, by have := h.2.2; rw [List.length_take]; omega⟩
theorem Tame.ask {ps : List Pc} (h : Tame ps) : (∀ q ∈ plainL ps, 0 ≤ q.2 ∧ q.2 ≤ 1000000000000) ∧ (plainL ps).length ≤ 1000 :=
  ⟨plain_bound h.1 h.2.1, by have := length_plainL ps; have := h.2.2; omega⟩

theorem new_cells (w : World) (u0 u1 : Value) (n : Nat) : ((w.drewN n).alloc (.cells #[u0, u1] 46)).cell? ⟨w.heap.size, 0, none⟩ = some u0 ∧ ((w.drewN n).alloc (.cells #[u0, u1] 46)).cell? ⟨w.heap.size, 1, none⟩ = some u1 := by
  have e : w.heap.size = (w.drewN n).heap.size := rfl
  rw [e]
  generalize w.drewN n = x
  exact ⟨by go_simp, by go_simp⟩
/-- The last parcel's volume, stored anew. -/
theorem Own.store {w : World} {base g cap : Nat} {A : List Pc} {l : ByteArray} {m k : Int} (h : Own w base (.slice (some ⟨g, 0, none⟩) (A.length + 1) cap) (A ++ [(l, m)])) :
    Own (w.setCell ⟨g, A.length * 2 + 1, none⟩ (.int .i64 k)) base (.slice (some ⟨g, 0, none⟩) (A.length + 1) cap) (A ++ [(l, k)]) := by
  unfold Own at h ⊢
  rw [List.length_append, List.length_singleton] at h
  have h1 := (World.ownsRow.stored h (A.length * 2 + 1) (.int .i64 k)).1
  rw [cellsL_append, cellsL_one, List.length_append, List.length_singleton]
  rw [cellsL_append, cellsL_one, List.set_append_right _ _ (by rw [cellsL_length]; omega), cellsL_length, show A.length * 2 + 1 - A.length * 2 = 1 by omega] at h1
  exact h1

set_option maxHeartbeats 1600000 in
theorem fluidPlain_any (ao : Option Addr) (cap : Nat) (ps : List Pc) (w : World) (h : Fl w ao ps) (ht : Tame ps) :
    Calls Try.prog 16 #[.slice ao ps.length cap] w fun e w' => ∃ v, e = .returned v ∧ Own w' w.heap.size v (plainL ps) ∧ Below w.heap.size w w' := by
  have HF : Hid (Fl w ao ps) := h
  have HT : Hid (Tame ps) := ht
  have hl := ht.2.2
  clear h ht
  go_enter Try.func16, Try.ntmps16
  go_wp2
  go_loopw [3, 4] (fun v i wr => ∃ m : Nat, m ≤ ps.length ∧ i = .int .i64 m ∧ Own wr w.heap.size v (plainL (ps.take m)) ∧ Below w.heap.size w wr) (fun _ i _ => ps.length - (intOf i).toNat)
  case atStart => exact ⟨0, Nat.zero_le _, rfl, Own.nil _ _, Below.refl _ _⟩
  case round =>
    obtain ⟨m, hm, rfl, hown, hb⟩ := hrel
    have HB : Hid (Below w.heap.size w wr) := hb
    clear hb
    by_cases hlt : m < ps.length
    · obtain ⟨b, off, rfl, hbw, c0, c1, _⟩ := (HF.out.next HB.out).at hlt
      have hbw' : b < w.heap.size := by
        obtain ⟨b', off', e, hb', _⟩ := HF.out.at hlt
        injection e with e
        injection e with e _ _
        omega
      have HP : Hid (plainL (ps.take (m + 1)) = behind (plainL (ps.take m)) (ps[m]'hlt)) := by
        rw [List.take_succ_eq_append_getElem hlt, plainL_snoc]; rfl
      have hv0 := HT.out.1 _ (List.getElem_mem hlt)
      have hv1 := le_tot HT.out.1 _ (List.getElem_mem hlt)
      have hv2 : (ps[m]'hlt).2 ≤ 1000000000000 := by have := HT.out.2.1; omega
      clear hv1
      have HA : Hid ((∀ q ∈ plainL (ps.take m), 0 ≤ q.2 ∧ q.2 ≤ 1000000000000) ∧ (plainL (ps.take m)).length ≤ 1000) := (HT.out.take m).ask
      obtain ⟨p, hp⟩ : ∃ p, ps[m]'hlt = p := ⟨_, rfl⟩
      rw [hp] at c0 c1 HP hv0 hv2
      clear hp
      obtain ⟨l, n⟩ := p
      simp only at c0 c1 hv0 hv2
      have hsz := HB.out.size
      by_cases hn : n = 0
      · subst hn
        have HP2 : Hid (plainL (ps.take (m + 1)) = plainL (ps.take m)) := by rw [HP.out, behind_zero rfl]; rfl
        obtain ⟨ao1, n1, cap1, rfl⟩ := hown.form
        have HO : Hid (Own wr w.heap.size (.slice ao1 n1 cap1) (plainL (ps.take m))) := hown
        clear hown
        go_wp2
        go_roundw
        case rel => exact ⟨m + 1, by omega, by go_num, by rw [HP2.out]; exact HO.out, HB.out⟩
        case measure => simp [intOf]; omega
      have hnz : (n == 0) = false := by simp [hn]
      rcases snoc_cases (plainL (ps.take m)) with he | ⟨A, q, he⟩
      · rw [he] at hown HP HA
        clear he
        have HP2 : Hid (plainL (ps.take (m + 1)) = [(l, n)]) := by rw [HP.out, behind_nil hn]; rfl
        obtain ⟨ao1, cap1, rfl⟩ := hown.shape
        simp only [List.length_nil] at hown ⊢
        have HO : Hid (Own wr w.heap.size (.slice ao1 0 cap1) []) := hown
        clear hown
        go_wp2
        go_big_quiet (fail)
        go_wp2_with (at_builtin; refine wpList_append_pc _ rfl (.tmp 50) (.tmp 55) rfl w.heap.size (.slice ao1 0 cap1) [] rfl ((HO.out.drewN nq).alloc _) wr.heap.size l n rfl (new_cells _ _ _ _).1 (new_cells _ _ _ _).2 (by simp) (by simp; omega) ?_; intro v' w1 ho hg _)
        have HO3 : Hid (Own w1 w.heap.size v' (plainL (ps.take (m + 1)))) := by rw [HP2.out]; exact ho
        have HB3 : Hid (Below w.heap.size w w1) := below_grown (v := .slice ao1 0 cap1) (ps := []) ((below_drewN HB.out nq).alloc (by simp; omega) _) ((HO.out.drewN nq).alloc _) hg (by simp; omega)
        clear ho hg
        go_wp2
        go_roundw
        case rel => exact ⟨m + 1, by omega, by go_num, HO3.out, HB3.out⟩
        case measure => simp [intOf]; omega
      · rw [he] at hown HP HA
        clear he
        obtain ⟨g, cap1, rfl, hg, d0, d1, f1, hbg⟩ := hown.last
        have HO : Hid (Own wr w.heap.size (.slice (some ⟨g, 0, none⟩) (A.length + 1) cap1) (A ++ [q])) := hown
        clear hown
        have hAl : A.length ≤ 1000 := by have := HA.out.2; simp at this; omega
        have hq := HA.out.1 q (by simp)
        have hq0 := hq.1
        have hq1 := hq.2
        clear hq
        have hgb : g ≠ b := by omega
        obtain ⟨ql, qn⟩ := q
        simp only at d0 d1 hq0 hq1
        by_cases hlab : ql = l
        · subst hlab
          have HP2 : Hid (plainL (ps.take (m + 1)) = A ++ [(ql, qn + n)]) := by rw [HP.out, behind_same (q := (ql, qn)) (p := (ql, n)) hn rfl]; rfl
          go_wp2
          go_big_quiet (fail)
          go_wp2
          go_region
          go_wp2
          go_roundw
          case rel =>
            refine ⟨m + 1, by omega, by go_num, ?_, (below_drewN HB.out (nq + 1)).setCell (by simp; omega) _⟩
            rw [HP2.out]
            exact (HO.out.drewN (nq + 1)).store
          case measure => simp [intOf]; omega
        · have HP2 : Hid (plainL (ps.take (m + 1)) = A ++ [(ql, qn)] ++ [(l, n)]) := by rw [HP.out, behind_other (q := (ql, qn)) (p := (l, n)) hn hlab]; rfl
          have hlb : (ql.toList == l.toList) = false := ba_ne hlab
          clear hlab
          go_wp2
          go_big_quiet (fail)
          go_wp2_with (at_builtin; refine wpList_append_pc _ rfl (.tmp 50) (.tmp 55) rfl w.heap.size (.slice (some ⟨g, 0, none⟩) (A.length + 1) cap1) (A ++ [(ql, qn)]) rfl ((HO.out.drewN nq).alloc _) wr.heap.size l n rfl (new_cells _ _ _ _).1 (new_cells _ _ _ _).2 (by simp; omega) (by simp; omega) ?_; intro v' w1 ho hg _)
          have HO3 : Hid (Own w1 w.heap.size v' (plainL (ps.take (m + 1)))) := by rw [HP2.out]; exact ho
          have HB3 : Hid (Below w.heap.size w w1) := below_grown (v := .slice (some ⟨g, 0, none⟩) (A.length + 1) cap1) (ps := A ++ [(ql, qn)]) ((below_drewN HB.out nq).alloc (by simp; omega) _) ((HO.out.drewN nq).alloc _) hg (by simp; omega)
          clear ho hg
          go_wp2
          go_roundw
          case rel => exact ⟨m + 1, by omega, by go_num, HO3.out, HB3.out⟩
          case measure => simp [intOf]; omega
    · obtain ⟨ao1, n1, cap1, rfl⟩ := hown.form
      have HO : Hid (Own wr w.heap.size (.slice ao1 n1 cap1) (plainL (ps.take m))) := hown
      clear hown
      go_wp2
      go_ret
      exact ⟨.slice ao1 n1 cap1, rfl, by have := HO.out; rw [List.take_of_length_le (by omega)] at this; exact this, HB.out⟩
end Go.Proofs.Ythfchkclojnfmaa
