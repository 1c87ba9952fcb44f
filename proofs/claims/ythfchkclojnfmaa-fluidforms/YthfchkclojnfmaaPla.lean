/- fluid.plain, walked. -/
import Derived.Test.YthfchkclojnfmaaOwn
namespace Go.Proofs.Ythfchkclojnfmaa
open Go.RowKit

/-- What lies below base is left alone by whoever writes rows of its own. -/
theorem below_grown {base : Nat} {a w w' : World} {v : Value} {ps : List Pc} (h : Below base a w) (ho : Own w base v ps) (hg : w.grownBy w' v.ownBlock) (hB : base ≤ w.heap.size) : Below base a w' :=
  h.grown hg hB (fun k hk => (World.ownsRow.lt ho k hk).1)
theorem Own.form {w : World} {base : Nat} {v : Value} {ps : List Pc} (h : Own w base v ps) : ∃ ao n cap, v = .slice ao n cap := by
  obtain ⟨ao, cap, h⟩ := h.shape
  exact ⟨ao, _, cap, h⟩
theorem plainL_append (a b : List Pc) : plainL (a ++ b) = b.foldl behind (plainL a) := by unfold plainL; rw [List.foldl_append]
theorem foldl_take_succ {ps : List Pc} {m : Nat} (h : m < ps.length) (acc : List Pc) : (ps.take (m + 1)).foldl behind acc = behind ((ps.take m).foldl behind acc) (ps[m]'h) := by
  rw [List.take_succ_eq_append_getElem h, List.foldl_append]; rfl
/-- Volumes within a bound stay within it. -/
theorem plain_bound {ps : List Pc} (hn : Nn ps) {B : Int} (hB : tot ps ≤ B) : ∀ q ∈ plainL ps, 0 ≤ q.2 ∧ q.2 ≤ B := fun q hq =>
  ⟨nn_plainL hn q hq, by have := le_tot (nn_plainL hn) q hq; rw [tot_plainL] at this; omega⟩
theorem length_cat {fs : List Fd} (hl : ∀ f ∈ fs, f.2.2.length ≤ 100) : (cat fs).length ≤ 100 * fs.length := by
  induction fs using snoc_ind with
  | h0 => simp [cat]
  | h1 a f ih =>
    have h := ih (fun g hg => hl g (by simp [hg]))
    have h2 := hl f (by simp)
    rw [cat_snoc]
    simp only [List.length_append, List.length_singleton]
    omega
theorem fine_cat {fs : List Fd} (hn : ∀ f ∈ fs, Fine f.2.2) : Fine (cat fs) := fun p hp => by
  unfold cat at hp
  obtain ⟨l, hl, hp⟩ := List.mem_flatten.1 hp
  obtain ⟨f, hf, rfl⟩ := List.mem_map.1 hl
  exact hn f hf p hp
theorem fine_append {a b : List Pc} (ha : Fine a) (hb : Fine b) : Fine (a ++ b) := fun p hp => (List.mem_append.1 hp).elim (ha p) (hb p)
/-- The bounds that behind asks for, of a plain form of at most 200 parcels. -/
theorem plain_ask {ps : List Pc} (h : Fine ps) (hl : ps.length ≤ 200) : (∀ q ∈ plainL ps, 0 ≤ q.2 ∧ q.2 ≤ 1000000000000) ∧ (plainL ps).length ≤ 1000000 := by
  have := tot_le h
  refine ⟨plain_bound h.nn (by omega), ?_⟩
  have := length_plainL ps
  omega

set_option maxHeartbeats 1600000 in
theorem plain_any (b c : Nat) (fs : List Fd) (w : World) (hF : FlS w b fs) (hn : ∀ f ∈ fs, Fine f.2.2) (hl : ∀ f ∈ fs, f.2.2.length ≤ 100) (hfs : fs.length ≤ 2) :
    Calls Try.prog 31 #[.slice (some ⟨b, 0, none⟩) fs.length c] w fun e w' => ∃ v, e = .returned v ∧ Own w' w.heap.size v (plainL (cat fs)) ∧ Below w.heap.size w w' := by
  have HF : Hid (FlS w b fs) := hF
  have HN : Hid (∀ f ∈ fs, Fine f.2.2) := hn
  have HL : Hid (∀ f ∈ fs, f.2.2.length ≤ 100) := hl
  clear hF hn hl
  go_enter Try.func31, Try.ntmps31
  go_wp2
  go_loopw [3, 10] (fun v i wr => ∃ k : Nat, k ≤ fs.length ∧ i = .int .i64 k ∧ Own wr w.heap.size v (plainL (cat (fs.take k))) ∧ Below w.heap.size w wr) (fun _ i _ => fs.length - (intOf i).toNat)
  case atStart => exact ⟨0, Nat.zero_le _, rfl, Own.nil _ _, Below.refl _ _⟩
  case round =>
    obtain ⟨k, hk, rfl, hown, hb⟩ := hrel
    obtain ⟨w1, rfl⟩ : ∃ w1, w1 = wr := ⟨_, rfl⟩
    have HB : Hid (Below w.heap.size w w1) := hb
    obtain ⟨ao0, n0, cap0, rfl⟩ := hown.form
    have HO : Hid (Own w1 w.heap.size (.slice ao0 n0 cap0) (plainL (cat (fs.take k)))) := hown
    clear hb hown
    by_cases hlt : k < fs.length
    · obtain ⟨f, hf⟩ : ∃ f, fs[k]'hlt = f := ⟨_, rfl⟩
      obtain ⟨ao, cap, ps⟩ := f
      have hmem : (ao, cap, ps) ∈ fs := by rw [← hf]; exact List.getElem_mem hlt
      have HP : Hid (cat (fs.take (k + 1)) = cat (fs.take k) ++ ps) := by have := cat_take_succ hlt; rw [hf] at this; exact this
      have hcell : w1.cell? ⟨b, k, none⟩ = some (.slice ao ps.length cap) := by have := ((HF.out.next HB.out).2 k hlt).1; rw [hf] at this; exact this
      have HFl : Hid (Fl w ao ps) := by have := (HF.out.2 k hlt).2; rw [hf] at this; exact this
      have HN1 : Hid (Fine (cat (fs.take k) ++ ps)) := fine_append (fine_cat fun g hg => HN.out g (List.mem_of_mem_take hg)) (HN.out _ hmem)
      have hl1 : ps.length ≤ 100 := HL.out _ hmem
      have hl0 : (cat (fs.take k)).length ≤ 100 := by
        have := length_cat (fs := fs.take k) (fun g hg => HL.out g (List.mem_of_mem_take hg))
        rw [List.length_take] at this
        omega
      clear hf hmem
      generalize cat (fs.take k) = C at *
      go_wp2
      go_loopw [3, 16] (fun v i wr => ∃ m : Nat, m ≤ ps.length ∧ i = .int .i64 m ∧ Own wr w.heap.size v (plainL (C ++ ps.take m)) ∧ Below w.heap.size w wr) (fun _ i _ => ps.length - (intOf i).toNat)
      case atStart => exact ⟨0, Nat.zero_le _, rfl, by simpa using HO.out, HB.out⟩
      case round =>
        obtain ⟨m, hm, rfl, hown, hb⟩ := hrel
        have HB2 : Hid (Below w.heap.size w wr) := hb
        obtain ⟨ao1, n1, cap1, rfl⟩ := hown.form
        have HO2 : Hid (Own wr w.heap.size (.slice ao1 n1 cap1) (plainL (C ++ ps.take m))) := hown
        clear hb hown
        by_cases hlt2 : m < ps.length
        · obtain ⟨b2, off, rfl, hb2, c0, c1, _⟩ := (HFl.out.next HB2.out).at hlt2
          have HT : Hid (plainL (C ++ ps.take (m + 1)) = behind (plainL (C ++ ps.take m)) (ps[m]'hlt2)) := by
            rw [List.take_succ_eq_append_getElem hlt2, ← List.append_assoc, plainL_snoc]; rfl
          have hv := HN1.out _ (List.mem_append_right _ (List.getElem_mem hlt2))
          have hv0 := hv.2.1
          have hv1 := hv.2.2
          clear hv
          have HA : Hid ((∀ q ∈ plainL (C ++ ps.take m), 0 ≤ q.2 ∧ q.2 ≤ 1000000000000) ∧ (plainL (C ++ ps.take m)).length ≤ 1000000) :=
            plain_ask (fun p hp => HN1.out p (by rcases List.mem_append.1 hp with h | h; exact List.mem_append_left _ h; exact List.mem_append_right _ (List.mem_of_mem_take h))) (by rw [List.length_append, List.length_take]; omega)
          obtain ⟨p, hp⟩ : ∃ p, ps[m]'hlt2 = p := ⟨_, rfl⟩
          rw [hp] at c0 c1 HT hv0 hv1
          clear hp
          obtain ⟨l, n⟩ := p
          simp only at c0 c1 hv0 hv1
          go_wp2_with fail
          refine (behind_any w.heap.size _ _ l n _ (HO2.out.alloc _) hv0 (by omega) HA.out.1 HA.out.2 (by have := HB2.out.size; simp; omega)).mono ?_
          rintro e w2 ⟨v', rfl, ho, hg, _⟩
          have HO3 : Hid (Own w2 w.heap.size v' (plainL (C ++ ps.take (m + 1)))) := by rw [HT.out]; exact ho
          have HB3 : Hid (Below w.heap.size w w2) := below_grown (HB2.out.alloc HB2.out.size _) (HO2.out.alloc _) hg (by have := HB2.out.size; simp; omega)
          clear ho hg
          go_wp2
          go_roundw
          case rel => exact ⟨m + 1, by omega, by go_num, HO3.out, HB3.out⟩
          case measure => simp [intOf]; omega
        · go_wp2
          go_roundw
          case rel => exact ⟨k + 1, by omega, by go_num, by rw [HP.out]; have := HO2.out; rw [List.take_of_length_le (by omega)] at this; exact this, HB2.out⟩
          case measure => simp [intOf]; omega
    · go_wp2
      go_ret
      exact ⟨.slice ao0 n0 cap0, rfl, by have := HO.out; rw [List.take_of_length_le (by omega)] at this; exact this, HB.out⟩
end Go.Proofs.Ythfchkclojnfmaa
