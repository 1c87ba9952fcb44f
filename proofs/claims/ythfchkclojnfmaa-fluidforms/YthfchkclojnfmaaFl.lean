/- Fluids in memory; fluid.total walked. -/
import Derived.Test.YthfchkclojnfmaaLab2
import Derived.Maps.AppendAt
namespace Go.Proofs.Ythfchkclojnfmaa
open Go.RowKit

theorem bcell {W w1 : World} (hb : Below W.heap.size W w1) : (∀ b o, b < W.heap.size → w1.cell? ⟨b, o, none⟩ = W.cell? ⟨b, o, none⟩) ∧ (∀ b o, b < W.heap.size → w1.frozen? ⟨b, o, none⟩ = W.frozen? ⟨b, o, none⟩) :=
  ⟨fun b o h => hb.cell (p := ⟨b, o, none⟩) h, fun b o h => hb.frozen (p := ⟨b, o, none⟩) h⟩

/-- A slice's memory holds these parcels. -/
def Fl (w : World) (ao : Option Addr) (ps : List Pc) : Prop :=
  (∀ p ∈ ps, p.1.size ≤ maxLen) ∧ (ps = [] ∨ ∃ b off, ao = some ⟨b, off, none⟩ ∧ b < w.heap.size ∧
    ∀ k (h : k < ps.length), w.cell? ⟨b, off + k * 2, none⟩ = some (.string (ps[k]'h).1) ∧ w.cell? ⟨b, off + k * 2 + 1, none⟩ = some (.int .i64 (ps[k]'h).2))
theorem Fl.next {w w1 : World} {ao : Option Addr} {ps : List Pc} (h : Fl w ao ps) (hb : Below w.heap.size w w1) : Fl w1 ao ps := by
  obtain ⟨h0, h1 | ⟨b, off, h1, h2, h3⟩⟩ := h
  · exact ⟨h0, .inl h1⟩
  · exact ⟨h0, .inr ⟨b, off, h1, Nat.lt_of_lt_of_le h2 hb.size, fun k hk => ⟨(hb.cell (p := ⟨b, _, none⟩) h2).trans (h3 k hk).1, (hb.cell (p := ⟨b, _, none⟩) h2).trans (h3 k hk).2⟩⟩⟩
theorem Fl.at {w : World} {ao : Option Addr} {ps : List Pc} (h : Fl w ao ps) {k : Nat} (hk : k < ps.length) : ∃ b off, ao = some ⟨b, off, none⟩ ∧ b < w.heap.size ∧
    w.cell? ⟨b, off + k * 2, none⟩ = some (.string (ps[k]'hk).1) ∧ w.cell? ⟨b, off + k * 2 + 1, none⟩ = some (.int .i64 (ps[k]'hk).2) ∧ (ps[k]'hk).1.size ≤ maxLen := by
  obtain ⟨h0, rfl | ⟨b, off, h1, h2, h3⟩⟩ := h
  · exact absurd hk (Nat.not_lt_zero _)
  · exact ⟨b, off, h1, h2, (h3 k hk).1, (h3 k hk).2, h0 _ (List.getElem_mem hk)⟩
theorem Fl.nil (w : World) (ao : Option Addr) : Fl w ao [] := ⟨(fun p hp => by cases hp), .inl rfl⟩

/-- A fluid as it is handed over: its address, its capacity, its parcels. -/
abbrev Fd := Option Addr × Nat × List Pc
/-- A slice of fluids at the head of block b. -/
def FlS (w : World) (b : Nat) (fs : List Fd) : Prop :=
  b < w.heap.size ∧ ∀ j (h : j < fs.length), w.cell? ⟨b, j, none⟩ = some (.slice (fs[j]'h).1 (fs[j]'h).2.2.length (fs[j]'h).2.1) ∧ Fl w (fs[j]'h).1 (fs[j]'h).2.2
theorem FlS.next {w w1 : World} {b : Nat} {fs : List Fd} (h : FlS w b fs) (hb : Below w.heap.size w w1) : FlS w1 b fs :=
  ⟨Nat.lt_of_lt_of_le h.1 hb.size, fun j hj => ⟨(hb.cell (p := ⟨b, j, none⟩) h.1).trans (h.2 j hj).1, (h.2 j hj).2.next hb⟩⟩
/-- All parcels of fluids, one behind the other. -/
def cat (fs : List Fd) : List Pc := (fs.map (·.2.2)).flatten
theorem cat_snoc (fs : List Fd) (f : Fd) : cat (fs ++ [f]) = cat fs ++ f.2.2 := by simp [cat]
theorem cat_take_succ {fs : List Fd} {k : Nat} (h : k < fs.length) : cat (fs.take (k + 1)) = cat (fs.take k) ++ (fs[k]'h).2.2 := by
  rw [List.take_succ_eq_append_getElem h, cat_snoc]
theorem cat_one (f : Fd) : cat [f] = f.2.2 := by simp [cat]
theorem cat_two (f g : Fd) : cat [f, g] = f.2.2 ++ g.2.2 := by simp [cat]

theorem FlS.one {w : World} {ao : Option Addr} {cap : Nat} {ps : List Pc} (h : Fl w ao ps) : FlS (w.alloc (.cells #[.slice ao ps.length cap] 22)) w.heap.size [(ao, cap, ps)] := by
  refine ⟨by simp, fun j hj => ?_⟩
  match j, hj with
  | 0, _ => exact ⟨by go_simp, h.next ((Below.refl _ _).alloc (Nat.le_refl _) _)⟩
theorem FlS.two {w : World} {ao ao' : Option Addr} {cap cap' : Nat} {ps ps' : List Pc} (h : Fl w ao ps) (h' : Fl w ao' ps') : FlS (w.alloc (.cells #[.slice ao ps.length cap, .slice ao' ps'.length cap'] 22)) w.heap.size [(ao, cap, ps), (ao', cap', ps')] := by
  refine ⟨by simp, fun j hj => ?_⟩
  match j, hj with
  | 0, _ => exact ⟨by go_simp, h.next ((Below.refl _ _).alloc (Nat.le_refl _) _)⟩
  | 1, _ => exact ⟨by go_simp, h'.next ((Below.refl _ _).alloc (Nat.le_refl _) _)⟩

theorem take_get {ps : List Pc} {k : Nat} (h : k < ps.length) : tot (ps.take (k + 1)) = tot (ps.take k) + (ps[k]'h).2 := by
  rw [List.take_succ_eq_append_getElem h, tot_snoc]
theorem fine_take {ps : List Pc} (h : Fine ps) (k : Nat) : Fine (ps.take k) := fun p hp => h p (List.mem_of_mem_take hp)
/-- The bounds of a part's total. -/
theorem part_in {ps : List Pc} (h : Fine ps) (hl : ps.length ≤ 100) (k : Nat) : 0 ≤ tot (ps.take k) ∧ tot (ps.take k) ≤ 100000000000 := by
  have h1 := tot_nonneg (fine_take h k).nn
  have h2 := tot_le (fine_take h k)
  have h3 := List.length_take_le k ps
  have h4 : (ps.take k).length ≤ ps.length := by rw [List.length_take]; omega
  omega
theorem cat_in {fs : List Fd} (hn : ∀ f ∈ fs, Fine f.2.2) (hl : ∀ f ∈ fs, f.2.2.length ≤ 100) : 0 ≤ tot (cat fs) ∧ tot (cat fs) ≤ 100000000000 * fs.length := by
  induction fs using snoc_ind with
  | h0 => simp [cat, tot]
  | h1 a f ih =>
    have h := ih (fun g hg => hn g (by simp [hg])) (fun g hg => hl g (by simp [hg]))
    have h2 := part_in (hn f (by simp)) (hl f (by simp)) f.2.2.length
    rw [List.take_length] at h2
    rw [cat_snoc, tot_append]
    simp only [List.length_append, List.length_singleton]
    omega

set_option maxHeartbeats 800000 in
theorem total_any (b c : Nat) (fs : List Fd) (w : World) (hF : FlS w b fs) (hn : ∀ f ∈ fs, Fine f.2.2) (hl : ∀ f ∈ fs, f.2.2.length ≤ 100) (hfs : fs.length ≤ 2) :
    Calls Try.prog 32 #[.slice (some ⟨b, 0, none⟩) fs.length c] w fun e w' => e = .returned (.int .i64 (tot (cat fs))) ∧ Below w.heap.size w w' := by
  have HF : Hid (FlS w b fs) := hF
  have HN : Hid (∀ f ∈ fs, Fine f.2.2) := hn
  have HL : Hid (∀ f ∈ fs, f.2.2.length ≤ 100) := hl
  clear hF hn hl
  go_enter Try.func32, Try.ntmps32
  go_wp2
  go_loopw [3, 10] (fun s i wr => ∃ k : Nat, k ≤ fs.length ∧ i = .int .i64 k ∧ s = .int .i64 (tot (cat (fs.take k))) ∧ Below w.heap.size w wr) (fun _ i _ => fs.length - (intOf i).toNat)
  case atStart => exact ⟨0, Nat.zero_le _, rfl, rfl, Below.refl _ _⟩
  case round =>
    obtain ⟨k, hk, rfl, rfl, hb⟩ := hrel
    obtain ⟨w1, rfl⟩ : ∃ w1, w1 = wr := ⟨_, rfl⟩
    have HB : Hid (Below w.heap.size w w1) := hb
    clear hb
    by_cases hlt : k < fs.length
    · obtain ⟨f, hf⟩ : ∃ f, fs[k]'hlt = f := ⟨_, rfl⟩
      obtain ⟨ao, cap, ps⟩ := f
      have hmem : (ao, cap, ps) ∈ fs := by rw [← hf]; exact List.getElem_mem hlt
      have HP : Hid (cat (fs.take (k + 1)) = cat (fs.take k) ++ ps) := by have := cat_take_succ hlt; rw [hf] at this; exact this
      have hcell : w1.cell? ⟨b, k, none⟩ = some (.slice ao ps.length cap) := by have := ((HF.out.next HB.out).2 k hlt).1; rw [hf] at this; exact this
      have HFl : Hid (Fl w1 ao ps) := by have := ((HF.out.next HB.out).2 k hlt).2; rw [hf] at this; exact this
      have HN1 : Hid (Fine ps) := HN.out _ hmem
      have hl1 : ps.length ≤ 100 := HL.out _ hmem
      have hci := cat_in (fs := fs.take k) (fun g hg => HN.out g (List.mem_of_mem_take hg)) (fun g hg => HL.out g (List.mem_of_mem_take hg))
      have hck : (fs.take k).length ≤ 2 := by rw [List.length_take]; omega
      clear hf hmem
      have hc1 : tot (cat (fs.take k)) ≤ 200000000000 := by omega
      have hc0 := hci.1
      clear hci hck
      generalize hS : tot (cat (fs.take k)) = S at *
      have HS : Hid (tot (cat (fs.take k)) = S) := hS
      clear hS
      go_wp2
      go_loopw [3, 16] (fun s i wr => ∃ m : Nat, m ≤ ps.length ∧ i = .int .i64 m ∧ s = .int .i64 (S + tot (ps.take m)) ∧ Below w1.heap.size w1 wr) (fun _ i _ => ps.length - (intOf i).toNat)
      case atStart => exact ⟨0, Nat.zero_le _, rfl, by simp [tot], Below.refl _ _⟩
      case round =>
        obtain ⟨m, hm, rfl, rfl, hb⟩ := hrel
        have HB2 : Hid (Below w1.heap.size w1 wr) := hb
        clear hb
        have hpi := part_in HN1.out hl1 m
        by_cases hlt2 : m < ps.length
        · obtain ⟨b2, off, rfl, hb2, c0, c1, _⟩ := (HFl.out.next HB2.out).at hlt2
          have HT : Hid (tot (ps.take (m + 1)) = tot (ps.take m) + (ps[m]'hlt2).2) := take_get hlt2
          have hv := HN1.out _ (List.getElem_mem hlt2)
          have hv0 := hv.2.1
          have hv1 := hv.2.2
          clear hv
          obtain ⟨l, hl⟩ : ∃ l, (ps[m]'hlt2).1 = l := ⟨_, rfl⟩
          obtain ⟨v, hv⟩ : ∃ v, (ps[m]'hlt2).2 = v := ⟨_, rfl⟩
          rw [hl] at c0
          rw [hv] at c1 HT hv0 hv1
          clear hl hv
          obtain ⟨hp0, hp1⟩ := hpi
          go_wp2
          go_roundw
          case rel => exact ⟨m + 1, by omega, by go_num, by rw [HT.out, Int.add_assoc], HB2.out.alloc HB2.out.size _⟩
          case measure => simp [intOf]; omega
        · go_wp2
          go_roundw
          case rel => exact ⟨k + 1, by omega, by go_num, by rw [HP.out, tot_append, HS.out, show m = ps.length by omega, List.take_length], HB.out.trans (HB2.out.mono HB.out.size)⟩
          case measure => simp [intOf]; omega
    · go_wp2
      go_ret
      exact ⟨ret_int (by rw [show k = fs.length by omega, List.take_length]), HB.out⟩
end Go.Proofs.Ythfchkclojnfmaa
