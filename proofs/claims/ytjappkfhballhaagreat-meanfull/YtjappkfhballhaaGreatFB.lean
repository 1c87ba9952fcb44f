/- fluid.total, fluid.refusal walked. -/
import Derived.Test.YtjappkfhballhaaGreatFA
import Derived.Maps.AppendAt
namespace Go.Proofs.YtjappkfhballhaaGreat.F
open Go.RowKit

/-- A slice's memory holds these parcels. -/
def Fl (w : World) (ao : Option Addr) (ps : List Pc) : Prop :=
  (∀ p ∈ ps, p.1.size ≤ maxLen) ∧ (ps = [] ∨ ∃ b off, ao = some ⟨b, off, none⟩ ∧ b < w.heap.size ∧
    ∀ k (h : k < ps.length), w.cell? ⟨b, off + k * 2, none⟩ = some (.string (ps[k]'h).1) ∧ w.cell? ⟨b, off + k * 2 + 1, none⟩ = some (.int .i64 (ps[k]'h).2))
theorem Fl.next {w w1 : World} {ao : Option Addr} {ps : List Pc} (h : Fl w ao ps) (hb : Below w.heap.size w w1) : Fl w1 ao ps := by
  obtain ⟨h0, h1 | ⟨b, off, h1, h2, h3⟩⟩ := h
  · exact ⟨h0, .inl h1⟩
  · exact ⟨h0, .inr ⟨b, off, h1, Nat.lt_of_lt_of_le h2 hb.size, fun k hk => ⟨(hb.cell (p := ⟨b, _, none⟩) h2).trans (h3 k hk).1, (hb.cell (p := ⟨b, _, none⟩) h2).trans (h3 k hk).2⟩⟩⟩
theorem Fl.at {w : World} {ao : Option Addr} {ps : List Pc} (h : Fl w ao ps) {k : Nat} (hk : k < ps.length) : ∃ b off, ao = some ⟨b, off, none⟩ ∧ b < w.heap.size ∧
    w.cell? ⟨b, off + k * 2, none⟩ = some (.string (ps[k]'hk).1) ∧ w.cell? ⟨b, off + k * 2 + 1, none⟩ = some (.int .i64 (ps[k]'hk).2) ∧ (ps[k]'hk).1.size ≤ maxLen := by
  obtain ⟨h0, rfl | ⟨b, off, h1, h2, h3⟩⟩ := h
  · exact absurd hk (Nat.not_lt_zero _)
  · exact ⟨b, off, h1, h2, (h3 k hk).1, (h3 k hk).2, h0 _ (List.getElem_mem hk)⟩
theorem Fl.nil (w : World) (ao : Option Addr) : Fl w ao [] := ⟨(fun p hp => by cases hp), .inl rfl⟩

/-- A fluid as it is handed over: its address, its capacity, its parcels. -/
abbrev Fd := Option Addr × Nat × List Pc
/-- A slice of fluids at the head of block b. -/
def FlS (w : World) (b : Nat) (fs : List Fd) : Prop :=
  b < w.heap.size ∧ ∀ j (h : j < fs.length), w.cell? ⟨b, j, none⟩ = some (.slice (fs[j]'h).1 (fs[j]'h).2.2.length (fs[j]'h).2.1) ∧ Fl w (fs[j]'h).1 (fs[j]'h).2.2
theorem FlS.next {w w1 : World} {b : Nat} {fs : List Fd} (h : FlS w b fs) (hb : Below w.heap.size w w1) : FlS w1 b fs :=
  ⟨Nat.lt_of_lt_of_le h.1 hb.size, fun j hj => ⟨(hb.cell (p := ⟨b, j, none⟩) h.1).trans (h.2 j hj).1, (h.2 j hj).2.next hb⟩⟩
/-- All parcels of fluids, one behind the other. -/
def cat (fs : List Fd) : List Pc := (fs.map (·.2.2)).flatten
theorem cat_snoc (fs : List Fd) (f : Fd) : cat (fs ++ [f]) = cat fs ++ f.2.2 := by simp [cat]
theorem cat_take_succ {fs : List Fd} {k : Nat} (h : k < fs.length) : cat (fs.take (k + 1)) = cat (fs.take k) ++ (fs[k]'h).2.2 := by
  rw [List.take_succ_eq_append_getElem h, cat_snoc]
theorem cat_one (f : Fd) : cat [f] = f.2.2 := by simp [cat]
theorem cat_two (f g : Fd) : cat [f, g] = f.2.2 ++ g.2.2 := by simp [cat]

theorem FlS.one {w : World} {ao : Option Addr} {cap : Nat} {ps : List Pc} (h : Fl w ao ps) : FlS (w.alloc (.cells #[.slice ao ps.length cap] 24)) w.heap.size [(ao, cap, ps)] := by
  refine ⟨by simp, fun j hj => ?_⟩
  match j, hj with
  | 0, _ => exact ⟨by go_simp, h.next ((Below.refl _ _).alloc (Nat.le_refl _) _)⟩
theorem FlS.two {w : World} {ao ao' : Option Addr} {cap cap' : Nat} {ps ps' : List Pc} (h : Fl w ao ps) (h' : Fl w ao' ps') : FlS (w.alloc (.cells #[.slice ao ps.length cap, .slice ao' ps'.length cap'] 24)) w.heap.size [(ao, cap, ps), (ao', cap', ps')] := by
  refine ⟨by simp, fun j hj => ?_⟩
  match j, hj with
  | 0, _ => exact ⟨by go_simp, h.next ((Below.refl _ _).alloc (Nat.le_refl _) _)⟩
  | 1, _ => exact ⟨by go_simp, h'.next ((Below.refl _ _).alloc (Nat.le_refl _) _)⟩

theorem take_get {ps : List Pc} {k : Nat} (h : k < ps.length) : tot (ps.take (k + 1)) = tot (ps.take k) + (ps[k]'h).2 := by
  rw [List.take_succ_eq_append_getElem h, tot_snoc]
theorem fine_take {ps : List Pc} (h : Fine ps) (k : Nat) : Fine (ps.take k) := fun p hp => h p (List.mem_of_mem_take hp)
/-- The bounds of a part's total. -/
theorem part_in {ps : List Pc} (h : Fine ps) (hl : ps.length ≤ 100) (k : Nat) : 0 ≤ tot (ps.take k) ∧ tot (ps.take k) ≤ 100000000000 := by
  have h1 := tot_nonneg (fine_take h k).nn
  have h2 := tot_le (fine_take h k)
  have h3 := List.length_take_le k ps
  have h4 : (ps.take k).length ≤ ps.length := by rw [List.length_take]; omega
  omega
theorem cat_in {fs : List Fd} (hn : ∀ f ∈ fs, Fine f.2.2) (hl : ∀ f ∈ fs, f.2.2.length ≤ 100) : 0 ≤ tot (cat fs) ∧ tot (cat fs) ≤ 100000000000 * fs.length := by
  induction fs using snoc_ind with
  | h0 => simp [cat, tot]
  | h1 a f ih =>
    have h := ih (fun g hg => hn g (by simp [hg])) (fun g hg => hl g (by simp [hg]))
    have h2 := part_in (hn f (by simp)) (hl f (by simp)) f.2.2.length
    rw [List.take_length] at h2
    rw [cat_snoc, tot_append]
    simp only [List.length_append, List.length_singleton]
    omega

set_option maxHeartbeats 800000 in
theorem total_any (b c : Nat) (fs : List Fd) (w : World) (hF : FlS w b fs) (hn : ∀ f ∈ fs, Fine f.2.2) (hl : ∀ f ∈ fs, f.2.2.length ≤ 100) (hfs : fs.length ≤ 2) :
    Calls Tryz.prog 57 #[.slice (some ⟨b, 0, none⟩) fs.length c] w fun e w' => e = .returned (.int .i64 (tot (cat fs))) ∧ Below w.heap.size w w' := by
  have HF : Hid (FlS w b fs) := hF
  have HN : Hid (∀ f ∈ fs, Fine f.2.2) := hn
  have HL : Hid (∀ f ∈ fs, f.2.2.length ≤ 100) := hl
  clear hF hn hl
  go_enter Tryz.func57, Tryz.ntmps57
  go_wp2
  go_loopw [3, 10] (fun s i wr => ∃ k : Nat, k ≤ fs.length ∧ i = .int .i64 k ∧ s = .int .i64 (tot (cat (fs.take k))) ∧ Below w.heap.size w wr) (fun _ i _ => fs.length - (intOf i).toNat)
  case atStart => exact ⟨0, Nat.zero_le _, rfl, rfl, Below.refl _ _⟩
  case round =>
    obtain ⟨k, hk, rfl, rfl, hb⟩ := hrel
    obtain ⟨w1, rfl⟩ : ∃ w1, w1 = wr := ⟨_, rfl⟩
    have HB : Hid (Below w.heap.size w w1) := hb
    clear hb
    by_cases hlt : k < fs.length
    · obtain ⟨f, hf⟩ : ∃ f, fs[k]'hlt = f := ⟨_, rfl⟩
      obtain ⟨ao, cap, ps⟩ := f
      have hmem : (ao, cap, ps) ∈ fs := by rw [← hf]; exact List.getElem_mem hlt
      have HP : Hid (cat (fs.take (k + 1)) = cat (fs.take k) ++ ps) := by have := cat_take_succ hlt; rw [hf] at this; exact this
      have hcell : w1.cell? ⟨b, k, none⟩ = some (.slice ao ps.length cap) := by have := ((HF.out.next HB.out).2 k hlt).1; rw [hf] at this; exact this
      have HFl : Hid (Fl w1 ao ps) := by have := ((HF.out.next HB.out).2 k hlt).2; rw [hf] at this; exact this
      have HN1 : Hid (Fine ps) := HN.out _ hmem
      have hl1 : ps.length ≤ 100 := HL.out _ hmem
      have hci := cat_in (fs := fs.take k) (fun g hg => HN.out g (List.mem_of_mem_take hg)) (fun g hg => HL.out g (List.mem_of_mem_take hg))
      have hck : (fs.take k).length ≤ 2 := by rw [List.length_take]; omega
      clear hf hmem
      have hc1 : tot (cat (fs.take k)) ≤ 200000000000 := by omega
      have hc0 := hci.1
      clear hci hck
      generalize hS : tot (cat (fs.take k)) = S at *
      have HS : Hid (tot (cat (fs.take k)) = S) := hS
      clear hS
      go_wp2
      go_loopw [3, 16] (fun s i wr => ∃ m : Nat, m ≤ ps.length ∧ i = .int .i64 m ∧ s = .int .i64 (S + tot (ps.take m)) ∧ Below w1.heap.size w1 wr) (fun _ i _ => ps.length - (intOf i).toNat)
      case atStart => exact ⟨0, Nat.zero_le _, rfl, by simp [tot], Below.refl _ _⟩
      case round =>
        obtain ⟨m, hm, rfl, rfl, hb⟩ := hrel
        have HB2 : Hid (Below w1.heap.size w1 wr) := hb
        clear hb
        have hpi := part_in HN1.out hl1 m
        by_cases hlt2 : m < ps.length
        · obtain ⟨b2, off, rfl, hb2, c0, c1, _⟩ := (HFl.out.next HB2.out).at hlt2
          have HT : Hid (tot (ps.take (m + 1)) = tot (ps.take m) + (ps[m]'hlt2).2) := take_get hlt2
          have hv := HN1.out _ (List.getElem_mem hlt2)
          have hv0 := hv.2.1
          have hv1 := hv.2.2
          clear hv
          obtain ⟨l, hl⟩ : ∃ l, (ps[m]'hlt2).1 = l := ⟨_, rfl⟩
          obtain ⟨v, hv⟩ : ∃ v, (ps[m]'hlt2).2 = v := ⟨_, rfl⟩
          rw [hl] at c0
          rw [hv] at c1 HT hv0 hv1
          clear hl hv
          obtain ⟨hp0, hp1⟩ := hpi
          go_wp2
          go_roundw
          case rel => exact ⟨m + 1, by omega, by go_num, by rw [HT.out, Int.add_assoc], HB2.out.alloc HB2.out.size _⟩
          case measure => simp [intOf]; omega
        · go_wp2
          go_roundw
          case rel => exact ⟨k + 1, by omega, by go_num, by rw [HP.out, tot_append, HS.out, show m = ps.length by omega, List.take_length], HB.out.trans (HB2.out.mono HB.out.size)⟩
          case measure => simp [intOf]; omega
    · go_wp2
      go_ret
      exact ⟨ret_int (by rw [show k = fs.length by omega, List.take_length]), HB.out⟩

theorem isLabel_yes (s : ByteArray) (w : World) (hs : s.size ≤ maxLen) (h : lab s = true) :
    Calls Tryz.prog 81 #[.string s] w fun e w' => e = .returned (.bool true) ∧ Below w.heap.size w w' :=
  (isLabel_any s w hs).mono fun e w' ⟨he, hw⟩ => ⟨by rw [he, h], hw⟩
theorem isLabel_no (s : ByteArray) (w : World) (hs : s.size ≤ maxLen) (h : lab s = false) :
    Calls Tryz.prog 81 #[.string s] w fun e w' => e = .returned (.bool false) ∧ Below w.heap.size w w' :=
  (isLabel_any s w hs).mono fun e w' ⟨he, hw⟩ => ⟨by rw [he, h], hw⟩

theorem frefs_at {fs : List Fd} {k : Nat} (h : k < fs.length) (ha : ∀ f ∈ fs.take k, fref f.2.2 = 0) (hb : fref (fs[k]'h).2.2 ≠ 0) : frefs (fs.map (·.2.2)) = fref (fs[k]'h).2.2 := by
  have e : fs = fs.take k ++ fs[k]'h :: fs.drop (k + 1) := by rw [← List.drop_eq_getElem_cons h, List.take_append_drop]
  have e2 : frefs (fs.map (·.2.2)) = frefs ((fs.take k).map (·.2.2) ++ (fs[k]'h).2.2 :: (fs.drop (k + 1)).map (·.2.2)) := by
    conv => lhs; rw [e]
    rw [List.map_append, List.map_cons]
  rw [e2, frefs_append_ok (fun f hf => by obtain ⟨g, hg, rfl⟩ := List.mem_map.1 hf; exact ha g hg)]
  simp only [frefs]; rw [if_neg hb]
theorem badL_at {ps : List Pc} {m : Nat} (h : m < ps.length) (ha : badL (ps.take m) = 0) (hb : bad1 (ps[m]'h) ≠ 0) : badL ps = bad1 (ps[m]'h) := by
  have e : ps = ps.take m ++ ps[m]'h :: ps.drop (m + 1) := by rw [← List.drop_eq_getElem_cons h, List.take_append_drop]
  conv => lhs; rw [e]
  exact badL_first ha hb
theorem badL_succ {ps : List Pc} {m : Nat} (h : m < ps.length) (ha : badL (ps.take m) = 0) (hb : bad1 (ps[m]'h) = 0) : badL (ps.take (m + 1)) = 0 := by
  rw [List.take_succ_eq_append_getElem h]; exact badL_snoc ha hb
theorem mem_take_succ {fs : List Fd} {k : Nat} (h : k < fs.length) (ha : ∀ f ∈ fs.take k, fref f.2.2 = 0) (hb : fref (fs[k]'h).2.2 = 0) : ∀ f ∈ fs.take (k + 1), fref f.2.2 = 0 := by
  rw [List.take_succ_eq_append_getElem h]
  intro f hf
  rcases List.mem_append.1 hf with hf | hf
  · exact ha f hf
  · simp at hf; subst hf; exact hb

set_option maxHeartbeats 1600000 in
theorem refusal_any (b c : Nat) (fs : List Fd) (w : World) (hF : FlS w b fs) (hfs : fs.length ≤ 2) :
    Calls Tryz.prog 56 #[.slice (some ⟨b, 0, none⟩) fs.length c] w fun e w' => e = .returned (.int .i64 (frefs (fs.map (·.2.2)))) ∧ Below w.heap.size w w' := by
  have HF : Hid (FlS w b fs) := hF
  clear hF
  go_enter Tryz.func56, Tryz.ntmps56
  go_wp2
  go_loopw [9] (fun i wr => ∃ k : Nat, k ≤ fs.length ∧ i = .int .i64 k ∧ (∀ f ∈ fs.take k, fref f.2.2 = 0) ∧ Below w.heap.size w wr) (fun i _ => fs.length - (intOf i).toNat)
  case atStart => exact ⟨0, Nat.zero_le _, rfl, (fun f hf => by simp at hf), Below.refl _ _⟩
  case round =>
    obtain ⟨k, hk, rfl, hok, hb⟩ := hrel
    obtain ⟨w1, rfl⟩ : ∃ w1, w1 = wr := ⟨_, rfl⟩
    have HB : Hid (Below w.heap.size w w1) := hb
    have HO : Hid (∀ f ∈ fs.take k, fref f.2.2 = 0) := hok
    clear hb hok
    by_cases hlt : k < fs.length
    · obtain ⟨f, hf⟩ : ∃ f, fs[k]'hlt = f := ⟨_, rfl⟩
      obtain ⟨ao, cap, ps⟩ := f
      have HP : Hid ((fs[k]'hlt).2.2 = ps) := by rw [hf]; rfl
      have hcell : w1.cell? ⟨b, k, none⟩ = some (.slice ao ps.length cap) := by have := ((HF.out.next HB.out).2 k hlt).1; rw [hf] at this; exact this
      have HFl : Hid (Fl w1 ao ps) := by have := ((HF.out.next HB.out).2 k hlt).2; rw [hf] at this; exact this
      clear hf
      have HE : Hid (fref ps ≠ 0 → frefs (fs.map (·.2.2)) = fref ps) := fun h => by
        have := frefs_at hlt HO.out (by rw [HP.out]; exact h)
        rw [HP.out] at this; exact this
      by_cases h100 : 100 < ps.length
      · go_wp2
        go_ret
        exact ⟨ret_int (by rw [HE.out (by rw [fref_many h100]; decide), fref_many h100]), HB.out⟩
      have h100' : ps.length ≤ 100 := by omega
      clear h100
      go_wp2
      go_loopw [18] (fun i wr => ∃ m : Nat, m ≤ ps.length ∧ i = .int .i64 m ∧ badL (ps.take m) = 0 ∧ Below w1.heap.size w1 wr) (fun i _ => ps.length - (intOf i).toNat)
      case atStart => exact ⟨0, Nat.zero_le _, rfl, rfl, Below.refl _ _⟩
      case round =>
        obtain ⟨m, hm, rfl, hbl, hb⟩ := hrel
        have HB2 : Hid (Below w1.heap.size w1 wr) := hb
        have HBL : Hid (badL (ps.take m) = 0) := hbl
        clear hb hbl
        by_cases hlt2 : m < ps.length
        · obtain ⟨b2, off, rfl, hb2, c0, c1, hsz⟩ := (HFl.out.next HB2.out).at hlt2
          have HA : Hid (bad1 (ps[m]'hlt2) ≠ 0 → fref ps = bad1 (ps[m]'hlt2)) := fun h => by
            have e := badL_at hlt2 HBL.out h
            rw [fref_bad h100' (by rw [e]; exact h), e]
          have HS : Hid (bad1 (ps[m]'hlt2) = 0 → badL (ps.take (m + 1)) = 0) := badL_succ hlt2 HBL.out
          obtain ⟨p, hp⟩ : ∃ p, ps[m]'hlt2 = p := ⟨_, rfl⟩
          rw [hp] at c0 c1 HA HS hsz
          clear hp
          obtain ⟨l, v⟩ := p
          simp only at c0 c1 hsz
          cases hlab : lab l with
          | false =>
            have HL : Hid (lab l = false) := hlab
            clear hlab
            go_wp2_with (go_at_call 81; refine (isLabel_no _ _ hsz HL.out).mono ?_; rintro e w2 ⟨rfl, hb3⟩)
            go_ret
            have e3 : bad1 (l, v) = 3 := bad1_name HL.out
            exact ⟨ret_int (by rw [HE.out (by rw [HA.out (by rw [e3]; decide), e3]; decide), HA.out (by rw [e3]; decide), e3]), (HB.out.trans (HB2.out.mono HB.out.size)).trans (((Below.refl _ _).alloc (Nat.le_refl _) _).trans (hb3.mono (by simp)) |>.mono (Nat.le_trans HB.out.size HB2.out.size))⟩
          | true =>
            have HL : Hid (lab l = true) := hlab
            clear hlab
            go_wp2_with fail
            refine (isLabel_yes _ _ hsz HL.out).mono ?_
            rintro e w2 ⟨rfl, hb3⟩
            obtain ⟨hc, hf⟩ := bcell hb3
            have e1 : w2.cell? ⟨wr.heap.size, 1, none⟩ = some (.int .i64 v) := (hc _ _ (by simp)).trans (by go_simp)
            have HB3 : Hid (Below w.heap.size w w2 ∧ Below w1.heap.size w1 w2) := by
              have h1 : Below w1.heap.size w1 w2 := (HB2.out.alloc HB2.out.size _).trans (hb3.mono (by have := HB2.out.size; simp; omega))
              exact ⟨HB.out.trans (h1.mono HB.out.size), h1⟩
            clear hc hf hb3
            by_cases hv0 : v < 0
            · have e3 : Hid (bad1 (l, v) = 2) := bad1_range HL.out (.inl hv0)
              go_wp2
              go_ret
              exact ⟨ret_int (by rw [HE.out (by rw [HA.out (by rw [e3.out]; decide), e3.out]; decide), HA.out (by rw [e3.out]; decide), e3.out]), HB3.out.1⟩
            · by_cases hv1 : 1000000000 < v
              · have e3 : Hid (bad1 (l, v) = 2) := bad1_range HL.out (.inr hv1)
                go_wp2
                go_ret
                exact ⟨ret_int (by rw [HE.out (by rw [HA.out (by rw [e3.out]; decide), e3.out]; decide), HA.out (by rw [e3.out]; decide), e3.out]), HB3.out.1⟩
              · have e3 : Hid (bad1 (l, v) = 0) := bad1_ok HL.out (by simp only; omega) (by simp only; omega)
                go_wp2
                go_roundw
                case rel => exact ⟨m + 1, by omega, by go_num, HS.out e3.out, HB3.out.2⟩
                case measure => simp [intOf]; omega
        · have HBL2 : Hid (badL ps = 0) := by have := HBL.out; rw [List.take_of_length_le (by omega)] at this; exact this
          have HFi : Hid (Fine ps) := fine_of HBL2.out
          have hB1 : Below w.heap.size w wr := HB.out.trans (HB2.out.mono HB.out.size)
          have HB1 : Hid (Below w.heap.size w wr) := hB1
          clear hB1
          go_wp2_with fail
          refine (total_any wr.heap.size 1 [(ao, cap, ps)] _ (FlS.one (HFl.out.next HB2.out)) (fun f hf => by simp at hf; subst hf; exact HFi.out) (fun f hf => by simp at hf; subst hf; exact h100') (by simp)).mono ?_
          rintro e w2 ⟨rfl, hb3⟩
          rw [cat_one]
          have HB3 : Hid (Below w.heap.size w w2) := (HB1.out.alloc HB1.out.size _).trans (hb3.mono (by have := HB1.out.size; simp; omega))
          clear hb3
          simp only
          by_cases ht : 1000000000 < tot ps
          · have e3 : Hid (fref ps = 8) := fref_size h100' HBL2.out ht
            go_wp2
            go_ret
            exact ⟨ret_int (by rw [HE.out (by rw [e3.out]; decide), e3.out]), HB3.out⟩
          · have e3 : Hid (fref ps = 0) := fref_ok h100' HBL2.out (by omega)
            go_wp2
            go_roundw
            case rel => exact ⟨k + 1, by omega, by go_num, mem_take_succ hlt HO.out (by rw [HP.out]; exact e3.out), HB3.out⟩
            case measure => simp [intOf]; omega
    · go_wp2
      go_ret
      exact ⟨ret_int (by rw [frefs_ok]; intro f hf; obtain ⟨g, hg, rfl⟩ := List.mem_map.1 hf; exact HO.out g (by rw [List.take_of_length_le (by omega)]; exact hg)), HB.out⟩

end Go.Proofs.YtjappkfhballhaaGreat.F
