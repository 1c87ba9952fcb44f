import Derived.Test.YtcajifelbldjnaaGreatDoorIb
import Derived.Maps.AppendAt
set_option maxRecDepth 100000
set_option maxHeartbeats 25600000
set_option linter.unusedVariables false
namespace Go.Proofs.YtcajifelbldjnaaGreatDoor.F
open Go.RowKit
def Fl (w : World) (ao : Option Addr) (ps : List Pc) : Prop :=
 (∀ p ∈ ps, p.1.size ≤ maxLen) ∧ (ps = [] ∨ ∃ b off, ao = some ⟨b, off, none⟩ ∧ b < w.heap.size ∧
  ∀ k (h : k < ps.length), w.cell? ⟨b, off + k * 2, none⟩ = some (.string (ps[k]'h).1) ∧ w.cell? ⟨b, off + k * 2 + 1, none⟩ = some (.int .i64 (ps[k]'h).2))
theorem Fl.next {w w1 : World} {ao : Option Addr} {ps : List Pc} (h : Fl w ao ps) (hb : bw w w1) : Fl w1 ao ps := by
 obtain ⟨h0, h1 | ⟨b, off, h1, h2, h3⟩⟩ := h
 ·exact ⟨h0, .inl h1⟩
 ·exact ⟨h0, .inr ⟨b, off, h1, Nat.lt_of_lt_of_le h2 hb.size, fun k hk => ⟨(hb.cell (p := ⟨b, _, none⟩) h2).trans (h3 k hk).1, (hb.cell (p := ⟨b, _, none⟩) h2).trans (h3 k hk).2⟩⟩⟩
theorem Fl.at {w : World} {ao : Option Addr} {ps : List Pc} (h : Fl w ao ps) {k : Nat} (hk : k < ps.length) : ∃ b off, ao = some ⟨b, off, none⟩ ∧ b < w.heap.size ∧
  w.cell? ⟨b, off + k * 2, none⟩ = some (.string (ps[k]'hk).1) ∧ w.cell? ⟨b, off + k * 2 + 1, none⟩ = some (.int .i64 (ps[k]'hk).2) ∧ (ps[k]'hk).1.size ≤ maxLen := by
 obtain ⟨h0, rfl | ⟨b, off, h1, h2, h3⟩⟩ := h
 ·exact absurd hk (Nat.not_lt_zero _)
 ·exact ⟨b, off, h1, h2, (h3 k hk).1, (h3 k hk).2, h0 _ (List.getElem_mem hk)⟩
theorem Fl.nil (w : World) (ao : Option Addr) : Fl w ao [] := ⟨(fun p hp => by cases hp), .inl rfl⟩
abbrev Fd := Option Addr × Nat × List Pc
def FlS (w : World) (b : Nat) (fs : List Fd) : Prop :=
 b < w.heap.size ∧ ∀ j (h : j < fs.length), w.cell? ⟨b, j, none⟩ = some (.slice (fs[j]'h).1 (fs[j]'h).2.2.length (fs[j]'h).2.1) ∧ Fl w (fs[j]'h).1 (fs[j]'h).2.2
theorem FlS.next {w w1 : World} {b : Nat} {fs : List Fd} (h : FlS w b fs) (hb : bw w w1) : FlS w1 b fs :=
 ⟨Nat.lt_of_lt_of_le h.1 hb.size, fun j hj => ⟨(hb.cell (p := ⟨b, j, none⟩) h.1).trans (h.2 j hj).1, (h.2 j hj).2.next hb⟩⟩
def cat (fs : List Fd) : List Pc := (fs.map (·.2.2)).flatten
theorem cat_snoc (fs : List Fd) (f : Fd) : cat (fs ++ [f]) = cat fs ++ f.2.2 := by simp [cat]
theorem cat_take_succ {fs : List Fd} {k : Nat} (h : k < fs.length) : cat (fs.take (k + 1)) = cat (fs.take k) ++ (fs[k]'h).2.2 := by
 rw [List.take_succ_eq_append_getElem h, cat_snoc]
theorem cat_one (f : Fd) : cat [f] = f.2.2 := by simp [cat]
theorem cat_two (f g : Fd) : cat [f, g] = f.2.2 ++ g.2.2 := by simp [cat]
theorem FlS.one {w : World} {ao : Option Addr} {cap : Nat} {ps : List Pc} (h : Fl w ao ps) : FlS (w.alloc (.cells #[.slice ao ps.length cap] 70)) w.heap.size [(ao, cap, ps)] := by
 refine ⟨by simp, fun j hj => ?_⟩
 match j, hj with
 | 0, _ => exact ⟨by go_simp, h.next ((brf).alloc (Nat.le_refl _) _)⟩
theorem FlS.two {w : World} {ao ao' : Option Addr} {cap cap' : Nat} {ps ps' : List Pc} (h : Fl w ao ps) (h' : Fl w ao' ps') : FlS (w.alloc (.cells #[.slice ao ps.length cap, .slice ao' ps'.length cap'] 70)) w.heap.size [(ao, cap, ps), (ao', cap', ps')] := by
 refine ⟨by simp, fun j hj => ?_⟩
 match j, hj with
 | 0, _ => exact ⟨by go_simp, h.next ((brf).alloc (Nat.le_refl _) _)⟩
 | 1, _ => exact ⟨by go_simp, h'.next ((brf).alloc (Nat.le_refl _) _)⟩
theorem take_get {ps : List Pc} {k : Nat} (h : k < ps.length) : tot (ps.take (k + 1)) = tot (ps.take k) + (ps[k]'h).2 := by
 rw [List.take_succ_eq_append_getElem h, tot_snoc]
theorem fine_take {ps : List Pc} (h : Fine ps) (k : Nat) : Fine (ps.take k) := fun p hp => h p (List.mem_of_mem_take hp)
theorem part_in {ps : List Pc} (h : Fine ps) (hl : ps.length ≤ 100) (k : Nat) : 0 ≤ tot (ps.take k) ∧ tot (ps.take k) ≤ 100000000000 := by
 have h1 := tot_nonneg (fine_take h k).nn;have h2 := tot_le (fine_take h k);have h3 := List.length_take_le k ps;have h4 : (ps.take k).length ≤ ps.length := by rw [List.length_take]; omega
 omega
theorem cat_in {fs : List Fd} (hn : ∀ f ∈ fs, Fine f.2.2) (hl : ∀ f ∈ fs, f.2.2.length ≤ 100) : 0 ≤ tot (cat fs) ∧ tot (cat fs) ≤ 100000000000 * fs.length := by
 induction fs using snoc_ind with
 | h0 => simp [cat, tot]
 | h1 a f ih =>
  have h := ih (fun g hg => hn g (by simp [hg])) (fun g hg => hl g (by simp [hg]));have h2 := part_in (hn f (by simp)) (hl f (by simp)) f.2.2.length;rw [List.take_length] at h2;rw [cat_snoc, tot_append];simp only [List.length_append, List.length_singleton];omega
theorem total_any (b c : Nat) (fs : List Fd) (w : World) (hF : FlS w b fs) (hn : ∀ f ∈ fs, Fine f.2.2) (hl : ∀ f ∈ fs, f.2.2.length ≤ 100) (hfs : fs.length ≤ 2) :
  CR 227 #[.slice (some ⟨b, 0, none⟩) fs.length c] w (.int .i64 (tot (cat fs))) := by
 have HF := hdd hF;have HN := hdd hn;have HL := hdd hl;clear hF hn hl
 go_enter Tryz.func227, Tryz.ntmps227
 go_wp2
 go_loopw [3, 10] (fun s i wr => ∃ k : Nat, k ≤ fs.length ∧ i = .int .i64 k ∧ s = .int .i64 (tot (cat (fs.take k))) ∧ bw w wr) (fun _ i _ => fs.length - (intOf i).toNat)
 case atStart => exact ⟨0, Nat.zero_le _, rfl, rfl, brf⟩
 case round =>
  obtain ⟨k, hk, rfl, rfl, hb⟩ := hrel;obtain ⟨w1, rfl⟩ : ∃ w1, w1 = wr := ⟨_, rfl⟩;have HB := hdd hb;clear hb
  by_cases hlt : k < fs.length
  ·obtain ⟨f, hf⟩ : ∃ f, fs[k]'hlt = f := ⟨_, rfl⟩
   obtain ⟨ao, cap, ps⟩ := f;have hmem : (ao, cap, ps) ∈ fs := by rw [← hf]; exact List.getElem_mem hlt
   have HP : Hid (cat (fs.take (k + 1)) = cat (fs.take k) ++ ps) := by have := cat_take_succ hlt; rw [hf] at this; exact this
   have hcell : w1.cell? ⟨b, k, none⟩ = some (.slice ao ps.length cap) := by have := ((HF.out.next HB.out).2 k hlt).1; rw [hf] at this; exact this
   have HFl : Hid (Fl w1 ao ps) := by have := ((HF.out.next HB.out).2 k hlt).2; rw [hf] at this; exact this
   have HN1 := hdd (HN.out _ hmem);have hl1 : ps.length ≤ 100 := HL.out _ hmem;have hci := cat_in (fs := fs.take k) (fun g hg => HN.out g (List.mem_of_mem_take hg)) (fun g hg => HL.out g (List.mem_of_mem_take hg));have hck : (fs.take k).length ≤ 2 := by rw [List.length_take]; omega
   clear hf hmem;have hc1 : tot (cat (fs.take k)) ≤ 200000000000 := by omega
   have hc0 := hci.1;clear hci hck;generalize hS : tot (cat (fs.take k)) = S at *;have HS := hdd hS;clear hS;go_wp2
   go_loopw [3, 16] (fun s i wr => ∃ m : Nat, m ≤ ps.length ∧ i = .int .i64 m ∧ s = .int .i64 (S + tot (ps.take m)) ∧ bw w1 wr) (fun _ i _ => ps.length - (intOf i).toNat)
   case atStart => exact ⟨0, Nat.zero_le _, rfl, by simp [tot], brf⟩
   case round =>
    obtain ⟨m, hm, rfl, rfl, hb⟩ := hrel;have HB2 := hdd hb;clear hb;have hpi := part_in HN1.out hl1 m
    by_cases hlt2 : m < ps.length
    ·obtain ⟨b2, off, rfl, hb2, c0, c1, _⟩ := (HFl.out.next HB2.out).at hlt2
     have HT : Hid (tot (ps.take (m + 1)) = tot (ps.take m) + (ps[m]'hlt2).2) := take_get hlt2;have hv := HN1.out _ (List.getElem_mem hlt2);have hv0 := hv.2.1;have hv1 := hv.2.2;clear hv;obtain ⟨l, hl⟩ : ∃ l, (ps[m]'hlt2).1 = l := ⟨_, rfl⟩;obtain ⟨v, hv⟩ : ∃ v, (ps[m]'hlt2).2 = v := ⟨_, rfl⟩;rw [hl] at c0;rw [hv] at c1 HT hv0 hv1;clear hl hv;obtain ⟨hp0, hp1⟩ := hpi;go_wp2
     go_roundw
     case rel => exact ⟨m + 1, by omega, by go_num, by rw [HT.out, Int.add_assoc], HB2.out.alloc HB2.out.size _⟩
     case measure => simp [intOf]; omega
    ·go_wp2
     go_roundw
     case rel => exact ⟨k + 1, by omega, by go_num, by rw [HP.out, tot_append, HS.out, show m = ps.length by omega, List.take_length], HB.out.trans (HB2.out.mono HB.out.size)⟩
     case measure => simp [intOf]; omega
  ·go_wp2
   go_ret;exact ⟨ret_int (by rw [show k = fs.length by omega, List.take_length]), HB.out⟩
theorem isLabel_yes (s : ByteArray) (w : World) (hs : s.size ≤ maxLen) (h : lab s = true) :
  CR 226 #[.string s] w (.bool true) :=
 (isLabel_any s w hs).mono fun e w' ⟨he, hw⟩ => ⟨by rw [he, h], hw⟩
theorem isLabel_no (s : ByteArray) (w : World) (hs : s.size ≤ maxLen) (h : lab s = false) :
  CR 226 #[.string s] w (.bool false) :=
 (isLabel_any s w hs).mono fun e w' ⟨he, hw⟩ => ⟨by rw [he, h], hw⟩
theorem frefs_at {fs : List Fd} {k : Nat} (h : k < fs.length) (ha : ∀ f ∈ fs.take k, fref f.2.2 = 0) (hb : fref (fs[k]'h).2.2 ≠ 0) : frefs (fs.map (·.2.2)) = fref (fs[k]'h).2.2 := by
 have e : fs = fs.take k ++ fs[k]'h :: fs.drop (k + 1) := by rw [← List.drop_eq_getElem_cons h, List.take_append_drop]
 have e2 : frefs (fs.map (·.2.2)) = frefs ((fs.take k).map (·.2.2) ++ (fs[k]'h).2.2 :: (fs.drop (k + 1)).map (·.2.2)) := by
  conv => lhs; rw [e]
  rw [List.map_append, List.map_cons]
 rw [e2, frefs_append_ok (fun f hf => by obtain ⟨g, hg, rfl⟩ := List.mem_map.1 hf; exact ha g hg)];simp only [frefs]; rw [if_neg hb]
theorem badL_at {ps : List Pc} {m : Nat} (h : m < ps.length) (ha : badL (ps.take m) = 0) (hb : bad1 (ps[m]'h) ≠ 0) : badL ps = bad1 (ps[m]'h) := by
 have e : ps = ps.take m ++ ps[m]'h :: ps.drop (m + 1) := by rw [← List.drop_eq_getElem_cons h, List.take_append_drop]
 conv => lhs; rw [e]
 exact badL_first ha hb
theorem badL_succ {ps : List Pc} {m : Nat} (h : m < ps.length) (ha : badL (ps.take m) = 0) (hb : bad1 (ps[m]'h) = 0) : badL (ps.take (m + 1)) = 0 := by
 rw [List.take_succ_eq_append_getElem h]; exact badL_snoc ha hb
theorem mem_take_succ {fs : List Fd} {k : Nat} (h : k < fs.length) (ha : ∀ f ∈ fs.take k, fref f.2.2 = 0) (hb : fref (fs[k]'h).2.2 = 0) : ∀ f ∈ fs.take (k + 1), fref f.2.2 = 0 := by
 rw [List.take_succ_eq_append_getElem h];intro f hf
 rcases List.mem_append.1 hf with hf | hf
 ·exact ha f hf
 ·simp at hf; subst hf; exact hb
theorem refusal_any (b c : Nat) (fs : List Fd) (w : World) (hF : FlS w b fs) (hfs : fs.length ≤ 2) :
  CR 187 #[.slice (some ⟨b, 0, none⟩) fs.length c] w (.int .i64 (frefs (fs.map (·.2.2)))) := by
 have HF := hdd hF;clear hF
 go_enter Tryz.func187, Tryz.ntmps187
 go_wp2
 go_loopw [9] (fun i wr => ∃ k : Nat, k ≤ fs.length ∧ i = .int .i64 k ∧ (∀ f ∈ fs.take k, fref f.2.2 = 0) ∧ bw w wr) (fun i _ => fs.length - (intOf i).toNat)
 case atStart => exact ⟨0, Nat.zero_le _, rfl, (fun f hf => by simp at hf), brf⟩
 case round =>
  obtain ⟨k, hk, rfl, hok, hb⟩ := hrel;obtain ⟨w1, rfl⟩ : ∃ w1, w1 = wr := ⟨_, rfl⟩;have HB := hdd hb;have HO := hdd hok;clear hb hok
  by_cases hlt : k < fs.length
  ·obtain ⟨f, hf⟩ : ∃ f, fs[k]'hlt = f := ⟨_, rfl⟩
   obtain ⟨ao, cap, ps⟩ := f;have HP : Hid ((fs[k]'hlt).2.2 = ps) := by rw [hf]; rfl
   have hcell : w1.cell? ⟨b, k, none⟩ = some (.slice ao ps.length cap) := by have := ((HF.out.next HB.out).2 k hlt).1; rw [hf] at this; exact this
   have HFl : Hid (Fl w1 ao ps) := by have := ((HF.out.next HB.out).2 k hlt).2; rw [hf] at this; exact this
   clear hf
   have HE : Hid (fref ps ≠ 0 → frefs (fs.map (·.2.2)) = fref ps) := fun h => by
    have := frefs_at hlt HO.out (by rw [HP.out]; exact h);rw [HP.out] at this; exact this
   by_cases h100 : 100 < ps.length
   ·go_wp2
    go_ret;exact ⟨ret_int (by rw [HE.out (by rw [fref_many h100]; decide), fref_many h100]), HB.out⟩
   have h100' : ps.length ≤ 100 := by omega
   clear h100;go_wp2
   go_loopw [18] (fun i wr => ∃ m : Nat, m ≤ ps.length ∧ i = .int .i64 m ∧ badL (ps.take m) = 0 ∧ bw w1 wr) (fun i _ => ps.length - (intOf i).toNat)
   case atStart => exact ⟨0, Nat.zero_le _, rfl, rfl, brf⟩
   case round =>
    obtain ⟨m, hm, rfl, hbl, hb⟩ := hrel;have HB2 := hdd hb;have HBL := hdd hbl;clear hb hbl
    by_cases hlt2 : m < ps.length
    ·obtain ⟨b2, off, rfl, hb2, c0, c1, hsz⟩ := (HFl.out.next HB2.out).at hlt2
     have HA : Hid (bad1 (ps[m]'hlt2) ≠ 0 → fref ps = bad1 (ps[m]'hlt2)) := fun h => by
      have e := badL_at hlt2 HBL.out h;rw [fref_bad h100' (by rw [e]; exact h), e]
     have HS : Hid (bad1 (ps[m]'hlt2) = 0 → badL (ps.take (m + 1)) = 0) := badL_succ hlt2 HBL.out;obtain ⟨p, hp⟩ : ∃ p, ps[m]'hlt2 = p := ⟨_, rfl⟩;rw [hp] at c0 c1 HA HS hsz;clear hp;obtain ⟨l, v⟩ := p;simp only at c0 c1 hsz
     cases hlab : lab l with
     | false =>
      have HL := hdd hlab;clear hlab
      go_wp2_with (go_at_call 226; refine (isLabel_no _ _ hsz HL.out).mono ?_; rintro e w2 ⟨rfl, hb3⟩)
      go_ret;have e3 : bad1 (l, v) = 3 := bad1_name HL.out;exact ⟨ret_int (by rw [HE.out (by rw [HA.out (by rw [e3]; decide), e3]; decide), HA.out (by rw [e3]; decide), e3]), (HB.out.trans (HB2.out.mono HB.out.size)).trans (((brf).alloc (Nat.le_refl _) _).trans (hb3.mono (by simp)) |>.mono (Nat.le_trans HB.out.size HB2.out.size))⟩
     | true =>
      have HL := hdd hlab;clear hlab
      go_wp2_with fail
      refine (isLabel_yes _ _ hsz HL.out).mono ?_;rintro e w2 ⟨rfl, hb3⟩;obtain ⟨hc, hf⟩ := bcell hb3;have e1 : w2.cell? ⟨wr.heap.size, 1, none⟩ = some (.int .i64 v) := (hc _ _ (by simp)).trans (by go_simp)
      have HB3 : Hid (bw w w2 ∧ bw w1 w2) := by
       have h1 : bw w1 w2 := (HB2.out.alloc HB2.out.size _).trans (hb3.mono (by have := HB2.out.size; simp; omega));exact ⟨HB.out.trans (h1.mono HB.out.size), h1⟩
      clear hc hf hb3
      by_cases hv0 : v < 0
      ·have e3 : Hid (bad1 (l, v) = 2) := bad1_range HL.out (.inl hv0)
       go_wp2;go_ret;exact ⟨ret_int (by rw [HE.out (by rw [HA.out (by rw [e3.out]; decide), e3.out]; decide), HA.out (by rw [e3.out]; decide), e3.out]), HB3.out.1⟩
      ·by_cases hv1 : 1000000000 < v
       ·have e3 : Hid (bad1 (l, v) = 2) := bad1_range HL.out (.inr hv1)
        go_wp2;go_ret;exact ⟨ret_int (by rw [HE.out (by rw [HA.out (by rw [e3.out]; decide), e3.out]; decide), HA.out (by rw [e3.out]; decide), e3.out]), HB3.out.1⟩
       ·have e3 : Hid (bad1 (l, v) = 0) := bad1_ok HL.out (by simp only; omega) (by simp only; omega)
        go_wp2
        go_roundw
        case rel => exact ⟨m + 1, by omega, by go_num, HS.out e3.out, HB3.out.2⟩
        case measure => simp [intOf]; omega
    ·have HBL2 : Hid (badL ps = 0) := by have := HBL.out; rw [List.take_of_length_le (by omega)] at this; exact this
     have HFi : Hid (Fine ps) := fine_of HBL2.out;have hB1 : bw w wr := HB.out.trans (HB2.out.mono HB.out.size);have HB1 := hdd hB1;clear hB1
     go_wp2_with fail
     refine (total_any wr.heap.size 1 [(ao, cap, ps)] _ (FlS.one (HFl.out.next HB2.out)) (fun f hf => by simp at hf; subst hf; exact HFi.out) (fun f hf => by simp at hf; subst hf; exact h100') (by simp)).mono ?_;rintro e w2 ⟨rfl, hb3⟩;rw [cat_one];have HB3 := hdd ((HB1.out.alloc HB1.out.size _).trans (hb3.mono (by have := HB1.out.size; simp; omega)));clear hb3;simp only
     by_cases ht : 1000000000 < tot ps
     ·have e3 : Hid (fref ps = 8) := fref_size h100' HBL2.out ht
      go_wp2;go_ret;exact ⟨ret_int (by rw [HE.out (by rw [e3.out]; decide), e3.out]), HB3.out⟩
     ·have e3 : Hid (fref ps = 0) := fref_ok h100' HBL2.out (by omega)
      go_wp2
      go_roundw
      case rel => exact ⟨k + 1, by omega, by go_num, mem_take_succ hlt HO.out (by rw [HP.out]; exact e3.out), HB3.out⟩
      case measure => simp [intOf]; omega
  ·go_wp2
   go_ret;exact ⟨ret_int (by rw [frefs_ok]; intro f hf; obtain ⟨g, hg, rfl⟩ := List.mem_map.1 hf; exact HO.out g (by rw [List.take_of_length_le (by omega)]; exact hg)), HB.out⟩
def behind (acc : List Pc) (p : Pc) : List Pc :=
 if p.2 = 0 then acc else
 match acc.getLast? with
 | some q => if q.1 = p.1 then acc.dropLast ++ [(q.1, q.2 + p.2)] else acc ++ [p]
 | none => [p]
def plainL (ps : List Pc) : List Pc := ps.foldl behind []
theorem behind_zero {acc : List Pc} {p : Pc} (h : p.2 = 0) : behind acc p = acc := if_pos h
theorem behind_nil {p : Pc} (h : p.2 ≠ 0) : behind [] p = [p] := by unfold behind; rw [if_neg h]; rfl
theorem behind_same {a : List Pc} {q p : Pc} (h : p.2 ≠ 0) (e : q.1 = p.1) : behind (a ++ [q]) p = a ++ [(q.1, q.2 + p.2)] := by
 unfold behind; rw [if_neg h]; simp [e]
theorem behind_other {a : List Pc} {q p : Pc} (h : p.2 ≠ 0) (e : q.1 ≠ p.1) : behind (a ++ [q]) p = a ++ [q] ++ [p] := by
 unfold behind; rw [if_neg h]; simp [e]
theorem snoc_cases (l : List Pc) : l = [] ∨ ∃ a q, l = a ++ [q] := by
 rcases List.eq_nil_or_concat l with h | ⟨a, q, h⟩
 ·exact .inl h
 ·exact .inr ⟨a, q, by simpa using h⟩
theorem tot_behind (acc : List Pc) (p : Pc) : tot (behind acc p) = tot acc + p.2 := by
 by_cases h : p.2 = 0
 ·rw [behind_zero h]; omega
 ·rcases snoc_cases acc with rfl | ⟨a, q, rfl⟩
  ·rw [behind_nil h]; simp [tot]
  ·by_cases e : q.1 = p.1
   ·rw [behind_same h e, tot_snoc, tot_snoc]; simp only; omega
   ·rw [behind_other h e, tot_snoc]
theorem length_behind (acc : List Pc) (p : Pc) : (behind acc p).length ≤ acc.length + 1 := by
 by_cases h : p.2 = 0
 ·rw [behind_zero h]; omega
 ·rcases snoc_cases acc with rfl | ⟨a, q, rfl⟩
  ·rw [behind_nil h]; simp
  ·by_cases e : q.1 = p.1
   ·rw [behind_same h e]; simp
   ·rw [behind_other h e]; simp
theorem plainL_snoc (a : List Pc) (p : Pc) : plainL (a ++ [p]) = behind (plainL a) p := by unfold plainL; rw [List.foldl_append]; rfl
theorem tot_plainL (ps : List Pc) : tot (plainL ps) = tot ps := by
 induction ps using snoc_ind with
 | h0 => rfl
 | h1 a p ih => rw [plainL_snoc, tot_behind, ih, tot_snoc]
theorem length_plainL (ps : List Pc) : (plainL ps).length ≤ ps.length := by
 induction ps using snoc_ind with
 | h0 => simp [plainL]
 | h1 a p ih => have := length_behind (plainL a) p; rw [plainL_snoc]; simp; omega
theorem behind_all {C : ByteArray → Prop} {acc : List Pc} {p : Pc} (ha : ∀ q ∈ acc, C q.1 ∧ 0 ≤ q.2) (hp : C p.1 ∧ 0 ≤ p.2) : ∀ q ∈ behind acc p, C q.1 ∧ 0 ≤ q.2 := by
 by_cases h : p.2 = 0
 ·rw [behind_zero h]; exact ha
 ·rcases snoc_cases acc with rfl | ⟨a, q, rfl⟩
  ·rw [behind_nil h]; intro r hr; simp at hr; subst hr; exact hp
  ·have hq := ha q (by simp)
   by_cases e : q.1 = p.1
   ·rw [behind_same h e]; intro r hr
    rcases List.mem_append.1 hr with hr | hr
    ·exact ha r (by simp [hr])
    ·simp at hr; subst hr; exact ⟨hq.1, by simp only; omega⟩
   ·rw [behind_other h e]; intro r hr
    rcases List.mem_append.1 hr with hr | hr
    ·exact ha r hr
    ·simp at hr; subst hr; exact hp
theorem plainL_all {C : ByteArray → Prop} {ps : List Pc} (h : ∀ q ∈ ps, C q.1 ∧ 0 ≤ q.2) : ∀ q ∈ plainL ps, C q.1 ∧ 0 ≤ q.2 := by
 induction ps using snoc_ind with
 | h0 => intro q hq; cases hq
 | h1 a p ih =>
  rw [plainL_snoc];exact behind_all (ih (fun q hq => h q (by simp [hq]))) (h p (by simp))
theorem le_tot {ps : List Pc} (h : Nn ps) : ∀ p ∈ ps, p.2 ≤ tot ps := by
 induction ps with
 | nil => intro p hp; cases hp
 | cons q ps ih =>
  intro p hp;have h1 := h q (by simp);have h2 : Nn ps := fun r hr => h r (by simp [hr]);have h3 := tot_nonneg h2;simp only [tot]
  rcases List.mem_cons.1 hp with rfl | hp
  ·omega
  ·have := ih h2 p hp; omega
theorem fine_mk {ps : List Pc} (h : ∀ q ∈ ps, lab q.1 = true ∧ 0 ≤ q.2) (ht : tot ps ≤ 1000000000) : Fine ps := fun p hp =>
 ⟨(h p hp).1, (h p hp).2, by have := le_tot (fun q hq => (h q hq).2) p hp; omega⟩
theorem Fine.weak {ps : List Pc} (h : Fine ps) : ∀ q ∈ ps, lab q.1 = true ∧ 0 ≤ q.2 := fun q hq => ⟨(h q hq).1, (h q hq).2.1⟩
theorem fine_plainL {ps : List Pc} (h : Fine ps) (ht : tot ps ≤ 1000000000) : Fine (plainL ps) := fine_mk (plainL_all (C := fun s => lab s = true) h.weak) (by rw [tot_plainL]; exact ht)
theorem nn_plainL {ps : List Pc} (h : Nn ps) : Nn (plainL ps) := fun p hp => (plainL_all (C := fun _ => True) (fun q hq => ⟨trivial, h q hq⟩) p hp).2
def step (s : List Pc × List Pc × Int) (p : Pc) : List Pc × List Pc × Int :=
 (behind s.1 (p.1, min p.2 s.2.2), behind s.2.1 (p.1, p.2 - min p.2 s.2.2), s.2.2 - min p.2 s.2.2)
def drawS (v : Int) (ps : List Pc) : List Pc × List Pc × Int := ps.foldl step ([], [], v)
theorem drawS_snoc (v : Int) (a : List Pc) (p : Pc) : drawS v (a ++ [p]) = step (drawS v a) p := by unfold drawS; rw [List.foldl_append]; rfl
theorem drawS_v {v : Int} (h : 0 ≤ v) {ps : List Pc} (hn : Nn ps) : 0 ≤ (drawS v ps).2.2 ∧ (drawS v ps).2.2 ≤ v := by
 induction ps using snoc_ind with
 | h0 => exact ⟨h, Int.le_refl _⟩
 | h1 a p ih =>
  have := ih (fun q hq => hn q (by simp [hq]));have hp := hn p (by simp);rw [drawS_snoc];simp only [step]; omega
theorem length_drawS (v : Int) (ps : List Pc) : (drawS v ps).1.length ≤ ps.length ∧ (drawS v ps).2.1.length ≤ ps.length := by
 induction ps using snoc_ind with
 | h0 => simp [drawS]
 | h1 a p ih =>
  rw [drawS_snoc];have h1 := length_behind (drawS v a).1 (p.1, min p.2 (drawS v a).2.2);have h2 := length_behind (drawS v a).2.1 (p.1, p.2 - min p.2 (drawS v a).2.2);simp only [step, List.length_append, List.length_singleton];omega
theorem tot_drawS (v : Int) (ps : List Pc) : tot (drawS v ps).1 + tot (drawS v ps).2.1 = tot ps ∧ tot (drawS v ps).1 + (drawS v ps).2.2 = v := by
 induction ps using snoc_ind with
 | h0 => simp [drawS, tot]
 | h1 a p ih =>
  rw [drawS_snoc, tot_snoc];simp only [step, tot_behind];omega
theorem drawS_all {C : ByteArray → Prop} {v : Int} (h : 0 ≤ v) {ps : List Pc} (hn : ∀ q ∈ ps, C q.1 ∧ 0 ≤ q.2) : (∀ q ∈ (drawS v ps).1, C q.1 ∧ 0 ≤ q.2) ∧ (∀ q ∈ (drawS v ps).2.1, C q.1 ∧ 0 ≤ q.2) := by
 induction ps using snoc_ind with
 | h0 => exact ⟨(fun q hq => by cases hq), (fun q hq => by cases hq)⟩
 | h1 a p ih =>
  have hna : ∀ q ∈ a, C q.1 ∧ 0 ≤ q.2 := fun q hq => hn q (by simp [hq]);obtain ⟨i1, i2⟩ := ih hna;have hv := drawS_v h (ps := a) (fun q hq => (hna q hq).2);have hp := hn p (by simp);rw [drawS_snoc];simp only [step];exact ⟨behind_all i1 ⟨hp.1, by simp only; omega⟩, behind_all i2 ⟨hp.1, by simp only; omega⟩⟩
theorem drawS_enough {v : Int} (h : 0 ≤ v) {ps : List Pc} (hn : Nn ps) (hv : v ≤ tot ps) : (drawS v ps).2.2 = 0 := by
 have key : ∀ ps : List Pc, Nn ps → (drawS v ps).2.2 = max (v - tot ps) 0 := by
  intro ps
  induction ps using snoc_ind with
  | h0 => intro _; simp only [drawS, List.foldl_nil, tot]; omega
  | h1 a p ih =>
   intro hn;have := ih (fun q hq => hn q (by simp [hq]));have hp := hn p (by simp);have ha := tot_nonneg (ps := a) (fun q hq => hn q (by simp [hq]));rw [drawS_snoc, tot_snoc];simp only [step]; omega
 rw [key ps hn]; omega
theorem Tryz.info147 : (Tryz.prog.info? 147).map (fun i => (i.zero, i.size, i.bytes)) = some (some (.agg #[.string ⟨#[]⟩, .int .i64 0]), 2, 24) := by kernel_rfl
def cellsL (ps : List Pc) : List Value := ps.flatMap fun p => [.string p.1, .int .i64 p.2]
theorem cellsL_length (ps : List Pc) : (cellsL ps).length = ps.length * 2 := by
 induction ps with
 | nil => rfl
 | cons p ps ih => simp only [cellsL, List.flatMap_cons, List.length_append, List.length_cons, List.length_nil] at ih ⊢; omega
theorem cellsL_append (a b : List Pc) : cellsL (a ++ b) = cellsL a ++ cellsL b := by simp [cellsL]
theorem cellsL_one (p : Pc) : cellsL [p] = [.string p.1, .int .i64 p.2] := by simp [cellsL]
theorem cellsL_at {ps : List Pc} {k : Nat} (h : k < ps.length) : (cellsL ps)[k * 2]? = some (.string (ps[k]'h).1) ∧ (cellsL ps)[k * 2 + 1]? = some (.int .i64 (ps[k]'h).2) := by
 have e : ps = ps.take k ++ ps[k]'h :: ps.drop (k + 1) := by rw [← List.drop_eq_getElem_cons h, List.take_append_drop]
 have e2 : cellsL ps = cellsL (ps.take k) ++ ([.string (ps[k]'h).1, .int .i64 (ps[k]'h).2] ++ cellsL (ps.drop (k + 1))) := by
  conv => lhs; rw [e]
  rw [cellsL_append]; rfl
 have hl : (cellsL (ps.take k)).length = k * 2 := by rw [cellsL_length, List.length_take, Nat.min_eq_left (by omega)]
 rw [e2];constructor
 ·rw [List.getElem?_append_right (by omega), hl]; simp
 ·rw [List.getElem?_append_right (by omega), hl]; simp
def Own (w : World) (base : Nat) (v : Value) (ps : List Pc) : Prop := w.ownsRow base 147 2 v ps.length (cellsL ps)
theorem Own.nil (w : World) (base : Nat) : Own w base (.slice none 0 0) [] := World.ownsRow_nil w base 147 2
theorem Own.shape {w : World} {base : Nat} {v : Value} {ps : List Pc} (h : Own w base v ps) : ∃ ao cap, v = .slice ao ps.length cap := by
 rcases h.2 with ⟨h1, h2⟩ | ⟨g, cap, cur, h1, _⟩
 ·exact ⟨none, 0, by rw [h1, h2]⟩
 ·exact ⟨_, _, h1⟩
theorem Own.fl {w : World} {base : Nat} {ao : Option Addr} {n cap : Nat} {ps : List Pc} (h : Own w base (.slice ao n cap) ps) (hs : ∀ p ∈ ps, p.1.size ≤ maxLen) : Fl w ao ps := by
 refine ⟨hs, ?_⟩
 rcases h.2 with ⟨h1, h2⟩ | ⟨g, cap', cur, h1, h2, h3, h4⟩
 ·exact .inl (List.eq_nil_of_length_eq_zero h2)
 ·simp only [Value.slice.injEq] at h1
  obtain ⟨rfl, rfl, rfl⟩ := h1;refine .inr ⟨g, 0, rfl, (Array.getElem?_eq_some_iff.1 h3).1, fun k hk => ?_⟩;have c := cellsL_at hk;have e1 := World.ownsRow.cellAt h (k * 2) (by omega);have e2 := World.ownsRow.cellAt h (k * 2 + 1) (by omega);simp only [Nat.zero_add];exact ⟨e1.trans c.1, e2.trans c.2⟩
theorem Own.kept {w w' : World} {base : Nat} {v : Value} {ps : List Pc} {row : Option Nat} (h : Own w base v ps) (hg : w.grownBy w' row) (hne : v.ownBlock = none ∨ v.ownBlock ≠ row) : Own w' base v ps := World.ownsRow.kept h hg hne
theorem Own.alloc {w : World} {base : Nat} {v : Value} {ps : List Pc} (h : Own w base v ps) (o : Obj) : Own (w.alloc o) base v ps := World.ownsRow.alloc h o
def Loc (w : World) (v v' : Value) : Prop := v'.ownBlock = v.ownBlock ∨ ∃ g, v'.ownBlock = some g ∧ w.heap.size ≤ g
theorem behind_zero_any (base : Nat) (v : Value) (acc : List Pc) (l : ByteArray) (w : World) (hown : Own w base v acc) :
  Calls Tryz.prog 256 #[v, .agg #[.string l, .int .i64 0]] w fun e w' => ∃ v', e = .returned v' ∧ Own w' base v' (behind acc (l, 0)) ∧ w.grownBy w' v.ownBlock ∧ Loc w v v' := by
 have HO := hdd hown;clear hown;obtain ⟨ao, cap, rfl⟩ := HO.out.shape
 go_enter Tryz.func256, Tryz.ntmps256
 go_wp2;go_ret;exact ⟨_, rfl, by rw [behind_zero rfl]; exact HO.out.alloc _, World.grownBy_alloc _ _ _, .inl rfl⟩
theorem Own.drewN {w : World} {base : Nat} {v : Value} {ps : List Pc} (h : Own w base v ps) (n : Nat) : Own (w.drewN n) base v ps := h
theorem grown_drewN {w w' : World} {row : Option Nat} (h : w.grownBy w' row) (n : Nat) : w.grownBy (w'.drewN n) row := ⟨h.os, h.tape, h.output, h.size, h.block⟩
theorem grown_setCell (w : World) (g o : Nat) (u : Value) : w.grownBy (w.setCell ⟨g, o, none⟩ u) (some g) :=
 ⟨rfl, rfl, rfl, by simp [World.setCell], fun k _ hk => Below.heap_setCell w ⟨g, o, none⟩ u k (fun e => hk (by simp [e]))⟩
theorem wpList_append_pc (w : World) {ops : Array Oper} {rest : List Oper} {o : Oper} {a : Act} {Q : Exit → Act → World → Prop} (hgd : o.guard = none) (s x : Operand)
  (ho : o.op = .call { callee := .builtin .append, args := #[s, x], argTypes := #[70, 70] }) (base : Nat) (v : Value) (ps : List Pc) (hs : a.eval s = v) (hown : Own w base v ps)
  (b : Nat) (l : ByteArray) (n : Int) (hx : a.eval x = .slice (some ⟨b, 0, none⟩) 1 1) (h0 : w.cell? ⟨b, 0, none⟩ = some (.string l)) (h1 : w.cell? ⟨b, 1, none⟩ = some (.int .i64 n))
  (hlen : ps.length ≤ 1000000000000) (hbase : base ≤ w.heap.size)
  (h : ∀ v' w', Own w' base v' (ps ++ [(l, n)]) → w.grownBy w' v.ownBlock → Loc w v v' → wpList Tryz.prog ops Q rest (a.put o.dst v') w') :
  wpList Tryz.prog ops Q (o :: rest) a w := by
 obtain ⟨i0, hi, hz0, hz1, hz2⟩ := info_parts Tryz.info147;refine wpList_append_own_at w hgd s x 70 ho base 147 i0 (.agg #[.string ⟨#[]⟩, .int .i64 0]) 2 24 Tryz.underlying70 hi hz0 hz1 hz2 rfl (by decide) v ps.length (cellsL ps) hs hown ⟨b, 0, none⟩ 1 1 [.string l, .int .i64 n] hx rfl ?_ ?_ ?_ ?_ hbase ?_
 ·intro j u hj
  match j, hj with
  | 0, hj => simp at hj; subst hj; simpa [Addr.add] using h0
  | 1, hj => simp at hj; subst hj; simpa [Addr.add] using h1
 ·intro u hu
  simp at hu
  rcases hu with rfl | rfl <;> rfl
 ·unfold maxLen; omega
 ·omega
 ·intro v' w' h1 h2 _ h4
  refine h v' w' ?_ h2 (h4.imp id fun e => ⟨_, e, Nat.le_refl _⟩);unfold Own;rw [cellsL_append, cellsL_one, List.length_append];exact h1
theorem ba_ne {a b : ByteArray} (h : a ≠ b) : (a.toList == b.toList) = false := by
 rw [beq_eq_false_iff_ne];intro e
 apply h
 rw [ByteArray.toList_eq, ByteArray.toList_eq] at e;exact ByteArray.ext (Array.ext' e)
theorem Loc.back {w w1 : World} {v v' : Value} (h : Loc w1 v v') (hs : w.heap.size ≤ w1.heap.size) : Loc w v v' := h.imp id fun ⟨g, e, hg⟩ => ⟨g, e, Nat.le_trans hs hg⟩
theorem Own.last {w : World} {base : Nat} {v : Value} {acc : List Pc} {q : Pc} (h : Own w base v (acc ++ [q])) :
  ∃ g cap, v = .slice (some ⟨g, 0, none⟩) (acc.length + 1) cap ∧ g < w.heap.size ∧ w.cell? ⟨g, acc.length * 2, none⟩ = some (.string q.1) ∧ w.cell? ⟨g, acc.length * 2 + 1, none⟩ = some (.int .i64 q.2) ∧ w.frozen? ⟨g, acc.length * 2 + 1, none⟩ = false ∧ base ≤ g := by
 have hl : (acc ++ [q]).length = acc.length + 1 := by simp
 rcases h.2 with ⟨h1, h2⟩ | ⟨g, cap, cur, h1, h2, h3, h4⟩
 ·rw [hl] at h2; omega
 ·subst h1
  have c := cellsL_at (ps := acc ++ [q]) (k := acc.length) (by simp);simp only [List.getElem_append_right (Nat.le_refl _), Nat.sub_self, List.getElem_cons_zero] at c;have e1 := World.ownsRow.cellAt h (acc.length * 2) (by rw [hl]; omega);have e2 := World.ownsRow.cellAt h (acc.length * 2 + 1) (by rw [hl]; omega);exact ⟨g, cap, by rw [hl], (Array.getElem?_eq_some_iff.1 h3).1, e1.trans c.1, e2.trans c.2, World.ownsRow.frozenAt h _, h2⟩
theorem behind_first_any (base : Nat) (v : Value) (l : ByteArray) (n : Int) (w : World) (hown : Own w base v []) (hn : 0 < n) (hbase : base ≤ w.heap.size) :
  Calls Tryz.prog 256 #[v, .agg #[.string l, .int .i64 n]] w fun e w' => ∃ v', e = .returned v' ∧ Own w' base v' (behind [] (l, n)) ∧ w.grownBy w' v.ownBlock ∧ Loc w v v' := by
 have HO := hdd hown;clear hown;obtain ⟨ao, cap, rfl⟩ := HO.out.shape;have hnz : (n == 0) = false := by simp; omega
 simp only [List.length_nil] at HO ⊢
 go_enter Tryz.func256, Tryz.ntmps256
 go_wp2
 go_big_quiet (fail)
 go_wp2_with (at_builtin; refine wpList_append_pc _ rfl (.tmp 36) (.tmp 38) rfl base (.slice ao 0 cap) [] rfl (((HO.out.alloc _).drewN nq).alloc _) (w.heap.size + 1) l n rfl (by go_simp) (by go_simp) (by simp) (by simp; omega) ?_; intro v' w1 hown1 hg hloc)
 go_ret;refine ⟨_, rfl, ?_, ?_, hloc.back (by simp; omega)⟩
 ·rw [behind_nil (by simp only; omega)]; exact hown1
 ·exact ((World.grownBy_alloc w _ _).trans (grown_drewN (World.grownBy_alloc _ _ _) nq)).trans hg
theorem behind_other_any (base : Nat) (v : Value) (acc : List Pc) (q : Pc) (l : ByteArray) (n : Int) (w : World) (hown : Own w base v (acc ++ [q])) (hn : 0 < n) (hne : q.1 ≠ l) (hl : acc.length ≤ 1000000) (hbase : base ≤ w.heap.size) :
  Calls Tryz.prog 256 #[v, .agg #[.string l, .int .i64 n]] w fun e w' => ∃ v', e = .returned v' ∧ Own w' base v' (behind (acc ++ [q]) (l, n)) ∧ w.grownBy w' v.ownBlock ∧ Loc w v v' := by
 have HO := hdd hown;clear hown;obtain ⟨g, cap, rfl, hg, c0, c1, f1, hbg⟩ := HO.out.last;have HN := hdd hne;clear hne;have hnz : (n == 0) = false := by simp; omega
 have hlb : (q.1.toList == l.toList) = false := ba_ne HN.out
 go_enter Tryz.func256, Tryz.ntmps256
 go_wp2
 go_big_quiet (fail)
 go_wp2_with (at_builtin; refine wpList_append_pc _ rfl (.tmp 36) (.tmp 38) rfl base (.slice (some ⟨g, 0, none⟩) (acc.length + 1) cap) (acc ++ [q]) rfl (((HO.out.alloc _).drewN nq).alloc _) (w.heap.size + 1) l n rfl (by go_simp) (by go_simp) (by simp; omega) (by simp; omega) ?_; intro v' w1 hown1 hg hloc)
 go_ret;refine ⟨_, rfl, ?_, ?_, hloc.back (by simp; omega)⟩
 ·rw [behind_other (by simp only; omega) HN.out]; exact hown1
 ·exact ((World.grownBy_alloc w _ _).trans (grown_drewN (World.grownBy_alloc _ _ _) nq)).trans hg
theorem behind_same_any (base : Nat) (v : Value) (acc : List Pc) (m : Int) (l : ByteArray) (n : Int) (w : World) (hown : Own w base v (acc ++ [(l, m)])) (hn : 0 < n) (hn2 : n ≤ 1000000000000) (hm : 0 ≤ m) (hm2 : m ≤ 1000000000000) (hl : acc.length ≤ 1000000) :
  Calls Tryz.prog 256 #[v, .agg #[.string l, .int .i64 n]] w fun e w' => ∃ v', e = .returned v' ∧ Own w' base v' (behind (acc ++ [(l, m)]) (l, n)) ∧ w.grownBy w' v.ownBlock ∧ Loc w v v' := by
 have HO := hdd hown;clear hown;obtain ⟨g, cap, rfl, hg, c0, c1, f1, hbg⟩ := HO.out.last;simp only at c0 c1;have hnz : (n == 0) = false := by simp; omega
 have hgn : g ≠ w.heap.size := by omega
 go_enter Tryz.func256, Tryz.ntmps256
 go_wp2
 go_big_quiet (fail)
 go_wp2
 go_region
 go_wp2;go_ret;refine ⟨.slice (some ⟨g, 0, none⟩) (acc.length + 1) cap, rfl, ?_, ?_, .inl rfl⟩
 ·rw [behind_same (q := (l, m)) (p := (l, n)) (by simp only; omega) rfl]
  have h0 := (HO.out.alloc (.cells #[.string l, .int .i64 n] 147)).drewN (nq + 1);unfold Own at h0;rw [List.length_append, List.length_singleton] at h0;have h1 := (World.ownsRow.stored h0 (acc.length * 2 + 1) (.int .i64 (m + n))).1;unfold Own;rw [cellsL_append, cellsL_one, List.length_append, List.length_singleton];rw [cellsL_append, cellsL_one, List.set_append_right _ _ (by rw [cellsL_length]; omega), cellsL_length, show acc.length * 2 + 1 - acc.length * 2 = 1 by omega] at h1;exact h1
 ·exact (grown_drewN (World.grownBy_alloc w _ _) _).trans (grown_setCell _ _ _ _)
theorem behind_any (base : Nat) (v : Value) (acc : List Pc) (l : ByteArray) (n : Int) (w : World) (hown : Own w base v acc) (hn : 0 ≤ n) (hn2 : n ≤ 1000000000000) (hm : ∀ q ∈ acc, 0 ≤ q.2 ∧ q.2 ≤ 1000000000000) (hl : acc.length ≤ 1000000) (hbase : base ≤ w.heap.size) :
  Calls Tryz.prog 256 #[v, .agg #[.string l, .int .i64 n]] w fun e w' => ∃ v', e = .returned v' ∧ Own w' base v' (behind acc (l, n)) ∧ w.grownBy w' v.ownBlock ∧ Loc w v v' := by
 by_cases h : n = 0
 ·subst h; exact behind_zero_any base v acc l w hown
 ·rcases snoc_cases acc with rfl | ⟨a, q, rfl⟩
  ·exact behind_first_any base v l n w hown (by omega) hbase
  ·have hq := hm q (by simp)
   have hl' : a.length ≤ 1000000 := by simp at hl; omega
   by_cases e : q.1 = l
   ·obtain ⟨l', m⟩ := q
    simp only at e hq;subst e;exact behind_same_any base v a m l' n w hown (by omega) hn2 hq.1 hq.2 hl'
   ·exact behind_other_any base v a q l n w hown (by omega) e hl' hbase
theorem below_grown {base : Nat} {a w w' : World} {v : Value} {ps : List Pc} (h : Below base a w) (ho : Own w base v ps) (hg : w.grownBy w' v.ownBlock) (hB : base ≤ w.heap.size) : Below base a w' :=
 h.grown hg hB (fun k hk => (World.ownsRow.lt ho k hk).1)
theorem Own.form {w : World} {base : Nat} {v : Value} {ps : List Pc} (h : Own w base v ps) : ∃ ao n cap, v = .slice ao n cap := by
 obtain ⟨ao, cap, h⟩ := h.shape;exact ⟨ao, _, cap, h⟩
theorem plain_bound {ps : List Pc} (hn : Nn ps) {B : Int} (hB : tot ps ≤ B) : ∀ q ∈ plainL ps, 0 ≤ q.2 ∧ q.2 ≤ B := fun q hq =>
 ⟨nn_plainL hn q hq, by have := le_tot (nn_plainL hn) q hq; rw [tot_plainL] at this; omega⟩
theorem length_cat {fs : List Fd} (hl : ∀ f ∈ fs, f.2.2.length ≤ 100) : (cat fs).length ≤ 100 * fs.length := by
 induction fs using snoc_ind with
 | h0 => simp [cat]
 | h1 a f ih =>
  have h := ih (fun g hg => hl g (by simp [hg]));have h2 := hl f (by simp);rw [cat_snoc];simp only [List.length_append, List.length_singleton];omega
theorem fine_cat {fs : List Fd} (hn : ∀ f ∈ fs, Fine f.2.2) : Fine (cat fs) := fun p hp => by
 unfold cat at hp;obtain ⟨l, hl, hp⟩ := List.mem_flatten.1 hp;obtain ⟨f, hf, rfl⟩ := List.mem_map.1 hl;exact hn f hf p hp
theorem fine_append {a b : List Pc} (ha : Fine a) (hb : Fine b) : Fine (a ++ b) := fun p hp => (List.mem_append.1 hp).elim (ha p) (hb p)
theorem plain_ask {ps : List Pc} (h : Fine ps) (hl : ps.length ≤ 200) : (∀ q ∈ plainL ps, 0 ≤ q.2 ∧ q.2 ≤ 1000000000000) ∧ (plainL ps).length ≤ 1000000 := by
 have := tot_le h;refine ⟨plain_bound h.nn (by omega), ?_⟩;have := length_plainL ps;omega
theorem plain_any (b c : Nat) (fs : List Fd) (w : World) (hF : FlS w b fs) (hn : ∀ f ∈ fs, Fine f.2.2) (hl : ∀ f ∈ fs, f.2.2.length ≤ 100) (hfs : fs.length ≤ 2) :
  Calls Tryz.prog 283 #[.slice (some ⟨b, 0, none⟩) fs.length c] w fun e w' => ∃ v, e = .returned v ∧ Own w' w.heap.size v (plainL (cat fs)) ∧ bw w w' := by
 have HF := hdd hF;have HN := hdd hn;have HL := hdd hl;clear hF hn hl
 go_enter Tryz.func283, Tryz.ntmps283
 go_wp2
 go_loopw [3, 10] (fun v i wr => ∃ k : Nat, k ≤ fs.length ∧ i = .int .i64 k ∧ Own wr w.heap.size v (plainL (cat (fs.take k))) ∧ bw w wr) (fun _ i _ => fs.length - (intOf i).toNat)
 case atStart => exact ⟨0, Nat.zero_le _, rfl, Own.nil _ _, brf⟩
 case round =>
  obtain ⟨k, hk, rfl, hown, hb⟩ := hrel;obtain ⟨w1, rfl⟩ : ∃ w1, w1 = wr := ⟨_, rfl⟩;have HB := hdd hb;obtain ⟨ao0, n0, cap0, rfl⟩ := hown.form;have HO := hdd hown;clear hb hown
  by_cases hlt : k < fs.length
  ·obtain ⟨f, hf⟩ : ∃ f, fs[k]'hlt = f := ⟨_, rfl⟩
   obtain ⟨ao, cap, ps⟩ := f;have hmem : (ao, cap, ps) ∈ fs := by rw [← hf]; exact List.getElem_mem hlt
   have HP : Hid (cat (fs.take (k + 1)) = cat (fs.take k) ++ ps) := by have := cat_take_succ hlt; rw [hf] at this; exact this
   have hcell : w1.cell? ⟨b, k, none⟩ = some (.slice ao ps.length cap) := by have := ((HF.out.next HB.out).2 k hlt).1; rw [hf] at this; exact this
   have HFl : Hid (Fl w ao ps) := by have := (HF.out.2 k hlt).2; rw [hf] at this; exact this
   have HN1 : Hid (Fine (cat (fs.take k) ++ ps)) := fine_append (fine_cat fun g hg => HN.out g (List.mem_of_mem_take hg)) (HN.out _ hmem);have hl1 : ps.length ≤ 100 := HL.out _ hmem
   have hl0 : (cat (fs.take k)).length ≤ 100 := by
    have := length_cat (fs := fs.take k) (fun g hg => HL.out g (List.mem_of_mem_take hg));rw [List.length_take] at this;omega
   clear hf hmem;generalize cat (fs.take k) = C at *;go_wp2
   go_loopw [3, 16] (fun v i wr => ∃ m : Nat, m ≤ ps.length ∧ i = .int .i64 m ∧ Own wr w.heap.size v (plainL (C ++ ps.take m)) ∧ bw w wr) (fun _ i _ => ps.length - (intOf i).toNat)
   case atStart => exact ⟨0, Nat.zero_le _, rfl, by simpa using HO.out, HB.out⟩
   case round =>
    obtain ⟨m, hm, rfl, hown, hb⟩ := hrel;have HB2 := hdd hb;obtain ⟨ao1, n1, cap1, rfl⟩ := hown.form;have HO2 := hdd hown;clear hb hown
    by_cases hlt2 : m < ps.length
    ·obtain ⟨b2, off, rfl, hb2, c0, c1, _⟩ := (HFl.out.next HB2.out).at hlt2
     have HT : Hid (plainL (C ++ ps.take (m + 1)) = behind (plainL (C ++ ps.take m)) (ps[m]'hlt2)) := by
      rw [List.take_succ_eq_append_getElem hlt2, ← List.append_assoc, plainL_snoc]; rfl
     have hv := HN1.out _ (List.mem_append_right _ (List.getElem_mem hlt2));have hv0 := hv.2.1;have hv1 := hv.2.2;clear hv
     have HA : Hid ((∀ q ∈ plainL (C ++ ps.take m), 0 ≤ q.2 ∧ q.2 ≤ 1000000000000) ∧ (plainL (C ++ ps.take m)).length ≤ 1000000) :=
      plain_ask (fun p hp => HN1.out p (by rcases List.mem_append.1 hp with h | h; exact List.mem_append_left _ h; exact List.mem_append_right _ (List.mem_of_mem_take h))) (by rw [List.length_append, List.length_take]; omega)
     obtain ⟨p, hp⟩ : ∃ p, ps[m]'hlt2 = p := ⟨_, rfl⟩;rw [hp] at c0 c1 HT hv0 hv1;clear hp;obtain ⟨l, n⟩ := p;simp only at c0 c1 hv0 hv1
     go_wp2_with fail
     refine (behind_any w.heap.size _ _ l n _ (HO2.out.alloc _) hv0 (by omega) HA.out.1 HA.out.2 (by have := HB2.out.size; simp; omega)).mono ?_;rintro e w2 ⟨v', rfl, ho, hg, _⟩;have HO3 : Hid (Own w2 w.heap.size v' (plainL (C ++ ps.take (m + 1)))) := by rw [HT.out]; exact ho
     have HB3 : Hid (bw w w2) := below_grown (HB2.out.alloc HB2.out.size _) (HO2.out.alloc _) hg (by have := HB2.out.size; simp; omega);clear ho hg;go_wp2
     go_roundw
     case rel => exact ⟨m + 1, by omega, by go_num, HO3.out, HB3.out⟩
     case measure => simp [intOf]; omega
    ·go_wp2
     go_roundw
     case rel => exact ⟨k + 1, by omega, by go_num, by rw [HP.out]; have := HO2.out; rw [List.take_of_length_le (by omega)] at this; exact this, HB2.out⟩
     case measure => simp [intOf]; omega
  ·go_wp2
   go_ret;exact ⟨.slice ao0 n0 cap0, rfl, by have := HO.out; rw [List.take_of_length_le (by omega)] at this; exact this, HB.out⟩
theorem refusal1 (ao : Option Addr) (cap : Nat) (ps : List Pc) (w : World) (h : Fl w ao ps) :
  Calls Tryz.prog 187 #[.slice (some ⟨w.heap.size, 0, none⟩) 1 1] (w.alloc (.cells #[.slice ao ps.length cap] 70)) fun e w' => e = .returned (.int .i64 (fref ps)) ∧ bw w w' :=
 (refusal_any w.heap.size 1 [(ao, cap, ps)] _ (FlS.one h) (by simp)).mono fun e w' ⟨he, hb⟩ =>
  ⟨by rw [he]; exact ret_int (frefs_one ps), ((brf).alloc (Nat.le_refl _) _).trans (hb.mono (by simp))⟩
theorem refusal2 (ao ao' : Option Addr) (cap cap' : Nat) (ps ps' : List Pc) (w : World) (h : Fl w ao ps) (h' : Fl w ao' ps') :
  Calls Tryz.prog 187 #[.slice (some ⟨w.heap.size, 0, none⟩) 2 2] (w.alloc (.cells #[.slice ao ps.length cap, .slice ao' ps'.length cap'] 70)) fun e w' => e = .returned (.int .i64 (if fref ps = 0 then fref ps' else fref ps)) ∧ bw w w' :=
 (refusal_any w.heap.size 2 [(ao, cap, ps), (ao', cap', ps')] _ (FlS.two h h') (by simp)).mono fun e w' ⟨he, hb⟩ =>
  ⟨by rw [he]; exact ret_int (frefs_two ps ps'), ((brf).alloc (Nat.le_refl _) _).trans (hb.mono (by simp))⟩
theorem total1 (ao : Option Addr) (cap : Nat) (ps : List Pc) (w : World) (h : Fl w ao ps) (hr : fref ps = 0) :
  Calls Tryz.prog 227 #[.slice (some ⟨w.heap.size, 0, none⟩) 1 1] (w.alloc (.cells #[.slice ao ps.length cap] 70)) fun e w' => e = .returned (.int .i64 (tot ps)) ∧ bw w w' :=
 (total_any w.heap.size 1 [(ao, cap, ps)] _ (FlS.one h) (fun f hf => by simp at hf; subst hf; exact (fref_in hr).2.1) (fun f hf => by simp at hf; subst hf; exact (fref_in hr).1) (by simp)).mono fun e w' ⟨he, hb⟩ =>
  ⟨by rw [he, cat_one], ((brf).alloc (Nat.le_refl _) _).trans (hb.mono (by simp))⟩
theorem two_fine {ao ao' : Option Addr} {cap cap' : Nat} {ps ps' : List Pc} (hr : fref ps = 0) (hr' : fref ps' = 0) : (∀ f ∈ [((ao, cap, ps) : Fd), (ao', cap', ps')], Fine f.2.2) ∧ (∀ f ∈ [((ao, cap, ps) : Fd), (ao', cap', ps')], f.2.2.length ≤ 100) := by
 constructor
 all_goals
  intro f hf;simp only [List.mem_cons, List.mem_nil_iff, or_false] at hf
  rcases hf with rfl | rfl
 ·exact (fref_in hr).2.1
 ·exact (fref_in hr').2.1
 ·exact (fref_in hr).1
 ·exact (fref_in hr').1
theorem total2 (ao ao' : Option Addr) (cap cap' : Nat) (ps ps' : List Pc) (w : World) (h : Fl w ao ps) (h' : Fl w ao' ps') (hr : fref ps = 0) (hr' : fref ps' = 0) :
  Calls Tryz.prog 227 #[.slice (some ⟨w.heap.size, 0, none⟩) 2 2] (w.alloc (.cells #[.slice ao ps.length cap, .slice ao' ps'.length cap'] 70)) fun e w' => e = .returned (.int .i64 (tot ps + tot ps')) ∧ bw w w' :=
 (total_any w.heap.size 2 [(ao, cap, ps), (ao', cap', ps')] _ (FlS.two h h') (two_fine hr hr').1 (two_fine hr hr').2 (by simp)).mono fun e w' ⟨he, hb⟩ =>
  ⟨by rw [he, cat_two, tot_append], ((brf).alloc (Nat.le_refl _) _).trans (hb.mono (by simp))⟩
theorem own_base {w : World} {base base' : Nat} {v : Value} {ps : List Pc} (h : Own w base v ps) (hb : base' ≤ base) : Own w base' v ps := by
 obtain ⟨h1, h2⟩ := h;refine ⟨h1, h2.imp id ?_⟩;rintro ⟨g, cap, cur, e, hg, r⟩;exact ⟨g, cap, cur, e, by omega, r⟩
theorem plain2 (ao ao' : Option Addr) (cap cap' : Nat) (ps ps' : List Pc) (w : World) (h : Fl w ao ps) (h' : Fl w ao' ps') (hr : fref ps = 0) (hr' : fref ps' = 0) :
  Calls Tryz.prog 283 #[.slice (some ⟨w.heap.size, 0, none⟩) 2 2] (w.alloc (.cells #[.slice ao ps.length cap, .slice ao' ps'.length cap'] 70)) fun e w' => ∃ v, e = .returned v ∧ Own w' w.heap.size v (plainL (ps ++ ps')) ∧ bw w w' :=
 (plain_any w.heap.size 2 [(ao, cap, ps), (ao', cap', ps')] _ (FlS.two h h') (two_fine hr hr').1 (two_fine hr hr').2 (by simp)).mono fun e w' ⟨v, he, ho, hb⟩ =>
  ⟨v, he, by rw [cat_two] at ho; exact own_base ho (by simp), ((brf).alloc (Nat.le_refl _) _).trans (hb.mono (by simp))⟩
def totR (ps : List Pc) : Int × Int := if fref ps = 0 then (tot ps, 0) else (0, fref ps)
def putR (f g : List Pc) : List Pc × Int :=
 if fref f = 0 then (if fref g = 0 then (if 1000000000 < tot f + tot g then ([], 8) else if 100 < (plainL (f ++ g)).length then ([], 7) else (plainL (f ++ g), 0)) else ([], fref g)) else ([], fref f)
theorem check_any (ao : Option Addr) (cap : Nat) (ps : List Pc) (w : World) (h : Fl w ao ps) :
  CR 120 #[.slice ao ps.length cap] w (.int .i64 (fref ps)) := by
 have HF := hdd h;clear h
 go_enter Tryz.func120, Tryz.ntmps120
 go_wp2_with fail
 refine (refusal1 ao cap ps w HF.out).mono ?_;rintro e w1 ⟨rfl, hb⟩;go_wp2;go_ret;exact ⟨rfl, hb⟩
theorem totalF_any (ao : Option Addr) (cap : Nat) (ps : List Pc) (w : World) (h : Fl w ao ps) :
  CR 282 #[.slice ao ps.length cap] w (.tuple #[.int .i64 (totR ps).1, .int .i64 (totR ps).2]) := by
 have HF := hdd h;clear h
 by_cases hr : fref ps = 0
 ·have HR := hdd hr
  have HQ : Hid (totR ps = (tot ps, 0)) := if_pos hr;clear hr
  go_enter Tryz.func282, Tryz.ntmps282
  go_wp2_with fail
  refine (refusal1 ao cap ps w HF.out).mono ?_;rintro e w1 ⟨rfl, hb⟩;rw [HR.out];have HB := hdd hb;clear hb
  go_wp2_with fail
  refine (total1 ao cap ps w1 (HF.out.next HB.out) HR.out).mono ?_;rintro e w2 ⟨rfl, hb⟩;go_wp2
  go_ret2
  exact ⟨by rw [HQ.out]; rfl, HB.out.trans (hb.mono HB.out.size)⟩
 ·have HQ : Hid (totR ps = (0, fref ps)) := if_neg hr
  have hne : (fref ps == 0) = false := by simp [hr]
  have hne2 : (fref ps != 0) = true := by simp [hr]
  clear hr
  go_enter Tryz.func282, Tryz.ntmps282
  go_wp2_with fail
  refine (refusal1 ao cap ps w HF.out).mono ?_;rintro e w1 ⟨rfl, hb⟩;go_wp2
  go_ret2
  exact ⟨by rw [HQ.out]; rfl, hb⟩
theorem put_any (ao ao' : Option Addr) (cap cap' : Nat) (ps ps' : List Pc) (w : World) (h : Fl w ao ps) (h' : Fl w ao' ps') :
  Calls Tryz.prog 255 #[.slice ao ps.length cap, .slice ao' ps'.length cap'] w fun e w' => ∃ v, e = .returned (.tuple #[v, .int .i64 (putR ps ps').2]) ∧ Own w' w.heap.size v (putR ps ps').1 ∧ bw w w' := by
 have HF := hdd h;have HF' : Hid (Fl w ao' ps') := h';clear h h'
 by_cases hr : fref ps = 0 ∧ fref ps' = 0
 rotate_left
 ·obtain ⟨r, hr0, hQ⟩ : ∃ r : Int, (if fref ps = 0 then fref ps' else fref ps) = r ∧ r ≠ 0 ∧ putR ps ps' = ([], r) := by
   unfold putR
   by_cases h1 : fref ps = 0
   ·have h2 : fref ps' ≠ 0 := fun e => hr ⟨h1, e⟩
    exact ⟨fref ps', if_pos h1, h2, by rw [if_pos h1, if_neg h2]⟩
   ·exact ⟨fref ps, if_neg h1, h1, by rw [if_neg h1]⟩
  have HR := hdd hr0;have HQ : Hid (putR ps ps' = ([], r)) := hQ.2;have hne : (r == 0) = false := by simp [hQ.1]
  have hne2 : (r != 0) = true := by simp [hQ.1]
  clear hr hr0 hQ
  go_enter Tryz.func255, Tryz.ntmps255
  go_wp2_with fail
  refine (refusal2 ao ao' cap cap' ps ps' w HF.out HF'.out).mono ?_;rintro e w1 ⟨rfl, hb⟩;rw [HR.out];go_wp2
  go_ret2
  exact ⟨.slice none 0 0, by rw [HQ.out]; rfl, by rw [HQ.out]; exact Own.nil _ _, hb⟩
 have HR : Hid (fref ps = 0) := hr.1;have HR' : Hid (fref ps' = 0) := hr.2;clear hr
 by_cases ht : 1000000000 < tot ps + tot ps'
 ·have HQ : Hid (putR ps ps' = ([], 8)) := by unfold putR; rw [if_pos HR.out, if_pos HR'.out, if_pos ht]; rfl
  go_enter Tryz.func255, Tryz.ntmps255
  go_wp2_with fail
  refine (refusal2 ao ao' cap cap' ps ps' w HF.out HF'.out).mono ?_;rintro e w1 ⟨rfl, hb⟩;rw [if_pos HR.out, HR'.out];have HB := hdd hb;clear hb
  go_wp2_with fail
  refine (total2 ao ao' cap cap' ps ps' w1 (HF.out.next HB.out) (HF'.out.next HB.out) HR.out HR'.out).mono ?_;rintro e w2 ⟨rfl, hb⟩;go_wp2
  go_ret2
  exact ⟨.slice none 0 0, by rw [HQ.out]; rfl, by rw [HQ.out]; exact Own.nil _ _, HB.out.trans (hb.mono HB.out.size)⟩
 by_cases hl : 100 < (plainL (ps ++ ps')).length
 all_goals
  go_enter Tryz.func255, Tryz.ntmps255
  go_wp2_with fail
  refine (refusal2 ao ao' cap cap' ps ps' w HF.out HF'.out).mono ?_;rintro e w1 ⟨rfl, hb⟩;rw [if_pos HR.out, HR'.out];have HB := hdd hb;clear hb
  go_wp2_with fail
  refine (total2 ao ao' cap cap' ps ps' w1 (HF.out.next HB.out) (HF'.out.next HB.out) HR.out HR'.out).mono ?_;rintro e w2 ⟨rfl, hb⟩;have HB2 := hdd (HB.out.trans (hb.mono HB.out.size));clear hb
  go_wp2_with fail
  refine (plain2 ao ao' cap cap' ps ps' w2 (HF.out.next HB2.out) (HF'.out.next HB2.out) HR.out HR'.out).mono ?_;rintro e w3 ⟨v, rfl, ho, hb⟩;have HB3 := hdd (HB2.out.trans (hb.mono HB2.out.size));have HO : Hid (Own w3 w.heap.size v (plainL (ps ++ ps'))) := own_base ho HB2.out.size;clear hb ho;obtain ⟨ao2, cap2, rfl⟩ := HO.out.shape
 ·have HQ : Hid (putR ps ps' = ([], 7)) := by unfold putR; rw [if_pos HR.out, if_pos HR'.out, if_neg (by omega), if_pos hl]; rfl
  go_wp2
  go_ret2
  exact ⟨.slice none 0 0, by rw [HQ.out]; rfl, by rw [HQ.out]; exact Own.nil _ _, HB3.out⟩
 ·have HQ : Hid (putR ps ps' = (plainL (ps ++ ps'), 0)) := by unfold putR; rw [if_pos HR.out, if_pos HR'.out, if_neg (by omega), if_neg (by omega)]; rfl
  go_wp2
  go_ret2
  exact ⟨.slice ao2 (plainL (ps ++ ps')).length cap2, by rw [HQ.out]; rfl, by rw [HQ.out]; exact HO.out, HB3.out⟩
def drawF (v : Int) (ps : List Pc) : List Pc × List Pc × Int :=
 if fref ps = 0 then (if v < 0 then ([], [], 2) else if tot ps < v then ([], [], 10) else ((drawS v ps).1, (drawS v ps).2.1, 0)) else ([], [], fref ps)
def Sep (t l : Value) : Prop := t.ownBlock = none ∨ t.ownBlock ≠ l.ownBlock
theorem Sep.symm {t l : Value} (h : Sep t l) : Sep l t := by
 rcases h with h | h
 ·cases e : l.ownBlock with
  | none => exact .inl e
  | some g => exact .inr (by rw [h, e]; simp)
 ·exact .inr (Ne.symm h)
theorem Sep.keep {w w' : World} {base : Nat} {t t' l : Value} {ps : List Pc} (h : Sep t l) (hl : Own w base l ps) (hg : w.grownBy w' t.ownBlock) (hloc : Loc w t t') : Own w' base l ps ∧ Sep t' l := by
 refine ⟨hl.kept hg h.symm, ?_⟩
 rcases hloc with e | ⟨g, e, hg⟩
 ·rcases h with h | h
  ·exact .inl (by rw [e, h])
  ·exact .inr (by rw [e]; exact h)
 ·refine .inr ?_
  rw [e];intro h2;have := (World.ownsRow.lt hl g h2.symm).2;omega
theorem draw_ask {v : Int} (hv : 0 ≤ v) {ps : List Pc} (h : Fine ps) (hl : ps.length ≤ 100) (ht : tot ps ≤ 1000000000) :
  ((∀ q ∈ (drawS v ps).1, 0 ≤ q.2 ∧ q.2 ≤ 1000000000000) ∧ (drawS v ps).1.length ≤ 1000000) ∧ ((∀ q ∈ (drawS v ps).2.1, 0 ≤ q.2 ∧ q.2 ≤ 1000000000000) ∧ (drawS v ps).2.1.length ≤ 1000000) := by
 have h1 := drawS_all (C := fun _ => True) hv (ps := ps) (fun q hq => ⟨trivial, h.nn q hq⟩);have h2 := tot_drawS v ps;have h3 := length_drawS v ps;have n1 : Nn (drawS v ps).1 := fun q hq => (h1.1 q hq).2;have n2 : Nn (drawS v ps).2.1 := fun q hq => (h1.2 q hq).2;have t1 := tot_nonneg n1;have t2 := tot_nonneg n2;exact ⟨⟨fun q hq => ⟨n1 q hq, by have := le_tot n1 q hq; omega⟩, by omega⟩, ⟨fun q hq => ⟨n2 q hq, by have := le_tot n2 q hq; omega⟩, by omega⟩⟩
theorem draw_ok (ao : Option Addr) (cap : Nat) (ps : List Pc) (v : Int) (w : World) (h : Fl w ao ps) (hr : fref ps = 0) (hv : 0 ≤ v) (hvt : v ≤ tot ps) :
  Calls Tryz.prog 211 #[.slice ao ps.length cap, .int .i64 v] w fun e w' => ∃ x y, e = .returned (.tuple #[x, y, .int .i64 0]) ∧ Own w' w.heap.size x (drawS v ps).1 ∧ Own w' w.heap.size y (drawS v ps).2.1 ∧ bw w w' := by
 have HF := hdd h;have HR := hdd hr;clear h hr;have HI : Hid (ps.length ≤ 100 ∧ Fine ps ∧ tot ps ≤ 1000000000) := fref_in HR.out;have hl100 := HI.out.1;have ht9 := HI.out.2.2;have hd1 : decide (v < 0) = false := by simp; omega
 have hd2 : decide (tot ps < v) = false := by simp; omega
 go_enter Tryz.func211, Tryz.ntmps211
 go_wp2_with fail
 refine (refusal1 ao cap ps w HF.out).mono ?_;rintro e w1 ⟨rfl, hb⟩;rw [HR.out];have HB := hdd hb;clear hb
 go_wp2_with fail
 refine (total1 ao cap ps w1 (HF.out.next HB.out) HR.out).mono ?_;rintro e w2 ⟨rfl, hb⟩;have HB2 := hdd (HB.out.trans (hb.mono HB.out.size));clear hb;go_wp2
 go_loopw [1, 4, 5, 25] (fun u t l i wr => ∃ k : Nat, k ≤ ps.length ∧ i = .int .i64 k ∧ u = .int .i64 (drawS v (ps.take k)).2.2 ∧ Own wr w.heap.size t (drawS v (ps.take k)).1 ∧ Own wr w.heap.size l (drawS v (ps.take k)).2.1 ∧ Sep t l ∧ bw w wr) (fun _ _ _ i _ => ps.length - (intOf i).toNat)
 case atStart => exact ⟨0, Nat.zero_le _, rfl, rfl, Own.nil _ _, Own.nil _ _, .inl rfl, HB2.out⟩
 case round =>
  obtain ⟨k, hk, rfl, rfl, ht, hl, hs, hb⟩ := hrel;obtain ⟨ao1, n1, cap1, rfl⟩ := ht.form;obtain ⟨ao2, n2, cap2, rfl⟩ := hl.form;have HB3 := hdd hb;have HT := hdd ht;have HL := hdd hl;have HS := hdd hs;clear hb ht hl hs
  by_cases hlt : k < ps.length
  ·obtain ⟨b2, off, rfl, hb2, c0, c1, _⟩ := (HF.out.next HB3.out).at hlt
   have HD : Hid (drawS v (ps.take (k + 1)) = step (drawS v (ps.take k)) (ps[k]'hlt)) := by
    rw [List.take_succ_eq_append_getElem hlt, drawS_snoc]; rfl
   have hp := HI.out.2.1 _ (List.getElem_mem hlt);have hp0 := hp.2.1;have hp1 := hp.2.2;clear hp;have hvv := drawS_v hv (ps := ps.take k) (HI.out.2.1.nn.take k);have hv0 := hvv.1;have hv1 := hvv.2;clear hvv;have HA : Hid (_) := draw_ask hv (ps := ps.take k) (fine_take HI.out.2.1 k) (by rw [List.length_take]; omega) (by have := tot_take_le HI.out.2.1.nn k; omega);obtain ⟨p, hp⟩ : ∃ p, ps[k]'hlt = p := ⟨_, rfl⟩;rw [hp] at c0 c1 HD hp0 hp1;clear hp;obtain ⟨l, n⟩ := p;simp only at c0 c1 hp0 hp1;generalize drawS v (ps.take k) = S at *;obtain ⟨T, L, V⟩ := S;simp only at HT HL HA hv0 hv1
   by_cases hc : n ≤ V
   ·have HD2 : Hid (drawS v (ps.take (k + 1)) = (behind T (l, n), behind L (l, 0), V - n)) := by
     have e := HD.out;simp only [step, Int.min_eq_left hc, Int.sub_self] at e;exact e
    go_wp2_with fail
    refine (behind_any w.heap.size _ T l (n) _ (HT.out.alloc _) hp0 (by omega) HA.out.1.1 HA.out.1.2 (by have := HB3.out.size; simp; omega)).mono ?_;rintro e w3 ⟨t', rfl, ho, hg, hloc⟩;obtain ⟨ao3, n3, cap3, rfl⟩ := ho.form;have hk2 := HS.out.keep (HL.out.alloc _) hg hloc;have HO3 := hdd ho;have HL3 : Hid (Own w3 w.heap.size (.slice ao2 n2 cap2) L) := hk2.1;have HS3 : Hid (Sep (.slice ao2 n2 cap2) (.slice ao3 n3 cap3)) := hk2.2.symm;have HB4 : Hid (bw w w3) := below_grown (HB3.out.alloc HB3.out.size _) (HT.out.alloc _) hg (by have := HB3.out.size; simp; omega)
    have hcl : w3.cell? ⟨wr.heap.size, 0, none⟩ = some (.string l) ∧ w3.cell? ⟨wr.heap.size, 1, none⟩ = some (.int .i64 n) := by
     have hne : (some wr.heap.size : Option Nat) ≠ (Value.slice ao1 n1 cap1).ownBlock := fun e => by have := (World.ownsRow.lt HT.out _ e.symm).2; omega
     exact ⟨hg.cell (a := ⟨wr.heap.size, 0, none⟩) (by go_simp) hne, hg.cell (a := ⟨wr.heap.size, 1, none⟩) (by go_simp) hne⟩
    obtain ⟨d0, d1⟩ := hcl;clear ho hg hloc hk2
    go_wp2_with fail
    refine (behind_any w.heap.size _ L l (0) _ HL3.out (by omega) (by omega) HA.out.2.1 HA.out.2.2 HB4.out.size).mono ?_;rintro e w4 ⟨l', rfl, ho, hg, hloc⟩;obtain ⟨ao4, n4, cap4, rfl⟩ := ho.form;have hk2 := HS3.out.keep HO3.out hg hloc;have HO4 := hdd ho;have HT4 : Hid (Own w4 w.heap.size (.slice ao3 n3 cap3) (behind T (l, n))) := hk2.1;have HS4 : Hid (Sep (.slice ao3 n3 cap3) (.slice ao4 n4 cap4)) := hk2.2.symm;have HB5 : Hid (bw w w4) := below_grown HB4.out HL3.out hg HB4.out.size;clear ho hg hloc hk2;go_wp2
    go_roundw
    case rel => exact ⟨k + 1, by omega, by go_num, by rw [HD2.out], by rw [HD2.out]; exact HT4.out, by rw [HD2.out]; exact HO4.out, HS4.out, HB5.out⟩
    case measure => simp [intOf]; omega
   ·have HD2 : Hid (drawS v (ps.take (k + 1)) = (behind T (l, V), behind L (l, n - V), 0)) := by
     have e := HD.out;simp only [step, Int.min_eq_right (by omega : V ≤ n), Int.sub_self] at e;exact e
    go_wp2_with fail
    refine (behind_any w.heap.size _ T l (V) _ (HT.out.alloc _) hv0 (by omega) HA.out.1.1 HA.out.1.2 (by have := HB3.out.size; simp; omega)).mono ?_;rintro e w3 ⟨t', rfl, ho, hg, hloc⟩;obtain ⟨ao3, n3, cap3, rfl⟩ := ho.form;have hk2 := HS.out.keep (HL.out.alloc _) hg hloc;have HO3 := hdd ho;have HL3 : Hid (Own w3 w.heap.size (.slice ao2 n2 cap2) L) := hk2.1;have HS3 : Hid (Sep (.slice ao2 n2 cap2) (.slice ao3 n3 cap3)) := hk2.2.symm;have HB4 : Hid (bw w w3) := below_grown (HB3.out.alloc HB3.out.size _) (HT.out.alloc _) hg (by have := HB3.out.size; simp; omega)
    have hcl : w3.cell? ⟨wr.heap.size, 0, none⟩ = some (.string l) ∧ w3.cell? ⟨wr.heap.size, 1, none⟩ = some (.int .i64 n) := by
     have hne : (some wr.heap.size : Option Nat) ≠ (Value.slice ao1 n1 cap1).ownBlock := fun e => by have := (World.ownsRow.lt HT.out _ e.symm).2; omega
     exact ⟨hg.cell (a := ⟨wr.heap.size, 0, none⟩) (by go_simp) hne, hg.cell (a := ⟨wr.heap.size, 1, none⟩) (by go_simp) hne⟩
    obtain ⟨d0, d1⟩ := hcl;clear ho hg hloc hk2
    go_wp2_with fail
    refine (behind_any w.heap.size _ L l (n - V) _ HL3.out (by omega) (by omega) HA.out.2.1 HA.out.2.2 HB4.out.size).mono ?_;rintro e w4 ⟨l', rfl, ho, hg, hloc⟩;obtain ⟨ao4, n4, cap4, rfl⟩ := ho.form;have hk2 := HS3.out.keep HO3.out hg hloc;have HO4 := hdd ho;have HT4 : Hid (Own w4 w.heap.size (.slice ao3 n3 cap3) (behind T (l, V))) := hk2.1;have HS4 : Hid (Sep (.slice ao3 n3 cap3) (.slice ao4 n4 cap4)) := hk2.2.symm;have HB5 : Hid (bw w w4) := below_grown HB4.out HL3.out hg HB4.out.size;clear ho hg hloc hk2;go_wp2
    go_roundw
    case rel => exact ⟨k + 1, by omega, by go_num, by rw [HD2.out], by rw [HD2.out]; exact HT4.out, by rw [HD2.out]; exact HO4.out, HS4.out, HB5.out⟩
    case measure => simp [intOf]; omega
  ·go_wp2
   go_ret3
   have e : ps.take k = ps := List.take_of_length_le (by omega);exact ⟨.slice ao1 n1 cap1, .slice ao2 n2 cap2, rfl, by have := HT.out; rw [e] at this; exact this, by have := HL.out; rw [e] at this; exact this, HB3.out⟩
theorem draw_any (ao : Option Addr) (cap : Nat) (ps : List Pc) (v : Int) (w : World) (h : Fl w ao ps) :
  Calls Tryz.prog 211 #[.slice ao ps.length cap, .int .i64 v] w fun e w' => ∃ x y, e = .returned (.tuple #[x, y, .int .i64 (drawF v ps).2.2]) ∧ Own w' w.heap.size x (drawF v ps).1 ∧ Own w' w.heap.size y (drawF v ps).2.1 ∧ bw w w' := by
 by_cases hr : fref ps = 0
 ·by_cases hv : v < 0
  ·have HQ : Hid (drawF v ps = ([], [], 2)) := by unfold drawF; rw [if_pos hr, if_pos hv]; rfl
   have HF := hdd h;have HR := hdd hr;clear h hr
   go_enter Tryz.func211, Tryz.ntmps211
   go_wp2_with fail
   refine (refusal1 ao cap ps w HF.out).mono ?_;rintro e w1 ⟨rfl, hb⟩;rw [HR.out];go_wp2
   go_ret3
   exact ⟨.slice none 0 0, .slice none 0 0, by rw [HQ.out]; rfl, by rw [HQ.out]; exact Own.nil _ _, by rw [HQ.out]; exact Own.nil _ _, hb⟩
  ·by_cases ht : tot ps < v
   ·have HQ : Hid (drawF v ps = ([], [], 10)) := by unfold drawF; rw [if_pos hr, if_neg hv, if_pos ht]; rfl
    have HF := hdd h;have HR := hdd hr;clear h hr
    go_enter Tryz.func211, Tryz.ntmps211
    go_wp2_with fail
    refine (refusal1 ao cap ps w HF.out).mono ?_;rintro e w1 ⟨rfl, hb⟩;rw [HR.out];have HB := hdd hb;clear hb
    go_wp2_with fail
    refine (total1 ao cap ps w1 (HF.out.next HB.out) HR.out).mono ?_;rintro e w2 ⟨rfl, hb⟩;go_wp2
    go_ret3
    exact ⟨.slice none 0 0, .slice none 0 0, by rw [HQ.out]; rfl, by rw [HQ.out]; exact Own.nil _ _, by rw [HQ.out]; exact Own.nil _ _, HB.out.trans (hb.mono HB.out.size)⟩
   ·have e : drawF v ps = ((drawS v ps).1, (drawS v ps).2.1, 0) := by unfold drawF; rw [if_pos hr, if_neg hv, if_neg ht]
    rw [e];exact draw_ok ao cap ps v w h hr (by omega) (by omega)
 ·have HQ : Hid (drawF v ps = ([], [], fref ps)) := by unfold drawF; rw [if_neg hr]; rfl
  have HF := hdd h;have hne : (fref ps == 0) = false := by simp [hr]
  have hne2 : (fref ps != 0) = true := by simp [hr]
  clear h hr
  go_enter Tryz.func211, Tryz.ntmps211
  go_wp2_with fail
  refine (refusal1 ao cap ps w HF.out).mono ?_;rintro e w1 ⟨rfl, hb⟩;go_wp2
  go_ret3
  exact ⟨.slice none 0 0, .slice none 0 0, by rw [HQ.out]; rfl, by rw [HQ.out]; exact Own.nil _ _, by rw [HQ.out]; exact Own.nil _ _, hb⟩
def ex : List Pc → List ByteArray
 | [] => []
 | p :: r => List.replicate p.2.toNat p.1 ++ ex r
def Adj : List Pc → Prop
 | [] => True
 | [_] => True
 | p :: q :: r => p.1 ≠ q.1 ∧ Adj (q :: r)
def Pl (ps : List Pc) : Prop := (∀ p ∈ ps, 0 < p.2) ∧ Adj ps
theorem ex_append (a b : List Pc) : ex (a ++ b) = ex a ++ ex b := by
 induction a with
 | nil => rfl
 | cons p a ih => simp only [List.cons_append, ex, ih, List.append_assoc]
theorem ex_one (p : Pc) : ex [p] = List.replicate p.2.toNat p.1 := by simp [ex]
theorem ex_length {ps : List Pc} (h : Nn ps) : ((ex ps).length : Int) = tot ps := by
 induction ps with
 | nil => rfl
 | cons p ps ih =>
  have := ih (fun q hq => h q (by simp [hq]));have := h p (by simp);simp only [ex, tot, List.length_append, List.length_replicate]; omega
theorem Adj.tail {p : Pc} {r : List Pc} (h : Adj (p :: r)) : Adj r := by
 cases r with
 | nil => trivial
 | cons q r => exact h.2
theorem adj_snoc {q p : Pc} (hne : q.1 ≠ p.1) : ∀ a : List Pc, Adj (a ++ [q]) → Adj (a ++ [q] ++ [p])
 | [], _ => ⟨hne, trivial⟩
 | [_], h => ⟨h.1, hne, trivial⟩
 | _ :: y :: a, h => ⟨h.1, adj_snoc hne (y :: a) h.2⟩
theorem adj_last {q p : Pc} (e : q.1 = p.1) : ∀ a : List Pc, Adj (a ++ [q]) → Adj (a ++ [p])
 | [], _ => trivial
 | [_], h => ⟨by rw [← e]; exact h.1, trivial⟩
 | _ :: y :: a, h => ⟨h.1, adj_last e (y :: a) h.2⟩
theorem pl_nil : Pl [] := ⟨(fun p hp => by cases hp), trivial⟩
theorem pl_behind {acc : List Pc} {p : Pc} (h : Pl acc) (hp : 0 ≤ p.2) : Pl (behind acc p) := by
 by_cases h0 : p.2 = 0
 ·rw [behind_zero h0]; exact h
 ·rcases snoc_cases acc with rfl | ⟨a, q, rfl⟩
  ·rw [behind_nil h0]
   exact ⟨fun r hr => by simp at hr; subst hr; omega, trivial⟩
  ·have hq := h.1 q (by simp)
   by_cases e : q.1 = p.1
   ·rw [behind_same h0 e]
    refine ⟨fun r hr => ?_, adj_last (q := q) (p := (q.1, q.2 + p.2)) rfl a h.2⟩
    rcases List.mem_append.1 hr with hr | hr
    ·exact h.1 r (by simp [hr])
    ·simp at hr; subst hr; simp only; omega
   ·rw [behind_other h0 e]
    refine ⟨fun r hr => ?_, adj_snoc e a h.2⟩
    rcases List.mem_append.1 hr with hr | hr
    ·exact h.1 r hr
    ·simp at hr; subst hr; omega
theorem ex_behind {acc : List Pc} {p : Pc} (h : Nn acc) (hp : 0 ≤ p.2) : ex (behind acc p) = ex acc ++ List.replicate p.2.toNat p.1 := by
 by_cases h0 : p.2 = 0
 ·rw [behind_zero h0, h0]; simp
 ·rcases snoc_cases acc with rfl | ⟨a, q, rfl⟩
  ·rw [behind_nil h0, ex_one]; rfl
  ·have hq := h q (by simp)
   by_cases e : q.1 = p.1
   ·rw [behind_same h0 e, ex_append, ex_append, ex_one, ex_one, List.append_assoc]
    simp only;rw [← e, show (q.2 + p.2).toNat = q.2.toNat + p.2.toNat by omega, List.replicate_append_replicate]
   ·rw [behind_other h0 e, ex_append, ex_one]
theorem pl_plainL {ps : List Pc} (h : Nn ps) : Pl (plainL ps) := by
 induction ps using snoc_ind with
 | h0 => exact pl_nil
 | h1 a p ih => rw [plainL_snoc]; exact pl_behind (ih (fun q hq => h q (by simp [hq]))) (h p (by simp))
theorem ex_plainL {ps : List Pc} (h : Nn ps) : ex (plainL ps) = ex ps := by
 induction ps using snoc_ind with
 | h0 => rfl
 | h1 a p ih =>
  have ha : Nn a := fun q hq => h q (by simp [hq]);rw [plainL_snoc, ex_behind (nn_plainL ha) (h p (by simp)), ih ha, ex_append, ex_one]
theorem Pl.nn {ps : List Pc} (h : Pl ps) : Nn ps := fun p hp => Int.le_of_lt (h.1 p hp)
theorem ex_head {p : Pc} {r : List Pc} (h : Pl (p :: r)) : ∃ t, ex (p :: r) = p.1 :: t := by
 have := h.1 p (by simp);obtain ⟨n, hn⟩ : ∃ n, p.2.toNat = n + 1 := ⟨p.2.toNat - 1, by omega⟩;exact ⟨List.replicate n p.1 ++ ex r, by simp only [ex, hn, List.replicate_succ, List.cons_append]⟩
theorem Pl.tail {p : Pc} {r : List Pc} (h : Pl (p :: r)) : Pl r := ⟨fun q hq => h.1 q (by simp [hq]), h.2.tail⟩
theorem no_more {l : ByteArray} {n : Int} {r : List Pc} (h : Pl ((l, n) :: r)) {m : Nat} {t : List ByteArray} (e : ex r = List.replicate m l ++ t) : m = 0 := by
 cases m with
 | zero => rfl
 | succ m =>
  cases r with
  | nil => simp [ex, List.replicate_succ] at e
  | cons q r =>
   obtain ⟨t', ht⟩ := ex_head h.tail;rw [ht, List.replicate_succ, List.cons_append] at e;injection e with e1 _;exact absurd e1.symm h.2.1
theorem pl_unique : ∀ a b : List Pc, Pl a → Pl b → ex a = ex b → a = b
 | [], [], _, _, _ => rfl
 | [], q :: b, _, hb, e => by obtain ⟨t, ht⟩ := ex_head hb; rw [ht] at e; cases e
 | p :: a, [], ha, _, e => by obtain ⟨t, ht⟩ := ex_head ha; rw [ht] at e; cases e
 | (l, n) :: a, (m, k) :: b, ha, hb, e => by
  have hn := ha.1 (l, n) (by simp);have hk := hb.1 (m, k) (by simp);simp only at hn hk
  have hlm : l = m := by
   obtain ⟨t, ht⟩ := ex_head ha;obtain ⟨t', ht'⟩ := ex_head hb;rw [ht, ht'] at e;injection e
  subst hlm;simp only [ex] at e
  have hnk : n = k := by
   by_cases h1 : n.toNat ≤ k.toNat
   ·obtain ⟨d, hd⟩ : ∃ d, k.toNat = n.toNat + d := ⟨k.toNat - n.toNat, by omega⟩
    rw [hd, ← List.replicate_append_replicate, List.append_assoc] at e;have := no_more ha (List.append_cancel_left e);omega
   ·obtain ⟨d, hd⟩ : ∃ d, n.toNat = k.toNat + d := ⟨n.toNat - k.toNat, by omega⟩
    rw [hd, ← List.replicate_append_replicate, List.append_assoc] at e;have := no_more hb (List.append_cancel_left e).symm;omega
  subst hnk;rw [pl_unique a b ha.tail hb.tail (List.append_cancel_left e)]
theorem ex_drawS {v : Int} (hv : 0 ≤ v) {ps : List Pc} (h : Nn ps) :
  (Pl (drawS v ps).1 ∧ Pl (drawS v ps).2.1) ∧ ex (drawS v ps).1 = (ex ps).take v.toNat ∧ ex (drawS v ps).2.1 = (ex ps).drop v.toNat ∧ (drawS v ps).2.2 = max (v - tot ps) 0 := by
 induction ps using snoc_ind with
 | h0 => exact ⟨⟨pl_nil, pl_nil⟩, by simp [drawS, ex], by simp [drawS, ex], by simp only [drawS, List.foldl_nil, tot]; omega⟩
 | h1 a p ih =>
  have ha : Nn a := fun q hq => h q (by simp [hq]);have hp := h p (by simp);obtain ⟨⟨i1, i2⟩, i3, i4, i5⟩ := ih ha;have hl := ex_length ha;have ht := tot_nonneg ha;rw [drawS_snoc, tot_snoc, ex_append, ex_one];generalize drawS v a = s at *;have hs : 0 ≤ s.2.2 := by omega
  simp only [step];refine ⟨⟨pl_behind i1 (by simp only; omega), pl_behind i2 (by simp only; omega)⟩, ?_, ?_, by omega⟩
  ·rw [ex_behind i1.nn (by simp only; omega), i3, List.take_append, List.take_replicate]
   simp only
   congr 2
   omega
  ·rw [ex_behind i2.nn (by simp only; omega), i4, List.drop_append, List.drop_replicate]
   simp only
   congr 2
   omega
theorem draw_fine {v : Int} (hv : 0 ≤ v) {ps : List Pc} (hr : fref ps = 0) : fref (drawS v ps).1 = 0 ∧ fref (drawS v ps).2.1 = 0 := by
 obtain ⟨h1, h2, h3⟩ := fref_in hr;have ha := drawS_all (C := fun s => lab s = true) hv (ps := ps) h2.weak;have ht := tot_drawS v ps;have hl := length_drawS v ps;have t1 := tot_nonneg (ps := (drawS v ps).1) (fun q hq => (ha.1 q hq).2);have t2 := tot_nonneg (ps := (drawS v ps).2.1) (fun q hq => (ha.2 q hq).2);exact ⟨of_fref (by omega) (fine_mk ha.1 (by omega)) (by omega), of_fref (by omega) (fine_mk ha.2 (by omega)) (by omega)⟩
end Go.Proofs.YtcajifelbldjnaaGreatDoor.F
