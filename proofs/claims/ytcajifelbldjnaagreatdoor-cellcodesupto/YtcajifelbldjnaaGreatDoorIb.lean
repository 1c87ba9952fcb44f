import Derived.Test.YtcajifelbldjnaaGreatDoorIa
import Derived.Deep.RegionWith
set_option maxRecDepth 100000
set_option maxHeartbeats 25600000
set_option linter.unusedVariables false
namespace Go.Proofs.YtcajifelbldjnaaGreatDoor
open Go.RowKit
def okAt (b : UInt8) (k : Nat) : Bool :=
 decide (97 ≤ b.toNat ∧ b.toNat ≤ 122) || (decide (0 < k) && decide (48 ≤ b.toNat ∧ b.toNat ≤ 57))
def lab (s : ByteArray) : Bool := decide (1 ≤ s.size) && decide (s.size ≤ 16) && decide (∀ k (h : k < s.size), okAt (s[k]'h) k = true)
theorem lab_short {s : ByteArray} (h : s.size < 1) : lab s = false := by
 unfold lab; rw [decide_eq_false (by omega : ¬ 1 ≤ s.size)]; simp
theorem lab_long {s : ByteArray} (h : 16 < s.size) : lab s = false := by
 unfold lab; rw [decide_eq_false (by omega : ¬ s.size ≤ 16)]; simp
theorem lab_bad {s : ByteArray} {k : Nat} (h : k < s.size) (hb : okAt (s[k]'h) k = false) : lab s = false := by
 unfold lab;rw [decide_eq_false (p := ∀ k (h : k < s.size), okAt (s[k]'h) k = true) (fun hh => by rw [hh k h] at hb; cases hb)]; simp
theorem lab_good {s : ByteArray} (h1 : 1 ≤ s.size) (h2 : s.size ≤ 16) (h : ∀ k (h : k < s.size), okAt (s[k]'h) k = true) : lab s = true := by
 unfold lab; rw [decide_eq_true h1, decide_eq_true h2, decide_eq_true h]; rfl
theorem lab_in {s : ByteArray} (h : lab s = true) : 1 ≤ s.size ∧ s.size ≤ 16 := by
 unfold lab at h;simp only [Bool.and_eq_true, decide_eq_true_eq] at h;exact h.1
theorem okAt_letter {b : UInt8} {k : Nat} (h1 : 97 ≤ b.toNat) (h2 : b.toNat ≤ 122) : okAt b k = true := by
 unfold okAt; rw [decide_eq_true (⟨h1, h2⟩ : 97 ≤ b.toNat ∧ b.toNat ≤ 122)]; rfl
theorem okAt_digit {b : UInt8} {k : Nat} (h0 : 0 < k) (h1 : 48 ≤ b.toNat) (h2 : b.toNat ≤ 57) : okAt b k = true := by
 unfold okAt; rw [decide_eq_true (⟨h1, h2⟩ : 48 ≤ b.toNat ∧ b.toNat ≤ 57), decide_eq_true h0]; simp
theorem okAt_zero {b : UInt8} {k : Nat} (h0 : k = 0) (h : b.toNat < 97 ∨ 122 < b.toNat) : okAt b k = false := by
 unfold okAt; rw [decide_eq_false (by omega : ¬ (97 ≤ b.toNat ∧ b.toNat ≤ 122)), decide_eq_false (by omega : ¬ 0 < k)]; rfl
theorem okAt_no {b : UInt8} {k : Nat} (h : b.toNat < 97 ∨ 122 < b.toNat) (h2 : b.toNat < 48 ∨ 57 < b.toNat) : okAt b k = false := by
 unfold okAt; rw [decide_eq_false (by omega : ¬ (97 ≤ b.toNat ∧ b.toNat ≤ 122)), decide_eq_false (by omega : ¬ (48 ≤ b.toNat ∧ b.toNat ≤ 57))]; simp
theorem good_succ {s : ByteArray} {pos : Nat} (hp : pos < s.size) (h : ∀ k (h : k < s.size), k < pos → okAt (s[k]'h) k = true) (hb : okAt (s[pos]'hp) pos = true) :
  ∀ k (h : k < s.size), k < pos + 1 → okAt (s[k]'h) k = true := fun k hk hlt => by
 by_cases e : k = pos
 ·subst e; exact hb
 ·exact h k hk (by omega)
theorem okAt_in {b : UInt8} {k : Nat} (h : inR 97 122 (b.toNat : Int) = true) : okAt b k = true := okAt_letter (by have := (inR_iff.1 h).1; omega) (by have := (inR_iff.1 h).2; omega)
theorem inR_out {lo hi x : Int} (h : inR lo hi x = false) : x < lo ∨ hi < x := by
 by_cases h1 : lo ≤ x
 ·by_cases h2 : x ≤ hi
  ·rw [inR_yes h1 h2] at h; cases h
  ·omega
 ·omega
theorem isLabel_any (s : ByteArray) (w : World) (hs : s.size ≤ maxLen) :
  CR 121 #[.string s] w (.bool (lab s)) := by
 unfold maxLen at hs
 by_cases h1 : s.size < 1
 ·rw [lab_short h1]
  go_enter Tryz.func121, Tryz.ntmps121
  go_wp2;go_ret;exact ⟨rfl, brf⟩
 by_cases h2 : 16 < s.size
 ·rw [lab_long h2]
  go_enter Tryz.func121, Tryz.ntmps121
  go_wp2;go_ret;exact ⟨rfl, brf⟩
 go_enter Tryz.func121, Tryz.ntmps121
 go_wp2_with (go_at_call 188; refine (within_rune _ _ _).mono ?_; rintro e w1 ⟨rfl, rfl⟩)
 obtain ⟨W, hW⟩ : ∃ W, W = (((w.alloc (.cells #[.int .i32 97] 21)).alloc (.cells #[.int .i32 122] 21)).alloc (.cells #[.int .i32 48] 21)).alloc (.cells #[.int .i32 57] 21) := ⟨_, rfl⟩;have hB : bw w W := by rw [hW]; exact ((((brf).alloc (Nat.le_refl _) _).alloc (by simp) _).alloc (by simp; omega) _).alloc (by simp; omega) _
 have hc0 : ∀ pos, (W.iter s pos).cell? ⟨w.heap.size, 0, none⟩ = some (.int .i32 97) := fun pos => by
  refine cell_later ((Below.refl W.heap.size W).alloc (Nat.le_refl _) _) ?_;rw [hW]; go_simp
 have hc1 : ∀ pos, (W.iter s pos).cell? ⟨w.heap.size + 1, 0, none⟩ = some (.int .i32 122) := fun pos => by
  refine cell_later ((Below.refl W.heap.size W).alloc (Nat.le_refl _) _) ?_;rw [hW]; go_simp
 have hd0 : ∀ pos, (W.iter s pos).cell? ⟨w.heap.size + 1 + 1, 0, none⟩ = some (.int .i32 48) := fun pos => by
  refine cell_later ((Below.refl W.heap.size W).alloc (Nat.le_refl _) _) ?_;rw [hW]; go_simp
 have hd1 : ∀ pos, (W.iter s pos).cell? ⟨w.heap.size + 1 + 1 + 1, 0, none⟩ = some (.int .i32 57) := fun pos => by
  refine cell_later ((Below.refl W.heap.size W).alloc (Nat.le_refl _) _) ?_;rw [hW]; go_simp
 have hWs : w.heap.size + 1 + 1 + 1 + 1 = W.heap.size := by rw [hW]; simp
 rw [← hW, hWs];clear hW hWs
 go_loopw [5] (fun _ wr => ∃ pos : Nat, pos ≤ s.size ∧ wr = W.iter s pos ∧ ∀ k (h : k < s.size), k < pos → okAt (s[k]'h) k = true) (fun _ wr => s.size - wr.iterPos W.heap.size)
 case atStart => exact ⟨0, Nat.zero_le _, rfl, fun k _ h => absurd h (Nat.not_lt_zero _)⟩
 case round =>
  obtain ⟨pos, hpos, rfl, hgood⟩ := hrel;have HG := hdd hgood;clear hgood
  by_cases hp : pos < s.size
  ·by_cases ha : (s[pos]'hp).toNat < 128
   ·have hnx : ∀ ty, (Instr.next (.pointer (some ⟨W.heap.size, 0, none⟩)) true ty).run Tryz.prog (W.iter s pos) = _ := fun ty => run_next_ascii W s pos ty hp ha
    obtain ⟨c, hc⟩ : ∃ c : UInt8, c = s[pos]'hp := ⟨_, rfl⟩;have HC := hdd hc;rw [← hc] at hnx ha;clear hc
    cases hl : inR 97 122 (c.toNat : Int) with
    | true =>
     go_wp2_with (go_at_call 228; refine (in_rune' (c.toNat : Int) 97 122 true hl _ _ _ (hc0 _) (hc1 _)).mono ?_; rintro e w2 ⟨rfl, rfl⟩)
     go_roundw
     case rel => exact ⟨pos + 1, by omega, rfl, good_succ hp HG.out (by rw [← HC.out]; exact okAt_in hl)⟩
     case measure => simp; omega
    | false =>
     by_cases h0 : pos = 0
     ·have HB : Hid (lab s = false) := lab_bad hp (by rw [← HC.out]; exact okAt_zero h0 (by have := inR_out hl; omega))
      have h00 : ((pos : Int) == 0) = true := by simp; omega
      clear h0
      go_wp2_with (go_at_call 228; refine (in_rune' (c.toNat : Int) 97 122 false hl _ _ _ (hc0 _) (hc1 _)).mono ?_; rintro e w2 ⟨rfl, rfl⟩)
      go_ret;exact ⟨ret_bool HB.out.symm, hB.alloc hB.size _⟩
     ·have h00 : ((pos : Int) == 0) = false := by simp; omega
      have h01 : 0 < pos := by omega
      clear h0
      cases hd : inR 48 57 (c.toNat : Int) with
      | true =>
       go_wp2_with fail
       refine (in_rune' (c.toNat : Int) 97 122 false hl _ _ _ (hc0 _) (hc1 _)).mono ?_;rintro e w2 ⟨rfl, rfl⟩
       go_wp2_with fail
       refine (in_rune' (c.toNat : Int) 48 57 true hd _ _ _ (hd0 _) (hd1 _)).mono ?_;rintro e w2 ⟨rfl, rfl⟩;go_wp2
       go_roundw
       case rel => exact ⟨pos + 1, by omega, rfl, good_succ hp HG.out (by rw [← HC.out]; exact okAt_digit h01 (by have := (inR_iff.1 hd).1; omega) (by have := (inR_iff.1 hd).2; omega))⟩
       case measure => simp; omega
      | false =>
       have HB : Hid (lab s = false) := lab_bad hp (by rw [← HC.out]; exact okAt_no (by have := inR_out hl; omega) (by have := inR_out hd; omega))
       go_wp2_with fail
       refine (in_rune' (c.toNat : Int) 97 122 false hl _ _ _ (hc0 _) (hc1 _)).mono ?_;rintro e w2 ⟨rfl, rfl⟩
       go_wp2_with fail
       refine (in_rune' (c.toNat : Int) 48 57 false hd _ _ _ (hd0 _) (hd1 _)).mono ?_;rintro e w2 ⟨rfl, rfl⟩;go_wp2;go_ret;exact ⟨ret_bool HB.out.symm, hB.alloc hB.size _⟩
   ·have hnx : ∀ ty, (Instr.next (.pointer (some ⟨W.heap.size, 0, none⟩)) true ty).run Tryz.prog (W.iter s pos) = _ := fun ty => run_next_any W s pos ty hp
    have HB : Hid (lab s = false) := lab_bad hp (okAt_no (by omega) (by omega));have hd := (decode_high s pos hp (by omega)).1;generalize (Utf8.decode s pos).1 = c at *;generalize (Utf8.decode s pos).2 = d at *;have hl : inR 97 122 (c : Int) = false := inR_no (.inr (by omega));have hd2 : inR 48 57 (c : Int) = false := inR_no (.inr (by omega))
    by_cases h0 : pos = 0
    ·have h00 : ((pos : Int) == 0) = true := by simp; omega
     clear h0
     go_wp2_with (go_at_call 228; refine (in_rune' (c : Int) 97 122 false hl _ _ _ (hc0 _) (hc1 _)).mono ?_; rintro e w2 ⟨rfl, rfl⟩)
     go_ret;exact ⟨ret_bool HB.out.symm, hB.alloc hB.size _⟩
    ·have h00 : ((pos : Int) == 0) = false := by simp; omega
     clear h0
     go_wp2_with fail
     refine (in_rune' (c : Int) 97 122 false hl _ _ _ (hc0 _) (hc1 _)).mono ?_;rintro e w2 ⟨rfl, rfl⟩
     go_wp2_with fail
     refine (in_rune' (c : Int) 48 57 false hd2 _ _ _ (hd0 _) (hd1 _)).mono ?_;rintro e w2 ⟨rfl, rfl⟩;go_wp2;go_ret;exact ⟨ret_bool HB.out.symm, hB.alloc hB.size _⟩
  ·have hnx : ∀ ty, (Instr.next (.pointer (some ⟨W.heap.size, 0, none⟩)) true ty).run Tryz.prog (W.iter s pos) = _ := fun ty => run_next_end W s pos ty hp
   go_wp2;go_ret;exact ⟨ret_bool (lab_good (by omega) (by omega) (fun k h => HG.out k h (by omega))).symm, hB.alloc hB.size _⟩
end Go.Proofs.YtcajifelbldjnaaGreatDoor
namespace Go.Proofs.YtcajifelbldjnaaGreatDoor.F
open Go.RowKit
abbrev Pc := ByteArray × Int
def bad1 (p : Pc) : Int := if lab p.1 = true then (if 0 ≤ p.2 ∧ p.2 ≤ 1000000000 then 0 else 2) else 3
def badL : List Pc → Int
 | [] => 0
 | p :: r => if bad1 p = 0 then badL r else bad1 p
def tot : List Pc → Int
 | [] => 0
 | p :: r => p.2 + tot r
def fref (ps : List Pc) : Int := if 100 < ps.length then 7 else if badL ps = 0 then (if 1000000000 < tot ps then 8 else 0) else badL ps
def frefs : List (List Pc) → Int
 | [] => 0
 | f :: r => if fref f = 0 then frefs r else fref f
theorem bad1_name {p : Pc} (h : lab p.1 = false) : bad1 p = 3 := by unfold bad1; rw [h]; rfl
theorem bad1_range {p : Pc} (h : lab p.1 = true) (h2 : p.2 < 0 ∨ 1000000000 < p.2) : bad1 p = 2 := by unfold bad1; rw [if_pos h, if_neg (by omega)]
theorem bad1_ok {p : Pc} (h : lab p.1 = true) (h2 : 0 ≤ p.2) (h3 : p.2 ≤ 1000000000) : bad1 p = 0 := by unfold bad1; rw [if_pos h, if_pos ⟨h2, h3⟩]
theorem bad1_in {p : Pc} (h : bad1 p = 0) : lab p.1 = true ∧ 0 ≤ p.2 ∧ p.2 ≤ 1000000000 := by
 unfold bad1 at h
 split at h
 ·split at h
  ·refine ⟨by assumption, ?_⟩; assumption
  ·omega
 ·omega
theorem tot_append (a b : List Pc) : tot (a ++ b) = tot a + tot b := by
 induction a with
 | nil => simp [tot]
 | cons p a ih => simp only [List.cons_append, tot, ih]; omega
theorem tot_snoc (a : List Pc) (p : Pc) : tot (a ++ [p]) = tot a + p.2 := by rw [tot_append]; simp [tot]
theorem badL_append_ok {a b : List Pc} (h : badL a = 0) : badL (a ++ b) = badL b := by
 induction a with
 | nil => rfl
 | cons p a ih =>
  simp only [badL] at h
  split at h
  ·rename_i hp; simp only [List.cons_append, badL]; rw [if_pos hp]; exact ih h
  ·rename_i hp; exact absurd h hp
theorem badL_first {a b : List Pc} {p : Pc} (h : badL a = 0) (hp : bad1 p ≠ 0) : badL (a ++ p :: b) = bad1 p := by
 rw [badL_append_ok h]; simp only [badL]; rw [if_neg hp]
theorem badL_snoc {a : List Pc} {p : Pc} (h : badL a = 0) (hp : bad1 p = 0) : badL (a ++ [p]) = 0 := by
 rw [badL_append_ok h]; simp only [badL]; rw [if_pos hp]
theorem badL_in {a : List Pc} (h : badL a = 0) : ∀ p ∈ a, bad1 p = 0 := by
 induction a with
 | nil => intro p hp; cases hp
 | cons q a ih =>
  simp only [badL] at h
  split at h
  ·intro p hp
   rcases List.mem_cons.1 hp with rfl | hp
   ·assumption
   ·exact ih h p hp
  ·rename_i hp; exact absurd h hp
theorem badL_of {a : List Pc} (h : ∀ p ∈ a, bad1 p = 0) : badL a = 0 := by
 induction a with
 | nil => rfl
 | cons q a ih =>
  simp only [badL]; rw [if_pos (h q (by simp))]; exact ih (fun p hp => h p (by simp [hp]))
def Nn (ps : List Pc) : Prop := ∀ p ∈ ps, 0 ≤ p.2
def Fine (ps : List Pc) : Prop := ∀ p ∈ ps, lab p.1 = true ∧ 0 ≤ p.2 ∧ p.2 ≤ 1000000000
theorem Fine.nn {ps : List Pc} (h : Fine ps) : Nn ps := fun p hp => (h p hp).2.1
theorem fine_of {ps : List Pc} (h : badL ps = 0) : Fine ps := fun p hp => bad1_in (badL_in h p hp)
theorem of_fine {ps : List Pc} (h : Fine ps) : badL ps = 0 := badL_of fun p hp => bad1_ok (h p hp).1 (h p hp).2.1 (h p hp).2.2
theorem tot_nonneg {ps : List Pc} (h : Nn ps) : 0 ≤ tot ps := by
 induction ps with
 | nil => simp [tot]
 | cons p ps ih =>
  have := h p (by simp);have := ih (fun q hq => h q (by simp [hq]));simp only [tot]; omega
theorem tot_le {ps : List Pc} (h : Fine ps) : tot ps ≤ 1000000000 * ps.length := by
 induction ps with
 | nil => simp [tot]
 | cons p ps ih =>
  have := h p (by simp);have := ih (fun q hq => h q (by simp [hq]));simp only [tot, List.length_cons]; omega
theorem tot_take_le {ps : List Pc} (h : Nn ps) (k : Nat) : tot (ps.take k) ≤ tot ps := by
 have e := tot_append (ps.take k) (ps.drop k);rw [List.take_append_drop] at e;have := tot_nonneg (ps := ps.drop k) (fun p hp => h p (List.mem_of_mem_drop hp));omega
theorem Nn.take {ps : List Pc} (h : Nn ps) (k : Nat) : Nn (ps.take k) := fun p hp => h p (List.mem_of_mem_take hp)
theorem fref_many {ps : List Pc} (h : 100 < ps.length) : fref ps = 7 := if_pos h
theorem fref_bad {ps : List Pc} (h : ps.length ≤ 100) (hb : badL ps ≠ 0) : fref ps = badL ps := by unfold fref; rw [if_neg (by omega), if_neg hb]
theorem fref_size {ps : List Pc} (h : ps.length ≤ 100) (hb : badL ps = 0) (ht : 1000000000 < tot ps) : fref ps = 8 := by unfold fref; rw [if_neg (by omega), if_pos hb, if_pos ht]
theorem fref_ok {ps : List Pc} (h : ps.length ≤ 100) (hb : badL ps = 0) (ht : tot ps ≤ 1000000000) : fref ps = 0 := by unfold fref; rw [if_neg (by omega), if_pos hb, if_neg (by omega)]
theorem fref_in {ps : List Pc} (h : fref ps = 0) : ps.length ≤ 100 ∧ Fine ps ∧ tot ps ≤ 1000000000 := by
 unfold fref at h
 split at h
 ·omega
 ·split at h
  ·split at h
   ·omega
   ·exact ⟨by omega, fine_of (by assumption), by omega⟩
  ·exact absurd h (by assumption)
theorem of_fref {ps : List Pc} (h1 : ps.length ≤ 100) (h2 : Fine ps) (h3 : tot ps ≤ 1000000000) : fref ps = 0 := fref_ok h1 (of_fine h2) h3
theorem frefs_one (f : List Pc) : frefs [f] = fref f := by
 simp only [frefs]; split
 ·rename_i h; exact h.symm
 ·rfl
theorem frefs_two (f g : List Pc) : frefs [f, g] = if fref f = 0 then fref g else fref f := by
 have := frefs_one g;simp only [frefs] at this ⊢;rw [this]
theorem frefs_append_ok {a b : List (List Pc)} (h : ∀ f ∈ a, fref f = 0) : frefs (a ++ b) = frefs b := by
 induction a with
 | nil => rfl
 | cons p a ih =>
  simp only [List.cons_append, frefs]; rw [if_pos (h p (by simp))]; exact ih (fun q hq => h q (by simp [hq]))
theorem frefs_ok {a : List (List Pc)} (h : ∀ f ∈ a, fref f = 0) : frefs a = 0 := by
 have := frefs_append_ok (b := []) h;rwa [List.append_nil] at this
theorem snoc_ind {α : Type} {C : List α → Prop} (h0 : C []) (h1 : ∀ a x, C a → C (a ++ [x])) (l : List α) : C l := by
 have : ∀ l : List α, C l.reverse := by
  intro l
  induction l with
  | nil => exact h0
  | cons x l ih => rw [List.reverse_cons]; exact h1 _ _ ih
 have h := this l.reverse;rwa [List.reverse_reverse] at h
theorem isLabel_any (s : ByteArray) (w : World) (hs : s.size ≤ maxLen) :
  CR 226 #[.string s] w (.bool (lab s)) := by
 unfold maxLen at hs
 by_cases h1 : s.size < 1
 ·rw [lab_short h1]
  go_enter Tryz.func226, Tryz.ntmps226
  go_wp2;go_ret;exact ⟨rfl, brf⟩
 by_cases h2 : 16 < s.size
 ·rw [lab_long h2]
  go_enter Tryz.func226, Tryz.ntmps226
  go_wp2;go_ret;exact ⟨rfl, brf⟩
 go_enter Tryz.func226, Tryz.ntmps226
 go_wp2
 go_loopw [3] (fun _ wr => ∃ pos : Nat, pos ≤ s.size ∧ wr = w.iter s pos ∧ ∀ k (h : k < s.size), k < pos → okAt (s[k]'h) k = true) (fun _ wr => s.size - wr.iterPos w.heap.size)
 case atStart => exact ⟨0, Nat.zero_le _, rfl, fun k _ h => absurd h (Nat.not_lt_zero _)⟩
 case round =>
  obtain ⟨pos, hpos, rfl, hgood⟩ := hrel;have HG := hdd hgood;clear hgood
  by_cases hp : pos < s.size
  ·by_cases ha : (s[pos]'hp).toNat < 128
   ·have hnx : ∀ ty, (Instr.next (.pointer (some ⟨w.heap.size, 0, none⟩)) true ty).run Tryz.prog (w.iter s pos) = _ := fun ty => run_next_ascii w s pos ty hp ha
    obtain ⟨c, hc⟩ : ∃ c : UInt8, c = s[pos]'hp := ⟨_, rfl⟩;have HC := hdd hc;rw [← hc] at hnx ha;clear hc
    by_cases hl : 97 ≤ c.toNat ∧ c.toNat ≤ 122
    ·obtain ⟨l1, l2⟩ := hl
     go_wp2
     go_roundw
     case rel => exact ⟨pos + 1, by omega, rfl, good_succ hp HG.out (by rw [← HC.out]; exact okAt_letter l1 l2)⟩
     case measure => simp; omega
    ·by_cases h0 : pos = 0
     ·have HB : Hid (lab s = false) := lab_bad hp (by rw [← HC.out]; exact okAt_zero h0 (by omega))
      have h00 : ((pos : Int) == 0) = true := by simp; omega
      clear h0
      rcases (show c.toNat < 48 ∨ (48 ≤ c.toNat ∧ c.toNat ≤ 57) ∨ (57 < c.toNat ∧ c.toNat < 97) ∨ 122 < c.toNat by omega) with d | ⟨d0, d⟩ | ⟨d0, d⟩ | d
      ·have l1 : decide ((97 : Int) ≤ (c.toNat : Int)) = false := by simp; omega
       have l3 : decide ((48 : Int) ≤ (c.toNat : Int)) = false := by simp; omega
       go_wp2;go_ret;exact ⟨ret_bool HB.out.symm, (brf).alloc (Nat.le_refl _) _⟩
      ·have l1 : decide ((97 : Int) ≤ (c.toNat : Int)) = false := by simp; omega
       have l3 : decide ((48 : Int) ≤ (c.toNat : Int)) = true := by simp; omega
       have l4 : decide ((c.toNat : Int) ≤ 57) = true := by simp; omega
       go_wp2;go_ret;exact ⟨ret_bool HB.out.symm, (brf).alloc (Nat.le_refl _) _⟩
      ·have l1 : decide ((97 : Int) ≤ (c.toNat : Int)) = false := by simp; omega
       have l3 : decide ((48 : Int) ≤ (c.toNat : Int)) = true := by simp; omega
       have l4 : decide ((c.toNat : Int) ≤ 57) = false := by simp; omega
       go_wp2;go_ret;exact ⟨ret_bool HB.out.symm, (brf).alloc (Nat.le_refl _) _⟩
      ·have l1 : decide ((97 : Int) ≤ (c.toNat : Int)) = true := by simp; omega
       have l2 : decide ((c.toNat : Int) ≤ 122) = false := by simp; omega
       have l3 : decide ((48 : Int) ≤ (c.toNat : Int)) = true := by simp; omega
       have l4 : decide ((c.toNat : Int) ≤ 57) = false := by simp; omega
       go_wp2;go_ret;exact ⟨ret_bool HB.out.symm, (brf).alloc (Nat.le_refl _) _⟩
     ·have h00 : ((pos : Int) == 0) = false := by simp; omega
      have h01 : 0 < pos := by omega
      clear h0
      rcases (show c.toNat < 48 ∨ (48 ≤ c.toNat ∧ c.toNat ≤ 57) ∨ (57 < c.toNat ∧ c.toNat < 97) ∨ 122 < c.toNat by omega) with d | ⟨d0, d⟩ | ⟨d0, d⟩ | d
      ·have l1 : decide ((97 : Int) ≤ (c.toNat : Int)) = false := by simp; omega
       have l3 : decide ((48 : Int) ≤ (c.toNat : Int)) = false := by simp; omega
       go_wp2;go_ret;exact ⟨ret_bool (lab_bad hp (by rw [← HC.out]; exact okAt_no (by omega) (by omega))).symm, (brf).alloc (Nat.le_refl _) _⟩
      ·have l1 : decide ((97 : Int) ≤ (c.toNat : Int)) = false := by simp; omega
       have l3 : decide ((48 : Int) ≤ (c.toNat : Int)) = true := by simp; omega
       have l4 : decide ((c.toNat : Int) ≤ 57) = true := by simp; omega
       go_wp2
       go_roundw
       case rel => exact ⟨pos + 1, by omega, rfl, good_succ hp HG.out (by rw [← HC.out]; exact okAt_digit h01 d0 d)⟩
       case measure => simp; omega
      ·have l1 : decide ((97 : Int) ≤ (c.toNat : Int)) = false := by simp; omega
       have l3 : decide ((48 : Int) ≤ (c.toNat : Int)) = true := by simp; omega
       have l4 : decide ((c.toNat : Int) ≤ 57) = false := by simp; omega
       go_wp2;go_ret;exact ⟨ret_bool (lab_bad hp (by rw [← HC.out]; exact okAt_no (by omega) (by omega))).symm, (brf).alloc (Nat.le_refl _) _⟩
      ·have l1 : decide ((97 : Int) ≤ (c.toNat : Int)) = true := by simp; omega
       have l2 : decide ((c.toNat : Int) ≤ 122) = false := by simp; omega
       have l3 : decide ((48 : Int) ≤ (c.toNat : Int)) = true := by simp; omega
       have l4 : decide ((c.toNat : Int) ≤ 57) = false := by simp; omega
       go_wp2;go_ret;exact ⟨ret_bool (lab_bad hp (by rw [← HC.out]; exact okAt_no (by omega) (by omega))).symm, (brf).alloc (Nat.le_refl _) _⟩
   ·have hnx : ∀ ty, (Instr.next (.pointer (some ⟨w.heap.size, 0, none⟩)) true ty).run Tryz.prog (w.iter s pos) = _ := fun ty => run_next_any w s pos ty hp
    have HB : Hid (lab s = false) := lab_bad hp (okAt_no (by omega) (by omega));have hd := (decode_high s pos hp (by omega)).1;generalize (Utf8.decode s pos).1 = c at *;generalize (Utf8.decode s pos).2 = d at *;have c1 : decide ((97 : Int) ≤ (c : Int)) = true := by simp; omega
    have c2 : decide ((c : Int) ≤ 122) = false := by simp; omega
    have c3 : decide ((48 : Int) ≤ (c : Int)) = true := by simp; omega
    have c4 : decide ((c : Int) ≤ 57) = false := by simp; omega
    by_cases h0 : pos = 0
    ·have h00 : ((pos : Int) == 0) = true := by simp; omega
     clear h0;go_wp2;go_ret;exact ⟨ret_bool HB.out.symm, (brf).alloc (Nat.le_refl _) _⟩
    ·have h00 : ((pos : Int) == 0) = false := by simp; omega
     clear h0;go_wp2;go_ret;exact ⟨ret_bool HB.out.symm, (brf).alloc (Nat.le_refl _) _⟩
  ·have hnx : ∀ ty, (Instr.next (.pointer (some ⟨w.heap.size, 0, none⟩)) true ty).run Tryz.prog (w.iter s pos) = _ := fun ty => run_next_end w s pos ty hp
   go_wp2;go_ret;exact ⟨ret_bool (lab_good (by omega) (by omega) (fun k h => HG.out k h (by omega))).symm, (brf).alloc (Nat.le_refl _) _⟩
end Go.Proofs.YtcajifelbldjnaaGreatDoor.F
