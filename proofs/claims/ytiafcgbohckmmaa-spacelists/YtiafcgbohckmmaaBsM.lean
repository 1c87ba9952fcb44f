/- BoxSafe walked. -/
import Derived.Test.YtiafcgbohckmmaaRefL
import Derived.Test.YtiafcgbohckmmaaSf
import Derived.Test.YtiafcgbohckmmaaSeqJ
namespace Go.Proofs.Ytiafcgbohckmmaa
open Go.RowKit

theorem Bf.other {b b' : Nat} {a c : Bx} {w : World} (h : Bf b a w) (hn : b ≠ b') : Bf b a (put6 w b' c) := by
  obtain ⟨⟨hl, r0, r1, r2, r3, r4, r5⟩, f0, f1, f2, f3, f4, f5⟩ := h
  simp only [Nat.zero_add] at r1 r2 r3 r4 r5
  refine ⟨⟨by simpa using hl, ?_, ?_, ?_, ?_, ?_, ?_⟩, ?_, ?_, ?_, ?_, ?_, ?_⟩
  all_goals simp [go_sem, *]
def bs3V (a k m : Bx) (n : Nat) (d : Nat) (v : Value) (w : World) : Prop :=
  match d with
  | 28 => v = bv a
  | 29 => v = bv k
  | 30 => v = bv (hullB a k)
  | 31 => v = bv k
  | 32 => v = bv m
  | 33 => v = bv (hullB k m)
  | 10 => ∃ b, v = ptr b ∧ n ≤ b ∧ Bf b zB w
  | 11 => ∃ b, v = ptr b ∧ n ≤ b ∧ Bf b zB w
  | _ => True
theorem bs3V_mono (a k m : Bx) (n : Nat) (d : Nat) (v : Value) (w w' : World) (h : bs3V a k m n d v w) (hb : Below w.heap.size w w') : bs3V a k m n d v w' := by
  unfold bs3V at h ⊢
  split <;> simp only [] at h <;> first | exact h | (obtain ⟨b, h1, h2, h3⟩ := h; exact ⟨b, h1, h2, h3.later hb⟩)
def bs10V (ao : Option Addr) (n cap B b off k : Nat) (hz lz : Int) (d : Nat) (v : Value) (_w : World) : Prop :=
  match d with
  | 42 => v = .slice ao n cap
  | 43 => v = .int .i64 (k : Int)
  | 44 => v = .pointer (some ⟨b, off + k * 6, none⟩)
  | 45 => v = .pointer (some ⟨b, off + k * 6 + 3, none⟩)
  | 46 => v = .pointer (some ⟨b, off + k * 6 + 5, none⟩)
  | 47 => v = .int .i64 hz
  | 48 => v = .pointer (some ⟨B, 0, none⟩)
  | 49 => v = .pointer (some ⟨B, 2, none⟩)
  | 50 => v = .int .i64 lz
  | 51 => v = .int .i64 (hz - lz)
  | 14 => v = .int .i64 (hz - lz)
  | _ => True
/-- Has the height been a candidate? -/
def Seen (l : List Bx) (z H : Int) (n : Nat) : Prop := (0 < n ∧ H = 0) ∨ ∃ j, ∃ h : j < l.length, j + 1 < n ∧ H = (l[j]'h).hz - z
def Free (l : List Bx) (x y : Bx) (h : Int) : Prop := ∀ b ∈ l, hits x y h b = false
/-- What holds when some candidates have been tried. -/
def BsI (l : List Bx) (x y : Bx) (z H : Int) (n : Nat) (best : Int) : Prop := (best = -1 ∨ (0 ≤ best ∧ best ≤ 100000000 ∧ Free l x y best)) ∧ (Seen l z H n → best = H) ∧ (n = 0 → best = -1)
theorem seen_succ {l : List Bx} {z H : Int} {j : Nat} (hj : j < l.length) (h : Seen l z H (j + 2)) : Seen l z H (j + 1) ∨ H = (l[j]'hj).hz - z := by
  rcases h with ⟨_, h⟩ | ⟨i, hi, h1, h2⟩
  · exact .inl (.inl ⟨by omega, h⟩)
  · by_cases e : i = j
    · subst e; exact .inr h2
    · exact .inl (.inr ⟨i, hi, by omega, h2⟩)
section
variable {l : List Bx} {x y : Bx} {z H : Int} {j : Nat} {best : Int}
theorem bsi_low (hj : j < l.length) (hH : Least l x y H) (h : BsI l x y z H (j + 1) best) (hu : (l[j]'hj).hz - z < 0) : BsI l x y z H (j + 2) best := by
  refine ⟨h.1, fun hs => ?_, fun e => by omega⟩
  rcases seen_succ hj hs with e | e
  · exact h.2.1 e
  · have := hH.1; omega
theorem bsi_high (hj : j < l.length) (hH : Least l x y H) (h : BsI l x y z H (j + 1) best) (h0 : 0 ≤ best) (hu : best ≤ (l[j]'hj).hz - z) : BsI l x y z H (j + 2) best := by
  refine ⟨h.1, fun hs => ?_, fun e => by omega⟩
  rcases seen_succ hj hs with e | e
  · exact h.2.1 e
  · rcases h.1 with e2 | ⟨_, _, hf⟩
    · omega
    · by_cases c : best < H
      · obtain ⟨b, hb, hm⟩ := hH.2.2.1 best h0 c
        rw [hf b hb] at hm; cases hm
      · omega
theorem bsi_free (hj : j < l.length) (hH : Least l x y H) (h : BsI l x y z H (j + 1) best) (h0 : 0 ≤ (l[j]'hj).hz - z) (h1 : (l[j]'hj).hz - z ≤ 100000000) (hlt : best < 0 ∨ (l[j]'hj).hz - z < best) (hf : Free l x y ((l[j]'hj).hz - z)) : BsI l x y z H (j + 2) ((l[j]'hj).hz - z) := by
  refine ⟨.inr ⟨h0, h1, hf⟩, fun hs => ?_, fun e => by omega⟩
  rcases seen_succ hj hs with e | e
  · have e2 := h.2.1 e
    have := hH.1
    by_cases c : (l[j]'hj).hz - z < H
    · obtain ⟨b, hb, hm⟩ := hH.2.2.1 _ h0 c
      rw [hf b hb] at hm; cases hm
    · omega
  · exact e.symm
theorem bsi_met (hj : j < l.length) (hH : Least l x y H) (h : BsI l x y z H (j + 1) best) {b : Bx} (hb : b ∈ l) (hm : hits x y ((l[j]'hj).hz - z) b = true) : BsI l x y z H (j + 2) best := by
  refine ⟨h.1, fun hs => ?_, fun e => by omega⟩
  rcases seen_succ hj hs with e | e
  · exact h.2.1 e
  · rw [← e] at hm
    rw [hH.2.1 b hb] at hm; cases hm
theorem bsi_free0 (hf : Free l x y 0) : BsI l x y z H 1 0 := by
  refine ⟨.inr ⟨by decide, by decide, hf⟩, fun hs => ?_, fun e => by omega⟩
  rcases hs with ⟨_, h⟩ | ⟨i, hi, h1, _⟩
  · exact h.symm
  · omega
theorem bsi_met0 (hH : Least l x y H) (h : BsI l x y z H 0 best) {b : Bx} (hb : b ∈ l) (hm : hits x y 0 b = true) : BsI l x y z H 1 best := by
  refine ⟨h.1, fun hs => ?_, fun e => by omega⟩
  rcases hs with ⟨_, e⟩ | ⟨i, hi, h1, _⟩
  · rw [← e, hH.2.1 b hb] at hm; cases hm
  · omega
theorem bsi_end (hz : x.lz = z) (hH : Least l x y H) (h : BsI l x y z H (l.length + 1) best) : best = H := by
  refine h.2.1 ?_
  rcases hH.2.2.2 with e | ⟨b, hb, e⟩
  · exact .inl ⟨by omega, e⟩
  · obtain ⟨i, hi, rfl⟩ := List.getElem_of_mem hb
    exact .inr ⟨i, hi, by omega, by rw [e, hz]⟩
end
theorem firstI_neg {l : List Bx} {x : Bx} (h : firstI l x < 0) : ∀ b ∈ l, meet b x = false := by
  unfold firstI at h
  rcases idx_cases (fun b => meet b x) l with ⟨_, hf⟩ | ⟨k, hk, e, _⟩
  · exact hf
  · omega
theorem firstI_pos {l : List Bx} {x : Bx} (h : ¬ firstI l x < 0) : ∃ b ∈ l, meet b x = true := by
  unfold firstI at h
  rcases idx_cases (fun b => meet b x) l with ⟨e, _⟩ | ⟨k, hk, _, hm, _⟩
  · omega
  · exact ⟨_, List.getElem_mem hk, hm⟩
theorem free_of {l : List Bx} {x y : Bx} {h : Int} (h1 : firstI l (movB x ⟨0, 0, h⟩) < 0) (h2 : firstI l (movB y ⟨0, 0, h⟩) < 0) : Free l x y h := fun b hb => by
  unfold hits
  rw [firstI_neg h1 b hb, firstI_neg h2 b hb]; rfl
theorem met_of1 {l : List Bx} {x y : Bx} {h : Int} (h1 : ¬ firstI l (movB x ⟨0, 0, h⟩) < 0) : ∃ b ∈ l, hits x y h b = true := by
  obtain ⟨b, hb, hm⟩ := firstI_pos h1
  exact ⟨b, hb, by unfold hits; rw [hm]; rfl⟩
theorem met_of2 {l : List Bx} {x y : Bx} {h : Int} (h1 : ¬ firstI l (movB y ⟨0, 0, h⟩) < 0) : ∃ b ∈ l, hits x y h b = true := by
  obtain ⟨b, hb, hm⟩ := firstI_pos h1
  exact ⟨b, hb, by unfold hits; rw [hm, Bool.or_true]⟩
theorem BoxFirst_r (ao : Option Addr) (cap : Nat) (l : List Bx) (a : Bx) (i : Int) (hi : firstI l a = i) (w : World) (hL : Bxs w ao l) (hll : l.length ≤ 40) :
    Calls Try.prog 23 #[.slice ao l.length cap, bv a] w fun e w' => e = .returned (.int .i64 i) ∧ Below w.heap.size w w' := by
  rw [← hi]; exact BoxFirst_any ao cap l a w hL hll
set_option linter.unusedVariables false in
theorem safe_near {a : Bx} {p : Pt} {H : Int} (ha : bad1 a = 0) (h0 : 0 ≤ H) (h : bad1 (cornerB a p) = 0 ∧ bad1 (endB a p) = 0 ∧ bad1 (movB (wayX a p) ⟨0, 0, H⟩) = 0 ∧ bad1 (movB (wayY a p) ⟨0, 0, H⟩) = 0) : nearB (movB (endB a p) ⟨0, 0, H⟩) = true := by
  obtain ⟨h1, h2, h3, h4⟩ := h
  rw [bad1_iff] at ha h1 h2 h3 h4
  rw [nearB_iff]
  simp only [cornerB, endB, wayX, wayY, movB, hullB] at *
  omega
set_option linter.unusedVariables false in
theorem safe_near2 {a : Bx} {p : Pt} {H : Int} (ha : bad1 a = 0) (h0 : 0 ≤ H) (h : nearB (movB (endB a p) ⟨0, 0, H⟩) = true) : bad1 (cornerB a p) = 0 ∧ bad1 (endB a p) = 0 ∧ bad1 (movB (wayX a p) ⟨0, 0, H⟩) = 0 ∧ bad1 (movB (wayY a p) ⟨0, 0, H⟩) = 0 := by
  rw [bad1_iff, bad1_iff, bad1_iff, bad1_iff]
  rw [bad1_iff] at ha
  rw [nearB_iff] at h
  simp only [cornerB, endB, wayX, wayY, movB, hullB] at *
  omega
end Go.Proofs.Ytiafcgbohckmmaa
