/- What is parsed of a text: no Go in sight. A line is parsed as what it was printed of; what is parsed was printed so; with one bit turned it is no line. -/
import Derived.Test.YtiafppmpjmpdmaaDoorCA
namespace Go.Proofs.YtiafppmpjmpdmaaDoor

def kindR (w : List UInt8) : Nat :=
  if w = firstW 1 then 1 else if w = firstW 2 then 2 else if w = firstW 3 then 3 else if w = firstW 4 then 4 else if w = firstW 5 then 5 else if w = firstW 6 then 6 else if w = firstW 7 then 7 else if w = firstW 8 then 8 else 0
theorem kind_only {w : List UInt8} (h : kindR w ≠ 0) : w = firstW (kindR w) ∧ 1 ≤ kindR w ∧ kindR w ≤ 8 := by
  revert h
  unfold kindR
  repeat' split
  all_goals first
    | (intro h; exact absurd rfl h)
    | (intro _; exact ⟨by assumption, by decide, by decide⟩)
theorem kind_back {k : Nat} (h1 : 1 ≤ k) (h8 : k ≤ 8) : kindR (firstW k) = k := by
  rcases (show k = 1 ∨ k = 2 ∨ k = 3 ∨ k = 4 ∨ k = 5 ∨ k = 6 ∨ k = 7 ∨ k = 8 by omega) with e | e | e | e | e | e | e | e
  all_goals (subst e; decide)
theorem kind_le (w : List UInt8) : kindR w ≤ 8 := by
  by_cases h : kindR w = 0
  · omega
  · exact (kind_only h).2.2

def pR (k i : Nat) (r : Rd) : Rd := if letW k i = [] then r else numR 10 (takeR (32 :: letW k i) r)
def pN (k i : Nat) (r : Rd) : Int := if letW k i = [] then 0 else (numV 10 (takeR (32 :: letW k i) r).1).1
def sR (k : Nat) (r : Rd) : Nat → Rd
  | 0 => r
  | i + 1 => pR k i (sR k r i)
def sN (k : Nat) (r : Rd) (i : Nat) : Int := pN k i (sR k r i)
def doneR (r : Rd) : Bool := !r.2 && (r.1 == [])
/-- What is left ahead of the first word. -/
def aheadR (l : List UInt8) : Rd := takeR [32] (numR 10 (takeR [78] (l, false)))
def bN (l : List UInt8) : Int := (numV 10 (takeR [78] (l, false)).1).1
def bK (l : List UInt8) : Nat := kindR (wordR (aheadR l))
def bR (l : List UInt8) : Rd := restR (aheadR l)
def bX (l : List UInt8) (i : Nat) : Int := sN (bK l) (bR l) i
def bOk (l : List UInt8) : Bool := doneR (sR (bK l) (bR l) 4) && decide (bK l ≠ 0)
def sV (l : List UInt8) : Int := (numV 3 l).1
def sOk (l : List UInt8) : Bool := doneR (numR 3 (l, false)) && decide (0 ≤ sV l)
def pA (l : List UInt8) : List UInt8 := (Lib.cut l [42]).1
def pB (l : List UInt8) : List UInt8 := (Lib.cut l [42]).2.1
/-- What code.Parse says of a text. -/
def parE (l : List UInt8) : Int :=
  if (bOk (pA l) && sOk (pB l)) = false then 1 else if sV (pB l) ≠ sumL (pA l) then 14 else refuC (bN (pA l)) (bK (pA l)) (bX (pA l) 0) (bX (pA l) 1) (bX (pA l) 2) (bX (pA l) 3)

theorem part_only {k i : Nat} {r : Rd} (h : (pR k i r).2 = false) : r.2 = false ∧ r.1 = partL k i (pN k i r) ++ (pR k i r).1 := by
  unfold pR pN partL at *
  by_cases e : letW k i = []
  · simp only [e, if_true] at h ⊢
    exact ⟨h, rfl⟩
  · simp only [e, if_false] at h ⊢
    obtain ⟨h1, h2⟩ := num_only h
    obtain ⟨h3, h4⟩ := take_only h1
    refine ⟨h3, ?_⟩
    rw [List.append_assoc, ← h2]; exact h4
theorem done_iff {r : Rd} : doneR r = true ↔ r.2 = false ∧ r.1 = [] := by simp [doneR]
theorem body_only {l : List UInt8} (h : bOk l = true) : l = bodyL (bN l) (bK l) (bX l 0) (bX l 1) (bX l 2) (bX l 3) ∧ 1 ≤ bK l ∧ bK l ≤ 8 := by
  simp only [bOk, Bool.and_eq_true, decide_eq_true_eq] at h
  obtain ⟨hd, hk⟩ := h
  obtain ⟨hf, hn⟩ := done_iff.1 hd
  obtain ⟨hw, k1, k8⟩ := kind_only hk
  obtain ⟨g3, p3⟩ := part_only (k := bK l) (i := 3) (r := sR (bK l) (bR l) 3) hf
  obtain ⟨g2, p2⟩ := part_only (k := bK l) (i := 2) (r := sR (bK l) (bR l) 2) g3
  obtain ⟨g1, p1⟩ := part_only (k := bK l) (i := 1) (r := sR (bK l) (bR l) 1) g2
  obtain ⟨g0, p0⟩ := part_only (k := bK l) (i := 0) (r := sR (bK l) (bR l) 0) g1
  have e4 : (pR (bK l) 3 (sR (bK l) (bR l) 3)).1 = [] := hn
  have e3 : (pR (bK l) 2 (sR (bK l) (bR l) 2)) = sR (bK l) (bR l) 3 := rfl
  have e2 : (pR (bK l) 1 (sR (bK l) (bR l) 1)) = sR (bK l) (bR l) 2 := rfl
  have e1 : (pR (bK l) 0 (sR (bK l) (bR l) 0)) = sR (bK l) (bR l) 1 := rfl
  rw [e4, List.append_nil] at p3
  rw [e3, p3] at p2
  rw [e2, p2] at p1
  rw [e1, p1] at p0
  have q0 : (sR (bK l) (bR l) 0) = bR l := rfl
  have ga : (aheadR l).2 = false := g0
  have pw := word_parts (aheadR l)
  have pr : (restR (aheadR l)).1 = (sR (bK l) (bR l) 0).1 := rfl
  rw [pr, p0] at pw
  obtain ⟨t1, t2⟩ := take_only ga
  obtain ⟨u1, u2⟩ := num_only t1
  obtain ⟨v1, v2⟩ := take_only u1
  have eN : (numV 10 (takeR [78] (l, false)).1).1 = bN l := rfl
  have eA : (takeR [32] (numR 10 (takeR [78] (l, false)))) = aheadR l := rfl
  rw [eA, pw] at t2
  rw [t2, eN] at u2
  rw [u2] at v2
  refine ⟨?_, k1, k8⟩
  have hl : l = [78] ++ (Lib.itoa (bN l) ++ ([32] ++ (wordR (aheadR l) ++ (partL (bK l) 0 (pN (bK l) 0 (sR (bK l) (bR l) 0)) ++ (partL (bK l) 1 (pN (bK l) 1 (sR (bK l) (bR l) 1)) ++ (partL (bK l) 2 (pN (bK l) 2 (sR (bK l) (bR l) 2)) ++ partL (bK l) 3 (pN (bK l) 3 (sR (bK l) (bR l) 3)))))))) := v2
  have hw2 : wordR (aheadR l) = firstW (bK l) := hw
  rw [hw2] at hl
  rw [show bodyL (bN l) (bK l) (bX l 0) (bX l 1) (bX l 2) (bX l 3) = [78] ++ Lib.itoa (bN l) ++ [32] ++ firstW (bK l) ++ partL (bK l) 0 (bX l 0) ++ partL (bK l) 1 (bX l 1) ++ partL (bK l) 2 (bX l 2) ++ partL (bK l) 3 (bX l 3) from rfl]
  simp only [List.append_assoc]
  exact hl

/-! ### back -/
theorem nd_part {k i : Nat} {n : Int} {r : List UInt8} (h : ND r) : ND (partL k i n ++ r) := by
  unfold partL
  split
  · exact h
  · exact nd_cons (by decide)
theorem part_back {k i : Nat} {n : Int} {r : List UInt8} {f : Bool} (hr : ND r) (hn : digN n ≤ 10) (h0 : letW k i = [] → n = 0) : pR k i (partL k i n ++ r, f) = (r, f) ∧ pN k i (partL k i n ++ r, f) = n := by
  unfold pR pN partL
  by_cases e : letW k i = []
  · simp only [e, if_true]
    exact ⟨rfl, (h0 e).symm⟩
  · simp only [e, if_false]
    rw [List.append_assoc, take_back]
    exact ⟨numR_back hn hr f, by rw [(num_back hn hr).1]⟩
theorem first_blank : ∀ k, (32 : UInt8) ∉ firstW k := by
  intro k
  unfold firstW
  split <;> decide
/-- What follows a first word: nothing, or a blank. -/
def NB (r : List UInt8) : Prop := r = [] ∨ ∃ t, r = 32 :: t
theorem nb_part {k i : Nat} {n : Int} {r : List UInt8} (h : NB r) : NB (partL k i n ++ r) := by
  unfold partL
  split
  · exact h
  · exact .inr ⟨_, rfl⟩
theorem word_back {k : Nat} {r : List UInt8} {f : Bool} (h : NB r) : wordR (firstW k ++ r, f) = firstW k ∧ restR (firstW k ++ r, f) = (r, f) := by
  have hw : wordR (firstW k ++ r, f) = firstW k := by
    unfold wordR
    rcases h with h | ⟨t, h⟩
    · subst h
      rw [List.append_nil, cut_none (first_blank k)]
    · subst h
      rw [cut_some (first_blank k)]
  refine ⟨hw, ?_⟩
  unfold restR
  rw [hw]; simp
theorem body_back {n : Int} {k : Nat} {x y z v : Int} (hn : digN n ≤ 10) (h1 : 1 ≤ k) (h8 : k ≤ 8) (hx : digN x ≤ 10) (hy : digN y ≤ 10) (hz : digN z ≤ 10) (hv : digN v ≤ 10) (hu : ∀ i, i < 4 → letW k i = [] → nm x y z v i = 0) :
    bN (bodyL n k x y z v) = n ∧ bK (bodyL n k x y z v) = k ∧ bX (bodyL n k x y z v) 0 = x ∧ bX (bodyL n k x y z v) 1 = y ∧ bX (bodyL n k x y z v) 2 = z ∧ bX (bodyL n k x y z v) 3 = v ∧ bOk (bodyL n k x y z v) = true := by
  have hl : bodyL n k x y z v = [78] ++ (Lib.itoa n ++ ([32] ++ (firstW k ++ (partL k 0 x ++ (partL k 1 y ++ (partL k 2 z ++ (partL k 3 v ++ []))))))) := by
    rw [show bodyL n k x y z v = [78] ++ Lib.itoa n ++ [32] ++ firstW k ++ partL k 0 x ++ partL k 1 y ++ partL k 2 z ++ partL k 3 v from rfl]
    simp only [List.append_assoc, List.append_nil]
  obtain ⟨a3, b3⟩ := part_back (k := k) (i := 3) (n := v) (r := []) (f := false) nd_nil hv (hu 3 (by decide))
  obtain ⟨a2, b2⟩ := part_back (k := k) (i := 2) (n := z) (r := partL k 3 v ++ []) (f := false) (nd_part nd_nil) hz (hu 2 (by decide))
  obtain ⟨a1, b1⟩ := part_back (k := k) (i := 1) (n := y) (r := partL k 2 z ++ (partL k 3 v ++ [])) (f := false) (nd_part (nd_part nd_nil)) hy (hu 1 (by decide))
  obtain ⟨a0, b0⟩ := part_back (k := k) (i := 0) (n := x) (r := partL k 1 y ++ (partL k 2 z ++ (partL k 3 v ++ []))) (f := false) (nd_part (nd_part (nd_part nd_nil))) hx (hu 0 (by decide))
  have hnd : ND ([32] ++ (firstW k ++ (partL k 0 x ++ (partL k 1 y ++ (partL k 2 z ++ (partL k 3 v ++ [])))))) := nd_cons (by decide)
  obtain ⟨c1, c2⟩ := word_back (k := k) (r := partL k 0 x ++ (partL k 1 y ++ (partL k 2 z ++ (partL k 3 v ++ [])))) (f := false) (nb_part (nb_part (nb_part (nb_part (.inl rfl)))))
  have eA : aheadR (bodyL n k x y z v) = (firstW k ++ (partL k 0 x ++ (partL k 1 y ++ (partL k 2 z ++ (partL k 3 v ++ [])))), false) := by
    unfold aheadR
    rw [hl, take_back, numR_back hn hnd, take_back]
  have eN : bN (bodyL n k x y z v) = n := by
    unfold bN
    rw [hl, take_back, (num_back hn hnd).1]
  have eK : bK (bodyL n k x y z v) = k := by
    unfold bK
    rw [eA, c1]; exact kind_back h1 h8
  have eR : bR (bodyL n k x y z v) = (partL k 0 x ++ (partL k 1 y ++ (partL k 2 z ++ (partL k 3 v ++ []))), false) := by
    unfold bR
    rw [eA, c2]
  have s1 : sR k (partL k 0 x ++ (partL k 1 y ++ (partL k 2 z ++ (partL k 3 v ++ []))), false) 1 = (partL k 1 y ++ (partL k 2 z ++ (partL k 3 v ++ [])), false) := a0
  have s2 : sR k (partL k 0 x ++ (partL k 1 y ++ (partL k 2 z ++ (partL k 3 v ++ []))), false) 2 = (partL k 2 z ++ (partL k 3 v ++ []), false) := by
    show pR k 1 (sR k _ 1) = _
    rw [s1]; exact a1
  have s3 : sR k (partL k 0 x ++ (partL k 1 y ++ (partL k 2 z ++ (partL k 3 v ++ []))), false) 3 = (partL k 3 v ++ [], false) := by
    show pR k 2 (sR k _ 2) = _
    rw [s2]; exact a2
  have s4 : sR k (partL k 0 x ++ (partL k 1 y ++ (partL k 2 z ++ (partL k 3 v ++ []))), false) 4 = ([], false) := by
    show pR k 3 (sR k _ 3) = _
    rw [s3]; exact a3
  refine ⟨eN, eK, ?_, ?_, ?_, ?_, ?_⟩
  · unfold bX sN; rw [eK, eR]; exact b0
  · unfold bX sN; rw [eK, eR, s1]; exact b1
  · unfold bX sN; rw [eK, eR, s2]; exact b2
  · unfold bX sN; rw [eK, eR, s3]; exact b3
  · unfold bOk; rw [eK, eR, s4]
    simp only [Bool.and_eq_true, decide_eq_true_eq]
    exact ⟨rfl, by omega⟩

/-! ### the signs of a line -/
def AB : List UInt8 := [32, 45, 48, 49, 50, 51, 52, 53, 54, 55, 56, 57, 71, 77, 78, 80, 83, 88, 89, 90]
theorem ab_itoa (n : Int) : ∀ b ∈ Lib.itoa n, b ∈ AB := by
  have g : ∀ b, isDig b = true → b ∈ AB := by
    intro b h
    unfold isDig at h
    rw [List.contains_iff_mem] at h
    exact (by decide : ∀ b ∈ ([48, 49, 50, 51, 52, 53, 54, 55, 56, 57] : List UInt8), b ∈ AB) b h
  intro b hb
  by_cases h : n < 0
  · rw [itoa_neg h] at hb
    rcases List.mem_cons.1 hb with e | hb
    · rw [e]; decide
    · exact g b ((dec_facts _).1 b hb)
  · rw [itoa_pos h] at hb
    exact g b ((dec_facts _).1 b hb)
theorem ab_first (k : Nat) : ∀ b ∈ firstW k, b ∈ AB := by
  unfold firstW
  split <;> decide
theorem ab_let (k i : Nat) : ∀ b ∈ letW k i, b ∈ AB := by
  unfold letW
  split <;> decide
theorem ab_part (k i : Nat) (n : Int) : ∀ b ∈ partL k i n, b ∈ AB := by
  unfold partL
  split
  · intro b hb; cases hb
  · intro b hb
    rcases List.mem_append.1 hb with h | h
    · rcases List.mem_cons.1 h with e | h
      · rw [e]; decide
      · exact ab_let k i b h
    · exact ab_itoa n b h
theorem ab_body (n : Int) (k : Nat) (x y z v : Int) : ∀ b ∈ bodyL n k x y z v, b ∈ AB := by
  intro b hb
  rw [show bodyL n k x y z v = [78] ++ Lib.itoa n ++ [32] ++ firstW k ++ partL k 0 x ++ partL k 1 y ++ partL k 2 z ++ partL k 3 v from rfl] at hb
  simp only [List.mem_append] at hb
  rcases hb with ((((((h | h) | h) | h) | h) | h) | h) | h
  · rw [List.mem_singleton.1 h]; decide
  · exact ab_itoa n b h
  · rw [List.mem_singleton.1 h]; decide
  · exact ab_first k b h
  · exact ab_part k 0 x b h
  · exact ab_part k 1 y b h
  · exact ab_part k 2 z b h
  · exact ab_part k 3 v b h
theorem star_body (n : Int) (k : Nat) (x y z v : Int) : (42 : UInt8) ∉ bodyL n k x y z v := fun h => by
  have := ab_body n k x y z v 42 h
  revert this; decide
theorem star_itoa (n : Int) : (42 : UInt8) ∉ Lib.itoa n := fun h => by
  have := ab_itoa n 42 h
  revert this; decide
theorem line_eq (n : Int) (k : Nat) (x y z v : Int) : lineL n k x y z v = bodyL n k x y z v ++ 42 :: Lib.itoa (sumL (bodyL n k x y z v)) := by
  unfold lineL; simp
theorem feed_line (n : Int) (k : Nat) (x y z v : Int) : (10 : UInt8) ∉ lineL n k x y z v := fun h => by
  rw [line_eq] at h
  rcases List.mem_append.1 h with h | h
  · have := ab_body n k x y z v 10 h
    revert this; decide
  · rcases List.mem_cons.1 h with e | h
    · revert e; decide
    · have := ab_itoa _ 10 h
      revert this; decide

/-! ### Parse, both ways -/
theorem sum_in (l : List UInt8) : 0 ≤ sumL l ∧ sumL l ≤ 255 := by
  have := (xorL l).toNat_lt
  unfold sumL; omega
theorem sum_only {l : List UInt8} (h : sOk l = true) : l = Lib.itoa (sV l) := by
  simp only [sOk, Bool.and_eq_true] at h
  obtain ⟨hf, hn⟩ := done_iff.1 h.1
  obtain ⟨_, e⟩ := num_only hf
  rw [hn, List.append_nil] at e
  exact e
theorem sum_back {s : Int} (h0 : 0 ≤ s) (h1 : s ≤ 255) : sV (Lib.itoa s) = s ∧ sOk (Lib.itoa s) = true := by
  have hd : digN s ≤ 3 := digN_le (m := 2) (by omega)
  have e := num_back (m := 3) hd nd_nil
  have r := numR_back (m := 3) hd nd_nil false
  rw [List.append_nil] at e r
  have es : sV (Lib.itoa s) = s := by unfold sV; rw [e.1]
  refine ⟨es, ?_⟩
  unfold sOk
  rw [es, r]
  simp only [Bool.and_eq_true, decide_eq_true_eq]
  exact ⟨rfl, h0⟩
theorem itoa_ne (s : Int) : Lib.itoa s ≠ [] := by
  by_cases h : s < 0
  · rw [itoa_neg h]; simp
  · rw [itoa_pos h]; exact (dec_facts _).2.1
/-- What is parsed was printed so. -/
theorem parse_only {l : List UInt8} (h : parE l = 0) : refuC (bN (pA l)) (bK (pA l)) (bX (pA l) 0) (bX (pA l) 1) (bX (pA l) 2) (bX (pA l) 3) = 0 ∧ l = lineL (bN (pA l)) (bK (pA l)) (bX (pA l) 0) (bX (pA l) 1) (bX (pA l) 2) (bX (pA l) 3) := by
  unfold parE at h
  split at h
  · omega
  · split at h
    · omega
    · rename_i h1 h2
      refine ⟨h, ?_⟩
      simp only [Bool.not_eq_false, Bool.and_eq_true] at h1
      have hs : sV (pB l) = sumL (pA l) := Classical.not_not.1 h2
      have e1 := (body_only h1.1).1
      have e2 := sum_only h1.2
      rw [hs] at e2
      rcases cut_parts (c := 42) l with ⟨_, hc⟩ | ⟨a, r, hl, _, hc⟩
      · have : pB l = [] := by unfold pB; rw [hc]
        rw [this] at e2
        exact absurd e2.symm (itoa_ne _)
      · have ha : pA l = a := by unfold pA; rw [hc]
        have hr : pB l = r := by unfold pB; rw [hc]
        rw [line_eq, ← e1, ← e2, ha, hr]
        exact hl
/-- A line is parsed as what it was printed of. -/
theorem parse_back {n : Int} {k : Nat} {x y z v : Int} (h : refuC n k x y z v = 0) : pA (lineL n k x y z v) = bodyL n k x y z v ∧ bN (bodyL n k x y z v) = n ∧ bK (bodyL n k x y z v) = k ∧ bX (bodyL n k x y z v) 0 = x ∧ bX (bodyL n k x y z v) 1 = y ∧ bX (bodyL n k x y z v) 2 = z ∧ bX (bodyL n k x y z v) 3 = v ∧ parE (lineL n k x y z v) = 0 := by
  have h' := refu_ok.1 h
  obtain ⟨⟨n0, n1⟩, ⟨k1, k8⟩, hr, hu⟩ := h'
  obtain ⟨⟨x0, x1⟩, ⟨y0, y1⟩, ⟨z0, z1⟩, ⟨v0, v1⟩⟩ := inRg_iff.1 hr
  have dn : ∀ m : Int, -9999999999 ≤ m → m ≤ 9999999999 → digN m ≤ 10 := fun m a b => digN_le (m := 9) (by omega)
  obtain ⟨eN, eK, e0, e1, e2, e3, eO⟩ := body_back (n := n) (k := k) (x := x) (y := y) (z := z) (v := v) (dn n (by omega) (by omega)) (by omega) (by omega) (dn x (by omega) (by omega)) (dn y (by omega) (by omega)) (dn z (by omega) (by omega)) (dn v (by omega) (by omega)) (by simpa using used_iff.1 hu)
  have hc : Lib.cut (lineL n k x y z v) [42] = (bodyL n k x y z v, Lib.itoa (sumL (bodyL n k x y z v)), true) := by
    rw [line_eq]; exact cut_some (star_body n k x y z v)
  have hA : pA (lineL n k x y z v) = bodyL n k x y z v := by unfold pA; rw [hc]
  have hB : pB (lineL n k x y z v) = Lib.itoa (sumL (bodyL n k x y z v)) := by unfold pB; rw [hc]
  have hs := sum_in (bodyL n k x y z v)
  have hb := sum_back hs.1 hs.2
  refine ⟨hA, eN, eK, e0, e1, e2, e3, ?_⟩
  unfold parE
  rw [hA, hB, eN, eK, e0, e1, e2, e3, eO, hb.1, hb.2, if_neg (by simp), if_neg (fun q => q rfl)]
  exact h
/-- Two lines alike are of two commands alike. -/
theorem line_inj {n n' : Int} {k k' : Nat} {x y z v x' y' z' v' : Int} (h : refuC n k x y z v = 0) (h' : refuC n' k' x' y' z' v' = 0) (e : lineL n k x y z v = lineL n' k' x' y' z' v') : n = n' ∧ k = k' ∧ x = x' ∧ y = y' ∧ z = z' ∧ v = v' := by
  obtain ⟨a0, a1, a2, a3, a4, a5, a6, _⟩ := parse_back h
  obtain ⟨b0, b1, b2, b3, b4, b5, b6, _⟩ := parse_back h'
  rw [e, b0] at a0
  rw [a0] at b1 b2 b3 b4 b5 b6
  exact ⟨a1.symm.trans b1, a2.symm.trans b2, a3.symm.trans b3, a4.symm.trans b4, a5.symm.trans b5, a6.symm.trans b6⟩

/-! ### one bit turned -/
theorem xor_fold (m : UInt8) : ∀ (t : List UInt8) (p : UInt8), t.foldl (fun a b => a ^^^ b) (p ^^^ m) = t.foldl (fun a b => a ^^^ b) p ^^^ m
  | [], _ => rfl
  | c :: t, p => by
    simp only [List.foldl_cons]
    rw [UInt8.xor_assoc, UInt8.xor_comm m c, ← UInt8.xor_assoc]
    exact xor_fold m t (p ^^^ c)
theorem xor_turn (u t : List UInt8) (a m : UInt8) : xorL (u ++ (a ^^^ m) :: t) = xorL (u ++ a :: t) ^^^ m := by
  unfold xorL
  rw [List.foldl_append, List.foldl_append, List.foldl_cons, List.foldl_cons, ← UInt8.xor_assoc]
  exact xor_fold m t _
theorem xor_same {p m : UInt8} (h : p ^^^ m = p) : m = 0 := by
  have : p ^^^ (p ^^^ m) = p ^^^ p := by rw [h]
  rw [← UInt8.xor_assoc, UInt8.xor_self, UInt8.zero_xor] at this
  exact this
def bitsB : List UInt8 := [1, 2, 4, 8, 16, 32, 64, 128]
theorem bits_ne {m : UInt8} (h : m ∈ bitsB) : m ≠ 0 := fun e => by rw [e] at h; revert h; decide
theorem bits_star : ∀ a ∈ AB, ∀ m ∈ bitsB, a ^^^ m ≠ 42 := by decide
theorem bits_from : ∀ m ∈ bitsB, (42 : UInt8) ^^^ m ≠ 42 := by decide
theorem itoa_inj {a b : Int} (h : Lib.itoa a = Lib.itoa b) : a = b := by
  have := atoi_itoa a
  rw [h, atoi_itoa] at this
  exact (Option.some.inj this).symm
theorem sum_inj {a b : List UInt8} (h : sumL a = sumL b) : xorL a = xorL b := by
  unfold sumL at h
  exact UInt8.toNat.inj (by omega)
/-- Where a sign parts two lists that have it not ahead of it, they are parted alike. -/
theorem part_same {c : UInt8} {a b r s : List UInt8} (ha : c ∉ a) (hb : c ∉ b) (h : a ++ c :: r = b ++ c :: s) : a = b ∧ r = s := by
  have h1 := cut_some (r := r) ha
  rw [h, cut_some hb] at h1
  simp only [Prod.mk.injEq, and_true] at h1
  exact ⟨h1.1.symm, h1.2.symm⟩
/-- A line with one bit turned is no line. -/
theorem flip_no {n n' : Int} {k k' : Nat} {x y z v x' y' z' v' : Int} {u t : List UInt8} {a m : UInt8} (hm : m ∈ bitsB) (h1 : lineL n k x y z v = u ++ a :: t) (h2 : lineL n' k' x' y' z' v' = u ++ (a ^^^ m) :: t) : False := by
  rw [line_eq] at h1 h2
  have s1 := star_body n k x y z v
  have s2 := star_body n' k' x' y' z' v'
  have hab := ab_body n k x y z v
  have i1 := star_itoa (sumL (bodyL n k x y z v))
  have iab := ab_itoa (sumL (bodyL n k x y z v))
  generalize hB : bodyL n k x y z v = B at *
  generalize hC : bodyL n' k' x' y' z' v' = C at *
  have star : ∀ p q : List UInt8, B = u → a = 42 → t = Lib.itoa (sumL B) → False := by
    intro p q e1 e2 e3
    have hmem : (42 : UInt8) ∈ u ++ (a ^^^ m) :: t := by rw [← h2]; simp
    rw [List.mem_append, List.mem_cons] at hmem
    rcases hmem with h | h | h
    · rw [← e1] at h; exact s1 h
    · rw [e2] at h; exact bits_from m hm h.symm
    · rw [e3] at h; exact i1 h
  rcases List.append_eq_append_iff.1 h1 with ⟨as, e1, e2⟩ | ⟨bs, e1, e2⟩
  · -- u = B ++ as
    cases as with
    | nil =>
      simp only [List.append_nil, List.nil_append, List.cons.injEq] at e1 e2
      exact star [] [] e1.symm e2.1.symm e2.2.symm
    | cons b bs =>
      simp only [List.cons_append, List.cons.injEq] at e2
      obtain ⟨e3, e4⟩ := e2
      subst e3
      rw [e1] at h2
      have h3 : C ++ 42 :: Lib.itoa (sumL C) = B ++ 42 :: (bs ++ (a ^^^ m) :: t) := by rw [h2]; simp
      obtain ⟨q1, q2⟩ := part_same s2 s1 h3
      rw [q1, e4] at q2
      have q3 := List.append_cancel_left q2
      simp only [List.cons.injEq, and_true] at q3
      exact bits_ne hm (xor_same q3.symm)
  · -- B = u ++ bs
    cases bs with
    | nil =>
      simp only [List.append_nil, List.nil_append, List.cons.injEq] at e1 e2
      exact star [] [] e1 e2.1 e2.2
    | cons b bs =>
      simp only [List.cons_append, List.cons.injEq] at e2
      obtain ⟨e3, e4⟩ := e2
      subst e3
      have ha : a ∈ AB := hab a (by rw [e1]; simp)
      have hu : (42 : UInt8) ∉ u ++ (a ^^^ m) :: bs := fun h => by
        rw [List.mem_append, List.mem_cons] at h
        rcases h with h | h | h
        · exact s1 (by rw [e1]; simp [h])
        · exact bits_star a ha m hm h.symm
        · exact s1 (by rw [e1]; simp [h])
      have h3 : C ++ 42 :: Lib.itoa (sumL C) = (u ++ (a ^^^ m) :: bs) ++ 42 :: Lib.itoa (sumL B) := by rw [h2, e4]; simp
      obtain ⟨q1, q2⟩ := part_same s2 hu h3
      have q3 := sum_inj (itoa_inj q2)
      rw [q1, xor_turn, ← e1] at q3
      exact bits_ne hm (xor_same q3)

/-! ### how long a line is -/
theorem first_len (k : Nat) : (firstW k).length ≤ 4 := by
  unfold firstW
  split <;> decide
theorem let_len (k i : Nat) : (letW k i).length ≤ 1 := by
  unfold letW
  split <;> decide
theorem part_len {k i : Nat} {n : Int} (h0 : -9999999999 ≤ n) (h1 : n ≤ 9999999999) : (partL k i n).length ≤ 13 := by
  unfold partL
  split
  · simp
  · have := let_len k i
    have := itoa_len h0 h1
    simp only [List.length_append, List.length_cons]; omega
/-- Numbers that a line may bear. -/
def Fit (n x y z v : Int) : Prop := (0 ≤ n ∧ n ≤ 100000) ∧ (-10000000 ≤ x ∧ x ≤ 10000000) ∧ (-10000000 ≤ y ∧ y ≤ 10000000) ∧ (-10000000 ≤ z ∧ z ≤ 10000000) ∧ (0 ≤ v ∧ v ≤ 1000000000)
theorem body_len {n : Int} {k : Nat} {x y z v : Int} (h : Fit n x y z v) : (bodyL n k x y z v).length ≤ 80 := by
  obtain ⟨hn, hx, hy, hz, hv⟩ := h
  have := first_len k
  have := itoa_len (n := n) (by omega) (by omega)
  have := part_len (k := k) (i := 0) (n := x) (by omega) (by omega)
  have := part_len (k := k) (i := 1) (n := y) (by omega) (by omega)
  have := part_len (k := k) (i := 2) (n := z) (by omega) (by omega)
  have := part_len (k := k) (i := 3) (n := v) (by omega) (by omega)
  rw [show bodyL n k x y z v = [78] ++ Lib.itoa n ++ [32] ++ firstW k ++ partL k 0 x ++ partL k 1 y ++ partL k 2 z ++ partL k 3 v from rfl]
  simp only [List.length_append, List.length_cons, List.length_nil]
  omega
theorem line_len {n : Int} {k : Nat} {x y z v : Int} (h : Fit n x y z v) : (lineL n k x y z v).length ≤ 100 := by
  have h1 := body_len (k := k) h
  have h2 := sum_in (bodyL n k x y z v)
  have := itoa_len (n := sumL (bodyL n k x y z v)) (by omega) (by omega)
  rw [line_eq]
  simp only [List.length_append, List.length_cons]
  omega
theorem line_long {n : Int} {k : Nat} {x y z v : Int} (h : Fit n x y z v) (h1 : 1 ≤ k) (h8 : k ≤ 8) : 7 ≤ (lineL n k x y z v).length := by
  obtain ⟨hn, _⟩ := h
  have h2 := sum_in (bodyL n k x y z v)
  have := itoa_len (n := sumL (bodyL n k x y z v)) (by omega) (by omega)
  have := itoa_len (n := n) (by omega) (by omega)
  have : 2 ≤ (firstW k).length := by
    rcases (show k = 1 ∨ k = 2 ∨ k = 3 ∨ k = 4 ∨ k = 5 ∨ k = 6 ∨ k = 7 ∨ k = 8 by omega) with e | e | e | e | e | e | e | e
    all_goals (subst e; decide)
  rw [line_eq]
  rw [show bodyL n k x y z v = [78] ++ Lib.itoa n ++ [32] ++ firstW k ++ partL k 0 x ++ partL k 1 y ++ partL k 2 z ++ partL k 3 v from rfl] at *
  simp only [List.length_append, List.length_cons, List.length_nil] at *
  omega
theorem refu_fit {n k x y z v : Int} (h : refuC n k x y z v = 0) : Fit n x y z v ∧ 1 ≤ k ∧ k ≤ 8 := by
  obtain ⟨hn, hk, hr, _⟩ := refu_ok.1 h
  obtain ⟨hx, hy, hz, hv⟩ := inRg_iff.1 hr
  exact ⟨⟨hn, hx, hy, hz, hv⟩, hk.1, hk.2⟩
end Go.Proofs.YtiafppmpjmpdmaaDoor
