/- what straightening keeps. -/
import Derived.Test.YtgelbndbkmedlaaPSG
namespace Go.Proofs.Ytgelbndbkmedlaa.S
open Go.RowKit

theorem steps_mid (z u : Pt) (Y : List Pt) : ∀ X : List Pt, stepsL (X ++ z :: u :: Y) = stepsL (X ++ [z]) ++ (z, u) :: stepsL (u :: Y)
  | [] => rfl
  | [_] => rfl
  | a :: b :: r => by
    have ih := steps_mid z u Y (b :: r)
    show (a, b) :: stepsL (b :: r ++ z :: u :: Y) = ((a, b) :: stepsL (b :: r ++ [z])) ++ (z, u) :: stepsL (u :: Y)
    rw [ih]
    rfl
theorem steps_snoc (z u : Pt) (X : List Pt) : stepsL (X ++ [z, u]) = stepsL (X ++ [z]) ++ [(z, u)] := by
  rw [steps_mid]
  rfl
theorem long_snoc (z u : Pt) (X : List Pt) : longL (X ++ [z, u]) = longL (X ++ [z]) + lenS (z, u) := by
  unfold longL
  rw [steps_snoc, sumS_append]
  simp [sumS]
theorem lenS_self (z : Pt) : lenS (z, z) = 0 := by
  unfold lenS absI
  simp only
  omega
theorem snoc_of : ∀ {l : List Pt} {z : Pt}, l.getLast? = some z → ∃ X, l = X ++ [z]
  | l, z, h => by
    obtain ⟨X, hX⟩ := List.getLast?_eq_some_iff.1 h
    exact ⟨X, hX⟩
theorem lastP_snoc (X : List Pt) (z : Pt) : lastP (X ++ [z]) = z := by
  rw [lastP_at (m := X.length) (by simp)]
  simp
theorem penP_snoc (X : List Pt) (y z : Pt) : penP (X ++ [y, z]) = y := by
  rw [penP_at (m := X.length) (by simp)]
  simp
theorem set_snoc (X : List Pt) (y z p : Pt) : (X ++ [y, z]).set ((X ++ [y, z]).length - 1) p = X ++ [y, p] := by
  have e : (X ++ [y, z]).length - 1 = X.length + 1 := by simp
  rw [e, List.set_append_right _ _ (by omega)]
  simp
/-- What holds of the points kept, of all that went by. -/
structure JI (G : Pt → Pt → Prop) (l R : List Pt) : Prop where
  hd : R.head? = l.head?
  lst : R.getLast? = l.getLast?
  mem : ∀ z ∈ R, z ∈ l
  sum : longL R = longL l
  ok : ∀ s ∈ stepsL R, G s.1 s.2
def Merge (G : Pt → Pt → Prop) : Prop := ∀ a b c, G a b → G b c → strB a b c = true → G a c ∧ lenS (a, c) = lenS (a, b) + lenS (b, c)
theorem JI.step {G : Pt → Pt → Prop} (hM : Merge G) {X R : List Pt} {z p : Pt} (h : JI G (X ++ [z]) R) (hg : G z p) : JI G (X ++ [z, p]) (stp R p) := by
  obtain ⟨Q, hQ⟩ := snoc_of (l := R) (z := z) (by rw [h.lst]; simp)
  subst hQ
  have hlen : 1 ≤ (Q ++ [z]).length := by simp
  have hhd : (X ++ [z, p]).head? = (X ++ [z]).head? := by cases X <;> rfl
  have hmem : ∀ u, u ∈ X ++ [z] → u ∈ X ++ [z, p] := fun u hu => by simp at hu ⊢; rcases hu with hu | hu <;> simp [hu]
  have hsum : longL (X ++ [z, p]) = longL (Q ++ [z]) + lenS (z, p) := by rw [long_snoc, h.sum]
  cases he : eqP (lastP (Q ++ [z])) p with
  | true =>
    rw [stp_same hlen he]
    rw [lastP_snoc, eqP_iff] at he
    subst he
    refine ⟨by rw [hhd, h.hd], by simp, fun u hu => hmem u (h.mem u hu), by rw [hsum, lenS_self, Int.add_zero], h.ok⟩
  | false =>
    have happ : JI G (X ++ [z, p]) (Q ++ [z] ++ [p]) := by
      have e : Q ++ [z] ++ [p] = Q ++ [z, p] := by simp
      rw [e]
      refine ⟨?_, by simp, ?_, ?_, ?_⟩
      · rw [hhd, ← h.hd]; cases Q <;> rfl
      · intro u hu
        simp at hu
        rcases hu with hu | hu | hu
        · exact hmem u (h.mem u (by simp [hu]))
        · simp [hu]
        · simp [hu]
      · rw [hsum, long_snoc]
      · intro s hs
        rw [steps_snoc] at hs
        rcases List.mem_append.1 hs with hs | hs
        · exact h.ok s hs
        · simp at hs; subst hs; exact hg
    rcases List.eq_nil_or_concat Q with hQ | ⟨P, y, hQ⟩
    · subst hQ
      rw [stp_one (by simp) he]
      exact happ
    · have hQ2 : Q = P ++ [y] := by rw [hQ, List.concat_eq_append]
      subst hQ2
      have e : P ++ [y] ++ [z] = P ++ [y, z] := by simp
      rw [e] at h he hsum happ ⊢
      cases hs : strB (penP (P ++ [y, z])) (lastP (P ++ [y, z])) p with
      | false => rw [stp_more he hs]; exact happ
      | true =>
        rw [stp_on (by simp) he hs, set_snoc]
        rw [penP_snoc, show lastP (P ++ [y, z]) = z from by rw [← e]; exact lastP_snoc _ _] at hs
        have hyz : G y z := h.ok (y, z) (by rw [steps_snoc]; simp)
        obtain ⟨m1, m2⟩ := hM y z p hyz hg hs
        refine ⟨?_, by simp, ?_, ?_, ?_⟩
        · rw [hhd, ← h.hd]; cases P <;> rfl
        · intro u hu
          simp at hu
          rcases hu with hu | hu | hu
          · exact hmem u (h.mem u (by simp [hu]))
          · exact hmem u (h.mem u (by simp [hu]))
          · simp [hu]
        · rw [hsum, long_snoc, long_snoc]; omega
        · intro s hs
          rw [steps_snoc] at hs
          rcases List.mem_append.1 hs with hs | hs
          · exact h.ok s (by rw [steps_snoc]; exact List.mem_append.2 (.inl hs))
          · simp at hs; subst hs; exact m1
theorem JI.fold {G : Pt → Pt → Prop} (hM : Merge G) : ∀ (r X R : List Pt) (z : Pt), JI G (X ++ [z]) R → (∀ s ∈ stepsL (X ++ z :: r), G s.1 s.2) → JI G (X ++ z :: r) (r.foldl stp R)
  | [], X, R, z, h, _ => h
  | p :: r, X, R, z, h, hs => by
    have hg : G z p := hs (z, p) (by rw [steps_mid]; simp)
    have h2 := h.step hM hg
    have e1 : X ++ [z, p] = (X ++ [z]) ++ [p] := by simp
    have e2 : X ++ z :: p :: r = (X ++ [z]) ++ p :: r := by simp
    rw [e1] at h2
    rw [e2] at hs ⊢
    exact JI.fold hM r (X ++ [z]) (stp R p) p h2 hs
theorem JI.all {G : Pt → Pt → Prop} (hM : Merge G) {p : Pt} {r : List Pt} (hs : ∀ s ∈ stepsL (p :: r), G s.1 s.2) : JI G (p :: r) ((p :: r).foldl stp []) := by
  have h0 : JI G ([] ++ [p]) [p] := ⟨rfl, rfl, fun _ h => h, rfl, fun s h => by cases h⟩
  have := JI.fold hM r [] [p] p h0 hs
  rw [List.foldl_cons, stp_nil p rfl]
  exact this
theorem sgn_of {u v : Int} (h : 0 < u * v) : (0 < u ∧ 0 < v) ∨ (u < 0 ∧ v < 0) := by
  by_cases h1 : 0 < u
  · by_cases h2 : 0 < v
    · exact .inl ⟨h1, h2⟩
    · have := Int.mul_nonneg (a := u) (b := -v) (by omega) (by omega)
      rw [Int.mul_neg] at this
      omega
  · by_cases h2 : v < 0
    · by_cases h3 : u = 0
      · subst h3; rw [Int.zero_mul] at h; omega
      · exact .inr ⟨by omega, h2⟩
    · have := Int.mul_nonneg (a := -u) (b := v) (by omega) (by omega)
      rw [Int.neg_mul] at this
      omega
theorem one_is (n : Int) : (one n = 0 ∧ n = 0) ∨ (one n = 1 ∧ n ≠ 0) := by
  unfold one
  split
  · exact .inl ⟨rfl, by assumption⟩
  · exact .inr ⟨rfl, by assumption⟩
theorem one_ge (n : Int) : 0 ≤ one n := by have := one_is n; omega
theorem one_yes {n : Int} (h : n ≠ 0) : one n = 1 := by have := one_is n; omega
theorem one_no {n : Int} (h : one n ≤ 0) : n = 0 := by have := one_is n; omega
theorem one_le (n : Int) : one n ≤ 1 := by have := one_is n; omega
def Btw (a b c : Int) : Prop := (a < b ∧ b < c) ∨ (c < b ∧ b < a)
/-- Two steps in one direction, told out. -/
theorem str_is {a b c : Pt} (h1 : turnsN a b ≤ 1) (h2 : turnsN b c ≤ 1) (hs : strB a b c = true) :
    (Btw a.x b.x c.x ∧ b.y = a.y ∧ c.y = a.y ∧ b.z = a.z ∧ c.z = a.z) ∨ (Btw a.y b.y c.y ∧ b.x = a.x ∧ c.x = a.x ∧ b.z = a.z ∧ c.z = a.z) ∨ (Btw a.z b.z c.z ∧ b.x = a.x ∧ c.x = a.x ∧ b.y = a.y ∧ c.y = a.y) := by
  unfold turnsN at h1 h2
  have x1 := one_ge (b.x - a.x)
  have x2 := one_ge (b.y - a.y)
  have x3 := one_ge (b.z - a.z)
  have y1 := one_ge (c.x - b.x)
  have y2 := one_ge (c.y - b.y)
  have y3 := one_ge (c.z - b.z)
  unfold strB strC chg at hs
  simp only [Bool.or_eq_true, decide_eq_true_eq] at hs
  unfold Btw
  rcases hs with h | h | h
  · have g := sgn_of h
    have n1 : one (b.x - a.x) = 1 := one_yes (by omega)
    have n2 : one (c.x - b.x) = 1 := one_yes (by omega)
    have ey := one_no (n := b.y - a.y) (by omega)
    have fy := one_no (n := c.y - b.y) (by omega)
    have ez := one_no (n := b.z - a.z) (by omega)
    have fz := one_no (n := c.z - b.z) (by omega)
    clear h1 h2 x1 x2 x3 y1 y2 y3 n1 n2
    exact .inl ⟨by rcases g with g | g <;> omega, by omega, by omega, by omega, by omega⟩
  · have g := sgn_of h
    have n1 : one (b.y - a.y) = 1 := one_yes (by omega)
    have n2 : one (c.y - b.y) = 1 := one_yes (by omega)
    have ex := one_no (n := b.x - a.x) (by omega)
    have fx := one_no (n := c.x - b.x) (by omega)
    have ez := one_no (n := b.z - a.z) (by omega)
    have fz := one_no (n := c.z - b.z) (by omega)
    clear h1 h2 x1 x2 x3 y1 y2 y3 n1 n2
    exact .inr (.inl ⟨by rcases g with g | g <;> omega, by omega, by omega, by omega, by omega⟩)
  · have g := sgn_of h
    have n1 : one (b.z - a.z) = 1 := one_yes (by omega)
    have n2 : one (c.z - b.z) = 1 := one_yes (by omega)
    have ex := one_no (n := b.x - a.x) (by omega)
    have fx := one_no (n := c.x - b.x) (by omega)
    have ey := one_no (n := b.y - a.y) (by omega)
    have fy := one_no (n := c.y - b.y) (by omega)
    clear h1 h2 x1 x2 x3 y1 y2 y3 n1 n2
    exact .inr (.inr ⟨by rcases g with g | g <;> omega, by omega, by omega, by omega, by omega⟩)
/-- A step that is free. -/
structure Fr (bs : List Bx) (t : Bx) (a b : Pt) : Prop where
  one : turnsN a b ≤ 1
  fa : farB t a = false
  fb : farB t b = false
  met : metB bs t a b = false
theorem fr_merge {bs : List Bx} {t : Bx} (hl : bs.length ≤ 40) (hg : badL bs = 0) (ht : bad1 t = 0) (hb : ∀ b ∈ bs, b.lx < b.hx ∧ b.ly < b.hy ∧ b.lz < b.hz) : Merge (Fr bs t) := by
  intro a b c h1 h2 hs
  have hst := str_is h1.one h2.one hs
  have gt := bad1_iff.1 ht
  have hm : metB bs t a c = false := by
    have m1 := h1.met
    have m2 := h2.met
    rw [metB_any hl hg ht h1.fa h1.fb] at m1
    rw [metB_any hl hg ht h2.fa h2.fb] at m2
    rw [metB_any hl hg ht h1.fa h2.fb]
    rw [List.any_eq_false] at m1 m2 ⊢
    intro x hx
    have n1 := m1 x hx
    have n2 := m2 x hx
    have n3 := hb x hx
    rw [meet_iff] at n1 n2 ⊢
    simp only [hullB, movB] at n1 n2 ⊢
    unfold Btw at hst
    rcases hst with ⟨hw, e1, e2, e3, e4⟩ | ⟨hw, e1, e2, e3, e4⟩ | ⟨hw, e1, e2, e3, e4⟩
    all_goals rw [e1, e3] at n1 n2
    all_goals rw [e2, e4] at n2 ⊢
    all_goals rcases hw with hw | hw
    all_goals omega
  refine ⟨⟨?_, h1.fa, h2.fb, hm⟩, ?_⟩
  · unfold turnsN
    rcases hst with ⟨_, _, e2, _, e4⟩ | ⟨_, _, e2, _, e4⟩ | ⟨_, _, e2, _, e4⟩
    all_goals rw [e2, e4, Int.sub_self, Int.sub_self]
    all_goals simp only [one_zero]
    · have := one_le (c.x - a.x); omega
    · have := one_le (c.y - a.y); omega
    · have := one_le (c.z - a.z); omega
  · unfold lenS absI
    simp only
    unfold Btw at hst
    rcases hst with ⟨hw, e1, e2, e3, e4⟩ | ⟨hw, e1, e2, e3, e4⟩ | ⟨hw, e1, e2, e3, e4⟩
    all_goals rw [e1, e2, e3, e4]
    all_goals rcases hw with hw | hw
    all_goals omega
theorem joined {d : List Sit} {t : Bx} {p q r : Pt} {x y R : List Pt} {hx hy : Int} (h1 : PlanP d t p q x hx) (h2 : PlanP d t q r y hy) (hR : R = (x ++ y).foldl stp []) :
    checkR d t R = (-1, 0) ∧ longR R = (longL x + longL y, 0) ∧ R.length ≤ x.length + y.length ∧ ∃ h0 : 0 < R.length, R[0]'h0 = p ∧ R[R.length - 1]'(by omega) = r := by
  obtain ⟨hd, _, hnt, htt⟩ := refuse_zero h1.ref
  obtain ⟨hb1, hb2, hb3⟩ := deck_boxes hd
  have ht := tool_good hnt htt
  have hM := fr_merge hb1 hb2 ht hb3
  have l1 := plan_len h1
  have l2 := plan_len h2
  have sx := plan_shape h1
  have sy := plan_shape h2
  have ex : x.getLast? = some q := by rw [sx, cmptG_last]; rfl
  have ey : y.getLast? = some r := by rw [sy, cmptG_last]; rfl
  obtain ⟨X, hX⟩ := snoc_of ex
  have nx := plan_near h1
  have ny := plan_near h2
  have fx : ∀ u ∈ x, farB t u = false := fun u hu => by have := List.any_eq_false.1 h1.far u hu; simpa using this
  have fy : ∀ u ∈ y, farB t u = false := fun u hu => by have := List.any_eq_false.1 h2.far u hu; simpa using this
  have gx : ∀ s ∈ stepsL x, Fr (d.map boxOf) t s.1 s.2 := fun s hs => by
    refine ⟨plan_turns h1 s hs, fx _ (mem_step hs).1, fx _ (mem_step hs).2, ?_⟩
    have := h1.free
    rw [sx] at this hs
    exact (wrongL_free.1 this).2 s hs
  have gy : ∀ s ∈ stepsL y, Fr (d.map boxOf) t s.1 s.2 := fun s hs => by
    refine ⟨plan_turns h2 s hs, fy _ (mem_step hs).1, fy _ (mem_step hs).2, ?_⟩
    have := h2.free
    rw [sy] at this hs
    exact (wrongL_free.1 this).2 s hs
  obtain ⟨Y, hY⟩ : ∃ Y, y = q :: Y := ⟨_, sy⟩
  have gq : Fr (d.map boxOf) t q q := by
    have hq : farB t q = false := fy q (by rw [hY]; simp)
    refine ⟨by unfold turnsN one; simp, hq, hq, ?_⟩
    have := h2.free
    rw [hY] at this
    exact (wrongL_free.1 this).1
  have em : stepsL (x ++ y) = stepsL x ++ (q, q) :: stepsL y := by
    rw [hX, hY, List.append_assoc]
    exact steps_mid q q Y X
  have hall : ∀ s ∈ stepsL (x ++ y), Fr (d.map boxOf) t s.1 s.2 := fun s hs => by
    rw [em] at hs
    rcases List.mem_append.1 hs with hs | hs
    · exact gx s hs
    · rcases List.mem_cons.1 hs with rfl | hs
      · exact gq
      · exact gy s hs
  have hlong : longL (x ++ y) = longL x + longL y := by
    unfold longL
    rw [em, sumS_append]
    show _ + (lenS (q, q) + _) = _
    rw [lenS_self, Int.zero_add]
  have hlen := @fold_len (x ++ y) []
  rw [List.length_append, List.length_nil, Nat.zero_add] at hlen
  obtain ⟨P, hP⟩ : ∃ P, x = p :: P := ⟨_, sx⟩
  have hJ : JI (Fr (d.map boxOf) t) (x ++ y) ((x ++ y).foldl stp []) := by
    rw [hP] at hall ⊢
    exact JI.all hM hall
  have hhd : (x ++ y).head? = some p := by rw [hP]; rfl
  have hls : (x ++ y).getLast? = some r := by rw [List.getLast?_append, ey]; rfl
  rw [← hR] at hJ hlen
  clear hR
  have hRh := hJ.hd
  rw [hhd] at hRh
  have hRl := hJ.lst
  rw [hls] at hRl
  obtain ⟨T, rfl⟩ : ∃ T, R = p :: T := by
    cases R with
    | nil => cases hRh
    | cons a T => simp at hRh; exact ⟨T, by rw [hRh]⟩
  have hmm : ∀ u ∈ p :: T, nearP u = true ∧ farB t u = false := fun u hu => by
    rcases List.mem_append.1 (hJ.mem u hu) with h | h
    · exact ⟨nx u h, fx u h⟩
    · exact ⟨ny u h, fy u h⟩
  have hn : (p :: T).all nearP = true := List.all_eq_true.2 fun u hu => (hmm u hu).1
  refine ⟨?_, ?_, hlen, by simp, rfl, ?_⟩
  · unfold checkR
    have h0 : refuseR d t (p :: T) = 0 := by
      unfold refuseR
      rw [if_pos hd, if_pos ⟨hn, hnt⟩, if_pos htt]
    have hf : (p :: T).any (farB t) = false := by
      rw [List.any_eq_false]
      intro u hu
      simp [(hmm u hu).2]
    have hsl : slant (p :: T) = false := slant_no fun s hs => (hJ.ok s hs).one
    have hw : wrongL (d.map boxOf) t (p :: T) = -1 := by
      rw [wrongL_free]
      refine ⟨?_, fun s hs => (hJ.ok s hs).met⟩
      have := h1.free
      rw [hP] at this
      exact (wrongL_free.1 this).1
    have hl0 : ¬ ((p :: T).length = 0 ∨ 1000 < (p :: T).length) := by
      have : 0 < (p :: T).length := by simp
      omega
    rw [if_pos h0, hf, if_neg (by decide), if_neg hl0, hsl, if_neg (by decide), hw]
  · unfold longR
    rw [if_pos hn, if_neg (by omega), hJ.sum, hlong]
  · rw [List.getLast?_eq_getElem?] at hRl
    rw [List.getElem?_eq_getElem (by simp)] at hRl
    injection hRl
end Go.Proofs.Ytgelbndbkmedlaa.S
