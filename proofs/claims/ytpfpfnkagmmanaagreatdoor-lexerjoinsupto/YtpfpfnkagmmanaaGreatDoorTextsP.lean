/- The plain part of workcelllaw.UnitTexts: the document's names of units, and its reckoning, against readL's. -/
import Derived.Test.YtpfpfnkagmmanaaGreatDoorRead5
import Derived.Lib.MapLaws
namespace Go.Proofs.YtpfpfnkagmmanaaGreatDoor
open Go.RowKit

/-! ### the units' names, with their micro signs -/
/-- The document's names: kind, scale, shift. -/
def names : List (List UInt8 × Int × Int × Int) :=
  [([], 0, 1, 0), ([110, 108], 1, 1, 0), ([117, 108], 1, 1000, 0), ([194, 181, 108], 1, 1000, 0), ([206, 188, 108], 1, 1000, 0), ([109, 108], 1, 1000000, 0), ([117, 109], 2, 1, 0), ([194, 181, 109], 2, 1, 0), ([206, 188, 109], 2, 1, 0), ([109, 109], 2, 1000, 0), ([99, 109], 2, 10000, 0), ([109, 75], 3, 1, 0), ([75], 3, 1000, 0), ([67], 3, 1000, 273150), ([109, 115], 4, 1, 0), ([115], 4, 1000, 0), ([109, 105, 110], 4, 60000, 0), ([104], 4, 3600000, 0), ([114, 112, 109], 5, 1, 0)]
/-- What may have become a text of plain letters. -/
def pres : List UInt8 → List (List UInt8)
  | [] => [[]]
  | c :: t => (pres t).flatMap fun p => if c = 117 then [117 :: p, 194 :: 181 :: p, 206 :: 188 :: p] else [c :: p]

theorem enc_high {z : Int} (h : 127 < z) : ∃ b r, Lib.encodeRune z = b :: r ∧ 128 ≤ b.toNat := by
  have key : ∀ (x : Int) (y : List Int), 128 ≤ x → x ≤ 255 → ∃ b r, ((x :: y).map fun x => x.toNat.toUInt8) = b :: r ∧ 128 ≤ b.toNat := fun x y h1 h2 => by
    refine ⟨x.toNat.toUInt8, _, rfl, ?_⟩
    have : x.toNat < 256 := by omega
    simp [UInt8.toNat_ofNat', Nat.toUInt8]
    omega
  unfold Lib.encodeRune Lib.encodeRuneZ
  split
  · omega
  · split
    · exact key _ _ (by omega) (by omega)
    · split
      · exact key _ _ (by omega) (by omega)
      · split
        · exact key _ _ (by omega) (by omega)
        · exact key _ _ (by omega) (by omega)
theorem enc_low {z : Int} (h0 : 0 ≤ z) (h : z ≤ 127) : Lib.encodeRune z = [z.toNat.toUInt8] := by
  unfold Lib.encodeRune; rw [Lib.encodeRuneZ_one h0 h]; rfl
theorem mapD_nil (f : Int → Int) : Lib.mapD f [] = [] := rfl
theorem plainF_nat (r : Nat) : 0 ≤ plainF r := by unfold plainF; split <;> omega

theorem pre_step {l : List UInt8} {c : UInt8} {t : List UInt8} (hc : c.toNat < 128) (h : Lib.mapD plainF l = c :: t) :
    ∃ r rest, l = r ++ rest ∧ Lib.mapD plainF rest = t ∧ (r = [c] ∨ (c = 117 ∧ (r = [194, 181] ∨ r = [206, 188]))) := by
  have hne : l ≠ [] := fun e => by rw [e, mapD_nil] at h; cases h
  rw [Lib.mapD_step plainF l hne, if_pos (plainF_nat _)] at h
  have hz : plainF (Lib.decodeL l).1 ≤ 127 := by
    by_cases hh : plainF (Lib.decodeL l).1 ≤ 127
    · exact hh
    · obtain ⟨b, r, e, hb⟩ := enc_high (z := plainF (Lib.decodeL l).1) (by omega)
      rw [e] at h
      injection h with h1 h2
      subst h1; omega
  rw [enc_low (plainF_nat _) hz] at h
  injection h with h1 h2
  have hsplit : l = l.take (Lib.decodeL l).2 ++ l.drop (Lib.decodeL l).2 := (List.take_append_drop _ _).symm
  refine ⟨l.take (Lib.decodeL l).2, l.drop (Lib.decodeL l).2, hsplit, h2, ?_⟩
  by_cases e1 : (Lib.decodeL l).1 = 181
  · right
    rw [← Lib.encode_decode l hne (by omega), e1]
    rw [e1] at h1
    exact ⟨h1.symm.trans (by decide), .inl (by decide)⟩
  · by_cases e2 : (Lib.decodeL l).1 = 956
    · right
      rw [← Lib.encode_decode l hne (by omega), e2]
      rw [e2] at h1
      exact ⟨h1.symm.trans (by decide), .inr (by decide)⟩
    · left
      have e3 : plainF (Lib.decodeL l).1 = (Lib.decodeL l).1 := if_neg (by omega)
      rw [e3] at hz h1
      rw [← Lib.encode_decode l hne (by omega), enc_low (by omega) hz, h1]
theorem pre_nil {l : List UInt8} (h : Lib.mapD plainF l = []) : l = [] := by
  by_cases hne : l = []
  · exact hne
  · rw [Lib.mapD_step plainF l hne, if_pos (plainF_nat _)] at h
    have h1 : Lib.encodeRune (plainF (Lib.decodeL l).1) = [] := (List.append_eq_nil_iff.1 h).1
    by_cases hh : plainF (Lib.decodeL l).1 ≤ 127
    · rw [enc_low (plainF_nat _) hh] at h1; cases h1
    · obtain ⟨b, r, e, _⟩ := enc_high (z := plainF (Lib.decodeL l).1) (by omega)
      rw [e] at h1; cases h1
theorem pre_mem : ∀ (t : List UInt8), (∀ c ∈ t, c.toNat < 128) → ∀ l, Lib.mapD plainF l = t → l ∈ pres t
  | [], _, l, h => by rw [pre_nil h]; simp [pres]
  | c :: t, hc, l, h => by
    obtain ⟨r, rest, rfl, h2, hr⟩ := pre_step (hc c (by simp)) h
    have ih := pre_mem t (fun x hx => hc x (by simp [hx])) rest h2
    unfold pres
    rw [List.mem_flatMap]
    refine ⟨rest, ih, ?_⟩
    rcases hr with rfl | ⟨rfl, rfl | rfl⟩
    · split
      · rename_i e; subst e; simp
      · simp
    · simp
    · simp

theorem units_ascii : ∀ u ∈ units, ∀ c ∈ u.1, c.toNat < 128 := by decide
theorem pres_named : ∀ u ∈ units, ∀ p ∈ pres u.1, names.find? (fun x => x.1 == p) = some (p, u.2) := by decide +kernel
theorem named_meas : ∀ x ∈ names, meas (Lib.mapD plainF x.1) = some x.2 := by decide +kernel
/-- The two tables tell the same. -/
theorem meas_names (l : List UInt8) : meas (Lib.mapD plainF l) = (names.find? fun x => x.1 == l).map (·.2) := by
  cases hn : names.find? fun x => x.1 == l with
  | some x =>
    have hm := List.mem_of_find?_eq_some hn
    have he : x.1 = l := by simpa using List.find?_some hn
    rw [← he]; exact named_meas x hm
  | none =>
    cases hm : meas (Lib.mapD plainF l) with
    | none => rfl
    | some m =>
      unfold meas at hm
      obtain ⟨u, hu, rfl⟩ := Option.map_eq_some_iff.1 hm
      have hmem := List.mem_of_find?_eq_some hu
      have he : u.1 = Lib.mapD plainF l := by simpa using List.find?_some hu
      have := pres_named u hmem l (pre_mem u.1 (units_ascii u hmem) l he.symm)
      rw [hn] at this; cases this

/-! ### the reckoning -/
/-- What digits are worth. -/
def val (l : List UInt8) : Int := l.foldl on 0
theorem fold_on_nonneg : ∀ (l : List UInt8) (n : Int), (∀ b ∈ l, isDig b = true) → 0 ≤ n → n ≤ l.foldl on n
  | [], n, _, _ => Int.le_refl _
  | b :: l, n, h, h0 => by
    have hb := dg_in (h b (by simp))
    have := fold_on_nonneg l (on n b) (fun c hc => h c (by simp [hc])) (by unfold on; omega)
    refine Int.le_trans ?_ this
    unfold on; omega
theorem val_nonneg {l : List UInt8} (h : ∀ b ∈ l, isDig b = true) : 0 ≤ val l := fold_on_nonneg l 0 h (Int.le_refl _)
theorem fold_up_on : ∀ (l : List UInt8) (n : Int), (∀ b ∈ l, isDig b = true) → 0 ≤ n → l.foldl up (min n 2000000000) = min (l.foldl on n) 2000000000
  | [], n, _, _ => rfl
  | b :: l, n, h, h0 => by
    have hb := dg_in (h b (by simp))
    rw [List.foldl_cons, List.foldl_cons, show up (min n 2000000000) b = min (on n b) 2000000000 by unfold up on; omega]
    exact fold_up_on l (on n b) (fun c hc => h c (by simp [hc])) (by unfold on; omega)
theorem whole_val {l : List UInt8} (h : ∀ b ∈ l, isDig b = true) : wholeOf l = min (val l) 2000000000 := fold_up_on l 0 h (Int.le_refl _)
/-- The fraction's thousandths, as the document's loop reckons them: what is added, and the next digit's worth. -/
def fracStep (p : Int × Int) (b : UInt8) : Int × Int := (p.1 + p.2 * dg b, p.2 / 10)
def frac (l : List UInt8) : Int × Int := l.foldl fracStep (0, 100)
theorem thou_frac (w f : List UInt8) (hf : f.length ≤ 3) : thou w f = 1000 * wholeOf w + (frac f).1 := by
  have e : dg 48 = 0 := by decide
  unfold thou frac
  match f, hf with
  | [], _ => simp only [List.nil_append, List.take, List.foldl_cons, List.foldl_nil, on, e]; omega
  | [a], _ => simp only [List.cons_append, List.nil_append, List.take, List.foldl_cons, List.foldl_nil, on, fracStep, e]; omega
  | [a, b], _ => simp only [List.cons_append, List.nil_append, List.take, List.foldl_cons, List.foldl_nil, on, fracStep, e]; omega
  | [a, b, c], _ => simp only [List.cons_append, List.nil_append, List.take, List.foldl_cons, List.foldl_nil, on, fracStep]; omega
theorem frac_in {f : List UInt8} (h : ∀ b ∈ f, isDig b = true) (hf : f.length ≤ 3) : 0 ≤ (frac f).1 ∧ (frac f).1 ≤ 999 := by
  unfold frac
  match f, hf with
  | [], _ => simp
  | [a], _ => have ha := dg_in (h a (by simp)); simp only [List.foldl_cons, List.foldl_nil, fracStep]; omega
  | [a, b], _ => have ha := dg_in (h a (by simp)); have hb := dg_in (h b (by simp)); simp only [List.foldl_cons, List.foldl_nil, fracStep]; omega
  | [a, b, c], _ => have ha := dg_in (h a (by simp)); have hb := dg_in (h b (by simp)); have hc := dg_in (h c (by simp)); simp only [List.foldl_cons, List.foldl_nil, fracStep]; omega

theorem frac_fold : ∀ (l : List UInt8) (p : Int × Int), (∀ b ∈ l, isDig b = true) → 0 ≤ p.1 → 0 ≤ p.2 → p.1 + 10 * p.2 ≤ 1000 → 0 ≤ (l.foldl fracStep p).1 ∧ 0 ≤ (l.foldl fracStep p).2 ∧ (l.foldl fracStep p).1 + 10 * (l.foldl fracStep p).2 ≤ 1000
  | [], p, _, h0, h1, h2 => ⟨h0, h1, h2⟩
  | b :: l, p, h, h0, h1, h2 => by
    have hb := dg_in (h b (by simp))
    have m0 := Int.mul_nonneg h1 hb.1
    have m9 := Int.mul_le_mul_of_nonneg_left hb.2 h1
    refine frac_fold l (fracStep p b) (fun c hc => h c (by simp [hc])) ?_ ?_ ?_
    all_goals (simp only [fracStep]; omega)
theorem frac_all {l : List UInt8} (h : ∀ b ∈ l, isDig b = true) : 0 ≤ (frac l).1 ∧ 0 ≤ (frac l).2 ∧ (frac l).1 + 10 * (frac l).2 ≤ 1000 := frac_fold l (0, 100) h (by decide) (by decide) (by decide)
theorem frac_snoc (l : List UInt8) (b : UInt8) : frac (l ++ [b]) = ((frac l).1 + (frac l).2 * ((b.toNat : Int) - 48), (frac l).2 / 10) := by
  unfold frac; rw [List.foldl_append]; rfl
theorem mk_far {k v : Int} (h0 : 0 ≤ k) (h5 : k ≤ 5) (h : v < -1000000000 ∨ 1000000000 < v) : mkQ k v = (0, 0, 2) := by
  have e := ref1_range h0 h5 h
  unfold mkQ; rw [e]; rfl
/-- The value is fr thousandths and W units. -/
theorem fin_split {neg : Bool} {w f r : List UInt8} {m : Int × Int × Int} (hn : meas (Lib.mapD plainF r) = some m) (hw : ∀ b ∈ w, isDig b = true) (hf : ∀ b ∈ f, isDig b = true) (h3 : f.length ≤ 3) (W : Int) (hW : wholeOf w = W) (h0 : (frac f).1 * m.2.1 % 1000 = 0) : fin neg w f r mkQ = mkQ m.1 ((if neg then -(W * m.2.1 + (frac f).1 * m.2.1 / 1000) else W * m.2.1 + (frac f).1 * m.2.1 / 1000) + m.2.2) := by
  have e : thou w f * m.2.1 = 1000 * (W * m.2.1) + (frac f).1 * m.2.1 := by rw [thou_frac w f h3, hW, Int.add_mul, Int.mul_assoc]
  have hm := meas_in hn
  have ht := thou_in w f hw hf
  have hv0 := (mul_in2 ht.1 ht.2 hm.2.1.1 hm.2.1.2).1
  have hmod : thou w f * m.2.1 % 1000 = 0 := by rw [e]; omega
  cases neg
  · rw [fin_pos hn hv0 hmod]
    simp only [Bool.false_eq_true, if_false]
    rw [e, show (1000 * (W * m.2.1) + (frac f).1 * m.2.1) / 1000 = W * m.2.1 + (frac f).1 * m.2.1 / 1000 by omega]
  · rw [fin_neg hn hmod, Int.tdiv_eq_ediv_of_nonneg hv0]
    simp only [if_true]
    rw [e, show (1000 * (W * m.2.1) + (frac f).1 * m.2.1) / 1000 = W * m.2.1 + (frac f).1 * m.2.1 / 1000 by omega]
theorem fin_odd {neg : Bool} {w f r : List UInt8} {m : Int × Int × Int} (hn : meas (Lib.mapD plainF r) = some m) (h3 : f.length ≤ 3) (h0 : (frac f).1 * m.2.1 % 1000 ≠ 0) : fin neg w f r mkQ = (0, 0, 2) := by
  have e : thou w f * m.2.1 = 1000 * (wholeOf w * m.2.1) + (frac f).1 * m.2.1 := by rw [thou_frac w f h3, Int.add_mul, Int.mul_assoc]
  exact fin_parts hn (by rw [e]; omega)
theorem fin_great {neg : Bool} {w f r : List UInt8} {m : Int × Int × Int} (hn : meas (Lib.mapD plainF r) = some m) (hw : ∀ b ∈ w, isDig b = true) (hf : ∀ b ∈ f, isDig b = true) (h3 : f.length ≤ 3) (h : 2000000000 / m.2.1 < wholeOf w) : fin neg w f r mkQ = (0, 0, 2) := by
  by_cases h0 : (frac f).1 * m.2.1 % 1000 = 0
  · rw [fin_split hn hw hf h3 _ rfl h0]
    obtain ⟨⟨k0, k5⟩, ⟨s0, s9⟩, d0, d9⟩ := meas_in hn
    have hfr := frac_in hf h3
    have hp : 0 ≤ (frac f).1 * m.2.1 := Int.mul_nonneg hfr.1 (by omega)
    have hq : 2000000000 < wholeOf w * m.2.1 := (Int.ediv_lt_iff_lt_mul (by omega)).1 h
    refine mk_far k0 k5 ?_
    split <;> omega
  · exact fin_odd hn h3 h0
end Go.Proofs.YtpfpfnkagmmanaaGreatDoor
