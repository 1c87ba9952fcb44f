/- The document's ReadQuantity, walked. -/
import Derived.Test.YtpfpfnkagmmanaaGreatDoorRef
import Derived.Deep.RegionWith
namespace Go.Proofs.YtpfpfnkagmmanaaGreatDoor
open Go.RowKit

/-! ### lists -/
theorem at_list (s : ByteArray) (k : Nat) (h : k < s.size) : s.data.toList[k]? = some s[k] := by
  rw [List.getElem?_eq_getElem (by simpa using h)]; rfl
/-- A scan of digits from i on that stops at k: what it has met is the longest head of digits. -/
theorem scan_stop (l : List UInt8) (i k : Nat) (hik : i ≤ k) (hd : ∀ b ∈ (l.drop i).take (k - i), isDig b = true) (hs : ∀ b, l[k]? = some b → isDig b = false) :
    (l.drop i).takeWhile isDig = (l.drop i).take (k - i) ∧ (l.drop i).dropWhile isDig = l.drop k := by
  have e : l.drop i = (l.drop i).take (k - i) ++ l.drop k := by
    have := (List.take_append_drop (k - i) (l.drop i)).symm
    rw [List.drop_drop, show i + (k - i) = k by omega] at this
    exact this
  have h := take_digs ((l.drop i).take (k - i)) (l.drop k) hd (by
    intro b hb
    apply hs
    rw [List.head?_drop] at hb
    exact hb)
  rw [← e] at h
  exact h
theorem take_step (l : List UInt8) (i k : Nat) (b : UInt8) (hik : i ≤ k) (h : l[k]? = some b) : (l.drop i).take (k + 1 - i) = (l.drop i).take (k - i) ++ [b] := by
  have hlt : k < l.length := (List.getElem?_eq_some_iff.1 h).1
  have h2 : (l.drop i)[k - i]? = some b := by rw [List.getElem?_drop, show i + (k - i) = k by omega]; exact h
  rw [show k + 1 - i = (k - i) + 1 by omega, List.take_add_one, h2]
  rfl
theorem dig_step {l : List UInt8} {i k : Nat} {b : UInt8} (hik : i ≤ k) (h : l[k]? = some b) (hb : isDig b = true) (hd : ∀ c ∈ (l.drop i).take (k - i), isDig c = true) : ∀ c ∈ (l.drop i).take (k + 1 - i), isDig c = true := by
  rw [take_step l i k b hik h]
  intro c hc
  simp only [List.mem_append, List.mem_cons, List.mem_nil_iff, or_false] at hc
  rcases hc with hc | rfl
  · exact hd c hc
  · exact hb
theorem val_snoc (l : List UInt8) (b : UInt8) : val (l ++ [b]) = 10 * val l + ((b.toNat : Int) - 48) := by
  unfold val; rw [List.foldl_append]; rfl

/-- Where the sign ends. -/
def signEnd (l : List UInt8) : Nat := if Lib.hasPrefix l [45] then 1 else 0
theorem sign_drop (l : List UInt8) : l.drop (signEnd l) = Lib.trimPrefix l [45] := by
  unfold signEnd Lib.trimPrefix
  split <;> rfl

theorem dot_is {l : List UInt8} {k : Nat} {b : UInt8} (h : l[k]? = some b) : Lib.hasPrefix (l.drop k) [46] = ((b.toNat : Int) == 46) := by
  have hlt := (List.getElem?_eq_some_iff.1 h).1
  have e : l.drop k = b :: l.drop (k + 1) := by
    rw [List.drop_eq_getElem_cons hlt, (List.getElem?_eq_some_iff.1 h).2]
  rw [e]
  unfold Lib.hasPrefix
  simp only [List.isPrefixOf, Bool.and_true]
  rw [Bool.eq_iff_iff]
  simp only [beq_iff_eq]
  constructor
  · intro h; subst h; rfl
  · intro h; exact (UInt8.toNat.inj (by show (46 : UInt8).toNat = _; have : (46 : UInt8).toNat = 46 := rfl; omega))
theorem names_apart : names.Pairwise (fun p q => p.1 ≠ q.1) := by decide
theorem find_apart : ∀ (U : List (List UInt8 × Int × Int × Int)), U.Pairwise (fun p q => p.1 ≠ q.1) → ∀ x ∈ U, U.find? (fun y => y.1 == x.1) = some x
  | [], _, x, h => by simp at h
  | u :: U, hp, x, h => by
    have h1 := (List.pairwise_cons.1 hp).1
    simp only [List.mem_cons] at h
    rcases h with rfl | h
    · simp
    · have hne : (u.1 == x.1) = false := by simpa using h1 x h
      rw [List.find?_cons, hne]
      exact find_apart U (List.pairwise_cons.1 hp).2 x h
theorem found {r : List UInt8} {i : Nat} {x : List UInt8 × Int × Int × Int} (h : names[i]? = some x) (hx : x.1 = r) : meas (Lib.mapD plainF r) = some x.2 := by
  rw [meas_names, ← hx, find_apart names names_apart x (List.mem_of_getElem? h)]; rfl
theorem lacking {r : List UInt8} (h : ∀ i x, i < 19 → names[i]? = some x → x.1 ≠ r) : meas (Lib.mapD plainF r) = none := by
  rw [meas_names]
  have : (names.find? fun x => x.1 == r) = none := List.find?_eq_none.2 (fun x hx => by
    obtain ⟨i, hi⟩ := List.getElem?_of_mem hx
    have hlt : i < 19 := by have := (List.getElem?_eq_some_iff.1 hi).1; exact this
    simpa using h i x hlt hi)
  rw [this]; rfl
/-! ### the document's tables, by what they hold -/
theorem names_call (w : World) : Calls Tryz.prog 49 #[] w fun e w' => ∃ b, e = .returned (.slice (some ⟨b, 0, none⟩) 19 19) ∧ (∀ i x, names[i]? = some x → w'.cell? ⟨b, i, none⟩ = some (.string ⟨x.1.toArray⟩)) ∧ Below w.heap.size w w' :=
  (unitNames_is w).mono fun _ _ ⟨he, hw⟩ => ⟨_, he, fun _ _ h => by rw [hw]; exact name_at h, by rw [hw]; exact (Below.refl _ _).alloc (Nat.le_refl _) _⟩
theorem scales_call (w : World) : Calls Tryz.prog 50 #[] w fun e w' => ∃ b, e = .returned (.slice (some ⟨b, 0, none⟩) 19 19) ∧ (∀ i x, names[i]? = some x → w'.cell? ⟨b, i, none⟩ = some (.int .i64 x.2.2.1)) ∧ Below w.heap.size w w' :=
  (unitScales_is w).mono fun _ _ ⟨he, hw⟩ => ⟨_, he, fun _ _ h => by rw [hw]; exact scale_at h, by rw [hw]; exact (Below.refl _ _).alloc (Nat.le_refl _) _⟩
theorem kinds_call (w : World) : Calls Tryz.prog 51 #[] w fun e w' => ∃ b, e = .returned (.slice (some ⟨b, 0, none⟩) 19 19) ∧ (∀ i x, names[i]? = some x → w'.cell? ⟨b, i, none⟩ = some (.int .i64 x.2.1)) ∧ Below w.heap.size w w' :=
  (unitKinds_is w).mono fun _ _ ⟨he, hw⟩ => ⟨_, he, fun _ _ h => by rw [hw]; exact kind_at h, by rw [hw]; exact (Below.refl _ _).alloc (Nat.le_refl _) _⟩
theorem extract_drop (s : ByteArray) (k : Nat) : s.extract k s.size = ⟨(s.data.toList.drop k).toArray⟩ := by
  apply ByteArray.ext
  rw [ByteArray.data_extract]
  apply Array.toList_inj.1
  rw [Array.toList_extract, List.extract_eq_take_drop]
  show (s.data.toList.drop k).take (s.size - k) = s.data.toList.drop k
  exact List.take_of_length_le (by rw [List.length_drop, ← Lib.size_eq s]; omega)
theorem shift_is : ∀ x ∈ names, x.2.2.2 = if x.1 = [67] then 273150 else 0 := by decide
/-- What is told of a search among the first j names. -/
def Sought (r : List UInt8) (u : Value) (j : Nat) : Prop :=
  (u = .int .i64 (-1) ∧ ∀ i x, i < j → names[i]? = some x → x.1 ≠ r) ∨ ∃ i x, i < j ∧ u = .int .i64 (i : Nat) ∧ names[i]? = some x ∧ x.1 = r
theorem Sought.zero (r : List UInt8) : Sought r (.int .i64 (-1)) 0 := .inl ⟨rfl, fun _ _ h => absurd h (by omega)⟩
theorem Sought.hit {r : List UInt8} {j : Nat} {x : List UInt8 × Int × Int × Int} (hx : names[j]? = some x) (h : x.1 = r) : Sought r (.int .i64 (j : Nat)) (j + 1) := .inr ⟨j, x, by omega, rfl, hx, h⟩
theorem Sought.miss {r : List UInt8} {u : Value} {j : Nat} {x : List UInt8 × Int × Int × Int} (hs : Sought r u j) (hx : names[j]? = some x) (h : x.1 ≠ r) : Sought r u (j + 1) := by
  rcases hs with ⟨hu, ha⟩ | ⟨i, y, hi, hu, hy, hr⟩
  · refine .inl ⟨hu, fun i y hi hy => ?_⟩
    by_cases e : i = j
    · subst e; rw [hx] at hy; injection hy with hy; subst hy; exact h
    · exact ha i y (by omega) hy
  · exact .inr ⟨i, y, by omega, hu, hy, hr⟩
theorem name_some {j : Nat} (h : j < 19) : ∃ x, names[j]? = some x := ⟨_, List.getElem?_eq_getElem (show j < names.length from h)⟩
theorem fin_big {neg : Bool} {w f r : List UInt8} {m : Int × Int × Int} (hn : meas (Lib.mapD plainF r) = some m) (hw : ∀ b ∈ w, isDig b = true) (hf : ∀ b ∈ f, isDig b = true) (h3 : f.length ≤ 3) (h : 2000000000 ≤ wholeOf w * m.2.1) : fin neg w f r mkQ = (0, 0, 2) := by
  by_cases h0 : (frac f).1 * m.2.1 % 1000 = 0
  · rw [fin_split hn hw hf h3 _ rfl h0]
    obtain ⟨⟨k0, k5⟩, ⟨s0, s9⟩, d0, d9⟩ := meas_in hn
    have hfr := frac_in hf h3
    have hp : 0 ≤ (frac f).1 * m.2.1 := Int.mul_nonneg hfr.1 (by omega)
    refine mk_far k0 k5 ?_
    split <;> omega
  · exact fin_odd hn h3 h0
theorem fin_far {neg : Bool} {w f r : List UInt8} {m : Int × Int × Int} (hn : meas (Lib.mapD plainF r) = some m) (hw : ∀ b ∈ w, isDig b = true) (hf : ∀ b ∈ f, isDig b = true) (h3 : f.length ≤ 3) (h : 2000000000 < val w) : fin neg w f r mkQ = (0, 0, 2) := by
  refine fin_big hn hw hf h3 ?_
  have e := whole_val hw
  have hm := meas_in hn
  have : wholeOf w = 2000000000 := by omega
  rw [this]
  have := Int.mul_le_mul_of_nonneg_left (show 1 ≤ m.2.1 by omega) (show (0 : Int) ≤ 2000000000 by decide)
  omega
end Go.Proofs.YtpfpfnkagmmanaaGreatDoor
