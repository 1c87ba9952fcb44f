/- The document's ReadSpot walked. -/
import Derived.Test.YtefjeohhdmmboaaDoorMid
namespace Go.Proofs.YtefjeohhdmmboaaDoor
open Go.RowKit

theorem digs_pos {a : List UInt8} (hd : ∀ b ∈ a, isDig b = true) (hne : a ≠ []) (h0 : a.head? ≠ some 48) : 1 ≤ digs a := by
  have key : ∀ (t : List UInt8) (n : Int), 1 ≤ n → (∀ b ∈ t, isDig b = true) → 1 ≤ t.foldl on n := by
    intro t
    induction t with
    | nil => intro n hn _; exact hn
    | cons b t ih =>
      intro n hn h
      have hb := (isDig_iff b).1 (h b (by simp))
      exact ih _ (by unfold on; omega) fun x hx => h x (by simp [hx])
  cases a with
  | nil => exact absurd rfl hne
  | cons b t =>
    have hb := (isDig_iff b).1 (hd b (by simp))
    have hb0 : b.toNat ≠ 48 := fun e => h0 (by
      have : b = 48 := UInt8.toNat.inj (by simpa using e)
      simp [this])
    show 1 ≤ (b :: t).foldl on 0
    rw [List.foldl_cons]
    exact key t _ (by unfold on; omega) fun x hx => hd x (by simp [hx])
/-- A number has one text. -/
theorem dec_digs : ∀ (n : Nat) (a : List UInt8), a.length = n → a ≠ [] → (∀ b ∈ a, isDig b = true) → (a.length ≤ 1 ∨ a.head? ≠ some 48) → Lib.decDigits (digs a).toNat = a := by
  intro n
  induction n with
  | zero => intro a ha hne; exact absurd (List.eq_nil_of_length_eq_zero ha) hne
  | succ n ih =>
    intro l hl hne hd hz
    obtain ⟨a, b, rfl⟩ : ∃ a b, l = a ++ [b] := ⟨l.dropLast, l.getLast hne, (List.dropLast_concat_getLast hne).symm⟩
    have hb := (isDig_iff b).1 (hd b (by simp))
    rw [digs_snoc]
    by_cases ha : a = []
    · subst ha
      have e : (10 * digs [] + ((b.toNat : Int) - 48)).toNat = b.toNat - 48 := by simp [digs]; omega
      rw [e, Lib.decDigits_one (by omega)]
      have : 48 + (b.toNat - 48) = b.toNat := by omega
      rw [this]
      simp
    · have had : ∀ x ∈ a, isDig x = true := fun x hx => hd x (by simp [hx])
      have hz2 : a.head? ≠ some 48 := by
        rcases hz with h | h
        · have : 1 ≤ a.length := by cases a with | nil => exact absurd rfl ha | cons _ _ => simp
          rw [List.length_append, List.length_singleton] at h; omega
        · intro e; apply h
          cases a with
          | nil => exact absurd rfl ha
          | cons x a => simpa using e
      have hp := digs_pos had ha hz2
      have h1 := ih a (by simpa using hl) ha had (.inr hz2)
      obtain ⟨m, hm⟩ : ∃ m : Nat, digs a = m := ⟨(digs a).toNat, by omega⟩
      rw [hm] at h1 hp ⊢
      have e : (10 * (m : Int) + ((b.toNat : Int) - 48)).toNat = 10 * m + (b.toNat - 48) := by omega
      rw [e, Lib.decDigits, dif_neg (by omega)]
      have e1 : (10 * m + (b.toNat - 48)) / 10 = m := by omega
      have e2 : 48 + (10 * m + (b.toNat - 48)) % 10 = b.toNat := by omega
      rw [e1, e2]
      simp at h1
      rw [h1]
      simp
theorem dec_of_num {t : List UInt8} (h : numOk t = true) : Lib.decDigits (digs t).toNat = t ∧ 0 ≤ digs t := by
  unfold numOk at h
  simp only [Bool.and_eq_true, decide_eq_true_eq, Bool.or_eq_true, List.all_eq_true, Bool.not_eq_true', beq_eq_false_iff_ne, ne_eq] at h
  obtain ⟨⟨⟨h1, h2⟩, h3⟩, h4⟩ := h
  exact ⟨dec_digs _ t rfl (by intro e; subst e; simp at h1) h4 h3, (digs_in t h4).1⟩

/-- A row's small letter. -/
def smallB (r : Nat) : UInt8 := UInt8.ofNat (97 + r)
def smallL (r c : Nat) : List UInt8 := smallB r :: Lib.decDigits (c + 1)
theorem lrow_small {r : Nat} (h : r < 16) : lrow (smallB r) = r := (by decide : ∀ r : Nat, r < 16 → lrow (smallB r) = (r : Int)) r h
theorem spotR_small {r c : Nat} (hr : r < 16) (hc : c < 24) : spotR (smallL r c) = ((r : Int), (c : Int), 0) := by
  have h := dec_ok hc
  have hs : spotOk r c 16 24 = true := spotOk_iff.2 ⟨⟨by omega, by omega⟩, by omega, by omega⟩
  simp only [smallL, spotR]
  rw [lrow_small hr, h.2, show (c : Int) + 1 - 1 = c by omega, if_pos ⟨h.1, hs⟩]
theorem letter_of {b : UInt8} {r : Nat} (hr : r < 16) (h : lrow b = r) : b = letterB r ∨ b = smallB r := by
  unfold lrow at h
  have h8 := b.toNat_lt
  by_cases hs : inR 97 122 (b.toNat : Int) = true
  · rw [if_pos hs] at h
    right
    apply UInt8.toNat.inj
    simp only [smallB, UInt8.toNat_ofNat']
    omega
  · rw [if_neg hs] at h
    left
    apply UInt8.toNat.inj
    simp only [letterB, UInt8.toNat_ofNat']
    omega
/-- Where no name fits there is no spot. -/
theorem spotR_none {l : List UInt8} (h : ∀ r c : Nat, r < 16 → c < 24 → l ≠ nameL r c ∧ l ≠ smallL r c) : spotR l = (0, 0, 1) := by
  cases l with
  | nil => rfl
  | cons b t =>
    simp only [spotR]
    by_cases hh : numOk t = true ∧ spotOk (lrow b) (digs t - 1) 16 24 = true
    · exfalso
      obtain ⟨h1, h2⟩ := hh
      obtain ⟨⟨s0, s1⟩, s2, s3⟩ := spotOk_iff.1 h2
      obtain ⟨d1, d2⟩ := dec_of_num h1
      obtain ⟨r, hr⟩ : ∃ r : Nat, lrow b = r := ⟨(lrow b).toNat, by omega⟩
      obtain ⟨c, hc⟩ : ∃ c : Nat, digs t = ((c + 1 : Nat) : Int) := ⟨(digs t).toNat - 1, by omega⟩
      rw [hc] at d1
      simp only [Int.toNat_natCast] at d1
      have hr16 : r < 16 := by omega
      have hc24 : c < 24 := by omega
      have hn := h r c hr16 hc24
      rcases letter_of hr16 hr with e | e
      · exact hn.1 (by rw [nameL, ← e, d1])
      · exact hn.2 (by rw [smallL, ← e, d1])
    · rw [if_neg hh]
theorem ext_small {r : Nat} (h : r < 16) : (⟨#[97, 98, 99, 100, 101, 102, 103, 104, 105, 106, 107, 108, 109, 110, 111, 112]⟩ : ByteArray).extract r (r + 1) = ⟨#[smallB r]⟩ :=
  (by decide : ∀ r, r < 16 → (⟨#[97, 98, 99, 100, 101, 102, 103, 104, 105, 106, 107, 108, 109, 110, 111, 112]⟩ : ByteArray).extract r (r + 1) = ⟨#[smallB r]⟩) r h

theorem over_eq (a : Act) (m : List Bool) (f : Nat → Value) : over a m f = { tmps := (overL f m 0 a.tmps.toList).toArray, defers := a.defers } := rfl
def rsV (l : List UInt8) (r c : Nat) (d : Nat) (v : Value) (_ : World) : Prop :=
  match d with
  | 18 => v = .string ⟨l.toArray⟩
  | 19 => v = .agg #[.int .i64 r, .int .i64 c]
  | 20 => v = .string ⟨(nameL r c).toArray⟩
  | 21 => v = .bool (l == nameL r c)
  | 22 => v = .bool (l == nameL r c)
  | 23 => (l == nameL r c) = false → v = .string ⟨l.toArray⟩
  | 24 => (l == nameL r c) = false → v = .int .i64 r
  | 25 => (l == nameL r c) = false → v = .int .i64 r
  | 26 => (l == nameL r c) = false → v = .int .i64 ((r + 1 : Nat) : Int)
  | 27 => (l == nameL r c) = false → v = .string ⟨#[smallB r]⟩
  | 28 => (l == nameL r c) = false → v = .int .i64 c
  | 29 => (l == nameL r c) = false → v = .int .i64 ((c + 1 : Nat) : Int)
  | 30 => (l == nameL r c) = false → v = .string ⟨(Lib.decDigits (c + 1)).toArray⟩
  | 31 => (l == nameL r c) = false → v = .string ⟨(smallL r c).toArray⟩
  | 32 => (l == nameL r c) = false → v = .bool (l == smallL r c)
  | 33 => v = .bool ((l == nameL r c) || (l == smallL r c))
  | _ => True

set_option maxHeartbeats 6400000 in
theorem readSpot_any (l : List UInt8) (w : World) :
    Calls Tryd.prog 17 #[.string ⟨l.toArray⟩] w fun e w' => e = .returned (.tuple #[.agg #[.int .i64 (spotR l).1, .int .i64 (spotR l).2.1], .bool (decide ((spotR l).2.2 = 0))]) ∧ Below w.heap.size w w' := by
  go_enter Tryd.func17, Tryd.ntmps17
  go_wp2_with fail
  obtain ⟨W, hW⟩ : ∃ W, W = w.alloc (.cells #[.int .i64 0, .int .i64 0] 33) := ⟨_, rfl⟩
  have hB : Below w.heap.size w W := by rw [hW]; exact (Below.refl _ _).alloc (Nat.le_refl _) _
  have c0 : W.cell? ⟨w.heap.size, 0, none⟩ = some (.int .i64 0) := by rw [hW]; go_simp
  have c1 : W.cell? ⟨w.heap.size, 1, none⟩ = some (.int .i64 0) := by rw [hW]; go_simp
  have f0 : W.frozen? ⟨w.heap.size, 0, none⟩ = false := by rw [hW]; go_simp
  have f1 : W.frozen? ⟨w.heap.size, 1, none⟩ = false := by rw [hW]; go_simp
  have lt : w.heap.size < W.heap.size := by rw [hW]; simp
  rw [← hW]
  clear hW
  go_loopw [4] (fun i wo => ∃ r : Nat, r ≤ 16 ∧ i = .int .i64 r ∧ Below W.heap.size W wo ∧ ∀ r' c : Nat, r' < r → c < 24 → l ≠ nameL r' c ∧ l ≠ smallL r' c) (fun i _ => 16 - (intOf i).toNat)
  case atStart => exact ⟨0, by omega, rfl, Below.refl _ _, fun r' c h => absurd h (Nat.not_lt_zero _)⟩
  case round =>
    obtain ⟨r, hr16, rfl, hbo, hgood⟩ := hrel
    have HG : Hid (∀ r' c : Nat, r' < r → c < 24 → l ≠ nameL r' c ∧ l ≠ smallL r' c) := hgood
    clear hgood
    obtain ⟨wo, rfl⟩ : ∃ wo, wo = wr := ⟨_, rfl⟩
    by_cases hr : r < 16
    · have q1 : decide ((r : Int) < 16) = true := by simp; omega
      go_wp2_with fail
      go_loopw [5] (fun i wi => ∃ c : Nat, c ≤ 24 ∧ i = .int .i64 c ∧ Below W.heap.size W wi ∧ ∀ c' : Nat, c' < c → l ≠ nameL r c' ∧ l ≠ smallL r c') (fun i _ => 24 - (intOf i).toNat)
      case atStart => exact ⟨0, by omega, rfl, hbo, fun c h => absurd h (Nat.not_lt_zero _)⟩
      case round =>
        obtain ⟨c, hc24, rfl, hbi, hgood⟩ := hrel
        have HI : Hid (∀ c' : Nat, c' < c → l ≠ nameL r c' ∧ l ≠ smallL r c') := hgood
        clear hgood
        by_cases hc : c < 24
        · have hw1 : IntKind.i64.wrap ((r : Int) + 1) = ((r + 1 : Nat) : Int) := by rw [wrap_in (by omega) (by omega)]; simp
          have hw2 : IntKind.i64.wrap ((c : Int) + 1) = ((c + 1 : Nat) : Int) := by rw [wrap_in (by omega) (by omega)]; simp
          have hext := ext_small hr
          have i0 : (0 : Int) ≤ (r : Int) := by omega
          have j0 : (0 : Int) ≤ (r : Int) + 1 := by omega
          have j1 : (r : Int) ≤ (r : Int) + 1 := by omega
          have j2 : (r : Int) + 1 ≤ 16 := by omega
          have hdl : ¬ 9223372036854775807 < 1 + (Lib.decDigits (c + 1)).length := by rw [dec_len (by omega)]; split <;> omega
          have hcat : (⟨#[smallB r]⟩ : ByteArray) ++ ⟨(Lib.decDigits (c + 1)).toArray⟩ = ⟨(smallL r c).toArray⟩ := by
            apply ByteArray.ext
            apply Array.ext'
            simp [smallL, ByteArray.data_append]
          have q2 : decide ((c : Int) < 24) = true := by simp; omega
          go_wp2_with fail
          refine region_inv [false, false, false, false, false, false, false, false, false, false, false, false, false, false, false, false, false, false, true, true, true, true, true, true, true, true, true, true, true, true, true, true, true, true, false, false]
            [(18, [], none), (19, [], none), (20, [19], none), (21, [18, 20], none), (22, [21], none), (23, [22], some (22, false)), (24, [22], some (22, false)), (25, [22], some (22, false)), (26, [22, 25], some (22, false)), (27, [22, 24, 26], some (22, false)), (28, [22], some (22, false)), (29, [22, 28], some (22, false)), (30, [22, 29], some (22, false)), (31, [22, 27, 30], some (22, false)), (32, [22, 23, 31], some (22, false)), (33, [22, 32], none)]
            (rsV l r c) (by kernel_rfl) (by kernel_rfl) (fun _ _ _ _ h _ => h) ?_ ?_
          refine ⟨?_, ?_, ?_, ?_, ?_, ?_, ?_, ?_, ?_, ?_, ?_, ?_, ?_, ?_, ?_, ?_, trivial⟩
          · intro f w1 hb _ K hK
            simp only [over, overL, Nat.reduceAdd]
            go_simp
            exact hK _ _ ⟨_, rfl, by simp only [over, overL, Nat.reduceAdd]; rfl, Below.refl _ _⟩
          · intro f w1 hb _ K hK
            have k0 : w1.cell? ⟨wr.heap.size, 0, none⟩ = some (.int .i64 r) := cell_later hb (by go_simp)
            have k1 : w1.cell? ⟨wr.heap.size, 1, none⟩ = some (.int .i64 c) := cell_later hb (by go_simp)
            simp only [over, overL, Nat.reduceAdd]
            go_simp
            exact hK _ _ ⟨_, rfl, by simp only [over, overL, Nat.reduceAdd]; rfl, Below.refl _ _⟩
          · intro f w1 hb ⟨h19, _⟩ K hK
            have h19 : f 19 = _ := h19
            simp only [over, overL, Nat.reduceAdd, h19]
            go_simp
            refine (spotName_any r c _ hr hc).mono ?_
            rintro e w2 ⟨rfl, hb2⟩
            exact hK _ _ ⟨_, rfl, by simp only [over, overL, Nat.reduceAdd, h19]; rfl, hb2⟩
          · intro f w1 hb ⟨h18, h20, _⟩ K hK
            have h18 : f 18 = _ := h18
            have h20 : f 20 = _ := h20
            simp only [over, overL, Nat.reduceAdd, h18, h20]
            go_simp
            exact hK _ _ ⟨_, rfl, by simp only [over, overL, Nat.reduceAdd, h18, h20]; rfl, Below.refl _ _⟩
          · intro f w1 hb ⟨h21, _⟩ K hK
            have h21 : f 21 = _ := h21
            simp only [over, overL, Nat.reduceAdd, h21]
            go_simp
            exact hK _ _ ⟨_, rfl, by simp only [over, overL, Nat.reduceAdd, h21]; rfl, Below.refl _ _⟩
          · intro f w1 hb ⟨h22, _⟩
            have h22 : f 22 = _ := h22
            refine ⟨fun hg => ?_, fun hg => ?_⟩
            rotate_left
            · intro hG; exact absurd (h22.trans (by rw [hG])) hg
            have hG := Value.bool.inj (h22.symm.trans hg)
            intro K hK
            simp only [over, overL, Nat.reduceAdd, h22, hG]
            go_simp
            exact hK _ _ ⟨_, (fun _ => rfl), by simp only [over, overL, Nat.reduceAdd, h22, hG]; rfl, Below.refl _ _⟩
          · intro f w1 hb ⟨h22, _⟩
            have h22 : f 22 = _ := h22
            refine ⟨fun hg => ?_, fun hg => ?_⟩
            rotate_left
            · intro hG; exact absurd (h22.trans (by rw [hG])) hg
            have hG := Value.bool.inj (h22.symm.trans hg)
            intro K hK
            simp only [over, overL, Nat.reduceAdd, h22, hG]
            go_simp
            exact hK _ _ ⟨_, (fun _ => rfl), by simp only [over, overL, Nat.reduceAdd, h22, hG]; rfl, Below.refl _ _⟩
          · intro f w1 hb ⟨h22, _⟩
            have h22 : f 22 = _ := h22
            refine ⟨fun hg => ?_, fun hg => ?_⟩
            rotate_left
            · intro hG; exact absurd (h22.trans (by rw [hG])) hg
            have hG := Value.bool.inj (h22.symm.trans hg)
            intro K hK
            simp only [over, overL, Nat.reduceAdd, h22, hG]
            go_simp
            exact hK _ _ ⟨_, (fun _ => rfl), by simp only [over, overL, Nat.reduceAdd, h22, hG]; rfl, Below.refl _ _⟩
          · intro f w1 hb ⟨h22, h25, _⟩
            have h22 : f 22 = _ := h22
            refine ⟨fun hg => ?_, fun hg => ?_⟩
            rotate_left
            · intro hG; exact absurd (h22.trans (by rw [hG])) hg
            have hG := Value.bool.inj (h22.symm.trans hg)
            intro K hK
            have h25 : f 25 = _ := h25 hG
            simp only [over, overL, Nat.reduceAdd, h22, h25, hG]
            go_simp
            exact hK _ _ ⟨_, (fun _ => rfl), by simp only [over, overL, Nat.reduceAdd, h22, h25, hG]; rfl, Below.refl _ _⟩
          · intro f w1 hb ⟨h22, h24, h26, _⟩
            have h22 : f 22 = _ := h22
            refine ⟨fun hg => ?_, fun hg => ?_⟩
            rotate_left
            · intro hG; exact absurd (h22.trans (by rw [hG])) hg
            have hG := Value.bool.inj (h22.symm.trans hg)
            intro K hK
            have h24 : f 24 = _ := h24 hG
            have h26 : f 26 = _ := h26 hG
            simp only [over, overL, Nat.reduceAdd, h22, h24, h26, hG]
            go_simp
            exact hK _ _ ⟨_, (fun _ => rfl), by simp only [over, overL, Nat.reduceAdd, h22, h24, h26, hG]; rfl, Below.refl _ _⟩
          · intro f w1 hb ⟨h22, _⟩
            have h22 : f 22 = _ := h22
            refine ⟨fun hg => ?_, fun hg => ?_⟩
            rotate_left
            · intro hG; exact absurd (h22.trans (by rw [hG])) hg
            have hG := Value.bool.inj (h22.symm.trans hg)
            intro K hK
            simp only [over, overL, Nat.reduceAdd, h22, hG]
            go_simp
            exact hK _ _ ⟨_, (fun _ => rfl), by simp only [over, overL, Nat.reduceAdd, h22, hG]; rfl, Below.refl _ _⟩
          · intro f w1 hb ⟨h22, h28, _⟩
            have h22 : f 22 = _ := h22
            refine ⟨fun hg => ?_, fun hg => ?_⟩
            rotate_left
            · intro hG; exact absurd (h22.trans (by rw [hG])) hg
            have hG := Value.bool.inj (h22.symm.trans hg)
            intro K hK
            have h28 : f 28 = _ := h28 hG
            simp only [over, overL, Nat.reduceAdd, h22, h28, hG]
            go_simp
            exact hK _ _ ⟨_, (fun _ => rfl), by simp only [over, overL, Nat.reduceAdd, h22, h28, hG]; rfl, Below.refl _ _⟩
          · intro f w1 hb ⟨h22, h29, _⟩
            have h22 : f 22 = _ := h22
            refine ⟨fun hg => ?_, fun hg => ?_⟩
            rotate_left
            · intro hG; exact absurd (h22.trans (by rw [hG])) hg
            have hG := Value.bool.inj (h22.symm.trans hg)
            intro K hK
            have h29 : f 29 = _ := h29 hG
            simp only [over, overL, Nat.reduceAdd, h22, h29, hG]
            go_simp
            refine (decN (c + 1) (by omega) _).mono ?_
            rintro e w2 ⟨rfl, hb2⟩
            exact hK _ _ ⟨_, (fun _ => rfl), by simp only [over, overL, Nat.reduceAdd, h22, h29, hG]; rfl, hb2⟩
          · intro f w1 hb ⟨h22, h27, h30, _⟩
            have h22 : f 22 = _ := h22
            refine ⟨fun hg => ?_, fun hg => ?_⟩
            rotate_left
            · intro hG; exact absurd (h22.trans (by rw [hG])) hg
            have hG := Value.bool.inj (h22.symm.trans hg)
            intro K hK
            have h27 : f 27 = _ := h27 hG
            have h30 : f 30 = _ := h30 hG
            simp only [over, overL, Nat.reduceAdd, h22, h27, h30, hG]
            go_simp
            exact hK _ _ ⟨_, (fun _ => rfl), by simp only [over, overL, Nat.reduceAdd, h22, h27, h30, hG]; rfl, Below.refl _ _⟩
          · intro f w1 hb ⟨h22, h23, h31, _⟩
            have h22 : f 22 = _ := h22
            refine ⟨fun hg => ?_, fun hg => ?_⟩
            rotate_left
            · intro hG; exact absurd (h22.trans (by rw [hG])) hg
            have hG := Value.bool.inj (h22.symm.trans hg)
            intro K hK
            have h23 : f 23 = _ := h23 hG
            have h31 : f 31 = _ := h31 hG
            simp only [over, overL, Nat.reduceAdd, h22, h23, h31, hG]
            go_simp
            exact hK _ _ ⟨_, (fun _ => rfl), by simp only [over, overL, Nat.reduceAdd, h22, h23, h31, hG]; rfl, Below.refl _ _⟩
          · intro f w1 hb ⟨h22, h32, _⟩ K hK
            have h22 : f 22 = _ := h22
            have h32 : (l == nameL r c) = false → f 32 = _ := h32
            cases hG : (l == nameL r c) with
            | true =>
              rw [hG] at h22
              simp only [over, overL, Nat.reduceAdd, h22]
              go_simp
              exact hK _ _ ⟨.bool true, by simp [rsV, hG], by simp only [over, overL, Nat.reduceAdd, h22]; rfl, Below.refl _ _⟩
            | false =>
              have h32 := h32 hG
              rw [hG] at h22
              simp only [over, overL, Nat.reduceAdd, h22, h32]
              go_simp
              exact hK _ _ ⟨.bool (l == smallL r c), by simp [rsV, hG], by simp only [over, overL, Nat.reduceAdd, h22, h32]; rfl, Below.refl _ _⟩
          intro f w1 hb h
          have h33 : f 33 = .bool ((l == nameL r c) || (l == smallL r c)) := h.2.2.2.2.2.2.2.2.2.2.2.2.2.2.2.1
          simp only [over_eq, overL, h33, Nat.reduceAdd]
          have hb1 : Below wr.heap.size wr w1 := ((Below.refl _ _).alloc (Nat.le_refl _) _).trans (hb.mono (by simp))
          have hBW : Below W.heap.size W w1 := hbi.trans (hb1.mono hbi.size)
          cases hh : ((l == nameL r c) || (l == smallL r c)) with
          | true =>
            have HS : Hid (spotR l = ((r : Int), (c : Int), 0)) := by
              simp only [Bool.or_eq_true, beq_iff_eq] at hh
              rcases hh with e | e
              · rw [e]; exact spotR_name hr hc
              · rw [e]; exact spotR_small hr hc
            have k0 : w1.cell? ⟨wr.heap.size, 0, none⟩ = some (.int .i64 r) := cell_later hb (by go_simp)
            have k1 : w1.cell? ⟨wr.heap.size, 1, none⟩ = some (.int .i64 c) := cell_later hb (by go_simp)
            have d0 : w1.cell? ⟨w.heap.size, 0, none⟩ = some (.int .i64 0) := cell_later hBW c0
            have d1 : w1.cell? ⟨w.heap.size, 1, none⟩ = some (.int .i64 0) := cell_later hBW c1
            have g0 : w1.frozen? ⟨w.heap.size, 0, none⟩ = false := (hBW.frozen (p := ⟨w.heap.size, 0, none⟩) lt).trans f0
            have g1 : w1.frozen? ⟨w.heap.size, 1, none⟩ = false := (hBW.frozen (p := ⟨w.heap.size, 1, none⟩) lt).trans f1
            go_wp2
            obtain ⟨x0, x1⟩ := box2 d0 d1 (.int .i64 r) (.int .i64 c)
            refine bodyPost_ret (v := .tuple #[.agg #[.int .i64 r, .int .i64 c], .bool true]) (by simp [results, Tryd.results17, go_sem, d0, d1]) rfl ⟨by rw [HS.out]; rfl, ?_⟩
            exact ((hB.trans (hBW.mono hB.size)).setCell (Nat.le_refl _) _).setCell (Nat.le_refl _) _
          | false =>
            have HN : Hid (l ≠ nameL r c ∧ l ≠ smallL r c) := by
              simp only [Bool.or_eq_false_iff, beq_eq_false_iff_ne] at hh
              exact hh
            go_wp2
            go_roundw
            case rel => exact ⟨c + 1, by omega, by go_num, hBW, fun c' h => (Nat.lt_succ_iff_lt_or_eq.1 h).elim (HI.out c') fun e => by rw [e]; exact HN.out⟩
            case measure => simp [intOf]; omega
        · have HI2 : Hid (∀ c' : Nat, c' < 24 → l ≠ nameL r c' ∧ l ≠ smallL r c') := fun c' h => HI.out c' (by omega)
          go_wp2
          go_roundw
          case rel => exact ⟨r + 1, by omega, by go_num, hbi, fun r' c' h h2 => (Nat.lt_succ_iff_lt_or_eq.1 h).elim (fun h => HG.out r' c' h h2) fun e => by rw [e]; exact HI2.out c' h2⟩
          case measure => simp [intOf]; omega
    · have HS : Hid (spotR l = (0, 0, 1)) := spotR_none fun r' c h h2 => HG.out r' c (by omega) h2
      have d0 : wo.cell? ⟨w.heap.size, 0, none⟩ = some (.int .i64 0) := cell_later hbo c0
      have d1 : wo.cell? ⟨w.heap.size, 1, none⟩ = some (.int .i64 0) := cell_later hbo c1
      have g0 : wo.frozen? ⟨w.heap.size, 0, none⟩ = false := (hbo.frozen (p := ⟨w.heap.size, 0, none⟩) lt).trans f0
      have g1 : wo.frozen? ⟨w.heap.size, 1, none⟩ = false := (hbo.frozen (p := ⟨w.heap.size, 1, none⟩) lt).trans f1
      go_wp2
      obtain ⟨x0, x1⟩ := box2 d0 d1 (.int .i64 0) (.int .i64 0)
      refine bodyPost_ret (v := .tuple #[.agg #[.int .i64 0, .int .i64 0], .bool false]) (by simp [results, Tryd.results17, go_sem, d0, d1]) rfl ⟨by rw [HS.out]; rfl, ?_⟩
      exact ((hB.trans (hbo.mono hB.size)).setCell (Nat.le_refl _) _).setCell (Nat.le_refl _) _
end Go.Proofs.YtefjeohhdmmboaaDoor
