/- unit.Read, whole: it comes to readL. -/
import Derived.Test.YtpfpfnkagmmanaaGreatDoorRead3
import Derived.Test.YtpfpfnkagmmanaaGreatDoorRead4
namespace Go.Proofs.YtpfpfnkagmmanaaGreatDoor
open Go.RowKit Go.Shelf

theorem enc4 (z : Int) : (Lib.encodeRune z).length ≤ 4 := by
  unfold Lib.encodeRune Lib.encodeRuneZ
  rw [List.length_map]
  split
  · simp
  · split
    · simp
    · split
      · simp
      · split <;> simp
theorem mapGo4 (f : Int → Int) : ∀ (n : Nat) (l : List UInt8), (Lib.mapGoD f n l).length ≤ 4 * n
  | 0, _ => by simp [Lib.mapGoD]
  | n + 1, l => by
    unfold Lib.mapGoD
    split
    · simp
    · have h1 := mapGo4 f n (l.drop (Lib.decodeL l).2)
      rw [List.length_append]
      split
      · have := enc4 (f (Lib.decodeL l).1); omega
      · simp; omega
theorem map4 (f : Int → Int) (l : List UInt8) : (Lib.mapD f l).length ≤ 4 * l.length := mapGo4 f l.length l

theorem fin_none {neg : Bool} {w f r : List UInt8} {mk : Int → Int → Int × Int × Int} (h : meas (Lib.mapD plainF r) = none) : fin neg w f r mk = (0, 0, 1) := by
  unfold fin; rw [h]
theorem fin_parts {neg : Bool} {w f r : List UInt8} {mk : Int → Int → Int × Int × Int} {m : Int × Int × Int} (h : meas (Lib.mapD plainF r) = some m) (hv : thou w f * m.2.1 % 1000 ≠ 0) : fin neg w f r mk = (0, 0, 2) := by
  unfold fin; rw [h]; exact if_pos hv
theorem fin_pos {w f r : List UInt8} {mk : Int → Int → Int × Int × Int} {m : Int × Int × Int} (h : meas (Lib.mapD plainF r) = some m) (h0 : 0 ≤ thou w f * m.2.1) (hv : thou w f * m.2.1 % 1000 = 0) : fin false w f r mk = mk m.1 (thou w f * m.2.1 / 1000 + m.2.2) := by
  unfold fin; rw [h]
  show (if thou w f * m.2.1 % 1000 ≠ 0 then _ else _) = _
  rw [if_neg (by simp [hv])]
  simp only [Bool.false_eq_true, if_false]
  rw [Int.tdiv_eq_ediv_of_nonneg h0]
theorem fin_neg {w f r : List UInt8} {mk : Int → Int → Int × Int × Int} {m : Int × Int × Int} (h : meas (Lib.mapD plainF r) = some m) (hv : thou w f * m.2.1 % 1000 = 0) : fin true w f r mk = mk m.1 (-((thou w f * m.2.1).tdiv 1000) + m.2.2) := by
  unfold fin; rw [h]
  show (if thou w f * m.2.1 % 1000 ≠ 0 then _ else _) = _
  rw [if_neg (by simp [hv])]
  simp only [if_true]
  rw [Int.neg_tdiv]

theorem read_any (l : List UInt8) (w : World) (hl : l.length < 35184372088832) (hT : Lib.Utf8Tabs 1 2 w) :
    Calls Tryz.prog 69 #[.string ⟨l.toArray⟩] w fun e w' => e = .returned (.tuple #[.agg #[.int .i64 (readL l mkQ).1, .int .i64 (readL l mkQ).2.1], .int .i64 (readL l mkQ).2.2]) ∧ Below w.heap.size w w' := by
  have hl0 : l.length ≤ maxLen := by unfold maxLen; omega
  by_cases h1 : (Lib.trimPrefix l [45]).takeWhile isDig = []
  · have e : readL l mkQ = (0, 0, 1) := if_pos h1
    rw [e]; exact read_noDigits l w hl0 h1
  · have e1 : readL l mkQ = if Lib.hasPrefix ((Lib.trimPrefix l [45]).dropWhile isDig) [46] = true then
        (if (Lib.trimPrefix ((Lib.trimPrefix l [45]).dropWhile isDig) [46]).takeWhile isDig = [] ∨ 3 < ((Lib.trimPrefix ((Lib.trimPrefix l [45]).dropWhile isDig) [46]).takeWhile isDig).length then (0, 0, 1)
          else fin (Lib.hasPrefix l [45]) ((Lib.trimPrefix l [45]).takeWhile isDig) ((Lib.trimPrefix ((Lib.trimPrefix l [45]).dropWhile isDig) [46]).takeWhile isDig) ((Lib.trimPrefix ((Lib.trimPrefix l [45]).dropWhile isDig) [46]).dropWhile isDig) mkQ)
        else fin (Lib.hasPrefix l [45]) ((Lib.trimPrefix l [45]).takeWhile isDig) [] ((Lib.trimPrefix l [45]).dropWhile isDig) mkQ := if_neg h1
    rw [e1]; clear e1
    have k0 := Lib.trimPrefix_le l [45]
    have k1 := split_len (Lib.trimPrefix l [45])
    have k2 := Lib.trimPrefix_le ((Lib.trimPrefix l [45]).dropWhile isDig) [46]
    have k3 := split_len (Lib.trimPrefix ((Lib.trimPrefix l [45]).dropWhile isDig) [46])
    have hd1 : ∀ b ∈ (Lib.trimPrefix l [45]).takeWhile isDig, isDig b = true := take_all
    have hd2 : ∀ b ∈ (Lib.trimPrefix ((Lib.trimPrefix l [45]).dropWhile isDig) [46]).takeWhile isDig, isDig b = true := take_all
    cases hd : Lib.hasPrefix ((Lib.trimPrefix l [45]).dropWhile isDig) [46]
    · rw [if_neg (by simp)]
      have hms : ((Lib.trimPrefix l [45]).dropWhile isDig).length < 35184372088832 := by omega
      have hmm : (Lib.mapD plainF ((Lib.trimPrefix l [45]).dropWhile isDig)).length ≤ maxLen := by
        have := map4 plainF ((Lib.trimPrefix l [45]).dropWhile isDig); unfold maxLen; omega
      cases hn : meas (Lib.mapD plainF ((Lib.trimPrefix l [45]).dropWhile isDig)) with
      | none => rw [fin_none hn]; exact read_plain_noUnit l w hl0 hT h1 hd hms hmm hn
      | some m =>
        by_cases hv : thou ((Lib.trimPrefix l [45]).takeWhile isDig) [] * m.2.1 % 1000 = 0
        · have ht := thou_in _ [] hd1 (by simp)
          have hm := meas_in hn
          have hv0 := (mul_in2 ht.1 ht.2 hm.2.1.1 hm.2.1.2).1
          cases hneg : Lib.hasPrefix l [45]
          · rw [fin_pos hn hv0 hv]; exact read_plain_pos l w hl0 hT _ _ _ rfl rfl rfl h1 hd hms hmm m hn hv hneg
          · rw [fin_neg hn hv]; exact read_plain_neg l w hl0 hT _ _ _ rfl rfl rfl h1 hd hms hmm m hn hv hneg
        · rw [fin_parts hn hv]; exact read_plain_parts l w hl0 hT _ _ _ rfl rfl rfl h1 hd hms hmm m hn hv
    · rw [if_pos rfl]
      by_cases hf : (Lib.trimPrefix ((Lib.trimPrefix l [45]).dropWhile isDig) [46]).takeWhile isDig = []
      · rw [if_pos (.inl hf)]; exact read_noFraction l w hl0 h1 hd hf
      · by_cases hf3 : 3 < ((Lib.trimPrefix ((Lib.trimPrefix l [45]).dropWhile isDig) [46]).takeWhile isDig).length
        · rw [if_pos (.inr hf3)]; exact read_longFraction l w hl0 h1 hd hf3
        · rw [if_neg (by rintro (h | h); exact hf h; exact hf3 h)]
          have hms : ((Lib.trimPrefix ((Lib.trimPrefix l [45]).dropWhile isDig) [46]).dropWhile isDig).length < 35184372088832 := by omega
          have hmm : (Lib.mapD plainF ((Lib.trimPrefix ((Lib.trimPrefix l [45]).dropWhile isDig) [46]).dropWhile isDig)).length ≤ maxLen := by
            have := map4 plainF ((Lib.trimPrefix ((Lib.trimPrefix l [45]).dropWhile isDig) [46]).dropWhile isDig); unfold maxLen; omega
          have hf4 : ((Lib.trimPrefix ((Lib.trimPrefix l [45]).dropWhile isDig) [46]).takeWhile isDig).length ≤ 3 := by omega
          cases hn : meas (Lib.mapD plainF ((Lib.trimPrefix ((Lib.trimPrefix l [45]).dropWhile isDig) [46]).dropWhile isDig)) with
          | none => rw [fin_none hn]; exact read_dot_noUnit l w hl0 hT h1 hd hf hf4 hms hmm hn
          | some m =>
            by_cases hv : thou ((Lib.trimPrefix l [45]).takeWhile isDig) ((Lib.trimPrefix ((Lib.trimPrefix l [45]).dropWhile isDig) [46]).takeWhile isDig) * m.2.1 % 1000 = 0
            · have ht := thou_in _ _ hd1 hd2
              have hm := meas_in hn
              have hv0 := (mul_in2 ht.1 ht.2 hm.2.1.1 hm.2.1.2).1
              cases hneg : Lib.hasPrefix l [45]
              · rw [fin_pos hn hv0 hv]; exact read_dot_pos l w hl0 hT _ _ _ _ _ _ rfl rfl rfl rfl rfl rfl h1 hd hf hf4 hms hmm m hn hv hneg
              · rw [fin_neg hn hv]; exact read_dot_neg l w hl0 hT _ _ _ _ _ _ rfl rfl rfl rfl rfl rfl h1 hd hf hf4 hms hmm m hn hv hneg
            · rw [fin_parts hn hv]; exact read_dot_parts l w hl0 hT _ _ _ _ _ _ rfl rfl rfl rfl rfl rfl h1 hd hf hf4 hms hmm m hn hv
end Go.Proofs.YtpfpfnkagmmanaaGreatDoor
