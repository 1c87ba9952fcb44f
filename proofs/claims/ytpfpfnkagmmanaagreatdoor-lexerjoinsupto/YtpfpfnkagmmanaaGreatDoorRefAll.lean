/- The document's ReadQuantity, as a whole: it reads as readL does. -/
import Derived.Test.YtpfpfnkagmmanaaGreatDoorRefPos
import Derived.Test.YtpfpfnkagmmanaaGreatDoorRefNeg
import Derived.Test.YtpfpfnkagmmanaaGreatDoorRefNone
import Derived.Test.YtpfpfnkagmmanaaGreatDoorRefBad
import Derived.Test.YtpfpfnkagmmanaaGreatDoorRefDotPos
import Derived.Test.YtpfpfnkagmmanaaGreatDoorRefDotNeg
namespace Go.Proofs.YtpfpfnkagmmanaaGreatDoor
open Go.RowKit

theorem head_is {l : List UInt8} {b : UInt8} (h : l[0]? = some b) : Lib.hasPrefix l [45] = ((b.toNat : Int) == 45) := by
  cases l with
  | nil => simp at h
  | cons x t =>
    simp at h; subst h
    unfold Lib.hasPrefix
    simp only [List.isPrefixOf, Bool.and_true]
    rw [Bool.eq_iff_iff]
    simp only [beq_iff_eq]
    constructor
    · intro h; subst h; rfl
    · intro h; exact (UInt8.toNat.inj (by show (45 : UInt8).toNat = _; have : (45 : UInt8).toNat = 45 := rfl; omega))
theorem rest_drop (l : List UInt8) : l.dropWhile isDig = l.drop (l.takeWhile isDig).length := by
  have h : l.takeWhile isDig ++ l.dropWhile isDig = l := List.takeWhile_append_dropWhile
  have h2 := congrArg (List.drop (l.takeWhile isDig).length) h
  rw [List.drop_left'] at h2
  · exact h2
  · rfl
theorem no_digit {l : List UInt8} {i : Nat} {b : UInt8} (h : l[i]? = some b) (hw : (l.drop i).takeWhile isDig = []) : isDig b = false := by
  have hlt := (List.getElem?_eq_some_iff.1 h).1
  have e : l.drop i = b :: l.drop (i + 1) := by
    rw [List.drop_eq_getElem_cons hlt, (List.getElem?_eq_some_iff.1 h).2]
  rw [e] at hw
  cases hd : isDig b with
  | false => rfl
  | true => simp [List.takeWhile, hd] at hw
theorem readL_no {l : List UInt8} {i : Nat} (e0 : Lib.trimPrefix l [45] = l.drop i) (h : (l.drop i).takeWhile isDig = []) : readL l mkQ = (0, 0, 1) := by
  unfold readL
  simp only [e0, h, if_true]
theorem readL_flat {l : List UInt8} {i : Nat} {neg : Bool} (e0 : Lib.trimPrefix l [45] = l.drop i) (en : Lib.hasPrefix l [45] = neg) (h : (l.drop i).takeWhile isDig ≠ []) (hd : Lib.hasPrefix ((l.drop i).dropWhile isDig) [46] = false) :
    readL l mkQ = fin neg ((l.drop i).takeWhile isDig) [] ((l.drop i).dropWhile isDig) mkQ := by
  unfold readL
  simp only [e0, en, hd]
  rw [if_neg h]
  simp
theorem dot_drop {l : List UInt8} {i : Nat} (hd : Lib.hasPrefix ((l.drop i).dropWhile isDig) [46] = true) : Lib.trimPrefix ((l.drop i).dropWhile isDig) [46] = l.drop (i + ((l.drop i).takeWhile isDig).length + 1) := by
  unfold Lib.trimPrefix
  rw [hd]
  simp only [if_true]
  rw [rest_drop, List.drop_drop, List.drop_drop]
  rfl
theorem readL_dot {l : List UInt8} {i : Nat} {neg : Bool} (e0 : Lib.trimPrefix l [45] = l.drop i) (en : Lib.hasPrefix l [45] = neg) (h : (l.drop i).takeWhile isDig ≠ []) (hd : Lib.hasPrefix ((l.drop i).dropWhile isDig) [46] = true) :
    readL l mkQ = if (l.drop (i + ((l.drop i).takeWhile isDig).length + 1)).takeWhile isDig = [] ∨ 3 < ((l.drop (i + ((l.drop i).takeWhile isDig).length + 1)).takeWhile isDig).length then (0, 0, 1) else fin neg ((l.drop i).takeWhile isDig) ((l.drop (i + ((l.drop i).takeWhile isDig).length + 1)).takeWhile isDig) ((l.drop (i + ((l.drop i).takeWhile isDig).length + 1)).dropWhile isDig) mkQ := by
  unfold readL
  simp only [e0, en, hd]
  rw [if_neg h, if_pos trivial, dot_drop hd]

theorem ref_any (s : ByteArray) (w : World) (hs : s.size ≤ 1048576) :
    Calls Tryz.prog 28 #[.string s] w fun e w' => e = .returned (.tuple #[.agg #[.int .i64 (readL s.data.toList mkQ).1, .int .i64 (readL s.data.toList mkQ).2.1], .int .i64 (readL s.data.toList mkQ).2.2]) ∧ Below w.heap.size w w' := by
  by_cases hz : s.size = 0
  · have hl : s.data.toList = [] := List.length_eq_zero_iff.1 (by rw [← Lib.size_eq s]; exact hz)
    rw [hl]
    exact ref_none_empty s w hz
  · have hz : 0 < s.size := by omega
    have h0 := at_list s 0 hz
    have hp := head_is h0
    cases hb : ((s[0].toNat : Int) == 45) with
    | false =>
      rw [hb] at hp
      have e0 : Lib.trimPrefix s.data.toList [45] = s.data.toList.drop 0 := by unfold Lib.trimPrefix; rw [hp]; rfl
      by_cases h1 : (s.data.toList.drop 0).takeWhile isDig = []
      · rw [readL_no e0 h1]
        exact ref_none_pos s w hz hb (fun h => no_digit (at_list s 0 h) h1)
      · cases hd : Lib.hasPrefix ((s.data.toList.drop 0).dropWhile isDig) [46] with
        | false => exact ref_plain_pos s w s.data.toList _ _ _ rfl hs hz hb rfl rfl h1 hd (readL_flat e0 hp h1 hd).symm
        | true =>
          have hr := readL_dot e0 hp h1 hd
          by_cases hbad : (s.data.toList.drop (0 + ((s.data.toList.drop 0).takeWhile isDig).length + 1)).takeWhile isDig = [] ∨ 3 < ((s.data.toList.drop (0 + ((s.data.toList.drop 0).takeWhile isDig).length + 1)).takeWhile isDig).length
          · rw [if_pos hbad] at hr
            rw [hr]
            exact ref_bad_pos s w s.data.toList _ _ rfl hs hz hb rfl rfl _ _ rfl rfl h1 hd hbad
          · rw [if_neg hbad] at hr
            exact ref_dot_pos s w s.data.toList _ _ _ rfl hs hz hb rfl rfl _ _ rfl rfl h1 hd (fun e => hbad (.inl e)) (Nat.le_of_not_lt fun e => hbad (.inr e)) hr.symm
    | true =>
      rw [hb] at hp
      have e0 : Lib.trimPrefix s.data.toList [45] = s.data.toList.drop 1 := by unfold Lib.trimPrefix; rw [hp]; rfl
      by_cases h1 : (s.data.toList.drop 1).takeWhile isDig = []
      · rw [readL_no e0 h1]
        exact ref_none_neg s w hs hz hb (fun h => no_digit (at_list s 1 h) h1)
      · cases hd : Lib.hasPrefix ((s.data.toList.drop 1).dropWhile isDig) [46] with
        | false => exact ref_plain_neg s w s.data.toList _ _ _ rfl hs hz hb rfl rfl h1 hd (readL_flat e0 hp h1 hd).symm
        | true =>
          have hr := readL_dot e0 hp h1 hd
          by_cases hbad : (s.data.toList.drop (1 + ((s.data.toList.drop 1).takeWhile isDig).length + 1)).takeWhile isDig = [] ∨ 3 < ((s.data.toList.drop (1 + ((s.data.toList.drop 1).takeWhile isDig).length + 1)).takeWhile isDig).length
          · rw [if_pos hbad] at hr
            rw [hr]
            exact ref_bad_neg s w s.data.toList _ _ rfl hs hz hb rfl rfl _ _ rfl rfl h1 hd hbad
          · rw [if_neg hbad] at hr
            exact ref_dot_neg s w s.data.toList _ _ _ rfl hs hz hb rfl rfl _ _ rfl rfl h1 hd (fun e => hbad (.inl e)) (Nat.le_of_not_lt fun e => hbad (.inr e)) hr.symm
end Go.Proofs.YtpfpfnkagmmanaaGreatDoor
