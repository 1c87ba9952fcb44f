/- Spots of names: ware.Spot, keep.picked walked. -/
import Derived.Test.YtefjeohhdmmboaaDoorNum
import Derived.Test.YtefjeohhdmmboaaDoorName
namespace Go.Proofs.YtefjeohhdmmboaaDoor
open Go.RowKit

/-- The row that a letter tells. -/
def lrow (b : UInt8) : Int := (if inR 97 122 (b.toNat : Int) = true then (b.toNat : Int) - 32 else b.toNat) - 65
/-- The spot of a name: row, column, error. -/
def spotR (l : List UInt8) : Int × Int × Int :=
  match l with
  | [] => (0, 0, 1)
  | b :: t => if numOk t = true ∧ spotOk (lrow b) (digs t - 1) 16 24 = true then (lrow b, digs t - 1, 0) else (0, 0, 1)

theorem box2 {w : World} {b : Nat} {u0 u1 : Value} (c0 : w.cell? ⟨b, 0, none⟩ = some u0) (c1 : w.cell? ⟨b, 1, none⟩ = some u1) (x y : Value) :
    ((w.setCell ⟨b, 0, none⟩ x).setCell ⟨b, 1, none⟩ y).cell? ⟨b, 0, none⟩ = some x ∧
    ((w.setCell ⟨b, 0, none⟩ x).setCell ⟨b, 1, none⟩ y).cell? ⟨b, 1, none⟩ = some y := by
  refine ⟨?_, ?_⟩
  all_goals simp [go_sem, c0, c1]

set_option maxHeartbeats 1600000 in
theorem spot_nil (w : World) :
    Calls Tryd.prog 14 #[.string ⟨#[]⟩] w fun e w' => e = .returned (.tuple #[.agg #[.int .i64 0, .int .i64 0], .int .i64 1]) ∧ Below w.heap.size w w' := by
  go_enter Tryd.func14, Tryd.ntmps14
  go_wp2
  refine bodyPost_ret (v := .tuple #[.agg #[.int .i64 0, .int .i64 0], .int .i64 1]) (by simp [results, Tryd.results14, go_sem]) rfl ⟨rfl, (Below.refl _ _).alloc (Nat.le_refl _) _⟩

theorem numV_in (l : List UInt8) : 0 ≤ numV l ∧ numV l ≤ 9999999999 := by
  unfold numV
  split
  · rename_i h
    unfold numOk at h
    simp only [Bool.and_eq_true, decide_eq_true_eq, List.all_eq_true] at h
    have h1 := digs_in l h.2
    refine ⟨h1.1, ?_⟩
    have h2 : (10 : Int) ^ l.length ≤ 10000000000 := (by decide : ∀ k, k < 11 → (10 : Int) ^ k ≤ 10000000000) _ (by have := h.1.1.2; omega)
    omega
  · decide
theorem numV_ok {l : List UInt8} (h : numOk l = true) : numV l = digs l := if_pos h

set_option maxHeartbeats 6400000 in
theorem spot_cons (s : ByteArray) (w : World) (h0 : 0 < s.size) (hs : s.size ≤ maxLen) :
    Calls Tryd.prog 14 #[.string s] w fun e w' => e = .returned (.tuple #[.agg #[.int .i64 (spotR s.data.toList).1, .int .i64 (spotR s.data.toList).2.1], .int .i64 (spotR s.data.toList).2.2]) ∧ Below w.heap.size w w' := by
  unfold maxLen at hs
  have he : s.toList.isEmpty = false := by
    rw [ByteArray.toList_eq]
    have := lenL s
    cases e : s.data.toList with
    | nil => rw [e] at this; simp at this; omega
    | cons _ _ => rfl
  obtain ⟨b, hb⟩ : ∃ b, b = s[0]'h0 := ⟨_, rfl⟩
  have HW : Hid (wrap32 ((s[0]'h0).toNat : Int) = (b.toNat : Int)) := by
    rw [← hb]
    have := b.toNat_lt
    exact IntWalk.wrap32_in _ ⟨by omega, by omega⟩
  have hb8 : (b.toNat : Int) ≤ 255 := by have := b.toNat_lt; omega
  have hb0 : (0 : Int) ≤ (b.toNat : Int) := by omega
  have HE : Hid (b = s[0]'h0) := hb
  clear hb
  obtain ⟨T, hT⟩ : ∃ T, T = s.extract 1 s.size := ⟨_, rfl⟩
  have hL : s.data.toList = b :: T.data.toList := by
    rw [hT, HE.out]
    have hl := lenL s
    cases e : s.data.toList with
    | nil => rw [e] at hl; simp at hl; omega
    | cons x l =>
      have h1 := getL h0
      rw [e] at h1
      simp at h1
      have : (s.extract 1 s.size).data.toList = l := by
        rw [ByteArray.data_extract, Array.toList_extract, e]
        rw [e] at hl
        simp only [List.length_cons] at hl
        rw [← hl]
        simp
      rw [this, h1]
  have HL : Hid (s.data.toList = b :: T.data.toList) := hL
  clear hL
  have hTs : T.size ≤ maxLen := by rw [hT]; simp [maxLen]; omega
  have HT : Hid (T = s.extract 1 s.size) := hT
  clear hT
  obtain ⟨n0, n9⟩ := numV_in T.data.toList
  rw [HL.out]
  have HV : Hid (numOk T.data.toList = true → numV T.data.toList = digs T.data.toList) := numV_ok
  obtain ⟨n, hne⟩ : ∃ n, n = numV T.data.toList := ⟨_, rfl⟩
  have HN : Hid (numV T.data.toList = n) := hne.symm
  rw [← hne] at n0 n9
  clear hne
  cases hn : numOk T.data.toList with
  | false =>
    cases hv : inR 97 122 (b.toNat : Int) with
    | true =>
      have l1 := (inR_iff.1 hv).1
      have l2 := (inR_iff.1 hv).2
      have HR : Hid (spotR (b :: T.data.toList) = (0, 0, 1)) := show _ = _ by simp [spotR, hn]
      rw [HR.out]
      go_enter Tryd.func14, Tryd.ntmps14
      go_wp2_with (go_at_call 38; refine (within_rune _ _ _).mono ?_; rintro e w1 ⟨rfl, rfl⟩)
      rw [HW.out]
      refine (in_rune' _ 97 122 true hv _ _ _ (by go_simp) (by go_simp)).mono ?_
      rintro e w2 ⟨rfl, rfl⟩
      go_wp2_with fail
      rw [← HT.out]
      refine (number_any T _ hTs).mono ?_
      rintro e w2 ⟨rfl, hb2⟩
      rw [hn, HN.out]
      have c0 : w2.cell? ⟨w.heap.size, 0, none⟩ = some (.int .i64 0) := cell_later hb2 (by go_simp)
      have c1 : w2.cell? ⟨w.heap.size, 1, none⟩ = some (.int .i64 0) := cell_later hb2 (by go_simp)
      have f0 : w2.frozen? ⟨w.heap.size, 0, none⟩ = false := (hb2.frozen (p := ⟨w.heap.size, 0, none⟩) (by simp; omega)).trans (by go_simp)
      have f1 : w2.frozen? ⟨w.heap.size, 1, none⟩ = false := (hb2.frozen (p := ⟨w.heap.size, 1, none⟩) (by simp; omega)).trans (by go_simp)
      have lt : w.heap.size < w2.heap.size := by have := hb2.size; simp at this; omega
      have hB : Below w.heap.size w w2 := ((((Below.refl _ _).alloc (Nat.le_refl _) _).alloc (by simp) _).alloc (by simp; omega) _).trans (hb2.mono (by simp; omega))
      go_wp2
      refine bodyPost_ret (v := .tuple #[.agg #[.int .i64 0, .int .i64 0], .int .i64 1]) (by simp [results, Tryd.results14, go_sem, c0, c1, lt]) rfl ⟨rfl, ?_⟩
      exact ((hB.setCell (Nat.le_refl _) _).setCell (Nat.le_refl _) _).alloc (by simp [World.setCell]; omega) _
    | false =>
      have HR : Hid (spotR (b :: T.data.toList) = (0, 0, 1)) := show _ = _ by simp [spotR, hn]
      rw [HR.out]
      go_enter Tryd.func14, Tryd.ntmps14
      go_wp2_with (go_at_call 38; refine (within_rune _ _ _).mono ?_; rintro e w1 ⟨rfl, rfl⟩)
      rw [HW.out]
      refine (in_rune' _ 97 122 false hv _ _ _ (by go_simp) (by go_simp)).mono ?_
      rintro e w2 ⟨rfl, rfl⟩
      go_wp2_with fail
      rw [← HT.out]
      refine (number_any T _ hTs).mono ?_
      rintro e w2 ⟨rfl, hb2⟩
      rw [hn, HN.out]
      have c0 : w2.cell? ⟨w.heap.size, 0, none⟩ = some (.int .i64 0) := cell_later hb2 (by go_simp)
      have c1 : w2.cell? ⟨w.heap.size, 1, none⟩ = some (.int .i64 0) := cell_later hb2 (by go_simp)
      have f0 : w2.frozen? ⟨w.heap.size, 0, none⟩ = false := (hb2.frozen (p := ⟨w.heap.size, 0, none⟩) (by simp; omega)).trans (by go_simp)
      have f1 : w2.frozen? ⟨w.heap.size, 1, none⟩ = false := (hb2.frozen (p := ⟨w.heap.size, 1, none⟩) (by simp; omega)).trans (by go_simp)
      have lt : w.heap.size < w2.heap.size := by have := hb2.size; simp at this; omega
      have hB : Below w.heap.size w w2 := ((((Below.refl _ _).alloc (Nat.le_refl _) _).alloc (by simp) _).alloc (by simp; omega) _).trans (hb2.mono (by simp; omega))
      go_wp2
      refine bodyPost_ret (v := .tuple #[.agg #[.int .i64 0, .int .i64 0], .int .i64 1]) (by simp [results, Tryd.results14, go_sem, c0, c1, lt]) rfl ⟨rfl, ?_⟩
      exact ((hB.setCell (Nat.le_refl _) _).setCell (Nat.le_refl _) _).alloc (by simp [World.setCell]; omega) _
  | true =>
    cases hv : inR 97 122 (b.toNat : Int) with
    | true =>
      cases hsp : spotOk ((b.toNat : Int) - 32 - 65) (n - 1) 16 24 with
      | true =>
        have l1 := (inR_iff.1 hv).1
        have l2 := (inR_iff.1 hv).2
        have hrow : lrow b = ((b.toNat : Int) - 32 - 65) := by simp [lrow, hv]
        have hdg : digs T.data.toList = n := (HV.out hn).symm.trans HN.out
        have HR : Hid (spotR (b :: T.data.toList) = (((b.toNat : Int) - 32 - 65), n - 1, 0)) := show _ = _ by simp only [spotR, hn, hrow, hdg, hsp]; rfl
        clear hrow hdg
        rw [HR.out]
        go_enter Tryd.func14, Tryd.ntmps14
        go_wp2_with (go_at_call 38; refine (within_rune _ _ _).mono ?_; rintro e w1 ⟨rfl, rfl⟩)
        rw [HW.out]
        refine (in_rune' _ 97 122 true hv _ _ _ (by go_simp) (by go_simp)).mono ?_
        rintro e w2 ⟨rfl, rfl⟩
        go_wp2_with fail
        rw [← HT.out]
        refine (number_any T _ hTs).mono ?_
        rintro e w2 ⟨rfl, hb2⟩
        rw [hn, HN.out]
        have c0 : w2.cell? ⟨w.heap.size, 0, none⟩ = some (.int .i64 0) := cell_later hb2 (by go_simp)
        have c1 : w2.cell? ⟨w.heap.size, 1, none⟩ = some (.int .i64 0) := cell_later hb2 (by go_simp)
        have f0 : w2.frozen? ⟨w.heap.size, 0, none⟩ = false := (hb2.frozen (p := ⟨w.heap.size, 0, none⟩) (by simp; omega)).trans (by go_simp)
        have f1 : w2.frozen? ⟨w.heap.size, 1, none⟩ = false := (hb2.frozen (p := ⟨w.heap.size, 1, none⟩) (by simp; omega)).trans (by go_simp)
        have lt : w.heap.size < w2.heap.size := by have := hb2.size; simp at this; omega
        have hB : Below w.heap.size w w2 := ((((Below.refl _ _).alloc (Nat.le_refl _) _).alloc (by simp) _).alloc (by simp; omega) _).trans (hb2.mono (by simp; omega))
        go_wp2_with (go_at_call 37; refine (isSpot_any _ _ 16 24 _ (by decide) (by decide) (by decide) (by decide)).mono ?_; rintro e w3 ⟨rfl, hb3⟩; rw [hsp]; have d0 : w3.cell? ⟨w.heap.size, 0, none⟩ = some (.int .i64 0) := cell_later hb3 (by go_simp); have d1 : w3.cell? ⟨w.heap.size, 1, none⟩ = some (.int .i64 0) := cell_later hb3 (by go_simp); have g0 : w3.frozen? ⟨w.heap.size, 0, none⟩ = false := (hb3.frozen (p := ⟨w.heap.size, 0, none⟩) (by simp; omega)).trans (by go_simp); have g1 : w3.frozen? ⟨w.heap.size, 1, none⟩ = false := (hb3.frozen (p := ⟨w.heap.size, 1, none⟩) (by simp; omega)).trans (by go_simp); have e0 : w3.cell? ⟨w2.heap.size, 0, none⟩ = some (.int .i64 ((b.toNat : Int) - 32 - 65)) := cell_later hb3 (by go_simp); have e1 : w3.cell? ⟨w2.heap.size, 1, none⟩ = some (.int .i64 (n - 1)) := cell_later hb3 (by go_simp))
        obtain ⟨x0, x1⟩ := box2 d0 d1 (.int .i64 ((b.toNat : Int) - 32 - 65)) (.int .i64 (n - 1))
        refine bodyPost_ret (v := .tuple #[.agg #[.int .i64 ((b.toNat : Int) - 32 - 65), .int .i64 (n - 1)], .int .i64 0]) (by simp [results, Tryd.results14, go_sem, d0, d1]) rfl ⟨rfl, ?_⟩
        exact ((hB.alloc (Nat.le_of_lt lt) _).trans (hb3.mono (by simp; omega))).setCell (Nat.le_refl _) _ |>.setCell (Nat.le_refl _) _
      | false =>
        have l1 := (inR_iff.1 hv).1
        have l2 := (inR_iff.1 hv).2
        have hrow : lrow b = ((b.toNat : Int) - 32 - 65) := by simp [lrow, hv]
        have hdg : digs T.data.toList = n := (HV.out hn).symm.trans HN.out
        have HR : Hid (spotR (b :: T.data.toList) = (0, 0, 1)) := show _ = _ by simp only [spotR, hn, hrow, hdg, hsp]; rfl
        clear hrow hdg
        rw [HR.out]
        go_enter Tryd.func14, Tryd.ntmps14
        go_wp2_with (go_at_call 38; refine (within_rune _ _ _).mono ?_; rintro e w1 ⟨rfl, rfl⟩)
        rw [HW.out]
        refine (in_rune' _ 97 122 true hv _ _ _ (by go_simp) (by go_simp)).mono ?_
        rintro e w2 ⟨rfl, rfl⟩
        go_wp2_with fail
        rw [← HT.out]
        refine (number_any T _ hTs).mono ?_
        rintro e w2 ⟨rfl, hb2⟩
        rw [hn, HN.out]
        have c0 : w2.cell? ⟨w.heap.size, 0, none⟩ = some (.int .i64 0) := cell_later hb2 (by go_simp)
        have c1 : w2.cell? ⟨w.heap.size, 1, none⟩ = some (.int .i64 0) := cell_later hb2 (by go_simp)
        have f0 : w2.frozen? ⟨w.heap.size, 0, none⟩ = false := (hb2.frozen (p := ⟨w.heap.size, 0, none⟩) (by simp; omega)).trans (by go_simp)
        have f1 : w2.frozen? ⟨w.heap.size, 1, none⟩ = false := (hb2.frozen (p := ⟨w.heap.size, 1, none⟩) (by simp; omega)).trans (by go_simp)
        have lt : w.heap.size < w2.heap.size := by have := hb2.size; simp at this; omega
        have hB : Below w.heap.size w w2 := ((((Below.refl _ _).alloc (Nat.le_refl _) _).alloc (by simp) _).alloc (by simp; omega) _).trans (hb2.mono (by simp; omega))
        go_wp2_with (go_at_call 37; refine (isSpot_any _ _ 16 24 _ (by decide) (by decide) (by decide) (by decide)).mono ?_; rintro e w3 ⟨rfl, hb3⟩; rw [hsp]; have d0 : w3.cell? ⟨w.heap.size, 0, none⟩ = some (.int .i64 0) := cell_later hb3 (by go_simp); have d1 : w3.cell? ⟨w.heap.size, 1, none⟩ = some (.int .i64 0) := cell_later hb3 (by go_simp); have g0 : w3.frozen? ⟨w.heap.size, 0, none⟩ = false := (hb3.frozen (p := ⟨w.heap.size, 0, none⟩) (by simp; omega)).trans (by go_simp); have g1 : w3.frozen? ⟨w.heap.size, 1, none⟩ = false := (hb3.frozen (p := ⟨w.heap.size, 1, none⟩) (by simp; omega)).trans (by go_simp); have e0 : w3.cell? ⟨w2.heap.size, 0, none⟩ = some (.int .i64 ((b.toNat : Int) - 32 - 65)) := cell_later hb3 (by go_simp); have e1 : w3.cell? ⟨w2.heap.size, 1, none⟩ = some (.int .i64 (n - 1)) := cell_later hb3 (by go_simp))
        obtain ⟨x0, x1⟩ := box2 d0 d1 (.int .i64 0) (.int .i64 0)
        refine bodyPost_ret (v := .tuple #[.agg #[.int .i64 0, .int .i64 0], .int .i64 1]) (by simp [results, Tryd.results14, go_sem, d0, d1]) rfl ⟨rfl, ?_⟩
        exact ((hB.alloc (Nat.le_of_lt lt) _).trans (hb3.mono (by simp; omega))).setCell (Nat.le_refl _) _ |>.setCell (Nat.le_refl _) _
    | false =>
      cases hsp : spotOk ((b.toNat : Int) - 65) (n - 1) 16 24 with
      | true =>
        have hrow : lrow b = ((b.toNat : Int) - 65) := by simp [lrow, hv]
        have hdg : digs T.data.toList = n := (HV.out hn).symm.trans HN.out
        have HR : Hid (spotR (b :: T.data.toList) = (((b.toNat : Int) - 65), n - 1, 0)) := show _ = _ by simp only [spotR, hn, hrow, hdg, hsp]; rfl
        clear hrow hdg
        rw [HR.out]
        go_enter Tryd.func14, Tryd.ntmps14
        go_wp2_with (go_at_call 38; refine (within_rune _ _ _).mono ?_; rintro e w1 ⟨rfl, rfl⟩)
        rw [HW.out]
        refine (in_rune' _ 97 122 false hv _ _ _ (by go_simp) (by go_simp)).mono ?_
        rintro e w2 ⟨rfl, rfl⟩
        go_wp2_with fail
        rw [← HT.out]
        refine (number_any T _ hTs).mono ?_
        rintro e w2 ⟨rfl, hb2⟩
        rw [hn, HN.out]
        have c0 : w2.cell? ⟨w.heap.size, 0, none⟩ = some (.int .i64 0) := cell_later hb2 (by go_simp)
        have c1 : w2.cell? ⟨w.heap.size, 1, none⟩ = some (.int .i64 0) := cell_later hb2 (by go_simp)
        have f0 : w2.frozen? ⟨w.heap.size, 0, none⟩ = false := (hb2.frozen (p := ⟨w.heap.size, 0, none⟩) (by simp; omega)).trans (by go_simp)
        have f1 : w2.frozen? ⟨w.heap.size, 1, none⟩ = false := (hb2.frozen (p := ⟨w.heap.size, 1, none⟩) (by simp; omega)).trans (by go_simp)
        have lt : w.heap.size < w2.heap.size := by have := hb2.size; simp at this; omega
        have hB : Below w.heap.size w w2 := ((((Below.refl _ _).alloc (Nat.le_refl _) _).alloc (by simp) _).alloc (by simp; omega) _).trans (hb2.mono (by simp; omega))
        go_wp2_with (go_at_call 37; refine (isSpot_any _ _ 16 24 _ (by decide) (by decide) (by decide) (by decide)).mono ?_; rintro e w3 ⟨rfl, hb3⟩; rw [hsp]; have d0 : w3.cell? ⟨w.heap.size, 0, none⟩ = some (.int .i64 0) := cell_later hb3 (by go_simp); have d1 : w3.cell? ⟨w.heap.size, 1, none⟩ = some (.int .i64 0) := cell_later hb3 (by go_simp); have g0 : w3.frozen? ⟨w.heap.size, 0, none⟩ = false := (hb3.frozen (p := ⟨w.heap.size, 0, none⟩) (by simp; omega)).trans (by go_simp); have g1 : w3.frozen? ⟨w.heap.size, 1, none⟩ = false := (hb3.frozen (p := ⟨w.heap.size, 1, none⟩) (by simp; omega)).trans (by go_simp); have e0 : w3.cell? ⟨w2.heap.size, 0, none⟩ = some (.int .i64 ((b.toNat : Int) - 65)) := cell_later hb3 (by go_simp); have e1 : w3.cell? ⟨w2.heap.size, 1, none⟩ = some (.int .i64 (n - 1)) := cell_later hb3 (by go_simp))
        obtain ⟨x0, x1⟩ := box2 d0 d1 (.int .i64 ((b.toNat : Int) - 65)) (.int .i64 (n - 1))
        refine bodyPost_ret (v := .tuple #[.agg #[.int .i64 ((b.toNat : Int) - 65), .int .i64 (n - 1)], .int .i64 0]) (by simp [results, Tryd.results14, go_sem, d0, d1]) rfl ⟨rfl, ?_⟩
        exact ((hB.alloc (Nat.le_of_lt lt) _).trans (hb3.mono (by simp; omega))).setCell (Nat.le_refl _) _ |>.setCell (Nat.le_refl _) _
      | false =>
        have hrow : lrow b = ((b.toNat : Int) - 65) := by simp [lrow, hv]
        have hdg : digs T.data.toList = n := (HV.out hn).symm.trans HN.out
        have HR : Hid (spotR (b :: T.data.toList) = (0, 0, 1)) := show _ = _ by simp only [spotR, hn, hrow, hdg, hsp]; rfl
        clear hrow hdg
        rw [HR.out]
        go_enter Tryd.func14, Tryd.ntmps14
        go_wp2_with (go_at_call 38; refine (within_rune _ _ _).mono ?_; rintro e w1 ⟨rfl, rfl⟩)
        rw [HW.out]
        refine (in_rune' _ 97 122 false hv _ _ _ (by go_simp) (by go_simp)).mono ?_
        rintro e w2 ⟨rfl, rfl⟩
        go_wp2_with fail
        rw [← HT.out]
        refine (number_any T _ hTs).mono ?_
        rintro e w2 ⟨rfl, hb2⟩
        rw [hn, HN.out]
        have c0 : w2.cell? ⟨w.heap.size, 0, none⟩ = some (.int .i64 0) := cell_later hb2 (by go_simp)
        have c1 : w2.cell? ⟨w.heap.size, 1, none⟩ = some (.int .i64 0) := cell_later hb2 (by go_simp)
        have f0 : w2.frozen? ⟨w.heap.size, 0, none⟩ = false := (hb2.frozen (p := ⟨w.heap.size, 0, none⟩) (by simp; omega)).trans (by go_simp)
        have f1 : w2.frozen? ⟨w.heap.size, 1, none⟩ = false := (hb2.frozen (p := ⟨w.heap.size, 1, none⟩) (by simp; omega)).trans (by go_simp)
        have lt : w.heap.size < w2.heap.size := by have := hb2.size; simp at this; omega
        have hB : Below w.heap.size w w2 := ((((Below.refl _ _).alloc (Nat.le_refl _) _).alloc (by simp) _).alloc (by simp; omega) _).trans (hb2.mono (by simp; omega))
        go_wp2_with (go_at_call 37; refine (isSpot_any _ _ 16 24 _ (by decide) (by decide) (by decide) (by decide)).mono ?_; rintro e w3 ⟨rfl, hb3⟩; rw [hsp]; have d0 : w3.cell? ⟨w.heap.size, 0, none⟩ = some (.int .i64 0) := cell_later hb3 (by go_simp); have d1 : w3.cell? ⟨w.heap.size, 1, none⟩ = some (.int .i64 0) := cell_later hb3 (by go_simp); have g0 : w3.frozen? ⟨w.heap.size, 0, none⟩ = false := (hb3.frozen (p := ⟨w.heap.size, 0, none⟩) (by simp; omega)).trans (by go_simp); have g1 : w3.frozen? ⟨w.heap.size, 1, none⟩ = false := (hb3.frozen (p := ⟨w.heap.size, 1, none⟩) (by simp; omega)).trans (by go_simp); have e0 : w3.cell? ⟨w2.heap.size, 0, none⟩ = some (.int .i64 ((b.toNat : Int) - 65)) := cell_later hb3 (by go_simp); have e1 : w3.cell? ⟨w2.heap.size, 1, none⟩ = some (.int .i64 (n - 1)) := cell_later hb3 (by go_simp))
        obtain ⟨x0, x1⟩ := box2 d0 d1 (.int .i64 0) (.int .i64 0)
        refine bodyPost_ret (v := .tuple #[.agg #[.int .i64 0, .int .i64 0], .int .i64 1]) (by simp [results, Tryd.results14, go_sem, d0, d1]) rfl ⟨rfl, ?_⟩
        exact ((hB.alloc (Nat.le_of_lt lt) _).trans (hb3.mono (by simp; omega))).setCell (Nat.le_refl _) _ |>.setCell (Nat.le_refl _) _
end Go.Proofs.YtefjeohhdmmboaaDoor
