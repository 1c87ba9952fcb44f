/- Lines, boxes and wells of a deck, plainly. -/
import Derived.Test.YtmmpaaaifdikdaaGreatDoorDP
import Derived.Test.YtmmpaaaifdikdaaGreatDoorDK
import Derived.Test.YtmmpaaaifdikdaaGreatDoorAll
namespace Go.Proofs.YtmmpaaaifdikdaaGreatDoor
open Go.RowKit

/-- The lines of a deck with their numbers. -/
def numbered : Nat → List Sit → List (Nat × List UInt8)
  | _, [] => []
  | n, s :: r => (n, lineL s) :: numbered (n + 1) r
theorem numbered_map : ∀ (n : Nat) (l : List Sit), (numbered n l).map (·.2) = l.map lineL
  | _, [] => rfl
  | n, s :: r => by simp only [numbered, List.map_cons, numbered_map (n + 1) r]
theorem deck_lines : ∀ (n : Nat) (l : List Sit), (∀ s ∈ l, plc s = 0 ∧ chk s.ware = 0) → Lines (deckL l) n (numbered n l)
  | n, [], _ => Lines.nil n
  | n, s :: r, h => by
    have h1 := h s (by simp)
    have e : deckL (s :: r) = lineL s ++ 10 :: deckL r := by simp [deckL]
    rw [e]
    refine Lines.more (lineL s) (deckL r) n (numbered (n + 1) r) ?_ (line_nl h1.1 h1.2) (deck_lines (n + 1) r fun t ht => h t (by simp [ht]))
    intro e2
    have := (line_size h1.1 h1.2).2
    rw [e2] at this
    simp at this
/-- Boxes of two slots do not meet. -/
theorem boxes_free {s t : Sit} (hne : s.slot ≠ t.slot) (h1 : s.ware.wid ≤ 132500) (h2 : s.ware.len ≤ 90500) (h3 : t.ware.wid ≤ 132500) (h4 : t.ware.len ≤ 90500) : S.meet (boxOf s) (boxOf t) = false := by
  cases h : S.meet (boxOf s) (boxOf t) with
  | false => rfl
  | true =>
    exfalso
    have h := S.meet_iff.1 h
    unfold boxOf cx cy at h
    simp only at h
    omega
theorem box_ok {s : Sit} (hp : plc s = 0) (h0 : chk s.ware = 0) : S.bad1 (boxOf s) = 0 := by
  obtain ⟨p1, p2, _⟩ := plc_in hp
  have hx := cx_in (n := s.slot)
  have hy := cy_in p1 p2
  obtain ⟨_, _, _, _, _, _, _, _, _, _, _, _, _, _, _, _, _, _⟩ := chk_inR h0
  rw [S.bad1_ok, S.nearB_iff, S.atMost_iff]
  unfold boxOf
  simp only
  omega
theorem boxes_rlist {l : List Sit} (h : Good l) : S.rlist (l.map boxOf) [] = 0 := by
  rw [S.rlist_zero]
  refine ⟨by rw [List.length_map]; have := h.len; omega, S.badL_zero.2 fun b hb => ?_, rfl⟩
  obtain ⟨s, hs, rfl⟩ := List.mem_map.1 hb
  exact box_ok (h.each s hs).1 (h.each s hs).2.1
theorem boxes_apart {l : List Sit} (h : Good l) : S.Apt (l.map boxOf) (-1) (-1) := by
  refine S.pair_end fun p q hp hq _ => ?_
  simp only [List.getElem_map]
  rw [List.length_map] at hq
  obtain ⟨_, _, a3, a4⟩ := h.each _ (List.getElem_mem (show p < l.length by omega))
  obtain ⟨_, _, b3, b4⟩ := h.each _ (List.getElem_mem hq)
  exact boxes_free (List.pairwise_iff_getElem.1 h.apart p q (by omega) hq hp).1 a3 a4 b3 b4
/-- Which one is picked. -/
def pk (n m : Int) : Nat := (if n < 0 then (-(n + 1)).tmod m else n.tmod m).toNat
theorem pk_lt {n m : Int} (hm : 0 < m) : ((pk n m : Nat) : Int) < m := by
  unfold pk
  split
  · have h1 := Int.tmod_nonneg (a := -(n + 1)) m (by omega)
    have h2 := Int.tmod_lt_of_pos (-(n + 1)) hm
    omega
  · have h1 := Int.tmod_nonneg (a := n) m (by omega)
    have h2 := Int.tmod_lt_of_pos n hm
    omega
theorem picked_is (n m : Int) (w : World) (h0 : -9223372036854775808 ≤ n) (h1 : n ≤ 9223372036854775807) (hm : 0 < m) (hm2 : m ≤ 1000000) :
    Calls Tryz.prog 18 #[.int .i64 n, .int .i64 m] w fun e w' => e = .returned (.int .i64 ((pk n m : Nat) : Int)) ∧ w' = w := by
  by_cases hn : n < 0
  · have hw : IntKind.i64.wrap (n + 1) = n + 1 := wrap_in (by omega) (by omega)
    have HK : Hid (((pk n m : Nat) : Int) = (-(n + 1)).tmod m) := by
      show _ = _
      unfold pk
      rw [if_pos hn, Int.toNat_of_nonneg (Int.tmod_nonneg _ (by omega))]
    have hne : m ≠ 0 := by omega
    go_enter Tryz.func18, Tryz.ntmps18
    go_wp2
    go_ret
    refine ⟨?_, rfl⟩
    rw [HK.out, Int.neg_tmod]
    rfl
  · have HK : Hid (((pk n m : Nat) : Int) = n.tmod m) := by
      show _ = _
      unfold pk
      rw [if_neg hn, Int.toNat_of_nonneg (Int.tmod_nonneg _ (by omega))]
    have hne : m ≠ 0 := by omega
    go_enter Tryz.func18, Tryz.ntmps18
    go_wp2
    go_ret
    refine ⟨?_, rfl⟩
    rw [HK.out, Int.tmod_eq_emod_of_nonneg (by omega)]
    rfl
/-- A well is within its ware's box. -/
theorem well_in {s : Sit} (h0 : chk s.ware = 0) {r c : Int} (hsp : spotOk r c s.ware.rows s.ware.cols = true) :
    (boxOf s).lx ≤ cx s.slot + (s.ware.x + c * s.ware.pitch) ∧ cx s.slot + (s.ware.x + c * s.ware.pitch) ≤ (boxOf s).hx ∧ (boxOf s).ly ≤ cy s.slot + (s.ware.y + r * s.ware.pitch) ∧ cy s.slot + (s.ware.y + r * s.ware.pitch) ≤ (boxOf s).hy ∧ (boxOf s).lz ≤ 0 + (s.ware.hei - s.ware.deep) ∧ 0 + (s.ware.hei - s.ware.deep) ≤ (boxOf s).hz := by
  have hin := chk_inR h0
  have h4 := (chk_in h0).2.2.2.2.2
  simp only [roomOk, Bool.and_eq_true, decide_eq_true_eq] at h4
  have h1 := spotOk_iff.1 hsp
  have hc : c * s.ware.pitch ≤ (s.ware.cols - 1) * s.ware.pitch := Int.mul_le_mul_of_nonneg_right (by omega) hin.p0
  have hr : r * s.ware.pitch ≤ (s.ware.rows - 1) * s.ware.pitch := Int.mul_le_mul_of_nonneg_right (by omega) hin.p0
  have hc0 : 0 ≤ c * s.ware.pitch := Int.mul_nonneg h1.2.1 hin.p0
  have hr0 : 0 ≤ r * s.ware.pitch := Int.mul_nonneg h1.1.1 hin.p0
  obtain ⟨_, _, _, _, _, _, _, _, _, _, _, _, _, _, _, _, _, _⟩ := hin
  unfold boxOf
  simp only
  omega
/-- The spot that is picked is one of the ware's. -/
theorem spot_in {R C i : Nat} (h : i < C * R) : spotOk ((i % R : Nat) : Int) ((i / R : Nat) : Int) R C = true := by
  have hR : 0 < R := by
    rcases Nat.eq_zero_or_pos R with e | e
    · subst e; simp at h
    · exact e
  have h1 := Nat.mod_lt i hR
  have h2 : i / R < C := Nat.div_lt_of_lt_mul (by rw [Nat.mul_comm]; exact h)
  rw [spotOk_iff]
  generalize i % R = a at *
  generalize i / R = b at *
  omega

end Go.Proofs.YtmmpaaaifdikdaaGreatDoor
