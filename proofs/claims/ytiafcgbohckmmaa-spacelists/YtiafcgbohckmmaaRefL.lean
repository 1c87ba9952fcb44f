/- BoxesMay, BoxFirst walked. -/
import Derived.Test.YtiafcgbohckmmaaLst
import Derived.Test.YtiafcgbohckmmaaMvBase
namespace Go.Proofs.Ytiafcgbohckmmaa
open Go.RowKit

set_option maxHeartbeats 3200000 in
theorem BoxesMay_any (ao : Option Addr) (cap : Nat) (l : List Bx) (w : World) (hL : Bxs w ao l) (hll : l.length ≤ 9223372036854775807) :
    Calls Try.prog 22 #[.slice ao l.length cap] w fun e w' => e = .returned (.int .i64 (rlist l [])) ∧ Below w.heap.size w w' := by
  have HL : Hid (Bxs w ao l) := hL
  clear hL
  by_cases h : 40 < l.length
  · have HR : Hid (rlist l [] = 7) := rlist_many h
    go_enter Try.func22, Try.ntmps22
    go_wp2
    go_ret
    exact ⟨ret_int HR.out.symm, Below.refl _ _⟩
  · have h' : l.length ≤ 40 := by omega
    have hd : decide (40 < l.length) = false := by simp; omega
    have HR : Hid (rlist l [] = badL l) := by
      show _ = _
      by_cases hb : badL l = 0
      · rw [rlist_more h' hb, hb]; rfl
      · exact rlist_bad h' hb
    clear h
    go_enter Try.func22, Try.ntmps22
    go_wp2
    go_loopw [3] (fun i wr => ∃ k : Nat, k ≤ l.length ∧ i = .int .i64 k ∧ (∀ b ∈ l.take k, bad1 b = 0) ∧ Below w.heap.size w wr) (fun i _ => l.length - (intOf i).toNat)
    case atStart => exact ⟨0, Nat.zero_le _, rfl, (fun f hf => by simp at hf), Below.refl _ _⟩
    case round =>
      obtain ⟨k, hk, rfl, hok, hb⟩ := hrel
      have HB : Hid (Below w.heap.size w wr) := hb
      have HO : Hid (∀ b ∈ l.take k, bad1 b = 0) := hok
      clear hb hok
      by_cases hlt : k < l.length
      · obtain ⟨b, off, rfl, hbx⟩ := (HL.out.next HB.out).at hlt
        have HHit : Hid (bad1 (l[k]'hlt) ≠ 0 → badL l = bad1 (l[k]'hlt)) := badL_at hlt HO.out
        have HMiss : Hid (bad1 (l[k]'hlt) = 0 → ∀ b ∈ l.take (k + 1), bad1 b = 0) := take_succ_all hlt HO.out
        generalize l[k]'hlt = a at *
        obtain ⟨_, c0, c1, c2, c3, c4, c5⟩ := hbx
        by_cases hg : bad1 a = 0
        · have HG : Hid (bad1 a = 0) := hg
          clear hg
          go_wp2_with fail
          refine (BoxMay_r a 0 HG.out wr).mono ?_
          rintro e w2 ⟨rfl, hb2⟩
          go_wp2
          go_roundw
          case rel => exact ⟨k + 1, by omega, by go_num, HMiss.out HG.out, HB.out.trans (hb2.mono HB.out.size)⟩
          case measure => simp [intOf]; omega
        · have HG : Hid (bad1 a ≠ 0) := hg
          have hne : (bad1 a != 0) = true := by simp [hg]
          clear hg
          go_wp2_with fail
          refine (BoxMay_any a wr).mono ?_
          rintro e w2 ⟨rfl, hb2⟩
          go_wp2
          go_ret
          exact ⟨ret_int (by rw [HR.out, HHit.out HG.out]), HB.out.trans (hb2.mono HB.out.size)⟩
      · go_wp2
        go_ret
        exact ⟨ret_int (by rw [HR.out]; exact (badL_zero.2 fun b hb => HO.out b (by rw [List.take_of_length_le (by omega)]; exact hb)).symm), HB.out⟩
def bf4V (n cap b off k : Nat) (c a : Bx) (d : Nat) (v : Value) (_w : World) : Prop :=
  match d with
  | 12 => v = .slice (some ⟨b, off, none⟩) n cap
  | 13 => v = .int .i64 (k : Int)
  | 14 => v = .pointer (some ⟨b, off + k * 6, none⟩)
  | 15 => v = bv c
  | 16 => v = bv a
  | 17 => v = .bool (meet c a)
  | _ => True
set_option maxHeartbeats 3200000 in
set_option maxRecDepth 100000 in
theorem BoxFirst_any (ao : Option Addr) (cap : Nat) (l : List Bx) (a : Bx) (w : World) (hL : Bxs w ao l) (hll : l.length ≤ 40) :
    Calls Try.prog 23 #[.slice ao l.length cap, bv a] w fun e w' => e = .returned (.int .i64 (firstI l a)) ∧ Below w.heap.size w w' := by
  have HL : Hid (Bxs w ao l) := hL
  clear hL
  have KA : Hid (Bf w.heap.size a (w.alloc (bo a))) := Bf.new w a
  have HB0 : Hid (Below w.heap.size w (w.alloc (bo a))) := (Below.refl _ _).alloc (Nat.le_refl _) _
  go_enter Try.func23, Try.ntmps23
  go_wp2_with fail
  obtain ⟨w0, hw0⟩ : ∃ w0, w0 = w.alloc (bo a) := ⟨_, rfl⟩
  rw [← hw0] at KA HB0 ⊢
  clear hw0
  go_loopw [5] (fun i wr => ∃ k : Nat, k ≤ l.length ∧ i = .int .i64 k ∧ (∀ b ∈ l.take k, meet b a = false) ∧ Below w0.heap.size w0 wr) (fun i _ => l.length - (intOf i).toNat)
  case atStart => exact ⟨0, Nat.zero_le _, rfl, (fun f hf => by simp at hf), Below.refl _ _⟩
  case round =>
    obtain ⟨k, hk, rfl, hok, hb⟩ := hrel
    have HB : Hid (Below w0.heap.size w0 wr) := hb
    have HO : Hid (∀ b ∈ l.take k, meet b a = false) := hok
    clear hb hok
    by_cases hlt : k < l.length
    · obtain ⟨b, off, rfl, hbx⟩ := ((HL.out.next HB0.out).next HB.out).at hlt
      have HHit : Hid (meet (l[k]'hlt) a = true → firstI l a = k) := fun h => idx_hit (f := fun b => meet b a) hlt HO.out h
      have HMiss : Hid (meet (l[k]'hlt) a = false → ∀ b ∈ l.take (k + 1), meet b a = false) := take_succ_all (p := fun b => meet b a = false) hlt HO.out
      generalize l[k]'hlt = c at *
      obtain ⟨_, c0, c1, c2, c3, c4, c5⟩ := hbx
      obtain ⟨⟨_, a0, a1, a2, a3, a4, a5⟩, _⟩ := KA.out.later HB.out
      simp only [Nat.zero_add] at a1 a2 a3 a4 a5
      have hki : (k : Int) < (l.length : Int) := by omega
      go_wp2_with fail
      try rw [show decide ((k : Int) < (l.length : Int)) = true by simp; omega]
      refine region_inv [false, false, false, false, false, false, false, false, false, false, false, false, true, true, true, true, true, true, false]
        [(12, [], none), (13, [], none), (14, [12, 13], none), (15, [14], none), (16, [], none), (17, [15, 16], none)]
        (bf4V l.length cap b off k c a) (by kernel_rfl) (by kernel_rfl) (fun _ _ _ _ h _ => h) ?_ ?_
      · refine ⟨?_, ?_, ?_, ?_, ?_, ?_, trivial⟩
        · intro f wr2 hb _ K hK
          simp only [over, overL, Nat.reduceAdd]
          go_simp
          exact hK _ _ ⟨_, rfl, by simp only [over, overL, Nat.reduceAdd]; rfl, Below.refl _ _⟩
        · intro f wr2 hb _ K hK
          simp only [over, overL, Nat.reduceAdd]
          go_simp
          exact hK _ _ ⟨_, rfl, by simp only [over, overL, Nat.reduceAdd]; rfl, Below.refl _ _⟩
        · intro f wr2 hb ⟨h12, h13, _⟩ K hK
          have h12 : f 12 = _ := h12
          have h13 : f 13 = _ := h13
          simp only [over, overL, Nat.reduceAdd, h12, h13]
          go_simp
          exact hK _ _ ⟨_, rfl, by simp only [over, overL, Nat.reduceAdd, h12, h13]; rfl, Below.refl _ _⟩
        · intro f wr2 hb ⟨h14, _⟩ K hK
          have h14 : f 14 = _ := h14
          have cc0 := cell_later hb c0
          have cc1 := cell_later hb c1
          have cc2 := cell_later hb c2
          have cc3 := cell_later hb c3
          have cc4 := cell_later hb c4
          have cc5 := cell_later hb c5
          simp only [over, overL, Nat.reduceAdd, h14]
          go_simp
          exact hK _ _ ⟨_, rfl, by simp only [over, overL, Nat.reduceAdd, h14]; rfl, Below.refl _ _⟩
        · intro f wr2 hb _ K hK
          have ca0 := cell_later hb a0
          have ca1 := cell_later hb a1
          have ca2 := cell_later hb a2
          have ca3 := cell_later hb a3
          have ca4 := cell_later hb a4
          have ca5 := cell_later hb a5
          simp only [over, overL, Nat.reduceAdd]
          go_simp
          exact hK _ _ ⟨_, rfl, by simp only [over, overL, Nat.reduceAdd]; rfl, Below.refl _ _⟩
        · intro f wr2 hb ⟨h15, h16, _⟩ K hK
          have h15 : f 15 = _ := h15
          have h16 : f 16 = _ := h16
          simp only [over, overL, Nat.reduceAdd, h15, h16]
          go_simp
          refine (BoxMeet_any c a wr2).mono ?_
          rintro e w9 ⟨rfl, hbn⟩
          exact hK _ _ ⟨_, rfl, by simp only [over, overL, Nat.reduceAdd, h15, h16]; rfl, hbn⟩
      intro f w3 hb3 hv
      have h17 : f 17 = .bool (meet c a) := hv.2.2.2.2.2.1
      have HB3 : Hid (Below w0.heap.size w0 w3) := HB.out.trans (hb3.mono HB.out.size)
      clear c0 c1 c2 c3 c4 c5 a0 a1 a2 a3 a4 a5 hb3 hv
      simp only [over_eq, overL, Nat.reduceAdd, h17]
      clear h17
      cases hm : meet c a with
      | true =>
        go_wp2
        go_ret
        exact ⟨ret_int (HHit.out hm).symm, HB0.out.trans (HB3.out.mono HB0.out.size)⟩
      | false =>
        go_wp2
        go_roundw
        case rel => exact ⟨k + 1, by omega, by go_num, HMiss.out hm, HB3.out⟩
        case measure => simp [intOf]; omega
    · go_wp2
      go_ret
      exact ⟨ret_int (idx_miss (f := fun b => meet b a) fun b hb => HO.out b (by rw [List.take_of_length_le (by omega)]; exact hb)).symm, HB0.out.trans (HB.out.mono HB0.out.size)⟩
end Go.Proofs.Ytiafcgbohckmmaa
