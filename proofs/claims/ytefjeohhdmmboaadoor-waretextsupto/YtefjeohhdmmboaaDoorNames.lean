/- The law WareNames walked. -/
import Derived.Test.YtefjeohhdmmboaaDoorSpotB
namespace Go.Proofs.YtefjeohhdmmboaaDoor
open Go.RowKit

theorem picked_any (n m : Int) (w : World) (h0 : -9223372036854775808 ≤ n) (h1 : n ≤ 9223372036854775807) (hm : 0 < m) (hm2 : m ≤ 1000000) :
    Calls Tryd.prog 22 #[.int .i64 n, .int .i64 m] w fun e w' => ∃ k : Nat, (k : Int) < m ∧ e = .returned (.int .i64 k) ∧ w' = w := by
  by_cases hn : n < 0
  · have hw : IntKind.i64.wrap (n + 1) = n + 1 := wrap_in (by omega) (by omega)
    have HK : Hid (0 ≤ (-(n + 1)).tmod m ∧ (-(n + 1)).tmod m < m) := ⟨Int.tmod_nonneg _ (by omega), Int.tmod_lt_of_pos _ hm⟩
    have hne : m ≠ 0 := by omega
    go_enter Tryd.func22, Tryd.ntmps22
    go_wp2
    go_ret
    refine ⟨((-(n + 1)).tmod m).toNat, by have := HK.out; omega, ?_, rfl⟩
    rw [Int.toNat_of_nonneg HK.out.1, Int.neg_tmod]
    rfl
  · have HK : Hid (0 ≤ n.tmod m ∧ n.tmod m < m) := ⟨Int.tmod_nonneg _ (by omega), Int.tmod_lt_of_pos _ hm⟩
    have hne : m ≠ 0 := by omega
    go_enter Tryd.func22, Tryd.ntmps22
    go_wp2
    go_ret
    refine ⟨(n.tmod m).toNat, by have := HK.out; omega, ?_, rfl⟩
    rw [Int.toNat_of_nonneg HK.out.1, Int.tmod_eq_emod_of_nonneg hn]
    rfl

theorem dec_ok {c : Nat} (h : c < 24) : numOk (Lib.decDigits (c + 1)) = true ∧ digs (Lib.decDigits (c + 1)) = (c : Int) + 1 := by
  by_cases h1 : c + 1 < 10
  · rw [Lib.decDigits_one h1]
    exact (by decide : ∀ c, c < 9 → numOk [UInt8.ofNat (48 + (c + 1))] = true ∧ digs [UInt8.ofNat (48 + (c + 1))] = (c : Int) + 1) c (by omega)
  · rw [Lib.decDigits_two h1 (by omega)]
    exact (by decide : ∀ c, c < 24 → 9 ≤ c → numOk [UInt8.ofNat (48 + (c + 1) / 10), UInt8.ofNat (48 + (c + 1) % 10)] = true ∧ digs [UInt8.ofNat (48 + (c + 1) / 10), UInt8.ofNat (48 + (c + 1) % 10)] = (c : Int) + 1) c h (by omega)
theorem lrow_letter {r : Nat} (h : r < 16) : lrow (letterB r) = r := (by decide : ∀ r : Nat, r < 16 → lrow (letterB r) = (r : Int)) r h
theorem spotR_name {r c : Nat} (hr : r < 16) (hc : c < 24) : spotR (nameL r c) = ((r : Int), (c : Int), 0) := by
  have h := dec_ok hc
  have hs : spotOk r c 16 24 = true := spotOk_iff.2 ⟨⟨by omega, by omega⟩, by omega, by omega⟩
  simp only [nameL, spotR]
  rw [lrow_letter hr, h.2, show (c : Int) + 1 - 1 = c by omega, if_pos ⟨h.1, hs⟩]
theorem nameL_inj {r c r' c' : Nat} (hr : r < 16) (hc : c < 24) (hr' : r' < 16) (hc' : c' < 24) (h : nameL r c = nameL r' c') : r = r' ∧ c = c' := by
  have h1 := spotR_name hr hc
  rw [h, spotR_name hr' hc'] at h1
  simp only [Prod.mk.injEq] at h1
  omega
theorem nameL_len {c : Nat} (r : Nat) (h : c < 24) : (nameL r c).length ≤ 3 ∧ 1 ≤ (nameL r c).length := by
  have := dec_len (i := c + 1) (by omega)
  simp only [nameL, List.length_cons, this]
  split <;> omega
/-- The spot of a name, as a list of bytes. -/
theorem spot_list (l : List UInt8) (w : World) (h0 : 0 < l.length) (hs : l.length ≤ maxLen) :
    Calls Tryd.prog 14 #[.string ⟨l.toArray⟩] w fun e w' => e = .returned (.tuple #[.agg #[.int .i64 (spotR l).1, .int .i64 (spotR l).2.1], .int .i64 (spotR l).2.2]) ∧ Below w.heap.size w w' := by
  have h := spot_cons ⟨l.toArray⟩ w (by simpa [ByteArray.size] using h0) (by simpa [ByteArray.size] using hs)
  simpa using h

set_option maxHeartbeats 3200000 in
theorem wareNames_any (a b c d : Int) (w : World) (ha : -9223372036854775808 ≤ a) (ha1 : a ≤ 9223372036854775807) (hb : -9223372036854775808 ≤ b) (hb1 : b ≤ 9223372036854775807) (hc : -9223372036854775808 ≤ c) (hc1 : c ≤ 9223372036854775807) (hd : -9223372036854775808 ≤ d) (hd1 : d ≤ 9223372036854775807) :
    Calls Tryd.prog 6 #[.int .i64 a, .int .i64 b, .int .i64 c, .int .i64 d] w fun e w' => e = .returned (.bool true) ∧ Below w.heap.size w w' := by
  go_enter Tryd.func6, Tryd.ntmps6
  go_wp2_with fail
  refine (picked_any a 16 _ ha ha1 (by decide) (by decide)).mono ?_
  rintro e w ⟨r, hr, rfl, rfl⟩
  go_wp2_with fail
  refine (picked_any b 24 _ hb hb1 (by decide) (by decide)).mono ?_
  rintro e w ⟨k, hk, rfl, rfl⟩
  go_wp2_with fail
  refine (picked_any c 16 _ hc hc1 (by decide) (by decide)).mono ?_
  rintro e w ⟨r', hr', rfl, rfl⟩
  go_wp2_with fail
  refine (picked_any d 24 _ hd hd1 (by decide) (by decide)).mono ?_
  rintro e w ⟨k', hk', rfl, rfl⟩
  have hr : r < 16 := by omega
  have hk : k < 24 := by omega
  have hr' : r' < 16 := by omega
  have hk' : k' < 24 := by omega
  go_wp2_with fail
  refine (name_ok r k _ hr hk).mono ?_
  rintro e w1 ⟨rfl, hb1⟩
  have c0 : w1.cell? ⟨w.heap.size, 0, none⟩ = some (.int .i64 r) := cell_later hb1 (by go_simp)
  have c1 : w1.cell? ⟨w.heap.size, 1, none⟩ = some (.int .i64 k) := cell_later hb1 (by go_simp)
  have c2 : w1.cell? ⟨w.heap.size + 1, 0, none⟩ = some (.int .i64 r') := cell_later hb1 (by go_simp)
  have c3 : w1.cell? ⟨w.heap.size + 1, 1, none⟩ = some (.int .i64 k') := cell_later hb1 (by go_simp)
  have hB1 : Below w.heap.size w w1 := (((Below.refl _ _).alloc (Nat.le_refl _) _).alloc (by simp) _).trans (hb1.mono (by simp; omega))
  have hz1 : w.heap.size + 1 < w1.heap.size := by have := hb1.size; simp at this; omega
  clear hb1
  go_wp2_with fail
  refine (name_ok r' k' _ hr' hk').mono ?_
  rintro e w2 ⟨rfl, hb2⟩
  have c0 : w2.cell? ⟨w.heap.size, 0, none⟩ = some (.int .i64 r) := cell_later hb2 c0
  have c1 : w2.cell? ⟨w.heap.size, 1, none⟩ = some (.int .i64 k) := cell_later hb2 c1
  have c2 : w2.cell? ⟨w.heap.size + 1, 0, none⟩ = some (.int .i64 r') := cell_later hb2 c2
  have c3 : w2.cell? ⟨w.heap.size + 1, 1, none⟩ = some (.int .i64 k') := cell_later hb2 c3
  have hz2 : w.heap.size + 1 < w2.heap.size := by have := hb2.size; omega
  have hB2 : Below w.heap.size w w2 := hB1.trans (hb2.mono hB1.size)
  clear hb2
  go_wp2_with fail
  have hnl := nameL_len r hk
  have HM : Hid (nameL r k = nameL r' k' → r = r' ∧ k = k') := nameL_inj hr hk hr' hk'
  refine (spot_list (nameL r k) _ (by omega) (by unfold maxLen; omega)).mono ?_
  rintro e w3 ⟨rfl, hb3⟩
  rw [spotR_name hr hk]
  have c0 : w3.cell? ⟨w.heap.size, 0, none⟩ = some (.int .i64 r) := cell_later hb3 c0
  have c1 : w3.cell? ⟨w.heap.size, 1, none⟩ = some (.int .i64 k) := cell_later hb3 c1
  have c2 : w3.cell? ⟨w.heap.size + 1, 0, none⟩ = some (.int .i64 r') := cell_later hb3 c2
  have c3 : w3.cell? ⟨w.heap.size + 1, 1, none⟩ = some (.int .i64 k') := cell_later hb3 c3
  have hz3 : w.heap.size + 1 < w3.heap.size := by have := hb3.size; omega
  have hB3 : Below w.heap.size w w3 := hB2.trans (hb3.mono hB2.size)
  clear hb3
  have al : ∀ o, Below w3.heap.size w3 (w3.alloc o) := fun o => (Below.refl _ w3).alloc (Nat.le_refl _) o
  have d0 : ∀ o, (w3.alloc o).cell? ⟨w.heap.size, 0, none⟩ = some (.int .i64 r) := fun o => cell_later (al o) c0
  have d1 : ∀ o, (w3.alloc o).cell? ⟨w.heap.size, 1, none⟩ = some (.int .i64 k) := fun o => cell_later (al o) c1
  have d2 : ∀ o, (w3.alloc o).cell? ⟨w.heap.size + 1, 0, none⟩ = some (.int .i64 r') := fun o => cell_later (al o) c2
  have d3 : ∀ o, (w3.alloc o).cell? ⟨w.heap.size + 1, 1, none⟩ = some (.int .i64 k') := fun o => cell_later (al o) c3
  clear al
  go_wp2
  all_goals
    go_ret
    refine ⟨ret_bool ?_, hB3.alloc hB3.size _⟩
    first
      | (have hne : nameL r k ≠ nameL r' k' := fun e => by have := HM.out e; omega
         simp [hne])
      | (have h1 : r = r' := by omega
         have h2 : k = k' := by omega
         subst h1; subst h2; simp)
end Go.Proofs.YtefjeohhdmmboaaDoor
