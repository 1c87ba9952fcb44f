/- strings.ContainsRune at the signs, for a rune from 128 on, walked. -/
import Derived.Test.YtpfpfnkagmmanaaGreatDoorLxP
import Derived.WalkMore
namespace Go.Proofs.YtpfpfnkagmmanaaGreatDoor
open Go.RowKit Go.Shelf

theorem b_high {c : Nat} : 128 ≤ (UInt8.ofNat (128 + c % 64)).toNat := by
  rw [UInt8.toNat_ofNat']
  omega
theorem encode_shape (R : Nat) (h : 128 ≤ R) : (∃ a x, Utf8.encode (R : Int) = ⟨#[a, x]⟩ ∧ 128 ≤ x.toNat) ∨ (∃ a b x, Utf8.encode (R : Int) = ⟨#[a, b, x]⟩ ∧ 128 ≤ x.toNat) ∨ (∃ a b c x, Utf8.encode (R : Int) = ⟨#[a, b, c, x]⟩ ∧ 128 ≤ x.toNat) := by
  unfold Utf8.encode
  obtain ⟨c, hc⟩ : ∃ c, (if Utf8.valid (R : Int) = true then (R : Int).toNat else Utf8.runeError) = c := ⟨_, rfl⟩
  have h128 : 128 ≤ c := by
    rw [← hc]
    split
    · simpa using h
    · decide
  simp only [hc]
  rw [if_neg (by omega)]
  split
  · exact .inl ⟨_, _, rfl, b_high⟩
  · split
    · exact .inr (.inl ⟨_, _, _, rfl, b_high⟩)
    · exact .inr (.inr ⟨_, _, _, _, rfl, b_high⟩)
theorem not_sign {x : UInt8} (h : 128 ≤ x.toNat) : x ∉ signL := fun hm => by
  have := (sign_all x hm).2.2.2.2.2.2
  omega
theorem ib_no {l : List UInt8} {x : UInt8} (h : x ∉ l) : Lib.indexByte l x = -1 := by
  have h1 := ib_low l x
  have h2 := mt (ib_mem l x).1 h
  omega
abbrev signA : ByteArray := ⟨#[43, 45, 42, 47, 40, 41, 123, 125, 46, 44, 61, 60]⟩
theorem sign_small (pos : Nat) (h : pos < signA.size) : (signA[pos]'h).toNat < 128 := by
  have : ∀ i : Fin 12, ((#[43, 45, 42, 47, 40, 41, 123, 125, 46, 44, 61, 60] : Array UInt8)[i.1]'i.2).toNat < 128 := by decide
  exact this ⟨pos, h⟩

theorem sign_tail (k : Nat) (x : UInt8) (h : x ∈ (signA.extract k 12).data.toList) : x ∈ signL := by
  rw [ByteArray.data_extract, Array.toList_extract, List.extract_eq_take_drop] at h
  exact List.mem_of_mem_drop (List.mem_of_mem_take h)
set_option maxHeartbeats 1600000 in
set_option maxRecDepth 1000000 in
theorem indexRune_bad (w : World) : Calls Tryz.prog 70 #[.string signA, .int .i32 65533] w fun e w' => e = .returned (.int .i64 (-1)) ∧ Below w.heap.size w w' := by
  go_enter Tryz.func70, Tryz.ntmps70
  go_wp2
  go_loopw [5] (fun _ wr => ∃ pos : Nat, pos ≤ 12 ∧ wr = w.iter signA pos) (fun _ wr => 12 - wr.iterPos w.heap.size)
  case atStart => exact ⟨0, Nat.zero_le _, rfl⟩
  case round =>
    obtain ⟨pos, hpos, rfl⟩ := hrel
    by_cases hp12 : pos < 12
    · have hp : pos < signA.size := hp12
      have ha := sign_small pos hp
      have hnx : ∀ ty, (Instr.next (.pointer (some ⟨w.heap.size, 0, none⟩)) true ty).run Tryz.prog (w.iter signA pos) = _ := fun ty => run_next_ascii w signA pos ty hp ha
      obtain ⟨c, hc⟩ : ∃ c : Nat, c = (signA[pos]'hp).toNat := ⟨_, rfl⟩
      rw [← hc] at hnx ha
      have hq : ((c : Int) == 65533) = false := by simp; omega
      clear hc
      go_wp2
      go_roundw
      case rel => exact ⟨pos + 1, by omega, rfl⟩
      case measure => simp; omega
    · obtain rfl : pos = 12 := by omega
      have hnx : ∀ ty, (Instr.next (.pointer (some ⟨w.heap.size, 0, none⟩)) true ty).run Tryz.prog (w.iter signA 12) = _ := fun ty => run_next_end w signA 12 ty (by decide)
      go_wp2
      go_ret
      exact ⟨rfl, (Below.refl _ _).alloc (Nat.le_refl _) _⟩
theorem indexByte_none (s : ByteArray) (x : UInt8) (w : World) (h : x ∉ s.data.toList) : Calls Tryz.prog 83 #[.string s, .int .u8 x.toNat] w fun e w' => e = .returned (.int .i64 (-1)) ∧ w' = w := by
  have := Tryz.strings_IndexByte s x.toNat w
  rw [Int.toNat_natCast, show x.toNat.toUInt8 = x from UInt8.ofNat_toNat, ib_no h] at this
  exact this
set_option maxHeartbeats 1600000 in
set_option maxRecDepth 1000000 in
theorem indexRune_any (R : Nat) (S U T : ByteArray) (K c x : Nat) (w : World) (hR : 128 ≤ R) (hne : R ≠ 65533) (he : Utf8.encode (R : Int) = U) (hU : U.size = K + 1) (hS : S.size = 12) (hK : K < 12)
    (i1 : ∀ W, (Instr.index 9 (.string S) (.int .i64 (K : Int))).run Tryz.prog W = .ok (.int .u8 (c : Int)) W) (i2 : ∀ W, (Instr.index 9 (.string U) (.int .i64 (K : Int))).run Tryz.prog W = .ok (.int .u8 (x : Int)) W)
    (s1 : ∀ W, (Instr.slice 9 (.string S) (some (.int .i64 ((K : Int) + 1))) none none).run Tryz.prog W = .ok (.string T) W) (hcx : c ≠ x)
    (hI : ∀ W, Calls Tryz.prog 83 #[.string T, .int .u8 (x : Int)] W fun e w' => e = .returned (.int .i64 (-1)) ∧ w' = W) :
    Calls Tryz.prog 70 #[.string S, .int .i32 (R : Int)] w fun e w' => e = .returned (.int .i64 (-1)) ∧ Below w.heap.size w w' := by
  have q1 : decide ((0 : Int) ≤ (R : Int)) = true := by simp
  have q2 : decide ((R : Int) < 128) = false := by simp; omega
  have q3 : ((R : Int) == 65533) = false := by simp; omega
  have HV : Hid (∀ W, Calls Tryz.prog 84 #[.int .i32 (R : Int)] W fun e w' => e = .returned (.bool (Lib.validRune (R : Int))) ∧ w' = W) := fun W => Tryz.utf8_ValidRune (R : Int) W
  have k0 : (0 : Int) ≤ (K : Int) + 1 := by omega
  have k1 : (K : Int) + 1 ≤ 12 := by omega
  have k2 : (K : Int) < 12 := by omega
  have HI : Hid (∀ W, Calls Tryz.prog 83 #[.string T, .int .u8 (x : Int)] W fun e w' => e = .returned (.int .i64 (-1)) ∧ w' = W) := hI
  have hb : ((c : Int) != (x : Int)) = true := by simp; omega
  have eIB : ∀ args w, (callFunc 83 args).run Tryz.prog w = .ok (.enter 83 args) w := enters_of Tryz.func83 (by kernel_rfl) rfl
  clear hI hcx hR hne
  go_enter Tryz.func70, Tryz.ntmps70
  go_wp2_with fail
  refine Calls.mono (HV.out _) ?_
  rintro e w' ⟨rfl, rfl⟩
  cases hv : Lib.validRune (R : Int) with
  | false =>
    go_wp2
    go_ret
    exact ⟨rfl, Below.refl _ _⟩
  | true =>
    clear hv HV
    go_wp2
    go_step3
    go_wp2
    go_loopg [9] 0 (fun _ s9 wr => s9 = .int .i64 (K : Int) ∧ wr = w')
    case atStart => exact ⟨by go_num, rfl⟩
    case round =>
      obtain ⟨rfl, rfl⟩ := hrel
      go_wp2_with fail
      go_step3
      go_wp2_with fail
      go_big_quiet (fail)
      go_wp2_with fail
      go_big_quiet (first | (go_at_call 83; exact Calls.mono (HI.out _) fun _ _ ⟨he, hw⟩ => ⟨he, _, hw⟩))
      go_wp2
      rw [Exit.noGoto_ret]
      go_wp2
      rw [Exit.noGoto_ret]
      go_ret
      exact ⟨rfl, below_drewN (Below.refl _ _) _⟩
theorem indexRune_high (R : Nat) (w : World) (hR : 128 ≤ R) : Calls Tryz.prog 70 #[.string signA, .int .i32 (R : Int)] w fun e w' => e = .returned (.int .i64 (-1)) ∧ Below w.heap.size w w' := by
  by_cases hne : R = 65533
  · subst hne; exact indexRune_bad w
  have go : ∀ (U : ByteArray) (K : Nat) (x : UInt8), Utf8.encode (R : Int) = U → U.size = K + 1 → K < 12 → (∀ h : K < U.size, U[K]'h = x) → 128 ≤ x.toNat → Calls Tryz.prog 70 #[.string signA, .int .i32 (R : Int)] w fun e w' => e = .returned (.int .i64 (-1)) ∧ Below w.heap.size w w' := by
    intro U K x he hU hK hx hx1
    have hKS : K < signA.size := hK
    have hKU : K < U.size := by omega
    have hsm := sign_small K hKS
    refine indexRune_any R signA U (signA.extract (K + 1) 12) K (signA[K]'hKS).toNat x.toNat w hR hne he hU rfl hK (fun W => ?_) (fun W => ?_) (fun W => ?_) (by omega) (fun W => indexByte_none _ x W (fun h => not_sign hx1 (sign_tail (K + 1) x h)))
    · rw [run_index_string W 9 signA .i64 (K : Int) Tryz.underlying9, dif_pos ⟨by omega, by show (K : Int) < ((12 : Nat) : Int); omega⟩]; rfl
    · rw [run_index_string W 9 U .i64 (K : Int) Tryz.underlying9, dif_pos ⟨by omega, by omega⟩, ← hx hKU]; rfl
    · rw [run_slice_string_l W 9 signA Tryz.underlying9 .i64 ((K : Int) + 1) (by omega) (by show _ ≤ ((12 : Nat) : Int); omega), show ((K : Int) + 1).toNat = K + 1 by omega]
      rfl
  rcases encode_shape R hR with ⟨a, x, he, hx⟩ | ⟨a, b, x, he, hx⟩ | ⟨a, b, c, x, he, hx⟩
  · exact go _ 1 x he rfl (by omega) (fun _ => rfl) hx
  · exact go _ 2 x he rfl (by omega) (fun _ => rfl) hx
  · exact go _ 3 x he rfl (by omega) (fun _ => rfl) hx
set_option maxHeartbeats 800000 in
theorem containsRune_high (R : Nat) (w : World) (hR : 128 ≤ R) : Calls Tryz.prog 46 #[.string signA, .int .i32 (R : Int)] w fun e w' => e = .returned (.bool false) ∧ Below w.heap.size w w' := by
  have HC := (show Hid _ from indexRune_high R w hR)
  go_enter Tryz.func46, Tryz.ntmps46
  go_wp2_with fail
  refine Calls.mono HC.out ?_
  rintro e w' ⟨rfl, hb⟩
  go_wp2
  go_ret
  exact ⟨rfl, hb⟩
theorem containsRune_low (b : UInt8) (w : World) (hb : b.toNat < 128) : Calls Tryz.prog 46 #[.string signA, .int .i32 (b.toNat : Int)] w fun e w' => e = .returned (.bool (signB b)) ∧ Below w.heap.size w w' := by
  have h := Tryz.strings_ContainsRune_ascii signA (b.toNat : Int) w (by omega) (by omega)
  rw [Int.toNat_natCast, show b.toNat.toUInt8 = b from UInt8.ofNat_toNat, indexByte_sign] at h
  exact h.mono fun _ _ ⟨he, hw⟩ => ⟨he, hw ▸ Below.refl _ _⟩
end Go.Proofs.YtpfpfnkagmmanaaGreatDoor
