/- unit.thousandths, walked: two ranges over strings of digits. -/
import Derived.Test.YtpfpfnkagmmanaaGreatDoorCut
namespace Go.Proofs.YtpfpfnkagmmanaaGreatDoor
open Go.RowKit Go.Shelf

theorem below_iter (w : World) (s : ByteArray) (p : Nat) : Below w.heap.size w (w.iter s p) := (Below.refl _ _).alloc (Nat.le_refl _) _
theorem decode_dig (s : ByteArray) (h : ∀ b ∈ s.data.toList, isDig b = true) (k : Nat) (hk : k < s.size) : Utf8.decode s k = (s[k].toNat, 1) ∧ 48 ≤ s[k].toNat ∧ s[k].toNat ≤ 57 := by
  have hm : s[k] ∈ s.data.toList := by
    have : s[k] = s.data[k] := rfl
    rw [this]; simp
  have := (isDig_iff _).1 (h _ hm)
  exact ⟨decode_ascii s k hk (by omega), this⟩
theorem take_snoc (s : ByteArray) (k : Nat) (h : k < s.size) : s.data.toList.take (k + 1) = s.data.toList.take k ++ [s[k]] := by
  rw [List.take_succ_eq_append_getElem (by simpa using h)]; rfl
theorem take_dig {s : ByteArray} (h : ∀ b ∈ s.data.toList, isDig b = true) (k : Nat) : ∀ b ∈ s.data.toList.take k, isDig b = true := fun b hb => h b (List.mem_of_mem_take hb)

theorem ret_int {k : IntKind} {a b : Int} (h : a = b) : Ending.returned (.int k a) = .returned (.int k b) := by rw [h]
theorem padded_list (f : ByteArray) : ((f ++ ⟨#[48, 48, 48]⟩).extract 0 3).data.toList = (f.data.toList ++ [48, 48, 48]).take 3 := by
  have h := Lib.size_eq f
  simp [ByteArray.data_extract, ByteArray.data_append]
  rw [List.take_append, ← h]
theorem padded_dig (f : ByteArray) (h : ∀ b ∈ f.data.toList, isDig b = true) : ∀ b ∈ ((f ++ ⟨#[48, 48, 48]⟩).extract 0 3).data.toList, isDig b = true := fun b hb => by
  rw [padded_list] at hb
  have := List.mem_of_mem_take hb
  simp only [List.mem_append, List.mem_cons, List.mem_nil_iff, or_false] at this
  rcases this with h1 | h1 | h1 | h1
  · exact h b h1
  all_goals (subst h1; decide)
theorem on_in (l : List UInt8) (n : Int) (h : ∀ b ∈ l, isDig b = true) (h0 : 0 ≤ n) (h1 : n ≤ 2000000000) (hl : l.length ≤ 3) : 0 ≤ l.foldl on n ∧ l.foldl on n ≤ 2000000000999 := by
  match l, hl with
  | [], _ => simp; omega
  | [a], _ => have ha := dg_in (h a (by simp)); simp only [List.foldl_cons, List.foldl_nil, on]; omega
  | [a, b], _ => have ha := dg_in (h a (by simp)); have hb := dg_in (h b (by simp)); simp only [List.foldl_cons, List.foldl_nil, on]; omega
  | [a, b, c], _ => have ha := dg_in (h a (by simp)); have hb := dg_in (h b (by simp)); have hc := dg_in (h c (by simp)); simp only [List.foldl_cons, List.foldl_nil, on]; omega

set_option maxHeartbeats 800000 in
set_option maxRecDepth 100000 in
theorem thousandths (s f : ByteArray) (w : World) (hs : ∀ b ∈ s.data.toList, isDig b = true) (hf : ∀ b ∈ f.data.toList, isDig b = true) (hfz : f.size ≤ 3) :
    Calls Tryz.prog 81 #[.string s, .string f] w fun e w' => e = .returned (.int .i64 (thou s.data.toList f.data.toList)) ∧ Below w.heap.size w w' := by
  have HS : Hid (∀ b ∈ s.data.toList, isDig b = true) := hs
  have HF : Hid (∀ b ∈ f.data.toList, isDig b = true) := hf
  clear hs hf
  go_enter Tryz.func81, Tryz.ntmps81
  go_wp2
  go_loopw [5] (fun n w' => ∃ k : Nat, k ≤ s.size ∧ w' = w.iter s k ∧ n = .int .i64 (wholeOf (s.data.toList.take k))) (fun _ w' => s.size - w'.iterPos w.heap.size)
  case atStart => exact ⟨0, Nat.zero_le _, rfl, rfl⟩
  case round =>
    obtain ⟨k, hk, rfl, rfl⟩ := hrel
    by_cases hlt : k < s.size
    · obtain ⟨hd, d0, d9⟩ := decode_dig s HS.out k hlt
      have hnx : ∀ ty, (Instr.next (.pointer (some ⟨w.heap.size, 0, none⟩)) true ty).run Tryz.prog (w.iter s k) = .ok (.tuple #[.bool true, .int .i64 k, .int .i32 s[k].toNat]) (w.iter s (k + 1)) := fun ty => by
        rw [run_next_any w s k ty hlt, hd]
      have hw := wholeOf_in _ (take_dig HS.out k)
      have HW : Hid (wholeOf (s.data.toList.take (k + 1)) = min (10 * wholeOf (s.data.toList.take k) + ((s[k].toNat : Int) - 48)) 2000000000) := by
        show _ = _
        rw [take_snoc s k hlt, wholeOf, List.foldl_append]; rfl
      obtain ⟨hw0, hw1⟩ := hw
      clear hd
      generalize wholeOf (s.data.toList.take k) = n at *
      generalize s[k].toNat = c at *
      go_wp2
      go_roundw
      case rel => exact ⟨k + 1, by omega, rfl, by rw [HW.out]⟩
      case measure => simp; omega
    · have hnx : ∀ ty, (Instr.next (.pointer (some ⟨w.heap.size, 0, none⟩)) true ty).run Tryz.prog (w.iter s k) = _ := fun ty => run_next_end w s k ty hlt
      go_wp2
      clear hnx
      have hpd := padded_list f
      have hw := wholeOf_in _ (take_dig HS.out k)
      have HW : Hid (thou s.data.toList f.data.toList = (f.data.toList ++ [48, 48, 48] |>.take 3).foldl on (wholeOf (s.data.toList.take k))) := by
        show _ = _
        rw [List.take_of_length_le (by simp; omega)]; rfl
      have hb0 := below_iter w s k
      obtain ⟨hw0, hw1⟩ := hw
      have hpg : ∀ b ∈ ((f ++ ⟨#[48, 48, 48]⟩).extract 0 3).data.toList, isDig b = true := padded_dig f HF.out
      generalize wholeOf (s.data.toList.take k) = n at *
      generalize (f ++ ⟨#[48, 48, 48]⟩).extract 0 3 = p at *
      generalize w.iter s k = w1 at *
      rw [← hpd] at HW
      have hp3 : p.size = 3 := by
        have := Lib.size_eq p
        rw [hpd, List.length_take, List.length_append] at this
        simp at this; omega
      have HP : Hid (∀ b ∈ p.data.toList, isDig b = true) := hpg
      clear hpg hpd
      go_loopw [5] (fun m w' => ∃ j : Nat, j ≤ 3 ∧ w' = w1.iter p j ∧ m = .int .i64 ((p.data.toList.take j).foldl on n)) (fun _ w' => 3 - w'.iterPos w1.heap.size)
      case atStart => exact ⟨0, Nat.zero_le _, rfl, rfl⟩
      case round =>
        obtain ⟨j, hj, rfl, rfl⟩ := hrel
        by_cases hlt2 : j < 3
        · have hlt3 : j < p.size := by omega
          obtain ⟨hd, d0, d9⟩ := decode_dig p HP.out j hlt3
          have hnx : ∀ ty, (Instr.next (.pointer (some ⟨w1.heap.size, 0, none⟩)) true ty).run Tryz.prog (w1.iter p j) = .ok (.tuple #[.bool true, .int .i64 j, .int .i32 p[j].toNat]) (w1.iter p (j + 1)) := fun ty => by
            rw [run_next_any w1 p j ty hlt3, hd]
          have hm := on_in (p.data.toList.take j) n (take_dig HP.out j) hw0 hw1 (by rw [List.length_take]; omega)
          obtain ⟨hm0, hm1⟩ := hm
          have HM : Hid ((p.data.toList.take (j + 1)).foldl on n = 10 * (p.data.toList.take j).foldl on n + ((p[j].toNat : Int) - 48)) := by
            show _ = _
            rw [take_snoc p j hlt3, List.foldl_append]; rfl
          clear hd
          generalize (p.data.toList.take j).foldl on n = m at *
          generalize p[j].toNat = c at *
          go_wp2
          go_roundw
          case rel => exact ⟨j + 1, by omega, rfl, by rw [HM.out]⟩
          case measure => simp; omega
        · have hnx : ∀ ty, (Instr.next (.pointer (some ⟨w1.heap.size, 0, none⟩)) true ty).run Tryz.prog (w1.iter p j) = _ := fun ty => run_next_end w1 p j ty (by omega)
          go_wp2
          go_ret
          refine ⟨ret_int ?_, hb0.trans ((below_iter w1 p j).mono hb0.size)⟩
          rw [HW.out, List.take_of_length_le (by have := Lib.size_eq p; omega)]
end Go.Proofs.YtpfpfnkagmmanaaGreatDoor
