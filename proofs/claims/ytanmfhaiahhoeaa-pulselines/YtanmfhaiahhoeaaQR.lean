/- Lists copied, and held against one another. -/
import Derived.Test.YtanmfhaiahhoeaaQQ
namespace Go.Proofs.Ytanmfhaiahhoeaa
open Go.RowKit

theorem RdI.rdR {w : World} {ao : Option Addr} {l : List Int} (h : RdI w ao l) : RdR encI w ao l := by
  rcases h with h | ⟨b, off, e, hlt, hc⟩
  · exact .inl h
  · refine .inr ⟨b, off, e, hlt, fun k hk j hj => ?_⟩
    have hj2 : j = 0 := by simp [encI] at hj; exact hj
    subst hj2
    have := hc k hk
    simpa [encI] using this
set_option maxHeartbeats 1600000 in
theorem ints_any (ao : Option Addr) (cap : Nat) (l : List Int) (w : World) (h : RdI w ao l) (hn : ao = none → cap = 0) (hreach : l.length * 8 ≤ 140737488351232) :
    Calls Try.prog 9 #[.slice ao l.length cap] w fun e w' => ∃ ao2 cap2, e = .returned (.slice ao2 l.length cap2) ∧ RdI w' ao2 l ∧ Below w.heap.size w w' := by
  have HF : Hid (RdI w ao l) := h
  clear h
  cases ao with
  | none =>
    obtain rfl : l = [] := by
      rcases HF.out with h | ⟨b, off, h, _⟩
      · exact h
      · cases h
    rw [hn rfl]
    simp only [List.length_nil]
    go_enter Try.func9, Try.ntmps9
    go_wp2
    go_ret
    exact ⟨none, ⟨0, rfl⟩, .inl rfl, Below.refl _ _⟩
  | some a =>
    clear hn
    go_enter Try.func9, Try.ntmps9
    go_wp2_with (at_builtin; refine wpList_append_list goodI Try.underlying24 infoI rfl (by decide) _ rfl (.const (.slice none 0 0)) (.tmp 3) rfl w.heap.size (.slice none 0 0) [] rfl (OwnR.nil _ _ _) a cap l rfl HF.out.rdR (by simp [maxLen]; omega) (by simp; omega) (Nat.le_refl _) ?_; intro v' w1 ho hg _)
    go_ret
    obtain ⟨ao2, cap2, e, hr⟩ := own_rdI ho
    rw [List.nil_append] at e hr
    exact ⟨ao2, cap2, by rw [← e]; rfl, hr, (Below.refl _ _).grown hg (Nat.le_refl _) (fun k hk => by cases hk)⟩
theorem RdP.at {w : World} {ao : Option Addr} {l : List V3} (h : RdP w ao l) {k : Nat} (hk : k < l.length) : ∃ b off, ao = some ⟨b, off, none⟩ ∧ w.cell? ⟨b, off + k * 3, none⟩ = some (.int .i64 (l[k]'hk).x) ∧ w.cell? ⟨b, off + k * 3 + 1, none⟩ = some (.int .i64 (l[k]'hk).y) ∧ w.cell? ⟨b, off + k * 3 + 2, none⟩ = some (.int .i64 (l[k]'hk).z) := by
  rcases h with rfl | ⟨b, off, e, hlt, hc⟩
  · simp at hk
  · exact ⟨b, off, e, hc k hk⟩
set_option maxHeartbeats 1600000 in
theorem sameInts_any (xs : List Int) (G n c1 c2 : Nat) (ao : Option Addr) (w : World) (hn : xs.length = n) (hl : n ≤ 20000) (h1 : Ints xs G w) (h2 : RdI w ao xs) :
    Calls Try.prog 16 #[.slice (some ⟨G, 0, none⟩) n c1, .slice ao n c2] w fun e w' => e = .returned (.bool true) ∧ Below w.heap.size w w' := by
  have H1 : Hid (Ints xs G w) := h1
  have H2 : Hid (RdI w ao xs) := h2
  have HN : Hid (xs.length = n) := hn
  clear h1 h2 hn
  go_enter Try.func16, Try.ntmps16
  go_wp2
  go_loopw [5] (fun i wr => ∃ k : Nat, k ≤ n ∧ i = .int .i64 ((k : Nat) : Int) ∧ ∃ q, wr = w.drewN q) (fun i _ => n - (intOf i).toNat)
  case atStart => exact ⟨0, Nat.zero_le _, rfl, 0, rfl⟩
  case round =>
    obtain ⟨k, hk, rfl, q, rfl⟩ := hrel
    by_cases hlt : k < n
    · have hkl : k < xs.length := by rw [HN.out]; exact hlt
      have c1 := H1.out.2 k hkl
      obtain ⟨b, off, rfl, _, c2⟩ := H2.out.at hkl
      generalize xs[k]'hkl = x at *
      go_wp2_with fail
      go_big_quiet (fail)
      go_wp2
      go_roundw
      case rel => exact ⟨k + 1, by omega, by go_num, q + nq, by first | rfl | simp⟩
      case measure => simp [intOf]; omega
    · go_wp2
      go_ret
      exact ⟨rfl, below_drewN (Below.refl _ _) _⟩
set_option maxHeartbeats 1600000 in
theorem samePoints_any (xs : List V3) (G n c1 c2 : Nat) (ao : Option Addr) (w : World) (hn : xs.length = n) (hl : n ≤ 20000) (h1 : Pnts xs G w) (h2 : RdP w ao xs) :
    Calls Try.prog 14 #[.slice (some ⟨G, 0, none⟩) n c1, .slice ao n c2] w fun e w' => e = .returned (.bool true) ∧ Below w.heap.size w w' := by
  have H1 : Hid (Pnts xs G w) := h1
  have H2 : Hid (RdP w ao xs) := h2
  have HN : Hid (xs.length = n) := hn
  clear h1 h2 hn
  go_enter Try.func14, Try.ntmps14
  go_wp2
  go_loopw [5] (fun i wr => ∃ k : Nat, k ≤ n ∧ i = .int .i64 ((k : Nat) : Int) ∧ ∃ q, wr = w.drewN q) (fun i _ => n - (intOf i).toNat)
  case atStart => exact ⟨0, Nat.zero_le _, rfl, 0, rfl⟩
  case round =>
    obtain ⟨k, hk, rfl, q, rfl⟩ := hrel
    by_cases hlt : k < n
    · have hkl : k < xs.length := by rw [HN.out]; exact hlt
      have c0 := (H1.out.2 k hkl).1
      have c1 := (H1.out.2 k hkl).2.1
      have c2 := (H1.out.2 k hkl).2.2
      obtain ⟨b, off, rfl, d0, d1, d2⟩ := H2.out.at hkl
      generalize (xs[k]'hkl).x = x at *
      generalize (xs[k]'hkl).y = y at *
      generalize (xs[k]'hkl).z = z at *
      go_wp2_with fail
      go_big_quiet (fail)
      go_wp2
      go_roundw
      case rel => exact ⟨k + 1, by omega, by go_num, q + nq, by first | rfl | simp⟩
      case measure => simp [intOf]; omega
    · go_wp2
      go_ret
      exact ⟨rfl, below_drewN (Below.refl _ _) _⟩
end Go.Proofs.Ytanmfhaiahhoeaa
