/- Lists of ints in memory: copied, held against one another. -/
import Derived.Test.YtndkmjjaabnfaaaDoorGA
import Derived.Test.YtndkmjjaabnfaaaDoorKA
import Derived.Test.YtndkmjjaabnfaaaDoorSeqG
import Derived.Test.YtndkmjjaabnfaaaDoorSeq2
namespace Go.Proofs.YtndkmjjaabnfaaaDoor
open Go.RowKit

def encI : Enc Int := ⟨3, 1, fun x => [.int .i64 x]⟩
theorem goodI : Good encI := ⟨fun _ => rfl, fun x u hu => by simp [encI] at hu; subst hu; rfl⟩
theorem infoI : (Tryd.prog.info? 3).map (fun i => (i.zero, i.size, i.bytes)) = some (some (.int .i64 0), 1, 8) := by kernel_rfl
/-- Numbers that can be read. -/
def RdI (w : World) (ao : Option Addr) (l : List Int) : Prop := l = [] ∨ ∃ b off, ao = some ⟨b, off, none⟩ ∧ b < w.heap.size ∧ ∀ k (h : k < l.length), w.cell? ⟨b, off + k, none⟩ = some (.int .i64 (l[k]'h))
theorem RdI.later {w w1 : World} {ao : Option Addr} {l : List Int} (h : RdI w ao l) (hb : Below w.heap.size w w1) : RdI w1 ao l := by
  rcases h with h | ⟨b, off, e, hlt, hc⟩
  · exact .inl h
  · exact .inr ⟨b, off, e, Nat.lt_of_lt_of_le hlt hb.size, fun k hk => cell_later hb (hc k hk)⟩
theorem RdI.at {w : World} {ao : Option Addr} {l : List Int} (h : RdI w ao l) {k : Nat} (hk : k < l.length) : ∃ b off, ao = some ⟨b, off, none⟩ ∧ b < w.heap.size ∧ w.cell? ⟨b, off + k, none⟩ = some (.int .i64 (l[k]'hk)) := by
  rcases h with rfl | ⟨b, off, e, hlt, hc⟩
  · simp at hk
  · exact ⟨b, off, e, hlt, hc k hk⟩
theorem take_next {l : List Int} {k : Nat} {q : Int → Prop} (h : k < l.length) (ha : ∀ b ∈ l.take k, q b) (hb : q (l[k]'h)) : ∀ b ∈ l.take (k + 1), q b := by
  intro b hm
  rw [List.take_succ_eq_append_getElem h] at hm
  rcases List.mem_append.1 hm with hm | hm
  · exact ha b hm
  · rw [List.mem_singleton.1 hm]; exact hb
theorem own_rdI {w : World} {B : Nat} {v : Value} {l : List Int} (h : OwnR encI w B v l) : ∃ ao cap, v = .slice ao l.length cap ∧ RdI w ao l := by
  obtain ⟨ao, cap, rfl⟩ := h.shape
  refine ⟨ao, cap, rfl, ?_⟩
  rcases h.read goodI with ⟨rfl, _⟩ | ⟨g, cap', e, _, _, hlt, hc⟩
  · exact .inl rfl
  · injection e with e1 e2 e3
    refine .inr ⟨g, 0, e1, hlt, fun k hk => ?_⟩
    have h0 := hc k hk 0 (by decide)
    rw [Nat.zero_add]
    simpa [encI] using h0
theorem RdI.rdR {w : World} {ao : Option Addr} {l : List Int} (h : RdI w ao l) : RdR encI w ao l := by
  rcases h with h | ⟨b, off, e, hlt, hc⟩
  · exact .inl h
  · refine .inr ⟨b, off, e, hlt, fun k hk j hj => ?_⟩
    have hj2 : j = 0 := by simp [encI] at hj; exact hj
    subst hj2
    have := hc k hk
    simpa [encI] using this
set_option maxHeartbeats 1600000 in
theorem ints_any (ao : Option Addr) (cap : Nat) (l : List Int) (w : World) (h : RdI w ao l) (hn : ao = none → cap = 0) (hreach : l.length * 8 ≤ 140737488351232) :
    Calls Tryd.prog 8 #[.slice ao l.length cap] w fun e w' => ∃ ao2 cap2, e = .returned (.slice ao2 l.length cap2) ∧ RdI w' ao2 l ∧ Below w.heap.size w w' := by
  have HF : Hid (RdI w ao l) := h
  clear h
  cases ao with
  | none =>
    obtain rfl : l = [] := by
      rcases HF.out with h | ⟨b, off, h, _⟩
      · exact h
      · cases h
    rw [hn rfl]
    simp only [List.length_nil]
    go_enter Tryd.func8, Tryd.ntmps8
    go_wp2
    go_ret
    exact ⟨none, ⟨0, rfl⟩, .inl rfl, Below.refl _ _⟩
  | some a =>
    clear hn
    go_enter Tryd.func8, Tryd.ntmps8
    go_wp2_with (at_builtin; refine wpList_append_list goodI Tryd.underlying22 infoI rfl (by decide) _ rfl (.const (.slice none 0 0)) (.tmp 3) rfl w.heap.size (.slice none 0 0) [] rfl (OwnR.nil _ _ _) a cap l rfl HF.out.rdR (by simp [maxLen]; omega) (by simp; omega) (Nat.le_refl _) ?_; intro v' w1 ho hg _)
    go_ret
    obtain ⟨ao2, cap2, e, hr⟩ := own_rdI ho
    rw [List.nil_append] at e hr
    exact ⟨ao2, cap2, by rw [← e]; rfl, hr, (Below.refl _ _).grown hg (Nat.le_refl _) (fun k hk => by cases hk)⟩
set_option maxHeartbeats 1600000 in
theorem sameInts_any (xs : List Int) (n c1 c2 : Nat) (ao1 ao : Option Addr) (w : World) (hn : xs.length = n) (hl : n ≤ 1048576) (h1 : RdI w ao1 xs) (h2 : RdI w ao xs) :
    Calls Tryd.prog 10 #[.slice ao1 n c1, .slice ao n c2] w fun e w' => e = .returned (.bool true) ∧ Below w.heap.size w w' := by
  have H1 : Hid (RdI w ao1 xs) := h1
  have H2 : Hid (RdI w ao xs) := h2
  have HN : Hid (xs.length = n) := hn
  clear h1 h2 hn
  go_enter Tryd.func10, Tryd.ntmps10
  go_wp2
  go_loopw [5] (fun i wr => ∃ k : Nat, k ≤ n ∧ i = .int .i64 ((k : Nat) : Int) ∧ ∃ q, wr = w.drewN q) (fun i _ => n - (intOf i).toNat)
  case atStart => exact ⟨0, Nat.zero_le _, rfl, 0, rfl⟩
  case round =>
    obtain ⟨k, hk, rfl, q, rfl⟩ := hrel
    by_cases hlt : k < n
    · have hkl : k < xs.length := by rw [HN.out]; exact hlt
      obtain ⟨b1, off1, rfl, _, c1⟩ := H1.out.at hkl
      obtain ⟨b, off, rfl, _, c2⟩ := H2.out.at hkl
      generalize xs[k]'hkl = x at *
      go_wp2_with fail
      go_big_quiet (fail)
      go_wp2
      go_roundw
      case rel => exact ⟨k + 1, by omega, by go_num, q + nq, by first | rfl | simp⟩
      case measure => simp [intOf]; omega
    · go_wp2
      go_ret
      exact ⟨rfl, below_drewN (Below.refl _ _) _⟩
end Go.Proofs.YtndkmjjaabnfaaaDoor
