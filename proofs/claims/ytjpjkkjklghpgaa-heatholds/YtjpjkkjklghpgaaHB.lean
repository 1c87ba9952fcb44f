/- areUpTo, behind, turn, isThere, atWork, ticks walked. -/
import Derived.Test.YtjpjkkjklghpgaaHA
import Derived.OwnWalkIn
import Derived.TacticsInMore
import Derived.LoopNIn
import Derived.LoopIn
import Derived.Shelf.Abstract
import Derived.BigQuiet
namespace Go.Proofs.Ytjpjkkjklghpgaa
open Go.RowKit

abbrev hv (h : Ht) : Value := .agg #[.int .i64 h.g, .int .i64 h.l, .int .i64 h.a, .int .i64 h.m]
abbrev ho (h : Ht) : Obj := .cells #[.int .i64 h.g, .int .i64 h.l, .int .i64 h.a, .int .i64 h.m] 23
abbrev hcl (h : Ht) : List Value := [.int .i64 h.g, .int .i64 h.l, .int .i64 h.a, .int .i64 h.m]
abbrev io (x : Int) : Obj := .cells #[.int .i64 x] 3
abbrev ptr (b : Nat) : Value := .pointer (some ⟨b, 0, none⟩)
theorem bk_kpt {M : Nat → Prop} {b : Nat} {cs : List Value} {w w1 : World} (h : Bk b cs w) (hk : Kpt M w w1) (hM : ¬ M b) : Bk b cs w1 := h.same hk.size (hk.block b h.1 hM)
theorem Kpt.belowB {M : Nat → Prop} {w A B : World} (h : Below w.heap.size w A) (hk : Kpt M A B) (hM : ∀ k, M k → w.heap.size ≤ k) : Below w.heap.size w B := h.trans (hk.below h.size hM)
theorem over_eq (a : Act) (m : List Bool) (f : Nat → Value) : over a m f = { tmps := (overL f m 0 a.tmps.toList).toArray, defers := a.defers } := rfl
/-- Numbers that can be read. -/
def RdI (w : World) (ao : Option Addr) (l : List Int) : Prop := l = [] ∨ ∃ b off, ao = some ⟨b, off, none⟩ ∧ b < w.heap.size ∧ ∀ k (h : k < l.length), w.cell? ⟨b, off + k, none⟩ = some (.int .i64 (l[k]'h))
theorem RdI.later {w w1 : World} {ao : Option Addr} {l : List Int} (h : RdI w ao l) (hb : Below w.heap.size w w1) : RdI w1 ao l := by
  rcases h with h | ⟨b, off, e, hlt, hc⟩
  · exact .inl h
  · exact .inr ⟨b, off, e, Nat.lt_of_lt_of_le hlt hb.size, fun k hk => cell_later hb (hc k hk)⟩
theorem RdI.at {w : World} {ao : Option Addr} {l : List Int} (h : RdI w ao l) {k : Nat} (hk : k < l.length) : ∃ b off, ao = some ⟨b, off, none⟩ ∧ b < w.heap.size ∧ w.cell? ⟨b, off + k, none⟩ = some (.int .i64 (l[k]'hk)) := by
  rcases h with rfl | ⟨b, off, e, hlt, hc⟩
  · simp at hk
  · exact ⟨b, off, e, hlt, hc k hk⟩
/-- Are all of them from 0 to the most? -/
def upTo (m : Int) (l : List Int) : Bool := l.all fun n => inR 0 m n
theorem take_next {l : List Int} {k : Nat} {q : Int → Prop} (h : k < l.length) (ha : ∀ b ∈ l.take k, q b) (hb : q (l[k]'h)) : ∀ b ∈ l.take (k + 1), q b := by
  intro b hm
  rw [List.take_succ_eq_append_getElem h] at hm
  rcases List.mem_append.1 hm with hm | hm
  · exact ha b hm
  · rw [List.mem_singleton.1 hm]; exact hb
theorem upTo_bad {m : Int} {l : List Int} {k : Nat} (hk : k < l.length) (hb : inR 0 m (l[k]'hk) = false) : upTo m l = false := by
  cases e : upTo m l with
  | false => rfl
  | true =>
    have := List.all_eq_true.1 e _ (List.getElem_mem hk)
    rw [hb] at this
    cases this
set_option maxHeartbeats 6400000 in
set_option maxRecDepth 100000 in
theorem areUpTo_any (m : Int) (ao : Option Addr) (cap : Nat) (l : List Int) (w : World) (hR : RdI w ao l) (hl : l.length ≤ 1000) :
    Calls Try.prog 24 #[.int .i64 m, .slice ao l.length cap] w fun e w' => e = .returned (.bool (upTo m l)) ∧ w' = w := by
  have HR : Hid (RdI w ao l) := hR
  clear hR
  have HBad : Hid (∀ k (hk : k < l.length), inR 0 m (l[k]'hk) = false → upTo m l = false) := fun k hk hb => upTo_bad hk hb
  have HOk : Hid ((∀ b ∈ l, inR 0 m b = true) → upTo m l = true) := fun h => List.all_eq_true.2 h
  have h2 : (l.length : Int) ≤ 1000 := by omega
  go_enter Try.func24, Try.ntmps24
  go_wp2
  go_loopw [9] (fun i wr => ∃ k : Nat, k ≤ l.length ∧ i = .int .i64 k ∧ (∀ b ∈ l.take k, inR 0 m b = true) ∧ wr = w) (fun i _ => l.length - (intOf i).toNat)
  case atStart => exact ⟨0, Nat.zero_le _, rfl, (fun b hb => by simp at hb), rfl⟩
  case round =>
    obtain ⟨k, hk, rfl, hok, hw⟩ := hrel
    subst hw
    have HO : Hid (∀ b ∈ l.take k, inR 0 m b = true) := hok
    clear hok
    by_cases hlt : k < l.length
    · obtain ⟨b, off, rfl, _, hc⟩ := HR.out.at hlt
      have HHit : Hid (inR 0 m (l[k]'hlt) = false → upTo m l = false) := HBad.out k hlt
      have HMiss : Hid (inR 0 m (l[k]'hlt) = true → ∀ b ∈ l.take (k + 1), inR 0 m b = true) := take_next hlt HO.out
      generalize l[k]'hlt = a at *
      by_cases h0 : a < 0
      · go_wp2
        go_ret
        exact ⟨ret_bool (HHit.out (inR_no (.inl h0))).symm, rfl⟩
      · by_cases h1 : m < a
        · go_wp2
          go_ret
          exact ⟨ret_bool (HHit.out (inR_no (.inr h1))).symm, rfl⟩
        · go_wp2
          go_roundw
          case rel => exact ⟨k + 1, by omega, by go_num, HMiss.out (inR_yes (by omega) (by omega)), trivial⟩
          case measure => simp [intOf]; omega
    · have HE : Hid (upTo m l = true) := HOk.out (fun b hb => HO.out b (by rw [List.take_of_length_le (by omega)]; exact hb))
      go_wp2
      go_ret
      exact ⟨ret_bool HE.out.symm, rfl⟩
theorem rd_new (w : World) (l : List Int) (t : TypeId) : RdI (w.alloc (.cells (l.map (Value.int .i64)).toArray t)) (some ⟨w.heap.size, 0, none⟩) l := by
  refine .inr ⟨_, _, rfl, by simp, fun k hk => ?_⟩
  rw [Nat.zero_add]
  exact (Bk.new w (l.map (Value.int .i64)) t w.heap.size rfl).c k (v := .int .i64 (l[k]'hk)) (by simp [hk])
theorem upTo0 (m : Int) (w : World) : Calls Try.prog 24 #[.int .i64 m, .slice none 0 0] w fun e w' => e = .returned (.bool true) ∧ w' = w := areUpTo_any m none 0 [] w (.inl rfl) (by decide)
theorem upTo1 (m x : Int) (w : World) : Calls Try.prog 24 #[.int .i64 m, .slice (some ⟨w.heap.size, 0, none⟩) 1 1] (w.alloc (.cells #[.int .i64 x] 3)) fun e w' => e = .returned (.bool (inR 0 m x)) ∧ w' = w.alloc (.cells #[.int .i64 x] 3) := by
  have := areUpTo_any m (some ⟨w.heap.size, 0, none⟩) 1 [x] _ (rd_new w [x] 3) (by simp)
  simpa [upTo] using this
theorem upTo2 (m x y : Int) (w : World) : Calls Try.prog 24 #[.int .i64 m, .slice (some ⟨w.heap.size, 0, none⟩) 2 2] (w.alloc (.cells #[.int .i64 x, .int .i64 y] 3)) fun e w' => e = .returned (.bool (inR 0 m x && inR 0 m y)) ∧ w' = w.alloc (.cells #[.int .i64 x, .int .i64 y] 3) := by
  have := areUpTo_any m (some ⟨w.heap.size, 0, none⟩) 2 [x, y] _ (rd_new w [x, y] 3) (by simp)
  simpa [upTo] using this
theorem upTo3 (m x y z : Int) (w : World) : Calls Try.prog 24 #[.int .i64 m, .slice (some ⟨w.heap.size, 0, none⟩) 3 3] (w.alloc (.cells #[.int .i64 x, .int .i64 y, .int .i64 z] 3)) fun e w' => e = .returned (.bool (inR 0 m x && (inR 0 m y && inR 0 m z))) ∧ w' = w.alloc (.cells #[.int .i64 x, .int .i64 y, .int .i64 z] 3) := by
  have := areUpTo_any m (some ⟨w.heap.size, 0, none⟩) 3 [x, y, z] _ (rd_new w [x, y, z] 3) (by simp)
  simpa [upTo] using this

set_option maxHeartbeats 3200000 in
theorem behind_any (h : Ht) (t : Int) (on : Bool) (hok : htOk h = true) (h0 : 0 ≤ t) (h1 : t ≤ 1000000) (w : World) :
    Calls Try.prog 21 #[hv h, .int .i64 t, .bool on] w fun e w' => e = .returned (.int .i64 (tk h on t)) ∧ w' = w.alloc (ho h) := by
  obtain ⟨m0, m1⟩ := mul_bd hok h0 h1
  obtain ⟨b0, b1⟩ := lss_bd hok h0 h1
  obtain ⟨q1, q2, q3, q4, q5, q6, q7⟩ := htOk_iff.1 hok
  have HS : Hid (tk h on t = min (t - Int.tdiv ((t - h.a) * h.l) 1024 + (if on then h.g else 0)) h.m) := rfl
  unfold lss at b0 b1
  clear hok
  obtain ⟨g, l, a, m⟩ := h
  simp only at *
  cases on with
  | true =>
    go_enter Try.func21, Try.ntmps21
    go_wp2
    all_goals
      go_ret
      exact ⟨ret_int (by rw [HS.out]; simp only [if_true]; omega), rfl⟩
  | false =>
    go_enter Try.func21, Try.ntmps21
    go_wp2
    all_goals
      go_ret
      exact ⟨ret_int (by rw [HS.out]; simp only [Bool.false_eq_true, if_false]; omega), rfl⟩

/-- A plate at work, in its block. -/
abbrev wkc (h : Ht) (lo hi : Int) (s : Int × Bool) : List Value := [.int .i64 h.g, .int .i64 h.l, .int .i64 h.a, .int .i64 h.m, .int .i64 s.1, .bool s.2, .int .i64 lo, .int .i64 hi]
theorem sw_cold {lo hi t : Int} {on : Bool} (h : t < lo) : sw lo hi t on = true := if_pos h
theorem sw_warm {lo hi t : Int} {on : Bool} (h : ¬ t < lo) (h2 : hi < t) : sw lo hi t on = false := by unfold sw; rw [if_neg h, if_pos h2]
theorem sw_mid {lo hi t : Int} {on : Bool} (h : ¬ t < lo) (h2 : ¬ hi < t) : sw lo hi t on = on := by unfold sw; rw [if_neg h, if_neg h2]
set_option maxHeartbeats 3200000 in
theorem turn_any (B : Nat) (h : Ht) (lo hi t : Int) (on : Bool) (w : World) (hB : Bk B (wkc h lo hi (t, on)) w) :
    Calls Try.prog 31 #[ptr B] w fun e w' => (∃ v, e = .returned v) ∧ Bk B (wkc h lo hi (t, sw lo hi t on)) w' ∧ Kpt (fun k => k = B) w w' := by
  have HB : Hid (Bk B (wkc h lo hi (t, on)) w) := hB
  have HW : Hid (∀ n, Below w.heap.size w (w.drewN n)) := fun n => below_drewN (Below.refl _ _) _
  have c4 := hB.c 4 rfl
  have c5 := hB.c 5 rfl
  have f5 := hB.f 5 rfl
  have c6 := hB.c 6 rfl
  have c7 := hB.c 7 rfl
  clear hB
  simp only at *
  by_cases hc : t < lo
  · have HS : Hid (sw lo hi t on = true) := sw_cold hc
    go_enter Try.func31, Try.ntmps31
    go_wp2_with fail
    go_big_quiet (fail)
    go_wp2
    refine bodyPost_end (v := .tuple #[]) (results_none (by kernel_rfl) _ _ _) rfl ?_
    rw [HS.out]
    exact ⟨⟨_, rfl⟩, (HB.out.later (HW.out _)).put 5 _, (Kpt.of_below (HW.out _)).trans (Kpt.setCell _ _ _ _ rfl)⟩
  · by_cases hw : hi < t
    · have HS : Hid (sw lo hi t on = false) := sw_warm hc hw
      go_enter Try.func31, Try.ntmps31
      go_wp2_with fail
      go_big_quiet (fail)
      go_wp2_with fail
      go_big_quiet (fail)
      go_wp2
      refine bodyPost_end (v := .tuple #[]) (results_none (by kernel_rfl) _ _ _) rfl ?_
      rw [HS.out]
      exact ⟨⟨_, rfl⟩, (HB.out.later (HW.out _)).put 5 _, (Kpt.of_below (HW.out _)).trans (Kpt.setCell _ _ _ _ rfl)⟩
    · have HS : Hid (sw lo hi t on = on) := sw_mid hc hw
      go_enter Try.func31, Try.ntmps31
      go_wp2_with fail
      go_big_quiet (fail)
      go_wp2_with fail
      go_big_quiet (fail)
      go_wp2
      refine bodyPost_end (v := .tuple #[]) (results_none (by kernel_rfl) _ _ _) rfl ?_
      rw [HS.out]
      exact ⟨⟨_, rfl⟩, HB.out.later (below_drewN (HW.out _) _), Kpt.of_below (below_drewN (HW.out _) _)⟩
end Go.Proofs.Ytjpjkkjklghpgaa
