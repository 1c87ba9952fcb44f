/- The law SpaceSweeps walked. -/
import Derived.Test.YtiafcgbohckmmaaSw1
import Derived.Test.YtiafcgbohckmmaaSw2
import Derived.Test.YtiafcgbohckmmaaSw3
import Derived.Test.YtiafcgbohckmmaaSw4
import Derived.Test.YtiafcgbohckmmaaSw5
import Derived.Test.YtiafcgbohckmmaaSw6
import Derived.Test.YtiafcgbohckmmaaSw7
namespace Go.Proofs.Ytiafcgbohckmmaa
open Go.RowKit

theorem sweepR_good {a s : Bx} {q : Pt} (h : sweepR a q = (s, 0)) : bad1 s = 0 := by
  obtain ⟨⟨m, r⟩, hm⟩ : ∃ x, moveR a q = x := ⟨_, rfl⟩
  unfold sweepR at h
  rw [hm] at h
  by_cases hr : r = 0
  · subst hr
    rw [if_pos rfl] at h
    cases hs : straight q with
    | false => rw [hs] at h; simp at h
    | true =>
      rw [hs, if_pos rfl] at h
      simp only [Prod.mk.injEq, and_true] at h
      have g := moveR_good hm
      rw [← h]
      exact hull_good g.1 g.2.2.2
  · rw [if_neg hr] at h; simp only [Prod.mk.injEq] at h; exact absurd h.2 hr
theorem sweeps_any (a b : Bx) (far way part : Int) (w : World) (hw0 : -9223372036854775808 ≤ way) (hw1 : way ≤ 9223372036854775807) (hf0 : -9223372036854775808 ≤ far) (hf1 : far ≤ 9223372036854775807) (hp0 : -9223372036854775808 ≤ part) (hp1 : part ≤ 9223372036854775807) :
    Calls Try.prog 6 #[bv a, bv b, .int .i64 far, .int .i64 way, .int .i64 part] w fun e w' => e = .returned (.bool true) ∧ Below w.heap.size w w' := by
  obtain ⟨⟨s, r⟩, hs⟩ : ∃ x, sweepR a (stepP way far) = x := ⟨_, rfl⟩
  by_cases hr : r = 0
  · subst hr
    have hsg := sweepR_good hs
    by_cases hb : bad1 b = 0
    · cases hm : meet s b with
      | true => exact sw_3 a b s far way part _ w hw0 hw1 hf0 hf1 hp0 hp1 rfl hs (by rw [meetR_ok hsg hb, hm])
      | false =>
        by_cases h1 : 0 ≤ far
        · by_cases h2 : far < (pickN part 1000001 : Int)
          · exact sw_4 a b s far way part _ w hw0 hw1 hf0 hf1 hp0 hp1 rfl hs hsg hb hm h1 h2
          · exact sw_5 a b s far way part _ w hw0 hw1 hf0 hf1 hp0 hp1 rfl hs hsg hb hm h1 (by omega)
        · by_cases h2 : -(pickN part 1000001 : Int) < far
          · exact sw_6 a b s far way part _ w hw0 hw1 hf0 hf1 hp0 hp1 rfl hs hsg hb hm (by omega) h2
          · exact sw_7 a b s far way part _ w hw0 hw1 hf0 hf1 hp0 hp1 rfl hs hsg hb hm (by omega) (by omega)
    · obtain ⟨⟨x, r⟩, hx⟩ : ∃ x, meetR s b = x := ⟨_, rfl⟩
      refine sw_2 a b s far way part _ w hw0 hw1 hf0 hf1 hp0 hp1 rfl x r hs hx ?_
      intro e
      subst e
      unfold meetR at hx
      have hn : ¬ badL [s, b] = 0 := fun e => hb (badL2_zero.1 e).2
      rw [if_neg hn] at hx
      simp only [Prod.mk.injEq] at hx
      exact hn hx.2
  · exact sw_1 a b s far way part _ w hw0 hw1 hf0 hf1 hp0 hp1 rfl r hs hr
end Go.Proofs.Ytiafcgbohckmmaa
