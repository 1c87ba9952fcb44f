/- The law CurveTells walked. -/
import Derived.Test.YteamcgoemgailaaTl0
import Derived.Test.YteamcgoemgailaaTl1
import Derived.Test.YteamcgoemgailaaTl2
namespace Go.Proofs.Yteamcgoemgailaa
open Go.RowKit

theorem tells_any (ao : Option Addr) (cap : Nat) (l : List Kn) (v s : Int) (w : World) (hL : Kns w ao l) (hn0 : ao = none → cap = 0) (hreach : l.length * 16 ≤ 140737488351232) :
    Calls Try.prog 3 #[.slice ao l.length cap, .int .i64 v, .int .i64 s] w fun e w' => e = .returned (.bool true) ∧ Below w.heap.size w w' := by
  by_cases h : chk l = 0
  · have hc := chk_ok.1 h
    obtain ⟨m, hm⟩ : ∃ m, l.length = m + 1 := ⟨l.length - 1, by have := hc.two; omega⟩
    rw [hm] at hreach ⊢
    by_cases hv : v < 0
    · by_cases hs : s < 0
      · exact tells_00 ao cap l m hm v s w hL hn0 hreach hc hv hs
      have hs0 := hs
      by_cases hs : mostS l < s
      · exact tells_01 ao cap l m hm v s w hL hn0 hreach hc hv ⟨hs0, hs⟩
      exact tells_02 ao cap l m hm v s w hL hn0 hreach hc hv ⟨by omega, by omega⟩
    have hv0 := hv
    by_cases hv : mostV l < v
    · by_cases hs : s < 0
      · exact tells_10 ao cap l m hm v s w hL hn0 hreach hc ⟨hv0, hv⟩ hs
      have hs0 := hs
      by_cases hs : mostS l < s
      · exact tells_11 ao cap l m hm v s w hL hn0 hreach hc ⟨hv0, hv⟩ ⟨hs0, hs⟩
      exact tells_12 ao cap l m hm v s w hL hn0 hreach hc ⟨hv0, hv⟩ ⟨by omega, by omega⟩
    by_cases hs : s < 0
    · exact tells_20 ao cap l m hm v s w hL hn0 hreach hc ⟨by omega, by omega⟩ hs
    have hs0 := hs
    by_cases hs : mostS l < s
    · exact tells_21 ao cap l m hm v s w hL hn0 hreach hc ⟨by omega, by omega⟩ ⟨hs0, hs⟩
    exact tells_22 ao cap l m hm v s w hL hn0 hreach hc ⟨by omega, by omega⟩ ⟨by omega, by omega⟩
  · exact tells_bad ao cap l l.length rfl v s w hL hn0 hreach h
end Go.Proofs.Yteamcgoemgailaa
