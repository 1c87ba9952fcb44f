/- The law DeckFewer walked. -/
import Derived.Test.YtmmpaaaifdikdaaGreatDoorDJ
import Derived.Test.YtmmpaaaifdikdaaGreatDoorDK
import Derived.Test.YtmmpaaaifdikdaaGreatDoorDL
namespace Go.Proofs.YtmmpaaaifdikdaaGreatDoor
open Go.RowKit Go.Shelf

theorem picked_any (n m : Int) (w : World) (h0 : -9223372036854775808 ≤ n) (h1 : n ≤ 9223372036854775807) (hm : 0 < m) (hm2 : m ≤ 1000000) :
    Calls Tryz.prog 18 #[.int .i64 n, .int .i64 m] w fun e w' => ∃ k : Nat, (k : Int) < m ∧ e = .returned (.int .i64 k) ∧ w' = w := by
  by_cases hn : n < 0
  · have hw : IntKind.i64.wrap (n + 1) = n + 1 := wrap_in (by omega) (by omega)
    have HK : Hid (0 ≤ (-(n + 1)).tmod m ∧ (-(n + 1)).tmod m < m) := ⟨Int.tmod_nonneg _ (by omega), Int.tmod_lt_of_pos _ hm⟩
    have hne : m ≠ 0 := by omega
    go_enter Tryz.func18, Tryz.ntmps18
    go_wp2
    go_ret
    refine ⟨((-(n + 1)).tmod m).toNat, by have := HK.out; omega, ?_, rfl⟩
    rw [Int.toNat_of_nonneg HK.out.1, Int.neg_tmod]
    rfl
  · have HK : Hid (0 ≤ n.tmod m ∧ n.tmod m < m) := ⟨Int.tmod_nonneg _ (by omega), Int.tmod_lt_of_pos _ hm⟩
    have hne : m ≠ 0 := by omega
    go_enter Tryz.func18, Tryz.ntmps18
    go_wp2
    go_ret
    refine ⟨(n.tmod m).toNat, by have := HK.out; omega, ?_, rfl⟩
    rw [Int.toNat_of_nonneg HK.out.1, Int.tmod_eq_emod_of_nonneg hn]
    rfl
/-- The seat of the texts in the laws. -/
def conS : Sit := ⟨2, ⟨⟨#[116]⟩, 3, 1, 1, 5, 5, 0, 10, 10, 10, 5, 0⟩, ⟨#[116]⟩⟩
def conL : List UInt8 := [50, 32, 116, 32, 116, 32, 116, 114, 97, 115, 104, 32, 49, 32, 49, 32, 53, 32, 53, 32, 48, 32, 49, 48, 32, 49, 48, 32, 49, 48, 32, 53, 32, 48]
theorem con_line : lineL conS = conL := by
  have e : ∀ u : Nat, u < 10 → Lib.itoa (u : Int) = [UInt8.ofNat (48 + u)] := fun u hu => by
    unfold Lib.itoa
    rw [if_neg (by omega), Int.toNat_natCast, Lib.decDigits, dif_pos hu]
  have e10 : Lib.itoa 10 = [49, 48] := by
    unfold Lib.itoa
    rw [if_neg (by decide), show (10 : Int).toNat = 10 from rfl, Lib.decDigits, dif_neg (by decide), Lib.decDigits, dif_pos (by decide)]
    decide
  have e0 : Lib.itoa 0 = [48] := e 0 (by decide)
  have e1 : Lib.itoa 1 = [49] := e 1 (by decide)
  have e2 : Lib.itoa 2 = [50] := e 2 (by decide)
  have e5 : Lib.itoa 5 = [53] := e 5 (by decide)
  unfold lineL lwords wordsL numsL conS
  simp only [List.map_cons, List.map_nil, e0, e1, e2, e5, e10]
  rfl
theorem con_good : Good [conS] := by
  refine ⟨by decide, fun s hs => ?_, List.pairwise_singleton _ _⟩
  simp at hs
  subst hs
  exact ⟨by decide, by decide, by decide, by decide⟩
theorem con_lines : Lines conL 1 [(1, conL)] := Lines.last _ _ (by decide) (by decide)
theorem con_lines2 : Lines (conL ++ [10]) 1 [(1, conL)] := Lines.more conL [] 1 [] (by decide) (by decide) (Lines.nil _)
theorem con_read (w : World) (hT : Tabs w) : Calls Tryz.prog 9 #[.string ⟨conL.toArray⟩] w fun e w' => ∃ v, e = .returned (.tuple #[v, .int .i64 0, .int .i64 0]) ∧ (∃ base, w.heap.size ≤ base ∧ OwnD w' base v [conS]) ∧ Below w.heap.size w w' :=
  deckRead_any [conS] (dchk_zero.2 con_good) conL [(1, conL)] (by simp [con_line]) con_lines (by decide) w hT
theorem con_read2 (w : World) (hT : Tabs w) : Calls Tryz.prog 9 #[.string ⟨(conL ++ [10]).toArray⟩] w fun e w' => ∃ v, e = .returned (.tuple #[v, .int .i64 0, .int .i64 0]) ∧ (∃ base, w.heap.size ≤ base ∧ OwnD w' base v [conS]) ∧ Below w.heap.size w w' :=
  deckRead_any [conS] (dchk_zero.2 con_good) (conL ++ [10]) [(1, conL)] (by simp [con_line]) con_lines2 (by decide) w hT

end Go.Proofs.YtmmpaaaifdikdaaGreatDoor
