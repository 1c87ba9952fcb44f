/- The package-level variables that are read; the library's contracts at this program's numbers. -/
import Derived.Test.YtiafppmpjmpdmaaDoorShelf
import Derived.Test.YtiafppmpjmpdmaaDoorCD
import Derived.Shelf.Strings.SlTrimAscii
import Derived.Lib.AtoiTie
import Derived.Lib.AtoiErrMem
import Derived.Lib.SmallJoins
import Derived.Lib.AppendIntMem
import Derived.WalkSmall
namespace Go.Proofs.YtiafppmpjmpdmaaDoor
open Go.RowKit Go.Shelf

/-- The package-level variables that are read, as they are laid. -/
structure Tabs (w : World) : Prop where
  pow : Lib.TabIs Tryd.prog w "internal/strconv.uint64pow10" .u64 Lib.pow10Tab
  words : WT w
  size : 9 ≤ w.heap.size
/-- Those that a parse reads, too. -/
structure Tall (w : World) : Prop where
  tabs : Tabs w
  most : ∃ m, w.cell? ⟨1, 0, none⟩ = some (.int .i64 m)
  syn : ∃ ev, w.cell? ⟨5, 0, none⟩ = some ev ∧ (ev = .nilIface ∨ ∃ te pe, ev = .iface te pe)
theorem cell_low {w w' : World} {B b o : Nat} {v : Value} (hb : Below B w w') (hB : b < B) (h : w.cell? ⟨b, o, none⟩ = some v) : w'.cell? ⟨b, o, none⟩ = some v := (hb.cell (p := ⟨b, o, none⟩) hB).trans h
theorem Tabs.low {w w' : World} (h : Tabs w) (hb : Below 9 w w') : Tabs w' where
  pow := var?_below hb (g := 2) (by kernel_rfl) (by decide) h.pow
  words := ⟨fun k hk => cell_low hb (by decide) (h.words.first k hk), fun k i hk hi => cell_low hb (by decide) (h.words.letter k i hk hi)⟩
  size := Nat.le_trans h.size hb.size
theorem Tall.low {w w' : World} (h : Tall w) (hb : Below 9 w w') : Tall w' where
  tabs := h.tabs.low hb
  most := h.most.imp fun _ hm => cell_low hb (by decide) hm
  syn := h.syn.imp fun _ hm => ⟨cell_low hb (by decide) hm.1, hm.2⟩
theorem Tall.later {w w' : World} (h : Tall w) (hb : Below w.heap.size w w') : Tall w' := h.low (hb.mono h.tabs.size)
theorem Tall.kept {M : Nat → Prop} {w w' : World} (h : Tall w) (hk : Kpt M w w') (hM : ∀ k, M k → 9 ≤ k) : Tall w' := h.low (hk.below h.tabs.size hM)
theorem Tabs.later {w w' : World} (h : Tabs w) (hb : Below w.heap.size w w') : Tabs w' := h.low (hb.mono h.size)
theorem Tabs.kept {M : Nat → Prop} {w w' : World} (h : Tabs w) (hk : Kpt M w w') (hM : ∀ k, M k → 9 ≤ k) : Tabs w' := h.low (hk.below h.size hM)

theorem drewN_below (w : World) (n : Nat) : Below w.heap.size w (w.drewN n) := ⟨rfl, rfl, rfl, Nat.le_refl _, fun _ _ => rfl⟩
theorem below_undrew {b : Nat} {w w1 : World} (h : Below b w.drew w1) : Below b w w1 := ⟨h.os, h.tape, h.output, h.size, h.block⟩

theorem itoaB (n : Int) (h0 : -9223372036854775808 ≤ n) (h1 : n ≤ 9223372036854775807) (w : World) (h : Tabs w) : Calls Tryd.prog 38 #[.int .i64 n] w fun e w' => e = .returned (sA (Lib.itoa n)) ∧ Below w.heap.size w w' :=
  (Tryd.strconv_Itoa n h0 h1 w h.pow).mono fun _ _ ⟨he, k, os, hw⟩ => ⟨he, by rw [hw]; exact Lib.below_grow _ _ (Nat.le_refl _) _ _⟩
theorem cutB (l t : List UInt8) (w : World) (hl : l.length < 4294967281) (h : Tall w) : Calls Tryd.prog 21 #[sA l, sA t] w fun e w' => e = .returned (.tuple #[sA (Lib.cut l t).1, sA (Lib.cut l t).2.1, .bool (Lib.cut l t).2.2]) ∧ Below w.heap.size w w' := by
  obtain ⟨m, hm⟩ := h.most
  refine (Tryd.strings_Cut ⟨l.toArray⟩ ⟨t.toArray⟩ m w (by simpa [ByteArray.size] using hl) hm).mono ?_
  rintro e w' ⟨he, n, hw⟩
  exact ⟨he, by rw [hw]; exact drewN_below w n⟩
theorem cutPrefixB (l t : List UInt8) (w : World) : Calls Tryd.prog 52 #[sA l, sA t] w fun e w' => e = .returned (.tuple #[sA (Lib.trimPrefix l t), .bool (Lib.hasPrefix l t)]) ∧ w' = w :=
  Tryd.strings_CutPrefix ⟨l.toArray⟩ ⟨t.toArray⟩ w
theorem unsgB (l : List UInt8) (w : World) : Calls Tryd.prog 53 #[sA l, .string ⟨#[45]⟩] w fun e w' => e = .returned (sA (unsg l)) ∧ w' = w :=
  Tryd.strings_TrimPrefix ⟨l.toArray⟩ ⟨#[45]⟩ w
theorem digitsB (l : List UInt8) (w : World) : Calls Tryd.prog 54 #[sA l, .string ⟨#[48, 49, 50, 51, 52, 53, 54, 55, 56, 57]⟩] w fun e w' => e = .returned (sA (l.dropWhile isDig)) ∧ Below w.heap.size w w' :=
  Any.strings_TrimLeft_laid Tryd.lays161 (by kernel_rfl) ⟨l.toArray⟩ ⟨#[48, 49, 50, 51, 52, 53, 54, 55, 56, 57]⟩ w (by decide) (ascii_of_all (by decide))
theorem atoi_yes (t : List UInt8) (v : Int) (w : World) (ht : t.length ≤ 18) (h : Lib.atoi t = some v) : Calls Tryd.prog 72 #[sA t] w fun e w' => e = .returned (.tuple #[.int .i64 v, .nilIface]) ∧ Below w.heap.size w w' := by
  have ha : Lib.atoiAll t = .ok v := by rw [Lib.atoiAll_short t ht, h]; rfl
  refine (Tryd.strconv_Atoi_ok ⟨t.toArray⟩ (by simp [ByteArray.size]; omega) v ha w).mono ?_
  rintro e w' ⟨he, hw | ⟨s, hw⟩⟩
  · exact ⟨he, by rw [hw]; exact Below.refl _ _⟩
  · exact ⟨he, by rw [hw]; exact Lib.bytesWorld_below w 5 s⟩
theorem atoi_no (t : List UInt8) (w : World) (ht : t.length ≤ 18) (h : Lib.atoi t = none) (hT : Tall w) : Calls Tryd.prog 72 #[sA t] w fun e w' => ∃ N, e = .returned (.tuple #[.int .i64 0, .iface 123 (.pointer (some ⟨N, 0, none⟩))]) ∧ Below w.heap.size w w' := by
  obtain ⟨ev, h1, h2⟩ := hT.syn
  refine (Tryd.strconv_Atoi_err ⟨t.toArray⟩ (by simpa [ByteArray.size] using ht) h ev w h1 h2).mono ?_
  rintro e w' ⟨N, he, _, _, hw⟩
  exact ⟨N, he, hw⟩
theorem atoi_in {t : List UInt8} {v : Int} (ht : t.length ≤ 18) (h : Lib.atoi t = some v) : -9223372036854775808 ≤ v ∧ v ≤ 9223372036854775807 := by
  have ha : Lib.atoiAll t = .ok v := by rw [Lib.atoiAll_short t ht, h]; rfl
  exact Lib.atoiAll_bounds ha
end Go.Proofs.YtiafppmpjmpdmaaDoor
