/- What is kept but for some blocks. -/
import Derived.Test.YtndkmjjaabnfaaaDoorGA
namespace Go.Proofs.YtndkmjjaabnfaaaDoor
open Go.RowKit

/-- All that lay lies as it lay, but where M says. -/
structure Kpt (M : Nat → Prop) (W W' : World) : Prop where
  os : W'.os = W.os
  tape : W'.tape = W.tape
  output : W'.output = W.output
  size : W.heap.size ≤ W'.heap.size
  block : ∀ k, k < W.heap.size → ¬ M k → W'.heap[k]? = W.heap[k]?
theorem Kpt.refl (M : Nat → Prop) (W : World) : Kpt M W W := ⟨rfl, rfl, rfl, Nat.le_refl _, fun _ _ _ => rfl⟩
theorem Kpt.trans {M : Nat → Prop} {X Y Z : World} (h : Kpt M X Y) (k : Kpt M Y Z) : Kpt M X Z :=
  ⟨k.os.trans h.os, k.tape.trans h.tape, k.output.trans h.output, Nat.le_trans h.size k.size, fun i hi hm => (k.block i (Nat.lt_of_lt_of_le hi h.size) hm).trans (h.block i hi hm)⟩
theorem Kpt.mono {M M' : Nat → Prop} {X Y : World} (h : Kpt M X Y) (hm : ∀ k, M k → M' k) : Kpt M' X Y := ⟨h.os, h.tape, h.output, h.size, fun k hk hn => h.block k hk fun e => hn (hm k e)⟩
theorem Kpt.of_below {M : Nat → Prop} {X Y : World} (h : Below X.heap.size X Y) : Kpt M X Y := ⟨h.os, h.tape, h.output, h.size, fun k hk _ => h.block k hk⟩
theorem Kpt.below {M : Nat → Prop} {X Y : World} (h : Kpt M X Y) {B : Nat} (hB : B ≤ X.heap.size) (hm : ∀ k, M k → B ≤ k) : Below B X Y :=
  ⟨h.os, h.tape, h.output, h.size, fun k hk => h.block k (Nat.lt_of_lt_of_le hk hB) fun e => absurd (hm k e) (by omega)⟩
theorem Kpt.of_low {B : Nat} {X Y : World} (h : Below B X Y) : Kpt (fun k => B ≤ k) X Y := ⟨h.os, h.tape, h.output, h.size, fun k _ hm => h.block k (by omega)⟩
theorem bk_kpt {M : Nat → Prop} {b : Nat} {cs : List Value} {w w1 : World} (h : Bk b cs w) (hk : Kpt M w w1) (hM : ¬ M b) : Bk b cs w1 := h.same hk.size (hk.block b h.1 hM)
theorem Kpt.set {M : Nat → Prop} {w : World} {b : Nat} (hM : M b) (j : Nat) (v : Value) : Kpt M w (w.setCell ⟨b, j, none⟩ v) :=
  have h : Below b w (w.setCell ⟨b, j, none⟩ v) := Below.setCell (p := ⟨b, j, none⟩) (Below.refl _ _) (Nat.le_refl b) v
  ⟨h.os, h.tape, h.output, h.size, fun k _ hk => Below.heap_setCell w ⟨b, j, none⟩ v k (fun e => hk (e ▸ hM))⟩
theorem over_eq (a : Act) (m : List Bool) (f : Nat → Value) : over a m f = { tmps := (overL f m 0 a.tmps.toList).toArray, defers := a.defers } := rfl
end Go.Proofs.YtndkmjjaabnfaaaDoor
