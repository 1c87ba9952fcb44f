import Derived.Test.YtcajifelbldjnaaGreatDoorIg
import Derived.Test.YtcajifelbldjnaaGreatDoorIf
import Derived.RangeFuncLeaves
import Derived.RangeFuncCalls
import Derived.RangeFuncNested
import Derived.OrdersIn
set_option maxRecDepth 100000
set_option maxHeartbeats 25600000
set_option linter.unusedVariables false
namespace Go.Proofs.YtcajifelbldjnaaGreatDoor
open Go.RowKit
section
variable {P : Program} {Q : Exit → Act → World → Prop}
theorem oper_round {o : Oper} {a : Act} {w : World} {K : Act → World → Prop} (l n : Nat) (h : o.wp P a w K Q) (hd : ∀ c, o.op ≠ .defer c) : o.wpIn (Fence.wide.inRound l) n P a w K Q := by
 refine ⟨fun _ _ => trivial, ?_⟩;show o.uponIn _ n P a K Q ((o.semAt (some l) a.eval).run P w);rw [Oper.semAt_some _ _ _ hd];unfold Oper.wp at h;generalize (execOp a.eval o).run P w = r at *
 cases r with
 | ok x w' =>
  cases x with
  | value v => exact h
  | skip => exact h
  | defer d => exact h
  | enter f args => exact ⟨fun hc => (by cases hc), CallsIn.inRound l (callsIn_wide.2 h)⟩
  | row r args => exact ⟨fun hc => (by cases hc), fun c cs _ => let ⟨v, w', r, s⟩ := h c cs; ⟨v, w', r, stepsIn_wide.2 s⟩⟩
  | _ => exact h.elim
 | halt x w' => cases x <;> first | exact h | exact h.elim
def noDefer (ops : Array Oper) : Bool := ops.toList.all fun o => match o.op with
 | .defer _ => false
 | _ => true
theorem noDefer_at {ops : Array Oper} (h : noDefer ops = true) {i : Nat} {o : Oper} (ho : ops[i]? = some o) : ∀ c, o.op ≠ .defer c := by
 intro c e
 have hm : o ∈ ops.toList := by
  rw [List.mem_iff_getElem?];exact ⟨i, by rw [← ho]; simp⟩
 have := List.all_eq_true.1 h o hm;rw [e] at this
 cases this
end
structure Kpt (M : Nat → Prop) (W W' : World) : Prop where
 os : W'.os = W.os
 tape : W'.tape = W.tape
 output : W'.output = W.output
 size : W.heap.size ≤ W'.heap.size
 block : ∀ k, k < W.heap.size → ¬ M k → W'.heap[k]? = W.heap[k]?
theorem Kpt.refl (M : Nat → Prop) (W : World) : Kpt M W W := ⟨rfl, rfl, rfl, Nat.le_refl _, fun _ _ _ => rfl⟩
theorem Kpt.trans {M : Nat → Prop} {X Y Z : World} (h : Kpt M X Y) (k : Kpt M Y Z) : Kpt M X Z :=
 ⟨k.os.trans h.os, k.tape.trans h.tape, k.output.trans h.output, Nat.le_trans h.size k.size, fun i hi hm => (k.block i (Nat.lt_of_lt_of_le hi h.size) hm).trans (h.block i hi hm)⟩
theorem Kpt.mono {M M' : Nat → Prop} {X Y : World} (h : Kpt M X Y) (hm : ∀ k, M k → M' k) : Kpt M' X Y := ⟨h.os, h.tape, h.output, h.size, fun k hk hn => h.block k hk fun e => hn (hm k e)⟩
theorem Kpt.of_below {M : Nat → Prop} {X Y : World} (h : bw X Y) : Kpt M X Y := ⟨h.os, h.tape, h.output, h.size, fun k hk _ => h.block k hk⟩
theorem Kpt.below {M : Nat → Prop} {X Y : World} (h : Kpt M X Y) {B : Nat} (hB : B ≤ X.heap.size) (hm : ∀ k, M k → B ≤ k) : Below B X Y :=
 ⟨h.os, h.tape, h.output, h.size, fun k hk => h.block k (Nat.lt_of_lt_of_le hk hB) fun e => absurd (hm k e) (by omega)⟩
theorem Kpt.putObj (M : Nat → Prop) (W : World) (l : Nat) (o : Obj) (hm : M l) : Kpt M W (W.putObj l o) :=
 ⟨rfl, rfl, rfl, by simp, fun k _ hk => World.putObj_heap_other (fun e => hk (by rw [e]; exact hm))⟩
section
variable {P : Program} {n : Nat}
end
section
variable {P : Program} {Q : Exit → Act → World → Prop}
theorem list_round {ops : Array Oper} (l n : Nat) (hl : ¬ LetsOut Q) : ∀ (rest : List Oper) (a : Act) (w : World), (∀ o ∈ rest, ∀ c, o.op ≠ .defer c) →
  wpList P ops Q rest a w → wpListIn (Fence.wide.inRound l) n P ops Q rest a w
 | [], a, w, _, h => h
 | o :: rest, a, w, hd, h => by
  unfold wpList at h;unfold wpListIn
  split at h
  ·rename_i hw
   rw [if_pos hw]
   rcases h with h | h
   ·exact oper_round l n (Oper.wp_mono (fun a w h => list_round l n hl rest a w (fun x hx => hd x (by simp [hx])) h) h) (hd o (by simp))
   ·exact absurd h.2 hl
  ·rename_i hw
   rw [if_neg hw];exact ⟨fun _ _ => trivial, list_round l n hl rest _ w (fun x hx => hd x (by simp [hx])) h⟩
theorem region_round {ops : List Oper} {id : Nat} {a : Act} {w : World} (l n : Nat) (hl : ¬ LetsOut Q) (hd : noDefer ops.toArray = true) (h : wpList P ops.toArray Q ops a w) : (Code.region id ops.toArray false).wpIn (Fence.wide.inRound l) n P Q a w := by
 refine wpIn_region_lit (list_round l n hl _ a w (fun o ho => ?_) h);obtain ⟨i, hi⟩ := List.mem_iff_getElem?.1 ho;exact noDefer_at hd (i := i) (by simpa using hi)
end
theorem Kpt.setCell {M : Nat → Prop} (w : World) (g o : Nat) (v : Value) (hM : M g) : Kpt M w (w.setCell ⟨g, o, none⟩ v) :=
 ⟨rfl, rfl, rfl, by simp [World.setCell], fun k _ hk => Below.heap_setCell _ _ _ _ (fun e => hk (by rw [e]; exact hM))⟩
theorem leave_mark {F : Fence} {n : Nat} {P : Program} {fn : Func} {R : Ending → World → Prop} {tmps : Array Value} {w : World} {D : Nat} {v : Value} (hD : w.heap[D]? = some (.deferred (some []))) (h : (results fn tmps).run P (w.putObj D (.deferred none)) = .ok v (w.putObj D (.deferred none))) (hR : R (.returned v) (w.putObj D (.deferred none))) :
  LeavesInM F n P fn tmps R [{ target := .collected D, args := #[] }] .returning w := by
 refine ⟨by simp, .inl ⟨_, _, rfl, run_takeDeferred hD, ?_⟩⟩;exact ⟨_, h, hR⟩
section
variable {P : Program} {Q : Exit → Act → World → Prop} {a : Act} {m : List Bool} {V : Nat → Value → World → Prop} {w0 : World} {ops : Array Oper} {plan : Plan} {k n : Nat}
end
def SeqLv {α : Type} (P : Program) (n g : Nat) (lb : Array Value) (encs : α → Array Value) (Pre S : List α → Prop) (M : Nat → Prop) (l : Nat) (W : World) : Prop :=
 ∀ J Jx : List α → World → Prop, (∀ s A B, J s A → bw A B → J s B) → (∀ s A B, Jx s A → bw A B → Jx s B) →
  (∀ pre x W1, J pre W1 → Pre (pre ++ [x]) → W.heap.size ≤ W1.heap.size → YieldAt Fence.wide (n - 1) P l (encs x) W1 fun e W' => (e = .returned (.bool true) ∧ J (pre ++ [x]) W' ∧ Kpt (fun k => M k ∨ k = l) W1 W') ∨ (e = .returned (.bool false) ∧ Jx (pre ++ [x]) W')) →
  J [] W → CallsIn Fence.wide n P g (#[.func (.yield l) #[] #[]] ++ lb) W fun e W' => (∃ v, e = .returned v) ∧ ((∃ xs, S xs ∧ J xs W') ∨ ∃ pre, Pre pre ∧ Jx pre W')
section
variable {P : Program} {n : Nat}
theorem range_leave {α : Type} {g : Operand} {ps : Array Tmp} {assign body : Code} {Q : Exit → Act → World → Prop} {a : Act} {w : World}
  {gf : Nat} {lb : Array Value} (hg : a.eval g = .func (.func gf) #[] lb) (eg : ∀ args w, (callFunc gf args).run P w = .ok (.enter gf args) w)
  (M : Nat → Prop) (Pre S : List α → Prop) (encs : α → Array Value) (hps : ∀ x, (encs x).size = ps.size)
  (hseq : ∀ W, bw w W → W.heap.size = w.heap.size + 2 → SeqLv P (n - 1) gf lb encs Pre S M (w.heap.size + 1) W)
  (hM0 : ¬ M w.heap.size) (hM1 : ¬ M (w.heap.size + 1))
  (I Ix : List α → World → Prop) (hI : ∀ s A B, I s A → Kpt (fun k => k = w.heap.size + 1) A B → I s B) (hIx : ∀ s A B, Ix s A → Kpt (fun k => k = w.heap.size + 1) A B → Ix s B) (h0 : I [] w)
  (R : α → Act → World → Prop) (hR : ∀ x a1 A B, R x a1 A → Kpt (fun k => k = w.heap.size + 1) A B → R x a1 B)
  (hassign : ∀ (l : Nat) (pre : List α) (x : α) (W : World) (K : Act → World → Prop), I pre W → Pre (pre ++ [x]) → w.heap.size + 2 ≤ W.heap.size →
   (∀ a1 W2, R x a1 W2 → bw W W2 → K a1 W2) →
   assign.wpIn (Fence.wide.inRound l) (n - 1 - 1) P (Exit.then K (fun _ _ _ => False)) { tmps := (ps.zip (encs x)).foldl (fun t (p, v) => t.setIfInBounds p v) a.tmps, defers := [] } W)
  (hbody : ∀ (l : Nat) (pre : List α) (x : α) (a1 : Act) (W : World), I pre W → Pre (pre ++ [x]) → w.heap.size + 2 ≤ W.heap.size → R x a1 W →
   body.wpIn (Fence.wide.inRound l) (n - 1 - 1) P (fun e _ W' => (e = .normal ∧ Kpt M W W' ∧ I (pre ++ [x]) W') ∨ (e = .ret ∧ Kpt M W W' ∧ Ix (pre ++ [x]) W')) a1 W)
  (hdone : ∀ xs W, S xs → I xs W → w.heap.size + 2 ≤ W.heap.size → W.heap[w.heap.size]? = some (.deferred (some [])) → Q .normal { a with defers := { target := .collected w.heap.size, args := #[] } :: a.defers } W)
  (hstop : ∀ pre W, Pre pre → Ix pre W → w.heap.size + 2 ≤ W.heap.size → W.heap[w.heap.size]? = some (.deferred (some [])) → Q .ret { a with defers := { target := .collected w.heap.size, args := #[] } :: a.defers } W) :
  (Code.rangeFunc g ps assign body).wp P Q a w := by
 refine (wpIn_wide (n := n)).1 (wpIn_rangeFunc ?_);intro fn hfn;have hIb : ∀ {s A B}, I s A → bw A B → I s B := fun h hb => hI _ _ _ h (Kpt.of_below hb);have hIl : ∀ {s A} (o : Obj), I s A → I s (A.putObj (w.heap.size + 1) o) := fun o h => hI _ _ _ h (Kpt.putObj _ _ _ _ rfl);have hXl : ∀ {s A} (o : Obj), Ix s A → Ix s (A.putObj (w.heap.size + 1) o) := fun o h => hIx _ _ _ h (Kpt.putObj _ _ _ _ rfl);obtain ⟨rec, hrec⟩ : ∃ rec : LoopState → Option Code → Loop, rec = fun st pe => { state := st, pending := pe, fn, tmps := a.tmps, params := ps, assign, body, defers := w.heap.size } := ⟨_, rfl⟩;obtain ⟨W1, hW1⟩ : ∃ W1, (w.alloc (.deferred (some []))).alloc (.loop (rec .ready none)) = W1 := ⟨_, rfl⟩;have hsz : W1.heap.size = w.heap.size + 2 := by rw [← hW1]; simp
 have hL1 : W1.heap[w.heap.size + 1]? = some (.loop (rec .ready none)) := by
  rw [← hW1]; have := World.alloc_heap_new (w.alloc (.deferred (some []))) (.loop (rec .ready none)); rwa [World.size_alloc] at this
 have hK1 : W1.heap[w.heap.size]? = some (.deferred (some [])) := by
  rw [← hW1]; exact (Below.heap_alloc _ _ _ (by simp)).trans (World.alloc_heap_new w _)
 have hb1 : bw w W1 := by rw [← hW1]; exact ((Below.refl _ w).alloc (Nat.le_refl _) _).alloc (by simp) _
 refine ⟨w.heap.size + 1, [{ target := .collected w.heap.size, args := #[] }], W1, { target := .fn (.func gf) lb, args := #[.func (.yield (w.heap.size + 1)) #[] #[]] }, W1, gf,
  #[.func (.yield (w.heap.size + 1)) #[] #[]] ++ lb, W1, ?_, ?_, fun _ _ => trivial, ?_, fun hc => (by cases hc), ?_⟩
 ·rw [← hW1, hrec]; exact run_enterLoop_outer _ _ _ _ _
 ·simp only [resolve, hg]
  simp [go_sem]
 ·simp [invoke, go_sem, eg]
 ·refine (hseq W1 hb1 hsz (fun pre W => I pre W ∧ W.heap[w.heap.size + 1]? = some (.loop (rec .ready none)) ∧ W.heap[w.heap.size]? = some (.deferred (some [])) ∧ w.heap.size + 2 ≤ W.heap.size)
   (fun pre W => Ix pre W ∧ W.heap[w.heap.size + 1]? = some (.loop (rec .done (some .ret))) ∧ W.heap[w.heap.size]? = some (.deferred (some [])) ∧ w.heap.size + 2 ≤ W.heap.size) ?_ ?_ ?_ ⟨hIb h0 hb1, hL1, hK1, by omega⟩).mono ?_
  ·rintro s A B ⟨h1, h2, h3, h4⟩ hAB
   exact ⟨hI _ _ _ h1 (Kpt.of_below hAB), (hAB.block _ (by omega)).trans h2, (hAB.block _ (by omega)).trans h3, Nat.le_trans h4 hAB.size⟩
  ·rintro s A B ⟨h1, h2, h3, h4⟩ hAB
   exact ⟨hIx _ _ _ h1 (Kpt.of_below hAB), (hAB.block _ (by omega)).trans h2, (hAB.block _ (by omega)).trans h3, Nat.le_trans h4 hAB.size⟩
  ·rintro pre x W ⟨hi, hl, hk, hs⟩ hpre hsize
   have hy := run_yield (P := P) (args := encs x) hl (by rw [hrec]; exact hps x);rw [hrec] at hy;refine ⟨fn, _, assign, body, hy, roundIn_of_wpIn hfn (hassign _ pre x W _ hi hpre hs fun a1 W2 hr2 hb2 => ?_)⟩;have hl2 : W2.heap[w.heap.size + 1]? = some (.loop (rec .ready none)) := (hb2.block _ (by omega)).trans hl;have hk2 : W2.heap[w.heap.size]? = some (.deferred (some [])) := (hb2.block _ (by omega)).trans hk;refine ⟨_, run_beginRound hl2 (by rw [hrec]), ?_⟩;obtain ⟨W3, hW3⟩ : ∃ W3, W2.putObj (w.heap.size + 1) (.loop { rec .ready none with state := .busy }) = W3 := ⟨_, rfl⟩;rw [hW3];have k23 : Kpt (fun k => k = w.heap.size + 1) W2 W3 := by rw [← hW3]; exact Kpt.putObj _ _ _ _ rfl
   have hl3 : W3.heap[w.heap.size + 1]? = some (.loop { rec .ready none with state := .busy }) := by rw [← hW3]; exact World.putObj_heap_same (by have := hb2.size; omega)
   have hk3 : W3.heap[w.heap.size]? = some (.deferred (some [])) := (k23.block _ (by have := hb2.size; omega) (by omega)).trans hk2;have hi3 : I pre W3 := hI _ _ _ (hIb hi hb2) k23;have hs3 : w.heap.size + 2 ≤ W3.heap.size := Nat.le_trans hs (Nat.le_trans hb2.size k23.size);refine wpIn_mono (hbody _ pre x a1 W3 hi3 hpre hs3 (hR _ _ _ _ hr2 k23)) ?_;rintro e a4 W4 (⟨rfl, k34, hi4⟩ | ⟨rfl, k34, hi4⟩)
   ·have hl4 : W4.heap[w.heap.size + 1]? = some (.loop { rec .ready none with state := .busy }) := (k34.block _ (by omega) hM1).trans hl3
    have hk4 : W4.heap[w.heap.size]? = some (.deferred (some [])) := (k34.block _ (by omega) hM0).trans hk3;have hend := run_endRound (P := P) none hl4;have hs4 : w.heap.size + 2 ≤ W4.heap.size := Nat.le_trans hs3 k34.size;refine ⟨_, _, hend, .inl ⟨rfl, ⟨hIl _ hi4, ?_, ?_, ?_⟩, ?_⟩⟩
    ·rw [World.putObj_heap_same (by omega), hrec]; rfl
    ·exact (World.putObj_heap_other (by omega)).trans hk4
    ·simpa using hs4
    ·refine (Kpt.of_below hb2).trans ((k23.mono fun k e => .inr e).trans ((k34.mono fun k e => .inl e).trans (Kpt.putObj _ _ _ _ (.inr rfl))))
   ·have hl4 : W4.heap[w.heap.size + 1]? = some (.loop { rec .ready none with state := .busy }) := (k34.block _ (by omega) hM1).trans hl3
    have hk4 : W4.heap[w.heap.size]? = some (.deferred (some [])) := (k34.block _ (by omega) hM0).trans hk3;have hend := run_endRound (P := P) (some .ret) hl4;have hs4 : w.heap.size + 2 ≤ W4.heap.size := Nat.le_trans hs3 k34.size;refine ⟨_, _, hend, .inr ⟨rfl, hXl _ hi4, ?_, ?_, ?_⟩⟩
    ·rw [World.putObj_heap_same (by omega), hrec]; rfl
    ·exact (World.putObj_heap_other (by omega)).trans hk4
    ·simpa using hs4
  ·rintro e W2 ⟨⟨v, rfl⟩, (⟨xs, hS, hi, hl, hk, hs⟩ | ⟨pre, hP, hi, hl, hk, hs⟩)⟩
   ·exact ⟨none, _, by have := run_endLoop (P := P) hl (by rw [hrec]; simp); rw [hrec] at this; exact this, hdone xs _ hS (hIl _ hi) (by simpa using hs) ((World.putObj_heap_other (by omega)).trans hk)⟩
   ·exact ⟨some .ret, _, by have := run_endLoop (P := P) hl (by rw [hrec]; simp); rw [hrec] at this; exact this, wpIn_ret (hstop pre _ hP (hXl _ hi) (by simpa using hs) ((World.putObj_heap_other (by omega)).trans hk))⟩
end
end Go.Proofs.YtcajifelbldjnaaGreatDoor
