import Derived.Test.YtgahlhfgpkklaaaDoorHa
import Derived.Test.YtgahlhfgpkklaaaDoorHb
import Derived.RangeFuncLeaves
import Derived.RangeFuncCalls
import Derived.RangeFuncNested
import Derived.OrdersIn

/- A range over a function of the program's own; regions within a round. -/
namespace Go.Proofs.YtgahlhfgpkklaaaDoor
open Go.RowKit
/-! ### operations within a round -/
section
variable {P : Program} {Q : Exit → Act → World → Prop}
theorem oper_round {o : Oper} {a : Act} {w : World} {K : Act → World → Prop} (l n : Nat) (h : o.wp P a w K Q) (hd : ∀ c, o.op ≠ .defer c) : o.wpIn (Fence.wide.inRound l) n P a w K Q := by
  refine ⟨fun _ _ => trivial, ?_⟩
  show o.uponIn _ n P a K Q ((o.semAt (some l) a.eval).run P w)
  rw [Oper.semAt_some _ _ _ hd]
  unfold Oper.wp at h
  generalize (execOp a.eval o).run P w = r at *
  cases r with
  | ok x w' =>
    cases x with
    | value v => exact h
    | skip => exact h
    | defer d => exact h
    | enter f args => exact ⟨fun hc => (by cases hc), CallsIn.inRound l (callsIn_wide.2 h)⟩
    | row r args => exact ⟨fun hc => (by cases hc), fun c cs _ => let ⟨v, w', r, s⟩ := h c cs; ⟨v, w', r, stepsIn_wide.2 s⟩⟩
    | _ => exact h.elim
  | halt x w' => cases x <;> first | exact h | exact h.elim
def noDefer (ops : Array Oper) : Bool := ops.toList.all fun o => match o.op with
  | .defer _ => false
  | _ => true
theorem noDefer_at {ops : Array Oper} (h : noDefer ops = true) {i : Nat} {o : Oper} (ho : ops[i]? = some o) : ∀ c, o.op ≠ .defer c := by
  intro c e
  have hm : o ∈ ops.toList := by
    rw [List.mem_iff_getElem?]
    exact ⟨i, by rw [← ho]; simp⟩
  have := List.all_eq_true.1 h o hm
  rw [e] at this
  cases this
theorem any_round {ops : Array Oper} (l n : Nat) (hd : noDefer ops = true) (hl : ¬ LetsOut Q) {md : Region.Mode} : ∀ (fuel : Nat) (listed : Array Bool) (a : Act) (w : World),
    wpAny P md ops Q fuel listed a w → wpAnyIn (Fence.wide.inRound l) n P md ops Q fuel listed a w
  | 0, listed, a, w, h => h
  | fuel + 1, listed, a, w, h => by
    refine ⟨h.1, fun i hi => ?_⟩
    have h2 := h.2 i hi
    unfold wpOp at h2
    unfold wpOpIn
    cases ho : ops[i]? with
    | none => rw [ho] at h2; exact any_round l n hd hl fuel _ a w h2
    | some o =>
      rw [ho] at h2
      simp only at h2 ⊢
      split
      · rename_i hw
        rw [if_pos hw] at h2
        rcases h2 with h2 | h2
        · exact oper_round l n (Oper.wp_mono (fun a w h => any_round l n hd hl fuel _ a w h) h2) (noDefer_at hd ho)
        · exact absurd h2.2 hl
      · rename_i hw
        rw [if_neg hw] at h2
        exact ⟨fun _ _ => trivial, any_round l n hd hl fuel _ _ w h2⟩
theorem inv_r {ops : Array Oper} {a : Act} {w0 : World} {id : Nat} (l n : Nat) (hd : noDefer ops = true) (hl : ¬ LetsOut Q) (m : List Bool) (plan : Plan) (V : Nat → Value → World → Prop) (hmix : P.follows .mixedOrders = true) (hok : planOk ops plan m a.tmps.size = true)
    (hmono : ∀ d v w w', V d v w → Below w.heap.size w w' → V d v w') (hob : Obls P Q a m V w0 ops.toList plan)
    (hdone : ∀ f w, Below w0.heap.size w0 w → AllP V f w plan → Q .normal (over a m f) w) : (Code.region id ops true).wpIn (Fence.wide.inRound l) n P Q a w0 := by
  refine wpIn_region_any hmix (any_round l n hd hl _ _ _ _ (any_inv hmono hok hob hdone _ _ _ _ (by simp) (by simp) ⟨fun k => (a.tmps.toList[k]?).getD undef, (over_start a m).symm, ⟨rfl, rfl, rfl, Nat.le_refl _, fun _ _ => rfl⟩, ?_⟩))
  intro i o d _ _ h
  simp [Array.getElem?_replicate] at h
theorem all_r {ops : Array Oper} {a : Act} {w0 : World} {id : Nat} (l n : Nat) (hd : noDefer ops = true) (hl : ¬ LetsOut Q) (m : List Bool) (plan : GPlan) (V : Nat → List Value → World → Prop) (J : (Nat → Value) → World → Prop) (hmix : P.follows .mixedOrders = true) (hok : gOk ops plan m a.tmps.size = true)
    (hJ0 : J (fun k => (a.tmps.toList[k]?).getD undef) w0.drew) (hob : OblsG P Q a m plan V J w0 0 ops.toList plan)
    (hdone : ∀ f w, Below w0.heap.size w0 w → J f w → AllG V f w 0 plan → Q .normal (over a m f) w) : (Code.region id ops true).wpIn (Fence.wide.inRound l) n P Q a w0 := by
  refine wpIn_region_any hmix (any_round l n hd hl _ _ _ _ (anyG hok hob hdone _ _ _ _ (by simp) (by simp) ⟨?_, fun k => (a.tmps.toList[k]?).getD undef, (over_start a m).symm, ⟨rfl, rfl, rfl, Nat.le_refl _, fun _ _ => rfl⟩, hJ0, ?_⟩))
  · intro i o _ h
    simp [Array.getElem?_replicate] at h
  · intro i h
    simp [Array.getElem?_replicate] at h
end
/-! ### a range over a function -/
/-- All that lay lies as it lay, but where M says. -/
structure Kpt (M : Nat → Prop) (W W' : World) : Prop where
  os : W'.os = W.os
  tape : W'.tape = W.tape
  output : W'.output = W.output
  size : W.heap.size ≤ W'.heap.size
  block : ∀ k, k < W.heap.size → ¬ M k → W'.heap[k]? = W.heap[k]?
theorem Kpt.refl (M : Nat → Prop) (W : World) : Kpt M W W := ⟨rfl, rfl, rfl, Nat.le_refl _, fun _ _ _ => rfl⟩
theorem Kpt.trans {M : Nat → Prop} {X Y Z : World} (h : Kpt M X Y) (k : Kpt M Y Z) : Kpt M X Z :=
  ⟨k.os.trans h.os, k.tape.trans h.tape, k.output.trans h.output, Nat.le_trans h.size k.size, fun i hi hm => (k.block i (Nat.lt_of_lt_of_le hi h.size) hm).trans (h.block i hi hm)⟩
theorem Kpt.mono {M M' : Nat → Prop} {X Y : World} (h : Kpt M X Y) (hm : ∀ k, M k → M' k) : Kpt M' X Y := ⟨h.os, h.tape, h.output, h.size, fun k hk hn => h.block k hk fun e => hn (hm k e)⟩
theorem Kpt.of_below {M : Nat → Prop} {X Y : World} (h : Below X.heap.size X Y) : Kpt M X Y := ⟨h.os, h.tape, h.output, h.size, fun k hk _ => h.block k hk⟩
theorem Kpt.below {M : Nat → Prop} {X Y : World} (h : Kpt M X Y) {B : Nat} (hB : B ≤ X.heap.size) (hm : ∀ k, M k → B ≤ k) : Below B X Y :=
  ⟨h.os, h.tape, h.output, h.size, fun k hk => h.block k (Nat.lt_of_lt_of_le hk hB) fun e => absurd (hm k e) (by omega)⟩
theorem Kpt.putObj (M : Nat → Prop) (W : World) (l : Nat) (o : Obj) (hm : M l) : Kpt M W (W.putObj l o) :=
  ⟨rfl, rfl, rfl, by simp, fun k _ hk => World.putObj_heap_other (fun e => hk (by rw [e]; exact hm))⟩
theorem Kpt.grown {M : Nat → Prop} {X Y : World} {r : Option Nat} (h : X.grownBy Y r) (hm : ∀ k, r = some k → M k) : Kpt M X Y := ⟨h.os, h.tape, h.output, h.size, fun k hk hn => h.block k hk fun e => hn (hm k e.symm)⟩
theorem Kpt.of_low {B : Nat} {X Y : World} (h : Below B X Y) : Kpt (fun k => B ≤ k) X Y := ⟨h.os, h.tape, h.output, h.size, fun k _ hm => h.block k (by omega)⟩
/-- What an iterator gives, one behind the other: it turns what It says, the body what M says. -/
def SeqGen {α : Type} (P : Program) (n g : Nat) (lb : Array Value) (encs : α → Array Value) (Pre S : List α → Prop) (It M : Nat → Prop) (l : Nat) (W : World) : Prop :=
  ∀ J : List α → World → Prop, (∀ s A B, J s A → Kpt It A B → J s B) →
    (∀ pre x W1, J pre W1 → Pre (pre ++ [x]) → W.heap.size ≤ W1.heap.size → YieldAt Fence.wide (n - 1) P l (encs x) W1 fun e W' => e = .returned (.bool true) ∧ J (pre ++ [x]) W' ∧ Kpt (fun k => M k ∨ k = l) W1 W') →
    J [] W → CallsIn Fence.wide n P g (#[.func (.yield l) #[] #[]] ++ lb) W fun e W' => (∃ v, e = .returned v) ∧ ∃ xs, S xs ∧ J xs W'
section
variable {P : Program} {n : Nat}
theorem range_gen {α : Type} {g : Operand} {ps : Array Tmp} {assign body : Code} {Q : Exit → Act → World → Prop} {a : Act} {w : World}
    {gf : Nat} {lb : Array Value} (hg : a.eval g = .func (.func gf) #[] lb) (eg : ∀ args w, (callFunc gf args).run P w = .ok (.enter gf args) w)
    (It M : Nat → Prop) (Pre S : List α → Prop) (encs : α → Array Value) (hps : ∀ x, (encs x).size = ps.size)
    (hseq : ∀ W, Below w.heap.size w W → W.heap.size = w.heap.size + 2 → SeqGen P (n - 1) gf lb encs Pre S It M (w.heap.size + 1) W)
    (hIt : ∀ k, It k → w.heap.size + 2 ≤ k) (hM0 : ¬ M w.heap.size) (hM1 : ¬ M (w.heap.size + 1))
    (I : List α → World → Prop) (hI : ∀ s A B, I s A → Kpt (fun k => k = w.heap.size + 1 ∨ It k) A B → I s B) (h0 : I [] w)
    (R : α → Act → World → Prop) (hR : ∀ x a1 A B, R x a1 A → Kpt (fun k => k = w.heap.size + 1) A B → R x a1 B)
    (hassign : ∀ (l : Nat) (pre : List α) (x : α) (W : World) (K : Act → World → Prop), I pre W → Pre (pre ++ [x]) → w.heap.size + 2 ≤ W.heap.size →
      (∀ a1 W2, R x a1 W2 → Below W.heap.size W W2 → K a1 W2) →
      assign.wpIn (Fence.wide.inRound l) (n - 1 - 1) P (Exit.then K (fun _ _ _ => False)) { tmps := (ps.zip (encs x)).foldl (fun t (p, v) => t.setIfInBounds p v) a.tmps, defers := [] } W)
    (hbody : ∀ (l : Nat) (pre : List α) (x : α) (a1 : Act) (W : World), I pre W → Pre (pre ++ [x]) → w.heap.size + 2 ≤ W.heap.size → R x a1 W →
      body.wpIn (Fence.wide.inRound l) (n - 1 - 1) P (fun e _ W' => e = .normal ∧ Kpt M W W' ∧ I (pre ++ [x]) W') a1 W)
    (hdone : ∀ xs W, S xs → I xs W → w.heap.size + 2 ≤ W.heap.size → W.heap[w.heap.size]? = some (.deferred (some [])) → Q .normal { a with defers := { target := .collected w.heap.size, args := #[] } :: a.defers } W) :
    (Code.rangeFunc g ps assign body).wp P Q a w := by
  refine (wpIn_wide (n := n)).1 (wpIn_rangeFunc ?_)
  intro fn hfn
  have hIb : ∀ {s A B}, I s A → Below A.heap.size A B → I s B := fun h hb => hI _ _ _ h (Kpt.of_below hb)
  have hIl : ∀ {s A} (o : Obj), I s A → I s (A.putObj (w.heap.size + 1) o) := fun o h => hI _ _ _ h (Kpt.putObj _ _ _ _ (.inl rfl))
  obtain ⟨rec, hrec⟩ : ∃ rec : LoopState → Option Code → Loop, rec = fun st pe => { state := st, pending := pe, fn, tmps := a.tmps, params := ps, assign, body, defers := w.heap.size } := ⟨_, rfl⟩
  obtain ⟨W1, hW1⟩ : ∃ W1, (w.alloc (.deferred (some []))).alloc (.loop (rec .ready none)) = W1 := ⟨_, rfl⟩
  have hsz : W1.heap.size = w.heap.size + 2 := by rw [← hW1]; simp
  have hL1 : W1.heap[w.heap.size + 1]? = some (.loop (rec .ready none)) := by
    rw [← hW1]; have := World.alloc_heap_new (w.alloc (.deferred (some []))) (.loop (rec .ready none)); rwa [World.size_alloc] at this
  have hK1 : W1.heap[w.heap.size]? = some (.deferred (some [])) := by
    rw [← hW1]; exact (Below.heap_alloc _ _ _ (by simp)).trans (World.alloc_heap_new w _)
  have hb1 : Below w.heap.size w W1 := by rw [← hW1]; exact ((Below.refl _ w).alloc (Nat.le_refl _) _).alloc (by simp) _
  refine ⟨w.heap.size + 1, [{ target := .collected w.heap.size, args := #[] }], W1, { target := .fn (.func gf) lb, args := #[.func (.yield (w.heap.size + 1)) #[] #[]] }, W1, gf,
    #[.func (.yield (w.heap.size + 1)) #[] #[]] ++ lb, W1, ?_, ?_, fun _ _ => trivial, ?_, fun hc => (by cases hc), ?_⟩
  · rw [← hW1, hrec]; exact run_enterLoop_outer _ _ _ _ _
  · simp only [resolve, hg]
    simp [go_sem]
  · simp [invoke, go_sem, eg]
  · refine (hseq W1 hb1 hsz (fun pre W => I pre W ∧ W.heap[w.heap.size + 1]? = some (.loop (rec .ready none)) ∧ W.heap[w.heap.size]? = some (.deferred (some [])) ∧ w.heap.size + 2 ≤ W.heap.size) ?_ ?_ ⟨hIb h0 hb1, hL1, hK1, by omega⟩).mono ?_
    · rintro s A B ⟨h1, h2, h3, h4⟩ hAB
      exact ⟨hI _ _ _ h1 (hAB.mono fun k e => .inr e), (hAB.block _ (by omega) fun e => by have := hIt _ e; omega).trans h2, (hAB.block _ (by omega) fun e => by have := hIt _ e; omega).trans h3, Nat.le_trans h4 hAB.size⟩
    · rintro pre x W ⟨hi, hl, hk, hs⟩ hpre hsize
      have hy := run_yield (P := P) (args := encs x) hl (by rw [hrec]; exact hps x)
      rw [hrec] at hy
      refine ⟨fn, _, assign, body, hy, roundIn_of_wpIn hfn (hassign _ pre x W _ hi hpre hs fun a1 W2 hr2 hb2 => ?_)⟩
      have hl2 : W2.heap[w.heap.size + 1]? = some (.loop (rec .ready none)) := (hb2.block _ (by omega)).trans hl
      have hk2 : W2.heap[w.heap.size]? = some (.deferred (some [])) := (hb2.block _ (by omega)).trans hk
      refine ⟨_, run_beginRound hl2 (by rw [hrec]), ?_⟩
      obtain ⟨W3, hW3⟩ : ∃ W3, W2.putObj (w.heap.size + 1) (.loop { rec .ready none with state := .busy }) = W3 := ⟨_, rfl⟩
      rw [hW3]
      have k23 : Kpt (fun k => k = w.heap.size + 1) W2 W3 := by rw [← hW3]; exact Kpt.putObj _ _ _ _ rfl
      have hl3 : W3.heap[w.heap.size + 1]? = some (.loop { rec .ready none with state := .busy }) := by rw [← hW3]; exact World.putObj_heap_same (by have := hb2.size; omega)
      have hk3 : W3.heap[w.heap.size]? = some (.deferred (some [])) := (k23.block _ (by have := hb2.size; omega) (by omega)).trans hk2
      have hi3 : I pre W3 := hI _ _ _ (hIb hi hb2) (k23.mono fun k e => .inl e)
      have hs3 : w.heap.size + 2 ≤ W3.heap.size := Nat.le_trans hs (Nat.le_trans hb2.size k23.size)
      refine wpIn_mono (hbody _ pre x a1 W3 hi3 hpre hs3 (hR _ _ _ _ hr2 k23)) ?_
      rintro e a4 W4 ⟨rfl, k34, hi4⟩
      have hl4 : W4.heap[w.heap.size + 1]? = some (.loop { rec .ready none with state := .busy }) := (k34.block _ (by omega) hM1).trans hl3
      have hk4 : W4.heap[w.heap.size]? = some (.deferred (some [])) := (k34.block _ (by omega) hM0).trans hk3
      have hend := run_endRound (P := P) none hl4
      have hs4 : w.heap.size + 2 ≤ W4.heap.size := Nat.le_trans hs3 k34.size
      refine ⟨_, _, hend, rfl, ⟨hIl _ hi4, ?_, ?_, ?_⟩, ?_⟩
      · rw [World.putObj_heap_same (by omega), hrec]; rfl
      · exact (World.putObj_heap_other (by omega)).trans hk4
      · simpa using hs4
      · refine (Kpt.of_below hb2).trans ((k23.mono fun k e => .inr e).trans ((k34.mono fun k e => .inl e).trans (Kpt.putObj _ _ _ _ (.inr rfl))))
    · rintro e W2 ⟨⟨v, rfl⟩, xs, hS, hi, hl, hk, hs⟩
      exact ⟨none, _, by have := run_endLoop (P := P) hl (by rw [hrec]; simp); rw [hrec] at this; exact this, hdone xs _ hS (hIl _ hi) (by simpa using hs) ((World.putObj_heap_other (by omega)).trans hk)⟩
end
section
variable {P : Program} {Q : Exit → Act → World → Prop}
theorem list_round {ops : Array Oper} (l n : Nat) (hl : ¬ LetsOut Q) : ∀ (rest : List Oper) (a : Act) (w : World), (∀ o ∈ rest, ∀ c, o.op ≠ .defer c) →
    wpList P ops Q rest a w → wpListIn (Fence.wide.inRound l) n P ops Q rest a w
  | [], a, w, _, h => h
  | o :: rest, a, w, hd, h => by
    unfold wpList at h
    unfold wpListIn
    split at h
    · rename_i hw
      rw [if_pos hw]
      rcases h with h | h
      · exact oper_round l n (Oper.wp_mono (fun a w h => list_round l n hl rest a w (fun x hx => hd x (by simp [hx])) h) h) (hd o (by simp))
      · exact absurd h.2 hl
    · rename_i hw
      rw [if_neg hw]
      exact ⟨fun _ _ => trivial, list_round l n hl rest _ w (fun x hx => hd x (by simp [hx])) h⟩
theorem region_round {ops : List Oper} {id : Nat} {a : Act} {w : World} (l n : Nat) (hl : ¬ LetsOut Q) (hd : noDefer ops.toArray = true) (h : wpList P ops.toArray Q ops a w) : (Code.region id ops.toArray false).wpIn (Fence.wide.inRound l) n P Q a w := by
  refine wpIn_region_lit (list_round l n hl _ a w (fun o ho => ?_) h)
  obtain ⟨i, hi⟩ := List.mem_iff_getElem?.1 ho
  exact noDefer_at hd (i := i) (by simpa using hi)
end
theorem Kpt.setCell {M : Nat → Prop} (w : World) (g o : Nat) (v : Value) (hM : M g) : Kpt M w (w.setCell ⟨g, o, none⟩ v) :=
  ⟨rfl, rfl, rfl, by simp [World.setCell], fun k _ hk => Below.heap_setCell _ _ _ _ (fun e => hk (by rw [e]; exact hM))⟩
theorem OwnR.kpt {α : Type} {c : Enc α} {w w' : World} {base : Nat} {v : Value} {ps : List α} {M : Nat → Prop} (h : OwnR c w base v ps) (hk : Kpt M w w') (hM : ∀ k, M k → k < base) : OwnR c w' base v ps := by
  obtain ⟨h1, h2⟩ := h
  refine ⟨h1, h2.imp id ?_⟩
  rintro ⟨g, cap, cur, e, hg, hh, r⟩
  exact ⟨g, cap, cur, e, hg, (hk.block g (Array.getElem?_eq_some_iff.1 hh).1 (fun e => by have := hM g e; omega)).trans hh, r⟩
theorem RdR.kpt {α : Type} {c : Enc α} {w w' : World} {ao : Option Addr} {l : List α} {M : Nat → Prop} (h : RdR c w ao l) (hk : Kpt M w w') (hM : ∀ ad, ao = some ad → ¬ M ad.block) : RdR c w' ao l := by
  rcases h with h | ⟨g, off, rfl, h1, h2⟩
  · exact .inl h
  · refine .inr ⟨g, off, rfl, Nat.lt_of_lt_of_le h1 hk.size, fun k hk2 j hj => ?_⟩
    rw [← h2 k hk2 j hj]
    exact World.cell?_of_block (hk.block g h1 (hM _ rfl))
theorem OwnR.row {α : Type} {c : Enc α} {w : World} {base : Nat} {v : Value} {ps : List α} (h : OwnR c w base v ps) : ∀ k, v.ownBlock = some k → base ≤ k := fun k hk => (World.ownsRow.lt h k hk).1
theorem leave_plain {F : Fence} {n : Nat} {P : Program} {fn : Func} {R : Ending → World → Prop} {tmps : Array Value} {w : World} {v : Value} (h : (results fn tmps).run P w = .ok v w) (hR : R (.returned v) w) : LeavesInM F n P fn tmps R [] .returning w := ⟨_, h, hR⟩
theorem leave_mark {F : Fence} {n : Nat} {P : Program} {fn : Func} {R : Ending → World → Prop} {tmps : Array Value} {w : World} {D : Nat} {v : Value} (hD : w.heap[D]? = some (.deferred (some []))) (h : (results fn tmps).run P (w.putObj D (.deferred none)) = .ok v (w.putObj D (.deferred none))) (hR : R (.returned v) (w.putObj D (.deferred none))) :
    LeavesInM F n P fn tmps R [{ target := .collected D, args := #[] }] .returning w := by
  refine ⟨by simp, .inl ⟨_, _, rfl, run_takeDeferred hD, ?_⟩⟩
  exact ⟨_, h, hR⟩

end Go.Proofs.YtgahlhfgpkklaaaDoor

/- A drawn region with a call of yield at its end; a range over a function whose body may return. -/
namespace Go.Proofs.YtgahlhfgpkklaaaDoor
open Go.RowKit
section
variable {P : Program} {Q : Exit → Act → World → Prop} {a : Act} {m : List Bool} {V : Nat → Value → World → Prop} {w0 : World} {ops : Array Oper} {plan : Plan} {k n L : Nat}
/-- The step of an operation ahead of the stores. -/
theorem seq_stepI (hdf : noDefer ops = true) (hmono : ∀ d v w w', V d v w → Below w.heap.size w w' → V d v w') (hnd : nodupB (plan.map (·.1)) = true) (hall : planAll ops m a.tmps.size (ops.toList.take k) plan = true) (hob : Obls P Q a m V w0 (ops.toList.take k) plan)
    {listed : Array Bool} {i : Nat} (hik : i < k) (hsu : ∀ j, k ≤ j → listed[j]? ≠ some true) (hi : i ∈ Region.ready .any ops listed) {a' : Act} {w : World} (h : Inv a m V w0 ops listed a' w) :
    wpOpIn (Fence.wide.inRound L) n P ops Q i (fun a2 w2 => Inv a m V w0 ops (listed.setIfInBounds i true) a2 w2) a' w := by
  obtain ⟨hlt, hun, hpre⟩ := ready_pre hi
  obtain ⟨o, ho⟩ : ∃ o, ops[i]? = some o := ⟨ops[i], by simp [hlt]⟩
  have hpre := hpre o ho
  have hoL : (ops.toList.take k)[i]? = some o := by rw [List.getElem?_take, if_pos hik]; simpa using ho
  obtain ⟨p, hp, h1⟩ := planAll_at hall hoL
  have hO := obls_at hob hoL hp
  simp only [planOne, Bool.and_eq_true] at h1
  obtain ⟨⟨⟨⟨hd, hm⟩, hdn⟩, hps⟩, hg⟩ := h1
  have hd' : o.dst = some p.1 := by simpa using hd
  have hm' := getD_true hm
  obtain ⟨f, rfl, hb, hV⟩ := h
  have hav : ∀ l : List Nat, (∀ d ∈ l, d ∈ p.2.1) → AllV V f w l := by
    intro l
    induction l with
    | nil => intro _; trivial
    | cons d l ih =>
      intro hl
      refine ⟨?_, ih fun x hx => hl x (by simp [hx])⟩
      have h2 := List.all_eq_true.1 hps d (hl d (by simp))
      obtain ⟨e, he, h3⟩ := Array.any_eq_true'.1 h2
      simp only [Bool.and_eq_true] at h3
      have h5 : (ops[e.on]?).bind (·.dst) = some d := by simpa using h3.2
      obtain ⟨oe, hoe, hde⟩ := Option.bind_eq_some_iff.1 h5
      exact hV e.on oe d hoe hde (hpre e he h3.1)
  have hav := hav p.2.1 fun _ h => h
  have hfin : ∀ v w2, V p.1 v w2 → Below w.heap.size w w2 → Inv a m V w0 ops (listed.setIfInBounds i true) ((over a m f).put (some p.1) v) w2 := by
    intro v w2 hv hb2
    refine ⟨upd f p.1 v, over_put a m f p.1 v hm', hb.trans (hb2.mono hb.size), ?_⟩
    intro j oj d hj hdj hlj
    by_cases e : j = i
    · subst e
      rw [ho] at hj; cases hj
      rw [hd'] at hdj; cases hdj
      rw [upd_same]; exact hv
    · have hlj2 : listed[j]? = some true := by simpa [Array.getElem?_setIfInBounds, Ne.symm e] using hlj
      have hjk : j < k := by
        by_cases h : j < k
        · exact h
        · exact absurd hlj2 (hsu j (by omega))
      have hne : d ≠ p.1 := by
        intro e2; subst e2
        obtain ⟨pj, hpj, h1j⟩ := planAll_at hall (i := j) (o := oj) (by rw [List.getElem?_take, if_pos hjk]; simpa using hj)
        simp only [planOne, Bool.and_eq_true] at h1j
        have hdj2 : oj.dst = some pj.1 := by simpa using h1j.1.1.1.1
        rw [hdj] at hdj2
        refine e (nodup_at hnd (i := j) (j := i) (d := p.1) ?_ ?_)
        · simp only [List.getElem?_map, hpj, Option.map_some, Option.some.injEq]; exact (Option.some.inj hdj2).symm
        · simp only [List.getElem?_map, hp, Option.map_some]
      rw [upd_other hne]
      exact hmono _ _ _ _ (hV j oj d hj hdj hlj2) hb2
  have hDoes : Does P Q a m V o p.1 f w → o.wp P (over a m f) w (fun a2 w2 => Inv a m V w0 ops (listed.setIfInBounds i true) a2 w2) Q := fun hD =>
    hD _ fun a2 w2 ⟨v, hv, ha, hb2⟩ => by subst ha; exact hfin v w2 hv hb2
  have hO := hO f w hb hav
  unfold wpOpIn
  rw [ho]
  simp only
  cases hgo : o.guard with
  | none =>
    rw [hgo] at hg
    have hw : Region.wanted o (yielded ops (over a m f).tmps) = true := by simp [Region.wanted, hgo]
    rw [if_pos hw]
    cases hp2 : p.2.2 with
    | none => rw [hp2] at hO; exact oper_round L n (hDoes hO) (noDefer_at hdf ho)
    | some x => rw [hp2] at hg; simp at hg
  | some jb =>
    obtain ⟨j, b⟩ := jb
    rw [hgo] at hg
    cases hp2 : p.2.2 with
    | none => rw [hp2] at hg; simp at hg
    | some sb =>
      obtain ⟨s, b'⟩ := sb
      rw [hp2] at hg hO
      simp only [Bool.and_eq_true] at hg
      obtain ⟨⟨⟨hs, hbb⟩, hms⟩, hsn⟩ := hg
      have hbb : b = b' := by simpa using hbb
      subst hbb
      have hs : (ops[j]?).bind (·.dst) = some s := by simpa using hs
      have hgs : (over a m f).tmps[s]? = some (f s) := by
        have := overL_at f m 0 s a.tmps.toList (getD_true hms) (by simpa using hsn)
        simpa [over] using this
      have hy : yielded ops (over a m f).tmps j = match f s with | .bool x => some x | _ => none := by
        unfold yielded
        rw [hs]
        simp only [Option.bind_some, hgs]
        cases f s <;> rfl
      by_cases hw : f s = .bool b
      · have : Region.wanted o (yielded ops (over a m f).tmps) = true := by simp [Region.wanted, hgo, hy, hw]
        rw [if_pos this]
        exact oper_round L n (hDoes (hO.1 hw)) (noDefer_at hdf ho)
      · have : ¬ Region.wanted o (yielded ops (over a m f).tmps) = true := by
          simp only [Region.wanted, hgo, hy, beq_iff_eq]
          cases e : f s <;> simp
          rename_i x
          intro e2; subst e2; exact hw e
        rw [if_neg this, hd']
        exact ⟨fun _ _ => trivial, hfin _ _ (hO.2 hw) (Below.refl _ _)⟩

/-- Where the region stands. -/
def StI (L n : Nat) (P : Program) (Q : Exit → Act → World → Prop) (a : Act) (m : List Bool) (V : Nat → Value → World → Prop) (w0 : World) (ops : Array Oper) (k : Nat) (listed : Array Bool) (a' : Act) (w : World) : Prop :=
  Closed ops listed ∧ (((∀ j, k ≤ j → listed[j]? ≠ some true) ∧ Inv a m V w0 ops listed a' w) ∨ ∃ i, k ≤ i ∧ (∀ j, j < ops.size → (listed[j]? = some true ↔ j < i)) ∧ wpListIn (Fence.wide.inRound L) n P ops Q (ops.toList.drop i) a' w)

theorem seq_anyI (hdf : noDefer ops = true) (hmono : ∀ d v w w', V d v w → Below w.heap.size w w' → V d v w') (hback : backB 0 ops.toList = true) (hnd : nodupB (plan.map (·.1)) = true) (hall : planAll ops m a.tmps.size (ops.toList.take k) plan = true) (hseq : seqB ops k = true) (hk : k ≤ ops.size)
    (hob : Obls P Q a m V w0 (ops.toList.take k) plan) (hsuf : ∀ f w, Below w0.heap.size w0 w → AllP V f w plan → wpListIn (Fence.wide.inRound L) n P ops Q (ops.toList.drop k) (over a m f) w) :
    ∀ (fuel : Nat) (listed : Array Bool) (a' : Act) (w : World), listed.size = ops.size → listed.toList.count false ≤ fuel → StI L n P Q a m V w0 ops k listed a' w → wpAnyIn (Fence.wide.inRound L) n P .any ops Q fuel listed a' w := by
  have hcov : ∀ {listed : Array Bool}, Closed ops listed → ∀ {i : Nat}, i ∈ Region.ready .any ops listed → k ≤ i → ∀ j, j < i → listed[j]? = some true := by
    intro listed hc i hi hki j hj
    obtain ⟨hlt, _, hp⟩ := ready_pre hi
    unfold seqB at hseq
    have h1 := List.all_eq_true.1 hseq i (by simpa using hlt)
    rw [Bool.or_eq_true] at h1
    rcases h1 with h1 | h1
    · simp at h1; omega
    · exact covers_listed hc _ i j hp (List.all_eq_true.1 h1 j (by simpa using hj))
  have htoSuf : ∀ {listed : Array Bool} {a' : Act} {w : World}, Inv a m V w0 ops listed a' w → (∀ j, j < k → listed[j]? = some true) → wpListIn (Fence.wide.inRound L) n P ops Q (ops.toList.drop k) a' w := by
    rintro listed a' w ⟨f, rfl, hb, hV⟩ hl
    refine hsuf f w hb (allP_of hall fun i o d ho hd => ?_)
    have hik : i < k := by
      by_cases h : i < k
      · exact h
      · rw [List.getElem?_take, if_neg h] at ho; cases ho
    rw [List.getElem?_take, if_pos hik] at ho
    exact hV i o d (by simpa using ho) hd (hl i hik)
  have hend : ∀ (listed : Array Bool) (a' : Act) (w : World), listed.size = ops.size → StI L n P Q a m V w0 ops k listed a' w → Region.ready .any ops listed = [] → Q .normal a' w := by
    rintro listed a' w hsz ⟨_, h⟩ hr
    have hal := all_listed hback hsz hr
    rcases h with ⟨hs, hI⟩ | ⟨i, hki, hl, hw⟩
    · have hks : k = ops.size := by
        by_cases h : k < ops.size
        · exact absurd (hal k h) (hs k (Nat.le_refl _))
        · omega
      have := htoSuf hI fun j hj => hal j (by omega)
      rw [List.drop_eq_nil_of_le (by simp; omega)] at this
      exact this
    · have : ops.size ≤ i := by
        by_cases h : i < ops.size
        · have := (hl i h).1 (hal i h); omega
        · omega
      rw [List.drop_eq_nil_of_le (by simpa using this)] at hw
      exact hw
  have hstepL : ∀ {listed : Array Bool} {a' : Act} {w : World} {i : Nat}, i < ops.size → k ≤ i → (∀ j, j < ops.size → (listed[j]? = some true ↔ j < i)) → Closed ops (listed.setIfInBounds i true) → listed.size = ops.size → wpListIn (Fence.wide.inRound L) n P ops Q (ops.toList.drop i) a' w →
      wpOpIn (Fence.wide.inRound L) n P ops Q i (fun a2 w2 => StI L n P Q a m V w0 ops k (listed.setIfInBounds i true) a2 w2) a' w := by
    intro listed a' w i hi hki hl hc hsz hw
    have hd : ops.toList.drop i = ops[i] :: ops.toList.drop (i + 1) := by
      rw [List.drop_eq_getElem_cons (by simpa using hi)]; simp
    have hnext : ∀ a2 w2, wpListIn (Fence.wide.inRound L) n P ops Q (ops.toList.drop (i + 1)) a2 w2 → StI L n P Q a m V w0 ops k (listed.setIfInBounds i true) a2 w2 := fun a2 w2 h =>
      ⟨hc, .inr ⟨i + 1, by omega, fun j hj => by
        rw [Array.getElem?_setIfInBounds]
        by_cases e : i = j
        · subst e; rw [if_pos rfl, if_pos (by omega)]; simp
        · rw [if_neg e, hl j hj]; omega, h⟩⟩
    rw [hd] at hw
    unfold wpListIn at hw
    unfold wpOpIn
    rw [show ops[i]? = some ops[i] by simp [hi]]
    simp only
    split
    · rename_i hwn
      rw [if_pos hwn] at hw
      exact Oper.wpIn_mono hnext hw
    · rename_i hwn
      rw [if_neg hwn] at hw
      exact ⟨fun _ _ => trivial, hnext _ _ hw.2⟩
  intro fuel
  induction fuel with
  | zero =>
    intro listed a' w hsz hc hI
    have hr : Region.ready .any ops listed = [] := by
      rw [List.eq_nil_iff_forall_not_mem]
      intro i hi
      obtain ⟨hlt, h1, _⟩ := ready_pre hi
      have h0 : listed.toList.count false = 0 := by omega
      rw [List.count_eq_zero] at h0
      have hlt2 : i < listed.size := by omega
      simp only [Array.getD_eq_getD_getElem?, Array.getElem?_eq_getElem hlt2, Option.getD_some] at h1
      exact h0 (by rw [← h1]; simp)
    exact ⟨hr, hend listed a' w hsz hI hr⟩
  | succ fuel ih =>
    intro listed a' w hsz hc hI
    refine ⟨hend listed a' w hsz hI, fun i hi => ?_⟩
    have hrp := ready_pre hi
    have hlt2 : i < listed.size := by omega
    have h1 := hrp.2.1
    simp only [Array.getD_eq_getD_getElem?, Array.getElem?_eq_getElem hlt2, Option.getD_some] at h1
    have hcount : (listed.setIfInBounds i true).toList.count false ≤ fuel := by
      have hl : i < listed.toList.length := by simpa using hlt2
      have h2 : listed.toList[i] = false := by simpa using h1
      rw [Array.toList_setIfInBounds, List.count_set hl, h2]
      have hp : 0 < listed.toList.count false := List.count_pos_iff.2 (by rw [← h2]; exact List.getElem_mem _)
      rw [if_pos (by rfl), if_neg (by decide)]
      omega
    have hnl : listed[i]? ≠ some true := by rw [Array.getElem?_eq_getElem hlt2, h1]; simp
    refine wpOpIn_mono (K := fun a2 w2 => StI L n P Q a m V w0 ops k (listed.setIfInBounds i true) a2 w2) (fun a2 w2 h2 => ih _ _ _ (by simpa using hsz) hcount h2) ?_
    obtain ⟨hcl, hS⟩ := hI
    have hcl2 := closed_next hcl hi
    rcases hS with ⟨hsu, hI⟩ | ⟨i0, hki, hl, hw⟩
    · by_cases hik : i < k
      · refine wpOpIn_mono (fun a2 w2 h2 => ⟨hcl2, .inl ⟨fun j hj => ?_, h2⟩⟩) (seq_stepI hdf hmono hnd hall hob hik hsu hi hI)
        rw [Array.getElem?_setIfInBounds, if_neg (by omega)]
        exact hsu j hj
      · have hlow := hcov hcl hi (by omega)
        have he : i = k := by
          by_cases h : i = k
          · exact h
          · exact absurd (hlow k (by omega)) (hsu k (Nat.le_refl _))
        subst he
        refine hstepL hrp.1 (Nat.le_refl _) (fun j hj => ⟨fun h => ?_, fun h => hlow j h⟩) hcl2 hsz (htoSuf hI hlow)
        by_cases h2 : j < i
        · exact h2
        · exact absurd h (hsu j (by omega))
    · have hge : i0 ≤ i := by
        by_cases h : i < i0
        · exact absurd ((hl i hrp.1).2 h) hnl
        · omega
      have hlow := hcov hcl hi (by omega)
      have he : i = i0 := by
        by_cases h : i = i0
        · exact h
        · have := (hl i0 (by omega)).1 (hlow i0 (by omega)); omega
      subst he
      exact hstepL hrp.1 hki hl hcl2 hsz hw

/-- A region that draws its order and ends in stores. -/
theorem region_seqI {id : Nat} (hdf : noDefer ops = true) (k : Nat) (m : List Bool) (plan : Plan) (V : Nat → Value → World → Prop) (hmix : P.follows .mixedOrders = true) (hback : backB 0 ops.toList = true) (hnd : nodupB (plan.map (·.1)) = true) (hall : planAll ops m a.tmps.size (ops.toList.take k) plan = true)
    (hseq : seqB ops k = true) (hk : k ≤ ops.size) (hmono : ∀ d v w w', V d v w → Below w.heap.size w w' → V d v w') (hob : Obls P Q a m V w0 (ops.toList.take k) plan)
    (hsuf : ∀ f w, Below w0.heap.size w0 w → AllP V f w plan → wpListIn (Fence.wide.inRound L) n P ops Q (ops.toList.drop k) (over a m f) w) : (Code.region id ops true).wpIn (Fence.wide.inRound L) n P Q a w0 := by
  refine wpIn_region_any hmix (seq_anyI hdf hmono hback hnd hall hseq hk hob hsuf _ _ _ _ (by simp) (by simp) ⟨?_, .inl ⟨?_, fun k => (a.tmps.toList[k]?).getD undef, (over_start a m).symm, ⟨rfl, rfl, rfl, Nat.le_refl _, fun _ _ => rfl⟩, ?_⟩⟩)
  · intro i o _ h
    simp [Array.getElem?_replicate] at h
  · intro j _ h
    simp [Array.getElem?_replicate] at h
  · intro i o d _ _ h
    simp [Array.getElem?_replicate] at h
end
end Go.Proofs.YtgahlhfgpkklaaaDoor

/- A range over a function that gives numbers, whose body may leave. -/
namespace Go.Proofs.YtgahlhfgpkklaaaDoor
open Go.RowKit
/-- What an iterator gives: the numbers xs, one behind the other, until the body leaves; it turns what It says, the body what M says. -/
def Gives (P : Program) (n g : Nat) (lb : Array Value) (xs : List Int) (It M : Nat → Prop) (l : Nat) (W : World) : Prop :=
  ∀ J Jx : Nat → World → Prop, (∀ s A B, J s A → Kpt It A B → J s B) → (∀ s A B, Jx s A → Kpt It A B → Jx s B) →
    (∀ k (h : k < xs.length) W1, J k W1 → W.heap.size ≤ W1.heap.size → YieldAt Fence.wide (n - 1) P l #[.int .i64 (xs[k]'h)] W1 fun e W' => (e = .returned (.bool true) ∧ J (k + 1) W' ∧ Kpt (fun k => M k ∨ k = l) W1 W') ∨ (e = .returned (.bool false) ∧ Jx (k + 1) W' ∧ Kpt (fun k => M k ∨ k = l) W1 W')) →
    J 0 W → CallsIn Fence.wide n P g (#[.func (.yield l) #[] #[]] ++ lb) W fun e W' => (∃ v, e = .returned v) ∧ (J xs.length W' ∨ ∃ k, k < xs.length ∧ Jx (k + 1) W')
theorem Gives.mono {P : Program} {n g : Nat} {lb : Array Value} {xs : List Int} {It It' M : Nat → Prop} {l : Nat} {W : World} (h : Gives P n g lb xs It M l W) (hi : ∀ k, It k → It' k) : Gives P n g lb xs It' M l W :=
  fun J Jx hJ hJx hY h0 => h J Jx (fun s A B a b => hJ s A B a (b.mono hi)) (fun s A B a b => hJx s A B a (b.mono hi)) hY h0
theorem room_wide0 (k : Nat) : Fence.wide.room k := fun d h => by cases h
theorem round_any {m m' : Nat} {P : Program} {l : Nat} {f : FuncId} {tmps : Array Value} {assign body : Code} {w : World} {R : Ending → World → Prop} (h : RoundIn Fence.wide m P l f tmps assign body w R) : RoundIn Fence.wide m' P l f tmps assign body w R :=
  ⟨h.1, fun c cs _ => h.2 c cs (room_wide0 _)⟩
theorem yield_any {m : Nat} (m' : Nat) {P : Program} {l : Nat} {args : Array Value} {W : World} {R : Ending → World → Prop} (h : YieldAt Fence.wide m P l args W R) : YieldAt Fence.wide m' P l args W R := by
  obtain ⟨fn, tmps, assign, body, hy, hR⟩ := h
  exact ⟨fn, tmps, assign, body, hy, round_any hR⟩
section
variable {P : Program} {n : Nat}
theorem range_it {g : Operand} {ps : Array Tmp} {assign body : Code} {Q : Exit → Act → World → Prop} {a : Act} {w : World}
    {gf : Nat} {lb : Array Value} (hg : a.eval g = .func (.func gf) #[] lb) (eg : ∀ args w, (callFunc gf args).run P w = .ok (.enter gf args) w)
    (xs : List Int) (It M : Nat → Prop) (hps : ps.size = 1)
    (hseq : ∀ W, Below w.heap.size w W → W.heap.size = w.heap.size + 2 → Gives P (n - 1) gf lb xs It M (w.heap.size + 1) W)
    (hIt : ∀ k, It k → w.heap.size + 2 ≤ k) (hM0 : ¬ M w.heap.size) (hM1 : ¬ M (w.heap.size + 1))
    (I Ix : Nat → World → Prop) (hI : ∀ s A B, I s A → Kpt (fun k => k = w.heap.size + 1 ∨ It k) A B → I s B) (hIx : ∀ s A B, Ix s A → Kpt (fun k => k = w.heap.size + 1 ∨ It k) A B → Ix s B) (h0 : I 0 w)
    (a1 : Int → Act) (cx : Code) (ex : Exit) (hcx : (cx = .ret ∧ ex = .ret) ∨ ∃ id, cx = .exit id ∧ ex = .exit id)
    (hassign : ∀ (l : Nat) (x : Int) (W : World) (K : Act → World → Prop), K (a1 x) W →
      assign.wpIn (Fence.wide.inRound l) (n - 1 - 1) P (Exit.then K (fun _ _ _ => False)) { tmps := (ps.zip #[.int .i64 x]).foldl (fun t (p, v) => t.setIfInBounds p v) a.tmps, defers := [] } W)
    (hbody : ∀ (l k : Nat) (h : k < xs.length) (W : World), I k W → w.heap.size + 2 ≤ W.heap.size →
      body.wpIn (Fence.wide.inRound l) (n - 1 - 1) P (fun e _ W' => (e = .normal ∧ Kpt M W W' ∧ I (k + 1) W') ∨ (e = ex ∧ Kpt M W W' ∧ Ix (k + 1) W')) (a1 (xs[k]'h)) W)
    (hdone : ∀ W, I xs.length W → w.heap.size + 2 ≤ W.heap.size → W.heap[w.heap.size]? = some (.deferred (some [])) → Q .normal { a with defers := { target := .collected w.heap.size, args := #[] } :: a.defers } W)
    (hstop : ∀ k W, k < xs.length → Ix (k + 1) W → w.heap.size + 2 ≤ W.heap.size → W.heap[w.heap.size]? = some (.deferred (some [])) → cx.wpIn Fence.wide n P Q { a with defers := { target := .collected w.heap.size, args := #[] } :: a.defers } W) :
    (Code.rangeFunc g ps assign body).wpIn Fence.wide n P Q a w := by
  refine wpIn_rangeFunc ?_
  intro fn hfn
  have hIb : ∀ {s A B}, I s A → Below A.heap.size A B → I s B := fun h hb => hI _ _ _ h (Kpt.of_below hb)
  have hIl : ∀ {s A} (o : Obj), I s A → I s (A.putObj (w.heap.size + 1) o) := fun o h => hI _ _ _ h (Kpt.putObj _ _ _ _ (.inl rfl))
  have hXl : ∀ {s A} (o : Obj), Ix s A → Ix s (A.putObj (w.heap.size + 1) o) := fun o h => hIx _ _ _ h (Kpt.putObj _ _ _ _ (.inl rfl))
  obtain ⟨rec, hrec⟩ : ∃ rec : LoopState → Option Code → Loop, rec = fun st pe => { state := st, pending := pe, fn, tmps := a.tmps, params := ps, assign, body, defers := w.heap.size } := ⟨_, rfl⟩
  obtain ⟨W1, hW1⟩ : ∃ W1, (w.alloc (.deferred (some []))).alloc (.loop (rec .ready none)) = W1 := ⟨_, rfl⟩
  have hsz : W1.heap.size = w.heap.size + 2 := by rw [← hW1]; simp
  have hL1 : W1.heap[w.heap.size + 1]? = some (.loop (rec .ready none)) := by
    rw [← hW1]; have := World.alloc_heap_new (w.alloc (.deferred (some []))) (.loop (rec .ready none)); rwa [World.size_alloc] at this
  have hK1 : W1.heap[w.heap.size]? = some (.deferred (some [])) := by
    rw [← hW1]; exact (Below.heap_alloc _ _ _ (by simp)).trans (World.alloc_heap_new w _)
  have hb1 : Below w.heap.size w W1 := by rw [← hW1]; exact ((Below.refl _ w).alloc (Nat.le_refl _) _).alloc (by simp) _
  have hItn : ∀ {j}, j < w.heap.size + 2 → ¬ It j := fun hj e => by have := hIt _ e; omega
  refine ⟨w.heap.size + 1, [{ target := .collected w.heap.size, args := #[] }], W1, { target := .fn (.func gf) lb, args := #[.func (.yield (w.heap.size + 1)) #[] #[]] }, W1, gf,
    #[.func (.yield (w.heap.size + 1)) #[] #[]] ++ lb, W1, ?_, ?_, fun _ _ => trivial, ?_, fun hc => (by cases hc), ?_⟩
  · rw [← hW1, hrec]; exact run_enterLoop_outer _ _ _ _ _
  · simp only [resolve, hg]
    simp [go_sem]
  · simp [invoke, go_sem, eg]
  · refine (hseq W1 hb1 hsz (fun k W => I k W ∧ W.heap[w.heap.size + 1]? = some (.loop (rec .ready none)) ∧ W.heap[w.heap.size]? = some (.deferred (some [])) ∧ w.heap.size + 2 ≤ W.heap.size)
      (fun k W => Ix k W ∧ W.heap[w.heap.size + 1]? = some (.loop (rec .done (some cx))) ∧ W.heap[w.heap.size]? = some (.deferred (some [])) ∧ w.heap.size + 2 ≤ W.heap.size) ?_ ?_ ?_ ⟨hIb h0 hb1, hL1, hK1, by omega⟩).mono ?_
    · rintro s A B ⟨h1, h2, h3, h4⟩ hAB
      exact ⟨hI _ _ _ h1 (hAB.mono fun _ e => .inr e), (hAB.block _ (by omega) (hItn (by omega))).trans h2, (hAB.block _ (by omega) (hItn (by omega))).trans h3, Nat.le_trans h4 hAB.size⟩
    · rintro s A B ⟨h1, h2, h3, h4⟩ hAB
      exact ⟨hIx _ _ _ h1 (hAB.mono fun _ e => .inr e), (hAB.block _ (by omega) (hItn (by omega))).trans h2, (hAB.block _ (by omega) (hItn (by omega))).trans h3, Nat.le_trans h4 hAB.size⟩
    · rintro k hkx W ⟨hi, hl, hk, hs⟩ hsize
      have hy := run_yield (P := P) (args := #[.int .i64 (xs[k]'hkx)]) hl (by rw [hrec]; exact hps.symm)
      rw [hrec] at hy
      refine ⟨fn, _, assign, body, hy, roundIn_of_wpIn hfn (hassign _ _ W _ ?_)⟩
      refine ⟨_, run_beginRound hl (by rw [hrec]), ?_⟩
      obtain ⟨W3, hW3⟩ : ∃ W3, W.putObj (w.heap.size + 1) (.loop { rec .ready none with state := .busy }) = W3 := ⟨_, rfl⟩
      rw [hW3]
      have k23 : Kpt (fun k => k = w.heap.size + 1) W W3 := by rw [← hW3]; exact Kpt.putObj _ _ _ _ rfl
      have hl3 : W3.heap[w.heap.size + 1]? = some (.loop { rec .ready none with state := .busy }) := by rw [← hW3]; exact World.putObj_heap_same (by omega)
      have hk3 : W3.heap[w.heap.size]? = some (.deferred (some [])) := (k23.block _ (by omega) (by omega)).trans hk
      have hi3 : I k W3 := hI _ _ _ hi (k23.mono fun k e => .inl e)
      have hs3 : w.heap.size + 2 ≤ W3.heap.size := Nat.le_trans hs k23.size
      refine wpIn_mono (hbody _ k hkx W3 hi3 hs3) ?_
      have fin : ∀ (jump : Option Code) (W4 : World), Kpt M W3 W4 →
          (Instr.endRound (w.heap.size + 1) jump).run P W4 = .ok (.bool jump.isNone) (W4.putObj (w.heap.size + 1) (.loop (rec (if jump.isNone then .ready else .done) jump))) ∧
          (W4.putObj (w.heap.size + 1) (.loop (rec (if jump.isNone then .ready else .done) jump))).heap[w.heap.size + 1]? = some (.loop (rec (if jump.isNone then .ready else .done) jump)) ∧
          (W4.putObj (w.heap.size + 1) (.loop (rec (if jump.isNone then .ready else .done) jump))).heap[w.heap.size]? = some (.deferred (some [])) ∧
          w.heap.size + 2 ≤ (W4.putObj (w.heap.size + 1) (.loop (rec (if jump.isNone then .ready else .done) jump))).heap.size ∧
          Kpt (fun k => M k ∨ k = w.heap.size + 1) W (W4.putObj (w.heap.size + 1) (.loop (rec (if jump.isNone then .ready else .done) jump))) := fun jump W4 k34 => by
        have hl4 : W4.heap[w.heap.size + 1]? = some (.loop { rec .ready none with state := .busy }) := (k34.block _ (by omega) hM1).trans hl3
        have hk4 : W4.heap[w.heap.size]? = some (.deferred (some [])) := (k34.block _ (by omega) hM0).trans hk3
        have hs4 : w.heap.size + 2 ≤ W4.heap.size := Nat.le_trans hs3 k34.size
        have hend := run_endRound (P := P) jump hl4
        rw [hrec] at hend ⊢
        exact ⟨hend, World.putObj_heap_same (by omega), (World.putObj_heap_other (by omega)).trans hk4, by simpa using hs4, (k23.mono fun k e => .inr e).trans ((k34.mono fun k e => .inl e).trans (Kpt.putObj _ _ _ _ (.inr rfl)))⟩
      rintro e a4 W4 (⟨rfl, k34, hi4⟩ | ⟨rfl, k34, hi4⟩)
      · obtain ⟨f1, f2, f3, f4, f5⟩ := fin none W4 k34
        exact ⟨_, _, f1, .inl ⟨rfl, ⟨hIl _ hi4, f2, f3, f4⟩, f5⟩⟩
      · obtain ⟨f1, f2, f3, f4, f5⟩ := fin (some cx) W4 k34
        rcases hcx with ⟨rfl, rfl⟩ | ⟨id, rfl, rfl⟩
        · exact ⟨_, _, f1, .inr ⟨rfl, ⟨hXl _ hi4, f2, f3, f4⟩, f5⟩⟩
        · exact ⟨_, _, f1, .inr ⟨rfl, ⟨hXl _ hi4, f2, f3, f4⟩, f5⟩⟩
    · rintro e W2 ⟨⟨v, rfl⟩, (⟨hi, hl, hk, hs⟩ | ⟨k, hP, hi, hl, hk, hs⟩)⟩
      · exact ⟨none, _, by have := run_endLoop (P := P) hl (by rw [hrec]; simp); rw [hrec] at this; exact this, hdone _ (hIl _ hi) (by simpa using hs) ((World.putObj_heap_other (by omega)).trans hk)⟩
      · exact ⟨some cx, _, by have := run_endLoop (P := P) hl (by rw [hrec]; simp); rw [hrec] at this; exact this, hstop k _ hP (hXl _ hi) (by simpa using hs) ((World.putObj_heap_other (by omega)).trans hk)⟩
end
end Go.Proofs.YtgahlhfgpkklaaaDoor

/- Regions with edges forward that do not bind. -/
namespace Go.Proofs.YtgahlhfgpkklaaaDoor
open Go.RowKit
section
variable {P : Program} {Q : Exit → Act → World → Prop} {a : Act} {m : List Bool} {V : Nat → Value → World → Prop} {w0 : World} {ops : Array Oper} {plan : Plan} {k : Nat}
theorem seqE_any (hmono : ∀ d v w w', V d v w → Below w.heap.size w w' → V d v w') (hback : backE 0 ops.toList = true) (hnd : nodupB (plan.map (·.1)) = true) (hall : planAll ops m a.tmps.size (ops.toList.take k) plan = true) (hseq : seqB ops k = true) (hk : k ≤ ops.size)
    (hob : Obls P Q a m V w0 (ops.toList.take k) plan) (hsuf : ∀ f w, Below w0.heap.size w0 w → AllP V f w plan → wpList P ops Q (ops.toList.drop k) (over a m f) w) :
    ∀ (fuel : Nat) (listed : Array Bool) (a' : Act) (w : World), listed.size = ops.size → listed.toList.count false ≤ fuel → St P Q a m V w0 ops k listed a' w → wpAny P .any ops Q fuel listed a' w := by
  have hcov : ∀ {listed : Array Bool}, Closed ops listed → ∀ {i : Nat}, i ∈ Region.ready .any ops listed → k ≤ i → ∀ j, j < i → listed[j]? = some true := by
    intro listed hc i hi hki j hj
    obtain ⟨hlt, _, hp⟩ := ready_pre hi
    unfold seqB at hseq
    have h1 := List.all_eq_true.1 hseq i (by simpa using hlt)
    rw [Bool.or_eq_true] at h1
    rcases h1 with h1 | h1
    · simp at h1; omega
    · exact covers_listed hc _ i j hp (List.all_eq_true.1 h1 j (by simpa using hj))
  have htoSuf : ∀ {listed : Array Bool} {a' : Act} {w : World}, Inv a m V w0 ops listed a' w → (∀ j, j < k → listed[j]? = some true) → wpList P ops Q (ops.toList.drop k) a' w := by
    rintro listed a' w ⟨f, rfl, hb, hV⟩ hl
    refine hsuf f w hb (allP_of hall fun i o d ho hd => ?_)
    have hik : i < k := by
      by_cases h : i < k
      · exact h
      · rw [List.getElem?_take, if_neg h] at ho; cases ho
    rw [List.getElem?_take, if_pos hik] at ho
    exact hV i o d (by simpa using ho) hd (hl i hik)
  have hend : ∀ (listed : Array Bool) (a' : Act) (w : World), listed.size = ops.size → St P Q a m V w0 ops k listed a' w → Region.ready .any ops listed = [] → Q .normal a' w := by
    rintro listed a' w hsz ⟨_, h⟩ hr
    have hal := all_listedE hback hsz hr
    rcases h with ⟨hs, hI⟩ | ⟨i, hki, hl, hw⟩
    · have hks : k = ops.size := by
        by_cases h : k < ops.size
        · exact absurd (hal k h) (hs k (Nat.le_refl _))
        · omega
      have := htoSuf hI fun j hj => hal j (by omega)
      rw [List.drop_eq_nil_of_le (by simp; omega)] at this
      exact this
    · have : ops.size ≤ i := by
        by_cases h : i < ops.size
        · have := (hl i h).1 (hal i h); omega
        · omega
      rw [List.drop_eq_nil_of_le (by simpa using this)] at hw
      exact hw
  have hstepL : ∀ {listed : Array Bool} {a' : Act} {w : World} {i : Nat}, i < ops.size → k ≤ i → (∀ j, j < ops.size → (listed[j]? = some true ↔ j < i)) → Closed ops (listed.setIfInBounds i true) → listed.size = ops.size → wpList P ops Q (ops.toList.drop i) a' w →
      wpOp P ops Q i (fun a2 w2 => St P Q a m V w0 ops k (listed.setIfInBounds i true) a2 w2) a' w := by
    intro listed a' w i hi hki hl hc hsz hw
    have hd : ops.toList.drop i = ops[i] :: ops.toList.drop (i + 1) := by
      rw [List.drop_eq_getElem_cons (by simpa using hi)]; simp
    have hnext : ∀ a2 w2, wpList P ops Q (ops.toList.drop (i + 1)) a2 w2 → St P Q a m V w0 ops k (listed.setIfInBounds i true) a2 w2 := fun a2 w2 h =>
      ⟨hc, .inr ⟨i + 1, by omega, fun j hj => by
        rw [Array.getElem?_setIfInBounds]
        by_cases e : i = j
        · subst e; rw [if_pos rfl, if_pos (by omega)]; simp
        · rw [if_neg e, hl j hj]; omega, h⟩⟩
    rw [hd] at hw
    unfold wpList at hw
    unfold wpOp
    rw [show ops[i]? = some ops[i] by simp [hi]]
    simp only
    split
    · rename_i hwn
      rw [if_pos hwn] at hw
      exact hw.imp (Oper.wp_mono hnext) id
    · rename_i hwn
      rw [if_neg hwn] at hw
      exact hnext _ _ hw
  intro fuel
  induction fuel with
  | zero =>
    intro listed a' w hsz hc hI
    have hr : Region.ready .any ops listed = [] := by
      rw [List.eq_nil_iff_forall_not_mem]
      intro i hi
      obtain ⟨hlt, h1, _⟩ := ready_pre hi
      have h0 : listed.toList.count false = 0 := by omega
      rw [List.count_eq_zero] at h0
      have hlt2 : i < listed.size := by omega
      simp only [Array.getD_eq_getD_getElem?, Array.getElem?_eq_getElem hlt2, Option.getD_some] at h1
      exact h0 (by rw [← h1]; simp)
    exact ⟨hr, hend listed a' w hsz hI hr⟩
  | succ fuel ih =>
    intro listed a' w hsz hc hI
    refine ⟨hend listed a' w hsz hI, fun i hi => ?_⟩
    have hrp := ready_pre hi
    have hlt2 : i < listed.size := by omega
    have h1 := hrp.2.1
    simp only [Array.getD_eq_getD_getElem?, Array.getElem?_eq_getElem hlt2, Option.getD_some] at h1
    have hcount : (listed.setIfInBounds i true).toList.count false ≤ fuel := by
      have hl : i < listed.toList.length := by simpa using hlt2
      have h2 : listed.toList[i] = false := by simpa using h1
      rw [Array.toList_setIfInBounds, List.count_set hl, h2]
      have hp : 0 < listed.toList.count false := List.count_pos_iff.2 (by rw [← h2]; exact List.getElem_mem _)
      rw [if_pos (by rfl), if_neg (by decide)]
      omega
    have hnl : listed[i]? ≠ some true := by rw [Array.getElem?_eq_getElem hlt2, h1]; simp
    refine wpOp_mono (K := fun a2 w2 => St P Q a m V w0 ops k (listed.setIfInBounds i true) a2 w2) (fun a2 w2 h2 => ih _ _ _ (by simpa using hsz) hcount h2) ?_
    obtain ⟨hcl, hS⟩ := hI
    have hcl2 := closed_next hcl hi
    rcases hS with ⟨hsu, hI⟩ | ⟨i0, hki, hl, hw⟩
    · by_cases hik : i < k
      · refine wpOp_mono (fun a2 w2 h2 => ⟨hcl2, .inl ⟨fun j hj => ?_, h2⟩⟩) (seq_step hmono hnd hall hob hik hsu hi hI)
        rw [Array.getElem?_setIfInBounds, if_neg (by omega)]
        exact hsu j hj
      · have hlow := hcov hcl hi (by omega)
        have he : i = k := by
          by_cases h : i = k
          · exact h
          · exact absurd (hlow k (by omega)) (hsu k (Nat.le_refl _))
        subst he
        refine hstepL hrp.1 (Nat.le_refl _) (fun j hj => ⟨fun h => ?_, fun h => hlow j h⟩) hcl2 hsz (htoSuf hI hlow)
        by_cases h2 : j < i
        · exact h2
        · exact absurd h (hsu j (by omega))
    · have hge : i0 ≤ i := by
        by_cases h : i < i0
        · exact absurd ((hl i hrp.1).2 h) hnl
        · omega
      have hlow := hcov hcl hi (by omega)
      have he : i = i0 := by
        by_cases h : i = i0
        · exact h
        · have := (hl i0 (by omega)).1 (hlow i0 (by omega)); omega
      subst he
      exact hstepL hrp.1 hki hl hcl2 hsz hw

/-- A region that draws its order and ends in stores. -/
theorem region_seqE {id : Nat} (k : Nat) (m : List Bool) (plan : Plan) (V : Nat → Value → World → Prop) (hmix : P.follows .mixedOrders = true) (hback : backE 0 ops.toList = true) (hnd : nodupB (plan.map (·.1)) = true) (hall : planAll ops m a.tmps.size (ops.toList.take k) plan = true)
    (hseq : seqB ops k = true) (hk : k ≤ ops.size) (hmono : ∀ d v w w', V d v w → Below w.heap.size w w' → V d v w') (hob : Obls P Q a m V w0 (ops.toList.take k) plan)
    (hsuf : ∀ f w, Below w0.heap.size w0 w → AllP V f w plan → wpList P ops Q (ops.toList.drop k) (over a m f) w) : (Code.region id ops true).wp P Q a w0 := by
  refine wp_region_any hmix (seqE_any hmono hback hnd hall hseq hk hob hsuf _ _ _ _ (by simp) (by simp) ⟨?_, .inl ⟨?_, fun k => (a.tmps.toList[k]?).getD undef, (over_start a m).symm, ⟨rfl, rfl, rfl, Nat.le_refl _, fun _ _ => rfl⟩, ?_⟩⟩)
  · intro i o _ h
    simp [Array.getElem?_replicate] at h
  · intro j _ h
    simp [Array.getElem?_replicate] at h
  · intro i o d _ _ h
    simp [Array.getElem?_replicate] at h
end
end Go.Proofs.YtgahlhfgpkklaaaDoor
