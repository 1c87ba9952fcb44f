import Derived.Test.YtgelbndbkmedlaaGc
import Derived.Test.YtgelbndbkmedlaaGb
import Derived.RangeFuncLeaves
import Derived.RangeFuncCalls
import Derived.RangeFuncNested
import Derived.OrdersIn
import Derived.Maps.AppendAt

/- A range over a function of the program's own; regions within a round. -/
namespace Go.Proofs.Ytgelbndbkmedlaa
open Go.RowKit
/-! ### operations within a round -/
section
variable {P : Program} {Q : Exit → Act → World → Prop}
theorem oper_round {o : Oper} {a : Act} {w : World} {K : Act → World → Prop} (l n : Nat) (h : o.wp P a w K Q) (hd : ∀ c, o.op ≠ .defer c) : o.wpIn (Fence.wide.inRound l) n P a w K Q := by
  refine ⟨fun _ _ => trivial, ?_⟩
  show o.uponIn _ n P a K Q ((o.semAt (some l) a.eval).run P w)
  rw [Oper.semAt_some _ _ _ hd]
  unfold Oper.wp at h
  generalize (execOp a.eval o).run P w = r at *
  cases r with
  | ok x w' =>
    cases x with
    | value v => exact h
    | skip => exact h
    | defer d => exact h
    | enter f args => exact ⟨fun hc => (by cases hc), CallsIn.inRound l (callsIn_wide.2 h)⟩
    | row r args => exact ⟨fun hc => (by cases hc), fun c cs _ => let ⟨v, w', r, s⟩ := h c cs; ⟨v, w', r, stepsIn_wide.2 s⟩⟩
    | _ => exact h.elim
  | halt x w' => cases x <;> first | exact h | exact h.elim
def noDefer (ops : Array Oper) : Bool := ops.toList.all fun o => match o.op with
  | .defer _ => false
  | _ => true
theorem noDefer_at {ops : Array Oper} (h : noDefer ops = true) {i : Nat} {o : Oper} (ho : ops[i]? = some o) : ∀ c, o.op ≠ .defer c := by
  intro c e
  have hm : o ∈ ops.toList := by
    rw [List.mem_iff_getElem?]
    exact ⟨i, by rw [← ho]; simp⟩
  have := List.all_eq_true.1 h o hm
  rw [e] at this
  cases this
theorem any_round {ops : Array Oper} (l n : Nat) (hd : noDefer ops = true) (hl : ¬ LetsOut Q) {md : Region.Mode} : ∀ (fuel : Nat) (listed : Array Bool) (a : Act) (w : World),
    wpAny P md ops Q fuel listed a w → wpAnyIn (Fence.wide.inRound l) n P md ops Q fuel listed a w
  | 0, listed, a, w, h => h
  | fuel + 1, listed, a, w, h => by
    refine ⟨h.1, fun i hi => ?_⟩
    have h2 := h.2 i hi
    unfold wpOp at h2
    unfold wpOpIn
    cases ho : ops[i]? with
    | none => rw [ho] at h2; exact any_round l n hd hl fuel _ a w h2
    | some o =>
      rw [ho] at h2
      simp only at h2 ⊢
      split
      · rename_i hw
        rw [if_pos hw] at h2
        rcases h2 with h2 | h2
        · exact oper_round l n (Oper.wp_mono (fun a w h => any_round l n hd hl fuel _ a w h) h2) (noDefer_at hd ho)
        · exact absurd h2.2 hl
      · rename_i hw
        rw [if_neg hw] at h2
        exact ⟨fun _ _ => trivial, any_round l n hd hl fuel _ _ w h2⟩
theorem inv_r {ops : Array Oper} {a : Act} {w0 : World} {id : Nat} (l n : Nat) (hd : noDefer ops = true) (hl : ¬ LetsOut Q) (m : List Bool) (plan : Plan) (V : Nat → Value → World → Prop) (hmix : P.follows .mixedOrders = true) (hok : planOk ops plan m a.tmps.size = true)
    (hmono : ∀ d v w w', V d v w → Below w.heap.size w w' → V d v w') (hob : Obls P Q a m V w0 ops.toList plan)
    (hdone : ∀ f w, Below w0.heap.size w0 w → AllP V f w plan → Q .normal (over a m f) w) : (Code.region id ops true).wpIn (Fence.wide.inRound l) n P Q a w0 := by
  refine wpIn_region_any hmix (any_round l n hd hl _ _ _ _ (any_inv hmono hok hob hdone _ _ _ _ (by simp) (by simp) ⟨fun k => (a.tmps.toList[k]?).getD undef, (over_start a m).symm, ⟨rfl, rfl, rfl, Nat.le_refl _, fun _ _ => rfl⟩, ?_⟩))
  intro i o d _ _ h
  simp [Array.getElem?_replicate] at h
theorem all_r {ops : Array Oper} {a : Act} {w0 : World} {id : Nat} (l n : Nat) (hd : noDefer ops = true) (hl : ¬ LetsOut Q) (m : List Bool) (plan : GPlan) (V : Nat → List Value → World → Prop) (J : (Nat → Value) → World → Prop) (hmix : P.follows .mixedOrders = true) (hok : gOk ops plan m a.tmps.size = true)
    (hJ0 : J (fun k => (a.tmps.toList[k]?).getD undef) w0.drew) (hob : OblsG P Q a m plan V J w0 0 ops.toList plan)
    (hdone : ∀ f w, Below w0.heap.size w0 w → J f w → AllG V f w 0 plan → Q .normal (over a m f) w) : (Code.region id ops true).wpIn (Fence.wide.inRound l) n P Q a w0 := by
  refine wpIn_region_any hmix (any_round l n hd hl _ _ _ _ (anyG hok hob hdone _ _ _ _ (by simp) (by simp) ⟨?_, fun k => (a.tmps.toList[k]?).getD undef, (over_start a m).symm, ⟨rfl, rfl, rfl, Nat.le_refl _, fun _ _ => rfl⟩, hJ0, ?_⟩))
  · intro i o _ h
    simp [Array.getElem?_replicate] at h
  · intro i h
    simp [Array.getElem?_replicate] at h
end
/-! ### a range over a function -/
/-- All that lay lies as it lay, but where M says. -/
structure Kpt (M : Nat → Prop) (W W' : World) : Prop where
  os : W'.os = W.os
  tape : W'.tape = W.tape
  output : W'.output = W.output
  size : W.heap.size ≤ W'.heap.size
  block : ∀ k, k < W.heap.size → ¬ M k → W'.heap[k]? = W.heap[k]?
theorem Kpt.refl (M : Nat → Prop) (W : World) : Kpt M W W := ⟨rfl, rfl, rfl, Nat.le_refl _, fun _ _ _ => rfl⟩
theorem Kpt.trans {M : Nat → Prop} {X Y Z : World} (h : Kpt M X Y) (k : Kpt M Y Z) : Kpt M X Z :=
  ⟨k.os.trans h.os, k.tape.trans h.tape, k.output.trans h.output, Nat.le_trans h.size k.size, fun i hi hm => (k.block i (Nat.lt_of_lt_of_le hi h.size) hm).trans (h.block i hi hm)⟩
theorem Kpt.mono {M M' : Nat → Prop} {X Y : World} (h : Kpt M X Y) (hm : ∀ k, M k → M' k) : Kpt M' X Y := ⟨h.os, h.tape, h.output, h.size, fun k hk hn => h.block k hk fun e => hn (hm k e)⟩
theorem Kpt.of_below {M : Nat → Prop} {X Y : World} (h : Below X.heap.size X Y) : Kpt M X Y := ⟨h.os, h.tape, h.output, h.size, fun k hk _ => h.block k hk⟩
theorem Kpt.below {M : Nat → Prop} {X Y : World} (h : Kpt M X Y) {B : Nat} (hB : B ≤ X.heap.size) (hm : ∀ k, M k → B ≤ k) : Below B X Y :=
  ⟨h.os, h.tape, h.output, h.size, fun k hk => h.block k (Nat.lt_of_lt_of_le hk hB) fun e => absurd (hm k e) (by omega)⟩
theorem Kpt.putObj (M : Nat → Prop) (W : World) (l : Nat) (o : Obj) (hm : M l) : Kpt M W (W.putObj l o) :=
  ⟨rfl, rfl, rfl, by simp, fun k _ hk => World.putObj_heap_other (fun e => hk (by rw [e]; exact hm))⟩
theorem Kpt.grown {M : Nat → Prop} {X Y : World} {r : Option Nat} (h : X.grownBy Y r) (hm : ∀ k, r = some k → M k) : Kpt M X Y := ⟨h.os, h.tape, h.output, h.size, fun k hk hn => h.block k hk fun e => hn (hm k e.symm)⟩
theorem Kpt.of_low {B : Nat} {X Y : World} (h : Below B X Y) : Kpt (fun k => B ≤ k) X Y := ⟨h.os, h.tape, h.output, h.size, fun k _ hm => h.block k (by omega)⟩
/-- What an iterator gives, one behind the other: it turns what It says, the body what M says. -/
def SeqGen {α : Type} (P : Program) (n g : Nat) (lb : Array Value) (encs : α → Array Value) (Pre S : List α → Prop) (It M : Nat → Prop) (l : Nat) (W : World) : Prop :=
  ∀ J : List α → World → Prop, (∀ s A B, J s A → Kpt It A B → J s B) →
    (∀ pre x W1, J pre W1 → Pre (pre ++ [x]) → W.heap.size ≤ W1.heap.size → YieldAt Fence.wide (n - 1) P l (encs x) W1 fun e W' => e = .returned (.bool true) ∧ J (pre ++ [x]) W' ∧ Kpt (fun k => M k ∨ k = l) W1 W') →
    J [] W → CallsIn Fence.wide n P g (#[.func (.yield l) #[] #[]] ++ lb) W fun e W' => (∃ v, e = .returned v) ∧ ∃ xs, S xs ∧ J xs W'
section
variable {P : Program} {n : Nat}
theorem range_gen {α : Type} {g : Operand} {ps : Array Tmp} {assign body : Code} {Q : Exit → Act → World → Prop} {a : Act} {w : World}
    {gf : Nat} {lb : Array Value} (hg : a.eval g = .func (.func gf) #[] lb) (eg : ∀ args w, (callFunc gf args).run P w = .ok (.enter gf args) w)
    (It M : Nat → Prop) (Pre S : List α → Prop) (encs : α → Array Value) (hps : ∀ x, (encs x).size = ps.size)
    (hseq : ∀ W, Below w.heap.size w W → W.heap.size = w.heap.size + 2 → SeqGen P (n - 1) gf lb encs Pre S It M (w.heap.size + 1) W)
    (hIt : ∀ k, It k → w.heap.size + 2 ≤ k) (hM0 : ¬ M w.heap.size) (hM1 : ¬ M (w.heap.size + 1))
    (I : List α → World → Prop) (hI : ∀ s A B, I s A → Kpt (fun k => k = w.heap.size + 1 ∨ It k) A B → I s B) (h0 : I [] w)
    (R : α → Act → World → Prop) (hR : ∀ x a1 A B, R x a1 A → Kpt (fun k => k = w.heap.size + 1) A B → R x a1 B)
    (hassign : ∀ (l : Nat) (pre : List α) (x : α) (W : World) (K : Act → World → Prop), I pre W → Pre (pre ++ [x]) → w.heap.size + 2 ≤ W.heap.size →
      (∀ a1 W2, R x a1 W2 → Below W.heap.size W W2 → K a1 W2) →
      assign.wpIn (Fence.wide.inRound l) (n - 1 - 1) P (Exit.then K (fun _ _ _ => False)) { tmps := (ps.zip (encs x)).foldl (fun t (p, v) => t.setIfInBounds p v) a.tmps, defers := [] } W)
    (hbody : ∀ (l : Nat) (pre : List α) (x : α) (a1 : Act) (W : World), I pre W → Pre (pre ++ [x]) → w.heap.size + 2 ≤ W.heap.size → R x a1 W →
      body.wpIn (Fence.wide.inRound l) (n - 1 - 1) P (fun e _ W' => e = .normal ∧ Kpt M W W' ∧ I (pre ++ [x]) W') a1 W)
    (hdone : ∀ xs W, S xs → I xs W → w.heap.size + 2 ≤ W.heap.size → W.heap[w.heap.size]? = some (.deferred (some [])) → Q .normal { a with defers := { target := .collected w.heap.size, args := #[] } :: a.defers } W) :
    (Code.rangeFunc g ps assign body).wp P Q a w := by
  refine (wpIn_wide (n := n)).1 (wpIn_rangeFunc ?_)
  intro fn hfn
  have hIb : ∀ {s A B}, I s A → Below A.heap.size A B → I s B := fun h hb => hI _ _ _ h (Kpt.of_below hb)
  have hIl : ∀ {s A} (o : Obj), I s A → I s (A.putObj (w.heap.size + 1) o) := fun o h => hI _ _ _ h (Kpt.putObj _ _ _ _ (.inl rfl))
  obtain ⟨rec, hrec⟩ : ∃ rec : LoopState → Option Code → Loop, rec = fun st pe => { state := st, pending := pe, fn, tmps := a.tmps, params := ps, assign, body, defers := w.heap.size } := ⟨_, rfl⟩
  obtain ⟨W1, hW1⟩ : ∃ W1, (w.alloc (.deferred (some []))).alloc (.loop (rec .ready none)) = W1 := ⟨_, rfl⟩
  have hsz : W1.heap.size = w.heap.size + 2 := by rw [← hW1]; simp
  have hL1 : W1.heap[w.heap.size + 1]? = some (.loop (rec .ready none)) := by
    rw [← hW1]; have := World.alloc_heap_new (w.alloc (.deferred (some []))) (.loop (rec .ready none)); rwa [World.size_alloc] at this
  have hK1 : W1.heap[w.heap.size]? = some (.deferred (some [])) := by
    rw [← hW1]; exact (Below.heap_alloc _ _ _ (by simp)).trans (World.alloc_heap_new w _)
  have hb1 : Below w.heap.size w W1 := by rw [← hW1]; exact ((Below.refl _ w).alloc (Nat.le_refl _) _).alloc (by simp) _
  refine ⟨w.heap.size + 1, [{ target := .collected w.heap.size, args := #[] }], W1, { target := .fn (.func gf) lb, args := #[.func (.yield (w.heap.size + 1)) #[] #[]] }, W1, gf,
    #[.func (.yield (w.heap.size + 1)) #[] #[]] ++ lb, W1, ?_, ?_, fun _ _ => trivial, ?_, fun hc => (by cases hc), ?_⟩
  · rw [← hW1, hrec]; exact run_enterLoop_outer _ _ _ _ _
  · simp only [resolve, hg]
    simp [go_sem]
  · simp [invoke, go_sem, eg]
  · refine (hseq W1 hb1 hsz (fun pre W => I pre W ∧ W.heap[w.heap.size + 1]? = some (.loop (rec .ready none)) ∧ W.heap[w.heap.size]? = some (.deferred (some [])) ∧ w.heap.size + 2 ≤ W.heap.size) ?_ ?_ ⟨hIb h0 hb1, hL1, hK1, by omega⟩).mono ?_
    · rintro s A B ⟨h1, h2, h3, h4⟩ hAB
      exact ⟨hI _ _ _ h1 (hAB.mono fun k e => .inr e), (hAB.block _ (by omega) fun e => by have := hIt _ e; omega).trans h2, (hAB.block _ (by omega) fun e => by have := hIt _ e; omega).trans h3, Nat.le_trans h4 hAB.size⟩
    · rintro pre x W ⟨hi, hl, hk, hs⟩ hpre hsize
      have hy := run_yield (P := P) (args := encs x) hl (by rw [hrec]; exact hps x)
      rw [hrec] at hy
      refine ⟨fn, _, assign, body, hy, roundIn_of_wpIn hfn (hassign _ pre x W _ hi hpre hs fun a1 W2 hr2 hb2 => ?_)⟩
      have hl2 : W2.heap[w.heap.size + 1]? = some (.loop (rec .ready none)) := (hb2.block _ (by omega)).trans hl
      have hk2 : W2.heap[w.heap.size]? = some (.deferred (some [])) := (hb2.block _ (by omega)).trans hk
      refine ⟨_, run_beginRound hl2 (by rw [hrec]), ?_⟩
      obtain ⟨W3, hW3⟩ : ∃ W3, W2.putObj (w.heap.size + 1) (.loop { rec .ready none with state := .busy }) = W3 := ⟨_, rfl⟩
      rw [hW3]
      have k23 : Kpt (fun k => k = w.heap.size + 1) W2 W3 := by rw [← hW3]; exact Kpt.putObj _ _ _ _ rfl
      have hl3 : W3.heap[w.heap.size + 1]? = some (.loop { rec .ready none with state := .busy }) := by rw [← hW3]; exact World.putObj_heap_same (by have := hb2.size; omega)
      have hk3 : W3.heap[w.heap.size]? = some (.deferred (some [])) := (k23.block _ (by have := hb2.size; omega) (by omega)).trans hk2
      have hi3 : I pre W3 := hI _ _ _ (hIb hi hb2) (k23.mono fun k e => .inl e)
      have hs3 : w.heap.size + 2 ≤ W3.heap.size := Nat.le_trans hs (Nat.le_trans hb2.size k23.size)
      refine wpIn_mono (hbody _ pre x a1 W3 hi3 hpre hs3 (hR _ _ _ _ hr2 k23)) ?_
      rintro e a4 W4 ⟨rfl, k34, hi4⟩
      have hl4 : W4.heap[w.heap.size + 1]? = some (.loop { rec .ready none with state := .busy }) := (k34.block _ (by omega) hM1).trans hl3
      have hk4 : W4.heap[w.heap.size]? = some (.deferred (some [])) := (k34.block _ (by omega) hM0).trans hk3
      have hend := run_endRound (P := P) none hl4
      have hs4 : w.heap.size + 2 ≤ W4.heap.size := Nat.le_trans hs3 k34.size
      refine ⟨_, _, hend, rfl, ⟨hIl _ hi4, ?_, ?_, ?_⟩, ?_⟩
      · rw [World.putObj_heap_same (by omega), hrec]; rfl
      · exact (World.putObj_heap_other (by omega)).trans hk4
      · simpa using hs4
      · refine (Kpt.of_below hb2).trans ((k23.mono fun k e => .inr e).trans ((k34.mono fun k e => .inl e).trans (Kpt.putObj _ _ _ _ (.inr rfl))))
    · rintro e W2 ⟨⟨v, rfl⟩, xs, hS, hi, hl, hk, hs⟩
      exact ⟨none, _, by have := run_endLoop (P := P) hl (by rw [hrec]; simp); rw [hrec] at this; exact this, hdone xs _ hS (hIl _ hi) (by simpa using hs) ((World.putObj_heap_other (by omega)).trans hk)⟩
end
section
variable {P : Program} {Q : Exit → Act → World → Prop}
theorem list_round {ops : Array Oper} (l n : Nat) (hl : ¬ LetsOut Q) : ∀ (rest : List Oper) (a : Act) (w : World), (∀ o ∈ rest, ∀ c, o.op ≠ .defer c) →
    wpList P ops Q rest a w → wpListIn (Fence.wide.inRound l) n P ops Q rest a w
  | [], a, w, _, h => h
  | o :: rest, a, w, hd, h => by
    unfold wpList at h
    unfold wpListIn
    split at h
    · rename_i hw
      rw [if_pos hw]
      rcases h with h | h
      · exact oper_round l n (Oper.wp_mono (fun a w h => list_round l n hl rest a w (fun x hx => hd x (by simp [hx])) h) h) (hd o (by simp))
      · exact absurd h.2 hl
    · rename_i hw
      rw [if_neg hw]
      exact ⟨fun _ _ => trivial, list_round l n hl rest _ w (fun x hx => hd x (by simp [hx])) h⟩
theorem region_round {ops : List Oper} {id : Nat} {a : Act} {w : World} (l n : Nat) (hl : ¬ LetsOut Q) (hd : noDefer ops.toArray = true) (h : wpList P ops.toArray Q ops a w) : (Code.region id ops.toArray false).wpIn (Fence.wide.inRound l) n P Q a w := by
  refine wpIn_region_lit (list_round l n hl _ a w (fun o ho => ?_) h)
  obtain ⟨i, hi⟩ := List.mem_iff_getElem?.1 ho
  exact noDefer_at hd (i := i) (by simpa using hi)
end
theorem Kpt.setCell {M : Nat → Prop} (w : World) (g o : Nat) (v : Value) (hM : M g) : Kpt M w (w.setCell ⟨g, o, none⟩ v) :=
  ⟨rfl, rfl, rfl, by simp [World.setCell], fun k _ hk => Below.heap_setCell _ _ _ _ (fun e => hk (by rw [e]; exact hM))⟩
theorem OwnR.kpt {α : Type} {c : Enc α} {w w' : World} {base : Nat} {v : Value} {ps : List α} {M : Nat → Prop} (h : OwnR c w base v ps) (hk : Kpt M w w') (hM : ∀ k, M k → k < base) : OwnR c w' base v ps := by
  obtain ⟨h1, h2⟩ := h
  refine ⟨h1, h2.imp id ?_⟩
  rintro ⟨g, cap, cur, e, hg, hh, r⟩
  exact ⟨g, cap, cur, e, hg, (hk.block g (Array.getElem?_eq_some_iff.1 hh).1 (fun e => by have := hM g e; omega)).trans hh, r⟩
theorem RdR.kpt {α : Type} {c : Enc α} {w w' : World} {ao : Option Addr} {l : List α} {M : Nat → Prop} (h : RdR c w ao l) (hk : Kpt M w w') (hM : ∀ ad, ao = some ad → ¬ M ad.block) : RdR c w' ao l := by
  rcases h with h | ⟨g, off, rfl, h1, h2⟩
  · exact .inl h
  · refine .inr ⟨g, off, rfl, Nat.lt_of_lt_of_le h1 hk.size, fun k hk2 j hj => ?_⟩
    rw [← h2 k hk2 j hj]
    exact World.cell?_of_block (hk.block g h1 (hM _ rfl))
theorem OwnR.row {α : Type} {c : Enc α} {w : World} {base : Nat} {v : Value} {ps : List α} (h : OwnR c w base v ps) : ∀ k, v.ownBlock = some k → base ≤ k := fun k hk => (World.ownsRow.lt h k hk).1
theorem leave_plain {F : Fence} {n : Nat} {P : Program} {fn : Func} {R : Ending → World → Prop} {tmps : Array Value} {w : World} {v : Value} (h : (results fn tmps).run P w = .ok v w) (hR : R (.returned v) w) : LeavesInM F n P fn tmps R [] .returning w := ⟨_, h, hR⟩
theorem leave_mark {F : Fence} {n : Nat} {P : Program} {fn : Func} {R : Ending → World → Prop} {tmps : Array Value} {w : World} {D : Nat} {v : Value} (hD : w.heap[D]? = some (.deferred (some []))) (h : (results fn tmps).run P (w.putObj D (.deferred none)) = .ok v (w.putObj D (.deferred none))) (hR : R (.returned v) (w.putObj D (.deferred none))) :
    LeavesInM F n P fn tmps R [{ target := .collected D, args := #[] }] .returning w := by
  refine ⟨by simp, .inl ⟨_, _, rfl, run_takeDeferred hD, ?_⟩⟩
  exact ⟨_, h, hR⟩

end Go.Proofs.Ytgelbndbkmedlaa

/- A drawn region with a call of yield at its end; a range over a function whose body may return. -/
namespace Go.Proofs.Ytgelbndbkmedlaa
open Go.RowKit
section
variable {P : Program} {Q : Exit → Act → World → Prop} {a : Act} {m : List Bool} {V : Nat → Value → World → Prop} {w0 : World} {ops : Array Oper} {plan : Plan} {k n : Nat}
theorem oper_wide {o : Oper} {a : Act} {w : World} {K : Act → World → Prop} (n : Nat) (h : o.wp P a w K Q) : o.wpIn Fence.wide n P a w K Q := by
  refine ⟨fun _ _ => trivial, ?_⟩
  show o.uponIn _ n P a K Q ((o.semAt none a.eval).run P w)
  rw [Oper.semAt_none]
  unfold Oper.wp at h
  generalize (execOp a.eval o).run P w = r at *
  cases r with
  | ok x w' =>
    cases x with
    | value v => exact h
    | skip => exact h
    | defer d => exact h
    | enter f args => exact ⟨fun hc => (by cases hc), callsIn_wide.2 h⟩
    | row r args => exact ⟨fun hc => (by cases hc), fun c cs _ => let ⟨v, w', r, s⟩ := h c cs; ⟨v, w', r, stepsIn_wide.2 s⟩⟩
    | _ => exact h.elim
  | halt x w' => cases x <;> first | exact h | exact h.elim
/-- The step of an operation ahead of the stores. -/
theorem seq_stepI (hmono : ∀ d v w w', V d v w → Below w.heap.size w w' → V d v w') (hnd : nodupB (plan.map (·.1)) = true) (hall : planAll ops m a.tmps.size (ops.toList.take k) plan = true) (hob : Obls P Q a m V w0 (ops.toList.take k) plan)
    {listed : Array Bool} {i : Nat} (hik : i < k) (hsu : ∀ j, k ≤ j → listed[j]? ≠ some true) (hi : i ∈ Region.ready .any ops listed) {a' : Act} {w : World} (h : Inv a m V w0 ops listed a' w) :
    wpOpIn Fence.wide n P ops Q i (fun a2 w2 => Inv a m V w0 ops (listed.setIfInBounds i true) a2 w2) a' w := by
  obtain ⟨hlt, hun, hpre⟩ := ready_pre hi
  obtain ⟨o, ho⟩ : ∃ o, ops[i]? = some o := ⟨ops[i], by simp [hlt]⟩
  have hpre := hpre o ho
  have hoL : (ops.toList.take k)[i]? = some o := by rw [List.getElem?_take, if_pos hik]; simpa using ho
  obtain ⟨p, hp, h1⟩ := planAll_at hall hoL
  have hO := obls_at hob hoL hp
  simp only [planOne, Bool.and_eq_true] at h1
  obtain ⟨⟨⟨⟨hd, hm⟩, hdn⟩, hps⟩, hg⟩ := h1
  have hd' : o.dst = some p.1 := by simpa using hd
  have hm' := getD_true hm
  obtain ⟨f, rfl, hb, hV⟩ := h
  have hav : ∀ l : List Nat, (∀ d ∈ l, d ∈ p.2.1) → AllV V f w l := by
    intro l
    induction l with
    | nil => intro _; trivial
    | cons d l ih =>
      intro hl
      refine ⟨?_, ih fun x hx => hl x (by simp [hx])⟩
      have h2 := List.all_eq_true.1 hps d (hl d (by simp))
      obtain ⟨e, he, h3⟩ := Array.any_eq_true'.1 h2
      simp only [Bool.and_eq_true] at h3
      have h5 : (ops[e.on]?).bind (·.dst) = some d := by simpa using h3.2
      obtain ⟨oe, hoe, hde⟩ := Option.bind_eq_some_iff.1 h5
      exact hV e.on oe d hoe hde (hpre e he h3.1)
  have hav := hav p.2.1 fun _ h => h
  have hfin : ∀ v w2, V p.1 v w2 → Below w.heap.size w w2 → Inv a m V w0 ops (listed.setIfInBounds i true) ((over a m f).put (some p.1) v) w2 := by
    intro v w2 hv hb2
    refine ⟨upd f p.1 v, over_put a m f p.1 v hm', hb.trans (hb2.mono hb.size), ?_⟩
    intro j oj d hj hdj hlj
    by_cases e : j = i
    · subst e
      rw [ho] at hj; cases hj
      rw [hd'] at hdj; cases hdj
      rw [upd_same]; exact hv
    · have hlj2 : listed[j]? = some true := by simpa [Array.getElem?_setIfInBounds, Ne.symm e] using hlj
      have hjk : j < k := by
        by_cases h : j < k
        · exact h
        · exact absurd hlj2 (hsu j (by omega))
      have hne : d ≠ p.1 := by
        intro e2; subst e2
        obtain ⟨pj, hpj, h1j⟩ := planAll_at hall (i := j) (o := oj) (by rw [List.getElem?_take, if_pos hjk]; simpa using hj)
        simp only [planOne, Bool.and_eq_true] at h1j
        have hdj2 : oj.dst = some pj.1 := by simpa using h1j.1.1.1.1
        rw [hdj] at hdj2
        refine e (nodup_at hnd (i := j) (j := i) (d := p.1) ?_ ?_)
        · simp only [List.getElem?_map, hpj, Option.map_some, Option.some.injEq]; exact (Option.some.inj hdj2).symm
        · simp only [List.getElem?_map, hp, Option.map_some]
      rw [upd_other hne]
      exact hmono _ _ _ _ (hV j oj d hj hdj hlj2) hb2
  have hDoes : Does P Q a m V o p.1 f w → o.wp P (over a m f) w (fun a2 w2 => Inv a m V w0 ops (listed.setIfInBounds i true) a2 w2) Q := fun hD =>
    hD _ fun a2 w2 ⟨v, hv, ha, hb2⟩ => by subst ha; exact hfin v w2 hv hb2
  have hO := hO f w hb hav
  unfold wpOpIn
  rw [ho]
  simp only
  cases hgo : o.guard with
  | none =>
    rw [hgo] at hg
    have hw : Region.wanted o (yielded ops (over a m f).tmps) = true := by simp [Region.wanted, hgo]
    rw [if_pos hw]
    cases hp2 : p.2.2 with
    | none => rw [hp2] at hO; exact oper_wide n (hDoes hO)
    | some x => rw [hp2] at hg; simp at hg
  | some jb =>
    obtain ⟨j, b⟩ := jb
    rw [hgo] at hg
    cases hp2 : p.2.2 with
    | none => rw [hp2] at hg; simp at hg
    | some sb =>
      obtain ⟨s, b'⟩ := sb
      rw [hp2] at hg hO
      simp only [Bool.and_eq_true] at hg
      obtain ⟨⟨⟨hs, hbb⟩, hms⟩, hsn⟩ := hg
      have hbb : b = b' := by simpa using hbb
      subst hbb
      have hs : (ops[j]?).bind (·.dst) = some s := by simpa using hs
      have hgs : (over a m f).tmps[s]? = some (f s) := by
        have := overL_at f m 0 s a.tmps.toList (getD_true hms) (by simpa using hsn)
        simpa [over] using this
      have hy : yielded ops (over a m f).tmps j = match f s with | .bool x => some x | _ => none := by
        unfold yielded
        rw [hs]
        simp only [Option.bind_some, hgs]
        cases f s <;> rfl
      by_cases hw : f s = .bool b
      · have : Region.wanted o (yielded ops (over a m f).tmps) = true := by simp [Region.wanted, hgo, hy, hw]
        rw [if_pos this]
        exact oper_wide n (hDoes (hO.1 hw))
      · have : ¬ Region.wanted o (yielded ops (over a m f).tmps) = true := by
          simp only [Region.wanted, hgo, hy, beq_iff_eq]
          cases e : f s <;> simp
          rename_i x
          intro e2; subst e2; exact hw e
        rw [if_neg this, hd']
        exact ⟨fun _ _ => trivial, hfin _ _ (hO.2 hw) (Below.refl _ _)⟩

/-- Where the region stands. -/
def StI (n : Nat) (P : Program) (Q : Exit → Act → World → Prop) (a : Act) (m : List Bool) (V : Nat → Value → World → Prop) (w0 : World) (ops : Array Oper) (k : Nat) (listed : Array Bool) (a' : Act) (w : World) : Prop :=
  Closed ops listed ∧ (((∀ j, k ≤ j → listed[j]? ≠ some true) ∧ Inv a m V w0 ops listed a' w) ∨ ∃ i, k ≤ i ∧ (∀ j, j < ops.size → (listed[j]? = some true ↔ j < i)) ∧ wpListIn Fence.wide n P ops Q (ops.toList.drop i) a' w)

theorem seq_anyI (hmono : ∀ d v w w', V d v w → Below w.heap.size w w' → V d v w') (hback : backB 0 ops.toList = true) (hnd : nodupB (plan.map (·.1)) = true) (hall : planAll ops m a.tmps.size (ops.toList.take k) plan = true) (hseq : seqB ops k = true) (hk : k ≤ ops.size)
    (hob : Obls P Q a m V w0 (ops.toList.take k) plan) (hsuf : ∀ f w, Below w0.heap.size w0 w → AllP V f w plan → wpListIn Fence.wide n P ops Q (ops.toList.drop k) (over a m f) w) :
    ∀ (fuel : Nat) (listed : Array Bool) (a' : Act) (w : World), listed.size = ops.size → listed.toList.count false ≤ fuel → StI n P Q a m V w0 ops k listed a' w → wpAnyIn Fence.wide n P .any ops Q fuel listed a' w := by
  have hcov : ∀ {listed : Array Bool}, Closed ops listed → ∀ {i : Nat}, i ∈ Region.ready .any ops listed → k ≤ i → ∀ j, j < i → listed[j]? = some true := by
    intro listed hc i hi hki j hj
    obtain ⟨hlt, _, hp⟩ := ready_pre hi
    unfold seqB at hseq
    have h1 := List.all_eq_true.1 hseq i (by simpa using hlt)
    rw [Bool.or_eq_true] at h1
    rcases h1 with h1 | h1
    · simp at h1; omega
    · exact covers_listed hc _ i j hp (List.all_eq_true.1 h1 j (by simpa using hj))
  have htoSuf : ∀ {listed : Array Bool} {a' : Act} {w : World}, Inv a m V w0 ops listed a' w → (∀ j, j < k → listed[j]? = some true) → wpListIn Fence.wide n P ops Q (ops.toList.drop k) a' w := by
    rintro listed a' w ⟨f, rfl, hb, hV⟩ hl
    refine hsuf f w hb (allP_of hall fun i o d ho hd => ?_)
    have hik : i < k := by
      by_cases h : i < k
      · exact h
      · rw [List.getElem?_take, if_neg h] at ho; cases ho
    rw [List.getElem?_take, if_pos hik] at ho
    exact hV i o d (by simpa using ho) hd (hl i hik)
  have hend : ∀ (listed : Array Bool) (a' : Act) (w : World), listed.size = ops.size → StI n P Q a m V w0 ops k listed a' w → Region.ready .any ops listed = [] → Q .normal a' w := by
    rintro listed a' w hsz ⟨_, h⟩ hr
    have hal := all_listed hback hsz hr
    rcases h with ⟨hs, hI⟩ | ⟨i, hki, hl, hw⟩
    · have hks : k = ops.size := by
        by_cases h : k < ops.size
        · exact absurd (hal k h) (hs k (Nat.le_refl _))
        · omega
      have := htoSuf hI fun j hj => hal j (by omega)
      rw [List.drop_eq_nil_of_le (by simp; omega)] at this
      exact this
    · have : ops.size ≤ i := by
        by_cases h : i < ops.size
        · have := (hl i h).1 (hal i h); omega
        · omega
      rw [List.drop_eq_nil_of_le (by simpa using this)] at hw
      exact hw
  have hstepL : ∀ {listed : Array Bool} {a' : Act} {w : World} {i : Nat}, i < ops.size → k ≤ i → (∀ j, j < ops.size → (listed[j]? = some true ↔ j < i)) → Closed ops (listed.setIfInBounds i true) → listed.size = ops.size → wpListIn Fence.wide n P ops Q (ops.toList.drop i) a' w →
      wpOpIn Fence.wide n P ops Q i (fun a2 w2 => StI n P Q a m V w0 ops k (listed.setIfInBounds i true) a2 w2) a' w := by
    intro listed a' w i hi hki hl hc hsz hw
    have hd : ops.toList.drop i = ops[i] :: ops.toList.drop (i + 1) := by
      rw [List.drop_eq_getElem_cons (by simpa using hi)]; simp
    have hnext : ∀ a2 w2, wpListIn Fence.wide n P ops Q (ops.toList.drop (i + 1)) a2 w2 → StI n P Q a m V w0 ops k (listed.setIfInBounds i true) a2 w2 := fun a2 w2 h =>
      ⟨hc, .inr ⟨i + 1, by omega, fun j hj => by
        rw [Array.getElem?_setIfInBounds]
        by_cases e : i = j
        · subst e; rw [if_pos rfl, if_pos (by omega)]; simp
        · rw [if_neg e, hl j hj]; omega, h⟩⟩
    rw [hd] at hw
    unfold wpListIn at hw
    unfold wpOpIn
    rw [show ops[i]? = some ops[i] by simp [hi]]
    simp only
    split
    · rename_i hwn
      rw [if_pos hwn] at hw
      exact Oper.wpIn_mono hnext hw
    · rename_i hwn
      rw [if_neg hwn] at hw
      exact ⟨fun _ _ => trivial, hnext _ _ hw.2⟩
  intro fuel
  induction fuel with
  | zero =>
    intro listed a' w hsz hc hI
    have hr : Region.ready .any ops listed = [] := by
      rw [List.eq_nil_iff_forall_not_mem]
      intro i hi
      obtain ⟨hlt, h1, _⟩ := ready_pre hi
      have h0 : listed.toList.count false = 0 := by omega
      rw [List.count_eq_zero] at h0
      have hlt2 : i < listed.size := by omega
      simp only [Array.getD_eq_getD_getElem?, Array.getElem?_eq_getElem hlt2, Option.getD_some] at h1
      exact h0 (by rw [← h1]; simp)
    exact ⟨hr, hend listed a' w hsz hI hr⟩
  | succ fuel ih =>
    intro listed a' w hsz hc hI
    refine ⟨hend listed a' w hsz hI, fun i hi => ?_⟩
    have hrp := ready_pre hi
    have hlt2 : i < listed.size := by omega
    have h1 := hrp.2.1
    simp only [Array.getD_eq_getD_getElem?, Array.getElem?_eq_getElem hlt2, Option.getD_some] at h1
    have hcount : (listed.setIfInBounds i true).toList.count false ≤ fuel := by
      have hl : i < listed.toList.length := by simpa using hlt2
      have h2 : listed.toList[i] = false := by simpa using h1
      rw [Array.toList_setIfInBounds, List.count_set hl, h2]
      have hp : 0 < listed.toList.count false := List.count_pos_iff.2 (by rw [← h2]; exact List.getElem_mem _)
      rw [if_pos (by rfl), if_neg (by decide)]
      omega
    have hnl : listed[i]? ≠ some true := by rw [Array.getElem?_eq_getElem hlt2, h1]; simp
    refine wpOpIn_mono (K := fun a2 w2 => StI n P Q a m V w0 ops k (listed.setIfInBounds i true) a2 w2) (fun a2 w2 h2 => ih _ _ _ (by simpa using hsz) hcount h2) ?_
    obtain ⟨hcl, hS⟩ := hI
    have hcl2 := closed_next hcl hi
    rcases hS with ⟨hsu, hI⟩ | ⟨i0, hki, hl, hw⟩
    · by_cases hik : i < k
      · refine wpOpIn_mono (fun a2 w2 h2 => ⟨hcl2, .inl ⟨fun j hj => ?_, h2⟩⟩) (seq_stepI hmono hnd hall hob hik hsu hi hI)
        rw [Array.getElem?_setIfInBounds, if_neg (by omega)]
        exact hsu j hj
      · have hlow := hcov hcl hi (by omega)
        have he : i = k := by
          by_cases h : i = k
          · exact h
          · exact absurd (hlow k (by omega)) (hsu k (Nat.le_refl _))
        subst he
        refine hstepL hrp.1 (Nat.le_refl _) (fun j hj => ⟨fun h => ?_, fun h => hlow j h⟩) hcl2 hsz (htoSuf hI hlow)
        by_cases h2 : j < i
        · exact h2
        · exact absurd h (hsu j (by omega))
    · have hge : i0 ≤ i := by
        by_cases h : i < i0
        · exact absurd ((hl i hrp.1).2 h) hnl
        · omega
      have hlow := hcov hcl hi (by omega)
      have he : i = i0 := by
        by_cases h : i = i0
        · exact h
        · have := (hl i0 (by omega)).1 (hlow i0 (by omega)); omega
      subst he
      exact hstepL hrp.1 hki hl hcl2 hsz hw

/-- A region that draws its order and ends in stores. -/
theorem region_seqI {id : Nat} (k : Nat) (m : List Bool) (plan : Plan) (V : Nat → Value → World → Prop) (hmix : P.follows .mixedOrders = true) (hback : backB 0 ops.toList = true) (hnd : nodupB (plan.map (·.1)) = true) (hall : planAll ops m a.tmps.size (ops.toList.take k) plan = true)
    (hseq : seqB ops k = true) (hk : k ≤ ops.size) (hmono : ∀ d v w w', V d v w → Below w.heap.size w w' → V d v w') (hob : Obls P Q a m V w0 (ops.toList.take k) plan)
    (hsuf : ∀ f w, Below w0.heap.size w0 w → AllP V f w plan → wpListIn Fence.wide n P ops Q (ops.toList.drop k) (over a m f) w) : (Code.region id ops true).wpIn Fence.wide n P Q a w0 := by
  refine wpIn_region_any hmix (seq_anyI hmono hback hnd hall hseq hk hob hsuf _ _ _ _ (by simp) (by simp) ⟨?_, .inl ⟨?_, fun k => (a.tmps.toList[k]?).getD undef, (over_start a m).symm, ⟨rfl, rfl, rfl, Nat.le_refl _, fun _ _ => rfl⟩, ?_⟩⟩)
  · intro i o _ h
    simp [Array.getElem?_replicate] at h
  · intro j _ h
    simp [Array.getElem?_replicate] at h
  · intro i o d _ _ h
    simp [Array.getElem?_replicate] at h
end
/-- What an iterator gives, one behind the other, until the body leaves: it turns nothing that lay, the body what M says. -/
def SeqLv {α : Type} (P : Program) (n g : Nat) (lb : Array Value) (encs : α → Array Value) (Pre S : List α → Prop) (M : Nat → Prop) (l : Nat) (W : World) : Prop :=
  ∀ J Jx : List α → World → Prop, (∀ s A B, J s A → Below A.heap.size A B → J s B) → (∀ s A B, Jx s A → Below A.heap.size A B → Jx s B) →
    (∀ pre x W1, J pre W1 → Pre (pre ++ [x]) → W.heap.size ≤ W1.heap.size → YieldAt Fence.wide (n - 1) P l (encs x) W1 fun e W' => (e = .returned (.bool true) ∧ J (pre ++ [x]) W' ∧ Kpt (fun k => M k ∨ k = l) W1 W') ∨ (e = .returned (.bool false) ∧ Jx (pre ++ [x]) W')) →
    J [] W → CallsIn Fence.wide n P g (#[.func (.yield l) #[] #[]] ++ lb) W fun e W' => (∃ v, e = .returned v) ∧ ((∃ xs, S xs ∧ J xs W') ∨ ∃ pre, Pre pre ∧ Jx pre W')
section
variable {P : Program} {n : Nat}
theorem range_leave {α : Type} {g : Operand} {ps : Array Tmp} {assign body : Code} {Q : Exit → Act → World → Prop} {a : Act} {w : World}
    {gf : Nat} {lb : Array Value} (hg : a.eval g = .func (.func gf) #[] lb) (eg : ∀ args w, (callFunc gf args).run P w = .ok (.enter gf args) w)
    (M : Nat → Prop) (Pre S : List α → Prop) (encs : α → Array Value) (hps : ∀ x, (encs x).size = ps.size)
    (hseq : ∀ W, Below w.heap.size w W → W.heap.size = w.heap.size + 2 → SeqLv P (n - 1) gf lb encs Pre S M (w.heap.size + 1) W)
    (hM0 : ¬ M w.heap.size) (hM1 : ¬ M (w.heap.size + 1))
    (I Ix : List α → World → Prop) (hI : ∀ s A B, I s A → Kpt (fun k => k = w.heap.size + 1) A B → I s B) (hIx : ∀ s A B, Ix s A → Kpt (fun k => k = w.heap.size + 1) A B → Ix s B) (h0 : I [] w)
    (R : α → Act → World → Prop) (hR : ∀ x a1 A B, R x a1 A → Kpt (fun k => k = w.heap.size + 1) A B → R x a1 B)
    (hassign : ∀ (l : Nat) (pre : List α) (x : α) (W : World) (K : Act → World → Prop), I pre W → Pre (pre ++ [x]) → w.heap.size + 2 ≤ W.heap.size →
      (∀ a1 W2, R x a1 W2 → Below W.heap.size W W2 → K a1 W2) →
      assign.wpIn (Fence.wide.inRound l) (n - 1 - 1) P (Exit.then K (fun _ _ _ => False)) { tmps := (ps.zip (encs x)).foldl (fun t (p, v) => t.setIfInBounds p v) a.tmps, defers := [] } W)
    (hbody : ∀ (l : Nat) (pre : List α) (x : α) (a1 : Act) (W : World), I pre W → Pre (pre ++ [x]) → w.heap.size + 2 ≤ W.heap.size → R x a1 W →
      body.wpIn (Fence.wide.inRound l) (n - 1 - 1) P (fun e _ W' => (e = .normal ∧ Kpt M W W' ∧ I (pre ++ [x]) W') ∨ (e = .ret ∧ Kpt M W W' ∧ Ix (pre ++ [x]) W')) a1 W)
    (hdone : ∀ xs W, S xs → I xs W → w.heap.size + 2 ≤ W.heap.size → W.heap[w.heap.size]? = some (.deferred (some [])) → Q .normal { a with defers := { target := .collected w.heap.size, args := #[] } :: a.defers } W)
    (hstop : ∀ pre W, Pre pre → Ix pre W → w.heap.size + 2 ≤ W.heap.size → W.heap[w.heap.size]? = some (.deferred (some [])) → Q .ret { a with defers := { target := .collected w.heap.size, args := #[] } :: a.defers } W) :
    (Code.rangeFunc g ps assign body).wp P Q a w := by
  refine (wpIn_wide (n := n)).1 (wpIn_rangeFunc ?_)
  intro fn hfn
  have hIb : ∀ {s A B}, I s A → Below A.heap.size A B → I s B := fun h hb => hI _ _ _ h (Kpt.of_below hb)
  have hIl : ∀ {s A} (o : Obj), I s A → I s (A.putObj (w.heap.size + 1) o) := fun o h => hI _ _ _ h (Kpt.putObj _ _ _ _ rfl)
  have hXl : ∀ {s A} (o : Obj), Ix s A → Ix s (A.putObj (w.heap.size + 1) o) := fun o h => hIx _ _ _ h (Kpt.putObj _ _ _ _ rfl)
  obtain ⟨rec, hrec⟩ : ∃ rec : LoopState → Option Code → Loop, rec = fun st pe => { state := st, pending := pe, fn, tmps := a.tmps, params := ps, assign, body, defers := w.heap.size } := ⟨_, rfl⟩
  obtain ⟨W1, hW1⟩ : ∃ W1, (w.alloc (.deferred (some []))).alloc (.loop (rec .ready none)) = W1 := ⟨_, rfl⟩
  have hsz : W1.heap.size = w.heap.size + 2 := by rw [← hW1]; simp
  have hL1 : W1.heap[w.heap.size + 1]? = some (.loop (rec .ready none)) := by
    rw [← hW1]; have := World.alloc_heap_new (w.alloc (.deferred (some []))) (.loop (rec .ready none)); rwa [World.size_alloc] at this
  have hK1 : W1.heap[w.heap.size]? = some (.deferred (some [])) := by
    rw [← hW1]; exact (Below.heap_alloc _ _ _ (by simp)).trans (World.alloc_heap_new w _)
  have hb1 : Below w.heap.size w W1 := by rw [← hW1]; exact ((Below.refl _ w).alloc (Nat.le_refl _) _).alloc (by simp) _
  refine ⟨w.heap.size + 1, [{ target := .collected w.heap.size, args := #[] }], W1, { target := .fn (.func gf) lb, args := #[.func (.yield (w.heap.size + 1)) #[] #[]] }, W1, gf,
    #[.func (.yield (w.heap.size + 1)) #[] #[]] ++ lb, W1, ?_, ?_, fun _ _ => trivial, ?_, fun hc => (by cases hc), ?_⟩
  · rw [← hW1, hrec]; exact run_enterLoop_outer _ _ _ _ _
  · simp only [resolve, hg]
    simp [go_sem]
  · simp [invoke, go_sem, eg]
  · refine (hseq W1 hb1 hsz (fun pre W => I pre W ∧ W.heap[w.heap.size + 1]? = some (.loop (rec .ready none)) ∧ W.heap[w.heap.size]? = some (.deferred (some [])) ∧ w.heap.size + 2 ≤ W.heap.size)
      (fun pre W => Ix pre W ∧ W.heap[w.heap.size + 1]? = some (.loop (rec .done (some .ret))) ∧ W.heap[w.heap.size]? = some (.deferred (some [])) ∧ w.heap.size + 2 ≤ W.heap.size) ?_ ?_ ?_ ⟨hIb h0 hb1, hL1, hK1, by omega⟩).mono ?_
    · rintro s A B ⟨h1, h2, h3, h4⟩ hAB
      exact ⟨hI _ _ _ h1 (Kpt.of_below hAB), (hAB.block _ (by omega)).trans h2, (hAB.block _ (by omega)).trans h3, Nat.le_trans h4 hAB.size⟩
    · rintro s A B ⟨h1, h2, h3, h4⟩ hAB
      exact ⟨hIx _ _ _ h1 (Kpt.of_below hAB), (hAB.block _ (by omega)).trans h2, (hAB.block _ (by omega)).trans h3, Nat.le_trans h4 hAB.size⟩
    · rintro pre x W ⟨hi, hl, hk, hs⟩ hpre hsize
      have hy := run_yield (P := P) (args := encs x) hl (by rw [hrec]; exact hps x)
      rw [hrec] at hy
      refine ⟨fn, _, assign, body, hy, roundIn_of_wpIn hfn (hassign _ pre x W _ hi hpre hs fun a1 W2 hr2 hb2 => ?_)⟩
      have hl2 : W2.heap[w.heap.size + 1]? = some (.loop (rec .ready none)) := (hb2.block _ (by omega)).trans hl
      have hk2 : W2.heap[w.heap.size]? = some (.deferred (some [])) := (hb2.block _ (by omega)).trans hk
      refine ⟨_, run_beginRound hl2 (by rw [hrec]), ?_⟩
      obtain ⟨W3, hW3⟩ : ∃ W3, W2.putObj (w.heap.size + 1) (.loop { rec .ready none with state := .busy }) = W3 := ⟨_, rfl⟩
      rw [hW3]
      have k23 : Kpt (fun k => k = w.heap.size + 1) W2 W3 := by rw [← hW3]; exact Kpt.putObj _ _ _ _ rfl
      have hl3 : W3.heap[w.heap.size + 1]? = some (.loop { rec .ready none with state := .busy }) := by rw [← hW3]; exact World.putObj_heap_same (by have := hb2.size; omega)
      have hk3 : W3.heap[w.heap.size]? = some (.deferred (some [])) := (k23.block _ (by have := hb2.size; omega) (by omega)).trans hk2
      have hi3 : I pre W3 := hI _ _ _ (hIb hi hb2) k23
      have hs3 : w.heap.size + 2 ≤ W3.heap.size := Nat.le_trans hs (Nat.le_trans hb2.size k23.size)
      refine wpIn_mono (hbody _ pre x a1 W3 hi3 hpre hs3 (hR _ _ _ _ hr2 k23)) ?_
      rintro e a4 W4 (⟨rfl, k34, hi4⟩ | ⟨rfl, k34, hi4⟩)
      · have hl4 : W4.heap[w.heap.size + 1]? = some (.loop { rec .ready none with state := .busy }) := (k34.block _ (by omega) hM1).trans hl3
        have hk4 : W4.heap[w.heap.size]? = some (.deferred (some [])) := (k34.block _ (by omega) hM0).trans hk3
        have hend := run_endRound (P := P) none hl4
        have hs4 : w.heap.size + 2 ≤ W4.heap.size := Nat.le_trans hs3 k34.size
        refine ⟨_, _, hend, .inl ⟨rfl, ⟨hIl _ hi4, ?_, ?_, ?_⟩, ?_⟩⟩
        · rw [World.putObj_heap_same (by omega), hrec]; rfl
        · exact (World.putObj_heap_other (by omega)).trans hk4
        · simpa using hs4
        · refine (Kpt.of_below hb2).trans ((k23.mono fun k e => .inr e).trans ((k34.mono fun k e => .inl e).trans (Kpt.putObj _ _ _ _ (.inr rfl))))
      · have hl4 : W4.heap[w.heap.size + 1]? = some (.loop { rec .ready none with state := .busy }) := (k34.block _ (by omega) hM1).trans hl3
        have hk4 : W4.heap[w.heap.size]? = some (.deferred (some [])) := (k34.block _ (by omega) hM0).trans hk3
        have hend := run_endRound (P := P) (some .ret) hl4
        have hs4 : w.heap.size + 2 ≤ W4.heap.size := Nat.le_trans hs3 k34.size
        refine ⟨_, _, hend, .inr ⟨rfl, hXl _ hi4, ?_, ?_, ?_⟩⟩
        · rw [World.putObj_heap_same (by omega), hrec]; rfl
        · exact (World.putObj_heap_other (by omega)).trans hk4
        · simpa using hs4
    · rintro e W2 ⟨⟨v, rfl⟩, (⟨xs, hS, hi, hl, hk, hs⟩ | ⟨pre, hP, hi, hl, hk, hs⟩)⟩
      · exact ⟨none, _, by have := run_endLoop (P := P) hl (by rw [hrec]; simp); rw [hrec] at this; exact this, hdone xs _ hS (hIl _ hi) (by simpa using hs) ((World.putObj_heap_other (by omega)).trans hk)⟩
      · exact ⟨some .ret, _, by have := run_endLoop (P := P) hl (by rw [hrec]; simp); rw [hrec] at this; exact this, wpIn_ret (hstop pre _ hP (hXl _ hi) (by simpa using hs) ((World.putObj_heap_other (by omega)).trans hk))⟩
end
end Go.Proofs.Ytgelbndbkmedlaa

/- Points in memory; path.numbers, isNear, isTool, change, turns walked. -/
namespace Go.Proofs.Ytgelbndbkmedlaa.S
open Go.RowKit
/-- A point at a place of a block. -/
def PtAt (w : World) (b o : Nat) (p : Pt) : Prop := b < w.heap.size ∧ w.cell? ⟨b, o, none⟩ = some (.int .i64 p.x) ∧ w.cell? ⟨b, o + 1, none⟩ = some (.int .i64 p.y) ∧ w.cell? ⟨b, o + 2, none⟩ = some (.int .i64 p.z)
theorem PtAt.next {w w1 : World} {b o : Nat} {p : Pt} (h : PtAt w b o p) (hb : Below w.heap.size w w1) : PtAt w1 b o p := ⟨Nat.lt_of_lt_of_le h.1 hb.size, cell_later hb h.2.1, cell_later hb h.2.2.1, cell_later hb h.2.2.2⟩
theorem PtAt.same {w w1 : World} {b o : Nat} {p : Pt} (h : PtAt w b o p) (hs : w.heap.size ≤ w1.heap.size) (hb : w1.heap[b]? = w.heap[b]?) : PtAt w1 b o p :=
  ⟨Nat.lt_of_lt_of_le h.1 hs, (World.cell?_of_block (a := ⟨b, o, none⟩) hb).trans h.2.1, (World.cell?_of_block (a := ⟨b, o + 1, none⟩) hb).trans h.2.2.1, (World.cell?_of_block (a := ⟨b, o + 2, none⟩) hb).trans h.2.2.2⟩
/-- A slice's memory holds these points. -/
def Pns (w : World) (ao : Option Addr) (l : List Pt) : Prop :=
  l = [] ∨ ∃ b off, ao = some ⟨b, off, none⟩ ∧ ∀ k (h : k < l.length), PtAt w b (off + k * 3) (l[k]'h)
theorem Pns.next {w w1 : World} {ao : Option Addr} {l : List Pt} (h : Pns w ao l) (hb : Below w.heap.size w w1) : Pns w1 ao l :=
  h.imp id fun ⟨b, off, h1, h2⟩ => ⟨b, off, h1, fun k hk => (h2 k hk).next hb⟩
theorem Pns.at {w : World} {ao : Option Addr} {l : List Pt} (h : Pns w ao l) {k : Nat} (hk : k < l.length) : ∃ b off, ao = some ⟨b, off, none⟩ ∧ PtAt w b (off + k * 3) (l[k]'hk) := by
  rcases h with rfl | ⟨b, off, h1, h2⟩
  · exact absurd hk (Nat.not_lt_zero _)
  · exact ⟨b, off, h1, h2 k hk⟩
theorem Pns.nil (w : World) (ao : Option Addr) : Pns w ao [] := .inl rfl
/-- Where the block of a slice has not turned. -/
theorem Pns.kpt {M : Nat → Prop} {w w1 : World} {ao : Option Addr} {l : List Pt} (h : Pns w ao l) (hk : Kpt M w w1) (hM : l ≠ [] → ∀ ad, ao = some ad → ¬ M ad.block) : Pns w1 ao l := by
  rcases h with h | ⟨b, off, h1, h2⟩
  · exact .inl h
  · by_cases hn : l = []
    · exact .inl hn
    · refine .inr ⟨b, off, h1, fun k hk2 => (h2 k hk2).same hk.size (hk.block b (h2 k hk2).1 (hM hn _ h1))⟩
theorem Pns.lt {w : World} {ao : Option Addr} {l : List Pt} (h : Pns w ao l) (hn : l ≠ []) : ∀ ad, ao = some ad → ad.block < w.heap.size := by
  intro ad e
  rcases h with h | ⟨b, off, h1, h2⟩
  · exact absurd h hn
  · rw [h1] at e
    injection e with e
    subst e
    have hl : 0 < l.length := List.length_pos_iff.2 hn
    exact (h2 0 hl).1
abbrev pcl (p : Pt) : List Value := [.int .i64 p.x, .int .i64 p.y, .int .i64 p.z]
abbrev encPt : Enc Pt := ⟨24, 3, pcl⟩
theorem goodPt : Good encPt := ⟨fun _ => rfl, fun x u hu => by simp at hu; rcases hu with rfl | rfl | rfl <;> rfl⟩
theorem infoPt : (Try.prog.info? 24).map (fun i => (i.zero, i.size, i.bytes)) = some (some (.agg #[.int .i64 0, .int .i64 0, .int .i64 0]), 3, 24) := by kernel_rfl
theorem pns_of {w : World} {base : Nat} {v : Value} {t : List Pt} (h : OwnR encPt w base v t) : ∃ ao cap, v = .slice ao t.length cap ∧ t.length ≤ cap ∧ Pns w ao t := by
  rcases h.read goodPt with ⟨rfl, ao, cap, e⟩ | ⟨g, cap, e, hc0, _, hg, hc⟩
  · exact ⟨ao, cap, e, Nat.zero_le _, .inl rfl⟩
  · refine ⟨_, cap, e, hc0, .inr ⟨g, 0, rfl, fun k hk => ?_⟩⟩
    have h0 := hc k hk 0 (by decide)
    have h1 := hc k hk 1 (by decide)
    have h2 := hc k hk 2 (by decide)
    exact ⟨hg, by simpa using h0, by simpa using h1, by simpa using h2⟩
theorem rd_pns {w : World} {ao : Option Addr} {l : List Pt} (h : Pns w ao l) : RdR encPt w ao l := by
  rcases h with h | ⟨b, off, e, hc⟩
  · exact .inl h
  · by_cases hn : l = []
    · exact .inl hn
    · have hl : 0 < l.length := List.length_pos_iff.2 hn
      refine .inr ⟨b, off, e, (hc 0 hl).1, fun k hk j hj => ?_⟩
      match j, hj with
      | 0, _ => exact (hc k hk).2.1
      | 1, _ => exact (hc k hk).2.2.1
      | 2, _ => exact (hc k hk).2.2.2
/-- The numbers of a point. -/
theorem pnumbers_any (p : Pt) (w : World) :
    Calls Try.prog 63 #[pv p] w fun e w' => e = .returned (pv p) ∧ w' = (w.alloc (.cells #[.int .i64 p.x, .int .i64 p.y, .int .i64 p.z] 24)).alloc (.cells #[.int .i64 p.x, .int .i64 p.y, .int .i64 p.z] 67) := by
  go_enter Try.func63, Try.ntmps63
  go_wp2
  refine bodyPost_ret (v := pv p) (by simp [results, Try.results63, go_sem]) rfl ⟨rfl, rfl⟩
set_option maxHeartbeats 6400000 in
theorem pnear_any (ao : Option Addr) (c : Nat) (ps : List Pt) (w : World) (hP : Pns w ao ps) (hl : ps.length ≤ 9223372036854775807) :
    Calls Try.prog 38 #[.slice ao ps.length c] w fun e w' => e = .returned (.bool (ps.all nearP)) ∧ Below w.heap.size w w' := by
  have HP : Hid (Pns w ao ps) := hP
  clear hP
  go_enter Try.func38, Try.ntmps38
  go_wp2
  go_loopw [9] (fun i wr => ∃ k : Nat, k ≤ ps.length ∧ i = .int .i64 k ∧ (∀ p ∈ ps.take k, nearP p = true) ∧ Below w.heap.size w wr) (fun i _ => ps.length - (intOf i).toNat)
  case atStart => exact ⟨0, Nat.zero_le _, rfl, (fun f hf => by simp at hf), Below.refl _ _⟩
  case round =>
    obtain ⟨k, hk, rfl, hok, hb⟩ := hrel
    obtain ⟨w1, rfl⟩ : ∃ w1, w1 = wr := ⟨_, rfl⟩
    have HB : Hid (Below w.heap.size w w1) := hb
    have HO : Hid (∀ p ∈ ps.take k, nearP p = true) := hok
    clear hb hok
    by_cases hlt : k < ps.length
    · obtain ⟨b, off, rfl, _, c0, c1, c2⟩ := (HP.out.next HB.out).at hlt
      have HX : Hid (∀ p, nearP (ps[k]'hlt) = p → (p = false → ps.all nearP = false) ∧ (p = true → ∀ q ∈ ps.take (k + 1), nearP q = true)) := by
        show ∀ p, _
        rintro p rfl
        refine ⟨fun h => ?_, fun h => ?_⟩
        · rw [List.all_eq_false]; exact ⟨_, List.getElem_mem hlt, by simp [h]⟩
        · rw [List.take_succ_eq_append_getElem hlt]
          intro f hf
          rcases List.mem_append.1 hf with hf | hf
          · exact HO.out f hf
          · simp at hf; subst hf; exact h
      generalize ps[k]'hlt = p at *
      obtain ⟨px, py, pz⟩ := p
      simp only at c0 c1 c2
      have hx := ix0 px py pz
      have hy := ix1 px py pz
      have hz := ix2 px py pz
      go_wp2_with fail
      refine (pnumbers_any ⟨px, py, pz⟩ _).mono ?_
      rintro e w2 ⟨rfl, rfl⟩
      have HB2 : Hid (Below w.heap.size w (((w1.alloc (.cells #[.int .i64 px, .int .i64 py, .int .i64 pz] 24)).alloc (.cells #[.int .i64 px, .int .i64 py, .int .i64 pz] 24)).alloc (.cells #[.int .i64 px, .int .i64 py, .int .i64 pz] 67))) := by
        refine below_grow _ (Nat.le_refl _) (below_grow _ (Nat.le_refl _) (below_grow _ (Nat.le_refl _) HB.out _) _) _
      go_wp2_with fail
      by_cases lpx : px < -10000000
      · have Hn : Hid (nr px = false) := nr_no (.inl lpx)
        have tpx : decide (px < -10000000) = true := decide_eq_true lpx
        refine wp_loop_rounds 4 ?_
        rw [rounds_succ]
        go_wp2
        go_ret
        exact ⟨ret_bool ((HX.out _ rfl).1 (nearP_no (.inl Hn.out))).symm, HB2.out⟩
      by_cases gpx : 10000000 < px
      · have Hn : Hid (nr px = false) := nr_no (.inr gpx)
        have tpx : decide (px < -10000000) = false := decide_eq_false lpx
        have spx : decide (10000000 < px) = true := decide_eq_true gpx
        refine wp_loop_rounds 4 ?_
        rw [rounds_succ]
        go_wp2
        go_ret
        exact ⟨ret_bool ((HX.out _ rfl).1 (nearP_no (.inl Hn.out))).symm, HB2.out⟩
      have Hpx : Hid (nr px = true) := nr_yes (by omega) (by omega)
      have tpx : decide (px < -10000000) = false := decide_eq_false lpx
      have spx : decide (10000000 < px) = false := decide_eq_false gpx
      by_cases lpy : py < -10000000
      · have Hn : Hid (nr py = false) := nr_no (.inl lpy)
        have tpy : decide (py < -10000000) = true := decide_eq_true lpy
        refine wp_loop_rounds 4 ?_
        rw [rounds_succ]
        go_wp2
        rw [rounds_succ]
        go_wp2
        go_ret
        exact ⟨ret_bool ((HX.out _ rfl).1 (nearP_no (.inr (.inl Hn.out)))).symm, HB2.out⟩
      by_cases gpy : 10000000 < py
      · have Hn : Hid (nr py = false) := nr_no (.inr gpy)
        have tpy : decide (py < -10000000) = false := decide_eq_false lpy
        have spy : decide (10000000 < py) = true := decide_eq_true gpy
        refine wp_loop_rounds 4 ?_
        rw [rounds_succ]
        go_wp2
        rw [rounds_succ]
        go_wp2
        go_ret
        exact ⟨ret_bool ((HX.out _ rfl).1 (nearP_no (.inr (.inl Hn.out)))).symm, HB2.out⟩
      have Hpy : Hid (nr py = true) := nr_yes (by omega) (by omega)
      have tpy : decide (py < -10000000) = false := decide_eq_false lpy
      have spy : decide (10000000 < py) = false := decide_eq_false gpy
      by_cases lpz : pz < -10000000
      · have Hn : Hid (nr pz = false) := nr_no (.inl lpz)
        have tpz : decide (pz < -10000000) = true := decide_eq_true lpz
        refine wp_loop_rounds 4 ?_
        rw [rounds_succ]
        go_wp2
        rw [rounds_succ]
        go_wp2
        rw [rounds_succ]
        go_wp2
        go_ret
        exact ⟨ret_bool ((HX.out _ rfl).1 (nearP_no (.inr (.inr Hn.out)))).symm, HB2.out⟩
      by_cases gpz : 10000000 < pz
      · have Hn : Hid (nr pz = false) := nr_no (.inr gpz)
        have tpz : decide (pz < -10000000) = false := decide_eq_false lpz
        have spz : decide (10000000 < pz) = true := decide_eq_true gpz
        refine wp_loop_rounds 4 ?_
        rw [rounds_succ]
        go_wp2
        rw [rounds_succ]
        go_wp2
        rw [rounds_succ]
        go_wp2
        go_ret
        exact ⟨ret_bool ((HX.out _ rfl).1 (nearP_no (.inr (.inr Hn.out)))).symm, HB2.out⟩
      have Hpz : Hid (nr pz = true) := nr_yes (by omega) (by omega)
      have tpz : decide (pz < -10000000) = false := decide_eq_false lpz
      have spz : decide (10000000 < pz) = false := decide_eq_false gpz
      refine wp_loop_rounds 4 ?_
      rw [rounds_succ]
      go_wp2
      rw [rounds_succ]
      go_wp2
      rw [rounds_succ]
      go_wp2
      rw [rounds_succ]
      go_wp2
      go_roundw
      case rel => exact ⟨k + 1, by omega, by go_num, (HX.out _ rfl).2 (by simp [nearP, Hpx.out, Hpy.out, Hpz.out]), HB2.out⟩
      case measure => simp [intOf]; omega
    · go_wp2
      go_ret
      exact ⟨ret_bool (by symm; rw [List.all_eq_true]; intro p hp; exact HO.out p (by rw [List.take_of_length_le (by omega)]; exact hp)), HB.out⟩

/-- Is a box one around its own point? -/
def toolB (b : Bx) : Bool := atMost b.lo ⟨0, 0, 0⟩ && atMost ⟨0, 0, 0⟩ b.hi
theorem toolB_iff {b : Bx} : toolB b = true ↔ (b.lx ≤ 0 ∧ b.ly ≤ 0 ∧ b.lz ≤ 0) ∧ 0 ≤ b.hx ∧ 0 ≤ b.hy ∧ 0 ≤ b.hz := by simp [toolB, atMost_iff]
theorem toolB_yes {b : Bx} (h : (b.lx ≤ 0 ∧ b.ly ≤ 0 ∧ b.lz ≤ 0) ∧ 0 ≤ b.hx ∧ 0 ≤ b.hy ∧ 0 ≤ b.hz) : true = toolB b := (toolB_iff.2 h).symm
theorem toolB_no {b : Bx} (h : ¬((b.lx ≤ 0 ∧ b.ly ≤ 0 ∧ b.lz ≤ 0) ∧ 0 ≤ b.hx ∧ 0 ≤ b.hy ∧ 0 ≤ b.hz)) : false = toolB b := by
  cases e : toolB b with
  | false => rfl
  | true => exact absurd (toolB_iff.1 e) h
set_option maxHeartbeats 3200000 in
theorem isTool_any (a : Bx) (w : World) :
    Calls Try.prog 48 #[bv a] w fun e w' => e = .returned (.bool (toolB a)) ∧ Below w.heap.size w w' := by
  obtain ⟨px, py, pz, qx, qy, qz⟩ := a
  have hx := ix0 px py pz
  have hy := ix1 px py pz
  have hz := ix2 px py pz
  go_enter Try.func48, Try.ntmps48
  go_wp2_with fail
  refine (pnumbers_any ⟨qx, qy, qz⟩ _).mono ?_
  rintro e w1 ⟨rfl, rfl⟩
  go_wp2_with fail
  refine (pnumbers_any ⟨px, py, pz⟩ _).mono ?_
  rintro e w1 ⟨rfl, rfl⟩
  go_wp2_with fail
  by_cases lpx : 0 < px
  · have tpx : decide (0 < px) = true := decide_eq_true lpx
    refine wp_loop_rounds 4 ?_
    rw [rounds_succ]
    go_wp2
    go_ret
    refine ⟨ret_bool (toolB_no (by simp only; omega)), ?_⟩
    repeat (first | exact Below.refl _ _ | refine below_grow _ (Nat.le_refl _) ?_ _)
  have tpx : decide (0 < px) = false := decide_eq_false lpx
  by_cases lqx : qx < 0
  · have tqx : decide (qx < 0) = true := decide_eq_true lqx
    refine wp_loop_rounds 4 ?_
    rw [rounds_succ]
    go_wp2
    go_ret
    refine ⟨ret_bool (toolB_no (by simp only; omega)), ?_⟩
    repeat (first | exact Below.refl _ _ | refine below_grow _ (Nat.le_refl _) ?_ _)
  have tqx : decide (qx < 0) = false := decide_eq_false lqx
  by_cases lpy : 0 < py
  · have tpy : decide (0 < py) = true := decide_eq_true lpy
    refine wp_loop_rounds 4 ?_
    rw [rounds_succ]
    go_wp2
    rw [rounds_succ]
    go_wp2
    go_ret
    refine ⟨ret_bool (toolB_no (by simp only; omega)), ?_⟩
    repeat (first | exact Below.refl _ _ | refine below_grow _ (Nat.le_refl _) ?_ _)
  have tpy : decide (0 < py) = false := decide_eq_false lpy
  by_cases lqy : qy < 0
  · have tqy : decide (qy < 0) = true := decide_eq_true lqy
    refine wp_loop_rounds 4 ?_
    rw [rounds_succ]
    go_wp2
    rw [rounds_succ]
    go_wp2
    go_ret
    refine ⟨ret_bool (toolB_no (by simp only; omega)), ?_⟩
    repeat (first | exact Below.refl _ _ | refine below_grow _ (Nat.le_refl _) ?_ _)
  have tqy : decide (qy < 0) = false := decide_eq_false lqy
  by_cases lpz : 0 < pz
  · have tpz : decide (0 < pz) = true := decide_eq_true lpz
    refine wp_loop_rounds 4 ?_
    rw [rounds_succ]
    go_wp2
    rw [rounds_succ]
    go_wp2
    rw [rounds_succ]
    go_wp2
    go_ret
    refine ⟨ret_bool (toolB_no (by simp only; omega)), ?_⟩
    repeat (first | exact Below.refl _ _ | refine below_grow _ (Nat.le_refl _) ?_ _)
  have tpz : decide (0 < pz) = false := decide_eq_false lpz
  by_cases lqz : qz < 0
  · have tqz : decide (qz < 0) = true := decide_eq_true lqz
    refine wp_loop_rounds 4 ?_
    rw [rounds_succ]
    go_wp2
    rw [rounds_succ]
    go_wp2
    rw [rounds_succ]
    go_wp2
    go_ret
    refine ⟨ret_bool (toolB_no (by simp only; omega)), ?_⟩
    repeat (first | exact Below.refl _ _ | refine below_grow _ (Nat.le_refl _) ?_ _)
  have tqz : decide (qz < 0) = false := decide_eq_false lqz
  refine wp_loop_rounds 4 ?_
  rw [rounds_succ]
  go_wp2
  rw [rounds_succ]
  go_wp2
  rw [rounds_succ]
  go_wp2
  rw [rounds_succ]
  go_wp2
  go_ret
  refine ⟨ret_bool (toolB_yes (by simp only; omega)), ?_⟩
  repeat (first | exact Below.refl _ _ | refine below_grow _ (Nat.le_refl _) ?_ _)
/-- How far it is from one point to another, number by number. -/
def chg (a b : Pt) : Pt := ⟨b.x - a.x, b.y - a.y, b.z - a.z⟩
theorem chg_at (a b : Pt) (k : Nat) : (chg a b).at k = b.at k - a.at k := by
  unfold chg Pt.at
  split <;> rfl
theorem SmP.at {p : Pt} (h : SmP p) (k : Nat) : -100000000000 ≤ p.at k ∧ p.at k ≤ 100000000000 := by
  obtain ⟨h1, h2, h3⟩ := h
  unfold Pt.at
  split <;> omega
def ch1V (p q : Pt) (n : Nat) (d : Nat) (v : Value) (w : World) : Prop :=
  match d with
  | 8 => v = pv p
  | 9 => v = pv p
  | 10 => v = pv q
  | 11 => v = pv q
  | 5 => ∃ b, v = ptr b ∧ n ≤ b ∧ Arr b (fun _ => 0) w
  | 6 => ∃ b, v = ptr b ∧ n ≤ b ∧ Arr b (fun _ => 0) w
  | _ => True
theorem ch1V_mono (p q : Pt) (n : Nat) (d : Nat) (v : Value) (w w' : World) (h : ch1V p q n d v w) (hb : Below w.heap.size w w') : ch1V p q n d v w' := by
  unfold ch1V at h ⊢
  split <;> simp only [] at h <;> first | exact h | (obtain ⟨b, h1, h2, h3⟩ := h; exact ⟨b, h1, h2, h3.later hb⟩)
def ch5V (p q r : Pt) (b7 b8 k : Nat) (d : Nat) (v : Value) (_w : World) : Prop :=
  match d with
  | 15 => v = .int .i64 (k : Int)
  | 16 => v = .pointer (some ⟨b7, k, none⟩)
  | 17 => v = .int .i64 (p.at k)
  | 18 => v = .int .i64 (k : Int)
  | 19 => v = .pointer (some ⟨b8, k, none⟩)
  | 20 => v = .int .i64 (q.at k)
  | 21 => v = .int .i64 (r.at k)
  | _ => True

set_option maxHeartbeats 6400000 in
set_option maxRecDepth 100000 in
theorem change_any (q p : Pt) (w : World) (hq : SmP q) (hp : SmP p) :
    Calls Try.prog 40 #[pv q, pv p] w fun e w' => e = .returned (pv (chg q p)) ∧ Below w.heap.size w w' := by
  have HG : Hid (∀ k, Value.int .i64 (IntKind.i64.wrap (p.at k - q.at k)) = .int .i64 ((chg q p).at k)) := fun k => by
    have h1 := hp.at k
    have h2 := hq.at k
    rw [chg_at, wrap_is (by omega) (by omega)]
  clear hp hq
  obtain ⟨r, hr⟩ : ∃ r, r = chg q p := ⟨_, rfl⟩
  rw [← hr] at HG ⊢
  clear hr
  obtain ⟨w0, hw0⟩ : ∃ w0, w0 = ((w.alloc (po q)).alloc (po p)).alloc (.cells #[.int .i64 0, .int .i64 0, .int .i64 0] 67) := ⟨_, rfl⟩
  have HW0 : Hid (w0 = ((w.alloc (po q)).alloc (po p)).alloc (.cells #[.int .i64 0, .int .i64 0, .int .i64 0] 67)) := hw0
  have HS0 : Hid (w0.heap.size = w.heap.size + 1 + 1 + 1) := by show w0.heap.size = _; rw [hw0]; simp
  clear hw0
  go_enter Try.func40, Try.ntmps40
  go_wp2_with fail
  rw [← HW0.out]
  have HR : Hid (Arr (w.heap.size + 1 + 1) (fun _ => 0) w0) := by
    show Arr _ _ _
    rw [HW0.out]
    refine ⟨by simp, fun j hj => ?_, fun j hj => ?_⟩
    all_goals
      rcases (show j = 0 ∨ j = 1 ∨ j = 2 by omega) with e | e | e
      all_goals (subst e; go_simp)
  have p0 : w0.cell? ⟨w.heap.size + 1, 0, none⟩ = some (.int .i64 p.x) := by rw [HW0.out]; go_simp
  have p1 : w0.cell? ⟨w.heap.size + 1, 1, none⟩ = some (.int .i64 p.y) := by rw [HW0.out]; go_simp
  have p2 : w0.cell? ⟨w.heap.size + 1, 2, none⟩ = some (.int .i64 p.z) := by rw [HW0.out]; go_simp
  have q0 : w0.cell? ⟨w.heap.size, 0, none⟩ = some (.int .i64 q.x) := by rw [HW0.out]; go_simp
  have q1 : w0.cell? ⟨w.heap.size, 1, none⟩ = some (.int .i64 q.y) := by rw [HW0.out]; go_simp
  have q2 : w0.cell? ⟨w.heap.size, 2, none⟩ = some (.int .i64 q.z) := by rw [HW0.out]; go_simp
  refine region_seqJ 6 [false, false, false, false, false, true, true, false, true, true, true, true, false, false, false, false, false, false, false, false, false, false, false, false, false]
    [(8, [], none), (9, [8], none), (10, [], none), (11, [10], none), (5, [], none), (6, [], none)]
    (ch1V p q w0.heap.size) (Apart 5 6) ?_ (by kernel_rfl) (by kernel_rfl) (by kernel_rfl) (by kernel_rfl) (by kernel_rfl) (by decide) (ch1V_mono p q w0.heap.size) ?_ ?_
  · intro w1 _
    refine ⟨fun b e => ?_, fun b e => ?_, fun b e _ => ?_⟩
    all_goals (simp [undef] at e)
  · refine ⟨?_, ?_, ?_, ?_, ?_, ?_, trivial⟩
    · intro f w1 hb hJ _ K hK
      have c0 := cell_later hb p0
      have c1 := cell_later hb p1
      have c2 := cell_later hb p2
      simp only [over, overL, Nat.reduceAdd]
      go_simp
      exact hK _ _ ⟨_, rfl, by simp only [over, overL, Nat.reduceAdd]; rfl, Below.refl _ _, hJ.other (by decide) (by decide) (Below.refl _ _)⟩
    · intro f w1 hb hJ ⟨h8, _⟩ K hK
      have h8 : f 8 = _ := h8
      simp only [over, overL, Nat.reduceAdd, h8]
      go_simp
      refine (pnumbers_any p w1).mono ?_
      rintro e w2 ⟨rfl, hw⟩
      have hbn : Below w1.heap.size w1 w2 := by rw [hw]; exact ((Below.refl _ _).alloc (Nat.le_refl _) _).alloc (by simp) _
      exact hK _ _ ⟨_, rfl, by simp only [over, overL, Nat.reduceAdd, h8]; rfl, hbn, hJ.other (by decide) (by decide) hbn⟩
    · intro f w1 hb hJ _ K hK
      have c0 := cell_later hb q0
      have c1 := cell_later hb q1
      have c2 := cell_later hb q2
      simp only [over, overL, Nat.reduceAdd]
      go_simp
      exact hK _ _ ⟨_, rfl, by simp only [over, overL, Nat.reduceAdd]; rfl, Below.refl _ _, hJ.other (by decide) (by decide) (Below.refl _ _)⟩
    · intro f w1 hb hJ ⟨h10, _⟩ K hK
      have h10 : f 10 = _ := h10
      simp only [over, overL, Nat.reduceAdd, h10]
      go_simp
      refine (pnumbers_any q w1).mono ?_
      rintro e w2 ⟨rfl, hw⟩
      have hbn : Below w1.heap.size w1 w2 := by rw [hw]; exact ((Below.refl _ _).alloc (Nat.le_refl _) _).alloc (by simp) _
      exact hK _ _ ⟨_, rfl, by simp only [over, overL, Nat.reduceAdd, h10]; rfl, hbn, hJ.other (by decide) (by decide) hbn⟩
    · intro f w1 hb hJ _ K hK
      simp only [over, overL, Nat.reduceAdd]
      go_simp
      exact hK _ _ ⟨_, ⟨_, rfl, hb.size, Arr.new w1⟩, by simp only [over, overL, Nat.reduceAdd]; rfl, (Below.refl _ _).alloc (Nat.le_refl _) _, hJ.left (by decide)⟩
    · intro f w1 hb hJ _ K hK
      simp only [over, overL, Nat.reduceAdd]
      go_simp
      exact hK _ _ ⟨_, ⟨_, rfl, hb.size, Arr.new w1⟩, by simp only [over, overL, Nat.reduceAdd]; rfl, (Below.refl _ _).alloc (Nat.le_refl _) _, hJ.right (by decide)⟩
  intro f w1 hb1 hJ h
  have h9 : f 9 = pv p := h.2.1
  have h11 : f 11 = pv q := h.2.2.2.1
  obtain ⟨b7, h7, n7, A7⟩ := (show ∃ b, f 5 = ptr b ∧ w0.heap.size ≤ b ∧ Arr b (fun _ => 0) w1 from h.2.2.2.2.1)
  obtain ⟨b8, h8, n8, A8⟩ := (show ∃ b, f 6 = ptr b ∧ w0.heap.size ≤ b ∧ Arr b (fun _ => 0) w1 from h.2.2.2.2.2.1)
  have hne : b7 ≠ b8 := fun e => hJ.2.2 b7 h7 (by rw [h8, e])
  simp only [over_eq, overL, h7, h8, h9, h11, Nat.reduceAdd, List.drop_succ_cons, List.drop_zero]
  have hA : Arr b7 p.at ((((((w1.setCell ⟨b7, 0, none⟩ (.int .i64 p.x)).setCell ⟨b7, 1, none⟩ (.int .i64 p.y)).setCell ⟨b7, 2, none⟩ (.int .i64 p.z)).setCell ⟨b8, 0, none⟩ (.int .i64 q.x)).setCell ⟨b8, 1, none⟩ (.int .i64 q.y)).setCell ⟨b8, 2, none⟩ (.int .i64 q.z)) := by
    have h1 := ((((((A7.set (k := 0) (by decide) p.x).set (k := 1) (by decide) p.y).set (k := 2) (by decide) p.z).other hne 0 (.int .i64 q.x)).other hne 1 (.int .i64 q.y)).other hne 2 (.int .i64 q.z))
    refine ⟨h1.lt, fun j hj => ?_, h1.free⟩
    rw [h1.cell j hj]
    rcases (show j = 0 ∨ j = 1 ∨ j = 2 by omega) with e | e | e
    all_goals (subst e; rfl)
  have hB : Arr b8 q.at ((((((w1.setCell ⟨b7, 0, none⟩ (.int .i64 p.x)).setCell ⟨b7, 1, none⟩ (.int .i64 p.y)).setCell ⟨b7, 2, none⟩ (.int .i64 p.z)).setCell ⟨b8, 0, none⟩ (.int .i64 q.x)).setCell ⟨b8, 1, none⟩ (.int .i64 q.y)).setCell ⟨b8, 2, none⟩ (.int .i64 q.z)) := by
    have h1 := ((((((A8.other (Ne.symm hne) 0 (.int .i64 p.x)).other (Ne.symm hne) 1 (.int .i64 p.y)).other (Ne.symm hne) 2 (.int .i64 p.z)).set (k := 0) (by decide) q.x).set (k := 1) (by decide) q.y).set (k := 2) (by decide) q.z)
    refine ⟨h1.lt, fun j hj => ?_, h1.free⟩
    rw [h1.cell j hj]
    rcases (show j = 0 ∨ j = 1 ∨ j = 2 by omega) with e | e | e
    all_goals (subst e; rfl)
  have hBel : Below w0.heap.size w0 ((((((w1.setCell ⟨b7, 0, none⟩ (.int .i64 p.x)).setCell ⟨b7, 1, none⟩ (.int .i64 p.y)).setCell ⟨b7, 2, none⟩ (.int .i64 p.z)).setCell ⟨b8, 0, none⟩ (.int .i64 q.x)).setCell ⟨b8, 1, none⟩ (.int .i64 q.y)).setCell ⟨b8, 2, none⟩ (.int .i64 q.z)) :=
    (((((hb1.setCell n7 _).setCell n7 _).setCell n7 _).setCell n8 _).setCell n8 _).setCell n8 _
  have a0 := A7.cell 0 (by decide)
  have a1 := A7.cell 1 (by decide)
  have a2 := A7.cell 2 (by decide)
  have d0 := A8.cell 0 (by decide)
  have d1 := A8.cell 1 (by decide)
  have d2 := A8.cell 2 (by decide)
  have e0 := A7.free 0 (by decide)
  have e1 := A7.free 1 (by decide)
  have e2 := A7.free 2 (by decide)
  have g0 := A8.free 0 (by decide)
  have g1 := A8.free 1 (by decide)
  have g2 := A8.free 2 (by decide)
  have HA := (show Hid _ from hA)
  have HB := (show Hid _ from hB)
  have HBel := (show Hid _ from hBel)
  have HN : Hid (w0.heap.size ≤ b7) := n7
  have HNE : Hid (b7 ≠ b8) := hne
  clear A7 A8 hA hB hBel hJ h h7 h8 h9 h11 hb1 n7 n8 p0 p1 p2 q0 q1 q2
  go_wp2_with fail
  clear a0 a1 a2 d0 d1 d2 e0 e1 e2 g0 g1 g2
  generalize ((((((w1.setCell ⟨b7, 0, none⟩ (.int .i64 p.x)).setCell ⟨b7, 1, none⟩ (.int .i64 p.y)).setCell ⟨b7, 2, none⟩ (.int .i64 p.z)).setCell ⟨b8, 0, none⟩ (.int .i64 q.x)).setCell ⟨b8, 1, none⟩ (.int .i64 q.y)).setCell ⟨b8, 2, none⟩ (.int .i64 q.z)) = w2 at *
  go_loopw [7, 12] (fun _ i wr => ∃ k : Nat, k ≤ 3 ∧ i = .int .i64 k ∧ Arr b7 (fun j => if j < k then r.at j else p.at j) wr ∧ Arr b8 q.at wr ∧ Below w0.heap.size w0 wr) (fun _ i _ => 3 - (intOf i).toNat)
  case atStart => exact ⟨0, Nat.zero_le _, rfl, by simpa using HA.out, HB.out, HBel.out⟩
  case round =>
    obtain ⟨k, hk, rfl, hA, hB, hBel⟩ := hrel
    have HA := (show Hid _ from hA)
    have HB := (show Hid _ from hB)
    have HBel := (show Hid _ from hBel)
    clear hA hB hBel
    by_cases hlt : k < 3
    · have ck : wr.cell? ⟨b7, k, none⟩ = some (.int .i64 (p.at k)) := by
        have := HA.out.cell k hlt
        simpa using this
      have dk := HB.out.cell k hlt
      have fk := HA.out.free k hlt
      have HV : Hid (Value.int .i64 (IntKind.i64.wrap (p.at k - q.at k)) = .int .i64 (r.at k)) := HG.out k
      go_wp2_with fail
      rw [show decide ((k : Int) < 3) = true by simp; omega]
      refine region_seq 7 [false, false, false, false, false, false, false, false, false, false, false, false, false, false, false, true, true, true, true, true, true, true, false, false, false]
        [(15, [], none), (16, [15], none), (17, [16], none), (18, [], none), (19, [18], none), (20, [19], none), (21, [17, 20], none)]
        (ch5V p q r b7 b8 k) (by kernel_rfl) (by kernel_rfl) (by kernel_rfl) (by kernel_rfl) (by kernel_rfl) (by decide) (fun _ _ _ _ h _ => h) ?_ ?_
      · refine ⟨?_, ?_, ?_, ?_, ?_, ?_, ?_, trivial⟩
        · intro f w3 hb _ K hK
          simp only [over, overL, Nat.reduceAdd]
          go_simp
          exact hK _ _ ⟨_, rfl, by simp only [over, overL, Nat.reduceAdd]; rfl, Below.refl _ _⟩
        · intro f w3 hb ⟨h15, _⟩ K hK
          have h15 : f 15 = _ := h15
          simp only [over, overL, Nat.reduceAdd, h15]
          go_simp
          exact hK _ _ ⟨_, rfl, by simp only [over, overL, Nat.reduceAdd, h15]; rfl, Below.refl _ _⟩
        · intro f w3 hb ⟨h16, _⟩ K hK
          have h16 : f 16 = _ := h16
          have c := cell_later hb ck
          simp only [over, overL, Nat.reduceAdd, h16]
          go_simp
          exact hK _ _ ⟨_, rfl, by simp only [over, overL, Nat.reduceAdd, h16]; rfl, Below.refl _ _⟩
        · intro f w3 hb _ K hK
          simp only [over, overL, Nat.reduceAdd]
          go_simp
          exact hK _ _ ⟨_, rfl, by simp only [over, overL, Nat.reduceAdd]; rfl, Below.refl _ _⟩
        · intro f w3 hb ⟨h18, _⟩ K hK
          have h18 : f 18 = _ := h18
          simp only [over, overL, Nat.reduceAdd, h18]
          go_simp
          exact hK _ _ ⟨_, rfl, by simp only [over, overL, Nat.reduceAdd, h18]; rfl, Below.refl _ _⟩
        · intro f w3 hb ⟨h19, _⟩ K hK
          have h19 : f 19 = _ := h19
          have c := cell_later hb dk
          simp only [over, overL, Nat.reduceAdd, h19]
          go_simp
          exact hK _ _ ⟨_, rfl, by simp only [over, overL, Nat.reduceAdd, h19]; rfl, Below.refl _ _⟩
        · intro f w3 hb ⟨h17, h20, _⟩ K hK
          have h17 : f 17 = _ := h17
          have h20 : f 20 = _ := h20
          simp only [over, overL, Nat.reduceAdd, h17, h20]
          go_simp
          exact hK _ _ ⟨_, HV.out, by simp only [over, overL, Nat.reduceAdd, h17, h20]; rfl, Below.refl _ _⟩
      intro f w3 hb3 h
      have h15 : f 15 = .int .i64 (k : Int) := h.1
      have h21 : f 21 = .int .i64 (r.at k) := h.2.2.2.2.2.2.1
      have hA3 := HA.out.later hb3
      have hB3 := HB.out.later hb3
      have hBel3 : Below w0.heap.size w0 w3 := HBel.out.trans (hb3.mono HBel.out.size)
      have c := cell_later hb3 ck
      have fr := hA3.free k hlt
      have hA4 : Arr b7 (fun j => if j < k + 1 then r.at j else p.at j) (w3.setCell ⟨b7, k, none⟩ (.int .i64 (r.at k))) := by
        have h1 := hA3.set hlt (r.at k)
        refine ⟨h1.lt, fun j hj => ?_, h1.free⟩
        rw [h1.cell j hj]
        by_cases e : j = k
        · subst e; rw [if_pos rfl, if_pos (by omega)]
        · rw [if_neg e]
          by_cases e2 : j < k
          · rw [if_pos e2, if_pos (by omega)]
          · rw [if_neg e2, if_neg (by omega)]
      have HR4 : Hid ((Arr b7 (fun j => if j < k + 1 then r.at j else p.at j) (w3.setCell ⟨b7, k, none⟩ (.int .i64 (r.at k)))) ∧ Arr b8 q.at (w3.setCell ⟨b7, k, none⟩ (.int .i64 (r.at k))) ∧ Below w0.heap.size w0 (w3.setCell ⟨b7, k, none⟩ (.int .i64 (r.at k)))) :=
        ⟨hA4, hB3.other (Ne.symm HNE.out) k _, hBel3.setCell HN.out _⟩
      clear hA3 hB3 hBel3 hA4 hb3 h ck dk fk HV
      simp only [over_eq, overL, h15, h21, Nat.reduceAdd, List.drop_succ_cons, List.drop_zero]
      go_wp2
      go_roundw
      case rel => exact ⟨k + 1, by omega, by go_num, HR4.out⟩
      case measure => simp [intOf]; omega
    · have hk3 : k = 3 := by omega
      subst hk3
      have c0 : wr.cell? ⟨b7, 0, none⟩ = some (.int .i64 r.x) := HA.out.cell 0 (by decide)
      have c1 : wr.cell? ⟨b7, 1, none⟩ = some (.int .i64 r.y) := HA.out.cell 1 (by decide)
      have c2 : wr.cell? ⟨b7, 2, none⟩ = some (.int .i64 r.z) := HA.out.cell 2 (by decide)
      have hR := HR.out.later HBel.out
      have r0 : wr.cell? ⟨w.heap.size + 1 + 1, 0, none⟩ = some (.int .i64 0) := hR.cell 0 (by decide)
      have r1 : wr.cell? ⟨w.heap.size + 1 + 1, 1, none⟩ = some (.int .i64 0) := hR.cell 1 (by decide)
      have r2 : wr.cell? ⟨w.heap.size + 1 + 1, 2, none⟩ = some (.int .i64 0) := hR.cell 2 (by decide)
      have f0 := hR.free 0 (by decide)
      have f1 := hR.free 1 (by decide)
      have f2 := hR.free 2 (by decide)
      have hB0 : Below w.heap.size w w0 := by
        rw [HW0.out]
        exact (((Below.refl _ _).alloc (Nat.le_refl _) _).alloc (by simp) _).alloc (by simp; omega) _
      have HBW : Hid (Below w.heap.size w wr) := hB0.trans (HBel.out.mono hB0.size)
      clear hR hB0
      go_wp2
      obtain ⟨x0, x1, x2⟩ := box3 r0 r1 r2 (.int .i64 r.x) (.int .i64 r.y) (.int .i64 r.z)
      refine bodyPost_ret (v := pv r) (by simp [results, Try.results40, go_sem, r0, r1, r2]) rfl ⟨rfl, ?_⟩
      exact ((HBW.out.setCell (by show w.heap.size ≤ w.heap.size + 1 + 1; omega) _).setCell (by show w.heap.size ≤ w.heap.size + 1 + 1; omega) _).setCell (by show w.heap.size ≤ w.heap.size + 1 + 1; omega) _

/-- How many numbers change from one point to another. -/
def turnsN (a b : Pt) : Int := one (b.x - a.x) + one (b.y - a.y) + one (b.z - a.z)
theorem near_d {p : Pt} (h : nearP p = true) : SmP p := nearP_sm h
set_option maxHeartbeats 3200000 in
theorem turns_any (a b : Pt) (w : World) (ha : SmP a) (hb : SmP b) :
    Calls Try.prog 62 #[pv a, pv b] w fun e w' => e = .returned (.int .i64 (turnsN a b)) ∧ Below w.heap.size w w' := by
  have HC : Hid (∀ W, Calls Try.prog 40 #[pv a, pv b] W fun e w' => e = .returned (pv (chg a b)) ∧ Below W.heap.size W w') := fun W => change_any a b W ha hb
  have HT : Hid (turnsN a b = one (chg a b).x + one (chg a b).y + one (chg a b).z) := rfl
  clear ha hb
  generalize chg a b = c at *
  obtain ⟨x, y, z⟩ := c
  have hx := ix0 x y z
  have hy := ix1 x y z
  have hz := ix2 x y z
  have HB0 : Hid (Below w.heap.size w ((w.alloc (po a)).alloc (po b))) := ((Below.refl _ _).alloc (Nat.le_refl _) _).alloc (by simp) _
  go_enter Try.func62, Try.ntmps62
  go_wp2_with fail
  refine Calls.mono (HC.out _) ?_
  rintro e w1 ⟨rfl, hb1⟩
  have HB1 : Hid (Below w.heap.size w w1) := HB0.out.trans (hb1.mono HB0.out.size)
  clear hb1
  go_wp2_with fail
  by_cases hx0 : x = 0
  · have nex : (x != 0) = false := by simp [hx0]
    have Hx : Hid (one x = 0) := by show _ = _; rw [hx0]; rfl
    clear hx0
    by_cases hy0 : y = 0
    · have ney : (y != 0) = false := by simp [hy0]
      have Hy : Hid (one y = 0) := by show _ = _; rw [hy0]; rfl
      clear hy0
      by_cases hz0 : z = 0
      · have nez : (z != 0) = false := by simp [hz0]
        have Hz : Hid (one z = 0) := by show _ = _; rw [hz0]; rfl
        clear hz0
        refine wp_loop_rounds 4 ?_
        rw [rounds_succ]
        go_wp2
        rw [rounds_succ]
        go_wp2
        rw [rounds_succ]
        go_wp2
        rw [rounds_succ]
        go_wp2
        go_ret
        exact ⟨ret_int (by rw [HT.out, Hx.out, Hy.out, Hz.out]; rfl), HB1.out⟩
      · have nez : (z != 0) = true := by simp [hz0]
        have Hz : Hid (one z = 1) := one_of hz0
        clear hz0
        refine wp_loop_rounds 4 ?_
        rw [rounds_succ]
        go_wp2
        rw [rounds_succ]
        go_wp2
        rw [rounds_succ]
        go_wp2
        rw [rounds_succ]
        go_wp2
        go_ret
        exact ⟨ret_int (by rw [HT.out, Hx.out, Hy.out, Hz.out]; rfl), HB1.out⟩
    · have ney : (y != 0) = true := by simp [hy0]
      have Hy : Hid (one y = 1) := one_of hy0
      clear hy0
      by_cases hz0 : z = 0
      · have nez : (z != 0) = false := by simp [hz0]
        have Hz : Hid (one z = 0) := by show _ = _; rw [hz0]; rfl
        clear hz0
        refine wp_loop_rounds 4 ?_
        rw [rounds_succ]
        go_wp2
        rw [rounds_succ]
        go_wp2
        rw [rounds_succ]
        go_wp2
        rw [rounds_succ]
        go_wp2
        go_ret
        exact ⟨ret_int (by rw [HT.out, Hx.out, Hy.out, Hz.out]; rfl), HB1.out⟩
      · have nez : (z != 0) = true := by simp [hz0]
        have Hz : Hid (one z = 1) := one_of hz0
        clear hz0
        refine wp_loop_rounds 4 ?_
        rw [rounds_succ]
        go_wp2
        rw [rounds_succ]
        go_wp2
        rw [rounds_succ]
        go_wp2
        rw [rounds_succ]
        go_wp2
        go_ret
        exact ⟨ret_int (by rw [HT.out, Hx.out, Hy.out, Hz.out]; rfl), HB1.out⟩
  · have nex : (x != 0) = true := by simp [hx0]
    have Hx : Hid (one x = 1) := one_of hx0
    clear hx0
    by_cases hy0 : y = 0
    · have ney : (y != 0) = false := by simp [hy0]
      have Hy : Hid (one y = 0) := by show _ = _; rw [hy0]; rfl
      clear hy0
      by_cases hz0 : z = 0
      · have nez : (z != 0) = false := by simp [hz0]
        have Hz : Hid (one z = 0) := by show _ = _; rw [hz0]; rfl
        clear hz0
        refine wp_loop_rounds 4 ?_
        rw [rounds_succ]
        go_wp2
        rw [rounds_succ]
        go_wp2
        rw [rounds_succ]
        go_wp2
        rw [rounds_succ]
        go_wp2
        go_ret
        exact ⟨ret_int (by rw [HT.out, Hx.out, Hy.out, Hz.out]; rfl), HB1.out⟩
      · have nez : (z != 0) = true := by simp [hz0]
        have Hz : Hid (one z = 1) := one_of hz0
        clear hz0
        refine wp_loop_rounds 4 ?_
        rw [rounds_succ]
        go_wp2
        rw [rounds_succ]
        go_wp2
        rw [rounds_succ]
        go_wp2
        rw [rounds_succ]
        go_wp2
        go_ret
        exact ⟨ret_int (by rw [HT.out, Hx.out, Hy.out, Hz.out]; rfl), HB1.out⟩
    · have ney : (y != 0) = true := by simp [hy0]
      have Hy : Hid (one y = 1) := one_of hy0
      clear hy0
      by_cases hz0 : z = 0
      · have nez : (z != 0) = false := by simp [hz0]
        have Hz : Hid (one z = 0) := by show _ = _; rw [hz0]; rfl
        clear hz0
        refine wp_loop_rounds 4 ?_
        rw [rounds_succ]
        go_wp2
        rw [rounds_succ]
        go_wp2
        rw [rounds_succ]
        go_wp2
        rw [rounds_succ]
        go_wp2
        go_ret
        exact ⟨ret_int (by rw [HT.out, Hx.out, Hy.out, Hz.out]; rfl), HB1.out⟩
      · have nez : (z != 0) = true := by simp [hz0]
        have Hz : Hid (one z = 1) := one_of hz0
        clear hz0
        refine wp_loop_rounds 4 ?_
        rw [rounds_succ]
        go_wp2
        rw [rounds_succ]
        go_wp2
        rw [rounds_succ]
        go_wp2
        rw [rounds_succ]
        go_wp2
        go_ret
        exact ⟨ret_int (by rw [HT.out, Hx.out, Hy.out, Hz.out]; rfl), HB1.out⟩
end Go.Proofs.Ytgelbndbkmedlaa.S

/- space.Move walked. -/
namespace Go.Proofs.Ytgelbndbkmedlaa.S
open Go.RowKit
set_option maxHeartbeats 3200000 in
set_option maxRecDepth 100000 in
theorem move_bad (a : Bx) (p : Pt) (w : World) (hr : bad1 a ≠ 0) :
    Calls Try.prog 54 #[bv a, pv p] w fun e w' => e = .returned (.tuple #[bv (zB), .int .i64 (bad1 a)]) ∧ Below w.heap.size w w' := by
  have hne : (bad1 a != 0) = true := by simp [hr]
  clear hr
  have HB0 : Hid (Below w.heap.size w w) := Below.refl _ _
  go_enter Try.func54, Try.ntmps54
  go_wp2_with fail
  refine (refusal1r a _ rfl (((w.alloc (bo (a))).alloc (po (p))).alloc (bo (zB))) (w.heap.size + 1 + 1 + 1) (by simp)).mono ?_
  rintro e w1 ⟨rfl, hb1⟩
  have hal : Below w.heap.size w ((((w.alloc (bo (a))).alloc (po (p))).alloc (bo (zB))).alloc (bo (a))) := (below_grow _ (Nat.le_refl _) (below_grow _ (Nat.le_refl _) (below_grow _ (Nat.le_refl _) (below_grow _ (Nat.le_refl _) (Below.refl _ _) _) _) _) _)
  have hn : Below w.heap.size w w1 := hal.trans (hb1.mono hal.size)
  have HB1 : Hid (Below w.heap.size w w1) := HB0.out.trans (hn.mono HB0.out.size)
  have Ka1 : Hid (Bf (w.heap.size) (a) w1) := by
    have h := ((Bf.new w (a)).later (below_grow _ (Nat.le_refl _) (below_grow _ (Nat.le_refl _) (below_grow _ (Nat.le_refl _) (Below.refl _ _) _) _) _)).later hb1
    show Bf _ _ _
    simpa using h
  have Kp1 : Hid (Pf (w.heap.size + 1) (p) w1) := by
    have h := ((Pf.new (w.alloc (bo (a))) (p)).later (below_grow _ (Nat.le_refl _) (below_grow _ (Nat.le_refl _) (Below.refl _ _) _) _)).later hb1
    show Pf _ _ _
    simpa using h
  have Kr1 : Hid (Bf (w.heap.size + 1 + 1) (zB) w1) := by
    have h := ((Bf.new ((w.alloc (bo (a))).alloc (po (p))) (zB)).later (below_grow _ (Nat.le_refl _) (Below.refl _ _) _)).later hb1
    show Bf _ _ _
    simpa using h
  clear hal hn hb1
  obtain ⟨⟨rl, r0, r1, r2, r3, r4, r5⟩, rf0, rf1, rf2, rf3, rf4, rf5⟩ := Kr1.out
  simp only [Nat.zero_add] at r1 r2 r3 r4 r5
  go_wp2
  refine bodyPost_ret (v := .tuple #[bv (zB), .int .i64 (bad1 a)]) (by simp [results, Try.results54, go_sem, r0, r1, r2, r3, r4, r5]) rfl ⟨rfl, ?_⟩
  exact below_put6 (a := zB) HB1.out (by omega)
set_option maxHeartbeats 3200000 in
set_option maxRecDepth 100000 in
theorem move_far (a : Bx) (p : Pt) (w : World) (hr : bad1 a = 0) (hp : nearP p = false) :
    Calls Try.prog 54 #[bv a, pv p] w fun e w' => e = .returned (.tuple #[bv (zB), .int .i64 (2)]) ∧ Below w.heap.size w w' := by
  have HR : Hid (bad1 a = 0) := hr
  have HP : Hid (nearP p = false) := hp
  clear hr hp
  have HB0 : Hid (Below w.heap.size w w) := Below.refl _ _
  go_enter Try.func54, Try.ntmps54
  go_wp2_with fail
  refine (refusal1r a _ HR.out (((w.alloc (bo (a))).alloc (po (p))).alloc (bo (zB))) (w.heap.size + 1 + 1 + 1) (by simp)).mono ?_
  rintro e w1 ⟨rfl, hb1⟩
  have hal : Below w.heap.size w ((((w.alloc (bo (a))).alloc (po (p))).alloc (bo (zB))).alloc (bo (a))) := (below_grow _ (Nat.le_refl _) (below_grow _ (Nat.le_refl _) (below_grow _ (Nat.le_refl _) (below_grow _ (Nat.le_refl _) (Below.refl _ _) _) _) _) _)
  have hn : Below w.heap.size w w1 := hal.trans (hb1.mono hal.size)
  have HB1 : Hid (Below w.heap.size w w1) := HB0.out.trans (hn.mono HB0.out.size)
  have Ka1 : Hid (Bf (w.heap.size) (a) w1) := by
    have h := ((Bf.new w (a)).later (below_grow _ (Nat.le_refl _) (below_grow _ (Nat.le_refl _) (below_grow _ (Nat.le_refl _) (Below.refl _ _) _) _) _)).later hb1
    show Bf _ _ _
    simpa using h
  have Kp1 : Hid (Pf (w.heap.size + 1) (p) w1) := by
    have h := ((Pf.new (w.alloc (bo (a))) (p)).later (below_grow _ (Nat.le_refl _) (below_grow _ (Nat.le_refl _) (Below.refl _ _) _) _)).later hb1
    show Pf _ _ _
    simpa using h
  have Kr1 : Hid (Bf (w.heap.size + 1 + 1) (zB) w1) := by
    have h := ((Bf.new ((w.alloc (bo (a))).alloc (po (p))) (zB)).later (below_grow _ (Nat.le_refl _) (Below.refl _ _) _)).later hb1
    show Bf _ _ _
    simpa using h
  clear hal hn hb1
  obtain ⟨pl, p0, p1, p2⟩ := Kp1.out
  go_wp2_with fail
  refine (near1r p false HP.out w1 w1.heap.size rfl).mono ?_
  rintro e w2 ⟨rfl, hb2⟩
  clear pl p0 p1 p2
  have hal : Below w1.heap.size w1 (w1.alloc (po (p))) := (below_grow _ (Nat.le_refl _) (Below.refl _ _) _)
  have hn : Below w1.heap.size w1 w2 := hal.trans (hb2.mono hal.size)
  have HB2 : Hid (Below w.heap.size w w2) := HB1.out.trans (hn.mono HB1.out.size)
  have Ka2 : Hid (Bf (w.heap.size) (a) w2) := Ka1.out.later hn
  have Kp2 : Hid (Pf (w.heap.size + 1) (p) w2) := Kp1.out.later hn
  have Kr2 : Hid (Bf (w.heap.size + 1 + 1) (zB) w2) := Kr1.out.later hn
  clear hal hn hb2
  obtain ⟨⟨rl, r0, r1, r2, r3, r4, r5⟩, rf0, rf1, rf2, rf3, rf4, rf5⟩ := Kr2.out
  simp only [Nat.zero_add] at r1 r2 r3 r4 r5
  go_wp2
  refine bodyPost_ret (v := .tuple #[bv (zB), .int .i64 (2)]) (by simp [results, Try.results54, go_sem, r0, r1, r2, r3, r4, r5]) rfl ⟨rfl, ?_⟩
  exact below_put6 (a := zB) HB2.out (by omega)
set_option maxHeartbeats 3200000 in
set_option maxRecDepth 100000 in
theorem move_out (a : Bx) (p : Pt) (w : World) (hr : bad1 a = 0) (hp : nearP p = true) (hm : nearB (movB a p) = false) :
    Calls Try.prog 54 #[bv a, pv p] w fun e w' => e = .returned (.tuple #[bv (zB), .int .i64 (2)]) ∧ Below w.heap.size w w' := by
  have HR : Hid (bad1 a = 0) := hr
  have HP : Hid (nearP p = true) := hp
  have HM : Hid (nearB (movB a p) = false) := hm
  clear hr hp hm
  have HB0 : Hid (Below w.heap.size w w) := Below.refl _ _
  go_enter Try.func54, Try.ntmps54
  go_wp2_with fail
  refine (refusal1r a _ HR.out (((w.alloc (bo (a))).alloc (po (p))).alloc (bo (zB))) (w.heap.size + 1 + 1 + 1) (by simp)).mono ?_
  rintro e w1 ⟨rfl, hb1⟩
  have hal : Below w.heap.size w ((((w.alloc (bo (a))).alloc (po (p))).alloc (bo (zB))).alloc (bo (a))) := (below_grow _ (Nat.le_refl _) (below_grow _ (Nat.le_refl _) (below_grow _ (Nat.le_refl _) (below_grow _ (Nat.le_refl _) (Below.refl _ _) _) _) _) _)
  have hn : Below w.heap.size w w1 := hal.trans (hb1.mono hal.size)
  have HB1 : Hid (Below w.heap.size w w1) := HB0.out.trans (hn.mono HB0.out.size)
  have Ka1 : Hid (Bf (w.heap.size) (a) w1) := by
    have h := ((Bf.new w (a)).later (below_grow _ (Nat.le_refl _) (below_grow _ (Nat.le_refl _) (below_grow _ (Nat.le_refl _) (Below.refl _ _) _) _) _)).later hb1
    show Bf _ _ _
    simpa using h
  have Kp1 : Hid (Pf (w.heap.size + 1) (p) w1) := by
    have h := ((Pf.new (w.alloc (bo (a))) (p)).later (below_grow _ (Nat.le_refl _) (below_grow _ (Nat.le_refl _) (Below.refl _ _) _) _)).later hb1
    show Pf _ _ _
    simpa using h
  have Kr1 : Hid (Bf (w.heap.size + 1 + 1) (zB) w1) := by
    have h := ((Bf.new ((w.alloc (bo (a))).alloc (po (p))) (zB)).later (below_grow _ (Nat.le_refl _) (Below.refl _ _) _)).later hb1
    show Bf _ _ _
    simpa using h
  clear hal hn hb1
  obtain ⟨pl, p0, p1, p2⟩ := Kp1.out
  go_wp2_with fail
  refine (near1r p true HP.out w1 w1.heap.size rfl).mono ?_
  rintro e w2 ⟨rfl, hb2⟩
  clear pl p0 p1 p2
  have hal : Below w1.heap.size w1 (w1.alloc (po (p))) := (below_grow _ (Nat.le_refl _) (Below.refl _ _) _)
  have hn : Below w1.heap.size w1 w2 := hal.trans (hb2.mono hal.size)
  have HB2 : Hid (Below w.heap.size w w2) := HB1.out.trans (hn.mono HB1.out.size)
  have Ka2 : Hid (Bf (w.heap.size) (a) w2) := Ka1.out.later hn
  have Kp2 : Hid (Pf (w.heap.size + 1) (p) w2) := Kp1.out.later hn
  have Kr2 : Hid (Bf (w.heap.size + 1 + 1) (zB) w2) := Kr1.out.later hn
  clear hal hn hb2
  obtain ⟨⟨al, a0, a1, a2, a3, a4, a5⟩, af0, af1, af2, af3, af4, af5⟩ := Ka2.out
  simp only [Nat.zero_add] at a1 a2 a3 a4 a5
  obtain ⟨pl, p0, p1, p2⟩ := Kp2.out
  go_wp2_with fail
  refine (moved_any a p w2 (near_sm HR.out) (nearP_sm HP.out)).mono ?_
  rintro e w3 ⟨rfl, hb3⟩
  clear al a0 a1 a2 a3 a4 a5 af0 af1 af2 af3 af4 af5 pl p0 p1 p2
  have hal : Below w2.heap.size w2 w2 := (Below.refl _ _)
  have hn : Below w2.heap.size w2 w3 := hal.trans (hb3.mono hal.size)
  have HB3 : Hid (Below w.heap.size w w3) := HB2.out.trans (hn.mono HB2.out.size)
  have Ka3 : Hid (Bf (w.heap.size) (a) w3) := Ka2.out.later hn
  have Kp3 : Hid (Pf (w.heap.size + 1) (p) w3) := Kp2.out.later hn
  have Kr3 : Hid (Bf (w.heap.size + 1 + 1) (zB) w3) := Kr2.out.later hn
  clear hal hn hb3
  obtain ⟨c, hc⟩ : ∃ c, c = movB a p := ⟨_, rfl⟩
  have HC : Hid (c = movB a p) := hc
  rw [← hc]
  clear hc
  go_wp2_with fail
  refine (near2r c false (by rw [HC.out]; exact HM.out) (w3.alloc (bo (c))) (w3.heap.size + 1) (by simp)).mono ?_
  rintro e w4 ⟨rfl, hb4⟩
  have hal : Below w3.heap.size w3 ((w3.alloc (bo (c))).alloc (bp c)) := (below_grow _ (Nat.le_refl _) (below_grow _ (Nat.le_refl _) (Below.refl _ _) _) _)
  have hn : Below w3.heap.size w3 w4 := hal.trans (hb4.mono hal.size)
  have HB4 : Hid (Below w.heap.size w w4) := HB3.out.trans (hn.mono HB3.out.size)
  have Ka4 : Hid (Bf (w.heap.size) (a) w4) := Ka3.out.later hn
  have Kp4 : Hid (Pf (w.heap.size + 1) (p) w4) := Kp3.out.later hn
  have Kr4 : Hid (Bf (w.heap.size + 1 + 1) (zB) w4) := Kr3.out.later hn
  have Kc4 : Hid (Bf (w3.heap.size) (c) w4) := by
    have h := ((Bf.new w3 (c)).later (below_grow _ (Nat.le_refl _) (Below.refl _ _) _)).later hb4
    show Bf _ _ _
    simpa using h
  clear hal hn hb4
  obtain ⟨⟨rl, r0, r1, r2, r3, r4, r5⟩, rf0, rf1, rf2, rf3, rf4, rf5⟩ := Kr4.out
  simp only [Nat.zero_add] at r1 r2 r3 r4 r5
  go_wp2
  refine bodyPost_ret (v := .tuple #[bv (zB), .int .i64 (2)]) (by simp [results, Try.results54, go_sem, r0, r1, r2, r3, r4, r5]) rfl ⟨rfl, ?_⟩
  exact below_put6 (a := zB) HB4.out (by omega)
set_option maxHeartbeats 3200000 in
set_option maxRecDepth 100000 in
theorem move_ok (a : Bx) (p : Pt) (w : World) (hr : bad1 a = 0) (hp : nearP p = true) (hm : nearB (movB a p) = true) :
    Calls Try.prog 54 #[bv a, pv p] w fun e w' => e = .returned (.tuple #[bv (movB a p), .int .i64 (0)]) ∧ Below w.heap.size w w' := by
  have HR : Hid (bad1 a = 0) := hr
  have HP : Hid (nearP p = true) := hp
  have HM : Hid (nearB (movB a p) = true) := hm
  clear hr hp hm
  have HB0 : Hid (Below w.heap.size w w) := Below.refl _ _
  go_enter Try.func54, Try.ntmps54
  go_wp2_with fail
  refine (refusal1r a _ HR.out (((w.alloc (bo (a))).alloc (po (p))).alloc (bo (zB))) (w.heap.size + 1 + 1 + 1) (by simp)).mono ?_
  rintro e w1 ⟨rfl, hb1⟩
  have hal : Below w.heap.size w ((((w.alloc (bo (a))).alloc (po (p))).alloc (bo (zB))).alloc (bo (a))) := (below_grow _ (Nat.le_refl _) (below_grow _ (Nat.le_refl _) (below_grow _ (Nat.le_refl _) (below_grow _ (Nat.le_refl _) (Below.refl _ _) _) _) _) _)
  have hn : Below w.heap.size w w1 := hal.trans (hb1.mono hal.size)
  have HB1 : Hid (Below w.heap.size w w1) := HB0.out.trans (hn.mono HB0.out.size)
  have Ka1 : Hid (Bf (w.heap.size) (a) w1) := by
    have h := ((Bf.new w (a)).later (below_grow _ (Nat.le_refl _) (below_grow _ (Nat.le_refl _) (below_grow _ (Nat.le_refl _) (Below.refl _ _) _) _) _)).later hb1
    show Bf _ _ _
    simpa using h
  have Kp1 : Hid (Pf (w.heap.size + 1) (p) w1) := by
    have h := ((Pf.new (w.alloc (bo (a))) (p)).later (below_grow _ (Nat.le_refl _) (below_grow _ (Nat.le_refl _) (Below.refl _ _) _) _)).later hb1
    show Pf _ _ _
    simpa using h
  have Kr1 : Hid (Bf (w.heap.size + 1 + 1) (zB) w1) := by
    have h := ((Bf.new ((w.alloc (bo (a))).alloc (po (p))) (zB)).later (below_grow _ (Nat.le_refl _) (Below.refl _ _) _)).later hb1
    show Bf _ _ _
    simpa using h
  clear hal hn hb1
  obtain ⟨pl, p0, p1, p2⟩ := Kp1.out
  go_wp2_with fail
  refine (near1r p true HP.out w1 w1.heap.size rfl).mono ?_
  rintro e w2 ⟨rfl, hb2⟩
  clear pl p0 p1 p2
  have hal : Below w1.heap.size w1 (w1.alloc (po (p))) := (below_grow _ (Nat.le_refl _) (Below.refl _ _) _)
  have hn : Below w1.heap.size w1 w2 := hal.trans (hb2.mono hal.size)
  have HB2 : Hid (Below w.heap.size w w2) := HB1.out.trans (hn.mono HB1.out.size)
  have Ka2 : Hid (Bf (w.heap.size) (a) w2) := Ka1.out.later hn
  have Kp2 : Hid (Pf (w.heap.size + 1) (p) w2) := Kp1.out.later hn
  have Kr2 : Hid (Bf (w.heap.size + 1 + 1) (zB) w2) := Kr1.out.later hn
  clear hal hn hb2
  obtain ⟨⟨al, a0, a1, a2, a3, a4, a5⟩, af0, af1, af2, af3, af4, af5⟩ := Ka2.out
  simp only [Nat.zero_add] at a1 a2 a3 a4 a5
  obtain ⟨pl, p0, p1, p2⟩ := Kp2.out
  go_wp2_with fail
  refine (moved_any a p w2 (near_sm HR.out) (nearP_sm HP.out)).mono ?_
  rintro e w3 ⟨rfl, hb3⟩
  clear al a0 a1 a2 a3 a4 a5 af0 af1 af2 af3 af4 af5 pl p0 p1 p2
  have hal : Below w2.heap.size w2 w2 := (Below.refl _ _)
  have hn : Below w2.heap.size w2 w3 := hal.trans (hb3.mono hal.size)
  have HB3 : Hid (Below w.heap.size w w3) := HB2.out.trans (hn.mono HB2.out.size)
  have Ka3 : Hid (Bf (w.heap.size) (a) w3) := Ka2.out.later hn
  have Kp3 : Hid (Pf (w.heap.size + 1) (p) w3) := Kp2.out.later hn
  have Kr3 : Hid (Bf (w.heap.size + 1 + 1) (zB) w3) := Kr2.out.later hn
  clear hal hn hb3
  obtain ⟨c, hc⟩ : ∃ c, c = movB a p := ⟨_, rfl⟩
  have HC : Hid (c = movB a p) := hc
  rw [← hc]
  clear hc
  go_wp2_with fail
  refine (near2r c true (by rw [HC.out]; exact HM.out) (w3.alloc (bo (c))) (w3.heap.size + 1) (by simp)).mono ?_
  rintro e w4 ⟨rfl, hb4⟩
  have hal : Below w3.heap.size w3 ((w3.alloc (bo (c))).alloc (bp c)) := (below_grow _ (Nat.le_refl _) (below_grow _ (Nat.le_refl _) (Below.refl _ _) _) _)
  have hn : Below w3.heap.size w3 w4 := hal.trans (hb4.mono hal.size)
  have HB4 : Hid (Below w.heap.size w w4) := HB3.out.trans (hn.mono HB3.out.size)
  have Ka4 : Hid (Bf (w.heap.size) (a) w4) := Ka3.out.later hn
  have Kp4 : Hid (Pf (w.heap.size + 1) (p) w4) := Kp3.out.later hn
  have Kr4 : Hid (Bf (w.heap.size + 1 + 1) (zB) w4) := Kr3.out.later hn
  have Kc4 : Hid (Bf (w3.heap.size) (c) w4) := by
    have h := ((Bf.new w3 (c)).later (below_grow _ (Nat.le_refl _) (Below.refl _ _) _)).later hb4
    show Bf _ _ _
    simpa using h
  clear hal hn hb4
  obtain ⟨⟨rl, r0, r1, r2, r3, r4, r5⟩, rf0, rf1, rf2, rf3, rf4, rf5⟩ := Kr4.out
  simp only [Nat.zero_add] at r1 r2 r3 r4 r5
  obtain ⟨⟨cl, c0, c1, c2, c3, c4, c5⟩, cf0, cf1, cf2, cf3, cf4, cf5⟩ := Kc4.out
  simp only [Nat.zero_add] at c1 c2 c3 c4 c5
  go_wp2
  refine bodyPost_ret (v := .tuple #[bv (c), .int .i64 (0)]) (by simp [results, Try.results54, go_sem, r0, r1, r2, r3, r4, r5]) rfl ⟨by rw [HC.out], ?_⟩
  exact below_put6 (a := c) HB4.out (by omega)
theorem move_any (a : Bx) (p : Pt) (w : World) : Calls Try.prog 54 #[bv a, pv p] w fun e w' => e = .returned (.tuple #[bv (moveR a p).1, .int .i64 (moveR a p).2]) ∧ Below w.heap.size w w' := by
  unfold moveR
  by_cases hr : bad1 a = 0
  · rw [if_pos hr]
    cases hp : nearP p with
    | false => exact move_far a p w hr hp
    | true =>
      rw [if_pos rfl]
      cases hm : nearB (movB a p) with
      | false => exact move_out a p w hr hp hm
      | true => exact move_ok a p w hr hp hm
  · rw [if_neg hr]
    exact move_bad a p w hr

end Go.Proofs.Ytgelbndbkmedlaa.S

/- space.Hull walked. -/
namespace Go.Proofs.Ytgelbndbkmedlaa.S
open Go.RowKit
set_option maxHeartbeats 3200000 in
set_option maxRecDepth 100000 in
theorem fhull_any (a b : Bx) (w : World) : Calls Try.prog 86 #[bv a, bv b] w fun e w' => e = .returned (.tuple #[bv (hullR a b).1, .int .i64 (hullR a b).2]) ∧ Below w.heap.size w w' := by
  obtain ⟨w0, hw0⟩ : ∃ w0, w0 = (((w.alloc (bo a)).alloc (bo b)).alloc (bo zB)) := ⟨_, rfl⟩
  have HW0 : Hid (w0 = (((w.alloc (bo a)).alloc (bo b)).alloc (bo zB))) := hw0
  have HB0 : Hid (Below w.heap.size w w0) := by
    show Below _ _ _
    rw [hw0]
    exact (((Below.refl _ _).alloc (Nat.le_refl _) _).alloc (by simp) _).alloc (by simp; omega) _
  have HA : Hid (Bf w.heap.size a w0) := by
    show Bf _ _ _
    rw [hw0]
    exact (Bf.new w a).later (((Below.refl _ _).alloc (Nat.le_refl _) _).alloc (by simp) _)
  have HC : Hid (Bf (w.heap.size + 1) b w0) := by
    show Bf _ _ _
    rw [hw0]
    have h := (Bf.new (w.alloc (bo a)) b).later ((Below.refl _ _).alloc (Nat.le_refl _) (bo zB))
    simpa using h
  have HZ : Hid (Bf (w.heap.size + 1 + 1) zB w0) := by
    show Bf _ _ _
    rw [hw0]
    have h := Bf.new ((w.alloc (bo a)).alloc (bo b)) zB
    simpa using h
  have HS : Hid (w0.heap.size = w.heap.size + 1 + 1 + 1) := by show _ = _; rw [hw0]; simp
  clear hw0
  have hal : Below w0.heap.size w0 (w0.alloc (bo2 a b)) := (Below.refl _ _).alloc (Nat.le_refl _) _
  by_cases hr : badL [a, b] = 0
  · have HR : Hid (badL [a, b] = 0) := hr
    have HQ : Hid (hullR a b = (hullB a b, 0)) := if_pos hr
    clear hr
    go_enter Try.func86, Try.ntmps86
    go_wp2_with fail
    rw [← HW0.out]
    refine (refusal2 a b w0 (w.heap.size + 1 + 1 + 1) HS.out.symm).mono ?_
    rintro e w1 ⟨rfl, hb1⟩
    rw [HR.out]
    have hb : Below w0.heap.size w0 w1 := hal.trans (hb1.mono hal.size)
    have HB1 : Hid (Below w.heap.size w w1) := HB0.out.trans (hb.mono HB0.out.size)
    have hA := HA.out.later hb
    have hC := HC.out.later hb
    have HZ1 : Hid (Bf (w.heap.size + 1 + 1) zB w1) := HZ.out.later hb
    clear hb1 hb
    obtain ⟨⟨_, p0, p1, p2, p3, p4, p5⟩, pf0, pf1, pf2, pf3, pf4, pf5⟩ := hA
    simp only [Nat.zero_add] at p1 p2 p3 p4 p5
    obtain ⟨⟨_, q0, q1, q2, q3, q4, q5⟩, qf0, qf1, qf2, qf3, qf4, qf5⟩ := hC
    simp only [Nat.zero_add] at q1 q2 q3 q4 q5
    go_wp2_with fail
    refine (hull_any a b w1).mono ?_
    rintro e w2 ⟨rfl, hb2⟩
    have HB2 : Hid (Below w.heap.size w w2) := HB1.out.trans (hb2.mono HB1.out.size)
    have hZ := HZ1.out.later hb2
    clear hb2
    obtain ⟨⟨_, r0, r1, r2, r3, r4, r5⟩, rf0, rf1, rf2, rf3, rf4, rf5⟩ := hZ
    simp only [Nat.zero_add] at r1 r2 r3 r4 r5
    go_wp2
    refine bodyPost_ret (v := .tuple #[bv (hullB a b), .int .i64 0]) (by simp [results, Try.results86, go_sem, r0, r1, r2, r3, r4, r5]) rfl ⟨by rw [HQ.out], ?_⟩
    exact below_put6 (a := (hullB a b)) HB2.out (by omega)
  · have hne : (badL [a, b] != 0) = true := by simp [hr]
    have HQ : Hid (hullR a b = (zB, badL [a, b])) := if_neg hr
    clear hr
    go_enter Try.func86, Try.ntmps86
    go_wp2_with fail
    rw [← HW0.out]
    refine (refusal2 a b w0 (w.heap.size + 1 + 1 + 1) HS.out.symm).mono ?_
    rintro e w1 ⟨rfl, hb1⟩
    have hb : Below w0.heap.size w0 w1 := hal.trans (hb1.mono hal.size)
    have HB1 : Hid (Below w.heap.size w w1) := HB0.out.trans (hb.mono HB0.out.size)
    have hZ := HZ.out.later hb
    clear hb1 hb
    obtain ⟨⟨_, r0, r1, r2, r3, r4, r5⟩, rf0, rf1, rf2, rf3, rf4, rf5⟩ := hZ
    simp only [Nat.zero_add] at r1 r2 r3 r4 r5
    go_wp2
    refine bodyPost_ret (v := .tuple #[bv zB, .int .i64 (badL [a, b])]) (by simp [results, Try.results86, go_sem, r0, r1, r2, r3, r4, r5]) rfl ⟨by rw [HQ.out], ?_⟩
    exact below_put6 (a := zB) HB1.out (by omega)

end Go.Proofs.Ytgelbndbkmedlaa.S

/- Boxes of the call itself. -/
namespace Go.Proofs.Ytgelbndbkmedlaa.S
open Go.RowKit
theorem Try.info26 : (Try.prog.info? 26).map (fun i => (i.zero, i.size, i.bytes)) = some (some (.agg #[.int .i64 0, .int .i64 0, .int .i64 0, .int .i64 0, .int .i64 0, .int .i64 0]), 6, 48) := by kernel_rfl
/-- Boxes as cells. -/
def cellsB1 (b : Bx) : List Value := [.int .i64 b.lx, .int .i64 b.ly, .int .i64 b.lz, .int .i64 b.hx, .int .i64 b.hy, .int .i64 b.hz]
def cellsB (l : List Bx) : List Value := l.flatMap cellsB1
theorem cellsB_length (l : List Bx) : (cellsB l).length = l.length * 6 := by
  induction l with
  | nil => rfl
  | cons p ps ih => simp only [cellsB, cellsB1, List.flatMap_cons, List.length_append, List.length_cons, List.length_nil] at ih ⊢; omega
theorem cellsB_append (a b : List Bx) : cellsB (a ++ b) = cellsB a ++ cellsB b := by simp [cellsB]
theorem cellsB_at {l : List Bx} {k i : Nat} (h : k < l.length) (hi : i < 6) : (cellsB l)[k * 6 + i]? = (cellsB1 (l[k]'h))[i]? := by
  have e : l = l.take k ++ l[k]'h :: l.drop (k + 1) := by rw [← List.drop_eq_getElem_cons h, List.take_append_drop]
  have e2 : cellsB l = cellsB (l.take k) ++ (cellsB1 (l[k]'h) ++ cellsB (l.drop (k + 1))) := by
    conv => lhs; rw [e]
    rw [cellsB_append]; rfl
  have hl : (cellsB (l.take k)).length = k * 6 := by rw [cellsB_length, List.length_take, Nat.min_eq_left (by omega)]
  rw [e2, List.getElem?_append_right (by omega), hl, List.getElem?_append_left (by simp [cellsB1]; omega)]
  congr 1
  omega
theorem cellsB_one {l : List Bx} : ∀ u ∈ cellsB l, u.oneCell' = true := by
  intro u hu
  obtain ⟨b, _, hb⟩ := List.mem_flatMap.1 hu
  simp only [cellsB1, List.mem_cons, List.mem_nil_iff, or_false] at hb
  rcases hb with rfl | rfl | rfl | rfl | rfl | rfl <;> rfl
theorem Bxs.cells {w : World} {ad : Addr} {l : List Bx} (h : Bxs w (some ad) l) : ∀ j u, (cellsB l)[j]? = some u → w.cell? (ad.add j) = some u := by
  intro j u hj
  have hlt : j < l.length * 6 := by
    have := (List.getElem?_eq_some_iff.1 hj).1
    rw [cellsB_length] at this
    exact this
  rcases h with rfl | ⟨b, off, e, hc⟩
  · simp at hlt
  · injection e with e
    subst e
    have hk : j / 6 < l.length := by omega
    have hat := cellsB_at (i := j % 6) hk (by omega)
    rw [show j / 6 * 6 + j % 6 = j by omega, hj] at hat
    obtain ⟨_, c0, c1, c2, c3, c4, c5⟩ := hc (j / 6) hk
    rw [Addr.add_lit]
    generalize l[j / 6]'hk = x at *
    rcases (show j % 6 = 0 ∨ j % 6 = 1 ∨ j % 6 = 2 ∨ j % 6 = 3 ∨ j % 6 = 4 ∨ j % 6 = 5 by omega) with e | e | e | e | e | e
    all_goals
      rw [e] at hat
      simp only [cellsB1, List.getElem?_cons_zero, List.getElem?_cons_succ] at hat
      injection hat with hat
      subst hat
    · rw [show off + j = off + j / 6 * 6 by omega]; exact c0
    · rw [show off + j = off + j / 6 * 6 + 1 by omega]; exact c1
    · rw [show off + j = off + j / 6 * 6 + 2 by omega]; exact c2
    · rw [show off + j = off + j / 6 * 6 + 3 by omega]; exact c3
    · rw [show off + j = off + j / 6 * 6 + 4 by omega]; exact c4
    · rw [show off + j = off + j / 6 * 6 + 5 by omega]; exact c5
/-- The call's own boxes. -/
def OwnB (w : World) (base : Nat) (v : Value) (l : List Bx) : Prop := w.ownsRow base 26 6 v l.length (cellsB l)
/-- A slice with just these boxes. -/
def IsCopy (l : List Bx) (v : Value) (w : World) : Prop := ∃ ao cap, v = .slice ao l.length cap ∧ Bxs w ao l ∧ l.length ≤ cap
theorem IsCopy.later {l : List Bx} {v : Value} {w w' : World} (h : IsCopy l v w) (hb : Below w.heap.size w w') : IsCopy l v w' := by
  obtain ⟨ao, cap, h1, h2, h3⟩ := h
  exact ⟨ao, cap, h1, h2.next hb, h3⟩
theorem OwnB.shape {w : World} {base : Nat} {v : Value} {l : List Bx} (h : OwnB w base v l) : IsCopy l v w := by
  have h' := h
  rcases h.2 with ⟨h1, h2⟩ | ⟨g, cap', cur, h1, h2, h3, h4⟩
  · exact ⟨none, 0, by rw [h1, h2], .inl (List.eq_nil_of_length_eq_zero h2), by omega⟩
  · subst h1
    refine ⟨_, _, rfl, .inr ⟨g, 0, rfl, fun k hk => ?_⟩, by omega⟩
    have lt : g < w.heap.size := (Array.getElem?_eq_some_iff.1 h3).1
    have e : ∀ i, i < 6 → w.cell? ⟨g, k * 6 + i, none⟩ = (cellsB1 (l[k]'hk))[i]? := fun i hi => (World.ownsRow.cellAt h' (k * 6 + i) (by omega)).trans (cellsB_at hk hi)
    simp only [Nat.zero_add]
    exact ⟨lt, e 0 (by decide), e 1 (by decide), e 2 (by decide), e 3 (by decide), e 4 (by decide), e 5 (by decide)⟩

end Go.Proofs.Ytgelbndbkmedlaa.S
