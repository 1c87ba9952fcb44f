/- A range over a function that gives numbers, whose body may leave. -/
import Derived.Test.YtjpjkkjklghpgaaLC
namespace Go.Proofs.Ytjpjkkjklghpgaa
open Go.RowKit

/-- What an iterator gives: the numbers xs, one behind the other, until the body leaves; it turns what It says, the body what M says. -/
def Gives (P : Program) (n g : Nat) (lb : Array Value) (xs : List Int) (It M : Nat → Prop) (l : Nat) (W : World) : Prop :=
  ∀ J Jx : Nat → World → Prop, (∀ s A B, J s A → Kpt It A B → J s B) → (∀ s A B, Jx s A → Kpt It A B → Jx s B) →
    (∀ k (h : k < xs.length) W1, J k W1 → W.heap.size ≤ W1.heap.size → YieldAt Fence.wide (n - 1) P l #[.int .i64 (xs[k]'h)] W1 fun e W' => (e = .returned (.bool true) ∧ J (k + 1) W' ∧ Kpt (fun k => M k ∨ k = l) W1 W') ∨ (e = .returned (.bool false) ∧ Jx (k + 1) W' ∧ Kpt (fun k => M k ∨ k = l) W1 W')) →
    J 0 W → CallsIn Fence.wide n P g (#[.func (.yield l) #[] #[]] ++ lb) W fun e W' => (∃ v, e = .returned v) ∧ (J xs.length W' ∨ ∃ k, k < xs.length ∧ Jx (k + 1) W')
theorem Gives.mono {P : Program} {n g : Nat} {lb : Array Value} {xs : List Int} {It It' M : Nat → Prop} {l : Nat} {W : World} (h : Gives P n g lb xs It M l W) (hi : ∀ k, It k → It' k) : Gives P n g lb xs It' M l W :=
  fun J Jx hJ hJx hY h0 => h J Jx (fun s A B a b => hJ s A B a (b.mono hi)) (fun s A B a b => hJx s A B a (b.mono hi)) hY h0
theorem room_wide0 (k : Nat) : Fence.wide.room k := fun d h => by cases h
theorem round_any {m m' : Nat} {P : Program} {l : Nat} {f : FuncId} {tmps : Array Value} {assign body : Code} {w : World} {R : Ending → World → Prop} (h : RoundIn Fence.wide m P l f tmps assign body w R) : RoundIn Fence.wide m' P l f tmps assign body w R :=
  ⟨h.1, fun c cs _ => h.2 c cs (room_wide0 _)⟩
theorem yield_any {m : Nat} (m' : Nat) {P : Program} {l : Nat} {args : Array Value} {W : World} {R : Ending → World → Prop} (h : YieldAt Fence.wide m P l args W R) : YieldAt Fence.wide m' P l args W R := by
  obtain ⟨fn, tmps, assign, body, hy, hR⟩ := h
  exact ⟨fn, tmps, assign, body, hy, round_any hR⟩
section
variable {P : Program} {n : Nat}
theorem range_it {g : Operand} {ps : Array Tmp} {assign body : Code} {Q : Exit → Act → World → Prop} {a : Act} {w : World}
    {gf : Nat} {lb : Array Value} (hg : a.eval g = .func (.func gf) #[] lb) (eg : ∀ args w, (callFunc gf args).run P w = .ok (.enter gf args) w)
    (xs : List Int) (It M : Nat → Prop) (hps : ps.size = 1)
    (hseq : ∀ W, Below w.heap.size w W → W.heap.size = w.heap.size + 2 → Gives P (n - 1) gf lb xs It M (w.heap.size + 1) W)
    (hIt : ∀ k, It k → w.heap.size + 2 ≤ k) (hM0 : ¬ M w.heap.size) (hM1 : ¬ M (w.heap.size + 1))
    (I Ix : Nat → World → Prop) (hI : ∀ s A B, I s A → Kpt (fun k => k = w.heap.size + 1 ∨ It k) A B → I s B) (hIx : ∀ s A B, Ix s A → Kpt (fun k => k = w.heap.size + 1 ∨ It k) A B → Ix s B) (h0 : I 0 w)
    (a1 : Int → Act) (cx : Code) (ex : Exit) (hcx : (cx = .ret ∧ ex = .ret) ∨ ∃ id, cx = .exit id ∧ ex = .exit id)
    (hassign : ∀ (l : Nat) (x : Int) (W : World) (K : Act → World → Prop), K (a1 x) W →
      assign.wpIn (Fence.wide.inRound l) (n - 1 - 1) P (Exit.then K (fun _ _ _ => False)) { tmps := (ps.zip #[.int .i64 x]).foldl (fun t (p, v) => t.setIfInBounds p v) a.tmps, defers := [] } W)
    (hbody : ∀ (l k : Nat) (h : k < xs.length) (W : World), I k W → w.heap.size + 2 ≤ W.heap.size →
      body.wpIn (Fence.wide.inRound l) (n - 1 - 1) P (fun e _ W' => (e = .normal ∧ Kpt M W W' ∧ I (k + 1) W') ∨ (e = ex ∧ Kpt M W W' ∧ Ix (k + 1) W')) (a1 (xs[k]'h)) W)
    (hdone : ∀ W, I xs.length W → w.heap.size + 2 ≤ W.heap.size → W.heap[w.heap.size]? = some (.deferred (some [])) → Q .normal { a with defers := { target := .collected w.heap.size, args := #[] } :: a.defers } W)
    (hstop : ∀ k W, k < xs.length → Ix (k + 1) W → w.heap.size + 2 ≤ W.heap.size → W.heap[w.heap.size]? = some (.deferred (some [])) → cx.wpIn Fence.wide n P Q { a with defers := { target := .collected w.heap.size, args := #[] } :: a.defers } W) :
    (Code.rangeFunc g ps assign body).wpIn Fence.wide n P Q a w := by
  refine wpIn_rangeFunc ?_
  intro fn hfn
  have hIb : ∀ {s A B}, I s A → Below A.heap.size A B → I s B := fun h hb => hI _ _ _ h (Kpt.of_below hb)
  have hIl : ∀ {s A} (o : Obj), I s A → I s (A.putObj (w.heap.size + 1) o) := fun o h => hI _ _ _ h (Kpt.putObj _ _ _ _ (.inl rfl))
  have hXl : ∀ {s A} (o : Obj), Ix s A → Ix s (A.putObj (w.heap.size + 1) o) := fun o h => hIx _ _ _ h (Kpt.putObj _ _ _ _ (.inl rfl))
  obtain ⟨rec, hrec⟩ : ∃ rec : LoopState → Option Code → Loop, rec = fun st pe => { state := st, pending := pe, fn, tmps := a.tmps, params := ps, assign, body, defers := w.heap.size } := ⟨_, rfl⟩
  obtain ⟨W1, hW1⟩ : ∃ W1, (w.alloc (.deferred (some []))).alloc (.loop (rec .ready none)) = W1 := ⟨_, rfl⟩
  have hsz : W1.heap.size = w.heap.size + 2 := by rw [← hW1]; simp
  have hL1 : W1.heap[w.heap.size + 1]? = some (.loop (rec .ready none)) := by
    rw [← hW1]; have := World.alloc_heap_new (w.alloc (.deferred (some []))) (.loop (rec .ready none)); rwa [World.size_alloc] at this
  have hK1 : W1.heap[w.heap.size]? = some (.deferred (some [])) := by
    rw [← hW1]; exact (Below.heap_alloc _ _ _ (by simp)).trans (World.alloc_heap_new w _)
  have hb1 : Below w.heap.size w W1 := by rw [← hW1]; exact ((Below.refl _ w).alloc (Nat.le_refl _) _).alloc (by simp) _
  have hItn : ∀ {j}, j < w.heap.size + 2 → ¬ It j := fun hj e => by have := hIt _ e; omega
  refine ⟨w.heap.size + 1, [{ target := .collected w.heap.size, args := #[] }], W1, { target := .fn (.func gf) lb, args := #[.func (.yield (w.heap.size + 1)) #[] #[]] }, W1, gf,
    #[.func (.yield (w.heap.size + 1)) #[] #[]] ++ lb, W1, ?_, ?_, fun _ _ => trivial, ?_, fun hc => (by cases hc), ?_⟩
  · rw [← hW1, hrec]; exact run_enterLoop_outer _ _ _ _ _
  · simp only [resolve, hg]
    simp [go_sem]
  · simp [invoke, go_sem, eg]
  · refine (hseq W1 hb1 hsz (fun k W => I k W ∧ W.heap[w.heap.size + 1]? = some (.loop (rec .ready none)) ∧ W.heap[w.heap.size]? = some (.deferred (some [])) ∧ w.heap.size + 2 ≤ W.heap.size)
      (fun k W => Ix k W ∧ W.heap[w.heap.size + 1]? = some (.loop (rec .done (some cx))) ∧ W.heap[w.heap.size]? = some (.deferred (some [])) ∧ w.heap.size + 2 ≤ W.heap.size) ?_ ?_ ?_ ⟨hIb h0 hb1, hL1, hK1, by omega⟩).mono ?_
    · rintro s A B ⟨h1, h2, h3, h4⟩ hAB
      exact ⟨hI _ _ _ h1 (hAB.mono fun _ e => .inr e), (hAB.block _ (by omega) (hItn (by omega))).trans h2, (hAB.block _ (by omega) (hItn (by omega))).trans h3, Nat.le_trans h4 hAB.size⟩
    · rintro s A B ⟨h1, h2, h3, h4⟩ hAB
      exact ⟨hIx _ _ _ h1 (hAB.mono fun _ e => .inr e), (hAB.block _ (by omega) (hItn (by omega))).trans h2, (hAB.block _ (by omega) (hItn (by omega))).trans h3, Nat.le_trans h4 hAB.size⟩
    · rintro k hkx W ⟨hi, hl, hk, hs⟩ hsize
      have hy := run_yield (P := P) (args := #[.int .i64 (xs[k]'hkx)]) hl (by rw [hrec]; exact hps.symm)
      rw [hrec] at hy
      refine ⟨fn, _, assign, body, hy, roundIn_of_wpIn hfn (hassign _ _ W _ ?_)⟩
      refine ⟨_, run_beginRound hl (by rw [hrec]), ?_⟩
      obtain ⟨W3, hW3⟩ : ∃ W3, W.putObj (w.heap.size + 1) (.loop { rec .ready none with state := .busy }) = W3 := ⟨_, rfl⟩
      rw [hW3]
      have k23 : Kpt (fun k => k = w.heap.size + 1) W W3 := by rw [← hW3]; exact Kpt.putObj _ _ _ _ rfl
      have hl3 : W3.heap[w.heap.size + 1]? = some (.loop { rec .ready none with state := .busy }) := by rw [← hW3]; exact World.putObj_heap_same (by omega)
      have hk3 : W3.heap[w.heap.size]? = some (.deferred (some [])) := (k23.block _ (by omega) (by omega)).trans hk
      have hi3 : I k W3 := hI _ _ _ hi (k23.mono fun k e => .inl e)
      have hs3 : w.heap.size + 2 ≤ W3.heap.size := Nat.le_trans hs k23.size
      refine wpIn_mono (hbody _ k hkx W3 hi3 hs3) ?_
      have fin : ∀ (jump : Option Code) (W4 : World), Kpt M W3 W4 →
          (Instr.endRound (w.heap.size + 1) jump).run P W4 = .ok (.bool jump.isNone) (W4.putObj (w.heap.size + 1) (.loop (rec (if jump.isNone then .ready else .done) jump))) ∧
          (W4.putObj (w.heap.size + 1) (.loop (rec (if jump.isNone then .ready else .done) jump))).heap[w.heap.size + 1]? = some (.loop (rec (if jump.isNone then .ready else .done) jump)) ∧
          (W4.putObj (w.heap.size + 1) (.loop (rec (if jump.isNone then .ready else .done) jump))).heap[w.heap.size]? = some (.deferred (some [])) ∧
          w.heap.size + 2 ≤ (W4.putObj (w.heap.size + 1) (.loop (rec (if jump.isNone then .ready else .done) jump))).heap.size ∧
          Kpt (fun k => M k ∨ k = w.heap.size + 1) W (W4.putObj (w.heap.size + 1) (.loop (rec (if jump.isNone then .ready else .done) jump))) := fun jump W4 k34 => by
        have hl4 : W4.heap[w.heap.size + 1]? = some (.loop { rec .ready none with state := .busy }) := (k34.block _ (by omega) hM1).trans hl3
        have hk4 : W4.heap[w.heap.size]? = some (.deferred (some [])) := (k34.block _ (by omega) hM0).trans hk3
        have hs4 : w.heap.size + 2 ≤ W4.heap.size := Nat.le_trans hs3 k34.size
        have hend := run_endRound (P := P) jump hl4
        rw [hrec] at hend ⊢
        exact ⟨hend, World.putObj_heap_same (by omega), (World.putObj_heap_other (by omega)).trans hk4, by simpa using hs4, (k23.mono fun k e => .inr e).trans ((k34.mono fun k e => .inl e).trans (Kpt.putObj _ _ _ _ (.inr rfl)))⟩
      rintro e a4 W4 (⟨rfl, k34, hi4⟩ | ⟨rfl, k34, hi4⟩)
      · obtain ⟨f1, f2, f3, f4, f5⟩ := fin none W4 k34
        exact ⟨_, _, f1, .inl ⟨rfl, ⟨hIl _ hi4, f2, f3, f4⟩, f5⟩⟩
      · obtain ⟨f1, f2, f3, f4, f5⟩ := fin (some cx) W4 k34
        rcases hcx with ⟨rfl, rfl⟩ | ⟨id, rfl, rfl⟩
        · exact ⟨_, _, f1, .inr ⟨rfl, ⟨hXl _ hi4, f2, f3, f4⟩, f5⟩⟩
        · exact ⟨_, _, f1, .inr ⟨rfl, ⟨hXl _ hi4, f2, f3, f4⟩, f5⟩⟩
    · rintro e W2 ⟨⟨v, rfl⟩, (⟨hi, hl, hk, hs⟩ | ⟨k, hP, hi, hl, hk, hs⟩)⟩
      · exact ⟨none, _, by have := run_endLoop (P := P) hl (by rw [hrec]; simp); rw [hrec] at this; exact this, hdone _ (hIl _ hi) (by simpa using hs) ((World.putObj_heap_other (by omega)).trans hk)⟩
      · exact ⟨some cx, _, by have := run_endLoop (P := P) hl (by rw [hrec]; simp); rw [hrec] at this; exact this, hstop k _ hP (hXl _ hi) (by simpa using hs) ((World.putObj_heap_other (by omega)).trans hk)⟩
end
end Go.Proofs.Ytjpjkkjklghpgaa
