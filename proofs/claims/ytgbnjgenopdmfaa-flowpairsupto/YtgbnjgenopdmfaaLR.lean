/- Keys of a map, one behind the other. -/
import Derived.Test.YtgbnjgenopdmfaaLF
import Derived.Test.YtgbnjgenopdmfaaLK
import Derived.Test.YtgbnjgenopdmfaaLP
namespace Go.Proofs.Ytgbnjgenopdmfaa
open Go.RowKit Go.Maps Go.MapKept

/-! ### lists of operations within a round -/
section
variable {P : Program} {Q : Exit → Act → World → Prop}
theorem list_round {ops : Array Oper} (l n : Nat) (hl : ¬ LetsOut Q) : ∀ (rest : List Oper) (a : Act) (w : World), (∀ o ∈ rest, ∀ c, o.op ≠ .defer c) →
    wpList P ops Q rest a w → wpListIn (Fence.wide.inRound l) n P ops Q rest a w
  | [], a, w, _, h => h
  | o :: rest, a, w, hd, h => by
    unfold wpList at h
    unfold wpListIn
    split at h
    · rename_i hw
      rw [if_pos hw]
      rcases h with h | h
      · exact oper_round l n (Oper.wp_mono (fun a w h => list_round l n hl rest a w (fun x hx => hd x (by simp [hx])) h) h) (hd o (by simp))
      · exact absurd h.2 hl
    · rename_i hw
      rw [if_neg hw]
      exact ⟨fun _ _ => trivial, list_round l n hl rest _ w (fun x hx => hd x (by simp [hx])) h⟩
theorem region_round {ops : List Oper} {id : Nat} {a : Act} {w : World} (l n : Nat) (hl : ¬ LetsOut Q) (hd : noDefer ops.toArray = true) (h : wpList P ops.toArray Q ops a w) : (Code.region id ops.toArray false).wpIn (Fence.wide.inRound l) n P Q a w := by
  refine wpIn_region_lit (list_round l n hl _ a w (fun o ho => ?_) h)
  obtain ⟨i, hi⟩ := List.mem_iff_getElem?.1 ho
  exact noDefer_at hd (i := i) (by simpa using hi)
end

/-! ### a walk over a map of numbers -/
section
variable {κ : Type} [DecidableEq κ]
/-- A walk under way: done are the keys that came. -/
def Wk (c : KE κ) (w : World) (b r : Nat) (m : List (κ × Int)) (done : List κ) (cnt : Nat) : Prop :=
  ∃ D left, w.ranges Try.prog c.kt RV b r (Maps.size D) D left cnt ∧ RdI c D m ∧ (∀ p, c.ok p → (left (c.kl p) = true ↔ (atI m p).isSome = true ∧ p ∉ done)) ∧ done.Nodup ∧ (∀ p ∈ done, (atI m p).isSome = true) ∧ done.length + cnt ≤ m.length
theorem Wk.same {c : KE κ} {w w1 : World} {b r : Nat} {m : List (κ × Int)} {done : List κ} {cnt : Nat} (h : Wk c w b r m done cnt) (hb : w1.heap[b]? = w.heap[b]?) (hr : w1.heap[r]? = w.heap[r]?) : Wk c w1 b r m done cnt := by
  obtain ⟨D, left, ⟨es, clock, since, seen, c0, h1, h2, h3, h4, h5, h6⟩, h7⟩ := h
  exact ⟨D, left, ⟨es, clock, since, seen, c0, hb.trans h1, h2, h3, h4, hr.trans h5, h6⟩, h7⟩
theorem Wk.left {c : KE κ} {w : World} {b r : Nat} {m : List (κ × Int)} {done : List κ} {cnt : Nat} (h : Wk c w b r m done cnt) : w.rangeLeft b r = cnt := by
  obtain ⟨D, left, h1, _⟩ := h
  exact h1.left_eq
theorem Wk.lt {c : KE κ} {w : World} {b r : Nat} {m : List (κ × Int)} {done : List κ} {cnt : Nat} (h : Wk c w b r m done cnt) : b < w.heap.size ∧ r < w.heap.size ∧ r ≠ b := by
  obtain ⟨D, left, h1, _⟩ := h
  exact ⟨h1.owns.lt, h1.lt, h1.ne⟩
theorem Wk.few {c : KE κ} {w : World} {b r : Nat} {m : List (κ × Int)} {done : List κ} {cnt : Nat} (h : Wk c w b r m done cnt) : done.length ≤ m.length := by
  obtain ⟨D, left, _, _, _, _, _, h1⟩ := h
  omega
theorem WI.range {c : KE κ} (hc : KLaw c) {t e : TypeId} (ht : Try.prog.underlying t = some (.map c.kt e)) {w : World} {b : Nat} {m : List (κ × Int)} (h : WI c w b m) :
    ∃ w', (Instr.range t (.map (some b))).run Try.prog w = .ok (.pointer (some ⟨w.heap.size, 0, none⟩)) w' ∧ Wk c w' b w.heap.size m [] m.length ∧ Below w.heap.size w w' ∧ w'.heap.size = w.heap.size + 1 := by
  obtain ⟨D, h1, h2⟩ := h
  obtain ⟨w', r1, r2, r3, r4⟩ := h1.range hc.keyed ht
  refine ⟨w', r1, ⟨D, _, by rw [← h2.size]; exact r2, h2, fun p hp => ?_, List.nodup_nil, (fun p hp => by cases hp), by simp⟩, ⟨r3.os, r3.tape, r3.output, r3.size, fun k hk => r3.block k hk (by simp)⟩, r4⟩
  rw [hasI h2 hp]
  simp
theorem isSome_mem {m : List (κ × Int)} {p : κ} : (atI m p).isSome = true ↔ p ∈ m.map (·.1) := by
  cases e : atI m p with
  | none =>
    have := atI_none.1 e
    simp only [Option.isSome_none, Bool.false_eq_true, false_iff, List.mem_map, not_exists, not_and]
    exact fun x hx => this x hx
  | some v =>
    simp only [Option.isSome_some, true_iff, List.mem_map]
    unfold atI at e
    cases e2 : m.find? (fun x => decide (x.1 = p)) with
    | none => rw [e2] at e; cases e
    | some y => exact ⟨y, List.mem_of_find?_eq_some e2, by simpa using List.find?_some e2⟩
theorem Wk.next {c : KE κ} (hc : KLaw c) {w : World} {b r : Nat} {m : List (κ × Int)} {done : List κ} {cnt : Nat} (h : Wk c w b r m done cnt) (ty : TypeId) :
    (done.Perm (m.map (·.1)) ∧ (Instr.next (.pointer (some ⟨r, 0, none⟩)) false ty).run Try.prog w = .ok (.tuple #[.bool false]) w) ∨
    ∃ (x : κ × Int) (w' : World) (cnt' : Nat), x ∈ m ∧ x.1 ∉ done ∧ (Instr.next (.pointer (some ⟨r, 0, none⟩)) false ty).run Try.prog w = .ok (.tuple #[.bool true, c.enc x.1, .int .i64 x.2]) w' ∧
      Wk c w' b r m (done ++ [x.1]) cnt' ∧ cnt' < cnt ∧ w.grownBy w' (some r) ∧ w'.heap.size = w.heap.size ∧ (Instr.entry (.pointer (some ⟨r, 0, none⟩))).run Try.prog w' = .ok (.tuple #[c.enc x.1, .int .i64 x.2]) w' := by
  obtain ⟨D, left, h1, h2, h3, h4, h5, h6⟩ := h
  rcases h1.next hc.keyed ty with ⟨h0, hl, hrun⟩ | ⟨key, v, kl, y, w', cnt', hkey, hlk, hv, hat, hrun, hrg, hlt, hgr, hsz, hen⟩
  · refine .inl ⟨(List.perm_ext_iff_of_nodup h4 (List.pairwise_map.2 h2.once)).2 fun p => ?_, hrun⟩
    rw [← isSome_mem]
    refine ⟨h5 p, fun hp => ?_⟩
    have hok : c.ok p := by
      obtain ⟨x, hx, rfl⟩ := List.mem_map.1 (isSome_mem.1 hp)
      exact h2.ok x hx
    refine Decidable.by_contra fun hn => ?_
    have := (h3 p hok).2 ⟨hp, hn⟩
    rw [hl] at this
    cases this
  · obtain ⟨p, rfl, hp⟩ := hc.inv _ _ hkey
    have ek := hc.key p hp
    rw [hkey] at ek
    injection ek with ek
    subst ek
    obtain ⟨hs, hnd⟩ := (h3 p hp).1 hlk
    obtain ⟨z, hz⟩ : ∃ z, atI m p = some z := Option.isSome_iff_exists.1 hs
    have hxm := (atI_mem h2.once).2 hz
    have e1 := hat (.held undef)
    rw [h2.at' _ hxm] at e1
    unfold RV at hv
    injection hv with hv
    subst hv
    simp only [DataW.held.injEq] at e1
    subst e1
    refine .inr ⟨(p, z), w', cnt', hxm, hnd, hrun, ⟨D, _, hrg, h2, fun q hq => ?_, ?_, ?_, ?_⟩, hlt, hgr, hsz, hen⟩
    · simp only [Bool.and_eq_true, h3 q hq, Bool.not_eq_true', List.mem_append, List.mem_singleton, not_or]
      constructor
      · rintro ⟨⟨a1, a2⟩, a3⟩
        refine ⟨a1, a2, fun e => ?_⟩
        subst e
        rw [WideAt.sameKey_self (hc.keyed.key hkey)] at a3
        cases a3
      · rintro ⟨a1, a2, a3⟩
        refine ⟨⟨a1, a2⟩, ?_⟩
        cases e : (c.kl q).sameKey (c.kl p) with
        | false => rfl
        | true => exact absurd (hc.inj hq hp (WideAt.sameKey_eq e)) a3
    · exact List.nodup_append.2 ⟨h4, List.nodup_cons.2 ⟨by simp, List.nodup_nil⟩, fun a ha b hb e => by rw [List.mem_singleton] at hb; subst hb; subst e; exact hnd ha⟩
    · intro q hq
      rcases List.mem_append.1 hq with hq | hq
      · exact h5 q hq
      · rw [List.mem_singleton] at hq; subst hq; exact hs
    · simp only [List.length_append, List.length_singleton]; omega
end
set_option maxHeartbeats 6400000 in
set_option maxRecDepth 100000 in
/-- maps.Keys: each key once. -/
theorem keys_all (n : Nat) (C b l : Nat) (m : List (Plc × Int)) (M : Nat → Prop) (W : World) (hC : W.cell? ⟨C, 0, none⟩ = some (.map (some b))) (hm : WI keP W b m) (hl : l < W.heap.size ∧ l ≠ b) (hM : ∀ k, M k → k ≠ b ∧ k ≠ W.heap.size) :
    SeqGen Try.prog n 30 #[ptr C] (fun p : Plc => #[plv p]) (fun s => s.length ≤ m.length ∧ ∀ p ∈ s, p ∈ m.map (·.1)) (·.Perm (m.map (·.1))) (fun k => k = W.heap.size) M l W := by
  intro J hJ0 hY h0
  obtain ⟨w0, hr0, hk0, hb0, hs0⟩ := hm.range lawKP (t := 59) Try.underlying59
  have HJ : Hid (∀ s A B, J s A → Kpt (fun k => k = W.heap.size) A B → J s B) := hJ0
  have HY : Hid (∀ pre x W1, J pre W1 → ((pre ++ [x]).length ≤ m.length ∧ ∀ p ∈ pre ++ [x], p ∈ m.map (·.1)) → W.heap.size ≤ W1.heap.size → YieldAt Fence.wide (n - 1) Try.prog l #[plv x] W1 fun e W' => e = .returned (.bool true) ∧ J (pre ++ [x]) W' ∧ Kpt (fun k => M k ∨ k = l) W1 W') := hY
  have HM : Hid (∀ k, M k → k ≠ b ∧ k ≠ W.heap.size) := hM
  have HL : Hid (l < W.heap.size ∧ l ≠ b) := hl
  have HK0 : Hid (Wk keP w0 b W.heap.size m [] m.length) := hk0
  have HJ0 : Hid (J [] w0) := hJ0 _ _ _ h0 (Kpt.of_below hb0)
  have HS0 : Hid (W.heap.size ≤ w0.heap.size) := hb0.size
  clear hm hl hM hY hJ0 h0 hk0 hb0 hs0
  refine callsIn_of_wp Try.func30 rfl trivial ?_ rfl
  simp only [Try.ntmps30, List.size_toArray, List.length_cons, List.length_nil, Nat.reduceAdd, Nat.reduceSub, Array.replicate_succ, Array.replicate_zero, List.push_toArray, List.append_toArray, List.nil_append, List.cons_append]
  gi_wp2
  clear hC hr0
  gi_loopw [6] (fun _ wr => ∃ (done : List Plc) (cnt : Nat), Wk keP wr b W.heap.size m done cnt ∧ J done wr ∧ (∀ p ∈ done, p ∈ m.map (·.1)) ∧ W.heap.size ≤ wr.heap.size) (fun _ wr => wr.rangeLeft b W.heap.size)
  case atStart => exact ⟨[], _, HK0.out, HJ0.out, (fun p hp => by cases hp), HS0.out⟩
  case round =>
    obtain ⟨done, cnt, hk, hj, hd, hs⟩ := hrel
    rcases hk.next lawKP 0 with ⟨hp, hrun⟩ | ⟨x, w1, cnt', hx, hnd, hrun, hk1, hlt, hg, hsz, hen⟩
    · have HP : Hid (done.Perm (m.map (·.1))) := hp
      have HJ1 : Hid (J done wr) := hj
      clear hp hj hd hk
      gi_wp2
      go_end0
      exact ⟨⟨_, rfl⟩, done, HP.out, HJ1.out⟩
    · have HK1 : Hid (Wk keP w1 b W.heap.size m (done ++ [x.1]) cnt') := hk1
      have HJ1 : Hid (J done w1) := HJ.out _ _ _ hj (Kpt.grown hg fun k e => by injection e with e; exact e.symm)
      have HPR : Hid ((done ++ [x.1]).length ≤ m.length ∧ ∀ p ∈ done ++ [x.1], p ∈ m.map (·.1)) := ⟨hk1.few, fun p hp => (List.mem_append.1 hp).elim (hd p) fun e => by rw [List.mem_singleton] at e; subst e; exact List.mem_map.2 ⟨x, hx, rfl⟩⟩
      have HCN : Hid (cnt' < wr.rangeLeft b W.heap.size) := by show _ < _; rw [hk.left]; exact hlt
      obtain ⟨p, v⟩ := x
      have HJ2 : Hid (J done (w1.alloc (pobj p))) := HJ.out _ _ _ HJ1.out (Kpt.of_below ((Below.refl _ _).alloc (Nat.le_refl _) _))
      obtain ⟨fn, tmps, assign, body, hy, hR⟩ := HY.out _ p _ HJ2.out HPR.out (by simp; omega)
      have HLT : Hid (b < wr.heap.size ∧ W.heap.size < wr.heap.size) := ⟨hk.lt.1, hk.lt.2.1⟩
      clear hk hk1 hj hd hg hnd hx hlt
      gi_wp2
      refine ⟨(fun h => by cases h), hR.mono ?_⟩
      rintro e w4 ⟨rfl, hJ4, hk4⟩
      gi_wp2
      go_roundw
      case rel =>
        have hb4 : w4.heap[b]? = w1.heap[b]? := (hk4.block b (by have := HLT.out; simp; omega) (fun h => h.elim (fun h => (HM.out _ h).1 rfl) (fun h => HL.out.2 h.symm))).trans (Below.heap_alloc _ _ _ (by have := HLT.out; omega))
        have hr4 : w4.heap[W.heap.size]? = w1.heap[W.heap.size]? := (hk4.block _ (by have := HLT.out; simp; omega) (fun h => h.elim (fun h => (HM.out _ h).2 rfl) (fun h => by have := HL.out.1; omega))).trans (Below.heap_alloc _ _ _ (by have := HLT.out; omega))
        exact ⟨done ++ [p], cnt', HK1.out.same hb4 hr4, hJ4, HPR.out.2, by have := hk4.size; simp at this; omega⟩
      case measure =>
        have hb4 : w4.heap[b]? = w1.heap[b]? := (hk4.block b (by have := HLT.out; simp; omega) (fun h => h.elim (fun h => (HM.out _ h).1 rfl) (fun h => HL.out.2 h.symm))).trans (Below.heap_alloc _ _ _ (by have := HLT.out; omega))
        have hr4 : w4.heap[W.heap.size]? = w1.heap[W.heap.size]? := (hk4.block _ (by have := HLT.out; simp; omega) (fun h => h.elim (fun h => (HM.out _ h).2 rfl) (fun h => by have := HL.out.1; omega))).trans (Below.heap_alloc _ _ _ (by have := HLT.out; omega))
        rw [(HK1.out.same hb4 hr4).left]
        exact HCN.out

/-! ### slices.AppendSeq, Collect, SortedFunc of keys -/
theorem en_K : ∀ args w, (callFunc 30 args).run Try.prog w = .ok (.enter 30 args) w := enters_of Try.func30 (by kernel_rfl) rfl
theorem OwnR.kpt {α : Type} {c : Enc α} {w w' : World} {base : Nat} {v : Value} {ps : List α} {M : Nat → Prop} (h : OwnR c w base v ps) (hk : Kpt M w w') (hM : ∀ k, M k → k < base) : OwnR c w' base v ps := by
  obtain ⟨h1, h2⟩ := h
  refine ⟨h1, h2.imp id ?_⟩
  rintro ⟨g, cap, cur, e, hg, hh, r⟩
  exact ⟨g, cap, cur, e, hg, (hk.block g (Array.getElem?_eq_some_iff.1 hh).1 (fun e => by have := hM g e; omega)).trans hh, r⟩
theorem RdR.kpt {α : Type} {c : Enc α} {w w' : World} {ao : Option Addr} {l : List α} {M : Nat → Prop} (h : RdR c w ao l) (hk : Kpt M w w') (hM : ∀ ad, ao = some ad → ¬ M ad.block) : RdR c w' ao l := by
  rcases h with h | ⟨g, off, rfl, h1, h2⟩
  · exact .inl h
  · refine .inr ⟨g, off, rfl, Nat.lt_of_lt_of_le h1 hk.size, fun k hk2 j hj => ?_⟩
    rw [← h2 k hk2 j hj]
    exact World.cell?_of_block (hk.block g h1 (hM _ rfl))
theorem OwnR.row {α : Type} {c : Enc α} {w : World} {base : Nat} {v : Value} {ps : List α} (h : OwnR c w base v ps) : ∀ k, v.ownBlock = some k → base ≤ k := fun k hk => (World.ownsRow.lt h k hk).1
theorem leave_plain {F : Fence} {n : Nat} {P : Program} {fn : Func} {R : Ending → World → Prop} {tmps : Array Value} {w : World} {v : Value} (h : (results fn tmps).run P w = .ok v w) (hR : R (.returned v) w) : LeavesInM F n P fn tmps R [] .returning w := ⟨_, h, hR⟩
theorem leave_mark {F : Fence} {n : Nat} {P : Program} {fn : Func} {R : Ending → World → Prop} {tmps : Array Value} {w : World} {D : Nat} {v : Value} (hD : w.heap[D]? = some (.deferred (some []))) (h : (results fn tmps).run P (w.putObj D (.deferred none)) = .ok v (w.putObj D (.deferred none))) (hR : R (.returned v) (w.putObj D (.deferred none))) :
    LeavesInM F n P fn tmps R [{ target := .collected D, args := #[] }] .returning w := by
  refine ⟨by simp, .inl ⟨_, _, rfl, run_takeDeferred hD, ?_⟩⟩
  exact ⟨_, h, hR⟩
/-- What was gathered so far. -/
structure Ga (w : World) (s : List Plc) (W : World) : Prop where
  below : Below w.heap.size w W
  box : ∃ v, Bk w.heap.size [v] W ∧ OwnR encP W (w.heap.size + 4) v s
set_option maxHeartbeats 6400000 in
set_option maxRecDepth 100000 in
theorem appendSeq_any (C b : Nat) (m : List (Plc × Int)) (w : World) (hC : w.cell? ⟨C, 0, none⟩ = some (.map (some b))) (hm : WI keP w b m) (hln : m.length ≤ 100000000) :
    Calls Try.prog 46 #[.slice none 0 0, .func (.func 30) #[] #[ptr C]] w
      fun e w' => ∃ s v, e = .returned v ∧ s.Perm (m.map (·.1)) ∧ OwnR encP w' w.heap.size v s ∧ Below w.heap.size w w' := by
  have HMM : Hid (WI keP w b m) := hm
  have hbl : b < w.heap.size := hm.lt
  have HC : Hid (w.cell? ⟨C, 0, none⟩ = some (.map (some b))) := hC
  clear hm hC
  refine (callsIn_wide (n := 3)).1 (callsIn_of_wp_marks Try.func46 rfl trivial (wpIn_wide.2 ?_) rfl)
  simp only [Try.ntmps46, List.size_toArray, List.length_cons, List.length_nil, Nat.reduceAdd, Nat.reduceSub, Array.replicate_succ, Array.replicate_zero, List.push_toArray, List.append_toArray, List.nil_append, List.cons_append]
  have HG0 : Hid (Ga w [] (w.alloc (.cells #[.slice none 0 0] 32))) := ⟨(Below.refl _ _).alloc (Nat.le_refl _) _, _, Bk.new w [.slice none 0 0] 32 w.heap.size rfl, OwnR.nil _ _ _⟩
  go_wp2
  refine range_gen (n := 3) (gf := 30) (lb := #[ptr C]) rfl (fun args w => en_K args w) (fun k => k = w.heap.size + 3) (fun k => k = w.heap.size ∨ w.heap.size + 4 ≤ k)
    (fun s => s.length ≤ m.length ∧ ∀ p ∈ s, p ∈ m.map (·.1)) (·.Perm (m.map (·.1))) (fun p : Plc => #[plv p]) (fun _ => rfl) ?_ (by simp) (by simp) (by simp; omega) (Ga w) ?_ HG0.out
    (fun x a1 A => ∃ g, w.heap.size + 3 ≤ g ∧ a1 = { tmps := #[.slice none 0 0, .func (.func 30) #[] #[ptr C], ptr w.heap.size, undef, .slice none 0 0, ptr g, .func (.func 30) #[] #[ptr C], plv x, undef, undef, undef, undef, undef], defers := [] } ∧ Bk g [.int .i64 x.1, .int .i64 x.2.1, .int .i64 x.2.2] A) ?_ ?_ ?_ ?_
  · intro W hb hs
    have e : W.heap.size = w.heap.size + 3 := by rw [hs]; simp
    have hbw : Below w.heap.size w W := HG0.out.below.trans (hb.mono (by simp))
    have := keys_all 2 C b ((w.alloc (.cells #[.slice none 0 0] 32)).heap.size + 1) m (fun k => k = w.heap.size ∨ w.heap.size + 4 ≤ k) W (cell_later hbw HC.out) (HMM.out.next hbw) (by simp; omega) (fun k hk => by omega)
    rw [e] at this
    exact this
  · intro s A B h hk
    obtain ⟨v, h1, h2⟩ := h.box
    exact ⟨h.below.trans (hk.below h.below.size (fun k e => by simp at e; omega)), v, h1.same hk.size (hk.block _ h1.1 (by simp; omega)), h2.kpt hk (fun k e => by simp at e; omega)⟩
  · rintro x a1 A B ⟨g, h1, h2, h3⟩ hk
    exact ⟨g, h1, h2, h3.same hk.size (hk.block _ h3.1 (by simp; omega))⟩
  · intro l pre x W K hI hpre hs hK
    have HKK := (show Hid _ from hK)
    clear hK
    have K1 : Hid (Bk W.heap.size [.int .i64 x.1, .int .i64 x.2.1, .int .i64 x.2.2] (W.alloc (pobj x))) := Bk.new W [.int .i64 x.1, .int .i64 x.2.1, .int .i64 x.2.2] 26 W.heap.size rfl
    have hs4 : w.heap.size + 3 ≤ W.heap.size := by simpa using hs
    refine region_round l _ (by rintro ⟨a, w, h⟩; exact h) (by kernel_rfl) ?_
    go_wp2
    exact HKK.out _ _ ⟨W.heap.size, hs4, rfl, K1.out⟩ ((Below.refl _ _).alloc (Nat.le_refl _) _)
  · rintro l pre x a1 W hI hpre hs ⟨g, h1, rfl, h3⟩
    obtain ⟨v, hb1, hb2⟩ := hI.box
    obtain ⟨ao, cap, rfl⟩ := hb2.shape
    have HI := (show Hid _ from hI)
    have c0 := hb1.c 0 rfl
    have f0 := hb1.f 0 rfl
    have d0 := h3.c 0 rfl
    have d1 := h3.c 1 rfl
    have d2 := h3.c 2 rfl
    have hne : w.heap.size ≠ W.heap.size := by have := hb1.1; omega
    have hg4 : g ≠ W.heap.size := by have := h3.1; omega
    have HB1 : Hid (Bk w.heap.size [.slice ao pre.length cap] W) := hb1
    have HO1 : Hid (OwnR encP W (w.heap.size + 4) (.slice ao pre.length cap) pre) := hb2
    have hle : pre.length ≤ 1000000000 := by have := hpre.1; simp at this; omega
    have hs4 : w.heap.size + 4 ≤ (W.alloc (pobj x)).heap.size := by have := h3.1; simp; omega
    clear hb1 hb2 hI h3 hpre hs h1
    refine wpIn_block (region_round l _ (by rintro ⟨a, w, h⟩; cases h.1) (by kernel_rfl) ?_)
    generalize hnV : pre.length = nV at *
    go_wp2_with (at_builtin; refine wpList_append_row goodP Try.underlying32 infoP rfl (by decide) (by decide) _ rfl (.tmp 8) (.tmp 10) rfl (w.heap.size + 4) (.slice ao nV cap) pre rfl (HO1.out.alloc _) W.heap.size x rfl (fun j u hu => (Bk.new W _ 26 W.heap.size rfl).c j hu) (by omega) hs4 ?_; intro v' w4 ho hg hloc; obtain ⟨aoW, capW, rfl⟩ := ho.shape; have hbx : Bk w.heap.size [.slice ao nV cap] w4 := (HB1.out.later ((Below.refl _ _).alloc (Nat.le_refl _) _)).same hg.size (hg.block _ (by simp; have := HB1.out.1; omega) (fun e => by have := OwnR.row HO1.out _ e.symm; omega)); have e0 := hbx.c 0 rfl; have ef0 := hbx.f 0 rfl)
    have hn : (pre ++ [x]).length = nV + 1 := by simp [hnV]
    rw [hn] at ho
    have k1 : Kpt (fun k => k = w.heap.size ∨ w.heap.size + 4 ≤ k) W w4 := (Kpt.of_below ((Below.refl _ _).alloc (Nat.le_refl _) _)).trans (Kpt.grown hg fun k e => .inr (OwnR.row HO1.out k e))
    have k2 : Kpt (fun k => k = w.heap.size ∨ w.heap.size + 4 ≤ k) W (w4.setCell ⟨w.heap.size, 0, none⟩ (.slice aoW (nV + 1) capW)) := k1.trans (Kpt.setCell _ _ _ _ (.inl rfl))
    refine ⟨trivial, k2, HI.out.below.trans (k2.below HI.out.below.size (fun k e => by omega)), _, hbx.put 0 _, ho.kpt (Kpt.setCell (M := fun k => k = w.heap.size) _ _ _ _ rfl) (fun k e => by omega)⟩
  · intro xs W hS hI hs hd
    obtain ⟨v, hb1, hb2⟩ := hI.box
    have c0 := hb1.c 0 rfl
    have HB : Hid (Below w.heap.size w W) := hI.below
    have HO : Hid (OwnR encP W (w.heap.size + 4) v xs) := hb2
    have HS : Hid (xs.Perm (m.map (·.1))) := hS
    clear hb1 hb2 hI hS
    go_wp2
    refine leave_mark hd (v := v) (by simp [results, Try.results46, go_sem]) ?_
    have hp := Kpt.putObj (fun k => k = w.heap.size + 1) W (w.alloc (Obj.cells #[Value.slice none 0 0] 32)).heap.size (.deferred none) (by simp)
    exact ⟨xs, v, rfl, HS.out, (HO.out.kpt hp (fun k e => by omega)).base (by omega), HB.out.trans (hp.below HB.out.size (fun k e => by omega))⟩
set_option maxHeartbeats 6400000 in
theorem collect_any (C b : Nat) (m : List (Plc × Int)) (w : World) (hC : w.cell? ⟨C, 0, none⟩ = some (.map (some b))) (hm : WI keP w b m) (hln : m.length ≤ 100000000) :
    Calls Try.prog 28 #[.func (.func 30) #[] #[ptr C]] w
      fun e w' => ∃ s v, e = .returned v ∧ s.Perm (m.map (·.1)) ∧ OwnR encP w' w.heap.size v s ∧ Below w.heap.size w w' := by
  have HC := (show Hid _ from appendSeq_any C b m w hC hm hln)
  clear hC hm
  go_enter Try.func28, Try.ntmps28
  go_wp2_with (go_at_call 46; refine Calls.mono HC.out ?_; rintro e w2 ⟨s, v, rfl, h1, h2, h3⟩)
  go_ret
  exact ⟨s, v, rfl, h1, h2, h3⟩
set_option maxHeartbeats 6400000 in
theorem sortedKeys_any (C b : Nat) (m : List (Plc × Int)) (w : World) (hC : w.cell? ⟨C, 0, none⟩ = some (.map (some b))) (hm : WI keP w b m) (hln : m.length ≤ 100000000) :
    Calls Try.prog 17 #[.func (.func 30) #[] #[ptr C], .func (.func 19) #[] #[]] w
      fun e w' => ∃ s ao cap, e = .returned (.slice ao s.length cap) ∧ s.Perm (m.map (·.1)) ∧ s.Pairwise (fun x y => pltB y x = false) ∧ RdR encP w' ao s ∧ Below w.heap.size w w' ∧ ∀ ad, ao = some ad → w.heap.size ≤ ad.block := by
  have HC := (show Hid _ from collect_any C b m w hC hm hln)
  clear hC hm
  go_enter Try.func17, Try.ntmps17
  go_wp2_with (first
    | (go_at_call 28; refine Calls.mono HC.out ?_; rintro e w2 ⟨s, v, rfl, h1, h2, h3⟩)
    | (go_at_call 29; refine (sortP_any w.heap.size v s w2 h2 (by have := h1.length_eq; simp at this; omega)).mono ?_; rintro e w3 ⟨rfl, ⟨l', ao, cap, hp, hs, rfl, hrd⟩, hg⟩))
  go_ret
  exact ⟨l', ao, cap, rfl, hp.trans h1, hs, hrd, h3.grown hg h3.size (fun k hk => OwnR.row h2 k hk), fun ad e => OwnR.row h2 _ (by rw [e]; rfl)⟩
end Go.Proofs.Ytgbnjgenopdmfaa
