import Derived.Test.YtgbnjgenopdmfaaGreatGm
import Derived.Maps.OwnOps
import Derived.Test.YtgbnjgenopdmfaaGreatGk

/- Maps of numbers; strands as keys. -/
namespace Go.Proofs.YtgbnjgenopdmfaaGreat
open Go.RowKit Go.Maps Go.MapKept
/-- Keys of a kind. -/
structure KE (κ : Type) where
  kt : TypeId
  enc : κ → Value
  kl : κ → Lit
  ok : κ → Prop
structure KLaw {κ : Type} (c : KE κ) : Prop where
  keyed : Keyed Tryz.prog c.kt
  key : ∀ x, c.ok x → keyOf Tryz.prog c.kt (c.enc x) = some (c.kl x)
  inv : ∀ v l, keyOf Tryz.prog c.kt v = some l → ∃ x, v = c.enc x ∧ c.ok x
  one : ∀ x y, c.enc x = c.enc y → x = y
theorem KLaw.inj {κ : Type} {c : KE κ} (h : KLaw c) {x y : κ} (hx : c.ok x) (hy : c.ok y) (e : c.kl x = c.kl y) : x = y :=
  h.one x y (h.keyed.inj (h.key x hx) (by rw [e]; exact h.key y hy))
/-- What a map of numbers holds. -/
structure RdI {κ : Type} (c : KE κ) (D : DataW Value) (m : List (κ × Int)) : Prop where
  isMap : Tidy D
  size : Maps.size D = m.length
  ok : ∀ x ∈ m, c.ok x.1
  once : m.Pairwise fun x y => x.1 ≠ y.1
  at' : ∀ x ∈ m, ∀ z, D.atKey (c.kl x.1) z = .held (.int .i64 x.2)
  none' : ∀ p, c.ok p → (∀ x ∈ m, x.1 ≠ p) → Maps.has D (c.kl p) = false
def WI {κ : Type} (c : KE κ) (w : World) (b : Nat) (m : List (κ × Int)) : Prop := ∃ D, w.ownsMap Tryz.prog c.kt RV b (Maps.size D) D ∧ RdI c D m
theorem WI.lt {κ : Type} {c : KE κ} {w : World} {b : Nat} {m : List (κ × Int)} (h : WI c w b m) : b < w.heap.size := by
  obtain ⟨D, h1, _⟩ := h
  exact h1.lt
theorem WI.same {κ : Type} {c : KE κ} {w w1 : World} {b : Nat} {m : List (κ × Int)} (h : WI c w b m) (hb : w1.heap[b]? = w.heap[b]?) : WI c w1 b m := by
  obtain ⟨D, ⟨es, clock, h1, h2⟩, h3⟩ := h
  exact ⟨D, ⟨es, clock, hb.trans h1, h2⟩, h3⟩
theorem WI.next {κ : Type} {c : KE κ} {w w1 : World} {b : Nat} {m : List (κ × Int)} (h : WI c w b m) (hb : Below w.heap.size w w1) : WI c w1 b m := h.same (hb.block b h.lt)
theorem WI.made {κ : Type} (c : KE κ) (w : World) : WI c (w.alloc (.map #[] 0)) w.heap.size [] :=
  ⟨.map [], World.ownsMap_made w _ _ _, ⟨tidy_empty, rfl, (fun _ h => by cases h), List.Pairwise.nil, (fun _ h => by cases h), fun _ _ _ => rfl⟩⟩
variable {κ : Type} [DecidableEq κ]
/-- What a key has. -/
def atI (m : List (κ × Int)) (p : κ) : Option Int := (m.find? fun x => decide (x.1 = p)).map (·.2)
theorem atI_mem {m : List (κ × Int)} (ho : m.Pairwise fun x y => x.1 ≠ y.1) {p : κ} {v : Int} : (p, v) ∈ m ↔ atI m p = some v := by
  induction m with
  | nil => simp [atI]
  | cons y q ih =>
    obtain ⟨h1, h2⟩ := List.pairwise_cons.1 ho
    by_cases e : y.1 = p
    · have e1 : atI (y :: q) p = some y.2 := by simp [atI, e]
      rw [e1, List.mem_cons]
      constructor
      · rintro (h3 | h3)
        · rw [← h3]
        · exact absurd e (h1 _ h3)
      · intro h3
        injection h3 with h3
        exact .inl (by rw [← h3, ← e])
    · have e1 : atI (y :: q) p = atI q p := by simp [atI, e]
      rw [e1, ← ih h2, List.mem_cons]
      constructor
      · rintro (h3 | h3)
        · exact absurd (by rw [← h3]) e
        · exact h3
      · exact .inr
theorem atI_none {m : List (κ × Int)} {p : κ} : atI m p = none ↔ ∀ x ∈ m, x.1 ≠ p := by
  unfold atI
  rw [Option.map_eq_none_iff, List.find?_eq_none]
  simp
def putI (m : List (κ × Int)) (p : κ) (v : Int) : List (κ × Int) := (m.filter fun x => decide (x.1 ≠ p)) ++ [(p, v)]
theorem mem_putI {m : List (κ × Int)} {p : κ} {v : Int} {x : κ × Int} : x ∈ putI m p v ↔ (x ∈ m ∧ x.1 ≠ p) ∨ x = (p, v) := by simp [putI]
theorem once_putI {m : List (κ × Int)} (ho : m.Pairwise fun x y => x.1 ≠ y.1) (p : κ) (v : Int) : (putI m p v).Pairwise fun x y => x.1 ≠ y.1 := by
  unfold putI
  rw [List.pairwise_append]
  refine ⟨ho.filter _, by simp, fun x hx y hy => ?_⟩
  simp at hx hy
  rw [hy]
  exact hx.2
theorem atI_put {m : List (κ × Int)} (ho : m.Pairwise fun x y => x.1 ≠ y.1) (p q : κ) (v : Int) : atI (putI m p v) q = if q = p then some v else atI m q := by
  have ho2 := once_putI ho p v
  by_cases e : q = p
  · subst e
    rw [if_pos rfl]
    exact (atI_mem ho2).1 (mem_putI.2 (.inr rfl))
  · rw [if_neg e]
    cases h : atI m q with
    | none =>
      have h1 := atI_none.1 h
      refine atI_none.2 fun x hx => ?_
      rcases mem_putI.1 hx with ⟨hx, _⟩ | hx
      · exact h1 x hx
      · rw [hx]; exact fun e2 => e e2.symm
    | some u => exact (atI_mem ho2).1 (mem_putI.2 (.inl ⟨(atI_mem ho).2 h, e⟩))
theorem len_filter {m : List (κ × Int)} (ho : m.Pairwise fun x y => x.1 ≠ y.1) (p : κ) : (m.filter fun x => decide (x.1 ≠ p)).length + (if (atI m p).isSome = true then 1 else 0) = m.length := by
  induction m with
  | nil => simp [atI]
  | cons y r ih =>
    obtain ⟨h1, h2⟩ := List.pairwise_cons.1 ho
    have i := ih h2
    by_cases e : y.1 = p
    · have hn : atI r p = none := atI_none.2 fun x hx e2 => h1 x hx (by rw [e, e2])
      rw [hn] at i
      have e1 : atI (y :: r) p = some y.2 := by simp [atI, e]
      rw [e1, List.filter_cons, if_neg (by simp [e])]
      simp at i ⊢
      omega
    · have e1 : atI (y :: r) p = atI r p := by simp [atI, e]
      rw [e1, List.filter_cons, if_pos (by simp [e])]
      simp only [List.length_cons]
      omega
theorem hasI {c : KE κ} {D : DataW Value} {m : List (κ × Int)} (h : RdI c D m) {p : κ} (hp : c.ok p) : Maps.has D (c.kl p) = true ↔ (atI m p).isSome = true := by
  cases e : atI m p with
  | none => rw [h.none' p hp (atI_none.1 e)]; simp
  | some v => simp only [Option.isSome_some, iff_true]; exact has_true_of_atKey (h.at' _ ((atI_mem h.once).2 e))
theorem readsI_put {c : KE κ} (hc : KLaw c) {D : DataW Value} {m : List (κ × Int)} (h : RdI c D m) {p : κ} (hp : c.ok p) (v : Int) : RdI c (D.put (c.kl p) (.held (.int .i64 v))) (putI m p v) := by
  have hk : WideAt.IsKeyLit (c.kl p) := hc.keyed.key (hc.key p hp)
  refine ⟨h.isMap.put hk _, ?_, fun y hy => ?_, once_putI h.once p v, fun y hy z => ?_, fun q hq hn => ?_⟩
  · rw [size_put h.isMap, h.size]
    have hl := len_filter h.once p
    unfold putI
    rw [List.length_append]
    by_cases hh : Maps.has D (c.kl p) = true
    · rw [if_pos hh]
      rw [if_pos ((hasI h hp).1 hh)] at hl
      simp only [List.length_cons, List.length_nil]; omega
    · rw [if_neg hh]
      rw [if_neg (fun he => hh ((hasI h hp).2 he))] at hl
      simp only [List.length_cons, List.length_nil]; omega
  · rcases mem_putI.1 hy with ⟨hy, _⟩ | rfl
    · exact h.ok y hy
    · exact hp
  · rcases mem_putI.1 hy with ⟨hy1, hy2⟩ | rfl
    · rw [atKey_put_other (fun e => hy2 (hc.inj (h.ok y hy1) hp e))]
      exact h.at' y hy1 z
    · exact atKey_put_same h.isMap.isMap hk _ _
  · have hne : q ≠ p := fun e => hn (p, v) (mem_putI.2 (.inr rfl)) e.symm
    rw [has_put_other (fun e => hne (hc.inj hq hp e))]
    exact h.none' q hq fun y hy e => hn y (mem_putI.2 (.inl ⟨hy, by rw [e]; exact hne⟩)) e
theorem WI.put {c : KE κ} (hc : KLaw c) {t e : TypeId} (ht : Tryz.prog.underlying t = some (.map c.kt e)) {w : World} {b : Nat} {m : List (κ × Int)} (h : WI c w b m) {p : κ} (hp : c.ok p) (v : Int) (hl : m.length ≤ 100000000) :
    ∃ w', (Instr.mapUpdate t (.map (some b)) (c.enc p) (.int .i64 v)).run Tryz.prog w = .ok () w' ∧ WI c w' b (putI m p v) ∧ w.grownBy w' (some b) := by
  obtain ⟨D, h1, h2⟩ := h
  obtain ⟨w', hrun, h3, h4⟩ := h1.update hc.keyed ht (by rw [h2.size]; unfold maxLen; omega) (hc.key p hp) (d := .held (.int .i64 v)) (ps := []) rfl
  exact ⟨w', hrun, ⟨_, own_tight h3, readsI_put hc h2 hp v⟩, h4⟩
theorem WI.look {c : KE κ} (hc : KLaw c) {t e : TypeId} (ht : Tryz.prog.underlying t = some (.map c.kt e)) (hz : ∀ w, (zeroValue e).run Tryz.prog w = .ok (.int .i64 0) w) {w : World} {b : Nat} {m : List (κ × Int)} (h : WI c w b m) {p : κ} (hp : c.ok p) (cm : Bool) :
    (Instr.lookup t (.map (some b)) (c.enc p) cm).run Tryz.prog w = .ok (if cm then .tuple #[.int .i64 ((atI m p).getD 0), .bool (atI m p).isSome] else .int .i64 ((atI m p).getD 0)) w := by
  obtain ⟨D, ⟨es, clock, hb, F, _, hD⟩, h2⟩ := h
  have hk := hc.key p hp
  rcases Maps.fit_look cm hc.keyed ht (hz w) hb F hk with ⟨hrun, hno, hat⟩ | ⟨e0, y, he0, hk0, hrun, hRv, hat, _⟩
  · have hn : atI m p = none := by
      cases e : atI m p with
      | none => rfl
      | some v =>
        have := has_true_of_atKey (h2.at' _ ((atI_mem h2.once).2 e))
        have h4 := h2.at' _ ((atI_mem h2.once).2 e) .nil
        rw [hD, hat] at h4
        exact absurd h4 (by intro h5; injection h5)
    rw [hrun, hn]
    rfl
  · have hs : atI m p = some ((atI m p).getD 0) ∧ e0.val = .int .i64 ((atI m p).getD 0) := by
      simp only [RV, Option.some.injEq] at hRv
      have hat2 := hat .nil
      cases e : atI m p with
      | none =>
        have := h2.none' p hp (atI_none.1 e)
        have h3 : Maps.has D (c.kl p) = true := has_true_of_atKey (D := D) (k := c.kl p) (y := y.1) (fun zd => by rw [hD]; exact hat zd)
        rw [this] at h3
        cases h3
      | some v =>
        refine ⟨rfl, ?_⟩
        have h3 := h2.at' _ ((atI_mem h2.once).2 e) .nil
        rw [hD, hat2, ← hRv] at h3
        injection h3
    rw [hrun, hs.2]
    have h4 : (atI m p).isSome = true := by rw [hs.1]; rfl
    rw [h4]
theorem zeroI (w : World) : (zeroValue 3).run Tryz.prog w = .ok (.int .i64 0) w := by kernel_rfl
/-! ### strands -/
theorem lawS : Keyed Tryz.prog 101 := Keyed.of_law (deep_law_gate laidOutP (of_decide_eq_true (by kernel_rfl)) (of_decide_eq_true (by kernel_rfl)) (by kernel_rfl) (by kernel_rfl))
theorem keyTS : Tryz.prog.keyType 101 = true := by kernel_rfl
theorem cellsSd : Tryz.prog.cellsOf 101 = 4 := by kernel_rfl
abbrev sdc (r : Std) : List Value := [.int .i64 r.1, .int .i64 r.2.1, .int .i64 r.2.2.1, .int .i64 r.2.2.2]
abbrev sdv (r : Std) : Value := .agg #[.int .i64 r.1, .int .i64 r.2.1, .int .i64 r.2.2.1, .int .i64 r.2.2.2]
abbrev sdl (r : Std) : List Lit := [.int .i64 r.1, .int .i64 r.2.1, .int .i64 r.2.2.1, .int .i64 r.2.2.2]
def Wf4 (r : Std) : Prop := Wf1 r.1 ∧ Wf3 r.2
set_option maxRecDepth 100000 in
theorem lits_strand (d : Nat) {r : Std} (h : Wf4 r) : Tryz.prog.keyLits (d + 4) 101 (sdc r) = some (sdl r) := by
  unfold Program.keyLits
  rw [Tryz.underlying101]
  simp [cellsP, cellsI, cellsSd, lits_int (d + 2) h.1, lits_place d h.2]
def klS (r : Std) : Lit := .string (keyBytes (sdl r))
set_option maxRecDepth 100000 in
theorem keyS_some {r : Std} (h : Wf4 r) : keyOf Tryz.prog 101 (sdv r) = some (klS r) := by
  unfold keyOf
  rw [Tryz.underlying101]
  simp only [keyTS, sizeT]
  have hf : (sdv r).formed Tryz.prog 101 = true := by simp [Value.formed, Tryz.underlying101, cellsSd]
  rw [hf]
  simp only [Bool.and_self, if_true, Value.cells, List.toList_toArray]
  rw [show 268 = 264 + 4 from rfl, lits_strand 264 h]
  rfl
set_option maxRecDepth 100000 in
theorem place_lits_inv {d : Nat} {a b c : Value} {x : List Lit} (h : Tryz.prog.keyLits (d + 3) 53 [a, b, c] = some x) : ∃ p : Plc, a = .int .i64 p.1 ∧ b = .int .i64 p.2.1 ∧ c = .int .i64 p.2.2 ∧ Wf3 p := by
  unfold Program.keyLits at h
  rw [Tryz.underlying53] at h
  simp only [cellsP] at h
  obtain ⟨x1, hx⟩ : ∃ x, Tryz.prog.keyLits (d + 2) 3 [a] = some x := by
    cases h2 : Tryz.prog.keyLits (d + 2) 3 [a] with
    | none => simp [cellsI, h2] at h
    | some x => exact ⟨x, rfl⟩
  obtain ⟨y, hy⟩ : ∃ y, Tryz.prog.keyLits (d + 2) 51 [b, c] = some y := by
    cases h2 : Tryz.prog.keyLits (d + 2) 51 [b, c] with
    | none => simp [cellsI, cellsSp, hx, h2] at h
    | some x => exact ⟨x, rfl⟩
  obtain ⟨n, e1, hn⟩ := lits_int_inv (d := d + 1) hx
  unfold Program.keyLits at hy
  rw [Tryz.underlying51] at hy
  simp only [cellsSp] at hy
  obtain ⟨x2, hx2⟩ : ∃ x, Tryz.prog.keyLits (d + 1) 3 [b] = some x := by
    cases h2 : Tryz.prog.keyLits (d + 1) 3 [b] with
    | none => simp [cellsI, h2] at hy
    | some x => exact ⟨x, rfl⟩
  obtain ⟨x3, hx3⟩ : ∃ x, Tryz.prog.keyLits (d + 1) 3 [c] = some x := by
    cases h2 : Tryz.prog.keyLits (d + 1) 3 [c] with
    | none => simp [cellsI, hx2, h2] at hy
    | some x => exact ⟨x, rfl⟩
  obtain ⟨n2, e2, hn2⟩ := lits_int_inv (d := d) hx2
  obtain ⟨n3, e3, hn3⟩ := lits_int_inv (d := d) hx3
  injection e1 with e1
  injection e2 with e2
  injection e3 with e3
  exact ⟨(n, n2, n3), e1, e2, e3, hn, hn2, hn3⟩
set_option maxRecDepth 100000 in
theorem keyS_inv {v : Value} {kl : Lit} (h : keyOf Tryz.prog 101 v = some kl) : ∃ r, v = sdv r ∧ Wf4 r := by
  unfold keyOf at h
  rw [Tryz.underlying101] at h
  simp only at h
  split at h
  · rename_i hc
    rw [keyTS, Bool.true_and] at hc
    cases v with
    | agg cs =>
      simp only [Value.formed, Tryz.underlying101, cellsSd, beq_iff_eq] at hc
      obtain ⟨k, a, b, c, hcs⟩ : ∃ k a b c, cs = #[k, a, b, c] := by
        obtain ⟨l⟩ := cs
        match l, hc with
        | [k, a, b, c], _ => exact ⟨k, a, b, c, rfl⟩
      subst hcs
      rw [sizeT, show 268 = 264 + 4 from rfl] at h
      obtain ⟨ls, h1⟩ : ∃ ls, Tryz.prog.keyLits (264 + 4) 101 [k, a, b, c] = some ls := by
        cases h2 : Tryz.prog.keyLits (264 + 4) 101 [k, a, b, c] with
        | none => simp only [Value.cells] at h; rw [h2] at h; cases h
        | some ls => exact ⟨ls, rfl⟩
      unfold Program.keyLits at h1
      rw [Tryz.underlying101] at h1
      simp only at h1
      obtain ⟨x, hx⟩ : ∃ x, Tryz.prog.keyLits (264 + 3) 3 [k] = some x := by
        cases h2 : Tryz.prog.keyLits (264 + 3) 3 [k] with
        | none => simp [cellsI, h2] at h1
        | some x => exact ⟨x, rfl⟩
      obtain ⟨y, hy⟩ : ∃ y, Tryz.prog.keyLits (264 + 3) 53 [a, b, c] = some y := by
        cases h2 : Tryz.prog.keyLits (264 + 3) 53 [a, b, c] with
        | none => simp [cellsI, cellsP, hx, h2] at h1
        | some x => exact ⟨x, rfl⟩
      obtain ⟨n, e1, hn⟩ := lits_int_inv (d := 264 + 2) hx
      obtain ⟨q, rfl, rfl, rfl, hq⟩ := place_lits_inv (d := 264) hy
      injection e1 with e1
      subst e1
      exact ⟨(n, q), rfl, hn, hq⟩
    | _ => simp [Value.formed, Tryz.underlying101] at hc
  · cases h
abbrev keS : KE Std := ⟨101, sdv, klS, Wf4⟩
theorem lawKS : KLaw keS := ⟨lawS, fun _ h => keyS_some h, fun _ _ h => keyS_inv h, fun x y e => by
  simp [sdv] at e
  exact Prod.ext e.1 (Prod.ext e.2.1 (Prod.ext e.2.2.1 e.2.2.2))⟩
end Go.Proofs.YtgbnjgenopdmfaaGreat

/- aim, tip, drop, warm, pass, shake walked. -/
namespace Go.Proofs.YtgbnjgenopdmfaaGreat
open Go.RowKit
abbrev acl (a : Acn) : List Value := [.int .i64 a.kind, .int .i64 a.pl.1, .int .i64 a.pl.2.1, .int .i64 a.pl.2.2, .string a.label, .int .i64 a.vol, .int .i64 a.value, .int .i64 a.time]
theorem tips_few {l : List Sit} (hd : dchk l = 0) : (tipsL l).length ≤ 4608 := by
  have := tipsTo_length hd 12
  rw [tipsTo_all] at this
  omega
def amV (b B : Nat) (ao : Option Addr) (cap : Nat) (l : List Sit) (a : Acn) (d : Nat) (v : Value) (_ : World) : Prop :=
  match d with
  | 9 => v = .pointer (some ⟨b, 0, none⟩)
  | 10 => v = .pointer (some ⟨b, 0, none⟩)
  | 11 => v = .pointer (some ⟨b, 0, none⟩)
  | 12 => v = .agg #[.slice ao l.length cap, .int .i64 ((tipsL l).length : Int), .int .i64 (tipM l)]
  | 13 => v = .pointer (some ⟨B, 1, none⟩)
  | 14 => v = .agg #[.int .i64 a.pl.1, .int .i64 a.pl.2.1, .int .i64 a.pl.2.2]
  | 15 => v = .tuple #[.int .i64 (wellM l a.pl).1, .int .i64 (wellM l a.pl).2]
  | 8 => v = .tuple #[.int .i64 (wellM l a.pl).1, .int .i64 (wellM l a.pl).2]
  | 16 => v = .int .i64 (wellM l a.pl).1
  | 17 => v = .int .i64 (wellM l a.pl).2
  | 6 => v = .int .i64 (wellM l a.pl).1
  | 7 => v = .int .i64 (wellM l a.pl).2
  | _ => True
theorem amV_mono (b B : Nat) (ao : Option Addr) (cap : Nat) (l : List Sit) (a : Acn) (d : Nat) (v : Value) (w w' : World) (h : amV b B ao cap l a d v w) (_ : Below w.heap.size w w') : amV b B ao cap l a d v w' := h
set_option maxHeartbeats 3200000 in
set_option maxRecDepth 100000 in
theorem aim_any (wB w : World) (ao : Option Addr) (cap : Nat) (l : List Sit) (b m md : Nat) (s : Sta) (a : Acn) (hB : Bn wB w ao cap l b m md s) :
    Calls Tryz.prog 142 #[ptr b, av a] w fun e w' => e = .returned (.tuple #[.int .i64 (aimR l a).1, .int .i64 (aimR l a).2]) ∧ Below w.heap.size w w' := by
  have HBN : Hid (Bn wB w ao cap l b m md s) := hB
  clear hB
  obtain ⟨w0, hw0⟩ : ∃ w0, w0 = w.alloc (aobj a) := ⟨_, rfl⟩
  have b0 : Below w.heap.size w w0 := by rw [hw0]; exact (Below.refl _ _).alloc (Nat.le_refl _) _
  have KA : Hid (Bk w.heap.size (acl a) w0) := by show Bk _ _ _; rw [hw0]; exact Bk.new w (acl a) 55 w.heap.size rfl
  have HB0 : Hid (Bn wB w0 ao cap l b m md s) := HBN.out.next b0
  have HW0 : Hid (w0 = w.alloc (aobj a)) := hw0
  clear hw0 b0
  obtain ⟨cw, aoH, capH, aoT, capT, K, hh, ht⟩ := HB0.out.bk
  have KB : Hid (Bk b (bcs ao cap l md m cw s aoH capH aoT capT) w0) := K
  have HH : Hid (Flx b m w0 aoH s.held) := hh
  have HT : Hid (Txx b m w0 aoT s.touched) := ht
  have hbw : b < w.heap.size := by obtain ⟨_, _, _, _, _, K', _⟩ := HBN.out.bk; exact K'.1
  have hbn : b ≠ w.heap.size := by omega
  have lt0 := KB.out.1
  clear K hh ht
  have HBW : Hid (Below w.heap.size w w0) := by show Below _ _ _; rw [HW0.out]; exact (Below.refl _ _).alloc (Nat.le_refl _) _
  have HQ : Hid (aimR l a = if (wellM l a.pl).2 = 0 then (if inR 1 1000000000 a.vol = true then ((wellM l a.pl).1, 0) else ((wellM l a.pl).1, 2)) else wellM l a.pl) := rfl
  go_enter Tryz.func142, Tryz.ntmps142
  go_wp2_with fail
  rename_i KK hkk
  have HKK := (show Hid _ from hkk)
  clear hkk
  rw [← HW0.out]
  refine region_seqE 12 [false, false, false, false, false, false, true, true, true, true, true, true, true, true, true, true, true, true, false, false, false, false, false, false, false, false, false, false]
    [(9, [], none), (10, [9], none), (11, [10], none), (12, [11], none), (13, [], none), (14, [13], none), (15, [12, 14], none), (8, [15], none), (16, [8], none), (17, [8], none), (6, [16], none), (7, [17], none)]
    (amV b w.heap.size ao cap l a) (by kernel_rfl) (by kernel_rfl) (by kernel_rfl) (by kernel_rfl) (by kernel_rfl) (by decide) (amV_mono b w.heap.size ao cap l a) ?_ ?_
  · refine ⟨?_, ?_, ?_, ?_, ?_, ?_, ?_, ?_, ?_, ?_, ?_, ?_, trivial⟩
    · intro f w1 hb _ K hK
      simp only [over, overL, Nat.reduceAdd]
      go_simp
      exact hK _ _ ⟨_, rfl, by simp only [over, overL, Nat.reduceAdd]; rfl, Below.refl _ _⟩
    · intro f w1 hb ⟨h9, _⟩ K hK
      replace h9 : f 9 = _ := h9
      simp only [over, overL, Nat.reduceAdd, h9]
      go_simp
      exact hK _ _ ⟨_, rfl, by simp only [over, overL, Nat.reduceAdd, h9]; rfl, Below.refl _ _⟩
    · intro f w1 hb ⟨h10, _⟩ K hK
      replace h10 : f 10 = _ := h10
      simp only [over, overL, Nat.reduceAdd, h10]
      go_simp
      exact hK _ _ ⟨_, rfl, by simp only [over, overL, Nat.reduceAdd, h10]; rfl, Below.refl _ _⟩
    · intro f w1 hb ⟨h11, _⟩ K hK
      replace h11 : f 11 = _ := h11
      have q0 := (KB.out.later hb).c 0 rfl
      have q1 := (KB.out.later hb).c 1 rfl
      have q2 := (KB.out.later hb).c 2 rfl
      simp only [over, overL, Nat.reduceAdd, h11]
      go_simp
      exact hK _ _ ⟨_, rfl, by simp only [over, overL, Nat.reduceAdd, h11]; rfl, Below.refl _ _⟩
    · intro f w1 hb _ K hK
      simp only [over, overL, Nat.reduceAdd]
      go_simp
      exact hK _ _ ⟨_, rfl, by simp only [over, overL, Nat.reduceAdd]; rfl, Below.refl _ _⟩
    · intro f w1 hb ⟨h13, _⟩ K hK
      replace h13 : f 13 = _ := h13
      have q1 := (KA.out.later hb).c 1 rfl
      have q2 := (KA.out.later hb).c 2 rfl
      have q3 := (KA.out.later hb).c 3 rfl
      simp only [over, overL, Nat.reduceAdd, h13]
      go_simp
      exact hK _ _ ⟨_, rfl, by simp only [over, overL, Nat.reduceAdd, h13]; rfl, Below.refl _ _⟩
    · intro f w1 hb ⟨h12, h14, _⟩ K hK
      replace h12 : f 12 = _ := h12
      replace h14 : f 14 = _ := h14
      simp only [over, overL, Nat.reduceAdd, h12, h14]
      go_simp
      refine (wellMost_any ao cap l a.pl w1 (HB0.out.next hb).dkw HB0.out.hd).mono ?_
      rintro e w2 ⟨rfl, hb2⟩
      exact hK _ _ ⟨_, rfl, by simp only [over, overL, Nat.reduceAdd, h12, h14]; rfl, hb2⟩
    · intro f w1 hb ⟨h15, _⟩ K hK
      replace h15 : f 15 = _ := h15
      simp only [over, overL, Nat.reduceAdd, h15]
      go_simp
      exact hK _ _ ⟨_, rfl, by simp only [over, overL, Nat.reduceAdd, h15]; rfl, Below.refl _ _⟩
    · intro f w1 hb ⟨h8, _⟩ K hK
      replace h8 : f 8 = _ := h8
      simp only [over, overL, Nat.reduceAdd, h8]
      go_simp
      exact hK _ _ ⟨_, rfl, by simp only [over, overL, Nat.reduceAdd, h8]; rfl, Below.refl _ _⟩
    · intro f w1 hb ⟨h8, _⟩ K hK
      replace h8 : f 8 = _ := h8
      simp only [over, overL, Nat.reduceAdd, h8]
      go_simp
      exact hK _ _ ⟨_, rfl, by simp only [over, overL, Nat.reduceAdd, h8]; rfl, Below.refl _ _⟩
    · intro f w1 hb ⟨h16, _⟩ K hK
      replace h16 : f 16 = _ := h16
      simp only [over, overL, Nat.reduceAdd, h16]
      go_simp
      exact hK _ _ ⟨_, rfl, by simp only [over, overL, Nat.reduceAdd, h16]; rfl, Below.refl _ _⟩
    · intro f w1 hb ⟨h17, _⟩ K hK
      replace h17 : f 17 = _ := h17
      simp only [over, overL, Nat.reduceAdd, h17]
      go_simp
      exact hK _ _ ⟨_, rfl, by simp only [over, overL, Nat.reduceAdd, h17]; rfl, Below.refl _ _⟩
  intro f w1 hb hv
  have h6 : f 6 = _ := hv.2.2.2.2.2.2.2.2.2.2.1
  have h7 : f 7 = _ := hv.2.2.2.2.2.2.2.2.2.2.2.1
  have KA1 : Hid (Bk w.heap.size (acl a) w1) := KA.out.later hb
  have HB1 : Hid (Below w.heap.size w w1) := HBW.out.trans (hb.mono HBW.out.size)
  clear hv hb
  simp only [List.drop, over, overL, Nat.reduceAdd, h6, h7]
  clear h6 h7
  go_wp2
  refine HKK.out _ _ ?_
  have q0 := (KA1.out).c 0 rfl
  have q1 := (KA1.out).c 1 rfl
  have q2 := (KA1.out).c 2 rfl
  have q3 := (KA1.out).c 3 rfl
  have q4 := (KA1.out).c 4 rfl
  have q5 := (KA1.out).c 5 rfl
  have q6 := (KA1.out).c 6 rfl
  have q7 := (KA1.out).c 7 rfl
  obtain ⟨⟨mo, e0⟩, hM⟩ : ∃ x, wellM l a.pl = x := ⟨_, rfl⟩
  rw [hM] at HQ ⊢
  simp only at HQ ⊢
  clear hM
  by_cases he : e0 = 0
  · subst he
    cases hv : inR 1 1000000000 a.vol with
    | true =>
      have HQ2 : Hid (aimR l a = (mo, 0)) := by show _ = _; rw [HQ.out, if_pos rfl, if_pos hv]
      go_wp2_with fail
      refine (mwithin_any 1 a.vol 1000000000 w1).mono ?_
      rintro e w2 ⟨rfl, rfl⟩
      rw [hv]
      go_wp2
      go_ret2
      exact ⟨by rw [HQ2.out]; rfl, HB1.out⟩
    | false =>
      have HQ2 : Hid (aimR l a = (mo, 2)) := by show _ = _; rw [HQ.out, if_pos rfl, if_neg (by rw [hv]; decide)]
      go_wp2_with fail
      refine (mwithin_any 1 a.vol 1000000000 w1).mono ?_
      rintro e w2 ⟨rfl, rfl⟩
      rw [hv]
      go_wp2
      go_ret2
      exact ⟨by rw [HQ2.out]; rfl, HB1.out⟩
  · have he2 : (e0 == 0) = false := by simp [he]
    have HQ2 : Hid (aimR l a = (mo, e0)) := by show _ = _; rw [HQ.out, if_neg he]
    clear he
    go_wp2
    go_ret2
    exact ⟨by rw [HQ2.out]; rfl, HB1.out⟩
theorem bn_tip {wB w : World} {ao : Option Addr} {cap : Nat} {l : List Sit} {b m md : Nat} {s : Sta} (h : Bn wB w ao cap l b m md s) (hq : tipA l s = ({ s with tip := true, used := s.used + 1 }, 0)) : Bn wB (((w).setCell ⟨b, 6, none⟩ (.bool true)).setCell ⟨b, 9, none⟩ (.int .i64 (s.used + 1))) ao cap l b m md (tipA l s).1 := by
  obtain ⟨cw, aoH, capH, aoT, capT, K, hh, ht⟩ := h.bk
  have hbut : But b m w (((w).setCell ⟨b, 6, none⟩ (.bool true)).setCell ⟨b, 9, none⟩ (.int .i64 (s.used + 1))) := (but_set b m (w) 6 (.bool true)).trans (but_set b m ((w).setCell ⟨b, 6, none⟩ (.bool true)) 9 (.int .i64 (s.used + 1)))
  obtain ⟨wl, hwm, hwl, hfl⟩ := h.wells
  have hmb : m ≠ b := fun e => h.ne.1 e.symm
  have hmay := (may_tip h.hd h.may (by rw [hq])).1
  rw [hq] at hmay ⊢
  have hwm2 : WM (((w).setCell ⟨b, 6, none⟩ (.bool true)).setCell ⟨b, 9, none⟩ (.int .i64 (s.used + 1))) m wl := hwm.same ((Below.heap_setCell ((w).setCell ⟨b, 6, none⟩ (.bool true)) ⟨b, 9, none⟩ (.int .i64 (s.used + 1)) m hmb).trans (Below.heap_setCell (w) ⟨b, 6, none⟩ (.bool true) m hmb))
  exact h.turned hbut hmay hwm2 hwl (fun x hx => (hfl x hx).but hbut) (cw := cw) (aoH := aoH) (capH := capH) (aoT := aoT) (capT := capT) (((K).put 6 (.bool true)).put 9 (.int .i64 (s.used + 1))) (hh.but hbut) (ht.but hbut)
theorem bn_drop {wB w : World} {ao : Option Addr} {cap : Nat} {l : List Sit} {b m md : Nat} {s : Sta} (h : Bn wB w ao cap l b m md s) (hq : dropA s = ({ s with tip := false, held := [], touched := [] }, 0)) : Bn wB ((((w).setCell ⟨b, 6, none⟩ (.bool false)).setCell ⟨b, 7, none⟩ (.slice none 0 0)).setCell ⟨b, 8, none⟩ (.slice none 0 0)) ao cap l b m md (dropA s).1 := by
  obtain ⟨cw, aoH, capH, aoT, capT, K, hh, ht⟩ := h.bk
  have hbut : But b m w ((((w).setCell ⟨b, 6, none⟩ (.bool false)).setCell ⟨b, 7, none⟩ (.slice none 0 0)).setCell ⟨b, 8, none⟩ (.slice none 0 0)) := ((but_set b m (w) 6 (.bool false)).trans (but_set b m ((w).setCell ⟨b, 6, none⟩ (.bool false)) 7 (.slice none 0 0))).trans (but_set b m (((w).setCell ⟨b, 6, none⟩ (.bool false)).setCell ⟨b, 7, none⟩ (.slice none 0 0)) 8 (.slice none 0 0))
  obtain ⟨wl, hwm, hwl, hfl⟩ := h.wells
  have hmb : m ≠ b := fun e => h.ne.1 e.symm
  have hmay := (may_drop h.may (by rw [hq])).1
  rw [hq] at hmay ⊢
  have hwm2 : WM ((((w).setCell ⟨b, 6, none⟩ (.bool false)).setCell ⟨b, 7, none⟩ (.slice none 0 0)).setCell ⟨b, 8, none⟩ (.slice none 0 0)) m wl := hwm.same ((Below.heap_setCell (((w).setCell ⟨b, 6, none⟩ (.bool false)).setCell ⟨b, 7, none⟩ (.slice none 0 0)) ⟨b, 8, none⟩ (.slice none 0 0) m hmb).trans ((Below.heap_setCell ((w).setCell ⟨b, 6, none⟩ (.bool false)) ⟨b, 7, none⟩ (.slice none 0 0) m hmb).trans (Below.heap_setCell (w) ⟨b, 6, none⟩ (.bool false) m hmb)))
  exact h.turned hbut hmay hwm2 hwl (fun x hx => (hfl x hx).but hbut) (cw := cw) (aoH := none) (capH := 0) (aoT := none) (capT := 0) ((((K).put 6 (.bool false)).put 7 (.slice none 0 0)).put 8 (.slice none 0 0)) ⟨⟨fun p hp => (by simp at hp), .inl rfl⟩, .inl rfl⟩ ⟨⟨fun p hp => (by simp at hp), .inl rfl⟩, .inl rfl⟩
theorem bn_warm {wB w : World} {ao : Option Addr} {cap : Nat} {l : List Sit} {b m md : Nat} {s : Sta} {a : Acn} (h : Bn wB w ao cap l b m md s) (hq : warmA s a = ({ s with heat := a.value }, 0)) : Bn wB ((w).setCell ⟨b, 10, none⟩ (.int .i64 a.value)) ao cap l b m md (warmA s a).1 := by
  obtain ⟨cw, aoH, capH, aoT, capT, K, hh, ht⟩ := h.bk
  have hbut : But b m w ((w).setCell ⟨b, 10, none⟩ (.int .i64 a.value)) := but_set b m (w) 10 (.int .i64 a.value)
  obtain ⟨wl, hwm, hwl, hfl⟩ := h.wells
  have hmb : m ≠ b := fun e => h.ne.1 e.symm
  have hmay := (may_warm h.may (by rw [hq])).1
  rw [hq] at hmay ⊢
  have hwm2 : WM ((w).setCell ⟨b, 10, none⟩ (.int .i64 a.value)) m wl := hwm.same (Below.heap_setCell (w) ⟨b, 10, none⟩ (.int .i64 a.value) m hmb)
  exact h.turned hbut hmay hwm2 hwl (fun x hx => (hfl x hx).but hbut) (cw := cw) (aoH := aoH) (capH := capH) (aoT := aoT) (capT := capT) ((K).put 10 (.int .i64 a.value)) (hh.but hbut) (ht.but hbut)
theorem bn_pass {wB w : World} {ao : Option Addr} {cap : Nat} {l : List Sit} {b m md : Nat} {s : Sta} {a : Acn} (h : Bn wB w ao cap l b m md s) (hq : passA s a = ({ s with clock := s.clock + a.time }, 0)) : Bn wB ((w).setCell ⟨b, 11, none⟩ (.int .i64 (s.clock + a.time))) ao cap l b m md (passA s a).1 := by
  obtain ⟨cw, aoH, capH, aoT, capT, K, hh, ht⟩ := h.bk
  have hbut : But b m w ((w).setCell ⟨b, 11, none⟩ (.int .i64 (s.clock + a.time))) := but_set b m (w) 11 (.int .i64 (s.clock + a.time))
  obtain ⟨wl, hwm, hwl, hfl⟩ := h.wells
  have hmb : m ≠ b := fun e => h.ne.1 e.symm
  have hmay := (may_pass h.may (by rw [hq])).1
  rw [hq] at hmay ⊢
  have hwm2 : WM ((w).setCell ⟨b, 11, none⟩ (.int .i64 (s.clock + a.time))) m wl := hwm.same (Below.heap_setCell (w) ⟨b, 11, none⟩ (.int .i64 (s.clock + a.time)) m hmb)
  exact h.turned hbut hmay hwm2 hwl (fun x hx => (hfl x hx).but hbut) (cw := cw) (aoH := aoH) (capH := capH) (aoT := aoT) (capT := capT) ((K).put 11 (.int .i64 (s.clock + a.time))) (hh.but hbut) (ht.but hbut)
set_option maxHeartbeats 3200000 in
set_option maxRecDepth 100000 in
theorem tip_any (wB w : World) (ao : Option Addr) (cap : Nat) (l : List Sit) (b m md : Nat) (s : Sta) (a : Acn) (hB : Bn wB w ao cap l b m md s) :
    Calls Tryz.prog 111 #[ptr b, av a] w fun e w' => e = .returned (.int .i64 (tipA l s).2) ∧ Bn wB w' ao cap l b m md (tipA l s).1 := by
  have HBN : Hid (Bn wB w ao cap l b m md s) := hB
  have HB0 : Hid (Bn wB (w.alloc (aobj a)) ao cap l b m md s) := hB.next ((Below.refl _ _).alloc (Nat.le_refl _) _)
  clear hB
  obtain ⟨cw, aoH, capH, aoT, capT, K, hh, ht⟩ := HBN.out.bk
  have KB : Hid (Bk b (bcs ao cap l md m cw s aoH capH aoT capT) w) := K
  have hbw := KB.out.1
  have hbn : b ≠ w.heap.size := by omega
  clear K hh ht
  have hfew := tips_few HB0.out.hd
  cases htp : s.tip with
  | true =>
    have HQ : Hid (tipA l s = (s, 12)) := by show _ = _; unfold tipA; rw [if_pos htp]
    have k0 := (KB.out).c 0 rfl
    have k1 := (KB.out).c 1 rfl
    have k2 := (KB.out).c 2 rfl
    have k3 := (KB.out).c 3 rfl
    have k4 := (KB.out).c 4 rfl
    have k5 := (KB.out).c 5 rfl
    have k6 := (KB.out).c 6 rfl
    have k7 := (KB.out).c 7 rfl
    have k8 := (KB.out).c 8 rfl
    have k9 := (KB.out).c 9 rfl
    have k10 := (KB.out).c 10 rfl
    have k11 := (KB.out).c 11 rfl
    rw [htp] at k6
    go_enter Tryz.func111, Tryz.ntmps111
    go_wp2
    go_ret
    exact ⟨by rw [HQ.out]; rfl, by rw [HQ.out]; exact HB0.out⟩
  | false =>
    have htk := HB0.out.may.take
    unfold mayTake at htk
    rw [if_neg (by rw [htp]; decide)] at htk
    simp only [Bool.and_eq_true, inR_iff] at htk
    have u0 := htk.1.1
    have u1 := htk.1.2
    clear htk
    by_cases hu : ((tipsL l).length : Int) ≤ s.used
    · have HQ : Hid (tipA l s = (s, 19)) := by show _ = _; unfold tipA; rw [if_neg (by rw [htp]; decide), if_pos hu]
      have hd : decide (((tipsL l).length : Int) ≤ s.used) = true := decide_eq_true hu
      have k0 := (KB.out).c 0 rfl
      have k1 := (KB.out).c 1 rfl
      have k2 := (KB.out).c 2 rfl
      have k3 := (KB.out).c 3 rfl
      have k4 := (KB.out).c 4 rfl
      have k5 := (KB.out).c 5 rfl
      have k6 := (KB.out).c 6 rfl
      have k7 := (KB.out).c 7 rfl
      have k8 := (KB.out).c 8 rfl
      have k9 := (KB.out).c 9 rfl
      have k10 := (KB.out).c 10 rfl
      have k11 := (KB.out).c 11 rfl
      rw [htp] at k6
      clear hu
      go_enter Tryz.func111, Tryz.ntmps111
      go_wp2_with fail
      go_big_quiet (fail)
      go_wp2
      go_ret
      exact ⟨by rw [HQ.out]; rfl, by rw [HQ.out]; exact HB0.out.next (blw_drewN (Below.refl _ _) _)⟩
    · have HQ : Hid (tipA l s = ({ s with tip := true, used := s.used + 1 }, 0)) := by show _ = _; unfold tipA; rw [if_neg (by rw [htp]; decide), if_neg hu]
      have hd : decide (((tipsL l).length : Int) ≤ s.used) = false := decide_eq_false hu
      have k0 := (KB.out).c 0 rfl
      have kf0 := (KB.out).f 0 rfl
      have k1 := (KB.out).c 1 rfl
      have kf1 := (KB.out).f 1 rfl
      have k2 := (KB.out).c 2 rfl
      have kf2 := (KB.out).f 2 rfl
      have k3 := (KB.out).c 3 rfl
      have kf3 := (KB.out).f 3 rfl
      have k4 := (KB.out).c 4 rfl
      have kf4 := (KB.out).f 4 rfl
      have k5 := (KB.out).c 5 rfl
      have kf5 := (KB.out).f 5 rfl
      have k6 := (KB.out).c 6 rfl
      have kf6 := (KB.out).f 6 rfl
      have k7 := (KB.out).c 7 rfl
      have kf7 := (KB.out).f 7 rfl
      have k8 := (KB.out).c 8 rfl
      have kf8 := (KB.out).f 8 rfl
      have k9 := (KB.out).c 9 rfl
      have kf9 := (KB.out).f 9 rfl
      have k10 := (KB.out).c 10 rfl
      have kf10 := (KB.out).f 10 rfl
      have k11 := (KB.out).c 11 rfl
      have kf11 := (KB.out).f 11 rfl
      rw [htp] at k6
      have hu2 : s.used < ((tipsL l).length : Int) := by omega
      have hwr : IntKind.i64.wrap (s.used + 1) = s.used + 1 := wrap_in (by omega) (by omega)
      clear hu
      go_enter Tryz.func111, Tryz.ntmps111
      go_wp2_with fail
      go_big_quiet (fail)
      go_wp2
      go_ret
      exact ⟨by rw [HQ.out]; rfl, bn_tip (HB0.out.next (blw_drewN (Below.refl _ _) _)) HQ.out⟩
set_option maxHeartbeats 3200000 in
set_option maxRecDepth 100000 in
theorem drop_any (wB w : World) (ao : Option Addr) (cap : Nat) (l : List Sit) (b m md : Nat) (s : Sta) (a : Acn) (hB : Bn wB w ao cap l b m md s) :
    Calls Tryz.prog 112 #[ptr b, av a] w fun e w' => e = .returned (.int .i64 (dropA s).2) ∧ Bn wB w' ao cap l b m md (dropA s).1 := by
  have HBN : Hid (Bn wB w ao cap l b m md s) := hB
  have HB0 : Hid (Bn wB (w.alloc (aobj a)) ao cap l b m md s) := hB.next ((Below.refl _ _).alloc (Nat.le_refl _) _)
  clear hB
  obtain ⟨cw, aoH, capH, aoT, capT, K, hh, ht⟩ := HBN.out.bk
  have KB : Hid (Bk b (bcs ao cap l md m cw s aoH capH aoT capT) w) := K
  have hbw := KB.out.1
  have hbn : b ≠ w.heap.size := by omega
  clear K hh ht
  cases htp : s.tip with
  | false =>
    have HQ : Hid (dropA s = (s, 12)) := by show _ = _; unfold dropA; rw [if_neg (by rw [htp]; decide)]
    have k0 := (KB.out).c 0 rfl
    have k1 := (KB.out).c 1 rfl
    have k2 := (KB.out).c 2 rfl
    have k3 := (KB.out).c 3 rfl
    have k4 := (KB.out).c 4 rfl
    have k5 := (KB.out).c 5 rfl
    have k6 := (KB.out).c 6 rfl
    have k7 := (KB.out).c 7 rfl
    have k8 := (KB.out).c 8 rfl
    have k9 := (KB.out).c 9 rfl
    have k10 := (KB.out).c 10 rfl
    have k11 := (KB.out).c 11 rfl
    rw [htp] at k6
    go_enter Tryz.func112, Tryz.ntmps112
    go_wp2
    go_ret
    exact ⟨by rw [HQ.out]; rfl, by rw [HQ.out]; exact HB0.out⟩
  | true =>
    have HQ : Hid (dropA s = ({ s with tip := false, held := [], touched := [] }, 0)) := by show _ = _; unfold dropA; rw [if_pos htp]
    have k0 := (KB.out).c 0 rfl
    have kf0 := (KB.out).f 0 rfl
    have k1 := (KB.out).c 1 rfl
    have kf1 := (KB.out).f 1 rfl
    have k2 := (KB.out).c 2 rfl
    have kf2 := (KB.out).f 2 rfl
    have k3 := (KB.out).c 3 rfl
    have kf3 := (KB.out).f 3 rfl
    have k4 := (KB.out).c 4 rfl
    have kf4 := (KB.out).f 4 rfl
    have k5 := (KB.out).c 5 rfl
    have kf5 := (KB.out).f 5 rfl
    have k6 := (KB.out).c 6 rfl
    have kf6 := (KB.out).f 6 rfl
    have k7 := (KB.out).c 7 rfl
    have kf7 := (KB.out).f 7 rfl
    have k8 := (KB.out).c 8 rfl
    have kf8 := (KB.out).f 8 rfl
    have k9 := (KB.out).c 9 rfl
    have kf9 := (KB.out).f 9 rfl
    have k10 := (KB.out).c 10 rfl
    have kf10 := (KB.out).f 10 rfl
    have k11 := (KB.out).c 11 rfl
    have kf11 := (KB.out).f 11 rfl
    rw [htp] at k6
    go_enter Tryz.func112, Tryz.ntmps112
    go_wp2
    go_ret
    refine ⟨by rw [HQ.out]; rfl, ?_⟩
    first | exact bn_drop HB0.out HQ.out | exact (bn_drop HBN.out HQ.out).next ((Below.refl _ _).alloc (by simp [World.setCell]) _)
set_option maxHeartbeats 3200000 in
set_option maxRecDepth 100000 in
theorem warm_any (wB w : World) (ao : Option Addr) (cap : Nat) (l : List Sit) (b m md : Nat) (s : Sta) (a : Acn) (hB : Bn wB w ao cap l b m md s) :
    Calls Tryz.prog 115 #[ptr b, av a] w fun e w' => e = .returned (.int .i64 (warmA s a).2) ∧ Bn wB w' ao cap l b m md (warmA s a).1 := by
  have HBN : Hid (Bn wB w ao cap l b m md s) := hB
  have HB0 : Hid (Bn wB (w.alloc (aobj a)) ao cap l b m md s) := hB.next ((Below.refl _ _).alloc (Nat.le_refl _) _)
  clear hB
  obtain ⟨cw, aoH, capH, aoT, capT, K, hh, ht⟩ := HBN.out.bk
  have KB : Hid (Bk b (bcs ao cap l md m cw s aoH capH aoT capT) w) := K
  have hbw := KB.out.1
  have hbn : b ≠ w.heap.size := by omega
  clear K hh ht
  have KA : Hid (Bk w.heap.size (acl a) (w.alloc (aobj a))) := by exact Bk.new w (acl a) 55 w.heap.size rfl
  cases hv : inR 0 1000000000 a.value with
  | false =>
    have HQ : Hid (warmA s a = (s, 2)) := by show _ = _; unfold warmA; rw [if_neg (by rw [hv]; decide)]
    go_enter Tryz.func115, Tryz.ntmps115
    go_wp2_with fail
    refine (mwithin_any 0 a.value 1000000000 _).mono ?_
    rintro e w2 ⟨rfl, rfl⟩
    rw [hv]
    go_wp2
    go_ret
    exact ⟨by rw [HQ.out]; rfl, by rw [HQ.out]; exact HB0.out⟩
  | true =>
    have HQ : Hid (warmA s a = ({ s with heat := a.value }, 0)) := by show _ = _; unfold warmA; rw [if_pos hv]
    have k0 := (KB.out).c 0 rfl
    have kf0 := (KB.out).f 0 rfl
    have k1 := (KB.out).c 1 rfl
    have kf1 := (KB.out).f 1 rfl
    have k2 := (KB.out).c 2 rfl
    have kf2 := (KB.out).f 2 rfl
    have k3 := (KB.out).c 3 rfl
    have kf3 := (KB.out).f 3 rfl
    have k4 := (KB.out).c 4 rfl
    have kf4 := (KB.out).f 4 rfl
    have k5 := (KB.out).c 5 rfl
    have kf5 := (KB.out).f 5 rfl
    have k6 := (KB.out).c 6 rfl
    have kf6 := (KB.out).f 6 rfl
    have k7 := (KB.out).c 7 rfl
    have kf7 := (KB.out).f 7 rfl
    have k8 := (KB.out).c 8 rfl
    have kf8 := (KB.out).f 8 rfl
    have k9 := (KB.out).c 9 rfl
    have kf9 := (KB.out).f 9 rfl
    have k10 := (KB.out).c 10 rfl
    have kf10 := (KB.out).f 10 rfl
    have k11 := (KB.out).c 11 rfl
    have kf11 := (KB.out).f 11 rfl
    go_enter Tryz.func115, Tryz.ntmps115
    go_wp2_with fail
    refine (mwithin_any 0 a.value 1000000000 _).mono ?_
    rintro e w2 ⟨rfl, rfl⟩
    rw [hv]
    go_wp2
    go_ret
    refine ⟨by rw [HQ.out]; rfl, ?_⟩
    first | exact bn_warm (a := a) HB0.out HQ.out | exact (bn_warm (a := a) HBN.out HQ.out).next ((Below.refl _ _).alloc (by simp [World.setCell]) _)
def psV (b B : Nat) (s : Sta) (a : Acn) (d : Nat) (v : Value) (_ : World) : Prop :=
  match d with
  | 18 => v = .pointer (some ⟨b, 0, none⟩)
  | 19 => v = .pointer (some ⟨b, 0, none⟩)
  | 20 => v = .pointer (some ⟨b, 5, none⟩)
  | 21 => v = .pointer (some ⟨b, 11, none⟩)
  | 22 => v = .int .i64 s.clock
  | 23 => v = .pointer (some ⟨B, 7, none⟩)
  | 24 => v = .int .i64 a.time
  | 25 => v = .int .i64 (s.clock + a.time)
  | _ => True
theorem psV_mono (b B : Nat) (s : Sta) (a : Acn) (d : Nat) (v : Value) (w w' : World) (h : psV b B s a d v w) (_ : Below w.heap.size w w') : psV b B s a d v w' := h
set_option maxHeartbeats 3200000 in
set_option maxRecDepth 100000 in
theorem pass_any (wB w : World) (ao : Option Addr) (cap : Nat) (l : List Sit) (b m md : Nat) (s : Sta) (a : Acn) (hB : Bn wB w ao cap l b m md s) :
    Calls Tryz.prog 116 #[ptr b, av a] w fun e w' => e = .returned (.int .i64 (passA s a).2) ∧ Bn wB w' ao cap l b m md (passA s a).1 := by
  have HBN : Hid (Bn wB w ao cap l b m md s) := hB
  have HB0 : Hid (Bn wB (w.alloc (aobj a)) ao cap l b m md s) := hB.next ((Below.refl _ _).alloc (Nat.le_refl _) _)
  clear hB
  obtain ⟨cw, aoH, capH, aoT, capT, K, hh, ht⟩ := HBN.out.bk
  have KB : Hid (Bk b (bcs ao cap l md m cw s aoH capH aoT capT) w) := K
  have hbw := KB.out.1
  have hbn : b ≠ w.heap.size := by omega
  clear K hh ht
  cases hv : inR 0 1000000000 a.time with
  | false =>
    have HQ : Hid (passA s a = (s, 2)) := by show _ = _; unfold passA; rw [if_neg (by rw [hv]; decide)]
    go_enter Tryz.func116, Tryz.ntmps116
    go_wp2_with fail
    refine (mwithin_any 0 a.time 1000000000 _).mono ?_
    rintro e w2 ⟨rfl, rfl⟩
    rw [hv]
    go_wp2
    go_ret
    exact ⟨by rw [HQ.out]; rfl, by rw [HQ.out]; exact HB0.out⟩
  | true =>
    have hcl := HBN.out.may.clock
    have hti := inR_iff.1 hv
    have hwr : IntKind.i64.wrap (s.clock + a.time) = s.clock + a.time := wrap_in (by omega) (by omega)
    by_cases hu : 1000000000 < s.clock + a.time
    · have HQ : Hid (passA s a = (s, 8)) := by show _ = _; unfold passA; rw [if_pos hv, if_pos hu]
      have hd : decide (1000000000 < s.clock + a.time) = true := decide_eq_true hu
      have k0 := (KB.out).c 0 rfl
      have k1 := (KB.out).c 1 rfl
      have k2 := (KB.out).c 2 rfl
      have k3 := (KB.out).c 3 rfl
      have k4 := (KB.out).c 4 rfl
      have k5 := (KB.out).c 5 rfl
      have k6 := (KB.out).c 6 rfl
      have k7 := (KB.out).c 7 rfl
      have k8 := (KB.out).c 8 rfl
      have k9 := (KB.out).c 9 rfl
      have k10 := (KB.out).c 10 rfl
      have k11 := (KB.out).c 11 rfl
      clear hu hcl hti
      go_enter Tryz.func116, Tryz.ntmps116
      go_wp2_with fail
      refine (mwithin_any 0 a.time 1000000000 _).mono ?_
      rintro e w2 ⟨rfl, rfl⟩
      rw [hv]
      go_wp2_with fail
      go_big_quiet (fail)
      go_wp2
      go_ret
      exact ⟨by rw [HQ.out]; rfl, by rw [HQ.out]; exact HB0.out.next (blw_drewN (Below.refl _ _) _)⟩
    · have HQ : Hid (passA s a = ({ s with clock := s.clock + a.time }, 0)) := by show _ = _; unfold passA; rw [if_pos hv, if_neg hu]
      have hd : decide (1000000000 < s.clock + a.time) = false := decide_eq_false hu
      have HWR : Hid (IntKind.i64.wrap (s.clock + a.time) = s.clock + a.time) := hwr
      have k0 := (KB.out).c 0 rfl
      have k1 := (KB.out).c 1 rfl
      have k2 := (KB.out).c 2 rfl
      have k3 := (KB.out).c 3 rfl
      have k4 := (KB.out).c 4 rfl
      have k5 := (KB.out).c 5 rfl
      have k6 := (KB.out).c 6 rfl
      have k7 := (KB.out).c 7 rfl
      have k8 := (KB.out).c 8 rfl
      have k9 := (KB.out).c 9 rfl
      have k10 := (KB.out).c 10 rfl
      have k11 := (KB.out).c 11 rfl
      clear hu hcl hti
      go_enter Tryz.func116, Tryz.ntmps116
      go_wp2_with fail
      refine (mwithin_any 0 a.time 1000000000 _).mono ?_
      rintro e w2 ⟨rfl, rfl⟩
      rw [hv]
      go_wp2_with fail
      go_big_quiet (fail)
      go_wp2_with fail
      rename_i KK hkk
      have HKK := (show Hid _ from hkk)
      clear hkk
      have KB0 : Hid (Bk b (bcs ao cap l md m cw s aoH capH aoT capT) (w.alloc (aobj a))) := KB.out.later ((Below.refl _ _).alloc (Nat.le_refl _) _)
      have KA0 : Hid (Bk w.heap.size (acl a) (w.alloc (aobj a))) := by exact Bk.new w (acl a) 55 w.heap.size rfl
      generalize hw3 : World.drewN (w.alloc (aobj a)) _ = w3
      have hb3 : Below (w.alloc (aobj a)).heap.size (w.alloc (aobj a)) w3 := by rw [← hw3]; exact blw_drewN (Below.refl _ _) _
      have KB1 : Hid (Bk b (bcs ao cap l md m cw s aoH capH aoT capT) w3) := KB0.out.later hb3
      have KA1 : Hid (Bk w.heap.size (acl a) w3) := KA0.out.later hb3
      have HB3 : Hid (Bn wB w3 ao cap l b m md s) := HB0.out.next hb3
      clear hw3 hb3 k0 k1 k2 k3 k4 k5 k6 k7 k8 k9 k10 k11
      refine region_seq 8 [false, false, false, false, false, false, false, false, false, false, false, false, false, false, false, false, false, false, true, true, true, true, true, true, true, true, false, false, false]
        [(18, [], none), (19, [18], none), (20, [19], none), (21, [20], none), (22, [21], none), (23, [], none), (24, [23], none), (25, [22, 24], none)]
        (psV b w.heap.size s a) (by kernel_rfl) (by kernel_rfl) (by kernel_rfl) (by kernel_rfl) (by kernel_rfl) (by decide) (psV_mono b w.heap.size s a) ?_ ?_
      · refine ⟨?_, ?_, ?_, ?_, ?_, ?_, ?_, ?_, trivial⟩
        · intro f w1 hb _ K hK
          simp only [over, overL, Nat.reduceAdd]
          go_simp
          exact hK _ _ ⟨_, rfl, by simp only [over, overL, Nat.reduceAdd]; rfl, Below.refl _ _⟩
        · intro f w1 hb ⟨h18, _⟩ K hK
          replace h18 : f 18 = _ := h18
          simp only [over, overL, Nat.reduceAdd, h18]
          go_simp
          exact hK _ _ ⟨_, rfl, by simp only [over, overL, Nat.reduceAdd, h18]; rfl, Below.refl _ _⟩
        · intro f w1 hb ⟨h19, _⟩ K hK
          replace h19 : f 19 = _ := h19
          simp only [over, overL, Nat.reduceAdd, h19]
          go_simp
          exact hK _ _ ⟨_, rfl, by simp only [over, overL, Nat.reduceAdd, h19]; rfl, Below.refl _ _⟩
        · intro f w1 hb ⟨h20, _⟩ K hK
          replace h20 : f 20 = _ := h20
          simp only [over, overL, Nat.reduceAdd, h20]
          go_simp
          exact hK _ _ ⟨_, rfl, by simp only [over, overL, Nat.reduceAdd, h20]; rfl, Below.refl _ _⟩
        · intro f w1 hb ⟨h21, _⟩ K hK
          replace h21 : f 21 = _ := h21
          have q11 := (KB1.out.later hb).c 11 rfl
          simp only [over, overL, Nat.reduceAdd, h21]
          go_simp
          exact hK _ _ ⟨_, rfl, by simp only [over, overL, Nat.reduceAdd, h21]; rfl, Below.refl _ _⟩
        · intro f w1 hb _ K hK
          simp only [over, overL, Nat.reduceAdd]
          go_simp
          exact hK _ _ ⟨_, rfl, by simp only [over, overL, Nat.reduceAdd]; rfl, Below.refl _ _⟩
        · intro f w1 hb ⟨h23, _⟩ K hK
          replace h23 : f 23 = _ := h23
          have q7 := (KA1.out.later hb).c 7 rfl
          simp only [over, overL, Nat.reduceAdd, h23]
          go_simp
          exact hK _ _ ⟨_, rfl, by simp only [over, overL, Nat.reduceAdd, h23]; rfl, Below.refl _ _⟩
        · intro f w1 hb ⟨h22, h24, _⟩ K hK
          replace h22 : f 22 = _ := h22
          replace h24 : f 24 = _ := h24
          have hwr := HWR.out
          simp only [over, overL, Nat.reduceAdd, h22, h24]
          go_simp
          exact hK _ _ ⟨_, rfl, by simp only [over, overL, Nat.reduceAdd, h22, h24]; rfl, Below.refl _ _⟩
      intro f w1 hb hv
      have h18 : f 18 = _ := hv.1
      have h25 : f 25 = _ := hv.2.2.2.2.2.2.2.1
      have HB4 : Hid (Bn wB w1 ao cap l b m md s) := HB3.out.next hb
      have KB2 : Hid (Bk b (bcs ao cap l md m cw s aoH capH aoT capT) w1) := KB1.out.later hb
      have k0 := (KB2.out).c 0 rfl
      have kf0 := (KB2.out).f 0 rfl
      have k1 := (KB2.out).c 1 rfl
      have kf1 := (KB2.out).f 1 rfl
      have k2 := (KB2.out).c 2 rfl
      have kf2 := (KB2.out).f 2 rfl
      have k3 := (KB2.out).c 3 rfl
      have kf3 := (KB2.out).f 3 rfl
      have k4 := (KB2.out).c 4 rfl
      have kf4 := (KB2.out).f 4 rfl
      have k5 := (KB2.out).c 5 rfl
      have kf5 := (KB2.out).f 5 rfl
      have k6 := (KB2.out).c 6 rfl
      have kf6 := (KB2.out).f 6 rfl
      have k7 := (KB2.out).c 7 rfl
      have kf7 := (KB2.out).f 7 rfl
      have k8 := (KB2.out).c 8 rfl
      have kf8 := (KB2.out).f 8 rfl
      have k9 := (KB2.out).c 9 rfl
      have kf9 := (KB2.out).f 9 rfl
      have k10 := (KB2.out).c 10 rfl
      have kf10 := (KB2.out).f 10 rfl
      have k11 := (KB2.out).c 11 rfl
      have kf11 := (KB2.out).f 11 rfl
      have lt1 := KB2.out.1
      clear hv hb
      simp only [List.drop, over, overL, Nat.reduceAdd, h18, h25]
      clear h18 h25
      go_wp2
      refine HKK.out _ _ ?_
      go_wp2
      go_ret
      exact ⟨by rw [HQ.out]; rfl, bn_pass (a := a) HB4.out HQ.out⟩
set_option maxHeartbeats 3200000 in
set_option maxRecDepth 100000 in
theorem shake_any (wB w : World) (ao : Option Addr) (cap : Nat) (l : List Sit) (b m md : Nat) (s : Sta) (a : Acn) (hB : Bn wB w ao cap l b m md s) :
    Calls Tryz.prog 117 #[ptr b, av a] w fun e w' => e = .returned (.int .i64 (shakeA s a).2) ∧ Bn wB w' ao cap l b m md (shakeA s a).1 := by
  have HBN : Hid (Bn wB w ao cap l b m md s) := hB
  have HB0 : Hid (Bn wB (w.alloc (aobj a)) ao cap l b m md s) := hB.next ((Below.refl _ _).alloc (Nat.le_refl _) _)
  clear hB
  obtain ⟨cw, aoH, capH, aoT, capT, K, hh, ht⟩ := HBN.out.bk
  have KB : Hid (Bk b (bcs ao cap l md m cw s aoH capH aoT capT) w) := K
  have hbw := KB.out.1
  have hbn : b ≠ w.heap.size := by omega
  clear K hh ht
  cases hv : inR 0 1000000000 a.value with
  | false =>
    have HQ : Hid (shakeA s a = (s, 2)) := by show _ = _; unfold shakeA; rw [if_neg (by rw [hv]; decide)]
    go_enter Tryz.func117, Tryz.ntmps117
    go_wp2_with fail
    refine (mwithin_any 0 a.value 1000000000 _).mono ?_
    rintro e w2 ⟨rfl, rfl⟩
    rw [hv]
    go_wp2
    go_ret
    exact ⟨by rw [HQ.out]; rfl, by rw [HQ.out]; exact HB0.out⟩
  | true =>
    have HQ : Hid (shakeA s a = passA s a) := by show _ = _; unfold shakeA; rw [if_pos hv]
    have k0 := (KB.out).c 0 rfl
    have k1 := (KB.out).c 1 rfl
    have k2 := (KB.out).c 2 rfl
    have k3 := (KB.out).c 3 rfl
    have k4 := (KB.out).c 4 rfl
    have k5 := (KB.out).c 5 rfl
    have k6 := (KB.out).c 6 rfl
    have k7 := (KB.out).c 7 rfl
    have k8 := (KB.out).c 8 rfl
    have k9 := (KB.out).c 9 rfl
    have k10 := (KB.out).c 10 rfl
    have k11 := (KB.out).c 11 rfl
    go_enter Tryz.func117, Tryz.ntmps117
    go_wp2_with fail
    refine (mwithin_any 0 a.value 1000000000 _).mono ?_
    rintro e w2 ⟨rfl, rfl⟩
    rw [hv]
    go_wp2_with fail
    refine (pass_any wB _ ao cap l b m md s a HB0.out).mono ?_
    rintro e w2 ⟨rfl, h2⟩
    have HB2 : Hid (Bn wB w2 ao cap l b m md (passA s a).1) := h2
    clear h2
    go_wp2
    go_ret
    exact ⟨by rw [HQ.out]; rfl, by rw [HQ.out]; exact HB2.out⟩
end Go.Proofs.YtgbnjgenopdmfaaGreat

/- fill walked. -/
namespace Go.Proofs.YtgbnjgenopdmfaaGreat
open Go.RowKit Go.Maps
/-- A fluid that lies apart from blocks b and m, as a value. -/
def Fr (b m : Nat) (ps : List F.Pc) (v : Value) (w : World) : Prop := ∃ ao cap, v = .slice ao ps.length cap ∧ Flx b m w ao ps
theorem Fr.later {b m : Nat} {ps : List F.Pc} {v : Value} {w w1 : World} (h : Fr b m ps v w) (hb : Below w.heap.size w w1) : Fr b m ps v w1 := by
  obtain ⟨ao, cap, e, hf⟩ := h
  exact ⟨ao, cap, e, hf.next hb⟩
def TF (b m : Nat) (ps : List F.Pc) (e : Int) (v : Value) (w : World) : Prop := ∃ x, v = .tuple #[x, .int .i64 e] ∧ Fr b m ps x w
theorem TF.later {b m : Nat} {ps : List F.Pc} {e : Int} {v : Value} {w w1 : World} (h : TF b m ps e v w) (hb : Below w.heap.size w w1) : TF b m ps e v w1 := by
  obtain ⟨x, h1, h2⟩ := h
  exact ⟨x, h1, h2.later hb⟩
def TG3 (b m : Nat) (ps qs : List F.Pc) (e : Int) (v : Value) (w : World) : Prop := ∃ x y, v = .tuple #[x, y, .int .i64 e] ∧ Fr b m ps x w ∧ Fr b m qs y w
theorem TG3.later {b m : Nat} {ps qs : List F.Pc} {e : Int} {v : Value} {w w1 : World} (h : TG3 b m ps qs e v w) (hb : Below w.heap.size w w1) : TG3 b m ps qs e v w1 := by
  obtain ⟨x, y, h1, h2, h3⟩ := h
  exact ⟨x, y, h1, h2.later hb, h3.later hb⟩
theorem tog_sizes (f g : List F.Pc) (m : Int) : ∀ p ∈ (togR f g m).1, p.1.size ≤ maxLen := by
  by_cases h : (togR f g m).2 = 0
  · exact F.fine_size (mayHold_iff.1 (mayHold_tog h)).1
  · have : (togR f g m).1 = [] := by
      unfold togR at h ⊢
      split at h
      · rename_i h1; rw [if_pos h1]
      · rename_i h1
        rw [if_neg h1]
        unfold F.putR at h ⊢
        repeat' split at h
        all_goals first | (exfalso; exact h rfl) | (repeat' split) <;> simp_all
    rw [this]
    intro p hp
    simp at hp
theorem draw_sizes (v : Int) (f : List F.Pc) : (∀ p ∈ (F.drawF v f).1, p.1.size ≤ maxLen) ∧ ∀ p ∈ (F.drawF v f).2.1, p.1.size ≤ maxLen := by
  by_cases h : (F.drawF v f).2.2 = 0
  · obtain ⟨h1, h2, h3, h4, h5⟩ := drawF_ok h
    obtain ⟨g1, g2⟩ := F.draw_fine h2 h1
    rw [h4, h5]
    exact ⟨F.fine_size g1, F.fine_size g2⟩
  · have : (F.drawF v f).1 = [] ∧ (F.drawF v f).2.1 = [] := by
      unfold F.drawF at h ⊢
      repeat' split at h
      all_goals first | (exfalso; exact h rfl) | (repeat' split) <;> simp_all
    rw [this.1, this.2]
    exact ⟨fun p hp => by simp at hp, fun p hp => by simp at hp⟩
theorem tog_fr (b m : Nat) (ao ao' : Option Addr) (cap cap' : Nat) (f g : List F.Pc) (mo : Int) (w : World) (h : F.Fl w ao f) (h' : F.Fl w ao' g) (hb : b < w.heap.size) (hm : m < w.heap.size) :
    Calls Tryz.prog 143 #[.slice ao f.length cap, .slice ao' g.length cap', .int .i64 mo] w fun e w' => ∃ v, e = .returned v ∧ TF b m (togR f g mo).1 (togR f g mo).2 v w' ∧ Below w.heap.size w w' := by
  refine (together_any ao ao' cap cap' f g mo w h h').mono ?_
  rintro e w' ⟨v, rfl, ho, hb'⟩
  exact ⟨_, rfl, ⟨v, rfl, flx_of ho (tog_sizes f g mo) hb hm⟩, hb'⟩
theorem draw_fr (b m : Nat) (ao : Option Addr) (cap : Nat) (ps : List F.Pc) (v : Int) (w : World) (h : F.Fl w ao ps) (hb : b < w.heap.size) (hm : m < w.heap.size) :
    Calls Tryz.prog 145 #[.slice ao ps.length cap, .int .i64 v] w fun e w' => ∃ x, e = .returned x ∧ TG3 b m (F.drawF v ps).1 (F.drawF v ps).2.1 (F.drawF v ps).2.2 x w' ∧ Below w.heap.size w w' := by
  refine (F.draw_any ao cap ps v w h).mono ?_
  rintro e w' ⟨x, y, rfl, h1, h2, hb'⟩
  exact ⟨_, rfl, ⟨x, y, rfl, flx_of h1 (draw_sizes v ps).1 hb hm, flx_of h2 (draw_sizes v ps).2 hb hm⟩, hb'⟩
theorem Bn.keptTo {wB w w1 : World} {ao : Option Addr} {cap : Nat} {l : List Sit} {b m md : Nat} {s s' : Sta} (h : Bn wB w ao cap l b m md s) {wl : List Wh} (hwl : whp wl = s.wells) (hfl : ∀ x ∈ wl, Flx b m w x.2.1 x.2.2.2) {p : Plc} {aof : Option Addr} {capf : Nat} {f : List F.Pc} (hbut : But b m w w1) (hwm : WM w1 m (setH wl p (aof, capf, f))) (hf : Flx b m w1 aof f) (hmay : May l s') (hs : s'.wells = wset s.wells p f)
    {cw : Option Addr × Nat × Nat} {aoH : Option Addr} {capH : Nat} {aoT : Option Addr} {capT : Nat} (hbk : Bk b (bcs ao cap l md m cw s' aoH capH aoT capT) w1) (hh : Flx b m w1 aoH s'.held) (ht : Txx b m w1 aoT s'.touched) : Bn wB w1 ao cap l b m md s' :=
  h.turned hbut hmay hwm (by rw [whp_setH, hwl, hs]) (fun x hx => by rcases mem_setH hx with rfl | hx; exact hf; exact (hfl x hx).but hbut) hbk hh ht
theorem flx_at {b m : Nat} {w : World} {wl : List Wh} (h : ∀ x ∈ wl, Flx b m w x.2.1 x.2.2.2) (p : Plc) : Flx b m w (fdAt wl p).1 (fdAt wl p).2.2 := by
  rcases fdAt_cases wl p with ⟨_, e⟩ | ⟨x, hx, _, e⟩
  · rw [e]
    exact ⟨⟨fun p hp => by simp at hp, .inl rfl⟩, .inl rfl⟩
  · rw [e]
    exact h x hx
theorem aim_ok {l : List Sit} {a : Acn} (h : (aimR l a).2 = 0) : (wellM l a.pl).2 = 0 := by
  unfold aimR at h
  split at h
  · assumption
  · exact h
def fiV (b B m c : Nat) (a : Acn) (mo : Int) (fw : F.Fd) (ps : List F.Pc) (e1 : Int) (d : Nat) (v : Value) (w : World) : Prop :=
  match d with
  | 31 => v = .pointer (some ⟨b, 0, none⟩)
  | 32 => v = .pointer (some ⟨b, 0, none⟩)
  | 33 => v = .pointer (some ⟨b, 4, none⟩)
  | 34 => v = .map (some m)
  | 35 => v = .pointer (some ⟨B, 1, none⟩)
  | 36 => v = .agg #[.int .i64 a.pl.1, .int .i64 a.pl.2.1, .int .i64 a.pl.2.2]
  | 37 => v = .slice fw.1 fw.2.2.length fw.2.1
  | 38 => v = .slice (some ⟨c, 0, none⟩) 1 1
  | 39 => v = .int .i64 mo
  | 40 => TF b m ps e1 v w
  | 30 => TF b m ps e1 v w
  | 41 => Fr b m ps v w
  | 42 => v = .int .i64 e1
  | 9 => Fr b m ps v w
  | 6 => v = .int .i64 e1
  | _ => True
theorem fiV_mono (b B m c : Nat) (a : Acn) (mo : Int) (fw : F.Fd) (ps : List F.Pc) (e1 : Int) (d : Nat) (v : Value) (w w' : World) (h : fiV b B m c a mo fw ps e1 d v w) (hb : Below w.heap.size w w') : fiV b B m c a mo fw ps e1 d v w' := by
  unfold fiV at h ⊢
  split <;> simp only [] at h <;> first | exact h | exact h.later hb
set_option maxHeartbeats 3200000 in
set_option maxRecDepth 100000 in
theorem fill_any (wB w : World) (ao : Option Addr) (cap : Nat) (l : List Sit) (b m md : Nat) (s : Sta) (a : Acn) (hB : Bn wB w ao cap l b m md s) (hlab : a.label.size ≤ maxLen) :
    Calls Tryz.prog 110 #[ptr b, av a] w fun e w' => e = .returned (.int .i64 (fillA l s a).2) ∧ Bn wB w' ao cap l b m md (fillA l s a).1 := by
  have HBN : Hid (Bn wB w ao cap l b m md s) := hB
  clear hB
  obtain ⟨w0, hw0⟩ : ∃ w0, w0 = w.alloc (aobj a) := ⟨_, rfl⟩
  have b0 : Below w.heap.size w w0 := by rw [hw0]; exact (Below.refl _ _).alloc (Nat.le_refl _) _
  have KA : Hid (Bk w.heap.size (acl a) w0) := by show Bk _ _ _; rw [hw0]; exact Bk.new w (acl a) 55 w.heap.size rfl
  have HB0 : Hid (Bn wB w0 ao cap l b m md s) := HBN.out.next b0
  have HW0 : Hid (w0 = w.alloc (aobj a)) := hw0
  clear hw0 b0
  obtain ⟨cw, aoH, capH, aoT, capT, K, hh, ht⟩ := HB0.out.bk
  have KB : Hid (Bk b (bcs ao cap l md m cw s aoH capH aoT capT) w0) := K
  have HH : Hid (Flx b m w0 aoH s.held) := hh
  have HT : Hid (Txx b m w0 aoT s.touched) := ht
  have hbw : b < w.heap.size := by obtain ⟨_, _, _, _, _, K', _⟩ := HBN.out.bk; exact K'.1
  have hbn : b ≠ w.heap.size := by omega
  have lt0 := KB.out.1
  clear K hh ht
  clear lt0
  have HLB : Hid (a.label.size ≤ maxLen) := hlab
  clear hlab
  go_enter Tryz.func110, Tryz.ntmps110
  go_wp2_with fail
  rw [← HW0.out]
  refine (aim_any wB w0 ao cap l b m md s a HB0.out).mono ?_
  rintro e w1 ⟨rfl, hb1⟩
  have HBB : Hid (Bn wB w1 ao cap l b m md s) := HB0.out.next hb1
  have KA1 : Hid (Bk w.heap.size (acl a) w1) := KA.out.later hb1
  have KB1 : Hid (Bk b (bcs ao cap l md m cw s aoH capH aoT capT) w1) := KB.out.later hb1
  have HH1 : Hid (Flx b m w1 aoH s.held) := HH.out.next hb1
  have HT1 : Hid (Txx b m w1 aoT s.touched) := HT.out.next hb1
  have ltA := KA1.out.1
  have ltB := KB1.out.1
  clear hb1
  have q0 := (KA1.out).c 0 rfl
  have q1 := (KA1.out).c 1 rfl
  have q2 := (KA1.out).c 2 rfl
  have q3 := (KA1.out).c 3 rfl
  have q4 := (KA1.out).c 4 rfl
  have q5 := (KA1.out).c 5 rfl
  have q6 := (KA1.out).c 6 rfl
  have q7 := (KA1.out).c 7 rfl
  obtain ⟨⟨mo, e0⟩, hM⟩ : ∃ x, aimR l a = x := ⟨_, rfl⟩
  have HA : Hid (aimR l a = (mo, e0)) := hM
  rw [hM]
  clear hM
  by_cases he : e0 = 0
  · subst he
    have HP : Hid (Wf3 a.pl) := wf_place HB0.out.hd (aim_ok (by rw [HA.out]))
    go_wp2_with fail
    have KC : Hid (Bk w1.heap.size [.string a.label, .int .i64 a.vol] (w1.alloc (.cells #[.string a.label, .int .i64 a.vol] 111))) := Bk.new w1 [.string a.label, .int .i64 a.vol] 111 w1.heap.size rfl
    have HB2 : Hid (Below w1.heap.size w1 (w1.alloc (.cells #[.string a.label, .int .i64 a.vol] 111))) := (Below.refl _ _).alloc (Nat.le_refl _) _
    have hpf : F.Fl (w1.alloc (.cells #[.string a.label, .int .i64 a.vol] 111)) (some ⟨w1.heap.size, 0, none⟩) [(a.label, a.vol)] := by
      refine ⟨fun p hp => by simp at hp; rw [hp]; exact HLB.out, .inr ⟨_, 0, rfl, KC.out.1, fun k hk => ?_⟩⟩
      have : k = 0 := by simp at hk; exact hk
      subst this
      exact ⟨KC.out.c 0 rfl, KC.out.c 1 rfl⟩
    have HPF := (show Hid _ from hpf)
    clear hpf
    refine (F.check_any (some ⟨w1.heap.size, 0, none⟩) 1 [(a.label, a.vol)] _ HPF.out).mono ?_
    rintro e w3 ⟨rfl, hb3⟩
    have hb13 : Below w1.heap.size w1 w3 := HB2.out.trans (hb3.mono HB2.out.size)
    have HB3 : Hid (Bn wB w3 ao cap l b m md s) := HBB.out.next hb13
    have KA3 : Hid (Bk w.heap.size (acl a) w3) := KA1.out.later hb13
    have KB3 : Hid (Bk b (bcs ao cap l md m cw s aoH capH aoT capT) w3) := KB1.out.later hb13
    have HH3 : Hid (Flx b m w3 aoH s.held) := HH1.out.next hb13
    have HT3 : Hid (Txx b m w3 aoT s.touched) := HT1.out.next hb13
    have HP3 : Hid (F.Fl w3 (some ⟨w1.heap.size, 0, none⟩) [(a.label, a.vol)]) := F.Fl.next HPF.out hb3
    clear HPF HB2 KC hb13 hb3 HBB KA1 KB1 HH1 HT1 q0 q1 q2 q3 q4 q5 q6 q7
    obtain ⟨e2, hcq⟩ : ∃ e2, F.fref [(a.label, a.vol)] = e2 := ⟨_, rfl⟩
    have HCK : Hid (F.fref [(a.label, a.vol)] = e2) := hcq
    rw [hcq]
    clear hcq
    by_cases hc : e2 = 0
    · subst hc
      go_wp2_with fail
      rename_i KK hkk
      have HKK := (show Hid _ from hkk)
      clear hkk
      obtain ⟨wl, hwm, hwl, hfl⟩ := HB3.out.wells
      obtain ⟨fw, hfw⟩ : ∃ x, fdAt wl a.pl = x := ⟨_, rfl⟩
      have hff := flx_at hfl a.pl
      rw [hfw] at hff
      have HFF : Hid (Flx b m w3 fw.1 fw.2.2) := hff
      have HLK : Hid (∀ W, Below w3.heap.size w3 W → (Instr.lookup 93 (.map (some m)) (plv a.pl) false).run Tryz.prog W = .ok (.slice fw.1 fw.2.2.length fw.2.1) W) := fun W hW => by
        have := (hwm.next hW).look HP.out
        rw [hfw] at this
        exact this
      have HWF : Hid (wellF s.wells a.pl = fw.2.2) := by show _ = _; rw [← hwl, ← fdAt_whp, hfw]
      have HWM : Hid (WM w3 m wl) := hwm
      have HWL : Hid (whp wl = s.wells) := hwl
      have HFL : Hid (∀ x ∈ wl, Flx b m w3 x.2.1 x.2.2.2) := hfl
      have HML : Hid (m < w3.heap.size) := hwm.lt
      obtain ⟨⟨ps, e1⟩, htq⟩ : ∃ x, togR fw.2.2 [(a.label, a.vol)] mo = x := ⟨_, rfl⟩
      have HTQ : Hid (togR fw.2.2 [(a.label, a.vol)] mo = (ps, e1)) := htq
      have HTG : Hid (∀ W, Below w3.heap.size w3 W → Calls Tryz.prog 143 #[.slice fw.1 fw.2.2.length fw.2.1, .slice (some ⟨w1.heap.size, 0, none⟩) 1 1, .int .i64 mo] W fun e w' => ∃ v, e = .returned v ∧ TF b m ps e1 v w' ∧ Below W.heap.size W w') := fun W hW => by
        have := tog_fr b m fw.1 (some ⟨w1.heap.size, 0, none⟩) fw.2.1 1 fw.2.2 [(a.label, a.vol)] mo W (HFF.out.next hW).1 (HP3.out.next hW) (Nat.lt_of_lt_of_le KB3.out.1 hW.size) (Nat.lt_of_lt_of_le HML.out hW.size)
        rw [HTQ.out] at this
        exact this
      clear hwm hwl hfl hfw hff htq
      refine region_seqE 15 [false, false, false, false, false, false, true, false, false, true, false, false, false, false, false, false, false, false, false, false, false, false, false, false, false, false, false, false, false, false, true, true, true, true, true, true, true, true, true, true, true, true, true, false, false, false, false, false, false, false, false]
        [(31, [], none), (32, [31], none), (33, [32], none), (34, [33], none), (35, [], none), (36, [35], none), (37, [34, 36], none), (38, [], none), (39, [], none), (40, [37, 38, 39], none), (30, [40], none), (41, [30], none), (42, [30], none), (9, [41], none), (6, [42], none)]
        (fiV b w.heap.size m w1.heap.size a mo fw ps e1) (by kernel_rfl) (by kernel_rfl) (by kernel_rfl) (by kernel_rfl) (by kernel_rfl) (by decide) (fiV_mono b w.heap.size m w1.heap.size a mo fw ps e1) ?_ ?_
      · refine ⟨?_, ?_, ?_, ?_, ?_, ?_, ?_, ?_, ?_, ?_, ?_, ?_, ?_, ?_, ?_, trivial⟩
        · intro f w1 hb _ K hK
          simp only [over, overL, Nat.reduceAdd]
          go_simp
          exact hK _ _ ⟨_, rfl, by simp only [over, overL, Nat.reduceAdd]; rfl, Below.refl _ _⟩
        · intro f w1 hb ⟨h31, _⟩ K hK
          replace h31 : f 31 = _ := h31
          simp only [over, overL, Nat.reduceAdd, h31]
          go_simp
          exact hK _ _ ⟨_, rfl, by simp only [over, overL, Nat.reduceAdd, h31]; rfl, Below.refl _ _⟩
        · intro f w1 hb ⟨h32, _⟩ K hK
          replace h32 : f 32 = _ := h32
          simp only [over, overL, Nat.reduceAdd, h32]
          go_simp
          exact hK _ _ ⟨_, rfl, by simp only [over, overL, Nat.reduceAdd, h32]; rfl, Below.refl _ _⟩
        · intro f w1 hb ⟨h33, _⟩ K hK
          replace h33 : f 33 = _ := h33
          have q4 := (KB3.out.later hb).c 4 rfl
          simp only [over, overL, Nat.reduceAdd, h33]
          go_simp
          exact hK _ _ ⟨_, rfl, by simp only [over, overL, Nat.reduceAdd, h33]; rfl, Below.refl _ _⟩
        · intro f w1 hb _ K hK
          simp only [over, overL, Nat.reduceAdd]
          go_simp
          exact hK _ _ ⟨_, rfl, by simp only [over, overL, Nat.reduceAdd]; rfl, Below.refl _ _⟩
        · intro f w1 hb ⟨h35, _⟩ K hK
          replace h35 : f 35 = _ := h35
          have q1 := (KA3.out.later hb).c 1 rfl
          have q2 := (KA3.out.later hb).c 2 rfl
          have q3 := (KA3.out.later hb).c 3 rfl
          simp only [over, overL, Nat.reduceAdd, h35]
          go_simp
          exact hK _ _ ⟨_, rfl, by simp only [over, overL, Nat.reduceAdd, h35]; rfl, Below.refl _ _⟩
        · intro f w1 hb ⟨h34, h36, _⟩ K hK
          replace h34 : f 34 = _ := h34
          replace h36 : f 36 = _ := h36
          have ql := HLK.out w1 hb
          simp only [over, overL, Nat.reduceAdd, h34, h36]
          go_simp
          exact hK _ _ ⟨_, rfl, by simp only [over, overL, Nat.reduceAdd, h34, h36]; rfl, Below.refl _ _⟩
        · intro f w1 hb _ K hK
          simp only [over, overL, Nat.reduceAdd]
          go_simp
          exact hK _ _ ⟨_, rfl, by simp only [over, overL, Nat.reduceAdd]; rfl, Below.refl _ _⟩
        · intro f w1 hb _ K hK
          simp only [over, overL, Nat.reduceAdd]
          go_simp
          exact hK _ _ ⟨_, rfl, by simp only [over, overL, Nat.reduceAdd]; rfl, Below.refl _ _⟩
        · intro f w1 hb ⟨h37, h38, h39, _⟩ K hK
          replace h37 : f 37 = _ := h37
          replace h38 : f 38 = _ := h38
          replace h39 : f 39 = _ := h39
          simp only [over, overL, Nat.reduceAdd, h37, h38, h39]
          go_simp
          refine ((HTG.out w1 hb).mono) ?_
          rintro e w2 ⟨x, rfl, ht, hb2⟩
          exact hK _ _ ⟨_, ht, by simp only [over, overL, Nat.reduceAdd, h37, h38, h39]; rfl, hb2⟩
        · intro f w1 hb ⟨h40, _⟩ K hK
          simp only [over, overL, Nat.reduceAdd]
          go_simp
          exact hK _ _ ⟨_, h40, by simp only [over, overL, Nat.reduceAdd]; rfl, Below.refl _ _⟩
        · intro f w1 hb ⟨h30, _⟩ K hK
          obtain ⟨x, h30, hx⟩ := h30
          simp only [over, overL, Nat.reduceAdd, h30]
          go_simp
          exact hK _ _ ⟨_, hx, by simp only [over, overL, Nat.reduceAdd, h30]; rfl, Below.refl _ _⟩
        · intro f w1 hb ⟨h30, _⟩ K hK
          obtain ⟨x, h30, hx⟩ := h30
          simp only [over, overL, Nat.reduceAdd, h30]
          go_simp
          exact hK _ _ ⟨_, rfl, by simp only [over, overL, Nat.reduceAdd, h30]; rfl, Below.refl _ _⟩
        · intro f w1 hb ⟨h41, _⟩ K hK
          simp only [over, overL, Nat.reduceAdd]
          go_simp
          exact hK _ _ ⟨_, h41, by simp only [over, overL, Nat.reduceAdd]; rfl, Below.refl _ _⟩
        · intro f w1 hb ⟨h42, _⟩ K hK
          replace h42 : f 42 = _ := h42
          simp only [over, overL, Nat.reduceAdd, h42]
          go_simp
          exact hK _ _ ⟨_, rfl, by simp only [over, overL, Nat.reduceAdd, h42]; rfl, Below.refl _ _⟩
      intro f w4 hb hv
      have h6 : f 6 = _ := hv.2.2.2.2.2.2.2.2.2.2.2.2.2.2.1
      have h9 : Fr b m ps (f 9) w4 := hv.2.2.2.2.2.2.2.2.2.2.2.2.2.1
      obtain ⟨aof, capf, h9, hf⟩ := h9
      have HF4 : Hid (Flx b m w4 aof ps) := hf
      have HB4 : Hid (Bn wB w4 ao cap l b m md s) := HB3.out.next hb
      have KA4 : Hid (Bk w.heap.size (acl a) w4) := KA3.out.later hb
      have KB4 : Hid (Bk b (bcs ao cap l md m cw s aoH capH aoT capT) w4) := KB3.out.later hb
      have HH4 : Hid (Flx b m w4 aoH s.held) := HH3.out.next hb
      have HT4 : Hid (Txx b m w4 aoT s.touched) := HT3.out.next hb
      have HWM4 : Hid (WM w4 m wl) := HWM.out.next hb
      have HFL4 : Hid (∀ x ∈ wl, Flx b m w4 x.2.1 x.2.2.2) := fun x hx => (HFL.out x hx).next hb
      clear hv hb hf HB3 KA3 KB3 HH3 HT3 HWM HFL HFF HLK HTG HP3
      simp only [List.drop, over, overL, Nat.reduceAdd, h6, h9]
      clear h6 h9
      go_wp2
      refine HKK.out _ _ ?_
      have q0 := (KA4.out).c 0 rfl
      have q1 := (KA4.out).c 1 rfl
      have q2 := (KA4.out).c 2 rfl
      have q3 := (KA4.out).c 3 rfl
      have q4 := (KA4.out).c 4 rfl
      have q5 := (KA4.out).c 5 rfl
      have q6 := (KA4.out).c 6 rfl
      have q7 := (KA4.out).c 7 rfl
      by_cases h1 : e1 = 0
      · subst h1
        have HQ : Hid (fillA l s a = ({ s with wells := wset s.wells a.pl ps }, 0)) := by
          show _ = _
          simp only [fillA, HA.out, HWF.out, HCK.out, HTQ.out]
          simp
        obtain ⟨hon, hfew⟩ := HB4.out.once HWL.out
        go_wp2_with fail
        refine (keep_any b m _ _ _ _ _ _ _ _ _ _ _ wl a.pl aof capf ps w4 KB4.out HWM4.out hon hfew HP.out).mono ?_
        rintro e w5 ⟨rfl, hwm, hg⟩
        have HWM5 : Hid (WM w5 m (setH wl a.pl (aof, capf, ps))) := hwm
        have HG : Hid (w4.grownBy w5 (some m)) := hg
        clear hwm hg hon hfew q0 q1 q2 q3 q4 q5 q6 q7
        go_wp2
        go_ret
        have hmay := (may_fill HB4.out.may (by rw [HQ.out] : (fillA l s a).2 = 0)).1
        rw [HQ.out] at hmay ⊢
        have hbut : But b m w4 w5 := but_grown HG.out
        exact ⟨rfl, HB4.out.keptTo HWL.out HFL4.out hbut HWM5.out (HF4.out.but hbut) hmay rfl (cw := cw) (KB4.out.same HG.out.size (HG.out.block b KB4.out.1 (by simpa using HB4.out.ne.1))) (HH4.out.but hbut) (HT4.out.but hbut)⟩
      · have h2 : (e1 == 0) = false := by simp [h1]
        have h3 : (e1 != 0) = true := by simp [h1]
        have HQ : Hid (fillA l s a = (s, e1)) := by
          show _ = _
          simp only [fillA, HA.out, HWF.out, HCK.out, HTQ.out]
          simp [h1]
        clear h1
        go_wp2
        go_ret
        exact ⟨by rw [HQ.out]; rfl, by rw [HQ.out]; exact HB4.out⟩
    · have h2 : (e2 == 0) = false := by simp [hc]
      have h3 : (e2 != 0) = true := by simp [hc]
      have HQ : Hid (fillA l s a = (s, e2)) := by
        show _ = _
        simp only [fillA, HA.out, HCK.out]
        simp [hc]
      clear hc
      go_wp2
      go_ret
      exact ⟨by rw [HQ.out]; rfl, by rw [HQ.out]; exact HB3.out⟩
  · have h2 : (e0 == 0) = false := by simp [he]
    have h3 : (e0 != 0) = true := by simp [he]
    have HQ : Hid (fillA l s a = (s, e0)) := by
      show _ = _
      simp only [fillA, HA.out]
      simp [he]
    clear he
    go_wp2
    go_ret
    exact ⟨by rw [HQ.out]; rfl, by rw [HQ.out]; exact HBB.out⟩
end Go.Proofs.YtgbnjgenopdmfaaGreat
