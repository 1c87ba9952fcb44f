import Derived.Test.YtcajifelbldjnaaGreatHr
import Derived.Test.YtcajifelbldjnaaGreatHg
import Derived.Shelf.Abstract
import Derived.Test.YtcajifelbldjnaaGreatHp
import Derived.Test.YtcajifelbldjnaaGreatHh

/- refusal walked. -/
namespace Go.Proofs.YtcajifelbldjnaaGreat.S
open Go.RowKit
abbrev bo (a : Bx) : Obj := .cells #[.int .i64 a.lx, .int .i64 a.ly, .int .i64 a.lz, .int .i64 a.hx, .int .i64 a.hy, .int .i64 a.hz] 35
abbrev bp (a : Bx) : Obj := .cells #[.int .i64 a.lx, .int .i64 a.ly, .int .i64 a.lz, .int .i64 a.hx, .int .i64 a.hy, .int .i64 a.hz] 29
abbrev po (p : Pt) : Obj := .cells #[.int .i64 p.x, .int .i64 p.y, .int .i64 p.z] 29
/-- Both ends of a box. -/
theorem near2 (a : Bx) (W : World) (n : Nat) (hn : n = W.heap.size) : Calls Tryz.prog 60 #[.slice (some ⟨n, 0, none⟩) 2 2] (W.alloc (bp a)) fun e w' => e = .returned (.bool (nearB a)) ∧ Below (W.alloc (bp a)).heap.size (W.alloc (bp a)) w' := by
  subst hn
  exact (isNear_any W.heap.size 2 [a.lo, a.hi] _ (Pts.two W a.lo a.hi) (by simp)).mono fun e w' ⟨he, hb⟩ => ⟨by rw [he]; exact ret_bool (by simp [nearB]), hb⟩
/-- A point. -/
theorem near1 (p : Pt) (W : World) (n : Nat) (hn : n = W.heap.size) : Calls Tryz.prog 60 #[.slice (some ⟨n, 0, none⟩) 1 1] (W.alloc (po p)) fun e w' => e = .returned (.bool (nearP p)) ∧ Below (W.alloc (po p)).heap.size (W.alloc (po p)) w' := by
  subst hn
  exact (isNear_any W.heap.size 1 [p] _ (Pts.one W p) (by simp)).mono fun e w' ⟨he, hb⟩ => ⟨by rw [he]; exact ret_bool (by simp), hb⟩

set_option maxHeartbeats 3200000 in
theorem refusal_any (ao : Option Addr) (cap : Nat) (l : List Bx) (w : World) (hL : Bxs w ao l) (hl : l.length ≤ 100) :
    Calls Tryz.prog 59 #[.slice ao l.length cap] w fun e w' => e = .returned (.int .i64 (badL l)) ∧ Below w.heap.size w w' := by
  have HL : Hid (Bxs w ao l) := hL
  clear hL
  go_enter Tryz.func59, Tryz.ntmps59
  go_wp2
  go_loopw [7] (fun i wr => ∃ k : Nat, k ≤ l.length ∧ i = .int .i64 k ∧ (∀ b ∈ l.take k, bad1 b = 0) ∧ Below w.heap.size w wr) (fun i _ => l.length - (intOf i).toNat)
  case atStart => exact ⟨0, Nat.zero_le _, rfl, (fun f hf => by simp at hf), Below.refl _ _⟩
  case round =>
    obtain ⟨k, hk, rfl, hok, hb⟩ := hrel
    obtain ⟨w1, rfl⟩ : ∃ w1, w1 = wr := ⟨_, rfl⟩
    have HB : Hid (Below w.heap.size w w1) := hb
    have HO : Hid (∀ b ∈ l.take k, bad1 b = 0) := hok
    clear hb hok
    by_cases hlt : k < l.length
    · obtain ⟨b, off, rfl, hbx⟩ := (HL.out.next HB.out).at hlt
      have HHit : Hid (bad1 (l[k]'hlt) ≠ 0 → badL l = bad1 (l[k]'hlt)) := badL_at hlt HO.out
      have HMiss : Hid (bad1 (l[k]'hlt) = 0 → ∀ b ∈ l.take (k + 1), bad1 b = 0) := take_succ_all hlt HO.out
      generalize l[k]'hlt = a at *
      obtain ⟨_, c0, c1, c2, c3, c4, c5⟩ := hbx
      have HB2 : Hid (Below w.heap.size w ((w1.alloc (bo a)).alloc (bp a))) :=
        below_grow _ (Nat.le_refl _) (below_grow _ (Nat.le_refl _) HB.out _) _
      cases hn : nearB a with
      | false =>
        have HBad : Hid (bad1 a = 2) := bad1_far hn
        go_wp2_with fail
        refine (near2 a (w1.alloc (bo a)) (w1.heap.size + 1) (by simp)).mono ?_
        rintro e w2 ⟨rfl, hb2⟩
        rw [hn]
        go_wp2
        go_ret
        exact ⟨ret_int (by rw [HHit.out (by rw [HBad.out]; decide), HBad.out]), HB2.out.trans (hb2.mono HB2.out.size)⟩
      | true =>
        go_wp2_with fail
        refine (near2 a (w1.alloc (bo a)) (w1.heap.size + 1) (by simp)).mono ?_
        rintro e w2 ⟨rfl, hb2⟩
        rw [hn]
        have HB3 : Hid (Below w.heap.size w w2) := HB2.out.trans (hb2.mono HB2.out.size)
        have e0 : w2.cell? ⟨w1.heap.size, 0, none⟩ = some (.int .i64 a.lx) := cell_later hb2 (by go_simp)
        have e1 : w2.cell? ⟨w1.heap.size, 1, none⟩ = some (.int .i64 a.ly) := cell_later hb2 (by go_simp)
        have e2 : w2.cell? ⟨w1.heap.size, 2, none⟩ = some (.int .i64 a.lz) := cell_later hb2 (by go_simp)
        have e3 : w2.cell? ⟨w1.heap.size, 3, none⟩ = some (.int .i64 a.hx) := cell_later hb2 (by go_simp)
        have e4 : w2.cell? ⟨w1.heap.size, 4, none⟩ = some (.int .i64 a.hy) := cell_later hb2 (by go_simp)
        have e5 : w2.cell? ⟨w1.heap.size, 5, none⟩ = some (.int .i64 a.hz) := cell_later hb2 (by go_simp)
        clear hb2 c0 c1 c2 c3 c4 c5
        cases ho : atMost a.lo a.hi with
        | false =>
          have HBad : Hid (bad1 a = 1) := bad1_form hn ho
          go_wp2_with fail
          refine (isOrdered_any a _).mono ?_
          rintro e w3 ⟨rfl, hb3⟩
          rw [ho]
          go_wp2
          go_ret
          exact ⟨ret_int (by rw [HHit.out (by rw [HBad.out]; decide), HBad.out]), HB3.out.trans (hb3.mono HB3.out.size)⟩
        | true =>
          have HBad : Hid (bad1 a = 0) := bad1_ok.2 ⟨hn, ho⟩
          go_wp2_with fail
          refine (isOrdered_any a _).mono ?_
          rintro e w3 ⟨rfl, hb3⟩
          rw [ho]
          go_wp2
          go_roundw
          case rel => exact ⟨k + 1, by omega, by go_num, HMiss.out HBad.out, HB3.out.trans (hb3.mono HB3.out.size)⟩
          case measure => simp [intOf]; omega
    · go_wp2
      go_ret
      exact ⟨ret_int (badL_zero.2 fun b hb => HO.out b (by rw [List.take_of_length_le (by omega)]; exact hb)).symm, HB.out⟩
/-- One box, or two, in a slice of the call's own. -/
theorem refusal1 (a : Bx) (W : World) (n : Nat) (hn : n = W.heap.size) : Calls Tryz.prog 59 #[.slice (some ⟨n, 0, none⟩) 1 1] (W.alloc (bo a)) fun e w' => e = .returned (.int .i64 (bad1 a)) ∧ Below (W.alloc (bo a)).heap.size (W.alloc (bo a)) w' := by
  subst hn
  exact (refusal_any _ 1 [a] _ (Bxs.one W a) (by simp)).mono fun e w' ⟨he, hb⟩ => ⟨by rw [he, badL_one], hb⟩
abbrev bo2 (a b : Bx) : Obj := .cells #[.int .i64 a.lx, .int .i64 a.ly, .int .i64 a.lz, .int .i64 a.hx, .int .i64 a.hy, .int .i64 a.hz, .int .i64 b.lx, .int .i64 b.ly, .int .i64 b.lz, .int .i64 b.hx, .int .i64 b.hy, .int .i64 b.hz] 35
theorem refusal2 (a b : Bx) (W : World) (n : Nat) (hn : n = W.heap.size) : Calls Tryz.prog 59 #[.slice (some ⟨n, 0, none⟩) 2 2] (W.alloc (bo2 a b)) fun e w' => e = .returned (.int .i64 (badL [a, b])) ∧ Below (W.alloc (bo2 a b)).heap.size (W.alloc (bo2 a b)) w' := by
  subst hn
  exact refusal_any _ 2 [a, b] _ (Bxs.two W a b) (by simp)

end Go.Proofs.YtcajifelbldjnaaGreat.S

/- Regions that draw their order, with a word on all slots. -/
namespace Go.Proofs.YtcajifelbldjnaaGreat.S
open Go.RowKit
section
variable (P : Program) (Q : Exit → Act → World → Prop) (a : Act) (m : List Bool) (V : Nat → Value → World → Prop) (J : (Nat → Value) → World → Prop) (w0 : World)
/-- What an operation must do, in whatever world it comes up. -/
def DoesJ (o : Oper) (d : Nat) (f : Nat → Value) (w : World) : Prop :=
  ∀ K : Act → World → Prop, (∀ a' w', (∃ v, V d v w' ∧ a' = (over a m f).put (some d) v ∧ Below w.heap.size w w' ∧ J (upd f d v) w') → K a' w') → o.wp P (over a m f) w K Q
def OblJ (o : Oper) (p : Nat × List Nat × Option (Nat × Bool)) : Prop :=
  ∀ f w, Below w0.heap.size w0 w → J f w → AllV V f w p.2.1 → match p.2.2 with
    | none => DoesJ P Q a m V J o p.1 f w
    | some (s, b) => (f s = .bool b → DoesJ P Q a m V J o p.1 f w) ∧ (f s ≠ .bool b → V p.1 undef w ∧ J (upd f p.1 undef) w)
def OblsJ : List Oper → Plan → Prop
  | o :: l, p :: q => OblJ P Q a m V J w0 o p ∧ OblsJ l q
  | _, _ => True
end
theorem oblsJ_at {P : Program} {Q : Exit → Act → World → Prop} {a : Act} {m : List Bool} {V : Nat → Value → World → Prop} {J : (Nat → Value) → World → Prop} {w0 : World} : ∀ {l : List Oper} {q : Plan}, OblsJ P Q a m V J w0 l q → ∀ {i : Nat} {o : Oper} {p}, l[i]? = some o → q[i]? = some p → OblJ P Q a m V J w0 o p
  | [], _, _, _, _, _, h, _ => by simp at h
  | _ :: _, [], _, _, _, _, _, h => by simp at h
  | o :: l, p :: q, h, 0, _, _, ho, hp => by simp at ho hp; subst ho; subst hp; exact h.1
  | o :: l, p :: q, h, i + 1, _, _, ho, hp => oblsJ_at h.2 (i := i) (by simpa using ho) (by simpa using hp)
/-- What holds while the region goes on. -/
def InvJ (a : Act) (m : List Bool) (V : Nat → Value → World → Prop) (J : (Nat → Value) → World → Prop) (w0 : World) (ops : Array Oper) (listed : Array Bool) (a' : Act) (w : World) : Prop :=
  ∃ f, a' = over a m f ∧ Below w0.heap.size w0 w ∧ J f w ∧ ∀ (i : Nat) (o : Oper) (d : Nat), ops[i]? = some o → o.dst = some d → listed[i]? = some true → V d (f d) w

section
variable {P : Program} {Q : Exit → Act → World → Prop} {a : Act} {m : List Bool} {V : Nat → Value → World → Prop} {J : (Nat → Value) → World → Prop} {w0 : World} {ops : Array Oper} {plan : Plan} {k : Nat}
/-- The step of an operation ahead of the stores. -/
theorem seqJ_step (hmono : ∀ d v w w', V d v w → Below w.heap.size w w' → V d v w') (hnd : nodupB (plan.map (·.1)) = true) (hall : planAll ops m a.tmps.size (ops.toList.take k) plan = true) (hob : OblsJ P Q a m V J w0 (ops.toList.take k) plan)
    {listed : Array Bool} {i : Nat} (hik : i < k) (hsu : ∀ j, k ≤ j → listed[j]? ≠ some true) (hi : i ∈ Region.ready .any ops listed) {a' : Act} {w : World} (h : InvJ a m V J w0 ops listed a' w) :
    wpOp P ops Q i (fun a2 w2 => InvJ a m V J w0 ops (listed.setIfInBounds i true) a2 w2) a' w := by
  obtain ⟨hlt, hun, hpre⟩ := ready_pre hi
  obtain ⟨o, ho⟩ : ∃ o, ops[i]? = some o := ⟨ops[i], by simp [hlt]⟩
  have hpre := hpre o ho
  have hoL : (ops.toList.take k)[i]? = some o := by rw [List.getElem?_take, if_pos hik]; simpa using ho
  obtain ⟨p, hp, h1⟩ := planAll_at hall hoL
  have hO := oblsJ_at hob hoL hp
  simp only [planOne, Bool.and_eq_true] at h1
  obtain ⟨⟨⟨⟨hd, hm⟩, hdn⟩, hps⟩, hg⟩ := h1
  have hd' : o.dst = some p.1 := by simpa using hd
  have hm' := getD_true hm
  obtain ⟨f, rfl, hb, hJ, hV⟩ := h
  have hav : ∀ l : List Nat, (∀ d ∈ l, d ∈ p.2.1) → AllV V f w l := by
    intro l
    induction l with
    | nil => intro _; trivial
    | cons d l ih =>
      intro hl
      refine ⟨?_, ih fun x hx => hl x (by simp [hx])⟩
      have h2 := List.all_eq_true.1 hps d (hl d (by simp))
      obtain ⟨e, he, h3⟩ := Array.any_eq_true'.1 h2
      simp only [Bool.and_eq_true] at h3
      have h5 : (ops[e.on]?).bind (·.dst) = some d := by simpa using h3.2
      obtain ⟨oe, hoe, hde⟩ := Option.bind_eq_some_iff.1 h5
      exact hV e.on oe d hoe hde (hpre e he h3.1)
  have hav := hav p.2.1 fun _ h => h
  have hfin : ∀ v w2, V p.1 v w2 → Below w.heap.size w w2 → J (upd f p.1 v) w2 → InvJ a m V J w0 ops (listed.setIfInBounds i true) ((over a m f).put (some p.1) v) w2 := by
    intro v w2 hv hb2 hj2
    refine ⟨upd f p.1 v, over_put a m f p.1 v hm', hb.trans (hb2.mono hb.size), hj2, ?_⟩
    intro j oj d hj hdj hlj
    by_cases e : j = i
    · subst e
      rw [ho] at hj; cases hj
      rw [hd'] at hdj; cases hdj
      rw [upd_same]; exact hv
    · have hlj2 : listed[j]? = some true := by simpa [Array.getElem?_setIfInBounds, Ne.symm e] using hlj
      have hjk : j < k := by
        by_cases h : j < k
        · exact h
        · exact absurd hlj2 (hsu j (by omega))
      have hne : d ≠ p.1 := by
        intro e2; subst e2
        obtain ⟨pj, hpj, h1j⟩ := planAll_at hall (i := j) (o := oj) (by rw [List.getElem?_take, if_pos hjk]; simpa using hj)
        simp only [planOne, Bool.and_eq_true] at h1j
        have hdj2 : oj.dst = some pj.1 := by simpa using h1j.1.1.1.1
        rw [hdj] at hdj2
        refine e (nodup_at hnd (i := j) (j := i) (d := p.1) ?_ ?_)
        · simp only [List.getElem?_map, hpj, Option.map_some, Option.some.injEq]; exact (Option.some.inj hdj2).symm
        · simp only [List.getElem?_map, hp, Option.map_some]
      rw [upd_other hne]
      exact hmono _ _ _ _ (hV j oj d hj hdj hlj2) hb2
  have hDoes : DoesJ P Q a m V J o p.1 f w → o.wp P (over a m f) w (fun a2 w2 => InvJ a m V J w0 ops (listed.setIfInBounds i true) a2 w2) Q := fun hD =>
    hD _ fun a2 w2 ⟨v, hv, ha, hb2, hj2⟩ => by subst ha; exact hfin v w2 hv hb2 hj2
  have hO := hO f w hb hJ hav
  unfold wpOp
  rw [ho]
  simp only
  cases hgo : o.guard with
  | none =>
    rw [hgo] at hg
    have hw : Region.wanted o (yielded ops (over a m f).tmps) = true := by simp [Region.wanted, hgo]
    rw [if_pos hw]
    cases hp2 : p.2.2 with
    | none => rw [hp2] at hO; exact .inl (hDoes hO)
    | some x => rw [hp2] at hg; simp at hg
  | some jb =>
    obtain ⟨j, b⟩ := jb
    rw [hgo] at hg
    cases hp2 : p.2.2 with
    | none => rw [hp2] at hg; simp at hg
    | some sb =>
      obtain ⟨s, b'⟩ := sb
      rw [hp2] at hg hO
      simp only [Bool.and_eq_true] at hg
      obtain ⟨⟨⟨hs, hbb⟩, hms⟩, hsn⟩ := hg
      have hbb : b = b' := by simpa using hbb
      subst hbb
      have hs : (ops[j]?).bind (·.dst) = some s := by simpa using hs
      have hgs : (over a m f).tmps[s]? = some (f s) := by
        have := overL_at f m 0 s a.tmps.toList (getD_true hms) (by simpa using hsn)
        simpa [over] using this
      have hy : yielded ops (over a m f).tmps j = match f s with | .bool x => some x | _ => none := by
        unfold yielded
        rw [hs]
        simp only [Option.bind_some, hgs]
        cases f s <;> rfl
      by_cases hw : f s = .bool b
      · have : Region.wanted o (yielded ops (over a m f).tmps) = true := by simp [Region.wanted, hgo, hy, hw]
        rw [if_pos this]
        exact .inl (hDoes (hO.1 hw))
      · have : ¬ Region.wanted o (yielded ops (over a m f).tmps) = true := by
          simp only [Region.wanted, hgo, hy, beq_iff_eq]
          cases e : f s <;> simp
          rename_i x
          intro e2; subst e2; exact hw e
        rw [if_neg this, hd']
        exact hfin _ _ (hO.2 hw).1 (Below.refl _ _) (hO.2 hw).2

/-- Where the region stands. -/
def StJ (P : Program) (Q : Exit → Act → World → Prop) (a : Act) (m : List Bool) (V : Nat → Value → World → Prop) (J : (Nat → Value) → World → Prop) (w0 : World) (ops : Array Oper) (k : Nat) (listed : Array Bool) (a' : Act) (w : World) : Prop :=
  Closed ops listed ∧ (((∀ j, k ≤ j → listed[j]? ≠ some true) ∧ InvJ a m V J w0 ops listed a' w) ∨ ∃ i, k ≤ i ∧ (∀ j, j < ops.size → (listed[j]? = some true ↔ j < i)) ∧ wpList P ops Q (ops.toList.drop i) a' w)

theorem seqJ_any (hmono : ∀ d v w w', V d v w → Below w.heap.size w w' → V d v w') (hback : backB 0 ops.toList = true) (hnd : nodupB (plan.map (·.1)) = true) (hall : planAll ops m a.tmps.size (ops.toList.take k) plan = true) (hseq : seqB ops k = true) (hk : k ≤ ops.size)
    (hob : OblsJ P Q a m V J w0 (ops.toList.take k) plan) (hsuf : ∀ f w, Below w0.heap.size w0 w → J f w → AllP V f w plan → wpList P ops Q (ops.toList.drop k) (over a m f) w) :
    ∀ (fuel : Nat) (listed : Array Bool) (a' : Act) (w : World), listed.size = ops.size → listed.toList.count false ≤ fuel → StJ P Q a m V J w0 ops k listed a' w → wpAny P .any ops Q fuel listed a' w := by
  have hcov : ∀ {listed : Array Bool}, Closed ops listed → ∀ {i : Nat}, i ∈ Region.ready .any ops listed → k ≤ i → ∀ j, j < i → listed[j]? = some true := by
    intro listed hc i hi hki j hj
    obtain ⟨hlt, _, hp⟩ := ready_pre hi
    unfold seqB at hseq
    have h1 := List.all_eq_true.1 hseq i (by simpa using hlt)
    rw [Bool.or_eq_true] at h1
    rcases h1 with h1 | h1
    · simp at h1; omega
    · exact covers_listed hc _ i j hp (List.all_eq_true.1 h1 j (by simpa using hj))
  have htoSuf : ∀ {listed : Array Bool} {a' : Act} {w : World}, InvJ a m V J w0 ops listed a' w → (∀ j, j < k → listed[j]? = some true) → wpList P ops Q (ops.toList.drop k) a' w := by
    rintro listed a' w ⟨f, rfl, hb, hJ, hV⟩ hl
    refine hsuf f w hb hJ (allP_of hall fun i o d ho hd => ?_)
    have hik : i < k := by
      by_cases h : i < k
      · exact h
      · rw [List.getElem?_take, if_neg h] at ho; cases ho
    rw [List.getElem?_take, if_pos hik] at ho
    exact hV i o d (by simpa using ho) hd (hl i hik)
  have hend : ∀ (listed : Array Bool) (a' : Act) (w : World), listed.size = ops.size → StJ P Q a m V J w0 ops k listed a' w → Region.ready .any ops listed = [] → Q .normal a' w := by
    rintro listed a' w hsz ⟨_, h⟩ hr
    have hal := all_listed hback hsz hr
    rcases h with ⟨hs, hI⟩ | ⟨i, hki, hl, hw⟩
    · have hks : k = ops.size := by
        by_cases h : k < ops.size
        · exact absurd (hal k h) (hs k (Nat.le_refl _))
        · omega
      have := htoSuf hI fun j hj => hal j (by omega)
      rw [List.drop_eq_nil_of_le (by simp; omega)] at this
      exact this
    · have : ops.size ≤ i := by
        by_cases h : i < ops.size
        · have := (hl i h).1 (hal i h); omega
        · omega
      rw [List.drop_eq_nil_of_le (by simpa using this)] at hw
      exact hw
  have hstepL : ∀ {listed : Array Bool} {a' : Act} {w : World} {i : Nat}, i < ops.size → k ≤ i → (∀ j, j < ops.size → (listed[j]? = some true ↔ j < i)) → Closed ops (listed.setIfInBounds i true) → listed.size = ops.size → wpList P ops Q (ops.toList.drop i) a' w →
      wpOp P ops Q i (fun a2 w2 => StJ P Q a m V J w0 ops k (listed.setIfInBounds i true) a2 w2) a' w := by
    intro listed a' w i hi hki hl hc hsz hw
    have hd : ops.toList.drop i = ops[i] :: ops.toList.drop (i + 1) := by
      rw [List.drop_eq_getElem_cons (by simpa using hi)]; simp
    have hnext : ∀ a2 w2, wpList P ops Q (ops.toList.drop (i + 1)) a2 w2 → StJ P Q a m V J w0 ops k (listed.setIfInBounds i true) a2 w2 := fun a2 w2 h =>
      ⟨hc, .inr ⟨i + 1, by omega, fun j hj => by
        rw [Array.getElem?_setIfInBounds]
        by_cases e : i = j
        · subst e; rw [if_pos rfl, if_pos (by omega)]; simp
        · rw [if_neg e, hl j hj]; omega, h⟩⟩
    rw [hd] at hw
    unfold wpList at hw
    unfold wpOp
    rw [show ops[i]? = some ops[i] by simp [hi]]
    simp only
    split
    · rename_i hwn
      rw [if_pos hwn] at hw
      exact hw.imp (Oper.wp_mono hnext) id
    · rename_i hwn
      rw [if_neg hwn] at hw
      exact hnext _ _ hw
  intro fuel
  induction fuel with
  | zero =>
    intro listed a' w hsz hc hI
    have hr : Region.ready .any ops listed = [] := by
      rw [List.eq_nil_iff_forall_not_mem]
      intro i hi
      obtain ⟨hlt, h1, _⟩ := ready_pre hi
      have h0 : listed.toList.count false = 0 := by omega
      rw [List.count_eq_zero] at h0
      have hlt2 : i < listed.size := by omega
      simp only [Array.getD_eq_getD_getElem?, Array.getElem?_eq_getElem hlt2, Option.getD_some] at h1
      exact h0 (by rw [← h1]; simp)
    exact ⟨hr, hend listed a' w hsz hI hr⟩
  | succ fuel ih =>
    intro listed a' w hsz hc hI
    refine ⟨hend listed a' w hsz hI, fun i hi => ?_⟩
    have hrp := ready_pre hi
    have hlt2 : i < listed.size := by omega
    have h1 := hrp.2.1
    simp only [Array.getD_eq_getD_getElem?, Array.getElem?_eq_getElem hlt2, Option.getD_some] at h1
    have hcount : (listed.setIfInBounds i true).toList.count false ≤ fuel := by
      have hl : i < listed.toList.length := by simpa using hlt2
      have h2 : listed.toList[i] = false := by simpa using h1
      rw [Array.toList_setIfInBounds, List.count_set hl, h2]
      have hp : 0 < listed.toList.count false := List.count_pos_iff.2 (by rw [← h2]; exact List.getElem_mem _)
      rw [if_pos (by rfl), if_neg (by decide)]
      omega
    have hnl : listed[i]? ≠ some true := by rw [Array.getElem?_eq_getElem hlt2, h1]; simp
    refine wpOp_mono (K := fun a2 w2 => StJ P Q a m V J w0 ops k (listed.setIfInBounds i true) a2 w2) (fun a2 w2 h2 => ih _ _ _ (by simpa using hsz) hcount h2) ?_
    obtain ⟨hcl, hS⟩ := hI
    have hcl2 := closed_next hcl hi
    rcases hS with ⟨hsu, hI⟩ | ⟨i0, hki, hl, hw⟩
    · by_cases hik : i < k
      · refine wpOp_mono (fun a2 w2 h2 => ⟨hcl2, .inl ⟨fun j hj => ?_, h2⟩⟩) (seqJ_step hmono hnd hall hob hik hsu hi hI)
        rw [Array.getElem?_setIfInBounds, if_neg (by omega)]
        exact hsu j hj
      · have hlow := hcov hcl hi (by omega)
        have he : i = k := by
          by_cases h : i = k
          · exact h
          · exact absurd (hlow k (by omega)) (hsu k (Nat.le_refl _))
        subst he
        refine hstepL hrp.1 (Nat.le_refl _) (fun j hj => ⟨fun h => ?_, fun h => hlow j h⟩) hcl2 hsz (htoSuf hI hlow)
        by_cases h2 : j < i
        · exact h2
        · exact absurd h (hsu j (by omega))
    · have hge : i0 ≤ i := by
        by_cases h : i < i0
        · exact absurd ((hl i hrp.1).2 h) hnl
        · omega
      have hlow := hcov hcl hi (by omega)
      have he : i = i0 := by
        by_cases h : i = i0
        · exact h
        · have := (hl i0 (by omega)).1 (hlow i0 (by omega)); omega
      subst he
      exact hstepL hrp.1 hki hl hcl2 hsz hw

/-- A region that draws its order and ends in stores. -/
theorem region_seqJ {id : Nat} (k : Nat) (m : List Bool) (plan : Plan) (V : Nat → Value → World → Prop) (J : (Nat → Value) → World → Prop) (hJ0 : ∀ w, Below w0.heap.size w0 w → J (fun k => (a.tmps.toList[k]?).getD undef) w) (hmix : P.follows .mixedOrders = true) (hback : backB 0 ops.toList = true) (hnd : nodupB (plan.map (·.1)) = true) (hall : planAll ops m a.tmps.size (ops.toList.take k) plan = true)
    (hseq : seqB ops k = true) (hk : k ≤ ops.size) (hmono : ∀ d v w w', V d v w → Below w.heap.size w w' → V d v w') (hob : OblsJ P Q a m V J w0 (ops.toList.take k) plan)
    (hsuf : ∀ f w, Below w0.heap.size w0 w → J f w → AllP V f w plan → wpList P ops Q (ops.toList.drop k) (over a m f) w) : (Code.region id ops true).wp P Q a w0 := by
  refine wp_region_any hmix (seqJ_any hmono hback hnd hall hseq hk hob hsuf _ _ _ _ (by simp) (by simp) ⟨?_, .inl ⟨?_, fun k => (a.tmps.toList[k]?).getD undef, (over_start a m).symm, ⟨rfl, rfl, rfl, Nat.le_refl _, fun _ _ => rfl⟩, hJ0 _ ⟨rfl, rfl, rfl, Nat.le_refl _, fun _ _ => rfl⟩, ?_⟩⟩)
  · intro i o _ h
    simp [Array.getElem?_replicate] at h
  · intro j _ h
    simp [Array.getElem?_replicate] at h
  · intro i o d _ _ h
    simp [Array.getElem?_replicate] at h
end
end Go.Proofs.YtcajifelbldjnaaGreat.S

/- join walked. -/
namespace Go.Proofs.YtcajifelbldjnaaGreat.S
open Go.RowKit
theorem over_eq (a : Act) (m : List Bool) (f : Nat → Value) : over a m f = { tmps := (overL f m 0 a.tmps.toList).toArray, defers := a.defers } := rfl
abbrev ptr (b : Nat) : Value := .pointer (some ⟨b, 0, none⟩)
/-- Two slots hold two blocks. -/
def Apart (s t : Nat) (f : Nat → Value) (w : World) : Prop :=
  (∀ b, f s = ptr b → b < w.heap.size) ∧ (∀ b, f t = ptr b → b < w.heap.size) ∧ (∀ b, f s = ptr b → f t = ptr b → False)
theorem Apart.other {s t d : Nat} {f : Nat → Value} {w w' : World} {v : Value} (h : Apart s t f w) (hs : s ≠ d) (ht : t ≠ d) (hb : Below w.heap.size w w') : Apart s t (upd f d v) w' := by
  unfold Apart
  rw [upd_other hs, upd_other ht]
  exact ⟨fun b e => Nat.lt_of_lt_of_le (h.1 b e) hb.size, fun b e => Nat.lt_of_lt_of_le (h.2.1 b e) hb.size, h.2.2⟩
theorem Apart.left {s t : Nat} {f : Nat → Value} {w : World} {o : Obj} (h : Apart s t f w) (hst : t ≠ s) : Apart s t (upd f s (ptr w.heap.size)) (w.alloc o) := by
  unfold Apart
  rw [upd_same, upd_other hst]
  refine ⟨fun b e => ?_, fun b e => ?_, fun b e e2 => ?_⟩
  · simp at e; subst e; simp
  · have := h.2.1 b e; simp; omega
  · simp at e; subst e; have := h.2.1 _ e2; omega
theorem Apart.right {s t : Nat} {f : Nat → Value} {w : World} {o : Obj} (h : Apart s t f w) (hst : s ≠ t) : Apart s t (upd f t (ptr w.heap.size)) (w.alloc o) := by
  unfold Apart
  rw [upd_same, upd_other hst]
  refine ⟨fun b e => ?_, fun b e => ?_, fun b e e2 => ?_⟩
  · have := h.1 b e; simp; omega
  · simp at e; subst e; simp
  · simp at e2; subst e2; have := h.1 _ e; omega

/-- The number of a point at a place. -/
def Pt.at (p : Pt) : Nat → Int
  | 0 => p.x
  | 1 => p.y
  | _ => p.z
/-- Three numbers in a block, not frozen. -/
structure Arr (b : Nat) (A : Nat → Int) (w : World) : Prop where
  lt : b < w.heap.size
  cell : ∀ j, j < 3 → w.cell? ⟨b, j, none⟩ = some (.int .i64 (A j))
  free : ∀ j, j < 3 → w.frozen? ⟨b, j, none⟩ = false
theorem Arr.later {b : Nat} {A : Nat → Int} {w w' : World} (h : Arr b A w) (hb : Below w.heap.size w w') : Arr b A w' :=
  ⟨Nat.lt_of_lt_of_le h.lt hb.size, fun j hj => cell_later hb (h.cell j hj), fun j hj => (hb.frozen (p := ⟨b, j, none⟩) h.lt).trans (h.free j hj)⟩
theorem Arr.set {b : Nat} {A : Nat → Int} {w : World} (h : Arr b A w) {k : Nat} (hk : k < 3) (v : Int) : Arr b (fun j => if j = k then v else A j) (w.setCell ⟨b, k, none⟩ (.int .i64 v)) := by
  refine ⟨by simpa using h.lt, fun j hj => ?_, fun j hj => ?_⟩
  · have c := h.cell j hj
    have c2 := h.cell k hk
    by_cases e : j = k
    · subst e; simp [go_sem, c]
    · simp [go_sem, c, e]
  · have c := h.free j hj
    simp [go_sem, c]
theorem Arr.other {b b' : Nat} {A : Nat → Int} {w : World} (h : Arr b A w) (hn : b ≠ b') (k : Nat) (v : Value) : Arr b A (w.setCell ⟨b', k, none⟩ v) := by
  refine ⟨by simpa using h.lt, fun j hj => ?_, fun j hj => ?_⟩
  · have c := h.cell j hj
    simp [go_sem, c]
  · have c := h.free j hj
    simp [go_sem, c]
theorem Arr.new (w : World) : Arr w.heap.size (fun _ => 0) (w.alloc (.cells #[.int .i64 0, .int .i64 0, .int .i64 0] 143)) := by
  refine ⟨by simp, fun j hj => ?_, fun j hj => ?_⟩
  all_goals
    rcases (show j = 0 ∨ j = 1 ∨ j = 2 by omega) with e | e | e
    all_goals (subst e; go_simp)

def jn1V (p q : Pt) (n : Nat) (d : Nat) (v : Value) (w : World) : Prop :=
  match d with
  | 10 => v = pv p
  | 11 => v = pv p
  | 12 => v = pv q
  | 13 => v = pv q
  | 7 => ∃ b, v = ptr b ∧ n ≤ b ∧ Arr b (fun _ => 0) w
  | 8 => ∃ b, v = ptr b ∧ n ≤ b ∧ Arr b (fun _ => 0) w
  | _ => True
theorem jn1V_mono (p q : Pt) (n : Nat) (d : Nat) (v : Value) (w w' : World) (h : jn1V p q n d v w) (hb : Below w.heap.size w w') : jn1V p q n d v w' := by
  unfold jn1V at h ⊢
  split <;> simp only [] at h <;> first | exact h | (obtain ⟨b, h1, h2, h3⟩ := h; exact ⟨b, h1, h2, h3.later hb⟩)
def jn5V (p q r : Pt) (b7 b8 g k : Nat) (d : Nat) (v : Value) (_w : World) : Prop :=
  match d with
  | 17 => v = .int .i64 (k : Int)
  | 18 => v = .func (.func g) #[] #[]
  | 19 => v = .int .i64 (k : Int)
  | 20 => v = .pointer (some ⟨b7, k, none⟩)
  | 21 => v = .int .i64 (p.at k)
  | 22 => v = .int .i64 (k : Int)
  | 23 => v = .pointer (some ⟨b8, k, none⟩)
  | 24 => v = .int .i64 (q.at k)
  | 25 => v = .int .i64 (r.at k)
  | _ => True

set_option maxHeartbeats 6400000 in
set_option maxRecDepth 100000 in
theorem join_any (g : Nat) (eg : ∀ args w, (callFunc g args).run Tryz.prog w = .ok (.enter g args) w) (p q r : Pt) (w : World) (hg : ∀ k, k < 3 → ∀ W, Calls Tryz.prog g #[.int .i64 (p.at k), .int .i64 (q.at k)] W fun e w' => e = .returned (.int .i64 (r.at k)) ∧ w' = W) :
    Calls Tryz.prog 95 #[pv p, pv q, .func (.func g) #[] #[]] w fun e w' => e = .returned (pv r) ∧ Below w.heap.size w w' := by
  have HG : Hid (∀ k, k < 3 → ∀ W, Calls Tryz.prog g #[.int .i64 (p.at k), .int .i64 (q.at k)] W fun e w' => e = .returned (.int .i64 (r.at k)) ∧ w' = W) := hg
  clear hg
  obtain ⟨w0, hw0⟩ : ∃ w0, w0 = ((w.alloc (po p)).alloc (po q)).alloc (.cells #[.int .i64 0, .int .i64 0, .int .i64 0] 29) := ⟨_, rfl⟩
  have HW0 : Hid (w0 = ((w.alloc (po p)).alloc (po q)).alloc (.cells #[.int .i64 0, .int .i64 0, .int .i64 0] 29)) := hw0
  have HS0 : Hid (w0.heap.size = w.heap.size + 1 + 1 + 1) := by show w0.heap.size = _; rw [hw0]; simp
  clear hw0
  go_enter Tryz.func95, Tryz.ntmps95
  go_wp2_with fail
  rw [← HW0.out]
  have HR : Hid (Arr (w.heap.size + 1 + 1) (fun _ => 0) w0) := by
    show Arr _ _ _
    rw [HW0.out]
    refine ⟨by simp, fun j hj => ?_, fun j hj => ?_⟩
    all_goals
      rcases (show j = 0 ∨ j = 1 ∨ j = 2 by omega) with e | e | e
      all_goals (subst e; go_simp)
  have HP : Hid (BxAt w0 w.heap.size 0 ⟨p.x, p.y, p.z, 0, 0, 0⟩ ∨ True) := .inr trivial
  have p0 : w0.cell? ⟨w.heap.size, 0, none⟩ = some (.int .i64 p.x) := by rw [HW0.out]; go_simp
  have p1 : w0.cell? ⟨w.heap.size, 1, none⟩ = some (.int .i64 p.y) := by rw [HW0.out]; go_simp
  have p2 : w0.cell? ⟨w.heap.size, 2, none⟩ = some (.int .i64 p.z) := by rw [HW0.out]; go_simp
  have q0 : w0.cell? ⟨w.heap.size + 1, 0, none⟩ = some (.int .i64 q.x) := by rw [HW0.out]; go_simp
  have q1 : w0.cell? ⟨w.heap.size + 1, 1, none⟩ = some (.int .i64 q.y) := by rw [HW0.out]; go_simp
  have q2 : w0.cell? ⟨w.heap.size + 1, 2, none⟩ = some (.int .i64 q.z) := by rw [HW0.out]; go_simp
  refine region_seqJ 6 [false, false, false, false, false, false, false, true, true, false, true, true, true, true, false, false, false, false, false, false, false, false, false, false, false, false, false, false, false, false, false, false, false, false, false]
    [(10, [], none), (11, [10], none), (12, [], none), (13, [12], none), (7, [], none), (8, [], none)]
    (jn1V p q w0.heap.size) (Apart 7 8) ?_ (by kernel_rfl) (by kernel_rfl) (by kernel_rfl) (by kernel_rfl) (by kernel_rfl) (by decide) (jn1V_mono p q w0.heap.size) ?_ ?_
  · intro w1 _
    refine ⟨fun b e => ?_, fun b e => ?_, fun b e _ => ?_⟩
    all_goals (simp [undef] at e)
  · refine ⟨?_, ?_, ?_, ?_, ?_, ?_, trivial⟩
    · intro f w1 hb hJ _ K hK
      have c0 := cell_later hb p0
      have c1 := cell_later hb p1
      have c2 := cell_later hb p2
      simp only [over, overL, Nat.reduceAdd]
      go_simp
      exact hK _ _ ⟨_, rfl, by simp only [over, overL, Nat.reduceAdd]; rfl, Below.refl _ _, hJ.other (by decide) (by decide) (Below.refl _ _)⟩
    · intro f w1 hb hJ ⟨h10, _⟩ K hK
      have h10 : f 10 = _ := h10
      simp only [over, overL, Nat.reduceAdd, h10]
      go_simp
      refine (numbers_any p w1).mono ?_
      rintro e w2 ⟨rfl, hw⟩
      have hbn : Below w1.heap.size w1 w2 := by rw [hw]; exact ((Below.refl _ _).alloc (Nat.le_refl _) _).alloc (by simp) _
      exact hK _ _ ⟨_, rfl, by simp only [over, overL, Nat.reduceAdd, h10]; rfl, hbn, hJ.other (by decide) (by decide) hbn⟩
    · intro f w1 hb hJ _ K hK
      have c0 := cell_later hb q0
      have c1 := cell_later hb q1
      have c2 := cell_later hb q2
      simp only [over, overL, Nat.reduceAdd]
      go_simp
      exact hK _ _ ⟨_, rfl, by simp only [over, overL, Nat.reduceAdd]; rfl, Below.refl _ _, hJ.other (by decide) (by decide) (Below.refl _ _)⟩
    · intro f w1 hb hJ ⟨h12, _⟩ K hK
      have h12 : f 12 = _ := h12
      simp only [over, overL, Nat.reduceAdd, h12]
      go_simp
      refine (numbers_any q w1).mono ?_
      rintro e w2 ⟨rfl, hw⟩
      have hbn : Below w1.heap.size w1 w2 := by rw [hw]; exact ((Below.refl _ _).alloc (Nat.le_refl _) _).alloc (by simp) _
      exact hK _ _ ⟨_, rfl, by simp only [over, overL, Nat.reduceAdd, h12]; rfl, hbn, hJ.other (by decide) (by decide) hbn⟩
    · intro f w1 hb hJ _ K hK
      simp only [over, overL, Nat.reduceAdd]
      go_simp
      exact hK _ _ ⟨_, ⟨_, rfl, hb.size, Arr.new w1⟩, by simp only [over, overL, Nat.reduceAdd]; rfl, (Below.refl _ _).alloc (Nat.le_refl _) _, hJ.left (by decide)⟩
    · intro f w1 hb hJ _ K hK
      simp only [over, overL, Nat.reduceAdd]
      go_simp
      exact hK _ _ ⟨_, ⟨_, rfl, hb.size, Arr.new w1⟩, by simp only [over, overL, Nat.reduceAdd]; rfl, (Below.refl _ _).alloc (Nat.le_refl _) _, hJ.right (by decide)⟩
  intro f w1 hb1 hJ h
  have h11 : f 11 = pv p := h.2.1
  have h13 : f 13 = pv q := h.2.2.2.1
  obtain ⟨b7, h7, n7, A7⟩ := (show ∃ b, f 7 = ptr b ∧ w0.heap.size ≤ b ∧ Arr b (fun _ => 0) w1 from h.2.2.2.2.1)
  obtain ⟨b8, h8, n8, A8⟩ := (show ∃ b, f 8 = ptr b ∧ w0.heap.size ≤ b ∧ Arr b (fun _ => 0) w1 from h.2.2.2.2.2.1)
  have hne : b7 ≠ b8 := fun e => hJ.2.2 b7 h7 (by rw [h8, e])
  simp only [over_eq, overL, h7, h8, h11, h13, Nat.reduceAdd, List.drop_succ_cons, List.drop_zero]
  have hA : Arr b7 p.at ((((((w1.setCell ⟨b7, 0, none⟩ (.int .i64 p.x)).setCell ⟨b7, 1, none⟩ (.int .i64 p.y)).setCell ⟨b7, 2, none⟩ (.int .i64 p.z)).setCell ⟨b8, 0, none⟩ (.int .i64 q.x)).setCell ⟨b8, 1, none⟩ (.int .i64 q.y)).setCell ⟨b8, 2, none⟩ (.int .i64 q.z)) := by
    have h1 := ((((((A7.set (k := 0) (by decide) p.x).set (k := 1) (by decide) p.y).set (k := 2) (by decide) p.z).other hne 0 (.int .i64 q.x)).other hne 1 (.int .i64 q.y)).other hne 2 (.int .i64 q.z))
    refine ⟨h1.lt, fun j hj => ?_, h1.free⟩
    rw [h1.cell j hj]
    rcases (show j = 0 ∨ j = 1 ∨ j = 2 by omega) with e | e | e
    all_goals (subst e; rfl)
  have hB : Arr b8 q.at ((((((w1.setCell ⟨b7, 0, none⟩ (.int .i64 p.x)).setCell ⟨b7, 1, none⟩ (.int .i64 p.y)).setCell ⟨b7, 2, none⟩ (.int .i64 p.z)).setCell ⟨b8, 0, none⟩ (.int .i64 q.x)).setCell ⟨b8, 1, none⟩ (.int .i64 q.y)).setCell ⟨b8, 2, none⟩ (.int .i64 q.z)) := by
    have h1 := ((((((A8.other (Ne.symm hne) 0 (.int .i64 p.x)).other (Ne.symm hne) 1 (.int .i64 p.y)).other (Ne.symm hne) 2 (.int .i64 p.z)).set (k := 0) (by decide) q.x).set (k := 1) (by decide) q.y).set (k := 2) (by decide) q.z)
    refine ⟨h1.lt, fun j hj => ?_, h1.free⟩
    rw [h1.cell j hj]
    rcases (show j = 0 ∨ j = 1 ∨ j = 2 by omega) with e | e | e
    all_goals (subst e; rfl)
  have hBel : Below w0.heap.size w0 ((((((w1.setCell ⟨b7, 0, none⟩ (.int .i64 p.x)).setCell ⟨b7, 1, none⟩ (.int .i64 p.y)).setCell ⟨b7, 2, none⟩ (.int .i64 p.z)).setCell ⟨b8, 0, none⟩ (.int .i64 q.x)).setCell ⟨b8, 1, none⟩ (.int .i64 q.y)).setCell ⟨b8, 2, none⟩ (.int .i64 q.z)) :=
    (((((hb1.setCell n7 _).setCell n7 _).setCell n7 _).setCell n8 _).setCell n8 _).setCell n8 _
  have a0 := A7.cell 0 (by decide)
  have a1 := A7.cell 1 (by decide)
  have a2 := A7.cell 2 (by decide)
  have d0 := A8.cell 0 (by decide)
  have d1 := A8.cell 1 (by decide)
  have d2 := A8.cell 2 (by decide)
  have e0 := A7.free 0 (by decide)
  have e1 := A7.free 1 (by decide)
  have e2 := A7.free 2 (by decide)
  have g0 := A8.free 0 (by decide)
  have g1 := A8.free 1 (by decide)
  have g2 := A8.free 2 (by decide)
  have HA := (show Hid _ from hA)
  have HB := (show Hid _ from hB)
  have HBel := (show Hid _ from hBel)
  have HN : Hid (w0.heap.size ≤ b7) := n7
  have HNE : Hid (b7 ≠ b8) := hne
  clear A7 A8 hA hB hBel hJ h h7 h8 h11 h13 hb1 n7 n8 p0 p1 p2 q0 q1 q2
  go_wp2_with fail
  clear a0 a1 a2 d0 d1 d2 e0 e1 e2 g0 g1 g2
  generalize ((((((w1.setCell ⟨b7, 0, none⟩ (.int .i64 p.x)).setCell ⟨b7, 1, none⟩ (.int .i64 p.y)).setCell ⟨b7, 2, none⟩ (.int .i64 p.z)).setCell ⟨b8, 0, none⟩ (.int .i64 q.x)).setCell ⟨b8, 1, none⟩ (.int .i64 q.y)).setCell ⟨b8, 2, none⟩ (.int .i64 q.z)) = w2 at *
  go_loopw [9, 14] (fun _ i wr => ∃ k : Nat, k ≤ 3 ∧ i = .int .i64 k ∧ Arr b7 (fun j => if j < k then r.at j else p.at j) wr ∧ Arr b8 q.at wr ∧ Below w0.heap.size w0 wr) (fun _ i _ => 3 - (intOf i).toNat)
  case atStart => exact ⟨0, Nat.zero_le _, rfl, by simpa using HA.out, HB.out, HBel.out⟩
  case round =>
    obtain ⟨k, hk, rfl, hA, hB, hBel⟩ := hrel
    have HA := (show Hid _ from hA)
    have HB := (show Hid _ from hB)
    have HBel := (show Hid _ from hBel)
    clear hA hB hBel
    by_cases hlt : k < 3
    · have ck : wr.cell? ⟨b7, k, none⟩ = some (.int .i64 (p.at k)) := by
        have := HA.out.cell k hlt
        simpa using this
      have dk := HB.out.cell k hlt
      have fk := HA.out.free k hlt
      have hcall := HG.out k hlt
      go_wp2_with fail
      rw [show decide ((k : Int) < 3) = true by simp; omega]
      refine region_seq 9 [false, false, false, false, false, false, false, false, false, false, false, false, false, false, false, false, false, true, true, true, true, true, true, true, true, true, false, false, false, false, false, false, false, false, false]
        [(17, [], none), (18, [], none), (19, [], none), (20, [19], none), (21, [20], none), (22, [], none), (23, [22], none), (24, [23], none), (25, [18, 21, 24], none)]
        (jn5V p q r b7 b8 g k) (by kernel_rfl) (by kernel_rfl) (by kernel_rfl) (by kernel_rfl) (by kernel_rfl) (by decide) (fun _ _ _ _ h _ => h) ?_ ?_
      · refine ⟨?_, ?_, ?_, ?_, ?_, ?_, ?_, ?_, ?_, trivial⟩
        · intro f w3 hb _ K hK
          simp only [over, overL, Nat.reduceAdd]
          go_simp
          exact hK _ _ ⟨_, rfl, by simp only [over, overL, Nat.reduceAdd]; rfl, Below.refl _ _⟩
        · intro f w3 hb _ K hK
          simp only [over, overL, Nat.reduceAdd]
          go_simp
          exact hK _ _ ⟨_, rfl, by simp only [over, overL, Nat.reduceAdd]; rfl, Below.refl _ _⟩
        · intro f w3 hb _ K hK
          simp only [over, overL, Nat.reduceAdd]
          go_simp
          exact hK _ _ ⟨_, rfl, by simp only [over, overL, Nat.reduceAdd]; rfl, Below.refl _ _⟩
        · intro f w3 hb ⟨h19, _⟩ K hK
          have h19 : f 19 = _ := h19
          simp only [over, overL, Nat.reduceAdd, h19]
          go_simp
          exact hK _ _ ⟨_, rfl, by simp only [over, overL, Nat.reduceAdd, h19]; rfl, Below.refl _ _⟩
        · intro f w3 hb ⟨h20, _⟩ K hK
          have h20 : f 20 = _ := h20
          have c := cell_later hb ck
          simp only [over, overL, Nat.reduceAdd, h20]
          go_simp
          exact hK _ _ ⟨_, rfl, by simp only [over, overL, Nat.reduceAdd, h20]; rfl, Below.refl _ _⟩
        · intro f w3 hb _ K hK
          simp only [over, overL, Nat.reduceAdd]
          go_simp
          exact hK _ _ ⟨_, rfl, by simp only [over, overL, Nat.reduceAdd]; rfl, Below.refl _ _⟩
        · intro f w3 hb ⟨h22, _⟩ K hK
          have h22 : f 22 = _ := h22
          simp only [over, overL, Nat.reduceAdd, h22]
          go_simp
          exact hK _ _ ⟨_, rfl, by simp only [over, overL, Nat.reduceAdd, h22]; rfl, Below.refl _ _⟩
        · intro f w3 hb ⟨h23, _⟩ K hK
          have h23 : f 23 = _ := h23
          have c := cell_later hb dk
          simp only [over, overL, Nat.reduceAdd, h23]
          go_simp
          exact hK _ _ ⟨_, rfl, by simp only [over, overL, Nat.reduceAdd, h23]; rfl, Below.refl _ _⟩
        · intro f w3 hb ⟨h18, h21, h24, _⟩ K hK
          have h18 : f 18 = _ := h18
          have h21 : f 21 = _ := h21
          have h24 : f 24 = _ := h24
          simp only [over, overL, Nat.reduceAdd, h18, h21, h24]
          go_simp
          refine (hcall w3).mono ?_
          rintro e w4 ⟨rfl, hw⟩
          exact hK _ _ ⟨_, rfl, by simp only [over, overL, Nat.reduceAdd, h18, h21, h24]; rfl, hw ▸ Below.refl _ _⟩
      intro f w3 hb3 h
      have h17 : f 17 = .int .i64 (k : Int) := h.1
      have h25 : f 25 = .int .i64 (r.at k) := h.2.2.2.2.2.2.2.2.1
      have hA3 := HA.out.later hb3
      have hB3 := HB.out.later hb3
      have hBel3 : Below w0.heap.size w0 w3 := HBel.out.trans (hb3.mono HBel.out.size)
      have c := cell_later hb3 ck
      have fr := hA3.free k hlt
      have hA4 : Arr b7 (fun j => if j < k + 1 then r.at j else p.at j) (w3.setCell ⟨b7, k, none⟩ (.int .i64 (r.at k))) := by
        have h1 := hA3.set hlt (r.at k)
        refine ⟨h1.lt, fun j hj => ?_, h1.free⟩
        rw [h1.cell j hj]
        by_cases e : j = k
        · subst e; rw [if_pos rfl, if_pos (by omega)]
        · rw [if_neg e]
          by_cases e2 : j < k
          · rw [if_pos e2, if_pos (by omega)]
          · rw [if_neg e2, if_neg (by omega)]
      have HR4 : Hid ((Arr b7 (fun j => if j < k + 1 then r.at j else p.at j) (w3.setCell ⟨b7, k, none⟩ (.int .i64 (r.at k)))) ∧ Arr b8 q.at (w3.setCell ⟨b7, k, none⟩ (.int .i64 (r.at k))) ∧ Below w0.heap.size w0 (w3.setCell ⟨b7, k, none⟩ (.int .i64 (r.at k)))) :=
        ⟨hA4, hB3.other (Ne.symm HNE.out) k _, hBel3.setCell HN.out _⟩
      clear hA3 hB3 hBel3 hA4 hb3 h ck dk fk hcall
      simp only [over_eq, overL, h17, h25, Nat.reduceAdd, List.drop_succ_cons, List.drop_zero]
      go_wp2
      go_roundw
      case rel => exact ⟨k + 1, by omega, by go_num, HR4.out⟩
      case measure => simp [intOf]; omega
    · have hk3 : k = 3 := by omega
      subst hk3
      have c0 : wr.cell? ⟨b7, 0, none⟩ = some (.int .i64 r.x) := HA.out.cell 0 (by decide)
      have c1 : wr.cell? ⟨b7, 1, none⟩ = some (.int .i64 r.y) := HA.out.cell 1 (by decide)
      have c2 : wr.cell? ⟨b7, 2, none⟩ = some (.int .i64 r.z) := HA.out.cell 2 (by decide)
      have hR := HR.out.later HBel.out
      have r0 : wr.cell? ⟨w.heap.size + 1 + 1, 0, none⟩ = some (.int .i64 0) := hR.cell 0 (by decide)
      have r1 : wr.cell? ⟨w.heap.size + 1 + 1, 1, none⟩ = some (.int .i64 0) := hR.cell 1 (by decide)
      have r2 : wr.cell? ⟨w.heap.size + 1 + 1, 2, none⟩ = some (.int .i64 0) := hR.cell 2 (by decide)
      have f0 := hR.free 0 (by decide)
      have f1 := hR.free 1 (by decide)
      have f2 := hR.free 2 (by decide)
      have hB0 : Below w.heap.size w w0 := by
        rw [HW0.out]
        exact (((Below.refl _ _).alloc (Nat.le_refl _) _).alloc (by simp) _).alloc (by simp; omega) _
      have HBW : Hid (Below w.heap.size w wr) := hB0.trans (HBel.out.mono hB0.size)
      clear hR hB0
      go_wp2
      obtain ⟨x0, x1, x2⟩ := box3 r0 r1 r2 (.int .i64 r.x) (.int .i64 r.y) (.int .i64 r.z)
      refine bodyPost_ret (v := pv r) (by simp [results, Tryz.results95, go_sem, r0, r1, r2]) rfl ⟨rfl, ?_⟩
      exact ((HBW.out.setCell (by show w.heap.size ≤ w.heap.size + 1 + 1; omega) _).setCell (by show w.heap.size ≤ w.heap.size + 1 + 1; omega) _).setCell (by show w.heap.size ≤ w.heap.size + 1 + 1; omega) _

end Go.Proofs.YtcajifelbldjnaaGreat.S

/- hull walked. -/
namespace Go.Proofs.YtcajifelbldjnaaGreat.S
open Go.RowKit
theorem en153 : ∀ args w, (callFunc 153 args).run Tryz.prog w = .ok (.enter 153 args) w := enters_of Tryz.func153 (by kernel_rfl) rfl
theorem en154 : ∀ args w, (callFunc 154 args).run Tryz.prog w = .ok (.enter 154 args) w := enters_of Tryz.func154 (by kernel_rfl) rfl
theorem en94 : ∀ args w, (callFunc 94 args).run Tryz.prog w = .ok (.enter 94 args) w := enters_of Tryz.func94 (by kernel_rfl) rfl
def minP (p q : Pt) : Pt := ⟨min p.x q.x, min p.y q.y, min p.z q.z⟩
def maxP (p q : Pt) : Pt := ⟨max p.x q.x, max p.y q.y, max p.z q.z⟩
def addP (p q : Pt) : Pt := ⟨p.x + q.x, p.y + q.y, p.z + q.z⟩
/-- No number is great. -/
def SmP (p : Pt) : Prop := (-100000000000 ≤ p.x ∧ p.x ≤ 100000000000) ∧ (-100000000000 ≤ p.y ∧ p.y ≤ 100000000000) ∧ (-100000000000 ≤ p.z ∧ p.z ≤ 100000000000)
def SmB (b : Bx) : Prop := SmP b.lo ∧ SmP b.hi
theorem join_min (p q : Pt) (w : World) : Calls Tryz.prog 95 #[pv p, pv q, .func (.func 153) #[] #[]] w fun e w' => e = .returned (pv (minP p q)) ∧ Below w.heap.size w w' :=
  join_any 153 en153 p q (minP p q) w fun k hk W => by
    rcases (show k = 0 ∨ k = 1 ∨ k = 2 by omega) with e | e | e
    all_goals (subst e; exact min_any _ _ W)
theorem join_max (p q : Pt) (w : World) : Calls Tryz.prog 95 #[pv p, pv q, .func (.func 154) #[] #[]] w fun e w' => e = .returned (pv (maxP p q)) ∧ Below w.heap.size w w' :=
  join_any 154 en154 p q (maxP p q) w fun k hk W => by
    rcases (show k = 0 ∨ k = 1 ∨ k = 2 by omega) with e | e | e
    all_goals (subst e; exact max_any _ _ W)
theorem join_add (p q : Pt) (w : World) (hp : SmP p) (hq : SmP q) : Calls Tryz.prog 95 #[pv p, pv q, .func (.func 94) #[] #[]] w fun e w' => e = .returned (pv (addP p q)) ∧ Below w.heap.size w w' :=
  join_any 94 en94 p q (addP p q) w fun k hk W => by
    obtain ⟨⟨_, _⟩, ⟨_, _⟩, _, _⟩ := hp
    obtain ⟨⟨_, _⟩, ⟨_, _⟩, _, _⟩ := hq
    rcases (show k = 0 ∨ k = 1 ∨ k = 2 by omega) with e | e | e
    all_goals (subst e; exact add_any _ _ W (by simp only [Pt.at]; omega) (by simp only [Pt.at]; omega))

/-- A box in a block, not frozen. -/
structure Bf (b : Nat) (a : Bx) (w : World) : Prop where
  bx : BxAt w b 0 a
  f0 : w.frozen? ⟨b, 0, none⟩ = false
  f1 : w.frozen? ⟨b, 1, none⟩ = false
  f2 : w.frozen? ⟨b, 2, none⟩ = false
  f3 : w.frozen? ⟨b, 3, none⟩ = false
  f4 : w.frozen? ⟨b, 4, none⟩ = false
  f5 : w.frozen? ⟨b, 5, none⟩ = false
theorem Bf.later {b : Nat} {a : Bx} {w w' : World} (h : Bf b a w) (hb : Below w.heap.size w w') : Bf b a w' :=
  ⟨h.bx.next hb, (hb.frozen (p := ⟨b, 0, none⟩) h.bx.1).trans h.f0, (hb.frozen (p := ⟨b, 1, none⟩) h.bx.1).trans h.f1, (hb.frozen (p := ⟨b, 2, none⟩) h.bx.1).trans h.f2,
    (hb.frozen (p := ⟨b, 3, none⟩) h.bx.1).trans h.f3, (hb.frozen (p := ⟨b, 4, none⟩) h.bx.1).trans h.f4, (hb.frozen (p := ⟨b, 5, none⟩) h.bx.1).trans h.f5⟩
theorem Bf.new (w : World) (a : Bx) : Bf w.heap.size a (w.alloc (bo a)) :=
  ⟨⟨by simp, by go_simp, by go_simp, by go_simp, by go_simp, by go_simp, by go_simp⟩, by go_simp, by go_simp, by go_simp, by go_simp, by go_simp, by go_simp⟩
/-- A box put over another. -/
abbrev put6 (w : World) (b : Nat) (a : Bx) : World := (((((w.setCell ⟨b, 0, none⟩ (.int .i64 a.lx)).setCell ⟨b, 1, none⟩ (.int .i64 a.ly)).setCell ⟨b, 2, none⟩ (.int .i64 a.lz)).setCell ⟨b, 3, none⟩ (.int .i64 a.hx)).setCell ⟨b, 4, none⟩ (.int .i64 a.hy)).setCell ⟨b, 5, none⟩ (.int .i64 a.hz)
theorem below_put6 {n b : Nat} {w w' : World} {a : Bx} (h : Below n w w') (hn : n ≤ b) : Below n w (put6 w' b a) :=
  (((((h.setCell hn _).setCell hn _).setCell hn _).setCell hn _).setCell hn _).setCell hn _
abbrev zB : Bx := ⟨0, 0, 0, 0, 0, 0⟩
def hullV (a b : Bx) (n : Nat) (d : Nat) (v : Value) (_w : World) : Prop :=
  match d with
  | 5 => v = .pointer (some ⟨n, 0, none⟩)
  | 6 => v = pv a.lo
  | 7 => v = .pointer (some ⟨n + 1, 0, none⟩)
  | 8 => v = pv b.lo
  | 9 => v = pv (minP a.lo b.lo)
  | 10 => v = .pointer (some ⟨n, 3, none⟩)
  | 11 => v = pv a.hi
  | 12 => v = .pointer (some ⟨n + 1, 3, none⟩)
  | 13 => v = pv b.hi
  | 14 => v = pv (maxP a.hi b.hi)
  | 15 => v = bv (hullB a b)
  | _ => True
set_option maxHeartbeats 3200000 in
set_option maxRecDepth 100000 in
theorem hull_any (a b : Bx) (w : World) :
    Calls Tryz.prog 126 #[bv a, bv b] w fun e w' => e = .returned (bv (hullB a b)) ∧ Below w.heap.size w w' := by
  obtain ⟨w0, hw0⟩ : ∃ w0, w0 = ((w.alloc (bo a)).alloc (bo b)).alloc (bo zB) := ⟨_, rfl⟩
  have HW0 : Hid (w0 = ((w.alloc (bo a)).alloc (bo b)).alloc (bo zB)) := hw0
  have HB0 : Hid (Below w.heap.size w w0) := by
    show Below _ _ _
    rw [hw0]
    exact (((Below.refl _ _).alloc (Nat.le_refl _) _).alloc (by simp) _).alloc (by simp; omega) _
  have HR : Hid (Bf (w.heap.size + 1 + 1) zB w0) := by
    show Bf _ _ _
    rw [hw0]
    have h := Bf.new ((w.alloc (bo a)).alloc (bo b)) zB
    simpa using h
  clear hw0
  go_enter Tryz.func126, Tryz.ntmps126
  go_wp2_with fail
  rw [← HW0.out]
  have plx : w0.cell? ⟨w.heap.size, 0, none⟩ = some (.int .i64 a.lx) := by rw [HW0.out]; go_simp
  have ply : w0.cell? ⟨w.heap.size, 1, none⟩ = some (.int .i64 a.ly) := by rw [HW0.out]; go_simp
  have plz : w0.cell? ⟨w.heap.size, 2, none⟩ = some (.int .i64 a.lz) := by rw [HW0.out]; go_simp
  have phx : w0.cell? ⟨w.heap.size, 3, none⟩ = some (.int .i64 a.hx) := by rw [HW0.out]; go_simp
  have phy : w0.cell? ⟨w.heap.size, 4, none⟩ = some (.int .i64 a.hy) := by rw [HW0.out]; go_simp
  have phz : w0.cell? ⟨w.heap.size, 5, none⟩ = some (.int .i64 a.hz) := by rw [HW0.out]; go_simp
  have qlx : w0.cell? ⟨w.heap.size + 1, 0, none⟩ = some (.int .i64 b.lx) := by rw [HW0.out]; go_simp
  have qly : w0.cell? ⟨w.heap.size + 1, 1, none⟩ = some (.int .i64 b.ly) := by rw [HW0.out]; go_simp
  have qlz : w0.cell? ⟨w.heap.size + 1, 2, none⟩ = some (.int .i64 b.lz) := by rw [HW0.out]; go_simp
  have qhx : w0.cell? ⟨w.heap.size + 1, 3, none⟩ = some (.int .i64 b.hx) := by rw [HW0.out]; go_simp
  have qhy : w0.cell? ⟨w.heap.size + 1, 4, none⟩ = some (.int .i64 b.hy) := by rw [HW0.out]; go_simp
  have qhz : w0.cell? ⟨w.heap.size + 1, 5, none⟩ = some (.int .i64 b.hz) := by rw [HW0.out]; go_simp
  refine region_seq 11 [false, false, false, false, false, true, true, true, true, true, true, true, true, true, true, true]
    [(5, [], none), (6, [5], none), (7, [], none), (8, [7], none), (9, [6, 8], none), (10, [], none), (11, [10], none), (12, [], none), (13, [12], none), (14, [11, 13], none), (15, [9, 14], none)]
    (hullV a b w.heap.size) (by kernel_rfl) (by kernel_rfl) (by kernel_rfl) (by kernel_rfl) (by kernel_rfl) (by decide) (fun _ _ _ _ h _ => h) ?_ ?_
  · refine ⟨?_, ?_, ?_, ?_, ?_, ?_, ?_, ?_, ?_, ?_, ?_, trivial⟩
    · intro f w1 hb _ K hK
      simp only [over, overL, Nat.reduceAdd]
      go_simp
      exact hK _ _ ⟨_, rfl, by simp only [over, overL, Nat.reduceAdd]; rfl, Below.refl _ _⟩
    · intro f w1 hb ⟨h5, _⟩ K hK
      have h5 : f 5 = _ := h5
      have cplx := cell_later hb plx
      have cply := cell_later hb ply
      have cplz := cell_later hb plz
      simp only [over, overL, Nat.reduceAdd, h5]
      go_simp
      exact hK _ _ ⟨_, rfl, by simp only [over, overL, Nat.reduceAdd, h5]; rfl, Below.refl _ _⟩
    · intro f w1 hb _ K hK
      simp only [over, overL, Nat.reduceAdd]
      go_simp
      exact hK _ _ ⟨_, rfl, by simp only [over, overL, Nat.reduceAdd]; rfl, Below.refl _ _⟩
    · intro f w1 hb ⟨h7, _⟩ K hK
      have h7 : f 7 = _ := h7
      have cqlx := cell_later hb qlx
      have cqly := cell_later hb qly
      have cqlz := cell_later hb qlz
      simp only [over, overL, Nat.reduceAdd, h7]
      go_simp
      exact hK _ _ ⟨_, rfl, by simp only [over, overL, Nat.reduceAdd, h7]; rfl, Below.refl _ _⟩
    · intro f w1 hb ⟨h6, h8, _⟩ K hK
      have h6 : f 6 = _ := h6
      have h8 : f 8 = _ := h8
      simp only [over, overL, Nat.reduceAdd, h6, h8]
      go_simp
      refine (join_min a.lo b.lo w1).mono ?_
      rintro e w2 ⟨rfl, hbn⟩
      exact hK _ _ ⟨_, rfl, by simp only [over, overL, Nat.reduceAdd, h6, h8]; rfl, hbn⟩
    · intro f w1 hb _ K hK
      simp only [over, overL, Nat.reduceAdd]
      go_simp
      exact hK _ _ ⟨_, rfl, by simp only [over, overL, Nat.reduceAdd]; rfl, Below.refl _ _⟩
    · intro f w1 hb ⟨h10, _⟩ K hK
      have h10 : f 10 = _ := h10
      have cphx := cell_later hb phx
      have cphy := cell_later hb phy
      have cphz := cell_later hb phz
      simp only [over, overL, Nat.reduceAdd, h10]
      go_simp
      exact hK _ _ ⟨_, rfl, by simp only [over, overL, Nat.reduceAdd, h10]; rfl, Below.refl _ _⟩
    · intro f w1 hb _ K hK
      simp only [over, overL, Nat.reduceAdd]
      go_simp
      exact hK _ _ ⟨_, rfl, by simp only [over, overL, Nat.reduceAdd]; rfl, Below.refl _ _⟩
    · intro f w1 hb ⟨h12, _⟩ K hK
      have h12 : f 12 = _ := h12
      have cqhx := cell_later hb qhx
      have cqhy := cell_later hb qhy
      have cqhz := cell_later hb qhz
      simp only [over, overL, Nat.reduceAdd, h12]
      go_simp
      exact hK _ _ ⟨_, rfl, by simp only [over, overL, Nat.reduceAdd, h12]; rfl, Below.refl _ _⟩
    · intro f w1 hb ⟨h11, h13, _⟩ K hK
      have h11 : f 11 = _ := h11
      have h13 : f 13 = _ := h13
      simp only [over, overL, Nat.reduceAdd, h11, h13]
      go_simp
      refine (join_max a.hi b.hi w1).mono ?_
      rintro e w2 ⟨rfl, hbn⟩
      exact hK _ _ ⟨_, rfl, by simp only [over, overL, Nat.reduceAdd, h11, h13]; rfl, hbn⟩
    · intro f w1 hb ⟨h9, h14, _⟩ K hK
      have h9 : f 9 = _ := h9
      have h14 : f 14 = _ := h14
      simp only [over, overL, Nat.reduceAdd, h9, h14]
      go_simp
      exact hK _ _ ⟨_, rfl, by simp only [over, overL, Nat.reduceAdd, h9, h14]; rfl, Below.refl _ _⟩
  intro f w1 hb1 h
  have hl : f 15 = bv (hullB a b) := h.2.2.2.2.2.2.2.2.2.2.1
  have hR := HR.out.later hb1
  obtain ⟨⟨_, r0, r1, r2, r3, r4, r5⟩, f0, f1, f2, f3, f4, f5⟩ := hR
  simp only [Nat.zero_add] at r1 r2 r3 r4 r5
  have HB : Hid (Below w.heap.size w w1) := HB0.out.trans (hb1.mono HB0.out.size)
  clear hb1 h
  simp only [over_eq, overL, hl, Nat.reduceAdd, List.drop_succ_cons, List.drop_zero]
  go_wp2
  refine bodyPost_ret (v := bv (hullB a b)) (by simp [results, Tryz.results126, go_sem, r0, r1, r2, r3, r4, r5]) rfl ⟨rfl, ?_⟩
  exact below_put6 HB.out (by omega)

def movedV (a : Bx) (p : Pt) (n : Nat) (d : Nat) (v : Value) (_w : World) : Prop :=
  match d with
  | 6 => v = .pointer (some ⟨n, 0, none⟩)
  | 7 => v = pv a.lo
  | 8 => v = pv p
  | 9 => v = .func (.func 94) #[] #[]
  | 10 => v = pv (addP a.lo p)
  | 11 => v = .pointer (some ⟨n, 3, none⟩)
  | 12 => v = pv a.hi
  | 13 => v = pv p
  | 14 => v = .func (.func 94) #[] #[]
  | 15 => v = pv (addP a.hi p)
  | 16 => v = bv (movB a p)
  | _ => True
set_option maxHeartbeats 3200000 in
set_option maxRecDepth 100000 in
theorem moved_any (a : Bx) (p : Pt) (w : World) (ha : SmB a) (hp : SmP p) :
    Calls Tryz.prog 61 #[bv a, pv p] w fun e w' => e = .returned (bv (movB a p)) ∧ Below w.heap.size w w' := by
  obtain ⟨w0, hw0⟩ : ∃ w0, w0 = ((w.alloc (bo a)).alloc (po p)).alloc (bo zB) := ⟨_, rfl⟩
  have HW0 : Hid (w0 = ((w.alloc (bo a)).alloc (po p)).alloc (bo zB)) := hw0
  have HB0 : Hid (Below w.heap.size w w0) := by
    show Below _ _ _
    rw [hw0]
    exact (((Below.refl _ _).alloc (Nat.le_refl _) _).alloc (by simp) _).alloc (by simp; omega) _
  have HR : Hid (Bf (w.heap.size + 1 + 1) zB w0) := by
    show Bf _ _ _
    rw [hw0]
    have h := Bf.new ((w.alloc (bo a)).alloc (po p)) zB
    simpa using h
  clear hw0
  go_enter Tryz.func61, Tryz.ntmps61
  go_wp2_with fail
  rw [← HW0.out]
  have plx : w0.cell? ⟨w.heap.size, 0, none⟩ = some (.int .i64 a.lx) := by rw [HW0.out]; go_simp
  have ply : w0.cell? ⟨w.heap.size, 1, none⟩ = some (.int .i64 a.ly) := by rw [HW0.out]; go_simp
  have plz : w0.cell? ⟨w.heap.size, 2, none⟩ = some (.int .i64 a.lz) := by rw [HW0.out]; go_simp
  have phx : w0.cell? ⟨w.heap.size, 3, none⟩ = some (.int .i64 a.hx) := by rw [HW0.out]; go_simp
  have phy : w0.cell? ⟨w.heap.size, 4, none⟩ = some (.int .i64 a.hy) := by rw [HW0.out]; go_simp
  have phz : w0.cell? ⟨w.heap.size, 5, none⟩ = some (.int .i64 a.hz) := by rw [HW0.out]; go_simp
  have qx : w0.cell? ⟨w.heap.size + 1, 0, none⟩ = some (.int .i64 p.x) := by rw [HW0.out]; go_simp
  have qy : w0.cell? ⟨w.heap.size + 1, 1, none⟩ = some (.int .i64 p.y) := by rw [HW0.out]; go_simp
  have qz : w0.cell? ⟨w.heap.size + 1, 2, none⟩ = some (.int .i64 p.z) := by rw [HW0.out]; go_simp
  refine region_seq 11 [false, false, false, false, false, false, true, true, true, true, true, true, true, true, true, true, true]
    [(6, [], none), (7, [6], none), (8, [], none), (9, [], none), (10, [7, 8, 9], none), (11, [], none), (12, [11], none), (13, [], none), (14, [], none), (15, [12, 13, 14], none), (16, [10, 15], none)]
    (movedV a p w.heap.size) (by kernel_rfl) (by kernel_rfl) (by kernel_rfl) (by kernel_rfl) (by kernel_rfl) (by decide) (fun _ _ _ _ h _ => h) ?_ ?_
  · refine ⟨?_, ?_, ?_, ?_, ?_, ?_, ?_, ?_, ?_, ?_, ?_, trivial⟩
    · intro f w1 hb _ K hK
      simp only [over, overL, Nat.reduceAdd]
      go_simp
      exact hK _ _ ⟨_, rfl, by simp only [over, overL, Nat.reduceAdd]; rfl, Below.refl _ _⟩
    · intro f w1 hb ⟨h6, _⟩ K hK
      have h6 : f 6 = _ := h6
      have cplx := cell_later hb plx
      have cply := cell_later hb ply
      have cplz := cell_later hb plz
      simp only [over, overL, Nat.reduceAdd, h6]
      go_simp
      exact hK _ _ ⟨_, rfl, by simp only [over, overL, Nat.reduceAdd, h6]; rfl, Below.refl _ _⟩
    · intro f w1 hb _ K hK
      have cqx := cell_later hb qx
      have cqy := cell_later hb qy
      have cqz := cell_later hb qz
      simp only [over, overL, Nat.reduceAdd]
      go_simp
      exact hK _ _ ⟨_, rfl, by simp only [over, overL, Nat.reduceAdd]; rfl, Below.refl _ _⟩
    · intro f w1 hb _ K hK
      simp only [over, overL, Nat.reduceAdd]
      go_simp
      exact hK _ _ ⟨_, rfl, by simp only [over, overL, Nat.reduceAdd]; rfl, Below.refl _ _⟩
    · intro f w1 hb ⟨h7, h8, h9, _⟩ K hK
      have h7 : f 7 = _ := h7
      have h8 : f 8 = _ := h8
      have h9 : f 9 = _ := h9
      simp only [over, overL, Nat.reduceAdd, h7, h8, h9]
      go_simp
      refine (join_add a.lo p w1 ha.1 hp).mono ?_
      rintro e w2 ⟨rfl, hbn⟩
      exact hK _ _ ⟨_, rfl, by simp only [over, overL, Nat.reduceAdd, h7, h8, h9]; rfl, hbn⟩
    · intro f w1 hb _ K hK
      simp only [over, overL, Nat.reduceAdd]
      go_simp
      exact hK _ _ ⟨_, rfl, by simp only [over, overL, Nat.reduceAdd]; rfl, Below.refl _ _⟩
    · intro f w1 hb ⟨h11, _⟩ K hK
      have h11 : f 11 = _ := h11
      have cphx := cell_later hb phx
      have cphy := cell_later hb phy
      have cphz := cell_later hb phz
      simp only [over, overL, Nat.reduceAdd, h11]
      go_simp
      exact hK _ _ ⟨_, rfl, by simp only [over, overL, Nat.reduceAdd, h11]; rfl, Below.refl _ _⟩
    · intro f w1 hb _ K hK
      have cqx := cell_later hb qx
      have cqy := cell_later hb qy
      have cqz := cell_later hb qz
      simp only [over, overL, Nat.reduceAdd]
      go_simp
      exact hK _ _ ⟨_, rfl, by simp only [over, overL, Nat.reduceAdd]; rfl, Below.refl _ _⟩
    · intro f w1 hb _ K hK
      simp only [over, overL, Nat.reduceAdd]
      go_simp
      exact hK _ _ ⟨_, rfl, by simp only [over, overL, Nat.reduceAdd]; rfl, Below.refl _ _⟩
    · intro f w1 hb ⟨h12, h13, h14, _⟩ K hK
      have h12 : f 12 = _ := h12
      have h13 : f 13 = _ := h13
      have h14 : f 14 = _ := h14
      simp only [over, overL, Nat.reduceAdd, h12, h13, h14]
      go_simp
      refine (join_add a.hi p w1 ha.2 hp).mono ?_
      rintro e w2 ⟨rfl, hbn⟩
      exact hK _ _ ⟨_, rfl, by simp only [over, overL, Nat.reduceAdd, h12, h13, h14]; rfl, hbn⟩
    · intro f w1 hb ⟨h10, h15, _⟩ K hK
      have h10 : f 10 = _ := h10
      have h15 : f 15 = _ := h15
      simp only [over, overL, Nat.reduceAdd, h10, h15]
      go_simp
      exact hK _ _ ⟨_, rfl, by simp only [over, overL, Nat.reduceAdd, h10, h15]; rfl, Below.refl _ _⟩
  intro f w1 hb1 h
  have hl : f 16 = bv (movB a p) := h.2.2.2.2.2.2.2.2.2.2.1
  have hR := HR.out.later hb1
  obtain ⟨⟨_, r0, r1, r2, r3, r4, r5⟩, f0, f1, f2, f3, f4, f5⟩ := hR
  simp only [Nat.zero_add] at r1 r2 r3 r4 r5
  have HB : Hid (Below w.heap.size w w1) := HB0.out.trans (hb1.mono HB0.out.size)
  clear hb1 h
  simp only [over_eq, overL, hl, Nat.reduceAdd, List.drop_succ_cons, List.drop_zero]
  go_wp2
  refine bodyPost_ret (v := bv (movB a p)) (by simp [results, Tryz.results61, go_sem, r0, r1, r2, r3, r4, r5]) rfl ⟨rfl, ?_⟩
  exact below_put6 HB.out (by omega)


end Go.Proofs.YtcajifelbldjnaaGreat.S

/- Lists of boxes, the least height, plainly. -/
namespace Go.Proofs.YtcajifelbldjnaaGreat.S
open Go.RowKit
/-- What is wrong with a list, then with boxes behind it. -/
def rlist (l more : List Bx) : Int := if 40 < l.length then 7 else if badL l = 0 then badL more else badL l
theorem rlist_many {l more : List Bx} (h : 40 < l.length) : rlist l more = 7 := if_pos h
theorem rlist_bad {l more : List Bx} (h : l.length ≤ 40) (hb : badL l ≠ 0) : rlist l more = badL l := by unfold rlist; rw [if_neg (by omega), if_neg hb]
theorem rlist_more {l more : List Bx} (h : l.length ≤ 40) (hb : badL l = 0) : rlist l more = badL more := by unfold rlist; rw [if_neg (by omega), if_pos hb]
theorem rlist_zero {l more : List Bx} : rlist l more = 0 ↔ l.length ≤ 40 ∧ badL l = 0 ∧ badL more = 0 := by
  unfold rlist
  by_cases h : 40 < l.length
  · rw [if_pos h]
    constructor
    · intro e; omega
    · rintro ⟨e, _⟩; omega
  · rw [if_neg h]
    by_cases hb : badL l = 0
    · rw [if_pos hb]; constructor
      · intro e; exact ⟨by omega, hb, e⟩
      · rintro ⟨_, _, e⟩; exact e
    · rw [if_neg hb]; constructor
      · intro e; exact absurd e hb
      · rintro ⟨_, e, _⟩; exact absurd e hb
/-- The number of the first box that meets a box. -/
def firstI (l : List Bx) (a : Bx) : Int := idx (fun b => meet b a) l
def firstR (l : List Bx) (a : Bx) : Int × Int := if rlist l [a] = 0 then (firstI l a, 0) else (0, rlist l [a])
theorem any_one (a : Bx) : (fun b => [a].any (meet b)) = (fun b => meet b a) := by funext b; simp

/-- How many boxes end above a height. -/
def above (l : List Bx) (x : Bx) (h : Int) : Nat := l.countP fun b => decide (h < b.hz - x.lz)
end Go.Proofs.YtcajifelbldjnaaGreat.S

/- slices.IndexFunc at boxes walked. -/
namespace Go.Proofs.YtcajifelbldjnaaGreat.S
open Go.RowKit
/-- What is asked of a test over boxes, from a world on. -/
def Tests (g : Nat) (caps : Array Value) (f : Bx → Bool) (w : World) : Prop :=
  ∀ (a : Bx) (W : World), Below w.heap.size w W → Calls Tryz.prog g (#[bv a] ++ caps) W fun e w' => e = .returned (.bool (f a)) ∧ Below W.heap.size W w'

set_option maxHeartbeats 3200000 in
theorem indexFunc_any (g : Nat) (caps : Array Value) (f : Bx → Bool) (ao : Option Addr) (cap : Nat) (l : List Bx) (w : World) (eg : ∀ args w, (callFunc g args).run Tryz.prog w = .ok (.enter g args) w)
    (hT : Tests g caps f w) (hL : Bxs w ao l) (hl : l.length ≤ 9223372036854775807) :
    Calls Tryz.prog 98 #[.slice ao l.length cap, .func (.func g) #[] caps] w fun e w' => e = .returned (.int .i64 (idx f l)) ∧ Below w.heap.size w w' := by
  have HT : Hid (Tests g caps f w) := hT
  have HL : Hid (Bxs w ao l) := hL
  clear hT hL
  go_enter Tryz.func98, Tryz.ntmps98
  go_wp2
  go_loopw [5, 8] (fun _ i wr => ∃ k : Nat, k ≤ l.length ∧ i = .int .i64 k ∧ (∀ b ∈ l.take k, f b = false) ∧ Below w.heap.size w wr) (fun _ i _ => l.length - (intOf i).toNat)
  case atStart => exact ⟨0, Nat.zero_le _, rfl, (fun f hf => by simp at hf), Below.refl _ _⟩
  case round =>
    obtain ⟨k, hk, rfl, hok, hb⟩ := hrel
    have HB : Hid (Below w.heap.size w wr) := hb
    have HO : Hid (∀ b ∈ l.take k, f b = false) := hok
    clear hb hok
    by_cases hlt : k < l.length
    · obtain ⟨b, off, rfl, hbx⟩ := (HL.out.next HB.out).at hlt
      have HHit : Hid (f (l[k]'hlt) = true → idx f l = k) := idx_hit hlt HO.out
      have HMiss : Hid (f (l[k]'hlt) = false → ∀ b ∈ l.take (k + 1), f b = false) := take_succ_all hlt HO.out
      generalize l[k]'hlt = a at *
      obtain ⟨_, c0, c1, c2, c3, c4, c5⟩ := hbx
      have hcall := HT.out a wr HB.out
      cases hq : f a with
      | true =>
        rw [hq] at hcall
        go_wp2_with (go_at_fn g; refine hcall.mono ?_; rintro e w' ⟨rfl, hb'⟩)
        go_ret
        exact ⟨ret_int (HHit.out hq).symm, HB.out.trans (hb'.mono HB.out.size)⟩
      | false =>
        rw [hq] at hcall
        go_wp2_with (go_at_fn g; refine hcall.mono ?_; rintro e w' ⟨rfl, hb'⟩)
        go_roundw
        case rel => exact ⟨k + 1, by omega, by go_num, HMiss.out hq, HB.out.trans (hb'.mono HB.out.size)⟩
        case measure => simp [intOf]; omega
    · go_wp2
      go_ret
      exact ⟨ret_int (idx_miss fun b hb => HO.out b (by rw [List.take_of_length_le (by omega)]; exact hb)).symm, HB.out⟩

set_option maxHeartbeats 1600000 in
theorem containsFunc_any (g : Nat) (caps : Array Value) (f : Bx → Bool) (ao : Option Addr) (cap : Nat) (l : List Bx) (w : World) (eg : ∀ args w, (callFunc g args).run Tryz.prog w = .ok (.enter g args) w)
    (hT : Tests g caps f w) (hL : Bxs w ao l) (hl : l.length ≤ 9223372036854775807) :
    Calls Tryz.prog 128 #[.slice ao l.length cap, .func (.func g) #[] caps] w fun e w' => e = .returned (.bool (l.any f)) ∧ Below w.heap.size w w' := by
  have hcall := indexFunc_any g caps f ao cap l w eg hT hL hl
  have HA : Hid (decide (0 ≤ idx f l) = l.any f) := idx_any f l
  clear hT hL
  generalize idx f l = i at *
  go_enter Tryz.func128, Tryz.ntmps128
  go_wp2_with (go_at_call 98; refine hcall.mono ?_; rintro e w' ⟨rfl, hb'⟩)
  go_ret
  exact ⟨ret_bool HA.out, hb'⟩


end Go.Proofs.YtcajifelbldjnaaGreat.S

/- meets walked. -/
namespace Go.Proofs.YtcajifelbldjnaaGreat.S
open Go.RowKit
set_option maxHeartbeats 1600000 in
/-- The inner closure: does the one box meet the other? -/
theorem inner_any (a b : Bx) (B : Nat) (w : World) (hB : BxAt w B 0 a) :
    Calls Tryz.prog 129 #[bv b, .pointer (some ⟨B, 0, none⟩)] w fun e w' => e = .returned (.bool (meet a b)) ∧ Below w.heap.size w w' := by
  obtain ⟨hlt, c0, c1, c2, c3, c4, c5⟩ := hB
  simp only [Nat.zero_add] at c1 c2 c3 c4 c5
  have hne : B ≠ w.heap.size := by omega
  cases h1 : below a.lo b.hi with
  | false =>
    have HM : Hid (meet a b = false) := by show meet a b = false; rw [meet, h1]; rfl
    go_enter Tryz.func129, Tryz.ntmps129
    go_wp2_with fail
    refine (isBelow_any a.lo b.hi _).mono ?_
    rintro e w1 ⟨rfl, hb1⟩
    rw [h1]
    go_wp2
    go_ret
    exact ⟨ret_bool HM.out.symm, ((Below.refl _ _).alloc (Nat.le_refl _) _).trans (hb1.mono (by simp))⟩
  | true =>
    have HM : Hid (meet a b = below b.lo a.hi) := by show meet a b = _; rw [meet, h1]; rfl
    go_enter Tryz.func129, Tryz.ntmps129
    go_wp2_with fail
    refine (isBelow_any a.lo b.hi _).mono ?_
    rintro e w1 ⟨rfl, hb1⟩
    rw [h1]
    have d3 : w1.cell? ⟨B, 3, none⟩ = some (.int .i64 a.hx) := cell_later hb1 (by go_simp)
    have d4 : w1.cell? ⟨B, 4, none⟩ = some (.int .i64 a.hy) := cell_later hb1 (by go_simp)
    have d5 : w1.cell? ⟨B, 5, none⟩ = some (.int .i64 a.hz) := cell_later hb1 (by go_simp)
    have e0 : w1.cell? ⟨w.heap.size, 0, none⟩ = some (.int .i64 b.lx) := cell_later hb1 (by go_simp)
    have e1 : w1.cell? ⟨w.heap.size, 1, none⟩ = some (.int .i64 b.ly) := cell_later hb1 (by go_simp)
    have e2 : w1.cell? ⟨w.heap.size, 2, none⟩ = some (.int .i64 b.lz) := cell_later hb1 (by go_simp)
    have HB : Hid (Below w.heap.size w w1) := ((Below.refl _ _).alloc (Nat.le_refl _) _).trans (hb1.mono (by simp))
    clear hb1 c0 c1 c2 c3 c4 c5
    go_wp2_with fail
    refine (isBelow_any b.lo a.hi _).mono ?_
    rintro e w2 ⟨rfl, hb2⟩
    go_wp2
    go_ret
    exact ⟨ret_bool HM.out.symm, HB.out.trans (hb2.mono HB.out.size)⟩

theorem en129 : ∀ args w, (callFunc 129 args).run Tryz.prog w = .ok (.enter 129 args) w := enters_of Tryz.func129 (by kernel_rfl) rfl
theorem en127 : ∀ args w, (callFunc 127 args).run Tryz.prog w = .ok (.enter 127 args) w := enters_of Tryz.func127 (by kernel_rfl) rfl

set_option maxHeartbeats 1600000 in
/-- The outer closure: does a box meet any of the boxes? -/
theorem outer_any (a : Bx) (B : Nat) (ao : Option Addr) (cap : Nat) (l : List Bx) (w : World) (hc : w.cell? ⟨B, 0, none⟩ = some (.slice ao l.length cap)) (hB : B < w.heap.size) (hL : Bxs w ao l) (hl : l.length ≤ 9223372036854775807) :
    Calls Tryz.prog 127 #[bv a, .pointer (some ⟨B, 0, none⟩)] w fun e w' => e = .returned (.bool (l.any (meet a))) ∧ Below w.heap.size w w' := by
  have hne : B ≠ w.heap.size := by omega
  have hcall := containsFunc_any 129 #[.pointer (some ⟨w.heap.size, 0, none⟩)] (meet a) ao cap l (w.alloc (.cells #[.int .i64 a.lx, .int .i64 a.ly, .int .i64 a.lz, .int .i64 a.hx, .int .i64 a.hy, .int .i64 a.hz] 35)) en129
    (fun b W hW => inner_any a b w.heap.size W (BxAt.next (by exact ⟨by simp, by go_simp, by go_simp, by go_simp, by go_simp, by go_simp, by go_simp⟩) hW)) (hL.next ((Below.refl _ _).alloc (Nat.le_refl _) _)) hl
  clear hL
  generalize l.any (meet a) = r at *
  go_enter Tryz.func127, Tryz.ntmps127
  go_wp2_with (go_at_call 128; refine hcall.mono ?_; rintro e w' ⟨rfl, hb'⟩)
  go_ret
  exact ⟨rfl, ((Below.refl _ _).alloc (Nat.le_refl _) _).trans (hb'.mono (by simp))⟩

/-- meets: the closure over one new block. -/
theorem meets_any (ao : Option Addr) (n cap : Nat) (w : World) :
    Calls Tryz.prog 99 #[.slice ao n cap] w fun e w' => e = .returned (.func (.func 127) #[] #[.pointer (some ⟨w.heap.size, 0, none⟩)]) ∧ w' = w.alloc (.cells #[.slice ao n cap] 68) := by
  go_enter Tryz.func99, Tryz.ntmps99
  go_wp2
  go_ret
  exact ⟨rfl, rfl⟩


end Go.Proofs.YtcajifelbldjnaaGreat.S

/- Slices of boxes, closures. -/
namespace Go.Proofs.YtcajifelbldjnaaGreat.S
open Go.RowKit
/-- A slice of boxes. -/
def IsSl (l : List Bx) (v : Value) (w : World) : Prop := ∃ ao cap, v = .slice ao l.length cap ∧ Bxs w ao l
/-- The closure over boxes. -/
def IsMeets (l : List Bx) (v : Value) (w : World) : Prop := ∃ B, v = .func (.func 127) #[] #[ptr B] ∧ B < w.heap.size ∧ ∃ ao cap, w.cell? ⟨B, 0, none⟩ = some (.slice ao l.length cap) ∧ Bxs w ao l
theorem IsMeets.later {l : List Bx} {v : Value} {w w' : World} (h : IsMeets l v w) (hb : Below w.heap.size w w') : IsMeets l v w' := by
  obtain ⟨B, h1, h2, ao, cap, h3, h4⟩ := h
  exact ⟨B, h1, Nat.lt_of_lt_of_le h2 hb.size, ao, cap, cell_later hb h3, h4.next hb⟩
theorem meets_is (l : List Bx) (v : Value) (w : World) (h : IsSl l v w) : Calls Tryz.prog 99 #[v] w fun e w' => ∃ u, e = .returned u ∧ IsMeets l u w' ∧ Below w.heap.size w w' := by
  obtain ⟨ao, cap, rfl, h2⟩ := h
  refine (meets_any ao l.length cap w).mono ?_
  rintro e w' ⟨rfl, rfl⟩
  exact ⟨_, rfl, ⟨_, rfl, by simp, ao, cap, by go_simp, h2.next ((Below.refl _ _).alloc (Nat.le_refl _) _)⟩, (Below.refl _ _).alloc (Nat.le_refl _) _⟩
theorem IsMeets.tests {l : List Bx} {B : Nat} {w : World} (hl : l.length ≤ 9223372036854775807) (h : IsMeets l (.func (.func 127) #[] #[ptr B]) w) : Tests 127 #[ptr B] (fun b => l.any (meet b)) w := by
  intro a W hW
  obtain ⟨B', e, h2, ao, cap, h3, h4⟩ := h.later hW
  simp at e
  subst e
  exact outer_any a B ao cap l W h3 h2 h4 hl
theorem new1 (a : Bx) (w : World) : IsSl [a] (.slice (some ⟨w.heap.size, 0, none⟩) 1 1) (w.alloc (bo a)) := ⟨_, _, rfl, Bxs.one w a⟩
def hullR (a b : Bx) : Bx × Int := if badL [a, b] = 0 then (hullB a b, 0) else (zB, badL [a, b])
def moveR (a : Bx) (p : Pt) : Bx × Int := if bad1 a = 0 then (if nearP p = true then (if nearB (movB a p) = true then (movB a p, 0) else (zB, 2)) else (zB, 2)) else (zB, bad1 a)
theorem near_sm {b : Bx} (h : bad1 b = 0) : SmB b := by
  have h := nearB_iff.1 (bad1_ok.1 h).1
  unfold SmB SmP
  simp only
  omega
theorem nearP_sm {p : Pt} (h : nearP p = true) : SmP p := by
  have h := nearP_iff.1 h
  unfold SmP
  omega

end Go.Proofs.YtcajifelbldjnaaGreat.S

/- refusalOfList, First walked. -/
namespace Go.Proofs.YtcajifelbldjnaaGreat.S
open Go.RowKit
theorem refusal_r (ao : Option Addr) (cap : Nat) (l : List Bx) (r : Int) (hr : badL l = r) (w : World) (hL : Bxs w ao l) (hl : l.length ≤ 100) :
    Calls Tryz.prog 59 #[.slice ao l.length cap] w fun e w' => e = .returned (.int .i64 r) ∧ Below w.heap.size w w' := by
  rw [← hr]; exact refusal_any ao cap l w hL hl
set_option maxHeartbeats 1600000 in
theorem refList_any (ao ao' : Option Addr) (cap cap' : Nat) (l more : List Bx) (w : World) (hL : Bxs w ao l) (hM : Bxs w ao' more) (hm : more.length ≤ 100) (hll : l.length ≤ 9223372036854775807) :
    Calls Tryz.prog 97 #[.slice ao l.length cap, .slice ao' more.length cap'] w fun e w' => e = .returned (.int .i64 (rlist l more)) ∧ Below w.heap.size w w' := by
  have HL : Hid (Bxs w ao l) := hL
  have HM : Hid (Bxs w ao' more) := hM
  clear hL hM
  by_cases h : 40 < l.length
  · have HR : Hid (rlist l more = 7) := rlist_many h
    go_enter Tryz.func97, Tryz.ntmps97
    go_wp2
    go_ret
    exact ⟨ret_int HR.out.symm, Below.refl _ _⟩
  · have h' : l.length ≤ 40 := by omega
    clear h
    by_cases hb : badL l = 0
    · have HB : Hid (badL l = 0) := hb
      have HR : Hid (rlist l more = badL more) := rlist_more h' hb
      clear hb
      go_enter Tryz.func97, Tryz.ntmps97
      go_wp2_with fail
      refine (refusal_r ao cap l 0 HB.out w HL.out (by omega)).mono ?_
      rintro e w1 ⟨rfl, hb1⟩
      have HB1 : Hid (Below w.heap.size w w1) := hb1
      clear hb1
      go_wp2_with fail
      refine (refusal_any ao' cap' more w1 (HM.out.next HB1.out) hm).mono ?_
      rintro e w2 ⟨rfl, hb2⟩
      go_wp2
      go_ret
      exact ⟨ret_int HR.out.symm, HB1.out.trans (hb2.mono HB1.out.size)⟩
    · have HB : Hid (badL l ≠ 0) := hb
      have hne : (badL l != 0) = true := by simp [hb]
      have HR : Hid (rlist l more = badL l) := rlist_bad h' hb
      clear hb
      go_enter Tryz.func97, Tryz.ntmps97
      go_wp2_with fail
      refine (refusal_any ao cap l w HL.out (by omega)).mono ?_
      rintro e w1 ⟨rfl, hb1⟩
      go_wp2
      go_ret
      exact ⟨ret_int HR.out.symm, hb1⟩
theorem refList1 (ao : Option Addr) (cap : Nat) (l : List Bx) (a : Bx) (r : Int) (hr : rlist l [a] = r) (W : World) (n : Nat) (hn : n = W.heap.size) (hL : Bxs W ao l) (hll : l.length ≤ 9223372036854775807) :
    Calls Tryz.prog 97 #[.slice ao l.length cap, .slice (some ⟨n, 0, none⟩) 1 1] (W.alloc (bo a)) fun e w' => e = .returned (.int .i64 r) ∧ Below (W.alloc (bo a)).heap.size (W.alloc (bo a)) w' := by
  subst hn
  rw [← hr]
  exact refList_any ao _ cap 1 l [a] _ (hL.next ((Below.refl _ _).alloc (Nat.le_refl _) _)) (Bxs.one W a) (by simp) hll
set_option maxHeartbeats 3200000 in
theorem first_any (ao : Option Addr) (cap : Nat) (l : List Bx) (a : Bx) (w : World) (hL : Bxs w ao l) (hll : l.length ≤ 9223372036854775807) :
    Calls Tryz.prog 65 #[.slice ao l.length cap, bv a] w fun e w' => e = .returned (.tuple #[.int .i64 (firstR l a).1, .int .i64 (firstR l a).2]) ∧ Below w.heap.size w w' := by
  have HL : Hid (Bxs w ao l) := hL
  clear hL
  have hal : Below w.heap.size w ((w.alloc (bo a)).alloc (bo a)) := below_grow _ (Nat.le_refl _) (below_grow _ (Nat.le_refl _) (Below.refl _ _) _) _
  have HAL : Hid (Below w.heap.size w ((w.alloc (bo a)).alloc (bo a))) := hal
  clear hal
  by_cases hr : rlist l [a] = 0
  · have HR : Hid (rlist l [a] = 0) := hr
    have HQ : Hid (firstR l a = (firstI l a, 0)) := if_pos hr
    clear hr
    go_enter Tryz.func65, Tryz.ntmps65
    go_wp2_with fail
    refine (refList1 ao cap l a 0 HR.out (w.alloc (bo a)) (w.heap.size + 1) (by simp) (HL.out.next ((Below.refl _ _).alloc (Nat.le_refl _) _)) hll).mono ?_
    rintro e w1 ⟨rfl, hb1⟩
    have HB1 : Hid (Below w.heap.size w w1) := HAL.out.trans (hb1.mono HAL.out.size)
    have Ka1 : Hid (Bf w.heap.size a w1) := ((Bf.new w a).later ((Below.refl _ _).alloc (Nat.le_refl _) _)).later hb1
    clear hb1
    obtain ⟨⟨al, a0, a1, a2, a3, a4, a5⟩, _⟩ := Ka1.out
    simp only [Nat.zero_add] at a1 a2 a3 a4 a5
    go_wp2_with fail
    refine (meets_is [a] _ (w1.alloc (bo a)) (new1 a w1)).mono ?_
    rintro e w2 ⟨u, rfl, hu, hb2⟩
    have HB2 : Hid (Below w.heap.size w w2) := (below_grow _ (Nat.le_refl _) HB1.out (bo a)).trans (hb2.mono (by have := HB1.out.size; simp; omega))
    clear hb2 al a0 a1 a2 a3 a4 a5
    obtain ⟨B, rfl, _⟩ := id hu
    have HU : Hid (IsMeets [a] (.func (.func 127) #[] #[ptr B]) w2) := hu
    clear hu
    go_wp2_with fail
    refine (indexFunc_any 127 #[ptr B] _ ao cap l w2 en127 (IsMeets.tests (by simp) HU.out) (HL.out.next HB2.out) hll).mono ?_
    rintro e w3 ⟨rfl, hb3⟩
    rw [any_one]
    go_wp2
    go_ret2
    exact ⟨by rw [HQ.out]; rfl, HB2.out.trans (hb3.mono HB2.out.size)⟩
  · have hne : (rlist l [a] != 0) = true := by simp [hr]
    have HQ : Hid (firstR l a = (0, rlist l [a])) := if_neg hr
    clear hr
    go_enter Tryz.func65, Tryz.ntmps65
    go_wp2_with fail
    refine (refList1 ao cap l a _ rfl (w.alloc (bo a)) (w.heap.size + 1) (by simp) (HL.out.next ((Below.refl _ _).alloc (Nat.le_refl _) _)) hll).mono ?_
    rintro e w1 ⟨rfl, hb1⟩
    go_wp2
    go_ret2
    exact ⟨by rw [HQ.out]; rfl, HAL.out.trans (hb1.mono HAL.out.size)⟩

end Go.Proofs.YtcajifelbldjnaaGreat.S

/- Small lemmas. -/
namespace Go.Proofs.YtcajifelbldjnaaGreat.S
open Go.RowKit
/-- A point in a block. -/
structure Pf (b : Nat) (p : Pt) (w : World) : Prop where
  lt : b < w.heap.size
  c0 : w.cell? ⟨b, 0, none⟩ = some (.int .i64 p.x)
  c1 : w.cell? ⟨b, 1, none⟩ = some (.int .i64 p.y)
  c2 : w.cell? ⟨b, 2, none⟩ = some (.int .i64 p.z)
theorem Pf.later {b : Nat} {p : Pt} {w w' : World} (h : Pf b p w) (hb : Below w.heap.size w w') : Pf b p w' :=
  ⟨Nat.lt_of_lt_of_le h.lt hb.size, cell_later hb h.c0, cell_later hb h.c1, cell_later hb h.c2⟩
theorem Pf.new (w : World) (p : Pt) : Pf w.heap.size p (w.alloc (po p)) := ⟨by simp, by go_simp, by go_simp, by go_simp⟩
theorem refusal1r (a : Bx) (r : Int) (h : bad1 a = r) (W : World) (n : Nat) (hn : n = W.heap.size) : Calls Tryz.prog 59 #[.slice (some ⟨n, 0, none⟩) 1 1] (W.alloc (bo a)) fun e w' => e = .returned (.int .i64 r) ∧ Below (W.alloc (bo a)).heap.size (W.alloc (bo a)) w' := by
  rw [← h]; exact refusal1 a W n hn
theorem near1r (p : Pt) (r : Bool) (h : nearP p = r) (W : World) (n : Nat) (hn : n = W.heap.size) : Calls Tryz.prog 60 #[.slice (some ⟨n, 0, none⟩) 1 1] (W.alloc (po p)) fun e w' => e = .returned (.bool r) ∧ Below (W.alloc (po p)).heap.size (W.alloc (po p)) w' := by
  rw [← h]; exact near1 p W n hn
theorem near2r (a : Bx) (r : Bool) (h : nearB a = r) (W : World) (n : Nat) (hn : n = W.heap.size) : Calls Tryz.prog 60 #[.slice (some ⟨n, 0, none⟩) 2 2] (W.alloc (bp a)) fun e w' => e = .returned (.bool r) ∧ Below (W.alloc (bp a)).heap.size (W.alloc (bp a)) w' := by
  rw [← h]; exact near2 a W n hn

end Go.Proofs.YtcajifelbldjnaaGreat.S

/- leastHeight walked. -/
namespace Go.Proofs.YtcajifelbldjnaaGreat.S
open Go.RowKit
theorem wrap_is {x : Int} (h : -9223372036854775808 ≤ x) (h2 : x ≤ 9223372036854775807) : IntKind.i64.wrap x = x := by
  rw [IntWalk.i64_left]; exact IntWalk.wrap64_in _ ⟨h, h2⟩
end Go.Proofs.YtcajifelbldjnaaGreat.S
