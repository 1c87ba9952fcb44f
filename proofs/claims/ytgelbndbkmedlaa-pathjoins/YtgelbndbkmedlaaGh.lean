import Derived.Test.YtgelbndbkmedlaaGg
import Derived.Shelf.Abstract
import Derived.Laws.StructEq
import Derived.Maps.AppendAt
import Derived.Test.YtgelbndbkmedlaaGa
import Derived.Test.YtgelbndbkmedlaaGd

/- Seats, plainly and in memory. -/
namespace Go.Proofs.Ytgelbndbkmedlaa
open Go.RowKit
/-- A seat. -/
structure Sit where
  slot : Int
  ware : Wr
  name : ByteArray
abbrev scs (s : Sit) : Array Value := #[.int .i64 s.slot, .string s.ware.name, .int .i64 s.ware.kind, .int .i64 s.ware.rows, .int .i64 s.ware.cols, .int .i64 s.ware.x, .int .i64 s.ware.y, .int .i64 s.ware.pitch, .int .i64 s.ware.wid, .int .i64 s.ware.len, .int .i64 s.ware.hei, .int .i64 s.ware.deep, .int .i64 s.ware.cap, .string s.name]
abbrev sv (s : Sit) : Value := .agg (scs s)
abbrev sobj (s : Sit) : Obj := .cells (scs s) 79
/-- A seat at a place of memory. -/
structure StAt (w : World) (b o : Nat) (s : Sit) : Prop where
  lt : b < w.heap.size
  c0 : w.cell? ⟨b, o, none⟩ = some (.int .i64 s.slot)
  c1 : w.cell? ⟨b, o + 1, none⟩ = some (.string s.ware.name)
  c2 : w.cell? ⟨b, o + 2, none⟩ = some (.int .i64 s.ware.kind)
  c3 : w.cell? ⟨b, o + 3, none⟩ = some (.int .i64 s.ware.rows)
  c4 : w.cell? ⟨b, o + 4, none⟩ = some (.int .i64 s.ware.cols)
  c5 : w.cell? ⟨b, o + 5, none⟩ = some (.int .i64 s.ware.x)
  c6 : w.cell? ⟨b, o + 6, none⟩ = some (.int .i64 s.ware.y)
  c7 : w.cell? ⟨b, o + 7, none⟩ = some (.int .i64 s.ware.pitch)
  c8 : w.cell? ⟨b, o + 8, none⟩ = some (.int .i64 s.ware.wid)
  c9 : w.cell? ⟨b, o + 9, none⟩ = some (.int .i64 s.ware.len)
  c10 : w.cell? ⟨b, o + 10, none⟩ = some (.int .i64 s.ware.hei)
  c11 : w.cell? ⟨b, o + 11, none⟩ = some (.int .i64 s.ware.deep)
  c12 : w.cell? ⟨b, o + 12, none⟩ = some (.int .i64 s.ware.cap)
  c13 : w.cell? ⟨b, o + 13, none⟩ = some (.string s.name)
theorem StAt.next {w w1 : World} {b o : Nat} {s : Sit} (h : StAt w b o s) (hb : Below w.heap.size w w1) : StAt w1 b o s :=
  ⟨Nat.lt_of_lt_of_le h.lt hb.size, cell_later hb h.c0, cell_later hb h.c1, cell_later hb h.c2, cell_later hb h.c3, cell_later hb h.c4, cell_later hb h.c5, cell_later hb h.c6, cell_later hb h.c7, cell_later hb h.c8, cell_later hb h.c9, cell_later hb h.c10, cell_later hb h.c11, cell_later hb h.c12, cell_later hb h.c13⟩
/-- A seat in a block of its own, not frozen. -/
structure Sf (b : Nat) (s : Sit) (w : World) : Prop where
  bx : StAt w b 0 s
  f0 : w.frozen? ⟨b, 0, none⟩ = false
  f1 : w.frozen? ⟨b, 1, none⟩ = false
  f2 : w.frozen? ⟨b, 2, none⟩ = false
  f3 : w.frozen? ⟨b, 3, none⟩ = false
  f4 : w.frozen? ⟨b, 4, none⟩ = false
  f5 : w.frozen? ⟨b, 5, none⟩ = false
  f6 : w.frozen? ⟨b, 6, none⟩ = false
  f7 : w.frozen? ⟨b, 7, none⟩ = false
  f8 : w.frozen? ⟨b, 8, none⟩ = false
  f9 : w.frozen? ⟨b, 9, none⟩ = false
  f10 : w.frozen? ⟨b, 10, none⟩ = false
  f11 : w.frozen? ⟨b, 11, none⟩ = false
  f12 : w.frozen? ⟨b, 12, none⟩ = false
  f13 : w.frozen? ⟨b, 13, none⟩ = false
theorem Sf.later {b : Nat} {s : Sit} {w w1 : World} (h : Sf b s w) (hb : Below w.heap.size w w1) : Sf b s w1 :=
  ⟨h.bx.next hb, (hb.frozen (p := ⟨b, 0, none⟩) h.bx.lt).trans h.f0, (hb.frozen (p := ⟨b, 1, none⟩) h.bx.lt).trans h.f1, (hb.frozen (p := ⟨b, 2, none⟩) h.bx.lt).trans h.f2, (hb.frozen (p := ⟨b, 3, none⟩) h.bx.lt).trans h.f3, (hb.frozen (p := ⟨b, 4, none⟩) h.bx.lt).trans h.f4, (hb.frozen (p := ⟨b, 5, none⟩) h.bx.lt).trans h.f5, (hb.frozen (p := ⟨b, 6, none⟩) h.bx.lt).trans h.f6, (hb.frozen (p := ⟨b, 7, none⟩) h.bx.lt).trans h.f7, (hb.frozen (p := ⟨b, 8, none⟩) h.bx.lt).trans h.f8, (hb.frozen (p := ⟨b, 9, none⟩) h.bx.lt).trans h.f9, (hb.frozen (p := ⟨b, 10, none⟩) h.bx.lt).trans h.f10, (hb.frozen (p := ⟨b, 11, none⟩) h.bx.lt).trans h.f11, (hb.frozen (p := ⟨b, 12, none⟩) h.bx.lt).trans h.f12, (hb.frozen (p := ⟨b, 13, none⟩) h.bx.lt).trans h.f13⟩
theorem Sf.new (w : World) (s : Sit) : Sf w.heap.size s (w.alloc (sobj s)) :=
  ⟨⟨by simp, by go_simp, by go_simp, by go_simp, by go_simp, by go_simp, by go_simp, by go_simp, by go_simp, by go_simp, by go_simp, by go_simp, by go_simp, by go_simp, by go_simp⟩, by go_simp, by go_simp, by go_simp, by go_simp, by go_simp, by go_simp, by go_simp, by go_simp, by go_simp, by go_simp, by go_simp, by go_simp, by go_simp, by go_simp⟩
/-- Seats, one behind the other. -/
def Sts (w : World) (ao : Option Addr) (l : List Sit) : Prop :=
  l = [] ∨ ∃ b off, ao = some ⟨b, off, none⟩ ∧ ∀ k (hk : k < l.length), StAt w b (off + k * 14) (l[k]'hk)
theorem Sts.next {w w1 : World} {ao : Option Addr} {l : List Sit} (h : Sts w ao l) (hb : Below w.heap.size w w1) : Sts w1 ao l :=
  h.elim .inl fun ⟨b, off, e, h⟩ => .inr ⟨b, off, e, fun k hk => (h k hk).next hb⟩
theorem Sts.at {w : World} {ao : Option Addr} {l : List Sit} (h : Sts w ao l) {k : Nat} (hk : k < l.length) : ∃ b off, ao = some ⟨b, off, none⟩ ∧ StAt w b (off + k * 14) (l[k]'hk) := by
  rcases h with rfl | ⟨b, off, e, h⟩
  · simp at hk
  · exact ⟨b, off, e, h k hk⟩
theorem Sts.nil (w : World) (ao : Option Addr) : Sts w ao [] := .inl rfl
theorem Sts.take {w : World} {ao : Option Addr} {l : List Sit} (h : Sts w ao l) (k : Nat) : Sts w ao (l.take k) := by
  rcases h with rfl | ⟨b, off, e, h⟩
  · exact .inl (by simp)
  · refine .inr ⟨b, off, e, fun j hj => ?_⟩
    rw [List.length_take] at hj
    rw [List.getElem_take]
    exact h j (by omega)
theorem Sts.drop {w : World} {b off : Nat} {l : List Sit} (h : Sts w (some ⟨b, off, none⟩) l) (k : Nat) : Sts w (some ⟨b, off + k * 14, none⟩) (l.drop k) := by
  rcases h with rfl | ⟨b', off', e, h⟩
  · exact .inl (by simp)
  · simp only [Option.some.injEq, Addr.mk.injEq, and_true] at e
    obtain ⟨rfl, rfl⟩ := e
    refine .inr ⟨b, off + k * 14, rfl, fun j hj => ?_⟩
    rw [List.length_drop] at hj
    have := h (k + j) (by omega)
    rw [List.getElem_drop]
    rw [show off + k * 14 + j * 14 = off + (k + j) * 14 by omega]
    exact this
/-- No text of a seat is too long for the model. -/
def SOk (s : Sit) : Prop := s.ware.name.size ≤ maxLen ∧ s.name.size ≤ maxLen

/-- The number of the first seat that is so; -1: none is. -/
def idxS (f : Sit → Bool) (l : List Sit) : Int := match l.findIdx? f with
  | some k => (k : Int)
  | none => -1
theorem take_succ_allS {l : List Sit} {k : Nat} {p : Sit → Prop} (h : k < l.length) (ha : ∀ b ∈ l.take k, p b) (hb : p (l[k]'h)) : ∀ b ∈ l.take (k + 1), p b := by
  rw [List.take_succ_eq_append_getElem h]
  intro f hf
  rcases List.mem_append.1 hf with hf | hf
  · exact ha f hf
  · simp at hf; subst hf; exact hb
theorem idxS_hit {f : Sit → Bool} {l : List Sit} {k : Nat} (h : k < l.length) (ha : ∀ b ∈ l.take k, f b = false) (hb : f (l[k]'h) = true) : idxS f l = k := by
  unfold idxS
  rw [show l.findIdx? f = some k from ?_]
  rw [List.findIdx?_eq_some_iff_getElem]
  refine ⟨h, hb, fun j hj => ?_⟩
  have := ha (l[j]'(by omega)) (by rw [List.mem_take_iff_getElem]; exact ⟨j, by omega, rfl⟩)
  simp [this]
theorem idxS_miss {f : Sit → Bool} {l : List Sit} (ha : ∀ b ∈ l, f b = false) : idxS f l = -1 := by
  unfold idxS
  rw [show l.findIdx? f = none from ?_]
  rw [List.findIdx?_eq_none_iff]
  exact ha
theorem idxS_cases (f : Sit → Bool) (l : List Sit) : (idxS f l = -1 ∧ ∀ b ∈ l, f b = false) ∨ ∃ k, ∃ h : k < l.length, idxS f l = (k : Int) ∧ f (l[k]'h) = true ∧ ∀ j (hj : j < k), f (l[j]'(by omega)) = false := by
  unfold idxS
  cases e : l.findIdx? f with
  | none => exact .inl ⟨rfl, List.findIdx?_eq_none_iff.1 e⟩
  | some k =>
    obtain ⟨h, hb, ha⟩ := List.findIdx?_eq_some_iff_getElem.1 e
    exact .inr ⟨k, h, rfl, hb, fun j hj => by simpa using ha j hj⟩
theorem idxS_any (f : Sit → Bool) (l : List Sit) : decide (0 ≤ idxS f l) = l.any f := by
  rcases idxS_cases f l with ⟨h, ha⟩ | ⟨k, hk, h, hb, _⟩
  · rw [h, show l.any f = false by rw [List.any_eq_false]; intro b hb; simp [ha b hb]]; rfl
  · rw [h, show l.any f = true by rw [List.any_eq_true]; exact ⟨_, List.getElem_mem hk, hb⟩]; simp

/-- What is asked of a test over seats, from a world on. -/
def TestsS (g : Nat) (caps : Array Value) (f : Sit → Bool) (w : World) : Prop :=
  ∀ (a : Sit) (W : World), Below w.heap.size w W → Calls Try.prog g (#[sv a] ++ caps) W fun e w' => e = .returned (.bool (f a)) ∧ Below W.heap.size W w'

set_option maxHeartbeats 3200000 in
theorem indexFuncS_any (g : Nat) (caps : Array Value) (f : Sit → Bool) (ao : Option Addr) (cap : Nat) (l : List Sit) (w : World) (eg : ∀ args w, (callFunc g args).run Try.prog w = .ok (.enter g args) w)
    (hT : TestsS g caps f w) (hL : Sts w ao l) (hl : l.length ≤ 9223372036854775807) :
    Calls Try.prog 102 #[.slice ao l.length cap, .func (.func g) #[] caps] w fun e w' => e = .returned (.int .i64 (idxS f l)) ∧ Below w.heap.size w w' := by
  have HT : Hid (TestsS g caps f w) := hT
  have HL : Hid (Sts w ao l) := hL
  clear hT hL
  go_enter Try.func102, Try.ntmps102
  go_wp2
  go_loopw [5, 8] (fun _ i wr => ∃ k : Nat, k ≤ l.length ∧ i = .int .i64 k ∧ (∀ b ∈ l.take k, f b = false) ∧ Below w.heap.size w wr) (fun _ i _ => l.length - (intOf i).toNat)
  case atStart => exact ⟨0, Nat.zero_le _, rfl, (fun f hf => by simp at hf), Below.refl _ _⟩
  case round =>
    obtain ⟨k, hk, rfl, hok, hb⟩ := hrel
    have HB : Hid (Below w.heap.size w wr) := hb
    have HO : Hid (∀ b ∈ l.take k, f b = false) := hok
    clear hb hok
    by_cases hlt : k < l.length
    · obtain ⟨b, off, rfl, hbx⟩ := (HL.out.next HB.out).at hlt
      have HHit : Hid (f (l[k]'hlt) = true → idxS f l = k) := idxS_hit hlt HO.out
      have HMiss : Hid (f (l[k]'hlt) = false → ∀ b ∈ l.take (k + 1), f b = false) := take_succ_allS hlt HO.out
      generalize l[k]'hlt = a at *
      obtain ⟨_, c0, c1, c2, c3, c4, c5, c6, c7, c8, c9, c10, c11, c12, c13⟩ := hbx
      have hcall := HT.out a wr HB.out
      cases hq : f a with
      | true =>
        rw [hq] at hcall
        go_wp2_with (go_at_fn g; refine hcall.mono ?_; rintro e w' ⟨rfl, hb'⟩)
        go_ret
        exact ⟨ret_int (HHit.out hq).symm, HB.out.trans (hb'.mono HB.out.size)⟩
      | false =>
        rw [hq] at hcall
        go_wp2_with (go_at_fn g; refine hcall.mono ?_; rintro e w' ⟨rfl, hb'⟩)
        go_roundw
        case rel => exact ⟨k + 1, by omega, by go_num, HMiss.out hq, HB.out.trans (hb'.mono HB.out.size)⟩
        case measure => simp [intOf]; omega
    · go_wp2
      go_ret
      exact ⟨ret_int (idxS_miss fun b hb => HO.out b (by rw [List.take_of_length_le (by omega)]; exact hb)).symm, HB.out⟩

set_option maxHeartbeats 1600000 in
theorem containsFuncS_any (g : Nat) (caps : Array Value) (f : Sit → Bool) (ao : Option Addr) (cap : Nat) (l : List Sit) (w : World) (eg : ∀ args w, (callFunc g args).run Try.prog w = .ok (.enter g args) w)
    (hT : TestsS g caps f w) (hL : Sts w ao l) (hl : l.length ≤ 9223372036854775807) :
    Calls Try.prog 83 #[.slice ao l.length cap, .func (.func g) #[] caps] w fun e w' => e = .returned (.bool (l.any f)) ∧ Below w.heap.size w w' := by
  have hcall := indexFuncS_any g caps f ao cap l w eg hT hL hl
  have HA : Hid (decide (0 ≤ idxS f l) = l.any f) := idxS_any f l
  clear hT hL
  generalize idxS f l = i at *
  go_enter Try.func83, Try.ntmps83
  go_wp2_with (go_at_call 102; refine hcall.mono ?_; rintro e w' ⟨rfl, hb'⟩)
  go_ret
  exact ⟨ret_bool HA.out, hb'⟩

theorem en103 : ∀ args w, (callFunc 103 args).run Try.prog w = .ok (.enter 103 args) w := enters_of Try.func103 (by kernel_rfl) rfl
theorem en104 : ∀ args w, (callFunc 104 args).run Try.prog w = .ok (.enter 104 args) w := enters_of Try.func104 (by kernel_rfl) rfl
abbrev ptr (b : Nat) : Value := .pointer (some ⟨b, 0, none⟩)
theorem standingIn_any (n : Int) (w : World) :
    Calls Try.prog 84 #[.int .i64 n] w fun e w' => e = .returned (.func (.func 103) #[] #[ptr w.heap.size]) ∧ w' = w.alloc (.cells #[.int .i64 n] 3) := by
  go_enter Try.func84, Try.ntmps84
  go_wp2
  go_ret
  exact ⟨rfl, rfl⟩
theorem named_any (n : ByteArray) (w : World) :
    Calls Try.prog 85 #[.string n] w fun e w' => e = .returned (.func (.func 104) #[] #[ptr w.heap.size]) ∧ w' = w.alloc (.cells #[.string n] 9) := by
  go_enter Try.func85, Try.ntmps85
  go_wp2
  go_ret
  exact ⟨rfl, rfl⟩
set_option maxHeartbeats 1600000 in
theorem standing_test (a : Sit) (n : Int) (B : Nat) (w : World) (hB : B < w.heap.size) (hc : w.cell? ⟨B, 0, none⟩ = some (.int .i64 n)) :
    Calls Try.prog 103 #[sv a, ptr B] w fun e w' => e = .returned (.bool (a.slot == n)) ∧ Below w.heap.size w w' := by
  have hne : B ≠ w.heap.size := by omega
  go_enter Try.func103, Try.ntmps103
  go_wp2
  go_ret
  exact ⟨rfl, (Below.refl _ _).alloc (Nat.le_refl _) _⟩
set_option maxHeartbeats 1600000 in
theorem named_test (a : Sit) (n : ByteArray) (B : Nat) (w : World) (hB : B < w.heap.size) (hc : w.cell? ⟨B, 0, none⟩ = some (.string n)) :
    Calls Try.prog 104 #[sv a, ptr B] w fun e w' => e = .returned (.bool (a.name == n)) ∧ Below w.heap.size w w' := by
  have hne : B ≠ w.heap.size := by omega
  go_enter Try.func104, Try.ntmps104
  go_wp2
  go_ret
  exact ⟨ret_bool (beq_toListBytes a.name n).symm, (Below.refl _ _).alloc (Nat.le_refl _) _⟩


end Go.Proofs.Ytgelbndbkmedlaa

/- Fluids, plainly; fluid.isLabel walked. -/
namespace Go.Proofs.Ytgelbndbkmedlaa.F
open Go.RowKit
/-- A parcel: its label and its volume. -/
abbrev Pc := ByteArray × Int

/-- What is wrong with a parcel. -/
def bad1 (p : Pc) : Int := if lab p.1 = true then (if 0 ≤ p.2 ∧ p.2 ≤ 1000000000 then 0 else 2) else 3
/-- What is wrong with the first parcel that may not be. -/
def badL : List Pc → Int
  | [] => 0
  | p :: r => if bad1 p = 0 then badL r else bad1 p
/-- All volumes together. -/
def tot : List Pc → Int
  | [] => 0
  | p :: r => p.2 + tot r
/-- What is wrong with a fluid. -/
def fref (ps : List Pc) : Int := if 100 < ps.length then 7 else if badL ps = 0 then (if 1000000000 < tot ps then 8 else 0) else badL ps
/-- What is wrong with the first fluid that may not be. -/
def frefs : List (List Pc) → Int
  | [] => 0
  | f :: r => if fref f = 0 then frefs r else fref f

theorem bad1_name {p : Pc} (h : lab p.1 = false) : bad1 p = 3 := by unfold bad1; rw [h]; rfl
theorem bad1_range {p : Pc} (h : lab p.1 = true) (h2 : p.2 < 0 ∨ 1000000000 < p.2) : bad1 p = 2 := by unfold bad1; rw [if_pos h, if_neg (by omega)]
theorem bad1_ok {p : Pc} (h : lab p.1 = true) (h2 : 0 ≤ p.2) (h3 : p.2 ≤ 1000000000) : bad1 p = 0 := by unfold bad1; rw [if_pos h, if_pos ⟨h2, h3⟩]
theorem bad1_in {p : Pc} (h : bad1 p = 0) : lab p.1 = true ∧ 0 ≤ p.2 ∧ p.2 ≤ 1000000000 := by
  unfold bad1 at h
  split at h
  · split at h
    · refine ⟨by assumption, ?_⟩; assumption
    · omega
  · omega

theorem tot_append (a b : List Pc) : tot (a ++ b) = tot a + tot b := by
  induction a with
  | nil => simp [tot]
  | cons p a ih => simp only [List.cons_append, tot, ih]; omega
theorem tot_snoc (a : List Pc) (p : Pc) : tot (a ++ [p]) = tot a + p.2 := by rw [tot_append]; simp [tot]

theorem badL_append_ok {a b : List Pc} (h : badL a = 0) : badL (a ++ b) = badL b := by
  induction a with
  | nil => rfl
  | cons p a ih =>
    simp only [badL] at h
    split at h
    · rename_i hp; simp only [List.cons_append, badL]; rw [if_pos hp]; exact ih h
    · rename_i hp; exact absurd h hp
theorem badL_first {a b : List Pc} {p : Pc} (h : badL a = 0) (hp : bad1 p ≠ 0) : badL (a ++ p :: b) = bad1 p := by
  rw [badL_append_ok h]; simp only [badL]; rw [if_neg hp]
theorem badL_snoc {a : List Pc} {p : Pc} (h : badL a = 0) (hp : bad1 p = 0) : badL (a ++ [p]) = 0 := by
  rw [badL_append_ok h]; simp only [badL]; rw [if_pos hp]
theorem badL_in {a : List Pc} (h : badL a = 0) : ∀ p ∈ a, bad1 p = 0 := by
  induction a with
  | nil => intro p hp; cases hp
  | cons q a ih =>
    simp only [badL] at h
    split at h
    · intro p hp
      rcases List.mem_cons.1 hp with rfl | hp
      · assumption
      · exact ih h p hp
    · rename_i hp; exact absurd h hp
theorem badL_of {a : List Pc} (h : ∀ p ∈ a, bad1 p = 0) : badL a = 0 := by
  induction a with
  | nil => rfl
  | cons q a ih =>
    simp only [badL]; rw [if_pos (h q (by simp))]; exact ih (fun p hp => h p (by simp [hp]))

/-- All volumes from 0 on. -/
def Nn (ps : List Pc) : Prop := ∀ p ∈ ps, 0 ≤ p.2
/-- All labels may be, all volumes from 0 to the greatest. -/
def Fine (ps : List Pc) : Prop := ∀ p ∈ ps, lab p.1 = true ∧ 0 ≤ p.2 ∧ p.2 ≤ 1000000000
theorem Fine.nn {ps : List Pc} (h : Fine ps) : Nn ps := fun p hp => (h p hp).2.1
theorem fine_of {ps : List Pc} (h : badL ps = 0) : Fine ps := fun p hp => bad1_in (badL_in h p hp)
theorem of_fine {ps : List Pc} (h : Fine ps) : badL ps = 0 := badL_of fun p hp => bad1_ok (h p hp).1 (h p hp).2.1 (h p hp).2.2

theorem tot_nonneg {ps : List Pc} (h : Nn ps) : 0 ≤ tot ps := by
  induction ps with
  | nil => simp [tot]
  | cons p ps ih =>
    have := h p (by simp)
    have := ih (fun q hq => h q (by simp [hq]))
    simp only [tot]; omega
theorem tot_le {ps : List Pc} (h : Fine ps) : tot ps ≤ 1000000000 * ps.length := by
  induction ps with
  | nil => simp [tot]
  | cons p ps ih =>
    have := h p (by simp)
    have := ih (fun q hq => h q (by simp [hq]))
    simp only [tot, List.length_cons]; omega
theorem tot_take_le {ps : List Pc} (h : Nn ps) (k : Nat) : tot (ps.take k) ≤ tot ps := by
  have e := tot_append (ps.take k) (ps.drop k)
  rw [List.take_append_drop] at e
  have := tot_nonneg (ps := ps.drop k) (fun p hp => h p (List.mem_of_mem_drop hp))
  omega
theorem Nn.take {ps : List Pc} (h : Nn ps) (k : Nat) : Nn (ps.take k) := fun p hp => h p (List.mem_of_mem_take hp)
theorem Nn.append {a b : List Pc} (ha : Nn a) (hb : Nn b) : Nn (a ++ b) := fun p hp => (List.mem_append.1 hp).elim (ha p) (hb p)
theorem Nn.snoc {a : List Pc} {p : Pc} (ha : Nn a) (hp : 0 ≤ p.2) : Nn (a ++ [p]) := ha.append (fun q hq => by simp at hq; subst hq; exact hp)

theorem fref_many {ps : List Pc} (h : 100 < ps.length) : fref ps = 7 := if_pos h
theorem fref_bad {ps : List Pc} (h : ps.length ≤ 100) (hb : badL ps ≠ 0) : fref ps = badL ps := by unfold fref; rw [if_neg (by omega), if_neg hb]
theorem fref_size {ps : List Pc} (h : ps.length ≤ 100) (hb : badL ps = 0) (ht : 1000000000 < tot ps) : fref ps = 8 := by unfold fref; rw [if_neg (by omega), if_pos hb, if_pos ht]
theorem fref_ok {ps : List Pc} (h : ps.length ≤ 100) (hb : badL ps = 0) (ht : tot ps ≤ 1000000000) : fref ps = 0 := by unfold fref; rw [if_neg (by omega), if_pos hb, if_neg (by omega)]
theorem badL_ne {ps : List Pc} : badL ps = 0 ∨ badL ps = 2 ∨ badL ps = 3 := by
  induction ps with
  | nil => exact .inl rfl
  | cons p ps ih =>
    simp only [badL]
    split
    · exact ih
    · unfold bad1; split
      · split <;> simp
      · simp
theorem fref_in {ps : List Pc} (h : fref ps = 0) : ps.length ≤ 100 ∧ Fine ps ∧ tot ps ≤ 1000000000 := by
  unfold fref at h
  split at h
  · omega
  · split at h
    · split at h
      · omega
      · exact ⟨by omega, fine_of (by assumption), by omega⟩
    · exact absurd h (by assumption)
theorem of_fref {ps : List Pc} (h1 : ps.length ≤ 100) (h2 : Fine ps) (h3 : tot ps ≤ 1000000000) : fref ps = 0 := fref_ok h1 (of_fine h2) h3

theorem frefs_one (f : List Pc) : frefs [f] = fref f := by
  simp only [frefs]; split
  · rename_i h; exact h.symm
  · rfl
theorem frefs_two (f g : List Pc) : frefs [f, g] = if fref f = 0 then fref g else fref f := by
  have := frefs_one g
  simp only [frefs] at this ⊢
  rw [this]

theorem frefs_append_ok {a b : List (List Pc)} (h : ∀ f ∈ a, fref f = 0) : frefs (a ++ b) = frefs b := by
  induction a with
  | nil => rfl
  | cons p a ih =>
    simp only [List.cons_append, frefs]; rw [if_pos (h p (by simp))]; exact ih (fun q hq => h q (by simp [hq]))
theorem frefs_ok {a : List (List Pc)} (h : ∀ f ∈ a, fref f = 0) : frefs a = 0 := by
  have := frefs_append_ok (b := []) h
  rwa [List.append_nil] at this

/-! ### the plain form -/
theorem snoc_ind {α : Type} {C : List α → Prop} (h0 : C []) (h1 : ∀ a x, C a → C (a ++ [x])) (l : List α) : C l := by
  have : ∀ l : List α, C l.reverse := by
    intro l
    induction l with
    | nil => exact h0
    | cons x l ih => rw [List.reverse_cons]; exact h1 _ _ ih
  have h := this l.reverse
  rwa [List.reverse_reverse] at h
set_option maxHeartbeats 3200000 in
theorem isLabel_any (s : ByteArray) (w : World) (hs : s.size ≤ maxLen) :
    Calls Try.prog 112 #[.string s] w fun e w' => e = .returned (.bool (lab s)) ∧ Below w.heap.size w w' := by
  unfold maxLen at hs
  by_cases h1 : s.size < 1
  · rw [lab_short h1]
    go_enter Try.func112, Try.ntmps112
    go_wp2
    go_ret
    exact ⟨rfl, Below.refl _ _⟩
  by_cases h2 : 16 < s.size
  · rw [lab_long h2]
    go_enter Try.func112, Try.ntmps112
    go_wp2
    go_ret
    exact ⟨rfl, Below.refl _ _⟩
  go_enter Try.func112, Try.ntmps112
  go_wp2
  go_loopw [3] (fun _ wr => ∃ pos : Nat, pos ≤ s.size ∧ wr = w.iter s pos ∧ ∀ k (h : k < s.size), k < pos → okAt (s[k]'h) k = true) (fun _ wr => s.size - wr.iterPos w.heap.size)
  case atStart => exact ⟨0, Nat.zero_le _, rfl, fun k _ h => absurd h (Nat.not_lt_zero _)⟩
  case round =>
    obtain ⟨pos, hpos, rfl, hgood⟩ := hrel
    have HG : Hid (∀ k (h : k < s.size), k < pos → okAt (s[k]'h) k = true) := hgood
    clear hgood
    by_cases hp : pos < s.size
    · by_cases ha : (s[pos]'hp).toNat < 128
      · have hnx : ∀ ty, (Instr.next (.pointer (some ⟨w.heap.size, 0, none⟩)) true ty).run Try.prog (w.iter s pos) = _ := fun ty => run_next_ascii w s pos ty hp ha
        obtain ⟨c, hc⟩ : ∃ c : UInt8, c = s[pos]'hp := ⟨_, rfl⟩
        have HC : Hid (c = s[pos]'hp) := hc
        rw [← hc] at hnx ha
        clear hc
        by_cases hl : 97 ≤ c.toNat ∧ c.toNat ≤ 122
        · obtain ⟨l1, l2⟩ := hl
          go_wp2
          go_roundw
          case rel => exact ⟨pos + 1, by omega, rfl, good_succ hp HG.out (by rw [← HC.out]; exact okAt_letter l1 l2)⟩
          case measure => simp; omega
        · by_cases h0 : pos = 0
          · have HB : Hid (lab s = false) := lab_bad hp (by rw [← HC.out]; exact okAt_zero h0 (by omega))
            have h00 : ((pos : Int) == 0) = true := by simp; omega
            clear h0
            rcases (show c.toNat < 48 ∨ (48 ≤ c.toNat ∧ c.toNat ≤ 57) ∨ (57 < c.toNat ∧ c.toNat < 97) ∨ 122 < c.toNat by omega) with d | ⟨d0, d⟩ | ⟨d0, d⟩ | d
            · have l1 : decide ((97 : Int) ≤ (c.toNat : Int)) = false := by simp; omega
              have l3 : decide ((48 : Int) ≤ (c.toNat : Int)) = false := by simp; omega
              go_wp2
              go_ret
              exact ⟨ret_bool HB.out.symm, (Below.refl _ _).alloc (Nat.le_refl _) _⟩
            · have l1 : decide ((97 : Int) ≤ (c.toNat : Int)) = false := by simp; omega
              have l3 : decide ((48 : Int) ≤ (c.toNat : Int)) = true := by simp; omega
              have l4 : decide ((c.toNat : Int) ≤ 57) = true := by simp; omega
              go_wp2
              go_ret
              exact ⟨ret_bool HB.out.symm, (Below.refl _ _).alloc (Nat.le_refl _) _⟩
            · have l1 : decide ((97 : Int) ≤ (c.toNat : Int)) = false := by simp; omega
              have l3 : decide ((48 : Int) ≤ (c.toNat : Int)) = true := by simp; omega
              have l4 : decide ((c.toNat : Int) ≤ 57) = false := by simp; omega
              go_wp2
              go_ret
              exact ⟨ret_bool HB.out.symm, (Below.refl _ _).alloc (Nat.le_refl _) _⟩
            · have l1 : decide ((97 : Int) ≤ (c.toNat : Int)) = true := by simp; omega
              have l2 : decide ((c.toNat : Int) ≤ 122) = false := by simp; omega
              have l3 : decide ((48 : Int) ≤ (c.toNat : Int)) = true := by simp; omega
              have l4 : decide ((c.toNat : Int) ≤ 57) = false := by simp; omega
              go_wp2
              go_ret
              exact ⟨ret_bool HB.out.symm, (Below.refl _ _).alloc (Nat.le_refl _) _⟩
          · have h00 : ((pos : Int) == 0) = false := by simp; omega
            have h01 : 0 < pos := by omega
            clear h0
            rcases (show c.toNat < 48 ∨ (48 ≤ c.toNat ∧ c.toNat ≤ 57) ∨ (57 < c.toNat ∧ c.toNat < 97) ∨ 122 < c.toNat by omega) with d | ⟨d0, d⟩ | ⟨d0, d⟩ | d
            · have l1 : decide ((97 : Int) ≤ (c.toNat : Int)) = false := by simp; omega
              have l3 : decide ((48 : Int) ≤ (c.toNat : Int)) = false := by simp; omega
              go_wp2
              go_ret
              exact ⟨ret_bool (lab_bad hp (by rw [← HC.out]; exact okAt_no (by omega) (by omega))).symm, (Below.refl _ _).alloc (Nat.le_refl _) _⟩
            · have l1 : decide ((97 : Int) ≤ (c.toNat : Int)) = false := by simp; omega
              have l3 : decide ((48 : Int) ≤ (c.toNat : Int)) = true := by simp; omega
              have l4 : decide ((c.toNat : Int) ≤ 57) = true := by simp; omega
              go_wp2
              go_roundw
              case rel => exact ⟨pos + 1, by omega, rfl, good_succ hp HG.out (by rw [← HC.out]; exact okAt_digit h01 d0 d)⟩
              case measure => simp; omega
            · have l1 : decide ((97 : Int) ≤ (c.toNat : Int)) = false := by simp; omega
              have l3 : decide ((48 : Int) ≤ (c.toNat : Int)) = true := by simp; omega
              have l4 : decide ((c.toNat : Int) ≤ 57) = false := by simp; omega
              go_wp2
              go_ret
              exact ⟨ret_bool (lab_bad hp (by rw [← HC.out]; exact okAt_no (by omega) (by omega))).symm, (Below.refl _ _).alloc (Nat.le_refl _) _⟩
            · have l1 : decide ((97 : Int) ≤ (c.toNat : Int)) = true := by simp; omega
              have l2 : decide ((c.toNat : Int) ≤ 122) = false := by simp; omega
              have l3 : decide ((48 : Int) ≤ (c.toNat : Int)) = true := by simp; omega
              have l4 : decide ((c.toNat : Int) ≤ 57) = false := by simp; omega
              go_wp2
              go_ret
              exact ⟨ret_bool (lab_bad hp (by rw [← HC.out]; exact okAt_no (by omega) (by omega))).symm, (Below.refl _ _).alloc (Nat.le_refl _) _⟩
      · have hnx : ∀ ty, (Instr.next (.pointer (some ⟨w.heap.size, 0, none⟩)) true ty).run Try.prog (w.iter s pos) = _ := fun ty => run_next_any w s pos ty hp
        have HB : Hid (lab s = false) := lab_bad hp (okAt_no (by omega) (by omega))
        have hd := (decode_high s pos hp (by omega)).1
        generalize (Utf8.decode s pos).1 = c at *
        generalize (Utf8.decode s pos).2 = d at *
        have c1 : decide ((97 : Int) ≤ (c : Int)) = true := by simp; omega
        have c2 : decide ((c : Int) ≤ 122) = false := by simp; omega
        have c3 : decide ((48 : Int) ≤ (c : Int)) = true := by simp; omega
        have c4 : decide ((c : Int) ≤ 57) = false := by simp; omega
        by_cases h0 : pos = 0
        · have h00 : ((pos : Int) == 0) = true := by simp; omega
          clear h0
          go_wp2
          go_ret
          exact ⟨ret_bool HB.out.symm, (Below.refl _ _).alloc (Nat.le_refl _) _⟩
        · have h00 : ((pos : Int) == 0) = false := by simp; omega
          clear h0
          go_wp2
          go_ret
          exact ⟨ret_bool HB.out.symm, (Below.refl _ _).alloc (Nat.le_refl _) _⟩
    · have hnx : ∀ ty, (Instr.next (.pointer (some ⟨w.heap.size, 0, none⟩)) true ty).run Try.prog (w.iter s pos) = _ := fun ty => run_next_end w s pos ty hp
      go_wp2
      go_ret
      exact ⟨ret_bool (lab_good (by omega) (by omega) (fun k h => HG.out k h (by omega))).symm, (Below.refl _ _).alloc (Nat.le_refl _) _⟩


end Go.Proofs.Ytgelbndbkmedlaa.F

/- fluid.total, fluid.refusal walked. -/
namespace Go.Proofs.Ytgelbndbkmedlaa.F
open Go.RowKit
/-- A slice's memory holds these parcels. -/
def Fl (w : World) (ao : Option Addr) (ps : List Pc) : Prop :=
  (∀ p ∈ ps, p.1.size ≤ maxLen) ∧ (ps = [] ∨ ∃ b off, ao = some ⟨b, off, none⟩ ∧ b < w.heap.size ∧
    ∀ k (h : k < ps.length), w.cell? ⟨b, off + k * 2, none⟩ = some (.string (ps[k]'h).1) ∧ w.cell? ⟨b, off + k * 2 + 1, none⟩ = some (.int .i64 (ps[k]'h).2))
theorem Fl.next {w w1 : World} {ao : Option Addr} {ps : List Pc} (h : Fl w ao ps) (hb : Below w.heap.size w w1) : Fl w1 ao ps := by
  obtain ⟨h0, h1 | ⟨b, off, h1, h2, h3⟩⟩ := h
  · exact ⟨h0, .inl h1⟩
  · exact ⟨h0, .inr ⟨b, off, h1, Nat.lt_of_lt_of_le h2 hb.size, fun k hk => ⟨(hb.cell (p := ⟨b, _, none⟩) h2).trans (h3 k hk).1, (hb.cell (p := ⟨b, _, none⟩) h2).trans (h3 k hk).2⟩⟩⟩
theorem Fl.at {w : World} {ao : Option Addr} {ps : List Pc} (h : Fl w ao ps) {k : Nat} (hk : k < ps.length) : ∃ b off, ao = some ⟨b, off, none⟩ ∧ b < w.heap.size ∧
    w.cell? ⟨b, off + k * 2, none⟩ = some (.string (ps[k]'hk).1) ∧ w.cell? ⟨b, off + k * 2 + 1, none⟩ = some (.int .i64 (ps[k]'hk).2) ∧ (ps[k]'hk).1.size ≤ maxLen := by
  obtain ⟨h0, rfl | ⟨b, off, h1, h2, h3⟩⟩ := h
  · exact absurd hk (Nat.not_lt_zero _)
  · exact ⟨b, off, h1, h2, (h3 k hk).1, (h3 k hk).2, h0 _ (List.getElem_mem hk)⟩
theorem Fl.nil (w : World) (ao : Option Addr) : Fl w ao [] := ⟨(fun p hp => by cases hp), .inl rfl⟩

/-- A fluid as it is handed over: its address, its capacity, its parcels. -/
abbrev Fd := Option Addr × Nat × List Pc
/-- A slice of fluids at the head of block b. -/
def FlS (w : World) (b : Nat) (fs : List Fd) : Prop :=
  b < w.heap.size ∧ ∀ j (h : j < fs.length), w.cell? ⟨b, j, none⟩ = some (.slice (fs[j]'h).1 (fs[j]'h).2.2.length (fs[j]'h).2.1) ∧ Fl w (fs[j]'h).1 (fs[j]'h).2.2
theorem FlS.next {w w1 : World} {b : Nat} {fs : List Fd} (h : FlS w b fs) (hb : Below w.heap.size w w1) : FlS w1 b fs :=
  ⟨Nat.lt_of_lt_of_le h.1 hb.size, fun j hj => ⟨(hb.cell (p := ⟨b, j, none⟩) h.1).trans (h.2 j hj).1, (h.2 j hj).2.next hb⟩⟩
/-- All parcels of fluids, one behind the other. -/
def cat (fs : List Fd) : List Pc := (fs.map (·.2.2)).flatten
theorem cat_snoc (fs : List Fd) (f : Fd) : cat (fs ++ [f]) = cat fs ++ f.2.2 := by simp [cat]
theorem cat_take_succ {fs : List Fd} {k : Nat} (h : k < fs.length) : cat (fs.take (k + 1)) = cat (fs.take k) ++ (fs[k]'h).2.2 := by
  rw [List.take_succ_eq_append_getElem h, cat_snoc]
theorem cat_one (f : Fd) : cat [f] = f.2.2 := by simp [cat]
theorem cat_two (f g : Fd) : cat [f, g] = f.2.2 ++ g.2.2 := by simp [cat]

theorem FlS.one {w : World} {ao : Option Addr} {cap : Nat} {ps : List Pc} (h : Fl w ao ps) : FlS (w.alloc (.cells #[.slice ao ps.length cap] 103)) w.heap.size [(ao, cap, ps)] := by
  refine ⟨by simp, fun j hj => ?_⟩
  match j, hj with
  | 0, _ => exact ⟨by go_simp, h.next ((Below.refl _ _).alloc (Nat.le_refl _) _)⟩
theorem FlS.two {w : World} {ao ao' : Option Addr} {cap cap' : Nat} {ps ps' : List Pc} (h : Fl w ao ps) (h' : Fl w ao' ps') : FlS (w.alloc (.cells #[.slice ao ps.length cap, .slice ao' ps'.length cap'] 103)) w.heap.size [(ao, cap, ps), (ao', cap', ps')] := by
  refine ⟨by simp, fun j hj => ?_⟩
  match j, hj with
  | 0, _ => exact ⟨by go_simp, h.next ((Below.refl _ _).alloc (Nat.le_refl _) _)⟩
  | 1, _ => exact ⟨by go_simp, h'.next ((Below.refl _ _).alloc (Nat.le_refl _) _)⟩

theorem take_get {ps : List Pc} {k : Nat} (h : k < ps.length) : tot (ps.take (k + 1)) = tot (ps.take k) + (ps[k]'h).2 := by
  rw [List.take_succ_eq_append_getElem h, tot_snoc]
theorem fine_take {ps : List Pc} (h : Fine ps) (k : Nat) : Fine (ps.take k) := fun p hp => h p (List.mem_of_mem_take hp)
/-- The bounds of a part's total. -/
theorem part_in {ps : List Pc} (h : Fine ps) (hl : ps.length ≤ 100) (k : Nat) : 0 ≤ tot (ps.take k) ∧ tot (ps.take k) ≤ 100000000000 := by
  have h1 := tot_nonneg (fine_take h k).nn
  have h2 := tot_le (fine_take h k)
  have h3 := List.length_take_le k ps
  have h4 : (ps.take k).length ≤ ps.length := by rw [List.length_take]; omega
  omega
theorem cat_in {fs : List Fd} (hn : ∀ f ∈ fs, Fine f.2.2) (hl : ∀ f ∈ fs, f.2.2.length ≤ 100) : 0 ≤ tot (cat fs) ∧ tot (cat fs) ≤ 100000000000 * fs.length := by
  induction fs using snoc_ind with
  | h0 => simp [cat, tot]
  | h1 a f ih =>
    have h := ih (fun g hg => hn g (by simp [hg])) (fun g hg => hl g (by simp [hg]))
    have h2 := part_in (hn f (by simp)) (hl f (by simp)) f.2.2.length
    rw [List.take_length] at h2
    rw [cat_snoc, tot_append]
    simp only [List.length_append, List.length_singleton]
    omega

set_option maxHeartbeats 800000 in
theorem total_any (b c : Nat) (fs : List Fd) (w : World) (hF : FlS w b fs) (hn : ∀ f ∈ fs, Fine f.2.2) (hl : ∀ f ∈ fs, f.2.2.length ≤ 100) (hfs : fs.length ≤ 2) :
    Calls Try.prog 113 #[.slice (some ⟨b, 0, none⟩) fs.length c] w fun e w' => e = .returned (.int .i64 (tot (cat fs))) ∧ Below w.heap.size w w' := by
  have HF : Hid (FlS w b fs) := hF
  have HN : Hid (∀ f ∈ fs, Fine f.2.2) := hn
  have HL : Hid (∀ f ∈ fs, f.2.2.length ≤ 100) := hl
  clear hF hn hl
  go_enter Try.func113, Try.ntmps113
  go_wp2
  go_loopw [3, 10] (fun s i wr => ∃ k : Nat, k ≤ fs.length ∧ i = .int .i64 k ∧ s = .int .i64 (tot (cat (fs.take k))) ∧ Below w.heap.size w wr) (fun _ i _ => fs.length - (intOf i).toNat)
  case atStart => exact ⟨0, Nat.zero_le _, rfl, rfl, Below.refl _ _⟩
  case round =>
    obtain ⟨k, hk, rfl, rfl, hb⟩ := hrel
    obtain ⟨w1, rfl⟩ : ∃ w1, w1 = wr := ⟨_, rfl⟩
    have HB : Hid (Below w.heap.size w w1) := hb
    clear hb
    by_cases hlt : k < fs.length
    · obtain ⟨f, hf⟩ : ∃ f, fs[k]'hlt = f := ⟨_, rfl⟩
      obtain ⟨ao, cap, ps⟩ := f
      have hmem : (ao, cap, ps) ∈ fs := by rw [← hf]; exact List.getElem_mem hlt
      have HP : Hid (cat (fs.take (k + 1)) = cat (fs.take k) ++ ps) := by have := cat_take_succ hlt; rw [hf] at this; exact this
      have hcell : w1.cell? ⟨b, k, none⟩ = some (.slice ao ps.length cap) := by have := ((HF.out.next HB.out).2 k hlt).1; rw [hf] at this; exact this
      have HFl : Hid (Fl w1 ao ps) := by have := ((HF.out.next HB.out).2 k hlt).2; rw [hf] at this; exact this
      have HN1 : Hid (Fine ps) := HN.out _ hmem
      have hl1 : ps.length ≤ 100 := HL.out _ hmem
      have hci := cat_in (fs := fs.take k) (fun g hg => HN.out g (List.mem_of_mem_take hg)) (fun g hg => HL.out g (List.mem_of_mem_take hg))
      have hck : (fs.take k).length ≤ 2 := by rw [List.length_take]; omega
      clear hf hmem
      have hc1 : tot (cat (fs.take k)) ≤ 200000000000 := by omega
      have hc0 := hci.1
      clear hci hck
      generalize hS : tot (cat (fs.take k)) = S at *
      have HS : Hid (tot (cat (fs.take k)) = S) := hS
      clear hS
      go_wp2
      go_loopw [3, 16] (fun s i wr => ∃ m : Nat, m ≤ ps.length ∧ i = .int .i64 m ∧ s = .int .i64 (S + tot (ps.take m)) ∧ Below w1.heap.size w1 wr) (fun _ i _ => ps.length - (intOf i).toNat)
      case atStart => exact ⟨0, Nat.zero_le _, rfl, by simp [tot], Below.refl _ _⟩
      case round =>
        obtain ⟨m, hm, rfl, rfl, hb⟩ := hrel
        have HB2 : Hid (Below w1.heap.size w1 wr) := hb
        clear hb
        have hpi := part_in HN1.out hl1 m
        by_cases hlt2 : m < ps.length
        · obtain ⟨b2, off, rfl, hb2, c0, c1, _⟩ := (HFl.out.next HB2.out).at hlt2
          have HT : Hid (tot (ps.take (m + 1)) = tot (ps.take m) + (ps[m]'hlt2).2) := take_get hlt2
          have hv := HN1.out _ (List.getElem_mem hlt2)
          have hv0 := hv.2.1
          have hv1 := hv.2.2
          clear hv
          obtain ⟨l, hl⟩ : ∃ l, (ps[m]'hlt2).1 = l := ⟨_, rfl⟩
          obtain ⟨v, hv⟩ : ∃ v, (ps[m]'hlt2).2 = v := ⟨_, rfl⟩
          rw [hl] at c0
          rw [hv] at c1 HT hv0 hv1
          clear hl hv
          obtain ⟨hp0, hp1⟩ := hpi
          go_wp2
          go_roundw
          case rel => exact ⟨m + 1, by omega, by go_num, by rw [HT.out, Int.add_assoc], HB2.out.alloc HB2.out.size _⟩
          case measure => simp [intOf]; omega
        · go_wp2
          go_roundw
          case rel => exact ⟨k + 1, by omega, by go_num, by rw [HP.out, tot_append, HS.out, show m = ps.length by omega, List.take_length], HB.out.trans (HB2.out.mono HB.out.size)⟩
          case measure => simp [intOf]; omega
    · go_wp2
      go_ret
      exact ⟨ret_int (by rw [show k = fs.length by omega, List.take_length]), HB.out⟩

theorem isLabel_yes (s : ByteArray) (w : World) (hs : s.size ≤ maxLen) (h : lab s = true) :
    Calls Try.prog 112 #[.string s] w fun e w' => e = .returned (.bool true) ∧ Below w.heap.size w w' :=
  (isLabel_any s w hs).mono fun e w' ⟨he, hw⟩ => ⟨by rw [he, h], hw⟩
theorem isLabel_no (s : ByteArray) (w : World) (hs : s.size ≤ maxLen) (h : lab s = false) :
    Calls Try.prog 112 #[.string s] w fun e w' => e = .returned (.bool false) ∧ Below w.heap.size w w' :=
  (isLabel_any s w hs).mono fun e w' ⟨he, hw⟩ => ⟨by rw [he, h], hw⟩

theorem frefs_at {fs : List Fd} {k : Nat} (h : k < fs.length) (ha : ∀ f ∈ fs.take k, fref f.2.2 = 0) (hb : fref (fs[k]'h).2.2 ≠ 0) : frefs (fs.map (·.2.2)) = fref (fs[k]'h).2.2 := by
  have e : fs = fs.take k ++ fs[k]'h :: fs.drop (k + 1) := by rw [← List.drop_eq_getElem_cons h, List.take_append_drop]
  have e2 : frefs (fs.map (·.2.2)) = frefs ((fs.take k).map (·.2.2) ++ (fs[k]'h).2.2 :: (fs.drop (k + 1)).map (·.2.2)) := by
    conv => lhs; rw [e]
    rw [List.map_append, List.map_cons]
  rw [e2, frefs_append_ok (fun f hf => by obtain ⟨g, hg, rfl⟩ := List.mem_map.1 hf; exact ha g hg)]
  simp only [frefs]; rw [if_neg hb]
theorem badL_at {ps : List Pc} {m : Nat} (h : m < ps.length) (ha : badL (ps.take m) = 0) (hb : bad1 (ps[m]'h) ≠ 0) : badL ps = bad1 (ps[m]'h) := by
  have e : ps = ps.take m ++ ps[m]'h :: ps.drop (m + 1) := by rw [← List.drop_eq_getElem_cons h, List.take_append_drop]
  conv => lhs; rw [e]
  exact badL_first ha hb
theorem badL_succ {ps : List Pc} {m : Nat} (h : m < ps.length) (ha : badL (ps.take m) = 0) (hb : bad1 (ps[m]'h) = 0) : badL (ps.take (m + 1)) = 0 := by
  rw [List.take_succ_eq_append_getElem h]; exact badL_snoc ha hb
theorem mem_take_succ {fs : List Fd} {k : Nat} (h : k < fs.length) (ha : ∀ f ∈ fs.take k, fref f.2.2 = 0) (hb : fref (fs[k]'h).2.2 = 0) : ∀ f ∈ fs.take (k + 1), fref f.2.2 = 0 := by
  rw [List.take_succ_eq_append_getElem h]
  intro f hf
  rcases List.mem_append.1 hf with hf | hf
  · exact ha f hf
  · simp at hf; subst hf; exact hb

set_option maxHeartbeats 1600000 in
theorem refusal_any (b c : Nat) (fs : List Fd) (w : World) (hF : FlS w b fs) (hfs : fs.length ≤ 2) :
    Calls Try.prog 98 #[.slice (some ⟨b, 0, none⟩) fs.length c] w fun e w' => e = .returned (.int .i64 (frefs (fs.map (·.2.2)))) ∧ Below w.heap.size w w' := by
  have HF : Hid (FlS w b fs) := hF
  clear hF
  go_enter Try.func98, Try.ntmps98
  go_wp2
  go_loopw [9] (fun i wr => ∃ k : Nat, k ≤ fs.length ∧ i = .int .i64 k ∧ (∀ f ∈ fs.take k, fref f.2.2 = 0) ∧ Below w.heap.size w wr) (fun i _ => fs.length - (intOf i).toNat)
  case atStart => exact ⟨0, Nat.zero_le _, rfl, (fun f hf => by simp at hf), Below.refl _ _⟩
  case round =>
    obtain ⟨k, hk, rfl, hok, hb⟩ := hrel
    obtain ⟨w1, rfl⟩ : ∃ w1, w1 = wr := ⟨_, rfl⟩
    have HB : Hid (Below w.heap.size w w1) := hb
    have HO : Hid (∀ f ∈ fs.take k, fref f.2.2 = 0) := hok
    clear hb hok
    by_cases hlt : k < fs.length
    · obtain ⟨f, hf⟩ : ∃ f, fs[k]'hlt = f := ⟨_, rfl⟩
      obtain ⟨ao, cap, ps⟩ := f
      have HP : Hid ((fs[k]'hlt).2.2 = ps) := by rw [hf]; rfl
      have hcell : w1.cell? ⟨b, k, none⟩ = some (.slice ao ps.length cap) := by have := ((HF.out.next HB.out).2 k hlt).1; rw [hf] at this; exact this
      have HFl : Hid (Fl w1 ao ps) := by have := ((HF.out.next HB.out).2 k hlt).2; rw [hf] at this; exact this
      clear hf
      have HE : Hid (fref ps ≠ 0 → frefs (fs.map (·.2.2)) = fref ps) := fun h => by
        have := frefs_at hlt HO.out (by rw [HP.out]; exact h)
        rw [HP.out] at this; exact this
      by_cases h100 : 100 < ps.length
      · go_wp2
        go_ret
        exact ⟨ret_int (by rw [HE.out (by rw [fref_many h100]; decide), fref_many h100]), HB.out⟩
      have h100' : ps.length ≤ 100 := by omega
      clear h100
      go_wp2
      go_loopw [18] (fun i wr => ∃ m : Nat, m ≤ ps.length ∧ i = .int .i64 m ∧ badL (ps.take m) = 0 ∧ Below w1.heap.size w1 wr) (fun i _ => ps.length - (intOf i).toNat)
      case atStart => exact ⟨0, Nat.zero_le _, rfl, rfl, Below.refl _ _⟩
      case round =>
        obtain ⟨m, hm, rfl, hbl, hb⟩ := hrel
        have HB2 : Hid (Below w1.heap.size w1 wr) := hb
        have HBL : Hid (badL (ps.take m) = 0) := hbl
        clear hb hbl
        by_cases hlt2 : m < ps.length
        · obtain ⟨b2, off, rfl, hb2, c0, c1, hsz⟩ := (HFl.out.next HB2.out).at hlt2
          have HA : Hid (bad1 (ps[m]'hlt2) ≠ 0 → fref ps = bad1 (ps[m]'hlt2)) := fun h => by
            have e := badL_at hlt2 HBL.out h
            rw [fref_bad h100' (by rw [e]; exact h), e]
          have HS : Hid (bad1 (ps[m]'hlt2) = 0 → badL (ps.take (m + 1)) = 0) := badL_succ hlt2 HBL.out
          obtain ⟨p, hp⟩ : ∃ p, ps[m]'hlt2 = p := ⟨_, rfl⟩
          rw [hp] at c0 c1 HA HS hsz
          clear hp
          obtain ⟨l, v⟩ := p
          simp only at c0 c1 hsz
          cases hlab : lab l with
          | false =>
            have HL : Hid (lab l = false) := hlab
            clear hlab
            go_wp2_with (go_at_call 112; refine (isLabel_no _ _ hsz HL.out).mono ?_; rintro e w2 ⟨rfl, hb3⟩)
            go_ret
            have e3 : bad1 (l, v) = 3 := bad1_name HL.out
            exact ⟨ret_int (by rw [HE.out (by rw [HA.out (by rw [e3]; decide), e3]; decide), HA.out (by rw [e3]; decide), e3]), (HB.out.trans (HB2.out.mono HB.out.size)).trans (((Below.refl _ _).alloc (Nat.le_refl _) _).trans (hb3.mono (by simp)) |>.mono (Nat.le_trans HB.out.size HB2.out.size))⟩
          | true =>
            have HL : Hid (lab l = true) := hlab
            clear hlab
            go_wp2_with fail
            refine (isLabel_yes _ _ hsz HL.out).mono ?_
            rintro e w2 ⟨rfl, hb3⟩
            obtain ⟨hc, hf⟩ := bcell hb3
            have e1 : w2.cell? ⟨wr.heap.size, 1, none⟩ = some (.int .i64 v) := (hc _ _ (by simp)).trans (by go_simp)
            have HB3 : Hid (Below w.heap.size w w2 ∧ Below w1.heap.size w1 w2) := by
              have h1 : Below w1.heap.size w1 w2 := (HB2.out.alloc HB2.out.size _).trans (hb3.mono (by have := HB2.out.size; simp; omega))
              exact ⟨HB.out.trans (h1.mono HB.out.size), h1⟩
            clear hc hf hb3
            by_cases hv0 : v < 0
            · have e3 : Hid (bad1 (l, v) = 2) := bad1_range HL.out (.inl hv0)
              go_wp2
              go_ret
              exact ⟨ret_int (by rw [HE.out (by rw [HA.out (by rw [e3.out]; decide), e3.out]; decide), HA.out (by rw [e3.out]; decide), e3.out]), HB3.out.1⟩
            · by_cases hv1 : 1000000000 < v
              · have e3 : Hid (bad1 (l, v) = 2) := bad1_range HL.out (.inr hv1)
                go_wp2
                go_ret
                exact ⟨ret_int (by rw [HE.out (by rw [HA.out (by rw [e3.out]; decide), e3.out]; decide), HA.out (by rw [e3.out]; decide), e3.out]), HB3.out.1⟩
              · have e3 : Hid (bad1 (l, v) = 0) := bad1_ok HL.out (by simp only; omega) (by simp only; omega)
                go_wp2
                go_roundw
                case rel => exact ⟨m + 1, by omega, by go_num, HS.out e3.out, HB3.out.2⟩
                case measure => simp [intOf]; omega
        · have HBL2 : Hid (badL ps = 0) := by have := HBL.out; rw [List.take_of_length_le (by omega)] at this; exact this
          have HFi : Hid (Fine ps) := fine_of HBL2.out
          have hB1 : Below w.heap.size w wr := HB.out.trans (HB2.out.mono HB.out.size)
          have HB1 : Hid (Below w.heap.size w wr) := hB1
          clear hB1
          go_wp2_with fail
          refine (total_any wr.heap.size 1 [(ao, cap, ps)] _ (FlS.one (HFl.out.next HB2.out)) (fun f hf => by simp at hf; subst hf; exact HFi.out) (fun f hf => by simp at hf; subst hf; exact h100') (by simp)).mono ?_
          rintro e w2 ⟨rfl, hb3⟩
          rw [cat_one]
          have HB3 : Hid (Below w.heap.size w w2) := (HB1.out.alloc HB1.out.size _).trans (hb3.mono (by have := HB1.out.size; simp; omega))
          clear hb3
          simp only
          by_cases ht : 1000000000 < tot ps
          · have e3 : Hid (fref ps = 8) := fref_size h100' HBL2.out ht
            go_wp2
            go_ret
            exact ⟨ret_int (by rw [HE.out (by rw [e3.out]; decide), e3.out]), HB3.out⟩
          · have e3 : Hid (fref ps = 0) := fref_ok h100' HBL2.out (by omega)
            go_wp2
            go_roundw
            case rel => exact ⟨k + 1, by omega, by go_num, mem_take_succ hlt HO.out (by rw [HP.out]; exact e3.out), HB3.out⟩
            case measure => simp [intOf]; omega
    · go_wp2
      go_ret
      exact ⟨ret_int (by rw [frefs_ok]; intro f hf; obtain ⟨g, hg, rfl⟩ := List.mem_map.1 hf; exact HO.out g (by rw [List.take_of_length_le (by omega)]; exact hg)), HB.out⟩


end Go.Proofs.Ytgelbndbkmedlaa.F

/- ware.Check walked. -/
namespace Go.Proofs.Ytgelbndbkmedlaa
open Go.RowKit
/-- What is wrong with a ware. -/
def chk (a : Wr) : Int :=
  if lab a.name = true then (if inR 1 3 a.kind = true then (if inR 1 16 a.rows = true ∧ inR 1 24 a.cols = true then (if rangeOk a = true then (if roomOk a = true then 0 else 8) else 2) else 7) else 6) else 3

def chk3V (a : Wr) (k1 : Bool) (B : Nat) (d : Nat) (v : Value) (w : World) : Prop :=
  match d with
  | 9 => IsClo 1 3 v w
  | 10 => v = .pointer (some ⟨B, 1, none⟩)
  | 11 => v = .int .i64 a.kind
  | 12 => IsInts [a.kind] v w
  | 13 => v = .bool k1
  | 14 => v = .bool (!k1)
  | 8 => v = .bool (!k1)
  | _ => True
theorem chk3V_mono (a : Wr) (k1 : Bool) (B : Nat) (d : Nat) (v : Value) (w w' : World) (h : chk3V a k1 B d v w) (hb : Below w.heap.size w w') : chk3V a k1 B d v w' := by
  unfold chk3V at h ⊢
  split <;> simp only [] at h <;> first | exact h | exact h.later hb
def chk5V (a : Wr) (k2 k3 : Bool) (B : Nat) (d : Nat) (v : Value) (w : World) : Prop :=
  match d with
  | 16 => IsClo 1 16 v w
  | 17 => v = .pointer (some ⟨B, 2, none⟩)
  | 18 => v = .int .i64 a.rows
  | 19 => IsInts [a.rows] v w
  | 20 => v = .bool k2
  | 21 => v = .bool (!k2)
  | 22 => v = .bool (!k2)
  | 23 => (!k2) = false → IsClo 1 24 v w
  | 24 => (!k2) = false → v = .pointer (some ⟨B, 3, none⟩)
  | 25 => (!k2) = false → v = .int .i64 a.cols
  | 26 => (!k2) = false → IsInts [a.cols] v w
  | 27 => (!k2) = false → v = .bool k3
  | 28 => (!k2) = false → v = .bool (!k3)
  | 29 => v = .bool (!k2 || !k3)
  | 15 => v = .bool (!k2 || !k3)
  | _ => True
theorem chk5V_mono (a : Wr) (k2 k3 : Bool) (B : Nat) (d : Nat) (v : Value) (w w' : World) (h : chk5V a k2 k3 B d v w) (hb : Below w.heap.size w w') : chk5V a k2 k3 B d v w' := by
  unfold chk5V at h ⊢
  split <;> simp only [] at h <;> first | exact h | exact h.later hb | exact fun g => (h g).later hb

set_option maxHeartbeats 3200000 in
theorem check_label (a : Wr) (w : World) (hs : a.name.size ≤ maxLen) (hl : lab a.name = false) :
    Calls Try.prog 68 #[wv a] w fun e w' => e = .returned (.int .i64 3) ∧ Below w.heap.size w w' := by
  go_enter Try.func68, Try.ntmps68
  go_wp2_with fail
  refine (isLabel_any a.name _ hs).mono ?_
  rintro e w2 ⟨rfl, hb⟩
  rw [hl]
  go_wp2
  go_ret
  exact ⟨rfl, ((Below.refl _ _).alloc (Nat.le_refl _) _).trans (hb.mono (by simp))⟩

set_option maxHeartbeats 6400000 in
theorem check_rest (a : Wr) (w : World) (hs : a.name.size ≤ maxLen) (hl : lab a.name = true) (k1 k2 k3 : Bool) (hk1 : [a.kind].all (inR 1 3) = k1) (hk2 : [a.rows].all (inR 1 16) = k2) (hk3 : [a.cols].all (inR 1 24) = k3) :
    Calls Try.prog 68 #[wv a] w fun e w' => e = .returned (.int .i64 (if k1 = true then (if k2 = true ∧ k3 = true then (if rangeOk a = true then (if roomOk a = true then 0 else 8) else 2) else 7) else 6)) ∧ Below w.heap.size w w' := by
  go_enter Try.func68, Try.ntmps68
  go_wp2_with fail
  refine (isLabel_any a.name _ hs).mono ?_
  rintro e w0 ⟨rfl, hb0⟩
  rw [hl]
  have hB0 : Below w.heap.size w w0 := ((Below.refl _ _).alloc (Nat.le_refl _) _).trans (hb0.mono (by simp))
  have c1 : w0.cell? ⟨w.heap.size, 1, none⟩ = some (.int .i64 a.kind) := cell_later hb0 (by go_simp)
  have c2 : w0.cell? ⟨w.heap.size, 2, none⟩ = some (.int .i64 a.rows) := cell_later hb0 (by go_simp)
  have c3 : w0.cell? ⟨w.heap.size, 3, none⟩ = some (.int .i64 a.cols) := cell_later hb0 (by go_simp)
  have call : ∀ k (hk : k < 12), w0.cell? ⟨w.heap.size, k, none⟩ = some ((wcs a)[k]'(by simpa using hk)) := fun k hk => cell_later hb0 (by
    match k, hk with
    | 0, _ => go_simp
    | 1, _ => go_simp
    | 2, _ => go_simp
    | 3, _ => go_simp
    | 4, _ => go_simp
    | 5, _ => go_simp
    | 6, _ => go_simp
    | 7, _ => go_simp
    | 8, _ => go_simp
    | 9, _ => go_simp
    | 10, _ => go_simp
    | 11, _ => go_simp)
  have CALL : Hid (∀ k (hk : k < 12), w0.cell? ⟨w.heap.size, k, none⟩ = some ((wcs a)[k]'(by simpa using hk))) := call
  clear call hb0
  go_wp2_with fail
  refine region_inv [false, false, false, false, false, false, false, false, true, true, true, true, true, true, true, false, false, false, false, false, false, false, false, false, false, false, false, false, false, false, false, false, false, false, false, false, false, false]
    [(9, [], none), (10, [], none), (11, [10], none), (12, [11], none), (13, [9, 12], none), (14, [13], none), (8, [14], none)]
    (chk3V a k1 w.heap.size) (by kernel_rfl) (by kernel_rfl) (chk3V_mono a k1 w.heap.size) ?_ ?_
  · refine ⟨?_, ?_, ?_, ?_, ?_, ?_, ?_, trivial⟩
    · intro f w1 hb _ K hK
      simp only [over, overL, Nat.reduceAdd]
      go_simp
      refine (within_is _ _ _).mono ?_
      rintro e w2 ⟨v, rfl, hv, hb2⟩
      exact hK _ _ ⟨_, hv, by simp only [over, overL, Nat.reduceAdd]; rfl, hb2⟩
    · intro f w1 hb _ K hK
      simp only [over, overL, Nat.reduceAdd]
      go_simp
      exact hK _ _ ⟨_, rfl, by simp only [over, overL, Nat.reduceAdd]; rfl, Below.refl _ _⟩
    · intro f w1 hb ⟨h10, _⟩ K hK
      have h10 : f 10 = _ := h10
      have cl : w1.cell? ⟨w.heap.size, 1, none⟩ = some (.int .i64 a.kind) := cell_later hb (c1)
      simp only [over, overL, Nat.reduceAdd, h10]
      go_simp
      exact hK _ _ ⟨_, rfl, by simp only [over, overL, Nat.reduceAdd, h10]; rfl, Below.refl _ _⟩
    · intro f w1 hb ⟨h11, _⟩ K hK
      have h11 : f 11 = _ := h11
      simp only [over, overL, Nat.reduceAdd, h11]
      go_simp
      exact hK _ _ ⟨_, new_one _ _ _, by simp only [over, overL, Nat.reduceAdd, h11]; rfl, (Below.refl _ _).alloc (Nat.le_refl _) _⟩
    · intro f w1 hb ⟨h9, h12, _⟩ K hK
      simp only [over, overL, Nat.reduceAdd]
      go_simp
      refine (every_v [a.kind] 1 3 k1 hk1 _ _ _ (by simp) h9 h12).mono ?_
      rintro e w2 ⟨rfl, hw⟩
      exact hK _ _ ⟨_, rfl, by simp only [over, overL, Nat.reduceAdd]; rfl, hw ▸ Below.refl _ _⟩
    · intro f w1 hb ⟨h13, _⟩ K hK
      have h13 : f 13 = _ := h13
      simp only [over, overL, Nat.reduceAdd, h13]
      go_simp
      exact hK _ _ ⟨_, rfl, by simp only [over, overL, Nat.reduceAdd, h13]; rfl, Below.refl _ _⟩
    · intro f w1 hb ⟨h14, _⟩ K hK
      have h14 : f 14 = _ := h14
      simp only [over, overL, Nat.reduceAdd, h14]
      go_simp
      exact hK _ _ ⟨_, rfl, by simp only [over, overL, Nat.reduceAdd, h14]; rfl, Below.refl _ _⟩
  · intro f w1 hb1 h
    have h8 : f 8 = .bool (!k1) := h.2.2.2.2.2.2.1
    simp only [over, overL, h8, Nat.reduceAdd]
    have hB1 := hb1
    have hBw1 : Below w.heap.size w w1 := hB0.trans (hb1.mono hB0.size)
    cases k1 with
    | false =>
      simp only [Bool.not_false]
      go_wp2
      go_ret
      exact ⟨rfl, hBw1⟩
    | true =>
      simp only [Bool.not_true]
      go_wp2_with fail
      refine region_inv [false, false, false, false, false, false, false, false, false, false, false, false, false, false, false, true, true, true, true, true, true, true, true, true, true, true, true, true, true, true, false, false, false, false, false, false, false, false]
        [(16, [], none), (17, [], none), (18, [17], none), (19, [18], none), (20, [16, 19], none), (21, [20], none), (22, [21], none), (23, [22], some (22, false)), (24, [22], some (22, false)), (25, [22, 24], some (22, false)), (26, [22, 25], some (22, false)), (27, [22, 23, 26], some (22, false)), (28, [22, 27], some (22, false)), (29, [22, 28], none), (15, [29], none)]
        (chk5V a k2 k3 w.heap.size) (by kernel_rfl) (by kernel_rfl) (chk5V_mono a k2 k3 w.heap.size) ?_ ?_
      · refine ⟨?_, ?_, ?_, ?_, ?_, ?_, ?_, ?_, ?_, ?_, ?_, ?_, ?_, ?_, ?_, trivial⟩
        · intro f w1 hb _ K hK
          simp only [over, overL, Nat.reduceAdd]
          go_simp
          refine (within_is _ _ _).mono ?_
          rintro e w2 ⟨v, rfl, hv, hb2⟩
          exact hK _ _ ⟨_, hv, by simp only [over, overL, Nat.reduceAdd]; rfl, hb2⟩
        · intro f w1 hb _ K hK
          simp only [over, overL, Nat.reduceAdd]
          go_simp
          exact hK _ _ ⟨_, rfl, by simp only [over, overL, Nat.reduceAdd]; rfl, Below.refl _ _⟩
        · intro f w1 hb ⟨h17, _⟩ K hK
          have h17 : f 17 = _ := h17
          have cl : w1.cell? ⟨w.heap.size, 2, none⟩ = some (.int .i64 a.rows) := cell_later hb (cell_later hB1 c2)
          simp only [over, overL, Nat.reduceAdd, h17]
          go_simp
          exact hK _ _ ⟨_, rfl, by simp only [over, overL, Nat.reduceAdd, h17]; rfl, Below.refl _ _⟩
        · intro f w1 hb ⟨h18, _⟩ K hK
          have h18 : f 18 = _ := h18
          simp only [over, overL, Nat.reduceAdd, h18]
          go_simp
          exact hK _ _ ⟨_, new_one _ _ _, by simp only [over, overL, Nat.reduceAdd, h18]; rfl, (Below.refl _ _).alloc (Nat.le_refl _) _⟩
        · intro f w1 hb ⟨h16, h19, _⟩ K hK
          simp only [over, overL, Nat.reduceAdd]
          go_simp
          refine (every_v [a.rows] 1 16 k2 hk2 _ _ _ (by simp) h16 h19).mono ?_
          rintro e w2 ⟨rfl, hw⟩
          exact hK _ _ ⟨_, rfl, by simp only [over, overL, Nat.reduceAdd]; rfl, hw ▸ Below.refl _ _⟩
        · intro f w1 hb ⟨h20, _⟩ K hK
          have h20 : f 20 = _ := h20
          simp only [over, overL, Nat.reduceAdd, h20]
          go_simp
          exact hK _ _ ⟨_, rfl, by simp only [over, overL, Nat.reduceAdd, h20]; rfl, Below.refl _ _⟩
        · intro f w1 hb ⟨h21, _⟩ K hK
          have h21 : f 21 = _ := h21
          simp only [over, overL, Nat.reduceAdd, h21]
          go_simp
          exact hK _ _ ⟨_, rfl, by simp only [over, overL, Nat.reduceAdd, h21]; rfl, Below.refl _ _⟩
        · intro f w1 hb ⟨h22, _⟩
          have h22 : f 22 = _ := h22
          refine ⟨fun hg => ?_, fun hg => ?_⟩
          rotate_left
          · intro hG; exact absurd (h22.trans (by rw [hG])) hg
          have hG := Value.bool.inj (h22.symm.trans hg)
          intro K hK
          simp only [over, overL, Nat.reduceAdd, h22, hG]
          go_simp
          refine (within_is _ _ _).mono ?_
          rintro e w2 ⟨v, rfl, hv, hb2⟩
          exact hK _ _ ⟨_, (fun _ => hv), by simp only [over, overL, Nat.reduceAdd, h22, hG]; rfl, hb2⟩
        · intro f w1 hb ⟨h22, _⟩
          have h22 : f 22 = _ := h22
          refine ⟨fun hg => ?_, fun hg => ?_⟩
          rotate_left
          · intro hG; exact absurd (h22.trans (by rw [hG])) hg
          have hG := Value.bool.inj (h22.symm.trans hg)
          intro K hK
          simp only [over, overL, Nat.reduceAdd, h22, hG]
          go_simp
          exact hK _ _ ⟨_, (fun _ => rfl), by simp only [over, overL, Nat.reduceAdd, h22, hG]; rfl, Below.refl _ _⟩
        · intro f w1 hb ⟨h22, h24, _⟩
          have h22 : f 22 = _ := h22
          refine ⟨fun hg => ?_, fun hg => ?_⟩
          rotate_left
          · intro hG; exact absurd (h22.trans (by rw [hG])) hg
          have hG := Value.bool.inj (h22.symm.trans hg)
          intro K hK
          have h24 : f 24 = _ := h24 hG
          have cl : w1.cell? ⟨w.heap.size, 3, none⟩ = some (.int .i64 a.cols) := cell_later hb (cell_later hB1 c3)
          simp only [over, overL, Nat.reduceAdd, h22, h24, hG]
          go_simp
          exact hK _ _ ⟨_, (fun _ => rfl), by simp only [over, overL, Nat.reduceAdd, h22, h24, hG]; rfl, Below.refl _ _⟩
        · intro f w1 hb ⟨h22, h25, _⟩
          have h22 : f 22 = _ := h22
          refine ⟨fun hg => ?_, fun hg => ?_⟩
          rotate_left
          · intro hG; exact absurd (h22.trans (by rw [hG])) hg
          have hG := Value.bool.inj (h22.symm.trans hg)
          intro K hK
          have h25 : f 25 = _ := h25 hG
          simp only [over, overL, Nat.reduceAdd, h22, h25, hG]
          go_simp
          exact hK _ _ ⟨_, (fun _ => new_one _ _ _), by simp only [over, overL, Nat.reduceAdd, h22, h25, hG]; rfl, (Below.refl _ _).alloc (Nat.le_refl _) _⟩
        · intro f w1 hb ⟨h22, h23, h26, _⟩
          have h22 : f 22 = _ := h22
          refine ⟨fun hg => ?_, fun hg => ?_⟩
          rotate_left
          · intro hG; exact absurd (h22.trans (by rw [hG])) hg
          have hG := Value.bool.inj (h22.symm.trans hg)
          intro K hK
          replace h23 := h23 hG
          replace h26 := h26 hG
          simp only [over, overL, Nat.reduceAdd, h22, hG]
          go_simp
          refine (every_v [a.cols] 1 24 k3 hk3 _ _ _ (by simp) h23 h26).mono ?_
          rintro e w2 ⟨rfl, hw⟩
          exact hK _ _ ⟨_, (fun _ => rfl), by simp only [over, overL, Nat.reduceAdd, h22, hG]; rfl, hw ▸ Below.refl _ _⟩
        · intro f w1 hb ⟨h22, h27, _⟩
          have h22 : f 22 = _ := h22
          refine ⟨fun hg => ?_, fun hg => ?_⟩
          rotate_left
          · intro hG; exact absurd (h22.trans (by rw [hG])) hg
          have hG := Value.bool.inj (h22.symm.trans hg)
          intro K hK
          have h27 : f 27 = _ := h27 hG
          simp only [over, overL, Nat.reduceAdd, h22, h27, hG]
          go_simp
          exact hK _ _ ⟨_, (fun _ => rfl), by simp only [over, overL, Nat.reduceAdd, h22, h27, hG]; rfl, Below.refl _ _⟩
        · intro f w1 hb ⟨h22, h28, _⟩ K hK
          have h22 : f 22 = _ := h22
          have h28 : (!k2) = false → f 28 = _ := h28
          cases hG : (!k2) with
          | true =>
            rw [hG] at h22
            simp only [over, overL, Nat.reduceAdd, h22]
            go_simp
            exact hK _ _ ⟨.bool true, by simp [chk5V, hG], by simp only [over, overL, Nat.reduceAdd, h22]; rfl, Below.refl _ _⟩
          | false =>
            have h28 := h28 hG
            rw [hG] at h22
            simp only [over, overL, Nat.reduceAdd, h22, h28]
            go_simp
            exact hK _ _ ⟨.bool (!k3), by simp [chk5V, hG], by simp only [over, overL, Nat.reduceAdd, h22, h28]; rfl, Below.refl _ _⟩
        · intro f w1 hb ⟨h29, _⟩ K hK
          have h29 : f 29 = _ := h29
          simp only [over, overL, Nat.reduceAdd, h29]
          go_simp
          exact hK _ _ ⟨_, rfl, by simp only [over, overL, Nat.reduceAdd, h29]; rfl, Below.refl _ _⟩
      · intro f2 w2 hb2 h2
        have h15 : f2 15 = .bool (!k2 || !k3) := h2.2.2.2.2.2.2.2.2.2.2.2.2.2.2.1
        simp only [over, overL, h15, Nat.reduceAdd]
        have hBw2 : Below w.heap.size w w2 := hBw1.trans (hb2.mono hBw1.size)
        by_cases hkk : k2 = true ∧ k3 = true
        · obtain ⟨rfl, rfl⟩ := hkk
          have CB : Hid (∀ k (hk : k < 12), w2.cell? ⟨w.heap.size, k, none⟩ = some ((wcs a)[k]'(by simpa using hk))) := fun k hk => cell_later hb2 (cell_later hB1 (CALL.out k hk))
          have hr := inR_iff.1 (all1.symm.trans hk2)
          have hc := inR_iff.1 (all1.symm.trans hk3)
          have hm0 : 0 ≤ a.rows * a.cols := Int.mul_nonneg (by omega) (by omega)
          have hm1 : a.rows * a.cols ≤ 384 := by
            have k1 : a.rows * a.cols ≤ a.rows * 24 := Int.mul_le_mul_of_nonneg_left hc.2 (by omega)
            omega
          have e0 : w2.cell? ⟨w.heap.size, 0, none⟩ = some (.string a.name) := CB.out 0 (by decide)
          have e1 : w2.cell? ⟨w.heap.size, 1, none⟩ = some (.int .i64 a.kind) := CB.out 1 (by decide)
          have e2 : w2.cell? ⟨w.heap.size, 2, none⟩ = some (.int .i64 a.rows) := CB.out 2 (by decide)
          have e3 : w2.cell? ⟨w.heap.size, 3, none⟩ = some (.int .i64 a.cols) := CB.out 3 (by decide)
          have e4 : w2.cell? ⟨w.heap.size, 4, none⟩ = some (.int .i64 a.x) := CB.out 4 (by decide)
          have e5 : w2.cell? ⟨w.heap.size, 5, none⟩ = some (.int .i64 a.y) := CB.out 5 (by decide)
          have e6 : w2.cell? ⟨w.heap.size, 6, none⟩ = some (.int .i64 a.pitch) := CB.out 6 (by decide)
          have e7 : w2.cell? ⟨w.heap.size, 7, none⟩ = some (.int .i64 a.wid) := CB.out 7 (by decide)
          have e8 : w2.cell? ⟨w.heap.size, 8, none⟩ = some (.int .i64 a.len) := CB.out 8 (by decide)
          have e9 : w2.cell? ⟨w.heap.size, 9, none⟩ = some (.int .i64 a.hei) := CB.out 9 (by decide)
          have e10 : w2.cell? ⟨w.heap.size, 10, none⟩ = some (.int .i64 a.deep) := CB.out 10 (by decide)
          have e11 : w2.cell? ⟨w.heap.size, 11, none⟩ = some (.int .i64 a.cap) := CB.out 11 (by decide)
          cases hro : rangeOk a with
          | false =>
            simp only [Bool.not_true, Bool.or_self]
            go_wp2_with fail
            refine (isMeasured_any a _ hm0 hm1).mono ?_
            rintro e w3 ⟨rfl, hb3⟩
            rw [hro]
            go_wp2
            go_ret
            exact ⟨rfl, hBw2.trans (hb3.mono hBw2.size)⟩
          | true =>
            have hin : InR a := inR_of (all1.symm.trans hk2) (all1.symm.trans hk3) hro
            have HIN : Hid (InR a) := hin
            clear hin
            simp only [Bool.not_true, Bool.or_self]
            go_wp2_with fail
            refine (isMeasured_any a _ hm0 hm1).mono ?_
            rintro e w3 ⟨rfl, hb3⟩
            rw [hro]
            have hBw3 : Below w.heap.size w w3 := hBw2.trans (hb3.mono hBw2.size)
            have g0 : w3.cell? ⟨w.heap.size, 0, none⟩ = some (.string a.name) := cell_later hb3 e0
            have g1 : w3.cell? ⟨w.heap.size, 1, none⟩ = some (.int .i64 a.kind) := cell_later hb3 e1
            have g2 : w3.cell? ⟨w.heap.size, 2, none⟩ = some (.int .i64 a.rows) := cell_later hb3 e2
            have g3 : w3.cell? ⟨w.heap.size, 3, none⟩ = some (.int .i64 a.cols) := cell_later hb3 e3
            have g4 : w3.cell? ⟨w.heap.size, 4, none⟩ = some (.int .i64 a.x) := cell_later hb3 e4
            have g5 : w3.cell? ⟨w.heap.size, 5, none⟩ = some (.int .i64 a.y) := cell_later hb3 e5
            have g6 : w3.cell? ⟨w.heap.size, 6, none⟩ = some (.int .i64 a.pitch) := cell_later hb3 e6
            have g7 : w3.cell? ⟨w.heap.size, 7, none⟩ = some (.int .i64 a.wid) := cell_later hb3 e7
            have g8 : w3.cell? ⟨w.heap.size, 8, none⟩ = some (.int .i64 a.len) := cell_later hb3 e8
            have g9 : w3.cell? ⟨w.heap.size, 9, none⟩ = some (.int .i64 a.hei) := cell_later hb3 e9
            have g10 : w3.cell? ⟨w.heap.size, 10, none⟩ = some (.int .i64 a.deep) := cell_later hb3 e10
            have g11 : w3.cell? ⟨w.heap.size, 11, none⟩ = some (.int .i64 a.cap) := cell_later hb3 e11
            cases hrm : roomOk a with
            | false =>
              go_wp2_with fail
              refine (isRoomy_any a _ HIN.out).mono ?_
              rintro e w4 ⟨rfl, hb4⟩
              rw [hrm]
              go_wp2
              go_ret
              exact ⟨rfl, hBw3.trans (hb4.mono hBw3.size)⟩
            | true =>
              go_wp2_with fail
              refine (isRoomy_any a _ HIN.out).mono ?_
              rintro e w4 ⟨rfl, hb4⟩
              rw [hrm]
              go_wp2
              go_ret
              exact ⟨rfl, hBw3.trans (hb4.mono hBw3.size)⟩
        · have e : (!k2 || !k3) = true := by cases k2 <;> cases k3 <;> simp at hkk ⊢
          rw [e]
          go_wp2
          go_ret
          exact ⟨rfl, hBw2⟩

theorem check_any (a : Wr) (w : World) (hs : a.name.size ≤ maxLen) :
    Calls Try.prog 68 #[wv a] w fun e w' => e = .returned (.int .i64 (chk a)) ∧ Below w.heap.size w w' := by
  cases hl : lab a.name with
  | false => have h := check_label a w hs hl; unfold chk; rw [hl]; exact h
  | true =>
    have h := check_rest a w hs hl _ _ _ all1 all1 all1
    unfold chk; rw [hl]; exact h

end Go.Proofs.Ytgelbndbkmedlaa

/- placing, fitting walked. -/
namespace Go.Proofs.Ytgelbndbkmedlaa
open Go.RowKit
/-- What is wrong with a seat's slot, then with its name. -/
def plc (s : Sit) : Int := if inR 1 12 s.slot = true then (if lab s.name = true then 0 else 3) else 2
theorem frefs_lab (n : ByteArray) : F.frefs [[(n, 0)]] = if lab n = true then 0 else 3 := by
  rw [F.frefs_one]
  cases h : lab n with
  | true => rw [F.fref_ok (by simp) (by simp [F.badL, F.bad1, h]) (by simp [F.tot])]; rfl
  | false => rw [F.fref_bad (by simp) (by simp [F.badL, F.bad1, h])]; simp [F.badL, F.bad1, h]
set_option maxHeartbeats 800000 in
theorem fluidCheck_any (n : ByteArray) (w : World) (hn : n.size ≤ maxLen) (m : Nat) (hm : m = w.heap.size) :
    Calls Try.prog 77 #[.slice (some ⟨m, 0, none⟩) 1 1] (w.alloc (.cells #[.string n, .int .i64 0] 102)) fun e w' => e = .returned (.int .i64 (if lab n = true then 0 else 3)) ∧ Below (w.alloc (.cells #[.string n, .int .i64 0] 102)).heap.size (w.alloc (.cells #[.string n, .int .i64 0] 102)) w' := by
  subst hm
  have hF : F.Fl (w.alloc (.cells #[.string n, .int .i64 0] 102)) (some ⟨w.heap.size, 0, none⟩) [(n, 0)] := by
    refine ⟨fun p hp => by simp at hp; subst hp; exact hn, .inr ⟨w.heap.size, 0, rfl, by simp, fun k hk => ?_⟩⟩
    match k, hk with
    | 0, _ => exact ⟨by go_simp, by go_simp⟩
  obtain ⟨w0, hw0⟩ : ∃ w0, w0 = w.alloc (.cells #[.string n, .int .i64 0] 102) := ⟨_, rfl⟩
  have hsz : w.heap.size < w0.heap.size := by rw [hw0]; simp
  rw [← hw0] at hF ⊢
  clear hw0
  have hcall := F.refusal_any w0.heap.size 1 [(some ⟨w.heap.size, 0, none⟩, 1, [(n, 0)])] _ (F.FlS.one hF) (by simp)
  have HL := frefs_lab n
  simp only [List.map_cons, List.map_nil, List.length_cons, List.length_nil, Nat.zero_add, HL] at hcall
  generalize (if lab n = true then (0 : Int) else 3) = r at *
  clear HL hF
  go_enter Try.func77, Try.ntmps77
  go_wp2_with (go_at_call 98; refine hcall.mono ?_; rintro e w' ⟨rfl, hb'⟩)
  go_ret
  exact ⟨rfl, ((Below.refl _ _).alloc (Nat.le_refl _) _).trans (hb'.mono (by simp))⟩

set_option maxHeartbeats 1600000 in
theorem placing_any (s : Sit) (w : World) (hs : SOk s) :
    Calls Try.prog 67 #[sv s] w fun e w' => e = .returned (.int .i64 (plc s)) ∧ Below w.heap.size w w' := by
  by_cases h1 : s.slot < 1
  · have HP : Hid (plc s = 2) := by show plc s = 2; unfold plc; rw [inR_no (.inl h1)]; rfl
    go_enter Try.func67, Try.ntmps67
    go_wp2
    go_ret
    exact ⟨ret_int HP.out.symm, (Below.refl _ _).alloc (Nat.le_refl _) _⟩
  by_cases h2 : 12 < s.slot
  · have HP : Hid (plc s = 2) := by show plc s = 2; unfold plc; rw [inR_no (.inr h2)]; rfl
    go_enter Try.func67, Try.ntmps67
    go_wp2
    go_ret
    exact ⟨ret_int HP.out.symm, (Below.refl _ _).alloc (Nat.le_refl _) _⟩
  have HP : Hid (plc s = if lab s.name = true then 0 else 3) := by show plc s = _; unfold plc; rw [inR_yes (by omega) (by omega)]; rfl
  have hcall := fluidCheck_any s.name (w.alloc (sobj s)) hs.2 (w.heap.size + 1) (by simp)
  rw [← HP.out] at hcall
  generalize plc s = r at *
  clear HP
  go_enter Try.func67, Try.ntmps67
  go_wp2_with (go_at_call 77; refine hcall.mono ?_; rintro e w' ⟨rfl, hb'⟩)
  go_ret
  exact ⟨rfl, (((Below.refl _ _).alloc (Nat.le_refl _) _).alloc (by simp) _).trans (hb'.mono (by simp; omega))⟩

/-- The first number that is not 0. -/
def orL : List Int → Int
  | [] => 0
  | n :: l => if n = 0 then orL l else n
theorem orL_skip : ∀ {a l : List Int}, (∀ n ∈ a, n = 0) → orL (a ++ l) = orL l
  | [], _, _ => rfl
  | n :: a, l, h => by
    simp only [List.cons_append, orL]
    rw [if_pos (h n (by simp)), orL_skip fun c hc => h c (by simp [hc])]
theorem orL_at {l : List Int} {k : Nat} (h : k < l.length) (ha : ∀ n ∈ l.take k, n = 0) (hb : l[k]'h ≠ 0) : orL l = l[k]'h := by
  have e : l = l.take k ++ l[k]'h :: l.drop (k + 1) := by rw [← List.drop_eq_getElem_cons h, List.take_append_drop]
  conv => lhs; rw [e]
  rw [orL_skip ha]
  simp only [orL]; rw [if_neg hb]
theorem orL_zero {l : List Int} (ha : ∀ n ∈ l, n = 0) : orL l = 0 := by
  have := orL_skip (l := []) ha
  simpa [orL] using this
set_option maxHeartbeats 1600000 in
theorem cmpOr_any (b cap : Nat) (xs : List Int) (w : World) (hl : xs.length ≤ 100) (hc : ∀ k (h : k < xs.length), w.cell? ⟨b, k, none⟩ = some (.int .i64 (xs[k]'h))) :
    Calls Try.prog 66 #[.slice (some ⟨b, 0, none⟩) xs.length cap] w fun e w' => e = .returned (.int .i64 (orL xs)) ∧ w' = w := by
  have HC : Hid (∀ k (h : k < xs.length), w.cell? ⟨b, k, none⟩ = some (.int .i64 (xs[k]'h))) := hc
  clear hc
  go_enter Try.func66, Try.ntmps66
  go_wp2
  go_loopw [5, 8] (fun _ i wr => ∃ k : Nat, k ≤ xs.length ∧ i = .int .i64 k ∧ (∀ n ∈ xs.take k, n = 0) ∧ wr = w) (fun _ i _ => xs.length - (intOf i).toNat)
  case atStart => exact ⟨0, Nat.zero_le _, rfl, (fun f hf => by simp at hf), rfl⟩
  case round =>
    obtain ⟨k, hk, rfl, hok, rfl⟩ := hrel
    have HO : Hid (∀ n ∈ xs.take k, n = 0) := hok
    clear hok
    by_cases hlt : k < xs.length
    · have c0 := HC.out k hlt
      have HHit : Hid (xs[k]'hlt ≠ 0 → orL xs = xs[k]'hlt) := orL_at hlt HO.out
      have HMiss : Hid (xs[k]'hlt = 0 → ∀ n ∈ xs.take (k + 1), n = 0) := fun h n hn => by
        rw [List.take_succ_eq_append_getElem hlt] at hn
        rcases List.mem_append.1 hn with hn | hn
        · exact HO.out n hn
        · simp at hn; rw [hn]; exact h
      generalize xs[k]'hlt = a at *
      by_cases ha : a = 0
      · have hne : (a != 0) = false := by simp [ha]
        have HM := (show Hid _ from HMiss.out ha)
        clear ha
        go_wp2
        go_roundw
        case rel => exact ⟨k + 1, by omega, by go_num, HM.out, by trivial⟩
        case measure => simp [intOf]; omega
      · have hne : (a != 0) = true := by simp [ha]
        have HM := (show Hid _ from HHit.out ha)
        clear ha
        go_wp2
        go_ret
        exact ⟨ret_int HM.out.symm, rfl⟩
    · go_wp2
      go_ret
      exact ⟨ret_int (orL_zero fun n hn => HO.out n (by rw [List.take_of_length_le (by omega)]; exact hn)).symm, rfl⟩

/-- What is wrong with a seat whose ware may be, for its slot, and beside those ahead of it. -/
def fit (ahead : List Sit) (s : Sit) : Int :=
  if 132500 < s.ware.wid ∨ 90500 < s.ware.len then 8 else if (ahead.any fun a => a.slot == s.slot) = true ∨ (ahead.any fun a => a.name == s.name) = true then 4 else 0
set_option maxHeartbeats 3200000 in
theorem fitting_any (ao : Option Addr) (cap : Nat) (l : List Sit) (s : Sit) (w : World) (hL : Sts w ao l) (hl : l.length ≤ 9223372036854775807) :
    Calls Try.prog 69 #[.slice ao l.length cap, sv s] w fun e w' => e = .returned (.int .i64 (fit l s)) ∧ Below w.heap.size w w' := by
  have HL : Hid (Sts w ao l) := hL
  clear hL
  by_cases h1 : 132500 < s.ware.wid
  · have HP : Hid (fit l s = 8) := if_pos (.inl h1)
    go_enter Try.func69, Try.ntmps69
    go_wp2
    go_ret
    exact ⟨ret_int HP.out.symm, (Below.refl _ _).alloc (Nat.le_refl _) _⟩
  by_cases h2 : 90500 < s.ware.len
  · have HP : Hid (fit l s = 8) := if_pos (.inr h2)
    go_enter Try.func69, Try.ntmps69
    go_wp2
    go_ret
    exact ⟨ret_int HP.out.symm, (Below.refl _ _).alloc (Nat.le_refl _) _⟩
  have HP : Hid (fit l s = if (l.any fun a => a.slot == s.slot) = true ∨ (l.any fun a => a.name == s.name) = true then 4 else 0) := if_neg (by omega)
  have H1 : Hid (Calls Try.prog 83 #[.slice ao l.length cap, .func (.func 103) #[] #[ptr (w.heap.size + 1)]] ((w.alloc (sobj s)).alloc (.cells #[.int .i64 s.slot] 3)) fun e w' => e = .returned (.bool (l.any fun a => a.slot == s.slot)) ∧ Below ((w.alloc (sobj s)).alloc (.cells #[.int .i64 s.slot] 3)).heap.size ((w.alloc (sobj s)).alloc (.cells #[.int .i64 s.slot] 3)) w') :=
    containsFuncS_any 103 #[ptr (w.heap.size + 1)] (fun a => a.slot == s.slot) ao cap l _ en103 (fun a W hW => standing_test a s.slot (w.heap.size + 1) W (by have := hW.size; simp at this; omega) (cell_later hW (by go_simp))) (HL.out.next (((Below.refl _ _).alloc (Nat.le_refl _) _).alloc (by simp) _)) hl
  have H2 : Hid (∀ W : World, Below w.heap.size w W → Calls Try.prog 83 #[.slice ao l.length cap, .func (.func 104) #[] #[ptr W.heap.size]] (W.alloc (.cells #[.string s.name] 9)) fun e w' => e = .returned (.bool (l.any fun a => a.name == s.name)) ∧ Below (W.alloc (.cells #[.string s.name] 9)).heap.size (W.alloc (.cells #[.string s.name] 9)) w') := fun W hW =>
    containsFuncS_any 104 #[ptr W.heap.size] (fun a => a.name == s.name) ao cap l _ en104 (fun a W' hW' => named_test a s.name W.heap.size W' (by have := hW'.size; simp at this; omega) (cell_later hW' (by go_simp))) (HL.out.next (hW.alloc hW.size _)) hl
  cases q1 : (l.any fun a => a.slot == s.slot) with
  | true =>
    rw [q1] at H1 HP
    simp only [true_or, if_true] at HP
    go_enter Try.func69, Try.ntmps69
    go_wp2_with fail
    refine (standingIn_any _ _).mono ?_
    rintro e w1 ⟨rfl, rfl⟩
    go_wp2_with fail
    refine H1.out.mono ?_
    rintro e w2 ⟨rfl, hb⟩
    go_wp2
    go_ret
    exact ⟨ret_int HP.out.symm, (((Below.refl _ _).alloc (Nat.le_refl _) _).alloc (by simp) _).trans (hb.mono (by simp; omega))⟩
  | false =>
    rw [q1] at H1 HP
    simp only [Bool.false_eq_true, false_or] at HP
    have HPq : Hid (∀ q : Bool, (l.any fun a => a.name == s.name) = q → fit l s = if q = true then 4 else 0) := fun q hq => by rw [HP.out, hq]
    clear HP
    cases q2 : (l.any fun a => a.name == s.name) with
    | _ =>
      rw [q2] at H2
      have HF := (show Hid _ from HPq.out _ q2)
      simp only [Bool.false_eq_true, if_true, if_false] at HF
      clear HPq q1 q2
      go_enter Try.func69, Try.ntmps69
      go_wp2_with fail
      refine (standingIn_any _ _).mono ?_
      rintro e w1 ⟨rfl, rfl⟩
      go_wp2_with fail
      refine H1.out.mono ?_
      rintro e w2 ⟨rfl, hb⟩
      have c13 : w2.cell? ⟨w.heap.size, 13, none⟩ = some (.string s.name) := cell_later hb (by go_simp)
      have HB : Hid (Below w.heap.size w w2) := (((Below.refl _ _).alloc (Nat.le_refl _) _).alloc (by simp) _).trans (hb.mono (by simp; omega))
      clear hb
      go_wp2_with fail
      refine (named_any _ _).mono ?_
      rintro e w3 ⟨rfl, rfl⟩
      go_wp2_with fail
      refine (H2.out w2 HB.out).mono ?_
      rintro e w4 ⟨rfl, hb4⟩
      go_wp2
      go_ret
      exact ⟨ret_int HF.out.symm, (HB.out.alloc HB.out.size _).trans (hb4.mono (by have := HB.out.size; simp; omega))⟩


end Go.Proofs.Ytgelbndbkmedlaa

/- deck.Check walked. -/
namespace Go.Proofs.Ytgelbndbkmedlaa
open Go.RowKit
/-- What is wrong with a seat, those ahead of it known. -/
def one3 (l : List Sit) (k : Nat) (s : Sit) : Int := orL [plc s, chk s.ware, fit (l.take k) s]
def errAt (l : List Sit) (k : Nat) : Int := if h : k < l.length then one3 l k (l[k]'h) else 0
/-- What deck.Check says. -/
def dchk (l : List Sit) : Int := if 12 < l.length then 7 else orL ((List.range l.length).map (errAt l))
theorem errAt_lt {l : List Sit} {k : Nat} (h : k < l.length) : errAt l k = one3 l k (l[k]'h) := dif_pos h
theorem dchk_many {l : List Sit} (h : 12 < l.length) : dchk l = 7 := if_pos h
theorem dchk_hit {l : List Sit} {k : Nat} (h12 : l.length ≤ 12) (hk : k < l.length) (ha : ∀ j, j < k → errAt l j = 0) (hb : errAt l k ≠ 0) : dchk l = errAt l k := by
  unfold dchk
  rw [if_neg (by omega)]
  have hl : k < ((List.range l.length).map (errAt l)).length := by simpa using hk
  have e : ((List.range l.length).map (errAt l))[k]'hl = errAt l k := by simp
  rw [orL_at hl ?_ (by rw [e]; exact hb), e]
  intro n hn
  rw [← List.map_take] at hn
  obtain ⟨j, hj, rfl⟩ := List.mem_map.1 hn
  rw [List.take_range] at hj
  exact ha j (by have := List.mem_range.1 hj; omega)
theorem dchk_ok {l : List Sit} (h12 : l.length ≤ 12) (ha : ∀ j, j < l.length → errAt l j = 0) : dchk l = 0 := by
  unfold dchk
  rw [if_neg (by omega)]
  refine orL_zero fun n hn => ?_
  obtain ⟨j, hj, rfl⟩ := List.mem_map.1 hn
  exact ha j (List.mem_range.1 hj)
theorem succ_all {P : Nat → Prop} {k : Nat} (h : ∀ j, j < k → P j) (hk : P k) : ∀ j, j < k + 1 → P j := fun j hj => by
  by_cases e : j = k
  · subst e; exact hk
  · exact h j (by omega)
theorem cmpOr_is (xs : List Int) (r : Int) (hr : orL xs = r) (v : Value) (w : World) (hl : xs.length ≤ 100) (h : IsInts xs v w) :
    Calls Try.prog 66 #[v] w fun e w' => e = .returned (.int .i64 r) ∧ w' = w := by
  subst hr
  obtain ⟨b, rfl, hc⟩ := h
  refine cmpOr_any b xs.length xs w hl fun k hk => ?_
  rw [hc k hk, List.getD_eq_getElem?_getD, List.getElem?_eq_getElem hk]; rfl
def chkV (s : Sit) (p c q r : Int) (b off k n cap : Nat) (B : Nat) (d : Nat) (v : Value) (w : World) : Prop :=
  match d with
  | 16 => v = sv s
  | 17 => v = .int .i64 p
  | 18 => v = .pointer (some ⟨B, 1, none⟩)
  | 19 => v = wv s.ware
  | 20 => v = .int .i64 c
  | 21 => v = .slice (some ⟨b, off, none⟩) n cap
  | 22 => v = .int .i64 k
  | 23 => v = .slice (some ⟨b, off, none⟩) k cap
  | 24 => v = sv s
  | 25 => v = .int .i64 q
  | 26 => IsInts [p, c, q] v w
  | 27 => v = .int .i64 r
  | 5 => v = .int .i64 r
  | _ => True
theorem chkV_mono (s : Sit) (p c q r : Int) (b off k n cap : Nat) (B : Nat) (d : Nat) (v : Value) (w w' : World) (h : chkV s p c q r b off k n cap B d v w) (hb : Below w.heap.size w w') : chkV s p c q r b off k n cap B d v w' := by
  unfold chkV at h ⊢
  split <;> simp only [] at h <;> first | exact h | exact h.later hb

set_option maxHeartbeats 6400000 in
set_option maxRecDepth 100000 in
theorem deckCheck_any (ao : Option Addr) (cap : Nat) (l : List Sit) (w : World) (hL : Sts w ao l) (hcap : l.length ≤ cap) (hl : l.length ≤ 9223372036854775807) (hok : ∀ s ∈ l, SOk s) :
    Calls Try.prog 47 #[.slice ao l.length cap] w fun e w' => e = .returned (.int .i64 (dchk l)) ∧ Below w.heap.size w w' := by
  have HL : Hid (Sts w ao l) := hL
  have HOK : Hid (∀ s ∈ l, SOk s) := hok
  clear hL hok
  by_cases h12 : 12 < l.length
  · have HP : Hid (dchk l = 7) := dchk_many h12
    go_enter Try.func47, Try.ntmps47
    go_wp2
    go_ret
    exact ⟨ret_int HP.out.symm, Below.refl _ _⟩
  have h12' : l.length ≤ 12 := by omega
  clear h12
  go_enter Try.func47, Try.ntmps47
  go_wp2
  go_loopw [11] (fun i wr => ∃ k : Nat, k ≤ l.length ∧ i = .int .i64 k ∧ (∀ j, j < k → errAt l j = 0) ∧ Below w.heap.size w wr) (fun i _ => l.length - (intOf i).toNat)
  case atStart => exact ⟨0, Nat.zero_le _, rfl, (fun j hj => absurd hj (Nat.not_lt_zero _)), Below.refl _ _⟩
  case round =>
    obtain ⟨k, hk, rfl, hno, hb⟩ := hrel
    have HB : Hid (Below w.heap.size w wr) := hb
    have HNO : Hid (∀ j, j < k → errAt l j = 0) := hno
    clear hb hno
    by_cases hlt : k < l.length
    · obtain ⟨b, off, rfl, hbx⟩ := (HL.out.next HB.out).at hlt
      have HE : Hid (errAt l k = one3 l k (l[k]'hlt)) := errAt_lt hlt
      have HSO : Hid (SOk (l[k]'hlt)) := HOK.out _ (List.getElem_mem hlt)
      have HTK : Hid ((l.take k).length = k) := by show _ = _; rw [List.length_take]; omega
      generalize l[k]'hlt = s at *
      obtain ⟨_, c0, c1, c2, c3, c4, c5, c6, c7, c8, c9, c10, c11, c12, c13⟩ := hbx
      have hki : (k : Int) < (l.length : Int) := by omega
      go_wp2_with fail
      rename_i KK hkk
      have HKK := (show Hid _ from hkk)
      clear hkk c0 c1 c2 c3 c4 c5 c6 c7 c8 c9 c10 c11 c12 c13
      obtain ⟨w2, hw2⟩ : ∃ w2, w2 = wr.alloc (sobj s) := ⟨_, rfl⟩
      have HB2 : Hid (Below w.heap.size w w2) := by show Below _ _ _; rw [hw2]; exact HB.out.alloc HB.out.size _
      have KA : Hid (Sf wr.heap.size s w2) := by show Sf _ _ _; rw [hw2]; exact Sf.new wr s
      rw [← hw2]
      clear hw2
      try rw [show decide ((k : Int) < (l.length : Int)) = true by simp; omega]
      obtain ⟨p, hp⟩ : ∃ p, p = plc s := ⟨_, rfl⟩
      obtain ⟨c, hc⟩ : ∃ c, c = chk s.ware := ⟨_, rfl⟩
      obtain ⟨q, hq⟩ : ∃ q, q = fit (l.take k) s := ⟨_, rfl⟩
      obtain ⟨r, hr⟩ : ∃ r, r = orL [p, c, q] := ⟨_, rfl⟩
      have HE2 : Hid (errAt l k = r) := by show _ = _; rw [HE.out, hr, hp, hc, hq]; rfl
      have HP : Hid (∀ W : World, Calls Try.prog 67 #[sv s] W fun e w' => e = .returned (.int .i64 p) ∧ Below W.heap.size W w') := fun W => by rw [hp]; exact placing_any s W HSO.out
      have HC : Hid (∀ W : World, Calls Try.prog 68 #[wv s.ware] W fun e w' => e = .returned (.int .i64 c) ∧ Below W.heap.size W w') := fun W => by rw [hc]; exact check_any s.ware W HSO.out.1
      have HQ : Hid (∀ W : World, Below w2.heap.size w2 W → Calls Try.prog 69 #[.slice (some ⟨b, off, none⟩) k cap, sv s] W fun e w' => e = .returned (.int .i64 q) ∧ Below W.heap.size W w') := fun W hW => by
        have := fitting_any (some ⟨b, off, none⟩) cap (l.take k) s W (((HL.out.next HB2.out).next hW).take k) (by rw [HTK.out]; omega)
        rw [hq]
        rw [HTK.out] at this
        exact this
      have HR : Hid (orL [p, c, q] = r) := hr.symm
      clear hp hc hq hr HE HSO HTK
      refine region_inv [false, false, false, false, false, true, false, false, false, false, false, false, false, false, false, false, true, true, true, true, true, true, true, true, true, true, true, true, false, false, false, false]
        [(16, [], none), (17, [16], none), (18, [], none), (19, [18], none), (20, [19], none), (21, [], none), (22, [], none), (23, [21, 22], none), (24, [], none), (25, [23, 24], none), (26, [17, 20, 25], none), (27, [26], none), (5, [27], none)]
        (chkV s p c q r b off k l.length cap wr.heap.size) (by kernel_rfl) (by kernel_rfl) (chkV_mono s p c q r b off k l.length cap wr.heap.size) ?_ ?_
      · refine ⟨?_, ?_, ?_, ?_, ?_, ?_, ?_, ?_, ?_, ?_, ?_, ?_, ?_, trivial⟩
        · intro f w1 hb _ K hK
          obtain ⟨⟨al, a0, a1, a2, a3, a4, a5, a6, a7, a8, a9, a10, a11, a12, a13⟩, _⟩ := (KA.out).later hb
          simp only [Nat.zero_add] at a1 a2 a3 a4 a5 a6 a7 a8 a9 a10 a11 a12 a13
          simp only [over, overL, Nat.reduceAdd]
          go_simp
          exact hK _ _ ⟨_, rfl, by simp only [over, overL, Nat.reduceAdd]; rfl, Below.refl _ _⟩
        · intro f w1 hb ⟨h16, _⟩ K hK
          have h16 : f 16 = _ := h16
          simp only [over, overL, Nat.reduceAdd, h16]
          go_simp
          refine (HP.out _).mono ?_
          rintro e w2 ⟨rfl, hb2⟩
          exact hK _ _ ⟨_, rfl, by simp only [over, overL, Nat.reduceAdd, h16]; rfl, hb2⟩
        · intro f w1 hb _ K hK
          simp only [over, overL, Nat.reduceAdd]
          go_simp
          exact hK _ _ ⟨_, rfl, by simp only [over, overL, Nat.reduceAdd]; rfl, Below.refl _ _⟩
        · intro f w1 hb ⟨h18, _⟩ K hK
          have h18 : f 18 = _ := h18
          obtain ⟨⟨al, a0, a1, a2, a3, a4, a5, a6, a7, a8, a9, a10, a11, a12, a13⟩, _⟩ := (KA.out).later hb
          simp only [Nat.zero_add] at a1 a2 a3 a4 a5 a6 a7 a8 a9 a10 a11 a12 a13
          simp only [over, overL, Nat.reduceAdd, h18]
          go_simp
          exact hK _ _ ⟨_, rfl, by simp only [over, overL, Nat.reduceAdd, h18]; rfl, Below.refl _ _⟩
        · intro f w1 hb ⟨h19, _⟩ K hK
          have h19 : f 19 = _ := h19
          simp only [over, overL, Nat.reduceAdd, h19]
          go_simp
          refine (HC.out _).mono ?_
          rintro e w2 ⟨rfl, hb2⟩
          exact hK _ _ ⟨_, rfl, by simp only [over, overL, Nat.reduceAdd, h19]; rfl, hb2⟩
        · intro f w1 hb _ K hK
          simp only [over, overL, Nat.reduceAdd]
          go_simp
          exact hK _ _ ⟨_, rfl, by simp only [over, overL, Nat.reduceAdd]; rfl, Below.refl _ _⟩
        · intro f w1 hb _ K hK
          simp only [over, overL, Nat.reduceAdd]
          go_simp
          exact hK _ _ ⟨_, rfl, by simp only [over, overL, Nat.reduceAdd]; rfl, Below.refl _ _⟩
        · intro f w1 hb ⟨h21, h22, _⟩ K hK
          have h21 : f 21 = _ := h21
          have h22 : f 22 = _ := h22
          simp only [over, overL, Nat.reduceAdd, h21, h22]
          go_simp
          rw [if_pos (by omega)]
          exact hK _ _ ⟨_, rfl, by simp only [over, overL, Nat.reduceAdd, h21, h22], Below.refl _ _⟩
        · intro f w1 hb _ K hK
          obtain ⟨⟨al, a0, a1, a2, a3, a4, a5, a6, a7, a8, a9, a10, a11, a12, a13⟩, _⟩ := (KA.out).later hb
          simp only [Nat.zero_add] at a1 a2 a3 a4 a5 a6 a7 a8 a9 a10 a11 a12 a13
          simp only [over, overL, Nat.reduceAdd]
          go_simp
          exact hK _ _ ⟨_, rfl, by simp only [over, overL, Nat.reduceAdd]; rfl, Below.refl _ _⟩
        · intro f w1 hb ⟨h23, h24, _⟩ K hK
          have h23 : f 23 = _ := h23
          have h24 : f 24 = _ := h24
          simp only [over, overL, Nat.reduceAdd, h23, h24]
          go_simp
          refine (HQ.out _ hb).mono ?_
          rintro e w2 ⟨rfl, hb2⟩
          exact hK _ _ ⟨_, rfl, by simp only [over, overL, Nat.reduceAdd, h23, h24]; rfl, hb2⟩
        · intro f w1 hb ⟨h17, h20, h25, _⟩ K hK
          have h17 : f 17 = _ := h17
          have h20 : f 20 = _ := h20
          have h25 : f 25 = _ := h25
          simp only [over, overL, Nat.reduceAdd, h17, h20, h25]
          go_simp
          exact hK _ _ ⟨_, new_three _ _ _ _ _, by simp only [over, overL, Nat.reduceAdd, h17, h20, h25]; rfl, (Below.refl _ _).alloc (Nat.le_refl _) _⟩
        · intro f w1 hb ⟨h26, _⟩ K hK
          simp only [over, overL, Nat.reduceAdd]
          go_simp
          refine (cmpOr_is [p, c, q] r HR.out _ _ (by simp) h26).mono ?_
          rintro e w2 ⟨rfl, hw⟩
          exact hK _ _ ⟨_, rfl, by simp only [over, overL, Nat.reduceAdd]; rfl, hw ▸ Below.refl _ _⟩
        · intro f w1 hb ⟨h27, _⟩ K hK
          have h27 : f 27 = _ := h27
          simp only [over, overL, Nat.reduceAdd, h27]
          go_simp
          exact hK _ _ ⟨_, rfl, by simp only [over, overL, Nat.reduceAdd, h27]; rfl, Below.refl _ _⟩
      intro f w3 hb3 hv
      have h5 : f 5 = .int .i64 r := hv.2.2.2.2.2.2.2.2.2.2.2.2.1
      have HB3 : Hid (Below w.heap.size w w3) := HB2.out.trans (hb3.mono HB2.out.size)
      clear hb3 hv HP HC HQ HR
      simp only [over, overL, Nat.reduceAdd, h5]
      clear h5
      by_cases hr : r = 0
      · have HN2 : Hid (∀ j, j < k + 1 → errAt l j = 0) := succ_all HNO.out (by rw [HE2.out]; exact hr)
        have hne : (r != 0) = false := by simp [hr]
        clear hr
        refine HKK.out _ _ ?_
        go_wp2
        go_roundw
        case rel => exact ⟨k + 1, by omega, by go_num, HN2.out, HB3.out⟩
        case measure => simp [intOf]; omega
      · have HD : Hid (dchk l = r) := by show _ = _; rw [dchk_hit h12' hlt HNO.out (by rw [HE2.out]; exact hr), HE2.out]
        have hne : (r != 0) = true := by simp [hr]
        clear hr
        refine HKK.out _ _ ?_
        go_wp2
        go_ret
        exact ⟨ret_int HD.out.symm, HB3.out⟩
    · have HD : Hid (dchk l = 0) := dchk_ok h12' fun j hj => HNO.out j (by omega)
      go_wp2
      go_ret
      exact ⟨ret_int HD.out.symm, HB.out⟩


end Go.Proofs.Ytgelbndbkmedlaa

/- corner, added walked; what a deck is that may be. -/
namespace Go.Proofs.Ytgelbndbkmedlaa
open Go.RowKit
theorem chk_in {a : Wr} (h : chk a = 0) : lab a.name = true ∧ inR 1 3 a.kind = true ∧ inR 1 16 a.rows = true ∧ inR 1 24 a.cols = true ∧ rangeOk a = true ∧ roomOk a = true := by
  unfold chk at h
  split at h
  · rename_i h1
    split at h
    · rename_i h2
      split at h
      · rename_i h3
        split at h
        · rename_i h4
          split at h
          · rename_i h5
            exact ⟨h1, h2, h3.1, h3.2, h4, h5⟩
          · omega
        · omega
      · omega
    · omega
  · omega
theorem chk_inR {a : Wr} (h : chk a = 0) : InR a := by
  have h := chk_in h
  exact inR_of h.2.2.1 h.2.2.2.1 h.2.2.2.2.1

abbrev zWr : Wr := ⟨⟨#[]⟩, 0, 0, 0, 0, 0, 0, 0, 0, 0, 0, 0⟩
abbrev zSt : Sit := ⟨0, zWr, ⟨#[]⟩⟩
/-- The corner of a slot. -/
def cx (n : Int) : Int := (n - 1) % 3 * 137500
def cy (n : Int) : Int := (n - 1) / 3 * 95500
theorem cx_in {n : Int} : 0 ≤ cx n ∧ cx n ≤ 275000 := by unfold cx; omega
theorem cy_in {n : Int} (h : 1 ≤ n) (h2 : n ≤ 12) : 0 ≤ cy n ∧ cy n ≤ 286500 := by unfold cy; omega
theorem slot_cases {n : Int} (h : 1 ≤ n) (h2 : n ≤ 12) : n = 1 ∨ n = 2 ∨ n = 3 ∨ n = 4 ∨ n = 5 ∨ n = 6 ∨ n = 7 ∨ n = 8 ∨ n = 9 ∨ n = 10 ∨ n = 11 ∨ n = 12 := by omega
set_option maxHeartbeats 1600000 in
theorem corner_any (n : Int) (w : World) (h : 1 ≤ n) (h2 : n ≤ 12) :
    Calls Try.prog 49 #[.int .i64 n] w fun e w' => e = .returned (.agg #[.int .i64 (cx n), .int .i64 (cy n), .int .i64 0]) ∧ Below w.heap.size w w' := by
  have h0 : 0 ≤ n - 1 := by omega
  rcases slot_cases h h2 with e | e | e | e | e | e | e | e | e | e | e | e
  all_goals
    subst e
    go_enter Try.func49, Try.ntmps49
    go_wp2
    refine bodyPost_ret (v := .agg #[.int .i64 (cx _), .int .i64 (cy _), .int .i64 0]) (by simp [results, Try.results49, go_sem, cx, cy]; try decide) rfl ⟨rfl, (Below.refl _ _).alloc (Nat.le_refl _) _⟩
set_option maxHeartbeats 1600000 in
theorem added_any (x y z x' y' z' : Int) (w : World) (h : ∀ n ∈ [x, y, z, x', y', z'], 0 ≤ n ∧ n ≤ 1000000000000) :
    Calls Try.prog 50 #[.agg #[.int .i64 x, .int .i64 y, .int .i64 z], .agg #[.int .i64 x', .int .i64 y', .int .i64 z']] w fun e w' => e = .returned (.agg #[.int .i64 (x + x'), .int .i64 (y + y'), .int .i64 (z + z')]) ∧ Below w.heap.size w w' := by
  have h0 := h x (by simp)
  have h1 := h y (by simp)
  have h2 := h z (by simp)
  have h3 := h x' (by simp)
  have h4 := h y' (by simp)
  have h5 := h z' (by simp)
  clear h
  go_enter Try.func50, Try.ntmps50
  go_wp2
  refine bodyPost_ret (v := .agg #[.int .i64 (x + x'), .int .i64 (y + y'), .int .i64 (z + z')]) (by simp [results, Try.results50, go_sem]) rfl ⟨rfl, (((Below.refl _ _).alloc (Nat.le_refl _) _).alloc (by simp) _).alloc (by simp; omega) _⟩
/-- Three numbers in a block of their own, not frozen. -/
structure T3 (b : Nat) (x y z : Int) (w : World) : Prop where
  lt : b < w.heap.size
  c0 : w.cell? ⟨b, 0, none⟩ = some (.int .i64 x)
  c1 : w.cell? ⟨b, 1, none⟩ = some (.int .i64 y)
  c2 : w.cell? ⟨b, 2, none⟩ = some (.int .i64 z)
  f0 : w.frozen? ⟨b, 0, none⟩ = false
  f1 : w.frozen? ⟨b, 1, none⟩ = false
  f2 : w.frozen? ⟨b, 2, none⟩ = false
theorem T3.later {b : Nat} {x y z : Int} {w w1 : World} (h : T3 b x y z w) (hb : Below w.heap.size w w1) : T3 b x y z w1 :=
  ⟨Nat.lt_of_lt_of_le h.lt hb.size, cell_later hb h.c0, cell_later hb h.c1, cell_later hb h.c2, (hb.frozen (p := ⟨b, 0, none⟩) h.lt).trans h.f0, (hb.frozen (p := ⟨b, 1, none⟩) h.lt).trans h.f1, (hb.frozen (p := ⟨b, 2, none⟩) h.lt).trans h.f2⟩
theorem T3.new (w : World) (x y z : Int) (t : Nat) (n : Nat) (hn : n = w.heap.size) : T3 n x y z (w.alloc (.cells #[.int .i64 x, .int .i64 y, .int .i64 z] t)) := by
  subst hn
  exact ⟨by simp, by go_simp, by go_simp, by go_simp, by go_simp, by go_simp, by go_simp⟩
abbrev pto (x y z : Int) : Obj := .cells #[.int .i64 x, .int .i64 y, .int .i64 z] 24
abbrev ptv (x y z : Int) : Value := .agg #[.int .i64 x, .int .i64 y, .int .i64 z]
theorem orL_three {p c q : Int} (h : orL [p, c, q] = 0) : p = 0 ∧ c = 0 ∧ q = 0 := by
  simp only [orL] at h
  split at h
  · split at h
    · split at h
      · exact ⟨by assumption, by assumption, by assumption⟩
      · omega
    · omega
  · omega
theorem orL_all : ∀ {l : List Int}, orL l = 0 → ∀ n ∈ l, n = 0
  | [], _, n, hn => by simp at hn
  | m :: l, h, n, hn => by
    simp only [orL] at h
    split at h
    · rename_i h0
      rcases List.mem_cons.1 hn with e | e
      · rw [e]; exact h0
      · exact orL_all h n e
    · omega
/-- What a deck is that may be. -/
theorem dchk_in {l : List Sit} (h : dchk l = 0) : l.length ≤ 12 ∧ ∀ k (hk : k < l.length), plc (l[k]'hk) = 0 ∧ chk (l[k]'hk).ware = 0 ∧ fit (l.take k) (l[k]'hk) = 0 := by
  unfold dchk at h
  split at h
  · omega
  · refine ⟨by omega, fun k hk => ?_⟩
    have := orL_all h (errAt l k) (List.mem_map.2 ⟨k, List.mem_range.2 hk, rfl⟩)
    rw [errAt_lt hk] at this
    exact orL_three this
theorem plc_in {s : Sit} (h : plc s = 0) : 1 ≤ s.slot ∧ s.slot ≤ 12 ∧ lab s.name = true := by
  unfold plc at h
  split at h
  · rename_i h1
    split at h
    · exact ⟨(inR_iff.1 h1).1, (inR_iff.1 h1).2, by assumption⟩
    · omega
  · omega

theorem owns_later {w w' : World} {base e k n : Nat} {v : Value} {cs : List Value} (h : w.ownsRow base e k v n cs) (hb : Below w.heap.size w w') : w'.ownsRow base e k v n cs := by
  refine ⟨h.1, h.2.elim .inl fun ⟨g, cap, cur, h1, h2, h3, h4⟩ => .inr ⟨g, cap, cur, h1, h2, ?_, h4⟩⟩
  rw [hb.block g (Array.getElem?_eq_some_iff.1 h3).1]; exact h3
theorem below_owns {base e k n : Nat} {a w w' : World} {v : Value} {cs : List Value} (h : Below base a w) (ho : w.ownsRow base e k v n cs) (hg : w.grownBy w' v.ownBlock) (hB : base ≤ w.heap.size) : Below base a w' :=
  h.grown hg hB (fun k hk => (World.ownsRow.lt ho k hk).1)

end Go.Proofs.Ytgelbndbkmedlaa

/- deck.Boxes walked. -/
namespace Go.Proofs.Ytgelbndbkmedlaa
open Go.RowKit
/-- The box of a seat. -/
def boxOf (s : Sit) : S.Bx := ⟨cx s.slot, cy s.slot, 0, cx s.slot + s.ware.wid, cy s.slot + s.ware.len, 0 + s.ware.hei⟩
theorem S.OwnB.later {w w' : World} {base : Nat} {v : Value} {l : List S.Bx} (h : S.OwnB w base v l) (hb : Below w.heap.size w w') : S.OwnB w' base v l := owns_later h hb
theorem S.OwnB.nil (w : World) (base : Nat) : S.OwnB w base (.slice none 0 0) [] := World.ownsRow_nil w base 26 6
/-- One box appended to the call's own. -/
theorem wpList_append_box (w : World) {ops : Array Oper} {rest : List Oper} {o : Oper} {a : Act} {Q : Exit → Act → World → Prop} (hgd : o.guard = none) (s x : Operand)
    (ho : o.op = .call { callee := .builtin .append, args := #[s, x], argTypes := #[46, 46] }) (base : Nat) (v : Value) (l : List S.Bx) (hs : a.eval s = v) (hown : S.OwnB w base v l)
    (b : S.Bx) (ad : Addr) (hx : a.eval x = .slice (some ad) 1 1) (hq : S.Bxs w (some ad) [b]) (hlen : l.length ≤ 1000000) (hbase : base ≤ w.heap.size)
    (h : ∀ v' w', S.OwnB w' base v' (l ++ [b]) → w.grownBy w' v.ownBlock → wpList Try.prog ops Q rest (a.put o.dst v') w') :
    wpList Try.prog ops Q (o :: rest) a w := by
  obtain ⟨i0, hi, hz0, hz1, hz2⟩ := info_parts S.Try.info26
  refine wpList_append_own_at w hgd s x 46 ho base 26 i0 (.agg #[.int .i64 0, .int .i64 0, .int .i64 0, .int .i64 0, .int .i64 0, .int .i64 0]) 6 48 Try.underlying46 hi hz0 hz1 hz2 rfl (by decide) v l.length (S.cellsB l) hs hown ad 1 1 (S.cellsB [b]) hx (S.cellsB_length [b]) hq.cells S.cellsB_one ?_ ?_ hbase ?_
  · unfold maxLen; omega
  · omega
  · intro v' w' h1 h2 _ h4
    refine h v' w' ?_ h2
    unfold S.OwnB
    rw [S.cellsB_append, List.length_append]
    exact h1
set_option maxHeartbeats 1600000 in
theorem boxes_err (ao : Option Addr) (cap : Nat) (l : List Sit) (w : World) (hL : Sts w ao l) (hcap : l.length ≤ cap) (hl : l.length ≤ 9223372036854775807) (hok : ∀ s ∈ l, SOk s) (hd : dchk l ≠ 0) :
    Calls Try.prog 22 #[.slice ao l.length cap] w fun e w' => e = .returned (.tuple #[.slice none 0 0, .int .i64 (dchk l)]) ∧ Below w.heap.size w w' := by
  have HC := deckCheck_any ao cap l w hL hcap hl hok
  have hne : (dchk l != 0) = true := by simp [hd]
  clear hL hok hd
  generalize dchk l = e0 at *
  go_enter Try.func22, Try.ntmps22
  go_wp2_with (go_at_call 47; refine Calls.mono HC ?_; rintro e w1 ⟨rfl, hb⟩)
  refine bodyPost_ret (v := .tuple #[.slice none 0 0, .int .i64 e0]) (by simp [results, Try.results22, go_sem]) rfl ⟨rfl, hb⟩
/-- A slice of just this box. -/
def IsBx (b : S.Bx) (v : Value) (w : World) : Prop := ∃ n, v = .slice (some ⟨n, 0, none⟩) 1 1 ∧ S.Bxs w (some ⟨n, 0, none⟩) [b]
theorem IsBx.later {b : S.Bx} {v : Value} {w w' : World} (h : IsBx b v w) (hb : Below w.heap.size w w') : IsBx b v w' := by
  obtain ⟨n, h1, h2⟩ := h
  exact ⟨n, h1, h2.next hb⟩
def bxV (X Y mx my mz X' Y' Z' : Int) (v0 : Value) (d : Nat) (v : Value) (w : World) : Prop :=
  match d with
  | 34 => v = v0
  | 35 => v = ptv X Y 0
  | 36 => v = ptv X Y 0
  | 37 => v = ptv mx my mz
  | 38 => v = ptv X' Y' Z'
  | 39 => v = S.bv ⟨X, Y, 0, X', Y', Z'⟩
  | 40 => IsBx ⟨X, Y, 0, X', Y', Z'⟩ v w
  | _ => True
theorem bxV_mono (X Y mx my mz X' Y' Z' : Int) (v0 : Value) (d : Nat) (v : Value) (w w' : World) (h : bxV X Y mx my mz X' Y' Z' v0 d v w) (hb : Below w.heap.size w w') : bxV X Y mx my mz X' Y' Z' v0 d v w' := by
  unfold bxV at h ⊢
  split <;> simp only [] at h <;> first | exact h | exact h.later hb
set_option maxHeartbeats 6400000 in
set_option maxRecDepth 100000 in
theorem boxes_ok (ao : Option Addr) (cap : Nat) (l : List Sit) (w : World) (hL : Sts w ao l) (hcap : l.length ≤ cap) (hok : ∀ s ∈ l, SOk s) (hd : dchk l = 0) :
    Calls Try.prog 22 #[.slice ao l.length cap] w fun e w' => ∃ v, e = .returned (.tuple #[v, .int .i64 0]) ∧ S.OwnB w' w.heap.size v (l.map boxOf) ∧ Below w.heap.size w w' := by
  have h12 := (dchk_in hd).1
  have HC : Hid (Calls Try.prog 47 #[.slice ao l.length cap] w fun e w' => e = .returned (.int .i64 0) ∧ Below w.heap.size w w') := by
    have := deckCheck_any ao cap l w hL hcap (by omega) hok
    rw [hd] at this
    exact this
  have HL : Hid (Sts w ao l) := hL
  have HD : Hid (∀ k (hk : k < l.length), plc (l[k]'hk) = 0 ∧ chk (l[k]'hk).ware = 0 ∧ fit (l.take k) (l[k]'hk) = 0) := (dchk_in hd).2
  clear hL hok hd
  go_enter Try.func22, Try.ntmps22
  go_wp2_with fail
  refine Calls.mono HC.out ?_
  rintro e w1 ⟨rfl, hb1⟩
  have HB1 : Hid (Below w.heap.size w w1) := hb1
  clear hb1 HC
  go_wp2_with fail
  go_loopw [5, 17] (fun v i wr => ∃ k : Nat, k ≤ l.length ∧ i = .int .i64 k ∧ S.OwnB wr w.heap.size v ((l.map boxOf).take k) ∧ Below w.heap.size w wr) (fun _ i _ => l.length - (intOf i).toNat)
  case atStart => exact ⟨0, Nat.zero_le _, rfl, by simpa using S.OwnB.nil w1 w.heap.size, HB1.out⟩
  case round =>
    obtain ⟨k, hk, rfl, hown, hb⟩ := hrel
    obtain ⟨ao1, cap1, rfl, _, _⟩ := hown.shape
    have HTK : Hid (((l.map boxOf).take k).length = k) := by show _ = _; rw [List.length_take, List.length_map]; omega
    rw [HTK.out] at hown ⊢
    have HO : Hid (S.OwnB wr w.heap.size (.slice ao1 k cap1) ((l.map boxOf).take k)) := hown
    have HB : Hid (Below w.heap.size w wr) := hb
    clear hown hb
    by_cases hlt : k < l.length
    · obtain ⟨b, off, rfl, hbx⟩ := (HL.out.next HB.out).at hlt
      obtain ⟨hp, h0, _⟩ := HD.out k hlt
      have HTS : Hid ((l.map boxOf).take (k + 1) = (l.map boxOf).take k ++ [boxOf (l[k]'hlt)]) := by
        show _ = _
        rw [List.take_succ_eq_append_getElem (by simpa using hlt), List.getElem_map]
      generalize l[k]'hlt = s at *
      have HPL : Hid (1 ≤ s.slot ∧ s.slot ≤ 12) := ⟨(plc_in hp).1, (plc_in hp).2.1⟩
      have HIN : Hid (∀ m ∈ [cx s.slot, cy s.slot, 0, s.ware.wid, s.ware.len, s.ware.hei], 0 ≤ m ∧ m ≤ 1000000000000) := by
        obtain ⟨_, _, _, _, _, _, _, _, _, _, _, _, _, _, _, _, _, _⟩ := chk_inR h0
        have h5 := cx_in (n := s.slot)
        have h6 := cy_in HPL.out.1 HPL.out.2
        intro m hm
        simp only [List.mem_cons, List.mem_nil_iff, or_false] at hm
        rcases hm with e | e | e | e | e | e <;> omega
      obtain ⟨X, hX⟩ : ∃ X, X = cx s.slot := ⟨_, rfl⟩
      obtain ⟨Y, hY⟩ : ∃ Y, Y = cy s.slot := ⟨_, rfl⟩
      obtain ⟨X', hX'⟩ : ∃ X', X' = X + s.ware.wid := ⟨_, rfl⟩
      obtain ⟨Y', hY'⟩ : ∃ Y', Y' = Y + s.ware.len := ⟨_, rfl⟩
      obtain ⟨Z', hZ'⟩ : ∃ Z', Z' = 0 + s.ware.hei := ⟨_, rfl⟩
      have HBX : Hid (boxOf s = ⟨X, Y, 0, X', Y', Z'⟩) := by show _ = _; rw [hX', hY', hZ', hX, hY]; rfl
      have HCO : Hid (∀ W : World, Calls Try.prog 49 #[.int .i64 s.slot] W fun e w' => e = .returned (ptv X Y 0) ∧ Below W.heap.size W w') := fun W => by rw [hX, hY]; exact corner_any s.slot W HPL.out.1 HPL.out.2
      have HAD : Hid (∀ W : World, Calls Try.prog 50 #[ptv X Y 0, ptv s.ware.wid s.ware.len s.ware.hei] W fun e w' => e = .returned (ptv X' Y' Z') ∧ Below W.heap.size W w') := fun W => by
        rw [hX', hY', hZ', hX, hY]; exact added_any _ _ _ _ _ _ W HIN.out
      clear hX hY hX' hY' hZ' hp h0 HIN HPL
      obtain ⟨_, c0, c1, c2, c3, c4, c5, c6, c7, c8, c9, c10, c11, c12, c13⟩ := hbx
      have hki : (k : Int) < (l.length : Int) := by omega
      go_wp2_with fail
      refine Calls.mono (HCO.out (wr.alloc (sobj s))) ?_
      rintro e w2 ⟨rfl, hb2⟩
      have al : Below wr.heap.size wr (wr.alloc (sobj s)) := (Below.refl _ _).alloc (Nat.le_refl _) _
      have HB2 : Hid (Below w.heap.size w w2) := (HB.out.alloc HB.out.size _).trans (hb2.mono (by have := HB.out.size; simp; omega))
      have HO2 : Hid (S.OwnB w2 w.heap.size (.slice ao1 k cap1) ((l.map boxOf).take k)) := S.OwnB.later (S.OwnB.later HO.out al) hb2
      obtain ⟨ql, q0, q1, q2, q3, q4, q5, q6, q7, q8, q9, q10, q11, q12, q13⟩ := ((Sf.new wr s).later hb2).bx
      simp only [Nat.zero_add] at q1 q2 q3 q4 q5 q6 q7 q8 q9 q10 q11 q12 q13
      clear hb2 al HO HCO c0 c1 c2 c3 c4 c5 c6 c7 c8 c9 c10 c11 c12 c13
      go_wp2_with fail
      rename_i KK hkk
      have HKK := (show Hid _ from hkk)
      clear hkk q0 q1 q2 q3 q4 q5 q6 q7 q8 q9 q10 q11 q12 q13 ql
      obtain ⟨w3, hw3⟩ : ∃ w3, w3 = (w2.alloc (pto X Y 0)).alloc (pto s.ware.wid s.ware.len s.ware.hei) := ⟨_, rfl⟩
      have al2 : Below w2.heap.size w2 w3 := by rw [hw3]; exact ((Below.refl _ _).alloc (Nat.le_refl _) _).alloc (by simp) _
      have HB3 : Hid (Below w.heap.size w w3) := HB2.out.trans (al2.mono HB2.out.size)
      have HO3 : Hid (S.OwnB w3 w.heap.size (.slice ao1 k cap1) ((l.map boxOf).take k)) := S.OwnB.later HO2.out al2
      have TA : Hid (T3 w2.heap.size X Y 0 w3) := by show T3 _ _ _ _ _; rw [hw3]; exact (T3.new w2 X Y 0 24 _ rfl).later ((Below.refl _ _).alloc (Nat.le_refl _) _)
      have TB : Hid (T3 (w2.heap.size + 1) s.ware.wid s.ware.len s.ware.hei w3) := by show T3 _ _ _ _ _; rw [hw3]; exact T3.new (w2.alloc (pto X Y 0)) _ _ _ 24 _ (by simp)
      rw [← hw3]
      clear hw3 al2 HO2
      try rw [show decide ((k : Int) < (l.length : Int)) = true by simp; omega]
      refine region_seq 7 [false, false, false, false, false, false, false, false, false, false, false, false, false, false, false, false, false, false, false, false, false, false, false, false, false, false, false, false, false, false, false, false, false, false, true, true, true, true, true, true, true, false, false, false]
        [(34, [], none), (35, [], none), (36, [], none), (37, [], none), (38, [36, 37], none), (39, [35, 38], none), (40, [39], none)]
        (bxV X Y s.ware.wid s.ware.len s.ware.hei X' Y' Z' (.slice ao1 k cap1)) (by kernel_rfl) (by kernel_rfl) (by kernel_rfl) (by kernel_rfl) (by kernel_rfl) (by decide) (bxV_mono X Y s.ware.wid s.ware.len s.ware.hei X' Y' Z' (.slice ao1 k cap1)) ?_ ?_
      · refine ⟨?_, ?_, ?_, ?_, ?_, ?_, ?_, trivial⟩
        · intro f wz hb _ K hK
          simp only [over, overL, Nat.reduceAdd]
          go_simp
          exact hK _ _ ⟨_, rfl, by simp only [over, overL, Nat.reduceAdd]; rfl, Below.refl _ _⟩
        · intro f wz hb _ K hK
          obtain ⟨_, t0, t1, t2, _, _, _⟩ := TA.out.later hb
          simp only [over, overL, Nat.reduceAdd]
          go_simp
          exact hK _ _ ⟨_, rfl, by simp only [over, overL, Nat.reduceAdd]; rfl, Below.refl _ _⟩
        · intro f wz hb _ K hK
          obtain ⟨_, t0, t1, t2, _, _, _⟩ := TA.out.later hb
          simp only [over, overL, Nat.reduceAdd]
          go_simp
          exact hK _ _ ⟨_, rfl, by simp only [over, overL, Nat.reduceAdd]; rfl, Below.refl _ _⟩
        · intro f wz hb _ K hK
          obtain ⟨_, t0, t1, t2, _, _, _⟩ := TB.out.later hb
          simp only [over, overL, Nat.reduceAdd]
          go_simp
          exact hK _ _ ⟨_, rfl, by simp only [over, overL, Nat.reduceAdd]; rfl, Below.refl _ _⟩
        · intro f wz hb ⟨h36, h37, _⟩ K hK
          have h36 : f 36 = _ := h36
          have h37 : f 37 = _ := h37
          simp only [over, overL, Nat.reduceAdd, h36, h37]
          go_simp
          refine Calls.mono (HAD.out _) ?_
          rintro e w9 ⟨rfl, hb9⟩
          exact hK _ _ ⟨_, rfl, by simp only [over, overL, Nat.reduceAdd, h36, h37]; rfl, hb9⟩
        · intro f wz hb ⟨h35, h38, _⟩ K hK
          have h35 : f 35 = _ := h35
          have h38 : f 38 = _ := h38
          simp only [over, overL, Nat.reduceAdd, h35, h38]
          go_simp
          exact hK _ _ ⟨_, rfl, by simp only [over, overL, Nat.reduceAdd, h35, h38]; rfl, Below.refl _ _⟩
        · intro f wz hb ⟨h39, _⟩ K hK
          have h39 : f 39 = _ := h39
          simp only [over, overL, Nat.reduceAdd, h39]
          go_simp
          exact hK _ _ ⟨_, ⟨wz.heap.size, rfl, S.Bxs.one wz ⟨X, Y, 0, X', Y', Z'⟩⟩, by simp only [over, overL, Nat.reduceAdd, h39]; rfl, (Below.refl _ _).alloc (Nat.le_refl _) _⟩
      intro f w4 hb4 hv
      have h34 : f 34 = .slice ao1 k cap1 := hv.1
      obtain ⟨nb, h40, hq⟩ := (show IsBx ⟨X, Y, 0, X', Y', Z'⟩ (f 40) w4 from hv.2.2.2.2.2.2.1)
      have HB4 : Hid (Below w.heap.size w w4) := HB3.out.trans (hb4.mono HB3.out.size)
      have HO4 : Hid (S.OwnB w4 w.heap.size (.slice ao1 k cap1) ((l.map boxOf).take k)) := S.OwnB.later HO3.out hb4
      have HQ : Hid (S.Bxs w4 (some ⟨nb, 0, none⟩) [⟨X, Y, 0, X', Y', Z'⟩]) := hq
      clear hb4 hv HAD TA TB HO3 hq
      simp only [over, overL, h34, h40, Nat.reduceAdd, List.drop_succ_cons, List.drop_zero]
      clear h34 h40
      refine wpList_append_box w4 rfl (.tmp 34) (.tmp 40) rfl w.heap.size (.slice ao1 k cap1) ((l.map boxOf).take k) rfl HO4.out ⟨X, Y, 0, X', Y', Z'⟩ ⟨nb, 0, none⟩ rfl HQ.out (by rw [HTK.out]; omega) HB4.out.size ?_
      intro v' w5 hown1 hg
      have HB5 : Hid (Below w.heap.size w w5) := below_owns HB4.out HO4.out hg HB4.out.size
      have HO5 : Hid (S.OwnB w5 w.heap.size v' ((l.map boxOf).take (k + 1))) := by show S.OwnB _ _ _ _; rw [HTS.out, HBX.out]; exact hown1
      clear hown1 hg
      simp only [Act.put, List.setIfInBounds_toArray, List.set_cons_succ, List.set_cons_zero]
      go_wp2_with fail
      refine HKK.out _ _ ?_
      go_wp2
      go_roundw
      case rel => exact ⟨k + 1, by omega, by go_num, HO5.out, HB5.out⟩
      case measure => simp [intOf]; omega
    · have HE : Hid ((l.map boxOf).take k = l.map boxOf) := by show _ = _; exact List.take_of_length_le (by simp; omega)
      go_wp2
      refine bodyPost_ret (v := .tuple #[.slice ao1 k cap1, .int .i64 0]) (by simp [results, Try.results22, go_sem]) rfl ⟨_, rfl, ?_, HB.out⟩
      have := HO.out
      rwa [HE.out] at this


end Go.Proofs.Ytgelbndbkmedlaa
