/- Seats, plainly and in memory. -/
import Derived.Test.YtjappkfhballhaaGreatRoom
import Derived.Shelf.Abstract
import Derived.Laws.StructEq
namespace Go.Proofs.YtjappkfhballhaaGreat
open Go.RowKit


/-- A seat. -/
structure Sit where
  slot : Int
  ware : Wr
  name : ByteArray
abbrev scs (s : Sit) : Array Value := #[.int .i64 s.slot, .string s.ware.name, .int .i64 s.ware.kind, .int .i64 s.ware.rows, .int .i64 s.ware.cols, .int .i64 s.ware.x, .int .i64 s.ware.y, .int .i64 s.ware.pitch, .int .i64 s.ware.wid, .int .i64 s.ware.len, .int .i64 s.ware.hei, .int .i64 s.ware.deep, .int .i64 s.ware.cap, .string s.name]
abbrev sv (s : Sit) : Value := .agg (scs s)
abbrev sobj (s : Sit) : Obj := .cells (scs s) 63
/-- A seat at a place of memory. -/
structure StAt (w : World) (b o : Nat) (s : Sit) : Prop where
  lt : b < w.heap.size
  c0 : w.cell? ⟨b, o, none⟩ = some (.int .i64 s.slot)
  c1 : w.cell? ⟨b, o + 1, none⟩ = some (.string s.ware.name)
  c2 : w.cell? ⟨b, o + 2, none⟩ = some (.int .i64 s.ware.kind)
  c3 : w.cell? ⟨b, o + 3, none⟩ = some (.int .i64 s.ware.rows)
  c4 : w.cell? ⟨b, o + 4, none⟩ = some (.int .i64 s.ware.cols)
  c5 : w.cell? ⟨b, o + 5, none⟩ = some (.int .i64 s.ware.x)
  c6 : w.cell? ⟨b, o + 6, none⟩ = some (.int .i64 s.ware.y)
  c7 : w.cell? ⟨b, o + 7, none⟩ = some (.int .i64 s.ware.pitch)
  c8 : w.cell? ⟨b, o + 8, none⟩ = some (.int .i64 s.ware.wid)
  c9 : w.cell? ⟨b, o + 9, none⟩ = some (.int .i64 s.ware.len)
  c10 : w.cell? ⟨b, o + 10, none⟩ = some (.int .i64 s.ware.hei)
  c11 : w.cell? ⟨b, o + 11, none⟩ = some (.int .i64 s.ware.deep)
  c12 : w.cell? ⟨b, o + 12, none⟩ = some (.int .i64 s.ware.cap)
  c13 : w.cell? ⟨b, o + 13, none⟩ = some (.string s.name)
theorem StAt.next {w w1 : World} {b o : Nat} {s : Sit} (h : StAt w b o s) (hb : Below w.heap.size w w1) : StAt w1 b o s :=
  ⟨Nat.lt_of_lt_of_le h.lt hb.size, cell_later hb h.c0, cell_later hb h.c1, cell_later hb h.c2, cell_later hb h.c3, cell_later hb h.c4, cell_later hb h.c5, cell_later hb h.c6, cell_later hb h.c7, cell_later hb h.c8, cell_later hb h.c9, cell_later hb h.c10, cell_later hb h.c11, cell_later hb h.c12, cell_later hb h.c13⟩
/-- A seat in a block of its own, not frozen. -/
structure Sf (b : Nat) (s : Sit) (w : World) : Prop where
  bx : StAt w b 0 s
  f0 : w.frozen? ⟨b, 0, none⟩ = false
  f1 : w.frozen? ⟨b, 1, none⟩ = false
  f2 : w.frozen? ⟨b, 2, none⟩ = false
  f3 : w.frozen? ⟨b, 3, none⟩ = false
  f4 : w.frozen? ⟨b, 4, none⟩ = false
  f5 : w.frozen? ⟨b, 5, none⟩ = false
  f6 : w.frozen? ⟨b, 6, none⟩ = false
  f7 : w.frozen? ⟨b, 7, none⟩ = false
  f8 : w.frozen? ⟨b, 8, none⟩ = false
  f9 : w.frozen? ⟨b, 9, none⟩ = false
  f10 : w.frozen? ⟨b, 10, none⟩ = false
  f11 : w.frozen? ⟨b, 11, none⟩ = false
  f12 : w.frozen? ⟨b, 12, none⟩ = false
  f13 : w.frozen? ⟨b, 13, none⟩ = false
theorem Sf.later {b : Nat} {s : Sit} {w w1 : World} (h : Sf b s w) (hb : Below w.heap.size w w1) : Sf b s w1 :=
  ⟨h.bx.next hb, (hb.frozen (p := ⟨b, 0, none⟩) h.bx.lt).trans h.f0, (hb.frozen (p := ⟨b, 1, none⟩) h.bx.lt).trans h.f1, (hb.frozen (p := ⟨b, 2, none⟩) h.bx.lt).trans h.f2, (hb.frozen (p := ⟨b, 3, none⟩) h.bx.lt).trans h.f3, (hb.frozen (p := ⟨b, 4, none⟩) h.bx.lt).trans h.f4, (hb.frozen (p := ⟨b, 5, none⟩) h.bx.lt).trans h.f5, (hb.frozen (p := ⟨b, 6, none⟩) h.bx.lt).trans h.f6, (hb.frozen (p := ⟨b, 7, none⟩) h.bx.lt).trans h.f7, (hb.frozen (p := ⟨b, 8, none⟩) h.bx.lt).trans h.f8, (hb.frozen (p := ⟨b, 9, none⟩) h.bx.lt).trans h.f9, (hb.frozen (p := ⟨b, 10, none⟩) h.bx.lt).trans h.f10, (hb.frozen (p := ⟨b, 11, none⟩) h.bx.lt).trans h.f11, (hb.frozen (p := ⟨b, 12, none⟩) h.bx.lt).trans h.f12, (hb.frozen (p := ⟨b, 13, none⟩) h.bx.lt).trans h.f13⟩
theorem Sf.new (w : World) (s : Sit) : Sf w.heap.size s (w.alloc (sobj s)) :=
  ⟨⟨by simp, by go_simp, by go_simp, by go_simp, by go_simp, by go_simp, by go_simp, by go_simp, by go_simp, by go_simp, by go_simp, by go_simp, by go_simp, by go_simp, by go_simp⟩, by go_simp, by go_simp, by go_simp, by go_simp, by go_simp, by go_simp, by go_simp, by go_simp, by go_simp, by go_simp, by go_simp, by go_simp, by go_simp, by go_simp⟩
/-- Seats, one behind the other. -/
def Sts (w : World) (ao : Option Addr) (l : List Sit) : Prop :=
  l = [] ∨ ∃ b off, ao = some ⟨b, off, none⟩ ∧ ∀ k (hk : k < l.length), StAt w b (off + k * 14) (l[k]'hk)
theorem Sts.next {w w1 : World} {ao : Option Addr} {l : List Sit} (h : Sts w ao l) (hb : Below w.heap.size w w1) : Sts w1 ao l :=
  h.elim .inl fun ⟨b, off, e, h⟩ => .inr ⟨b, off, e, fun k hk => (h k hk).next hb⟩
theorem Sts.at {w : World} {ao : Option Addr} {l : List Sit} (h : Sts w ao l) {k : Nat} (hk : k < l.length) : ∃ b off, ao = some ⟨b, off, none⟩ ∧ StAt w b (off + k * 14) (l[k]'hk) := by
  rcases h with rfl | ⟨b, off, e, h⟩
  · simp at hk
  · exact ⟨b, off, e, h k hk⟩
theorem Sts.nil (w : World) (ao : Option Addr) : Sts w ao [] := .inl rfl
theorem Sts.take {w : World} {ao : Option Addr} {l : List Sit} (h : Sts w ao l) (k : Nat) : Sts w ao (l.take k) := by
  rcases h with rfl | ⟨b, off, e, h⟩
  · exact .inl (by simp)
  · refine .inr ⟨b, off, e, fun j hj => ?_⟩
    rw [List.length_take] at hj
    rw [List.getElem_take]
    exact h j (by omega)
theorem Sts.drop {w : World} {b off : Nat} {l : List Sit} (h : Sts w (some ⟨b, off, none⟩) l) (k : Nat) : Sts w (some ⟨b, off + k * 14, none⟩) (l.drop k) := by
  rcases h with rfl | ⟨b', off', e, h⟩
  · exact .inl (by simp)
  · simp only [Option.some.injEq, Addr.mk.injEq, and_true] at e
    obtain ⟨rfl, rfl⟩ := e
    refine .inr ⟨b, off + k * 14, rfl, fun j hj => ?_⟩
    rw [List.length_drop] at hj
    have := h (k + j) (by omega)
    rw [List.getElem_drop]
    rw [show off + k * 14 + j * 14 = off + (k + j) * 14 by omega]
    exact this
/-- No text of a seat is too long for the model. -/
def SOk (s : Sit) : Prop := s.ware.name.size ≤ maxLen ∧ s.name.size ≤ maxLen

/-- The number of the first seat that is so; -1: none is. -/
def idxS (f : Sit → Bool) (l : List Sit) : Int := match l.findIdx? f with
  | some k => (k : Int)
  | none => -1
theorem take_succ_allS {l : List Sit} {k : Nat} {p : Sit → Prop} (h : k < l.length) (ha : ∀ b ∈ l.take k, p b) (hb : p (l[k]'h)) : ∀ b ∈ l.take (k + 1), p b := by
  rw [List.take_succ_eq_append_getElem h]
  intro f hf
  rcases List.mem_append.1 hf with hf | hf
  · exact ha f hf
  · simp at hf; subst hf; exact hb
theorem idxS_hit {f : Sit → Bool} {l : List Sit} {k : Nat} (h : k < l.length) (ha : ∀ b ∈ l.take k, f b = false) (hb : f (l[k]'h) = true) : idxS f l = k := by
  unfold idxS
  rw [show l.findIdx? f = some k from ?_]
  rw [List.findIdx?_eq_some_iff_getElem]
  refine ⟨h, hb, fun j hj => ?_⟩
  have := ha (l[j]'(by omega)) (by rw [List.mem_take_iff_getElem]; exact ⟨j, by omega, rfl⟩)
  simp [this]
theorem idxS_miss {f : Sit → Bool} {l : List Sit} (ha : ∀ b ∈ l, f b = false) : idxS f l = -1 := by
  unfold idxS
  rw [show l.findIdx? f = none from ?_]
  rw [List.findIdx?_eq_none_iff]
  exact ha
theorem idxS_cases (f : Sit → Bool) (l : List Sit) : (idxS f l = -1 ∧ ∀ b ∈ l, f b = false) ∨ ∃ k, ∃ h : k < l.length, idxS f l = (k : Int) ∧ f (l[k]'h) = true ∧ ∀ j (hj : j < k), f (l[j]'(by omega)) = false := by
  unfold idxS
  cases e : l.findIdx? f with
  | none => exact .inl ⟨rfl, List.findIdx?_eq_none_iff.1 e⟩
  | some k =>
    obtain ⟨h, hb, ha⟩ := List.findIdx?_eq_some_iff_getElem.1 e
    exact .inr ⟨k, h, rfl, hb, fun j hj => by simpa using ha j hj⟩
theorem idxS_any (f : Sit → Bool) (l : List Sit) : decide (0 ≤ idxS f l) = l.any f := by
  rcases idxS_cases f l with ⟨h, ha⟩ | ⟨k, hk, h, hb, _⟩
  · rw [h, show l.any f = false by rw [List.any_eq_false]; intro b hb; simp [ha b hb]]; rfl
  · rw [h, show l.any f = true by rw [List.any_eq_true]; exact ⟨_, List.getElem_mem hk, hb⟩]; simp

/-- What is asked of a test over seats, from a world on. -/
def TestsS (g : Nat) (caps : Array Value) (f : Sit → Bool) (w : World) : Prop :=
  ∀ (a : Sit) (W : World), Below w.heap.size w W → Calls Tryz.prog g (#[sv a] ++ caps) W fun e w' => e = .returned (.bool (f a)) ∧ Below W.heap.size W w'

set_option maxHeartbeats 3200000 in
theorem indexFuncS_any (g : Nat) (caps : Array Value) (f : Sit → Bool) (ao : Option Addr) (cap : Nat) (l : List Sit) (w : World) (eg : ∀ args w, (callFunc g args).run Tryz.prog w = .ok (.enter g args) w)
    (hT : TestsS g caps f w) (hL : Sts w ao l) (hl : l.length ≤ 9223372036854775807) :
    Calls Tryz.prog 90 #[.slice ao l.length cap, .func (.func g) #[] caps] w fun e w' => e = .returned (.int .i64 (idxS f l)) ∧ Below w.heap.size w w' := by
  have HT : Hid (TestsS g caps f w) := hT
  have HL : Hid (Sts w ao l) := hL
  clear hT hL
  go_enter Tryz.func90, Tryz.ntmps90
  go_wp2
  go_loopw [5, 8] (fun _ i wr => ∃ k : Nat, k ≤ l.length ∧ i = .int .i64 k ∧ (∀ b ∈ l.take k, f b = false) ∧ Below w.heap.size w wr) (fun _ i _ => l.length - (intOf i).toNat)
  case atStart => exact ⟨0, Nat.zero_le _, rfl, (fun f hf => by simp at hf), Below.refl _ _⟩
  case round =>
    obtain ⟨k, hk, rfl, hok, hb⟩ := hrel
    have HB : Hid (Below w.heap.size w wr) := hb
    have HO : Hid (∀ b ∈ l.take k, f b = false) := hok
    clear hb hok
    by_cases hlt : k < l.length
    · obtain ⟨b, off, rfl, hbx⟩ := (HL.out.next HB.out).at hlt
      have HHit : Hid (f (l[k]'hlt) = true → idxS f l = k) := idxS_hit hlt HO.out
      have HMiss : Hid (f (l[k]'hlt) = false → ∀ b ∈ l.take (k + 1), f b = false) := take_succ_allS hlt HO.out
      generalize l[k]'hlt = a at *
      obtain ⟨_, c0, c1, c2, c3, c4, c5, c6, c7, c8, c9, c10, c11, c12, c13⟩ := hbx
      have hcall := HT.out a wr HB.out
      cases hq : f a with
      | true =>
        rw [hq] at hcall
        go_wp2_with (go_at_fn g; refine hcall.mono ?_; rintro e w' ⟨rfl, hb'⟩)
        go_ret
        exact ⟨ret_int (HHit.out hq).symm, HB.out.trans (hb'.mono HB.out.size)⟩
      | false =>
        rw [hq] at hcall
        go_wp2_with (go_at_fn g; refine hcall.mono ?_; rintro e w' ⟨rfl, hb'⟩)
        go_roundw
        case rel => exact ⟨k + 1, by omega, by go_num, HMiss.out hq, HB.out.trans (hb'.mono HB.out.size)⟩
        case measure => simp [intOf]; omega
    · go_wp2
      go_ret
      exact ⟨ret_int (idxS_miss fun b hb => HO.out b (by rw [List.take_of_length_le (by omega)]; exact hb)).symm, HB.out⟩

set_option maxHeartbeats 1600000 in
theorem containsFuncS_any (g : Nat) (caps : Array Value) (f : Sit → Bool) (ao : Option Addr) (cap : Nat) (l : List Sit) (w : World) (eg : ∀ args w, (callFunc g args).run Tryz.prog w = .ok (.enter g args) w)
    (hT : TestsS g caps f w) (hL : Sts w ao l) (hl : l.length ≤ 9223372036854775807) :
    Calls Tryz.prog 88 #[.slice ao l.length cap, .func (.func g) #[] caps] w fun e w' => e = .returned (.bool (l.any f)) ∧ Below w.heap.size w w' := by
  have hcall := indexFuncS_any g caps f ao cap l w eg hT hL hl
  have HA : Hid (decide (0 ≤ idxS f l) = l.any f) := idxS_any f l
  clear hT hL
  generalize idxS f l = i at *
  go_enter Tryz.func88, Tryz.ntmps88
  go_wp2_with (go_at_call 90; refine hcall.mono ?_; rintro e w' ⟨rfl, hb'⟩)
  go_ret
  exact ⟨ret_bool HA.out, hb'⟩

theorem en91 : ∀ args w, (callFunc 91 args).run Tryz.prog w = .ok (.enter 91 args) w := enters_of Tryz.func91 (by kernel_rfl) rfl
theorem en112 : ∀ args w, (callFunc 112 args).run Tryz.prog w = .ok (.enter 112 args) w := enters_of Tryz.func112 (by kernel_rfl) rfl
abbrev ptr (b : Nat) : Value := .pointer (some ⟨b, 0, none⟩)
theorem standingIn_any (n : Int) (w : World) :
    Calls Tryz.prog 65 #[.int .i64 n] w fun e w' => e = .returned (.func (.func 91) #[] #[ptr w.heap.size]) ∧ w' = w.alloc (.cells #[.int .i64 n] 3) := by
  go_enter Tryz.func65, Tryz.ntmps65
  go_wp2
  go_ret
  exact ⟨rfl, rfl⟩
theorem named_any (n : ByteArray) (w : World) :
    Calls Tryz.prog 89 #[.string n] w fun e w' => e = .returned (.func (.func 112) #[] #[ptr w.heap.size]) ∧ w' = w.alloc (.cells #[.string n] 9) := by
  go_enter Tryz.func89, Tryz.ntmps89
  go_wp2
  go_ret
  exact ⟨rfl, rfl⟩
set_option maxHeartbeats 1600000 in
theorem standing_test (a : Sit) (n : Int) (B : Nat) (w : World) (hB : B < w.heap.size) (hc : w.cell? ⟨B, 0, none⟩ = some (.int .i64 n)) :
    Calls Tryz.prog 91 #[sv a, ptr B] w fun e w' => e = .returned (.bool (a.slot == n)) ∧ Below w.heap.size w w' := by
  have hne : B ≠ w.heap.size := by omega
  go_enter Tryz.func91, Tryz.ntmps91
  go_wp2
  go_ret
  exact ⟨rfl, (Below.refl _ _).alloc (Nat.le_refl _) _⟩
set_option maxHeartbeats 1600000 in
theorem named_test (a : Sit) (n : ByteArray) (B : Nat) (w : World) (hB : B < w.heap.size) (hc : w.cell? ⟨B, 0, none⟩ = some (.string n)) :
    Calls Tryz.prog 112 #[sv a, ptr B] w fun e w' => e = .returned (.bool (a.name == n)) ∧ Below w.heap.size w w' := by
  have hne : B ≠ w.heap.size := by omega
  go_enter Tryz.func112, Tryz.ntmps112
  go_wp2
  go_ret
  exact ⟨ret_bool (beq_toListBytes a.name n).symm, (Below.refl _ _).alloc (Nat.le_refl _) _⟩


end Go.Proofs.YtjappkfhballhaaGreat
