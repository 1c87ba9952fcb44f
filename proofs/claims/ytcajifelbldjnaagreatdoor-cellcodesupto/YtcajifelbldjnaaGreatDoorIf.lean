import Derived.Test.YtcajifelbldjnaaGreatDoorIe
import Derived.Shelf.Abstract
import Derived.Laws.StructEq
import Derived.Test.YtcajifelbldjnaaGreatDoorIc
import Derived.Maps.AppendAt
import Derived.Test.YtcajifelbldjnaaGreatDoorIa
set_option maxRecDepth 100000
set_option maxHeartbeats 25600000
set_option linter.unusedVariables false
namespace Go.Proofs.YtcajifelbldjnaaGreatDoor
open Go.RowKit
structure Sit where
 slot : Int
 ware : Wr
 name : ByteArray
abbrev scs (s : Sit) : Array Value := #[.int .i64 s.slot, .string s.ware.name, .int .i64 s.ware.kind, .int .i64 s.ware.rows, .int .i64 s.ware.cols, .int .i64 s.ware.x, .int .i64 s.ware.y, .int .i64 s.ware.pitch, .int .i64 s.ware.wid, .int .i64 s.ware.len, .int .i64 s.ware.hei, .int .i64 s.ware.deep, .int .i64 s.ware.cap, .string s.name]
abbrev sv (s : Sit) : Value := .agg (scs s)
abbrev sobj (s : Sit) : Obj := .cells (scs s) 86
structure StAt (w : World) (b o : Nat) (s : Sit) : Prop where
 lt : b < w.heap.size
 c0 : w.cell? ⟨b, o, none⟩ = some (.int .i64 s.slot)
 c1 : w.cell? ⟨b, o + 1, none⟩ = some (.string s.ware.name)
 c2 : w.cell? ⟨b, o + 2, none⟩ = some (.int .i64 s.ware.kind)
 c3 : w.cell? ⟨b, o + 3, none⟩ = some (.int .i64 s.ware.rows)
 c4 : w.cell? ⟨b, o + 4, none⟩ = some (.int .i64 s.ware.cols)
 c5 : w.cell? ⟨b, o + 5, none⟩ = some (.int .i64 s.ware.x)
 c6 : w.cell? ⟨b, o + 6, none⟩ = some (.int .i64 s.ware.y)
 c7 : w.cell? ⟨b, o + 7, none⟩ = some (.int .i64 s.ware.pitch)
 c8 : w.cell? ⟨b, o + 8, none⟩ = some (.int .i64 s.ware.wid)
 c9 : w.cell? ⟨b, o + 9, none⟩ = some (.int .i64 s.ware.len)
 c10 : w.cell? ⟨b, o + 10, none⟩ = some (.int .i64 s.ware.hei)
 c11 : w.cell? ⟨b, o + 11, none⟩ = some (.int .i64 s.ware.deep)
 c12 : w.cell? ⟨b, o + 12, none⟩ = some (.int .i64 s.ware.cap)
 c13 : w.cell? ⟨b, o + 13, none⟩ = some (.string s.name)
theorem StAt.next {w w1 : World} {b o : Nat} {s : Sit} (h : StAt w b o s) (hb : bw w w1) : StAt w1 b o s :=
 ⟨Nat.lt_of_lt_of_le h.lt hb.size, cell_later hb h.c0, cell_later hb h.c1, cell_later hb h.c2, cell_later hb h.c3, cell_later hb h.c4, cell_later hb h.c5, cell_later hb h.c6, cell_later hb h.c7, cell_later hb h.c8, cell_later hb h.c9, cell_later hb h.c10, cell_later hb h.c11, cell_later hb h.c12, cell_later hb h.c13⟩
structure Sf (b : Nat) (s : Sit) (w : World) : Prop where
 bx : StAt w b 0 s
 f0 : w.frozen? ⟨b, 0, none⟩ = false
 f1 : w.frozen? ⟨b, 1, none⟩ = false
 f2 : w.frozen? ⟨b, 2, none⟩ = false
 f3 : w.frozen? ⟨b, 3, none⟩ = false
 f4 : w.frozen? ⟨b, 4, none⟩ = false
 f5 : w.frozen? ⟨b, 5, none⟩ = false
 f6 : w.frozen? ⟨b, 6, none⟩ = false
 f7 : w.frozen? ⟨b, 7, none⟩ = false
 f8 : w.frozen? ⟨b, 8, none⟩ = false
 f9 : w.frozen? ⟨b, 9, none⟩ = false
 f10 : w.frozen? ⟨b, 10, none⟩ = false
 f11 : w.frozen? ⟨b, 11, none⟩ = false
 f12 : w.frozen? ⟨b, 12, none⟩ = false
 f13 : w.frozen? ⟨b, 13, none⟩ = false
theorem Sf.later {b : Nat} {s : Sit} {w w1 : World} (h : Sf b s w) (hb : bw w w1) : Sf b s w1 :=
 ⟨h.bx.next hb, (hb.frozen (p := ⟨b, 0, none⟩) h.bx.lt).trans h.f0, (hb.frozen (p := ⟨b, 1, none⟩) h.bx.lt).trans h.f1, (hb.frozen (p := ⟨b, 2, none⟩) h.bx.lt).trans h.f2, (hb.frozen (p := ⟨b, 3, none⟩) h.bx.lt).trans h.f3, (hb.frozen (p := ⟨b, 4, none⟩) h.bx.lt).trans h.f4, (hb.frozen (p := ⟨b, 5, none⟩) h.bx.lt).trans h.f5, (hb.frozen (p := ⟨b, 6, none⟩) h.bx.lt).trans h.f6, (hb.frozen (p := ⟨b, 7, none⟩) h.bx.lt).trans h.f7, (hb.frozen (p := ⟨b, 8, none⟩) h.bx.lt).trans h.f8, (hb.frozen (p := ⟨b, 9, none⟩) h.bx.lt).trans h.f9, (hb.frozen (p := ⟨b, 10, none⟩) h.bx.lt).trans h.f10, (hb.frozen (p := ⟨b, 11, none⟩) h.bx.lt).trans h.f11, (hb.frozen (p := ⟨b, 12, none⟩) h.bx.lt).trans h.f12, (hb.frozen (p := ⟨b, 13, none⟩) h.bx.lt).trans h.f13⟩
theorem Sf.new (w : World) (s : Sit) : Sf w.heap.size s (w.alloc (sobj s)) :=
 ⟨⟨by simp, by go_simp, by go_simp, by go_simp, by go_simp, by go_simp, by go_simp, by go_simp, by go_simp, by go_simp, by go_simp, by go_simp, by go_simp, by go_simp, by go_simp⟩, by go_simp, by go_simp, by go_simp, by go_simp, by go_simp, by go_simp, by go_simp, by go_simp, by go_simp, by go_simp, by go_simp, by go_simp, by go_simp, by go_simp⟩
def Sts (w : World) (ao : Option Addr) (l : List Sit) : Prop :=
 l = [] ∨ ∃ b off, ao = some ⟨b, off, none⟩ ∧ ∀ k (hk : k < l.length), StAt w b (off + k * 14) (l[k]'hk)
theorem Sts.next {w w1 : World} {ao : Option Addr} {l : List Sit} (h : Sts w ao l) (hb : bw w w1) : Sts w1 ao l :=
 h.elim .inl fun ⟨b, off, e, h⟩ => .inr ⟨b, off, e, fun k hk => (h k hk).next hb⟩
theorem Sts.at {w : World} {ao : Option Addr} {l : List Sit} (h : Sts w ao l) {k : Nat} (hk : k < l.length) : ∃ b off, ao = some ⟨b, off, none⟩ ∧ StAt w b (off + k * 14) (l[k]'hk) := by
 rcases h with rfl | ⟨b, off, e, h⟩
 ·simp at hk
 ·exact ⟨b, off, e, h k hk⟩
theorem Sts.nil (w : World) (ao : Option Addr) : Sts w ao [] := .inl rfl
theorem Sts.take {w : World} {ao : Option Addr} {l : List Sit} (h : Sts w ao l) (k : Nat) : Sts w ao (l.take k) := by
 rcases h with rfl | ⟨b, off, e, h⟩
 ·exact .inl (by simp)
 ·refine .inr ⟨b, off, e, fun j hj => ?_⟩
  rw [List.length_take] at hj;rw [List.getElem_take];exact h j (by omega)
def SOk (s : Sit) : Prop := s.ware.name.size ≤ maxLen ∧ s.name.size ≤ maxLen
def idxS (f : Sit → Bool) (l : List Sit) : Int := match l.findIdx? f with
 | some k => (k : Int)
 | none => -1
theorem take_succ_allS {l : List Sit} {k : Nat} {p : Sit → Prop} (h : k < l.length) (ha : ∀ b ∈ l.take k, p b) (hb : p (l[k]'h)) : ∀ b ∈ l.take (k + 1), p b := by
 rw [List.take_succ_eq_append_getElem h];intro f hf
 rcases List.mem_append.1 hf with hf | hf
 ·exact ha f hf
 ·simp at hf; subst hf; exact hb
theorem idxS_hit {f : Sit → Bool} {l : List Sit} {k : Nat} (h : k < l.length) (ha : ∀ b ∈ l.take k, f b = false) (hb : f (l[k]'h) = true) : idxS f l = k := by
 unfold idxS;rw [show l.findIdx? f = some k from ?_];rw [List.findIdx?_eq_some_iff_getElem];refine ⟨h, hb, fun j hj => ?_⟩;have := ha (l[j]'(by omega)) (by rw [List.mem_take_iff_getElem]; exact ⟨j, by omega, rfl⟩);simp [this]
theorem idxS_miss {f : Sit → Bool} {l : List Sit} (ha : ∀ b ∈ l, f b = false) : idxS f l = -1 := by
 unfold idxS;rw [show l.findIdx? f = none from ?_];rw [List.findIdx?_eq_none_iff];exact ha
theorem idxS_cases (f : Sit → Bool) (l : List Sit) : (idxS f l = -1 ∧ ∀ b ∈ l, f b = false) ∨ ∃ k, ∃ h : k < l.length, idxS f l = (k : Int) ∧ f (l[k]'h) = true ∧ ∀ j (hj : j < k), f (l[j]'(by omega)) = false := by
 unfold idxS
 cases e : l.findIdx? f with
 | none => exact .inl ⟨rfl, List.findIdx?_eq_none_iff.1 e⟩
 | some k =>
  obtain ⟨h, hb, ha⟩ := List.findIdx?_eq_some_iff_getElem.1 e;exact .inr ⟨k, h, rfl, hb, fun j hj => by simpa using ha j hj⟩
theorem idxS_any (f : Sit → Bool) (l : List Sit) : decide (0 ≤ idxS f l) = l.any f := by
 rcases idxS_cases f l with ⟨h, ha⟩ | ⟨k, hk, h, hb, _⟩
 ·rw [h, show l.any f = false by rw [List.any_eq_false]; intro b hb; simp [ha b hb]]; rfl
 ·rw [h, show l.any f = true by rw [List.any_eq_true]; exact ⟨_, List.getElem_mem hk, hb⟩]; simp
def TestsS (g : Nat) (caps : Array Value) (f : Sit → Bool) (w : World) : Prop :=
 ∀ (a : Sit) (W : World), bw w W → Calls Tryz.prog g (#[sv a] ++ caps) W fun e w' => e = .returned (.bool (f a)) ∧ bw W w'
theorem indexFuncS_any (g : Nat) (caps : Array Value) (f : Sit → Bool) (ao : Option Addr) (cap : Nat) (l : List Sit) (w : World) (eg : ∀ args w, (callFunc g args).run Tryz.prog w = .ok (.enter g args) w)
  (hT : TestsS g caps f w) (hL : Sts w ao l) (hl : l.length ≤ 9223372036854775807) :
  CR 167 #[.slice ao l.length cap, .func (.func g) #[] caps] w (.int .i64 (idxS f l)) := by
 have HT := hdd hT;have HL := hdd hL;clear hT hL
 go_enter Tryz.func167, Tryz.ntmps167
 go_wp2
 go_loopw [5, 8] (fun _ i wr => ∃ k : Nat, k ≤ l.length ∧ i = .int .i64 k ∧ (∀ b ∈ l.take k, f b = false) ∧ bw w wr) (fun _ i _ => l.length - (intOf i).toNat)
 case atStart => exact ⟨0, Nat.zero_le _, rfl, (fun f hf => by simp at hf), brf⟩
 case round =>
  obtain ⟨k, hk, rfl, hok, hb⟩ := hrel;have HB := hdd hb;have HO := hdd hok;clear hb hok
  by_cases hlt : k < l.length
  ·obtain ⟨b, off, rfl, hbx⟩ := (HL.out.next HB.out).at hlt
   have HHit : Hid (f (l[k]'hlt) = true → idxS f l = k) := idxS_hit hlt HO.out;have HMiss : Hid (f (l[k]'hlt) = false → ∀ b ∈ l.take (k + 1), f b = false) := take_succ_allS hlt HO.out;generalize l[k]'hlt = a at *;obtain ⟨_, c0, c1, c2, c3, c4, c5, c6, c7, c8, c9, c10, c11, c12, c13⟩ := hbx;have hcall := HT.out a wr HB.out
   cases hq : f a with
   | true =>
    rw [hq] at hcall
    go_wp2_with (go_at_fn g; refine hcall.mono ?_; rintro e w' ⟨rfl, hb'⟩)
    go_ret;exact ⟨ret_int (HHit.out hq).symm, HB.out.trans (hb'.mono HB.out.size)⟩
   | false =>
    rw [hq] at hcall
    go_wp2_with (go_at_fn g; refine hcall.mono ?_; rintro e w' ⟨rfl, hb'⟩)
    go_roundw
    case rel => exact ⟨k + 1, by omega, by go_num, HMiss.out hq, HB.out.trans (hb'.mono HB.out.size)⟩
    case measure => simp [intOf]; omega
  ·go_wp2
   go_ret;exact ⟨ret_int (idxS_miss fun b hb => HO.out b (by rw [List.take_of_length_le (by omega)]; exact hb)).symm, HB.out⟩
theorem containsFuncS_any (g : Nat) (caps : Array Value) (f : Sit → Bool) (ao : Option Addr) (cap : Nat) (l : List Sit) (w : World) (eg : ∀ args w, (callFunc g args).run Tryz.prog w = .ok (.enter g args) w)
  (hT : TestsS g caps f w) (hL : Sts w ao l) (hl : l.length ≤ 9223372036854775807) :
  CR 126 #[.slice ao l.length cap, .func (.func g) #[] caps] w (.bool (l.any f)) := by
 have hcall := indexFuncS_any g caps f ao cap l w eg hT hL hl;have HA : Hid (decide (0 ≤ idxS f l) = l.any f) := idxS_any f l;clear hT hL;generalize idxS f l = i at *
 go_enter Tryz.func126, Tryz.ntmps126
 go_wp2_with (go_at_call 167; refine hcall.mono ?_; rintro e w' ⟨rfl, hb'⟩)
 go_ret;exact ⟨ret_bool HA.out, hb'⟩
theorem en168 : ∀ args w, (callFunc 168 args).run Tryz.prog w = .ok (.enter 168 args) w := enters_of Tryz.func168 (by kernel_rfl) rfl
theorem en191 : ∀ args w, (callFunc 191 args).run Tryz.prog w = .ok (.enter 191 args) w := enters_of Tryz.func191 (by kernel_rfl) rfl
abbrev ptr (b : Nat) : Value := .pointer (some ⟨b, 0, none⟩)
theorem standingIn_any (n : Int) (w : World) :
  Calls Tryz.prog 106 #[.int .i64 n] w fun e w' => e = .returned (.func (.func 168) #[] #[ptr w.heap.size]) ∧ w' = w.alloc (.cells #[.int .i64 n] 3) := by
 go_enter Tryz.func106, Tryz.ntmps106
 go_wp2;go_ret;exact ⟨rfl, rfl⟩
theorem named_any (n : ByteArray) (w : World) :
  Calls Tryz.prog 127 #[.string n] w fun e w' => e = .returned (.func (.func 191) #[] #[ptr w.heap.size]) ∧ w' = w.alloc (.cells #[.string n] 9) := by
 go_enter Tryz.func127, Tryz.ntmps127
 go_wp2;go_ret;exact ⟨rfl, rfl⟩
theorem standing_test (a : Sit) (n : Int) (B : Nat) (w : World) (hB : B < w.heap.size) (hc : w.cell? ⟨B, 0, none⟩ = some (.int .i64 n)) :
  CR 168 #[sv a, ptr B] w (.bool (a.slot == n)) := by
 have hne : B ≠ w.heap.size := by omega
 go_enter Tryz.func168, Tryz.ntmps168
 go_wp2;go_ret;exact ⟨rfl, (brf).alloc (Nat.le_refl _) _⟩
theorem named_test (a : Sit) (n : ByteArray) (B : Nat) (w : World) (hB : B < w.heap.size) (hc : w.cell? ⟨B, 0, none⟩ = some (.string n)) :
  CR 191 #[sv a, ptr B] w (.bool (a.name == n)) := by
 have hne : B ≠ w.heap.size := by omega
 go_enter Tryz.func191, Tryz.ntmps191
 go_wp2;go_ret;exact ⟨ret_bool (beq_toListBytes a.name n).symm, (brf).alloc (Nat.le_refl _) _⟩
def chk (a : Wr) : Int :=
 if lab a.name = true then (if inR 1 3 a.kind = true then (if inR 1 16 a.rows = true ∧ inR 1 24 a.cols = true then (if rangeOk a = true then (if roomOk a = true then 0 else 8) else 2) else 7) else 6) else 3
def chk3V (a : Wr) (k1 : Bool) (B : Nat) (d : Nat) (v : Value) (w : World) : Prop :=
 match d with
 | 9 => IsClo 1 3 v w
 | 10 => v = .pointer (some ⟨B, 1, none⟩)
 | 11 => v = .int .i64 a.kind
 | 12 => IsInts [a.kind] v w
 | 13 => v = .bool k1
 | 14 | 8 => v = .bool (!k1)
 | _ => True
theorem chk3V_mono (a : Wr) (k1 : Bool) (B : Nat) (d : Nat) (v : Value) (w w' : World) (h : chk3V a k1 B d v w) (hb : bw w w') : chk3V a k1 B d v w' := by
 unfold chk3V at h ⊢
 split <;> simp only [] at h <;> first | exact h | exact h.later hb
def chk5V (a : Wr) (k2 k3 : Bool) (B : Nat) (d : Nat) (v : Value) (w : World) : Prop :=
 match d with
 | 16 => IsClo 1 16 v w
 | 17 => v = .pointer (some ⟨B, 2, none⟩)
 | 18 => v = .int .i64 a.rows
 | 19 => IsInts [a.rows] v w
 | 20 => v = .bool k2
 | 21 | 22 => v = .bool (!k2)
 | 23 => (!k2) = false → IsClo 1 24 v w
 | 24 => (!k2) = false → v = .pointer (some ⟨B, 3, none⟩)
 | 25 => (!k2) = false → v = .int .i64 a.cols
 | 26 => (!k2) = false → IsInts [a.cols] v w
 | 27 => (!k2) = false → v = .bool k3
 | 28 => (!k2) = false → v = .bool (!k3)
 | 29 | 15 => v = .bool (!k2 || !k3)
 | _ => True
theorem chk5V_mono (a : Wr) (k2 k3 : Bool) (B : Nat) (d : Nat) (v : Value) (w w' : World) (h : chk5V a k2 k3 B d v w) (hb : bw w w') : chk5V a k2 k3 B d v w' := by
 unfold chk5V at h ⊢
 split <;> simp only [] at h <;> first | exact h | exact h.later hb | exact fun g => (h g).later hb
theorem check_label (a : Wr) (w : World) (hs : a.name.size ≤ maxLen) (hl : lab a.name = false) :
  CR 65 #[wv a] w (.int .i64 3) := by
 go_enter Tryz.func65, Tryz.ntmps65
 go_wp2_with fail
 refine (isLabel_any a.name _ hs).mono ?_;rintro e w2 ⟨rfl, hb⟩;rw [hl];go_wp2;go_ret;exact ⟨rfl, ((brf).alloc (Nat.le_refl _) _).trans (hb.mono (by simp))⟩
theorem check_rest (a : Wr) (w : World) (hs : a.name.size ≤ maxLen) (hl : lab a.name = true) (k1 k2 k3 : Bool) (hk1 : [a.kind].all (inR 1 3) = k1) (hk2 : [a.rows].all (inR 1 16) = k2) (hk3 : [a.cols].all (inR 1 24) = k3) :
  CR 65 #[wv a] w (.int .i64 (if k1 = true then (if k2 = true ∧ k3 = true then (if rangeOk a = true then (if roomOk a = true then 0 else 8) else 2) else 7) else 6)) := by
 go_enter Tryz.func65, Tryz.ntmps65
 go_wp2_with fail
 refine (isLabel_any a.name _ hs).mono ?_;rintro e w0 ⟨rfl, hb0⟩;rw [hl];have hB0 : bw w w0 := ((brf).alloc (Nat.le_refl _) _).trans (hb0.mono (by simp));have c1 : w0.cell? ⟨w.heap.size, 1, none⟩ = some (.int .i64 a.kind) := cell_later hb0 (by go_simp);have c2 : w0.cell? ⟨w.heap.size, 2, none⟩ = some (.int .i64 a.rows) := cell_later hb0 (by go_simp);have c3 : w0.cell? ⟨w.heap.size, 3, none⟩ = some (.int .i64 a.cols) := cell_later hb0 (by go_simp)
 have call : ∀ k (hk : k < 12), w0.cell? ⟨w.heap.size, k, none⟩ = some ((wcs a)[k]'(by simpa using hk)) := fun k hk => cell_later hb0 (by
  match k, hk with
  | 0, _ => go_simp
  | 1, _ => go_simp
  | 2, _ => go_simp
  | 3, _ => go_simp
  | 4, _ => go_simp
  | 5, _ => go_simp
  | 6, _ => go_simp
  | 7, _ => go_simp
  | 8, _ => go_simp
  | 9, _ => go_simp
  | 10, _ => go_simp
  | 11, _ => go_simp)
 have CALL : Hid (∀ k (hk : k < 12), w0.cell? ⟨w.heap.size, k, none⟩ = some ((wcs a)[k]'(by simpa using hk))) := call;clear call hb0
 go_wp2_with fail
 refine region_inv [zf,zf,zf,zf,zf,zf,zf,zf,zt,zt,zt,zt,zt,zt,zt,zf,zf,zf,zf,zf,zf,zf,zf,zf,zf,zf,zf,zf,zf,zf,zf,zf,zf,zf,zf,zf,zf,zf]
  [(9, [], none), (10, [], none), (11, [10], none), (12, [11], none), (13, [9, 12], none), (14, [13], none), (8, [14], none)]
  (chk3V a k1 w.heap.size) (by kernel_rfl) (by kernel_rfl) (chk3V_mono a k1 w.heap.size) ?_ ?_
 ·refine ⟨?_, ?_, ?_, ?_, ?_, ?_, ?_, trivial⟩
  ·intro f w1 hb _ K hK
   simp only [over, overL];go_simp;refine (within_is _ _ _).mono ?_;rintro e w2 ⟨v, rfl, hv, hb2⟩;exact hK _ _ ⟨_, hv, by simp only [over, overL]; rfl, hb2⟩
  ·intro f w1 hb _ K hK
   simp only [over, overL];go_simp;exact hK _ _ ⟨_, rfl, by simp only [over, overL]; rfl, brf⟩
  ·rintro f w1 hb ⟨(h10 : f 10 = _), _⟩ K hK
   have cl : w1.cell? ⟨w.heap.size, 1, none⟩ = some (.int .i64 a.kind) := cell_later hb (c1);simp only [over, overL, h10];go_simp;exact hK _ _ ⟨_, rfl, by simp only [over, overL, h10]; rfl, brf⟩
  ·rintro f w1 hb ⟨(h11 : f 11 = _), _⟩ K hK
   simp only [over, overL, h11];go_simp;exact hK _ _ ⟨_, new_one _ _ _, by simp only [over, overL, h11]; rfl, (brf).alloc (Nat.le_refl _) _⟩
  ·intro f w1 hb ⟨h9, h12, _⟩ K hK
   simp only [over, overL];go_simp;refine (every_v [a.kind] 1 3 k1 hk1 _ _ _ (by simp) h9 h12).mono ?_;rintro e w2 ⟨rfl, hw⟩;exact hK _ _ ⟨_, rfl, by simp only [over, overL]; rfl, hw ▸ brf⟩
  ·rintro f w1 hb ⟨(h13 : f 13 = _), _⟩ K hK
   simp only [over, overL, h13];go_simp;exact hK _ _ ⟨_, rfl, by simp only [over, overL, h13]; rfl, brf⟩
  ·rintro f w1 hb ⟨(h14 : f 14 = _), _⟩ K hK
   simp only [over, overL, h14];go_simp;exact hK _ _ ⟨_, rfl, by simp only [over, overL, h14]; rfl, brf⟩
 ·intro f w1 hb1 h
  have h8 : f 8 = .bool (!k1) := h.2.2.2.2.2.2.1;simp only [over, overL, h8, Nat.reduceAdd];have hB1 := hb1;have hBw1 : bw w w1 := hB0.trans (hb1.mono hB0.size)
  cases k1 with
  | false =>
   simp only [Bool.not_false];go_wp2;go_ret;exact ⟨rfl, hBw1⟩
  | true =>
   simp only [Bool.not_true]
   go_wp2_with fail
   refine region_inv [zf,zf,zf,zf,zf,zf,zf,zf,zf,zf,zf,zf,zf,zf,zf,zt,zt,zt,zt,zt,zt,zt,zt,zt,zt,zt,zt,zt,zt,zt,zf,zf,zf,zf,zf,zf,zf,zf]
    [(16, [], none), (17, [], none), (18, [17], none), (19, [18], none), (20, [16, 19], none), (21, [20], none), (22, [21], none), (23, [22], some (22, false)), (24, [22], some (22, false)), (25, [22, 24], some (22, false)), (26, [22, 25], some (22, false)), (27, [22, 23, 26], some (22, false)), (28, [22, 27], some (22, false)), (29, [22, 28], none), (15, [29], none)]
    (chk5V a k2 k3 w.heap.size) (by kernel_rfl) (by kernel_rfl) (chk5V_mono a k2 k3 w.heap.size) ?_ ?_
   ·refine ⟨?_, ?_, ?_, ?_, ?_, ?_, ?_, ?_, ?_, ?_, ?_, ?_, ?_, ?_, ?_, trivial⟩
    ·intro f w1 hb _ K hK
     simp only [over, overL];go_simp;refine (within_is _ _ _).mono ?_;rintro e w2 ⟨v, rfl, hv, hb2⟩;exact hK _ _ ⟨_, hv, by simp only [over, overL]; rfl, hb2⟩
    ·intro f w1 hb _ K hK
     simp only [over, overL];go_simp;exact hK _ _ ⟨_, rfl, by simp only [over, overL]; rfl, brf⟩
    ·rintro f w1 hb ⟨(h17 : f 17 = _), _⟩ K hK
     have cl : w1.cell? ⟨w.heap.size, 2, none⟩ = some (.int .i64 a.rows) := cell_later hb (cell_later hB1 c2);simp only [over, overL, h17];go_simp;exact hK _ _ ⟨_, rfl, by simp only [over, overL, h17]; rfl, brf⟩
    ·rintro f w1 hb ⟨(h18 : f 18 = _), _⟩ K hK
     simp only [over, overL, h18];go_simp;exact hK _ _ ⟨_, new_one _ _ _, by simp only [over, overL, h18]; rfl, (brf).alloc (Nat.le_refl _) _⟩
    ·intro f w1 hb ⟨h16, h19, _⟩ K hK
     simp only [over, overL];go_simp;refine (every_v [a.rows] 1 16 k2 hk2 _ _ _ (by simp) h16 h19).mono ?_;rintro e w2 ⟨rfl, hw⟩;exact hK _ _ ⟨_, rfl, by simp only [over, overL]; rfl, hw ▸ brf⟩
    ·rintro f w1 hb ⟨(h20 : f 20 = _), _⟩ K hK
     simp only [over, overL, h20];go_simp;exact hK _ _ ⟨_, rfl, by simp only [over, overL, h20]; rfl, brf⟩
    ·rintro f w1 hb ⟨(h21 : f 21 = _), _⟩ K hK
     simp only [over, overL, h21];go_simp;exact hK _ _ ⟨_, rfl, by simp only [over, overL, h21]; rfl, brf⟩
    ·rintro f w1 hb ⟨(h22 : f 22 = _), _⟩
     refine ⟨fun hg => ?_, fun hg => ?_⟩
     rotate_left
     ·intro hG; exact absurd (h22.trans (by rw [hG])) hg
     have hG := Value.bool.inj (h22.symm.trans hg);intro K hK;simp only [over, overL, h22, hG];go_simp;refine (within_is _ _ _).mono ?_;rintro e w2 ⟨v, rfl, hv, hb2⟩;exact hK _ _ ⟨_, (fun _ => hv), by simp only [over, overL, h22, hG]; rfl, hb2⟩
    ·rintro f w1 hb ⟨(h22 : f 22 = _), _⟩
     refine ⟨fun hg => ?_, fun hg => ?_⟩
     rotate_left
     ·intro hG; exact absurd (h22.trans (by rw [hG])) hg
     have hG := Value.bool.inj (h22.symm.trans hg);intro K hK;simp only [over, overL, h22, hG];go_simp;exact hK _ _ ⟨_, (fun _ => rfl), by simp only [over, overL, h22, hG]; rfl, brf⟩
    ·rintro f w1 hb ⟨(h22 : f 22 = _), h24, _⟩
     refine ⟨fun hg => ?_, fun hg => ?_⟩
     rotate_left
     ·intro hG; exact absurd (h22.trans (by rw [hG])) hg
     have hG := Value.bool.inj (h22.symm.trans hg);intro K hK;have h24 : f 24 = _ := h24 hG;have cl : w1.cell? ⟨w.heap.size, 3, none⟩ = some (.int .i64 a.cols) := cell_later hb (cell_later hB1 c3);simp only [over, overL, h22, h24, hG];go_simp;exact hK _ _ ⟨_, (fun _ => rfl), by simp only [over, overL, h22, h24, hG]; rfl, brf⟩
    ·rintro f w1 hb ⟨(h22 : f 22 = _), h25, _⟩
     refine ⟨fun hg => ?_, fun hg => ?_⟩
     rotate_left
     ·intro hG; exact absurd (h22.trans (by rw [hG])) hg
     have hG := Value.bool.inj (h22.symm.trans hg);intro K hK;have h25 : f 25 = _ := h25 hG;simp only [over, overL, h22, h25, hG];go_simp;exact hK _ _ ⟨_, (fun _ => new_one _ _ _), by simp only [over, overL, h22, h25, hG]; rfl, (brf).alloc (Nat.le_refl _) _⟩
    ·rintro f w1 hb ⟨(h22 : f 22 = _), h23, h26, _⟩
     refine ⟨fun hg => ?_, fun hg => ?_⟩
     rotate_left
     ·intro hG; exact absurd (h22.trans (by rw [hG])) hg
     have hG := Value.bool.inj (h22.symm.trans hg);intro K hK;replace h23 := h23 hG;replace h26 := h26 hG;simp only [over, overL, h22, hG];go_simp;refine (every_v [a.cols] 1 24 k3 hk3 _ _ _ (by simp) h23 h26).mono ?_;rintro e w2 ⟨rfl, hw⟩;exact hK _ _ ⟨_, (fun _ => rfl), by simp only [over, overL, h22, hG]; rfl, hw ▸ brf⟩
    ·rintro f w1 hb ⟨(h22 : f 22 = _), h27, _⟩
     refine ⟨fun hg => ?_, fun hg => ?_⟩
     rotate_left
     ·intro hG; exact absurd (h22.trans (by rw [hG])) hg
     have hG := Value.bool.inj (h22.symm.trans hg);intro K hK;have h27 : f 27 = _ := h27 hG;simp only [over, overL, h22, h27, hG];go_simp;exact hK _ _ ⟨_, (fun _ => rfl), by simp only [over, overL, h22, h27, hG]; rfl, brf⟩
    ·rintro f w1 hb ⟨(h22 : f 22 = _), h28, _⟩ K hK
     have h28 : (!k2) = false → f 28 = _ := h28
     cases hG : (!k2) with
     | true =>
      rw [hG] at h22;simp only [over, overL, h22];go_simp;exact hK _ _ ⟨.bool true, by simp [chk5V, hG], by simp only [over, overL, h22]; rfl, brf⟩
     | false =>
      have h28 := h28 hG;rw [hG] at h22;simp only [over, overL, h22, h28];go_simp;exact hK _ _ ⟨.bool (!k3), by simp [chk5V, hG], by simp only [over, overL, h22, h28]; rfl, brf⟩
    ·rintro f w1 hb ⟨(h29 : f 29 = _), _⟩ K hK
     simp only [over, overL, h29];go_simp;exact hK _ _ ⟨_, rfl, by simp only [over, overL, h29]; rfl, brf⟩
   ·intro f2 w2 hb2 h2
    have h15 : f2 15 = .bool (!k2 || !k3) := h2.2.2.2.2.2.2.2.2.2.2.2.2.2.2.1;simp only [over, overL, h15, Nat.reduceAdd];have hBw2 : bw w w2 := hBw1.trans (hb2.mono hBw1.size)
    by_cases hkk : k2 = true ∧ k3 = true
    ·obtain ⟨rfl, rfl⟩ := hkk
     have CB : Hid (∀ k (hk : k < 12), w2.cell? ⟨w.heap.size, k, none⟩ = some ((wcs a)[k]'(by simpa using hk))) := fun k hk => cell_later hb2 (cell_later hB1 (CALL.out k hk));have hr := inR_iff.1 (all1.symm.trans hk2);have hc := inR_iff.1 (all1.symm.trans hk3);have hm0 : 0 ≤ a.rows * a.cols := Int.mul_nonneg (by omega) (by omega)
     have hm1 : a.rows * a.cols ≤ 384 := by
      have k1 : a.rows * a.cols ≤ a.rows * 24 := Int.mul_le_mul_of_nonneg_left hc.2 (by omega);omega
     have e0 : w2.cell? ⟨w.heap.size, 0, none⟩ = some (.string a.name) := CB.out 0 (by decide);have e1 : w2.cell? ⟨w.heap.size, 1, none⟩ = some (.int .i64 a.kind) := CB.out 1 (by decide);have e2 : w2.cell? ⟨w.heap.size, 2, none⟩ = some (.int .i64 a.rows) := CB.out 2 (by decide);have e3 : w2.cell? ⟨w.heap.size, 3, none⟩ = some (.int .i64 a.cols) := CB.out 3 (by decide);have e4 : w2.cell? ⟨w.heap.size, 4, none⟩ = some (.int .i64 a.x) := CB.out 4 (by decide);have e5 : w2.cell? ⟨w.heap.size, 5, none⟩ = some (.int .i64 a.y) := CB.out 5 (by decide);have e6 : w2.cell? ⟨w.heap.size, 6, none⟩ = some (.int .i64 a.pitch) := CB.out 6 (by decide);have e7 : w2.cell? ⟨w.heap.size, 7, none⟩ = some (.int .i64 a.wid) := CB.out 7 (by decide);have e8 : w2.cell? ⟨w.heap.size, 8, none⟩ = some (.int .i64 a.len) := CB.out 8 (by decide);have e9 : w2.cell? ⟨w.heap.size, 9, none⟩ = some (.int .i64 a.hei) := CB.out 9 (by decide);have e10 : w2.cell? ⟨w.heap.size, 10, none⟩ = some (.int .i64 a.deep) := CB.out 10 (by decide);have e11 : w2.cell? ⟨w.heap.size, 11, none⟩ = some (.int .i64 a.cap) := CB.out 11 (by decide)
     cases hro : rangeOk a with
     | false =>
      simp only [Bool.not_true, Bool.or_self]
      go_wp2_with fail
      refine (isMeasured_any a _ hm0 hm1).mono ?_;rintro e w3 ⟨rfl, hb3⟩;rw [hro];go_wp2;go_ret;exact ⟨rfl, hBw2.trans (hb3.mono hBw2.size)⟩
     | true =>
      have hin : InR a := inR_of (all1.symm.trans hk2) (all1.symm.trans hk3) hro;have HIN := hdd hin;clear hin;simp only [Bool.not_true, Bool.or_self]
      go_wp2_with fail
      refine (isMeasured_any a _ hm0 hm1).mono ?_;rintro e w3 ⟨rfl, hb3⟩;rw [hro];have hBw3 : bw w w3 := hBw2.trans (hb3.mono hBw2.size);have g0 : w3.cell? ⟨w.heap.size, 0, none⟩ = some (.string a.name) := cell_later hb3 e0;have g1 : w3.cell? ⟨w.heap.size, 1, none⟩ = some (.int .i64 a.kind) := cell_later hb3 e1;have g2 : w3.cell? ⟨w.heap.size, 2, none⟩ = some (.int .i64 a.rows) := cell_later hb3 e2;have g3 : w3.cell? ⟨w.heap.size, 3, none⟩ = some (.int .i64 a.cols) := cell_later hb3 e3;have g4 : w3.cell? ⟨w.heap.size, 4, none⟩ = some (.int .i64 a.x) := cell_later hb3 e4;have g5 : w3.cell? ⟨w.heap.size, 5, none⟩ = some (.int .i64 a.y) := cell_later hb3 e5;have g6 : w3.cell? ⟨w.heap.size, 6, none⟩ = some (.int .i64 a.pitch) := cell_later hb3 e6;have g7 : w3.cell? ⟨w.heap.size, 7, none⟩ = some (.int .i64 a.wid) := cell_later hb3 e7;have g8 : w3.cell? ⟨w.heap.size, 8, none⟩ = some (.int .i64 a.len) := cell_later hb3 e8;have g9 : w3.cell? ⟨w.heap.size, 9, none⟩ = some (.int .i64 a.hei) := cell_later hb3 e9;have g10 : w3.cell? ⟨w.heap.size, 10, none⟩ = some (.int .i64 a.deep) := cell_later hb3 e10;have g11 : w3.cell? ⟨w.heap.size, 11, none⟩ = some (.int .i64 a.cap) := cell_later hb3 e11
      cases hrm : roomOk a with
      | false =>
       go_wp2_with fail
       refine (isRoomy_any a _ HIN.out).mono ?_;rintro e w4 ⟨rfl, hb4⟩;rw [hrm];go_wp2;go_ret;exact ⟨rfl, hBw3.trans (hb4.mono hBw3.size)⟩
      | true =>
       go_wp2_with fail
       refine (isRoomy_any a _ HIN.out).mono ?_;rintro e w4 ⟨rfl, hb4⟩;rw [hrm];go_wp2;go_ret;exact ⟨rfl, hBw3.trans (hb4.mono hBw3.size)⟩
    ·have e : (!k2 || !k3) = true := by cases k2 <;> cases k3 <;> simp at hkk ⊢
     rw [e];go_wp2;go_ret;exact ⟨rfl, hBw2⟩
theorem check_any (a : Wr) (w : World) (hs : a.name.size ≤ maxLen) :
  CR 65 #[wv a] w (.int .i64 (chk a)) := by
 cases hl : lab a.name with
 | false => have h := check_label a w hs hl; unfold chk; rw [hl]; exact h
 | true =>
  have h := check_rest a w hs hl _ _ _ all1 all1 all1;unfold chk; rw [hl]; exact h
def plc (s : Sit) : Int := if inR 1 12 s.slot = true then (if lab s.name = true then 0 else 3) else 2
theorem frefs_lab (n : ByteArray) : F.frefs [[(n, 0)]] = if lab n = true then 0 else 3 := by
 rw [F.frefs_one]
 cases h : lab n with
 | true => rw [F.fref_ok (by simp) (by simp [F.badL, F.bad1, h]) (by simp [F.tot])]; rfl
 | false => rw [F.fref_bad (by simp) (by simp [F.badL, F.bad1, h])]; simp [F.badL, F.bad1, h]
theorem fluidCheck_any (n : ByteArray) (w : World) (hn : n.size ≤ maxLen) (m : Nat) (hm : m = w.heap.size) :
  Calls Tryz.prog 120 #[.slice (some ⟨m, 0, none⟩) 1 1] (w.alloc (.cells #[.string n, .int .i64 0] 147)) fun e w' => e = .returned (.int .i64 (if lab n = true then 0 else 3)) ∧ Below (w.alloc (.cells #[.string n, .int .i64 0] 147)).heap.size (w.alloc (.cells #[.string n, .int .i64 0] 147)) w' := by
 subst hm
 have hF : F.Fl (w.alloc (.cells #[.string n, .int .i64 0] 147)) (some ⟨w.heap.size, 0, none⟩) [(n, 0)] := by
  refine ⟨fun p hp => by simp at hp; subst hp; exact hn, .inr ⟨w.heap.size, 0, rfl, by simp, fun k hk => ?_⟩⟩
  match k, hk with
  | 0, _ => exact ⟨by go_simp, by go_simp⟩
 obtain ⟨w0, hw0⟩ : ∃ w0, w0 = w.alloc (.cells #[.string n, .int .i64 0] 147) := ⟨_, rfl⟩;have hsz : w.heap.size < w0.heap.size := by rw [hw0]; simp
 rw [← hw0] at hF ⊢;clear hw0;have hcall := F.refusal_any w0.heap.size 1 [(some ⟨w.heap.size, 0, none⟩, 1, [(n, 0)])] _ (F.FlS.one hF) (by simp);have HL := frefs_lab n;simp only [List.map_cons, List.map_nil, List.length_cons, List.length_nil, Nat.zero_add, HL] at hcall;generalize (if lab n = true then (0 : Int) else 3) = r at *;clear HL hF
 go_enter Tryz.func120, Tryz.ntmps120
 go_wp2_with (go_at_call 187; refine hcall.mono ?_; rintro e w' ⟨rfl, hb'⟩)
 go_ret;exact ⟨rfl, ((brf).alloc (Nat.le_refl _) _).trans (hb'.mono (by simp))⟩
theorem placing_any (s : Sit) (w : World) (hs : SOk s) :
  CR 64 #[sv s] w (.int .i64 (plc s)) := by
 by_cases h1 : s.slot < 1
 ·have HP : Hid (plc s = 2) := by show plc s = 2; unfold plc; rw [inR_no (.inl h1)]; rfl
  go_enter Tryz.func64, Tryz.ntmps64
  go_wp2;go_ret;exact ⟨ret_int HP.out.symm, (brf).alloc (Nat.le_refl _) _⟩
 by_cases h2 : 12 < s.slot
 ·have HP : Hid (plc s = 2) := by show plc s = 2; unfold plc; rw [inR_no (.inr h2)]; rfl
  go_enter Tryz.func64, Tryz.ntmps64
  go_wp2;go_ret;exact ⟨ret_int HP.out.symm, (brf).alloc (Nat.le_refl _) _⟩
 have HP : Hid (plc s = if lab s.name = true then 0 else 3) := by show plc s = _; unfold plc; rw [inR_yes (by omega) (by omega)]; rfl
 have hcall := fluidCheck_any s.name (w.alloc (sobj s)) hs.2 (w.heap.size + 1) (by simp);rw [← HP.out] at hcall;generalize plc s = r at *;clear HP
 go_enter Tryz.func64, Tryz.ntmps64
 go_wp2_with (go_at_call 120; refine hcall.mono ?_; rintro e w' ⟨rfl, hb'⟩)
 go_ret;exact ⟨rfl, (((brf).alloc (Nat.le_refl _) _).alloc (by simp) _).trans (hb'.mono (by simp; omega))⟩
def orL : List Int → Int
 | [] => 0
 | n :: l => if n = 0 then orL l else n
theorem orL_skip : ∀ {a l : List Int}, (∀ n ∈ a, n = 0) → orL (a ++ l) = orL l
 | [], _, _ => rfl
 | n :: a, l, h => by
  simp only [List.cons_append, orL];rw [if_pos (h n (by simp)), orL_skip fun c hc => h c (by simp [hc])]
theorem orL_at {l : List Int} {k : Nat} (h : k < l.length) (ha : ∀ n ∈ l.take k, n = 0) (hb : l[k]'h ≠ 0) : orL l = l[k]'h := by
 have e : l = l.take k ++ l[k]'h :: l.drop (k + 1) := by rw [← List.drop_eq_getElem_cons h, List.take_append_drop]
 conv => lhs; rw [e]
 rw [orL_skip ha];simp only [orL]; rw [if_neg hb]
theorem orL_zero {l : List Int} (ha : ∀ n ∈ l, n = 0) : orL l = 0 := by
 have := orL_skip (l := []) ha
 simpa [orL] using this
theorem cmpOr_any (b cap : Nat) (xs : List Int) (w : World) (hl : xs.length ≤ 100) (hc : ∀ k (h : k < xs.length), w.cell? ⟨b, k, none⟩ = some (.int .i64 (xs[k]'h))) :
  Calls Tryz.prog 63 #[.slice (some ⟨b, 0, none⟩) xs.length cap] w fun e w' => e = .returned (.int .i64 (orL xs)) ∧ w' = w := by
 have HC := hdd hc;clear hc
 go_enter Tryz.func63, Tryz.ntmps63
 go_wp2
 go_loopw [5, 8] (fun _ i wr => ∃ k : Nat, k ≤ xs.length ∧ i = .int .i64 k ∧ (∀ n ∈ xs.take k, n = 0) ∧ wr = w) (fun _ i _ => xs.length - (intOf i).toNat)
 case atStart => exact ⟨0, Nat.zero_le _, rfl, (fun f hf => by simp at hf), rfl⟩
 case round =>
  obtain ⟨k, hk, rfl, hok, rfl⟩ := hrel;have HO := hdd hok;clear hok
  by_cases hlt : k < xs.length
  ·have c0 := HC.out k hlt
   have HHit : Hid (xs[k]'hlt ≠ 0 → orL xs = xs[k]'hlt) := orL_at hlt HO.out
   have HMiss : Hid (xs[k]'hlt = 0 → ∀ n ∈ xs.take (k + 1), n = 0) := fun h n hn => by
    rw [List.take_succ_eq_append_getElem hlt] at hn
    rcases List.mem_append.1 hn with hn | hn
    ·exact HO.out n hn
    ·simp at hn; rw [hn]; exact h
   generalize xs[k]'hlt = a at *
   by_cases ha : a = 0
   ·have hne : (a != 0) = false := by simp [ha]
    have HM := (show Hid _ from HMiss.out ha);clear ha;go_wp2
    go_roundw
    case rel => exact ⟨k + 1, by omega, by go_num, HM.out, by trivial⟩
    case measure => simp [intOf]; omega
   ·have hne : (a != 0) = true := by simp [ha]
    have HM := (show Hid _ from HHit.out ha);clear ha;go_wp2;go_ret;exact ⟨ret_int HM.out.symm, rfl⟩
  ·go_wp2
   go_ret;exact ⟨ret_int (orL_zero fun n hn => HO.out n (by rw [List.take_of_length_le (by omega)]; exact hn)).symm, rfl⟩
def fit (ahead : List Sit) (s : Sit) : Int :=
 if 132500 < s.ware.wid ∨ 90500 < s.ware.len then 8 else if (ahead.any fun a => a.slot == s.slot) = true ∨ (ahead.any fun a => a.name == s.name) = true then 4 else 0
theorem fitting_any (ao : Option Addr) (cap : Nat) (l : List Sit) (s : Sit) (w : World) (hL : Sts w ao l) (hl : l.length ≤ 9223372036854775807) :
  CR 66 #[.slice ao l.length cap, sv s] w (.int .i64 (fit l s)) := by
 have HL := hdd hL;clear hL
 by_cases h1 : 132500 < s.ware.wid
 ·have HP : Hid (fit l s = 8) := if_pos (.inl h1)
  go_enter Tryz.func66, Tryz.ntmps66
  go_wp2;go_ret;exact ⟨ret_int HP.out.symm, (brf).alloc (Nat.le_refl _) _⟩
 by_cases h2 : 90500 < s.ware.len
 ·have HP : Hid (fit l s = 8) := if_pos (.inr h2)
  go_enter Tryz.func66, Tryz.ntmps66
  go_wp2;go_ret;exact ⟨ret_int HP.out.symm, (brf).alloc (Nat.le_refl _) _⟩
 have HP : Hid (fit l s = if (l.any fun a => a.slot == s.slot) = true ∨ (l.any fun a => a.name == s.name) = true then 4 else 0) := if_neg (by omega)
 have H1 : Hid (Calls Tryz.prog 126 #[.slice ao l.length cap, .func (.func 168) #[] #[ptr (w.heap.size + 1)]] ((w.alloc (sobj s)).alloc (.cells #[.int .i64 s.slot] 3)) fun e w' => e = .returned (.bool (l.any fun a => a.slot == s.slot)) ∧ Below ((w.alloc (sobj s)).alloc (.cells #[.int .i64 s.slot] 3)).heap.size ((w.alloc (sobj s)).alloc (.cells #[.int .i64 s.slot] 3)) w') :=
  containsFuncS_any 168 #[ptr (w.heap.size + 1)] (fun a => a.slot == s.slot) ao cap l _ en168 (fun a W hW => standing_test a s.slot (w.heap.size + 1) W (by have := hW.size; simp at this; omega) (cell_later hW (by go_simp))) (HL.out.next (((brf).alloc (Nat.le_refl _) _).alloc (by simp) _)) hl
 have H2 : Hid (∀ W : World, bw w W → Calls Tryz.prog 126 #[.slice ao l.length cap, .func (.func 191) #[] #[ptr W.heap.size]] (W.alloc (.cells #[.string s.name] 9)) fun e w' => e = .returned (.bool (l.any fun a => a.name == s.name)) ∧ Below (W.alloc (.cells #[.string s.name] 9)).heap.size (W.alloc (.cells #[.string s.name] 9)) w') := fun W hW =>
  containsFuncS_any 191 #[ptr W.heap.size] (fun a => a.name == s.name) ao cap l _ en191 (fun a W' hW' => named_test a s.name W.heap.size W' (by have := hW'.size; simp at this; omega) (cell_later hW' (by go_simp))) (HL.out.next (hW.alloc hW.size _)) hl
 cases q1 : (l.any fun a => a.slot == s.slot) with
 | true =>
  rw [q1] at H1 HP;simp only [true_or, if_true] at HP
  go_enter Tryz.func66, Tryz.ntmps66
  go_wp2_with fail
  refine (standingIn_any _ _).mono ?_;rintro e w1 ⟨rfl, rfl⟩
  go_wp2_with fail
  refine H1.out.mono ?_;rintro e w2 ⟨rfl, hb⟩;go_wp2;go_ret;exact ⟨ret_int HP.out.symm, (((brf).alloc (Nat.le_refl _) _).alloc (by simp) _).trans (hb.mono (by simp; omega))⟩
 | false =>
  rw [q1] at H1 HP;simp only [Bool.false_eq_true, false_or] at HP;have HPq : Hid (∀ q : Bool, (l.any fun a => a.name == s.name) = q → fit l s = if q = true then 4 else 0) := fun q hq => by rw [HP.out, hq]
  clear HP
  cases q2 : (l.any fun a => a.name == s.name) with
  | _ =>
   rw [q2] at H2;have HF := (show Hid _ from HPq.out _ q2);simp only [Bool.false_eq_true, if_true, if_false] at HF;clear HPq q1 q2
   go_enter Tryz.func66, Tryz.ntmps66
   go_wp2_with fail
   refine (standingIn_any _ _).mono ?_;rintro e w1 ⟨rfl, rfl⟩
   go_wp2_with fail
   refine H1.out.mono ?_;rintro e w2 ⟨rfl, hb⟩;have c13 : w2.cell? ⟨w.heap.size, 13, none⟩ = some (.string s.name) := cell_later hb (by go_simp);have HB : Hid (bw w w2) := (((brf).alloc (Nat.le_refl _) _).alloc (by simp) _).trans (hb.mono (by simp; omega));clear hb
   go_wp2_with fail
   refine (named_any _ _).mono ?_;rintro e w3 ⟨rfl, rfl⟩
   go_wp2_with fail
   refine (H2.out w2 HB.out).mono ?_;rintro e w4 ⟨rfl, hb4⟩;go_wp2;go_ret;exact ⟨ret_int HF.out.symm, (HB.out.alloc HB.out.size _).trans (hb4.mono (by have := HB.out.size; simp; omega))⟩
def one3 (l : List Sit) (k : Nat) (s : Sit) : Int := orL [plc s, chk s.ware, fit (l.take k) s]
def errAt (l : List Sit) (k : Nat) : Int := if h : k < l.length then one3 l k (l[k]'h) else 0
def dchk (l : List Sit) : Int := if 12 < l.length then 7 else orL ((List.range l.length).map (errAt l))
theorem errAt_lt {l : List Sit} {k : Nat} (h : k < l.length) : errAt l k = one3 l k (l[k]'h) := dif_pos h
theorem dchk_many {l : List Sit} (h : 12 < l.length) : dchk l = 7 := if_pos h
theorem dchk_hit {l : List Sit} {k : Nat} (h12 : l.length ≤ 12) (hk : k < l.length) (ha : ∀ j, j < k → errAt l j = 0) (hb : errAt l k ≠ 0) : dchk l = errAt l k := by
 unfold dchk;rw [if_neg (by omega)];have hl : k < ((List.range l.length).map (errAt l)).length := by simpa using hk
 have e : ((List.range l.length).map (errAt l))[k]'hl = errAt l k := by simp
 rw [orL_at hl ?_ (by rw [e]; exact hb), e];intro n hn;rw [← List.map_take] at hn;obtain ⟨j, hj, rfl⟩ := List.mem_map.1 hn;rw [List.take_range] at hj;exact ha j (by have := List.mem_range.1 hj; omega)
theorem dchk_ok {l : List Sit} (h12 : l.length ≤ 12) (ha : ∀ j, j < l.length → errAt l j = 0) : dchk l = 0 := by
 unfold dchk;rw [if_neg (by omega)];refine orL_zero fun n hn => ?_;obtain ⟨j, hj, rfl⟩ := List.mem_map.1 hn;exact ha j (List.mem_range.1 hj)
theorem succ_all {P : Nat → Prop} {k : Nat} (h : ∀ j, j < k → P j) (hk : P k) : ∀ j, j < k + 1 → P j := fun j hj => by
 by_cases e : j = k
 ·subst e; exact hk
 ·exact h j (by omega)
theorem cmpOr_is (xs : List Int) (r : Int) (hr : orL xs = r) (v : Value) (w : World) (hl : xs.length ≤ 100) (h : IsInts xs v w) :
  Calls Tryz.prog 63 #[v] w fun e w' => e = .returned (.int .i64 r) ∧ w' = w := by
 subst hr;obtain ⟨b, rfl, hc⟩ := h;refine cmpOr_any b xs.length xs w hl fun k hk => ?_;rw [hc k hk, List.getD_eq_getElem?_getD, List.getElem?_eq_getElem hk]; rfl
def chkV (s : Sit) (p c q r : Int) (b off k n cap : Nat) (B : Nat) (d : Nat) (v : Value) (w : World) : Prop :=
 match d with
 | 16 | 24 => v = sv s
 | 17 => v = .int .i64 p
 | 18 => v = .pointer (some ⟨B, 1, none⟩)
 | 19 => v = wv s.ware
 | 20 => v = .int .i64 c
 | 21 => v = .slice (some ⟨b, off, none⟩) n cap
 | 22 => v = .int .i64 k
 | 23 => v = .slice (some ⟨b, off, none⟩) k cap
 | 25 => v = .int .i64 q
 | 26 => IsInts [p, c, q] v w
 | 27 | 5 => v = .int .i64 r
 | _ => True
theorem chkV_mono (s : Sit) (p c q r : Int) (b off k n cap : Nat) (B : Nat) (d : Nat) (v : Value) (w w' : World) (h : chkV s p c q r b off k n cap B d v w) (hb : bw w w') : chkV s p c q r b off k n cap B d v w' := by
 unfold chkV at h ⊢
 split <;> simp only [] at h <;> first | exact h | exact h.later hb
theorem deckCheck_any (ao : Option Addr) (cap : Nat) (l : List Sit) (w : World) (hL : Sts w ao l) (hcap : l.length ≤ cap) (hl : l.length ≤ 9223372036854775807) (hok : ∀ s ∈ l, SOk s) :
  CR 26 #[.slice ao l.length cap] w (.int .i64 (dchk l)) := by
 have HL := hdd hL;have HOK := hdd hok;clear hL hok
 by_cases h12 : 12 < l.length
 ·have HP : Hid (dchk l = 7) := dchk_many h12
  go_enter Tryz.func26, Tryz.ntmps26
  go_wp2;go_ret;exact ⟨ret_int HP.out.symm, brf⟩
 have h12' : l.length ≤ 12 := by omega
 clear h12
 go_enter Tryz.func26, Tryz.ntmps26
 go_wp2
 go_loopw [11] (fun i wr => ∃ k : Nat, k ≤ l.length ∧ i = .int .i64 k ∧ (∀ j, j < k → errAt l j = 0) ∧ bw w wr) (fun i _ => l.length - (intOf i).toNat)
 case atStart => exact ⟨0, Nat.zero_le _, rfl, (fun j hj => absurd hj (Nat.not_lt_zero _)), brf⟩
 case round =>
  obtain ⟨k, hk, rfl, hno, hb⟩ := hrel;have HB := hdd hb;have HNO := hdd hno;clear hb hno
  by_cases hlt : k < l.length
  ·obtain ⟨b, off, rfl, hbx⟩ := (HL.out.next HB.out).at hlt
   have HE : Hid (errAt l k = one3 l k (l[k]'hlt)) := errAt_lt hlt;have HSO := hdd (HOK.out _ (List.getElem_mem hlt));have HTK : Hid ((l.take k).length = k) := by show _ = _; rw [List.length_take]; omega
   generalize l[k]'hlt = s at *;obtain ⟨_, c0, c1, c2, c3, c4, c5, c6, c7, c8, c9, c10, c11, c12, c13⟩ := hbx;have hki : (k : Int) < (l.length : Int) := by omega
   go_wp2_with fail
   rename_i KK hkk;have HKK := (show Hid _ from hkk);clear hkk c0 c1 c2 c3 c4 c5 c6 c7 c8 c9 c10 c11 c12 c13;obtain ⟨w2, hw2⟩ : ∃ w2, w2 = wr.alloc (sobj s) := ⟨_, rfl⟩;have HB2 : Hid (bw w w2) := by show Below _ _ _; rw [hw2]; exact HB.out.alloc HB.out.size _
   have KA : Hid (Sf wr.heap.size s w2) := by show Sf _ _ _; rw [hw2]; exact Sf.new wr s
   rw [← hw2];clear hw2
   try rw [show decide ((k : Int) < (l.length : Int)) = true by simp; omega]
   obtain ⟨p, hp⟩ : ∃ p, p = plc s := ⟨_, rfl⟩;obtain ⟨c, hc⟩ : ∃ c, c = chk s.ware := ⟨_, rfl⟩;obtain ⟨q, hq⟩ : ∃ q, q = fit (l.take k) s := ⟨_, rfl⟩;obtain ⟨r, hr⟩ : ∃ r, r = orL [p, c, q] := ⟨_, rfl⟩;have HE2 : Hid (errAt l k = r) := by show _ = _; rw [HE.out, hr, hp, hc, hq]; rfl
   have HP : Hid (∀ W : World, CR 64 #[sv s] W (.int .i64 p)) := fun W => by rw [hp]; exact placing_any s W HSO.out
   have HC : Hid (∀ W : World, CR 65 #[wv s.ware] W (.int .i64 c)) := fun W => by rw [hc]; exact check_any s.ware W HSO.out.1
   have HQ : Hid (∀ W : World, bw w2 W → CR 66 #[.slice (some ⟨b, off, none⟩) k cap, sv s] W (.int .i64 q)) := fun W hW => by
    have := fitting_any (some ⟨b, off, none⟩) cap (l.take k) s W (((HL.out.next HB2.out).next hW).take k) (by rw [HTK.out]; omega);rw [hq];rw [HTK.out] at this;exact this
   have HR : Hid (orL [p, c, q] = r) := hr.symm;clear hp hc hq hr HE HSO HTK
   refine region_inv [zf,zf,zf,zf,zf,zt,zf,zf,zf,zf,zf,zf,zf,zf,zf,zf,zt,zt,zt,zt,zt,zt,zt,zt,zt,zt,zt,zt,zf,zf,zf,zf]
    [(16, [], none), (17, [16], none), (18, [], none), (19, [18], none), (20, [19], none), (21, [], none), (22, [], none), (23, [21, 22], none), (24, [], none), (25, [23, 24], none), (26, [17, 20, 25], none), (27, [26], none), (5, [27], none)]
    (chkV s p c q r b off k l.length cap wr.heap.size) (by kernel_rfl) (by kernel_rfl) (chkV_mono s p c q r b off k l.length cap wr.heap.size) ?_ ?_
   ·refine ⟨?_, ?_, ?_, ?_, ?_, ?_, ?_, ?_, ?_, ?_, ?_, ?_, ?_, trivial⟩
    any_goals first | (intro f w1 hb _ K hK; simp only [over, overL]; go_simp; exact hK _ _ ⟨_, rfl, by simp only [over, overL]; rfl, brf⟩) | fail
    ·intro f w1 hb _ K hK
     obtain ⟨⟨al, a0, a1, a2, a3, a4, a5, a6, a7, a8, a9, a10, a11, a12, a13⟩, _⟩ := (KA.out).later hb;simp only [Nat.zero_add] at a1 a2 a3 a4 a5 a6 a7 a8 a9 a10 a11 a12 a13;simp only [over, overL];go_simp;exact hK _ _ ⟨_, rfl, by simp only [over, overL]; rfl, brf⟩
    ·rintro f w1 hb ⟨(h16 : f 16 = _), _⟩ K hK
     simp only [over, overL, h16];go_simp;refine (HP.out _).mono ?_;rintro e w2 ⟨rfl, hb2⟩;exact hK _ _ ⟨_, rfl, by simp only [over, overL, h16]; rfl, hb2⟩
    ·rintro f w1 hb ⟨(h18 : f 18 = _), _⟩ K hK
     obtain ⟨⟨al, a0, a1, a2, a3, a4, a5, a6, a7, a8, a9, a10, a11, a12, a13⟩, _⟩ := (KA.out).later hb;simp only [Nat.zero_add] at a1 a2 a3 a4 a5 a6 a7 a8 a9 a10 a11 a12 a13;simp only [over, overL, h18];go_simp;exact hK _ _ ⟨_, rfl, by simp only [over, overL, h18]; rfl, brf⟩
    ·rintro f w1 hb ⟨(h19 : f 19 = _), _⟩ K hK
     simp only [over, overL, h19];go_simp;refine (HC.out _).mono ?_;rintro e w2 ⟨rfl, hb2⟩;exact hK _ _ ⟨_, rfl, by simp only [over, overL, h19]; rfl, hb2⟩
    ·rintro f w1 hb ⟨(h21 : f 21 = _), (h22 : f 22 = _), _⟩ K hK
     simp only [over, overL, h21, h22];go_simp;rw [if_pos (by omega)];exact hK _ _ ⟨_, rfl, by simp only [over, overL, h21, h22], brf⟩
    ·intro f w1 hb _ K hK
     obtain ⟨⟨al, a0, a1, a2, a3, a4, a5, a6, a7, a8, a9, a10, a11, a12, a13⟩, _⟩ := (KA.out).later hb;simp only [Nat.zero_add] at a1 a2 a3 a4 a5 a6 a7 a8 a9 a10 a11 a12 a13;simp only [over, overL];go_simp;exact hK _ _ ⟨_, rfl, by simp only [over, overL]; rfl, brf⟩
    ·rintro f w1 hb ⟨(h23 : f 23 = _), (h24 : f 24 = _), _⟩ K hK
     simp only [over, overL, h23, h24];go_simp;refine (HQ.out _ hb).mono ?_;rintro e w2 ⟨rfl, hb2⟩;exact hK _ _ ⟨_, rfl, by simp only [over, overL, h23, h24]; rfl, hb2⟩
    ·rintro f w1 hb ⟨(h17 : f 17 = _), (h20 : f 20 = _), (h25 : f 25 = _), _⟩ K hK
     simp only [over, overL, h17, h20, h25];go_simp;exact hK _ _ ⟨_, new_three _ _ _ _ _, by simp only [over, overL, h17, h20, h25]; rfl, (brf).alloc (Nat.le_refl _) _⟩
    ·intro f w1 hb ⟨h26, _⟩ K hK
     simp only [over, overL];go_simp;refine (cmpOr_is [p, c, q] r HR.out _ _ (by simp) h26).mono ?_;rintro e w2 ⟨rfl, hw⟩;exact hK _ _ ⟨_, rfl, by simp only [over, overL]; rfl, hw ▸ brf⟩
    ·rintro f w1 hb ⟨(h27 : f 27 = _), _⟩ K hK
     simp only [over, overL, h27];go_simp;exact hK _ _ ⟨_, rfl, by simp only [over, overL, h27]; rfl, brf⟩
   intro f w3 hb3 hv;have h5 : f 5 = .int .i64 r := hv.2.2.2.2.2.2.2.2.2.2.2.2.1;have HB3 := hdd (HB2.out.trans (hb3.mono HB2.out.size));clear hb3 hv HP HC HQ HR;simp only [over, overL, h5];clear h5
   by_cases hr : r = 0
   ·have HN2 : Hid (∀ j, j < k + 1 → errAt l j = 0) := succ_all HNO.out (by rw [HE2.out]; exact hr)
    have hne : (r != 0) = false := by simp [hr]
    clear hr;refine HKK.out _ _ ?_;go_wp2
    go_roundw
    case rel => exact ⟨k + 1, by omega, by go_num, HN2.out, HB3.out⟩
    case measure => simp [intOf]; omega
   ·have HD : Hid (dchk l = r) := by show _ = _; rw [dchk_hit h12' hlt HNO.out (by rw [HE2.out]; exact hr), HE2.out]
    have hne : (r != 0) = true := by simp [hr]
    clear hr;refine HKK.out _ _ ?_;go_wp2;go_ret;exact ⟨ret_int HD.out.symm, HB3.out⟩
  ·have HD : Hid (dchk l = 0) := dchk_ok h12' fun j hj => HNO.out j (by omega)
   go_wp2;go_ret;exact ⟨ret_int HD.out.symm, HB.out⟩
theorem chk_in {a : Wr} (h : chk a = 0) : lab a.name = true ∧ inR 1 3 a.kind = true ∧ inR 1 16 a.rows = true ∧ inR 1 24 a.cols = true ∧ rangeOk a = true ∧ roomOk a = true := by
 unfold chk at h
 split at h
 ·rename_i h1
  split at h
  ·rename_i h2
   split at h
   ·rename_i h3
    split at h
    ·rename_i h4
     split at h
     ·rename_i h5
      exact ⟨h1, h2, h3.1, h3.2, h4, h5⟩
     ·omega
    ·omega
   ·omega
  ·omega
 ·omega
theorem chk_inR {a : Wr} (h : chk a = 0) : InR a := by
 have h := chk_in h;exact inR_of h.2.2.1 h.2.2.2.1 h.2.2.2.2.1
theorem middle_err (a : Wr) (r c : Int) (w : World) (hs : a.name.size ≤ maxLen) (hn : chk a ≠ 0) :
  CR 173 #[wv a, .agg #[.int .i64 r, .int .i64 c]] w (.tuple #[.agg #[.int .i64 0, .int .i64 0, .int .i64 0], .int .i64 (chk a)]) := by
 have hne : (chk a != 0) = true := by simp [hn]
 go_enter Tryz.func173, Tryz.ntmps173
 go_wp2_with fail
 refine (check_any a _ hs).mono ?_;rintro e w1 ⟨rfl, hb⟩;have pc0 : w1.cell? ⟨w.heap.size + 1 + 1, 0, none⟩ = some (.int .i64 0) := cell_later hb (by go_simp);have pc1 : w1.cell? ⟨w.heap.size + 1 + 1, 1, none⟩ = some (.int .i64 0) := cell_later hb (by go_simp);have pc2 : w1.cell? ⟨w.heap.size + 1 + 1, 2, none⟩ = some (.int .i64 0) := cell_later hb (by go_simp);have pf0 : w1.frozen? ⟨w.heap.size + 1 + 1, 0, none⟩ = false := (hb.frozen (p := ⟨w.heap.size + 1 + 1, 0, none⟩) (by simp)).trans (by go_simp);have pf1 : w1.frozen? ⟨w.heap.size + 1 + 1, 1, none⟩ = false := (hb.frozen (p := ⟨w.heap.size + 1 + 1, 1, none⟩) (by simp)).trans (by go_simp);have pf2 : w1.frozen? ⟨w.heap.size + 1 + 1, 2, none⟩ = false := (hb.frozen (p := ⟨w.heap.size + 1 + 1, 2, none⟩) (by simp)).trans (by go_simp);have lt : w.heap.size + 1 + 1 < w1.heap.size := by have := hb.size; simp at this; omega
 have hB : bw w w1 := ((((brf).alloc (Nat.le_refl _) _).alloc (by simp) _).alloc (by simp; omega) _).trans (hb.mono (by simp; omega));go_wp2;obtain ⟨x0, x1, x2⟩ := box3 pc0 pc1 pc2 (.int .i64 0) (.int .i64 0) (.int .i64 0);refine bodyPost_ret (v := .tuple #[.agg #[.int .i64 0, .int .i64 0, .int .i64 0], .int .i64 (chk a)]) (by simp [results, Tryz.results173, go_sem, pc0, pc1, pc2]) rfl ⟨rfl, ?_⟩;exact ((hB.setCell (by show w.heap.size ≤ w.heap.size + 1 + 1; omega) _).setCell (by show w.heap.size ≤ w.heap.size + 1 + 1; omega) _).setCell (by show w.heap.size ≤ w.heap.size + 1 + 1; omega) _
theorem middle_out (a : Wr) (r c : Int) (w : World) (hs : a.name.size ≤ maxLen) (h0 : chk a = 0) (hsp : spotOk r c a.rows a.cols = false) :
  CR 173 #[wv a, .agg #[.int .i64 r, .int .i64 c]] w (.tuple #[.agg #[.int .i64 0, .int .i64 0, .int .i64 0], .int .i64 2]) := by
 have hin := chk_inR h0;have HIN := hdd hin;have HCH := hdd h0;obtain ⟨r1, r2, k1, k2, _, _, _, _, _, _, _, _, _, _, _, _, _, _⟩ := hin;clear h0
 go_enter Tryz.func173, Tryz.ntmps173
 go_wp2_with fail
 refine (check_any a _ hs).mono ?_;rintro e w1 ⟨rfl, hb⟩;rw [HCH.out];have e0 : w1.cell? ⟨w.heap.size, 0, none⟩ = some (.string a.name) := cell_later hb (by go_simp);have e1 : w1.cell? ⟨w.heap.size, 1, none⟩ = some (.int .i64 a.kind) := cell_later hb (by go_simp);have e2 : w1.cell? ⟨w.heap.size, 2, none⟩ = some (.int .i64 a.rows) := cell_later hb (by go_simp);have e3 : w1.cell? ⟨w.heap.size, 3, none⟩ = some (.int .i64 a.cols) := cell_later hb (by go_simp);have e4 : w1.cell? ⟨w.heap.size, 4, none⟩ = some (.int .i64 a.x) := cell_later hb (by go_simp);have e5 : w1.cell? ⟨w.heap.size, 5, none⟩ = some (.int .i64 a.y) := cell_later hb (by go_simp);have e6 : w1.cell? ⟨w.heap.size, 6, none⟩ = some (.int .i64 a.pitch) := cell_later hb (by go_simp);have e7 : w1.cell? ⟨w.heap.size, 7, none⟩ = some (.int .i64 a.wid) := cell_later hb (by go_simp);have e8 : w1.cell? ⟨w.heap.size, 8, none⟩ = some (.int .i64 a.len) := cell_later hb (by go_simp);have e9 : w1.cell? ⟨w.heap.size, 9, none⟩ = some (.int .i64 a.hei) := cell_later hb (by go_simp);have e10 : w1.cell? ⟨w.heap.size, 10, none⟩ = some (.int .i64 a.deep) := cell_later hb (by go_simp);have e11 : w1.cell? ⟨w.heap.size, 11, none⟩ = some (.int .i64 a.cap) := cell_later hb (by go_simp);have s0 : w1.cell? ⟨w.heap.size + 1, 0, none⟩ = some (.int .i64 r) := cell_later hb (by go_simp);have s1 : w1.cell? ⟨w.heap.size + 1, 1, none⟩ = some (.int .i64 c) := cell_later hb (by go_simp);have pc0 : w1.cell? ⟨w.heap.size + 1 + 1, 0, none⟩ = some (.int .i64 0) := cell_later hb (by go_simp);have pc1 : w1.cell? ⟨w.heap.size + 1 + 1, 1, none⟩ = some (.int .i64 0) := cell_later hb (by go_simp);have pc2 : w1.cell? ⟨w.heap.size + 1 + 1, 2, none⟩ = some (.int .i64 0) := cell_later hb (by go_simp);have pf0 : w1.frozen? ⟨w.heap.size + 1 + 1, 0, none⟩ = false := (hb.frozen (p := ⟨w.heap.size + 1 + 1, 0, none⟩) (by simp)).trans (by go_simp);have pf1 : w1.frozen? ⟨w.heap.size + 1 + 1, 1, none⟩ = false := (hb.frozen (p := ⟨w.heap.size + 1 + 1, 1, none⟩) (by simp)).trans (by go_simp);have pf2 : w1.frozen? ⟨w.heap.size + 1 + 1, 2, none⟩ = false := (hb.frozen (p := ⟨w.heap.size + 1 + 1, 2, none⟩) (by simp)).trans (by go_simp);have lt : w.heap.size + 1 + 1 < w1.heap.size := by have := hb.size; simp at this; omega
 have hB : bw w w1 := ((((brf).alloc (Nat.le_refl _) _).alloc (by simp) _).alloc (by simp; omega) _).trans (hb.mono (by simp; omega));clear hb
 go_wp2_with fail
 refine (isSpot_any r c a.rows a.cols _ (by omega) (by omega) (by omega) (by omega)).mono ?_;rintro e w2 ⟨rfl, hb2⟩;rw [hsp];have qc0 : w2.cell? ⟨w.heap.size + 1 + 1, 0, none⟩ = some (.int .i64 0) := cell_later hb2 pc0;have qc1 : w2.cell? ⟨w.heap.size + 1 + 1, 1, none⟩ = some (.int .i64 0) := cell_later hb2 pc1;have qc2 : w2.cell? ⟨w.heap.size + 1 + 1, 2, none⟩ = some (.int .i64 0) := cell_later hb2 pc2;have qf0 : w2.frozen? ⟨w.heap.size + 1 + 1, 0, none⟩ = false := (hb2.frozen (p := ⟨w.heap.size + 1 + 1, 0, none⟩) (by show w.heap.size + 1 + 1 < _; omega)).trans pf0;have qf1 : w2.frozen? ⟨w.heap.size + 1 + 1, 1, none⟩ = false := (hb2.frozen (p := ⟨w.heap.size + 1 + 1, 1, none⟩) (by show w.heap.size + 1 + 1 < _; omega)).trans pf1;have qf2 : w2.frozen? ⟨w.heap.size + 1 + 1, 2, none⟩ = false := (hb2.frozen (p := ⟨w.heap.size + 1 + 1, 2, none⟩) (by show w.heap.size + 1 + 1 < _; omega)).trans pf2;have hB2 : bw w w2 := hB.trans (hb2.mono hB.size);have lt2 : w.heap.size + 1 + 1 < w2.heap.size := by have := hb2.size; omega
 go_wp2;obtain ⟨x0, x1, x2⟩ := box3 qc0 qc1 qc2 (.int .i64 0) (.int .i64 0) (.int .i64 0);refine bodyPost_ret (v := .tuple #[.agg #[.int .i64 0, .int .i64 0, .int .i64 0], .int .i64 2]) (by simp [results, Tryz.results173, go_sem, qc0, qc1, qc2]) rfl ⟨rfl, ?_⟩;exact ((hB2.setCell (by show w.heap.size ≤ w.heap.size + 1 + 1; omega) _).setCell (by show w.heap.size ≤ w.heap.size + 1 + 1; omega) _).setCell (by show w.heap.size ≤ w.heap.size + 1 + 1; omega) _
theorem middle_ok (a : Wr) (r c : Int) (w : World) (hs : a.name.size ≤ maxLen) (h0 : chk a = 0) (hsp : spotOk r c a.rows a.cols = true) :
  CR 173 #[wv a, .agg #[.int .i64 r, .int .i64 c]] w (.tuple #[.agg #[.int .i64 (a.x + c * a.pitch), .int .i64 (a.y + r * a.pitch), .int .i64 (a.hei - a.deep)], .int .i64 0]) := by
 have hin := chk_inR h0;have HIN := hdd hin;have HCH := hdd h0;obtain ⟨r1, r2, k1, k2, _, _, _, _, _, _, _, _, _, _, _, _, _, _⟩ := hin;clear h0;have hsp2 := spotOk_iff.1 hsp;obtain ⟨⟨s0, s1⟩, s2, s3⟩ := hsp2;have HM : Hid (∀ w : World, CR 190 #[wv a, .agg #[.int .i64 r, .int .i64 c]] w (.agg #[.int .i64 (a.x + c * a.pitch), .int .i64 (a.y + r * a.pitch), .int .i64 (a.hei - a.deep)])) := fun w => middle_any a r c w HIN.out (by omega) (by omega) (by omega) (by omega)
 go_enter Tryz.func173, Tryz.ntmps173
 go_wp2_with fail
 refine (check_any a _ hs).mono ?_;rintro e w1 ⟨rfl, hb⟩;rw [HCH.out];have e0 : w1.cell? ⟨w.heap.size, 0, none⟩ = some (.string a.name) := cell_later hb (by go_simp);have e1 : w1.cell? ⟨w.heap.size, 1, none⟩ = some (.int .i64 a.kind) := cell_later hb (by go_simp);have e2 : w1.cell? ⟨w.heap.size, 2, none⟩ = some (.int .i64 a.rows) := cell_later hb (by go_simp);have e3 : w1.cell? ⟨w.heap.size, 3, none⟩ = some (.int .i64 a.cols) := cell_later hb (by go_simp);have e4 : w1.cell? ⟨w.heap.size, 4, none⟩ = some (.int .i64 a.x) := cell_later hb (by go_simp);have e5 : w1.cell? ⟨w.heap.size, 5, none⟩ = some (.int .i64 a.y) := cell_later hb (by go_simp);have e6 : w1.cell? ⟨w.heap.size, 6, none⟩ = some (.int .i64 a.pitch) := cell_later hb (by go_simp);have e7 : w1.cell? ⟨w.heap.size, 7, none⟩ = some (.int .i64 a.wid) := cell_later hb (by go_simp);have e8 : w1.cell? ⟨w.heap.size, 8, none⟩ = some (.int .i64 a.len) := cell_later hb (by go_simp);have e9 : w1.cell? ⟨w.heap.size, 9, none⟩ = some (.int .i64 a.hei) := cell_later hb (by go_simp);have e10 : w1.cell? ⟨w.heap.size, 10, none⟩ = some (.int .i64 a.deep) := cell_later hb (by go_simp);have e11 : w1.cell? ⟨w.heap.size, 11, none⟩ = some (.int .i64 a.cap) := cell_later hb (by go_simp);have s0 : w1.cell? ⟨w.heap.size + 1, 0, none⟩ = some (.int .i64 r) := cell_later hb (by go_simp);have s1 : w1.cell? ⟨w.heap.size + 1, 1, none⟩ = some (.int .i64 c) := cell_later hb (by go_simp);have pc0 : w1.cell? ⟨w.heap.size + 1 + 1, 0, none⟩ = some (.int .i64 0) := cell_later hb (by go_simp);have pc1 : w1.cell? ⟨w.heap.size + 1 + 1, 1, none⟩ = some (.int .i64 0) := cell_later hb (by go_simp);have pc2 : w1.cell? ⟨w.heap.size + 1 + 1, 2, none⟩ = some (.int .i64 0) := cell_later hb (by go_simp);have pf0 : w1.frozen? ⟨w.heap.size + 1 + 1, 0, none⟩ = false := (hb.frozen (p := ⟨w.heap.size + 1 + 1, 0, none⟩) (by simp)).trans (by go_simp);have pf1 : w1.frozen? ⟨w.heap.size + 1 + 1, 1, none⟩ = false := (hb.frozen (p := ⟨w.heap.size + 1 + 1, 1, none⟩) (by simp)).trans (by go_simp);have pf2 : w1.frozen? ⟨w.heap.size + 1 + 1, 2, none⟩ = false := (hb.frozen (p := ⟨w.heap.size + 1 + 1, 2, none⟩) (by simp)).trans (by go_simp);have lt : w.heap.size + 1 + 1 < w1.heap.size := by have := hb.size; simp at this; omega
 have hB : bw w w1 := ((((brf).alloc (Nat.le_refl _) _).alloc (by simp) _).alloc (by simp; omega) _).trans (hb.mono (by simp; omega));clear hb
 go_wp2_with fail
 refine (isSpot_any r c a.rows a.cols _ (by omega) (by omega) (by omega) (by omega)).mono ?_;rintro e w2 ⟨rfl, hb2⟩;rw [hsp];have qc0 : w2.cell? ⟨w.heap.size + 1 + 1, 0, none⟩ = some (.int .i64 0) := cell_later hb2 pc0;have qc1 : w2.cell? ⟨w.heap.size + 1 + 1, 1, none⟩ = some (.int .i64 0) := cell_later hb2 pc1;have qc2 : w2.cell? ⟨w.heap.size + 1 + 1, 2, none⟩ = some (.int .i64 0) := cell_later hb2 pc2;have qf0 : w2.frozen? ⟨w.heap.size + 1 + 1, 0, none⟩ = false := (hb2.frozen (p := ⟨w.heap.size + 1 + 1, 0, none⟩) (by show w.heap.size + 1 + 1 < _; omega)).trans pf0;have qf1 : w2.frozen? ⟨w.heap.size + 1 + 1, 1, none⟩ = false := (hb2.frozen (p := ⟨w.heap.size + 1 + 1, 1, none⟩) (by show w.heap.size + 1 + 1 < _; omega)).trans pf1;have qf2 : w2.frozen? ⟨w.heap.size + 1 + 1, 2, none⟩ = false := (hb2.frozen (p := ⟨w.heap.size + 1 + 1, 2, none⟩) (by show w.heap.size + 1 + 1 < _; omega)).trans pf2;have hB2 : bw w w2 := hB.trans (hb2.mono hB.size);have lt2 : w.heap.size + 1 + 1 < w2.heap.size := by have := hb2.size; omega
 have g0 : w2.cell? ⟨w.heap.size, 0, none⟩ = some (.string a.name) := cell_later hb2 e0;have g1 : w2.cell? ⟨w.heap.size, 1, none⟩ = some (.int .i64 a.kind) := cell_later hb2 e1;have g2 : w2.cell? ⟨w.heap.size, 2, none⟩ = some (.int .i64 a.rows) := cell_later hb2 e2;have g3 : w2.cell? ⟨w.heap.size, 3, none⟩ = some (.int .i64 a.cols) := cell_later hb2 e3;have g4 : w2.cell? ⟨w.heap.size, 4, none⟩ = some (.int .i64 a.x) := cell_later hb2 e4;have g5 : w2.cell? ⟨w.heap.size, 5, none⟩ = some (.int .i64 a.y) := cell_later hb2 e5;have g6 : w2.cell? ⟨w.heap.size, 6, none⟩ = some (.int .i64 a.pitch) := cell_later hb2 e6;have g7 : w2.cell? ⟨w.heap.size, 7, none⟩ = some (.int .i64 a.wid) := cell_later hb2 e7;have g8 : w2.cell? ⟨w.heap.size, 8, none⟩ = some (.int .i64 a.len) := cell_later hb2 e8;have g9 : w2.cell? ⟨w.heap.size, 9, none⟩ = some (.int .i64 a.hei) := cell_later hb2 e9;have g10 : w2.cell? ⟨w.heap.size, 10, none⟩ = some (.int .i64 a.deep) := cell_later hb2 e10;have g11 : w2.cell? ⟨w.heap.size, 11, none⟩ = some (.int .i64 a.cap) := cell_later hb2 e11;have u0 : w2.cell? ⟨w.heap.size + 1, 0, none⟩ = some (.int .i64 r) := cell_later hb2 s0;have u1 : w2.cell? ⟨w.heap.size + 1, 1, none⟩ = some (.int .i64 c) := cell_later hb2 s1
 go_wp2_with fail
 refine (HM.out _).mono ?_;rintro e w3 ⟨rfl, hb3⟩;have vc0 : w3.cell? ⟨w.heap.size + 1 + 1, 0, none⟩ = some (.int .i64 0) := cell_later hb3 qc0;have vc1 : w3.cell? ⟨w.heap.size + 1 + 1, 1, none⟩ = some (.int .i64 0) := cell_later hb3 qc1;have vc2 : w3.cell? ⟨w.heap.size + 1 + 1, 2, none⟩ = some (.int .i64 0) := cell_later hb3 qc2;have vf0 : w3.frozen? ⟨w.heap.size + 1 + 1, 0, none⟩ = false := (hb3.frozen (p := ⟨w.heap.size + 1 + 1, 0, none⟩) (by show w.heap.size + 1 + 1 < _; omega)).trans qf0;have vf1 : w3.frozen? ⟨w.heap.size + 1 + 1, 1, none⟩ = false := (hb3.frozen (p := ⟨w.heap.size + 1 + 1, 1, none⟩) (by show w.heap.size + 1 + 1 < _; omega)).trans qf1;have vf2 : w3.frozen? ⟨w.heap.size + 1 + 1, 2, none⟩ = false := (hb3.frozen (p := ⟨w.heap.size + 1 + 1, 2, none⟩) (by show w.heap.size + 1 + 1 < _; omega)).trans qf2;have hB3 : bw w w3 := hB2.trans (hb3.mono hB2.size);have lt3 : w.heap.size + 1 + 1 < w3.heap.size := by have := hb3.size; omega
 go_wp2;obtain ⟨x0, x1, x2⟩ := box3 vc0 vc1 vc2 (.int .i64 (a.x + c * a.pitch)) (.int .i64 (a.y + r * a.pitch)) (.int .i64 (a.hei - a.deep));refine bodyPost_ret (v := .tuple #[.agg #[.int .i64 (a.x + c * a.pitch), .int .i64 (a.y + r * a.pitch), .int .i64 (a.hei - a.deep)], .int .i64 0]) (by simp [results, Tryz.results173, go_sem, vc0, vc1, vc2]) rfl ⟨rfl, ?_⟩;exact ((hB3.setCell (by show w.heap.size ≤ w.heap.size + 1 + 1; omega) _).setCell (by show w.heap.size ≤ w.heap.size + 1 + 1; omega) _).setCell (by show w.heap.size ≤ w.heap.size + 1 + 1; omega) _
theorem Tryz.info53 : (Tryz.prog.info? 53).map (fun i => (i.zero, i.size, i.bytes)) = some (some (.agg #[.int .i64 0, .int .i64 0]), 2, 16) := by kernel_rfl
def spots (R k : Nat) : List (Nat × Nat) := (List.range k).map fun i => (i % R, i / R)
theorem spots_length (R k : Nat) : (spots R k).length = k := by simp [spots]
theorem spots_succ (R k : Nat) : spots R (k + 1) = spots R k ++ [(k % R, k / R)] := by simp [spots, List.range_succ]
theorem spots_next {R c r : Nat} (h : r < R) : spots R (c * R + r + 1) = spots R (c * R + r) ++ [(r, c)] := by
 rw [spots_succ];have h1 : (c * R + r) % R = r := by rw [Nat.mul_comm, Nat.mul_add_mod]; exact Nat.mod_eq_of_lt h
 have h2 : (c * R + r) / R = c := by rw [Nat.mul_comm, Nat.mul_add_div (by omega)]; simp [Nat.div_eq_of_lt h]
 rw [h1, h2]
def cellsS (ps : List (Nat × Nat)) : List Value := ps.flatMap fun p => [.int .i64 p.1, .int .i64 p.2]
theorem cellsS_append (a b : List (Nat × Nat)) : cellsS (a ++ b) = cellsS a ++ cellsS b := by simp [cellsS]
theorem cellsS_one (p : Nat × Nat) : cellsS [p] = [.int .i64 p.1, .int .i64 p.2] := by simp [cellsS]
def Own (w : World) (base : Nat) (v : Value) (ps : List (Nat × Nat)) : Prop := w.ownsRow base 53 2 v ps.length (cellsS ps)
theorem Own.nil (w : World) (base : Nat) : Own w base (.slice none 0 0) [] := World.ownsRow_nil w base 53 2
theorem Own.shape {w : World} {base : Nat} {v : Value} {ps : List (Nat × Nat)} (h : Own w base v ps) : ∃ ao cap, v = .slice ao ps.length cap := by
 rcases h.2 with ⟨h1, h2⟩ | ⟨g, cap, cur, h1, _⟩
 ·exact ⟨none, 0, by rw [h1, h2]⟩
 ·exact ⟨_, _, h1⟩
theorem Own.alloc {w : World} {base : Nat} {v : Value} {ps : List (Nat × Nat)} (h : Own w base v ps) (o : Obj) : Own (w.alloc o) base v ps := World.ownsRow.alloc h o
theorem below_grown {base : Nat} {a w w' : World} {v : Value} {ps : List (Nat × Nat)} (h : Below base a w) (ho : Own w base v ps) (hg : w.grownBy w' v.ownBlock) (hB : base ≤ w.heap.size) : Below base a w' :=
 h.grown hg hB (fun k hk => (World.ownsRow.lt ho k hk).1)
end Go.Proofs.YtcajifelbldjnaaGreatDoor
namespace Go.Proofs.YtcajifelbldjnaaGreatDoor
open Go.RowKit F
abbrev Plc := Int × Int × Int
abbrev Wls := List (Plc × List Pc)
def pltB (p q : Plc) : Bool := decide (p.1 < q.1) || (decide (p.1 = q.1) && (decide (p.2.2 < q.2.2) || (decide (p.2.2 = q.2.2) && decide (p.2.1 < q.2.1))))
theorem plt_iff {p q : Plc} : pltB p q = true ↔ p.1 < q.1 ∨ (p.1 = q.1 ∧ (p.2.2 < q.2.2 ∨ (p.2.2 = q.2.2 ∧ p.2.1 < q.2.1))) := by simp [pltB]
theorem plt_trans {p q r : Plc} (h : pltB p q = true) (h2 : pltB q r = true) : pltB p r = true := by
 rw [plt_iff] at *;omega
theorem plt_ne {p q : Plc} (h : pltB p q = true) : p ≠ q := by
 rintro rfl;rw [plt_iff] at h;omega
theorem plt_not {p q : Plc} (h : pltB p q = true) : pltB q p = false := by
 cases h2 : pltB q p with
 | false => rfl
 | true => exact absurd rfl (plt_ne (plt_trans h h2))
theorem plt_total {p q : Plc} (h : p ≠ q) : pltB p q = true ∨ pltB q p = true := by
 rw [plt_iff, plt_iff];obtain ⟨a, b, c⟩ := p;obtain ⟨d, e, f⟩ := q;simp only [ne_eq, Prod.mk.injEq] at h ⊢;omega
def Rising (ws : Wls) : Prop := ws.Pairwise fun x y => pltB x.1 y.1 = true
def wellF (ws : Wls) (p : Plc) : List Pc := ((ws.find? fun x => x.1 == p).map (·.2)).getD []
def ins (x : Plc × List Pc) : Wls → Wls
 | [] => [x]
 | y :: r => if pltB x.1 y.1 = true then x :: y :: r else y :: ins x r
def wdel (ws : Wls) (p : Plc) : Wls := ws.filter fun x => decide (x.1 ≠ p)
def wset (ws : Wls) (p : Plc) (f : List Pc) : Wls := if f = [] then wdel ws p else ins (p, f) (wdel ws p)
theorem mem_ins {x y : Plc × List Pc} {l : Wls} : x ∈ ins y l ↔ x = y ∨ x ∈ l := by
 induction l with
 | nil => simp [ins]
 | cons z r ih =>
  unfold ins
  split
  ·simp
  ·rw [List.mem_cons, ih, List.mem_cons]
   constructor
   ·rintro (h | h | h)
    ·exact .inr (.inl h)
    ·exact .inl h
    ·exact .inr (.inr h)
   ·rintro (h | h | h)
    ·exact .inr (.inl h)
    ·exact .inl h
    ·exact .inr (.inr h)
theorem rising_ins {y : Plc × List Pc} {l : Wls} (h : Rising l) (hn : ∀ x ∈ l, x.1 ≠ y.1) : Rising (ins y l) := by
 induction l with
 | nil => simp [ins, Rising]
 | cons z r ih =>
  obtain ⟨h1, h2⟩ := List.pairwise_cons.1 h;unfold ins
  split
  ·rename_i hlt
   refine List.pairwise_cons.2 ⟨fun x hx => ?_, h⟩
   rcases List.mem_cons.1 hx with rfl | hx
   ·exact hlt
   ·exact plt_trans hlt (h1 x hx)
  ·rename_i hlt
   refine List.pairwise_cons.2 ⟨fun x hx => ?_, ih h2 fun x hx => hn x (by simp [hx])⟩
   rcases mem_ins.1 hx with rfl | hx
   ·rcases plt_total (hn z (by simp)) with h3 | h3
    ·exact h3
    ·exact absurd h3 hlt
   ·exact h1 x hx
theorem mem_wdel {x : Plc × List Pc} {ws : Wls} {p : Plc} : x ∈ wdel ws p ↔ x ∈ ws ∧ x.1 ≠ p := by simp [wdel]
theorem rising_wdel {ws : Wls} (h : Rising ws) (p : Plc) : Rising (wdel ws p) := List.Pairwise.filter _ h
theorem rising_wset {ws : Wls} (h : Rising ws) (p : Plc) (f : List Pc) : Rising (wset ws p f) := by
 unfold wset
 split
 ·exact rising_wdel h p
 ·exact rising_ins (rising_wdel h p) fun x hx => (mem_wdel.1 hx).2
theorem mem_wset {x : Plc × List Pc} {ws : Wls} {p : Plc} {f : List Pc} : x ∈ wset ws p f ↔ (x = (p, f) ∧ f ≠ []) ∨ (x ∈ ws ∧ x.1 ≠ p) := by
 unfold wset
 split
 ·rename_i h; rw [mem_wdel]; simp [h]
 ·rename_i h; rw [mem_ins, mem_wdel]; simp [h]
theorem wellF_none {ws : Wls} {p : Plc} (hn : ∀ x ∈ ws, x.1 ≠ p) : wellF ws p = [] := by
 unfold wellF;rw [List.find?_eq_none.2 fun x hx => by simpa using hn x hx]
 rfl
theorem wellF_cases (ws : Wls) (p : Plc) : ((∀ x ∈ ws, x.1 ≠ p) ∧ wellF ws p = []) ∨ ∃ f, (p, f) ∈ ws ∧ wellF ws p = f := by
 cases e : ws.find? (fun x => x.1 == p) with
 | none =>
  have h : ∀ x ∈ ws, x.1 ≠ p := fun x hx => by simpa using List.find?_eq_none.1 e x hx
  exact .inl ⟨h, wellF_none h⟩
 | some x =>
  have h1 := List.mem_of_find?_eq_some e;have h2 : x.1 = p := by simpa using List.find?_some e
  refine .inr ⟨x.2, ?_, by unfold wellF; rw [e]; rfl⟩;rw [← h2]; exact h1
def liq : Wls → Int
 | [] => 0
 | x :: r => tot x.2 + liq r
theorem liq_ins (x : Plc × List Pc) (l : Wls) : liq (ins x l) = tot x.2 + liq l := by
 induction l with
 | nil => rfl
 | cons y r ih =>
  unfold ins
  split
  ·rfl
  ·simp only [liq, ih]; omega
theorem liq_wdel {ws : Wls} (h : Rising ws) (p : Plc) : liq (wdel ws p) = liq ws - tot (wellF ws p) := by
 induction ws with
 | nil => simp [wdel, liq, wellF, tot]
 | cons y r ih =>
  obtain ⟨h1, h2⟩ := List.pairwise_cons.1 h;have i := ih h2
  by_cases e : y.1 = p
  ·have hn : ∀ x ∈ r, x.1 ≠ p := fun x hx e2 => plt_ne (h1 x hx) (by rw [e, e2])
   have e1 : wdel (y :: r) p = wdel r p := by simp [wdel, e]
   have e2 : wellF (y :: r) p = y.2 := by simp [wellF, e]
   rw [wellF_none hn] at i;simp only [tot] at i;rw [e1, e2, i];simp only [liq];omega
  ·have e1 : wdel (y :: r) p = y :: wdel r p := by simp [wdel, e]
   have e2 : wellF (y :: r) p = wellF r p := by simp [wellF, e]
   rw [e1, e2];simp only [liq, i];omega
theorem liq_wset {ws : Wls} (h : Rising ws) (p : Plc) (f : List Pc) : liq (wset ws p f) = liq ws - tot (wellF ws p) + tot f := by
 unfold wset
 split
 ·rename_i e; rw [liq_wdel h, e]; simp only [tot]; omega
 ·rw [liq_ins, liq_wdel h]; simp only; omega
def seatOf (l : List Sit) (n : Int) : Option Sit := l.find? fun s => s.slot == n
def wareOf (l : List Sit) (p : Plc) : Option Wr := match seatOf l p.1 with
 | some s => if spotOk p.2.1 p.2.2 s.ware.rows s.ware.cols = true then some s.ware else none
 | none => none
def wellM (l : List Sit) (p : Plc) : Int × Int := match wareOf l p with
 | some a => if a.kind = 1 then (a.cap, 0) else (0, 6)
 | none => (0, 5)
def rackIn (l : List Sit) (n : Int) : List Plc := match seatOf l n with
 | some s => if s.ware.kind = 2 then (spots s.ware.rows.toNat (s.ware.rows.toNat * s.ware.cols.toNat)).map fun p => (n, (p.1 : Int), (p.2 : Int)) else []
 | none => []
def tipsL (l : List Sit) : List Plc := (List.range 12).flatMap fun (k : Nat) => rackIn l ((k : Int) + 1)
def tipM (l : List Sit) : Int := match tipsL l with
 | [] => 0
 | p :: _ => match wareOf l p with
  | some a => a.cap
  | none => 0
structure Sta where
 wells : Wls
 tip : Bool
 held : List Pc
 touched : List ByteArray
 used : Int
 heat : Int
 clock : Int
abbrev sta0 : Sta := ⟨[], false, [], [], 0, 0, 0⟩
structure Acn where
 kind : Int
 pl : Plc
 label : ByteArray
 vol : Int
 value : Int
 time : Int
def mayHold (f : List Pc) (m : Int) : Bool := decide (fref f = 0) && decide (plainL f = f) && decide (tot f ≤ m)
def wellOk (l : List Sit) (x : Plc × List Pc) : Bool := decide ((wellM l x.1).2 = 0) && decide (x.2 ≠ []) && mayHold x.2 (wellM l x.1).1
def mayFill (l : List Sit) (ws : Wls) : Bool := ws.all (wellOk l) && decide (ws.Pairwise fun x y => pltB x.1 y.1 = true)
def drops (t : List ByteArray) : List Pc := t.map fun x => (x, 1)
def ltT (a b : ByteArray) : Bool := decide (a.data.toList < b.data.toList)
def mayTouch (t : List ByteArray) (h : List Pc) : Bool := decide (t.length ≤ 100) && decide (t.Pairwise fun a b => ltT a b = true) && (withR h (drops t)).1
def mayTake (l : List Sit) (s : Sta) : Bool :=
 if s.tip = true then inR 1 (tipsL l).length s.used && (mayHold s.held (tipM l) && mayTouch s.touched s.held)
 else inR 0 (tipsL l).length s.used && (decide (s.held = []) && decide (s.touched = []))
def mayB (l : List Sit) (s : Sta) : Bool := mayFill l s.wells && (mayTake l s && (inR 0 1000000000 s.heat && inR 0 1000000000 s.clock))
def aimR (l : List Sit) (a : Acn) : Int × Int := if (wellM l a.pl).2 = 0 then (if inR 1 1000000000 a.vol = true then ((wellM l a.pl).1, 0) else ((wellM l a.pl).1, 2)) else wellM l a.pl
def togR (f g : List Pc) (m : Int) : List Pc × Int := if m < (totR f).1 + (totR g).1 then ([], 9) else putR f g
def insT (x : ByteArray) : List ByteArray → List ByteArray
 | [] => [x]
 | y :: r => if ltT x y = true then x :: y :: r else if x = y then y :: r else y :: insT x r
def labsR : List Pc → List ByteArray
 | [] => []
 | p :: r => if 0 < p.2 then insT p.1 (labsR r) else labsR r
def fillA (l : List Sit) (s : Sta) (a : Acn) : Sta × Int :=
 if (aimR l a).2 ≠ 0 then (s, (aimR l a).2)
 else if fref [(a.label, a.vol)] ≠ 0 then (s, fref [(a.label, a.vol)])
 else if (togR (wellF s.wells a.pl) [(a.label, a.vol)] (aimR l a).1).2 ≠ 0 then (s, (togR (wellF s.wells a.pl) [(a.label, a.vol)] (aimR l a).1).2)
 else ({ s with wells := wset s.wells a.pl (togR (wellF s.wells a.pl) [(a.label, a.vol)] (aimR l a).1).1 }, 0)
def tipA (l : List Sit) (s : Sta) : Sta × Int :=
 if s.tip = true then (s, 12) else if ((tipsL l).length : Int) ≤ s.used then (s, 19) else ({ s with tip := true, used := s.used + 1 }, 0)
def dropA (s : Sta) : Sta × Int := if s.tip = true then ({ s with tip := false, held := [], touched := [] }, 0) else (s, 12)
def drawA (l : List Sit) (s : Sta) (a : Acn) : Sta × Int :=
 if (aimR l a).2 ≠ 0 then (s, (aimR l a).2)
 else if s.tip = false then (s, 12)
 else if (drawF a.vol (wellF s.wells a.pl)).2.2 ≠ 0 then (s, (drawF a.vol (wellF s.wells a.pl)).2.2)
 else if (withR (drops s.touched) (wellF s.wells a.pl)).1 = false then (s, 11)
 else if (togR s.held (drawF a.vol (wellF s.wells a.pl)).1 (tipM l)).2 ≠ 0 then (s, (togR s.held (drawF a.vol (wellF s.wells a.pl)).1 (tipM l)).2)
 else ({ s with wells := wset s.wells a.pl (drawF a.vol (wellF s.wells a.pl)).2.1, held := (togR s.held (drawF a.vol (wellF s.wells a.pl)).1 (tipM l)).1, touched := labsR (wellF s.wells a.pl) }, 0)
def putA (l : List Sit) (s : Sta) (a : Acn) : Sta × Int :=
 if (aimR l a).2 ≠ 0 then (s, (aimR l a).2)
 else if s.tip = false then (s, 12)
 else if (drawF a.vol s.held).2.2 ≠ 0 then (s, (drawF a.vol s.held).2.2)
 else if (togR (wellF s.wells a.pl) (drawF a.vol s.held).1 (aimR l a).1).2 ≠ 0 then (s, (togR (wellF s.wells a.pl) (drawF a.vol s.held).1 (aimR l a).1).2)
 else ({ s with wells := wset s.wells a.pl (togR (wellF s.wells a.pl) (drawF a.vol s.held).1 (aimR l a).1).1, held := (drawF a.vol s.held).2.1 }, 0)
def warmA (s : Sta) (a : Acn) : Sta × Int := if inR 0 1000000000 a.value = true then ({ s with heat := a.value }, 0) else (s, 2)
def passA (s : Sta) (a : Acn) : Sta × Int :=
 if inR 0 1000000000 a.time = true then (if 1000000000 < s.clock + a.time then (s, 8) else ({ s with clock := s.clock + a.time }, 0)) else (s, 2)
def shakeA (s : Sta) (a : Acn) : Sta × Int := if inR 0 1000000000 a.value = true then passA s a else (s, 2)
def doA (l : List Sit) (s : Sta) (a : Acn) : Sta × Int :=
 if a.kind = 5 then fillA l s a else if a.kind = 6 then tipA l s else if a.kind = 7 then dropA s else if a.kind = 8 then drawA l s a
 else if a.kind = 9 then putA l s a else if a.kind = 11 then warmA s a else if a.kind = 12 then passA s a else if a.kind = 13 then shakeA s a
 else if a.kind = 14 then passA s a else (s, 6)
def runA (l : List Sit) : Sta → Nat → List Acn → Sta × Nat × Int
 | s, k, [] => (s, k, 0)
 | s, k, a :: r => if (doA l s a).2 = 0 then runA l (doA l s a).1 (k + 1) r else (s, k, (doA l s a).2)
end Go.Proofs.YtcajifelbldjnaaGreatDoor
namespace Go.Proofs.YtcajifelbldjnaaGreatDoor
open Go.RowKit
def coversB (ops : Array Oper) : Nat → Nat → Nat → Bool
 | 0, _, _ => false
 | n + 1, i, j => match ops[i]? with
  | none => false
  | some o => o.after.any fun e => Region.binds .any e && (e.on == j || coversB ops n e.on j)
def seqB (ops : Array Oper) (k : Nat) : Bool := (List.range ops.size).all fun i => decide (i < k) || (List.range i).all fun j => coversB ops ops.size i j
def Closed (ops : Array Oper) (listed : Array Bool) : Prop := ∀ (i : Nat) (o : Oper), ops[i]? = some o → listed[i]? = some true → ∀ e ∈ o.after, Region.binds .any e = true → listed[e.on]? = some true
theorem getD_listed {listed : Array Bool} {i : Nat} (h : listed.getD i false = true) : listed[i]? = some true := by
 rw [Array.getD_eq_getD_getElem?] at h
 cases e : listed[i]? with
 | none => rw [e] at h; simp at h
 | some b => rw [e] at h; simp at h; rw [h]
theorem covers_listed {ops : Array Oper} {listed : Array Bool} (hc : Closed ops listed) : ∀ (n i j : Nat), (∀ o, ops[i]? = some o → ∀ e ∈ o.after, Region.binds .any e = true → listed[e.on]? = some true) → coversB ops n i j = true → listed[j]? = some true := by
 intro n
 induction n with
 | zero => intro i j _ h; simp [coversB] at h
 | succ n ih =>
  intro i j hp h;unfold coversB at h
  cases ho : ops[i]? with
  | none => rw [ho] at h; simp at h
  | some o =>
   rw [ho] at h;obtain ⟨e, he, h2⟩ := Array.any_eq_true'.1 h;simp only [Bool.and_eq_true, Bool.or_eq_true, beq_iff_eq] at h2;have hl := hp o ho e he h2.1
   rcases h2.2 with e2 | h3
   ·rw [← e2]; exact hl
   ·exact ih e.on j (fun o' ho' => hc e.on o' ho' hl) h3
section
variable {P : Program} {Q : Exit → Act → World → Prop} {a : Act} {m : List Bool} {V : Nat → Value → World → Prop} {w0 : World} {ops : Array Oper} {plan : Plan} {k : Nat}
theorem ready_pre {listed : Array Bool} {i : Nat} (hi : i ∈ Region.ready .any ops listed) : i < ops.size ∧ listed.getD i true = false ∧ ∀ o, ops[i]? = some o → ∀ e ∈ o.after, Region.binds .any e = true → listed[e.on]? = some true := by
 simp only [Region.ready, List.mem_filter, List.mem_range, Bool.and_eq_true] at hi;obtain ⟨hlt, hun, hpre⟩ := hi;refine ⟨hlt, by simpa using hun, fun o ho e he hb => ?_⟩;rw [ho] at hpre;simp only [Option.map_some, Option.getD_some] at hpre;have h4 := Array.all_eq_true'.1 hpre e he;rw [hb] at h4;simp only [Bool.not_true, Bool.false_or] at h4;exact getD_listed h4
theorem closed_next {listed : Array Bool} (hc : Closed ops listed) {i : Nat} (hi : i ∈ Region.ready .any ops listed) : Closed ops (listed.setIfInBounds i true) := by
 obtain ⟨_, _, hp⟩ := ready_pre hi
 have key : ∀ j, listed[j]? = some true → (listed.setIfInBounds i true)[j]? = some true := fun j h => by
  rw [Array.getElem?_setIfInBounds]
  split
  ·split
   ·rfl
   ·rename_i h1 h2; subst h1; rw [Array.getElem?_eq_none (by omega)] at h; cases h
  ·exact h
 intro j o ho hl e he hb
 by_cases h : i = j
 ·subst h; exact key _ (hp o ho e he hb)
 ·rw [Array.getElem?_setIfInBounds, if_neg h] at hl
  exact key _ (hc j o ho hl e he hb)
theorem seq_step (hmono : ∀ d v w w', V d v w → bw w w' → V d v w') (hnd : nodupB (plan.map (·.1)) = true) (hall : planAll ops m a.tmps.size (ops.toList.take k) plan = true) (hob : Obls P Q a m V w0 (ops.toList.take k) plan)
  {listed : Array Bool} {i : Nat} (hik : i < k) (hsu : ∀ j, k ≤ j → listed[j]? ≠ some true) (hi : i ∈ Region.ready .any ops listed) {a' : Act} {w : World} (h : Inv a m V w0 ops listed a' w) :
  wpOp P ops Q i (fun a2 w2 => Inv a m V w0 ops (listed.setIfInBounds i true) a2 w2) a' w := by
 obtain ⟨hlt, hun, hpre⟩ := ready_pre hi;obtain ⟨o, ho⟩ : ∃ o, ops[i]? = some o := ⟨ops[i], by simp [hlt]⟩;have hpre := hpre o ho;have hoL : (ops.toList.take k)[i]? = some o := by rw [List.getElem?_take, if_pos hik]; simpa using ho
 obtain ⟨p, hp, h1⟩ := planAll_at hall hoL;have hO := obls_at hob hoL hp;simp only [planOne, Bool.and_eq_true] at h1;obtain ⟨⟨⟨⟨hd, hm⟩, hdn⟩, hps⟩, hg⟩ := h1;have hd' : o.dst = some p.1 := by simpa using hd
 have hm' := getD_true hm;obtain ⟨f, rfl, hb, hV⟩ := h
 have hav : ∀ l : List Nat, (∀ d ∈ l, d ∈ p.2.1) → AllV V f w l := by
  intro l
  induction l with
  | nil => intro _; trivial
  | cons d l ih =>
   intro hl;refine ⟨?_, ih fun x hx => hl x (by simp [hx])⟩;have h2 := List.all_eq_true.1 hps d (hl d (by simp));obtain ⟨e, he, h3⟩ := Array.any_eq_true'.1 h2;simp only [Bool.and_eq_true] at h3;have h5 : (ops[e.on]?).bind (·.dst) = some d := by simpa using h3.2
   obtain ⟨oe, hoe, hde⟩ := Option.bind_eq_some_iff.1 h5;exact hV e.on oe d hoe hde (hpre e he h3.1)
 have hav := hav p.2.1 fun _ h => h
 have hfin : ∀ v w2, V p.1 v w2 → bw w w2 → Inv a m V w0 ops (listed.setIfInBounds i true) ((over a m f).put (some p.1) v) w2 := by
  intro v w2 hv hb2;refine ⟨upd f p.1 v, over_put a m f p.1 v hm', hb.trans (hb2.mono hb.size), ?_⟩;intro j oj d hj hdj hlj
  by_cases e : j = i
  ·subst e
   rw [ho] at hj; cases hj;rw [hd'] at hdj; cases hdj;rw [upd_same]; exact hv
  ·have hlj2 : listed[j]? = some true := by simpa [Array.getElem?_setIfInBounds, Ne.symm e] using hlj
   have hjk : j < k := by
    by_cases h : j < k
    ·exact h
    ·exact absurd hlj2 (hsu j (by omega))
   have hne : d ≠ p.1 := by
    intro e2; subst e2;obtain ⟨pj, hpj, h1j⟩ := planAll_at hall (i := j) (o := oj) (by rw [List.getElem?_take, if_pos hjk]; simpa using hj);simp only [planOne, Bool.and_eq_true] at h1j;have hdj2 : oj.dst = some pj.1 := by simpa using h1j.1.1.1.1
    rw [hdj] at hdj2;refine e (nodup_at hnd (i := j) (j := i) (d := p.1) ?_ ?_)
    ·simp only [List.getElem?_map, hpj, Option.map_some, Option.some.injEq]; exact (Option.some.inj hdj2).symm
    ·simp only [List.getElem?_map, hp, Option.map_some]
   rw [upd_other hne];exact hmono _ _ _ _ (hV j oj d hj hdj hlj2) hb2
 have hDoes : Does P Q a m V o p.1 f w → o.wp P (over a m f) w (fun a2 w2 => Inv a m V w0 ops (listed.setIfInBounds i true) a2 w2) Q := fun hD =>
  hD _ fun a2 w2 ⟨v, hv, ha, hb2⟩ => by subst ha; exact hfin v w2 hv hb2
 have hO := hO f w hb hav;unfold wpOp;rw [ho];simp only
 cases hgo : o.guard with
 | none =>
  rw [hgo] at hg;have hw : Region.wanted o (yielded ops (over a m f).tmps) = true := by simp [Region.wanted, hgo]
  rw [if_pos hw]
  cases hp2 : p.2.2 with
  | none => rw [hp2] at hO; exact .inl (hDoes hO)
  | some x => rw [hp2] at hg; simp at hg
 | some jb =>
  obtain ⟨j, b⟩ := jb;rw [hgo] at hg
  cases hp2 : p.2.2 with
  | none => rw [hp2] at hg; simp at hg
  | some sb =>
   obtain ⟨s, b'⟩ := sb;rw [hp2] at hg hO;simp only [Bool.and_eq_true] at hg;obtain ⟨⟨⟨hs, hbb⟩, hms⟩, hsn⟩ := hg;have hbb : b = b' := by simpa using hbb
   subst hbb;have hs : (ops[j]?).bind (·.dst) = some s := by simpa using hs
   have hgs : (over a m f).tmps[s]? = some (f s) := by
    have := overL_at f m 0 s a.tmps.toList (getD_true hms) (by simpa using hsn)
    simpa [over] using this
   have hy : yielded ops (over a m f).tmps j = match f s with | .bool x => some x | _ => none := by
    unfold yielded;rw [hs];simp only [Option.bind_some, hgs]
    cases f s <;> rfl
   by_cases hw : f s = .bool b
   ·have : Region.wanted o (yielded ops (over a m f).tmps) = true := by simp [Region.wanted, hgo, hy, hw]
    rw [if_pos this];exact .inl (hDoes (hO.1 hw))
   ·have : ¬ Region.wanted o (yielded ops (over a m f).tmps) = true := by
     simp only [Region.wanted, hgo, hy, beq_iff_eq]
     cases e : f s <;> simp
     rename_i x;intro e2; subst e2; exact hw e
    rw [if_neg this, hd'];exact hfin _ _ (hO.2 hw) (brf)
def St (P : Program) (Q : Exit → Act → World → Prop) (a : Act) (m : List Bool) (V : Nat → Value → World → Prop) (w0 : World) (ops : Array Oper) (k : Nat) (listed : Array Bool) (a' : Act) (w : World) : Prop :=
 Closed ops listed ∧ (((∀ j, k ≤ j → listed[j]? ≠ some true) ∧ Inv a m V w0 ops listed a' w) ∨ ∃ i, k ≤ i ∧ (∀ j, j < ops.size → (listed[j]? = some true ↔ j < i)) ∧ wpList P ops Q (ops.toList.drop i) a' w)
theorem seq_any (hmono : ∀ d v w w', V d v w → bw w w' → V d v w') (hback : backB 0 ops.toList = true) (hnd : nodupB (plan.map (·.1)) = true) (hall : planAll ops m a.tmps.size (ops.toList.take k) plan = true) (hseq : seqB ops k = true) (hk : k ≤ ops.size)
  (hob : Obls P Q a m V w0 (ops.toList.take k) plan) (hsuf : ∀ f w, bw w0 w → AllP V f w plan → wpList P ops Q (ops.toList.drop k) (over a m f) w) :
  ∀ (fuel : Nat) (listed : Array Bool) (a' : Act) (w : World), listed.size = ops.size → listed.toList.count false ≤ fuel → St P Q a m V w0 ops k listed a' w → wpAny P .any ops Q fuel listed a' w := by
 have hcov : ∀ {listed : Array Bool}, Closed ops listed → ∀ {i : Nat}, i ∈ Region.ready .any ops listed → k ≤ i → ∀ j, j < i → listed[j]? = some true := by
  intro listed hc i hi hki j hj;obtain ⟨hlt, _, hp⟩ := ready_pre hi;unfold seqB at hseq;have h1 := List.all_eq_true.1 hseq i (by simpa using hlt);rw [Bool.or_eq_true] at h1
  rcases h1 with h1 | h1
  ·simp at h1; omega
  ·exact covers_listed hc _ i j hp (List.all_eq_true.1 h1 j (by simpa using hj))
 have htoSuf : ∀ {listed : Array Bool} {a' : Act} {w : World}, Inv a m V w0 ops listed a' w → (∀ j, j < k → listed[j]? = some true) → wpList P ops Q (ops.toList.drop k) a' w := by
  rintro listed a' w ⟨f, rfl, hb, hV⟩ hl;refine hsuf f w hb (allP_of hall fun i o d ho hd => ?_)
  have hik : i < k := by
   by_cases h : i < k
   ·exact h
   ·rw [List.getElem?_take, if_neg h] at ho; cases ho
  rw [List.getElem?_take, if_pos hik] at ho;exact hV i o d (by simpa using ho) hd (hl i hik)
 have hend : ∀ (listed : Array Bool) (a' : Act) (w : World), listed.size = ops.size → St P Q a m V w0 ops k listed a' w → Region.ready .any ops listed = [] → Q .normal a' w := by
  rintro listed a' w hsz ⟨_, h⟩ hr;have hal := all_listed hback hsz hr
  rcases h with ⟨hs, hI⟩ | ⟨i, hki, hl, hw⟩
  ·have hks : k = ops.size := by
    by_cases h : k < ops.size
    ·exact absurd (hal k h) (hs k (Nat.le_refl _))
    ·omega
   have := htoSuf hI fun j hj => hal j (by omega);rw [List.drop_eq_nil_of_le (by simp; omega)] at this;exact this
  ·have : ops.size ≤ i := by
    by_cases h : i < ops.size
    ·have := (hl i h).1 (hal i h); omega
    ·omega
   rw [List.drop_eq_nil_of_le (by simpa using this)] at hw;exact hw
 have hstepL : ∀ {listed : Array Bool} {a' : Act} {w : World} {i : Nat}, i < ops.size → k ≤ i → (∀ j, j < ops.size → (listed[j]? = some true ↔ j < i)) → Closed ops (listed.setIfInBounds i true) → listed.size = ops.size → wpList P ops Q (ops.toList.drop i) a' w →
   wpOp P ops Q i (fun a2 w2 => St P Q a m V w0 ops k (listed.setIfInBounds i true) a2 w2) a' w := by
  intro listed a' w i hi hki hl hc hsz hw
  have hd : ops.toList.drop i = ops[i] :: ops.toList.drop (i + 1) := by
   rw [List.drop_eq_getElem_cons (by simpa using hi)]; simp
  have hnext : ∀ a2 w2, wpList P ops Q (ops.toList.drop (i + 1)) a2 w2 → St P Q a m V w0 ops k (listed.setIfInBounds i true) a2 w2 := fun a2 w2 h =>
   ⟨hc, .inr ⟨i + 1, by omega, fun j hj => by
    rw [Array.getElem?_setIfInBounds]
    by_cases e : i = j
    ·subst e; rw [if_pos rfl, if_pos (by omega)]; simp
    ·rw [if_neg e, hl j hj]; omega, h⟩⟩
  rw [hd] at hw;unfold wpList at hw;unfold wpOp;rw [show ops[i]? = some ops[i] by simp [hi]];simp only
  split
  ·rename_i hwn
   rw [if_pos hwn] at hw;exact hw.imp (Oper.wp_mono hnext) id
  ·rename_i hwn
   rw [if_neg hwn] at hw;exact hnext _ _ hw
 intro fuel
 induction fuel with
 | zero =>
  intro listed a' w hsz hc hI
  have hr : Region.ready .any ops listed = [] := by
   rw [List.eq_nil_iff_forall_not_mem];intro i hi;obtain ⟨hlt, h1, _⟩ := ready_pre hi;have h0 : listed.toList.count false = 0 := by omega
   rw [List.count_eq_zero] at h0;have hlt2 : i < listed.size := by omega
   simp only [Array.getD_eq_getD_getElem?, Array.getElem?_eq_getElem hlt2, Option.getD_some] at h1;exact h0 (by rw [← h1]; simp)
  exact ⟨hr, hend listed a' w hsz hI hr⟩
 | succ fuel ih =>
  intro listed a' w hsz hc hI;refine ⟨hend listed a' w hsz hI, fun i hi => ?_⟩;have hrp := ready_pre hi;have hlt2 : i < listed.size := by omega
  have h1 := hrp.2.1;simp only [Array.getD_eq_getD_getElem?, Array.getElem?_eq_getElem hlt2, Option.getD_some] at h1
  have hcount : (listed.setIfInBounds i true).toList.count false ≤ fuel := by
   have hl : i < listed.toList.length := by simpa using hlt2
   have h2 : listed.toList[i] = false := by simpa using h1
   rw [Array.toList_setIfInBounds, List.count_set hl, h2];have hp : 0 < listed.toList.count false := List.count_pos_iff.2 (by rw [← h2]; exact List.getElem_mem _);rw [if_pos (by rfl), if_neg (by decide)];omega
  have hnl : listed[i]? ≠ some true := by rw [Array.getElem?_eq_getElem hlt2, h1]; simp
  refine wpOp_mono (K := fun a2 w2 => St P Q a m V w0 ops k (listed.setIfInBounds i true) a2 w2) (fun a2 w2 h2 => ih _ _ _ (by simpa using hsz) hcount h2) ?_;obtain ⟨hcl, hS⟩ := hI;have hcl2 := closed_next hcl hi
  rcases hS with ⟨hsu, hI⟩ | ⟨i0, hki, hl, hw⟩
  ·by_cases hik : i < k
   ·refine wpOp_mono (fun a2 w2 h2 => ⟨hcl2, .inl ⟨fun j hj => ?_, h2⟩⟩) (seq_step hmono hnd hall hob hik hsu hi hI)
    rw [Array.getElem?_setIfInBounds, if_neg (by omega)];exact hsu j hj
   ·have hlow := hcov hcl hi (by omega)
    have he : i = k := by
     by_cases h : i = k
     ·exact h
     ·exact absurd (hlow k (by omega)) (hsu k (Nat.le_refl _))
    subst he;refine hstepL hrp.1 (Nat.le_refl _) (fun j hj => ⟨fun h => ?_, fun h => hlow j h⟩) hcl2 hsz (htoSuf hI hlow)
    by_cases h2 : j < i
    ·exact h2
    ·exact absurd h (hsu j (by omega))
  ·have hge : i0 ≤ i := by
    by_cases h : i < i0
    ·exact absurd ((hl i hrp.1).2 h) hnl
    ·omega
   have hlow := hcov hcl hi (by omega)
   have he : i = i0 := by
    by_cases h : i = i0
    ·exact h
    ·have := (hl i0 (by omega)).1 (hlow i0 (by omega)); omega
   subst he;exact hstepL hrp.1 hki hl hcl2 hsz hw
theorem region_seq {id : Nat} (k : Nat) (m : List Bool) (plan : Plan) (V : Nat → Value → World → Prop) (hmix : P.follows .mixedOrders = true) (hback : backB 0 ops.toList = true) (hnd : nodupB (plan.map (·.1)) = true) (hall : planAll ops m a.tmps.size (ops.toList.take k) plan = true)
  (hseq : seqB ops k = true) (hk : k ≤ ops.size) (hmono : ∀ d v w w', V d v w → bw w w' → V d v w') (hob : Obls P Q a m V w0 (ops.toList.take k) plan)
  (hsuf : ∀ f w, bw w0 w → AllP V f w plan → wpList P ops Q (ops.toList.drop k) (over a m f) w) : (Code.region id ops true).wp P Q a w0 := by
 refine wp_region_any hmix (seq_any hmono hback hnd hall hseq hk hob hsuf _ _ _ _ (by simp) (by simp) ⟨?_, .inl ⟨?_, fun k => (a.tmps.toList[k]?).getD undef, (over_start a m).symm, ⟨rfl, rfl, rfl, Nat.le_refl _, fun _ _ => rfl⟩, ?_⟩⟩)
 ·intro i o _ h
  simp [Array.getElem?_replicate] at h
 ·intro j _ h
  simp [Array.getElem?_replicate] at h
 ·intro i o d _ _ h
  simp [Array.getElem?_replicate] at h
end
abbrev zWr : Wr := ⟨⟨#[]⟩, 0, 0, 0, 0, 0, 0, 0, 0, 0, 0, 0⟩
abbrev zSt : Sit := ⟨0, zWr, ⟨#[]⟩⟩
abbrev put14 (w : World) (b : Nat) (s : Sit) : World := (((((((((((((w.setCell ⟨b, 0, none⟩ (.int .i64 s.slot)).setCell ⟨b, 1, none⟩ (.string s.ware.name)).setCell ⟨b, 2, none⟩ (.int .i64 s.ware.kind)).setCell ⟨b, 3, none⟩ (.int .i64 s.ware.rows)).setCell ⟨b, 4, none⟩ (.int .i64 s.ware.cols)).setCell ⟨b, 5, none⟩ (.int .i64 s.ware.x)).setCell ⟨b, 6, none⟩ (.int .i64 s.ware.y)).setCell ⟨b, 7, none⟩ (.int .i64 s.ware.pitch)).setCell ⟨b, 8, none⟩ (.int .i64 s.ware.wid)).setCell ⟨b, 9, none⟩ (.int .i64 s.ware.len)).setCell ⟨b, 10, none⟩ (.int .i64 s.ware.hei)).setCell ⟨b, 11, none⟩ (.int .i64 s.ware.deep)).setCell ⟨b, 12, none⟩ (.int .i64 s.ware.cap)).setCell ⟨b, 13, none⟩ (.string s.name)
theorem below_put14 {n b : Nat} {w w' : World} {s : Sit} (h : Below n w w') (hn : n ≤ b) : Below n w (put14 w' b s) :=
 (((((((((((((h.setCell hn _).setCell hn _).setCell hn _).setCell hn _).setCell hn _).setCell hn _).setCell hn _).setCell hn _).setCell hn _).setCell hn _).setCell hn _).setCell hn _).setCell hn _).setCell hn _
structure T3 (b : Nat) (x y z : Int) (w : World) : Prop where
 lt : b < w.heap.size
 c0 : w.cell? ⟨b, 0, none⟩ = some (.int .i64 x)
 c1 : w.cell? ⟨b, 1, none⟩ = some (.int .i64 y)
 c2 : w.cell? ⟨b, 2, none⟩ = some (.int .i64 z)
 f0 : w.frozen? ⟨b, 0, none⟩ = false
 f1 : w.frozen? ⟨b, 1, none⟩ = false
 f2 : w.frozen? ⟨b, 2, none⟩ = false
theorem T3.later {b : Nat} {x y z : Int} {w w1 : World} (h : T3 b x y z w) (hb : bw w w1) : T3 b x y z w1 :=
 ⟨Nat.lt_of_lt_of_le h.lt hb.size, cell_later hb h.c0, cell_later hb h.c1, cell_later hb h.c2, (hb.frozen (p := ⟨b, 0, none⟩) h.lt).trans h.f0, (hb.frozen (p := ⟨b, 1, none⟩) h.lt).trans h.f1, (hb.frozen (p := ⟨b, 2, none⟩) h.lt).trans h.f2⟩
theorem T3.new (w : World) (x y z : Int) (t : Nat) (n : Nat) (hn : n = w.heap.size) : T3 n x y z (w.alloc (.cells #[.int .i64 x, .int .i64 y, .int .i64 z] t)) := by
 subst hn;exact ⟨by simp, by go_simp, by go_simp, by go_simp, by go_simp, by go_simp, by go_simp⟩
abbrev plo (n r c : Int) : Obj := .cells #[.int .i64 n, .int .i64 r, .int .i64 c] 55
theorem orL_three {p c q : Int} (h : orL [p, c, q] = 0) : p = 0 ∧ c = 0 ∧ q = 0 := by
 simp only [orL] at h
 split at h
 ·split at h
  ·split at h
   ·exact ⟨by assumption, by assumption, by assumption⟩
   ·omega
  ·omega
 ·omega
theorem orL_all : ∀ {l : List Int}, orL l = 0 → ∀ n ∈ l, n = 0
 | [], _, n, hn => by simp at hn
 | m :: l, h, n, hn => by
  simp only [orL] at h
  split at h
  ·rename_i h0
   rcases List.mem_cons.1 hn with e | e
   ·rw [e]; exact h0
   ·exact orL_all h n e
  ·omega
theorem dchk_in {l : List Sit} (h : dchk l = 0) : l.length ≤ 12 ∧ ∀ k (hk : k < l.length), plc (l[k]'hk) = 0 ∧ chk (l[k]'hk).ware = 0 ∧ fit (l.take k) (l[k]'hk) = 0 := by
 unfold dchk at h
 split at h
 ·omega
 ·refine ⟨by omega, fun k hk => ?_⟩
  have := orL_all h (errAt l k) (List.mem_map.2 ⟨k, List.mem_range.2 hk, rfl⟩);rw [errAt_lt hk] at this;exact orL_three this
theorem plc_in {s : Sit} (h : plc s = 0) : 1 ≤ s.slot ∧ s.slot ≤ 12 ∧ lab s.name = true := by
 unfold plc at h
 split at h
 ·rename_i h1
  split at h
  ·exact ⟨(inR_iff.1 h1).1, (inR_iff.1 h1).2, by assumption⟩
  ·omega
 ·omega
end Go.Proofs.YtcajifelbldjnaaGreatDoor
namespace Go.Proofs.YtcajifelbldjnaaGreatDoor
open Go.RowKit F
theorem pl_same {f : List Pc} (h : F.Pl f) : plainL f = f := pl_unique _ _ (pl_plainL h.nn) h (ex_plainL h.nn)
theorem mayHold_iff {f : List Pc} {m : Int} : mayHold f m = true ↔ fref f = 0 ∧ plainL f = f ∧ tot f ≤ m := by simp [mayHold, and_assoc]
theorem pl_of {f : List Pc} (hr : fref f = 0) (h : plainL f = f) : F.Pl f := by rw [← h]; exact pl_plainL (fref_in hr).2.1.nn
theorem togR_ok {f g : List Pc} {m : Int} (h : (togR f g m).2 = 0) :
  fref f = 0 ∧ fref g = 0 ∧ tot f + tot g ≤ m ∧ (togR f g m).1 = plainL (f ++ g) ∧ (plainL (f ++ g)).length ≤ 100 ∧ tot f + tot g ≤ 1000000000 := by
 unfold togR at h ⊢
 split at h
 ·simp at h
 ·rename_i hm
  rw [if_neg hm];unfold putR at h ⊢
  split at h
  ·rename_i hf
   split at h
   ·rename_i hg
    split at h
    ·simp at h
    ·rename_i ht
     split at h
     ·simp at h
     ·rename_i hl
      rw [if_pos hf, if_pos hg, if_neg ht, if_neg hl];simp only [totR, if_pos hf, if_pos hg] at hm;exact ⟨hf, hg, by omega, rfl, by omega, by omega⟩
   ·rename_i hg; exact absurd h hg
  ·rename_i hf; exact absurd h hf
theorem fref_plain {f g : List Pc} (hf : fref f = 0) (hg : fref g = 0) (hl : (plainL (f ++ g)).length ≤ 100) (ht : tot f + tot g ≤ 1000000000) : fref (plainL (f ++ g)) = 0 := by
 have h1 := fine_append (fref_in hf).2.1 (fref_in hg).2.1;have e : tot (f ++ g) ≤ 1000000000 := by rw [tot_append]; exact ht
 exact of_fref hl (fine_plainL h1 e) (by rw [tot_plainL]; exact e)
theorem mayHold_tog {f g : List Pc} {m : Int} (h : (togR f g m).2 = 0) : mayHold (togR f g m).1 m = true := by
 obtain ⟨hf, hg, hm, e, hl, ht⟩ := togR_ok h;rw [e, mayHold_iff];have h1 := fine_append (fref_in hf).2.1 (fref_in hg).2.1;exact ⟨fref_plain hf hg hl ht, pl_same (pl_plainL h1.nn), by rw [tot_plainL, tot_append]; exact hm⟩
theorem tot_tog {f g : List Pc} {m : Int} (h : (togR f g m).2 = 0) : tot (togR f g m).1 = tot f + tot g := by
 obtain ⟨_, _, _, e, _, _⟩ := togR_ok h;rw [e, tot_plainL, tot_append]
theorem drawF_ok {v : Int} {f : List Pc} (h : (drawF v f).2.2 = 0) : fref f = 0 ∧ 0 ≤ v ∧ v ≤ tot f ∧ (drawF v f).1 = (drawS v f).1 ∧ (drawF v f).2.1 = (drawS v f).2.1 := by
 unfold drawF at h ⊢
 split at h
 ·rename_i hf
  split at h
  ·simp at h
  ·rename_i hv
   split at h
   ·simp at h
   ·rename_i ht
    rw [if_pos hf, if_neg hv, if_neg ht];exact ⟨hf, by omega, by omega, rfl, rfl⟩
 ·rename_i hf; exact absurd h hf
theorem tot_drawF {v : Int} {f : List Pc} (h : (drawF v f).2.2 = 0) : tot (drawF v f).1 = v ∧ tot (drawF v f).2.1 = tot f - v := by
 obtain ⟨hf, h0, h1, e1, e2⟩ := drawF_ok h;rw [e1, e2];have h2 := tot_drawS v f;have h3 := drawS_enough h0 (fref_in hf).2.1.nn h1;omega
theorem mayHold_left {v m : Int} {f : List Pc} (h : (drawF v f).2.2 = 0) (hm : mayHold f m = true) : mayHold (drawF v f).2.1 m = true := by
 have ht := tot_drawF h;obtain ⟨hf, h0, h1, e1, e2⟩ := drawF_ok h;rw [mayHold_iff] at hm;rw [mayHold_iff, ht.2, e2];exact ⟨(draw_fine h0 hf).2, pl_same (ex_drawS h0 (fref_in hf).2.1.nn).1.2, by omega⟩
theorem ba_ext {a b : ByteArray} (h : a.data.toList = b.data.toList) : a = b := ByteArray.ext (Array.ext' h)
theorem ltT_iff {a b : ByteArray} : ltT a b = true ↔ a.data.toList < b.data.toList := by simp [ltT]
theorem ltT_trans {a b c : ByteArray} (h : ltT a b = true) (h2 : ltT b c = true) : ltT a c = true := by
 rw [ltT_iff] at *;exact List.lt_trans h h2
theorem ltT_ne {a b : ByteArray} (h : ltT a b = true) : a ≠ b := by
 rintro rfl;rw [ltT_iff] at h;exact List.lt_irrefl _ h
theorem ltT_total {a b : ByteArray} (hne : a ≠ b) (h : ¬ ltT a b = true) : ltT b a = true := by
 rw [ltT_iff] at *;exact Decidable.byContradiction fun hn => hne (ba_ext (List.le_antisymm (List.not_lt.1 hn) (List.not_lt.1 h)))
theorem mem_insT {x y : ByteArray} {l : List ByteArray} : x ∈ insT y l ↔ x = y ∨ x ∈ l := by
 induction l with
 | nil => simp [insT]
 | cons z r ih =>
  unfold insT
  split
  ·simp
  ·split
   ·rename_i e
    subst e;simp
   ·rw [List.mem_cons, ih, List.mem_cons]
    constructor
    ·rintro (h | h | h)
     ·exact .inr (.inl h)
     ·exact .inl h
     ·exact .inr (.inr h)
    ·rintro (h | h | h)
     ·exact .inr (.inl h)
     ·exact .inl h
     ·exact .inr (.inr h)
def RisT (t : List ByteArray) : Prop := t.Pairwise fun a b => ltT a b = true
theorem risT_insT {x : ByteArray} {l : List ByteArray} (h : RisT l) : RisT (insT x l) := by
 induction l with
 | nil => simp [insT, RisT]
 | cons z r ih =>
  obtain ⟨h1, h2⟩ := List.pairwise_cons.1 h;unfold insT
  split
  ·rename_i hlt
   refine List.pairwise_cons.2 ⟨fun y hy => ?_, h⟩
   rcases List.mem_cons.1 hy with rfl | hy
   ·exact hlt
   ·exact ltT_trans hlt (h1 y hy)
  ·rename_i hlt
   split
   ·exact h
   ·rename_i hne
    refine List.pairwise_cons.2 ⟨fun y hy => ?_, ih h2⟩
    rcases mem_insT.1 hy with rfl | hy
    ·exact ltT_total hne hlt
    ·exact h1 y hy
theorem length_insT (x : ByteArray) (l : List ByteArray) : (insT x l).length ≤ l.length + 1 := by
 induction l with
 | nil => simp [insT]
 | cons z r ih =>
  unfold insT
  split
  ·simp
  ·split
   ·simp
   ·simp; omega
theorem mem_labsR {x : ByteArray} {f : List Pc} : x ∈ labsR f ↔ ∃ p ∈ f, p.1 = x ∧ 0 < p.2 := by
 induction f with
 | nil => simp [labsR]
 | cons p r ih =>
  unfold labsR
  split
  ·rename_i h
   rw [mem_insT, ih];constructor
   ·rintro (rfl | ⟨q, hq, e⟩)
    ·exact ⟨p, by simp, rfl, h⟩
    ·exact ⟨q, by simp [hq], e⟩
   ·rintro ⟨q, hq, e, h2⟩
    rcases List.mem_cons.1 hq with rfl | hq
    ·exact .inl e.symm
    ·exact .inr ⟨q, hq, e, h2⟩
  ·rename_i h
   rw [ih];constructor
   ·rintro ⟨q, hq, e⟩
    exact ⟨q, by simp [hq], e⟩
   ·rintro ⟨q, hq, e, h2⟩
    rcases List.mem_cons.1 hq with rfl | hq
    ·exact absurd h2 h
    ·exact ⟨q, hq, e, h2⟩
theorem risT_labsR (f : List Pc) : RisT (labsR f) := by
 induction f with
 | nil => simp [labsR, RisT]
 | cons p r ih =>
  unfold labsR
  split
  ·exact risT_insT ih
  ·exact ih
theorem length_labsR (f : List Pc) : (labsR f).length ≤ f.length := by
 induction f with
 | nil => simp [labsR]
 | cons p r ih =>
  unfold labsR
  split
  ·have := length_insT p.1 (labsR r)
   simp; omega
  ·simp; omega
theorem risT_unique {a b : List ByteArray} (ha : RisT a) (hb : RisT b) (h : ∀ x, x ∈ a ↔ x ∈ b) : a = b := by
 have nd : ∀ {T : List ByteArray}, RisT T → T.Nodup := fun hT => List.Pairwise.imp (fun {x y} hxy => ltT_ne hxy) hT;have hp : a.Perm b := (List.perm_ext_iff_of_nodup (nd ha) (nd hb)).2 h;exact List.Perm.eq_of_pairwise (fun x y _ _ h1 h2 => absurd rfl (ltT_ne (ltT_trans h1 h2))) ha hb hp
theorem srt_labs {f S : List Pc} (hn : F.Nn f) (h : Srt f S) : S.map (·.1) = labsR f := by
 refine risT_unique ?_ (risT_labsR f) fun x => ?_
 ·exact List.pairwise_map.2 (h.1.imp fun {a b} hab => ltT_iff.2 hab)
 ·rw [mem_labsR, List.mem_map]
  constructor
  ·rintro ⟨p, hp, rfl⟩
   obtain ⟨h0, h1⟩ := (h.2 p).1 hp;obtain ⟨q, hq, e, h2⟩ := (sumL_pos hn (lb p)).1 (by omega);exact ⟨q, hq, ba_ext e, h2⟩
  ·rintro ⟨p, hp, rfl, h0⟩
   have h1 := (sumL_pos hn (lb p)).2 ⟨p, hp, rfl, h0⟩;exact ⟨(p.1, sumL f (lb p)), (h.2 _).2 ⟨h1, rfl⟩, rfl⟩
theorem wthn_iff {f g : List Pc} (hg : F.Nn g) : wthn f g = true ↔ ∀ p ∈ f, 0 < p.2 → ∃ q ∈ g, q.1 = p.1 ∧ 0 < q.2 := by
 unfold wthn;rw [List.all_eq_true];constructor
 ·intro h p hp h0
  have := h p hp;simp only [Bool.or_eq_true, decide_eq_true_eq] at this;obtain ⟨q, hq, e, h2⟩ := (sumL_pos hg p.1.data.toList).1 (by omega);exact ⟨q, hq, ba_ext e, h2⟩
 ·intro h p hp
  simp only [Bool.or_eq_true, decide_eq_true_eq]
  by_cases h0 : 0 < p.2
  ·obtain ⟨q, hq, e, h2⟩ := h p hp h0
   exact .inr ((sumL_pos hg p.1.data.toList).2 ⟨q, hq, by rw [e], h2⟩)
  ·exact .inl (by omega)
theorem drops_nn (t : List ByteArray) : F.Nn (drops t) := fun p hp => by
 obtain ⟨x, _, rfl⟩ := List.mem_map.1 hp;simp
theorem tot_drops (t : List ByteArray) : tot (drops t) = t.length := by
 induction t with
 | nil => rfl
 | cons x t ih =>
  have : drops (x :: t) = (x, 1) :: drops t := rfl;rw [this];simp only [tot, ih, List.length_cons];omega
theorem fref_drops {t : List ByteArray} (hl : t.length ≤ 100) (h : ∀ x ∈ t, lab x = true) : fref (drops t) = 0 := by
 refine of_fref (by simpa [drops] using hl) (fun p hp => ?_) (by rw [tot_drops]; omega);obtain ⟨x, hx, rfl⟩ := List.mem_map.1 hp;exact ⟨h x hx, by simp, by simp⟩
theorem withR_iff {f g : List Pc} : (withR f g).1 = true ↔ fref f = 0 ∧ fref g = 0 ∧ wthn f g = true := by
 unfold withR
 split
 ·rename_i h1
  split
  ·rename_i h2; simp [h1, h2]
  ·rename_i h2; simp [h1, h2]
 ·rename_i h1; simp [h1]
theorem mem_drops {t : List ByteArray} {p : Pc} : p ∈ drops t ↔ p.1 ∈ t ∧ p.2 = 1 := by
 unfold drops;rw [List.mem_map];constructor
 ·rintro ⟨x, hx, rfl⟩; exact ⟨hx, rfl⟩
 ·rintro ⟨hx, e⟩; exact ⟨p.1, hx, by rw [← e]⟩
theorem mayTouch_iff {t : List ByteArray} {h : List Pc} : mayTouch t h = true ↔ t.length ≤ 100 ∧ RisT t ∧ (withR h (drops t)).1 = true := by
 simp [mayTouch, and_assoc, RisT]
structure May (l : List Sit) (s : Sta) : Prop where
 wells : ∀ x ∈ s.wells, (wellM l x.1).2 = 0 ∧ x.2 ≠ [] ∧ mayHold x.2 (wellM l x.1).1 = true
 rising : Rising s.wells
 take : mayTake l s = true
 heat : 0 ≤ s.heat ∧ s.heat ≤ 1000000000
 clock : 0 ≤ s.clock ∧ s.clock ≤ 1000000000
theorem mayB_iff {l : List Sit} {s : Sta} : mayB l s = true ↔ May l s := by
 unfold mayB mayFill;simp only [Bool.and_eq_true, List.all_eq_true, decide_eq_true_eq, inR_iff];constructor
 ·rintro ⟨⟨h1, h2⟩, h3, h4, h5⟩
  refine ⟨fun x hx => ?_, h2, h3, h4, h5⟩;have := h1 x hx;simp only [wellOk, Bool.and_eq_true, decide_eq_true_eq, and_assoc] at this;exact this
 ·rintro ⟨h1, h2, h3, h4, h5⟩
  refine ⟨⟨fun x hx => ?_, h2⟩, h3, h4, h5⟩;simp only [wellOk, Bool.and_eq_true, decide_eq_true_eq, and_assoc];exact h1 x hx
theorem May.well {l : List Sit} {s : Sta} (h : May l s) (p : Plc) (h0 : 0 ≤ (wellM l p).1) : mayHold (wellF s.wells p) (wellM l p).1 = true := by
 rcases wellF_cases s.wells p with ⟨_, e⟩ | ⟨f, hf, e⟩
 ·rw [e, mayHold_iff]
  exact ⟨by decide, rfl, h0⟩
 ·rw [e]
  exact (h.wells _ hf).2.2
theorem wells_wset {l : List Sit} {ws : Wls} {p : Plc} {f : List Pc} (h : ∀ x ∈ ws, (wellM l x.1).2 = 0 ∧ x.2 ≠ [] ∧ mayHold x.2 (wellM l x.1).1 = true)
  (hm : (wellM l p).2 = 0) (hf : mayHold f (wellM l p).1 = true) : ∀ x ∈ wset ws p f, (wellM l x.1).2 = 0 ∧ x.2 ≠ [] ∧ mayHold x.2 (wellM l x.1).1 = true := by
 intro x hx
 rcases mem_wset.1 hx with ⟨rfl, hne⟩ | ⟨hx, _⟩
 ·exact ⟨hm, hne, hf⟩
 ·exact h x hx
theorem aimR_ok {l : List Sit} {a : Acn} (h : (aimR l a).2 = 0) : (wellM l a.pl).2 = 0 ∧ (aimR l a).1 = (wellM l a.pl).1 ∧ 1 ≤ a.vol ∧ a.vol ≤ 1000000000 := by
 unfold aimR at h ⊢
 split at h
 ·rename_i h1
  split at h
  ·rename_i h2
   rw [if_pos h1, if_pos h2];exact ⟨h1, rfl, (inR_iff.1 h2).1, (inR_iff.1 h2).2⟩
  ·simp at h
 ·rename_i h1; exact absurd h h1
theorem seatOf_in {l : List Sit} {n : Int} {s : Sit} (h : seatOf l n = some s) : s ∈ l ∧ s.slot = n :=
 ⟨List.mem_of_find?_eq_some h, by simpa using List.find?_some h⟩
theorem chk_cap {a : Wr} (h : chk a = 0) : 0 ≤ a.cap ∧ a.cap ≤ 1000000000 := by
 have h1 := (chk_in h).2.2.2.2.1;simp only [rangeOk, Bool.and_eq_true] at h1;have h2 := h1.2;simp only [List.all_cons, List.all_nil, Bool.and_true, inR_iff] at h2
 have h3 : 0 ≤ loC a := by unfold loC; split <;> decide
 have h4 : hiC a ≤ 1000000000 := by unfold hiC; split <;> decide
 omega
theorem dchk_ware {l : List Sit} (hd : dchk l = 0) {s : Sit} (hs : s ∈ l) : chk s.ware = 0 ∧ 1 ≤ s.slot ∧ s.slot ≤ 12 := by
 obtain ⟨k, hk, rfl⟩ := List.mem_iff_getElem.1 hs;obtain ⟨h1, h2, _⟩ := (dchk_in hd).2 k hk;exact ⟨h2, (plc_in h1).1, (plc_in h1).2.1⟩
theorem wareOf_in {l : List Sit} {p : Plc} {a : Wr} (h : wareOf l p = some a) : ∃ s ∈ l, s.slot = p.1 ∧ s.ware = a ∧ spotOk p.2.1 p.2.2 a.rows a.cols = true := by
 unfold wareOf at h
 split at h
 ·rename_i s hs
  split at h
  ·rename_i hsp
   injection h with h;subst h;exact ⟨s, (seatOf_in hs).1, (seatOf_in hs).2, rfl, hsp⟩
  ·cases h
 ·cases h
theorem wellM_in {l : List Sit} (hd : dchk l = 0) (p : Plc) : 0 ≤ (wellM l p).1 ∧ (wellM l p).1 ≤ 1000000000 := by
 unfold wellM
 split
 ·rename_i a ha
  split
  ·obtain ⟨s, hs, _, rfl, _⟩ := wareOf_in ha
   exact chk_cap (dchk_ware hd hs).1
  ·simp
 ·simp
theorem tipM_in {l : List Sit} (hd : dchk l = 0) : 0 ≤ tipM l ∧ tipM l ≤ 1000000000 := by
 unfold tipM
 split
 ·simp
 ·split
  ·rename_i a ha
   obtain ⟨s, hs, _, rfl, _⟩ := wareOf_in ha;exact chk_cap (dchk_ware hd hs).1
  ·simp
theorem mayHold_nil {m : Int} (h : 0 ≤ m) : mayHold [] m = true := by
 rw [mayHold_iff];exact ⟨by decide, rfl, h⟩
theorem mayTouch_nil : mayTouch [] [] = true := by decide
theorem may_fill {l : List Sit} {s : Sta} {a : Acn} (h : May l s) (h0 : (fillA l s a).2 = 0) :
  May l (fillA l s a).1 ∧ liq (fillA l s a).1.wells = liq s.wells + a.vol ∧ (fillA l s a).1.held = s.held ∧ (fillA l s a).1.used = s.used ∧ (fillA l s a).1.clock = s.clock := by
 unfold fillA at h0 ⊢
 split at h0
 ·rename_i h1; exact absurd h0 h1
 ·rename_i h1
  split at h0
  ·rename_i h2; exact absurd h0 h2
  ·rename_i h2
   split at h0
   ·rename_i h3; exact absurd h0 h3
   ·rename_i h3
    rw [if_neg h1, if_neg h2, if_neg h3];have h3' := Decidable.not_not.1 h3;obtain ⟨a1, a2, _, _⟩ := aimR_ok (Decidable.not_not.1 h1);have hh := mayHold_tog h3';refine ⟨⟨wells_wset h.wells a1 (by rw [← a2]; exact hh), rising_wset h.rising _ _, h.take, h.heat, h.clock⟩, ?_, rfl, rfl, rfl⟩;rw [liq_wset h.rising, tot_tog h3'];simp only [tot];omega
theorem may_tip {l : List Sit} {s : Sta} (hd : dchk l = 0) (h : May l s) (h0 : (tipA l s).2 = 0) :
  May l (tipA l s).1 ∧ (tipA l s).1.wells = s.wells ∧ (tipA l s).1.held = s.held ∧ (tipA l s).1.used = s.used + 1 ∧ (tipA l s).1.clock = s.clock := by
 unfold tipA at h0 ⊢
 split at h0
 ·simp at h0
 ·rename_i h1
  split at h0
  ·simp at h0
  ·rename_i h2
   rw [if_neg h1, if_neg h2];have ht := h.take;unfold mayTake at ht;rw [if_neg h1] at ht;simp only [Bool.and_eq_true, decide_eq_true_eq, inR_iff] at ht;obtain ⟨⟨u0, u1⟩, e1, e2⟩ := ht;refine ⟨⟨h.wells, h.rising, ?_, h.heat, h.clock⟩, rfl, rfl, rfl, rfl⟩;unfold mayTake;simp only [if_true, Bool.and_eq_true, inR_iff];refine ⟨⟨by omega, by omega⟩, ?_, ?_⟩
   ·rw [e1]; exact mayHold_nil (tipM_in hd).1
   ·rw [e1, e2]; exact mayTouch_nil
theorem may_drop {l : List Sit} {s : Sta} (h : May l s) (h0 : (dropA s).2 = 0) :
  May l (dropA s).1 ∧ (dropA s).1.wells = s.wells ∧ (dropA s).1.held = [] ∧ (dropA s).1.used = s.used ∧ (dropA s).1.clock = s.clock ∧ (dropA s).1.tip = false := by
 unfold dropA at h0 ⊢
 split at h0
 ·rename_i h1
  rw [if_pos h1];have ht := h.take;unfold mayTake at ht;rw [if_pos h1] at ht;simp only [Bool.and_eq_true, inR_iff] at ht;refine ⟨⟨h.wells, h.rising, ?_, h.heat, h.clock⟩, rfl, rfl, rfl, rfl, rfl⟩;unfold mayTake;simp only [Bool.false_eq_true, if_false, Bool.and_eq_true, decide_eq_true_eq, inR_iff];exact ⟨⟨by omega, by omega⟩, trivial, trivial⟩
 ·simp at h0
theorem tip_parts {l : List Sit} {s : Sta} (h : May l s) (ht : s.tip = true) : 1 ≤ s.used ∧ s.used ≤ (tipsL l).length ∧ mayHold s.held (tipM l) = true ∧ mayTouch s.touched s.held = true := by
 have := h.take;unfold mayTake at this;rw [if_pos ht] at this;simp only [Bool.and_eq_true, inR_iff] at this;exact ⟨this.1.1, this.1.2, this.2.1, this.2.2⟩
theorem take_of {l : List Sit} {s : Sta} (ht : s.tip = true) (h1 : 1 ≤ s.used) (h2 : s.used ≤ (tipsL l).length) (h3 : mayHold s.held (tipM l) = true) (h4 : mayTouch s.touched s.held = true) : mayTake l s = true := by
 unfold mayTake;rw [if_pos ht];simp only [Bool.and_eq_true, inR_iff];exact ⟨⟨h1, h2⟩, h3, h4⟩
theorem may_draw {l : List Sit} {s : Sta} {a : Acn} (hd : dchk l = 0) (h : May l s) (h0 : (drawA l s a).2 = 0) :
  May l (drawA l s a).1 ∧ liq (drawA l s a).1.wells + tot (drawA l s a).1.held = liq s.wells + tot s.held ∧ (drawA l s a).1.used = s.used ∧ (drawA l s a).1.clock = s.clock := by
 unfold drawA at h0 ⊢
 split at h0
 ·rename_i h1; exact absurd h0 h1
 ·rename_i h1
  split at h0
  ·simp at h0
  ·rename_i h2
   split at h0
   ·rename_i h3; exact absurd h0 h3
   ·rename_i h3
    split at h0
    ·simp at h0
    ·rename_i h4
     split at h0
     ·rename_i h5; exact absurd h0 h5
     ·rename_i h5
      rw [if_neg h1, if_neg h2, if_neg h3, if_neg h4, if_neg h5];have h3' := Decidable.not_not.1 h3;have h4' : (withR (drops s.touched) (wellF s.wells a.pl)).1 = true := by simpa using h4
      have h5' := Decidable.not_not.1 h5;have ht : s.tip = true := by simpa using h2
      obtain ⟨a1, a2, _, _⟩ := aimR_ok (Decidable.not_not.1 h1);have hw := h.well a.pl (wellM_in hd a.pl).1;obtain ⟨u1, u2, u3, u4⟩ := tip_parts h ht;obtain ⟨d1, d2, d3, d4, d5⟩ := drawF_ok h3';have td := tot_drawF h3';obtain ⟨t1, t2, t3, t4, t5, t6⟩ := togR_ok h5';obtain ⟨m1, m2, m3⟩ := mayTouch_iff.1 u4;obtain ⟨n1, n2, n3⟩ := withR_iff.1 m3;obtain ⟨k1, k2, k3⟩ := withR_iff.1 h4';have hpl := pl_of (mayHold_iff.1 hw).1 (mayHold_iff.1 hw).2.1;refine ⟨⟨wells_wset h.wells a1 (mayHold_left h3' hw), rising_wset h.rising _ _, ?_, h.heat, h.clock⟩, ?_, rfl, rfl⟩
      ·refine take_of ht u1 u2 (mayHold_tog h5') (mayTouch_iff.2 ⟨?_, risT_labsR _, withR_iff.2 ⟨?_, ?_, ?_⟩⟩)
       ·have := length_labsR (wellF s.wells a.pl)
        have := (fref_in d1).1;simp only;omega
       ·exact (mayHold_iff.1 (mayHold_tog h5')).1
       ·refine fref_drops (by have := length_labsR (wellF s.wells a.pl); have := (fref_in d1).1; simp only; omega) fun x hx => ?_
        obtain ⟨p, hp, rfl, _⟩ := mem_labsR.1 hx;exact ((fref_in d1).2.1 p hp).1
       ·rw [wthn_iff (drops_nn _)]
        intro p hp hp0
        have hall : ∀ q ∈ s.held ++ (drawF a.vol (wellF s.wells a.pl)).1, (∃ r ∈ wellF s.wells a.pl, r.1 = q.1 ∧ 0 < r.2) ∧ 0 ≤ q.2 := by
         intro q hq
         rcases List.mem_append.1 hq with hq | hq
         ·have hp1 := pl_of (mayHold_iff.1 u3).1 (mayHold_iff.1 u3).2.1
          have q0 := hp1.1 q hq;obtain ⟨r, hr, e, _⟩ := (wthn_iff (drops_nn _)).1 n3 q hq q0;obtain ⟨r', hr', e', h'⟩ := (wthn_iff hpl.nn).1 k3 r hr (by rw [(mem_drops.1 hr).2]; decide);exact ⟨⟨r', hr', by rw [e', e], h'⟩, Int.le_of_lt q0⟩
         ·rw [d4] at hq
          exact (drawS_all (C := fun x => ∃ r ∈ wellF s.wells a.pl, r.1 = x ∧ 0 < r.2) d2 (ps := wellF s.wells a.pl) fun q hq => ⟨⟨q, hq, rfl, hpl.1 q hq⟩, Int.le_of_lt (hpl.1 q hq)⟩).1 q hq
        simp only at hp;rw [t4] at hp;obtain ⟨r, hr, e, hr0⟩ := (plainL_all (C := fun x => ∃ r ∈ wellF s.wells a.pl, r.1 = x ∧ 0 < r.2) hall p hp).1;exact ⟨(p.1, 1), mem_drops.2 ⟨mem_labsR.2 ⟨r, hr, e, hr0⟩, rfl⟩, rfl, Int.one_pos⟩
      ·simp only
       rw [liq_wset h.rising, tot_tog h5', td.1, td.2];omega
theorem may_put {l : List Sit} {s : Sta} {a : Acn} (h : May l s) (h0 : (putA l s a).2 = 0) :
  May l (putA l s a).1 ∧ liq (putA l s a).1.wells + tot (putA l s a).1.held = liq s.wells + tot s.held ∧ (putA l s a).1.used = s.used ∧ (putA l s a).1.clock = s.clock := by
 unfold putA at h0 ⊢
 split at h0
 ·rename_i h1; exact absurd h0 h1
 ·rename_i h1
  split at h0
  ·simp at h0
  ·rename_i h2
   split at h0
   ·rename_i h3; exact absurd h0 h3
   ·rename_i h3
    split at h0
    ·rename_i h5; exact absurd h0 h5
    ·rename_i h5
     rw [if_neg h1, if_neg h2, if_neg h3, if_neg h5];have h3' := Decidable.not_not.1 h3;have h5' := Decidable.not_not.1 h5;have ht : s.tip = true := by simpa using h2
     obtain ⟨a1, a2, _, _⟩ := aimR_ok (Decidable.not_not.1 h1);obtain ⟨u1, u2, u3, u4⟩ := tip_parts h ht;obtain ⟨d1, d2, d3, d4, d5⟩ := drawF_ok h3';have td := tot_drawF h3';obtain ⟨m1, m2, m3⟩ := mayTouch_iff.1 u4;obtain ⟨n1, n2, n3⟩ := withR_iff.1 m3;have hh := mayHold_tog h5';refine ⟨⟨wells_wset h.wells a1 (by rw [← a2]; exact hh), rising_wset h.rising _ _, ?_, h.heat, h.clock⟩, ?_, rfl, rfl⟩
     ·refine take_of ht u1 u2 (mayHold_left h3' u3) (mayTouch_iff.2 ⟨m1, m2, withR_iff.2 ⟨(mayHold_iff.1 (mayHold_left h3' u3)).1, n2, ?_⟩⟩)
      rw [wthn_iff (drops_nn _)];intro p hp hp0;have hp1 := pl_of (mayHold_iff.1 u3).1 (mayHold_iff.1 u3).2.1;simp only at hp;rw [d5] at hp;obtain ⟨r, hr, e, hr0⟩ := ((drawS_all (C := fun x => ∃ r ∈ s.held, r.1 = x ∧ 0 < r.2) d2 (ps := s.held) fun q hq => ⟨⟨q, hq, rfl, hp1.1 q hq⟩, Int.le_of_lt (hp1.1 q hq)⟩).2 p hp).1;obtain ⟨r', hr', e', h'⟩ := (wthn_iff (drops_nn _)).1 n3 r hr hr0;exact ⟨r', hr', by rw [e', e], h'⟩
     ·simp only
      rw [liq_wset h.rising, tot_tog h5', td.1, td.2];omega
theorem may_warm {l : List Sit} {s : Sta} {a : Acn} (h : May l s) (h0 : (warmA s a).2 = 0) :
  May l (warmA s a).1 ∧ (warmA s a).1.wells = s.wells ∧ (warmA s a).1.held = s.held ∧ (warmA s a).1.used = s.used ∧ (warmA s a).1.clock = s.clock := by
 unfold warmA at h0 ⊢
 split at h0
 ·rename_i h1
  rw [if_pos h1];exact ⟨⟨h.wells, h.rising, h.take, ⟨(inR_iff.1 h1).1, (inR_iff.1 h1).2⟩, h.clock⟩, rfl, rfl, rfl, rfl⟩
 ·simp at h0
theorem may_pass {l : List Sit} {s : Sta} {a : Acn} (h : May l s) (h0 : (passA s a).2 = 0) :
  May l (passA s a).1 ∧ (passA s a).1.wells = s.wells ∧ (passA s a).1.held = s.held ∧ (passA s a).1.used = s.used ∧ s.clock ≤ (passA s a).1.clock := by
 unfold passA at h0 ⊢
 split at h0
 ·rename_i h1
  split at h0
  ·simp at h0
  ·rename_i h2
   rw [if_pos h1, if_neg h2];have := inR_iff.1 h1;have := h.clock;exact ⟨⟨h.wells, h.rising, h.take, h.heat, ⟨by simp only; omega, by simp only; omega⟩⟩, rfl, rfl, rfl, by simp only; omega⟩
 ·simp at h0
theorem may_shake {l : List Sit} {s : Sta} {a : Acn} (h : May l s) (h0 : (shakeA s a).2 = 0) :
  May l (shakeA s a).1 ∧ (shakeA s a).1.wells = s.wells ∧ (shakeA s a).1.held = s.held ∧ (shakeA s a).1.used = s.used ∧ s.clock ≤ (shakeA s a).1.clock := by
 unfold shakeA at h0 ⊢
 split at h0
 ·rename_i h1
  rw [if_pos h1];exact may_pass h h0
 ·simp at h0
def liqS (s : Sta) : Int := liq s.wells + tot s.held
structure Left (l : List Sit) (s : Sta) (a : Acn) (t : Sta) : Prop where
 may : May l t
 fill : a.kind = 5 → liqS t = liqS s + a.vol
 drop : a.kind = 7 → liqS t = liqS s - tot s.held ∧ t.tip = false
 rest : a.kind ≠ 5 → a.kind ≠ 7 → liqS t = liqS s
 used : s.used ≤ t.used
 clock : s.clock ≤ t.clock
theorem left_do {l : List Sit} {s : Sta} {a : Acn} (hd : dchk l = 0) (h : May l s) (h0 : (doA l s a).2 = 0) : Left l s a (doA l s a).1 := by
 unfold doA at h0 ⊢
 split at h0
 ·rename_i k
  rw [if_pos k];obtain ⟨x1, x2, x3, x4, x5⟩ := may_fill h h0;exact ⟨x1, fun _ => by rw [liqS, liqS, x2, x3]; omega, fun e => by omega, fun e => absurd k e, by omega, by omega⟩
 ·rename_i k5
  rw [if_neg k5]
  split at h0
  ·rename_i k
   rw [if_pos k];obtain ⟨x1, x2, x3, x4, x5⟩ := may_tip hd h h0;exact ⟨x1, fun e => absurd e k5, fun e => by omega, fun _ _ => by rw [liqS, liqS, x2, x3], by omega, by omega⟩
  ·rename_i k6
   rw [if_neg k6]
   split at h0
   ·rename_i k
    rw [if_pos k];obtain ⟨x1, x2, x3, x4, x5, x6⟩ := may_drop h h0;exact ⟨x1, fun e => absurd e k5, fun _ => ⟨by rw [liqS, liqS, x2, x3]; simp only [tot]; omega, x6⟩, fun _ e => absurd k e, by omega, by omega⟩
   ·rename_i k7
    rw [if_neg k7]
    split at h0
    ·rename_i k
     rw [if_pos k];obtain ⟨x1, x2, x4, x5⟩ := may_draw hd h h0;exact ⟨x1, fun e => absurd e k5, fun e => absurd e k7, fun _ _ => x2, by omega, by omega⟩
    ·rename_i k8
     rw [if_neg k8]
     split at h0
     ·rename_i k
      rw [if_pos k];obtain ⟨x1, x2, x4, x5⟩ := may_put h h0;exact ⟨x1, fun e => absurd e k5, fun e => absurd e k7, fun _ _ => x2, by omega, by omega⟩
     ·rename_i k9
      rw [if_neg k9]
      split at h0
      ·rename_i k
       rw [if_pos k];obtain ⟨x1, x2, x3, x4, x5⟩ := may_warm h h0;exact ⟨x1, fun e => absurd e k5, fun e => absurd e k7, fun _ _ => by rw [liqS, liqS, x2, x3], by omega, by omega⟩
      ·rename_i k11
       rw [if_neg k11]
       split at h0
       ·rename_i k
        rw [if_pos k];obtain ⟨x1, x2, x3, x4, x5⟩ := may_pass h h0;exact ⟨x1, fun e => absurd e k5, fun e => absurd e k7, fun _ _ => by rw [liqS, liqS, x2, x3], by omega, by omega⟩
       ·rename_i k12
        rw [if_neg k12]
        split at h0
        ·rename_i k
         rw [if_pos k];obtain ⟨x1, x2, x3, x4, x5⟩ := may_shake h h0;exact ⟨x1, fun e => absurd e k5, fun e => absurd e k7, fun _ _ => by rw [liqS, liqS, x2, x3], by omega, by omega⟩
        ·rename_i k13
         rw [if_neg k13]
         split at h0
         ·rename_i k
          rw [if_pos k];obtain ⟨x1, x2, x3, x4, x5⟩ := may_pass h h0;exact ⟨x1, fun e => absurd e k5, fun e => absurd e k7, fun _ _ => by rw [liqS, liqS, x2, x3], by omega, by omega⟩
         ·simp at h0
theorem may_sta0 (l : List Sit) : May l sta0 := by
 refine ⟨fun x hx => (by simp at hx), List.Pairwise.nil, ?_, by simp, by simp⟩;unfold mayTake;simp [inR]
def keyP (p : Plc) : Int := (p.1 - 1) * 384 + p.2.2 * 16 + p.2.1
theorem rising_length {l : List Int} (h : l.Pairwise (· < ·)) {m n : Int} (hm : ∀ x ∈ l, m ≤ x ∧ x < n) (hmn : m ≤ n) : (l.length : Int) + m ≤ n := by
 induction l generalizing m with
 | nil => simpa using hmn
 | cons x r ih =>
  obtain ⟨h1, h2⟩ := List.pairwise_cons.1 h;have hx := hm x (by simp);have := ih h2 (m := x + 1) (fun y hy => ⟨by have := h1 y hy; omega, (hm y (by simp [hy])).2⟩) (by omega);simp only [List.length_cons];omega
theorem wellM_place {l : List Sit} (hd : dchk l = 0) {p : Plc} (h : (wellM l p).2 = 0) : (1 ≤ p.1 ∧ p.1 ≤ 12) ∧ (0 ≤ p.2.1 ∧ p.2.1 < 16) ∧ 0 ≤ p.2.2 ∧ p.2.2 < 24 := by
 unfold wellM at h
 split at h
 ·rename_i a ha
  obtain ⟨s, hs, e, rfl, hsp⟩ := wareOf_in ha;obtain ⟨hc, h1, h2⟩ := dchk_ware hd hs;have hr := inR_iff.1 (chk_in hc).2.2.1;have hcl := inR_iff.1 (chk_in hc).2.2.2.1;have := spotOk_iff.1 hsp;omega
 ·simp at h
theorem wells_few {l : List Sit} (hd : dchk l = 0) {s : Sta} (h : May l s) : s.wells.length ≤ 4608 := by
 have hp : (s.wells.map fun x => keyP x.1).Pairwise (· < ·) := by
  rw [List.pairwise_map];refine List.Pairwise.imp_of_mem ?_ h.rising;intro x y hx hy hlt;have h1 := wellM_place hd (h.wells x hx).1;have h2 := wellM_place hd (h.wells y hy).1;rw [plt_iff] at hlt;unfold keyP;omega
 have := rising_length hp (m := 0) (n := 4608) (fun k hk => by
  obtain ⟨x, hx, rfl⟩ := List.mem_map.1 hk;have h1 := wellM_place hd (h.wells x hx).1;unfold keyP
  omega) (by decide)
 simp only [List.length_map] at this;omega
end Go.Proofs.YtcajifelbldjnaaGreatDoor
namespace Go.Proofs.YtcajifelbldjnaaGreatDoor
open Go.RowKit
def backE : Nat → List Oper → Bool
 | _, [] => true
 | k, o :: l => o.after.all (fun e => !Region.binds .any e || decide (e.on < k)) && backE (k + 1) l
theorem backE_at : ∀ {l : List Oper} {k : Nat}, backE k l = true → ∀ {i : Nat} {o : Oper}, l[i]? = some o → ∀ e ∈ o.after, Region.binds .any e = true → e.on < k + i
 | [], _, _, _, _, h => by simp at h
 | o :: l, k, h, 0, o', ho => by
  simp only [backE, Bool.and_eq_true] at h;simp at ho; subst ho;intro e he hbi;have := Array.all_eq_true'.1 h.1 e he;rw [hbi] at this
  simpa using this
 | o :: l, k, h, i + 1, o', ho => by
  simp only [backE, Bool.and_eq_true] at h;intro e he hbi;have := backE_at h.2 (i := i) (by simpa using ho) e he hbi;omega
theorem all_listedE {ops : Array Oper} {listed : Array Bool} (hback : backE 0 ops.toList = true) (hsz : listed.size = ops.size) (hr : Region.ready .any ops listed = []) : ∀ i, i < ops.size → listed[i]? = some true := by
 intro i
 induction i using Nat.strongRecOn with
 | ind i ih =>
  intro hi
  cases hl : listed[i]? with
  | none => rw [Array.getElem?_eq_none_iff] at hl; omega
  | some b =>
   cases b with
   | true => rfl
   | false =>
    exfalso
    have hm : i ∈ Region.ready .any ops listed := by
     simp only [Region.ready, List.mem_filter, List.mem_range, Bool.and_eq_true];refine ⟨hi, by simp [Array.getD_eq_getD_getElem?, hl], ?_⟩;have ho : ops[i]? = some ops[i] := by simp [hi]
     rw [ho];simp only [Option.map_some, Option.getD_some];rw [Array.all_eq_true'];intro e he
     cases hbi : Region.binds .any e with
     | false => simp
     | true =>
      have h1 := backE_at hback (i := i) (o := ops[i]) (by simp) e he hbi;have h2 := ih e.on (by omega) (by omega);simp [Array.getD_eq_getD_getElem?, h2]
    rw [hr] at hm;simp at hm
section
variable {P : Program} {Q : Exit → Act → World → Prop} {a : Act} {m : List Bool} {V : Nat → Value → World → Prop} {w0 : World} {ops : Array Oper} {plan : Plan} {k late : Nat}
end
end Go.Proofs.YtcajifelbldjnaaGreatDoor
