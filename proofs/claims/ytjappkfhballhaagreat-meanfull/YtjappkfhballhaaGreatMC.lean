/- Places, actions, wells, texts, states in memory. -/
import Derived.Test.YtjappkfhballhaaGreatMB
import Derived.Test.YtjappkfhballhaaGreatDD
import Derived.Test.YtjappkfhballhaaGreatSeq2
import Derived.Maps.RangeWalk
namespace Go.Proofs.YtjappkfhballhaaGreat
open Go.RowKit F

abbrev plv (p : Plc) : Value := .agg #[.int .i64 p.1, .int .i64 p.2.1, .int .i64 p.2.2]
abbrev pobj (p : Plc) : Obj := .cells #[.int .i64 p.1, .int .i64 p.2.1, .int .i64 p.2.2] 31
abbrev avs (a : Acn) : Array Value := #[.int .i64 a.kind, .int .i64 a.pl.1, .int .i64 a.pl.2.1, .int .i64 a.pl.2.2, .string a.label, .int .i64 a.vol, .int .i64 a.value, .int .i64 a.time]
abbrev av (a : Acn) : Value := .agg (avs a)
abbrev aobj (a : Acn) : Obj := .cells (avs a) 33
/-- Places in memory. -/
def Pls (w : World) (ao : Option Addr) (l : List Plc) : Prop :=
  l = [] ∨ ∃ b off, ao = some ⟨b, off, none⟩ ∧ b < w.heap.size ∧ ∀ k (h : k < l.length), w.cell? ⟨b, off + k * 3, none⟩ = some (.int .i64 (l[k]'h).1) ∧ w.cell? ⟨b, off + k * 3 + 1, none⟩ = some (.int .i64 (l[k]'h).2.1) ∧ w.cell? ⟨b, off + k * 3 + 2, none⟩ = some (.int .i64 (l[k]'h).2.2)
/-- A well with what it holds, as it is handed over. -/
abbrev Wh := Plc × F.Fd
abbrev whc (x : Wh) : Array Value := #[.int .i64 x.1.1, .int .i64 x.1.2.1, .int .i64 x.1.2.2, .slice x.2.1 x.2.2.2.length x.2.2.1]
abbrev whv (x : Wh) : Value := .agg (whc x)
abbrev who (x : Wh) : Obj := .cells (whc x) 59
structure WhAt (w : World) (b o : Nat) (x : Wh) : Prop where
  lt : b < w.heap.size
  c0 : w.cell? ⟨b, o, none⟩ = some (.int .i64 x.1.1)
  c1 : w.cell? ⟨b, o + 1, none⟩ = some (.int .i64 x.1.2.1)
  c2 : w.cell? ⟨b, o + 2, none⟩ = some (.int .i64 x.1.2.2)
  c3 : w.cell? ⟨b, o + 3, none⟩ = some (.slice x.2.1 x.2.2.2.length x.2.2.1)
  fl : Fl w x.2.1 x.2.2.2
theorem WhAt.next {w w1 : World} {b o : Nat} {x : Wh} (h : WhAt w b o x) (hb : Below w.heap.size w w1) : WhAt w1 b o x :=
  ⟨Nat.lt_of_lt_of_le h.lt hb.size, cell_later hb h.c0, cell_later hb h.c1, cell_later hb h.c2, cell_later hb h.c3, h.fl.next hb⟩
def Whs (w : World) (ao : Option Addr) (l : List Wh) : Prop := l = [] ∨ ∃ b off, ao = some ⟨b, off, none⟩ ∧ ∀ k (h : k < l.length), WhAt w b (off + k * 4) (l[k]'h)
theorem Whs.next {w w1 : World} {ao : Option Addr} {l : List Wh} (h : Whs w ao l) (hb : Below w.heap.size w w1) : Whs w1 ao l :=
  h.elim .inl fun ⟨b, off, e, h⟩ => .inr ⟨b, off, e, fun k hk => (h k hk).next hb⟩
theorem Whs.at {w : World} {ao : Option Addr} {l : List Wh} (h : Whs w ao l) {k : Nat} (hk : k < l.length) : ∃ b off, ao = some ⟨b, off, none⟩ ∧ WhAt w b (off + k * 4) (l[k]'hk) := by
  rcases h with rfl | ⟨b, off, e, h⟩
  · simp at hk
  · exact ⟨b, off, e, h k hk⟩
theorem Whs.nil (w : World) (ao : Option Addr) : Whs w ao [] := .inl rfl
/-- What such wells are. -/
def whp (l : List Wh) : Wls := l.map fun x => (x.1, x.2.2.2)
theorem whp_length (l : List Wh) : (whp l).length = l.length := by simp [whp]
theorem whp_at {l : List Wh} {k : Nat} (h : k < l.length) : (whp l)[k]'(by rw [whp_length]; exact h) = ((l[k]'h).1, (l[k]'h).2.2.2) := by simp [whp]
/-- Texts, one behind the other. -/
def Tx (w : World) (ao : Option Addr) (t : List ByteArray) : Prop :=
  (∀ x ∈ t, x.size ≤ maxLen) ∧ (t = [] ∨ ∃ b off, ao = some ⟨b, off, none⟩ ∧ b < w.heap.size ∧ ∀ k (h : k < t.length), w.cell? ⟨b, off + k, none⟩ = some (.string (t[k]'h)))
theorem Tx.next {w w1 : World} {ao : Option Addr} {t : List ByteArray} (h : Tx w ao t) (hb : Below w.heap.size w w1) : Tx w1 ao t := by
  obtain ⟨h0, h1 | ⟨b, off, h1, h2, h3⟩⟩ := h
  · exact ⟨h0, .inl h1⟩
  · exact ⟨h0, .inr ⟨b, off, h1, Nat.lt_of_lt_of_le h2 hb.size, fun k hk => cell_later hb (h3 k hk)⟩⟩
theorem Tx.at {w : World} {ao : Option Addr} {t : List ByteArray} (h : Tx w ao t) {k : Nat} (hk : k < t.length) : ∃ b off, ao = some ⟨b, off, none⟩ ∧ b < w.heap.size ∧ w.cell? ⟨b, off + k, none⟩ = some (.string (t[k]'hk)) ∧ (t[k]'hk).size ≤ maxLen := by
  obtain ⟨h0, rfl | ⟨b, off, h1, h2, h3⟩⟩ := h
  · exact absurd hk (Nat.not_lt_zero _)
  · exact ⟨b, off, h1, h2, h3 k hk, h0 _ (List.getElem_mem hk)⟩
theorem Tx.nil (w : World) (ao : Option Addr) : Tx w ao [] := ⟨(fun p hp => by cases hp), .inl rfl⟩

/-- A state as it is handed over. -/
structure Sm where
  aoW : Option Addr
  capW : Nat
  wl : List Wh
  tip : Bool
  aoH : Option Addr
  capH : Nat
  held : List Pc
  aoT : Option Addr
  capT : Nat
  touched : List ByteArray
  used : Int
  heat : Int
  clock : Int
abbrev smc (m : Sm) : Array Value := #[.slice m.aoW m.wl.length m.capW, .bool m.tip, .slice m.aoH m.held.length m.capH, .slice m.aoT m.touched.length m.capT, .int .i64 m.used, .int .i64 m.heat, .int .i64 m.clock]
abbrev smv (m : Sm) : Value := .agg (smc m)
abbrev smo (m : Sm) : Obj := .cells (smc m) 27
def Sm.st (m : Sm) : Sta := ⟨whp m.wl, m.tip, m.held, m.touched, m.used, m.heat, m.clock⟩
structure SmIn (w : World) (m : Sm) : Prop where
  wells : Whs w m.aoW m.wl
  held : Fl w m.aoH m.held
  touched : Tx w m.aoT m.touched
theorem SmIn.next {w w1 : World} {m : Sm} (h : SmIn w m) (hb : Below w.heap.size w w1) : SmIn w1 m := ⟨h.wells.next hb, h.held.next hb, h.touched.next hb⟩
abbrev sm0 : Sm := ⟨none, 0, [], false, none, 0, [], none, 0, [], 0, 0, 0⟩
theorem SmIn.zero (w : World) : SmIn w sm0 := ⟨.inl rfl, Fl.nil _ _, Tx.nil _ _⟩
/-- The seven cells of a state in a block, not frozen. -/
structure S7 (b : Nat) (m : Sm) (w : World) : Prop where
  lt : b < w.heap.size
  c0 : w.cell? ⟨b, 0, none⟩ = some (.slice m.aoW m.wl.length m.capW)
  c1 : w.cell? ⟨b, 1, none⟩ = some (.bool m.tip)
  c2 : w.cell? ⟨b, 2, none⟩ = some (.slice m.aoH m.held.length m.capH)
  c3 : w.cell? ⟨b, 3, none⟩ = some (.slice m.aoT m.touched.length m.capT)
  c4 : w.cell? ⟨b, 4, none⟩ = some (.int .i64 m.used)
  c5 : w.cell? ⟨b, 5, none⟩ = some (.int .i64 m.heat)
  c6 : w.cell? ⟨b, 6, none⟩ = some (.int .i64 m.clock)
  f0 : w.frozen? ⟨b, 0, none⟩ = false
  f1 : w.frozen? ⟨b, 1, none⟩ = false
  f2 : w.frozen? ⟨b, 2, none⟩ = false
  f3 : w.frozen? ⟨b, 3, none⟩ = false
  f4 : w.frozen? ⟨b, 4, none⟩ = false
  f5 : w.frozen? ⟨b, 5, none⟩ = false
  f6 : w.frozen? ⟨b, 6, none⟩ = false
theorem S7.later {b : Nat} {m : Sm} {w w1 : World} (h : S7 b m w) (hb : Below w.heap.size w w1) : S7 b m w1 :=
  ⟨Nat.lt_of_lt_of_le h.lt hb.size, cell_later hb h.c0, cell_later hb h.c1, cell_later hb h.c2, cell_later hb h.c3, cell_later hb h.c4, cell_later hb h.c5, cell_later hb h.c6,
   (hb.frozen (p := ⟨b, 0, none⟩) h.lt).trans h.f0, (hb.frozen (p := ⟨b, 1, none⟩) h.lt).trans h.f1, (hb.frozen (p := ⟨b, 2, none⟩) h.lt).trans h.f2, (hb.frozen (p := ⟨b, 3, none⟩) h.lt).trans h.f3, (hb.frozen (p := ⟨b, 4, none⟩) h.lt).trans h.f4, (hb.frozen (p := ⟨b, 5, none⟩) h.lt).trans h.f5, (hb.frozen (p := ⟨b, 6, none⟩) h.lt).trans h.f6⟩
theorem S7.new (w : World) (m : Sm) (n : Nat) (hn : n = w.heap.size) : S7 n m (w.alloc (smo m)) := by
  subst hn
  exact ⟨by simp, by go_simp, by go_simp, by go_simp, by go_simp, by go_simp, by go_simp, by go_simp, by go_simp, by go_simp, by go_simp, by go_simp, by go_simp, by go_simp, by go_simp⟩
/-- The eight cells of an action in a block. -/
structure A8 (b : Nat) (a : Acn) (w : World) : Prop where
  lt : b < w.heap.size
  c0 : w.cell? ⟨b, 0, none⟩ = some (.int .i64 a.kind)
  c1 : w.cell? ⟨b, 1, none⟩ = some (.int .i64 a.pl.1)
  c2 : w.cell? ⟨b, 2, none⟩ = some (.int .i64 a.pl.2.1)
  c3 : w.cell? ⟨b, 3, none⟩ = some (.int .i64 a.pl.2.2)
  c4 : w.cell? ⟨b, 4, none⟩ = some (.string a.label)
  c5 : w.cell? ⟨b, 5, none⟩ = some (.int .i64 a.vol)
  c6 : w.cell? ⟨b, 6, none⟩ = some (.int .i64 a.value)
  c7 : w.cell? ⟨b, 7, none⟩ = some (.int .i64 a.time)
theorem A8.later {b : Nat} {a : Acn} {w w1 : World} (h : A8 b a w) (hb : Below w.heap.size w w1) : A8 b a w1 :=
  ⟨Nat.lt_of_lt_of_le h.lt hb.size, cell_later hb h.c0, cell_later hb h.c1, cell_later hb h.c2, cell_later hb h.c3, cell_later hb h.c4, cell_later hb h.c5, cell_later hb h.c6, cell_later hb h.c7⟩
theorem A8.new (w : World) (a : Acn) (n : Nat) (hn : n = w.heap.size) : A8 n a (w.alloc (aobj a)) := by
  subst hn
  exact ⟨by simp, by go_simp, by go_simp, by go_simp, by go_simp, by go_simp, by go_simp, by go_simp, by go_simp⟩
/-- A deck as it is handed over. -/
structure Dk (w : World) (ao : Option Addr) (cap : Nat) (l : List Sit) : Prop where
  sts : Sts w ao l
  cap : l.length ≤ cap
  ok : ∀ s ∈ l, SOk s
theorem Dk.next {w w1 : World} {ao : Option Addr} {cap : Nat} {l : List Sit} (h : Dk w ao cap l) (hb : Below w.heap.size w w1) : Dk w1 ao cap l := ⟨h.sts.next hb, h.cap, h.ok⟩
abbrev lay3 (ao : Option Addr) (cap : Nat) (l : List Sit) (t m : Int) : Value := .agg #[.slice ao l.length cap, .int .i64 t, .int .i64 m]
abbrev lao3 (ao : Option Addr) (cap : Nat) (l : List Sit) (t m : Int) : Obj := .cells #[.slice ao l.length cap, .int .i64 t, .int .i64 m] 67
abbrev layv (ao : Option Addr) (cap : Nat) (l : List Sit) : Value := .agg #[.slice ao l.length cap, .int .i64 ((tipsL l).length : Int), .int .i64 (tipM l)]
abbrev layo (ao : Option Addr) (cap : Nat) (l : List Sit) : Obj := .cells #[.slice ao l.length cap, .int .i64 ((tipsL l).length : Int), .int .i64 (tipM l)] 67
theorem dk_check (ao : Option Addr) (cap : Nat) (l : List Sit) (w : World) (h : Dk w ao cap l) (hl : l.length ≤ 9223372036854775807) :
    Calls Tryz.prog 25 #[.slice ao l.length cap] w fun e w' => e = .returned (.int .i64 (dchk l)) ∧ Below w.heap.size w w' := deckCheck_any ao cap l w h.sts h.cap hl h.ok
theorem dk_len {l : List Sit} (hd : dchk l = 0) : l.length ≤ 12 := (dchk_in hd).1
end Go.Proofs.YtjappkfhballhaaGreat
