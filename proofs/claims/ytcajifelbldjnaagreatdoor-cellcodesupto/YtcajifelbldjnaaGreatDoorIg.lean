import Derived.Test.YtcajifelbldjnaaGreatDoorIf
import Derived.Maps.RangeWalk
import Derived.Maps.AppendAt
set_option maxRecDepth 100000
set_option maxHeartbeats 25600000
set_option linter.unusedVariables false
namespace Go.Proofs.YtcajifelbldjnaaGreatDoor
open Go.RowKit F
abbrev plv (p : Plc) : Value := .agg #[.int .i64 p.1, .int .i64 p.2.1, .int .i64 p.2.2]
abbrev pobj (p : Plc) : Obj := .cells #[.int .i64 p.1, .int .i64 p.2.1, .int .i64 p.2.2] 55
abbrev avs (a : Acn) : Array Value := #[.int .i64 a.kind, .int .i64 a.pl.1, .int .i64 a.pl.2.1, .int .i64 a.pl.2.2, .string a.label, .int .i64 a.vol, .int .i64 a.value, .int .i64 a.time]
abbrev av (a : Acn) : Value := .agg (avs a)
abbrev aobj (a : Acn) : Obj := .cells (avs a) 57
abbrev Wh := Plc × F.Fd
abbrev whc (x : Wh) : Array Value := #[.int .i64 x.1.1, .int .i64 x.1.2.1, .int .i64 x.1.2.2, .slice x.2.1 x.2.2.2.length x.2.2.1]
abbrev whv (x : Wh) : Value := .agg (whc x)
abbrev who (x : Wh) : Obj := .cells (whc x) 205
structure WhAt (w : World) (b o : Nat) (x : Wh) : Prop where
 lt : b < w.heap.size
 c0 : w.cell? ⟨b, o, none⟩ = some (.int .i64 x.1.1)
 c1 : w.cell? ⟨b, o + 1, none⟩ = some (.int .i64 x.1.2.1)
 c2 : w.cell? ⟨b, o + 2, none⟩ = some (.int .i64 x.1.2.2)
 c3 : w.cell? ⟨b, o + 3, none⟩ = some (.slice x.2.1 x.2.2.2.length x.2.2.1)
 fl : Fl w x.2.1 x.2.2.2
theorem WhAt.next {w w1 : World} {b o : Nat} {x : Wh} (h : WhAt w b o x) (hb : bw w w1) : WhAt w1 b o x :=
 ⟨Nat.lt_of_lt_of_le h.lt hb.size, cell_later hb h.c0, cell_later hb h.c1, cell_later hb h.c2, cell_later hb h.c3, h.fl.next hb⟩
def Whs (w : World) (ao : Option Addr) (l : List Wh) : Prop := l = [] ∨ ∃ b off, ao = some ⟨b, off, none⟩ ∧ ∀ k (h : k < l.length), WhAt w b (off + k * 4) (l[k]'h)
theorem Whs.next {w w1 : World} {ao : Option Addr} {l : List Wh} (h : Whs w ao l) (hb : bw w w1) : Whs w1 ao l :=
 h.elim .inl fun ⟨b, off, e, h⟩ => .inr ⟨b, off, e, fun k hk => (h k hk).next hb⟩
theorem Whs.at {w : World} {ao : Option Addr} {l : List Wh} (h : Whs w ao l) {k : Nat} (hk : k < l.length) : ∃ b off, ao = some ⟨b, off, none⟩ ∧ WhAt w b (off + k * 4) (l[k]'hk) := by
 rcases h with rfl | ⟨b, off, e, h⟩
 ·simp at hk
 ·exact ⟨b, off, e, h k hk⟩
def whp (l : List Wh) : Wls := l.map fun x => (x.1, x.2.2.2)
theorem whp_length (l : List Wh) : (whp l).length = l.length := by simp [whp]
def Tx (w : World) (ao : Option Addr) (t : List ByteArray) : Prop :=
 (∀ x ∈ t, x.size ≤ maxLen) ∧ (t = [] ∨ ∃ b off, ao = some ⟨b, off, none⟩ ∧ b < w.heap.size ∧ ∀ k (h : k < t.length), w.cell? ⟨b, off + k, none⟩ = some (.string (t[k]'h)))
theorem Tx.next {w w1 : World} {ao : Option Addr} {t : List ByteArray} (h : Tx w ao t) (hb : bw w w1) : Tx w1 ao t := by
 obtain ⟨h0, h1 | ⟨b, off, h1, h2, h3⟩⟩ := h
 ·exact ⟨h0, .inl h1⟩
 ·exact ⟨h0, .inr ⟨b, off, h1, Nat.lt_of_lt_of_le h2 hb.size, fun k hk => cell_later hb (h3 k hk)⟩⟩
theorem Tx.at {w : World} {ao : Option Addr} {t : List ByteArray} (h : Tx w ao t) {k : Nat} (hk : k < t.length) : ∃ b off, ao = some ⟨b, off, none⟩ ∧ b < w.heap.size ∧ w.cell? ⟨b, off + k, none⟩ = some (.string (t[k]'hk)) ∧ (t[k]'hk).size ≤ maxLen := by
 obtain ⟨h0, rfl | ⟨b, off, h1, h2, h3⟩⟩ := h
 ·exact absurd hk (Nat.not_lt_zero _)
 ·exact ⟨b, off, h1, h2, h3 k hk, h0 _ (List.getElem_mem hk)⟩
theorem Tx.nil (w : World) (ao : Option Addr) : Tx w ao [] := ⟨(fun p hp => by cases hp), .inl rfl⟩
structure Sm where
 aoW : Option Addr
 capW : Nat
 wl : List Wh
 tip : Bool
 aoH : Option Addr
 capH : Nat
 held : List Pc
 aoT : Option Addr
 capT : Nat
 touched : List ByteArray
 used : Int
 heat : Int
 clock : Int
abbrev smc (m : Sm) : Array Value := #[.slice m.aoW m.wl.length m.capW, .bool m.tip, .slice m.aoH m.held.length m.capH, .slice m.aoT m.touched.length m.capT, .int .i64 m.used, .int .i64 m.heat, .int .i64 m.clock]
abbrev smv (m : Sm) : Value := .agg (smc m)
abbrev smo (m : Sm) : Obj := .cells (smc m) 73
def Sm.st (m : Sm) : Sta := ⟨whp m.wl, m.tip, m.held, m.touched, m.used, m.heat, m.clock⟩
structure SmIn (w : World) (m : Sm) : Prop where
 wells : Whs w m.aoW m.wl
 held : Fl w m.aoH m.held
 touched : Tx w m.aoT m.touched
abbrev sm0 : Sm := ⟨none, 0, [], false, none, 0, [], none, 0, [], 0, 0, 0⟩
theorem SmIn.zero (w : World) : SmIn w sm0 := ⟨.inl rfl, Fl.nil _ _, Tx.nil _ _⟩
structure Dk (w : World) (ao : Option Addr) (cap : Nat) (l : List Sit) : Prop where
 sts : Sts w ao l
 cap : l.length ≤ cap
 ok : ∀ s ∈ l, SOk s
theorem Dk.next {w w1 : World} {ao : Option Addr} {cap : Nat} {l : List Sit} (h : Dk w ao cap l) (hb : bw w w1) : Dk w1 ao cap l := ⟨h.sts.next hb, h.cap, h.ok⟩
abbrev lay3 (ao : Option Addr) (cap : Nat) (l : List Sit) (t m : Int) : Value := .agg #[.slice ao l.length cap, .int .i64 t, .int .i64 m]
abbrev lao3 (ao : Option Addr) (cap : Nat) (l : List Sit) (t m : Int) : Obj := .cells #[.slice ao l.length cap, .int .i64 t, .int .i64 m] 197
abbrev layv (ao : Option Addr) (cap : Nat) (l : List Sit) : Value := .agg #[.slice ao l.length cap, .int .i64 ((tipsL l).length : Int), .int .i64 (tipM l)]
abbrev layo (ao : Option Addr) (cap : Nat) (l : List Sit) : Obj := .cells #[.slice ao l.length cap, .int .i64 ((tipsL l).length : Int), .int .i64 (tipM l)] 197
theorem dk_check (ao : Option Addr) (cap : Nat) (l : List Sit) (w : World) (h : Dk w ao cap l) (hl : l.length ≤ 9223372036854775807) :
  CR 26 #[.slice ao l.length cap] w (.int .i64 (dchk l)) := deckCheck_any ao cap l w h.sts h.cap hl h.ok
theorem dk_len {l : List Sit} (hd : dchk l = 0) : l.length ≤ 12 := (dchk_in hd).1
def Bk (b : Nat) (cs : List Value) (w : World) : Prop := b < w.heap.size ∧ ∀ k v, cs[k]? = some v → w.cell? ⟨b, k, none⟩ = some v ∧ w.frozen? ⟨b, k, none⟩ = false
theorem Bk.c {b : Nat} {cs : List Value} {w : World} (h : Bk b cs w) (k : Nat) {v : Value} (hv : cs[k]? = some v) : w.cell? ⟨b, k, none⟩ = some v := (h.2 k v hv).1
theorem Bk.f {b : Nat} {cs : List Value} {w : World} (h : Bk b cs w) (k : Nat) {v : Value} (hv : cs[k]? = some v) : w.frozen? ⟨b, k, none⟩ = false := (h.2 k v hv).2
theorem Bk.c3 {b : Nat} {w : World} {v0 v1 v2 : Value} (h : Bk b [v0, v1, v2] w) : w.cell? ⟨b, 0, none⟩ = some v0 ∧ w.cell? ⟨b, 1, none⟩ = some v1 ∧ w.cell? ⟨b, 2, none⟩ = some v2 := ⟨h.c 0 rfl, h.c 1 rfl, h.c 2 rfl⟩
theorem Bk.f3 {b : Nat} {w : World} {v0 v1 v2 : Value} (h : Bk b [v0, v1, v2] w) : w.frozen? ⟨b, 0, none⟩ = false ∧ w.frozen? ⟨b, 1, none⟩ = false ∧ w.frozen? ⟨b, 2, none⟩ = false := ⟨h.f 0 rfl, h.f 1 rfl, h.f 2 rfl⟩
theorem Bk.c4 {b : Nat} {w : World} {v0 v1 v2 v3 : Value} (h : Bk b [v0, v1, v2, v3] w) : w.cell? ⟨b, 0, none⟩ = some v0 ∧ w.cell? ⟨b, 1, none⟩ = some v1 ∧ w.cell? ⟨b, 2, none⟩ = some v2 ∧ w.cell? ⟨b, 3, none⟩ = some v3 := ⟨h.c 0 rfl, h.c 1 rfl, h.c 2 rfl, h.c 3 rfl⟩
theorem Bk.c7 {b : Nat} {w : World} {v0 v1 v2 v3 v4 v5 v6 : Value} (h : Bk b [v0, v1, v2, v3, v4, v5, v6] w) : w.cell? ⟨b, 0, none⟩ = some v0 ∧ w.cell? ⟨b, 1, none⟩ = some v1 ∧ w.cell? ⟨b, 2, none⟩ = some v2 ∧ w.cell? ⟨b, 3, none⟩ = some v3 ∧ w.cell? ⟨b, 4, none⟩ = some v4 ∧ w.cell? ⟨b, 5, none⟩ = some v5 ∧ w.cell? ⟨b, 6, none⟩ = some v6 := ⟨h.c 0 rfl, h.c 1 rfl, h.c 2 rfl, h.c 3 rfl, h.c 4 rfl, h.c 5 rfl, h.c 6 rfl⟩
theorem Bk.f7 {b : Nat} {w : World} {v0 v1 v2 v3 v4 v5 v6 : Value} (h : Bk b [v0, v1, v2, v3, v4, v5, v6] w) : w.frozen? ⟨b, 0, none⟩ = false ∧ w.frozen? ⟨b, 1, none⟩ = false ∧ w.frozen? ⟨b, 2, none⟩ = false ∧ w.frozen? ⟨b, 3, none⟩ = false ∧ w.frozen? ⟨b, 4, none⟩ = false ∧ w.frozen? ⟨b, 5, none⟩ = false ∧ w.frozen? ⟨b, 6, none⟩ = false := ⟨h.f 0 rfl, h.f 1 rfl, h.f 2 rfl, h.f 3 rfl, h.f 4 rfl, h.f 5 rfl, h.f 6 rfl⟩
theorem Bk.c8 {b : Nat} {w : World} {v0 v1 v2 v3 v4 v5 v6 v7 : Value} (h : Bk b [v0, v1, v2, v3, v4, v5, v6, v7] w) : w.cell? ⟨b, 0, none⟩ = some v0 ∧ w.cell? ⟨b, 1, none⟩ = some v1 ∧ w.cell? ⟨b, 2, none⟩ = some v2 ∧ w.cell? ⟨b, 3, none⟩ = some v3 ∧ w.cell? ⟨b, 4, none⟩ = some v4 ∧ w.cell? ⟨b, 5, none⟩ = some v5 ∧ w.cell? ⟨b, 6, none⟩ = some v6 ∧ w.cell? ⟨b, 7, none⟩ = some v7 := ⟨h.c 0 rfl, h.c 1 rfl, h.c 2 rfl, h.c 3 rfl, h.c 4 rfl, h.c 5 rfl, h.c 6 rfl, h.c 7 rfl⟩
theorem Bk.f8 {b : Nat} {w : World} {v0 v1 v2 v3 v4 v5 v6 v7 : Value} (h : Bk b [v0, v1, v2, v3, v4, v5, v6, v7] w) : w.frozen? ⟨b, 0, none⟩ = false ∧ w.frozen? ⟨b, 1, none⟩ = false ∧ w.frozen? ⟨b, 2, none⟩ = false ∧ w.frozen? ⟨b, 3, none⟩ = false ∧ w.frozen? ⟨b, 4, none⟩ = false ∧ w.frozen? ⟨b, 5, none⟩ = false ∧ w.frozen? ⟨b, 6, none⟩ = false ∧ w.frozen? ⟨b, 7, none⟩ = false := ⟨h.f 0 rfl, h.f 1 rfl, h.f 2 rfl, h.f 3 rfl, h.f 4 rfl, h.f 5 rfl, h.f 6 rfl, h.f 7 rfl⟩
theorem Bk.c12 {b : Nat} {w : World} {v0 v1 v2 v3 v4 v5 v6 v7 v8 v9 v10 v11 : Value} (h : Bk b [v0, v1, v2, v3, v4, v5, v6, v7, v8, v9, v10, v11] w) : w.cell? ⟨b, 0, none⟩ = some v0 ∧ w.cell? ⟨b, 1, none⟩ = some v1 ∧ w.cell? ⟨b, 2, none⟩ = some v2 ∧ w.cell? ⟨b, 3, none⟩ = some v3 ∧ w.cell? ⟨b, 4, none⟩ = some v4 ∧ w.cell? ⟨b, 5, none⟩ = some v5 ∧ w.cell? ⟨b, 6, none⟩ = some v6 ∧ w.cell? ⟨b, 7, none⟩ = some v7 ∧ w.cell? ⟨b, 8, none⟩ = some v8 ∧ w.cell? ⟨b, 9, none⟩ = some v9 ∧ w.cell? ⟨b, 10, none⟩ = some v10 ∧ w.cell? ⟨b, 11, none⟩ = some v11 := ⟨h.c 0 rfl, h.c 1 rfl, h.c 2 rfl, h.c 3 rfl, h.c 4 rfl, h.c 5 rfl, h.c 6 rfl, h.c 7 rfl, h.c 8 rfl, h.c 9 rfl, h.c 10 rfl, h.c 11 rfl⟩
theorem Bk.f12 {b : Nat} {w : World} {v0 v1 v2 v3 v4 v5 v6 v7 v8 v9 v10 v11 : Value} (h : Bk b [v0, v1, v2, v3, v4, v5, v6, v7, v8, v9, v10, v11] w) : w.frozen? ⟨b, 0, none⟩ = false ∧ w.frozen? ⟨b, 1, none⟩ = false ∧ w.frozen? ⟨b, 2, none⟩ = false ∧ w.frozen? ⟨b, 3, none⟩ = false ∧ w.frozen? ⟨b, 4, none⟩ = false ∧ w.frozen? ⟨b, 5, none⟩ = false ∧ w.frozen? ⟨b, 6, none⟩ = false ∧ w.frozen? ⟨b, 7, none⟩ = false ∧ w.frozen? ⟨b, 8, none⟩ = false ∧ w.frozen? ⟨b, 9, none⟩ = false ∧ w.frozen? ⟨b, 10, none⟩ = false ∧ w.frozen? ⟨b, 11, none⟩ = false := ⟨h.f 0 rfl, h.f 1 rfl, h.f 2 rfl, h.f 3 rfl, h.f 4 rfl, h.f 5 rfl, h.f 6 rfl, h.f 7 rfl, h.f 8 rfl, h.f 9 rfl, h.f 10 rfl, h.f 11 rfl⟩
theorem Bk.later {b : Nat} {cs : List Value} {w w1 : World} (h : Bk b cs w) (hb : bw w w1) : Bk b cs w1 :=
 ⟨Nat.lt_of_lt_of_le h.1 hb.size, fun k v hv => ⟨cell_later hb (h.2 k v hv).1, (hb.frozen (p := ⟨b, k, none⟩) h.1).trans (h.2 k v hv).2⟩⟩
theorem Bk.new (w : World) (cs : List Value) (t : TypeId) (n : Nat) (hn : n = w.heap.size) : Bk n cs (w.alloc (.cells cs.toArray t)) := by
 subst hn;refine ⟨by simp, fun k v hv => ?_⟩;have hlt : k < cs.length := (List.getElem?_eq_some_iff.1 hv).1;constructor
 ·go_simp
  exact (List.getElem?_eq_some_iff.1 hv).2
 ·go_simp
theorem Bk.put {b : Nat} {cs : List Value} {w : World} (h : Bk b cs w) (k : Nat) (v : Value) : Bk b (cs.set k v) (w.setCell ⟨b, k, none⟩ v) := by
 refine ⟨by simpa [World.setCell] using h.1, fun j u hu => ?_⟩;rw [List.getElem?_set] at hu
 by_cases e : k = j
 ·subst e
  rw [if_pos rfl] at hu
  split at hu
  ·rename_i hlt
   injection hu with hu;subst hu;have hc := h.2 k (cs[k]'hlt) (List.getElem?_eq_getElem hlt);refine ⟨?_, by rw [World.frozen?_setCell]; exact hc.2⟩;exact World.cell?_setCell_same' w _ v (by rw [hc.1]; rfl)
  ·cases hu
 ·rw [if_neg e] at hu
  have hc := h.2 j u hu;refine ⟨?_, by rw [World.frozen?_setCell]; exact hc.2⟩;simp [go_sem, hc.1]
theorem Bk.other {b b' : Nat} {cs : List Value} {w : World} (h : Bk b cs w) (hne : b ≠ b') (k : Nat) (v : Value) : Bk b cs (w.setCell ⟨b', k, none⟩ v) := by
 refine ⟨by simpa [World.setCell] using h.1, fun j u hu => ?_⟩;have hc := h.2 j u hu;exact ⟨(World.cell?_of_block (Below.heap_setCell w ⟨b', k, none⟩ v b hne)).trans hc.1, by rw [World.frozen?_setCell]; exact hc.2⟩
theorem Bk.same {b : Nat} {cs : List Value} {w w1 : World} (h : Bk b cs w) (hs : w.heap.size ≤ w1.heap.size) (hb : w1.heap[b]? = w.heap[b]?) : Bk b cs w1 :=
 ⟨Nat.lt_of_lt_of_le h.1 hs, fun k v hv => ⟨(World.cell?_of_block hb).trans (h.2 k v hv).1, (World.frozen?_of_block hb).trans (h.2 k v hv).2⟩⟩
theorem mwithin_any (lo x hi : Int) (w : World) :
  Calls Tryz.prog 215 #[.int .i64 lo, .int .i64 x, .int .i64 hi] w fun e w' => e = .returned (.bool (inR lo hi x)) ∧ w' = w := by
 unfold inR
 by_cases h : lo ≤ x
 ·go_enter Tryz.func215, Tryz.ntmps215
  go_wp2;go_ret;exact ⟨by simp [h], rfl⟩
 ·go_enter Tryz.func215, Tryz.ntmps215
  go_wp2;go_ret;exact ⟨by simp; omega, rfl⟩
theorem enW : ∀ args w, (callFunc 299 args).run Tryz.prog w = .ok (.enter 299 args) w := enters_of Tryz.func299 (by kernel_rfl) rfl
theorem ware_test (a : Sit) (n : Int) (B : Nat) (w : World) (hB : B < w.heap.size) (hc : w.cell? ⟨B, 0, none⟩ = some (.int .i64 n)) :
  CR 299 #[sv a, ptr B] w (.bool (a.slot == n)) := by
 have hne : B ≠ w.heap.size := by omega
 go_enter Tryz.func299, Tryz.ntmps299
 go_wp2;go_ret;exact ⟨rfl, (brf).alloc (Nat.le_refl _) _⟩
abbrev wcl (a : Wr) : List Value := [.string a.name, .int .i64 a.kind, .int .i64 a.rows, .int .i64 a.cols, .int .i64 a.x, .int .i64 a.y, .int .i64 a.pitch, .int .i64 a.wid, .int .i64 a.len, .int .i64 a.hei, .int .i64 a.deep, .int .i64 a.cap]
abbrev wbo (a : Wr) : Obj := .cells #[.string a.name, .int .i64 a.kind, .int .i64 a.rows, .int .i64 a.cols, .int .i64 a.x, .int .i64 a.y, .int .i64 a.pitch, .int .i64 a.wid, .int .i64 a.len, .int .i64 a.hei, .int .i64 a.deep, .int .i64 a.cap] 84
abbrev put12 (w : World) (b : Nat) (s : Wr) : World := (((((((((((w.setCell ⟨b, 0, none⟩ (.string s.name)).setCell ⟨b, 1, none⟩ (.int .i64 s.kind)).setCell ⟨b, 2, none⟩ (.int .i64 s.rows)).setCell ⟨b, 3, none⟩ (.int .i64 s.cols)).setCell ⟨b, 4, none⟩ (.int .i64 s.x)).setCell ⟨b, 5, none⟩ (.int .i64 s.y)).setCell ⟨b, 6, none⟩ (.int .i64 s.pitch)).setCell ⟨b, 7, none⟩ (.int .i64 s.wid)).setCell ⟨b, 8, none⟩ (.int .i64 s.len)).setCell ⟨b, 9, none⟩ (.int .i64 s.hei)).setCell ⟨b, 10, none⟩ (.int .i64 s.deep)).setCell ⟨b, 11, none⟩ (.int .i64 s.cap)
theorem below_put12 {n b : Nat} {w w' : World} {s : Wr} (h : Below n w w') (hn : n ≤ b) : Below n w (put12 w' b s) :=
 (((((((((((h.setCell hn _).setCell hn _).setCell hn _).setCell hn _).setCell hn _).setCell hn _).setCell hn _).setCell hn _).setCell hn _).setCell hn _).setCell hn _).setCell hn _
def wareV (l : List Sit) (p : Plc) : Wr × Int := match wareOf l p with
 | some a => (a, 0)
 | none => (zWr, 5)
theorem find_cases (l : List Sit) (n : Int) : (seatOf l n = none ∧ ∀ s ∈ l, (s.slot == n) = false) ∨ ∃ k, ∃ h : k < l.length, seatOf l n = some (l[k]'h) ∧ (l[k]'h).slot = n ∧ ∀ b ∈ l.take k, (b.slot == n) = false := by
 unfold seatOf
 cases e : l.find? (fun s => s.slot == n) with
 | none => exact .inl ⟨rfl, fun s hs => by simpa using List.find?_eq_none.1 e s hs⟩
 | some s =>
  obtain ⟨h1, k, hk, h2, h3⟩ := List.find?_eq_some_iff_getElem.1 e;refine .inr ⟨k, hk, by rw [h2], by rw [h2]; simpa using h1, fun b hb => ?_⟩;obtain ⟨j, hj, rfl⟩ := List.mem_take_iff_getElem.1 hb
  simpa using h3 j (by omega)
theorem wareAt_none (ao : Option Addr) (cap : Nat) (l : List Sit) (p : Plc) (t m : Int) (w : World) (hD : Dk w ao cap l) (hl : l.length ≤ 9223372036854775807) (hno : ∀ s ∈ l, (s.slot == p.1) = false) :
  CR 281 #[lay3 ao cap l t m, plv p] w (.tuple #[wv zWr, .int .i64 5]) := by
 have al : bw w (((w.alloc (lao3 ao cap l t m)).alloc (pobj p)).alloc (wbo zWr)) := (((brf).alloc (Nat.le_refl _) _).alloc (by simp) _).alloc (by simp; omega) _;have hcall := indexFuncS_any 299 #[ptr (w.heap.size + 1)] (fun a => a.slot == p.1) ao cap l _ enW (fun a W hW => ware_test a p.1 (w.heap.size + 1) W (by have := hW.size; simp at this; omega) (cell_later hW (by go_simp))) (hD.sts.next al) hl;rw [idxS_miss hno] at hcall;have HC := hdd hcall;clear hD hcall hno
 go_enter Tryz.func281, Tryz.ntmps281
 go_wp2_with fail
 refine HC.out.mono ?_;rintro e w1 ⟨rfl, hb⟩;have K := (Bk.new ((w.alloc (lao3 ao cap l t m)).alloc (pobj p)) (wcl zWr) 84 (w.heap.size + 1 + 1) (by simp)).later hb;have HB : Hid (bw w w1) := al.trans (hb.mono (by simp; omega));clear hb al;obtain ⟨a0, a1, a2, a3, a4, a5, a6, a7, a8, a9, a10, a11⟩ := (K).c12;obtain ⟨af0, af1, af2, af3, af4, af5, af6, af7, af8, af9, af10, af11⟩ := (K).f12;clear K;go_wp2;refine bodyPost_ret (v := .tuple #[wv zWr, .int .i64 5]) (by simp [results, Tryz.results281, go_sem, a0, a1, a2, a3, a4, a5, a6, a7, a8, a9, a10, a11]) rfl ⟨rfl, ?_⟩;exact below_put12 (s := zWr) HB.out (by omega)
theorem wareAt_out (ao : Option Addr) (cap : Nat) (l : List Sit) (p : Plc) (t m : Int) (w : World) (hD : Dk w ao cap l) (hd : dchk l = 0) (k : Nat) (hk : k < l.length) (s : Sit) (hs : s = l[k]'hk) (hhit : s.slot = p.1) (hno : ∀ b ∈ l.take k, (b.slot == p.1) = false) (hsp : spotOk p.2.1 p.2.2 s.ware.rows s.ware.cols = false) :
  CR 281 #[lay3 ao cap l t m, plv p] w (.tuple #[wv zWr, .int .i64 5]) := by
 have al : bw w (((w.alloc (lao3 ao cap l t m)).alloc (pobj p)).alloc (wbo zWr)) := (((brf).alloc (Nat.le_refl _) _).alloc (by simp) _).alloc (by simp; omega) _;have hl12 := dk_len hd;have hcall := indexFuncS_any 299 #[ptr (w.heap.size + 1)] (fun a => a.slot == p.1) ao cap l _ enW (fun a W hW => ware_test a p.1 (w.heap.size + 1) W (by have := hW.size; simp at this; omega) (cell_later hW (by go_simp))) (hD.sts.next al) (by omega);rw [idxS_hit hk hno (by rw [← hs]; simp [hhit])] at hcall;have HC := hdd hcall;obtain ⟨b, off, rfl, hat⟩ := hD.sts.at hk;rw [← hs] at hat;have HAT := (show Hid _ from hat);have HSO : Hid (SOk s) := by show SOk s; rw [hs]; exact hD.ok _ (List.getElem_mem hk)
 have HCH : Hid (chk s.ware = 0) := by show _ = _; rw [hs]; exact (dchk_ware hd (List.getElem_mem hk)).1
 have HSP := hdd hsp;clear hD hcall hno hs hhit hat hsp hd;have hki : (k : Int) < (l.length : Int) := by omega
 go_enter Tryz.func281, Tryz.ntmps281
 go_wp2_with fail
 refine HC.out.mono ?_;rintro e w1 ⟨rfl, hb⟩;have K0 : Hid (Bk w.heap.size [.slice (some ⟨b, off, none⟩) l.length cap, .int .i64 t, .int .i64 m] w1) := ((Bk.new w [.slice (some ⟨b, off, none⟩) l.length cap, .int .i64 t, .int .i64 m] 197 w.heap.size rfl).later (((brf).alloc (Nat.le_refl _) _).alloc (by simp) _)).later hb;have K1 : Hid (Bk (w.heap.size + 1) [.int .i64 p.1, .int .i64 p.2.1, .int .i64 p.2.2] w1) := ((Bk.new (w.alloc (lao3 (some ⟨b, off, none⟩) cap l t m)) [.int .i64 p.1, .int .i64 p.2.1, .int .i64 p.2.2] 55 (w.heap.size + 1) (by simp)).later ((brf).alloc (Nat.le_refl _) _)).later hb;have K2 : Hid (Bk (w.heap.size + 1 + 1) (wcl zWr) w1) := (Bk.new ((w.alloc (lao3 (some ⟨b, off, none⟩) cap l t m)).alloc (pobj p)) (wcl zWr) 84 (w.heap.size + 1 + 1) (by simp)).later hb;have HB : Hid (bw w w1) := al.trans (hb.mono (by simp; omega));clear hb al HC;obtain ⟨_, c0, c1, c2, c3, c4, c5, c6, c7, c8, c9, c10, c11, c12, c13⟩ := HAT.out.next HB.out;obtain ⟨l0, l1, l2⟩ := (K0.out).c3;obtain ⟨p0, p1, p2⟩ := (K1.out).c3;have lt := K2.out.1;have lt0 : w.heap.size < w1.heap.size := by omega
 have lt1 : w.heap.size + 1 < w1.heap.size := by omega
 have n0 : w.heap.size ≠ w1.heap.size := by omega
 have n1 : w.heap.size + 1 ≠ w1.heap.size := by omega
 have n2 : w.heap.size + 1 + 1 ≠ w1.heap.size := by omega
 go_wp2_with fail
 refine (middle_out s.ware p.2.1 p.2.2 _ HSO.out.1 HCH.out HSP.out).mono ?_;rintro e w2 ⟨rfl, hb2⟩;have alw : bw w1 (w1.alloc (wbo s.ware)) := (brf).alloc (Nat.le_refl _) _;have K3 := hdd ((K2.out.later alw).later hb2);have K4 : Hid (Bk w1.heap.size (wcl s.ware) w2) := (Bk.new w1 (wcl s.ware) 84 w1.heap.size rfl).later hb2;have HB2 := hdd ((HB.out.alloc HB.out.size _).trans (hb2.mono (by have := HB.out.size; simp; omega)));clear hb2 alw c0 c1 c2 c3 c4 c5 c6 c7 c8 c9 c10 c11 c12 c13 l0 l1 l2 p0 p1 p2;have lt2 := K3.out.1;have lt3 := K4.out.1;have m2 : w.heap.size + 1 + 1 ≠ w2.heap.size := by omega
 obtain ⟨a0, a1, a2, a3, a4, a5, a6, a7, a8, a9, a10, a11⟩ := (K3.out).c12;obtain ⟨af0, af1, af2, af3, af4, af5, af6, af7, af8, af9, af10, af11⟩ := (K3.out).f12;go_wp2;refine bodyPost_ret (v := .tuple #[wv zWr, .int .i64 5]) (by simp [results, Tryz.results281, go_sem, a0, a1, a2, a3, a4, a5, a6, a7, a8, a9, a10, a11, lt2]) rfl ⟨rfl, ?_⟩;exact (below_put12 (s := zWr) HB2.out (by omega)).alloc (by have := HB2.out.size; simp [World.setCell]; omega) _
theorem wareAt_ok (ao : Option Addr) (cap : Nat) (l : List Sit) (p : Plc) (t m : Int) (w : World) (hD : Dk w ao cap l) (hd : dchk l = 0) (k : Nat) (hk : k < l.length) (s : Sit) (hs : s = l[k]'hk) (hhit : s.slot = p.1) (hno : ∀ b ∈ l.take k, (b.slot == p.1) = false) (hsp : spotOk p.2.1 p.2.2 s.ware.rows s.ware.cols = true) :
  CR 281 #[lay3 ao cap l t m, plv p] w (.tuple #[wv s.ware, .int .i64 0]) := by
 have al : bw w (((w.alloc (lao3 ao cap l t m)).alloc (pobj p)).alloc (wbo zWr)) := (((brf).alloc (Nat.le_refl _) _).alloc (by simp) _).alloc (by simp; omega) _;have hl12 := dk_len hd;have hcall := indexFuncS_any 299 #[ptr (w.heap.size + 1)] (fun a => a.slot == p.1) ao cap l _ enW (fun a W hW => ware_test a p.1 (w.heap.size + 1) W (by have := hW.size; simp at this; omega) (cell_later hW (by go_simp))) (hD.sts.next al) (by omega);rw [idxS_hit hk hno (by rw [← hs]; simp [hhit])] at hcall;have HC := hdd hcall;obtain ⟨b, off, rfl, hat⟩ := hD.sts.at hk;rw [← hs] at hat;have HAT := (show Hid _ from hat);have HSO : Hid (SOk s) := by show SOk s; rw [hs]; exact hD.ok _ (List.getElem_mem hk)
 have HCH : Hid (chk s.ware = 0) := by show _ = _; rw [hs]; exact (dchk_ware hd (List.getElem_mem hk)).1
 have HSP := hdd hsp;clear hD hcall hno hs hhit hat hsp hd;have hki : (k : Int) < (l.length : Int) := by omega
 go_enter Tryz.func281, Tryz.ntmps281
 go_wp2_with fail
 refine HC.out.mono ?_;rintro e w1 ⟨rfl, hb⟩;have K0 : Hid (Bk w.heap.size [.slice (some ⟨b, off, none⟩) l.length cap, .int .i64 t, .int .i64 m] w1) := ((Bk.new w [.slice (some ⟨b, off, none⟩) l.length cap, .int .i64 t, .int .i64 m] 197 w.heap.size rfl).later (((brf).alloc (Nat.le_refl _) _).alloc (by simp) _)).later hb;have K1 : Hid (Bk (w.heap.size + 1) [.int .i64 p.1, .int .i64 p.2.1, .int .i64 p.2.2] w1) := ((Bk.new (w.alloc (lao3 (some ⟨b, off, none⟩) cap l t m)) [.int .i64 p.1, .int .i64 p.2.1, .int .i64 p.2.2] 55 (w.heap.size + 1) (by simp)).later ((brf).alloc (Nat.le_refl _) _)).later hb;have K2 : Hid (Bk (w.heap.size + 1 + 1) (wcl zWr) w1) := (Bk.new ((w.alloc (lao3 (some ⟨b, off, none⟩) cap l t m)).alloc (pobj p)) (wcl zWr) 84 (w.heap.size + 1 + 1) (by simp)).later hb;have HB : Hid (bw w w1) := al.trans (hb.mono (by simp; omega));clear hb al HC;obtain ⟨_, c0, c1, c2, c3, c4, c5, c6, c7, c8, c9, c10, c11, c12, c13⟩ := HAT.out.next HB.out;obtain ⟨l0, l1, l2⟩ := (K0.out).c3;obtain ⟨p0, p1, p2⟩ := (K1.out).c3;have lt := K2.out.1;have lt0 : w.heap.size < w1.heap.size := by omega
 have lt1 : w.heap.size + 1 < w1.heap.size := by omega
 have n0 : w.heap.size ≠ w1.heap.size := by omega
 have n1 : w.heap.size + 1 ≠ w1.heap.size := by omega
 have n2 : w.heap.size + 1 + 1 ≠ w1.heap.size := by omega
 go_wp2_with fail
 refine (middle_ok s.ware p.2.1 p.2.2 _ HSO.out.1 HCH.out HSP.out).mono ?_;rintro e w2 ⟨rfl, hb2⟩;have alw : bw w1 (w1.alloc (wbo s.ware)) := (brf).alloc (Nat.le_refl _) _;have K3 := hdd ((K2.out.later alw).later hb2);have K4 : Hid (Bk w1.heap.size (wcl s.ware) w2) := (Bk.new w1 (wcl s.ware) 84 w1.heap.size rfl).later hb2;have HB2 := hdd ((HB.out.alloc HB.out.size _).trans (hb2.mono (by have := HB.out.size; simp; omega)));clear hb2 alw c0 c1 c2 c3 c4 c5 c6 c7 c8 c9 c10 c11 c12 c13 l0 l1 l2 p0 p1 p2;have lt2 := K3.out.1;have lt3 := K4.out.1;have m2 : w.heap.size + 1 + 1 ≠ w2.heap.size := by omega
 have m3 : w1.heap.size ≠ w2.heap.size := by omega
 have m4 : w1.heap.size ≠ w.heap.size + 1 + 1 := fun e => n2 e.symm;obtain ⟨a0, a1, a2, a3, a4, a5, a6, a7, a8, a9, a10, a11⟩ := (K3.out).c12;obtain ⟨af0, af1, af2, af3, af4, af5, af6, af7, af8, af9, af10, af11⟩ := (K3.out).f12;obtain ⟨d0, d1, d2, d3, d4, d5, d6, d7, d8, d9, d10, d11⟩ := (K4.out).c12;go_wp2;refine bodyPost_ret (v := .tuple #[wv s.ware, .int .i64 0]) (by simp [results, Tryz.results281, go_sem, a0, a1, a2, a3, a4, a5, a6, a7, a8, a9, a10, a11, lt2]) rfl ⟨rfl, ?_⟩;exact (below_put12 (s := s.ware) HB2.out (by omega)).alloc (by have := HB2.out.size; simp [World.setCell]; omega) _
theorem wareAt_any (ao : Option Addr) (cap : Nat) (l : List Sit) (p : Plc) (t m : Int) (w : World) (hD : Dk w ao cap l) (hd : dchk l = 0) :
  CR 281 #[lay3 ao cap l t m, plv p] w (.tuple #[wv (wareV l p).1, .int .i64 (wareV l p).2]) := by
 have hl := dk_len hd
 rcases find_cases l p.1 with ⟨h1, h2⟩ | ⟨k, hk, h1, h2, h3⟩
 ·have e : wareV l p = (zWr, 5) := by simp [wareV, wareOf, h1]
  rw [e];exact wareAt_none ao cap l p t m w hD (by omega) h2
 ·cases hs : spotOk p.2.1 p.2.2 (l[k]'hk).ware.rows (l[k]'hk).ware.cols with
  | false =>
   have e : wareV l p = (zWr, 5) := by simp [wareV, wareOf, h1, hs]
   rw [e];exact wareAt_out ao cap l p t m w hD hd k hk _ rfl h2 h3 hs
  | true =>
   have e : wareV l p = ((l[k]'hk).ware, 0) := by simp [wareV, wareOf, h1, hs]
   rw [e];exact wareAt_ok ao cap l p t m w hD hd k hk _ rfl h2 h3 hs
theorem wellM_of (l : List Sit) (p : Plc) : wellM l p = if (wareV l p).2 = 0 then (if (wareV l p).1.kind = 1 then ((wareV l p).1.cap, 0) else (0, 6)) else (0, 5) := by
 unfold wellM wareV
 cases h : wareOf l p <;> simp
theorem wareV_two (l : List Sit) (p : Plc) : (wareV l p).2 = 0 ∨ (wareV l p).2 = 5 := by
 unfold wareV
 split
 ·exact .inl rfl
 ·exact .inr rfl
theorem wellMost_any (ao : Option Addr) (cap : Nat) (l : List Sit) (p : Plc) (w : World) (hD : Dk w ao cap l) (hd : dchk l = 0) :
  CR 253 #[layv ao cap l, plv p] w (.tuple #[.int .i64 (wellM l p).1, .int .i64 (wellM l p).2]) := by
 have al : bw w ((w.alloc (layo ao cap l)).alloc (pobj p)) := ((brf).alloc (Nat.le_refl _) _).alloc (by simp) _;have HC := (show Hid _ from wareAt_any ao cap l p ((tipsL l).length : Int) (tipM l) _ (hD.next al) hd);have HM : Hid (_) := wellM_of l p;have h2 := wareV_two l p;obtain ⟨⟨a, e0⟩, hV⟩ : ∃ x, wareV l p = x := ⟨_, rfl⟩;rw [hV] at HC HM h2;simp only at HC HM h2;clear hV hD hd
 by_cases h0 : e0 = 0
 ·subst h0
  by_cases hk : a.kind = 1
  ·have hk2 : (a.kind != 1) = false := by simp [hk]
   have HQ : Hid (wellM l p = (a.cap, 0)) := by show _ = _; rw [HM.out, if_pos rfl, if_pos hk]
   go_enter Tryz.func253, Tryz.ntmps253
   go_wp2_with fail
   refine Calls.mono HC.out ?_;rintro e w1 ⟨rfl, hb⟩;go_wp2
   go_ret2
   refine ⟨by rw [HQ.out]; rfl, ?_⟩;exact (al.trans (hb.mono (by simp; omega))).alloc (by have := hb.size; simp at this; omega) _
  ·have hk2 : (a.kind != 1) = true := by simp [hk]
   have HQ : Hid (wellM l p = (0, 6)) := by show _ = _; rw [HM.out, if_pos rfl, if_neg hk]
   go_enter Tryz.func253, Tryz.ntmps253
   go_wp2_with fail
   refine Calls.mono HC.out ?_;rintro e w1 ⟨rfl, hb⟩;go_wp2
   go_ret2
   refine ⟨by rw [HQ.out]; rfl, ?_⟩;exact (al.trans (hb.mono (by simp; omega))).alloc (by have := hb.size; simp at this; omega) _
 ·obtain rfl : e0 = 5 := h2.resolve_left h0
  have HQ : Hid (wellM l p = (0, 5)) := by show _ = _; rw [HM.out, if_neg (by decide)]
  go_enter Tryz.func253, Tryz.ntmps253
  go_wp2_with fail
  refine Calls.mono HC.out ?_;rintro e w1 ⟨rfl, hb⟩;go_wp2
  go_ret2
  refine ⟨by rw [HQ.out]; rfl, ?_⟩;exact (al.trans (hb.mono (by simp; omega))).alloc (by have := hb.size; simp at this; omega) _
theorem mtotal_any (ao : Option Addr) (cap : Nat) (ps : List Pc) (w : World) (h : Fl w ao ps) :
  CR 254 #[.slice ao ps.length cap] w (.int .i64 (totR ps).1) := by
 have HC := (show Hid _ from totalF_any ao cap ps w h);clear h;generalize totR ps = r at *
 go_enter Tryz.func254, Tryz.ntmps254
 go_wp2_with fail
 refine Calls.mono HC.out ?_;rintro e w1 ⟨rfl, hb⟩;go_wp2;go_ret;exact ⟨rfl, hb⟩
end Go.Proofs.YtcajifelbldjnaaGreatDoor
namespace Go.Proofs.YtcajifelbldjnaaGreatDoor
open Go.RowKit
structure Enc (α : Type) where
 E : TypeId
 sz : Nat
 enc : α → List Value
def Enc.cells {α : Type} (c : Enc α) (ps : List α) : List Value := ps.flatMap c.enc
def OwnR {α : Type} (c : Enc α) (w : World) (base : Nat) (v : Value) (ps : List α) : Prop := w.ownsRow base c.E c.sz v ps.length (c.cells ps)
structure Good {α : Type} (c : Enc α) : Prop where
 len : ∀ x, (c.enc x).length = c.sz
 one : ∀ x, ∀ u ∈ c.enc x, u.oneCell' = true
theorem cells_append {α : Type} (c : Enc α) (a b : List α) : c.cells (a ++ b) = c.cells a ++ c.cells b := by simp [Enc.cells]
theorem cells_one {α : Type} (c : Enc α) (x : α) : c.cells [x] = c.enc x := by simp [Enc.cells]
theorem cells_length {α : Type} {c : Enc α} (hg : Good c) (ps : List α) : (c.cells ps).length = ps.length * c.sz := by
 induction ps with
 | nil => simp [Enc.cells]
 | cons x ps ih =>
  have : c.cells (x :: ps) = c.enc x ++ c.cells ps := rfl;rw [this, List.length_append, ih, hg.len, List.length_cons, Nat.succ_mul];omega
theorem cells_at {α : Type} {c : Enc α} (hg : Good c) {ps : List α} {k : Nat} (h : k < ps.length) {j : Nat} (hj : j < c.sz) : (c.cells ps)[k * c.sz + j]? = (c.enc (ps[k]'h))[j]? := by
 have e : ps = ps.take k ++ ps[k]'h :: ps.drop (k + 1) := by rw [← List.drop_eq_getElem_cons h, List.take_append_drop]
 have e2 : c.cells ps = c.cells (ps.take k) ++ (c.enc (ps[k]'h) ++ c.cells (ps.drop (k + 1))) := by
  conv => lhs; rw [e]
  rw [cells_append]; rfl
 have hl : (c.cells (ps.take k)).length = k * c.sz := by rw [cells_length hg, List.length_take, Nat.min_eq_left (by omega)]
 rw [e2, List.getElem?_append_right (by omega), hl, Nat.add_sub_cancel_left, List.getElem?_append_left (by rw [hg.len]; exact hj)]
theorem OwnR.nil {α : Type} (c : Enc α) (w : World) (base : Nat) : OwnR c w base (.slice none 0 0) [] := World.ownsRow_nil w base c.E c.sz
theorem OwnR.shape {α : Type} {c : Enc α} {w : World} {base : Nat} {v : Value} {ps : List α} (h : OwnR c w base v ps) : ∃ ao cap, v = .slice ao ps.length cap := by
 rcases h.2 with ⟨h1, h2⟩ | ⟨g, cap, cur, h1, _⟩
 ·exact ⟨none, 0, by rw [h1, h2]⟩
 ·exact ⟨_, _, h1⟩
theorem OwnR.form {α : Type} {c : Enc α} {w : World} {base : Nat} {v : Value} {ps : List α} (h : OwnR c w base v ps) : ∃ ao n cap, v = .slice ao n cap := by
 obtain ⟨ao, cap, e⟩ := h.shape;exact ⟨ao, _, cap, e⟩
theorem OwnR.alloc {α : Type} {c : Enc α} {w : World} {base : Nat} {v : Value} {ps : List α} (h : OwnR c w base v ps) (o : Obj) : OwnR c (w.alloc o) base v ps := World.ownsRow.alloc h o
theorem OwnR.kept {α : Type} {c : Enc α} {w w' : World} {base : Nat} {v : Value} {ps : List α} {row : Option Nat} (h : OwnR c w base v ps) (hg : w.grownBy w' row) (hne : v.ownBlock = none ∨ v.ownBlock ≠ row) : OwnR c w' base v ps := World.ownsRow.kept h hg hne
theorem OwnR.base {α : Type} {c : Enc α} {w : World} {base base' : Nat} {v : Value} {ps : List α} (h : OwnR c w base v ps) (hb : base' ≤ base) : OwnR c w base' v ps := by
 obtain ⟨h1, h2⟩ := h;refine ⟨h1, h2.imp id ?_⟩;rintro ⟨g, cap, cur, e, hg, r⟩;exact ⟨g, cap, cur, e, by omega, r⟩
theorem OwnR.later {α : Type} {c : Enc α} {w w' : World} {base : Nat} {v : Value} {ps : List α} (h : OwnR c w base v ps) (hb : bw w w') : OwnR c w' base v ps := by
 obtain ⟨h1, h2⟩ := h;refine ⟨h1, h2.imp id ?_⟩;rintro ⟨g, cap, cur, e, hg, hh, r⟩;exact ⟨g, cap, cur, e, hg, (hb.block g (Array.getElem?_eq_some_iff.1 hh).1).trans hh, r⟩
theorem OwnR.read {α : Type} {c : Enc α} (hg : Good c) {w : World} {base : Nat} {v : Value} {ps : List α} (h : OwnR c w base v ps) : (ps = [] ∧ ∃ ao cap, v = .slice ao 0 cap) ∨ ∃ g cap, v = .slice (some ⟨g, 0, none⟩) ps.length cap ∧ ps.length ≤ cap ∧ base ≤ g ∧ g < w.heap.size ∧
  ∀ k (hk : k < ps.length) j, j < c.sz → w.cell? ⟨g, k * c.sz + j, none⟩ = (c.enc (ps[k]'hk))[j]? := by
 by_cases hn : ps = []
 ·obtain ⟨ao, cap, e⟩ := h.shape
  subst hn;exact .inl ⟨rfl, ao, cap, e⟩
 rcases h.2 with ⟨h1, h2⟩ | ⟨g, cap', cur, h1, h2, h3, h4, h5⟩
 ·exact absurd (List.eq_nil_of_length_eq_zero h2) hn
 ·subst h1
  refine .inr ⟨g, cap', rfl, h4, h2, (Array.getElem?_eq_some_iff.1 h3).1, fun k hk j hj => ?_⟩;rw [World.ownsRow.cellAt h (k * c.sz + j) ?_]
  ·exact cells_at hg hk hj
  ·have : (k + 1) * c.sz ≤ ps.length * c.sz := Nat.mul_le_mul_right _ hk
   rw [Nat.succ_mul] at this;omega
theorem below_row {α : Type} {c : Enc α} {base : Nat} {a w w' : World} {v : Value} {ps : List α} (h : Below base a w) (ho : OwnR c w base v ps) (hg : w.grownBy w' v.ownBlock) (hB : base ≤ w.heap.size) : Below base a w' :=
 h.grown hg hB (fun k hk => (World.ownsRow.lt ho k hk).1)
theorem wpList_append_row {α : Type} {c : Enc α} (hgc : Good c) {T by' : Nat} {z : Value} (hT : Tryz.prog.underlying T = some (.slice c.E)) (hI : (Tryz.prog.info? c.E).map (fun i => (i.zero, i.size, i.bytes)) = some (some z, c.sz, by')) (hz : z.cells.size = c.sz) (hs0 : 0 < c.sz) (hby : by' ≤ 140)
  (w : World) {ops : Array Oper} {rest : List Oper} {o : Oper} {a : Act} {Q : Exit → Act → World → Prop} (hgd : o.guard = none) (s x : Operand)
  (ho : o.op = .call { callee := .builtin .append, args := #[s, x], argTypes := #[T, T] }) (base : Nat) (v : Value) (ps : List α) (hs : a.eval s = v) (hown : OwnR c w base v ps)
  (b : Nat) (p : α) (hx : a.eval x = .slice (some ⟨b, 0, none⟩) 1 1) (hc : ∀ j u, (c.enc p)[j]? = some u → w.cell? ⟨b, j, none⟩ = some u)
  (hlen : ps.length ≤ 1000000000) (hbase : base ≤ w.heap.size)
  (h : ∀ v' w', OwnR c w' base v' (ps ++ [p]) → w.grownBy w' v.ownBlock → (v'.ownBlock = v.ownBlock ∨ v'.ownBlock = some w.heap.size) → wpList Tryz.prog ops Q rest (a.put o.dst v') w') :
  wpList Tryz.prog ops Q (o :: rest) a w := by
 obtain ⟨i0, hi, hz0, hz1, hz2⟩ := info_parts hI;refine wpList_append_own_at w hgd s x T ho base c.E i0 z c.sz by' hT hi hz0 hz1 hz2 hz hs0 v ps.length (c.cells ps) hs hown ⟨b, 0, none⟩ 1 1 (c.enc p) hx (by rw [hgc.len]; omega) ?_ (hgc.one p) ?_ ?_ hbase ?_
 ·intro j u hj
  have hj2 := hc j u hj
  by_cases e : j = 0
  ·subst e; simpa [Addr.add] using hj2
  ·simpa [Addr.add, e] using hj2
 ·unfold maxLen; omega
 ·have : (ps.length + 1) * by' ≤ (ps.length + 1) * 140 := Nat.mul_le_mul_left _ hby
  omega
 ·intro v' w' h1 h2 _ h4
  refine h v' w' ?_ h2 h4;unfold OwnR;rw [cells_append, cells_one, List.length_append];exact h1
def RdR {α : Type} (c : Enc α) (w : World) (ao : Option Addr) (l : List α) : Prop :=
 l = [] ∨ ∃ b off, ao = some ⟨b, off, none⟩ ∧ b < w.heap.size ∧ ∀ k (hk : k < l.length) j, j < c.sz → w.cell? ⟨b, off + k * c.sz + j, none⟩ = (c.enc (l[k]'hk))[j]?
theorem RdR.next {α : Type} {c : Enc α} (hg : Good c) {w w1 : World} {ao : Option Addr} {l : List α} (h : RdR c w ao l) (hb : bw w w1) : RdR c w1 ao l := by
 rcases h with h | ⟨b, off, e, hlt, hc⟩
 ·exact .inl h
 ·refine .inr ⟨b, off, e, Nat.lt_of_lt_of_le hlt hb.size, fun k hk j hj => ?_⟩
  have hl := hg.len (l[k]'hk);obtain ⟨u, hu⟩ : ∃ u, (c.enc (l[k]'hk))[j]? = some u := ⟨_, List.getElem?_eq_getElem (by omega)⟩;rw [hu];exact cell_later hb ((hc k hk j hj).trans hu)
theorem RdR.cells {α : Type} {c : Enc α} (hg : Good c) (hs0 : 0 < c.sz) {w : World} {ad : Addr} {l : List α} (h : RdR c w (some ad) l) : ∀ j u, (c.cells l)[j]? = some u → w.cell? (ad.add j) = some u := by
 intro j u hj
 have hlt : j < l.length * c.sz := by
  have := (List.getElem?_eq_some_iff.1 hj).1;rw [cells_length hg] at this;exact this
 rcases h with rfl | ⟨b, off, e, _, hc⟩
 ·simp at hlt
 ·injection e with e
  subst e;have hk : j / c.sz < l.length := by rw [Nat.div_lt_iff_lt_mul hs0]; exact hlt
  have hm : j % c.sz < c.sz := Nat.mod_lt _ hs0;have hat := cells_at hg hk hm;have ej : j / c.sz * c.sz + j % c.sz = j := by rw [Nat.mul_comm]; exact Nat.div_add_mod j c.sz
  rw [ej, hj] at hat;have := hc (j / c.sz) hk (j % c.sz) hm;rw [Addr.add_lit, ← hat] at *;rw [show off + j / c.sz * c.sz + j % c.sz = off + j by omega] at this;exact this
theorem cells_ones {α : Type} {c : Enc α} (hg : Good c) (l : List α) : ∀ u ∈ c.cells l, u.oneCell' = true := by
 intro u hu;obtain ⟨b, _, hb⟩ := List.mem_flatMap.1 hu;exact hg.one b u hb
theorem wpList_append_list {α : Type} {c : Enc α} (hgc : Good c) {T by' : Nat} {z : Value} (hT : Tryz.prog.underlying T = some (.slice c.E)) (hI : (Tryz.prog.info? c.E).map (fun i => (i.zero, i.size, i.bytes)) = some (some z, c.sz, by')) (hz : z.cells.size = c.sz) (hs0 : 0 < c.sz)
  (w : World) {ops : Array Oper} {rest : List Oper} {o : Oper} {a : Act} {Q : Exit → Act → World → Prop} (hgd : o.guard = none) (s x : Operand)
  (ho : o.op = .call { callee := .builtin .append, args := #[s, x], argTypes := #[T, T] }) (base : Nat) (v : Value) (ps : List α) (hs : a.eval s = v) (hown : OwnR c w base v ps)
  (ad : Addr) (cp : Nat) (l : List α) (hx : a.eval x = .slice (some ad) l.length cp) (hq : RdR c w (some ad) l) (h63 : ps.length + l.length ≤ maxLen) (hlen : (ps.length + l.length) * by' ≤ 140737488355328) (hbase : base ≤ w.heap.size)
  (h : ∀ v' w', OwnR c w' base v' (ps ++ l) → w.grownBy w' v.ownBlock → (v'.ownBlock = v.ownBlock ∨ v'.ownBlock = some w.heap.size) → wpList Tryz.prog ops Q rest (a.put o.dst v') w') :
  wpList Tryz.prog ops Q (o :: rest) a w := by
 obtain ⟨i0, hi, hz0, hz1, hz2⟩ := info_parts hI;refine wpList_append_own_at w hgd s x T ho base c.E i0 z c.sz by' hT hi hz0 hz1 hz2 hz hs0 v ps.length (c.cells ps) hs hown ad l.length cp (c.cells l) hx (cells_length hgc l) (hq.cells hgc hs0) (cells_ones hgc l) h63 hlen hbase ?_;intro v' w' h1 h2 _ h4;refine h v' w' ?_ h2 h4;unfold OwnR;rw [cells_append, List.length_append];exact h1
abbrev encP : Enc Plc := ⟨55, 3, fun p => [.int .i64 p.1, .int .i64 p.2.1, .int .i64 p.2.2]⟩
abbrev encW : Enc Wh := ⟨205, 4, fun x => [.int .i64 x.1.1, .int .i64 x.1.2.1, .int .i64 x.1.2.2, .slice x.2.1 x.2.2.2.length x.2.2.1]⟩
abbrev encT : Enc ByteArray := ⟨9, 1, fun x => [.string x]⟩
abbrev encC : Enc F.Pc := ⟨147, 2, fun p => [.string p.1, .int .i64 p.2]⟩
theorem goodP : Good encP := ⟨fun _ => rfl, fun x u hu => by simp at hu; rcases hu with rfl | rfl | rfl <;> rfl⟩
theorem goodW : Good encW := ⟨fun _ => rfl, fun x u hu => by simp at hu; rcases hu with rfl | rfl | rfl | rfl <;> rfl⟩
theorem goodT : Good encT := ⟨fun _ => rfl, fun x u hu => by simp at hu; subst hu; rfl⟩
theorem goodC : Good encC := ⟨fun _ => rfl, fun x u hu => by simp at hu; rcases hu with rfl | rfl <;> rfl⟩
theorem infoP : (Tryz.prog.info? 55).map (fun i => (i.zero, i.size, i.bytes)) = some (some (.agg #[.int .i64 0, .int .i64 0, .int .i64 0]), 3, 24) := by kernel_rfl
theorem infoW : (Tryz.prog.info? 205).map (fun i => (i.zero, i.size, i.bytes)) = some (some (.agg #[.int .i64 0, .int .i64 0, .int .i64 0, .slice none 0 0]), 4, 48) := by kernel_rfl
theorem infoT : (Tryz.prog.info? 9).map (fun i => (i.zero, i.size, i.bytes)) = some (some (.string ⟨#[]⟩), 1, 16) := by kernel_rfl
theorem infoC : (Tryz.prog.info? 147).map (fun i => (i.zero, i.size, i.bytes)) = some (some (.agg #[.string ⟨#[]⟩, .int .i64 0]), 2, 24) := by kernel_rfl
theorem tx_of {w : World} {base : Nat} {v : Value} {t : List ByteArray} (h : OwnR encT w base v t) (hs : ∀ x ∈ t, x.size ≤ maxLen) : ∃ ao cap, v = .slice ao t.length cap ∧ Tx w ao t := by
 rcases h.read goodT with ⟨rfl, ao, cap, e⟩ | ⟨g, cap, e, _, _, hg, hc⟩
 ·exact ⟨ao, cap, e, Tx.nil _ _⟩
 ·refine ⟨_, cap, e, hs, .inr ⟨g, 0, rfl, hg, fun k hk => ?_⟩⟩
  have := hc k hk 0 (by decide)
  simpa using this
theorem fl_of {w : World} {base : Nat} {v : Value} {t : List F.Pc} (h : OwnR encC w base v t) (hs : ∀ x ∈ t, x.1.size ≤ maxLen) : ∃ ao cap, v = .slice ao t.length cap ∧ F.Fl w ao t := by
 rcases h.read goodC with ⟨rfl, ao, cap, e⟩ | ⟨g, cap, e, _, _, hg, hc⟩
 ·exact ⟨ao, cap, e, F.Fl.nil _ _⟩
 ·refine ⟨_, cap, e, hs, .inr ⟨g, 0, rfl, hg, fun k hk => ?_⟩⟩
  have h0 := hc k hk 0 (by decide);have h1 := hc k hk 1 (by decide);exact ⟨by simpa using h0, by simpa using h1⟩
theorem rd_fl {w : World} {ao : Option Addr} {ps : List F.Pc} (h : F.Fl w ao ps) : RdR encC w ao ps := by
 rcases h.2 with h | ⟨b, off, e, hlt, hc⟩
 ·exact .inl h
 ·refine .inr ⟨b, off, e, hlt, fun k hk j hj => ?_⟩
  match j, hj with
  | 0, _ => exact (hc k hk).1
  | 1, _ => exact (hc k hk).2
theorem rd_tx {w : World} {ao : Option Addr} {ps : List ByteArray} (h : Tx w ao ps) : RdR encT w ao ps := by
 rcases h.2 with h | ⟨b, off, e, hlt, hc⟩
 ·exact .inl h
 ·refine .inr ⟨b, off, e, hlt, fun k hk j hj => ?_⟩
  match j, hj with
  | 0, _ =>
   show w.cell? ⟨b, off + k * 1 + 0, none⟩ = _;rw [Nat.mul_one];exact hc k hk
def tipsTo (l : List Sit) (n : Nat) : List Plc := (List.range n).flatMap fun (k : Nat) => rackIn l ((k : Int) + 1)
theorem tipsTo_succ (l : List Sit) (n : Nat) : tipsTo l (n + 1) = tipsTo l n ++ rackIn l ((n : Int) + 1) := by simp [tipsTo, List.range_succ]
theorem tipsTo_all (l : List Sit) : tipsTo l 12 = tipsL l := rfl
theorem rackIn_length {l : List Sit} (hd : dchk l = 0) (n : Int) : (rackIn l n).length ≤ 384 := by
 unfold rackIn
 split
 ·rename_i s hs
  split
  ·have hc := (dchk_ware hd (seatOf_in hs).1).1
   have h1 := inR_iff.1 (chk_in hc).2.2.1;have h2 := inR_iff.1 (chk_in hc).2.2.2.1;rw [List.length_map, spots_length];have : s.ware.rows.toNat * s.ware.cols.toNat ≤ 16 * 24 := Nat.mul_le_mul (by omega) (by omega);omega
  ·simp
 ·simp
theorem tipsTo_length {l : List Sit} (hd : dchk l = 0) (n : Nat) : (tipsTo l n).length ≤ 384 * n := by
 induction n with
 | zero => simp [tipsTo]
 | succ n ih =>
  have := rackIn_length hd ((n : Int) + 1);rw [tipsTo_succ, List.length_append];omega
def spotP (n : Int) (p : Nat × Nat) : Plc := (n, (p.1 : Int), (p.2 : Int))
theorem rackIn_no {l : List Sit} {n : Int} (h : seatOf l n = none) : rackIn l n = [] := by simp [rackIn, h]
theorem rackIn_kind {l : List Sit} {n : Int} {s : Sit} (h : seatOf l n = some s) (hk : s.ware.kind ≠ 2) : rackIn l n = [] := by simp [rackIn, h, hk]
theorem rackIn_yes {l : List Sit} {n : Int} {s : Sit} {R C : Nat} (h : seatOf l n = some s) (hk : s.ware.kind = 2) (hR : s.ware.rows = R) (hC : s.ware.cols = C) : rackIn l n = (spots R (C * R)).map (spotP n) := by
 simp [rackIn, h, hk, hR, hC, Nat.mul_comm, spotP]
theorem take_map_succ {α β : Type} (f : α → β) {l : List α} {k : Nat} (h : k < l.length) : (l.map f).take (k + 1) = (l.map f).take k ++ [f (l[k]'h)] := by
 rw [List.take_succ_eq_append_getElem (by simpa using h)];simp
theorem sep_of {α β : Type} {c : Enc α} {d : Enc β} {w w' : World} {base base' : Nat} {v u : Value} {ps : List α} {qs : List β} (hv : OwnR c w base v ps) (hu : OwnR d w' base' u qs) (h : w.heap.size ≤ base') : v.ownBlock = none ∨ u.ownBlock ≠ v.ownBlock := by
 cases e : v.ownBlock with
 | none => exact .inl rfl
 | some g =>
  refine .inr fun e2 => ?_;have h1 := (World.ownsRow.lt hv g e).2;have h2 := (World.ownsRow.lt hu g e2).1;omega
theorem sep_kept {β : Type} {d : Enc β} {w w' : World} {base' : Nat} {v v' u : Value} {qs : List β} (hs : v.ownBlock = none ∨ u.ownBlock ≠ v.ownBlock) (hu : OwnR d w base' u qs) (hg : w.grownBy w' v.ownBlock) (hl : v'.ownBlock = v.ownBlock ∨ v'.ownBlock = some w.heap.size) :
  OwnR d w' base' u qs ∧ (v'.ownBlock = none ∨ u.ownBlock ≠ v'.ownBlock) := by
 constructor
 ·refine hu.kept hg ?_
  rcases hs with h | h
  ·cases e : u.ownBlock with
   | none => exact .inl rfl
   | some g => exact .inr (by rw [h]; simp)
  ·exact .inr h
 ·rcases hl with h | h
  ·rw [h]; exact hs
  ·rw [h]
   refine .inr fun e => ?_;have := (World.ownsRow.lt hu _ e).2;omega
theorem drops_succ {t : List ByteArray} {k : Nat} (h : k < t.length) : drops (t.take (k + 1)) = drops (t.take k) ++ [(t[k]'h, 1)] := by
 unfold drops;rw [List.take_succ_eq_append_getElem h, List.map_append]
 rfl
theorem drops_length (t : List ByteArray) : (drops t).length = t.length := by simp [drops]
theorem drops_any (ao : Option Addr) (cap : Nat) (t : List ByteArray) (w : World) (h : Tx w ao t) (hl : t.length ≤ 100) :
  Calls Tryz.prog 213 #[.slice ao t.length cap] w fun e w' => ∃ v, e = .returned v ∧ OwnR encC w' w.heap.size v (drops t) ∧ bw w w' := by
 have HF := hdd h;clear h
 go_enter Tryz.func213, Tryz.ntmps213
 go_wp2
 go_loopw [3, 8] (fun v i wr => ∃ k : Nat, k ≤ t.length ∧ i = .int .i64 k ∧ OwnR encC wr w.heap.size v (drops (t.take k)) ∧ bw w wr) (fun _ i _ => t.length - (intOf i).toNat)
 case atStart => exact ⟨0, Nat.zero_le _, rfl, OwnR.nil _ _ _, brf⟩
 case round =>
  obtain ⟨k, hk, rfl, hown, hb⟩ := hrel;obtain ⟨aoV, nV, capV, rfl⟩ := hown.form;have HO := hdd hown;have HB := hdd hb;clear hown hb
  by_cases hlt : k < t.length
  ·obtain ⟨b, off, rfl, hbl, c0, _⟩ := (HF.out.next HB.out).at hlt
   have HS : Hid (drops (t.take (k + 1)) = drops (t.take k) ++ [(t[k]'hlt, 1)]) := drops_succ hlt;have HL : Hid ((drops (t.take k)).length ≤ 1000000000) := by show _ ≤ _; rw [drops_length, List.length_take]; omega
   generalize t[k]'hlt = x at *;have hsz := HB.out.size
   go_wp2_with (at_builtin; refine wpList_append_row goodC Tryz.underlying70 infoC rfl (by decide) (by decide) _ rfl (.tmp 12) (.tmp 15) rfl w.heap.size (.slice aoV nV capV) (drops (t.take k)) rfl (HO.out.alloc _) wr.heap.size (x, 1) rfl (fun j u hu => (Bk.new wr _ 147 wr.heap.size rfl).c j hu) HL.out (by simp; omega) ?_; intro v' w5 ho hg hloc)
   have HO5 : Hid (OwnR encC w5 w.heap.size v' (drops (t.take (k + 1)))) := by show OwnR _ _ _ _ _; rw [HS.out]; exact ho
   have HB5 : Hid (bw w w5) := below_row (HB.out.alloc hsz _) (HO.out.alloc _) hg (by simp; omega);clear ho hg hloc
   go_roundw
   case rel => exact ⟨k + 1, by omega, by go_num, HO5.out, HB5.out⟩
   case measure => simp [intOf]; omega
  ·have HE : Hid (drops (t.take k) = drops t) := by show _ = _; rw [List.take_of_length_le (by omega)]
   go_wp2;go_ret;exact ⟨_, rfl, by rw [← HE.out]; exact HO.out, HB.out⟩
theorem labs_take_succ {S : List F.Pc} {k : Nat} (h : k < S.length) : (S.map (·.1)).take (k + 1) = (S.map (·.1)).take k ++ [(S[k]'h).1] := take_map_succ _ h
theorem labelsOf_any (ao : Option Addr) (cap : Nat) (ps : List F.Pc) (w : World) (h : F.Fl w ao ps) (hr : F.fref ps = 0) :
  Calls Tryz.prog 214 #[.slice ao ps.length cap] w fun e w' => ∃ v, e = .returned v ∧ OwnR encT w' w.heap.size v (labsR ps) ∧ bw w w' := by
 have HC := (show Hid _ from F.sorted_ok ao cap ps w h hr);have HR := hdd hr;have hl := (F.fref_in hr).1;clear h hr
 go_enter Tryz.func214, Tryz.ntmps214
 go_wp2_with fail
 refine Calls.mono HC.out ?_;rintro e w1 ⟨v, S, rfl, hS, hSl, ho, hb⟩;obtain ⟨aoS, capS, rfl, hfl⟩ := F.Own.give ho (F.srt_size HR.out hS);have HFl := hdd hfl;have HB1 := hdd hb;have HE : Hid (S.map (·.1) = labsR ps) := srt_labs (F.fref_in HR.out).2.1.nn hS;have hs1 := HB1.out.size;clear hS ho hb hfl HC;go_wp2
 go_loopw [5, 15] (fun v i wr => ∃ k : Nat, k ≤ S.length ∧ i = .int .i64 k ∧ OwnR encT wr w1.heap.size v ((S.map (·.1)).take k) ∧ bw w1 wr) (fun _ i _ => S.length - (intOf i).toNat)
 case atStart => exact ⟨0, Nat.zero_le _, rfl, OwnR.nil _ _ _, brf⟩
 case round =>
  obtain ⟨k, hk, rfl, hown, hb⟩ := hrel;obtain ⟨aoV, nV, capV, rfl⟩ := hown.form;have HO := hdd hown;have HB := hdd hb;clear hown hb
  by_cases hlt : k < S.length
  ·obtain ⟨b, off, rfl, hbl, c0, c1, _⟩ := (HFl.out.next HB.out).at hlt
   have HS : Hid ((S.map (·.1)).take (k + 1) = (S.map (·.1)).take k ++ [(S[k]'hlt).1]) := labs_take_succ hlt;have HL : Hid (((S.map (·.1)).take k).length ≤ 1000000000) := by show _ ≤ _; rw [List.length_take]; simp; omega
   generalize S[k]'hlt = x at *;have hsz := HB.out.size
   go_wp2_with (at_builtin; refine wpList_append_row goodT Tryz.underlying71 infoT rfl (by decide) (by decide) _ rfl (.tmp 19) (.tmp 22) rfl w1.heap.size (.slice aoV nV capV) ((S.map (·.1)).take k) rfl ((HO.out.alloc _).alloc _) (wr.heap.size + 1) x.1 rfl (fun j u hu => (Bk.new (wr.alloc _) _ 9 (wr.heap.size + 1) (by simp)).c j hu) HL.out (by simp; omega) ?_; intro v' w5 ho hg hloc)
   have HO5 : Hid (OwnR encT w5 w1.heap.size v' ((S.map (·.1)).take (k + 1))) := by show OwnR _ _ _ _ _; rw [HS.out]; exact ho
   have HB5 : Hid (bw w1 w5) := below_row ((HB.out.alloc hsz _).alloc (by simp; omega) _) ((HO.out.alloc _).alloc _) hg (by simp; omega);clear ho hg hloc
   go_roundw
   case rel => exact ⟨k + 1, by omega, by go_num, HO5.out, HB5.out⟩
   case measure => simp [intOf]; omega
  ·have HE2 : Hid ((S.map (·.1)).take k = labsR ps) := by show _ = _; rw [List.take_of_length_le (by simp; omega)]; exact HE.out
   go_wp2;go_ret;exact ⟨_, rfl, by rw [← HE2.out]; exact HO.out.base hs1, HB1.out.trans (HB.out.mono hs1)⟩
theorem eqlNilC (w : World) (a : Option Addr) (n c n' c' : Nat) : (binOp .eql 70 (.slice a n c) (.slice none n' c')).run Tryz.prog w = .ok (.bool a.isNone) w := Lib.run_eql_slice_nil w _ _ a n c n' c' Tryz.underlying70
theorem eqlNilT (w : World) (a : Option Addr) (n c n' c' : Nat) : (binOp .eql 71 (.slice a n c) (.slice none n' c')).run Tryz.prog w = .ok (.bool a.isNone) w := Lib.run_eql_slice_nil w _ _ a n c n' c' Tryz.underlying71
theorem rd_none {α : Type} {c : Enc α} {w : World} {l : List α} (h : RdR c w none l) : l = [] := by
 rcases h with h | ⟨b, off, e, _⟩
 ·exact h
 ·cases e
theorem cloneC_any (ao : Option Addr) (cap : Nat) (l : List F.Pc) (w : World) (h : RdR encC w ao l) (hl : l.length ≤ 1000) :
  Calls Tryz.prog 115 #[.slice ao l.length cap] w fun e w' => ∃ v, e = .returned v ∧ OwnR encC w' w.heap.size v l ∧ bw w w' := by
 have HF := hdd h;have q22 := eqlNilC;clear h
 cases ao with
 | none =>
  obtain rfl := rd_none HF.out;simp only [List.length_nil]
  go_enter Tryz.func115, Tryz.ntmps115
  go_wp2;go_ret;exact ⟨_, rfl, OwnR.nil _ _ _, brf⟩
 | some a =>
  go_enter Tryz.func115, Tryz.ntmps115
  go_wp2_with (at_builtin; refine wpList_append_list goodC Tryz.underlying70 infoC rfl (by decide) _ rfl (.tmp 5) (.tmp 6) rfl w.heap.size _ [] rfl ?qc1 a cap l rfl ?qc2 ?qc5 ?qc3 ?qc4 ?_)
  case qc1 => exact World.ownsRow_made w #[] 0 (Nat.le_refl _) (Nat.zero_le _) (by simp)
  case qc2 => exact HF.out.next goodC ((brf).alloc (Nat.le_refl _) _)
  case qc3 => simp; omega
  case qc4 => simp
  case qc5 => simp [maxLen]; omega
  intro v' w1 ho hg _;go_wp2;go_ret;exact ⟨v', rfl, by simpa using ho, ((Below.refl _ w).alloc (Nat.le_refl _) _).grown hg (by simp) (by intro k hk; simp [Value.ownBlock] at hk; omega)⟩
theorem cloneT_any (ao : Option Addr) (cap : Nat) (l : List ByteArray) (w : World) (h : RdR encT w ao l) (hl : l.length ≤ 1000) :
  Calls Tryz.prog 118 #[.slice ao l.length cap] w fun e w' => ∃ v, e = .returned v ∧ OwnR encT w' w.heap.size v l ∧ bw w w' := by
 have HF := hdd h;have q22 := eqlNilT;clear h
 cases ao with
 | none =>
  obtain rfl := rd_none HF.out;simp only [List.length_nil]
  go_enter Tryz.func118, Tryz.ntmps118
  go_wp2;go_ret;exact ⟨_, rfl, OwnR.nil _ _ _, brf⟩
 | some a =>
  go_enter Tryz.func118, Tryz.ntmps118
  go_wp2_with (at_builtin; refine wpList_append_list goodT Tryz.underlying71 infoT rfl (by decide) _ rfl (.tmp 5) (.tmp 6) rfl w.heap.size _ [] rfl ?qc1 a cap l rfl ?qc2 ?qc5 ?qc3 ?qc4 ?_)
  case qc1 => exact World.ownsRow_made w #[] 0 (Nat.le_refl _) (Nat.zero_le _) (by simp)
  case qc2 => exact HF.out.next goodT ((brf).alloc (Nat.le_refl _) _)
  case qc3 => simp; omega
  case qc4 => simp
  case qc5 => simp [maxLen]; omega
  intro v' w1 ho hg _;go_wp2;go_ret;exact ⟨v', rfl, by simpa using ho, ((Below.refl _ w).alloc (Nat.le_refl _) _).grown hg (by simp) (by intro k hk; simp [Value.ownBlock] at hk; omega)⟩
theorem blw_drewN {B : Nat} {a w : World} (h : Below B a w) (n : Nat) : Below B a (w.drewN n) := ⟨h.os, h.tape, h.output, h.size, h.block⟩
theorem totR_in (ps : List F.Pc) : 0 ≤ (F.totR ps).1 ∧ (F.totR ps).1 ≤ 1000000000 := by
 unfold F.totR
 split
 ·rename_i h
  obtain ⟨_, h2, h3⟩ := F.fref_in h;exact ⟨F.tot_nonneg h2.nn, h3⟩
 ·simp
theorem together_any (ao ao' : Option Addr) (cap cap' : Nat) (f g : List F.Pc) (m : Int) (w : World) (h : F.Fl w ao f) (h' : F.Fl w ao' g) :
  Calls Tryz.prog 209 #[.slice ao f.length cap, .slice ao' g.length cap', .int .i64 m] w fun e w' => ∃ v, e = .returned (.tuple #[v, .int .i64 (togR f g m).2]) ∧ F.Own w' w.heap.size v (togR f g m).1 ∧ bw w w' := by
 have HF := hdd h;have HG := hdd h';clear h h';have t1 := totR_in f;have t2 := totR_in g;obtain ⟨t10, t11⟩ := t1;obtain ⟨t20, t21⟩ := t2
 by_cases hm : m < (F.totR f).1 + (F.totR g).1
 ·have HQ : Hid (togR f g m = ([], 9)) := if_pos hm
  go_enter Tryz.func209, Tryz.ntmps209
  go_wp2_with fail
  refine (mtotal_any ao cap f w HF.out).mono ?_;rintro e w1 ⟨rfl, hb1⟩;have HB1 := hdd hb1;clear hb1
  go_wp2_with fail
  refine (mtotal_any ao' cap' g w1 (HG.out.next HB1.out)).mono ?_;rintro e w2 ⟨rfl, hb2⟩;have HB2 := hdd (HB1.out.trans (hb2.mono HB1.out.size));clear hb2;go_wp2
  go_ret2
  exact ⟨.slice none 0 0, by rw [HQ.out]; rfl, by rw [HQ.out]; exact F.Own.nil _ _, HB2.out⟩
 ·have HQ : Hid (togR f g m = F.putR f g) := if_neg hm
  go_enter Tryz.func209, Tryz.ntmps209
  go_wp2_with fail
  refine (mtotal_any ao cap f w HF.out).mono ?_;rintro e w1 ⟨rfl, hb1⟩;have HB1 := hdd hb1;clear hb1
  go_wp2_with fail
  refine (mtotal_any ao' cap' g w1 (HG.out.next HB1.out)).mono ?_;rintro e w2 ⟨rfl, hb2⟩;have HB2 := hdd (HB1.out.trans (hb2.mono HB1.out.size));clear hb2
  go_wp2_with fail
  refine (F.put_any ao ao' cap cap' f g w2 (HF.out.next HB2.out) (HG.out.next HB2.out)).mono ?_;rintro e w3 ⟨v, rfl, ho, hb3⟩;obtain ⟨ao3, cap3, rfl⟩ := F.Own.shape ho;have HO : Hid (F.Own w3 w.heap.size (.slice ao3 (F.putR f g).1.length cap3) (F.putR f g).1) := F.own_base ho HB2.out.size;have HB3 := hdd (HB2.out.trans (hb3.mono HB2.out.size));clear ho hb3;go_wp2
  go_ret2
  exact ⟨.slice ao3 (F.putR f g).1.length cap3, by rw [HQ.out]; rfl, by rw [HQ.out]; exact HO.out, HB3.out⟩
abbrev GPlan := List (List Nat × List Nat × Option (Nat × Bool))
def updO (f : Nat → Value) (d : Option Nat) (v : Value) : Nat → Value := match d with
 | some d => upd f d v
 | none => f
theorem updO_other {f : Nat → Value} {d : Option Nat} {k : Nat} {v : Value} (h : d ≠ some k) : updO f d v k = f k := by
 cases d with
 | none => rfl
 | some d => exact upd_other fun e => h (by rw [e])
def menOf (plan : GPlan) (i : Nat) : List Nat := ((plan[i]?).map (·.2.1)).getD []
def gOne (ops : Array Oper) (m : List Bool) (n : Nat) (o : Oper) (p : List Nat × List Nat × Option (Nat × Bool)) : Bool :=
 (match o.dst with
  | some d => m.getD d false && decide (d < n)
  | none => true) &&
 p.1.all (fun j => o.after.any fun e => Region.binds .any e && e.on == j) &&
 (match o.guard, p.2.2 with
  | none, none => true
  | some (j, b), some (s, b') => (((ops[j]?).bind (·.dst)) == some s) && (b == b') && (m.getD s false) && decide (s < n)
  | _, _ => false)
def gAll (ops : Array Oper) (m : List Bool) (n : Nat) : List Oper → GPlan → Bool
 | [], [] => true
 | o :: l, p :: q => gOne ops m n o p && gAll ops m n l q
 | _, _ => false
def menB (ops : Array Oper) (plan : GPlan) : Bool :=
 (List.range ops.size).all fun i => (List.range ops.size).all fun j => i == j || coversB ops ops.size i j || (menOf plan i).all fun s => ((ops[j]?).bind (·.dst)) != some s
def gOk (ops : Array Oper) (plan : GPlan) (m : List Bool) (n : Nat) : Bool := backE 0 ops.toList && gAll ops m n ops.toList plan && menB ops plan
section
variable (P : Program) (Q : Exit → Act → World → Prop) (a : Act) (m : List Bool) (plan : GPlan) (V : Nat → List Value → World → Prop) (J : (Nat → Value) → World → Prop) (w0 : World)
def AllJ (f : Nat → Value) (w : World) : List Nat → Prop
 | [] => True
 | j :: l => V j ((menOf plan j).map f) w ∧ AllJ f w l
def AllG (f : Nat → Value) (w : World) : Nat → GPlan → Prop
 | _, [] => True
 | i, p :: q => V i (p.2.1.map f) w ∧ AllG f w (i + 1) q
def DoesG (i : Nat) (o : Oper) (f : Nat → Value) (w : World) : Prop :=
 ∀ K : Act → World → Prop, (∀ a' w', (∃ v, a' = (over a m f).put o.dst v ∧ V i ((menOf plan i).map (updO f o.dst v)) w' ∧ bw w0 w' ∧ J (updO f o.dst v) w' ∧ (∀ j, V j ((menOf plan j).map f) w → V j ((menOf plan j).map f) w')) → K a' w') → o.wp P (over a m f) w K Q
def OblG (i : Nat) (o : Oper) (p : List Nat × List Nat × Option (Nat × Bool)) : Prop :=
 ∀ f w, bw w0 w → J f w → AllJ plan V f w p.1 → match p.2.2 with
  | none => DoesG P Q a m plan V J w0 i o f w
  | some (s, b) => (f s = .bool b → DoesG P Q a m plan V J w0 i o f w) ∧ (f s ≠ .bool b → V i ((menOf plan i).map (updO f o.dst undef)) w ∧ J (updO f o.dst undef) w)
def OblsG : Nat → List Oper → GPlan → Prop
 | i, o :: l, p :: q => OblG P Q a m plan V J w0 i o p ∧ OblsG (i + 1) l q
 | _, _, _ => True
end
theorem gAll_at {ops : Array Oper} {m : List Bool} {n : Nat} : ∀ {l : List Oper} {q : GPlan}, gAll ops m n l q = true → ∀ {i : Nat} {o : Oper}, l[i]? = some o → ∃ p, q[i]? = some p ∧ gOne ops m n o p = true
 | [], _, _, _, _, h => by simp at h
 | _ :: _, [], h, _, _, _ => by simp [gAll] at h
 | o :: l, p :: q, h, 0, o', ho => by
  simp only [gAll, Bool.and_eq_true] at h;simp at ho; subst ho;exact ⟨p, by simp, h.1⟩
 | o :: l, p :: q, h, i + 1, o', ho => by
  simp only [gAll, Bool.and_eq_true] at h;obtain ⟨p', hp, h'⟩ := gAll_at h.2 (i := i) (by simpa using ho);exact ⟨p', by simpa using hp, h'⟩
theorem gAll_length {ops : Array Oper} {m : List Bool} {n : Nat} : ∀ {l : List Oper} {q : GPlan}, gAll ops m n l q = true → q.length = l.length
 | [], [], _ => rfl
 | [], _ :: _, h => by simp [gAll] at h
 | _ :: _, [], h => by simp [gAll] at h
 | o :: l, p :: q, h => by
  simp only [gAll, Bool.and_eq_true] at h;simp [gAll_length h.2]
section
variable {P : Program} {Q : Exit → Act → World → Prop} {a : Act} {m : List Bool} {plan : GPlan} {V : Nat → List Value → World → Prop} {J : (Nat → Value) → World → Prop} {w0 : World} {ops : Array Oper}
theorem oblsG_at : ∀ {l : List Oper} {q : GPlan} {s : Nat}, OblsG P Q a m plan V J w0 s l q → ∀ {i : Nat} {o : Oper} {p}, l[i]? = some o → q[i]? = some p → OblG P Q a m plan V J w0 (s + i) o p
 | [], _, _, _, _, _, _, h, _ => by simp at h
 | _ :: _, [], _, _, _, _, _, _, h => by simp at h
 | o :: l, p :: q, s, h, 0, _, _, ho, hp => by simp at ho hp; subst ho; subst hp; exact h.1
 | o :: l, p :: q, s, h, i + 1, _, _, ho, hp => by
  have := oblsG_at h.2 (i := i) (by simpa using ho) (by simpa using hp);rw [show s + 1 + i = s + (i + 1) by omega] at this;exact this
def InvG (a : Act) (m : List Bool) (plan : GPlan) (V : Nat → List Value → World → Prop) (J : (Nat → Value) → World → Prop) (w0 : World) (ops : Array Oper) (listed : Array Bool) (a' : Act) (w : World) : Prop :=
 Closed ops listed ∧ ∃ f, a' = over a m f ∧ bw w0 w ∧ J f w ∧ ∀ i, listed[i]? = some true → V i ((menOf plan i).map f) w
theorem invG_step (hok : gOk ops plan m a.tmps.size = true) (hob : OblsG P Q a m plan V J w0 0 ops.toList plan)
  {listed : Array Bool} (hsz : listed.size = ops.size) {i : Nat} (hi : i ∈ Region.ready .any ops listed) {a' : Act} {w : World} (h : InvG a m plan V J w0 ops listed a' w) :
  wpOp P ops Q i (fun a2 w2 => InvG a m plan V J w0 ops (listed.setIfInBounds i true) a2 w2) a' w := by
 simp only [gOk, Bool.and_eq_true] at hok;obtain ⟨⟨_, hall⟩, hmen⟩ := hok;obtain ⟨hlt, hun, hpre⟩ := ready_pre hi;obtain ⟨o, ho⟩ : ∃ o, ops[i]? = some o := ⟨ops[i], by simp [hlt]⟩;have hpre := hpre o ho;have hoL : ops.toList[i]? = some o := by simpa using ho
 obtain ⟨p, hp, h1⟩ := gAll_at hall hoL;have hO := oblsG_at hob hoL hp;rw [Nat.zero_add] at hO;simp only [gOne, Bool.and_eq_true] at h1;obtain ⟨⟨hd, hps⟩, hg⟩ := h1;obtain ⟨hcl, f, rfl, hb, hJ, hV⟩ := h
 have hav : ∀ l : List Nat, (∀ j ∈ l, j ∈ p.1) → AllJ plan V f w l := by
  intro l
  induction l with
  | nil => intro _; trivial
  | cons j l ih =>
   intro hl;refine ⟨?_, ih fun x hx => hl x (by simp [hx])⟩;have h2 := List.all_eq_true.1 hps j (hl j (by simp));obtain ⟨e, he, h3⟩ := Array.any_eq_true'.1 h2;simp only [Bool.and_eq_true, beq_iff_eq] at h3;have := hpre e he h3.1;rw [h3.2] at this;exact hV j this
 have hav := hav p.1 fun _ h => h
 have hnl : listed[i]? ≠ some true := by
  intro e;rw [Array.getD_eq_getD_getElem?, e] at hun;simp at hun
 have hput : ∀ v, (over a m f).put o.dst v = over a m (updO f o.dst v) := by
  intro v
  cases e : o.dst with
  | none => rfl
  | some d =>
   rw [e] at hd;simp only [Bool.and_eq_true] at hd;exact over_put a m f d v (getD_true hd.1)
 have hsame : ∀ (j : Nat) (v : Value), listed[j]? = some true → (menOf plan j).map (updO f o.dst v) = (menOf plan j).map f := by
  intro j v hj
  apply List.map_congr_left
  intro s hs
  apply updO_other
  intro e
  have hjs : j < ops.size := by
   by_cases h : j < ops.size
   ·exact h
   ·rw [Array.getElem?_eq_none (by omega)] at hj; cases hj
  unfold menB at hmen;have h1 := List.all_eq_true.1 (List.all_eq_true.1 hmen j (by simpa using hjs)) i (by simpa using hlt);simp only [Bool.or_eq_true, beq_iff_eq] at h1
  rcases h1 with (h1 | h1) | h1
  ·subst h1; exact hnl hj
  ·exact hnl (covers_listed hcl _ j i (fun o' ho' => hcl j o' ho' hj) h1)
  ·have := List.all_eq_true.1 h1 s hs
   rw [ho] at this;simp [e] at this
 have hcl2 := closed_next hcl hi
 have hfin : ∀ v w2, V i ((menOf plan i).map (updO f o.dst v)) w2 → bw w0 w2 → J (updO f o.dst v) w2 → (∀ j, V j ((menOf plan j).map f) w → V j ((menOf plan j).map f) w2) → InvG a m plan V J w0 ops (listed.setIfInBounds i true) ((over a m f).put o.dst v) w2 := by
  intro v w2 hv hb2 hj2 hk;refine ⟨hcl2, updO f o.dst v, hput v, hb2, hj2, fun j hlj => ?_⟩
  by_cases e : j = i
  ·subst e; exact hv
  ·have hlj2 : listed[j]? = some true := by simpa [Array.getElem?_setIfInBounds, Ne.symm e] using hlj
   rw [hsame j v hlj2];exact hk j (hV j hlj2)
 have hDoes : DoesG P Q a m plan V J w0 i o f w → o.wp P (over a m f) w (fun a2 w2 => InvG a m plan V J w0 ops (listed.setIfInBounds i true) a2 w2) Q := fun hD =>
  hD _ fun a2 w2 ⟨v, ha, hv, hb2, hj2, hk⟩ => by subst ha; exact hfin v w2 hv hb2 hj2 hk
 have hO := hO f w hb hJ hav;unfold wpOp;rw [ho];simp only
 cases hgo : o.guard with
 | none =>
  rw [hgo] at hg;have hw : Region.wanted o (yielded ops (over a m f).tmps) = true := by simp [Region.wanted, hgo]
  rw [if_pos hw]
  cases hp2 : p.2.2 with
  | none => rw [hp2] at hO; exact .inl (hDoes hO)
  | some x => rw [hp2] at hg; simp at hg
 | some jb =>
  obtain ⟨j, b⟩ := jb;rw [hgo] at hg
  cases hp2 : p.2.2 with
  | none => rw [hp2] at hg; simp at hg
  | some sb =>
   obtain ⟨s, b'⟩ := sb;rw [hp2] at hg hO;simp only [Bool.and_eq_true] at hg;obtain ⟨⟨⟨hs, hbb⟩, hms⟩, hsn⟩ := hg;have hbb : b = b' := by simpa using hbb
   subst hbb;have hs : (ops[j]?).bind (·.dst) = some s := by simpa using hs
   have hgs : (over a m f).tmps[s]? = some (f s) := by
    have := overL_at f m 0 s a.tmps.toList (getD_true hms) (by simpa using hsn)
    simpa [over] using this
   have hy : yielded ops (over a m f).tmps j = match f s with | .bool x => some x | _ => none := by
    unfold yielded;rw [hs];simp only [Option.bind_some, hgs]
    cases f s <;> rfl
   by_cases hw : f s = .bool b
   ·have : Region.wanted o (yielded ops (over a m f).tmps) = true := by simp [Region.wanted, hgo, hy, hw]
    rw [if_pos this];exact .inl (hDoes (hO.1 hw))
   ·have : ¬ Region.wanted o (yielded ops (over a m f).tmps) = true := by
     simp only [Region.wanted, hgo, hy, beq_iff_eq]
     cases e : f s <;> simp
     rename_i x;intro e2; subst e2; exact hw e
    rw [if_neg this];exact hfin _ _ (hO.2 hw).1 hb (hO.2 hw).2 fun _ h => h
theorem allG_of {f : Nat → Value} {w : World} : ∀ {q : GPlan} {s : Nat}, (∀ i p, q[i]? = some p → V (s + i) (p.2.1.map f) w) → AllG V f w s q
 | [], _, _ => trivial
 | p :: q, s, h => ⟨by simpa using h 0 p (by simp), allG_of fun i p' hp => by
   have := h (i + 1) p' (by simpa using hp);rw [show s + (i + 1) = s + 1 + i by omega] at this
   exact this⟩
theorem anyG (hok : gOk ops plan m a.tmps.size = true) (hob : OblsG P Q a m plan V J w0 0 ops.toList plan)
  (hdone : ∀ f w, bw w0 w → J f w → AllG V f w 0 plan → Q .normal (over a m f) w) :
  ∀ (fuel : Nat) (listed : Array Bool) (a' : Act) (w : World), listed.size = ops.size → listed.toList.count false ≤ fuel → InvG a m plan V J w0 ops listed a' w → wpAny P .any ops Q fuel listed a' w := by
 have hok2 := hok;simp only [gOk, Bool.and_eq_true] at hok2;obtain ⟨⟨hback, hall⟩, _⟩ := hok2;have hlen := gAll_length hall
 have hend : ∀ (listed : Array Bool) (a' : Act) (w : World), listed.size = ops.size → InvG a m plan V J w0 ops listed a' w → Region.ready .any ops listed = [] → Q .normal a' w := by
  rintro listed a' w hsz ⟨_, f, rfl, hb, hJ, hV⟩ hr;refine hdone f w hb hJ (allG_of fun i p hp => ?_);have hi : i < plan.length := (List.getElem?_eq_some_iff.1 hp).1;have := hV i (all_listedE hback hsz hr i (by simp at hlen; omega));rw [Nat.zero_add];unfold menOf at this;rw [hp] at this;exact this
 intro fuel
 induction fuel with
 | zero =>
  intro listed a' w hsz hc hI
  have hr : Region.ready .any ops listed = [] := by
   rw [List.eq_nil_iff_forall_not_mem];intro i hi;obtain ⟨hlt, h1, _⟩ := ready_pre hi;have h0 : listed.toList.count false = 0 := by omega
   rw [List.count_eq_zero] at h0;have hlt2 : i < listed.size := by omega
   simp only [Array.getD_eq_getD_getElem?, Array.getElem?_eq_getElem hlt2, Option.getD_some] at h1;exact h0 (by rw [← h1]; simp)
  exact ⟨hr, hend listed a' w hsz hI hr⟩
 | succ fuel ih =>
  intro listed a' w hsz hc hI;refine ⟨hend listed a' w hsz hI, fun i hi => wpOp_mono (fun a2 w2 h2 => ih _ _ _ (by simpa using hsz) ?_ h2) (invG_step hok hob hsz hi hI)⟩;obtain ⟨hlt, h1, _⟩ := ready_pre hi;have hlt2 : i < listed.size := by omega
  simp only [Array.getD_eq_getD_getElem?, Array.getElem?_eq_getElem hlt2, Option.getD_some] at h1;have hl : i < listed.toList.length := by simpa using hlt2
  have h2 : listed.toList[i] = false := by simpa using h1
  rw [Array.toList_setIfInBounds, List.count_set hl, h2];have hp : 0 < listed.toList.count false := List.count_pos_iff.2 (by rw [← h2]; exact List.getElem_mem _);rw [if_pos (by rfl), if_neg (by decide)];omega
theorem region_allD {id : Nat} (m : List Bool) (plan : GPlan) (V : Nat → List Value → World → Prop) (J : (Nat → Value) → World → Prop) (hmix : P.follows .mixedOrders = true) (hok : gOk ops plan m a.tmps.size = true)
  (hJ0 : J (fun k => (a.tmps.toList[k]?).getD undef) w0.drew) (hob : OblsG P Q a m plan V J w0 0 ops.toList plan)
  (hdone : ∀ f w, bw w0 w → J f w → AllG V f w 0 plan → Q .normal (over a m f) w) : (Code.region id ops true).wp P Q a w0 := by
 refine wp_region_any hmix (anyG hok hob hdone _ _ _ _ (by simp) (by simp) ⟨?_, fun k => (a.tmps.toList[k]?).getD undef, (over_start a m).symm, ⟨rfl, rfl, rfl, Nat.le_refl _, fun _ _ => rfl⟩, hJ0, ?_⟩)
 ·intro i o _ h
  simp [Array.getElem?_replicate] at h
 ·intro i h
  simp [Array.getElem?_replicate] at h
end
def Apart (s t : Nat) (f : Nat → Value) (w : World) : Prop :=
 (∀ b, f s = ptr b → b < w.heap.size) ∧ (∀ b, f t = ptr b → b < w.heap.size) ∧ (∀ b, f s = ptr b → f t = ptr b → False)
theorem Apart.same {s t : Nat} {f : Nat → Value} {w w' : World} (h : Apart s t f w) (hs : w'.heap.size = w.heap.size) : Apart s t f w' := by
 unfold Apart;rw [hs];exact h
theorem Apart.other {s t d : Nat} {f : Nat → Value} {w w' : World} {v : Value} (h : Apart s t f w) (hs : s ≠ d) (ht : t ≠ d) (hb : bw w w') : Apart s t (upd f d v) w' := by
 unfold Apart;rw [upd_other hs, upd_other ht];exact ⟨fun b e => Nat.lt_of_lt_of_le (h.1 b e) hb.size, fun b e => Nat.lt_of_lt_of_le (h.2.1 b e) hb.size, h.2.2⟩
theorem Apart.left {s t : Nat} {f : Nat → Value} {w : World} {o : Obj} (h : Apart s t f w) (hst : t ≠ s) : Apart s t (upd f s (ptr w.heap.size)) (w.alloc o) := by
 unfold Apart;rw [upd_same, upd_other hst];refine ⟨fun b e => ?_, fun b e => ?_, fun b e e2 => ?_⟩
 ·simp at e; subst e; simp
 ·have := h.2.1 b e; simp; omega
 ·simp at e; subst e; have := h.2.1 _ e2; omega
theorem Apart.right {s t : Nat} {f : Nat → Value} {w : World} {o : Obj} (h : Apart s t f w) (hst : s ≠ t) : Apart s t (upd f t (ptr w.heap.size)) (w.alloc o) := by
 unfold Apart;rw [upd_same, upd_other hst];refine ⟨fun b e => ?_, fun b e => ?_, fun b e e2 => ?_⟩
 ·have := h.1 b e; simp; omega
 ·simp at e; subst e; simp
 ·simp at e2; subst e2; have := h.1 _ e; omega
theorem below_on {w w1 w2 : World} (h : bw w w1) (h2 : bw w1 w2) : bw w w2 := h.trans (h2.mono h.size)
def cmpI (x y : Int) : Int := if x < y then -1 else if y < x then 1 else 0
theorem isNaN_any (x : Int) (w : World) : Calls Tryz.prog 172 #[.int .i64 x] w fun e w' => e = .returned (.bool false) ∧ w' = w := by
 go_enter Tryz.func172, Tryz.ntmps172
 go_wp2;go_ret;exact ⟨rfl, rfl⟩
theorem compare_any (x y : Int) (w : World) : Calls Tryz.prog 111 #[.int .i64 x, .int .i64 y] w fun e w' => e = .returned (.int .i64 (cmpI x y)) ∧ w' = w := by
 by_cases h : x < y
 ·have HR : Hid (cmpI x y = -1) := if_pos h
  go_enter Tryz.func111, Tryz.ntmps111
  go_wp2_with fail
  refine (isNaN_any x _).mono ?_;rintro e w1 ⟨rfl, rfl⟩
  go_wp2_with fail
  refine (isNaN_any y _).mono ?_;rintro e w1 ⟨rfl, rfl⟩;go_wp2;go_ret;exact ⟨ret_int HR.out.symm, rfl⟩
 ·by_cases h2 : y < x
  ·have HR : Hid (cmpI x y = 1) := by show cmpI x y = 1; rw [cmpI, if_neg h, if_pos h2]
   go_enter Tryz.func111, Tryz.ntmps111
   go_wp2_with fail
   refine (isNaN_any x _).mono ?_;rintro e w1 ⟨rfl, rfl⟩
   go_wp2_with fail
   refine (isNaN_any y _).mono ?_;rintro e w1 ⟨rfl, rfl⟩;go_wp2;go_ret;exact ⟨ret_int HR.out.symm, rfl⟩
  ·have HR : Hid (cmpI x y = 0) := by show cmpI x y = 0; rw [cmpI, if_neg h, if_neg h2]
   go_enter Tryz.func111, Tryz.ntmps111
   go_wp2_with fail
   refine (isNaN_any x _).mono ?_;rintro e w1 ⟨rfl, rfl⟩
   go_wp2_with fail
   refine (isNaN_any y _).mono ?_;rintro e w1 ⟨rfl, rfl⟩;go_wp2;go_ret;exact ⟨ret_int HR.out.symm, rfl⟩
theorem compare_r (x y r : Int) (h : cmpI x y = r) (w : World) : Calls Tryz.prog 111 #[.int .i64 x, .int .i64 y] w fun e w' => e = .returned (.int .i64 r) ∧ w' = w := by
 rw [← h]; exact compare_any x y w
theorem cmpOrI_any (b cap : Nat) (xs : List Int) (w : World) (hl : xs.length ≤ 100) (hc : ∀ k (h : k < xs.length), w.cell? ⟨b, k, none⟩ = some (.int .i64 (xs[k]'h))) :
  Calls Tryz.prog 186 #[.slice (some ⟨b, 0, none⟩) xs.length cap] w fun e w' => e = .returned (.int .i64 (orL xs)) ∧ w' = w := by
 have HC := hdd hc;clear hc
 go_enter Tryz.func186, Tryz.ntmps186
 go_wp2
 go_loopw [5, 8] (fun _ i wr => ∃ k : Nat, k ≤ xs.length ∧ i = .int .i64 k ∧ (∀ n ∈ xs.take k, n = 0) ∧ wr = w) (fun _ i _ => xs.length - (intOf i).toNat)
 case atStart => exact ⟨0, Nat.zero_le _, rfl, (fun f hf => by simp at hf), rfl⟩
 case round =>
  obtain ⟨k, hk, rfl, hok, rfl⟩ := hrel;have HO := hdd hok;clear hok
  by_cases hlt : k < xs.length
  ·have c0 := HC.out k hlt
   have HHit : Hid (xs[k]'hlt ≠ 0 → orL xs = xs[k]'hlt) := orL_at hlt HO.out
   have HMiss : Hid (xs[k]'hlt = 0 → ∀ n ∈ xs.take (k + 1), n = 0) := fun h n hn => by
    rw [List.take_succ_eq_append_getElem hlt] at hn
    rcases List.mem_append.1 hn with hn | hn
    ·exact HO.out n hn
    ·simp at hn; rw [hn]; exact h
   generalize xs[k]'hlt = a at *
   by_cases ha : a = 0
   ·have hne : (a != 0) = false := by simp [ha]
    have HM := (show Hid _ from HMiss.out ha);clear ha;go_wp2
    go_roundw
    case rel => exact ⟨k + 1, by omega, by go_num, HM.out, by trivial⟩
    case measure => simp [intOf]; omega
   ·have hne : (a != 0) = true := by simp [ha]
    have HM := (show Hid _ from HHit.out ha);clear ha;go_wp2;go_ret;exact ⟨ret_int HM.out.symm, rfl⟩
  ·go_wp2
   go_ret;exact ⟨ret_int (orL_zero fun n hn => HO.out n (by rw [List.take_of_length_le (by omega)]; exact hn)).symm, rfl⟩
theorem cmpOrI_is (xs : List Int) (r : Int) (hr : orL xs = r) (v : Value) (w : World) (hl : xs.length ≤ 100) (h : IsInts xs v w) :
  Calls Tryz.prog 186 #[v] w fun e w' => e = .returned (.int .i64 r) ∧ w' = w := by
 subst hr;obtain ⟨b, rfl, hc⟩ := h;refine cmpOrI_any b xs.length xs w hl fun k hk => ?_;rw [hc k hk, List.getD_eq_getElem?_getD, List.getElem?_eq_getElem hk]; rfl
def cmpP (p q : Plc) : Int := orL [cmpI p.1 q.1, cmpI p.2.2 q.2.2, cmpI p.2.1 q.2.1]
theorem cmpI_lt {x y : Int} (h : x < y) : cmpI x y = -1 := if_pos h
theorem cmpI_eq (x : Int) : cmpI x x = 0 := by simp [cmpI]
theorem cmpI_gt {x y : Int} (h : y < x) : cmpI x y = 1 := by rw [cmpI, if_neg (by omega), if_pos h]
theorem cmpP_lt (p q : Plc) : decide (cmpP p q < 0) = pltB p q := by
 rw [Bool.eq_iff_iff, plt_iff, decide_eq_true_eq];unfold cmpP
 rcases Int.lt_trichotomy p.1 q.1 with h | h | h
 ·rw [cmpI_lt h]; simp [orL]; omega
 ·rw [h, cmpI_eq]
  rcases Int.lt_trichotomy p.2.2 q.2.2 with h2 | h2 | h2
  ·rw [cmpI_lt h2]; simp [orL]; omega
  ·rw [h2, cmpI_eq]
   rcases Int.lt_trichotomy p.2.1 q.2.1 with h3 | h3 | h3
   ·rw [cmpI_lt h3]; simp [orL]; omega
   ·rw [h3, cmpI_eq]; simp [orL]
   ·rw [cmpI_gt h3]; simp [orL]; omega
  ·rw [cmpI_gt h2]; simp [orL]; omega
 ·rw [cmpI_gt h]; simp [orL]; omega
abbrev pcl (p : Plc) : List Value := [.int .i64 p.1, .int .i64 p.2.1, .int .i64 p.2.2]
abbrev P3 (w : World) (B : Nat) (p : Plc) : World := ((w.setCell ⟨B, 0, none⟩ (.int .i64 p.1)).setCell ⟨B, 1, none⟩ (.int .i64 p.2.1)).setCell ⟨B, 2, none⟩ (.int .i64 p.2.2)
theorem Bk.put3 {B : Nat} {u0 u1 u2 : Value} {w : World} (h : Bk B [u0, u1, u2] w) (p : Plc) : Bk B (pcl p) (P3 w B p) := ((h.put 0 (.int .i64 p.1)).put 1 (.int .i64 p.2.1)).put 2 (.int .i64 p.2.2)
theorem Bk.oth3 {b B : Nat} {cs : List Value} {w : World} (h : Bk b cs w) (hn : b ≠ B) (p : Plc) : Bk b cs (P3 w B p) := ((h.other hn 0 _).other hn 1 _).other hn 2 _
def bpV (A B m : Nat) (p q : Plc) (i : Nat) (l : List Value) (w : World) : Prop :=
 match i, l with
 | 0, [v] => v = .pointer (some ⟨A, 0, none⟩)
 | 1, [v] => v = plv p
 | 2, [v] => v = .pointer (some ⟨B, 0, none⟩)
 | 3, [v] => v = plv q
 | 4, [v] => ∃ b, v = ptr b ∧ m ≤ b ∧ ∃ u0 u1 u2, Bk b [u0, u1, u2] w
 | 5, [v] => ∃ b, v = ptr b ∧ m ≤ b ∧ ∃ u0 u1 u2, Bk b [u0, u1, u2] w
 | 6, [v] => ∃ b, v = ptr b ∧ Bk b (pcl p) w
 | 7, [v] => ∃ b, v = ptr b ∧ Bk b (pcl q) w
 | _, _ => True
theorem bpV_mono (A B m : Nat) (p q : Plc) (i : Nat) (l : List Value) (w w' : World) (h : bpV A B m p q i l w) (hb : bw w w') : bpV A B m p q i l w' := by
 unfold bpV at h ⊢
 split <;> simp only [] at h <;> first | exact h | (obtain ⟨b, h1, h2, u0, u1, u2, h3⟩ := h; exact ⟨b, h1, h2, u0, u1, u2, h3.later hb⟩) | (obtain ⟨b, h1, h3⟩ := h; exact ⟨b, h1, h3.later hb⟩)
def bpP : GPlan := [([], [7], none), ([0], [8], none), ([], [9], none), ([2], [10], none), ([], [5], none), ([], [6], none), ([4, 1], [5], none), ([5, 3], [6], none)]
theorem bp_store5 {A B m : Nat} {p q : Plc} {f : Nat → Value} {w : World} {b : Nat} {u0 u1 u2 : Value} (hJ : Apart 5 6 f w) (hs : f 5 = ptr b) (AB : Bk b [u0, u1, u2] w) :
  ∀ j, bpV A B m p q j ((menOf bpP j).map f) w → bpV A B m p q j ((menOf bpP j).map f) (P3 w b p)
 | 0, h => h
 | 1, h => h
 | 2, h => h
 | 3, h => h
 | 4, ⟨b2, h2, h3, _⟩ => by
  obtain rfl : b2 = b := by have := (show f 5 = ptr b2 from h2).symm.trans hs; simpa using this
  exact ⟨b2, h2, h3, _, _, _, AB.put3 p⟩
 | 5, ⟨b2, h2, h3, v0, v1, v2, h4⟩ => ⟨b2, h2, h3, v0, v1, v2, h4.oth3 (fun e => hJ.2.2 b (by exact hs) (by rw [← e]; exact h2)) p⟩
 | 6, _ => ⟨b, hs, AB.put3 p⟩
 | 7, ⟨b2, h2, h4⟩ => ⟨b2, h2, h4.oth3 (fun e => hJ.2.2 b (by exact hs) (by rw [← e]; exact h2)) p⟩
 | j + 8, _ => by simp [menOf, bpP, bpV]
theorem bp_store6 {A B m : Nat} {p q : Plc} {f : Nat → Value} {w : World} {b : Nat} {u0 u1 u2 : Value} (hJ : Apart 5 6 f w) (hs : f 6 = ptr b) (AB : Bk b [u0, u1, u2] w) :
  ∀ j, bpV A B m p q j ((menOf bpP j).map f) w → bpV A B m p q j ((menOf bpP j).map f) (P3 w b q)
 | 0, h => h
 | 1, h => h
 | 2, h => h
 | 3, h => h
 | 4, ⟨b2, h2, h3, v0, v1, v2, h4⟩ => ⟨b2, h2, h3, v0, v1, v2, h4.oth3 (fun e => hJ.2.2 b (by rw [← e]; exact h2) (by exact hs)) q⟩
 | 5, ⟨b2, h2, h3, _⟩ => by
  obtain rfl : b2 = b := by have := (show f 6 = ptr b2 from h2).symm.trans hs; simpa using this
  exact ⟨b2, h2, h3, _, _, _, AB.put3 q⟩
 | 6, ⟨b2, h2, h4⟩ => ⟨b2, h2, h4.oth3 (fun e => hJ.2.2 b (by rw [← e]; exact h2) (by exact hs)) q⟩
 | 7, _ => ⟨b, hs, AB.put3 q⟩
 | j + 8, _ => by simp [menOf, bpP, bpV]
def bqV (P Q : Nat) (xp yp : Plc) (a b c r : Int) (i : Nat) (l : List Value) (w : World) : Prop :=
 match i, l with
 | 0, [v] => v = .pointer (some ⟨P, 0, none⟩)
 | 1, [v] => v = .int .i64 xp.1
 | 2, [v] => v = .pointer (some ⟨Q, 0, none⟩)
 | 3, [v] => v = .int .i64 yp.1
 | 4, [v] => v = .int .i64 a
 | 5, [v] => v = .pointer (some ⟨P, 1, none⟩)
 | 6, [v] => v = .pointer (some ⟨P, 2, none⟩)
 | 7, [v] => v = .int .i64 xp.2.2
 | 8, [v] => v = .pointer (some ⟨Q, 1, none⟩)
 | 9, [v] => v = .pointer (some ⟨Q, 2, none⟩)
 | 10, [v] => v = .int .i64 yp.2.2
 | 11, [v] => v = .int .i64 b
 | 12, [v] => v = .pointer (some ⟨P, 1, none⟩)
 | 13, [v] => v = .pointer (some ⟨P, 1, none⟩)
 | 14, [v] => v = .int .i64 xp.2.1
 | 15, [v] => v = .pointer (some ⟨Q, 1, none⟩)
 | 16, [v] => v = .pointer (some ⟨Q, 1, none⟩)
 | 17, [v] => v = .int .i64 yp.2.1
 | 18, [v] => v = .int .i64 c
 | 19, [v] => IsInts [a, b, c] v w
 | 20, [v] => v = .int .i64 r
 | 21, [v] => v = .int .i64 r
 | _, _ => True
theorem bqV_mono (P Q : Nat) (xp yp : Plc) (a b c r : Int) (i : Nat) (l : List Value) (w w' : World) (h : bqV P Q xp yp a b c r i l w) (hb : bw w w') : bqV P Q xp yp a b c r i l w' := by
 unfold bqV at h ⊢
 split <;> simp only [] at h <;> first | exact h | exact h.later hb
theorem byPlace_any (x y : Wh) (W : World) : Calls Tryz.prog 117 #[whv x, whv y] W fun e w' => e = .returned (.int .i64 (cmpP x.1 y.1)) ∧ bw W w' ∧ W.drawn ≤ w'.drawn := by
 obtain ⟨p, hp⟩ : ∃ p, x.1 = p := ⟨_, rfl⟩;obtain ⟨q, hq⟩ : ∃ q, y.1 = q := ⟨_, rfl⟩;obtain ⟨a, ha⟩ : ∃ a, cmpI p.1 q.1 = a := ⟨_, rfl⟩;obtain ⟨b, hbb⟩ : ∃ b, cmpI p.2.2 q.2.2 = b := ⟨_, rfl⟩;obtain ⟨c, hc⟩ : ∃ c, cmpI p.2.1 q.2.1 = c := ⟨_, rfl⟩;obtain ⟨r, hr⟩ : ∃ r, orL [a, b, c] = r := ⟨_, rfl⟩;have HA := hdd ha;have HB := hdd hbb;have HC := hdd hc;have HR := hdd hr;have HQ : Hid (cmpP x.1 y.1 = r) := by show _ = _; rw [hp, hq, cmpP, ha, hbb, hc, hr]
 obtain ⟨xp, xf⟩ := x;obtain ⟨yp, yf⟩ := y;simp only at hp hq HQ;subst hp hq;clear ha hbb hc hr;obtain ⟨w0, hw0⟩ : ∃ w0, w0 = (W.alloc (who (xp, xf))).alloc (who (yp, yf)) := ⟨_, rfl⟩;have HW0 := hdd hw0;have HB0 : Hid (bw W w0) := by show Below _ _ _; rw [hw0]; exact ((brf).alloc (Nat.le_refl _) _).alloc (by simp) _
 have HD0 : Hid (W.drawn = w0.drawn) := by show _ = _; rw [hw0]; rfl
 have KX : Hid (Bk W.heap.size [.int .i64 xp.1, .int .i64 xp.2.1, .int .i64 xp.2.2, .slice xf.1 xf.2.2.length xf.2.1] w0) := by
  show Bk _ _ _; rw [hw0]; exact (Bk.new W _ 205 W.heap.size rfl).later ((brf).alloc (Nat.le_refl _) _)
 have KY : Hid (Bk (W.heap.size + 1) [.int .i64 yp.1, .int .i64 yp.2.1, .int .i64 yp.2.2, .slice yf.1 yf.2.2.length yf.2.1] w0) := by
  show Bk _ _ _; rw [hw0]; exact Bk.new (W.alloc _) _ 205 (W.heap.size + 1) (by simp)
 clear hw0
 go_enter Tryz.func117, Tryz.ntmps117
 go_wp2_with fail
 rename_i KK hkk;have HKK := (show Hid _ from hkk);clear hkk;rw [← HW0.out]
 refine region_allD [zf,zf,zf,zf,zf,zt,zt,zt,zt,zt,zt,zf,zf,zf,zf,zf,zf,zf,zf,zf,zf,zf,zf,zf,zf,zf,zf,zf,zf,zf,zf,zf]
  bpP (bpV W.heap.size (W.heap.size + 1) w0.heap.size xp yp) (fun f w => w0.drawn ≤ w.drawn ∧ Apart 5 6 f w) (by kernel_rfl) (by kernel_rfl) ?_ ?_ ?_
 ·refine ⟨Nat.le_succ _, fun b e => ?_, fun b e => ?_, fun b e _ => ?_⟩
  all_goals (simp [undef] at e)
 ·refine ⟨?_, ?_, ?_, ?_, ?_, ?_, ?_, ?_, trivial⟩
  ·intro f w1 hb hJ _ K hK
   simp only [over, overL];go_simp;exact hK _ _ ⟨_, by simp only [over, overL]; rfl, rfl, hb, ⟨hJ.1, hJ.2.other (by decide) (by decide) (brf)⟩, fun _ h => h⟩
  ·intro f w1 hb hJ ⟨h7, _⟩ K hK
   replace h7 : f 7 = _ := h7;have q0 := (KX.out.later hb).c 0 rfl;have q1 := (KX.out.later hb).c 1 rfl;have q2 := (KX.out.later hb).c 2 rfl;simp only [over, overL, h7];go_simp;exact hK _ _ ⟨_, by simp only [over, overL, h7]; rfl, rfl, hb, ⟨hJ.1, hJ.2.other (by decide) (by decide) (brf)⟩, fun _ h => h⟩
  ·intro f w1 hb hJ _ K hK
   simp only [over, overL];go_simp;exact hK _ _ ⟨_, by simp only [over, overL]; rfl, rfl, hb, ⟨hJ.1, hJ.2.other (by decide) (by decide) (brf)⟩, fun _ h => h⟩
  ·intro f w1 hb hJ ⟨h9, _⟩ K hK
   replace h9 : f 9 = _ := h9;have q0 := (KY.out.later hb).c 0 rfl;have q1 := (KY.out.later hb).c 1 rfl;have q2 := (KY.out.later hb).c 2 rfl;simp only [over, overL, h9];go_simp;exact hK _ _ ⟨_, by simp only [over, overL, h9]; rfl, rfl, hb, ⟨hJ.1, hJ.2.other (by decide) (by decide) (brf)⟩, fun _ h => h⟩
  ·intro f w1 hb hJ _ K hK
   simp only [over, overL];go_simp;exact hK _ _ ⟨_, by simp only [over, overL]; rfl, ⟨w1.heap.size, rfl, hb.size, _, _, _, Bk.new w1 [.int .i64 0, .int .i64 0, .int .i64 0] 55 w1.heap.size rfl⟩, below_on hb ((brf).alloc (Nat.le_refl _) _), ⟨hJ.1, hJ.2.left (by decide)⟩, fun j h => bpV_mono W.heap.size (W.heap.size + 1) w0.heap.size xp yp j _ _ _ h ((brf).alloc (Nat.le_refl _) _)⟩
  ·intro f w1 hb hJ _ K hK
   simp only [over, overL];go_simp;exact hK _ _ ⟨_, by simp only [over, overL]; rfl, ⟨w1.heap.size, rfl, hb.size, _, _, _, Bk.new w1 [.int .i64 0, .int .i64 0, .int .i64 0] 55 w1.heap.size rfl⟩, below_on hb ((brf).alloc (Nat.le_refl _) _), ⟨hJ.1, hJ.2.right (by decide)⟩, fun j h => bpV_mono W.heap.size (W.heap.size + 1) w0.heap.size xp yp j _ _ _ h ((brf).alloc (Nat.le_refl _) _)⟩
  ·intro f w1 hb hJ ⟨h5, h8, _⟩ K hK
   replace h8 : f 8 = _ := h8;obtain ⟨B, h5, nB, u0, u1, u2, AB⟩ := (show ∃ B, f 5 = ptr B ∧ w0.heap.size ≤ B ∧ ∃ u0 u1 u2, Bk B [u0, u1, u2] w1 from h5);obtain ⟨q0, q1, q2⟩ := (AB).c3;obtain ⟨qf0, qf1, qf2⟩ := (AB).f3;simp only [over, overL, h5, h8];go_simp;refine hK _ _ ⟨undef, by simp only [over, overL, h5, h8]; rfl, ?_, ((hb.setCell nB _).setCell nB _).setCell nB _, ⟨hJ.1, hJ.2.same (by simp)⟩, ?_⟩
   ·exact ⟨B, h5, AB.put3 xp⟩
   ·exact bp_store5 hJ.2 h5 AB
  ·intro f w1 hb hJ ⟨h6, h10, _⟩ K hK
   replace h10 : f 10 = _ := h10;obtain ⟨B, h6, nB, u0, u1, u2, AB⟩ := (show ∃ B, f 6 = ptr B ∧ w0.heap.size ≤ B ∧ ∃ u0 u1 u2, Bk B [u0, u1, u2] w1 from h6);obtain ⟨q0, q1, q2⟩ := (AB).c3;obtain ⟨qf0, qf1, qf2⟩ := (AB).f3;simp only [over, overL, h6, h10];go_simp;refine hK _ _ ⟨undef, by simp only [over, overL, h6, h10]; rfl, ?_, ((hb.setCell nB _).setCell nB _).setCell nB _, ⟨hJ.1, hJ.2.same (by simp)⟩, ?_⟩
   ·exact ⟨B, h6, AB.put3 yp⟩
   ·exact bp_store6 hJ.2 h6 AB
 intro f w1 hb1 hJ h;have h7 : f 7 = _ := h.1;have h8 : f 8 = _ := h.2.1;have h9 : f 9 = _ := h.2.2.1;have h10 : f 10 = _ := h.2.2.2.1;obtain ⟨P, h5, A5⟩ := (show ∃ b, f 5 = ptr b ∧ Bk b (pcl xp) w1 from h.2.2.2.2.2.2.1);obtain ⟨Q, h6, A6⟩ := (show ∃ b, f 6 = ptr b ∧ Bk b (pcl yp) w1 from h.2.2.2.2.2.2.2.1);have hd1 : w0.drawn ≤ w1.drawn := hJ.1;simp only [over, overL, h5, h6, h7, h8, h9, h10];have KP : Hid (Bk P (pcl xp) w1) := A5;have KQ : Hid (Bk Q (pcl yp) w1) := A6;have HB1 : Hid (bw W w1) := below_on HB0.out hb1;have HD1 : Hid (W.drawn ≤ w1.drawn) := by show _ ≤ _; rw [HD0.out]; exact hd1
 clear h h5 h6 h7 h8 h9 h10 A5 A6 hJ hb1 hd1 KX KY HW0;refine HKK.out _ _ ?_
 go_wp2_with fail
 refine region_allD [zf,zf,zf,zf,zt,zf,zf,zf,zf,zf,zf,zt,zt,zt,zt,zt,zt,zt,zt,zt,zt,zt,zt,zt,zt,zt,zt,zt,zt,zt,zt,zt]
  [([], [11], none), ([0], [12], none), ([], [13], none), ([2], [14], none), ([1, 3], [15], none), ([], [16], none), ([5], [17], none), ([6], [18], none), ([], [19], none), ([8], [20], none), ([9], [21], none), ([7, 10], [22], none), ([], [23], none), ([12], [24], none), ([13], [25], none), ([], [26], none), ([15], [27], none), ([16], [28], none), ([14, 17], [29], none), ([4, 11, 18], [30], none), ([19], [31], none), ([20], [4], none)]
  (bqV P Q xp yp a b c r) (fun _ w => w1.drawn ≤ w.drawn) (by kernel_rfl) (by kernel_rfl) (Nat.le_succ _) ?_ ?_
 ·refine ⟨?_, ?_, ?_, ?_, ?_, ?_, ?_, ?_, ?_, ?_, ?_, ?_, ?_, ?_, ?_, ?_, ?_, ?_, ?_, ?_, ?_, ?_, trivial⟩
  ·intro f w1 hb hJ _ K hK
   simp only [over, overL];go_simp;exact hK _ _ ⟨_, by simp only [over, overL]; rfl, rfl, hb, hJ, fun _ h => h⟩
  ·intro f w1 hb hJ ⟨h11, _⟩ K hK
   replace h11 : f 11 = _ := h11;have q0 := (KP.out.later hb).c 0 rfl;simp only [over, overL, h11];go_simp;exact hK _ _ ⟨_, by simp only [over, overL, h11]; rfl, rfl, hb, hJ, fun _ h => h⟩
  ·intro f w1 hb hJ _ K hK
   simp only [over, overL];go_simp;exact hK _ _ ⟨_, by simp only [over, overL]; rfl, rfl, hb, hJ, fun _ h => h⟩
  ·intro f w1 hb hJ ⟨h13, _⟩ K hK
   replace h13 : f 13 = _ := h13;have q0 := (KQ.out.later hb).c 0 rfl;simp only [over, overL, h13];go_simp;exact hK _ _ ⟨_, by simp only [over, overL, h13]; rfl, rfl, hb, hJ, fun _ h => h⟩
  ·intro f w1 hb hJ ⟨h12, h14, _⟩ K hK
   replace h12 : f 12 = _ := h12;replace h14 : f 14 = _ := h14;simp only [over, overL, h12, h14];go_simp;refine (compare_r xp.1 yp.1 a (by exact HA.out) w1).mono ?_;rintro e w2 ⟨rfl, rfl⟩;exact hK _ _ ⟨_, by simp only [over, overL, h12, h14]; rfl, rfl, hb, hJ, fun _ h => h⟩
  ·intro f w1 hb hJ _ K hK
   simp only [over, overL];go_simp;exact hK _ _ ⟨_, by simp only [over, overL]; rfl, rfl, hb, hJ, fun _ h => h⟩
  ·intro f w1 hb hJ ⟨h16, _⟩ K hK
   replace h16 : f 16 = _ := h16;simp only [over, overL, h16];go_simp;exact hK _ _ ⟨_, by simp only [over, overL, h16]; rfl, rfl, hb, hJ, fun _ h => h⟩
  ·intro f w1 hb hJ ⟨h17, _⟩ K hK
   replace h17 : f 17 = _ := h17;have q2 := (KP.out.later hb).c 2 rfl;simp only [over, overL, h17];go_simp;exact hK _ _ ⟨_, by simp only [over, overL, h17]; rfl, rfl, hb, hJ, fun _ h => h⟩
  ·intro f w1 hb hJ _ K hK
   simp only [over, overL];go_simp;exact hK _ _ ⟨_, by simp only [over, overL]; rfl, rfl, hb, hJ, fun _ h => h⟩
  ·intro f w1 hb hJ ⟨h19, _⟩ K hK
   replace h19 : f 19 = _ := h19;simp only [over, overL, h19];go_simp;exact hK _ _ ⟨_, by simp only [over, overL, h19]; rfl, rfl, hb, hJ, fun _ h => h⟩
  ·intro f w1 hb hJ ⟨h20, _⟩ K hK
   replace h20 : f 20 = _ := h20;have q2 := (KQ.out.later hb).c 2 rfl;simp only [over, overL, h20];go_simp;exact hK _ _ ⟨_, by simp only [over, overL, h20]; rfl, rfl, hb, hJ, fun _ h => h⟩
  ·intro f w1 hb hJ ⟨h18, h21, _⟩ K hK
   replace h18 : f 18 = _ := h18;replace h21 : f 21 = _ := h21;simp only [over, overL, h18, h21];go_simp;refine (compare_r xp.2.2 yp.2.2 b (by exact HB.out) w1).mono ?_;rintro e w2 ⟨rfl, rfl⟩;exact hK _ _ ⟨_, by simp only [over, overL, h18, h21]; rfl, rfl, hb, hJ, fun _ h => h⟩
  ·intro f w1 hb hJ _ K hK
   simp only [over, overL];go_simp;exact hK _ _ ⟨_, by simp only [over, overL]; rfl, rfl, hb, hJ, fun _ h => h⟩
  ·intro f w1 hb hJ ⟨h23, _⟩ K hK
   replace h23 : f 23 = _ := h23;simp only [over, overL, h23];go_simp;exact hK _ _ ⟨_, by simp only [over, overL, h23]; rfl, rfl, hb, hJ, fun _ h => h⟩
  ·intro f w1 hb hJ ⟨h24, _⟩ K hK
   replace h24 : f 24 = _ := h24;have q1 := (KP.out.later hb).c 1 rfl;simp only [over, overL, h24];go_simp;exact hK _ _ ⟨_, by simp only [over, overL, h24]; rfl, rfl, hb, hJ, fun _ h => h⟩
  ·intro f w1 hb hJ _ K hK
   simp only [over, overL];go_simp;exact hK _ _ ⟨_, by simp only [over, overL]; rfl, rfl, hb, hJ, fun _ h => h⟩
  ·intro f w1 hb hJ ⟨h26, _⟩ K hK
   replace h26 : f 26 = _ := h26;simp only [over, overL, h26];go_simp;exact hK _ _ ⟨_, by simp only [over, overL, h26]; rfl, rfl, hb, hJ, fun _ h => h⟩
  ·intro f w1 hb hJ ⟨h27, _⟩ K hK
   replace h27 : f 27 = _ := h27;have q1 := (KQ.out.later hb).c 1 rfl;simp only [over, overL, h27];go_simp;exact hK _ _ ⟨_, by simp only [over, overL, h27]; rfl, rfl, hb, hJ, fun _ h => h⟩
  ·intro f w1 hb hJ ⟨h25, h28, _⟩ K hK
   replace h25 : f 25 = _ := h25;replace h28 : f 28 = _ := h28;simp only [over, overL, h25, h28];go_simp;refine (compare_r xp.2.1 yp.2.1 c (by exact HC.out) w1).mono ?_;rintro e w2 ⟨rfl, rfl⟩;exact hK _ _ ⟨_, by simp only [over, overL, h25, h28]; rfl, rfl, hb, hJ, fun _ h => h⟩
  ·intro f w1 hb hJ ⟨h15, h22, h29, _⟩ K hK
   replace h15 : f 15 = _ := h15;replace h22 : f 22 = _ := h22;replace h29 : f 29 = _ := h29;simp only [over, overL, h15, h22, h29];go_simp;exact hK _ _ ⟨_, by simp only [over, overL, h15, h22, h29]; rfl, new_three _ _ _ _ _, below_on hb ((brf).alloc (Nat.le_refl _) _), hJ, fun j h => bqV_mono P Q xp yp a b c r j _ _ _ h ((brf).alloc (Nat.le_refl _) _)⟩
  ·intro f w1 hb hJ ⟨h30, _⟩ K hK
   replace h30 : IsInts [a, b, c] (f 30) w1 := h30;simp only [over, overL];go_simp;refine (cmpOrI_is [a, b, c] r HR.out _ w1 (by simp) h30).mono ?_;rintro e w2 ⟨rfl, rfl⟩;exact hK _ _ ⟨_, by simp only [over, overL]; rfl, rfl, hb, hJ, fun _ h => h⟩
  ·intro f w1 hb hJ ⟨h31, _⟩ K hK
   replace h31 : f 31 = _ := h31;simp only [over, overL, h31];go_simp;exact hK _ _ ⟨_, by simp only [over, overL, h31]; rfl, rfl, hb, hJ, fun _ h => h⟩
 intro f w2 hb2 hJ h;have h4 : f 4 = .int .i64 r := h.2.2.2.2.2.2.2.2.2.2.2.2.2.2.2.2.2.2.2.2.2.1;simp only [over, overL, h4];clear h h4;go_wp2;go_ret;exact ⟨ret_int HQ.out.symm, below_on HB1.out hb2, Nat.le_trans HD1.out hJ⟩
end Go.Proofs.YtcajifelbldjnaaGreatDoor
namespace Go.Proofs.YtcajifelbldjnaaGreatDoor
open Go.RowKit F
def rkN (s : Sit) : Nat := if s.ware.kind = 2 then s.ware.rows.toNat * s.ware.cols.toNat else 0
def rkSum : List Sit → Nat
 | [] => 0
 | s :: l => rkN s + rkSum l
theorem rkSum_append (a b : List Sit) : rkSum (a ++ b) = rkSum a + rkSum b := by
 induction a with
 | nil => simp [rkSum]
 | cons x r ih => simp only [List.cons_append, rkSum, ih]; omega
theorem sum_one (f g : Nat → Nat) (m r : Nat) (h : ∀ k, g k = if k = m then f k + r else f k) : ∀ n, ((List.range n).map g).sum = ((List.range n).map f).sum + if m < n then r else 0
 | 0 => by simp
 | n + 1 => by
  have ih := sum_one f g m r h n;rw [List.range_succ, List.map_append, List.map_append, List.sum_append, List.sum_append, ih];simp only [List.map_cons, List.map_nil, List.sum_cons, List.sum_nil, h n]
  by_cases h1 : n = m
  ·subst h1; simp; omega
  ·by_cases h2 : m < n
   ·rw [if_pos h2, if_neg h1, if_pos (by omega)]; omega
   ·rw [if_neg h2, if_neg h1, if_neg (by omega)]; omega
def Slots (l : List Sit) : Prop := l.Pairwise (fun a b => a.slot ≠ b.slot) ∧ ∀ s ∈ l, 1 ≤ s.slot ∧ s.slot ≤ 12
theorem slots_of {l : List Sit} (hd : dchk l = 0) : Slots l := by
 refine ⟨List.pairwise_iff_getElem.2 fun i j hi hj hij e => ?_, fun s hs => (dchk_ware hd hs).2⟩;obtain ⟨_, _, h3⟩ := (dchk_in hd).2 j hj;unfold fit at h3
 split at h3
 ·cases h3
 ·split at h3
  ·cases h3
  ·rename_i h
   refine h (.inl (List.any_eq_true.2 ⟨l[i]'hi, ?_, by simp [e]⟩));rw [List.mem_take_iff_getElem];exact ⟨i, by omega, rfl⟩
theorem seatOf_cons (s : Sit) (l : List Sit) (n : Int) : seatOf (s :: l) n = if s.slot = n then some s else seatOf l n := by
 unfold seatOf;rw [List.find?_cons]
 by_cases h : s.slot = n
 ·simp [h]
 ·have hb : (s.slot == n) = false := beq_false_of_ne h
  rw [hb, if_neg h]
theorem seatOf_none {l : List Sit} {n : Int} (h : ∀ s ∈ l, s.slot ≠ n) : seatOf l n = none := by
 unfold seatOf;rw [List.find?_eq_none];intro s hs
 simpa using h s hs
theorem seatOf_self {l : List Sit} (h : Slots l) {s : Sit} (hs : s ∈ l) : seatOf l s.slot = some s := by
 induction l with
 | nil => cases hs
 | cons x r ih =>
  obtain ⟨h1, h2⟩ := List.pairwise_cons.1 h.1;rw [seatOf_cons]
  rcases List.mem_cons.1 hs with rfl | hs
  ·rw [if_pos rfl]
  ·rw [if_neg (h1 s hs)]
   exact ih ⟨h2, fun t ht => h.2 t (by simp [ht])⟩ hs
theorem rackIn_self {l : List Sit} {n : Int} {s : Sit} (h : seatOf l n = some s) : (rackIn l n).length = rkN s := by
 unfold rackIn rkN;rw [h];simp only
 split
 ·rw [List.length_map, spots_length]
 ·rfl
theorem tips_sum : ∀ {l : List Sit}, Slots l → (tipsL l).length = rkSum l
 | [], _ => by
  have : ∀ k : Nat, rackIn [] ((k : Int) + 1) = [] := fun k => rackIn_no rfl;simp [tipsL, this, rkSum]
  rfl
 | s :: l, h => by
  obtain ⟨h1, h2⟩ := List.pairwise_cons.1 h.1;have ih := tips_sum (l := l) ⟨h2, fun t ht => h.2 t (by simp [ht])⟩;have hs := h.2 s (by simp);unfold tipsL at ih ⊢;rw [List.length_flatMap] at ih ⊢;have hm : ((s.slot.toNat - 1 : Nat) : Int) + 1 = s.slot := by omega
  rw [sum_one (fun k => (rackIn l ((k : Int) + 1)).length) (fun k => (rackIn (s :: l) ((k : Int) + 1)).length) (s.slot.toNat - 1) (rkN s) ?_ 12, ih, if_pos (by omega)]
  ·simp only [rkSum]; omega
  ·intro k
   by_cases e : k = s.slot.toNat - 1
   ·subst e
    rw [if_pos rfl, hm, rackIn_self (by rw [seatOf_cons, if_pos rfl]), rackIn_no (seatOf_none fun t ht => fun e => h1 t ht e.symm)];simp
   ·rw [if_neg e]
    have hne : ¬ s.slot = (k : Int) + 1 := by omega
    unfold rackIn;rw [seatOf_cons, if_neg hne]
def layS (p : Int × Int) (s : Sit) : Int × Int := if s.ware.kind = 2 then (if s.slot < p.1 then (s.slot, s.ware.cap) else p) else p
def layL (l : List Sit) : Int × Int := l.foldl layS (13, 0)
theorem layL_snoc (l : List Sit) (s : Sit) : layL (l ++ [s]) = layS (layL l) s := by simp [layL]
theorem layL_is (l : List Sit) (h : ∀ s ∈ l, s.slot ≤ 12) : (layL l = (13, 0) ∧ ∀ s ∈ l, s.ware.kind ≠ 2) ∨ ∃ s ∈ l, s.ware.kind = 2 ∧ layL l = (s.slot, s.ware.cap) ∧ ∀ t ∈ l, t.ware.kind = 2 → s.slot ≤ t.slot := by
 have key : ∀ n, n ≤ l.length → (layL (l.take n) = (13, 0) ∧ ∀ s ∈ l.take n, s.ware.kind ≠ 2) ∨ ∃ s ∈ l.take n, s.ware.kind = 2 ∧ layL (l.take n) = (s.slot, s.ware.cap) ∧ ∀ t ∈ l.take n, t.ware.kind = 2 → s.slot ≤ t.slot := by
  intro n
  induction n with
  | zero => intro _; left; exact ⟨rfl, fun s hs => by simp at hs⟩
  | succ n ih =>
   intro hn;have e : l.take (n + 1) = l.take n ++ [l[n]'(by omega)] := by rw [List.take_succ_eq_append_getElem]
   have hx := h (l[n]'(by omega)) (List.getElem_mem _);rw [e, layL_snoc];generalize l[n]'(by omega) = x at *;unfold layS
   by_cases hk : x.ware.kind = 2
   ·rw [if_pos hk]
    rcases ih (by omega) with ⟨h1, h2⟩ | ⟨s, h1, h2, h3, h4⟩
    ·rw [h1, if_pos (by show x.slot < 13; omega)]
     refine .inr ⟨x, by simp, hk, rfl, fun t ht hkt => ?_⟩
     rcases List.mem_append.1 ht with ht | ht
     ·exact absurd hkt (h2 t ht)
     ·simp at ht; subst ht; exact Int.le_refl _
    ·rw [h3]
     by_cases hlt : x.slot < s.slot
     ·rw [if_pos hlt]
      refine .inr ⟨x, by simp, hk, rfl, fun t ht hkt => ?_⟩
      rcases List.mem_append.1 ht with ht | ht
      ·have := h4 t ht hkt; omega
      ·simp at ht; subst ht; exact Int.le_refl _
     ·rw [if_neg hlt]
      refine .inr ⟨s, by simp [h1], h2, rfl, fun t ht hkt => ?_⟩
      rcases List.mem_append.1 ht with ht | ht
      ·exact h4 t ht hkt
      ·simp at ht; subst ht; omega
   ·rw [if_neg hk]
    rcases ih (by omega) with ⟨h1, h2⟩ | ⟨s, h1, h2, h3, h4⟩
    ·refine .inl ⟨h1, fun t ht => ?_⟩
     rcases List.mem_append.1 ht with ht | ht
     ·exact h2 t ht
     ·simp at ht; subst ht; exact hk
    ·refine .inr ⟨s, by simp [h1], h2, h3, fun t ht hkt => ?_⟩
     rcases List.mem_append.1 ht with ht | ht
     ·exact h4 t ht hkt
     ·simp at ht; subst ht; exact absurd hkt hk
 have := key l.length (Nat.le_refl _);rwa [List.take_length] at this
theorem layL_tipM {l : List Sit} (hd : dchk l = 0) : (layL l).2 = tipM l := by
 have hsl := slots_of hd
 have hno : ∀ n : Int, (∀ s ∈ l, s.ware.kind = 2 → s.slot ≠ n) → rackIn l n = [] := by
  intro n h
  cases hs : seatOf l n with
  | none => exact rackIn_no hs
  | some s =>
   refine rackIn_kind hs fun hk => ?_;obtain ⟨h1, h2⟩ := seatOf_in hs;exact h s h1 hk h2
 rcases layL_is l fun s hs => (hsl.2 s hs).2 with ⟨h1, h2⟩ | ⟨s, h1, h2, h3, h4⟩
 ·rw [h1]
  have : ∀ k : Nat, rackIn l ((k : Int) + 1) = [] := fun k => hno _ fun s hs hk => absurd hk (h2 s hs);have e : tipsL l = [] := by simp [tipsL, this]
  unfold tipM;rw [e]
 ·rw [h3]
  have hr := hsl.2 s h1;have hself := seatOf_self hsl h1;have hc := (dchk_ware hd h1).1;have hR := inR_iff.1 (chk_in hc).2.2.1;have hC := inR_iff.1 (chk_in hc).2.2.2.1
  have hto : ∀ n : Nat, ((n : Int) < s.slot → tipsTo l n = []) ∧ (s.slot ≤ (n : Int) → ∃ q, tipsTo l n = rackIn l s.slot ++ q) := by
   intro n
   induction n with
   | zero => exact ⟨fun _ => rfl, fun h => by omega⟩
   | succ n ih =>
    refine ⟨fun h => ?_, fun h => ?_⟩
    ·rw [tipsTo_succ, ih.1 (by omega), hno _ fun t ht hk e => by have := h4 t ht hk; omega]
     rfl
    ·rw [tipsTo_succ]
     by_cases e : ((n : Int) + 1) = s.slot
     ·rw [ih.1 (by omega), e]
      exact ⟨[], by simp⟩
     ·obtain ⟨q, hq⟩ := ih.2 (by omega)
      exact ⟨q ++ rackIn l ((n : Int) + 1), by rw [hq, List.append_assoc]⟩
  obtain ⟨q, hq⟩ := (hto 12).2 (by omega);rw [tipsTo_all] at hq;have hra : rackIn l s.slot = (spots s.ware.rows.toNat (s.ware.cols.toNat * s.ware.rows.toNat)).map (spotP s.slot) := rackIn_yes hself h2 (by omega) (by omega)
  obtain ⟨m, hm⟩ : ∃ m, s.ware.cols.toNat * s.ware.rows.toNat = m + 1 := ⟨s.ware.cols.toNat * s.ware.rows.toNat - 1, by
   have : 1 * 1 ≤ s.ware.cols.toNat * s.ware.rows.toNat := Nat.mul_le_mul (by omega) (by omega)
   omega⟩
  obtain ⟨r, hrr⟩ : ∃ r, spots s.ware.rows.toNat (m + 1) = (0, 0) :: r := by
   refine ⟨((List.range m).map Nat.succ).map fun i => (i % s.ware.rows.toNat, i / s.ware.rows.toNat), ?_⟩;unfold spots;rw [List.range_succ_eq_map, List.map_cons];simp
  rw [hra, hm, hrr] at hq;unfold tipM;rw [hq];simp only [List.map_cons, List.cons_append]
  have hw : wareOf l (spotP s.slot (0, 0)) = some s.ware := by
   unfold wareOf
   show (match seatOf l s.slot with | some s => _ | none => none) = _
   rw [hself];simp only;rw [if_pos (spotOk_iff.2 ⟨⟨by simp [spotP], by simp [spotP]; omega⟩, by simp [spotP], by simp [spotP]; omega⟩)]
  rw [hw]
end Go.Proofs.YtcajifelbldjnaaGreatDoor
namespace Go.Proofs.YtcajifelbldjnaaGreatDoor
open Go.RowKit
section
variable {P : Program} {Q : Exit → Act → World → Prop} {a : Act} {m : List Bool} {V : Nat → Value → World → Prop} {w0 : World} {ops : Array Oper} {plan : Plan} {k : Nat}
theorem seqE_any (hmono : ∀ d v w w', V d v w → bw w w' → V d v w') (hback : backE 0 ops.toList = true) (hnd : nodupB (plan.map (·.1)) = true) (hall : planAll ops m a.tmps.size (ops.toList.take k) plan = true) (hseq : seqB ops k = true) (hk : k ≤ ops.size)
  (hob : Obls P Q a m V w0 (ops.toList.take k) plan) (hsuf : ∀ f w, bw w0 w → AllP V f w plan → wpList P ops Q (ops.toList.drop k) (over a m f) w) :
  ∀ (fuel : Nat) (listed : Array Bool) (a' : Act) (w : World), listed.size = ops.size → listed.toList.count false ≤ fuel → St P Q a m V w0 ops k listed a' w → wpAny P .any ops Q fuel listed a' w := by
 have hcov : ∀ {listed : Array Bool}, Closed ops listed → ∀ {i : Nat}, i ∈ Region.ready .any ops listed → k ≤ i → ∀ j, j < i → listed[j]? = some true := by
  intro listed hc i hi hki j hj;obtain ⟨hlt, _, hp⟩ := ready_pre hi;unfold seqB at hseq;have h1 := List.all_eq_true.1 hseq i (by simpa using hlt);rw [Bool.or_eq_true] at h1
  rcases h1 with h1 | h1
  ·simp at h1; omega
  ·exact covers_listed hc _ i j hp (List.all_eq_true.1 h1 j (by simpa using hj))
 have htoSuf : ∀ {listed : Array Bool} {a' : Act} {w : World}, Inv a m V w0 ops listed a' w → (∀ j, j < k → listed[j]? = some true) → wpList P ops Q (ops.toList.drop k) a' w := by
  rintro listed a' w ⟨f, rfl, hb, hV⟩ hl;refine hsuf f w hb (allP_of hall fun i o d ho hd => ?_)
  have hik : i < k := by
   by_cases h : i < k
   ·exact h
   ·rw [List.getElem?_take, if_neg h] at ho; cases ho
  rw [List.getElem?_take, if_pos hik] at ho;exact hV i o d (by simpa using ho) hd (hl i hik)
 have hend : ∀ (listed : Array Bool) (a' : Act) (w : World), listed.size = ops.size → St P Q a m V w0 ops k listed a' w → Region.ready .any ops listed = [] → Q .normal a' w := by
  rintro listed a' w hsz ⟨_, h⟩ hr;have hal := all_listedE hback hsz hr
  rcases h with ⟨hs, hI⟩ | ⟨i, hki, hl, hw⟩
  ·have hks : k = ops.size := by
    by_cases h : k < ops.size
    ·exact absurd (hal k h) (hs k (Nat.le_refl _))
    ·omega
   have := htoSuf hI fun j hj => hal j (by omega);rw [List.drop_eq_nil_of_le (by simp; omega)] at this;exact this
  ·have : ops.size ≤ i := by
    by_cases h : i < ops.size
    ·have := (hl i h).1 (hal i h); omega
    ·omega
   rw [List.drop_eq_nil_of_le (by simpa using this)] at hw;exact hw
 have hstepL : ∀ {listed : Array Bool} {a' : Act} {w : World} {i : Nat}, i < ops.size → k ≤ i → (∀ j, j < ops.size → (listed[j]? = some true ↔ j < i)) → Closed ops (listed.setIfInBounds i true) → listed.size = ops.size → wpList P ops Q (ops.toList.drop i) a' w →
   wpOp P ops Q i (fun a2 w2 => St P Q a m V w0 ops k (listed.setIfInBounds i true) a2 w2) a' w := by
  intro listed a' w i hi hki hl hc hsz hw
  have hd : ops.toList.drop i = ops[i] :: ops.toList.drop (i + 1) := by
   rw [List.drop_eq_getElem_cons (by simpa using hi)]; simp
  have hnext : ∀ a2 w2, wpList P ops Q (ops.toList.drop (i + 1)) a2 w2 → St P Q a m V w0 ops k (listed.setIfInBounds i true) a2 w2 := fun a2 w2 h =>
   ⟨hc, .inr ⟨i + 1, by omega, fun j hj => by
    rw [Array.getElem?_setIfInBounds]
    by_cases e : i = j
    ·subst e; rw [if_pos rfl, if_pos (by omega)]; simp
    ·rw [if_neg e, hl j hj]; omega, h⟩⟩
  rw [hd] at hw;unfold wpList at hw;unfold wpOp;rw [show ops[i]? = some ops[i] by simp [hi]];simp only
  split
  ·rename_i hwn
   rw [if_pos hwn] at hw;exact hw.imp (Oper.wp_mono hnext) id
  ·rename_i hwn
   rw [if_neg hwn] at hw;exact hnext _ _ hw
 intro fuel
 induction fuel with
 | zero =>
  intro listed a' w hsz hc hI
  have hr : Region.ready .any ops listed = [] := by
   rw [List.eq_nil_iff_forall_not_mem];intro i hi;obtain ⟨hlt, h1, _⟩ := ready_pre hi;have h0 : listed.toList.count false = 0 := by omega
   rw [List.count_eq_zero] at h0;have hlt2 : i < listed.size := by omega
   simp only [Array.getD_eq_getD_getElem?, Array.getElem?_eq_getElem hlt2, Option.getD_some] at h1;exact h0 (by rw [← h1]; simp)
  exact ⟨hr, hend listed a' w hsz hI hr⟩
 | succ fuel ih =>
  intro listed a' w hsz hc hI;refine ⟨hend listed a' w hsz hI, fun i hi => ?_⟩;have hrp := ready_pre hi;have hlt2 : i < listed.size := by omega
  have h1 := hrp.2.1;simp only [Array.getD_eq_getD_getElem?, Array.getElem?_eq_getElem hlt2, Option.getD_some] at h1
  have hcount : (listed.setIfInBounds i true).toList.count false ≤ fuel := by
   have hl : i < listed.toList.length := by simpa using hlt2
   have h2 : listed.toList[i] = false := by simpa using h1
   rw [Array.toList_setIfInBounds, List.count_set hl, h2];have hp : 0 < listed.toList.count false := List.count_pos_iff.2 (by rw [← h2]; exact List.getElem_mem _);rw [if_pos (by rfl), if_neg (by decide)];omega
  have hnl : listed[i]? ≠ some true := by rw [Array.getElem?_eq_getElem hlt2, h1]; simp
  refine wpOp_mono (K := fun a2 w2 => St P Q a m V w0 ops k (listed.setIfInBounds i true) a2 w2) (fun a2 w2 h2 => ih _ _ _ (by simpa using hsz) hcount h2) ?_;obtain ⟨hcl, hS⟩ := hI;have hcl2 := closed_next hcl hi
  rcases hS with ⟨hsu, hI⟩ | ⟨i0, hki, hl, hw⟩
  ·by_cases hik : i < k
   ·refine wpOp_mono (fun a2 w2 h2 => ⟨hcl2, .inl ⟨fun j hj => ?_, h2⟩⟩) (seq_step hmono hnd hall hob hik hsu hi hI)
    rw [Array.getElem?_setIfInBounds, if_neg (by omega)];exact hsu j hj
   ·have hlow := hcov hcl hi (by omega)
    have he : i = k := by
     by_cases h : i = k
     ·exact h
     ·exact absurd (hlow k (by omega)) (hsu k (Nat.le_refl _))
    subst he;refine hstepL hrp.1 (Nat.le_refl _) (fun j hj => ⟨fun h => ?_, fun h => hlow j h⟩) hcl2 hsz (htoSuf hI hlow)
    by_cases h2 : j < i
    ·exact h2
    ·exact absurd h (hsu j (by omega))
  ·have hge : i0 ≤ i := by
    by_cases h : i < i0
    ·exact absurd ((hl i hrp.1).2 h) hnl
    ·omega
   have hlow := hcov hcl hi (by omega)
   have he : i = i0 := by
    by_cases h : i = i0
    ·exact h
    ·have := (hl i0 (by omega)).1 (hlow i0 (by omega)); omega
   subst he;exact hstepL hrp.1 hki hl hcl2 hsz hw
theorem region_seqE {id : Nat} (k : Nat) (m : List Bool) (plan : Plan) (V : Nat → Value → World → Prop) (hmix : P.follows .mixedOrders = true) (hback : backE 0 ops.toList = true) (hnd : nodupB (plan.map (·.1)) = true) (hall : planAll ops m a.tmps.size (ops.toList.take k) plan = true)
  (hseq : seqB ops k = true) (hk : k ≤ ops.size) (hmono : ∀ d v w w', V d v w → bw w w' → V d v w') (hob : Obls P Q a m V w0 (ops.toList.take k) plan)
  (hsuf : ∀ f w, bw w0 w → AllP V f w plan → wpList P ops Q (ops.toList.drop k) (over a m f) w) : (Code.region id ops true).wp P Q a w0 := by
 refine wp_region_any hmix (seqE_any hmono hback hnd hall hseq hk hob hsuf _ _ _ _ (by simp) (by simp) ⟨?_, .inl ⟨?_, fun k => (a.tmps.toList[k]?).getD undef, (over_start a m).symm, ⟨rfl, rfl, rfl, Nat.le_refl _, fun _ _ => rfl⟩, ?_⟩⟩)
 ·intro i o _ h
  simp [Array.getElem?_replicate] at h
 ·intro j _ h
  simp [Array.getElem?_replicate] at h
 ·intro i o d _ _ h
  simp [Array.getElem?_replicate] at h
end
end Go.Proofs.YtcajifelbldjnaaGreatDoor
namespace Go.Proofs.YtcajifelbldjnaaGreatDoor
open Go.RowKit F
def nlV (S : Nat) (s : Sit) (d : Nat) (v : Value) (_ : World) : Prop :=
 match d with
 | 34 => v = .pointer (some ⟨S, 0, none⟩)
 | 35 | 4 => v = .int .i64 s.slot
 | 36 => v = .pointer (some ⟨S, 1, none⟩)
 | 37 => v = .pointer (some ⟨S, 12, none⟩)
 | 38 => v = .int .i64 s.ware.cap
 | _ => True
theorem nlV_mono (S : Nat) (s : Sit) (d : Nat) (v : Value) (w w' : World) (h : nlV S s d v w) (_ : bw w w') : nlV S s d v w' := h
abbrev sl14 (s : Sit) : List Value := [.int .i64 s.slot, .string s.ware.name, .int .i64 s.ware.kind, .int .i64 s.ware.rows, .int .i64 s.ware.cols, .int .i64 s.ware.x, .int .i64 s.ware.y, .int .i64 s.ware.pitch, .int .i64 s.ware.wid, .int .i64 s.ware.len, .int .i64 s.ware.hei, .int .i64 s.ware.deep, .int .i64 s.ware.cap, .string s.name]
theorem newLayout_any (ao : Option Addr) (cap : Nat) (l : List Sit) (w : World) (hD : Dk w ao cap l) (hd : dchk l = 0) :
  CR 113 #[.slice ao l.length cap] w (layv ao cap l) := by
 have HD := hdd hD;have hl12 : l.length ≤ 12 := dk_len hd
 have HV : Hid (layv ao cap l = .agg #[.slice ao l.length cap, .int .i64 (rkSum l : Nat), .int .i64 (layL l).2]) := by
  show _ = _;rw [layv, tips_sum (slots_of hd), layL_tipM hd]
 have HDC := hdd hd;clear hD hd;obtain ⟨w0, hw0⟩ : ∃ w0, w0 = (w.alloc (.cells #[.slice none 0 0, .int .i64 0, .int .i64 0] 197)).alloc (.cells #[.slice ao l.length cap, .int .i64 0, .int .i64 0] 197) := ⟨_, rfl⟩
 have KR0 : Hid (Bk w.heap.size [.slice none 0 0, .int .i64 0, .int .i64 0] w0) := by
  show Bk _ _ _;rw [hw0];exact (Bk.new w [.slice none 0 0, .int .i64 0, .int .i64 0] 197 w.heap.size rfl).later ((brf).alloc (Nat.le_refl _) _)
 have KY0 : Hid (Bk (w.heap.size + 1) [.slice ao l.length cap, .int .i64 0, .int .i64 0] w0) := by
  show Bk _ _ _;rw [hw0];exact Bk.new _ [.slice ao l.length cap, .int .i64 0, .int .i64 0] 197 (w.heap.size + 1) (by simp)
 have HB0 : Hid (bw w w0) := by show Below _ _ _; rw [hw0]; exact ((brf).alloc (Nat.le_refl _) _).alloc (by simp) _
 go_enter Tryz.func113, Tryz.ntmps113
 go_wp2
 try rw [← hw0]
 clear hw0
 go_loopw [4, 11] (fun a i wr => ∃ k : Nat, k ≤ l.length ∧ i = .int .i64 k ∧ a = .int .i64 (layL (l.take k)).1 ∧ Bk w.heap.size [.slice none 0 0, .int .i64 0, .int .i64 0] wr ∧ Bk (w.heap.size + 1) [.slice ao l.length cap, .int .i64 (rkSum (l.take k) : Nat), .int .i64 (layL (l.take k)).2] wr ∧ bw w wr) (fun _ i _ => l.length - (intOf i).toNat)
 case atStart => exact ⟨0, Nat.zero_le _, rfl, rfl, KR0.out, KY0.out, HB0.out⟩
 case round =>
  obtain ⟨k, hk, rfl, rfl, hR, hY, hB⟩ := hrel;have HR := hdd hR;have HY := hdd hY;have HB := hdd hB;clear hR hY hB
  by_cases hlt : k < l.length
  ·obtain ⟨b, off, rfl, hbx⟩ := (HD.out.next HB.out).sts.at hlt
   have hmem := List.getElem_mem hlt;have hw := dchk_ware HDC.out hmem;have hR := inR_iff.1 (chk_in hw.1).2.2.1;have hC := inR_iff.1 (chk_in hw.1).2.2.2.1;have HT : Hid (l.take (k + 1) = l.take k ++ [l[k]'hlt]) := by show _ = _; rw [List.take_succ_eq_append_getElem]
   have HSM : Hid (rkSum (l.take k) ≤ 384 * k) := by
    show _ ≤ _
    have : ∀ j, j ≤ k → rkSum (l.take j) ≤ 384 * j := by
     intro j
     induction j with
     | zero => intro _; simp [rkSum]
     | succ j ih =>
      intro hj;have e : l.take (j + 1) = l.take j ++ [l[j]'(by omega)] := by rw [List.take_succ_eq_append_getElem]
      have hw2 := dchk_ware HDC.out (List.getElem_mem (show j < l.length by omega));have h1 := inR_iff.1 (chk_in hw2.1).2.2.1;have h2 := inR_iff.1 (chk_in hw2.1).2.2.2.1;rw [e, rkSum_append]
      have h3 : rkN (l[j]'(by omega)) ≤ 384 := by
       unfold rkN
       split
       ·have := Nat.mul_le_mul (show (l[j]'(by omega)).ware.rows.toNat ≤ 16 by omega) (show (l[j]'(by omega)).ware.cols.toNat ≤ 24 by omega)
        omega
       ·omega
      have := ih (by omega);simp only [rkSum];omega
    exact this k (Nat.le_refl _)
   generalize l[k]'hlt = s at *;have HCap := (show Hid _ from chk_cap hw.1);obtain ⟨_, c0, c1, c2, c3, c4, c5, c6, c7, c8, c9, c10, c11, c12, c13⟩ := hbx;have hsz : w.heap.size + 1 < wr.heap.size := HY.out.1;have hki : (k : Int) < (l.length : Int) := by omega
   have y1 := HY.out.c 1 rfl;have yf1 := HY.out.f 1 rfl;have yf2 := HY.out.f 2 rfl;have y2 := HY.out.c 2 rfl;have hsum := HSM.out;have hne1 : w.heap.size + 1 ≠ wr.heap.size := by omega
   by_cases hkd : s.ware.kind = 2
   ·have hkd2 : (s.ware.kind != 2) = false := by simp [hkd]
    have hmle : s.ware.rows.toNat * s.ware.cols.toNat ≤ 384 := by
     have := Nat.mul_le_mul (show s.ware.rows.toNat ≤ 16 by omega) (show s.ware.cols.toNat ≤ 24 by omega);omega
    have hmul : s.ware.rows * s.ware.cols = ((s.ware.rows.toNat * s.ware.cols.toNat : Nat) : Int) := by
     rw [Int.natCast_mul, Int.toNat_of_nonneg (by omega), Int.toNat_of_nonneg (by omega)]
    obtain ⟨M, hM⟩ : ∃ M : Int, M = ((s.ware.rows.toNat * s.ware.cols.toNat : Nat) : Int) := ⟨_, rfl⟩
    have hA : wrap64 (s.ware.rows * s.ware.cols) = M := by
     rw [hmul, hM];unfold wrap64;omega
    obtain ⟨N, hN⟩ : ∃ N : Int, N = ((rkSum (l.take k) + s.ware.rows.toNat * s.ware.cols.toNat : Nat) : Int) := ⟨_, rfl⟩
    have hA2 : wrap64 ((rkSum (l.take k) : Int) + M) = N := by
     rw [hN, hM];unfold wrap64;omega
    have HNN := hdd hN;clear hN hM hmul hmle;have HRK : Hid (rkN s = s.ware.rows.toNat * s.ware.cols.toNat) := if_pos hkd;have HLS : Hid (layS (layL (l.take k)) s = if s.slot < (layL (l.take k)).1 then (s.slot, s.ware.cap) else layL (l.take k)) := if_pos hkd;clear hkd
    by_cases hsl : s.slot < (layL (l.take k)).1
    ·go_wp2_with fail
     try rw [hA]
     try rw [hA2]
     clear hA hA2;obtain ⟨w2, hw2⟩ : ∃ w2, w2 = (wr.setCell ⟨w.heap.size + 1, 1, none⟩ (.int .i64 N)).alloc (sobj s) := ⟨_, rfl⟩;have hz : (wr.setCell ⟨w.heap.size + 1, 1, none⟩ (.int .i64 N)).heap.size = wr.heap.size := by simp [World.setCell]
     have al := (Below.refl (wr.setCell ⟨w.heap.size + 1, 1, none⟩ (.int .i64 N)).heap.size (wr.setCell ⟨w.heap.size + 1, 1, none⟩ (.int .i64 N))).alloc (Nat.le_refl _) (sobj s);have KS : Hid (Bk wr.heap.size (sl14 s) w2) := by show Bk _ _ _; rw [hw2]; exact Bk.new _ (sl14 s) 86 wr.heap.size hz.symm
     have KR2 : Hid (Bk w.heap.size [.slice none 0 0, .int .i64 0, .int .i64 0] w2) := by show Bk _ _ _; rw [hw2]; exact (HR.out.other (by simp) 1 _).later al
     have KY2 : Hid (Bk (w.heap.size + 1) [.slice (some ⟨b, off, none⟩) l.length cap, .int .i64 N, .int .i64 (layL (l.take k)).2] w2) := by show Bk _ _ _; rw [hw2]; exact (HY.out.put 1 (.int .i64 N)).later al
     have HB2 : Hid (bw w w2) := by show Below _ _ _; rw [hw2]; exact (HB.out.setCell (by simp) _).alloc (by have := HB.out.size; simp [World.setCell]; omega) _
     rw [← hw2];clear hw2 al hz
     refine region_seqE 6 [zf,zf,zf,zf,zt,zf,zf,zf,zf,zf,zf,zf,zf,zf,zf,zf,zf,zf,zf,zf,zf,zf,zf,zf,zf,zf,zf,zf,zf,zf,zf,zf,zf,zf,zt,zt,zt,zt,zt,zf,zf,zf]
      [(34, [], none), (35, [34], none), (36, [], none), (37, [36], none), (38, [37], none), (4, [35], none)]
      (nlV wr.heap.size s) (by kernel_rfl) (by kernel_rfl) (by kernel_rfl) (by kernel_rfl) (by kernel_rfl) (by decide) (nlV_mono wr.heap.size s) ?_ ?_
     ·refine ⟨?_, ?_, ?_, ?_, ?_, ?_, trivial⟩
      any_goals first | (intro f w1 hb _ K hK; simp only [over, overL]; go_simp; exact hK _ _ ⟨_, rfl, by simp only [over, overL]; rfl, brf⟩) | fail
      any_goals first | (intro f w1 hb hh K hK; have q := KS.out.later hb; have q0 := q.c 0 rfl; have q12 := q.c 12 rfl; clear q; simp only [AllV, nlV] at hh; simp only [over, overL, hh]; go_simp; exact hK _ _ ⟨_, rfl, by simp only [over, overL, hh]; rfl, brf⟩) | fail
     ·intro f w3 hb3 hv
      have h38 : f 38 = .int .i64 s.ware.cap := hv.2.2.2.2.1;have h4 : f 4 = .int .i64 s.slot := hv.2.2.2.2.2.1;have KY3 := KY2.out.later hb3;have q2 := KY3.c 2 rfl;have qf2 := KY3.f 2 rfl;simp only [over, overL, h38, h4];go_wp2
      go_roundw
      case rel =>
       refine ⟨k + 1, by omega, by go_num, ?_, (KR2.out.later hb3).other (by simp) _ _, ?_, (below_on HB2.out hb3).setCell (by simp) _⟩
       ·rw [HT.out, layL_snoc, HLS.out, if_pos hsl]
       ·rw [HT.out, layL_snoc, HLS.out, if_pos hsl, rkSum_append]
        have hh := KY3.put 2 (.int .i64 s.ware.cap);simp only [rkSum, HRK.out, Nat.add_zero];rw [HNN.out] at hh;exact hh
      case measure => simp [intOf]; omega
    ·go_wp2
     go_roundw
     case rel =>
      have b2 : bw w ((wr.setCell ⟨w.heap.size + 1, 1, none⟩ (.int .i64 N)).alloc (sobj s)) := (HB.out.setCell (by simp) _).alloc (by have := HB.out.size; simp [World.setCell]; omega) _;refine ⟨k + 1, by omega, by go_num, ?_, (HR.out.other (by simp) 1 _).later ((brf).alloc (Nat.le_refl _) _), ?_, b2⟩
      ·rw [HT.out, layL_snoc, HLS.out, if_neg hsl]
      ·rw [HT.out, layL_snoc, HLS.out, if_neg hsl, rkSum_append]
       have hh := (HY.out.put 1 (.int .i64 N)).later ((brf).alloc (Nat.le_refl _) (sobj s));rw [HNN.out] at hh;simp only [rkSum, HRK.out, Nat.add_zero];rw [HNN.out];exact hh
     case measure => simp [intOf]; omega
   ·have hkd2 : (s.ware.kind != 2) = true := by simp [hkd]
    have HRK : Hid (rkN s = 0) := if_neg hkd;have HLS : Hid (layS (layL (l.take k)) s = layL (l.take k)) := if_neg hkd;clear hkd;go_wp2
    go_roundw
    case rel =>
     have b2 : bw wr (wr.alloc (sobj s)) := (brf).alloc (Nat.le_refl _) _;refine ⟨k + 1, by omega, by go_num, ?_, HR.out.later b2, ?_, below_on HB.out b2⟩
     ·rw [HT.out, layL_snoc, HLS.out]
     ·rw [HT.out, layL_snoc, HLS.out, rkSum_append]
      simp only [rkSum, HRK.out, Nat.add_zero];exact HY.out.later b2
    case measure => simp [intOf]; omega
  ·have e : k = l.length := by omega
   have y0 := HY.out.c 0 rfl;have y1 := HY.out.c 1 rfl;have y2 := HY.out.c 2 rfl;have r0 := HR.out.c 0 rfl;have rf0 := HR.out.f 0 rfl;have r1 := HR.out.c 1 rfl;have rf1 := HR.out.f 1 rfl;have r2 := HR.out.c 2 rfl;have rf2 := HR.out.f 2 rfl;have lt := HR.out.1;have HE : Hid (l.take k = l) := List.take_of_length_le (by omega);rw [HE.out] at y1 y2;go_wp2;refine bodyPost_ret (v := .agg #[.slice ao l.length cap, .int .i64 (rkSum l : Nat), .int .i64 (layL l).2]) (by simp [results, Tryz.results113, go_sem, r0, r1, r2]) rfl ⟨by rw [HV.out], ?_⟩;exact ((HB.out.setCell (Nat.le_refl _) _).setCell (Nat.le_refl _) _).setCell (Nat.le_refl _) _
end Go.Proofs.YtcajifelbldjnaaGreatDoor
namespace Go.Proofs.YtcajifelbldjnaaGreatDoor
open Go.RowKit
theorem len0_true {α : Type} {l : List α} (h : l = []) : ((l.length : Int) == 0) = true := by simp [h]
theorem len0_false {α : Type} {l : List α} (h : l ≠ []) : ((l.length : Int) == 0) = false := by
 have : l.length ≠ 0 := fun e => h (List.eq_nil_of_length_eq_zero e);simp; omega
end Go.Proofs.YtcajifelbldjnaaGreatDoor
