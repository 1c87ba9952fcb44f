import Derived.Test.YtfadmpnpgiceeaaGreatKq
import Derived.Test.YtfadmpnpgiceeaaGreatKm

/- workcellref: wellSet walked. -/
namespace Go.Proofs.YtfadmpnpgiceeaaGreat
open Go.RowKit Go.Maps
structure SmX (bs : List Nat) (t : Sm) : Prop where
 row : t.wl = [] ∨ ∀ a, t.aoW = some a → a.block ∉ bs
 fl : ∀ x ∈ t.wl, x.2.2.2 = [] ∨ ∀ a, x.2.1 = some a → a.block ∉ bs
 held : t.held = [] ∨ ∀ a, t.aoH = some a → a.block ∉ bs
 touched : t.touched = [] ∨ ∀ a, t.aoT = some a → a.block ∉ bs
def Fz (bs : List Nat) (w : World) (ao : Option Addr) (ps : List F.Pc) : Prop := F.Fl w ao ps ∧ (ps = [] ∨ ∀ a, ao = some a → a.block ∉ bs)
theorem fl_butL {bs : List Nat} {w w1 : World} {ao : Option Addr} {ps : List F.Pc} (h : Fz bs w ao ps) (hb : ButL bs w w1) : Fz bs w1 ao ps := by
 obtain ⟨⟨h0, h1⟩, h2⟩ := h
 refine ⟨⟨h0, ?_⟩, h2⟩
 rcases h1 with h1 | ⟨g, off, e, hg, hc⟩
 ·exact .inl h1
 ·rcases h2 with h2 | h2
  ·exact .inl h2
  ·have hbl := hb.block g hg (h2 _ e)
   exact .inr ⟨g, off, e, Nat.lt_of_lt_of_le hg hb.size, fun k hk => ⟨(World.cell?_of_block (w := w) hbl).trans (hc k hk).1, (World.cell?_of_block (w := w) hbl).trans (hc k hk).2⟩⟩
theorem tx_butL {bs : List Nat} {w w1 : World} {ao : Option Addr} {ps : List ByteArray} (h : Tx w ao ps) (hx : ps = [] ∨ ∀ a, ao = some a → a.block ∉ bs) (hb : ButL bs w w1) : Tx w1 ao ps := by
 obtain ⟨h0, h1⟩ := h
 refine ⟨h0, ?_⟩
 rcases h1 with h1 | ⟨g, off, e, hg, hc⟩
 ·exact .inl h1
 ·rcases hx with h2 | h2
  ·exact .inl h2
  ·have hbl := hb.block g hg (h2 _ e)
   exact .inr ⟨g, off, e, Nat.lt_of_lt_of_le hg hb.size, fun k hk => (World.cell?_of_block (w := w) hbl).trans (hc k hk)⟩
theorem SmIn.butL {bs : List Nat} {w w1 : World} {t : Sm} (h : SmIn w t) (hx : SmX bs t) (hb : ButL bs w w1) : SmIn w1 t := by
 refine ⟨?_, (fl_butL ⟨h.held, hx.held⟩ hb).1, tx_butL h.touched hx.touched hb⟩
 rcases h.wells with h1 | ⟨g, off, e, hc⟩
 ·exact .inl h1
 ·rcases hx.row with h2 | h2
  ·exact .inl h2
  ·refine .inr ⟨g, off, e, fun k hk => ?_⟩
   have hy := hc k hk
   have hbl := hb.block g hy.lt (h2 _ e)
   have hf := fl_butL ⟨hy.fl, hx.fl _ (List.getElem_mem hk)⟩ hb
   generalize t.wl[k]'hk = y at *
   exact ⟨Nat.lt_of_lt_of_le hy.lt hb.size, (World.cell?_of_block (w := w) hbl).trans hy.c0, (World.cell?_of_block (w := w) hbl).trans hy.c1, (World.cell?_of_block (w := w) hbl).trans hy.c2, (World.cell?_of_block (w := w) hbl).trans hy.c3, hf.1⟩
theorem SmX.add {bs : List Nat} {w : World} {t : Sm} (hx : SmX bs t) (h : SmIn w t) {r : Nat} (hr : w.heap.size ≤ r) : SmX (r :: bs) t := by
 have key : ∀ {g : Nat} {a : Addr}, a.block = g → g < w.heap.size → a.block ∉ bs → a.block ∉ r :: bs := fun {g a} e hg hn hm => by
  rcases List.mem_cons.1 hm with h1 | h1
  ·omega
  ·exact hn h1
 refine ⟨?_, fun x hxm => ?_, ?_, ?_⟩
 ·rcases hx.row with h2 | h2
  ·exact .inl h2
  ·rcases h.wells with h1 | ⟨g, off, e, hc⟩
   ·exact .inl h1
   ·by_cases hn : t.wl = []
    ·exact .inl hn
    ·refine .inr fun a ha => ?_
     have hl : 0 < t.wl.length := List.length_pos_iff.2 hn
     have := (hc 0 hl).lt
     rw [e] at ha
     injection ha with ha
     subst ha
     exact key rfl this (h2 _ e)
 ·rcases h.wells with h1 | ⟨g, off, e, hc⟩
  ·rw [h1] at hxm; cases hxm
  ·obtain ⟨k, hk, rfl⟩ := List.getElem_of_mem hxm
   rcases hx.fl _ hxm with h2 | h2
   ·exact .inl h2
   ·rcases (hc k hk).fl.2 with h3 | ⟨g', off', e', hlt, _⟩
    ·exact .inl h3
    ·refine .inr fun a ha => ?_
     rw [e'] at ha
     injection ha with ha
     subst ha
     exact key rfl hlt (h2 _ e')
 ·rcases hx.held with h2 | h2
  ·exact .inl h2
  ·rcases h.held.2 with h3 | ⟨g', off', e', hlt, _⟩
   ·exact .inl h3
   ·refine .inr fun a ha => ?_
    rw [e'] at ha
    injection ha with ha
    subst ha
    exact key rfl hlt (h2 _ e')
 ·rcases hx.touched with h2 | h2
  ·exact .inl h2
  ·rcases h.touched.2 with h3 | ⟨g', off', e', hlt, _⟩
   ·exact .inl h3
   ·refine .inr fun a ha => ?_
    rw [e'] at ha
    injection ha with ha
    subst ha
    exact key rfl hlt (h2 _ e')
theorem fz_own {bs : List Nat} {w : World} {base : Nat} {v : Value} {ps : List F.Pc} (h : OwnR encC w base v ps) (hs : ∀ p ∈ ps, p.1.size ≤ maxLen) (hb : ∀ k ∈ bs, k < base) : ∃ ao cap, v = .slice ao ps.length cap ∧ Fz bs w ao ps ∧ (ao = none → cap = 0) := by
 obtain ⟨ao, cap, e, hf⟩ := fl_of h hs
 subst e
 exact ⟨ao, cap, rfl, ⟨hf, .inr fun a ha hm => by have := (h.hi a ha).1; have := hb _ hm; omega⟩, h.nilcap⟩
def wsR (p : Plc) (f : List F.Pc) : Bool → Wls → Wls
 | d, [] => if d = true then [] else [(p, f)]
 | d, y :: r => if d = false ∧ pltB p y.1 = true then (p, f) :: y :: wsR p f true r else if (y.1 == p) = true then wsR p f d r else y :: wsR p f d r
theorem wsR_true (p : Plc) (f : List F.Pc) : ∀ ws : Wls, wsR p f true ws = wdel ws p
 | [] => rfl
 | y :: r => by
  have ih := wsR_true p f r
  unfold wsR
  rw [if_neg (by simp)]
  by_cases h : y.1 = p
  ·rw [if_pos (by simp [h]), ih]; simp [wdel, h]
  ·rw [if_neg (by simp [h]), ih]; simp [wdel, h]
theorem wsR_false (p : Plc) (f : List F.Pc) : ∀ ws : Wls, wsR p f false ws = ins (p, f) (wdel ws p)
 | [] => rfl
 | y :: r => by
  have ih := wsR_false p f r
  unfold wsR
  by_cases hlt : pltB p y.1 = true
  ·have hne : y.1 ≠ p := fun e => plt_ne hlt e.symm
   rw [if_pos ⟨rfl, hlt⟩, wsR_true]
   have : wdel (y :: r) p = y :: wdel r p := by simp [wdel, hne]
   rw [this]
   unfold ins
   rw [if_pos hlt]
  ·rw [if_neg (fun h => hlt h.2)]
   by_cases h : y.1 = p
   ·rw [if_pos (by simp [h]), ih]; simp [wdel, h]
   ·have : wdel (y :: r) p = y :: wdel r p := by simp [wdel, h]
    rw [if_neg (by simp [h]), ih, this]
    conv => rhs; unfold ins
    rw [if_neg hlt]
theorem wsR_eq (p : Plc) (f : List F.Pc) (ws : Wls) : wsR p f (decide (f = [])) ws = wset ws p f := by
 unfold wset
 by_cases h : f = []
 ·rw [decide_eq_true h, if_pos h, wsR_true]
 ·rw [decide_eq_false h, if_neg h, wsR_false]
structure Wb (w wr : World) (s : Sm) (p : Plc) (acc : List Wh) (v : Value) : Prop where
 own : OwnR encW wr (w.heap.size + 3) v acc
 k0 : Bk w.heap.size (sml s) wr
 k1 : Bk (w.heap.size + 1) (pcl p) wr
 k2 : Bk (w.heap.size + 2) z7 wr
 below : Below w.heap.size w wr
theorem Wb.later {w wr w1 : World} {s : Sm} {p : Plc} {acc : List Wh} {v : Value} (h : Wb w wr s p acc v) (hb : Below wr.heap.size wr w1) : Wb w w1 s p acc v :=
 ⟨h.own.later hb, h.k0.later hb, h.k1.later hb, h.k2.later hb, h.below.trans (hb.mono h.below.size)⟩
theorem Wb.step {w wr w1 : World} {s : Sm} {p : Plc} {acc acc' : List Wh} {v v' : Value} {ob : Obj} (h : Wb w wr s p acc v) (ho : OwnR encW w1 (w.heap.size + 3) v' acc') (hg : (wr.alloc ob).grownBy w1 v.ownBlock) : Wb w w1 s p acc' v' := by
 have al : Below wr.heap.size wr (wr.alloc ob) := (brf).alloc (Nat.le_refl _) _
 have h2 := h.later al
 have hr : ∀ k, v.ownBlock = some k → w.heap.size + 3 ≤ k := fun k hk => (World.ownsRow.lt h2.own k hk).1
 have same : ∀ {b : Nat} {cs : List Value}, Bk b cs (wr.alloc ob) → b < w.heap.size + 3 → Bk b cs w1 := fun {b cs} hk hlt => hk.same hg.size (hg.block _ hk.1 (fun e => by have := hr _ e.symm; omega))
 exact ⟨ho, same h2.k0 (by omega), same h2.k1 (by omega), same h2.k2 (by omega), h2.below.grown hg h2.below.size (fun k hk => by have := hr k hk; omega)⟩
set_option linter.unusedVariables false in
def waV (S P b off n cW k : Nat) (p : Plc) (y : Wh) (d : Nat) (v : Value) (_ : World) : Prop :=
 match d with
 | 20 => v = .bool true
 | 21 => v = .bool false
 | 22 => v = .bool false
 | 31 => v = .bool false
 | _ => True
set_option linter.unusedVariables false in
theorem waV_mono (S P b off n cW k : Nat) (p : Plc) (y : Wh) (d : Nat) (v : Value) (w w' : World) (h : waV S P b off n cW k p y d v w) (_ : Below w.heap.size w w') : waV S P b off n cW k p y d v w' := h
set_option linter.unusedVariables false in
def wbV (S P b off n cW k : Nat) (p : Plc) (y : Wh) (d : Nat) (v : Value) (_ : World) : Prop :=
 match d with
 | 20 => v = .bool false
 | 21 => v = .bool true
 | 22 => v = .bool true
 | 23 => v = .agg #[.int .i64 p.1, .int .i64 p.2.1, .int .i64 p.2.2]
 | 24 => v = .pointer (some ⟨S, 0, none⟩)
 | 25 => v = .slice (some ⟨b, off, none⟩) n cW
 | 26 => v = .int .i64 (k : Int)
 | 27 => v = .pointer (some ⟨b, off + k * 4, none⟩)
 | 28 => v = .pointer (some ⟨b, off + k * 4, none⟩)
 | 29 => v = .agg #[.int .i64 y.1.1, .int .i64 y.1.2.1, .int .i64 y.1.2.2]
 | 30 => v = .bool true
 | 31 => v = .bool true
 | _ => True
set_option linter.unusedVariables false in
theorem wbV_mono (S P b off n cW k : Nat) (p : Plc) (y : Wh) (d : Nat) (v : Value) (w w' : World) (h : wbV S P b off n cW k p y d v w) (_ : Below w.heap.size w w') : wbV S P b off n cW k p y d v w' := h
set_option linter.unusedVariables false in
def wcV (S P b off n cW k : Nat) (p : Plc) (y : Wh) (d : Nat) (v : Value) (_ : World) : Prop :=
 match d with
 | 20 => v = .bool false
 | 21 => v = .bool true
 | 22 => v = .bool true
 | 23 => v = .agg #[.int .i64 p.1, .int .i64 p.2.1, .int .i64 p.2.2]
 | 24 => v = .pointer (some ⟨S, 0, none⟩)
 | 25 => v = .slice (some ⟨b, off, none⟩) n cW
 | 26 => v = .int .i64 (k : Int)
 | 27 => v = .pointer (some ⟨b, off + k * 4, none⟩)
 | 28 => v = .pointer (some ⟨b, off + k * 4, none⟩)
 | 29 => v = .agg #[.int .i64 y.1.1, .int .i64 y.1.2.1, .int .i64 y.1.2.2]
 | 30 => v = .bool false
 | 31 => v = .bool false
 | _ => True
set_option linter.unusedVariables false in
theorem wcV_mono (S P b off n cW k : Nat) (p : Plc) (y : Wh) (d : Nat) (v : Value) (w w' : World) (h : wcV S P b off n cW k p y d v w) (_ : Below w.heap.size w w') : wcV S P b off n cW k p y d v w' := h
theorem pl_neqB (p q : Plc) (W : World) : (binOp .neq 31 (.agg #[.int .i64 p.1, .int .i64 p.2.1, .int .i64 p.2.2]) (.agg #[.int .i64 q.1, .int .i64 q.2.1, .int .i64 q.2.2])).run Tryz.prog W = .ok (.bool (!(p == q))) W := by
 obtain ⟨a, b, c⟩ := p
 obtain ⟨d, e, f⟩ := q
 go_simp
 by_cases h1 : a = d <;> by_cases h2 : b = e <;> by_cases h3 : c = f <;> simp [h1, h2, h3]
theorem whs_fl {w : World} {ao : Option Addr} {l : List Wh} (h : Whs w ao l) {x : Wh} (hx : x ∈ l) : F.Fl w x.2.1 x.2.2.2 := by
 rcases h with rfl | ⟨b, off, _, hc⟩
 ·cases hx
 ·obtain ⟨k, hk, rfl⟩ := List.getElem_of_mem hx
  exact (hc k hk).fl
def dn (d : Bool) : Nat := if d = true then 0 else 1
theorem arr_mk (l : List Value) : (Array.mk l) = l.toArray := rfl
theorem whp_snoc (a : List Wh) (x : Wh) : whp (a ++ [x]) = whp a ++ [(x.1, x.2.2.2)] := by simp [whp]
set_option maxHeartbeats 12800000 in
set_option maxRecDepth 100000 in
theorem wellSet_any (bs : List Nat) (s : Sm) (p : Plc) (aoF : Option Addr) (capF : Nat) (f : List F.Pc) (w : World) (hbs : ∀ k ∈ bs, k < w.heap.size) (hS : SmIn w s) (hN : SmN s) (hX : SmX bs s) (hF : Fz bs w aoF f) (hnF : aoF = none → capF = 0) (hwl : s.wl.length ≤ 4608) :
  Calls Tryz.prog 50 #[smv s, plv p, .slice aoF f.length capF] w fun e w' => ∃ t : Sm, e = .returned (smv t) ∧ t.st = { s.st with wells := wset s.st.wells p f } ∧ SmIn w' t ∧ SmN t ∧ SmX bs t ∧ Below w.heap.size w w' := by
 have HBS : Hid (∀ k ∈ bs, k < w.heap.size) := hbs
 have HS : Hid (SmIn w s) := hS
 have HN : Hid (SmN s) := hN
 have HX : Hid (SmX bs s) := hX
 have HF : Hid (Fz bs w aoF f) := hF
 have HNF : Hid (aoF = none → capF = 0) := hnF
 obtain ⟨wI, hwI⟩ : ∃ wI, wI = ((w.alloc (smo s)).alloc (pobj p)).alloc (.cells z7.toArray 27) := ⟨_, rfl⟩
 have HI : Hid (Wb w wI s p [] (.slice none 0 0)) := by
  have b1 : Below w.heap.size w (w.alloc (smo s)) := (brf).alloc (Nat.le_refl _) _
  have b2 : Below (w.alloc (smo s)).heap.size (w.alloc (smo s)) ((w.alloc (smo s)).alloc (pobj p)) := (brf).alloc (Nat.le_refl _) _
  have b3 : Below ((w.alloc (smo s)).alloc (pobj p)).heap.size ((w.alloc (smo s)).alloc (pobj p)) wI := by rw [hwI]; exact (brf).alloc (Nat.le_refl _) _
  refine ⟨OwnR.nil _ _ _, ?_, ?_, ?_, (b1.trans (b2.mono (by simp))).trans (b3.mono (by simp; omega))⟩
  ·exact ((Bk.new w (sml s) 27 w.heap.size rfl).later b2).later b3
  ·exact (Bk.new _ (pcl p) 31 (w.heap.size + 1) (by simp)).later b3
  ·rw [hwI]; exact Bk.new _ z7 27 (w.heap.size + 2) (by simp)
 have HWI : Hid (wI = _) := hwI
 have HD0 : Hid (whp ([] : List Wh) ++ wsR p f (decide (f = [])) (whp (s.wl.drop 0)) = wset (whp s.wl) p f) := wsR_eq p f _
 have hf0 : ((f.length : Int) == 0) = decide (f = []) := by
  by_cases h : f = []
  ·rw [decide_eq_true h, len0_true h]
  ·rw [decide_eq_false h, len0_false h]
 generalize decide (f = []) = d0 at *
 clear hbs hS hN hX hF hnF hwI
 go_enter Tryz.func50, Tryz.ntmps50
 go_wp2_with fail
 rw [← HWI.out]
 clear hf0
 go_loopw [7, 8, 9] (fun v dv i wr => ∃ (k : Nat) (acc : List Wh) (d : Bool), k ≤ s.wl.length ∧ i = .int .i64 k ∧ dv = .bool d ∧ whp acc ++ wsR p f d (whp (s.wl.drop k)) = wset (whp s.wl) p f ∧ (∀ x ∈ acc, x ∈ s.wl ∨ x = (p, (aoF, capF, f))) ∧ acc.length + dn d ≤ k + 1 ∧ Wb w wr s p acc v) (fun _ _ i _ => s.wl.length - (intOf i).toNat)
 case atStart => exact ⟨0, [], d0, Nat.zero_le _, rfl, rfl, HD0.out, (fun x hx => by cases hx), by cases d0 <;> simp [dn], HI.out⟩
 case round =>
  obtain ⟨k, acc, d, hk, rfl, rfl, htk, hmem, hlen, hwb⟩ := hrel
  have HTK0 : Hid (whp acc ++ wsR p f d (whp (s.wl.drop k)) = wset (whp s.wl) p f) := htk
  have HMEM : Hid (∀ x ∈ acc, x ∈ s.wl ∨ x = (p, (aoF, capF, f))) := hmem
  have HLN : Hid (acc.length + dn d ≤ k + 1) := hlen
  obtain ⟨aoV, capV, hvv⟩ := hwb.own.shape
  subst hvv
  have HWB0 : Hid (Wb w wr s p acc (.slice aoV acc.length capV)) := hwb
  clear htk hmem hlen hwb
  obtain ⟨nV, hnV⟩ : ∃ nV, acc.length = nV := ⟨_, rfl⟩
  have HNV : Hid (acc.length = nV) := hnV
  rw [hnV] at HWB0
  rw [hnV]
  have HWB : Hid (Wb w wr s p acc (.slice aoV nV capV)) := HWB0
  have HWBwr : Hid (Wb w wr s p acc (.slice aoV nV capV)) := HWB0
  clear hnV HWB0
  have hle : acc.length ≤ 1000000000 := by have := HLN.out; omega
  by_cases hlt : k < s.wl.length
  ·have hki : (k : Int) < (s.wl.length : Int) := by omega
   obtain ⟨b, off, hao, hx⟩ := (HS.out.next HWB.out.below).wells.at hlt
   have HAO : Hid (s.aoW = some ⟨b, off, none⟩) := hao
   have HYM : Hid (s.wl[k]'hlt ∈ s.wl) := List.getElem_mem hlt
   have HDR : Hid (whp (s.wl.drop k) = ((s.wl[k]'hlt).1, (s.wl[k]'hlt).2.2.2) :: whp (s.wl.drop (k + 1))) := by show _ = _; rw [List.drop_eq_getElem_cons hlt]; rfl
   have HYZ0 : Hid (∀ W, Below w.heap.size w W → WhAt W b (off + k * 4) (s.wl[k]'hlt)) := fun W hW => by
    obtain ⟨b', off', hao', hx'⟩ := (HS.out.next hW).wells.at hlt
    rw [hao] at hao'
    simp only [Option.some.injEq, Addr.mk.injEq, and_true] at hao'
    obtain ⟨rfl, rfl⟩ := hao'
    exact hx'
   generalize s.wl[k]'hlt = y at *
   have HY : Hid (WhAt wr b (off + k * 4) y) := hx
   have HYZ : Hid (∀ W, Below w.heap.size w W → WhAt W b (off + k * 4) y) := HYZ0.out
   have HYwr : Hid (WhAt wr b (off + k * 4) y) := hx
   have KS : Hid (Bk w.heap.size [.slice (some ⟨b, off, none⟩) s.wl.length s.capW, .bool s.tip, .slice s.aoH s.held.length s.capH, .slice s.aoT s.touched.length s.capT, .int .i64 s.used, .int .i64 s.heat, .int .i64 s.clock] wr) := by show Bk _ _ _; rw [← hao]; exact HWB.out.k0
   have KP : Hid (Bk (w.heap.size + 1) (pcl p) wr) := HWB.out.k1
   have HPL0 : Hid (∀ W, Calls Tryz.prog 33 #[plv p, plv y.1] W fun e w' => e = .returned (.bool (pltB p y.1)) ∧ Below W.heap.size W w') := fun W => placeLess_any p y.1 W
   clear hx hao
   obtain ⟨s0, s1, s2, s3, s4, s5, s6⟩ := (KS.out).c7
   cases d with
   | true =>
    go_wp2_with fail
    clear s0 s1 s2 s3 s4 s5 s6
    rename_i KK hkk
    have HKK := (show Hid _ from hkk)
    clear hkk
    refine region_inv [zf,zf,zf,zf,zf,zf,zf,zf,zf,zf,zf,zf,zf,zf,zf,zf,zf,zf,zf,zf,zt,zt,zt,zt,zt,zt,zt,zt,zt,zt,zt,zt,zf,zf,zf,zf,zf,zf,zf,zf,zf,zf,zf,zf,zf,zf,zf,zf,zf,zf,zf,zf,zf,zf,zf,zf,zf,zf,zf,zf,zf,zf,zf,zf,zf]
     [(20, [], none), (21, [20], none), (22, [21], none), (23, [22], some (22, true)), (24, [22], some (22, true)), (25, [22, 24], some (22, true)), (26, [22], some (22, true)), (27, [22, 25, 26], some (22, true)), (28, [22, 27], some (22, true)), (29, [22, 28], some (22, true)), (30, [22, 23, 29], some (22, true)), (31, [22, 30], none)]
     (waV w.heap.size (w.heap.size + 1) b off s.wl.length s.capW k p y) (by kernel_rfl) (by kernel_rfl) (waV_mono w.heap.size (w.heap.size + 1) b off s.wl.length s.capW k p y) ?_ ?_
    ·refine ⟨?_, ?_, ?_, ?_, ?_, ?_, ?_, ?_, ?_, ?_, ?_, ?_, trivial⟩
     ·intro f w1 hb _ K hK
      simp only [over, overL, Nat.reduceAdd]
      go_simp
      exact hK _ _ ⟨_, rfl, by simp only [over, overL, Nat.reduceAdd]; rfl, brf⟩
     ·rintro f w1 hb ⟨(h20 : f 20 = _), _⟩ K hK
      simp only [over, overL, Nat.reduceAdd, h20]
      go_simp
      exact hK _ _ ⟨_, rfl, by simp only [over, overL, Nat.reduceAdd, h20]; rfl, brf⟩
     ·rintro f w1 hb ⟨(h21 : f 21 = _), _⟩ K hK
      simp only [over, overL, Nat.reduceAdd, h21]
      go_simp
      exact hK _ _ ⟨_, rfl, by simp only [over, overL, Nat.reduceAdd, h21]; rfl, brf⟩
     ·rintro f w1 hb ⟨(h22 : f 22 = _), _⟩
      exact ⟨fun hg => absurd (h22.symm.trans hg) (by simp), fun _ => trivial⟩
     ·rintro f w1 hb ⟨(h22 : f 22 = _), _⟩
      exact ⟨fun hg => absurd (h22.symm.trans hg) (by simp), fun _ => trivial⟩
     ·rintro f w1 hb ⟨(h22 : f 22 = _), h24, _⟩
      exact ⟨fun hg => absurd (h22.symm.trans hg) (by simp), fun _ => trivial⟩
     ·rintro f w1 hb ⟨(h22 : f 22 = _), _⟩
      exact ⟨fun hg => absurd (h22.symm.trans hg) (by simp), fun _ => trivial⟩
     ·rintro f w1 hb ⟨(h22 : f 22 = _), h25, h26, _⟩
      exact ⟨fun hg => absurd (h22.symm.trans hg) (by simp), fun _ => trivial⟩
     ·rintro f w1 hb ⟨(h22 : f 22 = _), h27, _⟩
      exact ⟨fun hg => absurd (h22.symm.trans hg) (by simp), fun _ => trivial⟩
     ·rintro f w1 hb ⟨(h22 : f 22 = _), h28, _⟩
      exact ⟨fun hg => absurd (h22.symm.trans hg) (by simp), fun _ => trivial⟩
     ·rintro f w1 hb ⟨(h22 : f 22 = _), h23, h29, _⟩
      exact ⟨fun hg => absurd (h22.symm.trans hg) (by simp), fun _ => trivial⟩
     ·rintro f w1 hb ⟨(h22 : f 22 = _), h30, _⟩ K hK
      simp only [over, overL, Nat.reduceAdd, h22]
      go_simp
      exact hK _ _ ⟨_, rfl, by simp only [over, overL, Nat.reduceAdd, h22]; rfl, brf⟩
    intro f' w3 hbn hv
    have h31 : f' 31 = .bool false := hv.2.2.2.2.2.2.2.2.2.2.2.1
    have HWB3 : Hid (Wb w w3 s p acc (.slice aoV nV capV)) := HWB.out.later hbn
    have HWBw3 : Hid (Wb w w3 s p acc (.slice aoV nV capV)) := HWB.out.later hbn
    have HYw3 : Hid (WhAt w3 b (off + k * 4) y) := HY.out.next hbn
    clear hbn hv
    simp only [over, overL, Nat.reduceAdd, h31, arr_mk]
    clear h31
    refine HKK.out _ _ ?_
    cases hyp : (y.1 == p) with
    | true =>
     have HTKs : Hid (whp acc ++ wsR p f true (whp (s.wl.drop (k + 1))) = wset (whp s.wl) p f) := by
      have := HTK0.out
      rw [HDR.out] at this
      simp only [wsR, hyp, Bool.true_eq_false, false_and, if_false, if_true] at this
      exact this
     have HLs : Hid (acc.length + dn true ≤ k + 1 + 1) := by have := HLN.out; show _ ≤ _; omega
     have KSw3 : Hid (Bk w.heap.size [.slice (some ⟨b, off, none⟩) s.wl.length s.capW, .bool s.tip, .slice s.aoH s.held.length s.capH, .slice s.aoT s.touched.length s.capT, .int .i64 s.used, .int .i64 s.heat, .int .i64 s.clock] w3) := by show Bk _ _ _; rw [← HAO.out]; exact HWBw3.out.k0
     obtain ⟨s0, s1, s2, s3, s4, s5, s6⟩ := (KSw3.out).c7
     obtain ⟨p0, p1, p2⟩ := (HWBw3.out.k1).c3
     obtain ⟨_, c0, c1, c2, c3, _⟩ := HYw3.out
     have hpl := fun Wx => pl_neqB y.1 p Wx
     simp only [hyp] at hpl
     have HGO : Hid (∀ q, Wb w (w3.drewN q) s p acc (.slice aoV nV capV)) := fun q => HWBw3.out.later (blw_drewN (brf) q)
     go_wp2_with fail
     go_big_quiet (fail)
     go_wp2
     go_roundw
     case rel => exact ⟨k + 1, acc, true, by omega, by go_num, rfl, HTKs.out, HMEM.out, HLs.out, by have := HGO.out nq; first | exact this | (rw [HNV.out]; exact this)⟩
     case measure => simp [intOf]; omega
    | false =>
     have HTQ : Hid (whp (acc ++ [y]) ++ wsR p f true (whp (s.wl.drop (k + 1))) = wset (whp s.wl) p f) := by
      have := HTK0.out
      rw [HDR.out] at this
      simp only [wsR, hyp, Bool.true_eq_false, false_and, Bool.false_eq_true, if_false] at this
      show _ = _
      rw [whp_snoc, List.append_assoc]
      exact this
     have KSw3 : Hid (Bk w.heap.size [.slice (some ⟨b, off, none⟩) s.wl.length s.capW, .bool s.tip, .slice s.aoH s.held.length s.capH, .slice s.aoT s.touched.length s.capT, .int .i64 s.used, .int .i64 s.heat, .int .i64 s.clock] w3) := by show Bk _ _ _; rw [← HAO.out]; exact HWBw3.out.k0
     obtain ⟨s0, s1, s2, s3, s4, s5, s6⟩ := (KSw3.out).c7
     obtain ⟨p0, p1, p2⟩ := (HWBw3.out.k1).c3
     obtain ⟨_, c0, c1, c2, c3, _⟩ := HYw3.out
     have hpl := fun Wx => pl_neqB y.1 p Wx
     simp only [hyp] at hpl
     have hgo : ∀ q, Wb w (w3.drewN q) s p acc (.slice aoV nV capV) := fun q => HWBw3.out.later (blw_drewN (brf) q)
     have hyo : ∀ q, WhAt (w3.drewN q) b (off + k * 4) y := fun q => HYw3.out.next (blw_drewN (brf) q)
     have HGO : Hid (_) := hgo
     have HYO : Hid (_) := hyo
     clear hgo hyo
     go_wp2_with fail
     go_big_quiet (fail)
     clear hpl s0 s1 s2 s3 s4 s5 s6 p0 p1 p2 c0 c1 c2 c3
     obtain ⟨wq, hwq⟩ : ∃ x, x = w3.drewN nq := ⟨_, rfl⟩
     have HWBwq : Hid (Wb w wq s p acc (.slice aoV nV capV)) := by show Wb _ _ _ _ _ _; rw [hwq]; exact HGO.out nq
     have HYwq : Hid (WhAt wq b (off + k * 4) y) := by show WhAt _ _ _ _; rw [hwq]; exact HYO.out nq
     rw [← hwq]
     clear hwq HGO HYO
     have KSwq : Hid (Bk w.heap.size [.slice (some ⟨b, off, none⟩) s.wl.length s.capW, .bool s.tip, .slice s.aoH s.held.length s.capH, .slice s.aoT s.touched.length s.capT, .int .i64 s.used, .int .i64 s.heat, .int .i64 s.clock] wq) := by show Bk _ _ _; rw [← HAO.out]; exact HWBwq.out.k0
     obtain ⟨s0, s1, s2, s3, s4, s5, s6⟩ := (KSwq.out).c7
     obtain ⟨p0, p1, p2⟩ := (HWBwq.out.k1).c3
     obtain ⟨_, c0, c1, c2, c3, _⟩ := HYwq.out
     go_wp2_with (first
      | (at_builtin; refine wpList_append_row goodW Tryz.underlying23 infoW rfl (by decide) (by decide) _ rfl (.tmp 46) (.tmp 52) rfl (w.heap.size + 3) (.slice aoV nV capV) acc rfl (HWBwq.out.own.alloc _) wq.heap.size y rfl (fun j u hu => (Bk.new (wq) _ 58 (wq).heap.size rfl).c j hu) hle (by have := HWBwq.out.k2.1; simp; omega) ?_; intro vwk wk howk hgwk hlocwk)
      | go_in)
     obtain ⟨acK, hacK⟩ : ∃ x, x = acc ++ [y] := ⟨_, rfl⟩
     have HACK : Hid (acK = acc ++ [y]) := hacK
     rw [← hacK] at howk
     obtain ⟨aoK, capK, hvK⟩ := howk.shape
     subst hvK
     have HWBwk : Hid (Wb w wk s p acK (.slice aoK acK.length capK)) := HWBwq.out.step howk hgwk
     have HMEMk : Hid (∀ x ∈ acK, x ∈ s.wl ∨ x = (p, (aoF, capF, f))) := fun x hx => by
      rw [HACK.out] at hx
      rcases List.mem_append.1 hx with hx | hx
      ·exact HMEM.out x hx
      ·rw [List.mem_singleton] at hx; subst hx; exact .inl HYM.out
     have HLENk : Hid (acK.length + dn true ≤ k + 1 + 1) := by show _ ≤ _; rw [HACK.out, List.length_append, List.length_singleton]; have := HLN.out; omega
     have HTKk : Hid (whp acK ++ wsR p f true (whp (s.wl.drop (k + 1))) = wset (whp s.wl) p f) := by
      show _ = _
      rw [HACK.out]
      exact HTQ.out
     clear hacK howk hgwk hlocwk s0 s1 s2 s3 s4 s5 s6 p0 p1 p2 c0 c1 c2 c3
     go_roundw
     case rel => exact ⟨k + 1, acK, true, by omega, by go_num, rfl, HTKk.out, HMEMk.out, HLENk.out, HWBwk.out⟩
     case measure => simp [intOf]; omega
   | false =>
   cases hpl : pltB p y.1 with
   | true =>
    have HPL := HPL0
    rw [hpl] at HPL
    have hyp : (y.1 == p) = false := by rw [beq_eq_false_iff_ne]; exact fun e => plt_ne hpl e.symm
    have HTQ : Hid (whp (acc ++ [(p, (aoF, capF, f))] ++ [y]) ++ wsR p f true (whp (s.wl.drop (k + 1))) = wset (whp s.wl) p f) := by
     have := HTK0.out
     rw [HDR.out] at this
     simp only [wsR, hpl, and_self, if_true] at this
     show _ = _
     rw [whp_snoc, whp_snoc, List.append_assoc, List.append_assoc]
     exact this
    clear hpl HPL0
    go_wp2_with fail
    clear s0 s1 s2 s3 s4 s5 s6
    rename_i KK hkk
    have HKK := (show Hid _ from hkk)
    clear hkk
    refine region_inv [zf,zf,zf,zf,zf,zf,zf,zf,zf,zf,zf,zf,zf,zf,zf,zf,zf,zf,zf,zf,zt,zt,zt,zt,zt,zt,zt,zt,zt,zt,zt,zt,zf,zf,zf,zf,zf,zf,zf,zf,zf,zf,zf,zf,zf,zf,zf,zf,zf,zf,zf,zf,zf,zf,zf,zf,zf,zf,zf,zf,zf,zf,zf,zf,zf]
     [(20, [], none), (21, [20], none), (22, [21], none), (23, [22], some (22, true)), (24, [22], some (22, true)), (25, [22, 24], some (22, true)), (26, [22], some (22, true)), (27, [22, 25, 26], some (22, true)), (28, [22, 27], some (22, true)), (29, [22, 28], some (22, true)), (30, [22, 23, 29], some (22, true)), (31, [22, 30], none)]
     (wbV w.heap.size (w.heap.size + 1) b off s.wl.length s.capW k p y) (by kernel_rfl) (by kernel_rfl) (wbV_mono w.heap.size (w.heap.size + 1) b off s.wl.length s.capW k p y) ?_ ?_
    ·refine ⟨?_, ?_, ?_, ?_, ?_, ?_, ?_, ?_, ?_, ?_, ?_, ?_, trivial⟩
     ·intro f w1 hb _ K hK
      simp only [over, overL, Nat.reduceAdd]
      go_simp
      exact hK _ _ ⟨_, rfl, by simp only [over, overL, Nat.reduceAdd]; rfl, brf⟩
     ·rintro f w1 hb ⟨(h20 : f 20 = _), _⟩ K hK
      simp only [over, overL, Nat.reduceAdd, h20]
      go_simp
      exact hK _ _ ⟨_, rfl, by simp only [over, overL, Nat.reduceAdd, h20]; rfl, brf⟩
     ·rintro f w1 hb ⟨(h21 : f 21 = _), _⟩ K hK
      simp only [over, overL, Nat.reduceAdd, h21]
      go_simp
      exact hK _ _ ⟨_, rfl, by simp only [over, overL, Nat.reduceAdd, h21]; rfl, brf⟩
     ·rintro f w1 hb ⟨(h22 : f 22 = _), _⟩
      refine ⟨fun _ => ?_, fun hg => absurd h22 hg⟩
      intro K hK
      have q0 := (KP.out.later hb).c 0 rfl
      have q1 := (KP.out.later hb).c 1 rfl
      have q2 := (KP.out.later hb).c 2 rfl
      simp only [over, overL, Nat.reduceAdd, h22]
      go_simp
      exact hK _ _ ⟨_, rfl, by simp only [over, overL, Nat.reduceAdd, h22]; rfl, brf⟩
     ·rintro f w1 hb ⟨(h22 : f 22 = _), _⟩
      refine ⟨fun _ => ?_, fun hg => absurd h22 hg⟩
      intro K hK
      simp only [over, overL, Nat.reduceAdd, h22]
      go_simp
      exact hK _ _ ⟨_, rfl, by simp only [over, overL, Nat.reduceAdd, h22]; rfl, brf⟩
     ·rintro f w1 hb ⟨(h22 : f 22 = _), (h24 : f 24 = _), _⟩
      refine ⟨fun _ => ?_, fun hg => absurd h22 hg⟩
      intro K hK
      have q0 := (KS.out.later hb).c 0 rfl
      simp only [over, overL, Nat.reduceAdd, h22, h24]
      go_simp
      exact hK _ _ ⟨_, rfl, by simp only [over, overL, Nat.reduceAdd, h22, h24]; rfl, brf⟩
     ·rintro f w1 hb ⟨(h22 : f 22 = _), _⟩
      refine ⟨fun _ => ?_, fun hg => absurd h22 hg⟩
      intro K hK
      simp only [over, overL, Nat.reduceAdd, h22]
      go_simp
      exact hK _ _ ⟨_, rfl, by simp only [over, overL, Nat.reduceAdd, h22]; rfl, brf⟩
     ·rintro f w1 hb ⟨(h22 : f 22 = _), (h25 : f 25 = _), (h26 : f 26 = _), _⟩
      refine ⟨fun _ => ?_, fun hg => absurd h22 hg⟩
      intro K hK
      simp only [over, overL, Nat.reduceAdd, h22, h25, h26]
      go_simp
      exact hK _ _ ⟨_, rfl, by simp only [over, overL, Nat.reduceAdd, h22, h25, h26]; rfl, brf⟩
     ·rintro f w1 hb ⟨(h22 : f 22 = _), (h27 : f 27 = _), _⟩
      refine ⟨fun _ => ?_, fun hg => absurd h22 hg⟩
      intro K hK
      simp only [over, overL, Nat.reduceAdd, h22, h27]
      go_simp
      exact hK _ _ ⟨_, rfl, by simp only [over, overL, Nat.reduceAdd, h22, h27]; rfl, brf⟩
     ·rintro f w1 hb ⟨(h22 : f 22 = _), (h28 : f 28 = _), _⟩
      refine ⟨fun _ => ?_, fun hg => absurd h22 hg⟩
      intro K hK
      obtain ⟨_, q0, q1, q2, q3, _⟩ := HY.out.next hb
      simp only [over, overL, Nat.reduceAdd, h22, h28]
      go_simp
      exact hK _ _ ⟨_, rfl, by simp only [over, overL, Nat.reduceAdd, h22, h28]; rfl, brf⟩
     ·rintro f w1 hb ⟨(h22 : f 22 = _), (h23 : f 23 = _), (h29 : f 29 = _), _⟩
      refine ⟨fun _ => ?_, fun hg => absurd h22 hg⟩
      intro K hK
      simp only [over, overL, Nat.reduceAdd, h22, h23, h29]
      go_simp
      refine ((HPL.out w1).mono) ?_
      rintro e w2 ⟨rfl, hb2⟩
      exact hK _ _ ⟨_, rfl, by simp only [over, overL, Nat.reduceAdd, h22, h23, h29]; rfl, hb2⟩
     ·rintro f w1 hb ⟨(h22 : f 22 = _), (h30 : f 30 = _), _⟩ K hK
      simp only [over, overL, Nat.reduceAdd, h22, h30]
      go_simp
      exact hK _ _ ⟨_, rfl, by simp only [over, overL, Nat.reduceAdd, h22, h30]; rfl, brf⟩
    intro f' w3 hbn hv
    have h31 : f' 31 = .bool true := hv.2.2.2.2.2.2.2.2.2.2.2.1
    have HWB3 : Hid (Wb w w3 s p acc (.slice aoV nV capV)) := HWB.out.later hbn
    have HWBw3 : Hid (Wb w w3 s p acc (.slice aoV nV capV)) := HWB.out.later hbn
    have HYw3 : Hid (WhAt w3 b (off + k * 4) y) := HY.out.next hbn
    clear hbn hv
    simp only [over, overL, Nat.reduceAdd, h31, arr_mk]
    clear h31
    refine HKK.out _ _ ?_
    obtain ⟨p0, p1, p2⟩ := (HWB3.out.k1).c3
    go_wp2_with (first
     | (at_builtin; refine wpList_append_row goodW Tryz.underlying23 infoW rfl (by decide) (by decide) _ rfl (.tmp 32) (.tmp 36) rfl (w.heap.size + 3) (.slice aoV nV capV) acc rfl (HWBw3.out.own.alloc _) w3.heap.size (p, (aoF, capF, f)) rfl (fun j u hu => (Bk.new (w3) _ 58 (w3).heap.size rfl).c j hu) hle (by have := HWBw3.out.k2.1; simp; omega) ?_; intro vw4 w4 how4 hgw4 hlocw4)
     | go_in)
    obtain ⟨acF, hacF⟩ : ∃ x, x = acc ++ [(p, (aoF, capF, f))] := ⟨_, rfl⟩
    have HACF : Hid (acF = acc ++ [(p, (aoF, capF, f))]) := hacF
    rw [← hacF] at how4
    obtain ⟨aoN, capN, hvN⟩ := how4.shape
    subst hvN
    have HWBw4 : Hid (Wb w w4 s p acF (.slice aoN acF.length capN)) := HWB3.out.step how4 hgw4
    have HYw4 : Hid (WhAt w4 b (off + k * 4) y) := by
     have hb := HWBw4.out.below
     exact HYZ.out w4 hb
    have HMEMF : Hid (∀ x ∈ acF, x ∈ s.wl ∨ x = (p, (aoF, capF, f))) := fun x hx => by
     rw [HACF.out] at hx
     rcases List.mem_append.1 hx with hx | hx
     ·exact HMEM.out x hx
     ·rw [List.mem_singleton] at hx; exact .inr hx
    have hleF : acF.length ≤ 1000000000 := by rw [HACF.out, List.length_append, List.length_singleton]; have := HLN.out; omega
    have HLNF : Hid (acF.length + 1 + dn true ≤ k + 1 + 1) := by show _ ≤ _; rw [HACF.out, List.length_append, List.length_singleton]; have := HLN.out; have h1 : dn false = 1 := rfl; have h2 : dn true = 0 := rfl; omega
    have HTQF : Hid (whp (acF ++ [y]) ++ wsR p f true (whp (s.wl.drop (k + 1))) = wset (whp s.wl) p f) := by show _ = _; rw [HACF.out]; exact HTQ.out
    clear hacF how4 hgw4 hlocw4 p0 p1 p2 HTQ
    have KSw4 : Hid (Bk w.heap.size [.slice (some ⟨b, off, none⟩) s.wl.length s.capW, .bool s.tip, .slice s.aoH s.held.length s.capH, .slice s.aoT s.touched.length s.capT, .int .i64 s.used, .int .i64 s.heat, .int .i64 s.clock] w4) := by show Bk _ _ _; rw [← HAO.out]; exact HWBw4.out.k0
    obtain ⟨s0, s1, s2, s3, s4, s5, s6⟩ := (KSw4.out).c7
    obtain ⟨p0, p1, p2⟩ := (HWBw4.out.k1).c3
    obtain ⟨_, c0, c1, c2, c3, _⟩ := HYw4.out
    have hpl := fun Wx => pl_neqB y.1 p Wx
    simp only [hyp] at hpl
    have hgo : ∀ q, Wb w (w4.drewN q) s p acF (.slice aoN acF.length capN) := fun q => HWBw4.out.later (blw_drewN (brf) q)
    have hyo : ∀ q, WhAt (w4.drewN q) b (off + k * 4) y := fun q => HYw4.out.next (blw_drewN (brf) q)
    have HGO : Hid (_) := hgo
    have HYO : Hid (_) := hyo
    clear hgo hyo
    go_wp2_with fail
    go_big_quiet (fail)
    clear hpl s0 s1 s2 s3 s4 s5 s6 p0 p1 p2 c0 c1 c2 c3
    obtain ⟨wq, hwq⟩ : ∃ x, x = w4.drewN nq := ⟨_, rfl⟩
    have HWBwq : Hid (Wb w wq s p acF (.slice aoN acF.length capN)) := by show Wb _ _ _ _ _ _; rw [hwq]; exact HGO.out nq
    have HYwq : Hid (WhAt wq b (off + k * 4) y) := by show WhAt _ _ _ _; rw [hwq]; exact HYO.out nq
    rw [← hwq]
    clear hwq HGO HYO
    have KSwq : Hid (Bk w.heap.size [.slice (some ⟨b, off, none⟩) s.wl.length s.capW, .bool s.tip, .slice s.aoH s.held.length s.capH, .slice s.aoT s.touched.length s.capT, .int .i64 s.used, .int .i64 s.heat, .int .i64 s.clock] wq) := by show Bk _ _ _; rw [← HAO.out]; exact HWBwq.out.k0
    obtain ⟨s0, s1, s2, s3, s4, s5, s6⟩ := (KSwq.out).c7
    obtain ⟨p0, p1, p2⟩ := (HWBwq.out.k1).c3
    obtain ⟨_, c0, c1, c2, c3, _⟩ := HYwq.out
    go_wp2_with (first
     | (at_builtin; refine wpList_append_row goodW Tryz.underlying23 infoW rfl (by decide) (by decide) _ rfl (.tmp 46) (.tmp 52) rfl (w.heap.size + 3) (.slice aoN acF.length capN) acF rfl (HWBwq.out.own.alloc _) wq.heap.size y rfl (fun j u hu => (Bk.new (wq) _ 58 (wq).heap.size rfl).c j hu) hleF (by have := HWBwq.out.k2.1; simp; omega) ?_; intro vwk wk howk hgwk hlocwk)
     | go_in)
    obtain ⟨acK, hacK⟩ : ∃ x, x = acF ++ [y] := ⟨_, rfl⟩
    have HACK : Hid (acK = acF ++ [y]) := hacK
    rw [← hacK] at howk
    obtain ⟨aoK, capK, hvK⟩ := howk.shape
    subst hvK
    have HWBwk : Hid (Wb w wk s p acK (.slice aoK acK.length capK)) := HWBwq.out.step howk hgwk
    have HMEMk : Hid (∀ x ∈ acK, x ∈ s.wl ∨ x = (p, (aoF, capF, f))) := fun x hx => by
     rw [HACK.out] at hx
     rcases List.mem_append.1 hx with hx | hx
     ·exact HMEMF.out x hx
     ·rw [List.mem_singleton] at hx; subst hx; exact .inl HYM.out
    have HLENk : Hid (acK.length + dn true ≤ k + 1 + 1) := by show _ ≤ _; rw [HACK.out, List.length_append, List.length_singleton]; have := HLNF.out; omega
    have HTKk : Hid (whp acK ++ wsR p f true (whp (s.wl.drop (k + 1))) = wset (whp s.wl) p f) := by
     show _ = _
     rw [HACK.out]
     exact HTQF.out
    clear hacK howk hgwk hlocwk s0 s1 s2 s3 s4 s5 s6 p0 p1 p2 c0 c1 c2 c3
    go_roundw
    case rel => exact ⟨k + 1, acK, true, by omega, by go_num, rfl, HTKk.out, HMEMk.out, HLENk.out, HWBwk.out⟩
    case measure => simp [intOf]; omega
   | false =>
    have HPL := HPL0
    rw [hpl] at HPL
    have HPLF : Hid (pltB p y.1 = false) := hpl
    clear hpl HPL0
    go_wp2_with fail
    clear s0 s1 s2 s3 s4 s5 s6
    rename_i KK hkk
    have HKK := (show Hid _ from hkk)
    clear hkk
    refine region_inv [zf,zf,zf,zf,zf,zf,zf,zf,zf,zf,zf,zf,zf,zf,zf,zf,zf,zf,zf,zf,zt,zt,zt,zt,zt,zt,zt,zt,zt,zt,zt,zt,zf,zf,zf,zf,zf,zf,zf,zf,zf,zf,zf,zf,zf,zf,zf,zf,zf,zf,zf,zf,zf,zf,zf,zf,zf,zf,zf,zf,zf,zf,zf,zf,zf]
     [(20, [], none), (21, [20], none), (22, [21], none), (23, [22], some (22, true)), (24, [22], some (22, true)), (25, [22, 24], some (22, true)), (26, [22], some (22, true)), (27, [22, 25, 26], some (22, true)), (28, [22, 27], some (22, true)), (29, [22, 28], some (22, true)), (30, [22, 23, 29], some (22, true)), (31, [22, 30], none)]
     (wcV w.heap.size (w.heap.size + 1) b off s.wl.length s.capW k p y) (by kernel_rfl) (by kernel_rfl) (wcV_mono w.heap.size (w.heap.size + 1) b off s.wl.length s.capW k p y) ?_ ?_
    ·refine ⟨?_, ?_, ?_, ?_, ?_, ?_, ?_, ?_, ?_, ?_, ?_, ?_, trivial⟩
     ·intro f w1 hb _ K hK
      simp only [over, overL, Nat.reduceAdd]
      go_simp
      exact hK _ _ ⟨_, rfl, by simp only [over, overL, Nat.reduceAdd]; rfl, brf⟩
     ·rintro f w1 hb ⟨(h20 : f 20 = _), _⟩ K hK
      simp only [over, overL, Nat.reduceAdd, h20]
      go_simp
      exact hK _ _ ⟨_, rfl, by simp only [over, overL, Nat.reduceAdd, h20]; rfl, brf⟩
     ·rintro f w1 hb ⟨(h21 : f 21 = _), _⟩ K hK
      simp only [over, overL, Nat.reduceAdd, h21]
      go_simp
      exact hK _ _ ⟨_, rfl, by simp only [over, overL, Nat.reduceAdd, h21]; rfl, brf⟩
     ·rintro f w1 hb ⟨(h22 : f 22 = _), _⟩
      refine ⟨fun _ => ?_, fun hg => absurd h22 hg⟩
      intro K hK
      have q0 := (KP.out.later hb).c 0 rfl
      have q1 := (KP.out.later hb).c 1 rfl
      have q2 := (KP.out.later hb).c 2 rfl
      simp only [over, overL, Nat.reduceAdd, h22]
      go_simp
      exact hK _ _ ⟨_, rfl, by simp only [over, overL, Nat.reduceAdd, h22]; rfl, brf⟩
     ·rintro f w1 hb ⟨(h22 : f 22 = _), _⟩
      refine ⟨fun _ => ?_, fun hg => absurd h22 hg⟩
      intro K hK
      simp only [over, overL, Nat.reduceAdd, h22]
      go_simp
      exact hK _ _ ⟨_, rfl, by simp only [over, overL, Nat.reduceAdd, h22]; rfl, brf⟩
     ·rintro f w1 hb ⟨(h22 : f 22 = _), (h24 : f 24 = _), _⟩
      refine ⟨fun _ => ?_, fun hg => absurd h22 hg⟩
      intro K hK
      have q0 := (KS.out.later hb).c 0 rfl
      simp only [over, overL, Nat.reduceAdd, h22, h24]
      go_simp
      exact hK _ _ ⟨_, rfl, by simp only [over, overL, Nat.reduceAdd, h22, h24]; rfl, brf⟩
     ·rintro f w1 hb ⟨(h22 : f 22 = _), _⟩
      refine ⟨fun _ => ?_, fun hg => absurd h22 hg⟩
      intro K hK
      simp only [over, overL, Nat.reduceAdd, h22]
      go_simp
      exact hK _ _ ⟨_, rfl, by simp only [over, overL, Nat.reduceAdd, h22]; rfl, brf⟩
     ·rintro f w1 hb ⟨(h22 : f 22 = _), (h25 : f 25 = _), (h26 : f 26 = _), _⟩
      refine ⟨fun _ => ?_, fun hg => absurd h22 hg⟩
      intro K hK
      simp only [over, overL, Nat.reduceAdd, h22, h25, h26]
      go_simp
      exact hK _ _ ⟨_, rfl, by simp only [over, overL, Nat.reduceAdd, h22, h25, h26]; rfl, brf⟩
     ·rintro f w1 hb ⟨(h22 : f 22 = _), (h27 : f 27 = _), _⟩
      refine ⟨fun _ => ?_, fun hg => absurd h22 hg⟩
      intro K hK
      simp only [over, overL, Nat.reduceAdd, h22, h27]
      go_simp
      exact hK _ _ ⟨_, rfl, by simp only [over, overL, Nat.reduceAdd, h22, h27]; rfl, brf⟩
     ·rintro f w1 hb ⟨(h22 : f 22 = _), (h28 : f 28 = _), _⟩
      refine ⟨fun _ => ?_, fun hg => absurd h22 hg⟩
      intro K hK
      obtain ⟨_, q0, q1, q2, q3, _⟩ := HY.out.next hb
      simp only [over, overL, Nat.reduceAdd, h22, h28]
      go_simp
      exact hK _ _ ⟨_, rfl, by simp only [over, overL, Nat.reduceAdd, h22, h28]; rfl, brf⟩
     ·rintro f w1 hb ⟨(h22 : f 22 = _), (h23 : f 23 = _), (h29 : f 29 = _), _⟩
      refine ⟨fun _ => ?_, fun hg => absurd h22 hg⟩
      intro K hK
      simp only [over, overL, Nat.reduceAdd, h22, h23, h29]
      go_simp
      refine ((HPL.out w1).mono) ?_
      rintro e w2 ⟨rfl, hb2⟩
      exact hK _ _ ⟨_, rfl, by simp only [over, overL, Nat.reduceAdd, h22, h23, h29]; rfl, hb2⟩
     ·rintro f w1 hb ⟨(h22 : f 22 = _), (h30 : f 30 = _), _⟩ K hK
      simp only [over, overL, Nat.reduceAdd, h22, h30]
      go_simp
      exact hK _ _ ⟨_, rfl, by simp only [over, overL, Nat.reduceAdd, h22, h30]; rfl, brf⟩
    intro f' w3 hbn hv
    have h31 : f' 31 = .bool false := hv.2.2.2.2.2.2.2.2.2.2.2.1
    have HWB3 : Hid (Wb w w3 s p acc (.slice aoV nV capV)) := HWB.out.later hbn
    have HWBw3 : Hid (Wb w w3 s p acc (.slice aoV nV capV)) := HWB.out.later hbn
    have HYw3 : Hid (WhAt w3 b (off + k * 4) y) := HY.out.next hbn
    clear hbn hv
    simp only [over, overL, Nat.reduceAdd, h31, arr_mk]
    clear h31
    refine HKK.out _ _ ?_
    cases hyp : (y.1 == p) with
    | true =>
     have HTKs : Hid (whp acc ++ wsR p f false (whp (s.wl.drop (k + 1))) = wset (whp s.wl) p f) := by
      have := HTK0.out
      rw [HDR.out] at this
      simp only [wsR, hyp, HPLF.out, Bool.false_eq_true, and_false, if_false, if_true] at this
      exact this
     have HLs : Hid (acc.length + dn false ≤ k + 1 + 1) := by have := HLN.out; show _ ≤ _; omega
     have KSw3 : Hid (Bk w.heap.size [.slice (some ⟨b, off, none⟩) s.wl.length s.capW, .bool s.tip, .slice s.aoH s.held.length s.capH, .slice s.aoT s.touched.length s.capT, .int .i64 s.used, .int .i64 s.heat, .int .i64 s.clock] w3) := by show Bk _ _ _; rw [← HAO.out]; exact HWBw3.out.k0
     obtain ⟨s0, s1, s2, s3, s4, s5, s6⟩ := (KSw3.out).c7
     obtain ⟨p0, p1, p2⟩ := (HWBw3.out.k1).c3
     obtain ⟨_, c0, c1, c2, c3, _⟩ := HYw3.out
     have hpl := fun Wx => pl_neqB y.1 p Wx
     simp only [hyp] at hpl
     have HGO : Hid (∀ q, Wb w (w3.drewN q) s p acc (.slice aoV nV capV)) := fun q => HWBw3.out.later (blw_drewN (brf) q)
     go_wp2_with fail
     go_big_quiet (fail)
     go_wp2
     go_roundw
     case rel => exact ⟨k + 1, acc, false, by omega, by go_num, rfl, HTKs.out, HMEM.out, HLs.out, by have := HGO.out nq; first | exact this | (rw [HNV.out]; exact this)⟩
     case measure => simp [intOf]; omega
    | false =>
     have HTQ : Hid (whp (acc ++ [y]) ++ wsR p f false (whp (s.wl.drop (k + 1))) = wset (whp s.wl) p f) := by
      have := HTK0.out
      rw [HDR.out] at this
      simp only [wsR, hyp, HPLF.out, Bool.false_eq_true, and_false, if_false] at this
      show _ = _
      rw [whp_snoc, List.append_assoc]
      exact this
     have KSw3 : Hid (Bk w.heap.size [.slice (some ⟨b, off, none⟩) s.wl.length s.capW, .bool s.tip, .slice s.aoH s.held.length s.capH, .slice s.aoT s.touched.length s.capT, .int .i64 s.used, .int .i64 s.heat, .int .i64 s.clock] w3) := by show Bk _ _ _; rw [← HAO.out]; exact HWBw3.out.k0
     obtain ⟨s0, s1, s2, s3, s4, s5, s6⟩ := (KSw3.out).c7
     obtain ⟨p0, p1, p2⟩ := (HWBw3.out.k1).c3
     obtain ⟨_, c0, c1, c2, c3, _⟩ := HYw3.out
     have hpl := fun Wx => pl_neqB y.1 p Wx
     simp only [hyp] at hpl
     have hgo : ∀ q, Wb w (w3.drewN q) s p acc (.slice aoV nV capV) := fun q => HWBw3.out.later (blw_drewN (brf) q)
     have hyo : ∀ q, WhAt (w3.drewN q) b (off + k * 4) y := fun q => HYw3.out.next (blw_drewN (brf) q)
     have HGO : Hid (_) := hgo
     have HYO : Hid (_) := hyo
     clear hgo hyo
     go_wp2_with fail
     go_big_quiet (fail)
     clear hpl s0 s1 s2 s3 s4 s5 s6 p0 p1 p2 c0 c1 c2 c3
     obtain ⟨wq, hwq⟩ : ∃ x, x = w3.drewN nq := ⟨_, rfl⟩
     have HWBwq : Hid (Wb w wq s p acc (.slice aoV nV capV)) := by show Wb _ _ _ _ _ _; rw [hwq]; exact HGO.out nq
     have HYwq : Hid (WhAt wq b (off + k * 4) y) := by show WhAt _ _ _ _; rw [hwq]; exact HYO.out nq
     rw [← hwq]
     clear hwq HGO HYO
     have KSwq : Hid (Bk w.heap.size [.slice (some ⟨b, off, none⟩) s.wl.length s.capW, .bool s.tip, .slice s.aoH s.held.length s.capH, .slice s.aoT s.touched.length s.capT, .int .i64 s.used, .int .i64 s.heat, .int .i64 s.clock] wq) := by show Bk _ _ _; rw [← HAO.out]; exact HWBwq.out.k0
     obtain ⟨s0, s1, s2, s3, s4, s5, s6⟩ := (KSwq.out).c7
     obtain ⟨p0, p1, p2⟩ := (HWBwq.out.k1).c3
     obtain ⟨_, c0, c1, c2, c3, _⟩ := HYwq.out
     go_wp2_with (first
      | (at_builtin; refine wpList_append_row goodW Tryz.underlying23 infoW rfl (by decide) (by decide) _ rfl (.tmp 46) (.tmp 52) rfl (w.heap.size + 3) (.slice aoV nV capV) acc rfl (HWBwq.out.own.alloc _) wq.heap.size y rfl (fun j u hu => (Bk.new (wq) _ 58 (wq).heap.size rfl).c j hu) hle (by have := HWBwq.out.k2.1; simp; omega) ?_; intro vwk wk howk hgwk hlocwk)
      | go_in)
     obtain ⟨acK, hacK⟩ : ∃ x, x = acc ++ [y] := ⟨_, rfl⟩
     have HACK : Hid (acK = acc ++ [y]) := hacK
     rw [← hacK] at howk
     obtain ⟨aoK, capK, hvK⟩ := howk.shape
     subst hvK
     have HWBwk : Hid (Wb w wk s p acK (.slice aoK acK.length capK)) := HWBwq.out.step howk hgwk
     have HMEMk : Hid (∀ x ∈ acK, x ∈ s.wl ∨ x = (p, (aoF, capF, f))) := fun x hx => by
      rw [HACK.out] at hx
      rcases List.mem_append.1 hx with hx | hx
      ·exact HMEM.out x hx
      ·rw [List.mem_singleton] at hx; subst hx; exact .inl HYM.out
     have HLENk : Hid (acK.length + dn false ≤ k + 1 + 1) := by show _ ≤ _; rw [HACK.out, List.length_append, List.length_singleton]; have := HLN.out; omega
     have HTKk : Hid (whp acK ++ wsR p f false (whp (s.wl.drop (k + 1))) = wset (whp s.wl) p f) := by
      show _ = _
      rw [HACK.out]
      exact HTQ.out
     clear hacK howk hgwk hlocwk s0 s1 s2 s3 s4 s5 s6 p0 p1 p2 c0 c1 c2 c3
     go_roundw
     case rel => exact ⟨k + 1, acK, false, by omega, by go_num, rfl, HTKk.out, HMEMk.out, HLENk.out, HWBwk.out⟩
     case measure => simp [intOf]; omega
  ·have hki : ¬ (k : Int) < (s.wl.length : Int) := by omega
   have HDN : Hid (s.wl.drop k = []) := List.drop_eq_nil_of_le (by omega)
   obtain ⟨s0, s1, s2, s3, s4, s5, s6⟩ := (HWB.out.k0).c7
   cases d with
   | true =>
    have HTE : Hid (whp acc = wset (whp s.wl) p f) := by
     have := HTK0.out
     rw [HDN.out] at this
     show _ = _
     simpa [whp, wsR] using this
    clear s0 s1 s2 s3 s4 s5 s6
    have lt0 := HWBwr.out.k0.1
    have lt2 := HWBwr.out.k2.1
    have ne1 : w.heap.size ≠ w.heap.size + 2 := by omega
    have ne2 : w.heap.size + 2 ≠ w.heap.size := by omega
    obtain ⟨s0, s1, s2, s3, s4, s5, s6⟩ := (HWBwr.out.k0).c7
    obtain ⟨sf0, sf1, sf2, sf3, sf4, sf5, sf6⟩ := (HWBwr.out.k0).f7
    obtain ⟨r0, r1, r2, r3, r4, r5, r6⟩ := (HWBwr.out.k2).c7
    obtain ⟨rf0, rf1, rf2, rf3, rf4, rf5, rf6⟩ := (HWBwr.out.k2).f7
    go_wp2
    have hch : But w.heap.size (w.heap.size + 2) wr ((((((((wr.setCell ⟨w.heap.size, 0, none⟩ (.slice aoV nV capV)).setCell ⟨w.heap.size + 2, 0, none⟩ (.slice aoV nV capV)).setCell ⟨w.heap.size + 2, 1, none⟩ (.bool s.tip)).setCell ⟨w.heap.size + 2, 2, none⟩ (.slice s.aoH s.held.length s.capH)).setCell ⟨w.heap.size + 2, 3, none⟩ (.slice s.aoT s.touched.length s.capT)).setCell ⟨w.heap.size + 2, 4, none⟩ (.int .i64 s.used)).setCell ⟨w.heap.size + 2, 5, none⟩ (.int .i64 s.heat)).setCell ⟨w.heap.size + 2, 6, none⟩ (.int .i64 s.clock)) :=
     ((((((((but_set _ _ wr 0 _).trans (but_set' _ _ _ 0 _)).trans (but_set' _ _ _ 1 _)).trans (but_set' _ _ _ 2 _)).trans (but_set' _ _ _ 3 _)).trans (but_set' _ _ _ 4 _)).trans (but_set' _ _ _ 5 _)).trans (but_set' _ _ _ 6 _))
    have hbF : Below w.heap.size w ((((((((wr.setCell ⟨w.heap.size, 0, none⟩ (.slice aoV nV capV)).setCell ⟨w.heap.size + 2, 0, none⟩ (.slice aoV nV capV)).setCell ⟨w.heap.size + 2, 1, none⟩ (.bool s.tip)).setCell ⟨w.heap.size + 2, 2, none⟩ (.slice s.aoH s.held.length s.capH)).setCell ⟨w.heap.size + 2, 3, none⟩ (.slice s.aoT s.touched.length s.capT)).setCell ⟨w.heap.size + 2, 4, none⟩ (.int .i64 s.used)).setCell ⟨w.heap.size + 2, 5, none⟩ (.int .i64 s.heat)).setCell ⟨w.heap.size + 2, 6, none⟩ (.int .i64 s.clock)) := (((((((HWBwr.out.below.setCell (Nat.le_refl _) _).setCell (by simp) _).setCell (by simp) _).setCell (by simp) _).setCell (by simp) _).setCell (by simp) _).setCell (by simp) _).setCell (by simp) _
    have hrow : ∀ a, aoV = some a → w.heap.size + 3 ≤ a.block := fun a ha => (HWBwr.out.own.hi a ha).1
    have hfl : ∀ x ∈ acc, Fz bs w x.2.1 x.2.2.2 ∧ (x.2.1 = none → x.2.2.1 = 0) := fun x hx => by
     rcases HMEM.out x hx with h | h
     ·exact ⟨⟨(whs_fl HS.out.wells h), HX.out.fl x h⟩, HN.out.fl x h⟩
     ·subst h; exact ⟨HF.out, HNF.out⟩
    refine bodyPost_ret (v := .agg #[.slice aoV nV capV, .bool s.tip, .slice s.aoH s.held.length s.capH, .slice s.aoT s.touched.length s.capT, .int .i64 s.used, .int .i64 s.heat, .int .i64 s.clock]) (by simp [results, Tryz.results50, go_sem, r0, r1, r2, r3, r4, r5, r6]) rfl ⟨⟨aoV, capV, acc, s.tip, s.aoH, s.capH, s.held, s.aoT, s.capT, s.touched, s.used, s.heat, s.clock⟩, ?_, ?_, ?_, ?_, ?_, ?_⟩
    ·simp only [smv, smc, HNV.out]
    ·unfold Sm.st
     simp only
     rw [HTE.out]
    ·exact ⟨whs_of ((own_rd goodW HWBwr.out.own).but (fun a ha => by have := hrow a ha; exact ⟨by omega, by omega⟩) hch) fun x hx => (hfl x hx).1.1.next hbF, (HS.out.next hbF).held, (HS.out.next hbF).touched⟩
    ·exact ⟨fun x hx => (hfl x hx).2, HN.out.held, HN.out.touched⟩
    ·exact ⟨.inr fun a ha hm => by have := hrow a ha; have := HBS.out _ hm; omega, fun x hx => (hfl x hx).1.2, HX.out.held, HX.out.touched⟩
    ·exact hbF
   | false =>
    have HTE0 : Hid (whp (acc ++ [(p, (aoF, capF, f))]) = wset (whp s.wl) p f) := by
     have := HTK0.out
     rw [HDN.out] at this
     show _ = _
     rw [whp_snoc]
     simpa [whp, wsR] using this
    obtain ⟨p0, p1, p2⟩ := (HWB.out.k1).c3
    go_wp2_with (first
     | (at_builtin; refine wpList_append_row goodW Tryz.underlying23 infoW rfl (by decide) (by decide) _ rfl (.tmp 56) (.tmp 60) rfl (w.heap.size + 3) (.slice aoV nV capV) acc rfl (HWBwr.out.own.alloc _) wr.heap.size (p, (aoF, capF, f)) rfl (fun j u hu => (Bk.new (wr) _ 58 (wr).heap.size rfl).c j hu) hle (by have := HWBwr.out.k2.1; simp; omega) ?_; intro vw4 w4 how4 hgw4 hlocw4; obtain ⟨acF, hacF0⟩ : ∃ x, x = acc ++ [(p, (aoF, capF, f))] := ⟨_, rfl⟩; have hacF : Hid (acF = acc ++ [(p, (aoF, capF, f))]) := hacF0; rw [← hacF0] at how4; clear hacF0; obtain ⟨aoN, capN, hvN⟩ := how4.shape; subst hvN; have HWBw4 : Hid (Wb w w4 s p acF (.slice aoN acF.length capN)) := HWBwr.out.step how4 hgw4; clear how4 hgw4 hlocw4 p0 p1 p2 s0 s1 s2 s3 s4 s5 s6; have lt0 := HWBw4.out.k0.1; have lt2 := HWBw4.out.k2.1; have ne1 : w.heap.size ≠ w.heap.size + 2 := (by omega); have ne2 : w.heap.size + 2 ≠ w.heap.size := (by omega); have s0 := HWBw4.out.k0.c 0 rfl; have sf0 := HWBw4.out.k0.f 0 rfl; have r0 := HWBw4.out.k2.c 0 rfl; have rf0 := HWBw4.out.k2.f 0 rfl; have s1 := HWBw4.out.k0.c 1 rfl; have sf1 := HWBw4.out.k0.f 1 rfl; have r1 := HWBw4.out.k2.c 1 rfl; have rf1 := HWBw4.out.k2.f 1 rfl; have s2 := HWBw4.out.k0.c 2 rfl; have sf2 := HWBw4.out.k0.f 2 rfl; have r2 := HWBw4.out.k2.c 2 rfl; have rf2 := HWBw4.out.k2.f 2 rfl; have s3 := HWBw4.out.k0.c 3 rfl; have sf3 := HWBw4.out.k0.f 3 rfl; have r3 := HWBw4.out.k2.c 3 rfl; have rf3 := HWBw4.out.k2.f 3 rfl; have s4 := HWBw4.out.k0.c 4 rfl; have sf4 := HWBw4.out.k0.f 4 rfl; have r4 := HWBw4.out.k2.c 4 rfl; have rf4 := HWBw4.out.k2.f 4 rfl; have s5 := HWBw4.out.k0.c 5 rfl; have sf5 := HWBw4.out.k0.f 5 rfl; have r5 := HWBw4.out.k2.c 5 rfl; have rf5 := HWBw4.out.k2.f 5 rfl; have s6 := HWBw4.out.k0.c 6 rfl; have sf6 := HWBw4.out.k0.f 6 rfl; have r6 := HWBw4.out.k2.c 6 rfl; have rf6 := HWBw4.out.k2.f 6 rfl)
     | go_in)
    have HMEMF : Hid (∀ x ∈ acF, x ∈ s.wl ∨ x = (p, (aoF, capF, f))) := fun x hx => by
     rw [hacF.out] at hx
     rcases List.mem_append.1 hx with hx | hx
     ·exact HMEM.out x hx
     ·rw [List.mem_singleton] at hx; exact .inr hx
    have HTE : Hid (whp acF = wset (whp s.wl) p f) := by show _ = _; rw [hacF.out]; exact HTE0.out
    have hch : But w.heap.size (w.heap.size + 2) w4 ((((((((w4.setCell ⟨w.heap.size, 0, none⟩ (.slice aoN acF.length capN)).setCell ⟨w.heap.size + 2, 0, none⟩ (.slice aoN acF.length capN)).setCell ⟨w.heap.size + 2, 1, none⟩ (.bool s.tip)).setCell ⟨w.heap.size + 2, 2, none⟩ (.slice s.aoH s.held.length s.capH)).setCell ⟨w.heap.size + 2, 3, none⟩ (.slice s.aoT s.touched.length s.capT)).setCell ⟨w.heap.size + 2, 4, none⟩ (.int .i64 s.used)).setCell ⟨w.heap.size + 2, 5, none⟩ (.int .i64 s.heat)).setCell ⟨w.heap.size + 2, 6, none⟩ (.int .i64 s.clock)) :=
     ((((((((but_set _ _ w4 0 _).trans (but_set' _ _ _ 0 _)).trans (but_set' _ _ _ 1 _)).trans (but_set' _ _ _ 2 _)).trans (but_set' _ _ _ 3 _)).trans (but_set' _ _ _ 4 _)).trans (but_set' _ _ _ 5 _)).trans (but_set' _ _ _ 6 _))
    have hbF : Below w.heap.size w ((((((((w4.setCell ⟨w.heap.size, 0, none⟩ (.slice aoN acF.length capN)).setCell ⟨w.heap.size + 2, 0, none⟩ (.slice aoN acF.length capN)).setCell ⟨w.heap.size + 2, 1, none⟩ (.bool s.tip)).setCell ⟨w.heap.size + 2, 2, none⟩ (.slice s.aoH s.held.length s.capH)).setCell ⟨w.heap.size + 2, 3, none⟩ (.slice s.aoT s.touched.length s.capT)).setCell ⟨w.heap.size + 2, 4, none⟩ (.int .i64 s.used)).setCell ⟨w.heap.size + 2, 5, none⟩ (.int .i64 s.heat)).setCell ⟨w.heap.size + 2, 6, none⟩ (.int .i64 s.clock)) := (((((((HWBw4.out.below.setCell (Nat.le_refl _) _).setCell (by simp) _).setCell (by simp) _).setCell (by simp) _).setCell (by simp) _).setCell (by simp) _).setCell (by simp) _).setCell (by simp) _
    have hrow : ∀ a, aoN = some a → w.heap.size + 3 ≤ a.block := fun a ha => (HWBw4.out.own.hi a ha).1
    have hfl : ∀ x ∈ acF, Fz bs w x.2.1 x.2.2.2 ∧ (x.2.1 = none → x.2.2.1 = 0) := fun x hx => by
     rcases HMEMF.out x hx with h | h
     ·exact ⟨⟨(whs_fl HS.out.wells h), HX.out.fl x h⟩, HN.out.fl x h⟩
     ·subst h; exact ⟨HF.out, HNF.out⟩
    refine bodyPost_ret (v := .agg #[.slice aoN acF.length capN, .bool s.tip, .slice s.aoH s.held.length s.capH, .slice s.aoT s.touched.length s.capT, .int .i64 s.used, .int .i64 s.heat, .int .i64 s.clock]) (by simp [results, Tryz.results50, go_sem, r0, r1, r2, r3, r4, r5, r6]) rfl ⟨⟨aoN, capN, acF, s.tip, s.aoH, s.capH, s.held, s.aoT, s.capT, s.touched, s.used, s.heat, s.clock⟩, ?_, ?_, ?_, ?_, ?_, ?_⟩
    ·simp only [smv, smc]
    ·unfold Sm.st
     simp only
     rw [HTE.out]
    ·exact ⟨whs_of ((own_rd goodW HWBw4.out.own).but (fun a ha => by have := hrow a ha; exact ⟨by omega, by omega⟩) hch) fun x hx => (hfl x hx).1.1.next hbF, (HS.out.next hbF).held, (HS.out.next hbF).touched⟩
    ·exact ⟨fun x hx => (hfl x hx).2, HN.out.held, HN.out.touched⟩
    ·exact ⟨.inr fun a ha hm => by have := hrow a ha; have := HBS.out _ hm; omega, fun x hx => (hfl x hx).1.2, HX.out.held, HX.out.touched⟩
    ·exact hbF
end Go.Proofs.YtfadmpnpgiceeaaGreat

/- workcellref: FluidDraw whatever is drawn, wellAdd walked. -/
namespace Go.Proofs.YtfadmpnpgiceeaaGreat
open Go.RowKit Go.Maps
set_option maxHeartbeats 1600000 in
theorem fluidDraw_all (ao : Option Addr) (cap : Nat) (ps : List F.Pc) (v : Int) (w : World) (h : F.Fl w ao ps) (hr : F.fref ps = 0) (hv : 0 ≤ v) :
  Calls Tryz.prog 45 #[.slice ao ps.length cap, .int .i64 v] w fun e w' => ∃ x y, e = .returned (.tuple #[x, y, .int .i64 (F.drawF v ps).2.2]) ∧ OwnR encC w' w.heap.size x (F.drawF v ps).1 ∧ OwnR encC w' w.heap.size y (F.drawF v ps).2.1 ∧ Below w.heap.size w w' := by
 by_cases hvt : F.tot ps < v
 ·have HQ : Hid (F.drawF v ps = ([], [], 10)) := by show _ = _; unfold F.drawF; rw [if_pos hr, if_neg (by omega), if_pos hvt]
  have HT := (show Hid _ from F.fluidTotal_any ao cap ps w h hr)
  have hv0 : ¬ v < 0 := by omega
  clear h
  go_enter Tryz.func45, Tryz.ntmps45
  go_wp2_with fail
  refine Calls.mono HT.out ?_
  rintro e w1 ⟨rfl, hw1⟩
  have hw2 := hw1.symm
  clear hw1
  subst hw2
  generalize F.tot ps = T at *
  go_wp2
  go_ret3
  exact ⟨.slice none 0 0, .slice none 0 0, by rw [HQ.out]; rfl, by rw [HQ.out]; exact OwnR.nil _ _ _, by rw [HQ.out]; exact OwnR.nil _ _ _, brf⟩
 ·have HQ : F.drawF v ps = ((F.drawS v ps).1, (F.drawS v ps).2.1, 0) := by unfold F.drawF; rw [if_pos hr, if_neg (by omega), if_neg hvt]
  rw [HQ]
  exact F.fluidDraw_ok ao cap ps v w h hr hv (by omega)
theorem tog_is {f g : List F.Pc} {m : Int} (hf : F.fref f = 0) (hg : F.fref g = 0) (hm : m ≤ 1000000000) : togR f g m = if m < F.tot f + F.tot g then ([], 9) else if 100 < (F.plainL (f ++ g)).length then ([], 7) else (F.plainL (f ++ g), 0) := by
 unfold togR
 simp only [F.totR, if_pos hf, if_pos hg]
 split
 ·rfl
 ·rename_i h
  unfold F.putR
  rw [if_pos hf, if_pos hg, if_neg (by omega)]
theorem putD_is {f g : List F.Pc} {m : Int} (hm : m ≤ 1000000000) (h : ¬ m < F.tot f + F.tot g) : F.putD f g = if 100 < (F.plainL (f ++ g)).length then ([], 7) else (F.plainL (f ++ g), 0) := by
 unfold F.putD
 rw [if_neg (by omega)]
theorem butL_put7 {bs : List Nat} {R : Nat} (hR : R ∈ bs) (w : World) (t : Sm) : ButL bs w (put7 w R t) :=
 ((((((butL_set w R 0 _ hR).trans (butL_set _ R 1 _ hR)).trans (butL_set _ R 2 _ hR)).trans (butL_set _ R 3 _ hR)).trans (butL_set _ R 4 _ hR)).trans (butL_set _ R 5 _ hR)).trans (butL_set _ R 6 _ hR)
theorem SmX.less {bs bs' : List Nat} {t : Sm} (h : SmX bs t) (hs : ∀ k ∈ bs', k ∈ bs) : SmX bs' t :=
 ⟨h.row.imp id fun h a ha hm => h a ha (hs _ hm), fun x hx => (h.fl x hx).imp id fun h a ha hm => h a ha (hs _ hm), h.held.imp id fun h a ha hm => h a ha (hs _ hm), h.touched.imp id fun h a ha hm => h a ha (hs _ hm)⟩
theorem Fz.next {bs : List Nat} {w w1 : World} {ao : Option Addr} {ps : List F.Pc} (h : Fz bs w ao ps) (hb : Below w.heap.size w w1) : Fz bs w1 ao ps := ⟨h.1.next hb, h.2⟩
set_option maxHeartbeats 6400000 in
set_option maxRecDepth 100000 in
theorem wellAdd_any (bs : List Nat) (ao : Option Addr) (cap : Nat) (l : List Sit) (s : Sm) (p : Plc) (aoG : Option Addr) (capG : Nat) (g : List F.Pc) (w : World) (hbs : ∀ k ∈ bs, k < w.heap.size) (hD : Dk w ao cap l) (hd : dchk l = 0) (hS : SmIn w s) (hN : SmN s) (hX : SmX bs s)
  (hG : F.Fl w aoG g) (hnG : aoG = none → capG = 0) (hwl : s.wl.length ≤ 4608) (hfl : ∀ x ∈ s.wl, x.2.2.2.length ≤ 1000000000) (hr : F.fref (wellF s.st.wells p) = 0) (hrg : F.fref g = 0) :
  Calls Tryz.prog 44 #[.slice ao l.length cap, smv s, plv p, .slice aoG g.length capG] w fun e w' => ∃ t : Sm, e = .returned (.tuple #[smv t, .int .i64 (togR (wellF s.st.wells p) g (wellM l p).1).2]) ∧ ((togR (wellF s.st.wells p) g (wellM l p).1).2 = 0 → t.st = { s.st with wells := wset s.st.wells p (togR (wellF s.st.wells p) g (wellM l p).1).1 }) ∧ SmIn w' t ∧ SmN t ∧ SmX bs t ∧ Below w.heap.size w w' := by
 have HBS : Hid (∀ k ∈ bs, k < w.heap.size) := hbs
 have HD : Hid (Dk w ao cap l) := hD
 have HDC : Hid (dchk l = 0) := hd
 have HS : Hid (SmIn w s) := hS
 have HN : Hid (SmN s) := hN
 have HX : Hid (SmX bs s) := hX
 have HG : Hid (F.Fl w aoG g) := hG
 have HNG : Hid (aoG = none → capG = 0) := hnG
 have HWL : Hid (s.wl.length ≤ 4608) := hwl
 have HFL : Hid (∀ x ∈ s.wl, x.2.2.2.length ≤ 1000000000) := hfl
 have HRG : Hid (F.fref g = 0) := hrg
 have hmw := wellM_in hd p
 have HTG := (show Hid _ from tog_is hr hrg hmw.2)
 have HPD := (show Hid _ from fun h => putD_is (f := wellF s.st.wells p) (g := g) hmw.2 h)
 have HSX : Hid (SmX ((w.heap.size + 2) :: bs) s) := hX.add hS (by omega)
 have hgi := F.fref_in hrg
 have hg0 := F.tot_nonneg hgi.2.1.nn
 have hg1 := hgi.2.2
 have hoi := F.fref_in hr
 have ho0 := F.tot_nonneg hoi.2.1.nn
 have ho1 := hoi.2.2
 have HRO : Hid (F.fref (wellF s.st.wells p) = 0) := hr
 obtain ⟨w0, hw0⟩ : ∃ w0, w0 = ((w.alloc (smo s)).alloc (pobj p)).alloc (.cells z7.toArray 27) := ⟨_, rfl⟩
 have b1 : Below w.heap.size w (w.alloc (smo s)) := (brf).alloc (Nat.le_refl _) _
 have b2 : Below (w.alloc (smo s)).heap.size (w.alloc (smo s)) ((w.alloc (smo s)).alloc (pobj p)) := (brf).alloc (Nat.le_refl _) _
 have b3 : Below ((w.alloc (smo s)).alloc (pobj p)).heap.size ((w.alloc (smo s)).alloc (pobj p)) w0 := by rw [hw0]; exact (brf).alloc (Nat.le_refl _) _
 have KSw0 : Hid (Bk w.heap.size (sml s) w0) := ((Bk.new w (sml s) 27 w.heap.size rfl).later b2).later b3
 have KPw0 : Hid (Bk (w.heap.size + 1) (pcl p) w0) := (Bk.new _ (pcl p) 31 (w.heap.size + 1) (by simp)).later b3
 have KRw0 : Hid (Bk (w.heap.size + 2) z7 w0) := by show Bk _ _ _; rw [hw0]; exact Bk.new _ z7 27 (w.heap.size + 2) (by simp)
 have HBw0 : Hid (Below w.heap.size w w0) := (b1.trans (b2.mono (by simp))).trans (b3.mono (by simp; omega))
 have HW0 : Hid (w0 = _) := hw0
 obtain ⟨old, hold⟩ : ∃ x, wellF s.st.wells p = x := ⟨_, rfl⟩
 have HOLD : Hid (wellF s.st.wells p = old) := hold
 rw [hold] at ho0 ho1 HTG HPD HRO
 obtain ⟨mo, hmo⟩ : ∃ x, (wellM l p).1 = x := ⟨_, rfl⟩
 rw [hmo] at hmw HTG HPD
 have HMO : Hid ((wellM l p).1 = mo) := hmo
 clear hbs hD hd hS hN hX hG hnG hwl hfl hr hrg hw0 b1 b2 b3 hgi hoi hold hmo
 go_enter Tryz.func44, Tryz.ntmps44
 go_wp2_with fail
 rw [← HW0.out]
 refine (wellCap_any ao cap l p w0 (HD.out.next HBw0.out) HDC.out).mono ?_
 rintro e w1 ⟨rfl, hb⟩
 have KSw1 : Hid (Bk w.heap.size (sml s) w1) := KSw0.out.later hb
 have KPw1 : Hid (Bk (w.heap.size + 1) (pcl p) w1) := KPw0.out.later hb
 have KRw1 : Hid (Bk (w.heap.size + 2) z7 w1) := KRw0.out.later hb
 have HBw1 : Hid (Below w.heap.size w w1) := HBw0.out.trans (hb.mono HBw0.out.size)
 rw [HMO.out]
 clear hb
 obtain ⟨s0, s1, s2, s3, s4, s5, s6⟩ := (KSw1.out).c7
 obtain ⟨p0, p1, p2⟩ := (KPw1.out).c3
 go_wp2_with fail
 clear s0 s1 s2 s3 s4 s5 s6 p0 p1 p2
 refine (wellOf_any s p w1 (HS.out.next HBw1.out) HN.out (by have := HWL.out; omega) HFL.out).mono ?_
 rintro e w2 ⟨v, rfl, ho, hb⟩
 rw [HOLD.out] at ho
 have KSw2 : Hid (Bk w.heap.size (sml s) w2) := KSw1.out.later hb
 have KPw2 : Hid (Bk (w.heap.size + 1) (pcl p) w2) := KPw1.out.later hb
 have KRw2 : Hid (Bk (w.heap.size + 2) z7 w2) := KRw1.out.later hb
 have HBw2 : Hid (Below w.heap.size w w2) := HBw1.out.trans (hb.mono HBw1.out.size)
 obtain ⟨ao2, cap2, hv2, hz2, hn2⟩ := fz_own (bs := []) ho (F.fine_size HRO.out) (fun k hk => by cases hk)
 subst hv2
 have HO2 : Hid (F.Fl w2 ao2 old) := hz2.1
 have HN2 : Hid (ao2 = none → cap2 = 0) := hn2
 clear ho hb hz2 hn2
 go_wp2_with fail
 refine (F.fluidTotal_any ao2 cap2 old w2 HO2.out HRO.out).mono ?_
 rintro e w3 ⟨rfl, hw3⟩
 have hw4 := hw3.symm
 clear hw3
 subst hw4
 go_wp2_with fail
 refine (F.fluidTotal_any aoG capG g w2 (HG.out.next HBw2.out) HRG.out).mono ?_
 rintro e w3 ⟨rfl, hw3⟩
 have hw4 := hw3.symm
 clear hw3
 subst hw4
 have HTO : Hid (∀ T, F.tot old = T → T = F.tot old) := fun T h => h.symm
 obtain ⟨T1, hT1⟩ : ∃ x, F.tot old = x := ⟨_, rfl⟩
 obtain ⟨T2, hT2⟩ : ∃ x, F.tot g = x := ⟨_, rfl⟩
 rw [hT1] at ho0 ho1
 rw [hT2] at hg0 hg1
 have HSUM : Hid (F.tot old + F.tot g = T1 + T2) := by show _ = _; rw [hT1, hT2]
 rw [hT1, hT2] at HTG HPD
 rw [hT1, hT2]
 clear hT1 hT2 HTO
 have hwp : IntKind.i64.wrap (T1 + T2) = T1 + T2 := wrap_in (by omega) (by omega)
 by_cases hfull : mo < T1 + T2
 ·have HTE : Hid ((togR (wellF s.st.wells p) g (wellM l p).1).2 = 9) := by show _ = _; rw [HOLD.out, HMO.out, HTG.out, if_pos hfull]
  clear HTG HPD
  have lt2 := KRw2.out.1
  have lt0 := KSw2.out.1
  obtain ⟨r0, r1, r2, r3, r4, r5, r6⟩ := (KRw2.out).c7
  obtain ⟨rf0, rf1, rf2, rf3, rf4, rf5, rf6⟩ := (KRw2.out).f7
  obtain ⟨s0, s1, s2, s3, s4, s5, s6⟩ := (KSw2.out).c7
  go_wp2
  have hbF : Below w.heap.size w (put7 w2 (w.heap.size + 2) s) := blw_put7 HBw2.out (by omega) s
  refine bodyPost_ret (v := .tuple #[smv s, .int .i64 9]) (by simp [results, Tryz.results44, go_sem, r0, r1, r2, r3, r4, r5, r6]) rfl ⟨s, ?_, ?_, ?_, ?_, ?_, ?_⟩
  ·rw [HTE.out]
  ·exact fun h => by rw [HTE.out] at h; exact absurd h (by decide)
  ·exact SmIn.butL (HS.out.next HBw2.out) HSX.out (butL_put7 (List.mem_cons_self ..) w2 s)
  ·exact HN.out
  ·exact SmX.less HSX.out fun k hk => List.mem_cons_of_mem _ hk
  ·exact hbF
 ·have HPE := (show Hid _ from HPD.out (by omega))
  have HTQ : Hid ((togR (wellF s.st.wells p) g (wellM l p).1) = if 100 < (F.plainL (old ++ g)).length then ([], 7) else (F.plainL (old ++ g), 0)) := by show _ = _; rw [HOLD.out, HMO.out, HTG.out, if_neg hfull]
  clear HTG HPD
  go_wp2_with fail
  refine (F.fluidPut_any ao2 aoG cap2 capG old g w2 HO2.out (HG.out.next HBw2.out) HN2.out HNG.out HRO.out HRG.out).mono ?_
  rintro e w3 ⟨v, rfl, ho, hb⟩
  rw [HPE.out] at ho ⊢
  have KSw3 : Hid (Bk w.heap.size (sml s) w3) := KSw2.out.later hb
  have KPw3 : Hid (Bk (w.heap.size + 1) (pcl p) w3) := KPw2.out.later hb
  have KRw3 : Hid (Bk (w.heap.size + 2) z7 w3) := KRw2.out.later hb
  have HBw3 : Hid (Below w.heap.size w w3) := HBw2.out.trans (hb.mono HBw2.out.size)
  have hhb := hb.size
  clear hb hwp
  by_cases hc : 100 < (F.plainL (old ++ g)).length
  ·have HTE : Hid ((togR (wellF s.st.wells p) g (wellM l p).1).2 = 7) := by show _ = _; rw [HTQ.out, if_pos hc]
   rw [if_pos hc] at ho ⊢
   obtain ⟨aoV, capV, hvV⟩ := OwnR.shape (c := encC) ho
   subst hvV
   clear ho hc
   simp only
   have lt2 := KRw3.out.1
   have lt0 := KSw3.out.1
   obtain ⟨r0, r1, r2, r3, r4, r5, r6⟩ := (KRw3.out).c7
   obtain ⟨rf0, rf1, rf2, rf3, rf4, rf5, rf6⟩ := (KRw3.out).f7
   obtain ⟨s0, s1, s2, s3, s4, s5, s6⟩ := (KSw3.out).c7
   go_wp2
   have hbF : Below w.heap.size w (put7 w3 (w.heap.size + 2) s) := blw_put7 HBw3.out (by omega) s
   refine bodyPost_ret (v := .tuple #[smv s, .int .i64 7]) (by simp [results, Tryz.results44, go_sem, r0, r1, r2, r3, r4, r5, r6]) rfl ⟨s, ?_, ?_, ?_, ?_, ?_, ?_⟩
   ·rw [HTE.out]
   ·exact fun h => by rw [HTE.out] at h; exact absurd h (by decide)
   ·exact SmIn.butL (HS.out.next HBw3.out) HSX.out (butL_put7 (List.mem_cons_self ..) w3 s)
   ·exact HN.out
   ·exact SmX.less HSX.out fun k hk => List.mem_cons_of_mem _ hk
   ·exact hbF
  ·have HTE : Hid ((togR (wellF s.st.wells p) g (wellM l p).1).2 = 0) := by show _ = _; rw [HTQ.out, if_neg hc]
   have HT1 : Hid ((togR (wellF s.st.wells p) g (wellM l p).1).1 = F.plainL (old ++ g)) := by show _ = _; rw [HTQ.out, if_neg hc]
   rw [if_neg hc] at ho ⊢
   have hsz : ∀ q ∈ F.plainL (old ++ g), q.1.size ≤ maxLen := F.fine_size (fref_plain HRO.out HRG.out (by omega) (by have h1 := HSUM.out; omega))
   obtain ⟨ao3, cap3, hv3, hz3, hn3⟩ := fz_own (bs := (w.heap.size + 2) :: bs) ho hsz (fun k hk => by
    rcases List.mem_cons.1 hk with rfl | hk
    ·exact KRw2.out.1
    ·have := HBS.out k hk; have := HBw2.out.size; omega)
   subst hv3
   have HZ3 : Hid (Fz ((w.heap.size + 2) :: bs) w3 ao3 (F.plainL (old ++ g))) := hz3
   have HN3 : Hid (ao3 = none → cap3 = 0) := hn3
   generalize F.plainL (old ++ g) = q at *
   clear ho hz3 hn3 hsz hc HTQ HPE
   simp only
   obtain ⟨s0, s1, s2, s3, s4, s5, s6⟩ := (KSw3.out).c7
   obtain ⟨p0, p1, p2⟩ := (KPw3.out).c3
   go_wp2_with fail
   clear s0 s1 s2 s3 s4 s5 s6 p0 p1 p2
   refine (wellSet_any ((w.heap.size + 2) :: bs) s p ao3 cap3 q w3 (fun k hk => by
    rcases List.mem_cons.1 hk with rfl | hk
    ·exact KRw3.out.1
    ·have := HBS.out k hk; have := HBw3.out.size; omega) (HS.out.next HBw3.out) HN.out HSX.out HZ3.out HN3.out HWL.out).mono ?_
   rintro e w4 ⟨t, rfl, hst, hin, hnn, hxx, hb⟩
   have KSw4 : Hid (Bk w.heap.size (sml s) w4) := KSw3.out.later hb
   have KPw4 : Hid (Bk (w.heap.size + 1) (pcl p) w4) := KPw3.out.later hb
   have KRw4 : Hid (Bk (w.heap.size + 2) z7 w4) := KRw3.out.later hb
   have HBw4 : Hid (Below w.heap.size w w4) := HBw3.out.trans (hb.mono HBw3.out.size)
   have HST : Hid (t.st = { s.st with wells := wset s.st.wells p q }) := hst
   have HIN : Hid (SmIn w4 t) := hin
   have HNN : Hid (SmN t) := hnn
   have HXX : Hid (SmX ((w.heap.size + 2) :: bs) t) := hxx
   clear hst hin hnn hxx hb
   have lt2 := KRw4.out.1
   have lt0 := KSw4.out.1
   obtain ⟨r0, r1, r2, r3, r4, r5, r6⟩ := (KRw4.out).c7
   obtain ⟨rf0, rf1, rf2, rf3, rf4, rf5, rf6⟩ := (KRw4.out).f7
   obtain ⟨s0, s1, s2, s3, s4, s5, s6⟩ := (KSw4.out).c7
   go_wp2
   have hbF : Below w.heap.size w (put7 w4 (w.heap.size + 2) t) := blw_put7 HBw4.out (by omega) t
   refine bodyPost_ret (v := .tuple #[smv t, .int .i64 0]) (by simp [results, Tryz.results44, go_sem, r0, r1, r2, r3, r4, r5, r6]) rfl ⟨t, ?_, ?_, ?_, ?_, ?_, ?_⟩
   ·rw [HTE.out]
   ·exact fun _ => by rw [HT1.out]; exact HST.out
   ·exact SmIn.butL HIN.out HXX.out (butL_put7 (List.mem_cons_self ..) w4 t)
   ·exact HNN.out
   ·exact SmX.less HXX.out fun k hk => List.mem_cons_of_mem _ hk
   ·exact hbF
end Go.Proofs.YtfadmpnpgiceeaaGreat

/- workcellref: TipsOf walked. -/
namespace Go.Proofs.YtfadmpnpgiceeaaGreat
open Go.RowKit Go.Maps
abbrev spP (n : Int) (p : Nat × Nat) : Plc := (n, (p.1 : Int), (p.2 : Int))
theorem rack_none {l : List Sit} {n : Int} (h : seatOf l n = none) : rackIn l n = [] := by unfold rackIn; rw [h]
theorem rack_other {l : List Sit} {n : Int} {z : Sit} (h : seatOf l n = some z) (hk : z.ware.kind ≠ 2) : rackIn l n = [] := by unfold rackIn; rw [h]; simp only; rw [if_neg hk]
theorem rack_is {l : List Sit} {n : Int} {z : Sit} (h : seatOf l n = some z) (hk : z.ware.kind = 2) : rackIn l n = (spots z.ware.rows.toNat (z.ware.cols.toNat * z.ware.rows.toNat)).map (spP n) := by
 unfold rackIn; rw [h]; simp only; rw [if_pos hk, Nat.mul_comm]
theorem map_next {R c r : Nat} (n : Int) (h : r < R) : (spots R (c * R + (r + 1))).map (spP n) = (spots R (c * R + r)).map (spP n) ++ [(n, (r : Int), (c : Int))] := by
 rw [show c * R + (r + 1) = c * R + r + 1 by omega, spots_next h, List.map_append]
 rfl
set_option maxHeartbeats 6400000 in
set_option maxRecDepth 100000 in
theorem tipsOf_any (ao : Option Addr) (cap : Nat) (l : List Sit) (w : World) (hD : Dk w ao cap l) (hd : dchk l = 0) :
  Calls Tryz.prog 38 #[.slice ao l.length cap] w fun e w' => ∃ v, e = .returned v ∧ OwnR encP w' w.heap.size v (tipsL l) ∧ Below w.heap.size w w' := by
 have HD : Hid (Dk w ao cap l) := hD
 have HDC : Hid (dchk l = 0) := hd
 have hl12 := dk_len hd
 clear hD hd
 go_enter Tryz.func38, Tryz.ntmps38
 go_wp2_with fail
 go_loopw [3, 4] (fun v i wr => ∃ n : Nat, n ≤ 12 ∧ i = .int .i64 ((n : Int) + 1) ∧ OwnR encP wr w.heap.size v (tipsTo l n) ∧ Below w.heap.size w wr) (fun _ i _ => 13 - (intOf i).toNat)
 case atStart => exact ⟨0, by omega, rfl, OwnR.nil _ _ _, brf⟩
 case round =>
  obtain ⟨n, hn, rfl, ho, hb⟩ := hrel
  have HO : Hid (OwnR encP wr w.heap.size _ (tipsTo l n)) := ho
  have HB : Hid (Below w.heap.size w wr) := hb
  obtain ⟨aoV, capV, rfl⟩ := ho.shape
  clear ho hb
  by_cases hlt : n < 12
  rotate_left
  ·obtain rfl : n = 12 := by omega
   clear hlt
   go_wp2
   go_ret
   exact ⟨_, rfl, HO.out, HB.out⟩
  ·have hni : ((n : Int) + 1) ≤ 12 := by omega
   have HTS : Hid (tipsTo l (n + 1) = tipsTo l n ++ rackIn l ((n : Int) + 1)) := tipsTo_succ l n
   go_wp2_with fail
   refine (seatAt_any ao cap l ((n : Int) + 1) wr (HD.out.next HB.out) (by omega)).mono ?_
   rintro e w1 ⟨rfl, hw1⟩
   have hw2 := hw1.symm
   clear hw1
   subst hw2
   rcases find_cases l ((n : Int) + 1) with ⟨e1, e2⟩ | ⟨k, h0, e1, e2, e3⟩
   ·rw [seatAt_none e2]
    have HE : Hid (tipsTo l (n + 1) = tipsTo l n) := by show _ = _; rw [HTS.out, rack_none e1, List.append_nil]
    clear e1 e2
    go_wp2
    go_roundw
    case rel => exact ⟨n + 1, by omega, by go_num, by rw [HE.out]; exact HO.out, HB.out⟩
    case measure => simp [intOf]; omega
   ·rw [seatAt_hit h0 e3 (by simp [e2])]
    have hq := ((dchk_in HDC.out).2 k h0).2.1
    have hr := inR_iff.1 (chk_in hq).2.2.1
    have hc := inR_iff.1 (chk_in hq).2.2.2.1
    obtain ⟨b, off, hao, hst⟩ := HD.out.sts.at h0
    generalize l[k]'h0 = z at *
    subst hao
    have HST : Hid (StAt w b (off + k * 14) z) := hst
    have hki : (k : Int) < (l.length : Int) := by omega
    have g2 := (HST.out.next HB.out).c2
    clear e2 e3 hq hst
    by_cases hk : z.ware.kind = 2
    rotate_left
    ·have HE : Hid (tipsTo l (n + 1) = tipsTo l n) := by show _ = _; rw [HTS.out, rack_other e1 hk, List.append_nil]
     have hk2 : (z.ware.kind != 2) = true := by simp [hk]
     clear e1 hk
     go_wp2
     go_roundw
     case rel => exact ⟨n + 1, by omega, by go_num, by rw [HE.out]; exact HO.out, HB.out⟩
     case measure => simp [intOf]; omega
    ·have HE : Hid (tipsTo l (n + 1) = tipsTo l n ++ (spots z.ware.rows.toNat (z.ware.cols.toNat * z.ware.rows.toNat)).map (spP ((n : Int) + 1))) := by show _ = _; rw [HTS.out, rack_is e1 hk]
     have hk2 : (z.ware.kind != 2) = false := by simp [hk]
     clear e1 hk
     obtain ⟨R, hR⟩ : ∃ R : Nat, z.ware.rows = R := ⟨z.ware.rows.toNat, by omega⟩
     obtain ⟨C, hC⟩ : ∃ C : Nat, z.ware.cols = C := ⟨z.ware.cols.toNat, by omega⟩
     have HRr : Hid (z.ware.rows = R) := hR
     have HCc : Hid (z.ware.cols = C) := hC
     rw [hR, hC] at HE
     rw [hR] at hr
     rw [hC] at hc
     simp only [Int.toNat_natCast] at HE
     have hlen0 := tipsTo_length HDC.out n
     clear hR hC
     go_wp2_with fail
     clear g2 hk2
     go_loopw [3, 6] (fun v i wr => ∃ c : Nat, c ≤ C ∧ i = .int .i64 c ∧ OwnR encP wr w.heap.size v (tipsTo l n ++ (spots R (c * R)).map (spP ((n : Int) + 1))) ∧ Below w.heap.size w wr) (fun _ i _ => C - (intOf i).toNat)
     case atStart => exact ⟨0, Nat.zero_le _, rfl, by simpa [spots] using HO.out, HB.out⟩
     case round =>
      obtain ⟨c, hcc, rfl, ho, hb⟩ := hrel
      have HO2 : Hid (OwnR encP _ w.heap.size _ (tipsTo l n ++ (spots R (c * R)).map (spP ((n : Int) + 1)))) := ho
      have HB2 : Hid (Below w.heap.size w _) := hb
      obtain ⟨aoV2, capV2, rfl⟩ := ho.shape
      have g4 := (HST.out.next hb).c4
      rw [HCc.out] at g4
      clear ho hb
      by_cases hlc : c < C
      rotate_left
      ·obtain rfl : c = C := by omega
       clear hlc
       go_wp2
       go_roundw
       case rel => exact ⟨n + 1, by omega, by go_num, by rw [HE.out]; exact HO2.out, HB2.out⟩
       case measure => simp [intOf]; omega
      ·have hci : (c : Int) < (C : Int) := by omega
       go_wp2_with fail
       clear g4
       go_loopw [3, 7] (fun v i wr => ∃ r : Nat, r ≤ R ∧ i = .int .i64 r ∧ OwnR encP wr w.heap.size v (tipsTo l n ++ (spots R (c * R + r)).map (spP ((n : Int) + 1))) ∧ Below w.heap.size w wr) (fun _ i _ => R - (intOf i).toNat)
       case atStart => exact ⟨0, Nat.zero_le _, rfl, HO2.out, HB2.out⟩
       case round =>
        obtain ⟨wQ, hwQ⟩ : ∃ x, x = wr := ⟨_, rfl⟩
        subst hwQ
        obtain ⟨r, hrr, rfl, ho, hb⟩ := hrel
        have HO3 : Hid (OwnR encP wQ w.heap.size _ (tipsTo l n ++ (spots R (c * R + r)).map (spP ((n : Int) + 1)))) := ho
        have HB3 : Hid (Below w.heap.size w wQ) := hb
        obtain ⟨aoV3, capV3, hV3⟩ := ho.shape
        have hls : (tipsTo l n ++ (spots R (c * R + r)).map (spP ((n : Int) + 1))).length ≤ 1000000 := by
         rw [List.length_append, List.length_map, spots_length]
         have : c * R ≤ 24 * 16 := Nat.mul_le_mul (by omega) (by omega)
         omega
        obtain ⟨nV, hnV⟩ : ∃ nV, (tipsTo l n ++ (spots R (c * R + r)).map (spP ((n : Int) + 1))).length = nV := ⟨_, rfl⟩
        rw [hnV] at hV3
        subst hV3
        have g3 := (HST.out.next hb).c3
        rw [HRr.out] at g3
        have hsz := hb.size
        clear ho hb
        by_cases hlr : r < R
        rotate_left
        ·obtain rfl : r = R := by omega
         have HM : Hid (c * r + r = (c + 1) * r) := by show _ = _; rw [Nat.succ_mul]
         clear hlr
         go_wp2
         go_roundw
         case rel => exact ⟨c + 1, by omega, by go_num, by rw [← HM.out]; exact HO3.out, HB3.out⟩
         case measure => simp [intOf]; omega
        ·have hri : (r : Int) < (R : Int) := by omega
         have HMN : Hid (_) := map_next (R := R) (c := c) ((n : Int) + 1) hlr
         clear hnV
         go_wp2_with (at_builtin; refine wpList_append_row goodP Tryz.underlying54 infoP rfl (by decide) (by decide) _ rfl (.tmp 46) (.tmp 52) rfl w.heap.size (.slice aoV3 nV capV3) (tipsTo l n ++ (spots R (c * R + r)).map (spP ((n : Int) + 1))) rfl (HO3.out.alloc _) wQ.heap.size ((n : Int) + 1, (r : Int), (c : Int)) rfl (fun j u hu => (Bk.new wQ _ 31 wQ.heap.size rfl).c j hu) (by omega) (by simp; omega) ?_; intro v' w5 ho hg' hloc)
         have HO5 : Hid (OwnR encP w5 w.heap.size v' (tipsTo l n ++ (spots R (c * R + (r + 1))).map (spP ((n : Int) + 1)))) := by show OwnR _ _ _ _ _; rw [HMN.out, ← List.append_assoc]; exact ho
         have HB5 : Hid (Below w.heap.size w w5) := below_row (HB3.out.alloc hsz _) (HO3.out.alloc _) hg' (by simp; omega)
         clear ho hg' hloc
         go_roundw
         case rel => exact ⟨r + 1, by omega, by go_num, HO5.out, HB5.out⟩
         case measure => simp [intOf]; omega
end Go.Proofs.YtfadmpnpgiceeaaGreat

/- workcellref: WareMay walked. -/
namespace Go.Proofs.YtfadmpnpgiceeaaGreat.W
open Go.RowKit
open Go.Proofs.YtfadmpnpgiceeaaGreat Go.Proofs.YtfadmpnpgiceeaaGreat.F
set_option maxHeartbeats 400000 in
theorem within_any (n low high : Int) (w : World) :
  Calls Tryz.prog 37 #[.int .i64 n, .int .i64 low, .int .i64 high] w fun e w' => e = .returned (.bool (decide (low ≤ n) && decide (n ≤ high))) ∧ w' = w := by
 by_cases h1 : low ≤ n
 ·by_cases h2 : n ≤ high
  ·go_enter Tryz.func37, Tryz.ntmps37
   go_wp2
   go_ret
   exact ⟨by simp [h1, h2], rfl⟩
  ·go_enter Tryz.func37, Tryz.ntmps37
   go_wp2
   go_ret
   exact ⟨by simp [h2], rfl⟩
 ·go_enter Tryz.func37, Tryz.ntmps37
  go_wp2
  go_ret
  exact ⟨by simp; intro _; omega, rfl⟩
theorem within_yes (n low high : Int) (w : World) (h1 : low ≤ n) (h2 : n ≤ high) :
  Calls Tryz.prog 37 #[.int .i64 n, .int .i64 low, .int .i64 high] w fun e w' => e = .returned (.bool true) ∧ w' = w :=
 (within_any n low high w).mono fun e w' ⟨he, hw⟩ => ⟨by rw [he]; simp [h1, h2], hw⟩
theorem within_no (n low high : Int) (w : World) (h : n < low ∨ high < n) :
  Calls Tryz.prog 37 #[.int .i64 n, .int .i64 low, .int .i64 high] w fun e w' => e = .returned (.bool false) ∧ w' = w :=
 (within_any n low high w).mono fun e w' ⟨he, hw⟩ => ⟨by rw [he]; simp; omega, hw⟩
set_option maxHeartbeats 400000 in
theorem digit_yes (c : Int) (w : World) (h1 : 48 ≤ c) (h2 : c ≤ 57) : Calls Tryz.prog 75 #[.int .u8 c] w fun e w' => e = .returned (.bool true) ∧ w' = w := by
 go_enter Tryz.func75, Tryz.ntmps75
 go_wp2
 go_ret
 exact ⟨rfl, rfl⟩
set_option maxHeartbeats 400000 in
theorem digit_no (c : Int) (w : World) (h : c < 48 ∨ 57 < c) : Calls Tryz.prog 75 #[.int .u8 c] w fun e w' => e = .returned (.bool false) ∧ w' = w := by
 by_cases h1 : 48 ≤ c
 ·have h2 : ¬ c ≤ 57 := by omega
  go_enter Tryz.func75, Tryz.ntmps75
  go_wp2
  go_ret
  exact ⟨rfl, rfl⟩
 ·go_enter Tryz.func75, Tryz.ntmps75
  go_wp2
  go_ret
  exact ⟨rfl, rfl⟩
set_option maxHeartbeats 3200000 in
theorem labelMay_any (s : ByteArray) (w : World) (hs : s.size ≤ maxLen) :
  Calls Tryz.prog 35 #[.string s] w fun e w' => e = .returned (.bool (lab s)) ∧ w' = w := by
 unfold maxLen at hs
 by_cases h1 : s.size < 1 ∨ 16 < s.size
 ·have HB : Hid (lab s = false) := h1.elim lab_short lab_long
  go_enter Tryz.func35, Tryz.ntmps35
  go_wp2_with (go_at_call 37; refine (within_no _ _ _ _ (by omega)).mono ?_; rintro e w' ⟨rfl, rfl⟩)
  go_ret
  exact ⟨ret_bool HB.out.symm, rfl⟩
 have h1' : 1 ≤ s.size := by omega
 have h2' : s.size ≤ 16 := by omega
 clear h1
 go_enter Tryz.func35, Tryz.ntmps35
 go_wp2_with (go_at_call 37; refine (within_yes _ _ _ _ (by omega) (by omega)).mono ?_; rintro e w' ⟨rfl, rfl⟩)
 go_loop [3] (fun i => ∃ pos : Nat, pos ≤ s.size ∧ i = .int .i64 pos ∧ ∀ k (h : k < s.size), k < pos → okAt (s[k]'h) k = true) (fun i => s.size - (intOf i).toNat)
 case atStart => exact ⟨0, Nat.zero_le _, rfl, fun k _ h => absurd h (Nat.not_lt_zero _)⟩
 case round =>
  obtain ⟨pos, hpos, rfl, hgood⟩ := hrel
  have HG : Hid (∀ k (h : k < s.size), k < pos → okAt (s[k]'h) k = true) := hgood
  clear hgood
  by_cases hp : pos < s.size
  ·obtain ⟨c, hc⟩ : ∃ c : UInt8, s[pos]'hp = c := ⟨_, rfl⟩
   have HC : Hid (c = s[pos]'hp) := hc.symm
   by_cases hl : 97 ≤ c.toNat ∧ c.toNat ≤ 122
   ·obtain ⟨l1', l2'⟩ := hl
    have l1 : decide ((97 : Int) ≤ (c.toNat : Int)) = true := by simp; omega
    have l2 : decide ((c.toNat : Int) ≤ 122) = true := by simp; omega
    go_wp2
    go_round
    case rel => exact ⟨pos + 1, by omega, by go_num, good_succ hp HG.out (by rw [← HC.out]; exact okAt_letter l1' l2')⟩
    case measure => simp [intOf]; omega
   ·by_cases h0 : pos = 0
    ·have HB : Hid (lab s = false) := lab_bad hp (by rw [← HC.out]; exact okAt_zero h0 (by omega))
     have h00 : ((pos : Int) == 0) = true := by simp; omega
     clear h0
     rcases (show c.toNat < 97 ∨ 122 < c.toNat by omega) with d | d
     ·have l1 : decide ((97 : Int) ≤ (c.toNat : Int)) = false := by simp; omega
      go_wp2
      go_ret
      exact ⟨ret_bool HB.out.symm, rfl⟩
     ·have l1 : decide ((97 : Int) ≤ (c.toNat : Int)) = true := by simp; omega
      have l2 : decide ((c.toNat : Int) ≤ 122) = false := by simp; omega
      go_wp2
      go_ret
      exact ⟨ret_bool HB.out.symm, rfl⟩
    ·have h00 : ((pos : Int) == 0) = false := by simp; omega
     have h01 : 0 < pos := by omega
     clear h0
     rcases (show c.toNat < 48 ∨ (48 ≤ c.toNat ∧ c.toNat ≤ 57) ∨ (57 < c.toNat ∧ c.toNat < 97) ∨ 122 < c.toNat by omega) with d | ⟨d0, d⟩ | ⟨d0, d⟩ | d
     ·have l1 : decide ((97 : Int) ≤ (c.toNat : Int)) = false := by simp; omega
      go_wp2_with (go_at_call 75; refine (digit_no _ _ (by omega)).mono ?_; rintro e w' ⟨rfl, rfl⟩)
      go_ret
      exact ⟨ret_bool (lab_bad hp (by rw [← HC.out]; exact okAt_no (by omega) (by omega))).symm, rfl⟩
     ·have l1 : decide ((97 : Int) ≤ (c.toNat : Int)) = false := by simp; omega
      go_wp2_with (go_at_call 75; refine (digit_yes _ _ (by omega) (by omega)).mono ?_; rintro e w' ⟨rfl, rfl⟩)
      go_round
      case rel => exact ⟨pos + 1, by omega, by go_num, good_succ hp HG.out (by rw [← HC.out]; exact okAt_digit h01 d0 d)⟩
      case measure => simp [intOf]; omega
     ·have l1 : decide ((97 : Int) ≤ (c.toNat : Int)) = false := by simp; omega
      go_wp2_with (go_at_call 75; refine (digit_no _ _ (by omega)).mono ?_; rintro e w' ⟨rfl, rfl⟩)
      go_ret
      exact ⟨ret_bool (lab_bad hp (by rw [← HC.out]; exact okAt_no (by omega) (by omega))).symm, rfl⟩
     ·have l1 : decide ((97 : Int) ≤ (c.toNat : Int)) = true := by simp; omega
      have l2 : decide ((c.toNat : Int) ≤ 122) = false := by simp; omega
      go_wp2_with (go_at_call 75; refine (digit_no _ _ (by omega)).mono ?_; rintro e w' ⟨rfl, rfl⟩)
      go_ret
      exact ⟨ret_bool (lab_bad hp (by rw [← HC.out]; exact okAt_no (by omega) (by omega))).symm, rfl⟩
  ·go_wp2
   go_ret
   exact ⟨ret_bool (lab_good (by omega) (by omega) (fun k h => HG.out k h (by omega))).symm, rfl⟩
theorem within_v (n lo hi : Int) (v : Bool) (hv : inR lo hi n = v) (w : World) :
  Calls Tryz.prog 37 #[.int .i64 n, .int .i64 lo, .int .i64 hi] w fun e w' => e = .returned (.bool v) ∧ w' = w := by
 subst hv; exact within_any n lo hi w
def sevens (a : Wr) : List Int := [a.x, a.y, a.pitch, a.deep, a.wid, a.len, a.hei]
def good7 (k : Nat) (v : Int) : Prop := (0 ≤ v ∧ v ≤ 200000) ∧ (4 ≤ k → v ≠ 0)
def capOk (a : Wr) : Prop := (a.kind = 3 → a.cap = 0) ∧ (a.kind ≠ 3 → 1 ≤ a.cap ∧ a.cap ≤ 1000000000)
theorem many_iff {r c : Int} (hr : 1 ≤ r) (hc : 1 ≤ c) : 1 < r * c ↔ (1 < r ∨ 1 < c) := by
 constructor
 ·intro h
  by_cases h1 : 1 < r
  ·exact .inl h1
  ·by_cases h2 : 1 < c
   ·exact .inr h2
   ·have e1 : r = 1 := by omega
    have e2 : c = 1 := by omega
    subst e1; subst e2; omega
 ·rintro (h | h)
  ·have k1 : r * 1 ≤ r * c := Int.mul_le_mul_of_nonneg_left hc (by omega)
   omega
  ·have k1 : 1 * c ≤ r * c := Int.mul_le_mul_of_nonneg_right hr (by omega)
   omega
theorem range_iff {a : Wr} (hr : 1 ≤ a.rows) (hc : 1 ≤ a.cols) : rangeOk a = true ↔
  (∀ k, k < 7 → good7 k ((sevens a).getD k 0)) ∧ (a.pitch = 0 → ¬ (1 < a.rows ∨ 1 < a.cols)) ∧ capOk a := by
 have hlo : loP a = if 1 < a.rows ∨ 1 < a.cols then 1 else 0 := by
  unfold loP
  by_cases h : 1 < a.rows ∨ 1 < a.cols
  ·rw [if_pos h, if_pos ((many_iff hr hc).2 h)]
  ·rw [if_neg h, if_neg fun h2 => h ((many_iff hr hc).1 h2)]
 have h7 : (∀ k, k < 7 → good7 k ((sevens a).getD k 0)) ↔ ((0 ≤ a.x ∧ a.x ≤ 200000) ∧ (0 ≤ a.y ∧ a.y ≤ 200000) ∧ (0 ≤ a.pitch ∧ a.pitch ≤ 200000) ∧ (0 ≤ a.deep ∧ a.deep ≤ 200000) ∧ (1 ≤ a.wid ∧ a.wid ≤ 200000) ∧ (1 ≤ a.len ∧ a.len ≤ 200000) ∧ 1 ≤ a.hei ∧ a.hei ≤ 200000) := by
  constructor
  ·intro h
   have h0 := h 0 (by decide); have h1 := h 1 (by decide); have h2 := h 2 (by decide); have h3 := h 3 (by decide); have h4 := h 4 (by decide); have h5 := h 5 (by decide); have h6 := h 6 (by decide)
   simp only [good7, sevens, List.getD_cons_zero, List.getD_cons_succ] at h0 h1 h2 h3 h4 h5 h6
   have n4 := h4.2 (by decide); have n5 := h5.2 (by decide); have n6 := h6.2 (by decide)
   omega
  ·intro h k hk
   rcases (show k = 0 ∨ k = 1 ∨ k = 2 ∨ k = 3 ∨ k = 4 ∨ k = 5 ∨ k = 6 by omega) with e | e | e | e | e | e | e
   all_goals (subst e; simp only [good7, sevens, List.getD_cons_zero, List.getD_cons_succ]; omega)
 rw [h7]
 simp only [rangeOk, List.all_cons, List.all_nil, Bool.and_true, Bool.and_eq_true, inR_iff, capOk]
 rw [hlo]
 unfold loC hiC
 by_cases hk : a.kind = 3
 ·rw [if_pos hk, if_pos hk]
  by_cases hm : 1 < a.rows ∨ 1 < a.cols
  ·rw [if_pos hm]; omega
  ·rw [if_neg hm]; omega
 ·rw [if_neg hk, if_neg hk]
  by_cases hm : 1 < a.rows ∨ 1 < a.cols
  ·rw [if_pos hm]; omega
  ·rw [if_neg hm]; omega
theorem room_iff {a : Wr} (h : InR a) : roomOk a = true ↔
  (∀ r c : Nat, (r : Int) < a.rows → (c : Int) < a.cols → a.x + c * a.pitch ≤ a.wid ∧ a.y + r * a.pitch ≤ a.len) ∧ a.deep ≤ a.hei := by
 obtain ⟨r1, r2, c1, c2, x0, x1, y0, y1, p0, p1, w0, w1, l0, l1, h0, h1, d0, d1⟩ := h
 simp only [roomOk, Bool.and_eq_true, decide_eq_true_eq]
 constructor
 ·rintro ⟨hx, hy, hd⟩
  refine ⟨fun r c hr hc => ⟨?_, ?_⟩, hd⟩
  ·have k1 : (c : Int) * a.pitch ≤ (a.cols - 1) * a.pitch := Int.mul_le_mul_of_nonneg_right (by omega) p0
   omega
  ·have k1 : (r : Int) * a.pitch ≤ (a.rows - 1) * a.pitch := Int.mul_le_mul_of_nonneg_right (by omega) p0
   omega
 ·rintro ⟨hall, hd⟩
  have e1 : ((a.cols - 1).toNat : Int) = a.cols - 1 := Int.toNat_of_nonneg (by omega)
  have e2 : ((a.rows - 1).toNat : Int) = a.rows - 1 := Int.toNat_of_nonneg (by omega)
  have h := hall (a.rows - 1).toNat (a.cols - 1).toNat (by omega) (by omega)
  rw [e1, e2] at h
  exact ⟨h.1, h.2, hd⟩
set_option maxHeartbeats 3200000 in
theorem may_label (a : Wr) (w : World) (hs : a.name.size ≤ maxLen) (hl : lab a.name = false) :
  Calls Tryz.prog 102 #[wv a] w fun e w' => e = .returned (.int .i64 (chk a)) ∧ Below w.heap.size w w' := by
 have HC : Hid (chk a = 3) := by unfold chk; rw [hl]; rfl
 rw [HC.out]
 go_enter Tryz.func102, Tryz.ntmps102
 go_wp2_with (go_at_call 35; refine (labelMay_any a.name _ hs).mono ?_; rintro e w2 ⟨rfl, hw2⟩; subst hw2; rw [hl])
 go_ret
 exact ⟨rfl, (brf).alloc (Nat.le_refl _) _⟩
set_option maxHeartbeats 3200000 in
theorem may_kind (a : Wr) (w : World) (hs : a.name.size ≤ maxLen) (hl : lab a.name = true) (hk : inR 1 3 a.kind = false) :
  Calls Tryz.prog 102 #[wv a] w fun e w' => e = .returned (.int .i64 (chk a)) ∧ Below w.heap.size w w' := by
 have HC : Hid (chk a = 6) := by unfold chk; rw [hl, hk]; rfl
 rw [HC.out]
 go_enter Tryz.func102, Tryz.ntmps102
 go_wp2_with fail
 refine (labelMay_any a.name _ hs).mono ?_
 rintro e w2 ⟨rfl, hw2⟩
 subst hw2
 rw [hl]
 go_wp2_with fail
 refine (within_v a.kind 1 3 false hk _).mono ?_
 rintro e w2 ⟨rfl, hw2⟩
 subst hw2
 go_wp2
 go_ret
 exact ⟨rfl, (brf).alloc (Nat.le_refl _) _⟩
set_option maxHeartbeats 3200000 in
theorem may_rows (a : Wr) (w : World) (hs : a.name.size ≤ maxLen) (hl : lab a.name = true) (hk : inR 1 3 a.kind = true) (hr : inR 1 16 a.rows = false) :
  Calls Tryz.prog 102 #[wv a] w fun e w' => e = .returned (.int .i64 (chk a)) ∧ Below w.heap.size w w' := by
 have HC : Hid (chk a = 7) := by unfold chk; rw [hl, hk, hr]; rfl
 rw [HC.out]
 go_enter Tryz.func102, Tryz.ntmps102
 go_wp2_with fail
 refine (labelMay_any a.name _ hs).mono ?_
 rintro e w2 ⟨rfl, hw2⟩
 subst hw2
 rw [hl]
 go_wp2_with fail
 refine (within_v a.kind 1 3 true hk _).mono ?_
 rintro e w2 ⟨rfl, hw2⟩
 subst hw2
 go_wp2_with fail
 refine (within_v a.rows 1 16 false hr _).mono ?_
 rintro e w2 ⟨rfl, hw2⟩
 subst hw2
 go_wp2
 go_ret
 exact ⟨rfl, (brf).alloc (Nat.le_refl _) _⟩
set_option maxHeartbeats 3200000 in
theorem may_cols (a : Wr) (w : World) (hs : a.name.size ≤ maxLen) (hl : lab a.name = true) (hk : inR 1 3 a.kind = true) (hr : inR 1 16 a.rows = true) (hc : inR 1 24 a.cols = false) :
  Calls Tryz.prog 102 #[wv a] w fun e w' => e = .returned (.int .i64 (chk a)) ∧ Below w.heap.size w w' := by
 have HC : Hid (chk a = 7) := by unfold chk; rw [hl, hk, hr, hc]; rfl
 rw [HC.out]
 go_enter Tryz.func102, Tryz.ntmps102
 go_wp2_with fail
 refine (labelMay_any a.name _ hs).mono ?_
 rintro e w2 ⟨rfl, hw2⟩
 subst hw2
 rw [hl]
 go_wp2_with fail
 refine (within_v a.kind 1 3 true hk _).mono ?_
 rintro e w2 ⟨rfl, hw2⟩
 subst hw2
 go_wp2_with fail
 refine (within_v a.rows 1 16 true hr _).mono ?_
 rintro e w2 ⟨rfl, hw2⟩
 subst hw2
 go_wp2_with fail
 refine (within_v a.cols 1 24 false hc _).mono ?_
 rintro e w2 ⟨rfl, hw2⟩
 subst hw2
 go_wp2
 go_ret
 exact ⟨rfl, (brf).alloc (Nat.le_refl _) _⟩
end Go.Proofs.YtfadmpnpgiceeaaGreat.W
