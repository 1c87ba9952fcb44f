import Derived.Test.YtcajifelbldjnaaGreatDoorIh
import Derived.WideKeyEntry
import Derived.Test.YtcajifelbldjnaaGreatDoorIg
import Derived.Test.YtcajifelbldjnaaGreatDoorIf
set_option maxRecDepth 100000
set_option maxHeartbeats 25600000
set_option linter.unusedVariables false
namespace Go.Proofs.YtcajifelbldjnaaGreatDoor
open Go.RowKit Go.Maps Go.ChangeMaps
abbrev Std := Int × Int × Int × Int
def Wf4 (p : Std) : Prop := Wf1 p.1 ∧ Wf1 p.2.1 ∧ Wf1 p.2.2.1 ∧ Wf1 p.2.2.2
abbrev stv (p : Std) : Value := .agg #[.int .i64 p.1, .int .i64 p.2.1, .int .i64 p.2.2.1, .int .i64 p.2.2.2]
theorem gateS : WideMaps.KeyLaw Tryz.prog 195 := deep_law_gate laidOutP (of_decide_eq_true (by kernel_rfl)) (of_decide_eq_true (by kernel_rfl)) (by kernel_rfl) (by kernel_rfl)
theorem gateP : WideMaps.KeyLaw Tryz.prog 55 := deep_law_gate laidOutP (of_decide_eq_true (by kernel_rfl)) (of_decide_eq_true (by kernel_rfl)) (by kernel_rfl) (by kernel_rfl)
theorem lawS : Keyed Tryz.prog 195 := Keyed.of_law gateS
theorem keyTS : Tryz.prog.keyType 195 = true := by kernel_rfl
theorem cellsSt : Tryz.prog.cellsOf 195 = 4 := by kernel_rfl
theorem cellsPt : Tryz.prog.cellsOf 31 = 3 := by kernel_rfl
theorem lits_point (d : Nat) {x y z : Int} (hx : Wf1 x) (hy : Wf1 y) (hz : Wf1 z) : Tryz.prog.keyLits (d + 2) 31 [.int .i64 x, .int .i64 y, .int .i64 z] = some [.int .i64 x, .int .i64 y, .int .i64 z] := by
 unfold Program.keyLits;rw [Tryz.underlying31];simp [cellsPt, cellsI, lits_int d hx, lits_int d hy, lits_int d hz]
theorem lits_stand (d : Nat) {p : Std} (h : Wf4 p) : Tryz.prog.keyLits (d + 3) 195 [.int .i64 p.1, .int .i64 p.2.1, .int .i64 p.2.2.1, .int .i64 p.2.2.2] = some [.int .i64 p.1, .int .i64 p.2.1, .int .i64 p.2.2.1, .int .i64 p.2.2.2] := by
 unfold Program.keyLits;rw [Tryz.underlying195];simp [cellsSt, cellsPt, cellsI, lits_int (d + 1) h.1, lits_point d h.2.1 h.2.2.1 h.2.2.2]
def klS (p : Std) : Lit := .string (keyBytes [.int .i64 p.1, .int .i64 p.2.1, .int .i64 p.2.2.1, .int .i64 p.2.2.2])
theorem keyS_some {p : Std} (h : Wf4 p) : keyOf Tryz.prog 195 (stv p) = some (klS p) := by
 unfold keyOf;rw [Tryz.underlying195];simp only [keyTS, sizeT];have hf : (stv p).formed Tryz.prog 195 = true := by simp [Value.formed, Tryz.underlying195, cellsSt]
 rw [hf];simp only [Bool.and_self, if_true, Value.cells, List.toList_toArray];rw [show 430 = 427 + 3 from rfl, lits_stand 427 h]
 rfl
theorem klS_inj {p q : Std} (hp : Wf4 p) (hq : Wf4 q) (h : klS p = klS q) : p = q := by
 have := lawS.inj (keyS_some hp) (by rw [h]; exact keyS_some hq);injection this with e;simp at e;exact Prod.ext e.1 (Prod.ext e.2.1 (Prod.ext e.2.2.1 e.2.2.2))
structure KK (κ : Type) where
 k : TypeId
 ok : κ → Prop
 v : κ → Value
 l : κ → Lit
 law : WideMaps.KeyLaw Tryz.prog k
 key : ∀ p, ok p → keyOf Tryz.prog k (v p) = some (l p)
 inj : ∀ p q, ok p → ok q → l p = l q → p = q
def kkP : KK Plc := ⟨55, Wf3, plv, klP, gateP, fun _ h => keyP_some h, fun _ _ h1 h2 h => klP_inj h1 h2 h⟩
def kkS : KK Std := ⟨195, Wf4, stv, klS, gateS, fun _ h => keyS_some h, fun _ _ h1 h2 h => klS_inj h1 h2 h⟩
section
variable {κ : Type} (c : KK κ)
def MF (w : World) (m n : Nat) (f : κ → Option Value) : Prop := ∃ D, w.ownsMap Tryz.prog c.k RV m n D ∧
 (∀ p, c.ok p → ∀ x, f p = some x → ∀ z, D.atKey (c.l p) z = .held x) ∧ ∀ p, c.ok p → f p = none → Maps.has D (c.l p) = false
def setF [DecidableEq κ] (f : κ → Option Value) (p : κ) (x : Value) : κ → Option Value := fun q => if q = p then some x else f q
variable {c}
theorem MF.lt {w : World} {m n : Nat} {f : κ → Option Value} (h : MF c w m n f) : m < w.heap.size := by
 obtain ⟨D, h1, _⟩ := h;exact h1.lt
theorem MF.same {w w1 : World} {m n : Nat} {f : κ → Option Value} (h : MF c w m n f) (hb : w1.heap[m]? = w.heap[m]?) : MF c w1 m n f := by
 obtain ⟨D, ⟨es, clock, h1, h2⟩, h3⟩ := h;exact ⟨D, ⟨es, clock, hb.trans h1, h2⟩, h3⟩
theorem MF.next {w w1 : World} {m n : Nat} {f : κ → Option Value} (h : MF c w m n f) (hb : bw w w1) : MF c w1 m n f := h.same (hb.block m h.lt)
theorem MF.made (w : World) : MF c (w.alloc (.map #[] 0)) w.heap.size 0 (fun _ => none) :=
 ⟨.map [], World.ownsMap_made w _ _ _, (fun _ _ _ h => by cases h), fun _ _ _ => rfl⟩
theorem MF.isMap {w : World} {m n : Nat} {f : κ → Option Value} (h : MF c w m n f) : ∃ es clock, w.heap[m]? = some (.map es clock) := by
 obtain ⟨D, ⟨es, clock, h1, _⟩, _⟩ := h;exact ⟨es, clock, h1⟩
theorem MF.look {w : World} {m n : Nat} {f : κ → Option Value} (h : MF c w m n f) {t e : TypeId} (ht : Tryz.prog.underlying t = some (.map c.k e)) {z : Value} (hz : (zeroValue e).run Tryz.prog w = .ok z w) {p : κ} (hp : c.ok p) :
  (Instr.lookup t (.map (some m)) (c.v p) false).run Tryz.prog w = .ok ((f p).getD z) w := by
 obtain ⟨D, h1, h2, h3⟩ := h;obtain ⟨v, ps, hrun, hv⟩ := h1.lookup (Keyed.of_law c.law) ht hz (zd := .held z) (zp := []) rfl (c.key p hp);rw [hrun]
 congr 1
 simp only [RV, Option.some.injEq, Prod.mk.injEq] at hv;have hv1 := hv.1
 cases e : f p with
 | none =>
  rw [atKey_of_not_has (h3 p hp e)] at hv1;injection hv1 with hv1
 | some x =>
  rw [h2 p hp x e] at hv1;injection hv1 with hv1
def Half [DecidableEq κ] (c : KK κ) (t : TypeId) (m n : Nat) (f : κ → Option Value) (p : κ) (st : Value) (w : World) : Prop :=
 ∃ o1, w.heap[m]? = some o1 ∧ ∀ (w2 : World) (x : Value), w2.heap[m]? = some o1 → ∃ o2, (Instr.entryStore t (.map (some m)) st x).run Tryz.prog w2 = .ok () (setBlock w2 m o2) ∧ ∀ w3 : World, w3.heap[m]? = some o2 → MF c w3 m (n + 1) (setF f p x)
theorem heap_setBlock_at {w : World} {b : Nat} {o : Obj} (h : b < w.heap.size) : (setBlock w b o).heap[b]? = some o := by
 simp [setBlock, h]
theorem MF.entry [DecidableEq κ] {w : World} {m n : Nat} {f : κ → Option Value} (h : MF c w m n f) {t e : TypeId} (ht : Tryz.prog.underlying t = some (.map c.k e)) {z : Value} (hz : ∀ u : World, (zeroValue e).run Tryz.prog u = .ok z u) {p : κ} (hp : c.ok p) (hn : n < maxLen) :
  ∃ (v0 st : Value) (o1 : Obj), (Instr.mapEntry t (.map (some m)) (c.v p)).run Tryz.prog w = .ok (.tuple #[v0, st]) (setBlock w m o1) ∧ Half c t m n f p st (setBlock w m o1) := by
 have hlt := h.lt;obtain ⟨D, hD, h2, h3⟩ := h;have hstore := fun x : Value => hD.store (Keyed.of_law c.law) ht hn (key := c.v p) (val := x) (kl := c.l p) (d := .held x) (ps := []) (c.key p hp) rfl;have hTD := hD.tidy (Keyed.of_law c.law);obtain ⟨es, clock, hb, F, hsz, hDe⟩ := hD;obtain ⟨v0, st, es1, clock1, e1, _, e2⟩ := WideElems.entry_then_store c.law ht hz hb F (c.key p hp);refine ⟨v0, goInt st, .map es1 clock1, e1, .map es1 clock1, heap_setBlock_at hlt, fun w2 x hw2 => ?_⟩;obtain ⟨es', clock', e3, e4⟩ := e2 w2 x hw2;refine ⟨.map es' clock', e3, fun w3 hw3 => ?_⟩;obtain ⟨w', r1, r2, _⟩ := hstore x;rw [e4] at r1;injection r1 with _ r1;subst r1;obtain ⟨es2, clock2, q1, q2⟩ := r2;rw [heap_setBlock_at hlt] at q1;refine ⟨D.put (c.l p) (.held x), ⟨es2, clock2, hw3.trans q1, q2⟩, fun q hq y hy zd => ?_, fun q hq hy => ?_⟩
 ·unfold setF at hy
  by_cases e : q = p
  ·subst e
   rw [if_pos rfl] at hy;injection hy with hy;subst hy;exact atKey_put_same hTD.isMap ((Keyed.of_law c.law).key (c.key q hq)) _ _
  ·rw [if_neg e] at hy
   rw [atKey_put_other (fun e2 => e (c.inj q p hq hp e2))];exact h2 q hq y hy zd
 ·unfold setF at hy
  by_cases e : q = p
  ·rw [if_pos e] at hy; cases hy
  ·rw [if_neg e] at hy
   rw [has_put_other (fun e2 => e (c.inj q p hq hp e2))];exact h3 q hq hy
end
end Go.Proofs.YtcajifelbldjnaaGreatDoor
namespace Go.Proofs.YtcajifelbldjnaaGreatDoor
open Go.RowKit
theorem wpList_append_spot (w : World) {ops : Array Oper} {rest : List Oper} {o : Oper} {a : Act} {Q : Exit → Act → World → Prop} (hgd : o.guard = none) (s x : Operand)
  (ho : o.op = .call { callee := .builtin .append, args := #[s, x], argTypes := #[183, 183] }) (base : Nat) (v : Value) (ps : List (Nat × Nat)) (hs : a.eval s = v) (hown : Own w base v ps)
  (b : Nat) (r c : Nat) (hx : a.eval x = .slice (some ⟨b, 0, none⟩) 1 1) (h0 : w.cell? ⟨b, 0, none⟩ = some (.int .i64 r)) (h1 : w.cell? ⟨b, 1, none⟩ = some (.int .i64 c))
  (hlen : ps.length ≤ 1000000000000) (hbase : base ≤ w.heap.size)
  (h : ∀ v' w', Own w' base v' (ps ++ [(r, c)]) → w.grownBy w' v.ownBlock → wpList Tryz.prog ops Q rest (a.put o.dst v') w') :
  wpList Tryz.prog ops Q (o :: rest) a w := by
 obtain ⟨i0, hi, hz0, hz1, hz2⟩ := info_parts Tryz.info53;refine wpList_append_own_at w hgd s x 183 ho base 53 i0 (.agg #[.int .i64 0, .int .i64 0]) 2 16 Tryz.underlying183 hi hz0 hz1 hz2 rfl (by decide) v ps.length (cellsS ps) hs hown ⟨b, 0, none⟩ 1 1 [.int .i64 r, .int .i64 c] hx rfl ?_ ?_ ?_ ?_ hbase ?_
 ·intro j u hj
  match j, hj with
  | 0, hj => simp at hj; subst hj; simpa [Addr.add] using h0
  | 1, hj => simp at hj; subst hj; simpa [Addr.add] using h1
 ·intro u hu
  simp at hu
  rcases hu with rfl | rfl <;> rfl
 ·unfold maxLen; omega
 ·omega
 ·intro v' w' h1 h2 _ h4
  refine h v' w' ?_ h2;unfold Own;rw [cellsS_append, cellsS_one, List.length_append];exact h1
theorem all_ok (a : Wr) (R C : Nat) (w : World) (hs : a.name.size ≤ maxLen) (h0 : chk a = 0) (hR : a.rows = R) (hC : a.cols = C) :
  Calls Tryz.prog 107 #[wv a] w fun e w' => ∃ v, e = .returned (.tuple #[v, .int .i64 0]) ∧ Own w' (w.heap.size + 1) v (spots R (C * R)) ∧ bw w w' := by
 have HIN : Hid (InR a) := chk_inR h0;have HCH := hdd h0;have r2 : R ≤ 16 := by have := HIN.out.r2; omega
 have r1 : 1 ≤ R := by have := HIN.out.r1; omega
 have k2 : C ≤ 24 := by have := HIN.out.c2; omega
 have HR := hdd hR;have HC := hdd hC;clear hR hC h0
 go_enter Tryz.func107, Tryz.ntmps107
 go_wp2_with fail
 refine (check_any a _ hs).mono ?_;rintro e w1 ⟨rfl, hb⟩;rw [HCH.out];have e2 : w1.cell? ⟨w.heap.size, 2, none⟩ = some (.int .i64 (R : Int)) := by rw [← HR.out]; exact cell_later hb (by go_simp)
 have e3 : w1.cell? ⟨w.heap.size, 3, none⟩ = some (.int .i64 (C : Int)) := by rw [← HC.out]; exact cell_later hb (by go_simp)
 have hB : bw w w1 := ((brf).alloc (Nat.le_refl _) _).trans (hb.mono (by simp));have lt : w.heap.size + 1 ≤ w1.heap.size := by have := hb.size; simp at this; omega
 clear hb
 go_wp2_with fail
 go_loopw [5, 15] (fun v i wo => ∃ c : Nat, c ≤ C ∧ i = .int .i64 c ∧ Own wo (w.heap.size + 1) v (spots R (c * R)) ∧ Below (w.heap.size + 1) w1 wo) (fun _ i _ => C - (intOf i).toNat)
 case atStart => exact ⟨0, by omega, rfl, by simpa [spots] using Own.nil w1 (w.heap.size + 1), brf⟩
 case round =>
  obtain ⟨c, hc24, rfl, hown, hbo⟩ := hrel;obtain ⟨wo, rfl⟩ : ∃ wo, wo = wr := ⟨_, rfl⟩;obtain ⟨ao0, cap0, rfl⟩ := hown.shape;have HO := hdd hown;have HBO := hdd hbo;have d2 : wo.cell? ⟨w.heap.size, 2, none⟩ = some (.int .i64 (R : Int)) := (hbo.cell (p := ⟨w.heap.size, 2, none⟩) (by show w.heap.size < w.heap.size + 1; omega)).trans e2;clear hown hbo;generalize (spots R (c * R)).length = n0 at *
  by_cases hc : c < C
  ·go_wp2_with fail
   go_loopw [5, 20] (fun v i wi => ∃ r : Nat, r ≤ R ∧ i = .int .i64 r ∧ Own wi (w.heap.size + 1) v (spots R (c * R + r)) ∧ Below (w.heap.size + 1) w1 wi) (fun _ i _ => R - (intOf i).toNat)
   case atStart => exact ⟨0, by omega, rfl, by simpa using HO.out, HBO.out⟩
   case round =>
    obtain ⟨r, hr16, rfl, hown, hbi⟩ := hrel;obtain ⟨ao1, cap1, rfl⟩ := hown.shape;have HO2 := hdd hown;have HBI := hdd hbi
    have HL : Hid ((spots R (c * R + r)).length ≤ 1000000) := by
     show _ ≤ _;rw [spots_length];have : c * R ≤ 24 * R := Nat.mul_le_mul_right _ (by omega);omega
    clear hown hbi;generalize (spots R (c * R + r)).length = n1 at *
    by_cases hr : r < R
    ·have HSZ : Hid (w.heap.size + 1 ≤ wr.heap.size) := Nat.le_trans lt HBI.out.size
     go_wp2_with (at_builtin; refine wpList_append_spot _ rfl (.tmp 23) (.tmp 27) rfl (w.heap.size + 1) (.slice ao1 n1 cap1) (spots R (c * R + r)) rfl (HO2.out.alloc _) wr.heap.size r c rfl (by go_simp) (by go_simp) (by rw [spots_length]; have : c * R ≤ 24 * R := Nat.mul_le_mul_right _ (by omega); omega) (by have := HSZ.out; simp; omega) ?_; intro v' w2 hown1 hg)
     go_roundw
     case rel =>
      refine ⟨r + 1, by omega, by go_num, ?_, ?_⟩
      ·rw [← Nat.add_assoc, spots_next hr]; exact hown1
      ·exact below_grown (HBI.out.alloc HSZ.out _) (HO2.out.alloc _) hg (by have := HSZ.out; simp; omega)
     case measure => simp [intOf]; omega
    ·have HE : Hid (c * R + r = (c + 1) * R) := by show _ = _; rw [Nat.succ_mul]; omega
     go_wp2
     go_roundw
     case rel => exact ⟨c + 1, by omega, by go_num, by rw [← HE.out]; exact HO2.out, HBI.out⟩
     case measure => simp [intOf]; omega
  ·have HE : Hid (c = C) := by show _ = _; omega
   go_wp2;refine bodyPost_ret (v := .tuple #[.slice ao0 n0 cap0, .int .i64 0]) (by simp [results, Tryz.results107, go_sem]) rfl ⟨_, rfl, ?_, hB.trans (HBO.out.mono (by omega))⟩;have := HO.out;rwa [HE.out] at this
theorem find_none (g : Nat) (caps : Array Value) (f : Sit → Bool) (ao : Option Addr) (cap : Nat) (l : List Sit) (w : World) (eg : ∀ args w, (callFunc g args).run Tryz.prog w = .ok (.enter g args) w)
  (hT : TestsS g caps f w) (hL : Sts w ao l) (hl : l.length ≤ 9223372036854775807) (hno : ∀ s ∈ l, f s = false) :
  CR 105 #[.slice ao l.length cap, .func (.func g) #[] caps] w (.tuple #[sv zSt, .int .i64 5]) := by
 have al : bw w (w.alloc (sobj zSt)) := (brf).alloc (Nat.le_refl _) _;have hcall := indexFuncS_any g caps f ao cap l (w.alloc (sobj zSt)) eg (fun a W hW => hT a W (al.trans (hW.mono (by simp)))) (hL.next al) hl;rw [idxS_miss hno] at hcall;have HC := hdd hcall;clear hT hL hcall hno
 go_enter Tryz.func105, Tryz.ntmps105
 go_wp2_with fail
 refine HC.out.mono ?_;rintro e w1 ⟨rfl, hb⟩;have K := (Sf.new w zSt).later hb;have HB : Hid (bw w w1) := al.trans (hb.mono (by simp));clear hb al;obtain ⟨⟨al, a0, a1, a2, a3, a4, a5, a6, a7, a8, a9, a10, a11, a12, a13⟩, f0, f1, f2, f3, f4, f5, f6, f7, f8, f9, f10, f11, f12, f13⟩ := K;simp only [Nat.zero_add] at a1 a2 a3 a4 a5 a6 a7 a8 a9 a10 a11 a12 a13;go_wp2;refine bodyPost_ret (v := .tuple #[sv zSt, .int .i64 5]) (by simp [results, Tryz.results105, go_sem, a0, a1, a2, a3, a4, a5, a6, a7, a8, a9, a10, a11, a12, a13]) rfl ⟨rfl, ?_⟩;exact below_put14 (s := zSt) HB.out (Nat.le_refl _)
theorem find_hit (g : Nat) (caps : Array Value) (f : Sit → Bool) (ao : Option Addr) (cap : Nat) (l : List Sit) (w : World) (eg : ∀ args w, (callFunc g args).run Tryz.prog w = .ok (.enter g args) w)
  (hT : TestsS g caps f w) (hL : Sts w ao l) (hl : l.length ≤ 9223372036854775807) (k : Nat) (hk : k < l.length) (s : Sit) (hs : s = l[k]'hk) (hhit : f s = true) (hno : ∀ b ∈ l.take k, f b = false) :
  CR 105 #[.slice ao l.length cap, .func (.func g) #[] caps] w (.tuple #[sv s, .int .i64 0]) := by
 have al : bw w (w.alloc (sobj zSt)) := (brf).alloc (Nat.le_refl _) _;have hcall := indexFuncS_any g caps f ao cap l (w.alloc (sobj zSt)) eg (fun a W hW => hT a W (al.trans (hW.mono (by simp)))) (hL.next al) hl;rw [idxS_hit hk hno (by rw [← hs]; exact hhit)] at hcall;have HC := hdd hcall;obtain ⟨b, off, rfl, hat⟩ := hL.at hk;rw [← hs] at hat;have HAT := (show Hid _ from hat);clear hT hL hcall hno hs hhit hat
 go_enter Tryz.func105, Tryz.ntmps105
 go_wp2_with fail
 refine HC.out.mono ?_;rintro e w1 ⟨rfl, hb⟩;have K := (Sf.new w zSt).later hb;have HB : Hid (bw w w1) := al.trans (hb.mono (by simp));obtain ⟨_, c0, c1, c2, c3, c4, c5, c6, c7, c8, c9, c10, c11, c12, c13⟩ := HAT.out.next HB.out;clear hb al;obtain ⟨⟨al, a0, a1, a2, a3, a4, a5, a6, a7, a8, a9, a10, a11, a12, a13⟩, f0, f1, f2, f3, f4, f5, f6, f7, f8, f9, f10, f11, f12, f13⟩ := K;simp only [Nat.zero_add] at a1 a2 a3 a4 a5 a6 a7 a8 a9 a10 a11 a12 a13;have hki : (k : Int) < (l.length : Int) := by omega
 go_wp2;refine bodyPost_ret (v := .tuple #[sv s, .int .i64 0]) (by simp [results, Tryz.results105, go_sem, a0, a1, a2, a3, a4, a5, a6, a7, a8, a9, a10, a11, a12, a13]) rfl ⟨rfl, ?_⟩;exact below_put14 (s := s) HB.out (Nat.le_refl _)
abbrev encS : Enc (Nat × Nat) := ⟨53, 2, fun p => [.int .i64 p.1, .int .i64 p.2]⟩
theorem goodS : Good encS := ⟨fun _ => rfl, fun x u hu => by simp at hu; rcases hu with rfl | rfl <;> rfl⟩
theorem own_spots {w : World} {base : Nat} {v : Value} {ps : List (Nat × Nat)} (h : Own w base v ps) : OwnR encS w base v ps := h
theorem tips_any (ao : Option Addr) (cap : Nat) (l : List Sit) (w : World) (hD : Dk w ao cap l) (hd : dchk l = 0) :
  Calls Tryz.prog 51 #[.slice ao l.length cap] w fun e w' => ∃ v, e = .returned (.tuple #[v, .int .i64 0]) ∧ OwnR encP w' w.heap.size v (tipsL l) ∧ bw w w' := by
 have HD := hdd hD;have HDC := hdd hd;have hl := dk_len hd
 have HC : Hid (CR 26 #[.slice ao l.length cap] w (.int .i64 0)) := by
  have := dk_check ao cap l w hD (by omega);rw [hd] at this;exact this
 clear hD hd
 go_enter Tryz.func51, Tryz.ntmps51
 go_wp2_with fail
 refine Calls.mono HC.out ?_;rintro e w1 ⟨rfl, hb⟩;have HB1 := hdd hb;clear hb HC
 go_wp2_with fail
 go_loopw [5, 6] (fun v i wo => ∃ n : Nat, n ≤ 12 ∧ i = .int .i64 ((n : Int) + 1) ∧ OwnR encP wo w.heap.size v (tipsTo l n) ∧ bw w wo) (fun _ i _ => 13 - (intOf i).toNat)
 case atStart => exact ⟨0, by omega, rfl, OwnR.nil _ _ _, HB1.out⟩
 case round =>
  obtain ⟨n, hn, rfl, hown, hbo⟩ := hrel;obtain ⟨wo, rfl⟩ : ∃ wo, wo = wr := ⟨_, rfl⟩;obtain ⟨aoT, nT, capT, rfl⟩ := hown.form;have HO := hdd hown;have HBO := hdd hbo;clear hown hbo HB1
  by_cases hlt : n < 12
  ·have hlt2 : ((n : Int) + 1) ≤ 12 := by omega
   have hs := HBO.out.size;have HFD : Hid (Sts (wo.alloc (.cells #[.int .i64 ((n : Int) + 1)] 3)) ao l) := (HD.out.sts.next HBO.out).next ((brf).alloc (Nat.le_refl _) _);have HT : Hid (TestsS 168 #[ptr wo.heap.size] (fun a => a.slot == (n : Int) + 1) (wo.alloc (.cells #[.int .i64 ((n : Int) + 1)] 3))) := fun a W hW => standing_test a _ wo.heap.size W (by have := hW.size; simp at this; omega) (cell_later hW (by go_simp))
   rcases find_cases l ((n : Int) + 1) with ⟨h1, h2⟩ | ⟨k, hk, h1, h2, h3⟩
   ·have HR : Hid (tipsTo l (n + 1) = tipsTo l n) := by show _ = _; rw [tipsTo_succ, rackIn_no h1, List.append_nil]
    have HF : Hid (Calls Tryz.prog 105 #[.slice ao l.length cap, .func (.func 168) #[] #[ptr wo.heap.size]] (wo.alloc (.cells #[.int .i64 ((n : Int) + 1)] 3)) fun e w' => e = .returned (.tuple #[sv zSt, .int .i64 5]) ∧ Below (wo.alloc (.cells #[.int .i64 ((n : Int) + 1)] 3)).heap.size (wo.alloc (.cells #[.int .i64 ((n : Int) + 1)] 3)) w') := find_none 168 #[ptr wo.heap.size] (fun a => a.slot == (n : Int) + 1) ao cap l _ en168 HT.out HFD.out (by omega) h2;clear HT HFD h1 h2
    go_wp2_with fail
    refine (standingIn_any ((n : Int) + 1) wo).mono ?_;rintro e w2 ⟨rfl, rfl⟩
    go_wp2_with fail
    refine Calls.mono HF.out ?_;rintro e w3 ⟨rfl, hb3⟩;have HB3 : Hid (bw w w3) := (HBO.out.alloc hs _).trans (hb3.mono (by simp; omega));have HO3 : Hid (OwnR encP w3 w.heap.size (.slice aoT nT capT) (tipsTo l n)) := (HO.out.alloc _).later hb3;clear hb3 HF;go_wp2
    go_roundw
    case rel => exact ⟨n + 1, by omega, by go_num, by rw [HR.out]; exact HO3.out.alloc _, HB3.out.alloc HB3.out.size _⟩
    case measure => simp [intOf]; omega
   ·obtain ⟨s, hs'⟩ : ∃ s, s = l[k]'hk := ⟨_, rfl⟩
    rw [← hs'] at h1 h2;have HF : Hid (Calls Tryz.prog 105 #[.slice ao l.length cap, .func (.func 168) #[] #[ptr wo.heap.size]] (wo.alloc (.cells #[.int .i64 ((n : Int) + 1)] 3)) fun e w' => e = .returned (.tuple #[sv s, .int .i64 0]) ∧ Below (wo.alloc (.cells #[.int .i64 ((n : Int) + 1)] 3)).heap.size (wo.alloc (.cells #[.int .i64 ((n : Int) + 1)] 3)) w') := find_hit 168 #[ptr wo.heap.size] (fun a => a.slot == (n : Int) + 1) ao cap l _ en168 HT.out HFD.out (by omega) k hk s hs' (by simp [h2]) h3;have HSO : Hid (SOk s) := by show SOk s; rw [hs']; exact HD.out.ok _ (List.getElem_mem hk)
    have HCH : Hid (chk s.ware = 0) := by show _ = _; rw [hs']; exact (dchk_ware HDC.out (List.getElem_mem hk)).1
    clear HT HFD h2 h3 hs'
    by_cases hkd : s.ware.kind = 2
    rotate_left
    ·have hkd2 : (s.ware.kind != 2) = true := by simp [hkd]
     have HR : Hid (tipsTo l (n + 1) = tipsTo l n) := by show _ = _; rw [tipsTo_succ, rackIn_kind h1 hkd, List.append_nil]
     clear h1 hkd
     go_wp2_with fail
     refine (standingIn_any ((n : Int) + 1) wo).mono ?_;rintro e w2 ⟨rfl, rfl⟩
     go_wp2_with fail
     refine Calls.mono HF.out ?_;rintro e w3 ⟨rfl, hb3⟩;have HB3 : Hid (bw w w3) := (HBO.out.alloc hs _).trans (hb3.mono (by simp; omega));have HO3 : Hid (OwnR encP w3 w.heap.size (.slice aoT nT capT) (tipsTo l n)) := (HO.out.alloc _).later hb3;clear hb3 HF;go_wp2
     go_roundw
     case rel => exact ⟨n + 1, by omega, by go_num, by rw [HR.out]; exact HO3.out.alloc _, HB3.out.alloc HB3.out.size _⟩
     case measure => simp [intOf]; omega
    ·have hkd2 : (s.ware.kind != 2) = false := by simp [hkd]
     obtain ⟨R, hR⟩ : ∃ R : Nat, s.ware.rows = R := ⟨s.ware.rows.toNat, by have := inR_iff.1 (chk_in HCH.out).2.2.1; omega⟩;obtain ⟨C, hC⟩ : ∃ C : Nat, s.ware.cols = C := ⟨s.ware.cols.toNat, by have := inR_iff.1 (chk_in HCH.out).2.2.2.1; omega⟩;have HR : Hid (tipsTo l (n + 1) = tipsTo l n ++ (spots R (C * R)).map (spotP ((n : Int) + 1))) := by show _ = _; rw [tipsTo_succ, rackIn_yes h1 hkd hR hC]
     have HAll : Hid (∀ W, Calls Tryz.prog 107 #[wv s.ware] W fun e w' => ∃ v, e = .returned (.tuple #[v, .int .i64 0]) ∧ Own w' (W.heap.size + 1) v (spots R (C * R)) ∧ bw W w') := fun W => all_ok s.ware R C W HSO.out.1 HCH.out hR hC
     have HSM : Hid (C * R ≤ 384) := by
      show _ ≤ _;have a1 := inR_iff.1 (chk_in HCH.out).2.2.1;have a2 := inR_iff.1 (chk_in HCH.out).2.2.2.1;have := Nat.mul_le_mul (show C ≤ 24 by omega) (show R ≤ 16 by omega);omega
     clear h1 hR hC hkd;generalize hSP : spots R (C * R) = sps at *;have HSL : Hid (sps.length ≤ 384) := by show _ ≤ _; rw [← hSP, spots_length]; exact HSM.out
     clear hSP HSM
     go_wp2_with fail
     refine (standingIn_any ((n : Int) + 1) wo).mono ?_;rintro e w2 ⟨rfl, rfl⟩
     go_wp2_with fail
     refine Calls.mono HF.out ?_;rintro e w3 ⟨rfl, hb3⟩;have HB3 : Hid (bw w w3) := (HBO.out.alloc hs _).trans (hb3.mono (by simp; omega));have HO3 : Hid (OwnR encP w3 w.heap.size (.slice aoT nT capT) (tipsTo l n)) := (HO.out.alloc _).later hb3;clear hb3 HF HO HBO
     go_wp2_with fail
     refine Calls.mono (HAll.out _) ?_;rintro e w4 ⟨u, rfl, hu, hb4⟩;have HB4 : Hid (bw w w4) := (HB3.out.alloc HB3.out.size _).trans (hb4.mono (by have := HB3.out.size; simp; omega));have HO4 : Hid (OwnR encP w4 w.heap.size (.slice aoT nT capT) (tipsTo l n)) := (HO3.out.alloc _).later hb4;have HSep : Hid ((Value.slice aoT nT capT).ownBlock = none ∨ u.ownBlock ≠ (Value.slice aoT nT capT).ownBlock) := sep_of (HO3.out.alloc (sobj s)) (own_spots hu) (by simp);obtain ⟨aoS, capS, rfl⟩ := (own_spots hu).shape;have HU : Hid (OwnR encS w4 0 (.slice aoS sps.length capS) sps) := (own_spots hu).base (Nat.zero_le _);clear hu hb4 HAll HO3 HB3
     go_wp2_with fail
     go_loopw [5, 45] (fun v i wi => ∃ r : Nat, r ≤ sps.length ∧ i = .int .i64 r ∧ OwnR encP wi w.heap.size v (tipsTo l n ++ (sps.map (spotP ((n : Int) + 1))).take r) ∧ OwnR encS wi 0 (.slice aoS sps.length capS) sps ∧ (v.ownBlock = none ∨ (Value.slice aoS sps.length capS).ownBlock ≠ v.ownBlock) ∧ bw w wi) (fun _ i _ => sps.length - (intOf i).toNat)
     case atStart => exact ⟨0, by omega, rfl, by simpa using HO4.out, HU.out, HSep.out, HB4.out⟩
     case round =>
      obtain ⟨r, hr, rfl, hown, hu, hsep, hbi⟩ := hrel;obtain ⟨aoV, nV, capV, rfl⟩ := hown.form;have HOi := hdd hown;have HUi := hdd hu;have HSi := hdd hsep;have HBi := hdd hbi;clear hown hu hsep hbi HO4 HU HSep HB4;have hsl := HSL.out
      by_cases hrl : r < sps.length
      ·rcases HUi.out.read goodS with ⟨e0, _⟩ | ⟨g, cap0, e0, _, _, hg, hc⟩
       ·rw [e0] at hrl; simp at hrl
       injection e0 with e1 e2 e3;subst e1;have q0 := hc r hrl 0 (by decide);have q1 := hc r hrl 1 (by decide);have HTk : Hid ((sps.map (spotP ((n : Int) + 1))).take (r + 1) = (sps.map (spotP ((n : Int) + 1))).take r ++ [spotP ((n : Int) + 1) (sps[r]'hrl)]) := take_map_succ _ hrl;generalize sps[r]'hrl = sp at *;simp only [List.getElem?_cons_zero, List.getElem?_cons_succ, Nat.add_zero] at q0 q1;clear hc e2 e3;have hsz := HBi.out.size;have hgn : g ≠ wr.heap.size := by omega
       have HLen : Hid ((tipsTo l n ++ (sps.map (spotP ((n : Int) + 1))).take r).length ≤ 1000000000) := by
        show _ ≤ _;have a1 := tipsTo_length HDC.out n;rw [List.length_append, List.length_take, List.length_map];have a2 := HSL.out;omega
       go_wp2_with (at_builtin; refine wpList_append_row goodP Tryz.underlying62 infoP rfl (by decide) (by decide) _ rfl (.tmp 49) (.tmp 53) rfl w.heap.size (.slice aoV nV capV) (tipsTo l n ++ (sps.map (spotP ((n : Int) + 1))).take r) rfl ((HOi.out.alloc _).alloc _) (wr.heap.size + 1) (spotP ((n : Int) + 1) sp) rfl (fun j u hu => (Bk.new (wr.alloc _) _ 55 (wr.heap.size + 1) (by simp)).c j hu) HLen.out (by simp; omega) ?_; intro v' w5 ho hg' hloc)
       have HO5 : Hid (OwnR encP w5 w.heap.size v' (tipsTo l n ++ (sps.map (spotP ((n : Int) + 1))).take (r + 1))) := by show OwnR _ _ _ _ _; rw [HTk.out, ← List.append_assoc]; exact ho
       have HU5 := (show Hid _ from sep_kept HSi.out ((HUi.out.alloc _).alloc _) hg' hloc);have HB5 : Hid (bw w w5) := below_row ((HBi.out.alloc hsz _).alloc (by simp; omega) _) ((HOi.out.alloc _).alloc _) hg' (by simp; omega);clear ho hg' hloc
       go_roundw
       case rel => exact ⟨r + 1, by omega, by go_num, HO5.out, HU5.out.1, HU5.out.2, HB5.out⟩
       case measure => simp [intOf]; omega
      ·have HE : Hid (r = sps.length) := by show _ = _; omega
       go_wp2
       go_roundw
       case rel =>
        refine ⟨n + 1, by omega, by go_num, ?_, HBi.out⟩;have := HOi.out;rw [HE.out, List.take_of_length_le (by simp)] at this;rw [HR.out];exact this
       case measure => simp [intOf]; omega
  ·have HE : Hid (n = 12) := by show _ = _; omega
   go_wp2
   go_ret2
   refine ⟨_, rfl, ?_, HBO.out⟩;have := HO.out;rw [HE.out, tipsTo_all] at this;exact this
abbrev put3 (w : World) (b : Nat) (x y z : Int) : World := ((w.setCell ⟨b, 0, none⟩ (.int .i64 x)).setCell ⟨b, 1, none⟩ (.int .i64 y)).setCell ⟨b, 2, none⟩ (.int .i64 z)
theorem below_put3 {n b : Nat} {w w' : World} {x y z : Int} (h : Below n w w') (hn : n ≤ b) : Below n w (put3 w' b x y z) :=
 ((h.setCell hn _).setCell hn _).setCell hn _
def atV (s : Sit) (X Y Z mx my mz : Int) (S : Nat) (d : Nat) (v : Value) (_ : World) : Prop :=
 match d with
 | 39 => v = .pointer (some ⟨S, 0, none⟩)
 | 40 => v = .int .i64 s.slot
 | 41 => v = ptv (cx s.slot) (cy s.slot) 0
 | 42 => v = ptv mx my mz
 | 43 => v = ptv X Y Z
 | _ => True
theorem at_ok (ao : Option Addr) (cap : Nat) (l : List Sit) (n r c : Int) (w : World) (hL : Sts w ao l) (hcap : l.length ≤ cap) (hl : l.length ≤ 9223372036854775807) (hok : ∀ s ∈ l, SOk s) (hd : dchk l = 0) (k : Nat) (hk : k < l.length) (s : Sit) (hs : s = l[k]'hk) (hhit : s.slot = n) (hno : ∀ b ∈ l.take k, (b.slot == n) = false) (hsp : spotOk r c s.ware.rows s.ware.cols = true) :
  CR 112 #[.slice ao l.length cap, ptv n r c] w (.tuple #[ptv (cx s.slot + (s.ware.x + c * s.ware.pitch)) (cy s.slot + (s.ware.y + r * s.ware.pitch)) (0 + (s.ware.hei - s.ware.deep)), .int .i64 0]) := by
 have al : bw w ((w.alloc (plo n r c)).alloc (pto 0 0 0)) := ((brf).alloc (Nat.le_refl _) _).alloc (by simp) _
 have HC : Hid (Calls Tryz.prog 26 #[.slice ao l.length cap] ((w.alloc (plo n r c)).alloc (pto 0 0 0)) fun e w' => e = .returned (.int .i64 0) ∧ Below ((w.alloc (plo n r c)).alloc (pto 0 0 0)).heap.size ((w.alloc (plo n r c)).alloc (pto 0 0 0)) w') := by
  have := deckCheck_any ao cap l _ (hL.next al) hcap hl hok;rw [hd] at this;exact this
 have HF : Hid (∀ W : World, bw w W → Calls Tryz.prog 105 #[.slice ao l.length cap, .func (.func 168) #[] #[ptr W.heap.size]] (W.alloc (.cells #[.int .i64 n] 3)) fun e w' => e = .returned (.tuple #[sv s, .int .i64 0]) ∧ Below (W.alloc (.cells #[.int .i64 n] 3)).heap.size (W.alloc (.cells #[.int .i64 n] 3)) w') := fun W hW =>
  find_hit 168 #[ptr W.heap.size] (fun a => a.slot == n) ao cap l _ en168 (fun a W' hW' => standing_test a n W.heap.size W' (by have := hW'.size; simp at this; omega) (cell_later hW' (by go_simp))) (hL.next (hW.alloc hW.size _)) hl k hk s hs (by simp [hhit]) hno
 have HSO : Hid (SOk s) := by show SOk s; rw [hs]; exact hok _ (List.getElem_mem hk)
 have HCH : Hid (chk s.ware = 0) := by show _ = _; rw [hs]; exact ((dchk_in hd).2 k hk).2.1
 have HPL : Hid (1 ≤ s.slot ∧ s.slot ≤ 12) := by show _ ∧ _; rw [hs]; exact ⟨(plc_in ((dchk_in hd).2 k hk).1).1, (plc_in ((dchk_in hd).2 k hk).1).2.1⟩
 have HSP := hdd hsp;obtain ⟨mx, hmx⟩ : ∃ mx, mx = s.ware.x + c * s.ware.pitch := ⟨_, rfl⟩;obtain ⟨my, hmy⟩ : ∃ my, my = s.ware.y + r * s.ware.pitch := ⟨_, rfl⟩;obtain ⟨mz, hmz⟩ : ∃ mz, mz = s.ware.hei - s.ware.deep := ⟨_, rfl⟩
 have HIN : Hid (∀ m ∈ [cx s.slot, cy s.slot, 0, mx, my, mz], 0 ≤ m ∧ m ≤ 1000000000000) := by
  have hin := chk_inR HCH.out;have h1 := spotOk_iff.1 HSP.out;have h2 := prod_in (c := c) (p := s.ware.pitch) h1.2.1 (by have := hin.c2; omega) hin.p0 hin.p1;have h3 := prod_in (c := r) (p := s.ware.pitch) h1.1.1 (by have := hin.r2; omega) hin.p0 hin.p1;have h4 := (chk_in HCH.out).2.2.2.2.2;simp only [roomOk, Bool.and_eq_true, decide_eq_true_eq] at h4;have h5 := cx_in (n := s.slot);have h6 := cy_in HPL.out.1 HPL.out.2;obtain ⟨_, _, _, _, _, _, _, _, _, _, _, _, _, _, _, _, _, _⟩ := hin;intro m hm;simp only [List.mem_cons, List.mem_nil_iff, or_false] at hm
  rcases hm with e | e | e | e | e | e <;> omega
 have HMD : Hid (∀ W : World, CR 173 #[wv s.ware, .agg #[.int .i64 r, .int .i64 c]] W (.tuple #[ptv mx my mz, .int .i64 0])) := fun W => by
  rw [hmx, hmy, hmz]; exact middle_ok s.ware r c W HSO.out.1 HCH.out HSP.out
 rw [← hmx, ← hmy, ← hmz];obtain ⟨X, hX⟩ : ∃ X, X = cx s.slot + mx := ⟨_, rfl⟩;obtain ⟨Y, hY⟩ : ∃ Y, Y = cy s.slot + my := ⟨_, rfl⟩;obtain ⟨Z, hZ⟩ : ∃ Z, Z = 0 + mz := ⟨_, rfl⟩;have HCO : Hid (∀ W : World, CR 175 #[.int .i64 s.slot] W (ptv (cx s.slot) (cy s.slot) 0)) := fun W => corner_any s.slot W HPL.out.1 HPL.out.2
 have HAD : Hid (∀ W : World, CR 174 #[ptv (cx s.slot) (cy s.slot) 0, ptv mx my mz] W (ptv X Y Z)) := fun W => by
  rw [hX, hY, hZ]; exact added_any _ _ _ _ _ _ W HIN.out
 rw [← hX, ← hY, ← hZ];clear hX hY hZ;clear hL hok hd hno hs hhit hsp hmx hmy hmz
 go_enter Tryz.func112, Tryz.ntmps112
 go_wp2_with fail
 refine Calls.mono HC.out ?_;rintro e w1 ⟨rfl, hb⟩;have TP : Hid (T3 w.heap.size n r c w1) := ((T3.new w n r c 55 w.heap.size rfl).later ((brf).alloc (Nat.le_refl _) _)).later hb;have TR : Hid (T3 (w.heap.size + 1) 0 0 0 w1) := (T3.new (w.alloc (plo n r c)) 0 0 0 31 (w.heap.size + 1) (by simp)).later hb;have HB : Hid (bw w w1) := al.trans (hb.mono (by simp; omega));obtain ⟨_, p0, p1, p2, _, _, _⟩ := TP.out;clear hb al HC
 go_wp2_with fail
 refine (standingIn_any n w1).mono ?_;rintro e w2 ⟨rfl, rfl⟩
 go_wp2_with fail
 refine Calls.mono (HF.out w1 HB.out) ?_;rintro e w3 ⟨rfl, hb3⟩;have al1 : bw w1 (w1.alloc (.cells #[.int .i64 n] 3)) := (brf).alloc (Nat.le_refl _) _;have HB3 : Hid (bw w w3) := (HB.out.alloc HB.out.size _).trans (hb3.mono (by have := HB.out.size; simp; omega));have TP3 : Hid (T3 w.heap.size n r c w3) := (TP.out.later al1).later hb3;have TR3 : Hid (T3 (w.heap.size + 1) 0 0 0 w3) := (TR.out.later al1).later hb3;clear hb3 al1 p0 p1 p2 TP TR HB HF;obtain ⟨_, q0, q1, q2, _, _, _⟩ := TP3.out
 go_wp2_with fail
 refine Calls.mono (HMD.out (w3.alloc (sobj s))) ?_;rintro e w5 ⟨rfl, hb5⟩;have al3 : bw w3 (w3.alloc (sobj s)) := (brf).alloc (Nat.le_refl _) _;have HB5 : Hid (bw w w5) := (HB3.out.alloc HB3.out.size _).trans (hb5.mono (by have := HB3.out.size; simp; omega));have TR5 : Hid (T3 (w.heap.size + 1) 0 0 0 w5) := (TR3.out.later al3).later hb5;have KS5 : Hid (Sf w3.heap.size s w5) := (Sf.new w3 s).later hb5;clear hb5 al3 q0 q1 q2 TR3 TP3 HMD
 go_wp2_with fail
 obtain ⟨w6, hw6⟩ : ∃ w6, w6 = w5.alloc (pto mx my mz) := ⟨_, rfl⟩;have al5 : bw w5 w6 := by rw [hw6]; exact (brf).alloc (Nat.le_refl _) _
 have TR6 : Hid (T3 (w.heap.size + 1) 0 0 0 w6) := TR5.out.later al5;have KS6 : Hid (Sf w3.heap.size s w6) := KS5.out.later al5;have TM6 : Hid (T3 w5.heap.size mx my mz w6) := by show T3 _ _ _ _ _; rw [hw6]; exact T3.new w5 mx my mz 31 _ rfl
 have HB6 : Hid (bw w w6) := HB5.out.trans (al5.mono HB5.out.size);rw [← hw6];clear hw6 al5 TR5 KS5 HB5
 refine region_seq 5 [zf,zf,zf,zf,zf,zf,zf,zf,zf,zf,zf,zf,zf,zf,zf,zf,zf,zf,zf,zf,zf,zf,zf,zf,zf,zf,zf,zf,zf,zf,zf,zf,zf,zf,zf,zf,zf,zf,zf,zt,zt,zt,zt,zt]
  [(39, [], none), (40, [39], none), (41, [40], none), (42, [], none), (43, [41, 42], none)]
  (atV s X Y Z mx my mz w3.heap.size) (by kernel_rfl) (by kernel_rfl) (by kernel_rfl) (by kernel_rfl) (by kernel_rfl) (by decide) (fun _ _ _ _ h _ => h) ?_ ?_
 ·refine ⟨?_, ?_, ?_, ?_, ?_, trivial⟩
  ·intro f w1 hb _ K hK
   simp only [over, overL, Nat.reduceAdd];go_simp;exact hK _ _ ⟨_, rfl, by simp only [over, overL, Nat.reduceAdd]; rfl, brf⟩
  ·rintro f w1 hb ⟨(h39 : f 39 = _), _⟩ K hK
   obtain ⟨⟨al, a0, a1, a2, a3, a4, a5, a6, a7, a8, a9, a10, a11, a12, a13⟩, _⟩ := (KS6.out).later hb;simp only [Nat.zero_add] at a1 a2 a3 a4 a5 a6 a7 a8 a9 a10 a11 a12 a13;simp only [over, overL, Nat.reduceAdd, h39];go_simp;exact hK _ _ ⟨_, rfl, by simp only [over, overL, Nat.reduceAdd, h39]; rfl, brf⟩
  ·rintro f w1 hb ⟨(h40 : f 40 = _), _⟩ K hK
   simp only [over, overL, Nat.reduceAdd, h40];go_simp;refine Calls.mono (HCO.out _) ?_;rintro e w9 ⟨rfl, hb9⟩;exact hK _ _ ⟨_, rfl, by simp only [over, overL, Nat.reduceAdd, h40]; rfl, hb9⟩
  ·intro f w1 hb _ K hK
   obtain ⟨_, t0, t1, t2, _, _, _⟩ := TM6.out.later hb;simp only [over, overL, Nat.reduceAdd];go_simp;exact hK _ _ ⟨_, rfl, by simp only [over, overL, Nat.reduceAdd]; rfl, brf⟩
  ·rintro f w1 hb ⟨(h41 : f 41 = _), (h42 : f 42 = _), _⟩ K hK
   simp only [over, overL, Nat.reduceAdd, h41, h42];go_simp;refine Calls.mono (HAD.out _) ?_;rintro e w9 ⟨rfl, hb9⟩;exact hK _ _ ⟨_, rfl, by simp only [over, overL, Nat.reduceAdd, h41, h42]; rfl, hb9⟩
 intro f w7 hb7 hv;have h43 : f 43 = ptv X Y Z := hv.2.2.2.2.1;obtain ⟨_, c0, c1, c2, f0, f1, f2⟩ := TR6.out.later hb7;have HB7 : Hid (bw w w7) := HB6.out.trans (hb7.mono HB6.out.size);clear hb7 hv HCO HAD HIN;simp only [over, overL, h43, Nat.reduceAdd, List.drop_succ_cons, List.drop_zero];clear h43;go_wp2;refine bodyPost_ret (v := .tuple #[ptv X Y Z, .int .i64 0]) (by simp [results, Tryz.results112, go_sem, c0, c1, c2]) rfl ⟨rfl, below_put3 HB7.out (by omega)⟩
abbrev acl (a : Acn) : List Value := [.int .i64 a.kind, .int .i64 a.pl.1, .int .i64 a.pl.2.1, .int .i64 a.pl.2.2, .string a.label, .int .i64 a.vol, .int .i64 a.value, .int .i64 a.time]
theorem tips_few {l : List Sit} (hd : dchk l = 0) : (tipsL l).length ≤ 4608 := by
 have := tipsTo_length hd 12;rw [tipsTo_all] at this;omega
def amV (b B : Nat) (ao : Option Addr) (cap : Nat) (l : List Sit) (a : Acn) (d : Nat) (v : Value) (_ : World) : Prop :=
 match d with
 | 9 | 10 | 11 => v = .pointer (some ⟨b, 0, none⟩)
 | 12 => v = .agg #[.slice ao l.length cap, .int .i64 ((tipsL l).length : Int), .int .i64 (tipM l)]
 | 13 => v = .pointer (some ⟨B, 1, none⟩)
 | 14 => v = .agg #[.int .i64 a.pl.1, .int .i64 a.pl.2.1, .int .i64 a.pl.2.2]
 | 15 | 8 => v = .tuple #[.int .i64 (wellM l a.pl).1, .int .i64 (wellM l a.pl).2]
 | 16 | 6 => v = .int .i64 (wellM l a.pl).1
 | 17 | 7 => v = .int .i64 (wellM l a.pl).2
 | _ => True
theorem amV_mono (b B : Nat) (ao : Option Addr) (cap : Nat) (l : List Sit) (a : Acn) (d : Nat) (v : Value) (w w' : World) (h : amV b B ao cap l a d v w) (_ : bw w w') : amV b B ao cap l a d v w' := h
theorem aim_any (wB w : World) (ao : Option Addr) (cap : Nat) (l : List Sit) (b m md : Nat) (s : Sta) (a : Acn) (hB : Bn wB w ao cap l b m md s) :
  CR 208 #[ptr b, av a] w (.tuple #[.int .i64 (aimR l a).1, .int .i64 (aimR l a).2]) := by
 have HBN := hdd hB;clear hB;obtain ⟨w0, hw0⟩ : ∃ w0, w0 = w.alloc (aobj a) := ⟨_, rfl⟩;have b0 : bw w w0 := by rw [hw0]; exact (brf).alloc (Nat.le_refl _) _
 have KA : Hid (Bk w.heap.size (acl a) w0) := by show Bk _ _ _; rw [hw0]; exact Bk.new w (acl a) 57 w.heap.size rfl
 have HB0 : Hid (Bn wB w0 ao cap l b m md s) := HBN.out.next b0;have HW0 := hdd hw0;clear hw0 b0;obtain ⟨cw, aoH, capH, aoT, capT, K, hh, ht⟩ := HB0.out.bk;have KB : Hid (Bk b (bcs ao cap l md m cw s aoH capH aoT capT) w0) := K;have HH := hdd hh;have HT := hdd ht;have hbw : b < w.heap.size := by obtain ⟨_, _, _, _, _, K', _⟩ := HBN.out.bk; exact K'.1
 have hbn : b ≠ w.heap.size := by omega
 have lt0 := KB.out.1;clear K hh ht;have HBW : Hid (bw w w0) := by show Below _ _ _; rw [HW0.out]; exact (brf).alloc (Nat.le_refl _) _
 have HQ : Hid (aimR l a = if (wellM l a.pl).2 = 0 then (if inR 1 1000000000 a.vol = true then ((wellM l a.pl).1, 0) else ((wellM l a.pl).1, 2)) else wellM l a.pl) := rfl
 go_enter Tryz.func208, Tryz.ntmps208
 go_wp2_with fail
 rename_i KK hkk;have HKK := (show Hid _ from hkk);clear hkk;rw [← HW0.out]
 refine region_seqE 12 [zf,zf,zf,zf,zf,zf,zt,zt,zt,zt,zt,zt,zt,zt,zt,zt,zt,zt,zf,zf,zf,zf,zf,zf,zf,zf,zf,zf]
  [(9, [], none), (10, [9], none), (11, [10], none), (12, [11], none), (13, [], none), (14, [13], none), (15, [12, 14], none), (8, [15], none), (16, [8], none), (17, [8], none), (6, [16], none), (7, [17], none)]
  (amV b w.heap.size ao cap l a) (by kernel_rfl) (by kernel_rfl) (by kernel_rfl) (by kernel_rfl) (by kernel_rfl) (by decide) (amV_mono b w.heap.size ao cap l a) ?_ ?_
 ·refine ⟨?_, ?_, ?_, ?_, ?_, ?_, ?_, ?_, ?_, ?_, ?_, ?_, trivial⟩
  any_goals first | (intro f w1 hb _ K hK; simp only [over, overL, Nat.reduceAdd]; go_simp; exact hK _ _ ⟨_, rfl, by simp only [over, overL, Nat.reduceAdd]; rfl, brf⟩) | fail
  ·rintro f w1 hb ⟨(h9 : f 9 = _), _⟩ K hK
   simp only [over, overL, Nat.reduceAdd, h9];go_simp;exact hK _ _ ⟨_, rfl, by simp only [over, overL, Nat.reduceAdd, h9]; rfl, brf⟩
  ·rintro f w1 hb ⟨(h10 : f 10 = _), _⟩ K hK
   simp only [over, overL, Nat.reduceAdd, h10];go_simp;exact hK _ _ ⟨_, rfl, by simp only [over, overL, Nat.reduceAdd, h10]; rfl, brf⟩
  ·rintro f w1 hb ⟨(h11 : f 11 = _), _⟩ K hK
   have q0 := (KB.out.later hb).c 0 rfl;have q1 := (KB.out.later hb).c 1 rfl;have q2 := (KB.out.later hb).c 2 rfl;simp only [over, overL, Nat.reduceAdd, h11];go_simp;exact hK _ _ ⟨_, rfl, by simp only [over, overL, Nat.reduceAdd, h11]; rfl, brf⟩
  ·rintro f w1 hb ⟨(h13 : f 13 = _), _⟩ K hK
   have q1 := (KA.out.later hb).c 1 rfl;have q2 := (KA.out.later hb).c 2 rfl;have q3 := (KA.out.later hb).c 3 rfl;simp only [over, overL, Nat.reduceAdd, h13];go_simp;exact hK _ _ ⟨_, rfl, by simp only [over, overL, Nat.reduceAdd, h13]; rfl, brf⟩
  ·rintro f w1 hb ⟨(h12 : f 12 = _), (h14 : f 14 = _), _⟩ K hK
   simp only [over, overL, Nat.reduceAdd, h12, h14];go_simp;refine (wellMost_any ao cap l a.pl w1 (HB0.out.next hb).dkw HB0.out.hd).mono ?_;rintro e w2 ⟨rfl, hb2⟩;exact hK _ _ ⟨_, rfl, by simp only [over, overL, Nat.reduceAdd, h12, h14]; rfl, hb2⟩
  ·rintro f w1 hb ⟨(h15 : f 15 = _), _⟩ K hK
   simp only [over, overL, Nat.reduceAdd, h15];go_simp;exact hK _ _ ⟨_, rfl, by simp only [over, overL, Nat.reduceAdd, h15]; rfl, brf⟩
  ·rintro f w1 hb ⟨(h8 : f 8 = _), _⟩ K hK
   simp only [over, overL, Nat.reduceAdd, h8];go_simp;exact hK _ _ ⟨_, rfl, by simp only [over, overL, Nat.reduceAdd, h8]; rfl, brf⟩
  ·rintro f w1 hb ⟨(h8 : f 8 = _), _⟩ K hK
   simp only [over, overL, Nat.reduceAdd, h8];go_simp;exact hK _ _ ⟨_, rfl, by simp only [over, overL, Nat.reduceAdd, h8]; rfl, brf⟩
  ·rintro f w1 hb ⟨(h16 : f 16 = _), _⟩ K hK
   simp only [over, overL, Nat.reduceAdd, h16];go_simp;exact hK _ _ ⟨_, rfl, by simp only [over, overL, Nat.reduceAdd, h16]; rfl, brf⟩
  ·rintro f w1 hb ⟨(h17 : f 17 = _), _⟩ K hK
   simp only [over, overL, Nat.reduceAdd, h17];go_simp;exact hK _ _ ⟨_, rfl, by simp only [over, overL, Nat.reduceAdd, h17]; rfl, brf⟩
 intro f w1 hb hv;have h6 : f 6 = _ := hv.2.2.2.2.2.2.2.2.2.2.1;have h7 : f 7 = _ := hv.2.2.2.2.2.2.2.2.2.2.2.1;have KA1 : Hid (Bk w.heap.size (acl a) w1) := KA.out.later hb;have HB1 : Hid (bw w w1) := HBW.out.trans (hb.mono HBW.out.size);clear hv hb;simp only [List.drop, over, overL, Nat.reduceAdd, h6, h7];clear h6 h7;go_wp2;refine HKK.out _ _ ?_;obtain ⟨q0, q1, q2, q3, q4, q5, q6, q7⟩ := (KA1.out).c8;obtain ⟨⟨mo, e0⟩, hM⟩ : ∃ x, wellM l a.pl = x := ⟨_, rfl⟩;rw [hM] at HQ ⊢;simp only at HQ ⊢;clear hM
 by_cases he : e0 = 0
 ·subst he
  cases hv : inR 1 1000000000 a.vol with
  | true =>
   have HQ2 : Hid (aimR l a = (mo, 0)) := by show _ = _; rw [HQ.out, if_pos rfl, if_pos hv]
   go_wp2_with fail
   refine (mwithin_any 1 a.vol 1000000000 w1).mono ?_;rintro e w2 ⟨rfl, rfl⟩;rw [hv];go_wp2
   go_ret2
   exact ⟨by rw [HQ2.out]; rfl, HB1.out⟩
  | false =>
   have HQ2 : Hid (aimR l a = (mo, 2)) := by show _ = _; rw [HQ.out, if_pos rfl, if_neg (by rw [hv]; decide)]
   go_wp2_with fail
   refine (mwithin_any 1 a.vol 1000000000 w1).mono ?_;rintro e w2 ⟨rfl, rfl⟩;rw [hv];go_wp2
   go_ret2
   exact ⟨by rw [HQ2.out]; rfl, HB1.out⟩
 ·have he2 : (e0 == 0) = false := by simp [he]
  have HQ2 : Hid (aimR l a = (mo, e0)) := by show _ = _; rw [HQ.out, if_neg he]
  clear he;go_wp2
  go_ret2
  exact ⟨by rw [HQ2.out]; rfl, HB1.out⟩
theorem bn_tip {wB w : World} {ao : Option Addr} {cap : Nat} {l : List Sit} {b m md : Nat} {s : Sta} (h : Bn wB w ao cap l b m md s) (hq : tipA l s = ({ s with tip := true, used := s.used + 1 }, 0)) : Bn wB (((w).setCell ⟨b, 6, none⟩ (.bool true)).setCell ⟨b, 9, none⟩ (.int .i64 (s.used + 1))) ao cap l b m md (tipA l s).1 := by
 obtain ⟨cw, aoH, capH, aoT, capT, K, hh, ht⟩ := h.bk;have hbut : But b m w (((w).setCell ⟨b, 6, none⟩ (.bool true)).setCell ⟨b, 9, none⟩ (.int .i64 (s.used + 1))) := (but_set b m (w) 6 (.bool true)).trans (but_set b m ((w).setCell ⟨b, 6, none⟩ (.bool true)) 9 (.int .i64 (s.used + 1)));obtain ⟨wl, hwm, hwl, hfl⟩ := h.wells;have hmb : m ≠ b := fun e => h.ne.1 e.symm;have hmay := (may_tip h.hd h.may (by rw [hq])).1;rw [hq] at hmay ⊢;have hwm2 : WM (((w).setCell ⟨b, 6, none⟩ (.bool true)).setCell ⟨b, 9, none⟩ (.int .i64 (s.used + 1))) m wl := hwm.same ((Below.heap_setCell ((w).setCell ⟨b, 6, none⟩ (.bool true)) ⟨b, 9, none⟩ (.int .i64 (s.used + 1)) m hmb).trans (Below.heap_setCell (w) ⟨b, 6, none⟩ (.bool true) m hmb));exact h.turned hbut hmay hwm2 hwl (fun x hx => (hfl x hx).but hbut) (cw := cw) (aoH := aoH) (capH := capH) (aoT := aoT) (capT := capT) (((K).put 6 (.bool true)).put 9 (.int .i64 (s.used + 1))) (hh.but hbut) (ht.but hbut)
theorem bn_drop {wB w : World} {ao : Option Addr} {cap : Nat} {l : List Sit} {b m md : Nat} {s : Sta} (h : Bn wB w ao cap l b m md s) (hq : dropA s = ({ s with tip := false, held := [], touched := [] }, 0)) : Bn wB ((((w).setCell ⟨b, 6, none⟩ (.bool false)).setCell ⟨b, 7, none⟩ (.slice none 0 0)).setCell ⟨b, 8, none⟩ (.slice none 0 0)) ao cap l b m md (dropA s).1 := by
 obtain ⟨cw, aoH, capH, aoT, capT, K, hh, ht⟩ := h.bk;have hbut : But b m w ((((w).setCell ⟨b, 6, none⟩ (.bool false)).setCell ⟨b, 7, none⟩ (.slice none 0 0)).setCell ⟨b, 8, none⟩ (.slice none 0 0)) := ((but_set b m (w) 6 (.bool false)).trans (but_set b m ((w).setCell ⟨b, 6, none⟩ (.bool false)) 7 (.slice none 0 0))).trans (but_set b m (((w).setCell ⟨b, 6, none⟩ (.bool false)).setCell ⟨b, 7, none⟩ (.slice none 0 0)) 8 (.slice none 0 0));obtain ⟨wl, hwm, hwl, hfl⟩ := h.wells;have hmb : m ≠ b := fun e => h.ne.1 e.symm;have hmay := (may_drop h.may (by rw [hq])).1;rw [hq] at hmay ⊢;have hwm2 : WM ((((w).setCell ⟨b, 6, none⟩ (.bool false)).setCell ⟨b, 7, none⟩ (.slice none 0 0)).setCell ⟨b, 8, none⟩ (.slice none 0 0)) m wl := hwm.same ((Below.heap_setCell (((w).setCell ⟨b, 6, none⟩ (.bool false)).setCell ⟨b, 7, none⟩ (.slice none 0 0)) ⟨b, 8, none⟩ (.slice none 0 0) m hmb).trans ((Below.heap_setCell ((w).setCell ⟨b, 6, none⟩ (.bool false)) ⟨b, 7, none⟩ (.slice none 0 0) m hmb).trans (Below.heap_setCell (w) ⟨b, 6, none⟩ (.bool false) m hmb)));exact h.turned hbut hmay hwm2 hwl (fun x hx => (hfl x hx).but hbut) (cw := cw) (aoH := none) (capH := 0) (aoT := none) (capT := 0) ((((K).put 6 (.bool false)).put 7 (.slice none 0 0)).put 8 (.slice none 0 0)) ⟨⟨fun p hp => (by simp at hp), .inl rfl⟩, .inl rfl⟩ ⟨⟨fun p hp => (by simp at hp), .inl rfl⟩, .inl rfl⟩
theorem bn_warm {wB w : World} {ao : Option Addr} {cap : Nat} {l : List Sit} {b m md : Nat} {s : Sta} {a : Acn} (h : Bn wB w ao cap l b m md s) (hq : warmA s a = ({ s with heat := a.value }, 0)) : Bn wB ((w).setCell ⟨b, 10, none⟩ (.int .i64 a.value)) ao cap l b m md (warmA s a).1 := by
 obtain ⟨cw, aoH, capH, aoT, capT, K, hh, ht⟩ := h.bk;have hbut : But b m w ((w).setCell ⟨b, 10, none⟩ (.int .i64 a.value)) := but_set b m (w) 10 (.int .i64 a.value);obtain ⟨wl, hwm, hwl, hfl⟩ := h.wells;have hmb : m ≠ b := fun e => h.ne.1 e.symm;have hmay := (may_warm h.may (by rw [hq])).1;rw [hq] at hmay ⊢;have hwm2 : WM ((w).setCell ⟨b, 10, none⟩ (.int .i64 a.value)) m wl := hwm.same (Below.heap_setCell (w) ⟨b, 10, none⟩ (.int .i64 a.value) m hmb);exact h.turned hbut hmay hwm2 hwl (fun x hx => (hfl x hx).but hbut) (cw := cw) (aoH := aoH) (capH := capH) (aoT := aoT) (capT := capT) ((K).put 10 (.int .i64 a.value)) (hh.but hbut) (ht.but hbut)
theorem bn_pass {wB w : World} {ao : Option Addr} {cap : Nat} {l : List Sit} {b m md : Nat} {s : Sta} {a : Acn} (h : Bn wB w ao cap l b m md s) (hq : passA s a = ({ s with clock := s.clock + a.time }, 0)) : Bn wB ((w).setCell ⟨b, 11, none⟩ (.int .i64 (s.clock + a.time))) ao cap l b m md (passA s a).1 := by
 obtain ⟨cw, aoH, capH, aoT, capT, K, hh, ht⟩ := h.bk;have hbut : But b m w ((w).setCell ⟨b, 11, none⟩ (.int .i64 (s.clock + a.time))) := but_set b m (w) 11 (.int .i64 (s.clock + a.time));obtain ⟨wl, hwm, hwl, hfl⟩ := h.wells;have hmb : m ≠ b := fun e => h.ne.1 e.symm;have hmay := (may_pass h.may (by rw [hq])).1;rw [hq] at hmay ⊢;have hwm2 : WM ((w).setCell ⟨b, 11, none⟩ (.int .i64 (s.clock + a.time))) m wl := hwm.same (Below.heap_setCell (w) ⟨b, 11, none⟩ (.int .i64 (s.clock + a.time)) m hmb);exact h.turned hbut hmay hwm2 hwl (fun x hx => (hfl x hx).but hbut) (cw := cw) (aoH := aoH) (capH := capH) (aoT := aoT) (capT := capT) ((K).put 11 (.int .i64 (s.clock + a.time))) (hh.but hbut) (ht.but hbut)
theorem tip_any (wB w : World) (ao : Option Addr) (cap : Nat) (l : List Sit) (b m md : Nat) (s : Sta) (a : Acn) (hB : Bn wB w ao cap l b m md s) :
  Calls Tryz.prog 177 #[ptr b, av a] w fun e w' => e = .returned (.int .i64 (tipA l s).2) ∧ Bn wB w' ao cap l b m md (tipA l s).1 := by
 have HBN := hdd hB;have HB0 : Hid (Bn wB (w.alloc (aobj a)) ao cap l b m md s) := hB.next ((brf).alloc (Nat.le_refl _) _);clear hB;obtain ⟨cw, aoH, capH, aoT, capT, K, hh, ht⟩ := HBN.out.bk;have KB : Hid (Bk b (bcs ao cap l md m cw s aoH capH aoT capT) w) := K;have hbw := KB.out.1;have hbn : b ≠ w.heap.size := by omega
 clear K hh ht;have hfew := tips_few HB0.out.hd
 cases htp : s.tip with
 | true =>
  have HQ : Hid (tipA l s = (s, 12)) := by show _ = _; unfold tipA; rw [if_pos htp]
  obtain ⟨k0, k1, k2, k3, k4, k5, k6, k7, k8, k9, k10, k11⟩ := (KB.out).c12;rw [htp] at k6
  go_enter Tryz.func177, Tryz.ntmps177
  go_wp2;go_ret;exact ⟨by rw [HQ.out]; rfl, by rw [HQ.out]; exact HB0.out⟩
 | false =>
  have htk := HB0.out.may.take;unfold mayTake at htk;rw [if_neg (by rw [htp]; decide)] at htk;simp only [Bool.and_eq_true, inR_iff] at htk;have u0 := htk.1.1;have u1 := htk.1.2;clear htk
  by_cases hu : ((tipsL l).length : Int) ≤ s.used
  ·have HQ : Hid (tipA l s = (s, 19)) := by show _ = _; unfold tipA; rw [if_neg (by rw [htp]; decide), if_pos hu]
   have hd : decide (((tipsL l).length : Int) ≤ s.used) = true := decide_eq_true hu;obtain ⟨k0, k1, k2, k3, k4, k5, k6, k7, k8, k9, k10, k11⟩ := (KB.out).c12;rw [htp] at k6;clear hu
   go_enter Tryz.func177, Tryz.ntmps177
   go_wp2_with fail
   go_big_quiet (fail)
   go_wp2;go_ret;exact ⟨by rw [HQ.out]; rfl, by rw [HQ.out]; exact HB0.out.next (blw_drewN (brf) _)⟩
  ·have HQ : Hid (tipA l s = ({ s with tip := true, used := s.used + 1 }, 0)) := by show _ = _; unfold tipA; rw [if_neg (by rw [htp]; decide), if_neg hu]
   have hd : decide (((tipsL l).length : Int) ≤ s.used) = false := decide_eq_false hu;obtain ⟨k0, k1, k2, k3, k4, k5, k6, k7, k8, k9, k10, k11⟩ := (KB.out).c12;obtain ⟨kf0, kf1, kf2, kf3, kf4, kf5, kf6, kf7, kf8, kf9, kf10, kf11⟩ := (KB.out).f12;rw [htp] at k6;have hu2 : s.used < ((tipsL l).length : Int) := by omega
   have hwr : IntKind.i64.wrap (s.used + 1) = s.used + 1 := wrap_in (by omega) (by omega);clear hu
   go_enter Tryz.func177, Tryz.ntmps177
   go_wp2_with fail
   go_big_quiet (fail)
   go_wp2;go_ret;exact ⟨by rw [HQ.out]; rfl, bn_tip (HB0.out.next (blw_drewN (brf) _)) HQ.out⟩
theorem drop_any (wB w : World) (ao : Option Addr) (cap : Nat) (l : List Sit) (b m md : Nat) (s : Sta) (a : Acn) (hB : Bn wB w ao cap l b m md s) :
  Calls Tryz.prog 178 #[ptr b, av a] w fun e w' => e = .returned (.int .i64 (dropA s).2) ∧ Bn wB w' ao cap l b m md (dropA s).1 := by
 have HBN := hdd hB;have HB0 : Hid (Bn wB (w.alloc (aobj a)) ao cap l b m md s) := hB.next ((brf).alloc (Nat.le_refl _) _);clear hB;obtain ⟨cw, aoH, capH, aoT, capT, K, hh, ht⟩ := HBN.out.bk;have KB : Hid (Bk b (bcs ao cap l md m cw s aoH capH aoT capT) w) := K;have hbw := KB.out.1;have hbn : b ≠ w.heap.size := by omega
 clear K hh ht
 cases htp : s.tip with
 | false =>
  have HQ : Hid (dropA s = (s, 12)) := by show _ = _; unfold dropA; rw [if_neg (by rw [htp]; decide)]
  obtain ⟨k0, k1, k2, k3, k4, k5, k6, k7, k8, k9, k10, k11⟩ := (KB.out).c12;rw [htp] at k6
  go_enter Tryz.func178, Tryz.ntmps178
  go_wp2;go_ret;exact ⟨by rw [HQ.out]; rfl, by rw [HQ.out]; exact HB0.out⟩
 | true =>
  have HQ : Hid (dropA s = ({ s with tip := false, held := [], touched := [] }, 0)) := by show _ = _; unfold dropA; rw [if_pos htp]
  obtain ⟨k0, k1, k2, k3, k4, k5, k6, k7, k8, k9, k10, k11⟩ := (KB.out).c12;obtain ⟨kf0, kf1, kf2, kf3, kf4, kf5, kf6, kf7, kf8, kf9, kf10, kf11⟩ := (KB.out).f12;rw [htp] at k6
  go_enter Tryz.func178, Tryz.ntmps178
  go_wp2;go_ret;refine ⟨by rw [HQ.out]; rfl, ?_⟩
  first | exact bn_drop HB0.out HQ.out | exact (bn_drop HBN.out HQ.out).next ((brf).alloc (by simp [World.setCell]) _)
theorem warm_any (wB w : World) (ao : Option Addr) (cap : Nat) (l : List Sit) (b m md : Nat) (s : Sta) (a : Acn) (hB : Bn wB w ao cap l b m md s) :
  Calls Tryz.prog 181 #[ptr b, av a] w fun e w' => e = .returned (.int .i64 (warmA s a).2) ∧ Bn wB w' ao cap l b m md (warmA s a).1 := by
 have HBN := hdd hB;have HB0 : Hid (Bn wB (w.alloc (aobj a)) ao cap l b m md s) := hB.next ((brf).alloc (Nat.le_refl _) _);clear hB;obtain ⟨cw, aoH, capH, aoT, capT, K, hh, ht⟩ := HBN.out.bk;have KB : Hid (Bk b (bcs ao cap l md m cw s aoH capH aoT capT) w) := K;have hbw := KB.out.1;have hbn : b ≠ w.heap.size := by omega
 clear K hh ht;have KA : Hid (Bk w.heap.size (acl a) (w.alloc (aobj a))) := by exact Bk.new w (acl a) 57 w.heap.size rfl
 cases hv : inR 0 1000000000 a.value with
 | false =>
  have HQ : Hid (warmA s a = (s, 2)) := by show _ = _; unfold warmA; rw [if_neg (by rw [hv]; decide)]
  go_enter Tryz.func181, Tryz.ntmps181
  go_wp2_with fail
  refine (mwithin_any 0 a.value 1000000000 _).mono ?_;rintro e w2 ⟨rfl, rfl⟩;rw [hv];go_wp2;go_ret;exact ⟨by rw [HQ.out]; rfl, by rw [HQ.out]; exact HB0.out⟩
 | true =>
  have HQ : Hid (warmA s a = ({ s with heat := a.value }, 0)) := by show _ = _; unfold warmA; rw [if_pos hv]
  obtain ⟨k0, k1, k2, k3, k4, k5, k6, k7, k8, k9, k10, k11⟩ := (KB.out).c12;obtain ⟨kf0, kf1, kf2, kf3, kf4, kf5, kf6, kf7, kf8, kf9, kf10, kf11⟩ := (KB.out).f12
  go_enter Tryz.func181, Tryz.ntmps181
  go_wp2_with fail
  refine (mwithin_any 0 a.value 1000000000 _).mono ?_;rintro e w2 ⟨rfl, rfl⟩;rw [hv];go_wp2;go_ret;refine ⟨by rw [HQ.out]; rfl, ?_⟩
  first | exact bn_warm (a := a) HB0.out HQ.out | exact (bn_warm (a := a) HBN.out HQ.out).next ((brf).alloc (by simp [World.setCell]) _)
def psV (b B : Nat) (s : Sta) (a : Acn) (d : Nat) (v : Value) (_ : World) : Prop :=
 match d with
 | 18 | 19 => v = .pointer (some ⟨b, 0, none⟩)
 | 20 => v = .pointer (some ⟨b, 5, none⟩)
 | 21 => v = .pointer (some ⟨b, 11, none⟩)
 | 22 => v = .int .i64 s.clock
 | 23 => v = .pointer (some ⟨B, 7, none⟩)
 | 24 => v = .int .i64 a.time
 | 25 => v = .int .i64 (s.clock + a.time)
 | _ => True
theorem psV_mono (b B : Nat) (s : Sta) (a : Acn) (d : Nat) (v : Value) (w w' : World) (h : psV b B s a d v w) (_ : bw w w') : psV b B s a d v w' := h
theorem pass_any (wB w : World) (ao : Option Addr) (cap : Nat) (l : List Sit) (b m md : Nat) (s : Sta) (a : Acn) (hB : Bn wB w ao cap l b m md s) :
  Calls Tryz.prog 182 #[ptr b, av a] w fun e w' => e = .returned (.int .i64 (passA s a).2) ∧ Bn wB w' ao cap l b m md (passA s a).1 := by
 have HBN := hdd hB;have HB0 : Hid (Bn wB (w.alloc (aobj a)) ao cap l b m md s) := hB.next ((brf).alloc (Nat.le_refl _) _);clear hB;obtain ⟨cw, aoH, capH, aoT, capT, K, hh, ht⟩ := HBN.out.bk;have KB : Hid (Bk b (bcs ao cap l md m cw s aoH capH aoT capT) w) := K;have hbw := KB.out.1;have hbn : b ≠ w.heap.size := by omega
 clear K hh ht
 cases hv : inR 0 1000000000 a.time with
 | false =>
  have HQ : Hid (passA s a = (s, 2)) := by show _ = _; unfold passA; rw [if_neg (by rw [hv]; decide)]
  go_enter Tryz.func182, Tryz.ntmps182
  go_wp2_with fail
  refine (mwithin_any 0 a.time 1000000000 _).mono ?_;rintro e w2 ⟨rfl, rfl⟩;rw [hv];go_wp2;go_ret;exact ⟨by rw [HQ.out]; rfl, by rw [HQ.out]; exact HB0.out⟩
 | true =>
  have hcl := HBN.out.may.clock;have hti := inR_iff.1 hv;have hwr : IntKind.i64.wrap (s.clock + a.time) = s.clock + a.time := wrap_in (by omega) (by omega)
  by_cases hu : 1000000000 < s.clock + a.time
  ·have HQ : Hid (passA s a = (s, 8)) := by show _ = _; unfold passA; rw [if_pos hv, if_pos hu]
   have hd : decide (1000000000 < s.clock + a.time) = true := decide_eq_true hu;obtain ⟨k0, k1, k2, k3, k4, k5, k6, k7, k8, k9, k10, k11⟩ := (KB.out).c12;clear hu hcl hti
   go_enter Tryz.func182, Tryz.ntmps182
   go_wp2_with fail
   refine (mwithin_any 0 a.time 1000000000 _).mono ?_;rintro e w2 ⟨rfl, rfl⟩;rw [hv]
   go_wp2_with fail
   go_big_quiet (fail)
   go_wp2;go_ret;exact ⟨by rw [HQ.out]; rfl, by rw [HQ.out]; exact HB0.out.next (blw_drewN (brf) _)⟩
  ·have HQ : Hid (passA s a = ({ s with clock := s.clock + a.time }, 0)) := by show _ = _; unfold passA; rw [if_pos hv, if_neg hu]
   have hd : decide (1000000000 < s.clock + a.time) = false := decide_eq_false hu;have HWR := hdd hwr;obtain ⟨k0, k1, k2, k3, k4, k5, k6, k7, k8, k9, k10, k11⟩ := (KB.out).c12;clear hu hcl hti
   go_enter Tryz.func182, Tryz.ntmps182
   go_wp2_with fail
   refine (mwithin_any 0 a.time 1000000000 _).mono ?_;rintro e w2 ⟨rfl, rfl⟩;rw [hv]
   go_wp2_with fail
   go_big_quiet (fail)
   go_wp2_with fail
   rename_i KK hkk;have HKK := (show Hid _ from hkk);clear hkk;have KB0 : Hid (Bk b (bcs ao cap l md m cw s aoH capH aoT capT) (w.alloc (aobj a))) := KB.out.later ((brf).alloc (Nat.le_refl _) _);have KA0 : Hid (Bk w.heap.size (acl a) (w.alloc (aobj a))) := by exact Bk.new w (acl a) 57 w.heap.size rfl
   generalize hw3 : World.drewN (w.alloc (aobj a)) _ = w3;have hb3 : Below (w.alloc (aobj a)).heap.size (w.alloc (aobj a)) w3 := by rw [← hw3]; exact blw_drewN (brf) _
   have KB1 : Hid (Bk b (bcs ao cap l md m cw s aoH capH aoT capT) w3) := KB0.out.later hb3;have KA1 : Hid (Bk w.heap.size (acl a) w3) := KA0.out.later hb3;have HB3 : Hid (Bn wB w3 ao cap l b m md s) := HB0.out.next hb3;clear hw3 hb3 k0 k1 k2 k3 k4 k5 k6 k7 k8 k9 k10 k11
   refine region_seq 8 [zf,zf,zf,zf,zf,zf,zf,zf,zf,zf,zf,zf,zf,zf,zf,zf,zf,zf,zt,zt,zt,zt,zt,zt,zt,zt,zf,zf,zf]
    [(18, [], none), (19, [18], none), (20, [19], none), (21, [20], none), (22, [21], none), (23, [], none), (24, [23], none), (25, [22, 24], none)]
    (psV b w.heap.size s a) (by kernel_rfl) (by kernel_rfl) (by kernel_rfl) (by kernel_rfl) (by kernel_rfl) (by decide) (psV_mono b w.heap.size s a) ?_ ?_
   ·refine ⟨?_, ?_, ?_, ?_, ?_, ?_, ?_, ?_, trivial⟩
    any_goals first | (intro f w1 hb _ K hK; simp only [over, overL, Nat.reduceAdd]; go_simp; exact hK _ _ ⟨_, rfl, by simp only [over, overL, Nat.reduceAdd]; rfl, brf⟩) | fail
    ·rintro f w1 hb ⟨(h18 : f 18 = _), _⟩ K hK
     simp only [over, overL, Nat.reduceAdd, h18];go_simp;exact hK _ _ ⟨_, rfl, by simp only [over, overL, Nat.reduceAdd, h18]; rfl, brf⟩
    ·rintro f w1 hb ⟨(h19 : f 19 = _), _⟩ K hK
     simp only [over, overL, Nat.reduceAdd, h19];go_simp;exact hK _ _ ⟨_, rfl, by simp only [over, overL, Nat.reduceAdd, h19]; rfl, brf⟩
    ·rintro f w1 hb ⟨(h20 : f 20 = _), _⟩ K hK
     simp only [over, overL, Nat.reduceAdd, h20];go_simp;exact hK _ _ ⟨_, rfl, by simp only [over, overL, Nat.reduceAdd, h20]; rfl, brf⟩
    ·rintro f w1 hb ⟨(h21 : f 21 = _), _⟩ K hK
     have q11 := (KB1.out.later hb).c 11 rfl;simp only [over, overL, Nat.reduceAdd, h21];go_simp;exact hK _ _ ⟨_, rfl, by simp only [over, overL, Nat.reduceAdd, h21]; rfl, brf⟩
    ·rintro f w1 hb ⟨(h23 : f 23 = _), _⟩ K hK
     have q7 := (KA1.out.later hb).c 7 rfl;simp only [over, overL, Nat.reduceAdd, h23];go_simp;exact hK _ _ ⟨_, rfl, by simp only [over, overL, Nat.reduceAdd, h23]; rfl, brf⟩
    ·rintro f w1 hb ⟨(h22 : f 22 = _), (h24 : f 24 = _), _⟩ K hK
     have hwr := HWR.out;simp only [over, overL, Nat.reduceAdd, h22, h24];go_simp;exact hK _ _ ⟨_, rfl, by simp only [over, overL, Nat.reduceAdd, h22, h24]; rfl, brf⟩
   intro f w1 hb hv;have h18 : f 18 = _ := hv.1;have h25 : f 25 = _ := hv.2.2.2.2.2.2.2.1;have HB4 : Hid (Bn wB w1 ao cap l b m md s) := HB3.out.next hb;have KB2 : Hid (Bk b (bcs ao cap l md m cw s aoH capH aoT capT) w1) := KB1.out.later hb;obtain ⟨k0, k1, k2, k3, k4, k5, k6, k7, k8, k9, k10, k11⟩ := (KB2.out).c12;obtain ⟨kf0, kf1, kf2, kf3, kf4, kf5, kf6, kf7, kf8, kf9, kf10, kf11⟩ := (KB2.out).f12;have lt1 := KB2.out.1;clear hv hb;simp only [List.drop, over, overL, Nat.reduceAdd, h18, h25];clear h18 h25;go_wp2;refine HKK.out _ _ ?_;go_wp2;go_ret;exact ⟨by rw [HQ.out]; rfl, bn_pass (a := a) HB4.out HQ.out⟩
theorem shake_any (wB w : World) (ao : Option Addr) (cap : Nat) (l : List Sit) (b m md : Nat) (s : Sta) (a : Acn) (hB : Bn wB w ao cap l b m md s) :
  Calls Tryz.prog 183 #[ptr b, av a] w fun e w' => e = .returned (.int .i64 (shakeA s a).2) ∧ Bn wB w' ao cap l b m md (shakeA s a).1 := by
 have HBN := hdd hB;have HB0 : Hid (Bn wB (w.alloc (aobj a)) ao cap l b m md s) := hB.next ((brf).alloc (Nat.le_refl _) _);clear hB;obtain ⟨cw, aoH, capH, aoT, capT, K, hh, ht⟩ := HBN.out.bk;have KB : Hid (Bk b (bcs ao cap l md m cw s aoH capH aoT capT) w) := K;have hbw := KB.out.1;have hbn : b ≠ w.heap.size := by omega
 clear K hh ht
 cases hv : inR 0 1000000000 a.value with
 | false =>
  have HQ : Hid (shakeA s a = (s, 2)) := by show _ = _; unfold shakeA; rw [if_neg (by rw [hv]; decide)]
  go_enter Tryz.func183, Tryz.ntmps183
  go_wp2_with fail
  refine (mwithin_any 0 a.value 1000000000 _).mono ?_;rintro e w2 ⟨rfl, rfl⟩;rw [hv];go_wp2;go_ret;exact ⟨by rw [HQ.out]; rfl, by rw [HQ.out]; exact HB0.out⟩
 | true =>
  have HQ : Hid (shakeA s a = passA s a) := by show _ = _; unfold shakeA; rw [if_pos hv]
  obtain ⟨k0, k1, k2, k3, k4, k5, k6, k7, k8, k9, k10, k11⟩ := (KB.out).c12
  go_enter Tryz.func183, Tryz.ntmps183
  go_wp2_with fail
  refine (mwithin_any 0 a.value 1000000000 _).mono ?_;rintro e w2 ⟨rfl, rfl⟩;rw [hv]
  go_wp2_with fail
  refine (pass_any wB _ ao cap l b m md s a HB0.out).mono ?_;rintro e w2 ⟨rfl, h2⟩;have HB2 := hdd h2;clear h2;go_wp2;go_ret;exact ⟨by rw [HQ.out]; rfl, by rw [HQ.out]; exact HB2.out⟩
end Go.Proofs.YtcajifelbldjnaaGreatDoor
namespace Go.Proofs.YtcajifelbldjnaaGreatDoor
open Go.RowKit Go.Maps
def Fr (b m : Nat) (ps : List F.Pc) (v : Value) (w : World) : Prop := ∃ ao cap, v = .slice ao ps.length cap ∧ Flx b m w ao ps
theorem Fr.later {b m : Nat} {ps : List F.Pc} {v : Value} {w w1 : World} (h : Fr b m ps v w) (hb : bw w w1) : Fr b m ps v w1 := by
 obtain ⟨ao, cap, e, hf⟩ := h;exact ⟨ao, cap, e, hf.next hb⟩
def TF (b m : Nat) (ps : List F.Pc) (e : Int) (v : Value) (w : World) : Prop := ∃ x, v = .tuple #[x, .int .i64 e] ∧ Fr b m ps x w
theorem TF.later {b m : Nat} {ps : List F.Pc} {e : Int} {v : Value} {w w1 : World} (h : TF b m ps e v w) (hb : bw w w1) : TF b m ps e v w1 := by
 obtain ⟨x, h1, h2⟩ := h;exact ⟨x, h1, h2.later hb⟩
def TG3 (b m : Nat) (ps qs : List F.Pc) (e : Int) (v : Value) (w : World) : Prop := ∃ x y, v = .tuple #[x, y, .int .i64 e] ∧ Fr b m ps x w ∧ Fr b m qs y w
theorem TG3.later {b m : Nat} {ps qs : List F.Pc} {e : Int} {v : Value} {w w1 : World} (h : TG3 b m ps qs e v w) (hb : bw w w1) : TG3 b m ps qs e v w1 := by
 obtain ⟨x, y, h1, h2, h3⟩ := h;exact ⟨x, y, h1, h2.later hb, h3.later hb⟩
theorem tog_sizes (f g : List F.Pc) (m : Int) : ∀ p ∈ (togR f g m).1, p.1.size ≤ maxLen := by
 by_cases h : (togR f g m).2 = 0
 ·exact F.fine_size (mayHold_iff.1 (mayHold_tog h)).1
 ·have : (togR f g m).1 = [] := by
   unfold togR at h ⊢
   split at h
   ·rename_i h1; rw [if_pos h1]
   ·rename_i h1
    rw [if_neg h1];unfold F.putR at h ⊢
    repeat' split at h
    all_goals first | (exfalso; exact h rfl) | (repeat' split) <;> simp_all
  rw [this];intro p hp;simp at hp
theorem draw_sizes (v : Int) (f : List F.Pc) : (∀ p ∈ (F.drawF v f).1, p.1.size ≤ maxLen) ∧ ∀ p ∈ (F.drawF v f).2.1, p.1.size ≤ maxLen := by
 by_cases h : (F.drawF v f).2.2 = 0
 ·obtain ⟨h1, h2, h3, h4, h5⟩ := drawF_ok h
  obtain ⟨g1, g2⟩ := F.draw_fine h2 h1;rw [h4, h5];exact ⟨F.fine_size g1, F.fine_size g2⟩
 ·have : (F.drawF v f).1 = [] ∧ (F.drawF v f).2.1 = [] := by
   unfold F.drawF at h ⊢
   repeat' split at h
   all_goals first | (exfalso; exact h rfl) | (repeat' split) <;> simp_all
  rw [this.1, this.2];exact ⟨fun p hp => by simp at hp, fun p hp => by simp at hp⟩
theorem tog_fr (b m : Nat) (ao ao' : Option Addr) (cap cap' : Nat) (f g : List F.Pc) (mo : Int) (w : World) (h : F.Fl w ao f) (h' : F.Fl w ao' g) (hb : b < w.heap.size) (hm : m < w.heap.size) :
  Calls Tryz.prog 209 #[.slice ao f.length cap, .slice ao' g.length cap', .int .i64 mo] w fun e w' => ∃ v, e = .returned v ∧ TF b m (togR f g mo).1 (togR f g mo).2 v w' ∧ bw w w' := by
 refine (together_any ao ao' cap cap' f g mo w h h').mono ?_;rintro e w' ⟨v, rfl, ho, hb'⟩;exact ⟨_, rfl, ⟨v, rfl, flx_of ho (tog_sizes f g mo) hb hm⟩, hb'⟩
theorem draw_fr (b m : Nat) (ao : Option Addr) (cap : Nat) (ps : List F.Pc) (v : Int) (w : World) (h : F.Fl w ao ps) (hb : b < w.heap.size) (hm : m < w.heap.size) :
  Calls Tryz.prog 211 #[.slice ao ps.length cap, .int .i64 v] w fun e w' => ∃ x, e = .returned x ∧ TG3 b m (F.drawF v ps).1 (F.drawF v ps).2.1 (F.drawF v ps).2.2 x w' ∧ bw w w' := by
 refine (F.draw_any ao cap ps v w h).mono ?_;rintro e w' ⟨x, y, rfl, h1, h2, hb'⟩;exact ⟨_, rfl, ⟨x, y, rfl, flx_of h1 (draw_sizes v ps).1 hb hm, flx_of h2 (draw_sizes v ps).2 hb hm⟩, hb'⟩
theorem Bn.keptTo {wB w w1 : World} {ao : Option Addr} {cap : Nat} {l : List Sit} {b m md : Nat} {s s' : Sta} (h : Bn wB w ao cap l b m md s) {wl : List Wh} (hwl : whp wl = s.wells) (hfl : ∀ x ∈ wl, Flx b m w x.2.1 x.2.2.2) {p : Plc} {aof : Option Addr} {capf : Nat} {f : List F.Pc} (hbut : But b m w w1) (hwm : WM w1 m (setH wl p (aof, capf, f))) (hf : Flx b m w1 aof f) (hmay : May l s') (hs : s'.wells = wset s.wells p f)
  {cw : Option Addr × Nat × Nat} {aoH : Option Addr} {capH : Nat} {aoT : Option Addr} {capT : Nat} (hbk : Bk b (bcs ao cap l md m cw s' aoH capH aoT capT) w1) (hh : Flx b m w1 aoH s'.held) (ht : Txx b m w1 aoT s'.touched) : Bn wB w1 ao cap l b m md s' :=
 h.turned hbut hmay hwm (by rw [whp_setH, hwl, hs]) (fun x hx => by rcases mem_setH hx with rfl | hx; exact hf; exact (hfl x hx).but hbut) hbk hh ht
theorem flx_at {b m : Nat} {w : World} {wl : List Wh} (h : ∀ x ∈ wl, Flx b m w x.2.1 x.2.2.2) (p : Plc) : Flx b m w (fdAt wl p).1 (fdAt wl p).2.2 := by
 rcases fdAt_cases wl p with ⟨_, e⟩ | ⟨x, hx, _, e⟩
 ·rw [e]
  exact ⟨⟨fun p hp => by simp at hp, .inl rfl⟩, .inl rfl⟩
 ·rw [e]
  exact h x hx
theorem aim_ok {l : List Sit} {a : Acn} (h : (aimR l a).2 = 0) : (wellM l a.pl).2 = 0 := by
 unfold aimR at h
 split at h
 ·assumption
 ·exact h
def fiV (b B m c : Nat) (a : Acn) (mo : Int) (fw : F.Fd) (ps : List F.Pc) (e1 : Int) (d : Nat) (v : Value) (w : World) : Prop :=
 match d with
 | 31 | 32 => v = .pointer (some ⟨b, 0, none⟩)
 | 33 => v = .pointer (some ⟨b, 4, none⟩)
 | 34 => v = .map (some m)
 | 35 => v = .pointer (some ⟨B, 1, none⟩)
 | 36 => v = .agg #[.int .i64 a.pl.1, .int .i64 a.pl.2.1, .int .i64 a.pl.2.2]
 | 37 => v = .slice fw.1 fw.2.2.length fw.2.1
 | 38 => v = .slice (some ⟨c, 0, none⟩) 1 1
 | 39 => v = .int .i64 mo
 | 40 | 30 => TF b m ps e1 v w
 | 41 | 9 => Fr b m ps v w
 | 42 | 6 => v = .int .i64 e1
 | _ => True
theorem fiV_mono (b B m c : Nat) (a : Acn) (mo : Int) (fw : F.Fd) (ps : List F.Pc) (e1 : Int) (d : Nat) (v : Value) (w w' : World) (h : fiV b B m c a mo fw ps e1 d v w) (hb : bw w w') : fiV b B m c a mo fw ps e1 d v w' := by
 unfold fiV at h ⊢
 split <;> simp only [] at h <;> first | exact h | exact h.later hb
theorem fill_any (wB w : World) (ao : Option Addr) (cap : Nat) (l : List Sit) (b m md : Nat) (s : Sta) (a : Acn) (hB : Bn wB w ao cap l b m md s) (hlab : a.label.size ≤ maxLen) :
  Calls Tryz.prog 176 #[ptr b, av a] w fun e w' => e = .returned (.int .i64 (fillA l s a).2) ∧ Bn wB w' ao cap l b m md (fillA l s a).1 := by
 have HBN := hdd hB;clear hB;obtain ⟨w0, hw0⟩ : ∃ w0, w0 = w.alloc (aobj a) := ⟨_, rfl⟩;have b0 : bw w w0 := by rw [hw0]; exact (brf).alloc (Nat.le_refl _) _
 have KA : Hid (Bk w.heap.size (acl a) w0) := by show Bk _ _ _; rw [hw0]; exact Bk.new w (acl a) 57 w.heap.size rfl
 have HB0 := hdd (HBN.out.next b0);have HW0 := hdd hw0;clear hw0 b0;obtain ⟨cw, aoH, capH, aoT, capT, K, hh, ht⟩ := HB0.out.bk;have KB : Hid (Bk b (bcs ao cap l md m cw s aoH capH aoT capT) w0) := K;have HH := hdd hh;have HT := hdd ht;have hbw : b < w.heap.size := by obtain ⟨_, _, _, _, _, K', _⟩ := HBN.out.bk; exact K'.1
 have hbn : b ≠ w.heap.size := by omega
 have lt0 := KB.out.1;clear K hh ht;clear lt0;have HLB := hdd hlab;clear hlab
 go_enter Tryz.func176, Tryz.ntmps176
 go_wp2_with fail
 rw [← HW0.out];refine (aim_any wB w0 ao cap l b m md s a HB0.out).mono ?_;rintro e w1 ⟨rfl, hb1⟩;have HBB := hdd (HB0.out.next hb1);have KA1 := hdd (KA.out.later hb1);have KB1 := hdd (KB.out.later hb1);have HH1 := hdd (HH.out.next hb1);have HT1 := hdd (HT.out.next hb1);have ltA := KA1.out.1;have ltB := KB1.out.1;clear hb1;obtain ⟨q0, q1, q2, q3, q4, q5, q6, q7⟩ := (KA1.out).c8;obtain ⟨⟨mo, e0⟩, hM⟩ : ∃ x, aimR l a = x := ⟨_, rfl⟩;have HA := hdd hM;rw [hM];clear hM
 by_cases he : e0 = 0
 ·subst he
  have HP : Hid (Wf3 a.pl) := wf_place HB0.out.hd (aim_ok (by rw [HA.out]))
  go_wp2_with fail
  have KC : Hid (Bk w1.heap.size [.string a.label, .int .i64 a.vol] (w1.alloc (.cells #[.string a.label, .int .i64 a.vol] 147))) := Bk.new w1 [.string a.label, .int .i64 a.vol] 147 w1.heap.size rfl;have HB2 : Hid (bw w1 (w1.alloc (.cells #[.string a.label, .int .i64 a.vol] 147))) := (brf).alloc (Nat.le_refl _) _
  have hpf : F.Fl (w1.alloc (.cells #[.string a.label, .int .i64 a.vol] 147)) (some ⟨w1.heap.size, 0, none⟩) [(a.label, a.vol)] := by
   refine ⟨fun p hp => by simp at hp; rw [hp]; exact HLB.out, .inr ⟨_, 0, rfl, KC.out.1, fun k hk => ?_⟩⟩;have : k = 0 := by simp at hk; exact hk
   subst this;exact ⟨KC.out.c 0 rfl, KC.out.c 1 rfl⟩
  have HPF := (show Hid _ from hpf);clear hpf;refine (F.check_any (some ⟨w1.heap.size, 0, none⟩) 1 [(a.label, a.vol)] _ HPF.out).mono ?_;rintro e w3 ⟨rfl, hb3⟩;have hb13 : bw w1 w3 := HB2.out.trans (hb3.mono HB2.out.size);have HB3 := hdd (HBB.out.next hb13);have KA3 := hdd (KA1.out.later hb13);have KB3 := hdd (KB1.out.later hb13);have HH3 := hdd (HH1.out.next hb13);have HT3 := hdd (HT1.out.next hb13);have HP3 : Hid (F.Fl w3 (some ⟨w1.heap.size, 0, none⟩) [(a.label, a.vol)]) := F.Fl.next HPF.out hb3;clear HPF HB2 KC hb13 hb3 HBB KA1 KB1 HH1 HT1 q0 q1 q2 q3 q4 q5 q6 q7;obtain ⟨e2, hcq⟩ : ∃ e2, F.fref [(a.label, a.vol)] = e2 := ⟨_, rfl⟩;have HCK := hdd hcq;rw [hcq];clear hcq
  by_cases hc : e2 = 0
  ·subst hc
   go_wp2_with fail
   rename_i KK hkk;have HKK := (show Hid _ from hkk);clear hkk;obtain ⟨wl, hwm, hwl, hfl⟩ := HB3.out.wells;obtain ⟨fw, hfw⟩ : ∃ x, fdAt wl a.pl = x := ⟨_, rfl⟩;have hff := flx_at hfl a.pl;rw [hfw] at hff;have HFF := hdd hff
   have HLK : Hid (∀ W, bw w3 W → (Instr.lookup 201 (.map (some m)) (plv a.pl) false).run Tryz.prog W = .ok (.slice fw.1 fw.2.2.length fw.2.1) W) := fun W hW => by
    have := (hwm.next hW).look HP.out;rw [hfw] at this;exact this
   have HWF : Hid (wellF s.wells a.pl = fw.2.2) := by show _ = _; rw [← hwl, ← fdAt_whp, hfw]
   have HWM := hdd hwm;have HWL := hdd hwl;have HFL := hdd hfl;have HML : Hid (m < w3.heap.size) := hwm.lt;obtain ⟨⟨ps, e1⟩, htq⟩ : ∃ x, togR fw.2.2 [(a.label, a.vol)] mo = x := ⟨_, rfl⟩;have HTQ := hdd htq
   have HTG : Hid (∀ W, bw w3 W → Calls Tryz.prog 209 #[.slice fw.1 fw.2.2.length fw.2.1, .slice (some ⟨w1.heap.size, 0, none⟩) 1 1, .int .i64 mo] W fun e w' => ∃ v, e = .returned v ∧ TF b m ps e1 v w' ∧ bw W w') := fun W hW => by
    have := tog_fr b m fw.1 (some ⟨w1.heap.size, 0, none⟩) fw.2.1 1 fw.2.2 [(a.label, a.vol)] mo W (HFF.out.next hW).1 (HP3.out.next hW) (Nat.lt_of_lt_of_le KB3.out.1 hW.size) (Nat.lt_of_lt_of_le HML.out hW.size);rw [HTQ.out] at this;exact this
   clear hwm hwl hfl hfw hff htq
   refine region_seqE 15 [zf,zf,zf,zf,zf,zf,zt,zf,zf,zt,zf,zf,zf,zf,zf,zf,zf,zf,zf,zf,zf,zf,zf,zf,zf,zf,zf,zf,zf,zf,zt,zt,zt,zt,zt,zt,zt,zt,zt,zt,zt,zt,zt,zf,zf,zf,zf,zf,zf,zf,zf]
    [(31, [], none), (32, [31], none), (33, [32], none), (34, [33], none), (35, [], none), (36, [35], none), (37, [34, 36], none), (38, [], none), (39, [], none), (40, [37, 38, 39], none), (30, [40], none), (41, [30], none), (42, [30], none), (9, [41], none), (6, [42], none)]
    (fiV b w.heap.size m w1.heap.size a mo fw ps e1) (by kernel_rfl) (by kernel_rfl) (by kernel_rfl) (by kernel_rfl) (by kernel_rfl) (by decide) (fiV_mono b w.heap.size m w1.heap.size a mo fw ps e1) ?_ ?_
   ·refine ⟨?_, ?_, ?_, ?_, ?_, ?_, ?_, ?_, ?_, ?_, ?_, ?_, ?_, ?_, ?_, trivial⟩
    any_goals first | (intro f w1 hb _ K hK; simp only [over, overL]; go_simp; exact hK _ _ ⟨_, rfl, by simp only [over, overL]; rfl, brf⟩) | fail
    ·rintro f w1 hb ⟨(h31 : f 31 = _), _⟩ K hK
     simp only [over, overL, h31];go_simp;exact hK _ _ ⟨_, rfl, by simp only [over, overL, h31]; rfl, brf⟩
    ·rintro f w1 hb ⟨(h32 : f 32 = _), _⟩ K hK
     simp only [over, overL, h32];go_simp;exact hK _ _ ⟨_, rfl, by simp only [over, overL, h32]; rfl, brf⟩
    ·rintro f w1 hb ⟨(h33 : f 33 = _), _⟩ K hK
     have q4 := (KB3.out.later hb).c 4 rfl;simp only [over, overL, h33];go_simp;exact hK _ _ ⟨_, rfl, by simp only [over, overL, h33]; rfl, brf⟩
    ·rintro f w1 hb ⟨(h35 : f 35 = _), _⟩ K hK
     have q1 := (KA3.out.later hb).c 1 rfl;have q2 := (KA3.out.later hb).c 2 rfl;have q3 := (KA3.out.later hb).c 3 rfl;simp only [over, overL, h35];go_simp;exact hK _ _ ⟨_, rfl, by simp only [over, overL, h35]; rfl, brf⟩
    ·rintro f w1 hb ⟨(h34 : f 34 = _), (h36 : f 36 = _), _⟩ K hK
     have ql := HLK.out w1 hb;simp only [over, overL, h34, h36];go_simp;exact hK _ _ ⟨_, rfl, by simp only [over, overL, h34, h36]; rfl, brf⟩
    ·rintro f w1 hb ⟨(h37 : f 37 = _), (h38 : f 38 = _), (h39 : f 39 = _), _⟩ K hK
     simp only [over, overL, h37, h38, h39];go_simp;refine ((HTG.out w1 hb).mono) ?_;rintro e w2 ⟨x, rfl, ht, hb2⟩;exact hK _ _ ⟨_, ht, by simp only [over, overL, h37, h38, h39]; rfl, hb2⟩
    ·intro f w1 hb ⟨h40, _⟩ K hK
     simp only [over, overL];go_simp;exact hK _ _ ⟨_, h40, by simp only [over, overL]; rfl, brf⟩
    ·intro f w1 hb ⟨h30, _⟩ K hK
     obtain ⟨x, h30, hx⟩ := h30;simp only [over, overL, h30];go_simp;exact hK _ _ ⟨_, hx, by simp only [over, overL, h30]; rfl, brf⟩
    ·intro f w1 hb ⟨h30, _⟩ K hK
     obtain ⟨x, h30, hx⟩ := h30;simp only [over, overL, h30];go_simp;exact hK _ _ ⟨_, rfl, by simp only [over, overL, h30]; rfl, brf⟩
    ·intro f w1 hb ⟨h41, _⟩ K hK
     simp only [over, overL];go_simp;exact hK _ _ ⟨_, h41, by simp only [over, overL]; rfl, brf⟩
    ·rintro f w1 hb ⟨(h42 : f 42 = _), _⟩ K hK
     simp only [over, overL, h42];go_simp;exact hK _ _ ⟨_, rfl, by simp only [over, overL, h42]; rfl, brf⟩
   intro f w4 hb hv;have h6 : f 6 = _ := hv.2.2.2.2.2.2.2.2.2.2.2.2.2.2.1;have h9 : Fr b m ps (f 9) w4 := hv.2.2.2.2.2.2.2.2.2.2.2.2.2.1;obtain ⟨aof, capf, h9, hf⟩ := h9;have HF4 := hdd hf;have HB4 := hdd (HB3.out.next hb);have KA4 := hdd (KA3.out.later hb);have KB4 := hdd (KB3.out.later hb);have HH4 := hdd (HH3.out.next hb);have HT4 := hdd (HT3.out.next hb);have HWM4 := hdd (HWM.out.next hb);have HFL4 : Hid (∀ x ∈ wl, Flx b m w4 x.2.1 x.2.2.2) := fun x hx => (HFL.out x hx).next hb;clear hv hb hf HB3 KA3 KB3 HH3 HT3 HWM HFL HFF HLK HTG HP3;simp only [List.drop, over, overL, h6, h9];clear h6 h9;go_wp2;refine HKK.out _ _ ?_;obtain ⟨q0, q1, q2, q3, q4, q5, q6, q7⟩ := (KA4.out).c8
   by_cases h1 : e1 = 0
   ·subst h1
    have HQ : Hid (fillA l s a = ({ s with wells := wset s.wells a.pl ps }, 0)) := by
     show _ = _;simp only [fillA, HA.out, HWF.out, HCK.out, HTQ.out];simp
    obtain ⟨hon, hfew⟩ := HB4.out.once HWL.out
    go_wp2_with fail
    refine (keep_any b m _ _ _ _ _ _ _ _ _ _ _ wl a.pl aof capf ps w4 KB4.out HWM4.out hon hfew HP.out).mono ?_;rintro e w5 ⟨rfl, hwm, hg⟩;have HWM5 := hdd hwm;have HG := hdd hg;clear hwm hg hon hfew q0 q1 q2 q3 q4 q5 q6 q7;go_wp2;go_ret;have hmay := (may_fill HB4.out.may (by rw [HQ.out] : (fillA l s a).2 = 0)).1;rw [HQ.out] at hmay ⊢;have hbut : But b m w4 w5 := but_grown HG.out;exact ⟨rfl, HB4.out.keptTo HWL.out HFL4.out hbut HWM5.out (HF4.out.but hbut) hmay rfl (cw := cw) (KB4.out.same HG.out.size (HG.out.block b KB4.out.1 (by simpa using HB4.out.ne.1))) (HH4.out.but hbut) (HT4.out.but hbut)⟩
   ·have h2 : (e1 == 0) = false := by simp [h1]
    have h3 : (e1 != 0) = true := by simp [h1]
    have HQ : Hid (fillA l s a = (s, e1)) := by
     show _ = _;simp only [fillA, HA.out, HWF.out, HCK.out, HTQ.out];simp [h1]
    clear h1;go_wp2;go_ret;exact ⟨by rw [HQ.out]; rfl, by rw [HQ.out]; exact HB4.out⟩
  ·have h2 : (e2 == 0) = false := by simp [hc]
   have h3 : (e2 != 0) = true := by simp [hc]
   have HQ : Hid (fillA l s a = (s, e2)) := by
    show _ = _;simp only [fillA, HA.out, HCK.out];simp [hc]
   clear hc;go_wp2;go_ret;exact ⟨by rw [HQ.out]; rfl, by rw [HQ.out]; exact HB3.out⟩
 ·have h2 : (e0 == 0) = false := by simp [he]
  have h3 : (e0 != 0) = true := by simp [he]
  have HQ : Hid (fillA l s a = (s, e0)) := by
   show _ = _;simp only [fillA, HA.out];simp [he]
  clear he;go_wp2;go_ret;exact ⟨by rw [HQ.out]; rfl, by rw [HQ.out]; exact HBB.out⟩
def puV (b B m : Nat) (s : Sta) (a : Acn) (aoH : Option Addr) (capH : Nat) (gs ls : List F.Pc) (e2 : Int) (d : Nat) (v : Value) (w : World) : Prop :=
 match d with
 | 26 | 27 => v = .pointer (some ⟨b, 0, none⟩)
 | 28 => v = .pointer (some ⟨b, 5, none⟩)
 | 29 => v = .pointer (some ⟨b, 7, none⟩)
 | 30 => v = .slice aoH s.held.length capH
 | 31 => v = .pointer (some ⟨B, 5, none⟩)
 | 32 => v = .int .i64 a.vol
 | 33 | 25 => TG3 b m gs ls e2 v w
 | 34 | 7 => Fr b m gs v w
 | 35 | 8 => Fr b m ls v w
 | 36 | 6 => v = .int .i64 e2
 | _ => True
theorem puV_mono (b B m : Nat) (s : Sta) (a : Acn) (aoH : Option Addr) (capH : Nat) (gs ls : List F.Pc) (e2 : Int) (d : Nat) (v : Value) (w w' : World) (h : puV b B m s a aoH capH gs ls e2 d v w) (hb : bw w w') : puV b B m s a aoH capH gs ls e2 d v w' := by
 unfold puV at h ⊢
 split <;> simp only [] at h <;> first | exact h | exact h.later hb
def pvV (b B m : Nat) (a : Acn) (mo : Int) (aog : Option Addr) (capg : Nat) (gs : List F.Pc) (fw : F.Fd) (ps : List F.Pc) (e1 : Int) (d : Nat) (v : Value) (w : World) : Prop :=
 match d with
 | 41 | 42 => v = .pointer (some ⟨b, 0, none⟩)
 | 43 => v = .pointer (some ⟨b, 4, none⟩)
 | 44 => v = .map (some m)
 | 45 => v = .pointer (some ⟨B, 1, none⟩)
 | 46 => v = .agg #[.int .i64 a.pl.1, .int .i64 a.pl.2.1, .int .i64 a.pl.2.2]
 | 47 => v = .slice fw.1 fw.2.2.length fw.2.1
 | 48 => v = .slice aog gs.length capg
 | 49 => v = .int .i64 mo
 | 50 | 40 => TF b m ps e1 v w
 | 51 | 9 => Fr b m ps v w
 | 52 | 6 => v = .int .i64 e1
 | _ => True
theorem pvV_mono (b B m : Nat) (a : Acn) (mo : Int) (aog : Option Addr) (capg : Nat) (gs : List F.Pc) (fw : F.Fd) (ps : List F.Pc) (e1 : Int) (d : Nat) (v : Value) (w w' : World) (h : pvV b B m a mo aog capg gs fw ps e1 d v w) (hb : bw w w') : pvV b B m a mo aog capg gs fw ps e1 d v w' := by
 unfold pvV at h ⊢
 split <;> simp only [] at h <;> first | exact h | exact h.later hb
theorem put_any (wB w : World) (ao : Option Addr) (cap : Nat) (l : List Sit) (b m md : Nat) (s : Sta) (a : Acn) (hB : Bn wB w ao cap l b m md s) :
  Calls Tryz.prog 180 #[ptr b, av a] w fun e w' => e = .returned (.int .i64 (putA l s a).2) ∧ Bn wB w' ao cap l b m md (putA l s a).1 := by
 have HBN := hdd hB;clear hB;obtain ⟨w0, hw0⟩ : ∃ w0, w0 = w.alloc (aobj a) := ⟨_, rfl⟩;have b0 : bw w w0 := by rw [hw0]; exact (brf).alloc (Nat.le_refl _) _
 have KA : Hid (Bk w.heap.size (acl a) w0) := by show Bk _ _ _; rw [hw0]; exact Bk.new w (acl a) 57 w.heap.size rfl
 have HB0 := hdd (HBN.out.next b0);have HW0 := hdd hw0;clear hw0 b0;obtain ⟨cw, aoH, capH, aoT, capT, K, hh, ht⟩ := HB0.out.bk;have KB : Hid (Bk b (bcs ao cap l md m cw s aoH capH aoT capT) w0) := K;have HH := hdd hh;have HT := hdd ht;have hbw : b < w.heap.size := by obtain ⟨_, _, _, _, _, K', _⟩ := HBN.out.bk; exact K'.1
 have hbn : b ≠ w.heap.size := by omega
 have lt0 := KB.out.1;clear K hh ht;clear lt0
 go_enter Tryz.func180, Tryz.ntmps180
 go_wp2_with fail
 rw [← HW0.out];refine (aim_any wB w0 ao cap l b m md s a HB0.out).mono ?_;rintro e w1 ⟨rfl, hb1⟩;have HBn0 := HB0;have KA0 := KA;have KB0 := KB;have HH0 := HH;have HT0 := HT;have HBn1 := hdd (HBn0.out.next hb1);have KA1 := hdd (KA0.out.later hb1);have KB1 := hdd (KB0.out.later hb1);have HH1 := hdd (HH0.out.next hb1);have HT1 := hdd (HT0.out.next hb1);clear HBn0 KA0 KB0 HH0 HT0;have hbo1 : b < w1.heap.size := KB1.out.1;clear hb1 HB0 KA KB HH HT;obtain ⟨⟨mo, e0⟩, hM⟩ : ∃ x, aimR l a = x := ⟨_, rfl⟩;have HA := hdd hM;rw [hM];clear hM
 by_cases he : e0 = 0
 case neg =>
  have h2 : (e0 == 0) = false := by simp [he]
  have h3 : (e0 != 0) = true := by simp [he]
  have HQ : Hid (putA l s a = (s, e0)) := by
   show _ = _;simp only [putA, HA.out];simp [he]
  clear he;go_wp2;go_ret;exact ⟨by rw [HQ.out]; rfl, by rw [HQ.out]; exact HBn1.out⟩
 subst he;have HP : Hid (Wf3 a.pl) := wf_place HBn1.out.hd (aim_ok (by rw [HA.out]))
 cases htp : s.tip with
 | false =>
  have HQ : Hid (putA l s a = (s, 12)) := by
   show _ = _;simp only [putA, HA.out, htp];simp
  obtain ⟨k0, k1, k2, k3, k4, k5, k6, k7, k8, k9, k10, k11⟩ := (KB1.out).c12;rw [htp] at k6;go_wp2;go_ret;exact ⟨by rw [HQ.out]; rfl, by rw [HQ.out]; exact HBn1.out⟩
 | true =>
  obtain ⟨u1, u2, u3, u4⟩ := tip_parts HBn1.out.may htp;have HTP := hdd htp;have HTT : Hid (s.touched.length ≤ 100 ∧ ∀ p ∈ drops s.touched, p.1.size ≤ maxLen) := ⟨(mayTouch_iff.1 u4).1, F.fine_size (withR_iff.1 (mayTouch_iff.1 u4).2.2).2.1⟩;clear u1 u2 u3 u4;obtain ⟨k0, k1, k2, k3, k4, k5, k6, k7, k8, k9, k10, k11⟩ := (KB1.out).c12;rw [htp] at k6;clear htp
  go_wp2_with fail
  rename_i KK hkk;have HKK := (show Hid _ from hkk);clear hkk;obtain ⟨⟨gs, ls, e2⟩, hdq⟩ : ∃ x, F.drawF a.vol s.held = x := ⟨_, rfl⟩;have HDQ := hdd hdq;have HML0 : Hid (m < w1.heap.size) := by obtain ⟨wl, hwm, _, _⟩ := HBn1.out.wells; exact hwm.lt
  have HDR : Hid (∀ W, bw w1 W → Calls Tryz.prog 211 #[.slice aoH s.held.length capH, .int .i64 a.vol] W fun e w' => ∃ x, e = .returned x ∧ TG3 b m gs ls e2 x w' ∧ bw W w') := fun W hW => by
   have := draw_fr b m aoH capH s.held a.vol W (HH1.out.next hW).1 (Nat.lt_of_lt_of_le KB1.out.1 hW.size) (Nat.lt_of_lt_of_le HML0.out hW.size);rw [HDQ.out] at this;exact this
  clear hdq k0 k1 k2 k3 k4 k5 k6 k7 k8 k9 k10 k11
  refine region_seqE 15 [zf,zf,zf,zf,zf,zf,zt,zt,zt,zf,zf,zf,zf,zf,zf,zf,zf,zf,zf,zf,zf,zf,zf,zf,zf,zt,zt,zt,zt,zt,zt,zt,zt,zt,zt,zt,zt,zf,zf,zf,zf,zf,zf,zf,zf,zf,zf,zf,zf,zf,zf,zf,zf,zf,zf,zf,zf,zf,zf,zf,zf,zf,zf,zf,zf,zf]
   [(26, [], none), (27, [26], none), (28, [27], none), (29, [28], none), (30, [29], none), (31, [], none), (32, [31], none), (33, [30, 32], none), (25, [33], none), (34, [25], none), (35, [25], none), (36, [25], none), (7, [34], none), (8, [35], none), (6, [36], none)]
   (puV b w.heap.size m s a aoH capH gs ls e2) (by kernel_rfl) (by kernel_rfl) (by kernel_rfl) (by kernel_rfl) (by kernel_rfl) (by decide) (puV_mono b w.heap.size m s a aoH capH gs ls e2) ?_ ?_
  ·refine ⟨?_, ?_, ?_, ?_, ?_, ?_, ?_, ?_, ?_, ?_, ?_, ?_, ?_, ?_, ?_, trivial⟩
   any_goals first | (intro f w1 hb _ K hK; simp only [over, overL]; go_simp; exact hK _ _ ⟨_, rfl, by simp only [over, overL]; rfl, brf⟩) | fail
   ·rintro f wA hb ⟨(h26 : f 26 = _), _⟩ K hK
    simp only [over, overL, h26];go_simp;exact hK _ _ ⟨_, rfl, by simp only [over, overL, h26]; rfl, brf⟩
   ·rintro f wA hb ⟨(h27 : f 27 = _), _⟩ K hK
    simp only [over, overL, h27];go_simp;exact hK _ _ ⟨_, rfl, by simp only [over, overL, h27]; rfl, brf⟩
   ·rintro f wA hb ⟨(h28 : f 28 = _), _⟩ K hK
    simp only [over, overL, h28];go_simp;exact hK _ _ ⟨_, rfl, by simp only [over, overL, h28]; rfl, brf⟩
   ·rintro f wA hb ⟨(h29 : f 29 = _), _⟩ K hK
    have q7 := (KB1.out.later hb).c 7 rfl;simp only [over, overL, h29];go_simp;exact hK _ _ ⟨_, rfl, by simp only [over, overL, h29]; rfl, brf⟩
   ·rintro f wA hb ⟨(h31 : f 31 = _), _⟩ K hK
    have q5 := (KA1.out.later hb).c 5 rfl;simp only [over, overL, h31];go_simp;exact hK _ _ ⟨_, rfl, by simp only [over, overL, h31]; rfl, brf⟩
   ·rintro f wA hb ⟨(h30 : f 30 = _), (h32 : f 32 = _), _⟩ K hK
    simp only [over, overL, h30, h32];go_simp;refine ((HDR.out wA hb).mono) ?_;rintro e w2 ⟨x, rfl, ht, hb2⟩;exact hK _ _ ⟨_, ht, by simp only [over, overL, h30, h32]; rfl, hb2⟩
   ·intro f wA hb ⟨h33, _⟩ K hK
    simp only [over, overL];go_simp;exact hK _ _ ⟨_, h33, by simp only [over, overL]; rfl, brf⟩
   ·intro f wA hb ⟨h25, _⟩ K hK
    obtain ⟨x, y, h25, hx, hy⟩ := h25;simp only [over, overL, h25];go_simp;exact hK _ _ ⟨_, hx, by simp only [over, overL, h25]; rfl, brf⟩
   ·intro f wA hb ⟨h25, _⟩ K hK
    obtain ⟨x, y, h25, hx, hy⟩ := h25;simp only [over, overL, h25];go_simp;exact hK _ _ ⟨_, hy, by simp only [over, overL, h25]; rfl, brf⟩
   ·intro f wA hb ⟨h25, _⟩ K hK
    obtain ⟨x, y, h25, hx, hy⟩ := h25;simp only [over, overL, h25];go_simp;exact hK _ _ ⟨_, rfl, by simp only [over, overL, h25]; rfl, brf⟩
   ·intro f wA hb ⟨h34, _⟩ K hK
    simp only [over, overL];go_simp;exact hK _ _ ⟨_, h34, by simp only [over, overL]; rfl, brf⟩
   ·intro f wA hb ⟨h35, _⟩ K hK
    simp only [over, overL];go_simp;exact hK _ _ ⟨_, h35, by simp only [over, overL]; rfl, brf⟩
   ·rintro f wA hb ⟨(h36 : f 36 = _), _⟩ K hK
    simp only [over, overL, h36];go_simp;exact hK _ _ ⟨_, rfl, by simp only [over, overL, h36]; rfl, brf⟩
  intro f w2 hb hv;have h6 : f 6 = _ := hv.2.2.2.2.2.2.2.2.2.2.2.2.2.2.1;have h7 : Fr b m gs (f 7) w2 := hv.2.2.2.2.2.2.2.2.2.2.2.2.1;have h8 : Fr b m ls (f 8) w2 := hv.2.2.2.2.2.2.2.2.2.2.2.2.2.1;obtain ⟨aog, capg, h7, hg⟩ := h7;obtain ⟨aol, capl, h8, hl⟩ := h8;have HGS2 := hdd hg;have HLS2 := hdd hl;have HBn2 := hdd (HBn1.out.next hb);have KA2 := hdd (KA1.out.later hb);have KB2 := hdd (KB1.out.later hb);have HH2 := hdd (HH1.out.next hb);have HT2 := hdd (HT1.out.next hb);clear HBn1 KA1 KB1 HH1 HT1;clear hv hb hg hl HDR HML0;simp only [List.drop, over, overL, h6, h7, h8];clear h6 h7 h8;go_wp2;refine HKK.out _ _ ?_;clear HKK
  by_cases hc : e2 = 0
  case neg =>
   have h2 : (e2 == 0) = false := by simp [hc]
   have h3 : (e2 != 0) = true := by simp [hc]
   have HQ : Hid (putA l s a = (s, e2)) := by
    show _ = _;simp only [putA, HA.out, HTP.out, HDQ.out];simp [hc]
   clear hc;go_wp2;go_ret;exact ⟨by rw [HQ.out]; rfl, by rw [HQ.out]; exact HBn2.out⟩
  subst hc
  go_wp2_with fail
  rename_i KK hkk;have HKK := (show Hid _ from hkk);clear hkk;obtain ⟨wl, hwm, hwl, hfl⟩ := HBn2.out.wells;obtain ⟨fw, hfw⟩ : ∃ x, fdAt wl a.pl = x := ⟨_, rfl⟩;have hff := flx_at hfl a.pl;rw [hfw] at hff;have HFF2 := hdd hff
  have HLK : Hid (∀ W, bw w2 W → (Instr.lookup 201 (.map (some m)) (plv a.pl) false).run Tryz.prog W = .ok (.slice fw.1 fw.2.2.length fw.2.1) W) := fun W hW => by
   have := (hwm.next hW).look HP.out;rw [hfw] at this;exact this
  have HWF : Hid (wellF s.wells a.pl = fw.2.2) := by show _ = _; rw [← hwl, ← fdAt_whp, hfw]
  have HWM2 := hdd hwm;have HWL := hdd hwl;have HFL2 := hdd hfl;have HML : Hid (m < w2.heap.size) := hwm.lt;clear hwm hwl hfl hfw hff;obtain ⟨⟨ps, e1⟩, htq⟩ : ∃ x, togR fw.2.2 gs mo = x := ⟨_, rfl⟩;have HTQ := hdd htq
  have HTG : Hid (∀ W, bw w2 W → Calls Tryz.prog 209 #[.slice fw.1 fw.2.2.length fw.2.1, .slice aog gs.length capg, .int .i64 mo] W fun e w' => ∃ v, e = .returned v ∧ TF b m ps e1 v w' ∧ bw W w') := fun W hW => by
   have := tog_fr b m fw.1 aog fw.2.1 capg fw.2.2 gs mo W (HFF2.out.next hW).1 (HGS2.out.next hW).1 (Nat.lt_of_lt_of_le KB2.out.1 hW.size) (Nat.lt_of_lt_of_le HML.out hW.size);rw [HTQ.out] at this;exact this
  clear htq
  refine region_seqE 15 [zf,zf,zf,zf,zf,zf,zt,zf,zf,zt,zf,zf,zf,zf,zf,zf,zf,zf,zf,zf,zf,zf,zf,zf,zf,zf,zf,zf,zf,zf,zf,zf,zf,zf,zf,zf,zf,zf,zf,zf,zt,zt,zt,zt,zt,zt,zt,zt,zt,zt,zt,zt,zt,zf,zf,zf,zf,zf,zf,zf,zf,zf,zf,zf,zf,zf]
   [(41, [], none), (42, [41], none), (43, [42], none), (44, [43], none), (45, [], none), (46, [45], none), (47, [44, 46], none), (48, [], none), (49, [], none), (50, [47, 48, 49], none), (40, [50], none), (51, [40], none), (52, [40], none), (9, [51], none), (6, [52], none)]
   (pvV b w.heap.size m a mo aog capg gs fw ps e1) (by kernel_rfl) (by kernel_rfl) (by kernel_rfl) (by kernel_rfl) (by kernel_rfl) (by decide) (pvV_mono b w.heap.size m a mo aog capg gs fw ps e1) ?_ ?_
  ·refine ⟨?_, ?_, ?_, ?_, ?_, ?_, ?_, ?_, ?_, ?_, ?_, ?_, ?_, ?_, ?_, trivial⟩
   any_goals first | (intro f w1 hb _ K hK; simp only [over, overL]; go_simp; exact hK _ _ ⟨_, rfl, by simp only [over, overL]; rfl, brf⟩) | fail
   ·rintro f wA hb ⟨(h41 : f 41 = _), _⟩ K hK
    simp only [over, overL, h41];go_simp;exact hK _ _ ⟨_, rfl, by simp only [over, overL, h41]; rfl, brf⟩
   ·rintro f wA hb ⟨(h42 : f 42 = _), _⟩ K hK
    simp only [over, overL, h42];go_simp;exact hK _ _ ⟨_, rfl, by simp only [over, overL, h42]; rfl, brf⟩
   ·rintro f wA hb ⟨(h43 : f 43 = _), _⟩ K hK
    have q4 := (KB2.out.later hb).c 4 rfl;simp only [over, overL, h43];go_simp;exact hK _ _ ⟨_, rfl, by simp only [over, overL, h43]; rfl, brf⟩
   ·rintro f wA hb ⟨(h45 : f 45 = _), _⟩ K hK
    have q1 := (KA2.out.later hb).c 1 rfl;have q2 := (KA2.out.later hb).c 2 rfl;have q3 := (KA2.out.later hb).c 3 rfl;simp only [over, overL, h45];go_simp;exact hK _ _ ⟨_, rfl, by simp only [over, overL, h45]; rfl, brf⟩
   ·rintro f wA hb ⟨(h44 : f 44 = _), (h46 : f 46 = _), _⟩ K hK
    have ql := HLK.out wA hb;simp only [over, overL, h44, h46];go_simp;exact hK _ _ ⟨_, rfl, by simp only [over, overL, h44, h46]; rfl, brf⟩
   ·rintro f wA hb ⟨(h47 : f 47 = _), (h48 : f 48 = _), (h49 : f 49 = _), _⟩ K hK
    simp only [over, overL, h47, h48, h49];go_simp;refine ((HTG.out wA hb).mono) ?_;rintro e w2 ⟨x, rfl, ht, hb2⟩;exact hK _ _ ⟨_, ht, by simp only [over, overL, h47, h48, h49]; rfl, hb2⟩
   ·intro f wA hb ⟨h50, _⟩ K hK
    simp only [over, overL];go_simp;exact hK _ _ ⟨_, h50, by simp only [over, overL]; rfl, brf⟩
   ·intro f wA hb ⟨h40, _⟩ K hK
    obtain ⟨x, h40, hx⟩ := h40;simp only [over, overL, h40];go_simp;exact hK _ _ ⟨_, hx, by simp only [over, overL, h40]; rfl, brf⟩
   ·intro f wA hb ⟨h40, _⟩ K hK
    obtain ⟨x, h40, hx⟩ := h40;simp only [over, overL, h40];go_simp;exact hK _ _ ⟨_, rfl, by simp only [over, overL, h40]; rfl, brf⟩
   ·intro f wA hb ⟨h51, _⟩ K hK
    simp only [over, overL];go_simp;exact hK _ _ ⟨_, h51, by simp only [over, overL]; rfl, brf⟩
   ·rintro f wA hb ⟨(h52 : f 52 = _), _⟩ K hK
    simp only [over, overL, h52];go_simp;exact hK _ _ ⟨_, rfl, by simp only [over, overL, h52]; rfl, brf⟩
  intro f w3 hb hv;have h6 : f 6 = _ := hv.2.2.2.2.2.2.2.2.2.2.2.2.2.2.1;have h9 : Fr b m ps (f 9) w3 := hv.2.2.2.2.2.2.2.2.2.2.2.2.2.1;obtain ⟨aof, capf, h9, hf⟩ := h9;have HF3 := hdd hf;have HBn3 := hdd (HBn2.out.next hb);have KA3 := hdd (KA2.out.later hb);have KB3 := hdd (KB2.out.later hb);have HH3 := hdd (HH2.out.next hb);have HT3 := hdd (HT2.out.next hb);have HWM3 := hdd (HWM2.out.next hb);have HFL3 : Hid (∀ x ∈ wl, Flx b m w3 x.2.1 x.2.2.2) := fun x hx => (HFL2.out x hx).next hb;have HLS3 := hdd (HLS2.out.next hb);clear HBn2 KA2 KB2 HH2 HT2 HWM2 HFL2 HLS2;clear hv hb hf HTG HLK HFF2 HGS2;simp only [List.drop, over, overL, h6, h9];clear h6 h9;go_wp2;refine HKK.out _ _ ?_;clear HKK
  by_cases h1 : e1 = 0
  case neg =>
   have h2 : (e1 == 0) = false := by simp [h1]
   have h3 : (e1 != 0) = true := by simp [h1]
   have HQ : Hid (putA l s a = (s, e1)) := by
    show _ = _;simp only [putA, HA.out, HTP.out, HDQ.out, HWF.out, HTQ.out];simp [h1]
   clear h1;go_wp2;go_ret;exact ⟨by rw [HQ.out]; rfl, by rw [HQ.out]; exact HBn3.out⟩
  subst h1
  have HQ : Hid (putA l s a = ({ s with wells := wset s.wells a.pl ps, held := ls }, 0)) := by
   show _ = _;simp only [putA, HA.out, HTP.out, HDQ.out, HWF.out, HTQ.out];simp
  obtain ⟨hon, hfew⟩ := HBn3.out.once HWL.out;obtain ⟨q0, q1, q2, q3, q4, q5, q6, q7⟩ := (KA3.out).c8
  go_wp2_with fail
  refine (keep_any b m _ _ _ _ _ _ _ _ _ _ _ wl a.pl aof capf ps w3 KB3.out HWM3.out hon hfew HP.out).mono ?_;rintro e w5 ⟨rfl, hwm, hg⟩;have HWM5 := hdd hwm;have HG := hdd hg;have KB5 := hdd (KB3.out.same hg.size (hg.block b KB3.out.1 (by simpa using HBn3.out.ne.1)));clear hwm hg hon hfew q0 q1 q2 q3 q4 q5 q6 q7;obtain ⟨k0, k1, k2, k3, k4, k5, k6, k7, k8, k9, k10, k11⟩ := (KB5.out).c12;obtain ⟨kf0, kf1, kf2, kf3, kf4, kf5, kf6, kf7, kf8, kf9, kf10, kf11⟩ := (KB5.out).f12;have lt5 := KB5.out.1;go_wp2;go_ret;have hmay := (may_put HBn3.out.may (by rw [HQ.out] : (putA l s a).2 = 0)).1;rw [HQ.out] at hmay ⊢;have hbut : But b m w3 (w5.setCell ⟨b, 7, none⟩ (.slice aol ls.length capl)) := (but_grown HG.out).trans (but_set b m w5 7 _);have hmb : m ≠ b := fun e => HBn3.out.ne.1 e.symm;exact ⟨rfl, HBn3.out.keptTo HWL.out HFL3.out hbut (HWM5.out.same (Below.heap_setCell w5 ⟨b, 7, none⟩ _ m hmb)) (HF3.out.but hbut) hmay rfl (cw := cw) (aoH := aol) (capH := capl) (aoT := aoT) (capT := capT) (KB5.out.put 7 _) (HLS3.out.but hbut) (HT3.out.but hbut)⟩
def dwV (b B m : Nat) (a : Acn) (fw : F.Fd) (d : Nat) (v : Value) (_ : World) : Prop :=
 match d with
 | 29 | 30 => v = .pointer (some ⟨b, 0, none⟩)
 | 31 => v = .pointer (some ⟨b, 4, none⟩)
 | 32 => v = .map (some m)
 | 33 => v = .pointer (some ⟨B, 1, none⟩)
 | 34 => v = .agg #[.int .i64 a.pl.1, .int .i64 a.pl.2.1, .int .i64 a.pl.2.2]
 | 35 | 7 => v = .slice fw.1 fw.2.2.length fw.2.1
 | _ => True
theorem dwV_mono (b B m : Nat) (a : Acn) (fw : F.Fd) (d : Nat) (v : Value) (w w' : World) (h : dwV b B m a fw d v w) (_ : bw w w') : dwV b B m a fw d v w' := h
def dxV (b m : Nat) (l : List Sit) (s : Sta) (aoH : Option Addr) (capH : Nat) (aog : Option Addr) (capg : Nat) (gs : List F.Pc) (ps : List F.Pc) (e1 : Int) (d : Nat) (v : Value) (w : World) : Prop :=
 match d with
 | 61 | 62 | 67 | 68 | 69 => v = .pointer (some ⟨b, 0, none⟩)
 | 63 => v = .pointer (some ⟨b, 5, none⟩)
 | 64 => v = .pointer (some ⟨b, 7, none⟩)
 | 65 => v = .slice aoH s.held.length capH
 | 66 => v = .slice aog gs.length capg
 | 70 => v = .pointer (some ⟨b, 2, none⟩)
 | 71 => v = .int .i64 (tipM l)
 | 72 | 60 => TF b m ps e1 v w
 | 73 | 13 => Fr b m ps v w
 | 74 | 10 => v = .int .i64 e1
 | _ => True
theorem dxV_mono (b m : Nat) (l : List Sit) (s : Sta) (aoH : Option Addr) (capH : Nat) (aog : Option Addr) (capg : Nat) (gs : List F.Pc) (ps : List F.Pc) (e1 : Int) (d : Nat) (v : Value) (w w' : World) (h : dxV b m l s aoH capH aog capg gs ps e1 d v w) (hb : bw w w') : dxV b m l s aoH capH aog capg gs ps e1 d v w' := by
 unfold dxV at h ⊢
 split <;> simp only [] at h <;> first | exact h | exact h.later hb
theorem draw_any (wB w : World) (ao : Option Addr) (cap : Nat) (l : List Sit) (b m md : Nat) (s : Sta) (a : Acn) (hB : Bn wB w ao cap l b m md s) :
  Calls Tryz.prog 179 #[ptr b, av a] w fun e w' => e = .returned (.int .i64 (drawA l s a).2) ∧ Bn wB w' ao cap l b m md (drawA l s a).1 := by
 have HBN := hdd hB;clear hB;obtain ⟨w0, hw0⟩ : ∃ w0, w0 = w.alloc (aobj a) := ⟨_, rfl⟩;have b0 : bw w w0 := by rw [hw0]; exact (brf).alloc (Nat.le_refl _) _
 have KA : Hid (Bk w.heap.size (acl a) w0) := by show Bk _ _ _; rw [hw0]; exact Bk.new w (acl a) 57 w.heap.size rfl
 have HB0 := hdd (HBN.out.next b0);have HW0 := hdd hw0;clear hw0 b0;obtain ⟨cw, aoH, capH, aoT, capT, K, hh, ht⟩ := HB0.out.bk;have KB : Hid (Bk b (bcs ao cap l md m cw s aoH capH aoT capT) w0) := K;have HH := hdd hh;have HT := hdd ht;have hbw : b < w.heap.size := by obtain ⟨_, _, _, _, _, K', _⟩ := HBN.out.bk; exact K'.1
 have hbn : b ≠ w.heap.size := by omega
 have lt0 := KB.out.1;clear K hh ht;clear lt0
 go_enter Tryz.func179, Tryz.ntmps179
 go_wp2_with fail
 rw [← HW0.out];refine (aim_any wB w0 ao cap l b m md s a HB0.out).mono ?_;rintro e w1 ⟨rfl, hb1⟩;have HBn0 := HB0;have KA0 := KA;have KB0 := KB;have HH0 := HH;have HT0 := HT;have HBn1 := hdd (HBn0.out.next hb1);have KA1 := hdd (KA0.out.later hb1);have KB1 := hdd (KB0.out.later hb1);have HH1 := hdd (HH0.out.next hb1);have HT1 := hdd (HT0.out.next hb1);clear HBn0 KA0 KB0 HH0 HT0;have hbo1 : b < w1.heap.size := KB1.out.1;clear hb1 HB0 KA KB HH HT;obtain ⟨⟨mo, e0⟩, hM⟩ : ∃ x, aimR l a = x := ⟨_, rfl⟩;have HA := hdd hM;rw [hM];clear hM
 by_cases he : e0 = 0
 case neg =>
  have h2 : (e0 == 0) = false := by simp [he]
  have h3 : (e0 != 0) = true := by simp [he]
  have HQ : Hid (drawA l s a = (s, e0)) := by
   show _ = _;simp only [drawA, HA.out];simp [he]
  clear he;go_wp2;go_ret;exact ⟨by rw [HQ.out]; rfl, by rw [HQ.out]; exact HBn1.out⟩
 subst he;have HP : Hid (Wf3 a.pl) := wf_place HBn1.out.hd (aim_ok (by rw [HA.out]))
 cases htp : s.tip with
 | false =>
  have HQ : Hid (drawA l s a = (s, 12)) := by
   show _ = _;simp only [drawA, HA.out, htp];simp
  obtain ⟨k0, k1, k2, k3, k4, k5, k6, k7, k8, k9, k10, k11⟩ := (KB1.out).c12;rw [htp] at k6;go_wp2;go_ret;exact ⟨by rw [HQ.out]; rfl, by rw [HQ.out]; exact HBn1.out⟩
 | true =>
  obtain ⟨u1, u2, u3, u4⟩ := tip_parts HBn1.out.may htp;have HTP := hdd htp;have HTT : Hid (s.touched.length ≤ 100 ∧ ∀ p ∈ drops s.touched, p.1.size ≤ maxLen) := ⟨(mayTouch_iff.1 u4).1, F.fine_size (withR_iff.1 (mayTouch_iff.1 u4).2.2).2.1⟩;clear u1 u2 u3 u4;obtain ⟨k0, k1, k2, k3, k4, k5, k6, k7, k8, k9, k10, k11⟩ := (KB1.out).c12;rw [htp] at k6;clear htp
  go_wp2_with fail
  rename_i KK hkk;have HKK := (show Hid _ from hkk);clear hkk;obtain ⟨wl, hwm, hwl, hfl⟩ := HBn1.out.wells;obtain ⟨fw, hfw⟩ : ∃ x, fdAt wl a.pl = x := ⟨_, rfl⟩;have hff := flx_at hfl a.pl;rw [hfw] at hff;have HFF1 := hdd hff
  have HLK : Hid (∀ W, bw w1 W → (Instr.lookup 201 (.map (some m)) (plv a.pl) false).run Tryz.prog W = .ok (.slice fw.1 fw.2.2.length fw.2.1) W) := fun W hW => by
   have := (hwm.next hW).look HP.out;rw [hfw] at this;exact this
  have HWF : Hid (wellF s.wells a.pl = fw.2.2) := by show _ = _; rw [← hwl, ← fdAt_whp, hfw]
  have HWM1 := hdd hwm;have HWL := hdd hwl;have HFL1 := hdd hfl;have HML : Hid (m < w1.heap.size) := hwm.lt;clear hwm hwl hfl hfw hff;clear k0 k1 k2 k3 k4 k5 k6 k7 k8 k9 k10 k11
  refine region_seqE 8 [zf,zf,zf,zf,zf,zf,zf,zt,zf,zf,zf,zf,zf,zf,zf,zf,zf,zf,zf,zf,zf,zf,zf,zf,zf,zf,zf,zf,zf,zt,zt,zt,zt,zt,zt,zt,zf,zf,zf,zf,zf,zf,zf,zf,zf,zf,zf,zf,zf,zf,zf,zf,zf,zf,zf,zf,zf,zf,zf,zf,zf,zf,zf,zf,zf,zf,zf,zf,zf,zf,zf,zf,zf,zf,zf,zf,zf,zf,zf,zf,zf,zf,zf,zf,zf,zf,zf,zf,zf,zf,zf,zf,zf,zf]
   [(29, [], none), (30, [29], none), (31, [30], none), (32, [31], none), (33, [], none), (34, [33], none), (35, [32, 34], none), (7, [35], none)]
   (dwV b w.heap.size m a fw) (by kernel_rfl) (by kernel_rfl) (by kernel_rfl) (by kernel_rfl) (by kernel_rfl) (by decide) (dwV_mono b w.heap.size m a fw) ?_ ?_
  ·refine ⟨?_, ?_, ?_, ?_, ?_, ?_, ?_, ?_, trivial⟩
   any_goals first | (intro f w1 hb _ K hK; simp only [over, overL]; go_simp; exact hK _ _ ⟨_, rfl, by simp only [over, overL]; rfl, brf⟩) | fail
   ·rintro f wA hb ⟨(h29 : f 29 = _), _⟩ K hK
    simp only [over, overL, h29];go_simp;exact hK _ _ ⟨_, rfl, by simp only [over, overL, h29]; rfl, brf⟩
   ·rintro f wA hb ⟨(h30 : f 30 = _), _⟩ K hK
    simp only [over, overL, h30];go_simp;exact hK _ _ ⟨_, rfl, by simp only [over, overL, h30]; rfl, brf⟩
   ·rintro f wA hb ⟨(h31 : f 31 = _), _⟩ K hK
    have q4 := (KB1.out.later hb).c 4 rfl;simp only [over, overL, h31];go_simp;exact hK _ _ ⟨_, rfl, by simp only [over, overL, h31]; rfl, brf⟩
   ·rintro f wA hb ⟨(h33 : f 33 = _), _⟩ K hK
    have q1 := (KA1.out.later hb).c 1 rfl;have q2 := (KA1.out.later hb).c 2 rfl;have q3 := (KA1.out.later hb).c 3 rfl;simp only [over, overL, h33];go_simp;exact hK _ _ ⟨_, rfl, by simp only [over, overL, h33]; rfl, brf⟩
   ·rintro f wA hb ⟨(h32 : f 32 = _), (h34 : f 34 = _), _⟩ K hK
    have ql := HLK.out wA hb;simp only [over, overL, h32, h34];go_simp;exact hK _ _ ⟨_, rfl, by simp only [over, overL, h32, h34]; rfl, brf⟩
   ·rintro f wA hb ⟨(h35 : f 35 = _), _⟩ K hK
    simp only [over, overL, h35];go_simp;exact hK _ _ ⟨_, rfl, by simp only [over, overL, h35]; rfl, brf⟩
  intro f w2 hb hv;have h7 : f 7 = _ := hv.2.2.2.2.2.2.2.1;have HBn2 := hdd (HBn1.out.next hb);have KA2 := hdd (KA1.out.later hb);have KB2 := hdd (KB1.out.later hb);have HH2 := hdd (HH1.out.next hb);have HT2 := hdd (HT1.out.next hb);have HWM2 := hdd (HWM1.out.next hb);have HFL2 : Hid (∀ x ∈ wl, Flx b m w2 x.2.1 x.2.2.2) := fun x hx => (HFL1.out x hx).next hb;have HFF2 := hdd (HFF1.out.next hb);clear HBn1 KA1 KB1 HH1 HT1 HWM1 HFL1 HFF1;have HML2 : Hid (m < w2.heap.size) := Nat.lt_of_lt_of_le HML.out hb.size;clear hv hb HLK HML;simp only [List.drop, over, overL, h7];clear h7;go_wp2;refine HKK.out _ _ ?_;clear HKK;obtain ⟨⟨gs, ls, e2⟩, hdq⟩ : ∃ x, F.drawF a.vol fw.2.2 = x := ⟨_, rfl⟩;have HDQ := hdd hdq;clear hdq;obtain ⟨q0, q1, q2, q3, q4, q5, q6, q7⟩ := (KA2.out).c8
  go_wp2_with fail
  clear q0 q1 q2 q3 q4 q5 q6 q7;refine (draw_fr b m fw.1 fw.2.1 fw.2.2 a.vol w2 HFF2.out.1 KB2.out.1 HML2.out).mono ?_;rw [HDQ.out];rintro e w3 ⟨_, rfl, ⟨_, _, rfl, ⟨aog, capg, rfl, hg⟩, ⟨aol, capl, rfl, hl⟩⟩, hb⟩;have HGS3 := hdd hg;have HLS3 := hdd hl;have HBn3 := hdd (HBn2.out.next hb);have KA3 := hdd (KA2.out.later hb);have KB3 := hdd (KB2.out.later hb);have HH3 := hdd (HH2.out.next hb);have HT3 := hdd (HT2.out.next hb);have HWM3 := hdd (HWM2.out.next hb);have HFL3 : Hid (∀ x ∈ wl, Flx b m w3 x.2.1 x.2.2.2) := fun x hx => (HFL2.out x hx).next hb;have HFF3 := hdd (HFF2.out.next hb);clear HBn2 KA2 KB2 HH2 HT2 HWM2 HFL2 HFF2;have HML3 : Hid (m < w3.heap.size) := Nat.lt_of_lt_of_le HML2.out hb.size;clear hb hg hl HML2;simp only at HGS3 HLS3 ⊢
  by_cases hc : e2 = 0
  case neg =>
   have h2 : (e2 == 0) = false := by simp [hc]
   have h3 : (e2 != 0) = true := by simp [hc]
   have HQ : Hid (drawA l s a = (s, e2)) := by
    show _ = _;simp only [drawA, HA.out, HTP.out, HWF.out, HDQ.out];simp [hc]
   clear hc;go_wp2;go_ret;exact ⟨by rw [HQ.out]; rfl, by rw [HQ.out]; exact HBn3.out⟩
  subst hc;obtain ⟨k0, k1, k2, k3, k4, k5, k6, k7, k8, k9, k10, k11⟩ := (KB3.out).c12
  go_wp2_with fail
  refine (drops_any aoT capT s.touched w3 HT3.out.1 HTT.out.1).mono ?_;rintro e w3a ⟨_, rfl, ho, hb⟩;obtain ⟨aod, capd, rfl, hd⟩ := fl_of ho HTT.out.2;have HDD := hdd hd;have HBn3a := hdd (HBn3.out.next hb);have KA3a := hdd (KA3.out.later hb);have KB3a := hdd (KB3.out.later hb);have HH3a := hdd (HH3.out.next hb);have HT3a := hdd (HT3.out.next hb);have HWM3a := hdd (HWM3.out.next hb);have HFL3a : Hid (∀ x ∈ wl, Flx b m w3a x.2.1 x.2.2.2) := fun x hx => (HFL3.out x hx).next hb;have HFF3a := hdd (HFF3.out.next hb);have HGS3a := hdd (HGS3.out.next hb);have HLS3a := hdd (HLS3.out.next hb);clear HBn3 KA3 KB3 HH3 HT3 HWM3 HFL3 HFF3 HGS3 HLS3;have HML3a : Hid (m < w3a.heap.size) := Nat.lt_of_lt_of_le HML3.out hb.size;clear hb ho hd HML3 k0 k1 k2 k3 k4 k5 k6 k7 k8 k9 k10 k11
  go_wp2_with fail
  refine (F.withinF_any aod fw.1 capd fw.2.1 (drops s.touched) fw.2.2 w3a HDD.out HFF3a.out.1).mono ?_;rintro e w4 ⟨rfl, hb⟩;have HBn4 := hdd (HBn3a.out.next hb);have KA4 := hdd (KA3a.out.later hb);have KB4 := hdd (KB3a.out.later hb);have HH4 := hdd (HH3a.out.next hb);have HT4 := hdd (HT3a.out.next hb);have HWM4 := hdd (HWM3a.out.next hb);have HFL4 : Hid (∀ x ∈ wl, Flx b m w4 x.2.1 x.2.2.2) := fun x hx => (HFL3a.out x hx).next hb;have HFF4 := hdd (HFF3a.out.next hb);have HGS4 := hdd (HGS3a.out.next hb);have HLS4 := hdd (HLS3a.out.next hb);clear HBn3a KA3a KB3a HH3a HT3a HWM3a HFL3a HFF3a HGS3a HLS3a;have HML4 : Hid (m < w4.heap.size) := Nat.lt_of_lt_of_le HML3a.out hb.size;clear hb HDD HML3a;obtain ⟨⟨cl, e3⟩, hwq⟩ : ∃ x, F.withR (drops s.touched) fw.2.2 = x := ⟨_, rfl⟩;have HWQ := hdd hwq;rw [hwq];clear hwq;simp only
  cases cl with
  | false =>
   have HQ : Hid (drawA l s a = (s, 11)) := by
    show _ = _;simp only [drawA, HA.out, HTP.out, HWF.out, HDQ.out, HWQ.out];simp
   go_wp2;go_ret;exact ⟨by rw [HQ.out]; rfl, by rw [HQ.out]; exact HBn4.out⟩
  | true =>
  go_wp2_with fail
  rename_i KK hkk;have HKK := (show Hid _ from hkk);clear hkk;obtain ⟨⟨ps, e1⟩, htq⟩ : ∃ x, togR s.held gs (tipM l) = x := ⟨_, rfl⟩;have HTQ := hdd htq
  have HTG : Hid (∀ W, bw w4 W → Calls Tryz.prog 209 #[.slice aoH s.held.length capH, .slice aog gs.length capg, .int .i64 (tipM l)] W fun e w' => ∃ v, e = .returned v ∧ TF b m ps e1 v w' ∧ bw W w') := fun W hW => by
   have := tog_fr b m aoH aog capH capg s.held gs (tipM l) W (HH4.out.next hW).1 (HGS4.out.next hW).1 (Nat.lt_of_lt_of_le KB4.out.1 hW.size) (Nat.lt_of_lt_of_le HML4.out hW.size);rw [HTQ.out] at this;exact this
  clear htq
  refine region_seqE 17 [zf,zf,zf,zf,zf,zf,zf,zf,zf,zf,zt,zf,zf,zt,zf,zf,zf,zf,zf,zf,zf,zf,zf,zf,zf,zf,zf,zf,zf,zf,zf,zf,zf,zf,zf,zf,zf,zf,zf,zf,zf,zf,zf,zf,zf,zf,zf,zf,zf,zf,zf,zf,zf,zf,zf,zf,zf,zf,zf,zf,zt,zt,zt,zt,zt,zt,zt,zt,zt,zt,zt,zt,zt,zt,zt,zf,zf,zf,zf,zf,zf,zf,zf,zf,zf,zf,zf,zf,zf,zf,zf,zf,zf,zf]
   [(61, [], none), (62, [61], none), (63, [62], none), (64, [63], none), (65, [64], none), (66, [], none), (67, [], none), (68, [67], none), (69, [68], none), (70, [69], none), (71, [70], none), (72, [65, 66, 71], none), (60, [72], none), (73, [60], none), (74, [60], none), (13, [73], none), (10, [74], none)]
   (dxV b m l s aoH capH aog capg gs ps e1) (by kernel_rfl) (by kernel_rfl) (by kernel_rfl) (by kernel_rfl) (by kernel_rfl) (by decide) (dxV_mono b m l s aoH capH aog capg gs ps e1) ?_ ?_
  ·refine ⟨?_, ?_, ?_, ?_, ?_, ?_, ?_, ?_, ?_, ?_, ?_, ?_, ?_, ?_, ?_, ?_, ?_, trivial⟩
   any_goals first | (intro f w1 hb _ K hK; simp only [over, overL]; go_simp; exact hK _ _ ⟨_, rfl, by simp only [over, overL]; rfl, brf⟩) | fail
   any_goals first | (intro f w1 hb hh K hK; have q := KB4.out.later hb; have q2 := q.c 2 rfl; have q7 := q.c 7 rfl; clear q; simp only [AllV, dxV] at hh; simp only [over, overL, hh]; go_simp; exact hK _ _ ⟨_, rfl, by simp only [over, overL, hh]; rfl, brf⟩) | fail
   ·rintro f wA hb ⟨(h65 : f 65 = _), (h66 : f 66 = _), (h71 : f 71 = _), _⟩ K hK
    simp only [over, overL, h65, h66, h71];go_simp;refine ((HTG.out wA hb).mono) ?_;rintro e w2 ⟨x, rfl, ht, hb2⟩;exact hK _ _ ⟨_, ht, by simp only [over, overL, h65, h66, h71]; rfl, hb2⟩
   ·intro f wA hb ⟨h72, _⟩ K hK
    simp only [over, overL];go_simp;exact hK _ _ ⟨_, h72, by simp only [over, overL]; rfl, brf⟩
   ·intro f wA hb ⟨h60, _⟩ K hK
    obtain ⟨x, h60, hx⟩ := h60;simp only [over, overL, h60];go_simp;exact hK _ _ ⟨_, hx, by simp only [over, overL, h60]; rfl, brf⟩
   ·intro f wA hb ⟨h60, _⟩ K hK
    obtain ⟨x, h60, hx⟩ := h60;simp only [over, overL, h60];go_simp;exact hK _ _ ⟨_, rfl, by simp only [over, overL, h60]; rfl, brf⟩
   ·intro f wA hb ⟨h73, _⟩ K hK
    simp only [over, overL];go_simp;exact hK _ _ ⟨_, h73, by simp only [over, overL]; rfl, brf⟩
  intro f w5 hb hv;have h10 : f 10 = _ := hv.2.2.2.2.2.2.2.2.2.2.2.2.2.2.2.2.1;have h13 : Fr b m ps (f 13) w5 := hv.2.2.2.2.2.2.2.2.2.2.2.2.2.2.2.1;obtain ⟨aof, capf, h13, hf⟩ := h13;have HF5 := hdd hf;have HBn5 := hdd (HBn4.out.next hb);have KA5 := hdd (KA4.out.later hb);have KB5 := hdd (KB4.out.later hb);have HH5 := hdd (HH4.out.next hb);have HT5 := hdd (HT4.out.next hb);have HWM5 := hdd (HWM4.out.next hb);have HFL5 : Hid (∀ x ∈ wl, Flx b m w5 x.2.1 x.2.2.2) := fun x hx => (HFL4.out x hx).next hb;have HFF5 := hdd (HFF4.out.next hb);have HGS5 := hdd (HGS4.out.next hb);have HLS5 := hdd (HLS4.out.next hb);clear HBn4 KA4 KB4 HH4 HT4 HWM4 HFL4 HFF4 HGS4 HLS4;clear hv hb hf HTG HML4;simp only [List.drop, over, overL, h10, h13];clear h10 h13;go_wp2;refine HKK.out _ _ ?_;clear HKK
  by_cases h1 : e1 = 0
  case neg =>
   have h2 : (e1 == 0) = false := by simp [h1]
   have h3 : (e1 != 0) = true := by simp [h1]
   have HQ : Hid (drawA l s a = (s, e1)) := by
    show _ = _;simp only [drawA, HA.out, HTP.out, HWF.out, HDQ.out, HWQ.out, HTQ.out];simp [h1]
   clear h1;go_wp2;go_ret;exact ⟨by rw [HQ.out]; rfl, by rw [HQ.out]; exact HBn5.out⟩
  subst h1
  have HQ : Hid (drawA l s a = ({ s with wells := wset s.wells a.pl ls, held := ps, touched := labsR fw.2.2 }, 0)) := by
   show _ = _;simp only [drawA, HA.out, HTP.out, HWF.out, HDQ.out, HWQ.out, HTQ.out];simp
  have HFR : Hid (F.fref fw.2.2 = 0) := (drawF_ok (by rw [HDQ.out] : (F.drawF a.vol fw.2.2).2.2 = 0)).1;obtain ⟨hon, hfew⟩ := HBn5.out.once HWL.out;obtain ⟨q0, q1, q2, q3, q4, q5, q6, q7⟩ := (KA5.out).c8
  go_wp2_with fail
  refine (keep_any b m _ _ _ _ _ _ _ _ _ _ _ wl a.pl aol capl ls w5 KB5.out HWM5.out hon hfew HP.out).mono ?_;rintro e w6 ⟨rfl, hwm, hg⟩;have hbut : But b m w5 w6 := but_grown hg;have HWM6 := hdd hwm;have KB6 := hdd (KB5.out.same hg.size (hg.block b KB5.out.1 (by simpa using HBn5.out.ne.1)));have HFF6 := hdd (HFF5.out.but hbut);have HBU := hdd hbut;clear hwm hg hbut hon hfew q0 q1 q2 q3 q4 q5 q6 q7
  go_wp2_with fail
  refine (labelsOf_any fw.1 fw.2.1 fw.2.2 w6 HFF6.out.1 HFR.out).mono ?_;rintro e w7 ⟨_, rfl, ho, hb⟩
  have hsz : ∀ x ∈ labsR fw.2.2, x.size ≤ maxLen := fun x hx => by
   obtain ⟨p, hp, rfl, _⟩ := mem_labsR.1 hx;exact F.fine_size HFR.out p hp
  obtain ⟨aoL, capL, rfl, ht⟩ := txx_of (b := b) (m := m) ho hsz KB6.out.1 HWM6.out.lt;have HTL := hdd ht;have KB7 := hdd (KB6.out.later hb);have HWM7 := hdd (HWM6.out.next hb);have HBU7 := hdd (HBU.out.trans (but_below hb));clear ho hsz ht hb;obtain ⟨k0, k1, k2, k3, k4, k5, k6, k7, k8, k9, k10, k11⟩ := (KB7.out).c12;obtain ⟨kf0, kf1, kf2, kf3, kf4, kf5, kf6, kf7, kf8, kf9, kf10, kf11⟩ := (KB7.out).f12;have lt5 := KB7.out.1;go_wp2;go_ret;have hmay := (may_draw HBn5.out.hd HBn5.out.may (by rw [HQ.out] : (drawA l s a).2 = 0)).1;rw [HQ.out] at hmay ⊢;have hst : But b m w7 ((w7.setCell ⟨b, 7, none⟩ (.slice aof ps.length capf)).setCell ⟨b, 8, none⟩ (.slice aoL (labsR fw.2.2).length capL)) := (but_set b m w7 7 _).trans (but_set b m _ 8 _);have hbut := HBU7.out.trans hst;have hmb : m ≠ b := fun e => HBn5.out.ne.1 e.symm;exact ⟨rfl, HBn5.out.keptTo HWL.out HFL5.out hbut (HWM7.out.same ((Below.heap_setCell _ ⟨b, 8, none⟩ _ m hmb).trans (Below.heap_setCell w7 ⟨b, 7, none⟩ _ m hmb))) (HLS5.out.but hbut) hmay rfl (cw := cw) (aoH := aof) (capH := capf) (aoT := aoL) (capT := capL) ((KB7.out.put 7 _).put 8 _) (HF5.out.but hbut) (HTL.out.but hst)⟩
theorem zeroDeed (w : World) : (zeroValue 207).run Tryz.prog w = .ok .nilFunc w := by kernel_rfl
def deedOf (n : Int) : Value × Bool :=
 if n = 5 then (fv 176, true) else if n = 6 then (fv 177, true) else if n = 7 then (fv 178, true) else if n = 8 then (fv 179, true) else if n = 9 then (fv 180, true) else if n = 11 then (fv 181, true) else if n = 12 then (fv 182, true) else if n = 13 then (fv 183, true) else if n = 14 then (fv 182, true) else (.nilFunc, false)
theorem lit_ne {m n : Int} (h : n ≠ m) : (Lit.int .i64 n) ≠ Lit.int .i64 m := fun e => h (by injection e)
theorem deed_at (n : Int) : Ddeeds.atKey (.int .i64 n) (.held .nilFunc) = .held (deedOf n).1 ∧ has Ddeeds (.int .i64 n) = (deedOf n).2 := by
 unfold deedOf
 by_cases h5 : n = 5
 ·subst h5
  exact ⟨by kernel_rfl, by kernel_rfl⟩
 by_cases h6 : n = 6
 ·subst h6
  exact ⟨by kernel_rfl, by kernel_rfl⟩
 by_cases h7 : n = 7
 ·subst h7
  exact ⟨by kernel_rfl, by kernel_rfl⟩
 by_cases h8 : n = 8
 ·subst h8
  exact ⟨by kernel_rfl, by kernel_rfl⟩
 by_cases h9 : n = 9
 ·subst h9
  exact ⟨by kernel_rfl, by kernel_rfl⟩
 by_cases h11 : n = 11
 ·subst h11
  exact ⟨by kernel_rfl, by kernel_rfl⟩
 by_cases h12 : n = 12
 ·subst h12
  exact ⟨by kernel_rfl, by kernel_rfl⟩
 by_cases h13 : n = 13
 ·subst h13
  exact ⟨by kernel_rfl, by kernel_rfl⟩
 by_cases h14 : n = 14
 ·subst h14
  exact ⟨by kernel_rfl, by kernel_rfl⟩
 rw [if_neg h5, if_neg h6, if_neg h7, if_neg h8, if_neg h9, if_neg h11, if_neg h12, if_neg h13, if_neg h14];unfold Ddeeds;constructor
 ·rw [atKey_put_other (lit_ne h14), atKey_put_other (lit_ne h13), atKey_put_other (lit_ne h12), atKey_put_other (lit_ne h11), atKey_put_other (lit_ne h9), atKey_put_other (lit_ne h8), atKey_put_other (lit_ne h7), atKey_put_other (lit_ne h6), atKey_put_other (lit_ne h5)]
  rfl
 ·rw [has_put_other (lit_ne h14), has_put_other (lit_ne h13), has_put_other (lit_ne h12), has_put_other (lit_ne h11), has_put_other (lit_ne h9), has_put_other (lit_ne h8), has_put_other (lit_ne h7), has_put_other (lit_ne h6), has_put_other (lit_ne h5)]
  rfl
theorem DM.look {w : World} {md : Nat} (h : DM w md) {n : Int} (hn : (Lit.int .i64 n).wf = true) : (Instr.lookup 199 (.map (some md)) (.int .i64 n) true).run Tryz.prog w = .ok (.tuple #[(deedOf n).1, .bool (deedOf n).2]) w := by
 obtain ⟨v, ps, hrun, hv⟩ := World.ownsMap.look_ok h (int_keyed Tryz.underlying3) Tryz.underlying199 (zeroDeed w) (zd := .held .nilFunc) (zp := []) rfl (keyOf_int_mk Tryz.underlying3 hn);rw [hrun, (deed_at n).2];rw [(deed_at n).1] at hv;simp only [RV, Option.some.injEq, Prod.mk.injEq] at hv;have := hv.1;injection this with this;rw [this]
def doV (b B md : Nat) (a : Acn) (dv : Value) (ok : Bool) (d : Nat) (v : Value) (_ : World) : Prop :=
 match d with
 | 8 | 9 => v = .pointer (some ⟨b, 0, none⟩)
 | 10 => v = .pointer (some ⟨b, 3, none⟩)
 | 11 => v = .map (some md)
 | 12 => v = .pointer (some ⟨B, 0, none⟩)
 | 13 => v = .int .i64 a.kind
 | 14 | 7 => v = .tuple #[dv, .bool ok]
 | 15 | 5 => v = dv
 | 16 | 6 => v = .bool ok
 | _ => True
theorem doV_mono (b B md : Nat) (a : Acn) (dv : Value) (ok : Bool) (d : Nat) (v : Value) (w w' : World) (h : doV b B md a dv ok d v w) (_ : bw w w') : doV b B md a dv ok d v w' := h
theorem do_any (wB w : World) (ao : Option Addr) (cap : Nat) (l : List Sit) (b m md : Nat) (s : Sta) (a : Acn) (hB : Bn wB w ao cap l b m md s) (hlab : a.label.size ≤ maxLen) (hkd : (Lit.int .i64 a.kind).wf = true) :
  Calls Tryz.prog 55 #[ptr b, av a] w fun e w' => e = .returned (.int .i64 (doA l s a).2) ∧ Bn wB w' ao cap l b m md (doA l s a).1 := by
 have HBN := hdd hB;clear hB;obtain ⟨w0, hw0⟩ : ∃ w0, w0 = w.alloc (aobj a) := ⟨_, rfl⟩;have b0 : bw w w0 := by rw [hw0]; exact (brf).alloc (Nat.le_refl _) _
 have KA : Hid (Bk w.heap.size (acl a) w0) := by show Bk _ _ _; rw [hw0]; exact Bk.new w (acl a) 57 w.heap.size rfl
 have HB0 := hdd (HBN.out.next b0);have HW0 := hdd hw0;clear hw0 b0;obtain ⟨cw, aoH, capH, aoT, capT, K, hh, ht⟩ := HB0.out.bk;have KB : Hid (Bk b (bcs ao cap l md m cw s aoH capH aoT capT) w0) := K;have HH := hdd hh;have HT := hdd ht;have hbw : b < w.heap.size := by obtain ⟨_, _, _, _, _, K', _⟩ := HBN.out.bk; exact K'.1
 have hbn : b ≠ w.heap.size := by omega
 have lt0 := KB.out.1;clear K hh ht;clear lt0;have HLB := hdd hlab;have HLK : Hid (∀ W, bw w0 W → (Instr.lookup 199 (.map (some md)) (.int .i64 a.kind) true).run Tryz.prog W = .ok (.tuple #[(deedOf a.kind).1, .bool (deedOf a.kind).2]) W) := fun W hW => (HB0.out.next hW).deeds.look hkd;clear hlab hkd;obtain ⟨⟨dv, ok⟩, hdq⟩ : ∃ x, deedOf a.kind = x := ⟨_, rfl⟩;have HDO := hdd hdq;rw [hdq] at HLK;simp only at HLK;clear hdq
 go_enter Tryz.func55, Tryz.ntmps55
 go_wp2_with fail
 rw [← HW0.out];rename_i KK hkk;have HKK := (show Hid _ from hkk);clear hkk
 refine region_seqE 12 [zf,zf,zf,zf,zf,zt,zt,zt,zt,zt,zt,zt,zt,zt,zt,zt,zt,zf,zf,zf,zf,zf,zf]
  [(8, [], none), (9, [8], none), (10, [9], none), (11, [10], none), (12, [], none), (13, [12], none), (14, [11, 13], none), (7, [14], none), (15, [7], none), (16, [7], none), (5, [15], none), (6, [16], none)]
  (doV b w.heap.size md a dv ok) (by kernel_rfl) (by kernel_rfl) (by kernel_rfl) (by kernel_rfl) (by kernel_rfl) (by decide) (doV_mono b w.heap.size md a dv ok) ?_ ?_
 ·refine ⟨?_, ?_, ?_, ?_, ?_, ?_, ?_, ?_, ?_, ?_, ?_, ?_, trivial⟩
  any_goals first | (intro f w1 hb _ K hK; simp only [over, overL]; go_simp; exact hK _ _ ⟨_, rfl, by simp only [over, overL]; rfl, brf⟩) | fail
  ·rintro f wA hb ⟨(h8 : f 8 = _), _⟩ K hK
   simp only [over, overL, h8];go_simp;exact hK _ _ ⟨_, rfl, by simp only [over, overL, h8]; rfl, brf⟩
  ·rintro f wA hb ⟨(h9 : f 9 = _), _⟩ K hK
   simp only [over, overL, h9];go_simp;exact hK _ _ ⟨_, rfl, by simp only [over, overL, h9]; rfl, brf⟩
  ·rintro f wA hb ⟨(h10 : f 10 = _), _⟩ K hK
   have q3 := (KB.out.later hb).c 3 rfl;simp only [over, overL, h10];go_simp;exact hK _ _ ⟨_, rfl, by simp only [over, overL, h10]; rfl, brf⟩
  ·rintro f wA hb ⟨(h12 : f 12 = _), _⟩ K hK
   have q0 := (KA.out.later hb).c 0 rfl;simp only [over, overL, h12];go_simp;exact hK _ _ ⟨_, rfl, by simp only [over, overL, h12]; rfl, brf⟩
  ·rintro f wA hb ⟨(h11 : f 11 = _), (h13 : f 13 = _), _⟩ K hK
   have ql := HLK.out wA hb;simp only [over, overL, h11, h13];go_simp;exact hK _ _ ⟨_, rfl, by simp only [over, overL, h11, h13]; rfl, brf⟩
  ·rintro f wA hb ⟨(h14 : f 14 = _), _⟩ K hK
   simp only [over, overL, h14];go_simp;exact hK _ _ ⟨_, rfl, by simp only [over, overL, h14]; rfl, brf⟩
  ·rintro f wA hb ⟨(h7 : f 7 = _), _⟩ K hK
   simp only [over, overL, h7];go_simp;exact hK _ _ ⟨_, rfl, by simp only [over, overL, h7]; rfl, brf⟩
  ·rintro f wA hb ⟨(h7 : f 7 = _), _⟩ K hK
   simp only [over, overL, h7];go_simp;exact hK _ _ ⟨_, rfl, by simp only [over, overL, h7]; rfl, brf⟩
  ·rintro f wA hb ⟨(h15 : f 15 = _), _⟩ K hK
   simp only [over, overL, h15];go_simp;exact hK _ _ ⟨_, rfl, by simp only [over, overL, h15]; rfl, brf⟩
  ·rintro f wA hb ⟨(h16 : f 16 = _), _⟩ K hK
   simp only [over, overL, h16];go_simp;exact hK _ _ ⟨_, rfl, by simp only [over, overL, h16]; rfl, brf⟩
 intro f w1 hb hv;have h5 : f 5 = _ := hv.2.2.2.2.2.2.2.2.2.2.1;have h6 : f 6 = _ := hv.2.2.2.2.2.2.2.2.2.2.2.1;have HBn1 := hdd (HB0.out.next hb);have KA1 := hdd (KA.out.later hb);clear hv hb HLK HB0 KA KB HH HT;simp only [List.drop, over, overL, h5, h6];clear h5 h6;go_wp2;refine HKK.out _ _ ?_;clear HKK;obtain ⟨q0, q1, q2, q3, q4, q5, q6, q7⟩ := (KA1.out).c8;have HD1 := HDO.out;unfold deedOf at HD1
 by_cases c5 : a.kind = 5
 ·have HQ : Hid (doA l s a = fillA l s a) := by show _ = _; unfold doA; rw [if_pos c5]
  rw [if_pos c5] at HD1;obtain ⟨rfl, rfl⟩ := Prod.mk.injEq _ _ _ _ ▸ HD1;clear c5
  go_wp2_with fail
  refine (fill_any wB _ ao cap l b m md s a HBn1.out HLB.out).mono ?_;rintro e w2 ⟨rfl, h2⟩;have HB2 := hdd h2;clear h2;go_wp2;go_ret;exact ⟨by rw [HQ.out]; rfl, by rw [HQ.out]; exact HB2.out⟩
 by_cases c6 : a.kind = 6
 ·have HQ : Hid (doA l s a = tipA l s) := by show _ = _; unfold doA; rw [if_neg c5, if_pos c6]
  rw [if_neg c5, if_pos c6] at HD1;obtain ⟨rfl, rfl⟩ := Prod.mk.injEq _ _ _ _ ▸ HD1;clear c5 c6
  go_wp2_with fail
  refine (tip_any wB _ ao cap l b m md s a HBn1.out).mono ?_;rintro e w2 ⟨rfl, h2⟩;have HB2 := hdd h2;clear h2;go_wp2;go_ret;exact ⟨by rw [HQ.out]; rfl, by rw [HQ.out]; exact HB2.out⟩
 by_cases c7 : a.kind = 7
 ·have HQ : Hid (doA l s a = dropA s) := by show _ = _; unfold doA; rw [if_neg c5, if_neg c6, if_pos c7]
  rw [if_neg c5, if_neg c6, if_pos c7] at HD1;obtain ⟨rfl, rfl⟩ := Prod.mk.injEq _ _ _ _ ▸ HD1;clear c5 c6 c7
  go_wp2_with fail
  refine (drop_any wB _ ao cap l b m md s a HBn1.out).mono ?_;rintro e w2 ⟨rfl, h2⟩;have HB2 := hdd h2;clear h2;go_wp2;go_ret;exact ⟨by rw [HQ.out]; rfl, by rw [HQ.out]; exact HB2.out⟩
 by_cases c8 : a.kind = 8
 ·have HQ : Hid (doA l s a = drawA l s a) := by show _ = _; unfold doA; rw [if_neg c5, if_neg c6, if_neg c7, if_pos c8]
  rw [if_neg c5, if_neg c6, if_neg c7, if_pos c8] at HD1;obtain ⟨rfl, rfl⟩ := Prod.mk.injEq _ _ _ _ ▸ HD1;clear c5 c6 c7 c8
  go_wp2_with fail
  refine (draw_any wB _ ao cap l b m md s a HBn1.out).mono ?_;rintro e w2 ⟨rfl, h2⟩;have HB2 := hdd h2;clear h2;go_wp2;go_ret;exact ⟨by rw [HQ.out]; rfl, by rw [HQ.out]; exact HB2.out⟩
 by_cases c9 : a.kind = 9
 ·have HQ : Hid (doA l s a = putA l s a) := by show _ = _; unfold doA; rw [if_neg c5, if_neg c6, if_neg c7, if_neg c8, if_pos c9]
  rw [if_neg c5, if_neg c6, if_neg c7, if_neg c8, if_pos c9] at HD1;obtain ⟨rfl, rfl⟩ := Prod.mk.injEq _ _ _ _ ▸ HD1;clear c5 c6 c7 c8 c9
  go_wp2_with fail
  refine (put_any wB _ ao cap l b m md s a HBn1.out).mono ?_;rintro e w2 ⟨rfl, h2⟩;have HB2 := hdd h2;clear h2;go_wp2;go_ret;exact ⟨by rw [HQ.out]; rfl, by rw [HQ.out]; exact HB2.out⟩
 by_cases c11 : a.kind = 11
 ·have HQ : Hid (doA l s a = warmA s a) := by show _ = _; unfold doA; rw [if_neg c5, if_neg c6, if_neg c7, if_neg c8, if_neg c9, if_pos c11]
  rw [if_neg c5, if_neg c6, if_neg c7, if_neg c8, if_neg c9, if_pos c11] at HD1;obtain ⟨rfl, rfl⟩ := Prod.mk.injEq _ _ _ _ ▸ HD1;clear c5 c6 c7 c8 c9 c11
  go_wp2_with fail
  refine (warm_any wB _ ao cap l b m md s a HBn1.out).mono ?_;rintro e w2 ⟨rfl, h2⟩;have HB2 := hdd h2;clear h2;go_wp2;go_ret;exact ⟨by rw [HQ.out]; rfl, by rw [HQ.out]; exact HB2.out⟩
 by_cases c12 : a.kind = 12
 ·have HQ : Hid (doA l s a = passA s a) := by show _ = _; unfold doA; rw [if_neg c5, if_neg c6, if_neg c7, if_neg c8, if_neg c9, if_neg c11, if_pos c12]
  rw [if_neg c5, if_neg c6, if_neg c7, if_neg c8, if_neg c9, if_neg c11, if_pos c12] at HD1;obtain ⟨rfl, rfl⟩ := Prod.mk.injEq _ _ _ _ ▸ HD1;clear c5 c6 c7 c8 c9 c11 c12
  go_wp2_with fail
  refine (pass_any wB _ ao cap l b m md s a HBn1.out).mono ?_;rintro e w2 ⟨rfl, h2⟩;have HB2 := hdd h2;clear h2;go_wp2;go_ret;exact ⟨by rw [HQ.out]; rfl, by rw [HQ.out]; exact HB2.out⟩
 by_cases c13 : a.kind = 13
 ·have HQ : Hid (doA l s a = shakeA s a) := by show _ = _; unfold doA; rw [if_neg c5, if_neg c6, if_neg c7, if_neg c8, if_neg c9, if_neg c11, if_neg c12, if_pos c13]
  rw [if_neg c5, if_neg c6, if_neg c7, if_neg c8, if_neg c9, if_neg c11, if_neg c12, if_pos c13] at HD1;obtain ⟨rfl, rfl⟩ := Prod.mk.injEq _ _ _ _ ▸ HD1;clear c5 c6 c7 c8 c9 c11 c12 c13
  go_wp2_with fail
  refine (shake_any wB _ ao cap l b m md s a HBn1.out).mono ?_;rintro e w2 ⟨rfl, h2⟩;have HB2 := hdd h2;clear h2;go_wp2;go_ret;exact ⟨by rw [HQ.out]; rfl, by rw [HQ.out]; exact HB2.out⟩
 by_cases c14 : a.kind = 14
 ·have HQ : Hid (doA l s a = passA s a) := by show _ = _; unfold doA; rw [if_neg c5, if_neg c6, if_neg c7, if_neg c8, if_neg c9, if_neg c11, if_neg c12, if_neg c13, if_pos c14]
  rw [if_neg c5, if_neg c6, if_neg c7, if_neg c8, if_neg c9, if_neg c11, if_neg c12, if_neg c13, if_pos c14] at HD1;obtain ⟨rfl, rfl⟩ := Prod.mk.injEq _ _ _ _ ▸ HD1;clear c5 c6 c7 c8 c9 c11 c12 c13 c14
  go_wp2_with fail
  refine (pass_any wB _ ao cap l b m md s a HBn1.out).mono ?_;rintro e w2 ⟨rfl, h2⟩;have HB2 := hdd h2;clear h2;go_wp2;go_ret;exact ⟨by rw [HQ.out]; rfl, by rw [HQ.out]; exact HB2.out⟩
 have HQ : Hid (doA l s a = (s, 6)) := by show _ = _; unfold doA; rw [if_neg c5, if_neg c6, if_neg c7, if_neg c8, if_neg c9, if_neg c11, if_neg c12, if_neg c13, if_neg c14]
 rw [if_neg c5, if_neg c6, if_neg c7, if_neg c8, if_neg c9, if_neg c11, if_neg c12, if_neg c13, if_neg c14] at HD1;obtain ⟨rfl, rfl⟩ := Prod.mk.injEq _ _ _ _ ▸ HD1;clear c5 c6 c7 c8 c9 c11 c12 c13 c14;go_wp2;go_ret;exact ⟨by rw [HQ.out]; rfl, by rw [HQ.out]; exact HBn1.out⟩
theorem deed_put {w : World} {md n : Nat} {D : DataW Value} (h : w.ownsMap Tryz.prog 3 RV md n D) (hn : n < maxLen) (k : Int) (hk : (Lit.int .i64 k).wf = true) (v : Value) :
  ∃ w', (Instr.mapUpdate 199 (.map (some md)) (.int .i64 k) v).run Tryz.prog w = .ok () w' ∧ w'.ownsMap Tryz.prog 3 RV md (n + 1) (D.put (.int .i64 k) (.held v)) ∧ w.grownBy w' (some md) :=
 h.update (int_keyed Tryz.underlying3) Tryz.underlying199 hn (keyOf_int_mk Tryz.underlying3 hk) (d := .held v) (ps := []) rfl
theorem blw_map {b : Nat} {a w w1 : World} (h : Below b a w) (hs : b ≤ w.heap.size) (hg : w.grownBy w1 (some b)) : Below b a w1 ∧ b ≤ w1.heap.size :=
 ⟨h.grown hg hs (fun k hk => by cases hk; exact Nat.le_refl _), Nat.le_trans hs hg.size⟩
theorem deedsOfKinds_any (w : World) : Calls Tryz.prog 114 #[] w fun e w' => ∃ md, e = .returned (.map (some md)) ∧ w.heap.size ≤ md ∧ DM w' md ∧ bw w w' := by
 have hmm := @run_makeMap Tryz.prog;have o0 : (w.alloc (.map #[] 0)).ownsMap Tryz.prog 3 RV w.heap.size 0 (.map []) := World.ownsMap_made (H := Value) w Tryz.prog 3 RV;have b0 : bw w (w.alloc (.map #[] 0)) := (brf).alloc (Nat.le_refl _) _;have z0 : w.heap.size ≤ (w.alloc (.map #[] 0)).heap.size := by simp
 obtain ⟨w1, r1, o1, g1⟩ := deed_put o0 (by unfold maxLen; omega) 5 (by decide) (fv 176);obtain ⟨b1, z1⟩ := blw_map b0 z0 g1;clear o0 b0 z0 g1;obtain ⟨w2, r2, o2, g2⟩ := deed_put o1 (by unfold maxLen; omega) 6 (by decide) (fv 177);obtain ⟨b2, z2⟩ := blw_map b1 z1 g2;clear o1 b1 z1 g2;obtain ⟨w3, r3, o3, g3⟩ := deed_put o2 (by unfold maxLen; omega) 7 (by decide) (fv 178);obtain ⟨b3, z3⟩ := blw_map b2 z2 g3;clear o2 b2 z2 g3;obtain ⟨w4, r4, o4, g4⟩ := deed_put o3 (by unfold maxLen; omega) 8 (by decide) (fv 179);obtain ⟨b4, z4⟩ := blw_map b3 z3 g4;clear o3 b3 z3 g4;obtain ⟨w5, r5, o5, g5⟩ := deed_put o4 (by unfold maxLen; omega) 9 (by decide) (fv 180);obtain ⟨b5, z5⟩ := blw_map b4 z4 g5;clear o4 b4 z4 g5;obtain ⟨w6, r6, o6, g6⟩ := deed_put o5 (by unfold maxLen; omega) 11 (by decide) (fv 181);obtain ⟨b6, z6⟩ := blw_map b5 z5 g6;clear o5 b5 z5 g6;obtain ⟨w7, r7, o7, g7⟩ := deed_put o6 (by unfold maxLen; omega) 12 (by decide) (fv 182);obtain ⟨b7, z7⟩ := blw_map b6 z6 g7;clear o6 b6 z6 g7;obtain ⟨w8, r8, o8, g8⟩ := deed_put o7 (by unfold maxLen; omega) 13 (by decide) (fv 183);obtain ⟨b8, z8⟩ := blw_map b7 z7 g8;clear o7 b7 z7 g8;obtain ⟨w9, r9, o9, g9⟩ := deed_put o8 (by unfold maxLen; omega) 14 (by decide) (fv 182);obtain ⟨b9, z9⟩ := blw_map b8 z8 g9;clear o8 b8 z8 g9;have HD : Hid (DM w9 w.heap.size) := o9;have HB : Hid (bw w w9) := b9;clear o9 b9 z9
 go_enter Tryz.func114, Tryz.ntmps114
 go_wp2;go_ret;exact ⟨w.heap.size, rfl, Nat.le_refl _, HD.out, HB.out⟩
theorem DM.next {w w1 : World} {md : Nat} (h : DM w md) (hb : bw w w1) : DM w1 md := h.same (hb.block md h.lt)
theorem dm_wm {w : World} {md m : Nat} (h : DM w md) (h2 : WM w m []) : m ≠ md := by
 rintro rfl;obtain ⟨es, clock, hb, F, _, hD⟩ := h;obtain ⟨D2, ⟨es2, clock2, hb2, F2, _, hD2⟩, hr⟩ := h2;rw [hb] at hb2;injection hb2 with hb2;injection hb2 with hb2 _;subst hb2;have h1 : Maps.size Ddeeds = es.size := by rw [hD, Maps.size_eq, length_sorted]; simp
 have h2 : Maps.size D2 = es.size := by rw [hD2, Maps.size_eq, length_sorted]; simp
 have h3 : Maps.size Ddeeds = 9 := by kernel_rfl
 have h4 := hr.size;simp at h4;omega
def NB10 (M : Nat) (v : Value) (w : World) : Prop := ∃ md, v = .map (some md) ∧ M ≤ md ∧ DM w md
theorem NB10.later {M : Nat} {v : Value} {w w1 : World} (h : NB10 M v w) (hb : bw w w1) : NB10 M v w1 := by
 obtain ⟨md, h1, h2, h3⟩ := h;exact ⟨md, h1, h2, h3.next hb⟩
def NB11 (M : Nat) (v : Value) (w : World) : Prop := ∃ m, v = .map (some m) ∧ M ≤ m ∧ WM w m []
theorem NB11.later {M : Nat} {v : Value} {w w1 : World} (h : NB11 M v w) (hb : bw w w1) : NB11 M v w1 := by
 obtain ⟨md, h1, h2, h3⟩ := h;exact ⟨md, h1, h2, h3.next hb⟩
def NB13 (M : Nat) (ao : Option Addr) (cap : Nat) (l : List Sit) (s : Sm) (v : Value) (w : World) : Prop :=
 ∃ md m, v = .agg #[.slice ao l.length cap, .int .i64 ((tipsL l).length : Int), .int .i64 (tipM l), .map (some md), .map (some m), .slice s.aoW s.wl.length s.capW, .bool s.tip, .slice s.aoH s.held.length s.capH, .slice s.aoT s.touched.length s.capT, .int .i64 s.used, .int .i64 s.heat, .int .i64 s.clock] ∧ M ≤ md ∧ M ≤ m ∧ DM w md ∧ WM w m []
theorem NB13.later {M : Nat} {ao : Option Addr} {cap : Nat} {l : List Sit} {s : Sm} {v : Value} {w w1 : World} (h : NB13 M ao cap l s v w) (hb : bw w w1) : NB13 M ao cap l s v w1 := by
 obtain ⟨md, m, h1, h2, h3, h4, h5⟩ := h;exact ⟨md, m, h1, h2, h3, h4.next hb, h5.next hb⟩
def NB14 (M : Nat) (ao : Option Addr) (cap : Nat) (l : List Sit) (s : Sm) (v : Value) (w : World) : Prop :=
 ∃ b md m, v = ptr b ∧ M ≤ b ∧ M ≤ md ∧ M ≤ m ∧ b ≠ m ∧ b ≠ md ∧ m ≠ md ∧ DM w md ∧ WM w m [] ∧ Bk b (bcs ao cap l md m (s.aoW, s.wl.length, s.capW) s.st s.aoH s.capH s.aoT s.capT) w
theorem NB14.later {M : Nat} {ao : Option Addr} {cap : Nat} {l : List Sit} {s : Sm} {v : Value} {w w1 : World} (h : NB14 M ao cap l s v w) (hb : bw w w1) : NB14 M ao cap l s v w1 := by
 obtain ⟨b, md, m, h1, h2, h3, h4, h5, h6, h7, h8, h9, h10⟩ := h;exact ⟨b, md, m, h1, h2, h3, h4, h5, h6, h7, h8.next hb, h9.next hb, h10.later hb⟩
theorem insH_last {y : Wh} {l : List Wh} (h : ∀ x ∈ l, pltB x.1 y.1 = true) : insH y l = l ++ [y] := by
 induction l with
 | nil => rfl
 | cons x r ih =>
  have hx := h x (List.mem_cons_self ..);have : ¬ pltB y.1 x.1 = true := fun e => plt_ne (plt_trans hx e) rfl;unfold insH;rw [if_neg this, ih fun z hz => h z (List.mem_cons_of_mem _ hz)]
  rfl
theorem take_ins {wl : List Wh} (h : Rising (whp wl)) {k : Nat} (hk : k < wl.length) : insH (wl[k]'hk) (delH (wl.take k) (wl[k]'hk).1) = wl.take (k + 1) := by
 have hr : wl.Pairwise fun x y => pltB x.1 y.1 = true := by
  unfold Rising whp at h;rw [List.pairwise_map] at h;exact h
 have ha : ∀ x ∈ wl.take k, pltB x.1 (wl[k]'hk).1 = true := by
  intro x hx;obtain ⟨i, hi, rfl⟩ := List.getElem_of_mem hx;rw [List.getElem_take];have : i < k := by simp at hi; omega
  exact List.pairwise_iff_getElem.1 hr i k (by omega) hk this
 have hd : delH (wl.take k) (wl[k]'hk).1 = wl.take k := by
  unfold delH;rw [List.filter_eq_self];intro x hx;exact decide_eq_true (plt_ne (ha x hx))
 rw [hd, insH_last ha, List.take_succ_eq_append_getElem hk]
theorem rising_take {wl : List Wh} (h : Rising (whp wl)) (k : Nat) : Rising (whp (wl.take k)) := by
 unfold Rising whp at h ⊢;rw [List.map_take];exact h.sublist (List.take_sublist _ _)
theorem flx_low {b m : Nat} {w w1 : World} {ao : Option Addr} {ps : List F.Pc} (h : F.Fl w ao ps) (hb : bw w w1) (h1 : w.heap.size ≤ b) (h2 : w.heap.size ≤ m) : Flx b m w1 ao ps := by
 refine ⟨h.next hb, ?_⟩
 rcases h.2 with h | ⟨g, off, e, hg, _⟩
 ·exact .inl h
 ·refine .inr fun a ha => ?_
  rw [e] at ha;injection ha with ha;subst ha;exact ⟨by simp only; omega, by simp only; omega⟩
theorem txx_low {b m : Nat} {w w1 : World} {ao : Option Addr} {ps : List ByteArray} (h : Tx w ao ps) (hb : bw w w1) (h1 : w.heap.size ≤ b) (h2 : w.heap.size ≤ m) : Txx b m w1 ao ps := by
 refine ⟨h.next hb, ?_⟩
 rcases h.2 with h | ⟨g, off, e, hg, _⟩
 ·exact .inl h
 ·refine .inr fun a ha => ?_
  rw [e] at ha;injection ha with ha;subst ha;exact ⟨by simp only; omega, by simp only; omega⟩
def nbV (M : Nat) (ao : Option Addr) (cap : Nat) (l : List Sit) (s : Sm) (d : Nat) (v : Value) (w : World) : Prop :=
 match d with
 | 8 => v = .slice ao l.length cap
 | 9 => v = .agg #[.slice ao l.length cap, .int .i64 ((tipsL l).length : Int), .int .i64 (tipM l)]
 | 10 => NB10 M v w
 | 11 => NB11 M v w
 | 12 => v = .agg #[.slice s.aoW s.wl.length s.capW, .bool s.tip, .slice s.aoH s.held.length s.capH, .slice s.aoT s.touched.length s.capT, .int .i64 s.used, .int .i64 s.heat, .int .i64 s.clock]
 | 13 => NB13 M ao cap l s v w
 | 14 | 5 => NB14 M ao cap l s v w
 | _ => True
theorem nbV_mono (M : Nat) (ao : Option Addr) (cap : Nat) (l : List Sit) (s : Sm) (d : Nat) (v : Value) (w w' : World) (h : nbV M ao cap l s d v w) (hb : bw w w') : nbV M ao cap l s d v w' := by
 unfold nbV at h ⊢
 split <;> simp only [] at h <;> first | exact h | exact h.later hb
def nlpV (b Y m : Nat) (y : Wh) (d : Nat) (v : Value) (_ : World) : Prop :=
 match d with
 | 22 | 23 => v = .pointer (some ⟨b, 0, none⟩)
 | 24 => v = .pointer (some ⟨b, 4, none⟩)
 | 25 => v = .map (some m)
 | 26 => v = .pointer (some ⟨Y, 0, none⟩)
 | 27 => v = .agg #[.int .i64 y.1.1, .int .i64 y.1.2.1, .int .i64 y.1.2.2]
 | 28 => v = .pointer (some ⟨Y, 3, none⟩)
 | 29 => v = .slice y.2.1 y.2.2.2.length y.2.2.1
 | _ => True
theorem nlpV_mono (b Y m : Nat) (y : Wh) (d : Nat) (v : Value) (w w' : World) (h : nlpV b Y m y d v w) (_ : bw w w') : nlpV b Y m y d v w' := h
theorem newBench_any (ao : Option Addr) (cap : Nat) (l : List Sit) (s : Sm) (w : World) (hD : Dk w ao cap l) (hd : dchk l = 0) (hS : SmIn w s) (hm : May l s.st) :
  Calls Tryz.prog 54 #[.slice ao l.length cap, smv s] w fun e w' => ∃ b m md, e = .returned (ptr b) ∧ Bn w w' ao cap l b m md s.st := by
 have HD := hdd hD;have HDC := hdd hd;have HS := hdd hS;have HM := hdd hm;have HRI : Hid (Rising (whp s.wl)) := hm.rising;have hfew : s.wl.length ≤ 4608 := by have := wells_few hd hm; rw [← whp_length]; exact this
 have HWF : Hid (∀ x ∈ s.wl, Wf3 x.1) := fun x hx => wf_place hd (hm.wells (x.1, x.2.2.2) (List.mem_map.2 ⟨x, hx, rfl⟩)).1;obtain ⟨w0, hw0⟩ : ∃ w0, w0 = w.alloc (smo s) := ⟨_, rfl⟩;have b0 : bw w w0 := by rw [hw0]; exact (brf).alloc (Nat.le_refl _) _
 have KS : Hid (Bk w.heap.size [.slice s.aoW s.wl.length s.capW, .bool s.tip, .slice s.aoH s.held.length s.capH, .slice s.aoT s.touched.length s.capT, .int .i64 s.used, .int .i64 s.heat, .int .i64 s.clock] w0) := by show Bk _ _ _; rw [hw0]; exact Bk.new w _ 73 w.heap.size rfl
 have HD0 : Hid (Dk w0 ao cap l) := hD.next b0;have HB0 : Hid (bw w w0) := b0;have HW0 := hdd hw0;clear hD hd hS hm hw0 b0
 go_enter Tryz.func54, Tryz.ntmps54
 go_wp2_with fail
 rw [← HW0.out];rename_i KK hkk;have HKK := (show Hid _ from hkk);clear hkk
 refine region_inv [zf,zf,zf,zf,zf,zt,zf,zf,zt,zt,zt,zt,zt,zt,zt,zf,zf,zf,zf,zf,zf,zf,zf,zf,zf,zf,zf,zf,zf,zf,zf,zf]
  [(8, [], none), (9, [8], none), (10, [], none), (11, [], none), (12, [], none), (13, [9, 10, 11, 12], none), (14, [13], none), (5, [14], none)]
  (nbV w0.heap.size ao cap l s) (by kernel_rfl) (by kernel_rfl) (nbV_mono w0.heap.size ao cap l s) ?_ ?_
 ·refine ⟨?_, ?_, ?_, ?_, ?_, ?_, ?_, ?_, trivial⟩
  ·intro f wA hb _ K hK
   simp only [over, overL];go_simp;exact hK _ _ ⟨_, rfl, by simp only [over, overL]; rfl, brf⟩
  ·rintro f wA hb ⟨(h8 : f 8 = _), _⟩ K hK
   simp only [over, overL, h8];go_simp;refine ((newLayout_any ao cap l wA (HD0.out.next hb) HDC.out).mono) ?_;rintro e w2 ⟨rfl, hb2⟩;exact hK _ _ ⟨_, rfl, by simp only [over, overL, h8]; rfl, hb2⟩
  ·intro f wA hb _ K hK
   simp only [over, overL];go_simp;refine ((deedsOfKinds_any wA).mono) ?_;rintro e w2 ⟨md, rfl, g1, g2, hb2⟩;exact hK _ _ ⟨_, ⟨md, rfl, Nat.le_trans hb.size g1, g2⟩, by simp only [over, overL]; rfl, hb2⟩
  ·intro f wA hb _ K hK
   have hmm := @run_makeMap Tryz.prog;simp only [over, overL];go_simp;exact hK _ _ ⟨_, ⟨wA.heap.size, rfl, hb.size, WM.made wA⟩, by simp only [over, overL]; rfl, (brf).alloc (Nat.le_refl _) _⟩
  ·intro f wA hb _ K hK
   obtain ⟨q0, q1, q2, q3, q4, q5, q6⟩ := (KS.out.later hb).c7;simp only [over, overL];go_simp;exact hK _ _ ⟨_, rfl, by simp only [over, overL]; rfl, brf⟩
  ·rintro f wA hb ⟨(h9 : f 9 = _), h10, h11, (h12 : f 12 = _), _⟩ K hK
   obtain ⟨md, h10, g1, g2⟩ := h10;obtain ⟨m, h11, k1, k2⟩ := h11;simp only [over, overL, h9, h12, h10, h11];go_simp;exact hK _ _ ⟨_, ⟨md, m, rfl, g1, k1, g2, k2⟩, by simp only [over, overL, h9, h12, h10, h11]; rfl, brf⟩
  ·intro f wA hb ⟨h13, _⟩ K hK
   obtain ⟨md, m, h13, g1, k1, g2, k2⟩ := h13;have hn := dm_wm g2 k2;have hl1 := g2.lt;have hl2 := k2.lt;have al : bw wA (wA.alloc (.cells (bcs ao cap l md m (s.aoW, s.wl.length, s.capW) s.st s.aoH s.capH s.aoT s.capT).toArray 203)) := (brf).alloc (Nat.le_refl _) _;simp only [over, overL, h13];go_simp;exact hK _ _ ⟨_, ⟨wA.heap.size, md, m, rfl, hb.size, g1, k1, by omega, by omega, hn, g2.next al, k2.next al, Bk.new wA (bcs ao cap l md m (s.aoW, s.wl.length, s.capW) s.st s.aoH s.capH s.aoT s.capT) 203 wA.heap.size rfl⟩, by simp only [over, overL, h13]; rfl, (brf).alloc (Nat.le_refl _) _⟩
  ·intro f wA hb ⟨h14, _⟩ K hK
   simp only [over, overL];go_simp;exact hK _ _ ⟨_, h14, by simp only [over, overL]; rfl, brf⟩
 intro f w1 hb hv;have h5 : NB14 w0.heap.size ao cap l s (f 5) w1 := hv.2.2.2.2.2.2.2.1;obtain ⟨b, md, m, h5, g2, g3, g4, g5, g6, g7, g8, g9, g10⟩ := h5;have HG : Hid (w0.heap.size ≤ b ∧ w0.heap.size ≤ md ∧ w0.heap.size ≤ m ∧ b ≠ m ∧ b ≠ md ∧ m ≠ md) := ⟨g2, g3, g4, g5, g6, g7⟩;have HDM : Hid (DM w1 md) := g8;have HWM1 : Hid (WM w1 m []) := g9;have KB1 : Hid (Bk b (bcs ao cap l md m (s.aoW, s.wl.length, s.capW) s.st s.aoH s.capH s.aoT s.capT) w1) := g10;have KS1 := hdd (KS.out.later hb);have HB1 := hdd (HB0.out.trans (hb.mono HB0.out.size));clear hv hb g2 g3 g4 g5 g6 g7 g8 g9 g10;simp only [over, overL, h5];clear h5
 (try go_wp2)
 refine HKK.out _ _ ?_;clear HKK;obtain ⟨q0, q1, q2, q3, q4, q5, q6⟩ := (KS1.out).c7
 go_wp2_with fail
 clear q0 q1 q2 q3 q4 q5 q6
 go_loopw [18] (fun i wr => ∃ k : Nat, k ≤ s.wl.length ∧ i = .int .i64 k ∧ But b m w1 wr ∧ WM wr m (s.wl.take k) ∧ Bk b (bcs ao cap l md m (s.aoW, s.wl.length, s.capW) s.st s.aoH s.capH s.aoT s.capT) wr) (fun i _ => s.wl.length - (intOf i).toNat)
 case atStart => exact ⟨0, Nat.zero_le _, rfl, but_below (brf), HWM1.out, KB1.out⟩
 case round =>
  obtain ⟨k, hk, rfl, hbu, hwm, hkb⟩ := hrel;have HBU := hdd hbu;have HWM := hdd hwm;have KB := hdd hkb;have HB : Hid (bw w wr) := hbu.below HB1.out (Nat.le_trans HB0.out.size HG.out.1) (Nat.le_trans HB0.out.size HG.out.2.2.1) HB1.out.size;clear hbu hwm hkb
  by_cases hlt : k < s.wl.length
  rotate_left
  ·go_wp2
   go_ret;refine ⟨b, m, md, rfl, HD.out, HDC.out, HM.out, HB.out, ⟨Nat.le_trans HB0.out.size HG.out.1, Nat.le_trans HB0.out.size HG.out.2.2.1, Nat.le_trans HB0.out.size HG.out.2.1⟩, ⟨HG.out.2.2.2.1, HG.out.2.2.2.2.1, HG.out.2.2.2.2.2⟩, HDM.out.same (HBU.out.block md HDM.out.lt (fun e => HG.out.2.2.2.2.1 e.symm) (fun e => HG.out.2.2.2.2.2 e.symm)), ⟨s.wl, ?_, rfl, ?_⟩, (s.aoW, s.wl.length, s.capW), s.aoH, s.capH, s.aoT, s.capT, KB.out, ?_, ?_⟩
   ·have := HWM.out
    rw [List.take_of_length_le (by omega)] at this;exact this
   ·intro x hx
    obtain ⟨i, hi, rfl⟩ := List.getElem_of_mem hx;obtain ⟨b', off, _, hat⟩ := HS.out.wells.at hi;exact flx_low hat.fl HB.out (Nat.le_trans HB0.out.size HG.out.1) (Nat.le_trans HB0.out.size HG.out.2.2.1)
   ·exact flx_low HS.out.held HB.out (Nat.le_trans HB0.out.size HG.out.1) (Nat.le_trans HB0.out.size HG.out.2.2.1)
   ·exact txx_low HS.out.touched HB.out (Nat.le_trans HB0.out.size HG.out.1) (Nat.le_trans HB0.out.size HG.out.2.2.1)
  ·obtain ⟨b', off, hao, hx⟩ := (HS.out.wells.next HB.out).at hlt
   have HAO := hdd hao;rw [hao];clear hao;obtain ⟨y, hy⟩ : ∃ y, y = s.wl[k]'hlt := ⟨_, rfl⟩;rw [← hy] at hx;obtain ⟨_, c0, c1, c2, c3, _⟩ := hx;have HTK : Hid (insH y (delH (s.wl.take k) y.1) = s.wl.take (k + 1)) := by show _ = _; rw [hy]; exact take_ins HRI.out hlt
   have HY3 : Hid (Wf3 y.1) := by show Wf3 _; rw [hy]; exact HWF.out _ (List.getElem_mem hlt)
   obtain ⟨w2, hw2⟩ : ∃ w2, w2 = wr.alloc (who y) := ⟨_, rfl⟩;have b2 : bw wr w2 := by rw [hw2]; exact (brf).alloc (Nat.le_refl _) _
   have KY : Hid (Bk wr.heap.size [.int .i64 y.1.1, .int .i64 y.1.2.1, .int .i64 y.1.2.2, .slice y.2.1 y.2.2.2.length y.2.2.1] w2) := by show Bk _ _ _; rw [hw2]; exact Bk.new wr _ 205 wr.heap.size rfl
   have KB2 := hdd (KB.out.later b2);have HB2 : Hid (bw wr w2) := b2;have HW2 := hdd hw2;have hki : (k : Int) < (s.wl.length : Int) := by omega
   clear hy hw2 b2
   go_wp2_with fail
   rw [← HW2.out];rename_i KK hkk;have HKK := (show Hid _ from hkk);clear hkk
   refine region_seq 8 [zf,zf,zf,zf,zf,zf,zf,zf,zf,zf,zf,zf,zf,zf,zf,zf,zf,zf,zf,zf,zf,zf,zt,zt,zt,zt,zt,zt,zt,zt,zf,zf]
    [(22, [], none), (23, [22], none), (24, [23], none), (25, [24], none), (26, [], none), (27, [26], none), (28, [], none), (29, [28], none)]
    (nlpV b wr.heap.size m y) (by kernel_rfl) (by kernel_rfl) (by kernel_rfl) (by kernel_rfl) (by kernel_rfl) (by decide) (nlpV_mono b wr.heap.size m y) ?_ ?_
   ·refine ⟨?_, ?_, ?_, ?_, ?_, ?_, ?_, ?_, trivial⟩
    any_goals first | (intro f w1 hb _ K hK; simp only [over, overL]; go_simp; exact hK _ _ ⟨_, rfl, by simp only [over, overL]; rfl, brf⟩) | fail
    ·rintro f wA hb ⟨(h22 : f 22 = _), _⟩ K hK
     simp only [over, overL, h22];go_simp;exact hK _ _ ⟨_, rfl, by simp only [over, overL, h22]; rfl, brf⟩
    ·rintro f wA hb ⟨(h23 : f 23 = _), _⟩ K hK
     simp only [over, overL, h23];go_simp;exact hK _ _ ⟨_, rfl, by simp only [over, overL, h23]; rfl, brf⟩
    ·rintro f wA hb ⟨(h24 : f 24 = _), _⟩ K hK
     have q4 := (KB2.out.later hb).c 4 rfl;simp only [over, overL, h24];go_simp;exact hK _ _ ⟨_, rfl, by simp only [over, overL, h24]; rfl, brf⟩
    ·rintro f wA hb ⟨(h26 : f 26 = _), _⟩ K hK
     have q0 := (KY.out.later hb).c 0 rfl;have q1 := (KY.out.later hb).c 1 rfl;have q2 := (KY.out.later hb).c 2 rfl;simp only [over, overL, h26];go_simp;exact hK _ _ ⟨_, rfl, by simp only [over, overL, h26]; rfl, brf⟩
    ·rintro f wA hb ⟨(h28 : f 28 = _), _⟩ K hK
     have q3 := (KY.out.later hb).c 3 rfl;simp only [over, overL, h28];go_simp;exact hK _ _ ⟨_, rfl, by simp only [over, overL, h28]; rfl, brf⟩
   intro f' w3 hb hv;have h25 : f' 25 = _ := hv.2.2.2.1;have h27 : f' 27 = _ := hv.2.2.2.2.2.1;have h29 : f' 29 = _ := hv.2.2.2.2.2.2.2.1;have HB3 := hdd (HB2.out.trans (hb.mono HB2.out.size));obtain ⟨D, hown, hrd⟩ := HWM.out.next HB3.out;have HON : Once (s.wl.take k) := once_of (rising_take HRI.out k)
   have HRD : Hid (Reads (D.put (klP y.1) (.held (.slice y.2.1 y.2.2.2.length y.2.2.1))) (s.wl.take (k + 1))) := by
    have := reads_put (x := y) hrd HON HY3.out;rw [HTK.out] at this;exact this
   have hsz : Maps.size D < maxLen := by rw [hrd.size]; have : (s.wl.take k).length ≤ s.wl.length := by simp; omega
                                         unfold maxLen; omega
   clear hv hrd hb HON;simp only [List.drop, over, overL, h25, h27, h29]
   go_wp2_with (first | (at_mapUpdate; refine wpList_mapUpdate_own _ rfl _ _ _ 201 rfl 55 70 lawP Tryz.underlying201 RV m (Maps.size D) D rfl hown hsz _ _ _ rfl rfl (keyP_some HY3.out) (.held (.slice y.2.1 y.2.2.2.length y.2.2.1)) [] rfl ?_; intro w4 hown1 hg1) | go_in)
   have HWM4 : Hid (WM w4 m (s.wl.take (k + 1))) := ⟨_, own_tight hown1, HRD.out⟩;have HBU4 := hdd (HBU.out.trans ((but_below HB3.out).trans (but_grown hg1)));have KB4 := hdd ((KB.out.later HB3.out).same hg1.size (hg1.block b (KB.out.later HB3.out).1 (by simpa using HG.out.2.2.2.1)));clear hown hown1 hg1 h25 h27 h29 hsz;refine HKK.out _ _ ?_;go_wp2
   go_roundw
   case rel => exact ⟨k + 1, by omega, by go_num, HBU4.out, HWM4.out, (by have := KB4.out; rw [HAO.out] at this; exact this)⟩
   case measure => simp [intOf]; omega
end Go.Proofs.YtcajifelbldjnaaGreatDoor
