import Derived.Test.YtcajifelbldjnaaGreatDoorHh
import Derived.Test.YtcajifelbldjnaaGreatDoorHi
import Derived.WideKeyEntry
import Derived.Test.YtcajifelbldjnaaGreatDoorHg
import Derived.Test.YtcajifelbldjnaaGreatDoorHf
set_option maxRecDepth 100000
set_option maxHeartbeats 25600000
set_option linter.unusedVariables false
namespace Go.Proofs.YtcajifelbldjnaaGreatDoor
open Go.RowKit Go.Maps Go.ChangeMaps
abbrev Std := Int × Int × Int × Int
def Wf4 (p : Std) : Prop := Wf1 p.1 ∧ Wf1 p.2.1 ∧ Wf1 p.2.2.1 ∧ Wf1 p.2.2.2
abbrev stv (p : Std) : Value := .agg #[.int .i64 p.1, .int .i64 p.2.1, .int .i64 p.2.2.1, .int .i64 p.2.2.2]
theorem gateS : WideMaps.KeyLaw Tryz.prog 195 := deep_law_gate laidOutP (of_decide_eq_true (by kernel_rfl)) (of_decide_eq_true (by kernel_rfl)) (by kernel_rfl) (by kernel_rfl)
theorem gateP : WideMaps.KeyLaw Tryz.prog 55 := deep_law_gate laidOutP (of_decide_eq_true (by kernel_rfl)) (of_decide_eq_true (by kernel_rfl)) (by kernel_rfl) (by kernel_rfl)
theorem lawS : Keyed Tryz.prog 195 := Keyed.of_law gateS
theorem keyTS : Tryz.prog.keyType 195 = true := by kernel_rfl
theorem cellsSt : Tryz.prog.cellsOf 195 = 4 := by kernel_rfl
theorem cellsPt : Tryz.prog.cellsOf 31 = 3 := by kernel_rfl
theorem lits_point (d : Nat) {x y z : Int} (hx : Wf1 x) (hy : Wf1 y) (hz : Wf1 z) : Tryz.prog.keyLits (d + 2) 31 [.int .i64 x, .int .i64 y, .int .i64 z] = some [.int .i64 x, .int .i64 y, .int .i64 z] := by
 unfold Program.keyLits;rw [Tryz.underlying31];simp [cellsPt, cellsI, lits_int d hx, lits_int d hy, lits_int d hz]
theorem lits_stand (d : Nat) {p : Std} (h : Wf4 p) : Tryz.prog.keyLits (d + 3) 195 [.int .i64 p.1, .int .i64 p.2.1, .int .i64 p.2.2.1, .int .i64 p.2.2.2] = some [.int .i64 p.1, .int .i64 p.2.1, .int .i64 p.2.2.1, .int .i64 p.2.2.2] := by
 unfold Program.keyLits;rw [Tryz.underlying195];simp [cellsSt, cellsPt, cellsI, lits_int (d + 1) h.1, lits_point d h.2.1 h.2.2.1 h.2.2.2]
def klS (p : Std) : Lit := .string (keyBytes [.int .i64 p.1, .int .i64 p.2.1, .int .i64 p.2.2.1, .int .i64 p.2.2.2])
theorem keyS_some {p : Std} (h : Wf4 p) : keyOf Tryz.prog 195 (stv p) = some (klS p) := by
 unfold keyOf;rw [Tryz.underlying195];simp only [keyTS, sizeT];have hf : (stv p).formed Tryz.prog 195 = true := by simp [Value.formed, Tryz.underlying195, cellsSt]
 rw [hf];simp only [Bool.and_self, if_true, Value.cells, List.toList_toArray];rw [show 430 = 427 + 3 from rfl, lits_stand 427 h]
 rfl
theorem klS_inj {p q : Std} (hp : Wf4 p) (hq : Wf4 q) (h : klS p = klS q) : p = q := by
 have := lawS.inj (keyS_some hp) (by rw [h]; exact keyS_some hq);injection this with e;simp at e;exact Prod.ext e.1 (Prod.ext e.2.1 (Prod.ext e.2.2.1 e.2.2.2))
structure KK (κ : Type) where
 k : TypeId
 ok : κ → Prop
 v : κ → Value
 l : κ → Lit
 law : WideMaps.KeyLaw Tryz.prog k
 key : ∀ p, ok p → keyOf Tryz.prog k (v p) = some (l p)
 inj : ∀ p q, ok p → ok q → l p = l q → p = q
def kkP : KK Plc := ⟨55, Wf3, plv, klP, gateP, fun _ h => keyP_some h, fun _ _ h1 h2 h => klP_inj h1 h2 h⟩
def kkS : KK Std := ⟨195, Wf4, stv, klS, gateS, fun _ h => keyS_some h, fun _ _ h1 h2 h => klS_inj h1 h2 h⟩
section
variable {κ : Type} (c : KK κ)
def MF (w : World) (m n : Nat) (f : κ → Option Value) : Prop := ∃ D, w.ownsMap Tryz.prog c.k RV m n D ∧
 (∀ p, c.ok p → ∀ x, f p = some x → ∀ z, D.atKey (c.l p) z = .held x) ∧ ∀ p, c.ok p → f p = none → Maps.has D (c.l p) = false
def setF [DecidableEq κ] (f : κ → Option Value) (p : κ) (x : Value) : κ → Option Value := fun q => if q = p then some x else f q
variable {c}
theorem MF.lt {w : World} {m n : Nat} {f : κ → Option Value} (h : MF c w m n f) : m < w.heap.size := by
 obtain ⟨D, h1, _⟩ := h;exact h1.lt
theorem MF.same {w w1 : World} {m n : Nat} {f : κ → Option Value} (h : MF c w m n f) (hb : w1.heap[m]? = w.heap[m]?) : MF c w1 m n f := by
 obtain ⟨D, ⟨es, clock, h1, h2⟩, h3⟩ := h;exact ⟨D, ⟨es, clock, hb.trans h1, h2⟩, h3⟩
theorem MF.next {w w1 : World} {m n : Nat} {f : κ → Option Value} (h : MF c w m n f) (hb : bw w w1) : MF c w1 m n f := h.same (hb.block m h.lt)
theorem MF.made (w : World) : MF c (w.alloc (.map #[] 0)) w.heap.size 0 (fun _ => none) :=
 ⟨.map [], World.ownsMap_made w _ _ _, (fun _ _ _ h => by cases h), fun _ _ _ => rfl⟩
theorem MF.isMap {w : World} {m n : Nat} {f : κ → Option Value} (h : MF c w m n f) : ∃ es clock, w.heap[m]? = some (.map es clock) := by
 obtain ⟨D, ⟨es, clock, h1, _⟩, _⟩ := h;exact ⟨es, clock, h1⟩
theorem MF.look {w : World} {m n : Nat} {f : κ → Option Value} (h : MF c w m n f) {t e : TypeId} (ht : Tryz.prog.underlying t = some (.map c.k e)) {z : Value} (hz : (zeroValue e).run Tryz.prog w = .ok z w) {p : κ} (hp : c.ok p) :
  (Instr.lookup t (.map (some m)) (c.v p) false).run Tryz.prog w = .ok ((f p).getD z) w := by
 obtain ⟨D, h1, h2, h3⟩ := h;obtain ⟨v, ps, hrun, hv⟩ := h1.lookup (Keyed.of_law c.law) ht hz (zd := .held z) (zp := []) rfl (c.key p hp);rw [hrun]
 congr 1
 simp only [RV, Option.some.injEq, Prod.mk.injEq] at hv;have hv1 := hv.1
 cases e : f p with
 | none =>
  rw [atKey_of_not_has (h3 p hp e)] at hv1;injection hv1 with hv1
 | some x =>
  rw [h2 p hp x e] at hv1;injection hv1 with hv1
theorem MF.look_ok {w : World} {m n : Nat} {f : κ → Option Value} (h : MF c w m n f) {t e : TypeId} (ht : Tryz.prog.underlying t = some (.map c.k e)) {z : Value} (hz : (zeroValue e).run Tryz.prog w = .ok z w) {p : κ} (hp : c.ok p) :
  (Instr.lookup t (.map (some m)) (c.v p) true).run Tryz.prog w = .ok (.tuple #[(f p).getD z, .bool (f p).isSome]) w := by
 obtain ⟨D, h1, h2, h3⟩ := h;obtain ⟨v, ps, hrun, hv⟩ := h1.look_ok (Keyed.of_law c.law) ht hz (zd := .held z) (zp := []) rfl (c.key p hp);rw [hrun];simp only [RV, Option.some.injEq, Prod.mk.injEq] at hv;have hv1 := hv.1
 cases e : f p with
 | none =>
  rw [atKey_of_not_has (h3 p hp e)] at hv1;injection hv1 with hv1;rw [hv1, h3 p hp e]
  rfl
 | some x =>
  rw [h2 p hp x e] at hv1;injection hv1 with hv1;rw [hv1, has_true_of_atKey (h2 p hp x e)]
  rfl
def Half [DecidableEq κ] (c : KK κ) (t : TypeId) (m n : Nat) (f : κ → Option Value) (p : κ) (st : Value) (w : World) : Prop :=
 ∃ o1, w.heap[m]? = some o1 ∧ ∀ (w2 : World) (x : Value), w2.heap[m]? = some o1 → ∃ o2, (Instr.entryStore t (.map (some m)) st x).run Tryz.prog w2 = .ok () (setBlock w2 m o2) ∧ ∀ w3 : World, w3.heap[m]? = some o2 → MF c w3 m (n + 1) (setF f p x)
theorem heap_setBlock_at {w : World} {b : Nat} {o : Obj} (h : b < w.heap.size) : (setBlock w b o).heap[b]? = some o := by
 simp [setBlock, h]
theorem MF.entry [DecidableEq κ] {w : World} {m n : Nat} {f : κ → Option Value} (h : MF c w m n f) {t e : TypeId} (ht : Tryz.prog.underlying t = some (.map c.k e)) {z : Value} (hz : ∀ u : World, (zeroValue e).run Tryz.prog u = .ok z u) {p : κ} (hp : c.ok p) (hn : n < maxLen) :
  ∃ (v0 st : Value) (o1 : Obj), (Instr.mapEntry t (.map (some m)) (c.v p)).run Tryz.prog w = .ok (.tuple #[v0, st]) (setBlock w m o1) ∧ Half c t m n f p st (setBlock w m o1) := by
 have hlt := h.lt;obtain ⟨D, hD, h2, h3⟩ := h;have hstore := fun x : Value => hD.store (Keyed.of_law c.law) ht hn (key := c.v p) (val := x) (kl := c.l p) (d := .held x) (ps := []) (c.key p hp) rfl;have hTD := hD.tidy (Keyed.of_law c.law);obtain ⟨es, clock, hb, F, hsz, hDe⟩ := hD;obtain ⟨v0, st, es1, clock1, e1, _, e2⟩ := WideElems.entry_then_store c.law ht hz hb F (c.key p hp);refine ⟨v0, goInt st, .map es1 clock1, e1, .map es1 clock1, heap_setBlock_at hlt, fun w2 x hw2 => ?_⟩;obtain ⟨es', clock', e3, e4⟩ := e2 w2 x hw2;refine ⟨.map es' clock', e3, fun w3 hw3 => ?_⟩;obtain ⟨w', r1, r2, _⟩ := hstore x;rw [e4] at r1;injection r1 with _ r1;subst r1;obtain ⟨es2, clock2, q1, q2⟩ := r2;rw [heap_setBlock_at hlt] at q1;refine ⟨D.put (c.l p) (.held x), ⟨es2, clock2, hw3.trans q1, q2⟩, fun q hq y hy zd => ?_, fun q hq hy => ?_⟩
 ·unfold setF at hy
  by_cases e : q = p
  ·subst e
   rw [if_pos rfl] at hy;injection hy with hy;subst hy;exact atKey_put_same hTD.isMap ((Keyed.of_law c.law).key (c.key q hq)) _ _
  ·rw [if_neg e] at hy
   rw [atKey_put_other (fun e2 => e (c.inj q p hq hp e2))];exact h2 q hq y hy zd
 ·unfold setF at hy
  by_cases e : q = p
  ·rw [if_pos e] at hy; cases hy
  ·rw [if_neg e] at hy
   rw [has_put_other (fun e2 => e (c.inj q p hq hp e2))];exact h3 q hq hy
end
end Go.Proofs.YtcajifelbldjnaaGreatDoor
namespace Go.Proofs.YtcajifelbldjnaaGreatDoor
open Go.RowKit
theorem wpList_append_spot (w : World) {ops : Array Oper} {rest : List Oper} {o : Oper} {a : Act} {Q : Exit → Act → World → Prop} (hgd : o.guard = none) (s x : Operand)
  (ho : o.op = .call { callee := .builtin .append, args := #[s, x], argTypes := #[183, 183] }) (base : Nat) (v : Value) (ps : List (Nat × Nat)) (hs : a.eval s = v) (hown : Own w base v ps)
  (b : Nat) (r c : Nat) (hx : a.eval x = .slice (some ⟨b, 0, none⟩) 1 1) (h0 : w.cell? ⟨b, 0, none⟩ = some (.int .i64 r)) (h1 : w.cell? ⟨b, 1, none⟩ = some (.int .i64 c))
  (hlen : ps.length ≤ 1000000000000) (hbase : base ≤ w.heap.size)
  (h : ∀ v' w', Own w' base v' (ps ++ [(r, c)]) → w.grownBy w' v.ownBlock → wpList Tryz.prog ops Q rest (a.put o.dst v') w') :
  wpList Tryz.prog ops Q (o :: rest) a w := by
 obtain ⟨i0, hi, hz0, hz1, hz2⟩ := info_parts Tryz.info53;refine wpList_append_own_at w hgd s x 183 ho base 53 i0 (.agg #[.int .i64 0, .int .i64 0]) 2 16 Tryz.underlying183 hi hz0 hz1 hz2 rfl (by decide) v ps.length (cellsS ps) hs hown ⟨b, 0, none⟩ 1 1 [.int .i64 r, .int .i64 c] hx rfl ?_ ?_ ?_ ?_ hbase ?_
 ·intro j u hj
  match j, hj with
  | 0, hj => simp at hj; subst hj; simpa [Addr.add] using h0
  | 1, hj => simp at hj; subst hj; simpa [Addr.add] using h1
 ·intro u hu
  simp at hu
  rcases hu with rfl | rfl <;> rfl
 ·unfold maxLen; omega
 ·omega
 ·intro v' w' h1 h2 _ h4
  refine h v' w' ?_ h2;unfold Own;rw [cellsS_append, cellsS_one, List.length_append];exact h1
theorem all_ok (a : Wr) (R C : Nat) (w : World) (hs : a.name.size ≤ maxLen) (h0 : chk a = 0) (hR : a.rows = R) (hC : a.cols = C) :
  Calls Tryz.prog 107 #[wv a] w fun e w' => ∃ v, e = .returned (.tuple #[v, .int .i64 0]) ∧ Own w' (w.heap.size + 1) v (spots R (C * R)) ∧ bw w w' := by
 have HIN : Hid (InR a) := chk_inR h0;have HCH := hdd h0;have r2 : R ≤ 16 := by have := HIN.out.r2; omega
 have r1 : 1 ≤ R := by have := HIN.out.r1; omega
 have k2 : C ≤ 24 := by have := HIN.out.c2; omega
 have HR := hdd hR;have HC := hdd hC;clear hR hC h0
 go_enter Tryz.func107, Tryz.ntmps107
 go_wp2_with fail
 refine (check_any a _ hs).mono ?_;rintro e w1 ⟨rfl, hb⟩;rw [HCH.out];have e2 : w1.cell? ⟨w.heap.size, 2, none⟩ = some (.int .i64 (R : Int)) := by rw [← HR.out]; exact cell_later hb (by go_simp)
 have e3 : w1.cell? ⟨w.heap.size, 3, none⟩ = some (.int .i64 (C : Int)) := by rw [← HC.out]; exact cell_later hb (by go_simp)
 have hB : bw w w1 := ((brf).alloc (Nat.le_refl _) _).trans (hb.mono (by simp));have lt : w.heap.size + 1 ≤ w1.heap.size := by have := hb.size; simp at this; omega
 clear hb
 go_wp2_with fail
 go_loopw [5, 15] (fun v i wo => ∃ c : Nat, c ≤ C ∧ i = .int .i64 c ∧ Own wo (w.heap.size + 1) v (spots R (c * R)) ∧ Below (w.heap.size + 1) w1 wo) (fun _ i _ => C - (intOf i).toNat)
 case atStart => exact ⟨0, by omega, rfl, by simpa [spots] using Own.nil w1 (w.heap.size + 1), brf⟩
 case round =>
  obtain ⟨c, hc24, rfl, hown, hbo⟩ := hrel;obtain ⟨wo, rfl⟩ : ∃ wo, wo = wr := ⟨_, rfl⟩;obtain ⟨ao0, cap0, rfl⟩ := hown.shape;have HO := hdd hown;have HBO := hdd hbo;have d2 : wo.cell? ⟨w.heap.size, 2, none⟩ = some (.int .i64 (R : Int)) := (hbo.cell (p := ⟨w.heap.size, 2, none⟩) (by show w.heap.size < w.heap.size + 1; omega)).trans e2;clear hown hbo;generalize (spots R (c * R)).length = n0 at *
  by_cases hc : c < C
  ·go_wp2_with fail
   go_loopw [5, 20] (fun v i wi => ∃ r : Nat, r ≤ R ∧ i = .int .i64 r ∧ Own wi (w.heap.size + 1) v (spots R (c * R + r)) ∧ Below (w.heap.size + 1) w1 wi) (fun _ i _ => R - (intOf i).toNat)
   case atStart => exact ⟨0, by omega, rfl, by simpa using HO.out, HBO.out⟩
   case round =>
    obtain ⟨r, hr16, rfl, hown, hbi⟩ := hrel;obtain ⟨ao1, cap1, rfl⟩ := hown.shape;have HO2 := hdd hown;have HBI := hdd hbi
    have HL : Hid ((spots R (c * R + r)).length ≤ 1000000) := by
     show _ ≤ _;rw [spots_length];have : c * R ≤ 24 * R := Nat.mul_le_mul_right _ (by omega);omega
    clear hown hbi;generalize (spots R (c * R + r)).length = n1 at *
    by_cases hr : r < R
    ·have HSZ : Hid (w.heap.size + 1 ≤ wr.heap.size) := Nat.le_trans lt HBI.out.size
     go_wp2_with (at_builtin; refine wpList_append_spot _ rfl (.tmp 23) (.tmp 27) rfl (w.heap.size + 1) (.slice ao1 n1 cap1) (spots R (c * R + r)) rfl (HO2.out.alloc _) wr.heap.size r c rfl (by go_simp) (by go_simp) (by rw [spots_length]; have : c * R ≤ 24 * R := Nat.mul_le_mul_right _ (by omega); omega) (by have := HSZ.out; simp; omega) ?_; intro v' w2 hown1 hg)
     go_roundw
     case rel =>
      refine ⟨r + 1, by omega, by go_num, ?_, ?_⟩
      ·rw [← Nat.add_assoc, spots_next hr]; exact hown1
      ·exact below_grown (HBI.out.alloc HSZ.out _) (HO2.out.alloc _) hg (by have := HSZ.out; simp; omega)
     case measure => simp [intOf]; omega
    ·have HE : Hid (c * R + r = (c + 1) * R) := by show _ = _; rw [Nat.succ_mul]; omega
     go_wp2
     go_roundw
     case rel => exact ⟨c + 1, by omega, by go_num, by rw [← HE.out]; exact HO2.out, HBI.out⟩
     case measure => simp [intOf]; omega
  ·have HE : Hid (c = C) := by show _ = _; omega
   go_wp2;refine bodyPost_ret (v := .tuple #[.slice ao0 n0 cap0, .int .i64 0]) (by simp [results, Tryz.results107, go_sem]) rfl ⟨_, rfl, ?_, hB.trans (HBO.out.mono (by omega))⟩;have := HO.out;rwa [HE.out] at this
theorem find_none (g : Nat) (caps : Array Value) (f : Sit → Bool) (ao : Option Addr) (cap : Nat) (l : List Sit) (w : World) (eg : ∀ args w, (callFunc g args).run Tryz.prog w = .ok (.enter g args) w)
  (hT : TestsS g caps f w) (hL : Sts w ao l) (hl : l.length ≤ 9223372036854775807) (hno : ∀ s ∈ l, f s = false) :
  CR 105 #[.slice ao l.length cap, .func (.func g) #[] caps] w (.tuple #[sv zSt, .int .i64 5]) := by
 have al : bw w (w.alloc (sobj zSt)) := (brf).alloc (Nat.le_refl _) _;have hcall := indexFuncS_any g caps f ao cap l (w.alloc (sobj zSt)) eg (fun a W hW => hT a W (al.trans (hW.mono (by simp)))) (hL.next al) hl;rw [idxS_miss hno] at hcall;have HC := hdd hcall;clear hT hL hcall hno
 go_enter Tryz.func105, Tryz.ntmps105
 go_wp2_with fail
 refine HC.out.mono ?_;rintro e w1 ⟨rfl, hb⟩;have K := (Sf.new w zSt).later hb;have HB : Hid (bw w w1) := al.trans (hb.mono (by simp));clear hb al;obtain ⟨⟨al, a0, a1, a2, a3, a4, a5, a6, a7, a8, a9, a10, a11, a12, a13⟩, f0, f1, f2, f3, f4, f5, f6, f7, f8, f9, f10, f11, f12, f13⟩ := K;simp only [Nat.zero_add] at a1 a2 a3 a4 a5 a6 a7 a8 a9 a10 a11 a12 a13;go_wp2;refine bodyPost_ret (v := .tuple #[sv zSt, .int .i64 5]) (by simp [results, Tryz.results105, go_sem, a0, a1, a2, a3, a4, a5, a6, a7, a8, a9, a10, a11, a12, a13]) rfl ⟨rfl, ?_⟩;exact below_put14 (s := zSt) HB.out (Nat.le_refl _)
theorem find_hit (g : Nat) (caps : Array Value) (f : Sit → Bool) (ao : Option Addr) (cap : Nat) (l : List Sit) (w : World) (eg : ∀ args w, (callFunc g args).run Tryz.prog w = .ok (.enter g args) w)
  (hT : TestsS g caps f w) (hL : Sts w ao l) (hl : l.length ≤ 9223372036854775807) (k : Nat) (hk : k < l.length) (s : Sit) (hs : s = l[k]'hk) (hhit : f s = true) (hno : ∀ b ∈ l.take k, f b = false) :
  CR 105 #[.slice ao l.length cap, .func (.func g) #[] caps] w (.tuple #[sv s, .int .i64 0]) := by
 have al : bw w (w.alloc (sobj zSt)) := (brf).alloc (Nat.le_refl _) _;have hcall := indexFuncS_any g caps f ao cap l (w.alloc (sobj zSt)) eg (fun a W hW => hT a W (al.trans (hW.mono (by simp)))) (hL.next al) hl;rw [idxS_hit hk hno (by rw [← hs]; exact hhit)] at hcall;have HC := hdd hcall;obtain ⟨b, off, rfl, hat⟩ := hL.at hk;rw [← hs] at hat;have HAT := (show Hid _ from hat);clear hT hL hcall hno hs hhit hat
 go_enter Tryz.func105, Tryz.ntmps105
 go_wp2_with fail
 refine HC.out.mono ?_;rintro e w1 ⟨rfl, hb⟩;have K := (Sf.new w zSt).later hb;have HB : Hid (bw w w1) := al.trans (hb.mono (by simp));obtain ⟨_, c0, c1, c2, c3, c4, c5, c6, c7, c8, c9, c10, c11, c12, c13⟩ := HAT.out.next HB.out;clear hb al;obtain ⟨⟨al, a0, a1, a2, a3, a4, a5, a6, a7, a8, a9, a10, a11, a12, a13⟩, f0, f1, f2, f3, f4, f5, f6, f7, f8, f9, f10, f11, f12, f13⟩ := K;simp only [Nat.zero_add] at a1 a2 a3 a4 a5 a6 a7 a8 a9 a10 a11 a12 a13;have hki : (k : Int) < (l.length : Int) := by omega
 go_wp2;refine bodyPost_ret (v := .tuple #[sv s, .int .i64 0]) (by simp [results, Tryz.results105, go_sem, a0, a1, a2, a3, a4, a5, a6, a7, a8, a9, a10, a11, a12, a13]) rfl ⟨rfl, ?_⟩;exact below_put14 (s := s) HB.out (Nat.le_refl _)
abbrev encS : Enc (Nat × Nat) := ⟨53, 2, fun p => [.int .i64 p.1, .int .i64 p.2]⟩
theorem goodS : Good encS := ⟨fun _ => rfl, fun x u hu => by simp at hu; rcases hu with rfl | rfl <;> rfl⟩
theorem own_spots {w : World} {base : Nat} {v : Value} {ps : List (Nat × Nat)} (h : Own w base v ps) : OwnR encS w base v ps := h
theorem tips_any (ao : Option Addr) (cap : Nat) (l : List Sit) (w : World) (hD : Dk w ao cap l) (hd : dchk l = 0) :
  Calls Tryz.prog 51 #[.slice ao l.length cap] w fun e w' => ∃ v, e = .returned (.tuple #[v, .int .i64 0]) ∧ OwnR encP w' w.heap.size v (tipsL l) ∧ bw w w' := by
 have HD := hdd hD;have HDC := hdd hd;have hl := dk_len hd
 have HC : Hid (CR 26 #[.slice ao l.length cap] w (.int .i64 0)) := by
  have := dk_check ao cap l w hD (by omega);rw [hd] at this;exact this
 clear hD hd
 go_enter Tryz.func51, Tryz.ntmps51
 go_wp2_with fail
 refine Calls.mono HC.out ?_;rintro e w1 ⟨rfl, hb⟩;have HB1 := hdd hb;clear hb HC
 go_wp2_with fail
 go_loopw [5, 6] (fun v i wo => ∃ n : Nat, n ≤ 12 ∧ i = .int .i64 ((n : Int) + 1) ∧ OwnR encP wo w.heap.size v (tipsTo l n) ∧ bw w wo) (fun _ i _ => 13 - (intOf i).toNat)
 case atStart => exact ⟨0, by omega, rfl, OwnR.nil _ _ _, HB1.out⟩
 case round =>
  obtain ⟨n, hn, rfl, hown, hbo⟩ := hrel;obtain ⟨wo, rfl⟩ : ∃ wo, wo = wr := ⟨_, rfl⟩;obtain ⟨aoT, nT, capT, rfl⟩ := hown.form;have HO := hdd hown;have HBO := hdd hbo;clear hown hbo HB1
  by_cases hlt : n < 12
  ·have hlt2 : ((n : Int) + 1) ≤ 12 := by omega
   have hs := HBO.out.size;have HFD : Hid (Sts (wo.alloc (.cells #[.int .i64 ((n : Int) + 1)] 3)) ao l) := (HD.out.sts.next HBO.out).next ((brf).alloc (Nat.le_refl _) _);have HT : Hid (TestsS 168 #[ptr wo.heap.size] (fun a => a.slot == (n : Int) + 1) (wo.alloc (.cells #[.int .i64 ((n : Int) + 1)] 3))) := fun a W hW => standing_test a _ wo.heap.size W (by have := hW.size; simp at this; omega) (cell_later hW (by go_simp))
   rcases find_cases l ((n : Int) + 1) with ⟨h1, h2⟩ | ⟨k, hk, h1, h2, h3⟩
   ·have HR : Hid (tipsTo l (n + 1) = tipsTo l n) := by show _ = _; rw [tipsTo_succ, rackIn_no h1, List.append_nil]
    have HF : Hid (Calls Tryz.prog 105 #[.slice ao l.length cap, .func (.func 168) #[] #[ptr wo.heap.size]] (wo.alloc (.cells #[.int .i64 ((n : Int) + 1)] 3)) fun e w' => e = .returned (.tuple #[sv zSt, .int .i64 5]) ∧ Below (wo.alloc (.cells #[.int .i64 ((n : Int) + 1)] 3)).heap.size (wo.alloc (.cells #[.int .i64 ((n : Int) + 1)] 3)) w') := find_none 168 #[ptr wo.heap.size] (fun a => a.slot == (n : Int) + 1) ao cap l _ en168 HT.out HFD.out (by omega) h2;clear HT HFD h1 h2
    go_wp2_with fail
    refine (standingIn_any ((n : Int) + 1) wo).mono ?_;rintro e w2 ⟨rfl, rfl⟩
    go_wp2_with fail
    refine Calls.mono HF.out ?_;rintro e w3 ⟨rfl, hb3⟩;have HB3 : Hid (bw w w3) := (HBO.out.alloc hs _).trans (hb3.mono (by simp; omega));have HO3 : Hid (OwnR encP w3 w.heap.size (.slice aoT nT capT) (tipsTo l n)) := (HO.out.alloc _).later hb3;clear hb3 HF;go_wp2
    go_roundw
    case rel => exact ⟨n + 1, by omega, by go_num, by rw [HR.out]; exact HO3.out.alloc _, HB3.out.alloc HB3.out.size _⟩
    case measure => simp [intOf]; omega
   ·obtain ⟨s, hs'⟩ : ∃ s, s = l[k]'hk := ⟨_, rfl⟩
    rw [← hs'] at h1 h2;have HF : Hid (Calls Tryz.prog 105 #[.slice ao l.length cap, .func (.func 168) #[] #[ptr wo.heap.size]] (wo.alloc (.cells #[.int .i64 ((n : Int) + 1)] 3)) fun e w' => e = .returned (.tuple #[sv s, .int .i64 0]) ∧ Below (wo.alloc (.cells #[.int .i64 ((n : Int) + 1)] 3)).heap.size (wo.alloc (.cells #[.int .i64 ((n : Int) + 1)] 3)) w') := find_hit 168 #[ptr wo.heap.size] (fun a => a.slot == (n : Int) + 1) ao cap l _ en168 HT.out HFD.out (by omega) k hk s hs' (by simp [h2]) h3;have HSO : Hid (SOk s) := by show SOk s; rw [hs']; exact HD.out.ok _ (List.getElem_mem hk)
    have HCH : Hid (chk s.ware = 0) := by show _ = _; rw [hs']; exact (dchk_ware HDC.out (List.getElem_mem hk)).1
    clear HT HFD h2 h3 hs'
    by_cases hkd : s.ware.kind = 2
    rotate_left
    ·have hkd2 : (s.ware.kind != 2) = true := by simp [hkd]
     have HR : Hid (tipsTo l (n + 1) = tipsTo l n) := by show _ = _; rw [tipsTo_succ, rackIn_kind h1 hkd, List.append_nil]
     clear h1 hkd
     go_wp2_with fail
     refine (standingIn_any ((n : Int) + 1) wo).mono ?_;rintro e w2 ⟨rfl, rfl⟩
     go_wp2_with fail
     refine Calls.mono HF.out ?_;rintro e w3 ⟨rfl, hb3⟩;have HB3 : Hid (bw w w3) := (HBO.out.alloc hs _).trans (hb3.mono (by simp; omega));have HO3 : Hid (OwnR encP w3 w.heap.size (.slice aoT nT capT) (tipsTo l n)) := (HO.out.alloc _).later hb3;clear hb3 HF;go_wp2
     go_roundw
     case rel => exact ⟨n + 1, by omega, by go_num, by rw [HR.out]; exact HO3.out.alloc _, HB3.out.alloc HB3.out.size _⟩
     case measure => simp [intOf]; omega
    ·have hkd2 : (s.ware.kind != 2) = false := by simp [hkd]
     obtain ⟨R, hR⟩ : ∃ R : Nat, s.ware.rows = R := ⟨s.ware.rows.toNat, by have := inR_iff.1 (chk_in HCH.out).2.2.1; omega⟩;obtain ⟨C, hC⟩ : ∃ C : Nat, s.ware.cols = C := ⟨s.ware.cols.toNat, by have := inR_iff.1 (chk_in HCH.out).2.2.2.1; omega⟩;have HR : Hid (tipsTo l (n + 1) = tipsTo l n ++ (spots R (C * R)).map (spotP ((n : Int) + 1))) := by show _ = _; rw [tipsTo_succ, rackIn_yes h1 hkd hR hC]
     have HAll : Hid (∀ W, Calls Tryz.prog 107 #[wv s.ware] W fun e w' => ∃ v, e = .returned (.tuple #[v, .int .i64 0]) ∧ Own w' (W.heap.size + 1) v (spots R (C * R)) ∧ bw W w') := fun W => all_ok s.ware R C W HSO.out.1 HCH.out hR hC
     have HSM : Hid (C * R ≤ 384) := by
      show _ ≤ _;have a1 := inR_iff.1 (chk_in HCH.out).2.2.1;have a2 := inR_iff.1 (chk_in HCH.out).2.2.2.1;have := Nat.mul_le_mul (show C ≤ 24 by omega) (show R ≤ 16 by omega);omega
     clear h1 hR hC hkd;generalize hSP : spots R (C * R) = sps at *;have HSL : Hid (sps.length ≤ 384) := by show _ ≤ _; rw [← hSP, spots_length]; exact HSM.out
     clear hSP HSM
     go_wp2_with fail
     refine (standingIn_any ((n : Int) + 1) wo).mono ?_;rintro e w2 ⟨rfl, rfl⟩
     go_wp2_with fail
     refine Calls.mono HF.out ?_;rintro e w3 ⟨rfl, hb3⟩;have HB3 : Hid (bw w w3) := (HBO.out.alloc hs _).trans (hb3.mono (by simp; omega));have HO3 : Hid (OwnR encP w3 w.heap.size (.slice aoT nT capT) (tipsTo l n)) := (HO.out.alloc _).later hb3;clear hb3 HF HO HBO
     go_wp2_with fail
     refine Calls.mono (HAll.out _) ?_;rintro e w4 ⟨u, rfl, hu, hb4⟩;have HB4 : Hid (bw w w4) := (HB3.out.alloc HB3.out.size _).trans (hb4.mono (by have := HB3.out.size; simp; omega));have HO4 : Hid (OwnR encP w4 w.heap.size (.slice aoT nT capT) (tipsTo l n)) := (HO3.out.alloc _).later hb4;have HSep : Hid ((Value.slice aoT nT capT).ownBlock = none ∨ u.ownBlock ≠ (Value.slice aoT nT capT).ownBlock) := sep_of (HO3.out.alloc (sobj s)) (own_spots hu) (by simp);obtain ⟨aoS, capS, rfl⟩ := (own_spots hu).shape;have HU : Hid (OwnR encS w4 0 (.slice aoS sps.length capS) sps) := (own_spots hu).base (Nat.zero_le _);clear hu hb4 HAll HO3 HB3
     go_wp2_with fail
     go_loopw [5, 45] (fun v i wi => ∃ r : Nat, r ≤ sps.length ∧ i = .int .i64 r ∧ OwnR encP wi w.heap.size v (tipsTo l n ++ (sps.map (spotP ((n : Int) + 1))).take r) ∧ OwnR encS wi 0 (.slice aoS sps.length capS) sps ∧ (v.ownBlock = none ∨ (Value.slice aoS sps.length capS).ownBlock ≠ v.ownBlock) ∧ bw w wi) (fun _ i _ => sps.length - (intOf i).toNat)
     case atStart => exact ⟨0, by omega, rfl, by simpa using HO4.out, HU.out, HSep.out, HB4.out⟩
     case round =>
      obtain ⟨r, hr, rfl, hown, hu, hsep, hbi⟩ := hrel;obtain ⟨aoV, nV, capV, rfl⟩ := hown.form;have HOi := hdd hown;have HUi := hdd hu;have HSi := hdd hsep;have HBi := hdd hbi;clear hown hu hsep hbi HO4 HU HSep HB4;have hsl := HSL.out
      by_cases hrl : r < sps.length
      ·rcases HUi.out.read goodS with ⟨e0, _⟩ | ⟨g, cap0, e0, _, _, hg, hc⟩
       ·rw [e0] at hrl; simp at hrl
       injection e0 with e1 e2 e3;subst e1;have q0 := hc r hrl 0 (by decide);have q1 := hc r hrl 1 (by decide);have HTk : Hid ((sps.map (spotP ((n : Int) + 1))).take (r + 1) = (sps.map (spotP ((n : Int) + 1))).take r ++ [spotP ((n : Int) + 1) (sps[r]'hrl)]) := take_map_succ _ hrl;generalize sps[r]'hrl = sp at *;simp only [List.getElem?_cons_zero, List.getElem?_cons_succ, Nat.add_zero] at q0 q1;clear hc e2 e3;have hsz := HBi.out.size;have hgn : g ≠ wr.heap.size := by omega
       have HLen : Hid ((tipsTo l n ++ (sps.map (spotP ((n : Int) + 1))).take r).length ≤ 1000000000) := by
        show _ ≤ _;have a1 := tipsTo_length HDC.out n;rw [List.length_append, List.length_take, List.length_map];have a2 := HSL.out;omega
       go_wp2_with (at_builtin; refine wpList_append_row goodP Tryz.underlying62 infoP rfl (by decide) (by decide) _ rfl (.tmp 49) (.tmp 53) rfl w.heap.size (.slice aoV nV capV) (tipsTo l n ++ (sps.map (spotP ((n : Int) + 1))).take r) rfl ((HOi.out.alloc _).alloc _) (wr.heap.size + 1) (spotP ((n : Int) + 1) sp) rfl (fun j u hu => (Bk.new (wr.alloc _) _ 55 (wr.heap.size + 1) (by simp)).c j hu) HLen.out (by simp; omega) ?_; intro v' w5 ho hg' hloc)
       have HO5 : Hid (OwnR encP w5 w.heap.size v' (tipsTo l n ++ (sps.map (spotP ((n : Int) + 1))).take (r + 1))) := by show OwnR _ _ _ _ _; rw [HTk.out, ← List.append_assoc]; exact ho
       have HU5 := (show Hid _ from sep_kept HSi.out ((HUi.out.alloc _).alloc _) hg' hloc);have HB5 : Hid (bw w w5) := below_row ((HBi.out.alloc hsz _).alloc (by simp; omega) _) ((HOi.out.alloc _).alloc _) hg' (by simp; omega);clear ho hg' hloc
       go_roundw
       case rel => exact ⟨r + 1, by omega, by go_num, HO5.out, HU5.out.1, HU5.out.2, HB5.out⟩
       case measure => simp [intOf]; omega
      ·have HE : Hid (r = sps.length) := by show _ = _; omega
       go_wp2
       go_roundw
       case rel =>
        refine ⟨n + 1, by omega, by go_num, ?_, HBi.out⟩;have := HOi.out;rw [HE.out, List.take_of_length_le (by simp)] at this;rw [HR.out];exact this
       case measure => simp [intOf]; omega
  ·have HE : Hid (n = 12) := by show _ = _; omega
   go_wp2
   go_ret2
   refine ⟨_, rfl, ?_, HBO.out⟩;have := HO.out;rw [HE.out, tipsTo_all] at this;exact this
abbrev put3 (w : World) (b : Nat) (x y z : Int) : World := ((w.setCell ⟨b, 0, none⟩ (.int .i64 x)).setCell ⟨b, 1, none⟩ (.int .i64 y)).setCell ⟨b, 2, none⟩ (.int .i64 z)
theorem below_put3 {n b : Nat} {w w' : World} {x y z : Int} (h : Below n w w') (hn : n ≤ b) : Below n w (put3 w' b x y z) :=
 ((h.setCell hn _).setCell hn _).setCell hn _
def atV (s : Sit) (X Y Z mx my mz : Int) (S : Nat) (d : Nat) (v : Value) (_ : World) : Prop :=
 match d with
 | 39 => v = .pointer (some ⟨S, 0, none⟩)
 | 40 => v = .int .i64 s.slot
 | 41 => v = ptv (cx s.slot) (cy s.slot) 0
 | 42 => v = ptv mx my mz
 | 43 => v = ptv X Y Z
 | _ => True
theorem at_ok (ao : Option Addr) (cap : Nat) (l : List Sit) (n r c : Int) (w : World) (hL : Sts w ao l) (hcap : l.length ≤ cap) (hl : l.length ≤ 9223372036854775807) (hok : ∀ s ∈ l, SOk s) (hd : dchk l = 0) (k : Nat) (hk : k < l.length) (s : Sit) (hs : s = l[k]'hk) (hhit : s.slot = n) (hno : ∀ b ∈ l.take k, (b.slot == n) = false) (hsp : spotOk r c s.ware.rows s.ware.cols = true) :
  CR 112 #[.slice ao l.length cap, ptv n r c] w (.tuple #[ptv (cx s.slot + (s.ware.x + c * s.ware.pitch)) (cy s.slot + (s.ware.y + r * s.ware.pitch)) (0 + (s.ware.hei - s.ware.deep)), .int .i64 0]) := by
 have al : bw w ((w.alloc (plo n r c)).alloc (pto 0 0 0)) := ((brf).alloc (Nat.le_refl _) _).alloc (by simp) _
 have HC : Hid (Calls Tryz.prog 26 #[.slice ao l.length cap] ((w.alloc (plo n r c)).alloc (pto 0 0 0)) fun e w' => e = .returned (.int .i64 0) ∧ Below ((w.alloc (plo n r c)).alloc (pto 0 0 0)).heap.size ((w.alloc (plo n r c)).alloc (pto 0 0 0)) w') := by
  have := deckCheck_any ao cap l _ (hL.next al) hcap hl hok;rw [hd] at this;exact this
 have HF : Hid (∀ W : World, bw w W → Calls Tryz.prog 105 #[.slice ao l.length cap, .func (.func 168) #[] #[ptr W.heap.size]] (W.alloc (.cells #[.int .i64 n] 3)) fun e w' => e = .returned (.tuple #[sv s, .int .i64 0]) ∧ Below (W.alloc (.cells #[.int .i64 n] 3)).heap.size (W.alloc (.cells #[.int .i64 n] 3)) w') := fun W hW =>
  find_hit 168 #[ptr W.heap.size] (fun a => a.slot == n) ao cap l _ en168 (fun a W' hW' => standing_test a n W.heap.size W' (by have := hW'.size; simp at this; omega) (cell_later hW' (by go_simp))) (hL.next (hW.alloc hW.size _)) hl k hk s hs (by simp [hhit]) hno
 have HSO : Hid (SOk s) := by show SOk s; rw [hs]; exact hok _ (List.getElem_mem hk)
 have HCH : Hid (chk s.ware = 0) := by show _ = _; rw [hs]; exact ((dchk_in hd).2 k hk).2.1
 have HPL : Hid (1 ≤ s.slot ∧ s.slot ≤ 12) := by show _ ∧ _; rw [hs]; exact ⟨(plc_in ((dchk_in hd).2 k hk).1).1, (plc_in ((dchk_in hd).2 k hk).1).2.1⟩
 have HSP := hdd hsp;obtain ⟨mx, hmx⟩ : ∃ mx, mx = s.ware.x + c * s.ware.pitch := ⟨_, rfl⟩;obtain ⟨my, hmy⟩ : ∃ my, my = s.ware.y + r * s.ware.pitch := ⟨_, rfl⟩;obtain ⟨mz, hmz⟩ : ∃ mz, mz = s.ware.hei - s.ware.deep := ⟨_, rfl⟩
 have HIN : Hid (∀ m ∈ [cx s.slot, cy s.slot, 0, mx, my, mz], 0 ≤ m ∧ m ≤ 1000000000000) := by
  have hin := chk_inR HCH.out;have h1 := spotOk_iff.1 HSP.out;have h2 := prod_in (c := c) (p := s.ware.pitch) h1.2.1 (by have := hin.c2; omega) hin.p0 hin.p1;have h3 := prod_in (c := r) (p := s.ware.pitch) h1.1.1 (by have := hin.r2; omega) hin.p0 hin.p1;have h4 := (chk_in HCH.out).2.2.2.2.2;simp only [roomOk, Bool.and_eq_true, decide_eq_true_eq] at h4;have h5 := cx_in (n := s.slot);have h6 := cy_in HPL.out.1 HPL.out.2;obtain ⟨_, _, _, _, _, _, _, _, _, _, _, _, _, _, _, _, _, _⟩ := hin;intro m hm;simp only [List.mem_cons, List.mem_nil_iff, or_false] at hm
  rcases hm with e | e | e | e | e | e <;> omega
 have HMD : Hid (∀ W : World, CR 173 #[wv s.ware, .agg #[.int .i64 r, .int .i64 c]] W (.tuple #[ptv mx my mz, .int .i64 0])) := fun W => by
  rw [hmx, hmy, hmz]; exact middle_ok s.ware r c W HSO.out.1 HCH.out HSP.out
 rw [← hmx, ← hmy, ← hmz];obtain ⟨X, hX⟩ : ∃ X, X = cx s.slot + mx := ⟨_, rfl⟩;obtain ⟨Y, hY⟩ : ∃ Y, Y = cy s.slot + my := ⟨_, rfl⟩;obtain ⟨Z, hZ⟩ : ∃ Z, Z = 0 + mz := ⟨_, rfl⟩;have HCO : Hid (∀ W : World, CR 175 #[.int .i64 s.slot] W (ptv (cx s.slot) (cy s.slot) 0)) := fun W => corner_any s.slot W HPL.out.1 HPL.out.2
 have HAD : Hid (∀ W : World, CR 174 #[ptv (cx s.slot) (cy s.slot) 0, ptv mx my mz] W (ptv X Y Z)) := fun W => by
  rw [hX, hY, hZ]; exact added_any _ _ _ _ _ _ W HIN.out
 rw [← hX, ← hY, ← hZ];clear hX hY hZ;clear hL hok hd hno hs hhit hsp hmx hmy hmz
 go_enter Tryz.func112, Tryz.ntmps112
 go_wp2_with fail
 refine Calls.mono HC.out ?_;rintro e w1 ⟨rfl, hb⟩;have TP : Hid (T3 w.heap.size n r c w1) := ((T3.new w n r c 55 w.heap.size rfl).later ((brf).alloc (Nat.le_refl _) _)).later hb;have TR : Hid (T3 (w.heap.size + 1) 0 0 0 w1) := (T3.new (w.alloc (plo n r c)) 0 0 0 31 (w.heap.size + 1) (by simp)).later hb;have HB : Hid (bw w w1) := al.trans (hb.mono (by simp; omega));obtain ⟨_, p0, p1, p2, _, _, _⟩ := TP.out;clear hb al HC
 go_wp2_with fail
 refine (standingIn_any n w1).mono ?_;rintro e w2 ⟨rfl, rfl⟩
 go_wp2_with fail
 refine Calls.mono (HF.out w1 HB.out) ?_;rintro e w3 ⟨rfl, hb3⟩;have al1 : bw w1 (w1.alloc (.cells #[.int .i64 n] 3)) := (brf).alloc (Nat.le_refl _) _;have HB3 : Hid (bw w w3) := (HB.out.alloc HB.out.size _).trans (hb3.mono (by have := HB.out.size; simp; omega));have TP3 : Hid (T3 w.heap.size n r c w3) := (TP.out.later al1).later hb3;have TR3 : Hid (T3 (w.heap.size + 1) 0 0 0 w3) := (TR.out.later al1).later hb3;clear hb3 al1 p0 p1 p2 TP TR HB HF;obtain ⟨_, q0, q1, q2, _, _, _⟩ := TP3.out
 go_wp2_with fail
 refine Calls.mono (HMD.out (w3.alloc (sobj s))) ?_;rintro e w5 ⟨rfl, hb5⟩;have al3 : bw w3 (w3.alloc (sobj s)) := (brf).alloc (Nat.le_refl _) _;have HB5 : Hid (bw w w5) := (HB3.out.alloc HB3.out.size _).trans (hb5.mono (by have := HB3.out.size; simp; omega));have TR5 : Hid (T3 (w.heap.size + 1) 0 0 0 w5) := (TR3.out.later al3).later hb5;have KS5 : Hid (Sf w3.heap.size s w5) := (Sf.new w3 s).later hb5;clear hb5 al3 q0 q1 q2 TR3 TP3 HMD
 go_wp2_with fail
 obtain ⟨w6, hw6⟩ : ∃ w6, w6 = w5.alloc (pto mx my mz) := ⟨_, rfl⟩;have al5 : bw w5 w6 := by rw [hw6]; exact (brf).alloc (Nat.le_refl _) _
 have TR6 : Hid (T3 (w.heap.size + 1) 0 0 0 w6) := TR5.out.later al5;have KS6 : Hid (Sf w3.heap.size s w6) := KS5.out.later al5;have TM6 : Hid (T3 w5.heap.size mx my mz w6) := by show T3 _ _ _ _ _; rw [hw6]; exact T3.new w5 mx my mz 31 _ rfl
 have HB6 : Hid (bw w w6) := HB5.out.trans (al5.mono HB5.out.size);rw [← hw6];clear hw6 al5 TR5 KS5 HB5
 refine region_seq 5 [zf,zf,zf,zf,zf,zf,zf,zf,zf,zf,zf,zf,zf,zf,zf,zf,zf,zf,zf,zf,zf,zf,zf,zf,zf,zf,zf,zf,zf,zf,zf,zf,zf,zf,zf,zf,zf,zf,zf,zt,zt,zt,zt,zt]
  [(39, [], none), (40, [39], none), (41, [40], none), (42, [], none), (43, [41, 42], none)]
  (atV s X Y Z mx my mz w3.heap.size) (by kernel_rfl) (by kernel_rfl) (by kernel_rfl) (by kernel_rfl) (by kernel_rfl) (by decide) (fun _ _ _ _ h _ => h) ?_ ?_
 ·refine ⟨?_, ?_, ?_, ?_, ?_, trivial⟩
  ·intro f w1 hb _ K hK
   simp only [ov, oL, Nat.reduceAdd];go_simp;exact hK _ _ ⟨_, rfl, by simp only [ov, oL, Nat.reduceAdd]; rfl, brf⟩
  ·rintro f w1 hb ⟨(h39 : f 39 = _), _⟩ K hK
   obtain ⟨⟨al, a0, a1, a2, a3, a4, a5, a6, a7, a8, a9, a10, a11, a12, a13⟩, _⟩ := (KS6.out).later hb;simp only [Nat.zero_add] at a1 a2 a3 a4 a5 a6 a7 a8 a9 a10 a11 a12 a13;simp only [ov, oL, Nat.reduceAdd, h39];go_simp;exact hK _ _ ⟨_, rfl, by simp only [ov, oL, Nat.reduceAdd, h39]; rfl, brf⟩
  ·rintro f w1 hb ⟨(h40 : f 40 = _), _⟩ K hK
   simp only [ov, oL, Nat.reduceAdd, h40];go_simp;refine Calls.mono (HCO.out _) ?_;rintro e w9 ⟨rfl, hb9⟩;exact hK _ _ ⟨_, rfl, by simp only [ov, oL, Nat.reduceAdd, h40]; rfl, hb9⟩
  ·intro f w1 hb _ K hK
   obtain ⟨_, t0, t1, t2, _, _, _⟩ := TM6.out.later hb;simp only [ov, oL, Nat.reduceAdd];go_simp;exact hK _ _ ⟨_, rfl, by simp only [ov, oL, Nat.reduceAdd]; rfl, brf⟩
  ·rintro f w1 hb ⟨(h41 : f 41 = _), (h42 : f 42 = _), _⟩ K hK
   simp only [ov, oL, Nat.reduceAdd, h41, h42];go_simp;refine Calls.mono (HAD.out _) ?_;rintro e w9 ⟨rfl, hb9⟩;exact hK _ _ ⟨_, rfl, by simp only [ov, oL, Nat.reduceAdd, h41, h42]; rfl, hb9⟩
 intro f w7 hb7 hv;have h43 : f 43 = ptv X Y Z := hv.2.2.2.2.1;obtain ⟨_, c0, c1, c2, f0, f1, f2⟩ := TR6.out.later hb7;have HB7 : Hid (bw w w7) := HB6.out.trans (hb7.mono HB6.out.size);clear hb7 hv HCO HAD HIN;simp only [ov, oL, h43, Nat.reduceAdd, List.drop_succ_cons, List.drop_zero];clear h43;go_wp2;refine bodyPost_ret (v := .tuple #[ptv X Y Z, .int .i64 0]) (by simp [results, Tryz.results112, go_sem, c0, c1, c2]) rfl ⟨rfl, below_put3 HB7.out (by omega)⟩
end Go.Proofs.YtcajifelbldjnaaGreatDoor
