import Derived.Test.YtcajifelbldjnaaGreatDoorHp
import Derived.Maps.OwnSet
import Derived.Maps.Ext
import Derived.Test.YtcajifelbldjnaaGreatDoorHg
set_option maxRecDepth 100000
set_option maxHeartbeats 25600000
set_option linter.unusedVariables false
namespace Go.Proofs.YtcajifelbldjnaaGreatDoor.K
open Go.RowKit Go.Maps
theorem keyedI : Keyed Tryz.prog 3 := int_keyed Tryz.underlying3
theorem zeroI (w : World) : (zeroValue 3).run Tryz.prog w = .ok (.int .i64 0) w := by kernel_rfl
theorem wfI {n : Int} (h0 : -9223372036854775808 ≤ n) (h1 : n ≤ 9223372036854775807) : (Lit.int .i64 n).wf = true := by
 have e1 : IntKind.i64.min = -9223372036854775808 := rfl;have e2 : IntKind.i64.max = 9223372036854775807 := rfl;simp only [Lit.wf,Bool.and_eq_true,decide_eq_true_eq];omega
abbrev ky (n : Nat) : Lit := .int .i64 (n : Int)
def cntB (T : Nat → Bool) (n : Nat) : Nat := ((List.range n).filter T).length
theorem cntB_le (T : Nat → Bool) (n : Nat) : cntB T n ≤ n := by
 unfold cntB;have := List.length_filter_le T (List.range n)
 simpa using this
theorem cntB_more {T S : Nat → Bool} {k : Nat} (hk : T k = false) (hS : ∀ j,S j = (T j || decide (j = k))) : ∀ n,cntB S n = cntB T n + if k < n then 1 else 0
 | 0 => by simp [cntB]
 | n + 1 => by
  have ih := cntB_more hk hS n;unfold cntB at ih ⊢;rw [List.range_succ,List.filter_append,List.filter_append,List.length_append,List.length_append,ih]
  by_cases e : n = k
  ·subst e
   simp [List.filter,hS,hk]
  ·have : S n = T n := by rw [hS]; simp [e]
   by_cases hT : T n = true
   ·simp only [List.filter,this,hT,List.length_cons,List.length_nil]
    split <;> split <;> omega
   ·simp only [List.filter,this,Bool.eq_false_iff.2 hT,List.length_nil]
    split <;> split <;> omega
def TM (r : Rp) (M : Nat) (w : World) : Prop := ∃ D : DataW Unit,w.ownsMap Tryz.prog 3 (plainElem Tryz.prog 3) M (Maps.size D) D ∧ Tidy D ∧ Maps.size D ≤ cntB (fun k => Maps.has D (ky k)) 20001 ∧
 ∀ n : Nat,n ≤ 20000 → Maps.has D (ky n) = true → ∀ z,D.atKey (ky n) z = .lit (.int .i64 (totR r n))
theorem own_tight {w : World} {k : TypeId} {R : Value → Option (DataW Unit × List MemPlace)} {b n : Nat} {D : DataW Unit} (h : w.ownsMap Tryz.prog k R b n D) : w.ownsMap Tryz.prog k R b (Maps.size D) D := by
 obtain ⟨es,clock,hb,F,_,hD⟩ := h;refine ⟨es,clock,hb,F,?_,hD⟩;rw [hD,Maps.size_eq,length_sorted];simp
theorem TM.lt {r : Rp} {M : Nat} {w : World} (h : TM r M w) : M < w.heap.size := by
 obtain ⟨D,h1,_⟩ := h;exact h1.lt
theorem TM.same {r : Rp} {M : Nat} {w w1 : World} (h : TM r M w) (hb : w1.heap[M]? = w.heap[M]?) : TM r M w1 := by
 obtain ⟨D,⟨es,clock,h1,h2⟩,h3⟩ := h;exact ⟨D,⟨es,clock,hb.trans h1,h2⟩,h3⟩
theorem TM.later {r : Rp} {M : Nat} {w w1 : World} (h : TM r M w) (hb : bw w w1) : TM r M w1 := h.same (hb.block M h.lt)
theorem TM.made (r : Rp) (w : World) : TM r w.heap.size (w.alloc (.map #[] 0)) := ⟨.map [],World.ownsMap_made w _ _ _,tidy_empty,Nat.zero_le _,fun n _ h => by cases h⟩
theorem TM.look {r : Rp} {M : Nat} {w : World} (h : TM r M w) {n : Nat} (hn : n ≤ 20000) : ∃ (v : Int) (k : Bool),(Instr.lookup 102 (.map (some M)) (.int .i64 (n : Int)) true).run Tryz.prog w = .ok (.tuple #[.int .i64 v,.bool k]) w ∧ (k = true → v = totR r n) := by
 obtain ⟨D,h1,ht,hs,hv⟩ := h;obtain ⟨v,ps,hrun,hR⟩ := h1.look_ok keyedI Tryz.underlying102 (zeroI w) (plainElem_int Tryz.underlying3 (wfI (n := 0) (by decide) (by decide))) (keyOf_int_mk Tryz.underlying3 (wfI (n := (n : Int)) (by omega) (by omega)));obtain ⟨c,rfl,hc,_⟩ := plainElem_int_inv Tryz.underlying3 hR;refine ⟨c,_,hrun,fun hk => ?_⟩;simp only [Prod.mk.injEq] at hc;have := (hv n hn hk _).symm.trans hc.1
 simpa using this.symm
theorem key_lit (n : Nat) (hn : n ≤ 20000) : WideAt.IsKeyLit (ky n) := keyedI.key (keyOf_int_mk Tryz.underlying3 (wfI (n := (n : Int)) (by omega) (by omega)))
theorem TM.store {r : Rp} {M : Nat} {w : World} (h : TM r M w) {n : Nat} (hn : n ≤ 20000) (hr : rpOk r = true) : ∃ w',(Instr.mapUpdate 102 (.map (some M)) (.int .i64 (n : Int)) (.int .i64 (totR r n))).run Tryz.prog w = .ok () w' ∧ TM r M w' ∧ w.grownBy w' (some M) := by
 obtain ⟨D,h1,ht,hs,hv⟩ := h;have hb := totR_bd hr hn;have hc := cntB_le (fun k => Maps.has D (ky k)) 20001;obtain ⟨w',hrun,h2,hg⟩ := h1.update keyedI Tryz.underlying102 (Nat.lt_of_le_of_lt (Nat.le_trans hs hc) (by decide)) (keyOf_int_mk Tryz.underlying3 (wfI (n := (n : Int)) (by omega) (by omega))) (plainElem_int (H := Unit) Tryz.underlying3 (wfI (n := totR r n) (by omega) (by omega)));refine ⟨w',hrun,⟨_,own_tight h2,ht.put (key_lit n hn) _,?_,?_⟩,hg⟩
 ·have hp : ∀ j : Nat,Maps.has (D.put (ky n) (.lit (.int .i64 (totR r n)))) (ky j) = (Maps.has D (ky j) || decide (j = n)) := fun j => by
   by_cases e : j = n
   ·subst e
    rw [Maps.has_put_same (World.ownsMap.isMap h1) (key_lit j hn)];simp
   ·rw [Maps.has_put_other (by simpa using fun h => e (by omega))]
    simp [e]
  rw [Maps.size_put ht]
  cases e : Maps.has D (ky n) with
  | true =>
   simp only [if_true]
   have ee : (fun k : Nat => Maps.has (D.put (ky n) (.lit (.int .i64 (totR r n)))) (ky k)) = fun k : Nat => Maps.has D (ky k) := by
    funext j
    rw [hp]
    by_cases ej : j = n
    ·subst ej; rw [e]; rfl
    ·simp [ej]
   rw [ee];exact hs
  | false =>
   have h5 := cntB_more (T := fun k => Maps.has D (ky k)) (k := n) e hp 20001;rw [if_pos (show n < 20001 by omega)] at h5;simp only [Bool.false_eq_true,if_false];exact Nat.le_trans (Nat.succ_le_succ hs) (Nat.le_of_eq h5.symm)
 ·intro m hm hh z
  by_cases e : m = n
  ·subst e
   exact Maps.atKey_put_same (World.ownsMap.isMap h1) (key_lit m hn) _ _
  ·have hne : ky m ≠ ky n := by simpa using fun h => e (by omega)
   rw [Maps.has_put_other hne] at hh;rw [Maps.atKey_put_other hne];exact hv m hm hh z
abbrev bdc (r : Rg) (f : Fm) (M : Nat) : List Value := [.int .i64 r.lo.x,.int .i64 r.lo.y,.int .i64 r.lo.z,.int .i64 r.hi.x,.int .i64 r.hi.y,.int .i64 r.hi.z,.int .i64 r.rp.c,.int .i64 r.rp.f,.int .i64 r.rp.m,.int .i64 r.rp.r,.int .i64 r.ps,.int .i64 r.mo,
 .bool f.hm,.int .i64 f.pt.x,.int .i64 f.pt.y,.int .i64 f.pt.z,.int .i64 f.pl,.bool f.tp,.int .i64 f.ht,.int .i64 f.tu,.int .i64 f.tk,.map (some M)]
abbrev bdv (r : Rg) (f : Fm) (M : Nat) : Value := .agg #[.int .i64 r.lo.x,.int .i64 r.lo.y,.int .i64 r.lo.z,.int .i64 r.hi.x,.int .i64 r.hi.y,.int .i64 r.hi.z,.int .i64 r.rp.c,.int .i64 r.rp.f,.int .i64 r.rp.m,.int .i64 r.rp.r,.int .i64 r.ps,.int .i64 r.mo,
 .bool f.hm,.int .i64 f.pt.x,.int .i64 f.pt.y,.int .i64 f.pt.z,.int .i64 f.pl,.bool f.tp,.int .i64 f.ht,.int .i64 f.tu,.int .i64 f.tk,.map (some M)]
abbrev bdo (r : Rg) (f : Fm) (M : Nat) : Obj := .cells #[.int .i64 r.lo.x,.int .i64 r.lo.y,.int .i64 r.lo.z,.int .i64 r.hi.x,.int .i64 r.hi.y,.int .i64 r.hi.z,.int .i64 r.rp.c,.int .i64 r.rp.f,.int .i64 r.rp.m,.int .i64 r.rp.r,.int .i64 r.ps,.int .i64 r.mo,
 .bool f.hm,.int .i64 f.pt.x,.int .i64 f.pt.y,.int .i64 f.pt.z,.int .i64 f.pl,.bool f.tp,.int .i64 f.ht,.int .i64 f.tu,.int .i64 f.tk,.map (some M)] 104
structure Bd (B M : Nat) (r : Rg) (f : Fm) (w : World) : Prop where
 bk : Bk B (bdc r f M) w
 tm : TM r.rp M w
 ne : B ≠ M
def BM (B M : Nat) : Nat → Prop := fun k => k = B ∨ k = M
theorem Bd.later {B M : Nat} {r : Rg} {f : Fm} {w w1 : World} (h : Bd B M r f w) (hb : bw w w1) : Bd B M r f w1 := ⟨h.bk.later hb,h.tm.later hb,h.ne⟩
theorem _root_.Go.Proofs.YtcajifelbldjnaaGreatDoor.Kpt.onB {B M : Nat} {w w1 w2 : World} (h : Kpt (BM B M) w w1) (hb : bw w1 w2) : Kpt (BM B M) w w2 := h.trans (Kpt.of_below hb)
theorem total_any (B M : Nat) (r : Rg) (f : Fm) (n : Nat) (w : World) (h : Bd B M r f w) (hr : rpOk r.rp = true) (hn : n ≤ 20000) :
  Calls Tryz.prog 234 #[ptr B,.int .i64 (n : Int)] w fun e w' => e = .returned (.int .i64 (totR r.rp n)) ∧ Bd B M r f w' ∧ Kpt (BM B M) w w' := by
 have HT : Hid (∀ W,CR 193 #[rv r.rp,.int .i64 (n : Int)] W (.tuple #[.int .i64 (totR r.rp n),.int .i64 0])) := fun W => total_yes r.rp n W hr hn;have HS : Hid (∀ W,TM r.rp M W → ∃ w',(Instr.mapUpdate 102 (.map (some M)) (.int .i64 (n : Int)) (.int .i64 (totR r.rp n))).run Tryz.prog W = .ok () w' ∧ TM r.rp M w' ∧ W.grownBy w' (some M)) := fun W hW => hW.store hn hr;have HD := hdd h;obtain ⟨v,k,hl,hk⟩ := h.tm.look hn;have q6 := h.bk.c 6 rfl;have q7 := h.bk.c 7 rfl;have q8 := h.bk.c 8 rfl;have q9 := h.bk.c 9 rfl;have q21 := h.bk.c 21 rfl;clear h hr
 cases k with
 | true =>
  have e := hk rfl;have HE : Hid (v = totR r.rp n) := e;clear e hk
  go_enter Tryz.func234,Tryz.ntmps234
  go_wp2;go_ret;exact ⟨ret_int HE.out,HD.out,Kpt.refl _ _⟩
 | false =>
  clear hk;obtain ⟨t,ht⟩ : ∃ t,t = totR r.rp n := ⟨_,rfl⟩;rw [← ht] at HT HS ⊢;clear ht
  go_enter Tryz.func234,Tryz.ntmps234
  go_wp2_with fail
  refine (HT.out _).mono ?_;rintro e w1 ⟨rfl,hb1⟩;have HD1 := hdd (HD.out.later hb1);obtain ⟨w2,hs,hm,hg⟩ := HS.out w1 HD1.out.tm;have HD2 : Hid (Bd B M r f w2) := ⟨HD1.out.bk.same hg.size (hg.block B HD1.out.bk.1 (fun e => HD1.out.ne (by simpa using e))),hm,HD1.out.ne⟩;have HK : Hid (Kpt (BM B M) w w2) := (Kpt.of_below hb1).trans (Kpt.grown hg fun k hk => .inr (by simpa using hk.symm));have q21' := HD1.out.bk.c 21 rfl;clear hm hg hb1 HD1 HD q6 q7 q8 q9 q21;go_wp2;go_ret;exact ⟨rfl,HD2.out,HK.out⟩
def ndbV (B A C : Nat) (r : Rg) (p q : Pt) (d : Nat) (v : Value) (_ : World) : Prop :=
 match d with
 | 10 | 11 | 12 | 18 | 19 | 20 => v = .pointer (some ⟨B,0,none⟩)
 | 13 | 21 => v = .agg #[.int .i64 r.lo.x,.int .i64 r.lo.y,.int .i64 r.lo.z,.int .i64 r.hi.x,.int .i64 r.hi.y,.int .i64 r.hi.z,.int .i64 r.rp.c,.int .i64 r.rp.f,.int .i64 r.rp.m,.int .i64 r.rp.r,.int .i64 r.ps,.int .i64 r.mo]
 | 14 => v = .agg #[.int .i64 p.x,.int .i64 p.y,.int .i64 p.z]
 | 15 | 24 | 25 => v = .bool true
 | 16 | 17 | 23 => v = .bool false
 | 22 => v = .agg #[.int .i64 q.x,.int .i64 q.y,.int .i64 q.z]
 | _ => True
theorem ndbV_mono (B A C : Nat) (r : Rg) (p q : Pt) (d : Nat) (v : Value) (w w' : World) (h : ndbV B A C r p q d v w) (_ : bw w w') : ndbV B A C r p q d v w' := h
def ndcV (B A C : Nat) (r : Rg) (p q : Pt) (d : Nat) (v : Value) (_ : World) : Prop :=
 match d with
 | 10 | 11 | 12 | 18 | 19 | 20 => v = .pointer (some ⟨B,0,none⟩)
 | 13 | 21 => v = .agg #[.int .i64 r.lo.x,.int .i64 r.lo.y,.int .i64 r.lo.z,.int .i64 r.hi.x,.int .i64 r.hi.y,.int .i64 r.hi.z,.int .i64 r.rp.c,.int .i64 r.rp.f,.int .i64 r.rp.m,.int .i64 r.rp.r,.int .i64 r.ps,.int .i64 r.mo]
 | 14 => v = .agg #[.int .i64 p.x,.int .i64 p.y,.int .i64 p.z]
 | 15 | 23 => v = .bool true
 | 16 | 17 | 24 | 25 => v = .bool false
 | 22 => v = .agg #[.int .i64 q.x,.int .i64 q.y,.int .i64 q.z]
 | _ => True
theorem ndcV_mono (B A C : Nat) (r : Rg) (p q : Pt) (d : Nat) (v : Value) (w w' : World) (h : ndcV B A C r p q d v w) (_ : bw w w') : ndcV B A C r p q d v w' := h
def ngV (B A C : Nat) (r : Rg) (p q : Pt) (g s : Int) (d : Nat) (v : Value) (_ : World) : Prop :=
 match d with
 | 27 => v = .agg #[.int .i64 p.x,.int .i64 p.y,.int .i64 p.z]
 | 28 => v = .agg #[.int .i64 q.x,.int .i64 q.y,.int .i64 q.z]
 | 29 => v = .int .i64 g
 | 30 | 31 | 32 => v = .pointer (some ⟨B,0,none⟩)
 | 33 => v = .pointer (some ⟨B,10,none⟩)
 | 34 => v = .int .i64 r.ps
 | 35 | 9 => v = .int .i64 s
 | _ => True
theorem ngV_mono (B A C : Nat) (r : Rg) (p q : Pt) (g s : Int) (d : Nat) (v : Value) (w w' : World) (h : ngV B A C r p q g s d v w) (_ : bw w w') : ngV B A C r p q g s d v w' := h
theorem need_b (a : Nat → Addr) (n B M : Nat) (r : Rg) (f : Fm) (p q : Pt) (w : World) (h : Bd B M r f w) (hg : Gl a n w) (hp : inS r p = true) (hq : inS r q = false) :
  Calls Tryz.prog 194 #[ptr B,v3 p,v3 q] w fun e w' => e = .returned (.tuple #[.int .i64 0,.iface 387 (.pointer (some (a 0)))]) ∧ Bd B M r f w' ∧ Kpt (BM B M) w w' := by
 obtain ⟨w0,hw0⟩ : ∃ x,x = (w.alloc (o3 p 31)).alloc (o3 q 31) := ⟨_,rfl⟩;have HB0 : Hid (bw w w0) := by show Below _ _ _; rw [hw0]; exact two_new _ _ _
 have KA0 : Hid (Bk w.heap.size (c3 p) w0) := by show Bk _ _ _; rw [hw0]; exact (Bk.new w (c3 p) 31 w.heap.size rfl).later (one_new _ _)
 have KC0 : Hid (Bk (w.heap.size + 1) (c3 q) w0) := by show Bk _ _ _; rw [hw0]; exact Bk.new (w.alloc (o3 p 31)) (c3 q) 31 (w.heap.size + 1) (by simp)
 have HD : Hid (Bd B M r f w0) := h.later HB0.out;have KB := hdd (HD.out.bk);have HP : Hid (∀ W,CR 144 #[rgv r,v3 p] W (.bool true)) := fun W => by have := isWithin_any r p W; rwa [hp] at this
 have HQ : Hid (∀ W,CR 144 #[rgv r,v3 q] W (.bool false)) := fun W => by have := isWithin_any r q W; rwa [hq] at this
 have HGl : Hid (Gl a n w0) := hg.later HB0.out;obtain ⟨C,hC⟩ : ∃ b,b = w.heap.size + 1 := ⟨_,rfl⟩;obtain ⟨A,hA⟩ : ∃ b,b = w.heap.size := ⟨_,rfl⟩;rw [← hC] at KC0;rw [← hA] at KA0;have KA : Hid (Bk A (c3 p) w0) := KA0;have KC : Hid (Bk C (c3 q) w0) := KC0;clear KA0 KC0
 go_enter Tryz.func194,Tryz.ntmps194
 go_wp2_with fail
 simp only [← hw0,← hC];simp only [← hA];rename_i KK hkk;have HKK := (show Hid _ from hkk);clear hkk hA hC hw0
 refine region_inv [zf,zf,zf,zf,zf,zf,zf,zf,zf,zf,zt,zt,zt,zt,zt,zt,zt,zt,zt,zt,zt,zt,zt,zt,zt,zt,zf,zf,zf,zf,zf,zf,zf,zf,zf,zf,zf,zf,zf,zf,zf,zf,zf,zf,zf,zf,zf]
  [(10,[],none),(11,[10],none),(12,[11],none),(13,[12],none),(14,[],none),(15,[13,14],none),(16,[15],none),(17,[16],none),(18,[17],some (17,false)),(19,[17,18],some (17,false)),(20,[17,19],some (17,false)),(21,[17,20],some (17,false)),(22,[17],some (17,false)),(23,[17,21,22],some (17,false)),(24,[17,23],some (17,false)),(25,[17,24],none)]
  (ndbV B A C r p q) (by kernel_rfl) (by kernel_rfl) (ndbV_mono B A C r p q) ?_ ?_
 ·refine ⟨?_,?_,?_,?_,?_,?_,?_,?_,?_,?_,?_,?_,?_,?_,?_,?_,trivial⟩
  ·intro f w1 hb _ K hK
   simp only [ov,oL,Nat.reduceAdd];go_simp;exact hK _ _ ⟨_,rfl,by simp only [ov,oL,Nat.reduceAdd]; rfl,brf⟩
  ·rintro f w1 hb ⟨(h10 : f 10 = _),_⟩ K hK
   simp only [ov,oL,Nat.reduceAdd,h10];go_simp;exact hK _ _ ⟨_,rfl,by simp only [ov,oL,Nat.reduceAdd,h10]; rfl,brf⟩
  ·rintro f w1 hb ⟨(h11 : f 11 = _),_⟩ K hK
   simp only [ov,oL,Nat.reduceAdd,h11];go_simp;exact hK _ _ ⟨_,rfl,by simp only [ov,oL,Nat.reduceAdd,h11]; rfl,brf⟩
  ·rintro f w1 hb ⟨(h12 : f 12 = _),_⟩ K hK
   have q0 := (KB.out.later hb).c 0 rfl;have q1 := (KB.out.later hb).c 1 rfl;have q2 := (KB.out.later hb).c 2 rfl;have q3 := (KB.out.later hb).c 3 rfl;have q4 := (KB.out.later hb).c 4 rfl;have q5 := (KB.out.later hb).c 5 rfl;have q6 := (KB.out.later hb).c 6 rfl;have q7 := (KB.out.later hb).c 7 rfl;have q8 := (KB.out.later hb).c 8 rfl;have q9 := (KB.out.later hb).c 9 rfl;have q10 := (KB.out.later hb).c 10 rfl;have q11 := (KB.out.later hb).c 11 rfl;simp only [ov,oL,Nat.reduceAdd,h12];go_simp;exact hK _ _ ⟨_,rfl,by simp only [ov,oL,Nat.reduceAdd,h12]; rfl,brf⟩
  ·intro f w1 hb _ K hK
   have q0 := (KA.out.later hb).c 0 rfl;have q1 := (KA.out.later hb).c 1 rfl;have q2 := (KA.out.later hb).c 2 rfl;simp only [ov,oL,Nat.reduceAdd];go_simp;exact hK _ _ ⟨_,rfl,by simp only [ov,oL,Nat.reduceAdd]; rfl,brf⟩
  ·rintro f w1 hb ⟨(h13 : f 13 = _),(h14 : f 14 = _),_⟩ K hK
   simp only [ov,oL,Nat.reduceAdd,h13,h14];go_simp;refine (HP.out _).mono ?_;rintro e w2 ⟨rfl,hb2⟩;exact hK _ _ ⟨_,rfl,by simp only [ov,oL,Nat.reduceAdd,h13,h14]; rfl,hb2⟩
  ·rintro f w1 hb ⟨(h15 : f 15 = _),_⟩ K hK
   simp only [ov,oL,Nat.reduceAdd,h15];go_simp;exact hK _ _ ⟨_,rfl,by simp only [ov,oL,Nat.reduceAdd,h15]; rfl,brf⟩
  ·rintro f w1 hb ⟨(h16 : f 16 = _),_⟩ K hK
   simp only [ov,oL,Nat.reduceAdd,h16];go_simp;exact hK _ _ ⟨_,rfl,by simp only [ov,oL,Nat.reduceAdd,h16]; rfl,brf⟩
  ·rintro f w1 hb ⟨(h17 : f 17 = _),_⟩
   refine ⟨fun _ => ?_,fun hg => absurd h17 hg⟩;intro K hK;simp only [ov,oL,Nat.reduceAdd,h17];go_simp;exact hK _ _ ⟨_,rfl,by simp only [ov,oL,Nat.reduceAdd,h17]; rfl,brf⟩
  ·rintro f w1 hb ⟨(h17 : f 17 = _),(h18 : f 18 = _),_⟩
   refine ⟨fun _ => ?_,fun hg => absurd h17 hg⟩;intro K hK;simp only [ov,oL,Nat.reduceAdd,h17,h18];go_simp;exact hK _ _ ⟨_,rfl,by simp only [ov,oL,Nat.reduceAdd,h17,h18]; rfl,brf⟩
  ·rintro f w1 hb ⟨(h17 : f 17 = _),(h19 : f 19 = _),_⟩
   refine ⟨fun _ => ?_,fun hg => absurd h17 hg⟩;intro K hK;simp only [ov,oL,Nat.reduceAdd,h17,h19];go_simp;exact hK _ _ ⟨_,rfl,by simp only [ov,oL,Nat.reduceAdd,h17,h19]; rfl,brf⟩
  ·rintro f w1 hb ⟨(h17 : f 17 = _),(h20 : f 20 = _),_⟩
   refine ⟨fun _ => ?_,fun hg => absurd h17 hg⟩;intro K hK;have q0 := (KB.out.later hb).c 0 rfl;have q1 := (KB.out.later hb).c 1 rfl;have q2 := (KB.out.later hb).c 2 rfl;have q3 := (KB.out.later hb).c 3 rfl;have q4 := (KB.out.later hb).c 4 rfl;have q5 := (KB.out.later hb).c 5 rfl;have q6 := (KB.out.later hb).c 6 rfl;have q7 := (KB.out.later hb).c 7 rfl;have q8 := (KB.out.later hb).c 8 rfl;have q9 := (KB.out.later hb).c 9 rfl;have q10 := (KB.out.later hb).c 10 rfl;have q11 := (KB.out.later hb).c 11 rfl;simp only [ov,oL,Nat.reduceAdd,h17,h20];go_simp;exact hK _ _ ⟨_,rfl,by simp only [ov,oL,Nat.reduceAdd,h17,h20]; rfl,brf⟩
  ·rintro f w1 hb ⟨(h17 : f 17 = _),_⟩
   refine ⟨fun _ => ?_,fun hg => absurd h17 hg⟩;intro K hK;have q0 := (KC.out.later hb).c 0 rfl;have q1 := (KC.out.later hb).c 1 rfl;have q2 := (KC.out.later hb).c 2 rfl;simp only [ov,oL,Nat.reduceAdd,h17];go_simp;exact hK _ _ ⟨_,rfl,by simp only [ov,oL,Nat.reduceAdd,h17]; rfl,brf⟩
  ·rintro f w1 hb ⟨(h17 : f 17 = _),(h21 : f 21 = _),(h22 : f 22 = _),_⟩
   refine ⟨fun _ => ?_,fun hg => absurd h17 hg⟩;intro K hK;simp only [ov,oL,Nat.reduceAdd,h17,h21,h22];go_simp;refine (HQ.out _).mono ?_;rintro e w2 ⟨rfl,hb2⟩;exact hK _ _ ⟨_,rfl,by simp only [ov,oL,Nat.reduceAdd,h17,h21,h22]; rfl,hb2⟩
  ·rintro f w1 hb ⟨(h17 : f 17 = _),(h23 : f 23 = _),_⟩
   refine ⟨fun _ => ?_,fun hg => absurd h17 hg⟩;intro K hK;simp only [ov,oL,Nat.reduceAdd,h17,h23];go_simp;exact hK _ _ ⟨_,rfl,by simp only [ov,oL,Nat.reduceAdd,h17,h23]; rfl,brf⟩
  ·rintro f w1 hb ⟨(h17 : f 17 = _),(h24 : f 24 = _),_⟩ K hK
   simp only [ov,oL,Nat.reduceAdd,h17,h24];go_simp;exact hK _ _ ⟨_,rfl,by simp only [ov,oL,Nat.reduceAdd,h17,h24]; rfl,brf⟩
 ·intro fr w1 hb1 hv
  have h25 : fr 25 = .bool true := hv.2.2.2.2.2.2.2.2.2.2.2.2.2.2.2.1;have HD1 := hdd (HD.out.later hb1);have HK1 : Hid (Kpt (BM B M) w w1) := Kpt.of_below (below_on HB0.out hb1);have g0 : w1.cell? ⟨3,0,none⟩ = some (.iface 387 (.pointer (some (a 0)))) := (HGl.out.later hb1).cell 0 (by decide);simp only [oeq,oL,h25,Nat.reduceAdd];clear hv h25 hb1;refine HKK.out _ _ ?_
  go_wp2_with fail
  go_quiet (fail)
  go_wp2;exact bodyPost_ret (v := .tuple #[.int .i64 0,.iface 387 (.pointer (some (a 0)))]) (by simp [results,Tryz.results194,go_sem]) rfl ⟨rfl,HD1.out.later (drewN_low _ _ _),HK1.out.onB (drewN_low _ _ _)⟩
theorem need_c (B M : Nat) (r : Rg) (f : Fm) (p q : Pt) (w : World) (h : Bd B M r f w) (hr : RgOk r) (hp : inS r p = true) (hq : inS r q = true) :
  Calls Tryz.prog 194 #[ptr B,v3 p,v3 q] w fun e w' => e = .returned (.tuple #[.int .i64 (tick r p q),.nilIface]) ∧ Bd B M r f w' ∧ Kpt (BM B M) w w' := by
 obtain ⟨g,hge⟩ : ∃ g,g = gch p q := ⟨_,rfl⟩;obtain ⟨s,hse⟩ : ∃ s,s = upB g r.ps := ⟨_,rfl⟩;have HG : Hid (∀ W,CR 233 #[v3 p,v3 q] W (.int .i64 g)) := fun W => by rw [hge]; exact greatest_any p q W (near_of hr hp) (near_of hr hq)
 have HU : Hid (∀ W,Calls Tryz.prog 153 #[.int .i64 g,.int .i64 r.ps] W fun e w' => e = .returned (.int .i64 s) ∧ w' = W) := fun W => by
  have h1 := gch_bd hr hp hq;rw [hse];exact upBy_any g r.ps W (by omega) (by omega) hr.ps.1 hr.ps.2
 have HS : Hid (0 ≤ s ∧ s ≤ 20000000 ∧ runT r.rp s.toNat = tick r p q) := by
  have h1 := gch_bd hr hp hq;have h2 := steps_bd hr hp hq;rw [← hge,← hse] at h2;refine ⟨by omega,by omega,?_⟩;unfold tick
  congr 1
  omega
 have HR : Hid (rpOk r.rp = true) := hr.rp
 have HT : Hid (∀ (x : Int) W,0 ≤ x → x ≤ 20000 → Bd B M r f W → Calls Tryz.prog 234 #[ptr B,.int .i64 x] W fun e w' => e = .returned (.int .i64 (totR r.rp x.toNat)) ∧ Bd B M r f w' ∧ Kpt (BM B M) W w') := fun x W h0 h1 hW => by
  have := total_any B M r f x.toNat W hW hr.rp (by omega);rwa [show ((x.toNat : Nat) : Int) = x by omega] at this
 clear hge hse hr;obtain ⟨w0,hw0⟩ : ∃ x,x = (w.alloc (o3 p 31)).alloc (o3 q 31) := ⟨_,rfl⟩;have HB0 : Hid (bw w w0) := by show Below _ _ _; rw [hw0]; exact two_new _ _ _
 have KA0 : Hid (Bk w.heap.size (c3 p) w0) := by show Bk _ _ _; rw [hw0]; exact (Bk.new w (c3 p) 31 w.heap.size rfl).later (one_new _ _)
 have KC0 : Hid (Bk (w.heap.size + 1) (c3 q) w0) := by show Bk _ _ _; rw [hw0]; exact Bk.new (w.alloc (o3 p 31)) (c3 q) 31 (w.heap.size + 1) (by simp)
 have HD : Hid (Bd B M r f w0) := h.later HB0.out;have KB := hdd (HD.out.bk);have HP : Hid (∀ W,CR 144 #[rgv r,v3 p] W (.bool true)) := fun W => by have := isWithin_any r p W; rwa [hp] at this
 have HQ : Hid (∀ W,CR 144 #[rgv r,v3 q] W (.bool true)) := fun W => by have := isWithin_any r q W; rwa [hq] at this
 obtain ⟨C,hC⟩ : ∃ b,b = w.heap.size + 1 := ⟨_,rfl⟩;obtain ⟨A,hA⟩ : ∃ b,b = w.heap.size := ⟨_,rfl⟩;rw [← hC] at KC0;rw [← hA] at KA0;have KA : Hid (Bk A (c3 p) w0) := KA0;have KC : Hid (Bk C (c3 q) w0) := KC0;clear KA0 KC0
 go_enter Tryz.func194,Tryz.ntmps194
 go_wp2_with fail
 simp only [← hw0,← hC];simp only [← hA];rename_i KK hkk;have HKK := (show Hid _ from hkk);clear hkk hA hC hw0
 refine region_inv [zf,zf,zf,zf,zf,zf,zf,zf,zf,zf,zt,zt,zt,zt,zt,zt,zt,zt,zt,zt,zt,zt,zt,zt,zt,zt,zf,zf,zf,zf,zf,zf,zf,zf,zf,zf,zf,zf,zf,zf,zf,zf,zf,zf,zf,zf,zf]
  [(10,[],none),(11,[10],none),(12,[11],none),(13,[12],none),(14,[],none),(15,[13,14],none),(16,[15],none),(17,[16],none),(18,[17],some (17,false)),(19,[17,18],some (17,false)),(20,[17,19],some (17,false)),(21,[17,20],some (17,false)),(22,[17],some (17,false)),(23,[17,21,22],some (17,false)),(24,[17,23],some (17,false)),(25,[17,24],none)]
  (ndcV B A C r p q) (by kernel_rfl) (by kernel_rfl) (ndcV_mono B A C r p q) ?_ ?_
 ·refine ⟨?_,?_,?_,?_,?_,?_,?_,?_,?_,?_,?_,?_,?_,?_,?_,?_,trivial⟩
  ·intro f w1 hb _ K hK
   simp only [ov,oL,Nat.reduceAdd];go_simp;exact hK _ _ ⟨_,rfl,by simp only [ov,oL,Nat.reduceAdd]; rfl,brf⟩
  ·rintro f w1 hb ⟨(h10 : f 10 = _),_⟩ K hK
   simp only [ov,oL,Nat.reduceAdd,h10];go_simp;exact hK _ _ ⟨_,rfl,by simp only [ov,oL,Nat.reduceAdd,h10]; rfl,brf⟩
  ·rintro f w1 hb ⟨(h11 : f 11 = _),_⟩ K hK
   simp only [ov,oL,Nat.reduceAdd,h11];go_simp;exact hK _ _ ⟨_,rfl,by simp only [ov,oL,Nat.reduceAdd,h11]; rfl,brf⟩
  ·rintro f w1 hb ⟨(h12 : f 12 = _),_⟩ K hK
   have q0 := (KB.out.later hb).c 0 rfl;have q1 := (KB.out.later hb).c 1 rfl;have q2 := (KB.out.later hb).c 2 rfl;have q3 := (KB.out.later hb).c 3 rfl;have q4 := (KB.out.later hb).c 4 rfl;have q5 := (KB.out.later hb).c 5 rfl;have q6 := (KB.out.later hb).c 6 rfl;have q7 := (KB.out.later hb).c 7 rfl;have q8 := (KB.out.later hb).c 8 rfl;have q9 := (KB.out.later hb).c 9 rfl;have q10 := (KB.out.later hb).c 10 rfl;have q11 := (KB.out.later hb).c 11 rfl;simp only [ov,oL,Nat.reduceAdd,h12];go_simp;exact hK _ _ ⟨_,rfl,by simp only [ov,oL,Nat.reduceAdd,h12]; rfl,brf⟩
  ·intro f w1 hb _ K hK
   have q0 := (KA.out.later hb).c 0 rfl;have q1 := (KA.out.later hb).c 1 rfl;have q2 := (KA.out.later hb).c 2 rfl;simp only [ov,oL,Nat.reduceAdd];go_simp;exact hK _ _ ⟨_,rfl,by simp only [ov,oL,Nat.reduceAdd]; rfl,brf⟩
  ·rintro f w1 hb ⟨(h13 : f 13 = _),(h14 : f 14 = _),_⟩ K hK
   simp only [ov,oL,Nat.reduceAdd,h13,h14];go_simp;refine (HP.out _).mono ?_;rintro e w2 ⟨rfl,hb2⟩;exact hK _ _ ⟨_,rfl,by simp only [ov,oL,Nat.reduceAdd,h13,h14]; rfl,hb2⟩
  ·rintro f w1 hb ⟨(h15 : f 15 = _),_⟩ K hK
   simp only [ov,oL,Nat.reduceAdd,h15];go_simp;exact hK _ _ ⟨_,rfl,by simp only [ov,oL,Nat.reduceAdd,h15]; rfl,brf⟩
  ·rintro f w1 hb ⟨(h16 : f 16 = _),_⟩ K hK
   simp only [ov,oL,Nat.reduceAdd,h16];go_simp;exact hK _ _ ⟨_,rfl,by simp only [ov,oL,Nat.reduceAdd,h16]; rfl,brf⟩
  ·rintro f w1 hb ⟨(h17 : f 17 = _),_⟩
   refine ⟨fun _ => ?_,fun hg => absurd h17 hg⟩;intro K hK;simp only [ov,oL,Nat.reduceAdd,h17];go_simp;exact hK _ _ ⟨_,rfl,by simp only [ov,oL,Nat.reduceAdd,h17]; rfl,brf⟩
  ·rintro f w1 hb ⟨(h17 : f 17 = _),(h18 : f 18 = _),_⟩
   refine ⟨fun _ => ?_,fun hg => absurd h17 hg⟩;intro K hK;simp only [ov,oL,Nat.reduceAdd,h17,h18];go_simp;exact hK _ _ ⟨_,rfl,by simp only [ov,oL,Nat.reduceAdd,h17,h18]; rfl,brf⟩
  ·rintro f w1 hb ⟨(h17 : f 17 = _),(h19 : f 19 = _),_⟩
   refine ⟨fun _ => ?_,fun hg => absurd h17 hg⟩;intro K hK;simp only [ov,oL,Nat.reduceAdd,h17,h19];go_simp;exact hK _ _ ⟨_,rfl,by simp only [ov,oL,Nat.reduceAdd,h17,h19]; rfl,brf⟩
  ·rintro f w1 hb ⟨(h17 : f 17 = _),(h20 : f 20 = _),_⟩
   refine ⟨fun _ => ?_,fun hg => absurd h17 hg⟩;intro K hK;have q0 := (KB.out.later hb).c 0 rfl;have q1 := (KB.out.later hb).c 1 rfl;have q2 := (KB.out.later hb).c 2 rfl;have q3 := (KB.out.later hb).c 3 rfl;have q4 := (KB.out.later hb).c 4 rfl;have q5 := (KB.out.later hb).c 5 rfl;have q6 := (KB.out.later hb).c 6 rfl;have q7 := (KB.out.later hb).c 7 rfl;have q8 := (KB.out.later hb).c 8 rfl;have q9 := (KB.out.later hb).c 9 rfl;have q10 := (KB.out.later hb).c 10 rfl;have q11 := (KB.out.later hb).c 11 rfl;simp only [ov,oL,Nat.reduceAdd,h17,h20];go_simp;exact hK _ _ ⟨_,rfl,by simp only [ov,oL,Nat.reduceAdd,h17,h20]; rfl,brf⟩
  ·rintro f w1 hb ⟨(h17 : f 17 = _),_⟩
   refine ⟨fun _ => ?_,fun hg => absurd h17 hg⟩;intro K hK;have q0 := (KC.out.later hb).c 0 rfl;have q1 := (KC.out.later hb).c 1 rfl;have q2 := (KC.out.later hb).c 2 rfl;simp only [ov,oL,Nat.reduceAdd,h17];go_simp;exact hK _ _ ⟨_,rfl,by simp only [ov,oL,Nat.reduceAdd,h17]; rfl,brf⟩
  ·rintro f w1 hb ⟨(h17 : f 17 = _),(h21 : f 21 = _),(h22 : f 22 = _),_⟩
   refine ⟨fun _ => ?_,fun hg => absurd h17 hg⟩;intro K hK;simp only [ov,oL,Nat.reduceAdd,h17,h21,h22];go_simp;refine (HQ.out _).mono ?_;rintro e w2 ⟨rfl,hb2⟩;exact hK _ _ ⟨_,rfl,by simp only [ov,oL,Nat.reduceAdd,h17,h21,h22]; rfl,hb2⟩
  ·rintro f w1 hb ⟨(h17 : f 17 = _),(h23 : f 23 = _),_⟩
   refine ⟨fun _ => ?_,fun hg => absurd h17 hg⟩;intro K hK;simp only [ov,oL,Nat.reduceAdd,h17,h23];go_simp;exact hK _ _ ⟨_,rfl,by simp only [ov,oL,Nat.reduceAdd,h17,h23]; rfl,brf⟩
  ·rintro f w1 hb ⟨(h17 : f 17 = _),(h24 : f 24 = _),_⟩ K hK
   simp only [ov,oL,Nat.reduceAdd,h17,h24];go_simp;exact hK _ _ ⟨_,rfl,by simp only [ov,oL,Nat.reduceAdd,h17,h24]; rfl,brf⟩
 ·intro fr w1 hb1 hv
  have h25 : fr 25 = .bool false := hv.2.2.2.2.2.2.2.2.2.2.2.2.2.2.2.1;have HD1 := hdd (HD.out.later hb1);have HB1 : Hid (bw w w1) := below_on HB0.out hb1;have KA1 := hdd (KA.out.later hb1);have KC1 := hdd (KC.out.later hb1);simp only [oeq,oL,h25,Nat.reduceAdd];clear hv h25 hb1 KA KC KB HD HB0;have KA := KA1;have KC := KC1;have KB := hdd (HD1.out.bk);clear KA1 KC1;refine HKK.out _ _ ?_;clear HKK
  go_wp2_with fail
  rename_i KK2 hkk2;have HKK := (show Hid _ from hkk2);clear hkk2
  refine region_inv [zf,zf,zf,zf,zf,zf,zf,zf,zf,zt,zf,zf,zf,zf,zf,zf,zf,zf,zf,zf,zf,zf,zf,zf,zf,zf,zf,zt,zt,zt,zt,zt,zt,zt,zt,zt,zf,zf,zf,zf,zf,zf,zf,zf,zf,zf,zf]
   [(27,[],none),(28,[],none),(29,[27,28],none),(30,[],none),(31,[30],none),(32,[31],none),(33,[32],none),(34,[33],none),(35,[29,34],none),(9,[35],none)]
   (ngV B A C r p q g s) (by kernel_rfl) (by kernel_rfl) (ngV_mono B A C r p q g s) ?_ ?_
  ·refine ⟨?_,?_,?_,?_,?_,?_,?_,?_,?_,?_,trivial⟩
   ·intro f w1 hb _ K hK
    have q0 := (KA.out.later hb).c 0 rfl;have q1 := (KA.out.later hb).c 1 rfl;have q2 := (KA.out.later hb).c 2 rfl;simp only [ov,oL,Nat.reduceAdd];go_simp;exact hK _ _ ⟨_,rfl,by simp only [ov,oL,Nat.reduceAdd]; rfl,brf⟩
   ·intro f w1 hb _ K hK
    have q0 := (KC.out.later hb).c 0 rfl;have q1 := (KC.out.later hb).c 1 rfl;have q2 := (KC.out.later hb).c 2 rfl;simp only [ov,oL,Nat.reduceAdd];go_simp;exact hK _ _ ⟨_,rfl,by simp only [ov,oL,Nat.reduceAdd]; rfl,brf⟩
   ·rintro f w1 hb ⟨(h27 : f 27 = _),(h28 : f 28 = _),_⟩ K hK
    simp only [ov,oL,Nat.reduceAdd,h27,h28];go_simp;refine (HG.out _).mono ?_;rintro e w2 ⟨rfl,hb2⟩;exact hK _ _ ⟨_,rfl,by simp only [ov,oL,Nat.reduceAdd,h27,h28]; rfl,hb2⟩
   ·intro f w1 hb _ K hK
    simp only [ov,oL,Nat.reduceAdd];go_simp;exact hK _ _ ⟨_,rfl,by simp only [ov,oL,Nat.reduceAdd]; rfl,brf⟩
   ·rintro f w1 hb ⟨(h30 : f 30 = _),_⟩ K hK
    simp only [ov,oL,Nat.reduceAdd,h30];go_simp;exact hK _ _ ⟨_,rfl,by simp only [ov,oL,Nat.reduceAdd,h30]; rfl,brf⟩
   ·rintro f w1 hb ⟨(h31 : f 31 = _),_⟩ K hK
    simp only [ov,oL,Nat.reduceAdd,h31];go_simp;exact hK _ _ ⟨_,rfl,by simp only [ov,oL,Nat.reduceAdd,h31]; rfl,brf⟩
   ·rintro f w1 hb ⟨(h32 : f 32 = _),_⟩ K hK
    simp only [ov,oL,Nat.reduceAdd,h32];go_simp;exact hK _ _ ⟨_,rfl,by simp only [ov,oL,Nat.reduceAdd,h32]; rfl,brf⟩
   ·rintro f w1 hb ⟨(h33 : f 33 = _),_⟩ K hK
    have q10 := (KB.out.later hb).c 10 rfl;simp only [ov,oL,Nat.reduceAdd,h33];go_simp;exact hK _ _ ⟨_,rfl,by simp only [ov,oL,Nat.reduceAdd,h33]; rfl,brf⟩
   ·rintro f w1 hb ⟨(h29 : f 29 = _),(h34 : f 34 = _),_⟩ K hK
    simp only [ov,oL,Nat.reduceAdd,h29,h34];go_simp;refine (HU.out _).mono ?_;rintro e w2 ⟨rfl,hb2⟩;exact hK _ _ ⟨_,rfl,by simp only [ov,oL,Nat.reduceAdd,h29,h34]; rfl,by rw [hb2]; exact brf⟩
   ·rintro f w1 hb ⟨(h35 : f 35 = _),_⟩ K hK
    simp only [ov,oL,Nat.reduceAdd,h35];go_simp;exact hK _ _ ⟨_,rfl,by simp only [ov,oL,Nat.reduceAdd,h35]; rfl,brf⟩
  ·intro fs w2 hb2 hv
   have h9 : fs 9 = .int .i64 s := hv.2.2.2.2.2.2.2.2.2.1;have HD2 := hdd (HD1.out.later hb2);have HK2 : Hid (Kpt (BM B M) w w2) := Kpt.of_below (below_on HB1.out hb2);simp only [oeq,oL,h9,Nat.reduceAdd];clear hv h9 hb2 HD1 HB1 KA KC KB HG HU HP HQ;refine HKK.out _ _ ?_;clear HKK
   go_wp2_with fail
   go_loopw [8,9] (fun t x wr => ∃ tv sv : Int,t = .int .i64 tv ∧ x = .int .i64 sv ∧ tv + runT r.rp sv.toNat = tick r p q ∧ (sv ≤ 20000000 ∧ -20000 ≤ sv ∧ 0 ≤ tv) ∧ Bd B M r f wr ∧ Kpt (BM B M) w wr) (fun _ x _ => (intOf x).toNat)
   case atStart => exact ⟨0,s,rfl,rfl,by have := HS.out.2.2; omega,⟨HS.out.2.1,by have := HS.out.1; omega,by decide⟩,HD2.out,HK2.out⟩
   case round =>
    obtain ⟨tv,sv,rfl,rfl,he,⟨hs1,hs2,ht0⟩,hd,hk⟩ := hrel;have HE := hdd he;have HDr := hdd hd;have HKr := hdd hk;have hrb := runT_bd HR.out (n := s.toNat) (by have := HS.out; omega);have hr2 := runT_bd HR.out (n := sv.toNat) (by omega);have ht1 : tv ≤ 2002000000000000 := by have := HS.out.2.2; omega
    clear he hd hk hrb hr2
    by_cases h0 : 0 < sv
    ·by_cases h2 : sv ≤ 20000
     ·have hb := totR_bd HR.out (n := sv.toNat) (by omega)
      have HN : Hid (runT r.rp sv.toNat = totR r.rp sv.toNat + runT r.rp (sv - 20000).toNat) := by show _ = _; rw [runT_step (n := sv.toNat),Nat.min_eq_left (by omega),show (sv - 20000).toNat = sv.toNat - 20000 by omega]
      have HC := HT.out sv wr (by omega) h2 HDr.out;obtain ⟨tt,htt⟩ : ∃ x,x = totR r.rp sv.toNat := ⟨_,rfl⟩;rw [← htt] at hb HN HC;obtain ⟨hb0,hb1⟩ := hb;have HC' := (show Hid _ from HC);clear HC htt
      go_wp2_with fail
      rw [Int.min_eq_left h2];refine Calls.mono HC'.out ?_;rintro e w3 ⟨rfl,hd3,hk3⟩;have HD3 := hdd hd3;have HK3 := hdd (HKr.out.trans hk3);clear hd3 hk3;go_wp2
      go_roundw
      case rel => exact ⟨tv + tt,sv - 20000,by go_num,by go_num,by have := HE.out; have := HN.out; omega,⟨by omega,by omega,by omega⟩,HD3.out,HK3.out⟩
      case measure => simp [intOf]; omega
     ·have hb := totR_bd HR.out (n := 20000) (by omega)
      have HN : Hid (runT r.rp sv.toNat = totR r.rp 20000 + runT r.rp (sv - 20000).toNat) := by show _ = _; rw [runT_step (n := sv.toNat),Nat.min_eq_right (by omega),show (sv - 20000).toNat = sv.toNat - 20000 by omega]
      have HC := HT.out 20000 wr (by omega) (by omega) HDr.out;rw [show (20000 : Int).toNat = 20000 from rfl] at HC;obtain ⟨tt,htt⟩ : ∃ x,x = totR r.rp 20000 := ⟨_,rfl⟩;rw [← htt] at hb HN HC;obtain ⟨hb0,hb1⟩ := hb;have HC' := (show Hid _ from HC);clear HC htt
      go_wp2_with fail
      rw [Int.min_eq_right (by omega)];refine Calls.mono HC'.out ?_;rintro e w3 ⟨rfl,hd3,hk3⟩;have HD3 := hdd hd3;have HK3 := hdd (HKr.out.trans hk3);clear hd3 hk3;go_wp2
      go_roundw
      case rel => exact ⟨tv + tt,sv - 20000,by go_num,by go_num,by have := HE.out; have := HN.out; omega,⟨by omega,by omega,by omega⟩,HD3.out,HK3.out⟩
      case measure => simp [intOf]; omega
    ·have HF : Hid (tv = tick r p q) := by
      have := HE.out;rw [show sv.toNat = 0 by omega,runT_zero] at this;show _ = _;omega
     go_wp2;exact bodyPost_ret (v := .tuple #[.int .i64 tv,.nilIface]) (by simp [results,Tryz.results194,go_sem]) rfl ⟨by rw [HF.out],HDr.out,HKr.out⟩
theorem Bd.set {B M : Nat} {r : Rg} {f f' : Fm} {w : World} (h : Bd B M r f w) (k : Nat) (v : Value) (e : (bdc r f M).set k v = bdc r f' M) : Bd B M r f' (w.setCell ⟨B,k,none⟩ v) ∧ Kpt (BM B M) w (w.setCell ⟨B,k,none⟩ v) := by
 refine ⟨⟨by rw [← e]; exact h.bk.put k v,h.tm.same (Below.heap_setCell w ⟨B,k,none⟩ v M (Ne.symm h.ne)),h.ne⟩,⟨rfl,rfl,rfl,by simp [World.setCell],fun j _ hj => Below.heap_setCell w ⟨B,k,none⟩ v j fun e => hj (.inl e)⟩⟩
theorem pt_eql (p q : Pt) (W : World) : (binOp .eql 31 (v3 p) (v3 q)).run Tryz.prog W = .ok (.bool (ptE p q)) W := by
 obtain ⟨a,b,c⟩ := p;obtain ⟨d,e,f⟩ := q;go_simp
 by_cases h1 : a = d <;> by_cases h2 : b = e <;> by_cases h3 : c = f <;> simp [ptE,h1,h2,h3]
theorem wp_binop {P : Program} {o : Oper} {a : Act} {w : World} {K : Act → World → Prop} {Q : Exit → Act → World → Prop} {op : BinOp} {t rt : TypeId} {x y : Operand} {v : Value} (ho : o.op = .binOp op t x y rt) (hg : (eqGuard op t x y (a.eval x) (a.eval y)).run P w = .ok () w) (hr : (binOp op t (a.eval x) (a.eval y)).run P w = .ok v w) (hK : K (a.put o.dst v) w) : o.wp P a w K Q := by
 unfold Oper.wp;simp [execOp,ho,hg,hr,Result.andThen];exact hK
theorem pass_no (a : Nat → Addr) (n B M : Nat) (r : Rg) (f : Fm) (t : Int) (w : World) (h : Bd B M r f w) (hg : Gl a n w) (hk0 : 0 ≤ f.tk) (hk1 : f.tk ≤ 1000000000000000) (ht : 1000000000000000 < f.tk + t) :
  Calls Tryz.prog 152 #[ptr B,.int .i64 t] w fun e w' => e = .returned (.iface 387 (.pointer (some (a 7)))) ∧ w' = w := by
 have q20 := h.bk.c 20 rfl;have g7 : w.cell? ⟨7,0,none⟩ = some (.iface 387 (.pointer (some (a 7)))) := hg.cell 7 (by decide);have ht2 : 1000000000000000 - f.tk < t := by omega
 clear h hg ht
 go_enter Tryz.func152,Tryz.ntmps152
 go_wp2;go_ret;exact ⟨rfl,rfl⟩
theorem pass_yes (B M : Nat) (r : Rg) (f : Fm) (t : Int) (w : World) (h : Bd B M r f w) (hk0 : 0 ≤ f.tk) (hk1 : f.tk ≤ 1000000000000000) (ht0 : 0 ≤ t) (ht : f.tk + t ≤ 1000000000000000) :
  Calls Tryz.prog 152 #[ptr B,.int .i64 t] w fun e w' => e = .returned .nilIface ∧ Bd B M r { f with tk := f.tk + t } w' ∧ Kpt (BM B M) w w' := by
 have q20 := h.bk.c 20 rfl;have z20 := h.bk.f 20 rfl;have HS := h.set 20 (.int .i64 (f.tk + t)) (f' := { f with tk := f.tk + t }) rfl;have HS' := (show Hid _ from HS);have ht2 : ¬ 1000000000000000 - f.tk < t := by omega
 have ht3 : f.tk + t ≤ 9223372036854775807 := by omega
 have ht4 : -9223372036854775808 ≤ f.tk + t := by omega
 clear h HS ht
 go_enter Tryz.func152,Tryz.ntmps152
 go_wp2;go_ret;exact ⟨rfl,HS'.out⟩
def mopV (B : Nat) (r : Rg) (f : Fm) (d : Nat) (v : Value) (_ : World) : Prop :=
 match d with
 | 31 | 32 | 36 | 37 | 38 => v = .pointer (some ⟨B,0,none⟩)
 | 33 => v = .pointer (some ⟨B,12,none⟩)
 | 34 => v = .pointer (some ⟨B,16,none⟩)
 | 35 => v = .int .i64 f.pl
 | 39 => v = .pointer (some ⟨B,11,none⟩)
 | 40 => v = .int .i64 r.mo
 | 41 | 42 | 49 | 50 | 57 | 4 => v = .bool false
 | _ => True
theorem mopV_mono (B : Nat) (r : Rg) (f : Fm) (d : Nat) (v : Value) (w w' : World) (h : mopV B r f d v w) (_ : bw w w') : mopV B r f d v w' := h
def moqV (B : Nat) (r : Rg) (f : Fm) (d : Nat) (v : Value) (_ : World) : Prop :=
 match d with
 | 31 | 32 | 36 | 37 | 38 | 43 | 44 => v = .pointer (some ⟨B,0,none⟩)
 | 33 | 45 => v = .pointer (some ⟨B,12,none⟩)
 | 34 => v = .pointer (some ⟨B,16,none⟩)
 | 35 => v = .int .i64 f.pl
 | 39 => v = .pointer (some ⟨B,11,none⟩)
 | 40 => v = .int .i64 r.mo
 | 41 | 42 => v = .bool true
 | 46 => v = .pointer (some ⟨B,18,none⟩)
 | 47 => v = .int .i64 f.ht
 | 48 | 49 | 50 | 57 | 4 => v = .bool false
 | _ => True
theorem moqV_mono (B : Nat) (r : Rg) (f : Fm) (d : Nat) (v : Value) (w w' : World) (h : moqV B r f d v w) (_ : bw w w') : moqV B r f d v w' := h
def mosV (B : Nat) (r : Rg) (f : Fm) (c : Bool) (d : Nat) (v : Value) (_ : World) : Prop :=
 match d with
 | 31 | 32 | 36 | 37 | 38 | 43 | 44 | 51 | 52 => v = .pointer (some ⟨B,0,none⟩)
 | 33 | 45 | 53 => v = .pointer (some ⟨B,12,none⟩)
 | 34 => v = .pointer (some ⟨B,16,none⟩)
 | 35 => v = .int .i64 f.pl
 | 39 => v = .pointer (some ⟨B,11,none⟩)
 | 40 => v = .int .i64 r.mo
 | 41 | 42 | 48 | 49 | 50 => v = .bool true
 | 46 => v = .pointer (some ⟨B,18,none⟩)
 | 47 => v = .int .i64 f.ht
 | 54 => v = .pointer (some ⟨B,19,none⟩)
 | 55 => v = .int .i64 f.tu
 | 56 | 57 | 4 => v = .bool c
 | _ => True
theorem mosV_mono (B : Nat) (r : Rg) (f : Fm) (c : Bool) (d : Nat) (v : Value) (w w' : World) (h : mosV B r f c d v w) (_ : bw w w') : mosV B r f c d v w' := h
def mbaV (B : Nat) (r : Rg) (f : Fm) (d : Nat) (v : Value) (_ : World) : Prop :=
 match d with
 | 5 | 6 | 7 | 9 | 10 => v = .pointer (some ⟨B,0,none⟩)
 | 8 => v = .agg #[.int .i64 r.lo.x,.int .i64 r.lo.y,.int .i64 r.lo.z,.int .i64 r.hi.x,.int .i64 r.hi.y,.int .i64 r.hi.z,.int .i64 r.rp.c,.int .i64 r.rp.f,.int .i64 r.rp.m,.int .i64 r.rp.r,.int .i64 r.ps,.int .i64 r.mo]
 | 11 => v = .pointer (some ⟨B,12,none⟩)
 | 12 => v = .pointer (some ⟨B,13,none⟩)
 | 13 => v = .agg #[.int .i64 f.pt.x,.int .i64 f.pt.y,.int .i64 f.pt.z]
 | 14 | 15 | 30 | 3 => v = .bool false
 | 21 => v = undef
 | _ => True
theorem mbaV_mono (B : Nat) (r : Rg) (f : Fm) (d : Nat) (v : Value) (w w' : World) (h : mbaV B r f d v w) (_ : bw w w') : mbaV B r f d v w' := h
theorem mayBe_a (B M : Nat) (r : Rg) (f : Fm) (w : World) (h : Bk B (bdc r f M) w) (hp : inS r f.pt = false) :
  CR 93 #[ptr B] w (.bool (fmOk r f)) := by
 have HP : Hid (∀ W,CR 144 #[rgv r,v3 f.pt] W (.bool false)) := fun W => by have := isWithin_any r f.pt W; rwa [hp] at this
 have HI : Hid (∀ lo x hi W,Calls Tryz.prog 142 #[.int .i64 lo,.int .i64 x,.int .i64 hi] W fun e w' => e = .returned (.bool (inR lo hi x)) ∧ w' = W) := isFrom_any;have KB0 := hdd h;have KB := hdd h;have HH : Hid (hereB r f = false) := by show _ = _; unfold hereB; rw [hp]; rfl
 clear h hp
 go_enter Tryz.func93,Tryz.ntmps93
 go_wp2_with fail
 rename_i KK hkk;have HKK := (show Hid _ from hkk);clear hkk
 refine region_inv [zf,zf,zf,zt,zf,zt,zt,zt,zt,zt,zt,zt,zt,zt,zt,zt,zt,zt,zt,zt,zt,zt,zt,zt,zt,zt,zt,zt,zt,zt,zt,zf,zf,zf,zf,zf,zf,zf,zf,zf,zf,zf,zf,zf,zf,zf,zf,zf,zf,zf,zf,zf,zf,zf,zf,zf,zf,zf,zf,zf,zf,zf,zf,zf,zf,zf,zf,zf,zf,zf]
  [(5,[],none),(6,[5],none),(7,[6],none),(8,[7],none),(9,[],none),(10,[9],none),(11,[10],none),(12,[11],none),(13,[12],none),(14,[8,13],none),(15,[14],none),(16,[15],some (15,true)),(17,[15,16],some (15,true)),(18,[15,17],some (15,true)),(19,[15,18],some (15,true)),(20,[15,19],some (15,true)),(21,[15,20],some (15,true)),(22,[21],some (21,false)),(23,[21,22],some (21,false)),(24,[21,23],some (21,false)),(25,[21,24],some (21,false)),(26,[21,25],some (21,false)),(27,[21],some (21,false)),(28,[21,26,27],some (21,false)),(29,[15,21,28],some (15,true)),(30,[15,29],none),(3,[30],none)]
  (mbaV B r f) (by kernel_rfl) (by kernel_rfl) (mbaV_mono B r f) ?_ ?_
 ·refine ⟨?_,?_,?_,?_,?_,?_,?_,?_,?_,?_,?_,?_,?_,?_,?_,?_,?_,?_,?_,?_,?_,?_,?_,?_,?_,?_,?_,trivial⟩
  any_goals first | (intro f w1 hb _ K hK; simp only [ov,oL]; go_simp; exact hK _ _ ⟨_,rfl,by simp only [ov,oL]; rfl,brf⟩) | fail
  any_goals first | (intro f w1 hb hh K hK; have q := KB.out.later hb; have q0 := q.c 0 rfl; have q1 := q.c 1 rfl; have q2 := q.c 2 rfl; have q3 := q.c 3 rfl; have q4 := q.c 4 rfl; have q5 := q.c 5 rfl; have q6 := q.c 6 rfl; have q7 := q.c 7 rfl; have q8 := q.c 8 rfl; have q9 := q.c 9 rfl; have q10 := q.c 10 rfl; have q11 := q.c 11 rfl; have q13 := q.c 13 rfl; have q14 := q.c 14 rfl; have q15 := q.c 15 rfl; clear q; simp only [AllV,mbaV] at hh; simp only [ov,oL,hh]; go_simp; exact hK _ _ ⟨_,rfl,by simp only [ov,oL,hh]; rfl,brf⟩) | fail
  any_goals first | (intro f w1 hb hh; simp only [AllV,mbaV] at hh; exact ⟨fun hg => absurd (hh.1.symm.trans hg) (by first | simp | simp [undef]),fun _ => by first | trivial | rfl⟩) | fail
  ·rintro f w1 hb ⟨(h8 : f 8 = _),(h13 : f 13 = _),_⟩ K hK
   simp only [ov,oL,h8,h13];go_simp;refine (HP.out _).mono ?_;rintro e w2 ⟨rfl,hb2⟩;exact hK _ _ ⟨_,rfl,by simp only [ov,oL,h8,h13]; rfl,hb2⟩
 ·intro fr w1 hb1 hv
  have h3 : fr 3 = .bool false := hv.2.2.2.2.2.2.2.2.2.2.2.2.2.2.2.2.2.2.2.2.2.2.2.2.2.2.1;have HB1 := hdd hb1;have KB1 := hdd (KB0.out.later hb1);simp only [oeq,oL,h3,Nat.reduceAdd];clear hv h3 hb1 KB KB0;refine HKK.out _ _ ?_;clear HKK
  go_wp2_with fail
  rename_i KK2 hkk2;have HKK := (show Hid _ from hkk2);clear hkk2
  cases h1 : inR 0 r.mo f.pl with
  | false =>
   have X1 : Hid (∀ W,Calls Tryz.prog 142 #[.int .i64 0,.int .i64 f.pl,.int .i64 r.mo] W fun e w' => e = .returned (.bool false) ∧ w' = W) := fun W => by have := HI.out 0 f.pl r.mo W; rwa [h1] at this
   refine region_inv [zf,zf,zf,zf,zt,zf,zf,zf,zf,zf,zf,zf,zf,zf,zf,zf,zf,zf,zf,zf,zf,zf,zf,zf,zf,zf,zf,zf,zf,zf,zf,zt,zt,zt,zt,zt,zt,zt,zt,zt,zt,zt,zt,zt,zt,zt,zt,zt,zt,zt,zt,zt,zt,zt,zt,zt,zt,zt,zf,zf,zf,zf,zf,zf,zf,zf,zf,zf,zf,zf]
    [(31,[],none),(32,[31],none),(33,[32],none),(34,[33],none),(35,[34],none),(36,[],none),(37,[36],none),(38,[37],none),(39,[38],none),(40,[39],none),(41,[35,40],none),(42,[41],none),(43,[42],some (42,true)),(44,[42,43],some (42,true)),(45,[42,44],some (42,true)),(46,[42,45],some (42,true)),(47,[42,46],some (42,true)),(48,[42,47],some (42,true)),(49,[42,48],none),(50,[49],none),(51,[50],some (50,true)),(52,[50,51],some (50,true)),(53,[50,52],some (50,true)),(54,[50,53],some (50,true)),(55,[50,54],some (50,true)),(56,[50,55],some (50,true)),(57,[50,56],none),(4,[57],none)]
    (mopV B r f) (by kernel_rfl) (by kernel_rfl) (mopV_mono B r f) ?_ ?_
   ·refine ⟨?_,?_,?_,?_,?_,?_,?_,?_,?_,?_,?_,?_,?_,?_,?_,?_,?_,?_,?_,?_,?_,?_,?_,?_,?_,?_,?_,?_,trivial⟩
    any_goals first | (intro f w1 hb _ K hK; simp only [ov,oL]; go_simp; exact hK _ _ ⟨_,rfl,by simp only [ov,oL]; rfl,brf⟩) | fail
    any_goals first | (intro f w1 hb hh K hK; have q := KB1.out.later hb; have q11 := q.c 11 rfl; have q16 := q.c 16 rfl; clear q; simp only [AllV,mopV] at hh; simp only [ov,oL,hh]; go_simp; exact hK _ _ ⟨_,rfl,by simp only [ov,oL,hh]; rfl,brf⟩) | fail
    any_goals first | (intro f w1 hb hh; simp only [AllV,mopV] at hh; exact ⟨fun hg => absurd (hh.1.symm.trans hg) (by first | simp | simp [undef]),fun _ => by first | trivial | rfl⟩) | fail
    ·rintro f w1 hb ⟨(h35 : f 35 = _),(h40 : f 40 = _),_⟩ K hK
     simp only [ov,oL,h35,h40];go_simp;refine (X1.out _).mono ?_;rintro e w2 ⟨rfl,hb2⟩;exact hK _ _ ⟨_,rfl,by simp only [ov,oL,h35,h40]; rfl,by rw [hb2]; exact brf⟩
   ·intro fs w2 hb2 hv
    have h4 : fs 4 = .bool false := hv.2.2.2.2.2.2.2.2.2.2.2.2.2.2.2.2.2.2.2.2.2.2.2.2.2.2.2.1;have HB2 : Hid (bw w w2) := below_on HB1.out hb2;have q20 := (KB1.out.later hb2).c 20 rfl;simp only [oeq,oL,h4,Nat.reduceAdd];clear hv h4 hb2 KB1 HB1;refine HKK.out _ _ ?_;clear HKK
    (go_wp2; go_ret; exact ⟨ret_bool (by simp [fmOk,onB,h1]),HB2.out⟩)
  | true =>
   have X1 : Hid (∀ W,Calls Tryz.prog 142 #[.int .i64 0,.int .i64 f.pl,.int .i64 r.mo] W fun e w' => e = .returned (.bool true) ∧ w' = W) := fun W => by have := HI.out 0 f.pl r.mo W; rwa [h1] at this
   cases h2 : inR 0 1000000000 f.ht with
   | false =>
    have X2 : Hid (∀ W,Calls Tryz.prog 142 #[.int .i64 0,.int .i64 f.ht,.int .i64 1000000000] W fun e w' => e = .returned (.bool false) ∧ w' = W) := fun W => by have := HI.out 0 f.ht 1000000000 W; rwa [h2] at this
    refine region_inv [zf,zf,zf,zf,zt,zf,zf,zf,zf,zf,zf,zf,zf,zf,zf,zf,zf,zf,zf,zf,zf,zf,zf,zf,zf,zf,zf,zf,zf,zf,zf,zt,zt,zt,zt,zt,zt,zt,zt,zt,zt,zt,zt,zt,zt,zt,zt,zt,zt,zt,zt,zt,zt,zt,zt,zt,zt,zt,zf,zf,zf,zf,zf,zf,zf,zf,zf,zf,zf,zf]
     [(31,[],none),(32,[31],none),(33,[32],none),(34,[33],none),(35,[34],none),(36,[],none),(37,[36],none),(38,[37],none),(39,[38],none),(40,[39],none),(41,[35,40],none),(42,[41],none),(43,[42],some (42,true)),(44,[42,43],some (42,true)),(45,[42,44],some (42,true)),(46,[42,45],some (42,true)),(47,[42,46],some (42,true)),(48,[42,47],some (42,true)),(49,[42,48],none),(50,[49],none),(51,[50],some (50,true)),(52,[50,51],some (50,true)),(53,[50,52],some (50,true)),(54,[50,53],some (50,true)),(55,[50,54],some (50,true)),(56,[50,55],some (50,true)),(57,[50,56],none),(4,[57],none)]
     (moqV B r f) (by kernel_rfl) (by kernel_rfl) (moqV_mono B r f) ?_ ?_
    ·refine ⟨?_,?_,?_,?_,?_,?_,?_,?_,?_,?_,?_,?_,?_,?_,?_,?_,?_,?_,?_,?_,?_,?_,?_,?_,?_,?_,?_,?_,trivial⟩
     any_goals first | (intro f w1 hb _ K hK; simp only [ov,oL]; go_simp; exact hK _ _ ⟨_,rfl,by simp only [ov,oL]; rfl,brf⟩) | fail
     any_goals first | (intro f w1 hb hh K hK; have q := KB1.out.later hb; have q11 := q.c 11 rfl; have q16 := q.c 16 rfl; clear q; simp only [AllV,moqV] at hh; simp only [ov,oL,hh]; go_simp; exact hK _ _ ⟨_,rfl,by simp only [ov,oL,hh]; rfl,brf⟩) | fail
     any_goals first | (intro f w1 hb hh; simp only [AllV,moqV] at hh; refine ⟨fun _ => ?_,fun hg => absurd hh.1 hg⟩; intro K hK; have q := KB1.out.later hb; have q18 := q.c 18 rfl; clear q; simp only [ov,oL,hh]; go_simp; exact hK _ _ ⟨_,rfl,by simp only [ov,oL,hh]; rfl,brf⟩) | fail
     any_goals first | (intro f w1 hb hh; simp only [AllV,moqV] at hh; exact ⟨fun hg => absurd (hh.1.symm.trans hg) (by first | simp | simp [undef]),fun _ => by first | trivial | rfl⟩) | fail
     ·rintro f w1 hb ⟨(h35 : f 35 = _),(h40 : f 40 = _),_⟩ K hK
      simp only [ov,oL,h35,h40];go_simp;refine (X1.out _).mono ?_;rintro e w2 ⟨rfl,hb2⟩;exact hK _ _ ⟨_,rfl,by simp only [ov,oL,h35,h40]; rfl,by rw [hb2]; exact brf⟩
     ·rintro f w1 hb ⟨(h42 : f 42 = _),(h47 : f 47 = _),_⟩
      refine ⟨fun _ => ?_,fun hg => absurd h42 hg⟩;intro K hK;simp only [ov,oL,h42,h47];go_simp;refine (X2.out _).mono ?_;rintro e w2 ⟨rfl,hb2⟩;exact hK _ _ ⟨_,rfl,by simp only [ov,oL,h42,h47]; rfl,by rw [hb2]; exact brf⟩
    ·intro fs w2 hb2 hv
     have h4 : fs 4 = .bool false := hv.2.2.2.2.2.2.2.2.2.2.2.2.2.2.2.2.2.2.2.2.2.2.2.2.2.2.2.1;have HB2 : Hid (bw w w2) := below_on HB1.out hb2;have q20 := (KB1.out.later hb2).c 20 rfl;simp only [oeq,oL,h4,Nat.reduceAdd];clear hv h4 hb2 KB1 HB1;refine HKK.out _ _ ?_;clear HKK
     (go_wp2; go_ret; exact ⟨ret_bool (by simp [fmOk,onB,h2]),HB2.out⟩)
   | true =>
    have X2 : Hid (∀ W,Calls Tryz.prog 142 #[.int .i64 0,.int .i64 f.ht,.int .i64 1000000000] W fun e w' => e = .returned (.bool true) ∧ w' = W) := fun W => by have := HI.out 0 f.ht 1000000000 W; rwa [h2] at this
    obtain ⟨c,hc⟩ : ∃ c,c = inR 0 1000000000 f.tu := ⟨_,rfl⟩;have X3 : Hid (∀ W,Calls Tryz.prog 142 #[.int .i64 0,.int .i64 f.tu,.int .i64 1000000000] W fun e w' => e = .returned (.bool c) ∧ w' = W) := fun W => by rw [hc]; exact HI.out 0 f.tu 1000000000 W
    have HC : Hid (inR 0 1000000000 f.tu = c) := hc.symm;clear hc
    refine region_inv [zf,zf,zf,zf,zt,zf,zf,zf,zf,zf,zf,zf,zf,zf,zf,zf,zf,zf,zf,zf,zf,zf,zf,zf,zf,zf,zf,zf,zf,zf,zf,zt,zt,zt,zt,zt,zt,zt,zt,zt,zt,zt,zt,zt,zt,zt,zt,zt,zt,zt,zt,zt,zt,zt,zt,zt,zt,zt,zf,zf,zf,zf,zf,zf,zf,zf,zf,zf,zf,zf]
     [(31,[],none),(32,[31],none),(33,[32],none),(34,[33],none),(35,[34],none),(36,[],none),(37,[36],none),(38,[37],none),(39,[38],none),(40,[39],none),(41,[35,40],none),(42,[41],none),(43,[42],some (42,true)),(44,[42,43],some (42,true)),(45,[42,44],some (42,true)),(46,[42,45],some (42,true)),(47,[42,46],some (42,true)),(48,[42,47],some (42,true)),(49,[42,48],none),(50,[49],none),(51,[50],some (50,true)),(52,[50,51],some (50,true)),(53,[50,52],some (50,true)),(54,[50,53],some (50,true)),(55,[50,54],some (50,true)),(56,[50,55],some (50,true)),(57,[50,56],none),(4,[57],none)]
     (mosV B r f c) (by kernel_rfl) (by kernel_rfl) (mosV_mono B r f c) ?_ ?_
    ·refine ⟨?_,?_,?_,?_,?_,?_,?_,?_,?_,?_,?_,?_,?_,?_,?_,?_,?_,?_,?_,?_,?_,?_,?_,?_,?_,?_,?_,?_,trivial⟩
     any_goals first | (intro f w1 hb _ K hK; simp only [ov,oL]; go_simp; exact hK _ _ ⟨_,rfl,by simp only [ov,oL]; rfl,brf⟩) | fail
     any_goals first | (intro f w1 hb hh K hK; have q := KB1.out.later hb; have q11 := q.c 11 rfl; have q16 := q.c 16 rfl; clear q; simp only [AllV,mosV] at hh; simp only [ov,oL,hh]; go_simp; exact hK _ _ ⟨_,rfl,by simp only [ov,oL,hh]; rfl,brf⟩) | fail
     any_goals first | (intro f w1 hb hh; simp only [AllV,mosV] at hh; refine ⟨fun _ => ?_,fun hg => absurd hh.1 hg⟩; intro K hK; have q := KB1.out.later hb; have q18 := q.c 18 rfl; have q19 := q.c 19 rfl; clear q; simp only [ov,oL,hh]; go_simp; exact hK _ _ ⟨_,rfl,by simp only [ov,oL,hh]; rfl,brf⟩) | fail
     ·rintro f w1 hb ⟨(h35 : f 35 = _),(h40 : f 40 = _),_⟩ K hK
      simp only [ov,oL,h35,h40];go_simp;refine (X1.out _).mono ?_;rintro e w2 ⟨rfl,hb2⟩;exact hK _ _ ⟨_,rfl,by simp only [ov,oL,h35,h40]; rfl,by rw [hb2]; exact brf⟩
     ·rintro f w1 hb ⟨(h42 : f 42 = _),(h47 : f 47 = _),_⟩
      refine ⟨fun _ => ?_,fun hg => absurd h42 hg⟩;intro K hK;simp only [ov,oL,h42,h47];go_simp;refine (X2.out _).mono ?_;rintro e w2 ⟨rfl,hb2⟩;exact hK _ _ ⟨_,rfl,by simp only [ov,oL,h42,h47]; rfl,by rw [hb2]; exact brf⟩
     ·rintro f w1 hb ⟨(h50 : f 50 = _),(h55 : f 55 = _),_⟩
      refine ⟨fun _ => ?_,fun hg => absurd h50 hg⟩;intro K hK;simp only [ov,oL,h50,h55];go_simp;refine (X3.out _).mono ?_;rintro e w2 ⟨rfl,hb2⟩;exact hK _ _ ⟨_,rfl,by simp only [ov,oL,h50,h55]; rfl,by rw [hb2]; exact brf⟩
    ·intro fs w2 hb2 hv
     have h4 : fs 4 = .bool c := hv.2.2.2.2.2.2.2.2.2.2.2.2.2.2.2.2.2.2.2.2.2.2.2.2.2.2.2.1;have HB2 : Hid (bw w w2) := below_on HB1.out hb2;have q20 := (KB1.out.later hb2).c 20 rfl;simp only [oeq,oL,h4,Nat.reduceAdd];clear hv h4 hb2 KB1 HB1;refine HKK.out _ _ ?_;clear HKK
     (go_wp2; go_ret; exact ⟨ret_bool (by simp [fmOk,HH.out]),HB2.out⟩)
def mbbV (B : Nat) (r : Rg) (f : Fm) (d : Nat) (v : Value) (_ : World) : Prop :=
 match d with
 | 5 | 6 | 7 | 9 | 10 | 16 | 17 => v = .pointer (some ⟨B,0,none⟩)
 | 8 => v = .agg #[.int .i64 r.lo.x,.int .i64 r.lo.y,.int .i64 r.lo.z,.int .i64 r.hi.x,.int .i64 r.hi.y,.int .i64 r.hi.z,.int .i64 r.rp.c,.int .i64 r.rp.f,.int .i64 r.rp.m,.int .i64 r.rp.r,.int .i64 r.ps,.int .i64 r.mo]
 | 11 | 18 | 19 => v = .pointer (some ⟨B,12,none⟩)
 | 12 => v = .pointer (some ⟨B,13,none⟩)
 | 13 => v = .agg #[.int .i64 f.pt.x,.int .i64 f.pt.y,.int .i64 f.pt.z]
 | 14 | 15 | 20 | 21 | 29 | 30 | 3 => v = .bool true
 | _ => True
theorem mbbV_mono (B : Nat) (r : Rg) (f : Fm) (d : Nat) (v : Value) (w w' : World) (h : mbbV B r f d v w) (_ : bw w w') : mbbV B r f d v w' := h
theorem mayBe_b (B M : Nat) (r : Rg) (f : Fm) (w : World) (h : Bk B (bdc r f M) w) (hp : inS r f.pt = true) (hm : f.hm = true) :
  CR 93 #[ptr B] w (.bool (fmOk r f)) := by
 have HP : Hid (∀ W,CR 144 #[rgv r,v3 f.pt] W (.bool true)) := fun W => by have := isWithin_any r f.pt W; rwa [hp] at this
 have HI : Hid (∀ lo x hi W,Calls Tryz.prog 142 #[.int .i64 lo,.int .i64 x,.int .i64 hi] W fun e w' => e = .returned (.bool (inR lo hi x)) ∧ w' = W) := isFrom_any;have KB0 := hdd h;have KB : Hid (Bk B (bdc r ⟨true,f.pt,f.pl,f.tp,f.ht,f.tu,f.tk⟩ M) w) := by show Bk _ _ _; rw [← hm]; exact h
 have HH : Hid (hereB r f = true) := by show _ = _; unfold hereB; rw [hp,hm]; rfl
 clear h hp hm
 go_enter Tryz.func93,Tryz.ntmps93
 go_wp2_with fail
 rename_i KK hkk;have HKK := (show Hid _ from hkk);clear hkk
 refine region_inv [zf,zf,zf,zt,zf,zt,zt,zt,zt,zt,zt,zt,zt,zt,zt,zt,zt,zt,zt,zt,zt,zt,zt,zt,zt,zt,zt,zt,zt,zt,zt,zf,zf,zf,zf,zf,zf,zf,zf,zf,zf,zf,zf,zf,zf,zf,zf,zf,zf,zf,zf,zf,zf,zf,zf,zf,zf,zf,zf,zf,zf,zf,zf,zf,zf,zf,zf,zf,zf,zf]
  [(5,[],none),(6,[5],none),(7,[6],none),(8,[7],none),(9,[],none),(10,[9],none),(11,[10],none),(12,[11],none),(13,[12],none),(14,[8,13],none),(15,[14],none),(16,[15],some (15,true)),(17,[15,16],some (15,true)),(18,[15,17],some (15,true)),(19,[15,18],some (15,true)),(20,[15,19],some (15,true)),(21,[15,20],some (15,true)),(22,[21],some (21,false)),(23,[21,22],some (21,false)),(24,[21,23],some (21,false)),(25,[21,24],some (21,false)),(26,[21,25],some (21,false)),(27,[21],some (21,false)),(28,[21,26,27],some (21,false)),(29,[15,21,28],some (15,true)),(30,[15,29],none),(3,[30],none)]
  (mbbV B r f) (by kernel_rfl) (by kernel_rfl) (mbbV_mono B r f) ?_ ?_
 ·refine ⟨?_,?_,?_,?_,?_,?_,?_,?_,?_,?_,?_,?_,?_,?_,?_,?_,?_,?_,?_,?_,?_,?_,?_,?_,?_,?_,?_,trivial⟩
  any_goals first | (intro f w1 hb _ K hK; simp only [ov,oL]; go_simp; exact hK _ _ ⟨_,rfl,by simp only [ov,oL]; rfl,brf⟩) | fail
  any_goals first | (intro f w1 hb hh K hK; have q := KB.out.later hb; have q0 := q.c 0 rfl; have q1 := q.c 1 rfl; have q2 := q.c 2 rfl; have q3 := q.c 3 rfl; have q4 := q.c 4 rfl; have q5 := q.c 5 rfl; have q6 := q.c 6 rfl; have q7 := q.c 7 rfl; have q8 := q.c 8 rfl; have q9 := q.c 9 rfl; have q10 := q.c 10 rfl; have q11 := q.c 11 rfl; have q13 := q.c 13 rfl; have q14 := q.c 14 rfl; have q15 := q.c 15 rfl; clear q; simp only [AllV,mbbV] at hh; simp only [ov,oL,hh]; go_simp; exact hK _ _ ⟨_,rfl,by simp only [ov,oL,hh]; rfl,brf⟩) | fail
  any_goals first | (intro f w1 hb hh; simp only [AllV,mbbV] at hh; refine ⟨fun _ => ?_,fun hg => absurd hh.1 hg⟩; intro K hK; have q := KB.out.later hb; have q12 := q.c 12 rfl; clear q; simp only [ov,oL,hh]; go_simp; exact hK _ _ ⟨_,rfl,by simp only [ov,oL,hh]; rfl,brf⟩) | fail
  any_goals first | (intro f w1 hb hh; simp only [AllV,mbbV] at hh; exact ⟨fun hg => absurd (hh.1.symm.trans hg) (by first | simp | simp [undef]),fun _ => by first | trivial | rfl⟩) | fail
  ·rintro f w1 hb ⟨(h8 : f 8 = _),(h13 : f 13 = _),_⟩ K hK
   simp only [ov,oL,h8,h13];go_simp;refine (HP.out _).mono ?_;rintro e w2 ⟨rfl,hb2⟩;exact hK _ _ ⟨_,rfl,by simp only [ov,oL,h8,h13]; rfl,hb2⟩
 ·intro fr w1 hb1 hv
  have h3 : fr 3 = .bool true := hv.2.2.2.2.2.2.2.2.2.2.2.2.2.2.2.2.2.2.2.2.2.2.2.2.2.2.1;have HB1 := hdd hb1;have KB1 := hdd (KB0.out.later hb1);simp only [oeq,oL,h3,Nat.reduceAdd];clear hv h3 hb1 KB KB0;refine HKK.out _ _ ?_;clear HKK
  go_wp2_with fail
  rename_i KK2 hkk2;have HKK := (show Hid _ from hkk2);clear hkk2
  cases h1 : inR 0 r.mo f.pl with
  | false =>
   have X1 : Hid (∀ W,Calls Tryz.prog 142 #[.int .i64 0,.int .i64 f.pl,.int .i64 r.mo] W fun e w' => e = .returned (.bool false) ∧ w' = W) := fun W => by have := HI.out 0 f.pl r.mo W; rwa [h1] at this
   refine region_inv [zf,zf,zf,zf,zt,zf,zf,zf,zf,zf,zf,zf,zf,zf,zf,zf,zf,zf,zf,zf,zf,zf,zf,zf,zf,zf,zf,zf,zf,zf,zf,zt,zt,zt,zt,zt,zt,zt,zt,zt,zt,zt,zt,zt,zt,zt,zt,zt,zt,zt,zt,zt,zt,zt,zt,zt,zt,zt,zf,zf,zf,zf,zf,zf,zf,zf,zf,zf,zf,zf]
    [(31,[],none),(32,[31],none),(33,[32],none),(34,[33],none),(35,[34],none),(36,[],none),(37,[36],none),(38,[37],none),(39,[38],none),(40,[39],none),(41,[35,40],none),(42,[41],none),(43,[42],some (42,true)),(44,[42,43],some (42,true)),(45,[42,44],some (42,true)),(46,[42,45],some (42,true)),(47,[42,46],some (42,true)),(48,[42,47],some (42,true)),(49,[42,48],none),(50,[49],none),(51,[50],some (50,true)),(52,[50,51],some (50,true)),(53,[50,52],some (50,true)),(54,[50,53],some (50,true)),(55,[50,54],some (50,true)),(56,[50,55],some (50,true)),(57,[50,56],none),(4,[57],none)]
    (mopV B r f) (by kernel_rfl) (by kernel_rfl) (mopV_mono B r f) ?_ ?_
   ·refine ⟨?_,?_,?_,?_,?_,?_,?_,?_,?_,?_,?_,?_,?_,?_,?_,?_,?_,?_,?_,?_,?_,?_,?_,?_,?_,?_,?_,?_,trivial⟩
    any_goals first | (intro f w1 hb _ K hK; simp only [ov,oL]; go_simp; exact hK _ _ ⟨_,rfl,by simp only [ov,oL]; rfl,brf⟩) | fail
    any_goals first | (intro f w1 hb hh K hK; have q := KB1.out.later hb; have q11 := q.c 11 rfl; have q16 := q.c 16 rfl; clear q; simp only [AllV,mopV] at hh; simp only [ov,oL,hh]; go_simp; exact hK _ _ ⟨_,rfl,by simp only [ov,oL,hh]; rfl,brf⟩) | fail
    any_goals first | (intro f w1 hb hh; simp only [AllV,mopV] at hh; exact ⟨fun hg => absurd (hh.1.symm.trans hg) (by first | simp | simp [undef]),fun _ => by first | trivial | rfl⟩) | fail
    ·rintro f w1 hb ⟨(h35 : f 35 = _),(h40 : f 40 = _),_⟩ K hK
     simp only [ov,oL,h35,h40];go_simp;refine (X1.out _).mono ?_;rintro e w2 ⟨rfl,hb2⟩;exact hK _ _ ⟨_,rfl,by simp only [ov,oL,h35,h40]; rfl,by rw [hb2]; exact brf⟩
   ·intro fs w2 hb2 hv
    have h4 : fs 4 = .bool false := hv.2.2.2.2.2.2.2.2.2.2.2.2.2.2.2.2.2.2.2.2.2.2.2.2.2.2.2.1;have HB2 : Hid (bw w w2) := below_on HB1.out hb2;have q20 := (KB1.out.later hb2).c 20 rfl;simp only [oeq,oL,h4,Nat.reduceAdd];clear hv h4 hb2 KB1 HB1;refine HKK.out _ _ ?_;clear HKK
    (go_wp2; go_ret; exact ⟨ret_bool (by simp [fmOk,onB,h1]),HB2.out⟩)
  | true =>
   have X1 : Hid (∀ W,Calls Tryz.prog 142 #[.int .i64 0,.int .i64 f.pl,.int .i64 r.mo] W fun e w' => e = .returned (.bool true) ∧ w' = W) := fun W => by have := HI.out 0 f.pl r.mo W; rwa [h1] at this
   cases h2 : inR 0 1000000000 f.ht with
   | false =>
    have X2 : Hid (∀ W,Calls Tryz.prog 142 #[.int .i64 0,.int .i64 f.ht,.int .i64 1000000000] W fun e w' => e = .returned (.bool false) ∧ w' = W) := fun W => by have := HI.out 0 f.ht 1000000000 W; rwa [h2] at this
    refine region_inv [zf,zf,zf,zf,zt,zf,zf,zf,zf,zf,zf,zf,zf,zf,zf,zf,zf,zf,zf,zf,zf,zf,zf,zf,zf,zf,zf,zf,zf,zf,zf,zt,zt,zt,zt,zt,zt,zt,zt,zt,zt,zt,zt,zt,zt,zt,zt,zt,zt,zt,zt,zt,zt,zt,zt,zt,zt,zt,zf,zf,zf,zf,zf,zf,zf,zf,zf,zf,zf,zf]
     [(31,[],none),(32,[31],none),(33,[32],none),(34,[33],none),(35,[34],none),(36,[],none),(37,[36],none),(38,[37],none),(39,[38],none),(40,[39],none),(41,[35,40],none),(42,[41],none),(43,[42],some (42,true)),(44,[42,43],some (42,true)),(45,[42,44],some (42,true)),(46,[42,45],some (42,true)),(47,[42,46],some (42,true)),(48,[42,47],some (42,true)),(49,[42,48],none),(50,[49],none),(51,[50],some (50,true)),(52,[50,51],some (50,true)),(53,[50,52],some (50,true)),(54,[50,53],some (50,true)),(55,[50,54],some (50,true)),(56,[50,55],some (50,true)),(57,[50,56],none),(4,[57],none)]
     (moqV B r f) (by kernel_rfl) (by kernel_rfl) (moqV_mono B r f) ?_ ?_
    ·refine ⟨?_,?_,?_,?_,?_,?_,?_,?_,?_,?_,?_,?_,?_,?_,?_,?_,?_,?_,?_,?_,?_,?_,?_,?_,?_,?_,?_,?_,trivial⟩
     any_goals first | (intro f w1 hb _ K hK; simp only [ov,oL]; go_simp; exact hK _ _ ⟨_,rfl,by simp only [ov,oL]; rfl,brf⟩) | fail
     any_goals first | (intro f w1 hb hh K hK; have q := KB1.out.later hb; have q11 := q.c 11 rfl; have q16 := q.c 16 rfl; clear q; simp only [AllV,moqV] at hh; simp only [ov,oL,hh]; go_simp; exact hK _ _ ⟨_,rfl,by simp only [ov,oL,hh]; rfl,brf⟩) | fail
     any_goals first | (intro f w1 hb hh; simp only [AllV,moqV] at hh; refine ⟨fun _ => ?_,fun hg => absurd hh.1 hg⟩; intro K hK; have q := KB1.out.later hb; have q18 := q.c 18 rfl; clear q; simp only [ov,oL,hh]; go_simp; exact hK _ _ ⟨_,rfl,by simp only [ov,oL,hh]; rfl,brf⟩) | fail
     any_goals first | (intro f w1 hb hh; simp only [AllV,moqV] at hh; exact ⟨fun hg => absurd (hh.1.symm.trans hg) (by first | simp | simp [undef]),fun _ => by first | trivial | rfl⟩) | fail
     ·rintro f w1 hb ⟨(h35 : f 35 = _),(h40 : f 40 = _),_⟩ K hK
      simp only [ov,oL,h35,h40];go_simp;refine (X1.out _).mono ?_;rintro e w2 ⟨rfl,hb2⟩;exact hK _ _ ⟨_,rfl,by simp only [ov,oL,h35,h40]; rfl,by rw [hb2]; exact brf⟩
     ·rintro f w1 hb ⟨(h42 : f 42 = _),(h47 : f 47 = _),_⟩
      refine ⟨fun _ => ?_,fun hg => absurd h42 hg⟩;intro K hK;simp only [ov,oL,h42,h47];go_simp;refine (X2.out _).mono ?_;rintro e w2 ⟨rfl,hb2⟩;exact hK _ _ ⟨_,rfl,by simp only [ov,oL,h42,h47]; rfl,by rw [hb2]; exact brf⟩
    ·intro fs w2 hb2 hv
     have h4 : fs 4 = .bool false := hv.2.2.2.2.2.2.2.2.2.2.2.2.2.2.2.2.2.2.2.2.2.2.2.2.2.2.2.1;have HB2 : Hid (bw w w2) := below_on HB1.out hb2;have q20 := (KB1.out.later hb2).c 20 rfl;simp only [oeq,oL,h4,Nat.reduceAdd];clear hv h4 hb2 KB1 HB1;refine HKK.out _ _ ?_;clear HKK
     (go_wp2; go_ret; exact ⟨ret_bool (by simp [fmOk,onB,h2]),HB2.out⟩)
   | true =>
    have X2 : Hid (∀ W,Calls Tryz.prog 142 #[.int .i64 0,.int .i64 f.ht,.int .i64 1000000000] W fun e w' => e = .returned (.bool true) ∧ w' = W) := fun W => by have := HI.out 0 f.ht 1000000000 W; rwa [h2] at this
    obtain ⟨c,hc⟩ : ∃ c,c = inR 0 1000000000 f.tu := ⟨_,rfl⟩;have X3 : Hid (∀ W,Calls Tryz.prog 142 #[.int .i64 0,.int .i64 f.tu,.int .i64 1000000000] W fun e w' => e = .returned (.bool c) ∧ w' = W) := fun W => by rw [hc]; exact HI.out 0 f.tu 1000000000 W
    have HC : Hid (inR 0 1000000000 f.tu = c) := hc.symm;clear hc
    refine region_inv [zf,zf,zf,zf,zt,zf,zf,zf,zf,zf,zf,zf,zf,zf,zf,zf,zf,zf,zf,zf,zf,zf,zf,zf,zf,zf,zf,zf,zf,zf,zf,zt,zt,zt,zt,zt,zt,zt,zt,zt,zt,zt,zt,zt,zt,zt,zt,zt,zt,zt,zt,zt,zt,zt,zt,zt,zt,zt,zf,zf,zf,zf,zf,zf,zf,zf,zf,zf,zf,zf]
     [(31,[],none),(32,[31],none),(33,[32],none),(34,[33],none),(35,[34],none),(36,[],none),(37,[36],none),(38,[37],none),(39,[38],none),(40,[39],none),(41,[35,40],none),(42,[41],none),(43,[42],some (42,true)),(44,[42,43],some (42,true)),(45,[42,44],some (42,true)),(46,[42,45],some (42,true)),(47,[42,46],some (42,true)),(48,[42,47],some (42,true)),(49,[42,48],none),(50,[49],none),(51,[50],some (50,true)),(52,[50,51],some (50,true)),(53,[50,52],some (50,true)),(54,[50,53],some (50,true)),(55,[50,54],some (50,true)),(56,[50,55],some (50,true)),(57,[50,56],none),(4,[57],none)]
     (mosV B r f c) (by kernel_rfl) (by kernel_rfl) (mosV_mono B r f c) ?_ ?_
    ·refine ⟨?_,?_,?_,?_,?_,?_,?_,?_,?_,?_,?_,?_,?_,?_,?_,?_,?_,?_,?_,?_,?_,?_,?_,?_,?_,?_,?_,?_,trivial⟩
     any_goals first | (intro f w1 hb _ K hK; simp only [ov,oL]; go_simp; exact hK _ _ ⟨_,rfl,by simp only [ov,oL]; rfl,brf⟩) | fail
     any_goals first | (intro f w1 hb hh K hK; have q := KB1.out.later hb; have q11 := q.c 11 rfl; have q16 := q.c 16 rfl; clear q; simp only [AllV,mosV] at hh; simp only [ov,oL,hh]; go_simp; exact hK _ _ ⟨_,rfl,by simp only [ov,oL,hh]; rfl,brf⟩) | fail
     any_goals first | (intro f w1 hb hh; simp only [AllV,mosV] at hh; refine ⟨fun _ => ?_,fun hg => absurd hh.1 hg⟩; intro K hK; have q := KB1.out.later hb; have q18 := q.c 18 rfl; have q19 := q.c 19 rfl; clear q; simp only [ov,oL,hh]; go_simp; exact hK _ _ ⟨_,rfl,by simp only [ov,oL,hh]; rfl,brf⟩) | fail
     ·rintro f w1 hb ⟨(h35 : f 35 = _),(h40 : f 40 = _),_⟩ K hK
      simp only [ov,oL,h35,h40];go_simp;refine (X1.out _).mono ?_;rintro e w2 ⟨rfl,hb2⟩;exact hK _ _ ⟨_,rfl,by simp only [ov,oL,h35,h40]; rfl,by rw [hb2]; exact brf⟩
     ·rintro f w1 hb ⟨(h42 : f 42 = _),(h47 : f 47 = _),_⟩
      refine ⟨fun _ => ?_,fun hg => absurd h42 hg⟩;intro K hK;simp only [ov,oL,h42,h47];go_simp;refine (X2.out _).mono ?_;rintro e w2 ⟨rfl,hb2⟩;exact hK _ _ ⟨_,rfl,by simp only [ov,oL,h42,h47]; rfl,by rw [hb2]; exact brf⟩
     ·rintro f w1 hb ⟨(h50 : f 50 = _),(h55 : f 55 = _),_⟩
      refine ⟨fun _ => ?_,fun hg => absurd h50 hg⟩;intro K hK;simp only [ov,oL,h50,h55];go_simp;refine (X3.out _).mono ?_;rintro e w2 ⟨rfl,hb2⟩;exact hK _ _ ⟨_,rfl,by simp only [ov,oL,h50,h55]; rfl,by rw [hb2]; exact brf⟩
    ·intro fs w2 hb2 hv
     have h4 : fs 4 = .bool c := hv.2.2.2.2.2.2.2.2.2.2.2.2.2.2.2.2.2.2.2.2.2.2.2.2.2.2.2.1;have HB2 : Hid (bw w w2) := below_on HB1.out hb2;have q20 := (KB1.out.later hb2).c 20 rfl;simp only [oeq,oL,h4,Nat.reduceAdd];clear hv h4 hb2 KB1 HB1;refine HKK.out _ _ ?_;clear HKK
     cases c with
     | false => (go_wp2; go_ret; exact ⟨ret_bool (by simp [fmOk,onB,HC.out]),HB2.out⟩)
     | true =>
      go_wp2_with fail
      refine (HI.out _ _ _ _).mono ?_;rintro e w3 ⟨rfl,rfl⟩;go_wp2;go_ret;exact ⟨ret_bool (by simp [fmOk,onB,HH.out,h1,h2,HC.out]),HB2.out⟩
def mbcV (B : Nat) (r : Rg) (f : Fm) (d : Nat) (v : Value) (_ : World) : Prop :=
 match d with
 | 5 | 6 | 7 | 9 | 10 | 16 | 17 | 22 | 23 => v = .pointer (some ⟨B,0,none⟩)
 | 8 => v = .agg #[.int .i64 r.lo.x,.int .i64 r.lo.y,.int .i64 r.lo.z,.int .i64 r.hi.x,.int .i64 r.hi.y,.int .i64 r.hi.z,.int .i64 r.rp.c,.int .i64 r.rp.f,.int .i64 r.rp.m,.int .i64 r.rp.r,.int .i64 r.ps,.int .i64 r.mo]
 | 11 | 18 | 19 | 24 => v = .pointer (some ⟨B,12,none⟩)
 | 12 | 25 => v = .pointer (some ⟨B,13,none⟩)
 | 13 | 26 => v = .agg #[.int .i64 f.pt.x,.int .i64 f.pt.y,.int .i64 f.pt.z]
 | 14 | 15 => v = .bool true
 | 20 | 21 => v = .bool false
 | 27 => v = .agg #[.int .i64 0,.int .i64 0,.int .i64 0]
 | 28 | 29 | 30 | 3 => v = .bool (ptE f.pt p0)
 | _ => True
theorem mbcV_mono (B : Nat) (r : Rg) (f : Fm) (d : Nat) (v : Value) (w w' : World) (h : mbcV B r f d v w) (_ : bw w w') : mbcV B r f d v w' := h
theorem mayBe_c (B M : Nat) (r : Rg) (f : Fm) (w : World) (h : Bk B (bdc r f M) w) (hp : inS r f.pt = true) (hm : f.hm = false) :
  CR 93 #[ptr B] w (.bool (fmOk r f)) := by
 have HP : Hid (∀ W,CR 144 #[rgv r,v3 f.pt] W (.bool true)) := fun W => by have := isWithin_any r f.pt W; rwa [hp] at this
 have HI : Hid (∀ lo x hi W,Calls Tryz.prog 142 #[.int .i64 lo,.int .i64 x,.int .i64 hi] W fun e w' => e = .returned (.bool (inR lo hi x)) ∧ w' = W) := isFrom_any;have KB0 := hdd h;have KB : Hid (Bk B (bdc r ⟨false,f.pt,f.pl,f.tp,f.ht,f.tu,f.tk⟩ M) w) := by show Bk _ _ _; rw [← hm]; exact h
 have HH : Hid (hereB r f = (ptE f.pt p0)) := by show _ = _; unfold hereB; rw [hp,hm]; rfl
 clear h hp hm
 go_enter Tryz.func93,Tryz.ntmps93
 go_wp2_with fail
 rename_i KK hkk;have HKK := (show Hid _ from hkk);clear hkk
 refine region_inv [zf,zf,zf,zt,zf,zt,zt,zt,zt,zt,zt,zt,zt,zt,zt,zt,zt,zt,zt,zt,zt,zt,zt,zt,zt,zt,zt,zt,zt,zt,zt,zf,zf,zf,zf,zf,zf,zf,zf,zf,zf,zf,zf,zf,zf,zf,zf,zf,zf,zf,zf,zf,zf,zf,zf,zf,zf,zf,zf,zf,zf,zf,zf,zf,zf,zf,zf,zf,zf,zf]
  [(5,[],none),(6,[5],none),(7,[6],none),(8,[7],none),(9,[],none),(10,[9],none),(11,[10],none),(12,[11],none),(13,[12],none),(14,[8,13],none),(15,[14],none),(16,[15],some (15,true)),(17,[15,16],some (15,true)),(18,[15,17],some (15,true)),(19,[15,18],some (15,true)),(20,[15,19],some (15,true)),(21,[15,20],some (15,true)),(22,[21],some (21,false)),(23,[21,22],some (21,false)),(24,[21,23],some (21,false)),(25,[21,24],some (21,false)),(26,[21,25],some (21,false)),(27,[21],some (21,false)),(28,[21,26,27],some (21,false)),(29,[15,21,28],some (15,true)),(30,[15,29],none),(3,[30],none)]
  (mbcV B r f) (by kernel_rfl) (by kernel_rfl) (mbcV_mono B r f) ?_ ?_
 ·refine ⟨?_,?_,?_,?_,?_,?_,?_,?_,?_,?_,?_,?_,?_,?_,?_,?_,?_,?_,?_,?_,?_,?_,?_,?_,?_,?_,?_,trivial⟩
  any_goals first | (intro f w1 hb _ K hK; simp only [ov,oL]; go_simp; exact hK _ _ ⟨_,rfl,by simp only [ov,oL]; rfl,brf⟩) | fail
  any_goals first | (intro f w1 hb hh K hK; have q := KB.out.later hb; have q0 := q.c 0 rfl; have q1 := q.c 1 rfl; have q2 := q.c 2 rfl; have q3 := q.c 3 rfl; have q4 := q.c 4 rfl; have q5 := q.c 5 rfl; have q6 := q.c 6 rfl; have q7 := q.c 7 rfl; have q8 := q.c 8 rfl; have q9 := q.c 9 rfl; have q10 := q.c 10 rfl; have q11 := q.c 11 rfl; have q13 := q.c 13 rfl; have q14 := q.c 14 rfl; have q15 := q.c 15 rfl; clear q; simp only [AllV,mbcV] at hh; simp only [ov,oL,hh]; go_simp; exact hK _ _ ⟨_,rfl,by simp only [ov,oL,hh]; rfl,brf⟩) | fail
  any_goals first | (intro f w1 hb hh; simp only [AllV,mbcV] at hh; refine ⟨fun _ => ?_,fun hg => absurd hh.1 hg⟩; intro K hK; have q := KB.out.later hb; have q12 := q.c 12 rfl; have q13 := q.c 13 rfl; have q14 := q.c 14 rfl; have q15 := q.c 15 rfl; clear q; simp only [ov,oL,hh]; go_simp; exact hK _ _ ⟨_,rfl,by simp only [ov,oL,hh]; rfl,brf⟩) | fail
  ·rintro f w1 hb ⟨(h8 : f 8 = _),(h13 : f 13 = _),_⟩ K hK
   simp only [ov,oL,h8,h13];go_simp;refine (HP.out _).mono ?_;rintro e w2 ⟨rfl,hb2⟩;exact hK _ _ ⟨_,rfl,by simp only [ov,oL,h8,h13]; rfl,hb2⟩
  ·rintro f w1 hb ⟨(h21 : f 21 = _),(h26 : f 26 = _),(h27 : f 27 = _),_⟩
   refine ⟨fun _ => ?_,fun hg => absurd h21 hg⟩;intro K hK;simp only [ov,oL,h21,h26,h27];refine wp_binop rfl (by go_simp) (pt_eql _ p0 w1) ?_;exact hK _ _ ⟨_,rfl,by simp only [ov,oL,h21,h26,h27],brf⟩
 ·intro fr w1 hb1 hv
  have h3 : fr 3 = .bool (ptE f.pt p0) := hv.2.2.2.2.2.2.2.2.2.2.2.2.2.2.2.2.2.2.2.2.2.2.2.2.2.2.1;have HB1 := hdd hb1;have KB1 := hdd (KB0.out.later hb1);simp only [oeq,oL,h3,Nat.reduceAdd];clear hv h3 hb1 KB KB0;refine HKK.out _ _ ?_;clear HKK;obtain ⟨hq,hhq⟩ : ∃ b,b = ptE f.pt p0 := ⟨_,rfl⟩;rw [← hhq] at HH;rw [← hhq];clear hhq
  go_wp2_with fail
  rename_i KK2 hkk2;have HKK := (show Hid _ from hkk2);clear hkk2
  cases h1 : inR 0 r.mo f.pl with
  | false =>
   have X1 : Hid (∀ W,Calls Tryz.prog 142 #[.int .i64 0,.int .i64 f.pl,.int .i64 r.mo] W fun e w' => e = .returned (.bool false) ∧ w' = W) := fun W => by have := HI.out 0 f.pl r.mo W; rwa [h1] at this
   refine region_inv [zf,zf,zf,zf,zt,zf,zf,zf,zf,zf,zf,zf,zf,zf,zf,zf,zf,zf,zf,zf,zf,zf,zf,zf,zf,zf,zf,zf,zf,zf,zf,zt,zt,zt,zt,zt,zt,zt,zt,zt,zt,zt,zt,zt,zt,zt,zt,zt,zt,zt,zt,zt,zt,zt,zt,zt,zt,zt,zf,zf,zf,zf,zf,zf,zf,zf,zf,zf,zf,zf]
    [(31,[],none),(32,[31],none),(33,[32],none),(34,[33],none),(35,[34],none),(36,[],none),(37,[36],none),(38,[37],none),(39,[38],none),(40,[39],none),(41,[35,40],none),(42,[41],none),(43,[42],some (42,true)),(44,[42,43],some (42,true)),(45,[42,44],some (42,true)),(46,[42,45],some (42,true)),(47,[42,46],some (42,true)),(48,[42,47],some (42,true)),(49,[42,48],none),(50,[49],none),(51,[50],some (50,true)),(52,[50,51],some (50,true)),(53,[50,52],some (50,true)),(54,[50,53],some (50,true)),(55,[50,54],some (50,true)),(56,[50,55],some (50,true)),(57,[50,56],none),(4,[57],none)]
    (mopV B r f) (by kernel_rfl) (by kernel_rfl) (mopV_mono B r f) ?_ ?_
   ·refine ⟨?_,?_,?_,?_,?_,?_,?_,?_,?_,?_,?_,?_,?_,?_,?_,?_,?_,?_,?_,?_,?_,?_,?_,?_,?_,?_,?_,?_,trivial⟩
    any_goals first | (intro f w1 hb _ K hK; simp only [ov,oL]; go_simp; exact hK _ _ ⟨_,rfl,by simp only [ov,oL]; rfl,brf⟩) | fail
    any_goals first | (intro f w1 hb hh K hK; have q := KB1.out.later hb; have q11 := q.c 11 rfl; have q16 := q.c 16 rfl; clear q; simp only [AllV,mopV] at hh; simp only [ov,oL,hh]; go_simp; exact hK _ _ ⟨_,rfl,by simp only [ov,oL,hh]; rfl,brf⟩) | fail
    any_goals first | (intro f w1 hb hh; simp only [AllV,mopV] at hh; exact ⟨fun hg => absurd (hh.1.symm.trans hg) (by first | simp | simp [undef]),fun _ => by first | trivial | rfl⟩) | fail
    ·rintro f w1 hb ⟨(h35 : f 35 = _),(h40 : f 40 = _),_⟩ K hK
     simp only [ov,oL,h35,h40];go_simp;refine (X1.out _).mono ?_;rintro e w2 ⟨rfl,hb2⟩;exact hK _ _ ⟨_,rfl,by simp only [ov,oL,h35,h40]; rfl,by rw [hb2]; exact brf⟩
   ·intro fs w2 hb2 hv
    have h4 : fs 4 = .bool false := hv.2.2.2.2.2.2.2.2.2.2.2.2.2.2.2.2.2.2.2.2.2.2.2.2.2.2.2.1;have HB2 : Hid (bw w w2) := below_on HB1.out hb2;have q20 := (KB1.out.later hb2).c 20 rfl;simp only [oeq,oL,h4,Nat.reduceAdd];clear hv h4 hb2 KB1 HB1;refine HKK.out _ _ ?_;clear HKK
    cases hq <;> (go_wp2; go_ret; exact ⟨ret_bool (by simp [fmOk,onB,h1]),HB2.out⟩)
  | true =>
   have X1 : Hid (∀ W,Calls Tryz.prog 142 #[.int .i64 0,.int .i64 f.pl,.int .i64 r.mo] W fun e w' => e = .returned (.bool true) ∧ w' = W) := fun W => by have := HI.out 0 f.pl r.mo W; rwa [h1] at this
   cases h2 : inR 0 1000000000 f.ht with
   | false =>
    have X2 : Hid (∀ W,Calls Tryz.prog 142 #[.int .i64 0,.int .i64 f.ht,.int .i64 1000000000] W fun e w' => e = .returned (.bool false) ∧ w' = W) := fun W => by have := HI.out 0 f.ht 1000000000 W; rwa [h2] at this
    refine region_inv [zf,zf,zf,zf,zt,zf,zf,zf,zf,zf,zf,zf,zf,zf,zf,zf,zf,zf,zf,zf,zf,zf,zf,zf,zf,zf,zf,zf,zf,zf,zf,zt,zt,zt,zt,zt,zt,zt,zt,zt,zt,zt,zt,zt,zt,zt,zt,zt,zt,zt,zt,zt,zt,zt,zt,zt,zt,zt,zf,zf,zf,zf,zf,zf,zf,zf,zf,zf,zf,zf]
     [(31,[],none),(32,[31],none),(33,[32],none),(34,[33],none),(35,[34],none),(36,[],none),(37,[36],none),(38,[37],none),(39,[38],none),(40,[39],none),(41,[35,40],none),(42,[41],none),(43,[42],some (42,true)),(44,[42,43],some (42,true)),(45,[42,44],some (42,true)),(46,[42,45],some (42,true)),(47,[42,46],some (42,true)),(48,[42,47],some (42,true)),(49,[42,48],none),(50,[49],none),(51,[50],some (50,true)),(52,[50,51],some (50,true)),(53,[50,52],some (50,true)),(54,[50,53],some (50,true)),(55,[50,54],some (50,true)),(56,[50,55],some (50,true)),(57,[50,56],none),(4,[57],none)]
     (moqV B r f) (by kernel_rfl) (by kernel_rfl) (moqV_mono B r f) ?_ ?_
    ·refine ⟨?_,?_,?_,?_,?_,?_,?_,?_,?_,?_,?_,?_,?_,?_,?_,?_,?_,?_,?_,?_,?_,?_,?_,?_,?_,?_,?_,?_,trivial⟩
     any_goals first | (intro f w1 hb _ K hK; simp only [ov,oL]; go_simp; exact hK _ _ ⟨_,rfl,by simp only [ov,oL]; rfl,brf⟩) | fail
     any_goals first | (intro f w1 hb hh K hK; have q := KB1.out.later hb; have q11 := q.c 11 rfl; have q16 := q.c 16 rfl; clear q; simp only [AllV,moqV] at hh; simp only [ov,oL,hh]; go_simp; exact hK _ _ ⟨_,rfl,by simp only [ov,oL,hh]; rfl,brf⟩) | fail
     any_goals first | (intro f w1 hb hh; simp only [AllV,moqV] at hh; refine ⟨fun _ => ?_,fun hg => absurd hh.1 hg⟩; intro K hK; have q := KB1.out.later hb; have q18 := q.c 18 rfl; clear q; simp only [ov,oL,hh]; go_simp; exact hK _ _ ⟨_,rfl,by simp only [ov,oL,hh]; rfl,brf⟩) | fail
     any_goals first | (intro f w1 hb hh; simp only [AllV,moqV] at hh; exact ⟨fun hg => absurd (hh.1.symm.trans hg) (by first | simp | simp [undef]),fun _ => by first | trivial | rfl⟩) | fail
     ·rintro f w1 hb ⟨(h35 : f 35 = _),(h40 : f 40 = _),_⟩ K hK
      simp only [ov,oL,h35,h40];go_simp;refine (X1.out _).mono ?_;rintro e w2 ⟨rfl,hb2⟩;exact hK _ _ ⟨_,rfl,by simp only [ov,oL,h35,h40]; rfl,by rw [hb2]; exact brf⟩
     ·rintro f w1 hb ⟨(h42 : f 42 = _),(h47 : f 47 = _),_⟩
      refine ⟨fun _ => ?_,fun hg => absurd h42 hg⟩;intro K hK;simp only [ov,oL,h42,h47];go_simp;refine (X2.out _).mono ?_;rintro e w2 ⟨rfl,hb2⟩;exact hK _ _ ⟨_,rfl,by simp only [ov,oL,h42,h47]; rfl,by rw [hb2]; exact brf⟩
    ·intro fs w2 hb2 hv
     have h4 : fs 4 = .bool false := hv.2.2.2.2.2.2.2.2.2.2.2.2.2.2.2.2.2.2.2.2.2.2.2.2.2.2.2.1;have HB2 : Hid (bw w w2) := below_on HB1.out hb2;have q20 := (KB1.out.later hb2).c 20 rfl;simp only [oeq,oL,h4,Nat.reduceAdd];clear hv h4 hb2 KB1 HB1;refine HKK.out _ _ ?_;clear HKK
     cases hq <;> (go_wp2; go_ret; exact ⟨ret_bool (by simp [fmOk,onB,h2]),HB2.out⟩)
   | true =>
    have X2 : Hid (∀ W,Calls Tryz.prog 142 #[.int .i64 0,.int .i64 f.ht,.int .i64 1000000000] W fun e w' => e = .returned (.bool true) ∧ w' = W) := fun W => by have := HI.out 0 f.ht 1000000000 W; rwa [h2] at this
    obtain ⟨c,hc⟩ : ∃ c,c = inR 0 1000000000 f.tu := ⟨_,rfl⟩;have X3 : Hid (∀ W,Calls Tryz.prog 142 #[.int .i64 0,.int .i64 f.tu,.int .i64 1000000000] W fun e w' => e = .returned (.bool c) ∧ w' = W) := fun W => by rw [hc]; exact HI.out 0 f.tu 1000000000 W
    have HC : Hid (inR 0 1000000000 f.tu = c) := hc.symm;clear hc
    refine region_inv [zf,zf,zf,zf,zt,zf,zf,zf,zf,zf,zf,zf,zf,zf,zf,zf,zf,zf,zf,zf,zf,zf,zf,zf,zf,zf,zf,zf,zf,zf,zf,zt,zt,zt,zt,zt,zt,zt,zt,zt,zt,zt,zt,zt,zt,zt,zt,zt,zt,zt,zt,zt,zt,zt,zt,zt,zt,zt,zf,zf,zf,zf,zf,zf,zf,zf,zf,zf,zf,zf]
     [(31,[],none),(32,[31],none),(33,[32],none),(34,[33],none),(35,[34],none),(36,[],none),(37,[36],none),(38,[37],none),(39,[38],none),(40,[39],none),(41,[35,40],none),(42,[41],none),(43,[42],some (42,true)),(44,[42,43],some (42,true)),(45,[42,44],some (42,true)),(46,[42,45],some (42,true)),(47,[42,46],some (42,true)),(48,[42,47],some (42,true)),(49,[42,48],none),(50,[49],none),(51,[50],some (50,true)),(52,[50,51],some (50,true)),(53,[50,52],some (50,true)),(54,[50,53],some (50,true)),(55,[50,54],some (50,true)),(56,[50,55],some (50,true)),(57,[50,56],none),(4,[57],none)]
     (mosV B r f c) (by kernel_rfl) (by kernel_rfl) (mosV_mono B r f c) ?_ ?_
    ·refine ⟨?_,?_,?_,?_,?_,?_,?_,?_,?_,?_,?_,?_,?_,?_,?_,?_,?_,?_,?_,?_,?_,?_,?_,?_,?_,?_,?_,?_,trivial⟩
     any_goals first | (intro f w1 hb _ K hK; simp only [ov,oL]; go_simp; exact hK _ _ ⟨_,rfl,by simp only [ov,oL]; rfl,brf⟩) | fail
     any_goals first | (intro f w1 hb hh K hK; have q := KB1.out.later hb; have q11 := q.c 11 rfl; have q16 := q.c 16 rfl; clear q; simp only [AllV,mosV] at hh; simp only [ov,oL,hh]; go_simp; exact hK _ _ ⟨_,rfl,by simp only [ov,oL,hh]; rfl,brf⟩) | fail
     any_goals first | (intro f w1 hb hh; simp only [AllV,mosV] at hh; refine ⟨fun _ => ?_,fun hg => absurd hh.1 hg⟩; intro K hK; have q := KB1.out.later hb; have q18 := q.c 18 rfl; have q19 := q.c 19 rfl; clear q; simp only [ov,oL,hh]; go_simp; exact hK _ _ ⟨_,rfl,by simp only [ov,oL,hh]; rfl,brf⟩) | fail
     ·rintro f w1 hb ⟨(h35 : f 35 = _),(h40 : f 40 = _),_⟩ K hK
      simp only [ov,oL,h35,h40];go_simp;refine (X1.out _).mono ?_;rintro e w2 ⟨rfl,hb2⟩;exact hK _ _ ⟨_,rfl,by simp only [ov,oL,h35,h40]; rfl,by rw [hb2]; exact brf⟩
     ·rintro f w1 hb ⟨(h42 : f 42 = _),(h47 : f 47 = _),_⟩
      refine ⟨fun _ => ?_,fun hg => absurd h42 hg⟩;intro K hK;simp only [ov,oL,h42,h47];go_simp;refine (X2.out _).mono ?_;rintro e w2 ⟨rfl,hb2⟩;exact hK _ _ ⟨_,rfl,by simp only [ov,oL,h42,h47]; rfl,by rw [hb2]; exact brf⟩
     ·rintro f w1 hb ⟨(h50 : f 50 = _),(h55 : f 55 = _),_⟩
      refine ⟨fun _ => ?_,fun hg => absurd h50 hg⟩;intro K hK;simp only [ov,oL,h50,h55];go_simp;refine (X3.out _).mono ?_;rintro e w2 ⟨rfl,hb2⟩;exact hK _ _ ⟨_,rfl,by simp only [ov,oL,h50,h55]; rfl,by rw [hb2]; exact brf⟩
    ·intro fs w2 hb2 hv
     have h4 : fs 4 = .bool c := hv.2.2.2.2.2.2.2.2.2.2.2.2.2.2.2.2.2.2.2.2.2.2.2.2.2.2.2.1;have HB2 : Hid (bw w w2) := below_on HB1.out hb2;have q20 := (KB1.out.later hb2).c 20 rfl;simp only [oeq,oL,h4,Nat.reduceAdd];clear hv h4 hb2 KB1 HB1;refine HKK.out _ _ ?_;clear HKK
     cases hq with
     | false => (go_wp2; go_ret; exact ⟨ret_bool (by simp [fmOk,HH.out]),HB2.out⟩)
     | true =>
      cases c with
      | false => (go_wp2; go_ret; exact ⟨ret_bool (by simp [fmOk,onB,HC.out]),HB2.out⟩)
      | true =>
       go_wp2_with fail
       refine (HI.out _ _ _ _).mono ?_;rintro e w3 ⟨rfl,rfl⟩;go_wp2;go_ret;exact ⟨ret_bool (by simp [fmOk,onB,HH.out,h1,h2,HC.out]),HB2.out⟩
theorem mayBe_any (B M : Nat) (r : Rg) (f : Fm) (w : World) (h : Bk B (bdc r f M) w) : CR 93 #[ptr B] w (.bool (fmOk r f)) := by
 cases hp : inS r f.pt with
 | false => exact mayBe_a B M r f w h hp
 | true =>
  cases hm : f.hm with
  | true => exact mayBe_b B M r f w h hp hm
  | false => exact mayBe_c B M r f w h hp hm
theorem number_nil (a : Nat → Addr) (n : Nat) (w : World) (h : Gl a n w) : Calls Tryz.prog 43 #[.nilIface] w fun e w' => e = .returned (.int .i64 0) ∧ w' = w := by
 have g1 : w.cell? ⟨0,0,none⟩ = some (.iface 387 (.pointer (some (a 1)))) := h.cell 1 (by decide);have H1 : Hid (Calls Tryz.prog 94 #[.nilIface,.iface 387 (.pointer (some (a 1)))] w fun e w' => e = .returned (.bool false) ∧ w' = w) := is_any a n none 1 w h (by decide) (by intro j e; cases e);have g2 : w.cell? ⟨1,0,none⟩ = some (.iface 387 (.pointer (some (a 2)))) := h.cell 2 (by decide);have H2 : Hid (Calls Tryz.prog 94 #[.nilIface,.iface 387 (.pointer (some (a 2)))] w fun e w' => e = .returned (.bool false) ∧ w' = w) := is_any a n none 2 w h (by decide) (by intro j e; cases e);have g3 : w.cell? ⟨2,0,none⟩ = some (.iface 387 (.pointer (some (a 3)))) := h.cell 3 (by decide);have H3 : Hid (Calls Tryz.prog 94 #[.nilIface,.iface 387 (.pointer (some (a 3)))] w fun e w' => e = .returned (.bool false) ∧ w' = w) := is_any a n none 3 w h (by decide) (by intro j e; cases e);have g0 : w.cell? ⟨3,0,none⟩ = some (.iface 387 (.pointer (some (a 0)))) := h.cell 0 (by decide);have H0 : Hid (Calls Tryz.prog 94 #[.nilIface,.iface 387 (.pointer (some (a 0)))] w fun e w' => e = .returned (.bool false) ∧ w' = w) := is_any a n none 0 w h (by decide) (by intro j e; cases e);have g4 : w.cell? ⟨4,0,none⟩ = some (.iface 387 (.pointer (some (a 4)))) := h.cell 4 (by decide);have H4 : Hid (Calls Tryz.prog 94 #[.nilIface,.iface 387 (.pointer (some (a 4)))] w fun e w' => e = .returned (.bool false) ∧ w' = w) := is_any a n none 4 w h (by decide) (by intro j e; cases e);have g5 : w.cell? ⟨5,0,none⟩ = some (.iface 387 (.pointer (some (a 5)))) := h.cell 5 (by decide);have H5 : Hid (Calls Tryz.prog 94 #[.nilIface,.iface 387 (.pointer (some (a 5)))] w fun e w' => e = .returned (.bool false) ∧ w' = w) := is_any a n none 5 w h (by decide) (by intro j e; cases e);have g6 : w.cell? ⟨6,0,none⟩ = some (.iface 387 (.pointer (some (a 6)))) := h.cell 6 (by decide);have H6 : Hid (Calls Tryz.prog 94 #[.nilIface,.iface 387 (.pointer (some (a 6)))] w fun e w' => e = .returned (.bool false) ∧ w' = w) := is_any a n none 6 w h (by decide) (by intro j e; cases e);have g7 : w.cell? ⟨7,0,none⟩ = some (.iface 387 (.pointer (some (a 7)))) := h.cell 7 (by decide);have H7 : Hid (Calls Tryz.prog 94 #[.nilIface,.iface 387 (.pointer (some (a 7)))] w fun e w' => e = .returned (.bool false) ∧ w' = w) := is_any a n none 7 w h (by decide) (by intro j e; cases e);clear h
 go_enter Tryz.func43,Tryz.ntmps43
 go_wp2_with fail
 refine Calls.mono H1.out ?_;rintro e w1 ⟨rfl,rfl⟩
 go_wp2_with fail
 refine Calls.mono H2.out ?_;rintro e w1 ⟨rfl,rfl⟩
 go_wp2_with fail
 refine Calls.mono H3.out ?_;rintro e w1 ⟨rfl,rfl⟩
 go_wp2_with fail
 refine Calls.mono H0.out ?_;rintro e w1 ⟨rfl,rfl⟩
 go_wp2_with fail
 refine Calls.mono H4.out ?_;rintro e w1 ⟨rfl,rfl⟩
 go_wp2_with fail
 refine Calls.mono H5.out ?_;rintro e w1 ⟨rfl,rfl⟩
 go_wp2_with fail
 refine Calls.mono H6.out ?_;rintro e w1 ⟨rfl,rfl⟩
 go_wp2_with fail
 refine Calls.mono H7.out ?_;rintro e w1 ⟨rfl,rfl⟩;go_wp2;go_ret;exact ⟨rfl,rfl⟩
theorem number_0 (a : Nat → Addr) (n : Nat) (w : World) (h : Gl a n w) : Calls Tryz.prog 43 #[.iface 387 (.pointer (some (a 0)))] w fun e w' => e = .returned (.int .i64 13) ∧ w' = w := by
 have g1 : w.cell? ⟨0,0,none⟩ = some (.iface 387 (.pointer (some (a 1)))) := h.cell 1 (by decide);have H1 : Hid (Calls Tryz.prog 94 #[.iface 387 (.pointer (some (a 0))),.iface 387 (.pointer (some (a 1)))] w fun e w' => e = .returned (.bool false) ∧ w' = w) := is_any a n (some 0) 1 w h (by decide) (by intro j e; injection e with e; omega);have g2 : w.cell? ⟨1,0,none⟩ = some (.iface 387 (.pointer (some (a 2)))) := h.cell 2 (by decide);have H2 : Hid (Calls Tryz.prog 94 #[.iface 387 (.pointer (some (a 0))),.iface 387 (.pointer (some (a 2)))] w fun e w' => e = .returned (.bool false) ∧ w' = w) := is_any a n (some 0) 2 w h (by decide) (by intro j e; injection e with e; omega);have g3 : w.cell? ⟨2,0,none⟩ = some (.iface 387 (.pointer (some (a 3)))) := h.cell 3 (by decide);have H3 : Hid (Calls Tryz.prog 94 #[.iface 387 (.pointer (some (a 0))),.iface 387 (.pointer (some (a 3)))] w fun e w' => e = .returned (.bool false) ∧ w' = w) := is_any a n (some 0) 3 w h (by decide) (by intro j e; injection e with e; omega);have g0 : w.cell? ⟨3,0,none⟩ = some (.iface 387 (.pointer (some (a 0)))) := h.cell 0 (by decide);have H0 : Hid (Calls Tryz.prog 94 #[.iface 387 (.pointer (some (a 0))),.iface 387 (.pointer (some (a 0)))] w fun e w' => e = .returned (.bool true) ∧ w' = w) := is_any a n (some 0) 0 w h (by decide) (by intro j e; injection e with e; omega);clear h
 go_enter Tryz.func43,Tryz.ntmps43
 go_wp2_with fail
 refine Calls.mono H1.out ?_;rintro e w1 ⟨rfl,rfl⟩
 go_wp2_with fail
 refine Calls.mono H2.out ?_;rintro e w1 ⟨rfl,rfl⟩
 go_wp2_with fail
 refine Calls.mono H3.out ?_;rintro e w1 ⟨rfl,rfl⟩
 go_wp2_with fail
 refine Calls.mono H0.out ?_;rintro e w1 ⟨rfl,rfl⟩;go_wp2;go_ret;exact ⟨rfl,rfl⟩
theorem number_1 (a : Nat → Addr) (n : Nat) (w : World) (h : Gl a n w) : Calls Tryz.prog 43 #[.iface 387 (.pointer (some (a 1)))] w fun e w' => e = .returned (.int .i64 2) ∧ w' = w := by
 have g1 : w.cell? ⟨0,0,none⟩ = some (.iface 387 (.pointer (some (a 1)))) := h.cell 1 (by decide);have H1 : Hid (Calls Tryz.prog 94 #[.iface 387 (.pointer (some (a 1))),.iface 387 (.pointer (some (a 1)))] w fun e w' => e = .returned (.bool true) ∧ w' = w) := is_any a n (some 1) 1 w h (by decide) (by intro j e; injection e with e; omega);clear h
 go_enter Tryz.func43,Tryz.ntmps43
 go_wp2_with fail
 refine Calls.mono H1.out ?_;rintro e w1 ⟨rfl,rfl⟩;go_wp2;go_ret;exact ⟨rfl,rfl⟩
theorem number_2 (a : Nat → Addr) (n : Nat) (w : World) (h : Gl a n w) : Calls Tryz.prog 43 #[.iface 387 (.pointer (some (a 2)))] w fun e w' => e = .returned (.int .i64 17) ∧ w' = w := by
 have g1 : w.cell? ⟨0,0,none⟩ = some (.iface 387 (.pointer (some (a 1)))) := h.cell 1 (by decide);have H1 : Hid (Calls Tryz.prog 94 #[.iface 387 (.pointer (some (a 2))),.iface 387 (.pointer (some (a 1)))] w fun e w' => e = .returned (.bool false) ∧ w' = w) := is_any a n (some 2) 1 w h (by decide) (by intro j e; injection e with e; omega);have g2 : w.cell? ⟨1,0,none⟩ = some (.iface 387 (.pointer (some (a 2)))) := h.cell 2 (by decide);have H2 : Hid (Calls Tryz.prog 94 #[.iface 387 (.pointer (some (a 2))),.iface 387 (.pointer (some (a 2)))] w fun e w' => e = .returned (.bool true) ∧ w' = w) := is_any a n (some 2) 2 w h (by decide) (by intro j e; injection e with e; omega);clear h
 go_enter Tryz.func43,Tryz.ntmps43
 go_wp2_with fail
 refine Calls.mono H1.out ?_;rintro e w1 ⟨rfl,rfl⟩
 go_wp2_with fail
 refine Calls.mono H2.out ?_;rintro e w1 ⟨rfl,rfl⟩;go_wp2;go_ret;exact ⟨rfl,rfl⟩
theorem number_3 (a : Nat → Addr) (n : Nat) (w : World) (h : Gl a n w) : Calls Tryz.prog 43 #[.iface 387 (.pointer (some (a 3)))] w fun e w' => e = .returned (.int .i64 15) ∧ w' = w := by
 have g1 : w.cell? ⟨0,0,none⟩ = some (.iface 387 (.pointer (some (a 1)))) := h.cell 1 (by decide);have H1 : Hid (Calls Tryz.prog 94 #[.iface 387 (.pointer (some (a 3))),.iface 387 (.pointer (some (a 1)))] w fun e w' => e = .returned (.bool false) ∧ w' = w) := is_any a n (some 3) 1 w h (by decide) (by intro j e; injection e with e; omega);have g2 : w.cell? ⟨1,0,none⟩ = some (.iface 387 (.pointer (some (a 2)))) := h.cell 2 (by decide);have H2 : Hid (Calls Tryz.prog 94 #[.iface 387 (.pointer (some (a 3))),.iface 387 (.pointer (some (a 2)))] w fun e w' => e = .returned (.bool false) ∧ w' = w) := is_any a n (some 3) 2 w h (by decide) (by intro j e; injection e with e; omega);have g3 : w.cell? ⟨2,0,none⟩ = some (.iface 387 (.pointer (some (a 3)))) := h.cell 3 (by decide);have H3 : Hid (Calls Tryz.prog 94 #[.iface 387 (.pointer (some (a 3))),.iface 387 (.pointer (some (a 3)))] w fun e w' => e = .returned (.bool true) ∧ w' = w) := is_any a n (some 3) 3 w h (by decide) (by intro j e; injection e with e; omega);clear h
 go_enter Tryz.func43,Tryz.ntmps43
 go_wp2_with fail
 refine Calls.mono H1.out ?_;rintro e w1 ⟨rfl,rfl⟩
 go_wp2_with fail
 refine Calls.mono H2.out ?_;rintro e w1 ⟨rfl,rfl⟩
 go_wp2_with fail
 refine Calls.mono H3.out ?_;rintro e w1 ⟨rfl,rfl⟩;go_wp2;go_ret;exact ⟨rfl,rfl⟩
theorem number_4 (a : Nat → Addr) (n : Nat) (w : World) (h : Gl a n w) : Calls Tryz.prog 43 #[.iface 387 (.pointer (some (a 4)))] w fun e w' => e = .returned (.int .i64 12) ∧ w' = w := by
 have g1 : w.cell? ⟨0,0,none⟩ = some (.iface 387 (.pointer (some (a 1)))) := h.cell 1 (by decide);have H1 : Hid (Calls Tryz.prog 94 #[.iface 387 (.pointer (some (a 4))),.iface 387 (.pointer (some (a 1)))] w fun e w' => e = .returned (.bool false) ∧ w' = w) := is_any a n (some 4) 1 w h (by decide) (by intro j e; injection e with e; omega);have g2 : w.cell? ⟨1,0,none⟩ = some (.iface 387 (.pointer (some (a 2)))) := h.cell 2 (by decide);have H2 : Hid (Calls Tryz.prog 94 #[.iface 387 (.pointer (some (a 4))),.iface 387 (.pointer (some (a 2)))] w fun e w' => e = .returned (.bool false) ∧ w' = w) := is_any a n (some 4) 2 w h (by decide) (by intro j e; injection e with e; omega);have g3 : w.cell? ⟨2,0,none⟩ = some (.iface 387 (.pointer (some (a 3)))) := h.cell 3 (by decide);have H3 : Hid (Calls Tryz.prog 94 #[.iface 387 (.pointer (some (a 4))),.iface 387 (.pointer (some (a 3)))] w fun e w' => e = .returned (.bool false) ∧ w' = w) := is_any a n (some 4) 3 w h (by decide) (by intro j e; injection e with e; omega);have g0 : w.cell? ⟨3,0,none⟩ = some (.iface 387 (.pointer (some (a 0)))) := h.cell 0 (by decide);have H0 : Hid (Calls Tryz.prog 94 #[.iface 387 (.pointer (some (a 4))),.iface 387 (.pointer (some (a 0)))] w fun e w' => e = .returned (.bool false) ∧ w' = w) := is_any a n (some 4) 0 w h (by decide) (by intro j e; injection e with e; omega);have g4 : w.cell? ⟨4,0,none⟩ = some (.iface 387 (.pointer (some (a 4)))) := h.cell 4 (by decide);have H4 : Hid (Calls Tryz.prog 94 #[.iface 387 (.pointer (some (a 4))),.iface 387 (.pointer (some (a 4)))] w fun e w' => e = .returned (.bool true) ∧ w' = w) := is_any a n (some 4) 4 w h (by decide) (by intro j e; injection e with e; omega);clear h
 go_enter Tryz.func43,Tryz.ntmps43
 go_wp2_with fail
 refine Calls.mono H1.out ?_;rintro e w1 ⟨rfl,rfl⟩
 go_wp2_with fail
 refine Calls.mono H2.out ?_;rintro e w1 ⟨rfl,rfl⟩
 go_wp2_with fail
 refine Calls.mono H3.out ?_;rintro e w1 ⟨rfl,rfl⟩
 go_wp2_with fail
 refine Calls.mono H0.out ?_;rintro e w1 ⟨rfl,rfl⟩
 go_wp2_with fail
 refine Calls.mono H4.out ?_;rintro e w1 ⟨rfl,rfl⟩;go_wp2;go_ret;exact ⟨rfl,rfl⟩
theorem number_5 (a : Nat → Addr) (n : Nat) (w : World) (h : Gl a n w) : Calls Tryz.prog 43 #[.iface 387 (.pointer (some (a 5)))] w fun e w' => e = .returned (.int .i64 12) ∧ w' = w := by
 have g1 : w.cell? ⟨0,0,none⟩ = some (.iface 387 (.pointer (some (a 1)))) := h.cell 1 (by decide);have H1 : Hid (Calls Tryz.prog 94 #[.iface 387 (.pointer (some (a 5))),.iface 387 (.pointer (some (a 1)))] w fun e w' => e = .returned (.bool false) ∧ w' = w) := is_any a n (some 5) 1 w h (by decide) (by intro j e; injection e with e; omega);have g2 : w.cell? ⟨1,0,none⟩ = some (.iface 387 (.pointer (some (a 2)))) := h.cell 2 (by decide);have H2 : Hid (Calls Tryz.prog 94 #[.iface 387 (.pointer (some (a 5))),.iface 387 (.pointer (some (a 2)))] w fun e w' => e = .returned (.bool false) ∧ w' = w) := is_any a n (some 5) 2 w h (by decide) (by intro j e; injection e with e; omega);have g3 : w.cell? ⟨2,0,none⟩ = some (.iface 387 (.pointer (some (a 3)))) := h.cell 3 (by decide);have H3 : Hid (Calls Tryz.prog 94 #[.iface 387 (.pointer (some (a 5))),.iface 387 (.pointer (some (a 3)))] w fun e w' => e = .returned (.bool false) ∧ w' = w) := is_any a n (some 5) 3 w h (by decide) (by intro j e; injection e with e; omega);have g0 : w.cell? ⟨3,0,none⟩ = some (.iface 387 (.pointer (some (a 0)))) := h.cell 0 (by decide);have H0 : Hid (Calls Tryz.prog 94 #[.iface 387 (.pointer (some (a 5))),.iface 387 (.pointer (some (a 0)))] w fun e w' => e = .returned (.bool false) ∧ w' = w) := is_any a n (some 5) 0 w h (by decide) (by intro j e; injection e with e; omega);have g4 : w.cell? ⟨4,0,none⟩ = some (.iface 387 (.pointer (some (a 4)))) := h.cell 4 (by decide);have H4 : Hid (Calls Tryz.prog 94 #[.iface 387 (.pointer (some (a 5))),.iface 387 (.pointer (some (a 4)))] w fun e w' => e = .returned (.bool false) ∧ w' = w) := is_any a n (some 5) 4 w h (by decide) (by intro j e; injection e with e; omega);have g5 : w.cell? ⟨5,0,none⟩ = some (.iface 387 (.pointer (some (a 5)))) := h.cell 5 (by decide);have H5 : Hid (Calls Tryz.prog 94 #[.iface 387 (.pointer (some (a 5))),.iface 387 (.pointer (some (a 5)))] w fun e w' => e = .returned (.bool true) ∧ w' = w) := is_any a n (some 5) 5 w h (by decide) (by intro j e; injection e with e; omega);clear h
 go_enter Tryz.func43,Tryz.ntmps43
 go_wp2_with fail
 refine Calls.mono H1.out ?_;rintro e w1 ⟨rfl,rfl⟩
 go_wp2_with fail
 refine Calls.mono H2.out ?_;rintro e w1 ⟨rfl,rfl⟩
 go_wp2_with fail
 refine Calls.mono H3.out ?_;rintro e w1 ⟨rfl,rfl⟩
 go_wp2_with fail
 refine Calls.mono H0.out ?_;rintro e w1 ⟨rfl,rfl⟩
 go_wp2_with fail
 refine Calls.mono H4.out ?_;rintro e w1 ⟨rfl,rfl⟩
 go_wp2_with fail
 refine Calls.mono H5.out ?_;rintro e w1 ⟨rfl,rfl⟩;go_wp2;go_ret;exact ⟨rfl,rfl⟩
theorem number_6 (a : Nat → Addr) (n : Nat) (w : World) (h : Gl a n w) : Calls Tryz.prog 43 #[.iface 387 (.pointer (some (a 6)))] w fun e w' => e = .returned (.int .i64 9) ∧ w' = w := by
 have g1 : w.cell? ⟨0,0,none⟩ = some (.iface 387 (.pointer (some (a 1)))) := h.cell 1 (by decide);have H1 : Hid (Calls Tryz.prog 94 #[.iface 387 (.pointer (some (a 6))),.iface 387 (.pointer (some (a 1)))] w fun e w' => e = .returned (.bool false) ∧ w' = w) := is_any a n (some 6) 1 w h (by decide) (by intro j e; injection e with e; omega);have g2 : w.cell? ⟨1,0,none⟩ = some (.iface 387 (.pointer (some (a 2)))) := h.cell 2 (by decide);have H2 : Hid (Calls Tryz.prog 94 #[.iface 387 (.pointer (some (a 6))),.iface 387 (.pointer (some (a 2)))] w fun e w' => e = .returned (.bool false) ∧ w' = w) := is_any a n (some 6) 2 w h (by decide) (by intro j e; injection e with e; omega);have g3 : w.cell? ⟨2,0,none⟩ = some (.iface 387 (.pointer (some (a 3)))) := h.cell 3 (by decide);have H3 : Hid (Calls Tryz.prog 94 #[.iface 387 (.pointer (some (a 6))),.iface 387 (.pointer (some (a 3)))] w fun e w' => e = .returned (.bool false) ∧ w' = w) := is_any a n (some 6) 3 w h (by decide) (by intro j e; injection e with e; omega);have g0 : w.cell? ⟨3,0,none⟩ = some (.iface 387 (.pointer (some (a 0)))) := h.cell 0 (by decide);have H0 : Hid (Calls Tryz.prog 94 #[.iface 387 (.pointer (some (a 6))),.iface 387 (.pointer (some (a 0)))] w fun e w' => e = .returned (.bool false) ∧ w' = w) := is_any a n (some 6) 0 w h (by decide) (by intro j e; injection e with e; omega);have g4 : w.cell? ⟨4,0,none⟩ = some (.iface 387 (.pointer (some (a 4)))) := h.cell 4 (by decide);have H4 : Hid (Calls Tryz.prog 94 #[.iface 387 (.pointer (some (a 6))),.iface 387 (.pointer (some (a 4)))] w fun e w' => e = .returned (.bool false) ∧ w' = w) := is_any a n (some 6) 4 w h (by decide) (by intro j e; injection e with e; omega);have g5 : w.cell? ⟨5,0,none⟩ = some (.iface 387 (.pointer (some (a 5)))) := h.cell 5 (by decide);have H5 : Hid (Calls Tryz.prog 94 #[.iface 387 (.pointer (some (a 6))),.iface 387 (.pointer (some (a 5)))] w fun e w' => e = .returned (.bool false) ∧ w' = w) := is_any a n (some 6) 5 w h (by decide) (by intro j e; injection e with e; omega);have g6 : w.cell? ⟨6,0,none⟩ = some (.iface 387 (.pointer (some (a 6)))) := h.cell 6 (by decide);have H6 : Hid (Calls Tryz.prog 94 #[.iface 387 (.pointer (some (a 6))),.iface 387 (.pointer (some (a 6)))] w fun e w' => e = .returned (.bool true) ∧ w' = w) := is_any a n (some 6) 6 w h (by decide) (by intro j e; injection e with e; omega);clear h
 go_enter Tryz.func43,Tryz.ntmps43
 go_wp2_with fail
 refine Calls.mono H1.out ?_;rintro e w1 ⟨rfl,rfl⟩
 go_wp2_with fail
 refine Calls.mono H2.out ?_;rintro e w1 ⟨rfl,rfl⟩
 go_wp2_with fail
 refine Calls.mono H3.out ?_;rintro e w1 ⟨rfl,rfl⟩
 go_wp2_with fail
 refine Calls.mono H0.out ?_;rintro e w1 ⟨rfl,rfl⟩
 go_wp2_with fail
 refine Calls.mono H4.out ?_;rintro e w1 ⟨rfl,rfl⟩
 go_wp2_with fail
 refine Calls.mono H5.out ?_;rintro e w1 ⟨rfl,rfl⟩
 go_wp2_with fail
 refine Calls.mono H6.out ?_;rintro e w1 ⟨rfl,rfl⟩;go_wp2;go_ret;exact ⟨rfl,rfl⟩
theorem number_7 (a : Nat → Addr) (n : Nat) (w : World) (h : Gl a n w) : Calls Tryz.prog 43 #[.iface 387 (.pointer (some (a 7)))] w fun e w' => e = .returned (.int .i64 8) ∧ w' = w := by
 have g1 : w.cell? ⟨0,0,none⟩ = some (.iface 387 (.pointer (some (a 1)))) := h.cell 1 (by decide);have H1 : Hid (Calls Tryz.prog 94 #[.iface 387 (.pointer (some (a 7))),.iface 387 (.pointer (some (a 1)))] w fun e w' => e = .returned (.bool false) ∧ w' = w) := is_any a n (some 7) 1 w h (by decide) (by intro j e; injection e with e; omega);have g2 : w.cell? ⟨1,0,none⟩ = some (.iface 387 (.pointer (some (a 2)))) := h.cell 2 (by decide);have H2 : Hid (Calls Tryz.prog 94 #[.iface 387 (.pointer (some (a 7))),.iface 387 (.pointer (some (a 2)))] w fun e w' => e = .returned (.bool false) ∧ w' = w) := is_any a n (some 7) 2 w h (by decide) (by intro j e; injection e with e; omega);have g3 : w.cell? ⟨2,0,none⟩ = some (.iface 387 (.pointer (some (a 3)))) := h.cell 3 (by decide);have H3 : Hid (Calls Tryz.prog 94 #[.iface 387 (.pointer (some (a 7))),.iface 387 (.pointer (some (a 3)))] w fun e w' => e = .returned (.bool false) ∧ w' = w) := is_any a n (some 7) 3 w h (by decide) (by intro j e; injection e with e; omega);have g0 : w.cell? ⟨3,0,none⟩ = some (.iface 387 (.pointer (some (a 0)))) := h.cell 0 (by decide);have H0 : Hid (Calls Tryz.prog 94 #[.iface 387 (.pointer (some (a 7))),.iface 387 (.pointer (some (a 0)))] w fun e w' => e = .returned (.bool false) ∧ w' = w) := is_any a n (some 7) 0 w h (by decide) (by intro j e; injection e with e; omega);have g4 : w.cell? ⟨4,0,none⟩ = some (.iface 387 (.pointer (some (a 4)))) := h.cell 4 (by decide);have H4 : Hid (Calls Tryz.prog 94 #[.iface 387 (.pointer (some (a 7))),.iface 387 (.pointer (some (a 4)))] w fun e w' => e = .returned (.bool false) ∧ w' = w) := is_any a n (some 7) 4 w h (by decide) (by intro j e; injection e with e; omega);have g5 : w.cell? ⟨5,0,none⟩ = some (.iface 387 (.pointer (some (a 5)))) := h.cell 5 (by decide);have H5 : Hid (Calls Tryz.prog 94 #[.iface 387 (.pointer (some (a 7))),.iface 387 (.pointer (some (a 5)))] w fun e w' => e = .returned (.bool false) ∧ w' = w) := is_any a n (some 7) 5 w h (by decide) (by intro j e; injection e with e; omega);have g6 : w.cell? ⟨6,0,none⟩ = some (.iface 387 (.pointer (some (a 6)))) := h.cell 6 (by decide);have H6 : Hid (Calls Tryz.prog 94 #[.iface 387 (.pointer (some (a 7))),.iface 387 (.pointer (some (a 6)))] w fun e w' => e = .returned (.bool false) ∧ w' = w) := is_any a n (some 7) 6 w h (by decide) (by intro j e; injection e with e; omega);have g7 : w.cell? ⟨7,0,none⟩ = some (.iface 387 (.pointer (some (a 7)))) := h.cell 7 (by decide);have H7 : Hid (Calls Tryz.prog 94 #[.iface 387 (.pointer (some (a 7))),.iface 387 (.pointer (some (a 7)))] w fun e w' => e = .returned (.bool true) ∧ w' = w) := is_any a n (some 7) 7 w h (by decide) (by intro j e; injection e with e; omega);clear h
 go_enter Tryz.func43,Tryz.ntmps43
 go_wp2_with fail
 refine Calls.mono H1.out ?_;rintro e w1 ⟨rfl,rfl⟩
 go_wp2_with fail
 refine Calls.mono H2.out ?_;rintro e w1 ⟨rfl,rfl⟩
 go_wp2_with fail
 refine Calls.mono H3.out ?_;rintro e w1 ⟨rfl,rfl⟩
 go_wp2_with fail
 refine Calls.mono H0.out ?_;rintro e w1 ⟨rfl,rfl⟩
 go_wp2_with fail
 refine Calls.mono H4.out ?_;rintro e w1 ⟨rfl,rfl⟩
 go_wp2_with fail
 refine Calls.mono H5.out ?_;rintro e w1 ⟨rfl,rfl⟩
 go_wp2_with fail
 refine Calls.mono H6.out ?_;rintro e w1 ⟨rfl,rfl⟩
 go_wp2_with fail
 refine Calls.mono H7.out ?_;rintro e w1 ⟨rfl,rfl⟩;go_wp2;go_ret;exact ⟨rfl,rfl⟩
theorem number_any (a : Nat → Addr) (n : Nat) (o : Option Nat) (w : World) (h : Gl a n w) (ho : ∀ i,o = some i → i < 8) : Calls Tryz.prog 43 #[er a o] w fun e w' => e = .returned (.int .i64 (numE o)) ∧ w' = w := by
 cases o with
 | none => exact number_nil a n w h
 | some i =>
  have := ho i rfl
  match i,this with
  | 0,_ => exact number_0 a n w h
  | 1,_ => exact number_1 a n w h
  | 2,_ => exact number_2 a n w h
  | 3,_ => exact number_3 a n w h
  | 4,_ => exact number_4 a n w h
  | 5,_ => exact number_5 a n w h
  | 6,_ => exact number_6 a n w h
  | 7,_ => exact number_7 a n w h
end Go.Proofs.YtcajifelbldjnaaGreatDoor.K
namespace Go.Proofs.YtcajifelbldjnaaGreatDoor.K
open Go.RowKit
section
variable (P : Program) (Q : Exit → Act → World → Prop) (a : Act) (m : List Bool) (plan : GPlan) (V : Nat → List Value → World → Prop) (J : (Nat → Value) → World → Prop) (E : World → Prop)
def DoesX (i : Nat) (o : Oper) (f : Nat → Value) (w : World) : Prop :=
 ∀ K : Act → World → Prop,(∀ a' w',(∃ v,a' = (ov a m f).put o.dst v ∧ V i ((menOf plan i).map (updO f o.dst v)) w' ∧ E w' ∧ J (updO f o.dst v) w' ∧ (∀ j,V j ((menOf plan j).map f) w → V j ((menOf plan j).map f) w')) → K a' w') → o.wp P (ov a m f) w K Q
def OblX (i : Nat) (o : Oper) (p : List Nat × List Nat × Option (Nat × Bool)) : Prop :=
 ∀ f w,E w → J f w → AllJ plan V f w p.1 → match p.2.2 with
  | none => DoesX P Q a m plan V J E i o f w
  | some (s,b) => (f s = .bool b → DoesX P Q a m plan V J E i o f w) ∧ (f s ≠ .bool b → V i ((menOf plan i).map (updO f o.dst undef)) w ∧ J (updO f o.dst undef) w)
def OblsX : Nat → List Oper → GPlan → Prop
 | i,o :: l,p :: q => OblX P Q a m plan V J E i o p ∧ OblsX (i + 1) l q
 | _,_,_ => True
end
section
variable {P : Program} {Q : Exit → Act → World → Prop} {a : Act} {m : List Bool} {plan : GPlan} {V : Nat → List Value → World → Prop} {J : (Nat → Value) → World → Prop} {E : World → Prop} {ops : Array Oper}
theorem oblsX_at : ∀ {l : List Oper} {q : GPlan} {s : Nat},OblsX P Q a m plan V J E s l q → ∀ {i : Nat} {o : Oper} {p},l[i]? = some o → q[i]? = some p → OblX P Q a m plan V J E (s + i) o p
 | [],_,_,_,_,_,_,h,_ => by simp at h
 | _ :: _,[],_,_,_,_,_,_,h => by simp at h
 | o :: l,p :: q,s,h,0,_,_,ho,hp => by simp at ho hp; subst ho; subst hp; exact h.1
 | o :: l,p :: q,s,h,i + 1,_,_,ho,hp => by
  have := oblsX_at h.2 (i := i) (by simpa using ho) (by simpa using hp);rw [show s + 1 + i = s + (i + 1) by omega] at this;exact this
def InvX (a : Act) (m : List Bool) (plan : GPlan) (V : Nat → List Value → World → Prop) (J : (Nat → Value) → World → Prop) (E : World → Prop) (ops : Array Oper) (listed : Array Bool) (a' : Act) (w : World) : Prop :=
 Closed ops listed ∧ ∃ f,a' = ov a m f ∧ E w ∧ J f w ∧ ∀ i,listed[i]? = some true → V i ((menOf plan i).map f) w
theorem invX_step (hok : gOk ops plan m a.tmps.size = true) (hob : OblsX P Q a m plan V J E 0 ops.toList plan)
  {listed : Array Bool} (hsz : listed.size = ops.size) {i : Nat} (hi : i ∈ Region.ready .any ops listed) {a' : Act} {w : World} (h : InvX a m plan V J E ops listed a' w) :
  wpOp P ops Q i (fun a2 w2 => InvX a m plan V J E ops (listed.setIfInBounds i true) a2 w2) a' w := by
 simp only [gOk,Bool.and_eq_true] at hok;obtain ⟨⟨_,hall⟩,hmen⟩ := hok;obtain ⟨hlt,hun,hpre⟩ := ready_pre hi;obtain ⟨o,ho⟩ : ∃ o,ops[i]? = some o := ⟨ops[i],by simp [hlt]⟩;have hpre := hpre o ho;have hoL : ops.toList[i]? = some o := by simpa using ho
 obtain ⟨p,hp,h1⟩ := gAll_at hall hoL;have hO := oblsX_at hob hoL hp;rw [Nat.zero_add] at hO;simp only [gOne,Bool.and_eq_true] at h1;obtain ⟨⟨hd,hps⟩,hg⟩ := h1;obtain ⟨hcl,f,rfl,hb,hJ,hV⟩ := h
 have hav : ∀ l : List Nat,(∀ j ∈ l,j ∈ p.1) → AllJ plan V f w l := by
  intro l
  induction l with
  | nil => intro _; trivial
  | cons j l ih =>
   intro hl;refine ⟨?_,ih fun x hx => hl x (by simp [hx])⟩;have h2 := List.all_eq_true.1 hps j (hl j (by simp));obtain ⟨e,he,h3⟩ := Array.any_eq_true'.1 h2;simp only [Bool.and_eq_true,beq_iff_eq] at h3;have := hpre e he h3.1;rw [h3.2] at this;exact hV j this
 have hav := hav p.1 fun _ h => h
 have hnl : listed[i]? ≠ some true := by
  intro e;rw [Array.getD_eq_getD_getElem?,e] at hun;simp at hun
 have hput : ∀ v,(ov a m f).put o.dst v = ov a m (updO f o.dst v) := by
  intro v
  cases e : o.dst with
  | none => rfl
  | some d =>
   rw [e] at hd;simp only [Bool.and_eq_true] at hd;exact over_put a m f d v (getD_true hd.1)
 have hsame : ∀ (j : Nat) (v : Value),listed[j]? = some true → (menOf plan j).map (updO f o.dst v) = (menOf plan j).map f := by
  intro j v hj
  apply List.map_congr_left
  intro s hs
  apply updO_other
  intro e
  have hjs : j < ops.size := by
   by_cases h : j < ops.size
   ·exact h
   ·rw [Array.getElem?_eq_none (by omega)] at hj; cases hj
  unfold menB at hmen;have h1 := List.all_eq_true.1 (List.all_eq_true.1 hmen j (by simpa using hjs)) i (by simpa using hlt);simp only [Bool.or_eq_true,beq_iff_eq] at h1
  rcases h1 with (h1 | h1) | h1
  ·subst h1; exact hnl hj
  ·exact hnl (covers_listed hcl _ j i (fun o' ho' => hcl j o' ho' hj) h1)
  ·have := List.all_eq_true.1 h1 s hs
   rw [ho] at this;simp [e] at this
 have hcl2 := closed_next hcl hi
 have hfin : ∀ v w2,V i ((menOf plan i).map (updO f o.dst v)) w2 → E w2 → J (updO f o.dst v) w2 → (∀ j,V j ((menOf plan j).map f) w → V j ((menOf plan j).map f) w2) → InvX a m plan V J E ops (listed.setIfInBounds i true) ((ov a m f).put o.dst v) w2 := by
  intro v w2 hv hb2 hj2 hk;refine ⟨hcl2,updO f o.dst v,hput v,hb2,hj2,fun j hlj => ?_⟩
  by_cases e : j = i
  ·subst e; exact hv
  ·have hlj2 : listed[j]? = some true := by simpa [Array.getElem?_setIfInBounds,Ne.symm e] using hlj
   rw [hsame j v hlj2];exact hk j (hV j hlj2)
 have hDoes : DoesX P Q a m plan V J E i o f w → o.wp P (ov a m f) w (fun a2 w2 => InvX a m plan V J E ops (listed.setIfInBounds i true) a2 w2) Q := fun hD =>
  hD _ fun a2 w2 ⟨v,ha,hv,hb2,hj2,hk⟩ => by subst ha; exact hfin v w2 hv hb2 hj2 hk
 have hO := hO f w hb hJ hav;unfold wpOp;rw [ho];simp only
 cases hgo : o.guard with
 | none =>
  rw [hgo] at hg;have hw : Region.wanted o (yielded ops (ov a m f).tmps) = true := by simp [Region.wanted,hgo]
  rw [if_pos hw]
  cases hp2 : p.2.2 with
  | none => rw [hp2] at hO; exact .inl (hDoes hO)
  | some x => rw [hp2] at hg; simp at hg
 | some jb =>
  obtain ⟨j,b⟩ := jb;rw [hgo] at hg
  cases hp2 : p.2.2 with
  | none => rw [hp2] at hg; simp at hg
  | some sb =>
   obtain ⟨s,b'⟩ := sb;rw [hp2] at hg hO;simp only [Bool.and_eq_true] at hg;obtain ⟨⟨⟨hs,hbb⟩,hms⟩,hsn⟩ := hg;have hbb : b = b' := by simpa using hbb
   subst hbb;have hs : (ops[j]?).bind (·.dst) = some s := by simpa using hs
   have hgs : (ov a m f).tmps[s]? = some (f s) := by
    have := overL_at f m 0 s a.tmps.toList (getD_true hms) (by simpa using hsn)
    simpa [ov] using this
   have hy : yielded ops (ov a m f).tmps j = match f s with | .bool x => some x | _ => none := by
    unfold yielded;rw [hs];simp only [Option.bind_some,hgs]
    cases f s <;> rfl
   by_cases hw : f s = .bool b
   ·have : Region.wanted o (yielded ops (ov a m f).tmps) = true := by simp [Region.wanted,hgo,hy,hw]
    rw [if_pos this];exact .inl (hDoes (hO.1 hw))
   ·have : ¬ Region.wanted o (yielded ops (ov a m f).tmps) = true := by
     simp only [Region.wanted,hgo,hy,beq_iff_eq]
     cases e : f s <;> simp
     rename_i x;intro e2; subst e2; exact hw e
    rw [if_neg this];exact hfin _ _ (hO.2 hw).1 hb (hO.2 hw).2 fun _ h => h
theorem anyX (hok : gOk ops plan m a.tmps.size = true) (hob : OblsX P Q a m plan V J E 0 ops.toList plan)
  (hdone : ∀ f w,E w → J f w → AllG V f w 0 plan → Q .normal (ov a m f) w) :
  ∀ (fuel : Nat) (listed : Array Bool) (a' : Act) (w : World),listed.size = ops.size → listed.toList.count false ≤ fuel → InvX a m plan V J E ops listed a' w → wpAny P .any ops Q fuel listed a' w := by
 have hok2 := hok;simp only [gOk,Bool.and_eq_true] at hok2;obtain ⟨⟨hback,hall⟩,_⟩ := hok2;have hlen := gAll_length hall
 have hend : ∀ (listed : Array Bool) (a' : Act) (w : World),listed.size = ops.size → InvX a m plan V J E ops listed a' w → Region.ready .any ops listed = [] → Q .normal a' w := by
  rintro listed a' w hsz ⟨_,f,rfl,hb,hJ,hV⟩ hr;refine hdone f w hb hJ (allG_of fun i p hp => ?_);have hi : i < plan.length := (List.getElem?_eq_some_iff.1 hp).1;have := hV i (all_listedE hback hsz hr i (by simp at hlen; omega));rw [Nat.zero_add];unfold menOf at this;rw [hp] at this;exact this
 intro fuel
 induction fuel with
 | zero =>
  intro listed a' w hsz hc hI
  have hr : Region.ready .any ops listed = [] := by
   rw [List.eq_nil_iff_forall_not_mem];intro i hi;obtain ⟨hlt,h1,_⟩ := ready_pre hi;have h0 : listed.toList.count false = 0 := by omega
   rw [List.count_eq_zero] at h0;have hlt2 : i < listed.size := by omega
   simp only [Array.getD_eq_getD_getElem?,Array.getElem?_eq_getElem hlt2,Option.getD_some] at h1;exact h0 (by rw [← h1]; simp)
  exact ⟨hr,hend listed a' w hsz hI hr⟩
 | succ fuel ih =>
  intro listed a' w hsz hc hI;refine ⟨hend listed a' w hsz hI,fun i hi => wpOp_mono (fun a2 w2 h2 => ih _ _ _ (by simpa using hsz) ?_ h2) (invX_step hok hob hsz hi hI)⟩;obtain ⟨hlt,h1,_⟩ := ready_pre hi;have hlt2 : i < listed.size := by omega
  simp only [Array.getD_eq_getD_getElem?,Array.getElem?_eq_getElem hlt2,Option.getD_some] at h1;have hl : i < listed.toList.length := by simpa using hlt2
  have h2 : listed.toList[i] = false := by simpa using h1
  rw [Array.toList_setIfInBounds,List.count_set hl,h2];have hp : 0 < listed.toList.count false := List.count_pos_iff.2 (by rw [← h2]; exact List.getElem_mem _);rw [if_pos (by rfl),if_neg (by decide)];omega
theorem region_ev {w0 : World} {id : Nat} (m : List Bool) (plan : GPlan) (V : Nat → List Value → World → Prop) (J : (Nat → Value) → World → Prop) (E : World → Prop) (hmix : P.follows .mixedOrders = true) (hok : gOk ops plan m a.tmps.size = true)
  (hE0 : E w0.drew) (hJ0 : J (fun k => (a.tmps.toList[k]?).getD undef) w0.drew) (hob : OblsX P Q a m plan V J E 0 ops.toList plan)
  (hdone : ∀ f w,E w → J f w → AllG V f w 0 plan → Q .normal (ov a m f) w) : (Code.region id ops true).wp P Q a w0 := by
 refine wp_region_any hmix (anyX hok hob hdone _ _ _ _ (by simp) (by simp) ⟨?_,fun k => (a.tmps.toList[k]?).getD undef,(over_start a m).symm,hE0,hJ0,?_⟩)
 ·intro i o _ h
  simp [Array.getElem?_replicate] at h
 ·intro i h
  simp [Array.getElem?_replicate] at h
end
end Go.Proofs.YtcajifelbldjnaaGreatDoor.K
