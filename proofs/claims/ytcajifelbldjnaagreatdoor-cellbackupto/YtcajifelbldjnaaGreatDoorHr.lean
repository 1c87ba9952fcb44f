import Derived.Test.YtcajifelbldjnaaGreatDoorHq
import Derived.Deep.MidRow
import Derived.Deep.WholeRow
import Derived.Test.YtcajifelbldjnaaGreatDoorHm
set_option maxRecDepth 100000
set_option maxHeartbeats 25600000
set_option linter.unusedVariables false
namespace Go.Proofs.YtcajifelbldjnaaGreatDoor.K
open Go.RowKit Go.Maps
abbrev zbv : Value := .agg #[.int .i64 0,.int .i64 0,.int .i64 0,.int .i64 0,.int .i64 0,.int .i64 0,.int .i64 0,.int .i64 0,.int .i64 0,.int .i64 0,.int .i64 0,.int .i64 0,.bool false,.int .i64 0,.int .i64 0,.int .i64 0,.int .i64 0,.bool false,.int .i64 0,.int .i64 0,.int .i64 0,.map none]
abbrev zbo : Obj := .cells #[.int .i64 0,.int .i64 0,.int .i64 0,.int .i64 0,.int .i64 0,.int .i64 0,.int .i64 0,.int .i64 0,.int .i64 0,.int .i64 0,.int .i64 0,.int .i64 0,.bool false,.int .i64 0,.int .i64 0,.int .i64 0,.int .i64 0,.bool false,.int .i64 0,.int .i64 0,.int .i64 0,.map none] 104
abbrev zbc : List Value := [.int .i64 0,.int .i64 0,.int .i64 0,.int .i64 0,.int .i64 0,.int .i64 0,.int .i64 0,.int .i64 0,.int .i64 0,.int .i64 0,.int .i64 0,.int .i64 0,.bool false,.int .i64 0,.int .i64 0,.int .i64 0,.int .i64 0,.bool false,.int .i64 0,.int .i64 0,.int .i64 0,.map none]
theorem info52 : (Tryz.prog.info? 104).map (·.size) = some 22 := by kernel_rfl
theorem _root_.Go.Proofs.YtcajifelbldjnaaGreatDoor.Bk.there {b : Nat} {cs : List Value} {w : World} (h : Bk b cs w) {n : Nat} (hn : n ≤ cs.length) : w.there b 0 n := by
 intro j hj;have hv : cs[j]? = some (cs[j]'(by omega)) := List.getElem?_eq_getElem (by omega);have := h.2 j _ hv;rw [Nat.zero_add];exact ⟨by rw [this.1]; rfl,this.2⟩
theorem _root_.Go.Proofs.YtcajifelbldjnaaGreatDoor.Bk.range {b : Nat} {cs : List Value} {w : World} (h : Bk b cs w) : w.rangeAt b 0 cs := fun j v hv => by rw [Nat.zero_add]; exact (h.2 j v hv).1
theorem setCell_id {w : World} {b k : Nat} {v : Value} (h : w.cell? ⟨b,k,none⟩ = some v) : w.setCell ⟨b,k,none⟩ v = w := by
 unfold World.cell? at h
 have e : (w.setCell ⟨b,k,none⟩ v).heap = w.heap := by
  unfold World.setCell
  apply Array.ext_getElem?
  intro i;simp only [Array.getElem?_modify]
  split
  ·rename_i e
   subst e
   cases hb : w.heap[b]? with
   | none => rfl
   | some o =>
    simp only [hb] at h
    cases o with
    | cells c t fz =>
     simp only [Option.isSome_none,Bool.false_eq_true,if_false] at h;simp only [Option.map_some,Option.isSome_none,Bool.false_eq_true,if_false]
     congr 2
     apply Array.ext_getElem?
     intro j;rw [Array.getElem?_setIfInBounds]
     split
     ·rename_i e2
      subst e2;rw [if_pos (Array.getElem?_eq_some_iff.1 h).1,h]
     ·rfl
    | _ => simp at h
  ·rfl
 calc w.setCell ⟨b,k,none⟩ v = { w with heap := (w.setCell ⟨b,k,none⟩ v).heap } := rfl
  _ = w := by rw [e]
theorem setCells_id {b : Nat} : ∀ (cs : List Value) (o : Nat) (w : World),(∀ k v,cs[k]? = some v → w.cell? ⟨b,o + k,none⟩ = some v) → w.setCells b o cs = w
 | [],_,_,_ => rfl
 | v :: vs,o,w,h => by
  show (w.setCell ⟨b,o,none⟩ v).setCells b (o + 1) vs = w;rw [setCell_id (show w.cell? ⟨b,o,none⟩ = some v from h 0 v rfl)];exact setCells_id vs (o + 1) w fun k u hu => by have := h (k + 1) u hu; rwa [Nat.add_assoc,Nat.add_comm 1 k]
theorem _root_.Go.Proofs.YtcajifelbldjnaaGreatDoor.Bk.stays {b : Nat} {cs : List Value} {w : World} (h : Bk b cs w) : w.setCells b 0 cs = w := setCells_id cs 0 w fun k v hv => by rw [Nat.zero_add]; exact (h.2 k v hv).1
theorem results_ct {fn : Func} {a u : Tmp} {t : TypeId} (h : fn.results = #[.cell a t,.tmp u]) (tmps : Array Value) (P : Program) (w : World) {Z : Addr} {v e : Value} (ha : tmps.getD a undef = .pointer (some Z)) (he : tmps.getD u undef = e) (hl : (loadVar t Z).run P w = .ok v w) : (results fn tmps).run P w = .ok (.tuple #[v,e]) w := by
 rw [Array.getD_eq_getD_getElem?] at ha he;simp [results,h,ha,hl,asAddr,he]
theorem results_ctt {fn : Func} {a u x : Tmp} {t : TypeId} (h : fn.results = #[.cell a t,.tmp u,.tmp x]) (tmps : Array Value) (P : Program) (w : World) {Z : Addr} {v e d : Value} (ha : tmps.getD a undef = .pointer (some Z)) (he : tmps.getD u undef = e) (hd : tmps.getD x undef = d) (hl : (loadVar t Z).run P w = .ok v w) : (results fn tmps).run P w = .ok (.tuple #[v,e,d]) w := by
 rw [Array.getD_eq_getD_getElem?] at ha he hd;simp [results,h,ha,hl,asAddr,he,hd]
theorem out_setCells {k b : Nat} (h : k ≠ b) : ∀ (vs : List Value) (o : Nat) (w : World),(w.setCells b o vs).heap[k]? = w.heap[k]?
 | [],_,_ => rfl
 | v :: vs,o,w => (out_setCells h vs (o + 1) _).trans (Below.heap_setCell w ⟨b,o,none⟩ v k h)
theorem low_setCells {n b : Nat} (h : n ≤ b) : ∀ (vs : List Value) (o : Nat) (w : World),Below n w (w.setCells b o vs)
 | [],_,_ => brf
 | v :: vs,o,w => ((Below.refl n w).setCell h v).trans (low_setCells h vs (o + 1) _)
theorem _root_.Go.Proofs.YtcajifelbldjnaaGreatDoor.Bk.setAll {b : Nat} {cs : List Value} {w : World} (h : Bk b cs w) (ds : List Value) (hl : ds.length = cs.length) : Bk b ds (w.setCells b 0 ds) := by
 have hs := World.rangeAt_setCells_same w b 0 ds (h.there (by omega));refine ⟨Nat.lt_of_lt_of_le h.1 (low_setCells (Nat.zero_le b) ds 0 w).size,fun k v hv => ⟨?_,?_⟩⟩
 ·have := hs k v hv
  rwa [Nat.zero_add] at this
 ·rw [World.frozen?_setCells]
  have hk : k < cs.length := by have := (List.getElem?_eq_some_iff.1 hv).1; omega
  exact (h.2 k _ (List.getElem?_eq_getElem hk)).2
theorem load52 {Z : Nat} {cs : List Value} {w : World} (h : Bk Z cs w) (hl : cs.length = 22) : (loadVar 104 ⟨Z,0,none⟩).run Tryz.prog w = .ok (.agg cs.toArray) w :=
 run_loadVar_mid (P := Tryz.prog) w Z 0 104 cs _ h.range Tryz.underlying104 rfl (by rw [info52,hl])
theorem wpList_store_new {P : Program} {ops : Array Oper} {rest : List Oper} {op : Oper} {a : Act} {w : World} {Q : Exit → Act → World → Prop} (hgd : op.guard = none) (ty : TypeId) (x y : Operand) (ho : op.op = .store ty x y)
  (W : World) (b : Nat) (c c' : Array Value) (hw : w = W.alloc (.cells c ty)) (hb : b = W.heap.size) (hx : a.eval x = .pointer (some ⟨b,0,none⟩)) (hy : a.eval y = .agg c')
  (hi : (P.info? ty).map (·.size) = some c'.size) (hs : c.size = c'.size) (h1 : c'.all (·.oneCell') = true)
  (h : wpList P ops Q rest (a.put op.dst undef) (W.alloc (.cells c' ty))) : wpList P ops Q (op :: rest) a w := by
 subst hb;subst hw;refine wpList_plain hgd fun K hK => ?_;unfold Oper.wp execOp;simp only [ho,hx,hy,Instr.storeAt,Instr.sureAddr,Sem.run_bind,Sem.run_pure,Result.andThen_ok,run_storeVar_new W ty c c' hi hs h1];exact hK _ _ h
def nb2V (a : Nat → Addr) (i : Nat) (l : List Value) (w : World) : Prop :=
 match i,l with
 | 0,[v] => v = zbv
 | 1,[v] => v = .iface 387 (.pointer (some (a 1)))
 | 3,[v] => v = .iface 387 (.pointer (some (a 1)))
 | _,_ => True
def nb5V (a : Nat → Addr) (i : Nat) (l : List Value) (w : World) : Prop :=
 match i,l with
 | 0,[v] => v = zbv
 | 1,[v] => v = .iface 387 (.pointer (some (a 2)))
 | 3,[v] => v = .iface 387 (.pointer (some (a 2)))
 | _,_ => True
theorem newBoard_a (a : Nat → Addr) (n : Nat) (r : Rg) (f : Fm) (w : World) (hg : Gl a n w) (hr : rgOk r = false) :
  CR 42 #[rgv r,fv f] w (.tuple #[zbv,.iface 387 (.pointer (some (a 1)))]) := by
 have HR : Hid (∀ W,CR 92 #[rgv r] W (.bool false)) := fun W => by have := isRig_any r W; rwa [hr] at this
 obtain ⟨w0,hw0⟩ : ∃ x,x = ((w.alloc (rgo r)).alloc (fo f)).alloc zbo := ⟨_,rfl⟩;have HB0 : Hid (bw w w0) := by show Below _ _ _; rw [hw0]; exact three_new _ _ _ _
 have KZ0 : Hid (Bk (w.heap.size + 1 + 1) zbc w0) := by show Bk _ _ _; rw [hw0]; exact Bk.new ((w.alloc (rgo r)).alloc (fo f)) zbc 104 (w.heap.size + 1 + 1) (by simp)
 have KF0 : Hid (Bk (w.heap.size + 1) (fc f) w0) := by show Bk _ _ _; rw [hw0]; exact (Bk.new (w.alloc (rgo r)) (fc f) 44 (w.heap.size + 1) (by simp)).later (one_new _ _)
 have KR0 : Hid (Bk w.heap.size (rgc r) w0) := by show Bk _ _ _; rw [hw0]; exact (Bk.new w (rgc r) 35 w.heap.size rfl).later (two_new _ _ _)
 obtain ⟨Z,hZ⟩ : ∃ b,b = w.heap.size + 1 + 1 := ⟨_,rfl⟩;obtain ⟨F,hF⟩ : ∃ b,b = w.heap.size + 1 := ⟨_,rfl⟩;obtain ⟨R,hR⟩ : ∃ b,b = w.heap.size := ⟨_,rfl⟩;rw [← hZ] at KZ0;rw [← hF] at KF0;rw [← hR] at KR0;have hZw : w.heap.size ≤ Z := by omega
 go_enter Tryz.func42,Tryz.ntmps42
 go_wp2_with fail
 simp only [← hw0,← hZ];simp only [← hF];simp only [← hR];clear hZ hF hw0 hR;refine (HR.out _).mono ?_;rintro e w1 ⟨rfl,hb1⟩;have HB1 : Hid (bw w w1) := below_on HB0.out hb1;have KZ1 : Hid (Bk Z zbc w1) := KZ0.out.later hb1;have KF1 : Hid (Bk F (fc f) w1) := KF0.out.later hb1;have KR1 : Hid (Bk R (rgc r) w1) := KR0.out.later hb1;have HG1 : Hid (Gl a n w1) := hg.later HB1.out;clear hb1 KZ0 KF0 KR0 hg KF1 KR1
 go_wp2_with fail
 rename_i KK hkk;have HKK := (show Hid _ from hkk);clear hkk
 refine region_all [zf,zf,zf,zf,zf,zt,zf,zf,zf,zf,zt,zt,zf,zf,zf,zf,zf,zf,zf,zf,zf]
  [([],[10],none),([],[11],none),([0],[],none),([1],[5],none)]
  (nb2V a) (fun _ w => Bk Z zbc w) (by kernel_rfl) (by kernel_rfl) (fun W hb => KZ1.out.later hb) ?_ ?_
 ·refine ⟨?_,?_,?_,?_,trivial⟩
  ·intro f w1 hb hJ _ K hK
   simp only [ov,oL,Nat.reduceAdd];go_simp;exact hK _ _ ⟨_,by simp only [ov,oL,Nat.reduceAdd]; rfl,rfl,hb,hJ,fun _ h => h⟩
  ·intro f w1 hb hJ _ K hK
   have g1 : w1.cell? ⟨0,0,none⟩ = some (.iface 387 (.pointer (some (a 1)))) := (HG1.out.later hb).cell 1 (by decide);simp only [ov,oL,Nat.reduceAdd];go_simp;exact hK _ _ ⟨_,by simp only [ov,oL,Nat.reduceAdd]; rfl,rfl,hb,hJ,fun _ h => h⟩
  ·intro f w1 hb hJ ⟨h10,_⟩ K hK
   replace h10 : f 10 = zbv := h10;simp only [ov,oL,Nat.reduceAdd,h10];refine wp_store_mid 104 _ _ rfl Z 0 _ rfl rfl (hJ.there (Nat.le_refl _)) info52 (by kernel_rfl) ?_;rw [show w1.setCells Z 0 (Array.toList _) = w1 from hJ.stays];exact hK _ _ ⟨undef,by simp only [ov,oL,Nat.reduceAdd,h10],trivial,hb,hJ,fun _ h => h⟩
  ·intro f w1 hb hJ ⟨h11,_⟩ K hK
   replace h11 : f 11 = .iface 387 (.pointer (some (a 1))) := h11;simp only [ov,oL,Nat.reduceAdd,h11];go_simp;exact hK _ _ ⟨_,by simp only [ov,oL,Nat.reduceAdd,h11]; rfl,rfl,hb,hJ,fun _ h => h⟩
 ·intro fr w2 hb2 hJ hv
  have h5 : fr 5 = .iface 387 (.pointer (some (a 1))) := hv.2.2.2.1;have HB2 : Hid (bw w w2) := below_on HB1.out hb2;have KZ2 : Hid (Bk Z zbc w2) := hJ;simp only [oeq,oL,h5,Nat.reduceAdd];clear hv h5 hb2 hJ;refine HKK.out _ _ ?_;go_wp2;exact bodyPost_ret (v := .tuple #[zbv,.iface 387 (.pointer (some (a 1)))]) (results_ct Tryz.results42 _ _ _ rfl rfl (load52 KZ2.out rfl)) rfl ⟨rfl,HB2.out⟩
theorem newBoard_b (a : Nat → Addr) (n : Nat) (r : Rg) (f : Fm) (w : World) (hg : Gl a n w) (hr : rgOk r = true) (hf : fmOk r f = false) :
  CR 42 #[rgv r,fv f] w (.tuple #[zbv,.iface 387 (.pointer (some (a 2)))]) := by
 have HM : Hid (∀ B M W,Bk B (bdc r f M) W → CR 93 #[ptr B] W (.bool false)) := fun B M W hW => by have := mayBe_any B M r f W hW; rwa [hf] at this
 have HR : Hid (∀ W,CR 92 #[rgv r] W (.bool true)) := fun W => by have := isRig_any r W; rwa [hr] at this
 obtain ⟨w0,hw0⟩ : ∃ x,x = ((w.alloc (rgo r)).alloc (fo f)).alloc zbo := ⟨_,rfl⟩;have HB0 : Hid (bw w w0) := by show Below _ _ _; rw [hw0]; exact three_new _ _ _ _
 have KZ0 : Hid (Bk (w.heap.size + 1 + 1) zbc w0) := by show Bk _ _ _; rw [hw0]; exact Bk.new ((w.alloc (rgo r)).alloc (fo f)) zbc 104 (w.heap.size + 1 + 1) (by simp)
 have KF0 : Hid (Bk (w.heap.size + 1) (fc f) w0) := by show Bk _ _ _; rw [hw0]; exact (Bk.new (w.alloc (rgo r)) (fc f) 44 (w.heap.size + 1) (by simp)).later (one_new _ _)
 have KR0 : Hid (Bk w.heap.size (rgc r) w0) := by show Bk _ _ _; rw [hw0]; exact (Bk.new w (rgc r) 35 w.heap.size rfl).later (two_new _ _ _)
 obtain ⟨Z,hZ⟩ : ∃ b,b = w.heap.size + 1 + 1 := ⟨_,rfl⟩;obtain ⟨F,hF⟩ : ∃ b,b = w.heap.size + 1 := ⟨_,rfl⟩;obtain ⟨R,hR⟩ : ∃ b,b = w.heap.size := ⟨_,rfl⟩;rw [← hZ] at KZ0;rw [← hF] at KF0;rw [← hR] at KR0;have hZw : w.heap.size ≤ Z := by omega
 go_enter Tryz.func42,Tryz.ntmps42
 go_wp2_with fail
 simp only [← hw0,← hZ];simp only [← hF];simp only [← hR];clear hZ hF hw0 hR;refine (HR.out _).mono ?_;rintro e w1 ⟨rfl,hb1⟩;have HB1 : Hid (bw w w1) := below_on HB0.out hb1;have KZ1 : Hid (Bk Z zbc w1) := KZ0.out.later hb1;have KF1 : Hid (Bk F (fc f) w1) := KF0.out.later hb1;have KR1 : Hid (Bk R (rgc r) w1) := KR0.out.later hb1;have HG1 : Hid (Gl a n w1) := hg.later HB1.out;clear hb1 KZ0 KF0 KR0;have r0 := KR1.out.c 0 rfl;have r1 := KR1.out.c 1 rfl;have r2 := KR1.out.c 2 rfl;have r3 := KR1.out.c 3 rfl;have r4 := KR1.out.c 4 rfl;have r5 := KR1.out.c 5 rfl;have r6 := KR1.out.c 6 rfl;have r7 := KR1.out.c 7 rfl;have r8 := KR1.out.c 8 rfl;have r9 := KR1.out.c 9 rfl;have r10 := KR1.out.c 10 rfl;have r11 := KR1.out.c 11 rfl;have s0 := KF1.out.c 0 rfl;have s1 := KF1.out.c 1 rfl;have s2 := KF1.out.c 2 rfl;have s3 := KF1.out.c 3 rfl;have s4 := KF1.out.c 4 rfl;have s5 := KF1.out.c 5 rfl;have s6 := KF1.out.c 6 rfl;have s7 := KF1.out.c 7 rfl;have s8 := KF1.out.c 8 rfl;have hmk := run_makeMap (P := Tryz.prog) 102 w1;have hR1 : R < w1.heap.size := KR1.out.1;have hF1 : F < w1.heap.size := KF1.out.1;obtain ⟨w2,hw2⟩ : ∃ x,x = (w1.alloc (.map #[] 0)).alloc (bdo r f w1.heap.size) := ⟨_,rfl⟩;have HB2 : Hid (bw w w2) := by show Below _ _ _; rw [hw2]; exact below_on HB1.out (two_new _ _ _)
 have KB2 : Hid (Bk (w1.heap.size + 1) (bdc r f w1.heap.size) w2) := by show Bk _ _ _; rw [hw2]; exact Bk.new (w1.alloc (.map #[] 0)) (bdc r f w1.heap.size) 104 (w1.heap.size + 1) (by simp)
 have KM2 : Hid (TM r.rp w1.heap.size w2) := by show TM _ _ _; rw [hw2]; exact (TM.made r.rp w1).later (one_new _ _)
 have KZ2 : Hid (Bk Z zbc w2) := by show Bk _ _ _; rw [hw2]; exact KZ1.out.later (two_new _ _ _)
 obtain ⟨S,hS⟩ : ∃ b,b = w1.heap.size + 1 := ⟨_,rfl⟩;obtain ⟨M,hM⟩ : ∃ b,b = w1.heap.size := ⟨_,rfl⟩;have hMw : w.heap.size ≤ M := by rw [hM]; exact HB1.out.size
 have hMZ : M ≠ Z := by have := KZ1.out.1; omega
 rw [← hS] at KB2;rw [← hM] at KB2 KM2
 go_wp2_with (refine wpList_store_new rfl 104 _ _ rfl (w1.alloc (.map #[] 0)) (w1.heap.size + 1) _ _ rfl (by simp) rfl rfl info52 rfl (by kernel_rfl) ?_)
 simp only [← hw2,← hS]
 try simp only [← hM]
 clear hmk hS hM hw2 hR1 hF1 r0 r1 r2 r3 r4 r5 r6 r7 r8 r9 r10 r11 s0 s1 s2 s3 s4 s5 s6 s7 s8;refine (HM.out S M _ KB2.out).mono ?_;rintro e w3 ⟨rfl,hb3⟩;have HB3 : Hid (bw w w3) := below_on HB2.out hb3;have KZ3 : Hid (Bk Z zbc w3) := KZ2.out.later hb3;have KB3 : Hid (Bk S (bdc r f M) w3) := KB2.out.later hb3;have KM3 : Hid (TM r.rp M w3) := KM2.out.later hb3;have HG3 : Hid (Gl a n w3) := hg.later HB3.out;clear hb3 hg KB2 KM2 KZ2 KB3 KM3 hMZ hMw
 go_wp2_with fail
 rename_i KK hkk;have HKK := (show Hid _ from hkk);clear hkk
 refine region_all [zf,zf,zf,zf,zf,zt,zf,zf,zf,zf,zf,zf,zf,zf,zf,zf,zf,zf,zt,zt,zf]
  [([],[18],none),([],[19],none),([0],[],none),([1],[5],none)]
  (nb5V a) (fun _ w => Bk Z zbc w) (by kernel_rfl) (by kernel_rfl) (fun W hb => KZ3.out.later hb) ?_ ?_
 ·refine ⟨?_,?_,?_,?_,trivial⟩
  ·intro f w1 hb hJ _ K hK
   simp only [ov,oL,Nat.reduceAdd];go_simp;exact hK _ _ ⟨_,by simp only [ov,oL,Nat.reduceAdd]; rfl,rfl,hb,hJ,fun _ h => h⟩
  ·intro f w1 hb hJ _ K hK
   have g2 : w1.cell? ⟨1,0,none⟩ = some (.iface 387 (.pointer (some (a 2)))) := (HG3.out.later hb).cell 2 (by decide);simp only [ov,oL,Nat.reduceAdd];go_simp;exact hK _ _ ⟨_,by simp only [ov,oL,Nat.reduceAdd]; rfl,rfl,hb,hJ,fun _ h => h⟩
  ·intro f w1 hb hJ ⟨h18,_⟩ K hK
   replace h18 : f 18 = zbv := h18;simp only [ov,oL,Nat.reduceAdd,h18];refine wp_store_mid 104 _ _ rfl Z 0 _ rfl rfl (hJ.there (Nat.le_refl _)) info52 (by kernel_rfl) ?_;rw [show w1.setCells Z 0 (Array.toList _) = w1 from hJ.stays];exact hK _ _ ⟨undef,by simp only [ov,oL,Nat.reduceAdd,h18],trivial,hb,hJ,fun _ h => h⟩
  ·intro f w1 hb hJ ⟨h19,_⟩ K hK
   replace h19 : f 19 = .iface 387 (.pointer (some (a 2))) := h19;simp only [ov,oL,Nat.reduceAdd,h19];go_simp;exact hK _ _ ⟨_,by simp only [ov,oL,Nat.reduceAdd,h19]; rfl,rfl,hb,hJ,fun _ h => h⟩
 ·intro fr w2 hb2 hJ hv
  have h5 : fr 5 = .iface 387 (.pointer (some (a 2))) := hv.2.2.2.1;have HB2 : Hid (bw w w2) := below_on HB3.out hb2;have KZ2 : Hid (Bk Z zbc w2) := hJ;simp only [oeq,oL,h5,Nat.reduceAdd];clear hv h5 hb2 hJ;refine HKK.out _ _ ?_;go_wp2;exact bodyPost_ret (v := .tuple #[zbv,.iface 387 (.pointer (some (a 2)))]) (results_ct Tryz.results42 _ _ _ rfl rfl (load52 KZ2.out rfl)) rfl ⟨rfl,HB2.out⟩
theorem newBoard_c (r : Rg) (f : Fm) (w : World) (hr : rgOk r = true) (hf : fmOk r f = true) :
  Calls Tryz.prog 42 #[rgv r,fv f] w fun e w' => ∃ M,e = .returned (.tuple #[bdv r f M,.nilIface]) ∧ w.heap.size ≤ M ∧ TM r.rp M w' ∧ bw w w' := by
 have HM : Hid (∀ B M W,Bk B (bdc r f M) W → CR 93 #[ptr B] W (.bool true)) := fun B M W hW => by have := mayBe_any B M r f W hW; rwa [hf] at this
 have HR : Hid (∀ W,CR 92 #[rgv r] W (.bool true)) := fun W => by have := isRig_any r W; rwa [hr] at this
 obtain ⟨w0,hw0⟩ : ∃ x,x = ((w.alloc (rgo r)).alloc (fo f)).alloc zbo := ⟨_,rfl⟩;have HB0 : Hid (bw w w0) := by show Below _ _ _; rw [hw0]; exact three_new _ _ _ _
 have KZ0 : Hid (Bk (w.heap.size + 1 + 1) zbc w0) := by show Bk _ _ _; rw [hw0]; exact Bk.new ((w.alloc (rgo r)).alloc (fo f)) zbc 104 (w.heap.size + 1 + 1) (by simp)
 have KF0 : Hid (Bk (w.heap.size + 1) (fc f) w0) := by show Bk _ _ _; rw [hw0]; exact (Bk.new (w.alloc (rgo r)) (fc f) 44 (w.heap.size + 1) (by simp)).later (one_new _ _)
 have KR0 : Hid (Bk w.heap.size (rgc r) w0) := by show Bk _ _ _; rw [hw0]; exact (Bk.new w (rgc r) 35 w.heap.size rfl).later (two_new _ _ _)
 obtain ⟨Z,hZ⟩ : ∃ b,b = w.heap.size + 1 + 1 := ⟨_,rfl⟩;obtain ⟨F,hF⟩ : ∃ b,b = w.heap.size + 1 := ⟨_,rfl⟩;obtain ⟨R,hR⟩ : ∃ b,b = w.heap.size := ⟨_,rfl⟩;rw [← hZ] at KZ0;rw [← hF] at KF0;rw [← hR] at KR0;have hZw : w.heap.size ≤ Z := by omega
 go_enter Tryz.func42,Tryz.ntmps42
 go_wp2_with fail
 simp only [← hw0,← hZ];simp only [← hF];simp only [← hR];clear hZ hF hw0 hR;refine (HR.out _).mono ?_;rintro e w1 ⟨rfl,hb1⟩;have HB1 : Hid (bw w w1) := below_on HB0.out hb1;have KZ1 : Hid (Bk Z zbc w1) := KZ0.out.later hb1;have KF1 : Hid (Bk F (fc f) w1) := KF0.out.later hb1;have KR1 : Hid (Bk R (rgc r) w1) := KR0.out.later hb1;clear hb1 KZ0 KF0 KR0;have r0 := KR1.out.c 0 rfl;have r1 := KR1.out.c 1 rfl;have r2 := KR1.out.c 2 rfl;have r3 := KR1.out.c 3 rfl;have r4 := KR1.out.c 4 rfl;have r5 := KR1.out.c 5 rfl;have r6 := KR1.out.c 6 rfl;have r7 := KR1.out.c 7 rfl;have r8 := KR1.out.c 8 rfl;have r9 := KR1.out.c 9 rfl;have r10 := KR1.out.c 10 rfl;have r11 := KR1.out.c 11 rfl;have s0 := KF1.out.c 0 rfl;have s1 := KF1.out.c 1 rfl;have s2 := KF1.out.c 2 rfl;have s3 := KF1.out.c 3 rfl;have s4 := KF1.out.c 4 rfl;have s5 := KF1.out.c 5 rfl;have s6 := KF1.out.c 6 rfl;have s7 := KF1.out.c 7 rfl;have s8 := KF1.out.c 8 rfl;have hmk := run_makeMap (P := Tryz.prog) 102 w1;have hR1 : R < w1.heap.size := KR1.out.1;have hF1 : F < w1.heap.size := KF1.out.1;obtain ⟨w2,hw2⟩ : ∃ x,x = (w1.alloc (.map #[] 0)).alloc (bdo r f w1.heap.size) := ⟨_,rfl⟩;have HB2 : Hid (bw w w2) := by show Below _ _ _; rw [hw2]; exact below_on HB1.out (two_new _ _ _)
 have KB2 : Hid (Bk (w1.heap.size + 1) (bdc r f w1.heap.size) w2) := by show Bk _ _ _; rw [hw2]; exact Bk.new (w1.alloc (.map #[] 0)) (bdc r f w1.heap.size) 104 (w1.heap.size + 1) (by simp)
 have KM2 : Hid (TM r.rp w1.heap.size w2) := by show TM _ _ _; rw [hw2]; exact (TM.made r.rp w1).later (one_new _ _)
 have KZ2 : Hid (Bk Z zbc w2) := by show Bk _ _ _; rw [hw2]; exact KZ1.out.later (two_new _ _ _)
 obtain ⟨S,hS⟩ : ∃ b,b = w1.heap.size + 1 := ⟨_,rfl⟩;obtain ⟨M,hM⟩ : ∃ b,b = w1.heap.size := ⟨_,rfl⟩;have hMw : w.heap.size ≤ M := by rw [hM]; exact HB1.out.size
 have hMZ : M ≠ Z := by have := KZ1.out.1; omega
 rw [← hS] at KB2;rw [← hM] at KB2 KM2
 go_wp2_with (refine wpList_store_new rfl 104 _ _ rfl (w1.alloc (.map #[] 0)) (w1.heap.size + 1) _ _ rfl (by simp) rfl rfl info52 rfl (by kernel_rfl) ?_)
 simp only [← hw2,← hS]
 try simp only [← hM]
 clear hmk hS hM hw2 hR1 hF1 r0 r1 r2 r3 r4 r5 r6 r7 r8 r9 r10 r11 s0 s1 s2 s3 s4 s5 s6 s7 s8;refine (HM.out S M _ KB2.out).mono ?_;rintro e w3 ⟨rfl,hb3⟩;have HB3 : Hid (bw w w3) := below_on HB2.out hb3;have KZ3 : Hid (Bk Z zbc w3) := KZ2.out.later hb3;have KB3 : Hid (Bk S (bdc r f M) w3) := KB2.out.later hb3;have KM3 : Hid (TM r.rp M w3) := KM2.out.later hb3
 go_wp2_with (first
  | (refine wpList_load_mid rfl 104 _ rfl S 0 rfl (bdc r f M) _ KB3.out.range Tryz.underlying104 rfl info52 ?_)
  | (refine wpList_store_mid rfl 104 _ _ rfl Z 0 (bdc r f M).toArray rfl rfl (KZ3.out.there (Nat.le_refl _)) info52 (by kernel_rfl) ?_))
 have KZ4 : Hid (Bk Z (bdc r f M) (w3.setCells Z 0 (bdc r f M))) := KZ3.out.setAll _ rfl;have HB4 : Hid (bw w (w3.setCells Z 0 (bdc r f M))) := HB3.out.trans (low_setCells hZw _ _ _);have KM4 : Hid (TM r.rp M (w3.setCells Z 0 (bdc r f M))) := KM3.out.same (out_setCells (fun e => hMZ e) _ _ _);exact bodyPost_ret (v := .tuple #[bdv r f M,.nilIface]) (results_ct Tryz.results42 _ _ _ rfl rfl (load52 KZ4.out rfl)) rfl ⟨M,rfl,hMw,KM4.out,HB4.out⟩
theorem Gl.onB {a : Nat → Addr} {n B M : Nat} {w w' : World} (h : Gl a n w) (hk : Kpt (BM B M) w w') (hB : n ≤ B) (hM : n ≤ M) : Gl a n w' := h.kept hk fun k hk => by rcases hk with e | e <;> omega
theorem _root_.Go.Proofs.YtcajifelbldjnaaGreatDoor.Kpt.drew {M : Nat → Prop} {w w' : World} (h : Kpt M w w') : Kpt M w w'.drew := ⟨h.os,h.tape,h.output,h.size,h.block⟩
theorem Bd.drew {B M : Nat} {r : Rg} {f : Fm} {w : World} (h : Bd B M r f w) : Bd B M r f w.drew := h.later ⟨rfl,rfl,rfl,Nat.le_refl _,fun _ _ => rfl⟩
theorem _root_.Go.Proofs.YtcajifelbldjnaaGreatDoor.Bk.drew {b : Nat} {cs : List Value} {w : World} (h : Bk b cs w) : Bk b cs w.drew := h.later ⟨rfl,rfl,rfl,Nat.le_refl _,fun _ _ => rfl⟩
theorem Bd.set3 {B M : Nat} {r : Rg} {f : Fm} {w : World} (h : Bd B M r f w) (p : Pt) : Bd B M r { f with pt := p } (((w.setCell ⟨B,13,none⟩ (.int .i64 p.x)).setCell ⟨B,14,none⟩ (.int .i64 p.y)).setCell ⟨B,15,none⟩ (.int .i64 p.z)) ∧
  Kpt (BM B M) w (((w.setCell ⟨B,13,none⟩ (.int .i64 p.x)).setCell ⟨B,14,none⟩ (.int .i64 p.y)).setCell ⟨B,15,none⟩ (.int .i64 p.z)) := by
 obtain ⟨h1,k1⟩ := h.set 13 (.int .i64 p.x) (f' := { f with pt := ⟨p.x,f.pt.y,f.pt.z⟩ }) rfl;obtain ⟨h2,k2⟩ := h1.set 14 (.int .i64 p.y) (f' := { f with pt := ⟨p.x,p.y,f.pt.z⟩ }) rfl;obtain ⟨h3,k3⟩ := h2.set 15 (.int .i64 p.z) (f' := { f with pt := p }) rfl;exact ⟨h3,(k1.trans k2).trans k3⟩
def gbV (a : Nat → Addr) (B A : Nat) (f : Fm) (p : Pt) (i : Nat) (l : List Value) (w : World) : Prop :=
 match i,l with
 | 0,[v] => v = .pointer (some ⟨B,0,none⟩)
 | 1,[v] => v = .pointer (some ⟨B,0,none⟩)
 | 2,[v] => v = .pointer (some ⟨B,0,none⟩)
 | 3,[v] => v = .pointer (some ⟨B,12,none⟩)
 | 4,[v] => v = .pointer (some ⟨B,13,none⟩)
 | 5,[v] => v = .agg #[.int .i64 f.pt.x,.int .i64 f.pt.y,.int .i64 f.pt.z]
 | 6,[v] => v = .agg #[.int .i64 p.x,.int .i64 p.y,.int .i64 p.z]
 | 7,[v] => v = .tuple #[.int .i64 0,.iface 387 (.pointer (some (a 0)))]
 | 8,[v] => v = .tuple #[.int .i64 0,.iface 387 (.pointer (some (a 0)))]
 | 9,[v] => v = .int .i64 0
 | 10,[v] => v = .iface 387 (.pointer (some (a 0)))
 | 11,[v] => v = .int .i64 0
 | 12,[v] => v = .iface 387 (.pointer (some (a 0)))
 | _,_ => True
def gcV (t : Int) (B A : Nat) (f : Fm) (p : Pt) (i : Nat) (l : List Value) (w : World) : Prop :=
 match i,l with
 | 0,[v] => v = .pointer (some ⟨B,0,none⟩)
 | 1,[v] => v = .pointer (some ⟨B,0,none⟩)
 | 2,[v] => v = .pointer (some ⟨B,0,none⟩)
 | 3,[v] => v = .pointer (some ⟨B,12,none⟩)
 | 4,[v] => v = .pointer (some ⟨B,13,none⟩)
 | 5,[v] => v = .agg #[.int .i64 f.pt.x,.int .i64 f.pt.y,.int .i64 f.pt.z]
 | 6,[v] => v = .agg #[.int .i64 p.x,.int .i64 p.y,.int .i64 p.z]
 | 7,[v] => v = .tuple #[.int .i64 t,.nilIface]
 | 8,[v] => v = .tuple #[.int .i64 t,.nilIface]
 | 9,[v] => v = .int .i64 t
 | 10,[v] => v = .nilIface
 | 11,[v] => v = .int .i64 t
 | 12,[v] => v = .nilIface
 | _,_ => True
theorem goTo_a (a : Nat → Addr) (n B M : Nat) (r : Rg) (f : Fm) (p : Pt) (w : World) (h : Bd B M r f w) (hg : Gl a n w) (hm : f.hm = false) :
  Calls Tryz.prog 148 #[ptr B,v3 p] w fun e w' => e = .returned (.iface 387 (.pointer (some (a 3)))) ∧ Bd B M r f w' ∧ Kpt (BM B M) w w' := by
 have HB0 : Hid (bw w (w.alloc (o3 p 31))) := one_new _ _;have HD : Hid (Bd B M r f (w.alloc (o3 p 31))) := h.later HB0.out;have q12 : w.cell? ⟨B,12,none⟩ = some (.bool false) := by rw [← hm]; exact h.bk.c 12 rfl
 have g3 : w.cell? ⟨2,0,none⟩ = some (.iface 387 (.pointer (some (a 3)))) := hg.cell 3 (by decide);have hB : B < w.heap.size := h.bk.1;have h3 : 2 < w.heap.size := by have := hg.nine; have := hg.size; omega
 clear h hg hm
 go_enter Tryz.func148,Tryz.ntmps148
 go_wp2;go_ret;exact ⟨rfl,HD.out,Kpt.of_below HB0.out⟩
theorem goTo_b (a : Nat → Addr) (n B M : Nat) (r : Rg) (f : Fm) (p : Pt) (w : World) (h : Bd B M r f w) (hg : Gl a n w) (hB : n ≤ B) (hM : n ≤ M) (hm : f.hm = true) (hf : inS r f.pt = true) (hp : inS r p = false) :
  Calls Tryz.prog 148 #[ptr B,v3 p] w fun e w' => e = .returned (.iface 387 (.pointer (some (a 0)))) ∧ Bd B M r f w' ∧ Kpt (BM B M) w w' := by
 have HH := hdd hm;obtain ⟨w0,hw0⟩ : ∃ x,x = w.alloc (o3 p 31) := ⟨_,rfl⟩;have HB0 : Hid (bw w w0) := by show Below _ _ _; rw [hw0]; exact one_new _ _
 have KA0 : Hid (Bk w.heap.size (c3 p) w0) := by show Bk _ _ _; rw [hw0]; exact Bk.new w (c3 p) 31 w.heap.size rfl
 have HD : Hid (Bd B M r f w0) := h.later HB0.out;have q12 : w0.cell? ⟨B,12,none⟩ = some (.bool true) := by rw [← hm]; exact HD.out.bk.c 12 rfl
 have HA0 : Hid (¬ BM B M w.heap.size) := by have := h.bk.1; have := h.tm.lt; intro e; rcases e with e | e <;> omega
 have HN : Hid (∀ W,Bd B M r f W → Kpt (BM B M) w0 W → Calls Tryz.prog 194 #[ptr B,v3 f.pt,v3 p] W fun e w' => e = .returned (.tuple #[.int .i64 0,.iface 387 (.pointer (some (a 0)))]) ∧ Bd B M r f w' ∧ Kpt (BM B M) W w') := fun W hW hk => need_b a n B M r f f.pt p W hW ((hg.later HB0.out).onB hk hB hM) hf hp;obtain ⟨A,hA⟩ : ∃ b,b = w.heap.size := ⟨_,rfl⟩;rw [← hA] at KA0 HA0;have KA : Hid (Bk A (c3 p) w0) := KA0;have HA : Hid (¬ BM B M A) := HA0;have hBw : B < w.heap.size := h.bk.1;have hBA : ¬ B = A := by omega
 clear hm h KA0 HA0
 go_enter Tryz.func148,Tryz.ntmps148
 rw [hw0] at q12
 go_wp2_with fail
 simp only [← hw0,← hA];rename_i KK hkk;have HKK := (show Hid _ from hkk);clear hkk hA hw0 q12 hBw hBA
 refine region_ev [zf,zf,zf,zf,zf,zt,zt,zf,zf,zf,zf,zf,zf,zf,zt,zt,zt,zt,zt,zt,zt,zt,zt,zt,zt,zf,zf,zf,zf,zf,zf,zf,zf,zf,zf,zf]
  [([],[15],none),([],[16],none),([1],[17],none),([2],[18],none),([3],[19],none),([4],[20],none),([],[21],none),([0,5,6],[22],none),([7],[14],none),([8],[23],none),([8],[24],none),([9],[5],none),([10],[6],none)]
  (gbV a B A f p) (fun _ W => Bd B M r f W ∧ Bk A (c3 p) W) (Kpt (BM B M) w0) (by kernel_rfl) (by kernel_rfl) (Kpt.refl _ _).drew ⟨HD.out.drew,KA.out.drew⟩ ?_ ?_
 ·refine ⟨?_,?_,?_,?_,?_,?_,?_,?_,?_,?_,?_,?_,?_,trivial⟩
  ·intro f w1 hb hJ _ K hK
   simp only [ov,oL];go_simp;exact hK _ _ ⟨_,by simp only [ov,oL]; rfl,rfl,hb,hJ,fun _ h => h⟩
  ·intro f w1 hb hJ _ K hK
   simp only [ov,oL];go_simp;exact hK _ _ ⟨_,by simp only [ov,oL]; rfl,rfl,hb,hJ,fun _ h => h⟩
  ·intro f w1 hb hJ ⟨h16,_⟩ K hK
   replace h16 : f 16 = _ := h16;simp only [ov,oL,h16];go_simp;exact hK _ _ ⟨_,by simp only [ov,oL,h16]; rfl,rfl,hb,hJ,fun _ h => h⟩
  ·intro f w1 hb hJ ⟨h17,_⟩ K hK
   replace h17 : f 17 = _ := h17;simp only [ov,oL,h17];go_simp;exact hK _ _ ⟨_,by simp only [ov,oL,h17]; rfl,rfl,hb,hJ,fun _ h => h⟩
  ·intro f w1 hb hJ ⟨h18,_⟩ K hK
   replace h18 : f 18 = _ := h18;simp only [ov,oL,h18];go_simp;exact hK _ _ ⟨_,by simp only [ov,oL,h18]; rfl,rfl,hb,hJ,fun _ h => h⟩
  ·intro f w1 hb hJ ⟨h19,_⟩ K hK
   replace h19 : f 19 = _ := h19;have q13 := hJ.1.bk.c 13 rfl;have q14 := hJ.1.bk.c 14 rfl;have q15 := hJ.1.bk.c 15 rfl;simp only [ov,oL,h19];go_simp;exact hK _ _ ⟨_,by simp only [ov,oL,h19]; rfl,rfl,hb,hJ,fun _ h => h⟩
  ·intro f w1 hb hJ _ K hK
   have q0 := hJ.2.c 0 rfl;have q1 := hJ.2.c 1 rfl;have q2 := hJ.2.c 2 rfl;simp only [ov,oL];go_simp;exact hK _ _ ⟨_,by simp only [ov,oL]; rfl,rfl,hb,hJ,fun _ h => h⟩
  ·intro f w1 hb hJ ⟨h15,h20,h21,_⟩ K hK
   replace h15 : f 15 = _ := h15;replace h20 : f 20 = _ := h20;replace h21 : f 21 = _ := h21;simp only [ov,oL,h15,h20,h21];go_simp;refine Calls.mono (HN.out _ hJ.1 hb) ?_;rintro e w2 ⟨rfl,hd2,hk2⟩;exact hK _ _ ⟨_,by simp only [ov,oL,h15,h20,h21]; rfl,rfl,hb.trans hk2,⟨hd2,bk_kpt hJ.2 hk2 HA.out⟩,fun _ h => h⟩
  ·intro f w1 hb hJ ⟨h22,_⟩ K hK
   replace h22 : f 22 = _ := h22;simp only [ov,oL,h22];go_simp;exact hK _ _ ⟨_,by simp only [ov,oL,h22]; rfl,rfl,hb,hJ,fun _ h => h⟩
  ·intro f w1 hb hJ ⟨h14,_⟩ K hK
   replace h14 : f 14 = _ := h14;simp only [ov,oL,h14];go_simp;exact hK _ _ ⟨_,by simp only [ov,oL,h14]; rfl,rfl,hb,hJ,fun _ h => h⟩
  ·intro f w1 hb hJ ⟨h14,_⟩ K hK
   replace h14 : f 14 = _ := h14;simp only [ov,oL,h14];go_simp;exact hK _ _ ⟨_,by simp only [ov,oL,h14]; rfl,rfl,hb,hJ,fun _ h => h⟩
  ·intro f w1 hb hJ ⟨h23,_⟩ K hK
   replace h23 : f 23 = _ := h23;simp only [ov,oL,h23];go_simp;exact hK _ _ ⟨_,by simp only [ov,oL,h23]; rfl,rfl,hb,hJ,fun _ h => h⟩
  ·intro f w1 hb hJ ⟨h24,_⟩ K hK
   replace h24 : f 24 = _ := h24;simp only [ov,oL,h24];go_simp;exact hK _ _ ⟨_,by simp only [ov,oL,h24]; rfl,rfl,hb,hJ,fun _ h => h⟩
 ·intro fr w1 hk1 hJ hv
  have h6 : fr 6 = .iface 387 (.pointer (some (a 0))) := hv.2.2.2.2.2.2.2.2.2.2.2.2.1;have HD1 : Hid (Bd B M r f w1) := hJ.1;have HK1 : Hid (Kpt (BM B M) w w1) := (Kpt.of_below HB0.out).trans hk1;simp only [oeq,oL,h6,Nat.reduceAdd];clear hv h6 hk1 hJ;refine HKK.out _ _ ?_;go_wp2;go_ret;exact ⟨rfl,HD1.out,HK1.out⟩
theorem goTo_c (B M : Nat) (r : Rg) (f : Fm) (p : Pt) (w : World) (h : Bd B M r f w) (hr : RgOk r) (hm : f.hm = true) (hf : FmOk r f) (hp : inS r p = true) (t : Int) (ht : t = tick r f.pt p) (hl : f.tk + t ≤ 1000000000000000) :
  Calls Tryz.prog 148 #[ptr B,v3 p] w fun e w' => e = .returned .nilIface ∧ Bd B M r { f with pt := p,tk := f.tk + t } w' ∧ Kpt (BM B M) w w' := by
 have HH := hdd hm;obtain ⟨w0,hw0⟩ : ∃ x,x = w.alloc (o3 p 31) := ⟨_,rfl⟩;have HB0 : Hid (bw w w0) := by show Below _ _ _; rw [hw0]; exact one_new _ _
 have KA0 : Hid (Bk w.heap.size (c3 p) w0) := by show Bk _ _ _; rw [hw0]; exact Bk.new w (c3 p) 31 w.heap.size rfl
 have HD : Hid (Bd B M r f w0) := h.later HB0.out;have q12 : w0.cell? ⟨B,12,none⟩ = some (.bool true) := by rw [← hm]; exact HD.out.bk.c 12 rfl
 have HA0 : Hid (¬ BM B M w.heap.size) := by have := h.bk.1; have := h.tm.lt; intro e; rcases e with e | e <;> omega
 have HN : Hid (∀ W,Bd B M r f W → Kpt (BM B M) w0 W → Calls Tryz.prog 194 #[ptr B,v3 f.pt,v3 p] W fun e w' => e = .returned (.tuple #[.int .i64 t,.nilIface]) ∧ Bd B M r f w' ∧ Kpt (BM B M) W w') := fun W hW hk => by rw [ht]; exact need_c B M r f f.pt p W hW hr hf.at' hp
 have HP : Hid (∀ W,Bd B M r { f with pt := p } W → Calls Tryz.prog 152 #[ptr B,.int .i64 t] W fun e w' => e = .returned .nilIface ∧ Bd B M r { f with pt := p,tk := f.tk + t } w' ∧ Kpt (BM B M) W w') := fun W hW => pass_yes B M r { f with pt := p } t W hW hf.tk.1 hf.tk.2 (by rw [ht]; exact (tick_bd hr hf.at' hp).1) hl;clear hl ht hr hf hp;obtain ⟨A,hA⟩ : ∃ b,b = w.heap.size := ⟨_,rfl⟩;rw [← hA] at KA0 HA0;have KA : Hid (Bk A (c3 p) w0) := KA0;have HA : Hid (¬ BM B M A) := HA0;have hBw : B < w.heap.size := h.bk.1;have hBA : ¬ B = A := by omega
 clear hm h KA0 HA0
 go_enter Tryz.func148,Tryz.ntmps148
 rw [hw0] at q12
 go_wp2_with fail
 simp only [← hw0,← hA];rename_i KK hkk;have HKK := (show Hid _ from hkk);clear hkk hA hw0 q12 hBw hBA
 refine region_ev [zf,zf,zf,zf,zf,zt,zt,zf,zf,zf,zf,zf,zf,zf,zt,zt,zt,zt,zt,zt,zt,zt,zt,zt,zt,zf,zf,zf,zf,zf,zf,zf,zf,zf,zf,zf]
  [([],[15],none),([],[16],none),([1],[17],none),([2],[18],none),([3],[19],none),([4],[20],none),([],[21],none),([0,5,6],[22],none),([7],[14],none),([8],[23],none),([8],[24],none),([9],[5],none),([10],[6],none)]
  (gcV t B A f p) (fun _ W => Bd B M r f W ∧ Bk A (c3 p) W) (Kpt (BM B M) w0) (by kernel_rfl) (by kernel_rfl) (Kpt.refl _ _).drew ⟨HD.out.drew,KA.out.drew⟩ ?_ ?_
 ·refine ⟨?_,?_,?_,?_,?_,?_,?_,?_,?_,?_,?_,?_,?_,trivial⟩
  ·intro f w1 hb hJ _ K hK
   simp only [ov,oL];go_simp;exact hK _ _ ⟨_,by simp only [ov,oL]; rfl,rfl,hb,hJ,fun _ h => h⟩
  ·intro f w1 hb hJ _ K hK
   simp only [ov,oL];go_simp;exact hK _ _ ⟨_,by simp only [ov,oL]; rfl,rfl,hb,hJ,fun _ h => h⟩
  ·intro f w1 hb hJ ⟨h16,_⟩ K hK
   replace h16 : f 16 = _ := h16;simp only [ov,oL,h16];go_simp;exact hK _ _ ⟨_,by simp only [ov,oL,h16]; rfl,rfl,hb,hJ,fun _ h => h⟩
  ·intro f w1 hb hJ ⟨h17,_⟩ K hK
   replace h17 : f 17 = _ := h17;simp only [ov,oL,h17];go_simp;exact hK _ _ ⟨_,by simp only [ov,oL,h17]; rfl,rfl,hb,hJ,fun _ h => h⟩
  ·intro f w1 hb hJ ⟨h18,_⟩ K hK
   replace h18 : f 18 = _ := h18;simp only [ov,oL,h18];go_simp;exact hK _ _ ⟨_,by simp only [ov,oL,h18]; rfl,rfl,hb,hJ,fun _ h => h⟩
  ·intro f w1 hb hJ ⟨h19,_⟩ K hK
   replace h19 : f 19 = _ := h19;have q13 := hJ.1.bk.c 13 rfl;have q14 := hJ.1.bk.c 14 rfl;have q15 := hJ.1.bk.c 15 rfl;simp only [ov,oL,h19];go_simp;exact hK _ _ ⟨_,by simp only [ov,oL,h19]; rfl,rfl,hb,hJ,fun _ h => h⟩
  ·intro f w1 hb hJ _ K hK
   have q0 := hJ.2.c 0 rfl;have q1 := hJ.2.c 1 rfl;have q2 := hJ.2.c 2 rfl;simp only [ov,oL];go_simp;exact hK _ _ ⟨_,by simp only [ov,oL]; rfl,rfl,hb,hJ,fun _ h => h⟩
  ·intro f w1 hb hJ ⟨h15,h20,h21,_⟩ K hK
   replace h15 : f 15 = _ := h15;replace h20 : f 20 = _ := h20;replace h21 : f 21 = _ := h21;simp only [ov,oL,h15,h20,h21];go_simp;refine Calls.mono (HN.out _ hJ.1 hb) ?_;rintro e w2 ⟨rfl,hd2,hk2⟩;exact hK _ _ ⟨_,by simp only [ov,oL,h15,h20,h21]; rfl,rfl,hb.trans hk2,⟨hd2,bk_kpt hJ.2 hk2 HA.out⟩,fun _ h => h⟩
  ·intro f w1 hb hJ ⟨h22,_⟩ K hK
   replace h22 : f 22 = _ := h22;simp only [ov,oL,h22];go_simp;exact hK _ _ ⟨_,by simp only [ov,oL,h22]; rfl,rfl,hb,hJ,fun _ h => h⟩
  ·intro f w1 hb hJ ⟨h14,_⟩ K hK
   replace h14 : f 14 = _ := h14;simp only [ov,oL,h14];go_simp;exact hK _ _ ⟨_,by simp only [ov,oL,h14]; rfl,rfl,hb,hJ,fun _ h => h⟩
  ·intro f w1 hb hJ ⟨h14,_⟩ K hK
   replace h14 : f 14 = _ := h14;simp only [ov,oL,h14];go_simp;exact hK _ _ ⟨_,by simp only [ov,oL,h14]; rfl,rfl,hb,hJ,fun _ h => h⟩
  ·intro f w1 hb hJ ⟨h23,_⟩ K hK
   replace h23 : f 23 = _ := h23;simp only [ov,oL,h23];go_simp;exact hK _ _ ⟨_,by simp only [ov,oL,h23]; rfl,rfl,hb,hJ,fun _ h => h⟩
  ·intro f w1 hb hJ ⟨h24,_⟩ K hK
   replace h24 : f 24 = _ := h24;simp only [ov,oL,h24];go_simp;exact hK _ _ ⟨_,by simp only [ov,oL,h24]; rfl,rfl,hb,hJ,fun _ h => h⟩
 ·intro fr w1 hk1 hJ hv
  have h6 : fr 6 = .nilIface := hv.2.2.2.2.2.2.2.2.2.2.2.2.1;have h5 : fr 5 = .int .i64 t := hv.2.2.2.2.2.2.2.2.2.2.2.1;have HD1 : Hid (Bd B M r f w1) := hJ.1;have HK1 : Hid (Kpt (BM B M) w w1) := (Kpt.of_below HB0.out).trans hk1;have a0 := hJ.2.c 0 rfl;have a1 := hJ.2.c 1 rfl;have a2 := hJ.2.c 2 rfl;have b13 := HD1.out.bk.c 13 rfl;have b14 := HD1.out.bk.c 14 rfl;have b15 := HD1.out.bk.c 15 rfl;have z13 := HD1.out.bk.f 13 rfl;have z14 := HD1.out.bk.f 14 rfl;have z15 := HD1.out.bk.f 15 rfl;obtain ⟨w2,hw2⟩ : ∃ x,x = ((w1.setCell ⟨B,13,none⟩ (.int .i64 p.x)).setCell ⟨B,14,none⟩ (.int .i64 p.y)).setCell ⟨B,15,none⟩ (.int .i64 p.z) := ⟨_,rfl⟩;have HD2 : Hid (Bd B M r { f with pt := p } w2) := by show Bd _ _ _ _ _; rw [hw2]; exact (HD1.out.set3 p).1
  have HK2 : Hid (Kpt (BM B M) w w2) := by show Kpt _ _ _; rw [hw2]; exact HK1.out.trans (HD1.out.set3 p).2
  simp only [oeq,oL,h6,h5,Nat.reduceAdd];clear hv h6 h5 hk1 hJ;refine HKK.out _ _ ?_
  go_wp2_with fail
  simp only [← hw2];clear hw2;refine Calls.mono (HP.out _ HD2.out) ?_;rintro e w3 ⟨rfl,hd3,hk3⟩;have HD3 := hdd hd3;have HK3 := hdd (HK2.out.trans hk3);clear hd3 hk3;go_wp2;go_ret;exact ⟨rfl,HD3.out,HK3.out⟩
theorem goTo_d (a : Nat → Addr) (n B M : Nat) (r : Rg) (f : Fm) (p : Pt) (w : World) (h : Bd B M r f w) (hg : Gl a n w) (hB : n ≤ B) (hM : n ≤ M) (hr : RgOk r) (hm : f.hm = true) (hf : FmOk r f) (hp : inS r p = true) (t : Int) (ht : t = tick r f.pt p) (hl : 1000000000000000 < f.tk + t) :
  Calls Tryz.prog 148 #[ptr B,v3 p] w fun e w' => e = .returned (.iface 387 (.pointer (some (a 7)))) ∧ Bd B M r { f with pt := p } w' ∧ Kpt (BM B M) w w' := by
 have HH := hdd hm;obtain ⟨w0,hw0⟩ : ∃ x,x = w.alloc (o3 p 31) := ⟨_,rfl⟩;have HB0 : Hid (bw w w0) := by show Below _ _ _; rw [hw0]; exact one_new _ _
 have KA0 : Hid (Bk w.heap.size (c3 p) w0) := by show Bk _ _ _; rw [hw0]; exact Bk.new w (c3 p) 31 w.heap.size rfl
 have HD : Hid (Bd B M r f w0) := h.later HB0.out;have q12 : w0.cell? ⟨B,12,none⟩ = some (.bool true) := by rw [← hm]; exact HD.out.bk.c 12 rfl
 have HA0 : Hid (¬ BM B M w.heap.size) := by have := h.bk.1; have := h.tm.lt; intro e; rcases e with e | e <;> omega
 have HN : Hid (∀ W,Bd B M r f W → Kpt (BM B M) w0 W → Calls Tryz.prog 194 #[ptr B,v3 f.pt,v3 p] W fun e w' => e = .returned (.tuple #[.int .i64 t,.nilIface]) ∧ Bd B M r f w' ∧ Kpt (BM B M) W w') := fun W hW hk => by rw [ht]; exact need_c B M r f f.pt p W hW hr hf.at' hp
 have HP : Hid (∀ W,Bd B M r { f with pt := p } W → Kpt (BM B M) w W → Calls Tryz.prog 152 #[ptr B,.int .i64 t] W fun e w' => e = .returned (.iface 387 (.pointer (some (a 7)))) ∧ w' = W) := fun W hW hk => pass_no a n B M r { f with pt := p } t W hW (hg.onB hk hB hM) hf.tk.1 hf.tk.2 hl;clear hl ht hr hf hp hg;obtain ⟨A,hA⟩ : ∃ b,b = w.heap.size := ⟨_,rfl⟩;rw [← hA] at KA0 HA0;have KA : Hid (Bk A (c3 p) w0) := KA0;have HA : Hid (¬ BM B M A) := HA0;have hBw : B < w.heap.size := h.bk.1;have hBA : ¬ B = A := by omega
 clear hm h KA0 HA0
 go_enter Tryz.func148,Tryz.ntmps148
 rw [hw0] at q12
 go_wp2_with fail
 simp only [← hw0,← hA];rename_i KK hkk;have HKK := (show Hid _ from hkk);clear hkk hA hw0 q12 hBw hBA
 refine region_ev [zf,zf,zf,zf,zf,zt,zt,zf,zf,zf,zf,zf,zf,zf,zt,zt,zt,zt,zt,zt,zt,zt,zt,zt,zt,zf,zf,zf,zf,zf,zf,zf,zf,zf,zf,zf]
  [([],[15],none),([],[16],none),([1],[17],none),([2],[18],none),([3],[19],none),([4],[20],none),([],[21],none),([0,5,6],[22],none),([7],[14],none),([8],[23],none),([8],[24],none),([9],[5],none),([10],[6],none)]
  (gcV t B A f p) (fun _ W => Bd B M r f W ∧ Bk A (c3 p) W) (Kpt (BM B M) w0) (by kernel_rfl) (by kernel_rfl) (Kpt.refl _ _).drew ⟨HD.out.drew,KA.out.drew⟩ ?_ ?_
 ·refine ⟨?_,?_,?_,?_,?_,?_,?_,?_,?_,?_,?_,?_,?_,trivial⟩
  ·intro f w1 hb hJ _ K hK
   simp only [ov,oL];go_simp;exact hK _ _ ⟨_,by simp only [ov,oL]; rfl,rfl,hb,hJ,fun _ h => h⟩
  ·intro f w1 hb hJ _ K hK
   simp only [ov,oL];go_simp;exact hK _ _ ⟨_,by simp only [ov,oL]; rfl,rfl,hb,hJ,fun _ h => h⟩
  ·intro f w1 hb hJ ⟨h16,_⟩ K hK
   replace h16 : f 16 = _ := h16;simp only [ov,oL,h16];go_simp;exact hK _ _ ⟨_,by simp only [ov,oL,h16]; rfl,rfl,hb,hJ,fun _ h => h⟩
  ·intro f w1 hb hJ ⟨h17,_⟩ K hK
   replace h17 : f 17 = _ := h17;simp only [ov,oL,h17];go_simp;exact hK _ _ ⟨_,by simp only [ov,oL,h17]; rfl,rfl,hb,hJ,fun _ h => h⟩
  ·intro f w1 hb hJ ⟨h18,_⟩ K hK
   replace h18 : f 18 = _ := h18;simp only [ov,oL,h18];go_simp;exact hK _ _ ⟨_,by simp only [ov,oL,h18]; rfl,rfl,hb,hJ,fun _ h => h⟩
  ·intro f w1 hb hJ ⟨h19,_⟩ K hK
   replace h19 : f 19 = _ := h19;have q13 := hJ.1.bk.c 13 rfl;have q14 := hJ.1.bk.c 14 rfl;have q15 := hJ.1.bk.c 15 rfl;simp only [ov,oL,h19];go_simp;exact hK _ _ ⟨_,by simp only [ov,oL,h19]; rfl,rfl,hb,hJ,fun _ h => h⟩
  ·intro f w1 hb hJ _ K hK
   have q0 := hJ.2.c 0 rfl;have q1 := hJ.2.c 1 rfl;have q2 := hJ.2.c 2 rfl;simp only [ov,oL];go_simp;exact hK _ _ ⟨_,by simp only [ov,oL]; rfl,rfl,hb,hJ,fun _ h => h⟩
  ·intro f w1 hb hJ ⟨h15,h20,h21,_⟩ K hK
   replace h15 : f 15 = _ := h15;replace h20 : f 20 = _ := h20;replace h21 : f 21 = _ := h21;simp only [ov,oL,h15,h20,h21];go_simp;refine Calls.mono (HN.out _ hJ.1 hb) ?_;rintro e w2 ⟨rfl,hd2,hk2⟩;exact hK _ _ ⟨_,by simp only [ov,oL,h15,h20,h21]; rfl,rfl,hb.trans hk2,⟨hd2,bk_kpt hJ.2 hk2 HA.out⟩,fun _ h => h⟩
  ·intro f w1 hb hJ ⟨h22,_⟩ K hK
   replace h22 : f 22 = _ := h22;simp only [ov,oL,h22];go_simp;exact hK _ _ ⟨_,by simp only [ov,oL,h22]; rfl,rfl,hb,hJ,fun _ h => h⟩
  ·intro f w1 hb hJ ⟨h14,_⟩ K hK
   replace h14 : f 14 = _ := h14;simp only [ov,oL,h14];go_simp;exact hK _ _ ⟨_,by simp only [ov,oL,h14]; rfl,rfl,hb,hJ,fun _ h => h⟩
  ·intro f w1 hb hJ ⟨h14,_⟩ K hK
   replace h14 : f 14 = _ := h14;simp only [ov,oL,h14];go_simp;exact hK _ _ ⟨_,by simp only [ov,oL,h14]; rfl,rfl,hb,hJ,fun _ h => h⟩
  ·intro f w1 hb hJ ⟨h23,_⟩ K hK
   replace h23 : f 23 = _ := h23;simp only [ov,oL,h23];go_simp;exact hK _ _ ⟨_,by simp only [ov,oL,h23]; rfl,rfl,hb,hJ,fun _ h => h⟩
  ·intro f w1 hb hJ ⟨h24,_⟩ K hK
   replace h24 : f 24 = _ := h24;simp only [ov,oL,h24];go_simp;exact hK _ _ ⟨_,by simp only [ov,oL,h24]; rfl,rfl,hb,hJ,fun _ h => h⟩
 ·intro fr w1 hk1 hJ hv
  have h6 : fr 6 = .nilIface := hv.2.2.2.2.2.2.2.2.2.2.2.2.1;have h5 : fr 5 = .int .i64 t := hv.2.2.2.2.2.2.2.2.2.2.2.1;have HD1 : Hid (Bd B M r f w1) := hJ.1;have HK1 : Hid (Kpt (BM B M) w w1) := (Kpt.of_below HB0.out).trans hk1;have a0 := hJ.2.c 0 rfl;have a1 := hJ.2.c 1 rfl;have a2 := hJ.2.c 2 rfl;have b13 := HD1.out.bk.c 13 rfl;have b14 := HD1.out.bk.c 14 rfl;have b15 := HD1.out.bk.c 15 rfl;have z13 := HD1.out.bk.f 13 rfl;have z14 := HD1.out.bk.f 14 rfl;have z15 := HD1.out.bk.f 15 rfl;obtain ⟨w2,hw2⟩ : ∃ x,x = ((w1.setCell ⟨B,13,none⟩ (.int .i64 p.x)).setCell ⟨B,14,none⟩ (.int .i64 p.y)).setCell ⟨B,15,none⟩ (.int .i64 p.z) := ⟨_,rfl⟩;have HD2 : Hid (Bd B M r { f with pt := p } w2) := by show Bd _ _ _ _ _; rw [hw2]; exact (HD1.out.set3 p).1
  have HK2 : Hid (Kpt (BM B M) w w2) := by show Kpt _ _ _; rw [hw2]; exact HK1.out.trans (HD1.out.set3 p).2
  simp only [oeq,oL,h6,h5,Nat.reduceAdd];clear hv h6 h5 hk1 hJ;refine HKK.out _ _ ?_
  go_wp2_with fail
  simp only [← hw2];clear hw2;refine Calls.mono (HP.out _ HD2.out HK2.out) ?_;rintro e w3 ⟨rfl,hd3⟩;subst hd3;go_wp2;go_ret;exact ⟨rfl,HD2.out,HK2.out⟩
def hoV (B X Y : Nat) (r : Rg) (i : Nat) (l : List Value) (w : World) : Prop :=
 match i,l with
 | 0,[v] => v = .pointer (some ⟨B,0,none⟩)
 | 1,[v] => v = .pointer (some ⟨B,0,none⟩)
 | 2,[v] => v = .pointer (some ⟨B,0,none⟩)
 | 3,[v] => v = .pointer (some ⟨B,3,none⟩)
 | 4,[v] => v = .agg #[.int .i64 r.hi.x,.int .i64 r.hi.y,.int .i64 r.hi.z]
 | 5,[v] => v = .pointer (some ⟨B,0,none⟩)
 | 6,[v] => v = .pointer (some ⟨B,0,none⟩)
 | 7,[v] => v = .pointer (some ⟨B,0,none⟩)
 | 8,[v] => v = .pointer (some ⟨B,0,none⟩)
 | 9,[v] => v = .agg #[.int .i64 r.lo.x,.int .i64 r.lo.y,.int .i64 r.lo.z]
 | 10,[] => Bk X (c3 r.hi) w
 | 11,[] => Bk Y (c3 r.lo) w
 | _,_ => True
theorem ho_x {B X Y : Nat} {r : Rg} {w : World} {u0 u1 u2 : Value} (hXY : X ≠ Y) (KX : Bk X [u0,u1,u2] w) (i : Nat) (l : List Value) (h : hoV B X Y r i l w) : hoV B X Y r i l (P3 w X r.hi) := by
 unfold hoV at h ⊢
 split <;> simp only [] at h <;> first | exact h | exact KX.put3K r.hi | exact Bk.oth3K h (Ne.symm hXY) r.hi
theorem ho_y {B X Y : Nat} {r : Rg} {w : World} {u0 u1 u2 : Value} (hXY : X ≠ Y) (KY : Bk Y [u0,u1,u2] w) (i : Nat) (l : List Value) (h : hoV B X Y r i l w) : hoV B X Y r i l (P3 w Y r.lo) := by
 unfold hoV at h ⊢
 split <;> simp only [] at h <;> first | exact h | exact KY.put3K r.lo | exact Bk.oth3K h hXY r.lo
theorem Bd.oth3K {B M b : Nat} {r : Rg} {f : Fm} {w : World} (h : Bd B M r f w) (h1 : B ≠ b) (h2 : M ≠ b) (p : Pt) : Bd B M r f (P3 w b p) :=
 ⟨h.bk.oth3K h1 p,h.tm.same (((Below.heap_setCell _ _ _ _ h2).trans (Below.heap_setCell _ _ _ _ h2)).trans (Below.heap_setCell _ _ _ _ h2)),h.ne⟩
theorem _root_.Go.Proofs.YtcajifelbldjnaaGreatDoor.Kpt.p3 {S : Nat → Prop} {b : Nat} (hS : S b) (w : World) (p : Pt) : Kpt S w (P3 w b p) :=
 ⟨rfl,rfl,rfl,by simp [World.setCell],fun k _ hk => ((Below.heap_setCell _ _ _ _ (fun e => hk (by rw [e]; exact hS))).trans (Below.heap_setCell _ _ _ _ (fun e => hk (by rw [e]; exact hS)))).trans (Below.heap_setCell _ _ _ _ (fun e => hk (by rw [e]; exact hS)))⟩
def homF (f : Fm) : Fm := { f with hm := true,pt := p0 }
abbrev homW (w : World) (B : Nat) : World := (((w.setCell ⟨B,12,none⟩ (.bool true)).setCell ⟨B,13,none⟩ (.int .i64 0)).setCell ⟨B,14,none⟩ (.int .i64 0)).setCell ⟨B,15,none⟩ (.int .i64 0)
theorem Bd.homed {B M : Nat} {r : Rg} {f : Fm} {w : World} (h : Bd B M r f w) : Bd B M r (homF f) (homW w B) ∧ Kpt (BM B M) w (homW w B) := by
 obtain ⟨h1,k1⟩ := h.set 12 (.bool true) (f' := { f with hm := true }) rfl;obtain ⟨h2,k2⟩ := h1.set3 p0;exact ⟨h2,k1.trans k2⟩
theorem home_ch (B M : Nat) (r : Rg) (f : Fm) (w : World) (h : Bd B M r f w) (hr : RgOk r) (hm : f.hm = true) (hf : FmOk r f) (t : Int) (ht : t = tick r f.pt p0) (hl : f.tk + t ≤ 1000000000000000) :
  Calls Tryz.prog 147 #[ptr B] w fun e w' => e = .returned (.nilIface) ∧ Bd B M r ({ homF f with tk := f.tk + t }) w' ∧ Kpt (BM B M) w w' := by
 have HN : Hid (∀ W,Bd B M r f W → Calls Tryz.prog 194 #[ptr B,v3 f.pt,v3 p0] W fun e w' => e = .returned (.tuple #[.int .i64 t,.nilIface]) ∧ Bd B M r f w' ∧ Kpt (BM B M) W w') := fun W hW => by rw [ht]; exact need_c B M r f f.pt p0 W hW hr hf.at' (in_zero hr)
 have HP : Hid (∀ W,Bd B M r (homF f) W → Calls Tryz.prog 152 #[ptr B,.int .i64 t] W fun e w' => e = .returned .nilIface ∧ Bd B M r { homF f with tk := f.tk + t } w' ∧ Kpt (BM B M) W w') := fun W hW => pass_yes B M r (homF f) t W hW hf.tk.1 hf.tk.2 (by rw [ht]; exact (tick_bd hr hf.at' (in_zero hr)).1) hl;clear hl ht hr hf;obtain ⟨w0,hw0⟩ : ∃ x,x = (w.alloc (o3 f.pt 31)).alloc (o3 p0 31) := ⟨_,rfl⟩;have HB0 : Hid (bw w w0) := by show Below _ _ _; rw [hw0]; exact two_new _ _ _
 have KX0 : Hid (Bk w.heap.size (c3 f.pt) w0) := by show Bk _ _ _; rw [hw0]; exact (Bk.new w (c3 f.pt) 31 w.heap.size rfl).later (one_new _ _)
 have KY0 : Hid (Bk (w.heap.size + 1) (c3 p0) w0) := by show Bk _ _ _; rw [hw0]; exact Bk.new (w.alloc (o3 f.pt 31)) (c3 p0) 31 (w.heap.size + 1) (by simp)
 have HD : Hid (Bd B M r f w0) := h.later HB0.out;have hBw : B < w.heap.size := h.bk.1;have hMw : M < w.heap.size := h.tm.lt;have q12 : w.cell? ⟨B,12,none⟩ = some (.bool true) := by rw [← hm]; exact h.bk.c 12 rfl
 have q13 := h.bk.c 13 rfl;have q14 := h.bk.c 14 rfl;have q15 := h.bk.c 15 rfl;obtain ⟨Y,hY⟩ : ∃ b,b = w.heap.size + 1 := ⟨_,rfl⟩;obtain ⟨X,hX⟩ : ∃ b,b = w.heap.size := ⟨_,rfl⟩;rw [← hY] at KY0;rw [← hX] at KX0;have KX : Hid (Bk X (c3 f.pt) w0) := KX0;have KY : Hid (Bk Y (c3 p0) w0) := KY0;have HX : Hid (B ≠ X ∧ M ≠ X ∧ B ≠ Y ∧ M ≠ Y ∧ X ≠ Y) := by show _ ∧ _; omega
 clear h hm KX0 KY0
 go_enter Tryz.func147,Tryz.ntmps147
 go_wp2_with fail
 simp only [show (w.alloc (o3 f.pt 31)).alloc (.cells #[.int .i64 0,.int .i64 0,.int .i64 0] 31) = w0 from hw0.symm,← hY]
 try simp only [← hX]
 clear hX hY hw0 q12 q13 q14 q15 hBw hMw;refine Calls.mono (HN.out _ HD.out) ?_;rintro e w1 ⟨rfl,hd1,hk1⟩;have HD1 := hdd hd1;have HK1 : Hid (Kpt (BM B M) w w1) := (Kpt.of_below HB0.out).trans hk1;clear hd1 hk1;have b12 := HD1.out.bk.c 12 rfl;have b13 := HD1.out.bk.c 13 rfl;have b14 := HD1.out.bk.c 14 rfl;have b15 := HD1.out.bk.c 15 rfl;have z12 := HD1.out.bk.f 12 rfl;have z13 := HD1.out.bk.f 13 rfl;have z14 := HD1.out.bk.f 14 rfl;have z15 := HD1.out.bk.f 15 rfl;obtain ⟨w2,hw2⟩ : ∃ x,x = homW w1 B := ⟨_,rfl⟩;have HD2 : Hid (Bd B M r (homF f) w2) := by show Bd _ _ _ _ _; rw [hw2]; exact HD1.out.homed.1
 have HK2 : Hid (Kpt (BM B M) w w2) := by show Kpt _ _ _; rw [hw2]; exact HK1.out.trans HD1.out.homed.2
 go_wp2_with fail
 simp only [← hw2];clear hw2;refine Calls.mono (HP.out _ HD2.out) ?_;rintro e w3 ⟨rfl,hd3,hk3⟩;have HD3 := hdd hd3;have HK3 := hdd (HK2.out.trans hk3);clear hd3 hk3;go_wp2;go_ret;exact ⟨rfl,HD3.out,HK3.out⟩
theorem home_cn (B M : Nat) (r : Rg) (f : Fm) (w : World) (h : Bd B M r f w) (hr : RgOk r) (hm : f.hm = false) (hf : FmOk r f) (t : Int) (ht : t = tick r r.hi r.lo) (hl : f.tk + t ≤ 1000000000000000) :
  Calls Tryz.prog 147 #[ptr B] w fun e w' => e = .returned (.nilIface) ∧ Bd B M r ({ homF f with tk := f.tk + t }) w' ∧ Kpt (BM B M) w w' := by
 have HN : Hid (∀ W,Bd B M r f W → Calls Tryz.prog 194 #[ptr B,v3 r.hi,v3 r.lo] W fun e w' => e = .returned (.tuple #[.int .i64 t,.nilIface]) ∧ Bd B M r f w' ∧ Kpt (BM B M) W w') := fun W hW => by rw [ht]; exact need_c B M r f r.hi r.lo W hW hr (in_hi hr) (in_lo hr)
 have HP : Hid (∀ W,Bd B M r (homF f) W → Calls Tryz.prog 152 #[ptr B,.int .i64 t] W fun e w' => e = .returned .nilIface ∧ Bd B M r { homF f with tk := f.tk + t } w' ∧ Kpt (BM B M) W w') := fun W hW => pass_yes B M r (homF f) t W hW hf.tk.1 hf.tk.2 (by rw [ht]; exact (tick_bd hr (in_hi hr) (in_lo hr)).1) hl;clear hl ht hr hf;obtain ⟨w0,hw0⟩ : ∃ x,x = (w.alloc (o3 f.pt 31)).alloc (o3 p0 31) := ⟨_,rfl⟩;have HB0 : Hid (bw w w0) := by show Below _ _ _; rw [hw0]; exact two_new _ _ _
 have KX0 : Hid (Bk w.heap.size (c3 f.pt) w0) := by show Bk _ _ _; rw [hw0]; exact (Bk.new w (c3 f.pt) 31 w.heap.size rfl).later (one_new _ _)
 have KY0 : Hid (Bk (w.heap.size + 1) (c3 p0) w0) := by show Bk _ _ _; rw [hw0]; exact Bk.new (w.alloc (o3 f.pt 31)) (c3 p0) 31 (w.heap.size + 1) (by simp)
 have HD : Hid (Bd B M r f w0) := h.later HB0.out;have hBw : B < w.heap.size := h.bk.1;have hMw : M < w.heap.size := h.tm.lt;have q12 : w.cell? ⟨B,12,none⟩ = some (.bool false) := by rw [← hm]; exact h.bk.c 12 rfl
 have q13 := h.bk.c 13 rfl;have q14 := h.bk.c 14 rfl;have q15 := h.bk.c 15 rfl;obtain ⟨Y,hY⟩ : ∃ b,b = w.heap.size + 1 := ⟨_,rfl⟩;obtain ⟨X,hX⟩ : ∃ b,b = w.heap.size := ⟨_,rfl⟩;rw [← hY] at KY0;rw [← hX] at KX0;have KX : Hid (Bk X (c3 f.pt) w0) := KX0;have KY : Hid (Bk Y (c3 p0) w0) := KY0;have HLOW : Hid (∀ k,k < w.heap.size → ¬ (k = X ∨ k = Y)) := fun k hk e => by omega
 have HX : Hid (B ≠ X ∧ M ≠ X ∧ B ≠ Y ∧ M ≠ Y ∧ X ≠ Y) := by show _ ∧ _; omega
 clear h hm KX0 KY0
 go_enter Tryz.func147,Tryz.ntmps147
 go_wp2_with fail
 rename_i KK hkk;have HKK := (show Hid _ from hkk);clear hkk;simp only [show (w.alloc (o3 f.pt 31)).alloc (.cells #[.int .i64 0,.int .i64 0,.int .i64 0] 31) = w0 from hw0.symm,← hY]
 try simp only [← hX]
 clear hX hY hw0 q12 q13 q14 q15 hBw hMw
 refine region_ev [zf,zf,zf,zf,zf,zf,zf,zf,zf,zf,zf,zf,zf,zf,zf,zf,zf,zf,zf,zt,zt,zt,zt,zt,zt,zt,zt,zt,zt,zf,zf,zf,zf,zf,zf,zf,zf,zf,zf,zf,zf,zf,zf,zf,zf,zf,zf,zf,zf,zf,zf]
  [([],[19],none),([0],[20],none),([1],[21],none),([2],[22],none),([3],[23],none),([],[24],none),([5],[25],none),([6],[26],none),([7],[27],none),([8],[28],none),([4],[],none),([9],[],none)]
  (hoV B X Y r) (fun _ W => Bd B M r f W ∧ (∃ u0 u1 u2,Bk X [u0,u1,u2] W) ∧ ∃ u0 u1 u2,Bk Y [u0,u1,u2] W) (Kpt (fun k => k = X ∨ k = Y) w0) (by kernel_rfl) (by kernel_rfl) (Kpt.refl _ _).drew ⟨HD.out.drew,⟨_,_,_,KX.out.drew⟩,⟨_,_,_,KY.out.drew⟩⟩ ?_ ?_
 ·refine ⟨?_,?_,?_,?_,?_,?_,?_,?_,?_,?_,?_,?_,trivial⟩
  ·intro f w1 hb hJ _ K hK
   simp only [ov,oL];go_simp;exact hK _ _ ⟨_,by simp only [ov,oL]; rfl,rfl,hb,hJ,fun _ h => h⟩
  ·intro f w1 hb hJ ⟨h19,_⟩ K hK
   replace h19 : f 19 = _ := h19;simp only [ov,oL,h19];go_simp;exact hK _ _ ⟨_,by simp only [ov,oL,h19]; rfl,rfl,hb,hJ,fun _ h => h⟩
  ·intro f w1 hb hJ ⟨h20,_⟩ K hK
   replace h20 : f 20 = _ := h20;simp only [ov,oL,h20];go_simp;exact hK _ _ ⟨_,by simp only [ov,oL,h20]; rfl,rfl,hb,hJ,fun _ h => h⟩
  ·intro f w1 hb hJ ⟨h21,_⟩ K hK
   replace h21 : f 21 = _ := h21;simp only [ov,oL,h21];go_simp;exact hK _ _ ⟨_,by simp only [ov,oL,h21]; rfl,rfl,hb,hJ,fun _ h => h⟩
  ·intro f w1 hb hJ ⟨h22,_⟩ K hK
   replace h22 : f 22 = _ := h22;have q3 := hJ.1.bk.c 3 rfl;have q4 := hJ.1.bk.c 4 rfl;have q5 := hJ.1.bk.c 5 rfl;simp only [ov,oL,h22];go_simp;exact hK _ _ ⟨_,by simp only [ov,oL,h22]; rfl,rfl,hb,hJ,fun _ h => h⟩
  ·intro f w1 hb hJ _ K hK
   simp only [ov,oL];go_simp;exact hK _ _ ⟨_,by simp only [ov,oL]; rfl,rfl,hb,hJ,fun _ h => h⟩
  ·intro f w1 hb hJ ⟨h24,_⟩ K hK
   replace h24 : f 24 = _ := h24;simp only [ov,oL,h24];go_simp;exact hK _ _ ⟨_,by simp only [ov,oL,h24]; rfl,rfl,hb,hJ,fun _ h => h⟩
  ·intro f w1 hb hJ ⟨h25,_⟩ K hK
   replace h25 : f 25 = _ := h25;simp only [ov,oL,h25];go_simp;exact hK _ _ ⟨_,by simp only [ov,oL,h25]; rfl,rfl,hb,hJ,fun _ h => h⟩
  ·intro f w1 hb hJ ⟨h26,_⟩ K hK
   replace h26 : f 26 = _ := h26;simp only [ov,oL,h26];go_simp;exact hK _ _ ⟨_,by simp only [ov,oL,h26]; rfl,rfl,hb,hJ,fun _ h => h⟩
  ·intro f w1 hb hJ ⟨h27,_⟩ K hK
   replace h27 : f 27 = _ := h27;have q0 := hJ.1.bk.c 0 rfl;have q1 := hJ.1.bk.c 1 rfl;have q2 := hJ.1.bk.c 2 rfl;simp only [ov,oL,h27];go_simp;exact hK _ _ ⟨_,by simp only [ov,oL,h27]; rfl,rfl,hb,hJ,fun _ h => h⟩
  ·intro f w1 hb hJ ⟨h23,_⟩ K hK
   replace h23 : f 23 = _ := h23;obtain ⟨hD,⟨u0,u1,u2,KX⟩,KY⟩ := hJ;have x0 := KX.c 0 rfl;have x1 := KX.c 1 rfl;have x2 := KX.c 2 rfl;have y0 := KX.f 0 rfl;have y1 := KX.f 1 rfl;have y2 := KX.f 2 rfl;simp only [ov,oL,h23];go_simp;refine hK _ _ ⟨undef,by simp only [ov,oL,h23]; rfl,KX.put3K r.hi,hb.trans (Kpt.p3 (.inl rfl) _ _),⟨hD.oth3K HX.out.1 HX.out.2.1 _,⟨_,_,_,KX.put3K r.hi⟩,?_⟩,fun j h => ho_x HX.out.2.2.2.2 KX j _ h⟩;obtain ⟨v0,v1,v2,KY⟩ := KY;exact ⟨_,_,_,KY.oth3K (Ne.symm HX.out.2.2.2.2) _⟩
  ·intro f w1 hb hJ ⟨h28,_⟩ K hK
   replace h28 : f 28 = _ := h28;obtain ⟨hD,KX,⟨u0,u1,u2,KY⟩⟩ := hJ;have x0 := KY.c 0 rfl;have x1 := KY.c 1 rfl;have x2 := KY.c 2 rfl;have y0 := KY.f 0 rfl;have y1 := KY.f 1 rfl;have y2 := KY.f 2 rfl;simp only [ov,oL,h28];go_simp;refine hK _ _ ⟨undef,by simp only [ov,oL,h28]; rfl,KY.put3K r.lo,hb.trans (Kpt.p3 (.inr rfl) _ _),⟨hD.oth3K HX.out.2.2.1 HX.out.2.2.2.1 _,?_,⟨_,_,_,KY.put3K r.lo⟩⟩,fun j h => ho_y HX.out.2.2.2.2 KY j _ h⟩;obtain ⟨v0,v1,v2,KX⟩ := KX;exact ⟨_,_,_,KX.oth3K HX.out.2.2.2.2 _⟩
 ·intro fr w9 hk9 hJ hv
  have HD9 : Hid (Bd B M r f w9) := hJ.1;have HK9 : Hid (Kpt (BM B M) w w9) := ⟨hk9.os.trans HB0.out.os,hk9.tape.trans HB0.out.tape,hk9.output.trans HB0.out.output,Nat.le_trans HB0.out.size hk9.size,fun k hk _ => (hk9.block k (Nat.lt_of_lt_of_le hk HB0.out.size) (HLOW.out k hk)).trans (HB0.out.block k hk)⟩;have hx : Bk X (c3 r.hi) w9 := hv.2.2.2.2.2.2.2.2.2.2.1;have hy : Bk Y (c3 r.lo) w9 := hv.2.2.2.2.2.2.2.2.2.2.2.1;have x0 := hx.c 0 rfl;have x1 := hx.c 1 rfl;have x2 := hx.c 2 rfl;have y0 := hy.c 0 rfl;have y1 := hy.c 1 rfl;have y2 := hy.c 2 rfl;simp only [oeq,oL,Nat.reduceAdd];clear hv hk9 hJ hx hy;refine HKK.out _ _ ?_;clear HKK
  go_wp2_with fail
  refine Calls.mono (HN.out _ HD9.out) ?_;rintro e w1 ⟨rfl,hd1,hk1⟩;have HD1 := hdd hd1;have HK1 := hdd (HK9.out.trans hk1);clear hd1 hk1;have b12 := HD1.out.bk.c 12 rfl;have b13 := HD1.out.bk.c 13 rfl;have b14 := HD1.out.bk.c 14 rfl;have b15 := HD1.out.bk.c 15 rfl;have z12 := HD1.out.bk.f 12 rfl;have z13 := HD1.out.bk.f 13 rfl;have z14 := HD1.out.bk.f 14 rfl;have z15 := HD1.out.bk.f 15 rfl;obtain ⟨w2,hw2⟩ : ∃ x,x = homW w1 B := ⟨_,rfl⟩;have HD2 : Hid (Bd B M r (homF f) w2) := by show Bd _ _ _ _ _; rw [hw2]; exact HD1.out.homed.1
  have HK2 : Hid (Kpt (BM B M) w w2) := by show Kpt _ _ _; rw [hw2]; exact HK1.out.trans HD1.out.homed.2
  go_wp2_with fail
  simp only [← hw2];clear hw2;refine Calls.mono (HP.out _ HD2.out) ?_;rintro e w3 ⟨rfl,hd3,hk3⟩;have HD3 := hdd hd3;have HK3 := hdd (HK2.out.trans hk3);clear hd3 hk3;go_wp2;go_ret;exact ⟨rfl,HD3.out,HK3.out⟩
theorem home_dh (a : Nat → Addr) (n : Nat) (B M : Nat) (r : Rg) (f : Fm) (w : World) (h : Bd B M r f w) (hg : Gl a n w) (hB : n ≤ B) (hM : n ≤ M) (hr : RgOk r) (hm : f.hm = true) (hf : FmOk r f) (t : Int) (ht : t = tick r f.pt p0) (hl : 1000000000000000 < f.tk + t) :
  Calls Tryz.prog 147 #[ptr B] w fun e w' => e = .returned (.iface 387 (.pointer (some (a 7)))) ∧ Bd B M r (homF f) w' ∧ Kpt (BM B M) w w' := by
 have HN : Hid (∀ W,Bd B M r f W → Calls Tryz.prog 194 #[ptr B,v3 f.pt,v3 p0] W fun e w' => e = .returned (.tuple #[.int .i64 t,.nilIface]) ∧ Bd B M r f w' ∧ Kpt (BM B M) W w') := fun W hW => by rw [ht]; exact need_c B M r f f.pt p0 W hW hr hf.at' (in_zero hr)
 have HP : Hid (∀ W,Bd B M r (homF f) W → Kpt (BM B M) w W → Calls Tryz.prog 152 #[ptr B,.int .i64 t] W fun e w' => e = .returned (.iface 387 (.pointer (some (a 7)))) ∧ w' = W) := fun W hW hk => pass_no a n B M r (homF f) t W hW (hg.onB hk hB hM) hf.tk.1 hf.tk.2 hl;clear hl ht hr hf hg;obtain ⟨w0,hw0⟩ : ∃ x,x = (w.alloc (o3 f.pt 31)).alloc (o3 p0 31) := ⟨_,rfl⟩;have HB0 : Hid (bw w w0) := by show Below _ _ _; rw [hw0]; exact two_new _ _ _
 have KX0 : Hid (Bk w.heap.size (c3 f.pt) w0) := by show Bk _ _ _; rw [hw0]; exact (Bk.new w (c3 f.pt) 31 w.heap.size rfl).later (one_new _ _)
 have KY0 : Hid (Bk (w.heap.size + 1) (c3 p0) w0) := by show Bk _ _ _; rw [hw0]; exact Bk.new (w.alloc (o3 f.pt 31)) (c3 p0) 31 (w.heap.size + 1) (by simp)
 have HD : Hid (Bd B M r f w0) := h.later HB0.out;have hBw : B < w.heap.size := h.bk.1;have hMw : M < w.heap.size := h.tm.lt;have q12 : w.cell? ⟨B,12,none⟩ = some (.bool true) := by rw [← hm]; exact h.bk.c 12 rfl
 have q13 := h.bk.c 13 rfl;have q14 := h.bk.c 14 rfl;have q15 := h.bk.c 15 rfl;obtain ⟨Y,hY⟩ : ∃ b,b = w.heap.size + 1 := ⟨_,rfl⟩;obtain ⟨X,hX⟩ : ∃ b,b = w.heap.size := ⟨_,rfl⟩;rw [← hY] at KY0;rw [← hX] at KX0;have KX : Hid (Bk X (c3 f.pt) w0) := KX0;have KY : Hid (Bk Y (c3 p0) w0) := KY0;have HX : Hid (B ≠ X ∧ M ≠ X ∧ B ≠ Y ∧ M ≠ Y ∧ X ≠ Y) := by show _ ∧ _; omega
 clear h hm KX0 KY0
 go_enter Tryz.func147,Tryz.ntmps147
 go_wp2_with fail
 simp only [show (w.alloc (o3 f.pt 31)).alloc (.cells #[.int .i64 0,.int .i64 0,.int .i64 0] 31) = w0 from hw0.symm,← hY]
 try simp only [← hX]
 clear hX hY hw0 q12 q13 q14 q15 hBw hMw;refine Calls.mono (HN.out _ HD.out) ?_;rintro e w1 ⟨rfl,hd1,hk1⟩;have HD1 := hdd hd1;have HK1 : Hid (Kpt (BM B M) w w1) := (Kpt.of_below HB0.out).trans hk1;clear hd1 hk1;have b12 := HD1.out.bk.c 12 rfl;have b13 := HD1.out.bk.c 13 rfl;have b14 := HD1.out.bk.c 14 rfl;have b15 := HD1.out.bk.c 15 rfl;have z12 := HD1.out.bk.f 12 rfl;have z13 := HD1.out.bk.f 13 rfl;have z14 := HD1.out.bk.f 14 rfl;have z15 := HD1.out.bk.f 15 rfl;obtain ⟨w2,hw2⟩ : ∃ x,x = homW w1 B := ⟨_,rfl⟩;have HD2 : Hid (Bd B M r (homF f) w2) := by show Bd _ _ _ _ _; rw [hw2]; exact HD1.out.homed.1
 have HK2 : Hid (Kpt (BM B M) w w2) := by show Kpt _ _ _; rw [hw2]; exact HK1.out.trans HD1.out.homed.2
 go_wp2_with fail
 simp only [← hw2];clear hw2;refine Calls.mono (HP.out _ HD2.out HK2.out) ?_;rintro e w3 ⟨rfl,hd3⟩;subst hd3;go_wp2;go_ret;exact ⟨rfl,HD2.out,HK2.out⟩
theorem home_dn (a : Nat → Addr) (n : Nat) (B M : Nat) (r : Rg) (f : Fm) (w : World) (h : Bd B M r f w) (hg : Gl a n w) (hB : n ≤ B) (hM : n ≤ M) (hr : RgOk r) (hm : f.hm = false) (hf : FmOk r f) (t : Int) (ht : t = tick r r.hi r.lo) (hl : 1000000000000000 < f.tk + t) :
  Calls Tryz.prog 147 #[ptr B] w fun e w' => e = .returned (.iface 387 (.pointer (some (a 7)))) ∧ Bd B M r (homF f) w' ∧ Kpt (BM B M) w w' := by
 have HN : Hid (∀ W,Bd B M r f W → Calls Tryz.prog 194 #[ptr B,v3 r.hi,v3 r.lo] W fun e w' => e = .returned (.tuple #[.int .i64 t,.nilIface]) ∧ Bd B M r f w' ∧ Kpt (BM B M) W w') := fun W hW => by rw [ht]; exact need_c B M r f r.hi r.lo W hW hr (in_hi hr) (in_lo hr)
 have HP : Hid (∀ W,Bd B M r (homF f) W → Kpt (BM B M) w W → Calls Tryz.prog 152 #[ptr B,.int .i64 t] W fun e w' => e = .returned (.iface 387 (.pointer (some (a 7)))) ∧ w' = W) := fun W hW hk => pass_no a n B M r (homF f) t W hW (hg.onB hk hB hM) hf.tk.1 hf.tk.2 hl;clear hl ht hr hf hg;obtain ⟨w0,hw0⟩ : ∃ x,x = (w.alloc (o3 f.pt 31)).alloc (o3 p0 31) := ⟨_,rfl⟩;have HB0 : Hid (bw w w0) := by show Below _ _ _; rw [hw0]; exact two_new _ _ _
 have KX0 : Hid (Bk w.heap.size (c3 f.pt) w0) := by show Bk _ _ _; rw [hw0]; exact (Bk.new w (c3 f.pt) 31 w.heap.size rfl).later (one_new _ _)
 have KY0 : Hid (Bk (w.heap.size + 1) (c3 p0) w0) := by show Bk _ _ _; rw [hw0]; exact Bk.new (w.alloc (o3 f.pt 31)) (c3 p0) 31 (w.heap.size + 1) (by simp)
 have HD : Hid (Bd B M r f w0) := h.later HB0.out;have hBw : B < w.heap.size := h.bk.1;have hMw : M < w.heap.size := h.tm.lt;have q12 : w.cell? ⟨B,12,none⟩ = some (.bool false) := by rw [← hm]; exact h.bk.c 12 rfl
 have q13 := h.bk.c 13 rfl;have q14 := h.bk.c 14 rfl;have q15 := h.bk.c 15 rfl;obtain ⟨Y,hY⟩ : ∃ b,b = w.heap.size + 1 := ⟨_,rfl⟩;obtain ⟨X,hX⟩ : ∃ b,b = w.heap.size := ⟨_,rfl⟩;rw [← hY] at KY0;rw [← hX] at KX0;have KX : Hid (Bk X (c3 f.pt) w0) := KX0;have KY : Hid (Bk Y (c3 p0) w0) := KY0;have HLOW : Hid (∀ k,k < w.heap.size → ¬ (k = X ∨ k = Y)) := fun k hk e => by omega
 have HX : Hid (B ≠ X ∧ M ≠ X ∧ B ≠ Y ∧ M ≠ Y ∧ X ≠ Y) := by show _ ∧ _; omega
 clear h hm KX0 KY0
 go_enter Tryz.func147,Tryz.ntmps147
 go_wp2_with fail
 rename_i KK hkk;have HKK := (show Hid _ from hkk);clear hkk;simp only [show (w.alloc (o3 f.pt 31)).alloc (.cells #[.int .i64 0,.int .i64 0,.int .i64 0] 31) = w0 from hw0.symm,← hY]
 try simp only [← hX]
 clear hX hY hw0 q12 q13 q14 q15 hBw hMw
 refine region_ev [zf,zf,zf,zf,zf,zf,zf,zf,zf,zf,zf,zf,zf,zf,zf,zf,zf,zf,zf,zt,zt,zt,zt,zt,zt,zt,zt,zt,zt,zf,zf,zf,zf,zf,zf,zf,zf,zf,zf,zf,zf,zf,zf,zf,zf,zf,zf,zf,zf,zf,zf]
  [([],[19],none),([0],[20],none),([1],[21],none),([2],[22],none),([3],[23],none),([],[24],none),([5],[25],none),([6],[26],none),([7],[27],none),([8],[28],none),([4],[],none),([9],[],none)]
  (hoV B X Y r) (fun _ W => Bd B M r f W ∧ (∃ u0 u1 u2,Bk X [u0,u1,u2] W) ∧ ∃ u0 u1 u2,Bk Y [u0,u1,u2] W) (Kpt (fun k => k = X ∨ k = Y) w0) (by kernel_rfl) (by kernel_rfl) (Kpt.refl _ _).drew ⟨HD.out.drew,⟨_,_,_,KX.out.drew⟩,⟨_,_,_,KY.out.drew⟩⟩ ?_ ?_
 ·refine ⟨?_,?_,?_,?_,?_,?_,?_,?_,?_,?_,?_,?_,trivial⟩
  ·intro f w1 hb hJ _ K hK
   simp only [ov,oL];go_simp;exact hK _ _ ⟨_,by simp only [ov,oL]; rfl,rfl,hb,hJ,fun _ h => h⟩
  ·intro f w1 hb hJ ⟨h19,_⟩ K hK
   replace h19 : f 19 = _ := h19;simp only [ov,oL,h19];go_simp;exact hK _ _ ⟨_,by simp only [ov,oL,h19]; rfl,rfl,hb,hJ,fun _ h => h⟩
  ·intro f w1 hb hJ ⟨h20,_⟩ K hK
   replace h20 : f 20 = _ := h20;simp only [ov,oL,h20];go_simp;exact hK _ _ ⟨_,by simp only [ov,oL,h20]; rfl,rfl,hb,hJ,fun _ h => h⟩
  ·intro f w1 hb hJ ⟨h21,_⟩ K hK
   replace h21 : f 21 = _ := h21;simp only [ov,oL,h21];go_simp;exact hK _ _ ⟨_,by simp only [ov,oL,h21]; rfl,rfl,hb,hJ,fun _ h => h⟩
  ·intro f w1 hb hJ ⟨h22,_⟩ K hK
   replace h22 : f 22 = _ := h22;have q3 := hJ.1.bk.c 3 rfl;have q4 := hJ.1.bk.c 4 rfl;have q5 := hJ.1.bk.c 5 rfl;simp only [ov,oL,h22];go_simp;exact hK _ _ ⟨_,by simp only [ov,oL,h22]; rfl,rfl,hb,hJ,fun _ h => h⟩
  ·intro f w1 hb hJ _ K hK
   simp only [ov,oL];go_simp;exact hK _ _ ⟨_,by simp only [ov,oL]; rfl,rfl,hb,hJ,fun _ h => h⟩
  ·intro f w1 hb hJ ⟨h24,_⟩ K hK
   replace h24 : f 24 = _ := h24;simp only [ov,oL,h24];go_simp;exact hK _ _ ⟨_,by simp only [ov,oL,h24]; rfl,rfl,hb,hJ,fun _ h => h⟩
  ·intro f w1 hb hJ ⟨h25,_⟩ K hK
   replace h25 : f 25 = _ := h25;simp only [ov,oL,h25];go_simp;exact hK _ _ ⟨_,by simp only [ov,oL,h25]; rfl,rfl,hb,hJ,fun _ h => h⟩
  ·intro f w1 hb hJ ⟨h26,_⟩ K hK
   replace h26 : f 26 = _ := h26;simp only [ov,oL,h26];go_simp;exact hK _ _ ⟨_,by simp only [ov,oL,h26]; rfl,rfl,hb,hJ,fun _ h => h⟩
  ·intro f w1 hb hJ ⟨h27,_⟩ K hK
   replace h27 : f 27 = _ := h27;have q0 := hJ.1.bk.c 0 rfl;have q1 := hJ.1.bk.c 1 rfl;have q2 := hJ.1.bk.c 2 rfl;simp only [ov,oL,h27];go_simp;exact hK _ _ ⟨_,by simp only [ov,oL,h27]; rfl,rfl,hb,hJ,fun _ h => h⟩
  ·intro f w1 hb hJ ⟨h23,_⟩ K hK
   replace h23 : f 23 = _ := h23;obtain ⟨hD,⟨u0,u1,u2,KX⟩,KY⟩ := hJ;have x0 := KX.c 0 rfl;have x1 := KX.c 1 rfl;have x2 := KX.c 2 rfl;have y0 := KX.f 0 rfl;have y1 := KX.f 1 rfl;have y2 := KX.f 2 rfl;simp only [ov,oL,h23];go_simp;refine hK _ _ ⟨undef,by simp only [ov,oL,h23]; rfl,KX.put3K r.hi,hb.trans (Kpt.p3 (.inl rfl) _ _),⟨hD.oth3K HX.out.1 HX.out.2.1 _,⟨_,_,_,KX.put3K r.hi⟩,?_⟩,fun j h => ho_x HX.out.2.2.2.2 KX j _ h⟩;obtain ⟨v0,v1,v2,KY⟩ := KY;exact ⟨_,_,_,KY.oth3K (Ne.symm HX.out.2.2.2.2) _⟩
  ·intro f w1 hb hJ ⟨h28,_⟩ K hK
   replace h28 : f 28 = _ := h28;obtain ⟨hD,KX,⟨u0,u1,u2,KY⟩⟩ := hJ;have x0 := KY.c 0 rfl;have x1 := KY.c 1 rfl;have x2 := KY.c 2 rfl;have y0 := KY.f 0 rfl;have y1 := KY.f 1 rfl;have y2 := KY.f 2 rfl;simp only [ov,oL,h28];go_simp;refine hK _ _ ⟨undef,by simp only [ov,oL,h28]; rfl,KY.put3K r.lo,hb.trans (Kpt.p3 (.inr rfl) _ _),⟨hD.oth3K HX.out.2.2.1 HX.out.2.2.2.1 _,?_,⟨_,_,_,KY.put3K r.lo⟩⟩,fun j h => ho_y HX.out.2.2.2.2 KY j _ h⟩;obtain ⟨v0,v1,v2,KX⟩ := KX;exact ⟨_,_,_,KX.oth3K HX.out.2.2.2.2 _⟩
 ·intro fr w9 hk9 hJ hv
  have HD9 : Hid (Bd B M r f w9) := hJ.1;have HK9 : Hid (Kpt (BM B M) w w9) := ⟨hk9.os.trans HB0.out.os,hk9.tape.trans HB0.out.tape,hk9.output.trans HB0.out.output,Nat.le_trans HB0.out.size hk9.size,fun k hk _ => (hk9.block k (Nat.lt_of_lt_of_le hk HB0.out.size) (HLOW.out k hk)).trans (HB0.out.block k hk)⟩;have hx : Bk X (c3 r.hi) w9 := hv.2.2.2.2.2.2.2.2.2.2.1;have hy : Bk Y (c3 r.lo) w9 := hv.2.2.2.2.2.2.2.2.2.2.2.1;have x0 := hx.c 0 rfl;have x1 := hx.c 1 rfl;have x2 := hx.c 2 rfl;have y0 := hy.c 0 rfl;have y1 := hy.c 1 rfl;have y2 := hy.c 2 rfl;simp only [oeq,oL,Nat.reduceAdd];clear hv hk9 hJ hx hy;refine HKK.out _ _ ?_;clear HKK
  go_wp2_with fail
  refine Calls.mono (HN.out _ HD9.out) ?_;rintro e w1 ⟨rfl,hd1,hk1⟩;have HD1 := hdd hd1;have HK1 := hdd (HK9.out.trans hk1);clear hd1 hk1;have b12 := HD1.out.bk.c 12 rfl;have b13 := HD1.out.bk.c 13 rfl;have b14 := HD1.out.bk.c 14 rfl;have b15 := HD1.out.bk.c 15 rfl;have z12 := HD1.out.bk.f 12 rfl;have z13 := HD1.out.bk.f 13 rfl;have z14 := HD1.out.bk.f 14 rfl;have z15 := HD1.out.bk.f 15 rfl;obtain ⟨w2,hw2⟩ : ∃ x,x = homW w1 B := ⟨_,rfl⟩;have HD2 : Hid (Bd B M r (homF f) w2) := by show Bd _ _ _ _ _; rw [hw2]; exact HD1.out.homed.1
  have HK2 : Hid (Kpt (BM B M) w w2) := by show Kpt _ _ _; rw [hw2]; exact HK1.out.trans HD1.out.homed.2
  go_wp2_with fail
  simp only [← hw2];clear hw2;refine Calls.mono (HP.out _ HD2.out HK2.out) ?_;rintro e w3 ⟨rfl,hd3⟩;subst hd3;go_wp2;go_ret;exact ⟨rfl,HD2.out,HK2.out⟩
theorem grab_a (a : Nat → Addr) (n B M : Nat) (r : Rg) (f : Fm) (w : World) (h : Bd B M r f w) (hg : Gl a n w) (hm : f.hm = false) :
  Calls Tryz.prog 150 #[ptr B] w fun e w' => e = .returned (.iface 387 (.pointer (some (a 3)))) ∧ w' = w := by
 have q12 : w.cell? ⟨B,12,none⟩ = some (.bool false) := by rw [← hm]; exact h.bk.c 12 rfl
 clear hm;have g3 : w.cell? ⟨2,0,none⟩ = some (.iface 387 (.pointer (some (a 3)))) := hg.cell 3 (by decide);clear h hg
 go_enter Tryz.func150,Tryz.ntmps150
 go_wp2;go_ret;exact ⟨rfl,rfl⟩
theorem grab_b (a : Nat → Addr) (n B M : Nat) (r : Rg) (f : Fm) (w : World) (h : Bd B M r f w) (hg : Gl a n w) (hm : f.hm = true) (ht : f.tp = true) :
  Calls Tryz.prog 150 #[ptr B] w fun e w' => e = .returned (.iface 387 (.pointer (some (a 5)))) ∧ w' = w := by
 have q12 : w.cell? ⟨B,12,none⟩ = some (.bool true) := by rw [← hm]; exact h.bk.c 12 rfl
 clear hm;have q17 : w.cell? ⟨B,17,none⟩ = some (.bool true) := by rw [← ht]; exact h.bk.c 17 rfl
 clear ht;have g5 : w.cell? ⟨5,0,none⟩ = some (.iface 387 (.pointer (some (a 5)))) := hg.cell 5 (by decide);clear h hg
 go_enter Tryz.func150,Tryz.ntmps150
 go_wp2;go_ret;exact ⟨rfl,rfl⟩
theorem grab_c (B M : Nat) (r : Rg) (f : Fm) (w : World) (h : Bd B M r f w) (hm : f.hm = true) (ht : f.tp = false) :
  Calls Tryz.prog 150 #[ptr B] w fun e w' => e = .returned .nilIface ∧ Bd B M r { f with tp := true,pl := 0 } w' ∧ Kpt (BM B M) w w' := by
 have q12 : w.cell? ⟨B,12,none⟩ = some (.bool true) := by rw [← hm]; exact h.bk.c 12 rfl
 clear hm;have q17 : w.cell? ⟨B,17,none⟩ = some (.bool false) := by rw [← ht]; exact h.bk.c 17 rfl
 clear ht;have q16 := h.bk.c 16 rfl;have z16 := h.bk.f 16 rfl;have z17 := h.bk.f 17 rfl;obtain ⟨h1,k1⟩ := h.set 17 (.bool true) (f' := { f with tp := true }) rfl;obtain ⟨h2,k2⟩ := h1.set 16 (.int .i64 0) (f' := { f with tp := true,pl := 0 }) rfl;have HS := (show Hid (Bd B M r { f with tp := true,pl := 0 } _ ∧ Kpt (BM B M) w _) from ⟨h2,k1.trans k2⟩);clear h h1 h2 k1 k2
 go_enter Tryz.func150,Tryz.ntmps150
 go_wp2;go_ret;exact ⟨rfl,HS.out⟩
theorem eject_a (a : Nat → Addr) (n B M : Nat) (r : Rg) (f : Fm) (w : World) (h : Bd B M r f w) (hg : Gl a n w) (hm : f.hm = false) :
  Calls Tryz.prog 151 #[ptr B] w fun e w' => e = .returned (.iface 387 (.pointer (some (a 3)))) ∧ w' = w := by
 have q12 : w.cell? ⟨B,12,none⟩ = some (.bool false) := by rw [← hm]; exact h.bk.c 12 rfl
 clear hm;have g3 : w.cell? ⟨2,0,none⟩ = some (.iface 387 (.pointer (some (a 3)))) := hg.cell 3 (by decide);clear h hg
 go_enter Tryz.func151,Tryz.ntmps151
 go_wp2;go_ret;exact ⟨rfl,rfl⟩
theorem eject_b (a : Nat → Addr) (n B M : Nat) (r : Rg) (f : Fm) (w : World) (h : Bd B M r f w) (hg : Gl a n w) (hm : f.hm = true) (ht : f.tp = false) :
  Calls Tryz.prog 151 #[ptr B] w fun e w' => e = .returned (.iface 387 (.pointer (some (a 4)))) ∧ w' = w := by
 have q12 : w.cell? ⟨B,12,none⟩ = some (.bool true) := by rw [← hm]; exact h.bk.c 12 rfl
 clear hm;have q17 : w.cell? ⟨B,17,none⟩ = some (.bool false) := by rw [← ht]; exact h.bk.c 17 rfl
 clear ht;have g4 : w.cell? ⟨4,0,none⟩ = some (.iface 387 (.pointer (some (a 4)))) := hg.cell 4 (by decide);clear h hg
 go_enter Tryz.func151,Tryz.ntmps151
 go_wp2;go_ret;exact ⟨rfl,rfl⟩
theorem eject_c (B M : Nat) (r : Rg) (f : Fm) (w : World) (h : Bd B M r f w) (hm : f.hm = true) (ht : f.tp = true) :
  Calls Tryz.prog 151 #[ptr B] w fun e w' => e = .returned .nilIface ∧ Bd B M r { f with tp := false,pl := 0 } w' ∧ Kpt (BM B M) w w' := by
 have q12 : w.cell? ⟨B,12,none⟩ = some (.bool true) := by rw [← hm]; exact h.bk.c 12 rfl
 clear hm;have q17 : w.cell? ⟨B,17,none⟩ = some (.bool true) := by rw [← ht]; exact h.bk.c 17 rfl
 clear ht;have q16 := h.bk.c 16 rfl;have z16 := h.bk.f 16 rfl;have z17 := h.bk.f 17 rfl;obtain ⟨h1,k1⟩ := h.set 17 (.bool false) (f' := { f with tp := false }) rfl;obtain ⟨h2,k2⟩ := h1.set 16 (.int .i64 0) (f' := { f with tp := false,pl := 0 }) rfl;have HS := (show Hid (Bd B M r { f with tp := false,pl := 0 } _ ∧ Kpt (BM B M) w _) from ⟨h2,k1.trans k2⟩);clear h h1 h2 k1 k2
 go_enter Tryz.func151,Tryz.ntmps151
 go_wp2;go_ret;exact ⟨rfl,HS.out⟩
theorem press_a (a : Nat → Addr) (n B M : Nat) (r : Rg) (f : Fm) (w : World) (h : Bd B M r f w) (hg : Gl a n w) (v : Int) (hm : f.hm = false) :
  Calls Tryz.prog 149 #[ptr B,.int .i64 v] w fun e w' => e = .returned (.iface 387 (.pointer (some (a 3)))) ∧ w' = w := by
 have q12 : w.cell? ⟨B,12,none⟩ = some (.bool false) := by rw [← hm]; exact h.bk.c 12 rfl
 clear hm;have g3 : w.cell? ⟨2,0,none⟩ = some (.iface 387 (.pointer (some (a 3)))) := hg.cell 3 (by decide);clear h hg
 go_enter Tryz.func149,Tryz.ntmps149
 go_wp2;go_ret;exact ⟨rfl,rfl⟩
theorem press_b (a : Nat → Addr) (n B M : Nat) (r : Rg) (f : Fm) (w : World) (h : Bd B M r f w) (hg : Gl a n w) (v : Int) (hm : f.hm = true) (ht : f.tp = false) :
  Calls Tryz.prog 149 #[ptr B,.int .i64 v] w fun e w' => e = .returned (.iface 387 (.pointer (some (a 4)))) ∧ w' = w := by
 have q12 : w.cell? ⟨B,12,none⟩ = some (.bool true) := by rw [← hm]; exact h.bk.c 12 rfl
 clear hm;have q17 : w.cell? ⟨B,17,none⟩ = some (.bool false) := by rw [← ht]; exact h.bk.c 17 rfl
 clear ht;have g4 : w.cell? ⟨4,0,none⟩ = some (.iface 387 (.pointer (some (a 4)))) := hg.cell 4 (by decide);clear h hg
 go_enter Tryz.func149,Tryz.ntmps149
 go_wp2;go_ret;exact ⟨rfl,rfl⟩
theorem press_c (a : Nat → Addr) (n B M : Nat) (r : Rg) (f : Fm) (w : World) (h : Bd B M r f w) (hg : Gl a n w) (v : Int) (hm : f.hm = true) (ht : f.tp = true) (hv : r.mo < v) :
  Calls Tryz.prog 149 #[ptr B,.int .i64 v] w fun e w' => e = .returned (.iface 387 (.pointer (some (a 6)))) ∧ w' = w := by
 have q12 : w.cell? ⟨B,12,none⟩ = some (.bool true) := by rw [← hm]; exact h.bk.c 12 rfl
 clear hm;have q17 : w.cell? ⟨B,17,none⟩ = some (.bool true) := by rw [← ht]; exact h.bk.c 17 rfl
 clear ht;have q11 := h.bk.c 11 rfl;have g6 : w.cell? ⟨6,0,none⟩ = some (.iface 387 (.pointer (some (a 6)))) := hg.cell 6 (by decide);clear h hg
 go_enter Tryz.func149,Tryz.ntmps149
 go_wp2;go_ret;exact ⟨rfl,rfl⟩
theorem press_d (a : Nat → Addr) (n B M : Nat) (r : Rg) (f : Fm) (w : World) (h : Bd B M r f w) (v : Int) (hg : Gl a n w) (hB : n ≤ B) (hM : n ≤ M) (hr : RgOk r) (hf : FmOk r f) (hm : f.hm = true) (ht : f.tp = true) (hv0 : 0 ≤ v) (hv : v ≤ r.mo) (t : Int) (hte : t = upB (chg f.pl v) 1000) (hl : 1000000000000000 < f.tk + t) :
  Calls Tryz.prog 149 #[ptr B,.int .i64 v] w fun e w' => e = .returned (.iface 387 (.pointer (some (a 7)))) ∧ Bd B M r ({ f with pl := v }) w' ∧ Kpt (BM B M) w w' := by
 have q12 : w.cell? ⟨B,12,none⟩ = some (.bool true) := by rw [← hm]; exact h.bk.c 12 rfl
 clear hm;have q17 : w.cell? ⟨B,17,none⟩ = some (.bool true) := by rw [← ht]; exact h.bk.c 17 rfl
 clear ht;have q11 := h.bk.c 11 rfl;have q16 := h.bk.c 16 rfl;have z16 := h.bk.f 16 rfl;have hpl := hf.pl;have hmo := hr.mo;have HC : Hid (∀ W,Calls Tryz.prog 195 #[.int .i64 f.pl,.int .i64 v] W fun e w' => e = .returned (.int .i64 (chg f.pl v)) ∧ w' = W) := fun W => change_any f.pl v W (by omega) (by omega) (by omega) (by omega);have hcb : 0 ≤ chg f.pl v ∧ chg f.pl v ≤ 1000000000 := by unfold chg; omega
 have HU : Hid (∀ W,Calls Tryz.prog 153 #[.int .i64 (chg f.pl v),.int .i64 1000] W fun e w' => e = .returned (.int .i64 t) ∧ w' = W) := fun W => by rw [hte]; exact upBy_any (chg f.pl v) 1000 W hcb.1 (by omega) (by omega) (by omega)
 have htb : 0 ≤ t := by rw [hte]; exact (upB_bd hcb.1 (by omega)).1
 obtain ⟨h1,k1⟩ := h.set 16 (.int .i64 v) (f' := { f with pl := v }) rfl;obtain ⟨w1,hw1⟩ : ∃ x,x = w.setCell ⟨B,16,none⟩ (.int .i64 v) := ⟨_,rfl⟩;rw [← hw1] at h1 k1;have HD1 := hdd h1;have HK1 : Hid (Kpt (BM B M) w w1) := k1;have HP : Hid (Calls Tryz.prog 152 #[ptr B,.int .i64 t] w1 fun e w' => e = .returned (.iface 387 (.pointer (some (a 7)))) ∧ w' = w1) := pass_no a n B M r { f with pl := v } t w1 h1 (hg.onB k1 hB hM) hf.tk.1 hf.tk.2 hl;clear h h1 k1 hl hte hf hr hpl hmo hcb htb hg
 go_enter Tryz.func149,Tryz.ntmps149
 go_wp2_with fail
 refine (HC.out _).mono ?_;rintro e w2 ⟨rfl,rfl⟩
 go_wp2_with fail
 refine (HU.out _).mono ?_;rintro e w3 ⟨rfl,rfl⟩
 go_wp2_with fail
 simp only [← hw1];refine Calls.mono HP.out ?_;rintro e w4 ⟨rfl,hw4⟩;clear hw1;subst hw4;go_wp2;go_ret;exact ⟨rfl,HD1.out,HK1.out⟩
theorem press_e (B M : Nat) (r : Rg) (f : Fm) (w : World) (h : Bd B M r f w) (v : Int) (hr : RgOk r) (hf : FmOk r f) (hm : f.hm = true) (ht : f.tp = true) (hv0 : 0 ≤ v) (hv : v ≤ r.mo) (t : Int) (hte : t = upB (chg f.pl v) 1000) (hl : f.tk + t ≤ 1000000000000000) :
  Calls Tryz.prog 149 #[ptr B,.int .i64 v] w fun e w' => e = .returned (.nilIface) ∧ Bd B M r ({ f with pl := v,tk := f.tk + t }) w' ∧ Kpt (BM B M) w w' := by
 have q12 : w.cell? ⟨B,12,none⟩ = some (.bool true) := by rw [← hm]; exact h.bk.c 12 rfl
 clear hm;have q17 : w.cell? ⟨B,17,none⟩ = some (.bool true) := by rw [← ht]; exact h.bk.c 17 rfl
 clear ht;have q11 := h.bk.c 11 rfl;have q16 := h.bk.c 16 rfl;have z16 := h.bk.f 16 rfl;have hpl := hf.pl;have hmo := hr.mo;have HC : Hid (∀ W,Calls Tryz.prog 195 #[.int .i64 f.pl,.int .i64 v] W fun e w' => e = .returned (.int .i64 (chg f.pl v)) ∧ w' = W) := fun W => change_any f.pl v W (by omega) (by omega) (by omega) (by omega);have hcb : 0 ≤ chg f.pl v ∧ chg f.pl v ≤ 1000000000 := by unfold chg; omega
 have HU : Hid (∀ W,Calls Tryz.prog 153 #[.int .i64 (chg f.pl v),.int .i64 1000] W fun e w' => e = .returned (.int .i64 t) ∧ w' = W) := fun W => by rw [hte]; exact upBy_any (chg f.pl v) 1000 W hcb.1 (by omega) (by omega) (by omega)
 have htb : 0 ≤ t := by rw [hte]; exact (upB_bd hcb.1 (by omega)).1
 obtain ⟨h1,k1⟩ := h.set 16 (.int .i64 v) (f' := { f with pl := v }) rfl;obtain ⟨w1,hw1⟩ : ∃ x,x = w.setCell ⟨B,16,none⟩ (.int .i64 v) := ⟨_,rfl⟩;rw [← hw1] at h1 k1;have HD1 := hdd h1;have HK1 : Hid (Kpt (BM B M) w w1) := k1;have HP : Hid (Calls Tryz.prog 152 #[ptr B,.int .i64 t] w1 fun e w' => e = .returned .nilIface ∧ Bd B M r { f with pl := v,tk := f.tk + t } w' ∧ Kpt (BM B M) w1 w') := pass_yes B M r { f with pl := v } t w1 h1 hf.tk.1 hf.tk.2 htb hl;clear h h1 k1 hl hte hf hr hpl hmo hcb htb
 go_enter Tryz.func149,Tryz.ntmps149
 go_wp2_with fail
 refine (HC.out _).mono ?_;rintro e w2 ⟨rfl,rfl⟩
 go_wp2_with fail
 refine (HU.out _).mono ?_;rintro e w3 ⟨rfl,rfl⟩
 go_wp2_with fail
 simp only [← hw1];refine Calls.mono HP.out ?_;rintro e w4 ⟨rfl,hd4,hk4⟩;have HF := (show Hid (Bd B M r { f with pl := v,tk := f.tk + t } w4 ∧ Kpt (BM B M) _ w4) from ⟨hd4,HK1.out.trans hk4⟩);clear hd4 hk4;go_wp2;go_ret;exact ⟨rfl,HF.out⟩
abbrev cmv (c : Cm) : Value := cm c.k c.x c.y c.z c.v
abbrev cmc (c : Cm) : List Value := c5 c.k c.x c.y c.z c.v
abbrev cmo (c : Cm) : Obj := o5 c.k c.x c.y c.z c.v
theorem chk_ok {c : Cm} (h : chkM c = 0) : (1 ≤ c.k ∧ c.k ≤ 8) ∧ Near (toP c) ∧ (0 ≤ c.v ∧ c.v ≤ 1000000000) := by
 unfold chkM chkC at h
 split at h
 ·cases h
 ·rename_i h1
  split at h
  ·cases h
  ·rename_i h2
   have h3 : inRg c.x c.y c.z c.v = true := by simpa using h2
   have h4 := inRg_iff.1 h3;exact ⟨by omega,⟨h4.1,h4.2.1,h4.2.2.1⟩,h4.2.2.2⟩
def ObP (a : Nat → Addr) (B M : Nat) (r : Rg) (f : Fm) (c : Cm) (w : World) (e : Ending) (w' : World) : Prop :=
 e = .returned (er a (obE r f c)) ∧ ∃ f1,Bd B M r f1 w' ∧ Kpt (BM B M) w w' ∧ (obE r f c = none → f1 = obF r f c)
theorem obP_err {a : Nat → Addr} {B M : Nat} {r : Rg} {f f1 : Fm} {c : Cm} {w w' : World} {e : Ending} {i : Nat} (ho : obE r f c = some i) (he : e = .returned (.iface 387 (.pointer (some (a i))))) (hd : Bd B M r f1 w') (hk : Kpt (BM B M) w w') : ObP a B M r f c w e w' :=
 ⟨by rw [ho,he]; rfl,f1,hd,hk,fun h => by rw [ho] at h; cases h⟩
theorem obP_ok {a : Nat → Addr} {B M : Nat} {r : Rg} {f f1 : Fm} {c : Cm} {w w' : World} {e : Ending} (ho : obE r f c = none) (hf : f1 = obF r f c) (he : e = .returned .nilIface) (hd : Bd B M r f1 w') (hk : Kpt (BM B M) w w') : ObP a B M r f c w e w' :=
 ⟨by rw [ho,he]; rfl,f1,hd,hk,fun _ => hf⟩
theorem obP_same {a : Nat → Addr} {B M : Nat} {r : Rg} {f : Fm} {c : Cm} {w w' : World} {e : Ending} {i : Nat} (ho : obE r f c = some i) (he : e = .returned (.iface 387 (.pointer (some (a i))))) (hw : w' = w) (hd : Bd B M r f w) : ObP a B M r f c w e w' := by
 subst hw;exact obP_err ho he hd (Kpt.refl _ _)
theorem obE_some {r : Rg} {f : Fm} {c : Cm} {i : Nat} (h : errC r f c = some i) : obE r f c = some i := by unfold obE; rw [h]
theorem obE_late {r : Rg} {f : Fm} {c : Cm} (h : errC r f c = none) (hl : 1000000000000000 < f.tk + durC r f c) : obE r f c = some 7 := by unfold obE; rw [h]; simp only [hl,if_true]
theorem obE_none {r : Rg} {f : Fm} {c : Cm} (h : errC r f c = none) (hl : f.tk + durC r f c ≤ 1000000000000000) : obE r f c = none := by unfold obE; rw [h]; simp only [if_neg (show ¬ 1000000000000000 < f.tk + durC r f c by omega)]
section
variable {a : Nat → Addr} {n B M : Nat} {r : Rg} {f : Fm} {c : Cm} {w : World}
theorem home_any (h : Bd B M r f w) (hg : Gl a n w) (hB : n ≤ B) (hM : n ≤ M) (hr : RgOk r) (hf : FmOk r f) (hk : c.k = 1) : Calls Tryz.prog 147 #[ptr B] w (ObP a B M r f c w) := by
 have e1 : errC r f c = none := by unfold errC; simp [hk]
 have e2 : durC r f c = homeT r f := by unfold durC; simp [hk]
 have e3 : obF r f c = { homF f with tk := f.tk + homeT r f } := by unfold obF; rw [if_pos hk,e2]; rfl
 by_cases hl : f.tk + homeT r f ≤ 1000000000000000
 ·have ho := obE_none e1 (by rw [e2]; exact hl)
  cases hm : f.hm with
  | true =>
   have ht : homeT r f = tick r f.pt p0 := by unfold homeT; simp [hm]
   refine (home_ch B M r f w h hr hm hf (homeT r f) ht hl).mono fun e w' ⟨h1,h2,h3⟩ => obP_ok ho e3.symm h1 h2 h3
  | false =>
   have ht : homeT r f = tick r r.hi r.lo := by unfold homeT; simp [hm]
   refine (home_cn B M r f w h hr hm hf (homeT r f) ht hl).mono fun e w' ⟨h1,h2,h3⟩ => obP_ok ho e3.symm h1 h2 h3
 ·have hl2 : 1000000000000000 < f.tk + homeT r f := by omega
  have ho := obE_late e1 (by rw [e2]; exact hl2)
  cases hm : f.hm with
  | true =>
   have ht : homeT r f = tick r f.pt p0 := by unfold homeT; simp [hm]
   refine (home_dh a n B M r f w h hg hB hM hr hm hf (homeT r f) ht hl2).mono fun e w' ⟨h1,h2,h3⟩ => obP_err ho h1 h2 h3
  | false =>
   have ht : homeT r f = tick r r.hi r.lo := by unfold homeT; simp [hm]
   refine (home_dn a n B M r f w h hg hB hM hr hm hf (homeT r f) ht hl2).mono fun e w' ⟨h1,h2,h3⟩ => obP_err ho h1 h2 h3
theorem goTo_any (h : Bd B M r f w) (hg : Gl a n w) (hB : n ≤ B) (hM : n ≤ M) (hr : RgOk r) (hf : FmOk r f) (hk : c.k = 2) : Calls Tryz.prog 148 #[ptr B,v3 (toP c)] w (ObP a B M r f c w) := by
 have e2 : durC r f c = tick r f.pt (toP c) := by unfold durC; simp [hk]
 have e3 : obF r f c = { f with pt := toP c,tk := f.tk + tick r f.pt (toP c) } := by unfold obF; rw [if_neg (by omega),if_pos hk,e2]
 cases hm : f.hm with
 | false =>
  have e1 : errC r f c = some 3 := by unfold errC; simp [hk,hm]
  exact (goTo_a a n B M r f (toP c) w h hg hm).mono fun e w' ⟨h1,h2,h3⟩ => obP_err (obE_some e1) h1 h2 h3
 | true =>
  cases hp : inS r (toP c) with
  | false =>
   have e1 : errC r f c = some 0 := by unfold errC; simp [hk,hm,hp]
   exact (goTo_b a n B M r f (toP c) w h hg hB hM hm hf.at' hp).mono fun e w' ⟨h1,h2,h3⟩ => obP_err (obE_some e1) h1 h2 h3
  | true =>
   have e1 : errC r f c = none := by unfold errC; simp [hk,hm,hp]
   by_cases hl : f.tk + tick r f.pt (toP c) ≤ 1000000000000000
   ·exact (goTo_c B M r f (toP c) w h hr hm hf hp _ rfl hl).mono fun e w' ⟨h1,h2,h3⟩ => obP_ok (obE_none e1 (by rw [e2]; exact hl)) e3.symm h1 h2 h3
   ·exact (goTo_d a n B M r f (toP c) w h hg hB hM hr hm hf hp _ rfl (by omega)).mono fun e w' ⟨h1,h2,h3⟩ => obP_err (obE_late e1 (by rw [e2]; omega)) h1 h2 h3
theorem press_any (h : Bd B M r f w) (hg : Gl a n w) (hB : n ≤ B) (hM : n ≤ M) (hr : RgOk r) (hf : FmOk r f) (hk : c.k = 3) (hv0 : 0 ≤ c.v) : Calls Tryz.prog 149 #[ptr B,.int .i64 c.v] w (ObP a B M r f c w) := by
 have e2 : durC r f c = upB (chg f.pl c.v) 1000 := by unfold durC; simp [hk]
 have e3 : obF r f c = { f with pl := c.v,tk := f.tk + upB (chg f.pl c.v) 1000 } := by unfold obF; rw [if_neg (by omega),if_neg (by omega),if_pos hk,e2]
 cases hm : f.hm with
 | false =>
  have e1 : errC r f c = some 3 := by unfold errC; simp [hk,hm]
  exact (press_a a n B M r f w h hg c.v hm).mono fun e w' ⟨h1,h2⟩ => obP_same (obE_some e1) h1 h2 h
 | true =>
  cases ht : f.tp with
  | false =>
   have e1 : errC r f c = some 4 := by unfold errC; simp [hk,hm,ht]
   exact (press_b a n B M r f w h hg c.v hm ht).mono fun e w' ⟨h1,h2⟩ => obP_same (obE_some e1) h1 h2 h
  | true =>
   by_cases hv : r.mo < c.v
   ·have e1 : errC r f c = some 6 := by unfold errC; simp [hk,hm,ht,hv]
    exact (press_c a n B M r f w h hg c.v hm ht hv).mono fun e w' ⟨h1,h2⟩ => obP_same (obE_some e1) h1 h2 h
   ·have e1 : errC r f c = none := by unfold errC; simp [hk,hm,ht,hv]
    by_cases hl : f.tk + upB (chg f.pl c.v) 1000 ≤ 1000000000000000
    ·exact (press_e B M r f w h c.v hr hf hm ht hv0 (by omega) _ rfl hl).mono fun e w' ⟨h1,h2,h3⟩ => obP_ok (obE_none e1 (by rw [e2]; exact hl)) e3.symm h1 h2 h3
    ·exact (press_d a n B M r f w h c.v hg hB hM hr hf hm ht hv0 (by omega) _ rfl (by omega)).mono fun e w' ⟨h1,h2,h3⟩ => obP_err (obE_late e1 (by rw [e2]; omega)) h1 h2 h3
theorem grab_any (h : Bd B M r f w) (hg : Gl a n w) (hf : FmOk r f) (hk : c.k = 4) : Calls Tryz.prog 150 #[ptr B] w (ObP a B M r f c w) := by
 have e2 : durC r f c = 0 := by unfold durC; simp [hk]
 have e3 : obF r f c = { f with tp := true,pl := 0 } := by unfold obF; simp [hk]
 cases hm : f.hm with
 | false =>
  have e1 : errC r f c = some 3 := by unfold errC; simp [hk,hm]
  exact (grab_a a n B M r f w h hg hm).mono fun e w' ⟨h1,h2⟩ => obP_same (obE_some e1) h1 h2 h
 | true =>
  cases ht : f.tp with
  | true =>
   have e1 : errC r f c = some 5 := by unfold errC; simp [hk,hm,ht]
   exact (grab_b a n B M r f w h hg hm ht).mono fun e w' ⟨h1,h2⟩ => obP_same (obE_some e1) h1 h2 h
  | false =>
   have e1 : errC r f c = none := by unfold errC; simp [hk,hm,ht]
   exact (grab_c B M r f w h hm ht).mono fun e w' ⟨h1,h2,h3⟩ => obP_ok (obE_none e1 (by have := hf.tk; rw [e2]; omega)) e3.symm h1 h2 h3
theorem eject_any (h : Bd B M r f w) (hg : Gl a n w) (hf : FmOk r f) (hk : c.k = 5) : Calls Tryz.prog 151 #[ptr B] w (ObP a B M r f c w) := by
 have e2 : durC r f c = 0 := by unfold durC; simp [hk]
 have e3 : obF r f c = { f with tp := false,pl := 0 } := by unfold obF; simp [hk]
 cases hm : f.hm with
 | false =>
  have e1 : errC r f c = some 3 := by unfold errC; simp [hk,hm]
  exact (eject_a a n B M r f w h hg hm).mono fun e w' ⟨h1,h2⟩ => obP_same (obE_some e1) h1 h2 h
 | true =>
  cases ht : f.tp with
  | false =>
   have e1 : errC r f c = some 4 := by unfold errC; simp [hk,hm,ht]
   exact (eject_b a n B M r f w h hg hm ht).mono fun e w' ⟨h1,h2⟩ => obP_same (obE_some e1) h1 h2 h
  | true =>
   have e1 : errC r f c = none := by unfold errC; simp [hk,hm,ht]
   exact (eject_c B M r f w h hm ht).mono fun e w' ⟨h1,h2,h3⟩ => obP_ok (obE_none e1 (by have := hf.tk; rw [e2]; omega)) e3.symm h1 h2 h3
theorem pass_any (h : Bd B M r f w) (hg : Gl a n w) (hf : FmOk r f) (hk : c.k = 7) (t : Int) (ht : t = upB (c.v * r.rp.c) 1000) (ht0 : 0 ≤ t) : Calls Tryz.prog 152 #[ptr B,.int .i64 t] w (ObP a B M r f c w) := by
 have e1 : errC r f c = none := by unfold errC; simp [hk]
 have e2 : durC r f c = t := by unfold durC; simp [hk,ht]
 have e3 : obF r f c = { f with tk := f.tk + t } := by unfold obF; simp [hk,e2]
 by_cases hl : f.tk + t ≤ 1000000000000000
 ·exact (pass_yes B M r f t w h hf.tk.1 hf.tk.2 ht0 hl).mono fun e w' ⟨h1,h2,h3⟩ => obP_ok (obE_none e1 (by rw [e2]; exact hl)) e3.symm h1 h2 h3
 ·exact (pass_no a n B M r f t w h hg hf.tk.1 hf.tk.2 (by omega)).mono fun e w' ⟨h1,h2⟩ => obP_same (obE_late e1 (by rw [e2]; omega)) h1 h2 h
end
theorem ObP.back {a : Nat → Addr} {B M : Nat} {r : Rg} {f : Fm} {c : Cm} {w w1 w2 : World} {e : Ending} (h : ObP a B M r f c w1 e w2) (hk : Kpt (BM B M) w w1) : ObP a B M r f c w e w2 := by
 obtain ⟨h1,f1,h2,h3,h4⟩ := h;exact ⟨h1,f1,h2,hk.trans h3,h4⟩
theorem obey_1 (a : Nat → Addr) (n B M : Nat) (r : Rg) (f : Fm) (c : Cm) (w : World) (h : Bd B M r f w) (hg : Gl a n w) (hB : n ≤ B) (hM : n ≤ M) (hr : RgOk r) (hf : FmOk r f) (hk : c.k = 1) : Calls Tryz.prog 95 #[ptr B,cmv c] w (ObP a B M r f c w) := by
 obtain ⟨w0,hw0⟩ : ∃ x,x = w.alloc (cmo c) := ⟨_,rfl⟩;have HB0 : Hid (bw w w0) := by show Below _ _ _; rw [hw0]; exact one_new _ _
 have KC : Hid (Bk w.heap.size (cmc c) w0) := by show Bk _ _ _; rw [hw0]; exact Bk.new w (cmc c) 49 w.heap.size rfl
 have HD : Hid (Bd B M r f w0) := h.later HB0.out;have HG : Hid (Gl a n w0) := hg.later HB0.out;have HC : Hid (Calls Tryz.prog 147 #[ptr B] w0 (ObP a B M r f c w0)) := home_any HD.out HG.out hB hM hr hf hk;have HK := hdd hk;obtain ⟨k,x,y,z,v⟩ := c;simp only at hk;subst hk;clear h hg hf
 go_enter Tryz.func95,Tryz.ntmps95
 go_wp2_with fail
 simp only [show w.alloc (.cells #[.int .i64 1,.int .i64 x,.int .i64 y,.int .i64 z,.int .i64 v] 49) = w0 from hw0.symm];clear hw0;refine Calls.mono HC.out ?_;rintro e w1 hP;obtain ⟨rfl,f1,hd,hk1,ho⟩ := hP;have HF := (show Hid (ObP a B M r f ⟨1,x,y,z,v⟩ w (.returned (er a (obE r f ⟨1,x,y,z,v⟩))) w1) from ObP.back ⟨rfl,f1,hd,hk1,ho⟩ (Kpt.of_below HB0.out));clear hd hk1 ho;go_wp2;go_ret;exact HF.out
theorem obey_2 (a : Nat → Addr) (n B M : Nat) (r : Rg) (f : Fm) (c : Cm) (w : World) (h : Bd B M r f w) (hg : Gl a n w) (hB : n ≤ B) (hM : n ≤ M) (hr : RgOk r) (hf : FmOk r f) (hk : c.k = 2) : Calls Tryz.prog 95 #[ptr B,cmv c] w (ObP a B M r f c w) := by
 obtain ⟨w0,hw0⟩ : ∃ x,x = w.alloc (cmo c) := ⟨_,rfl⟩;have HB0 : Hid (bw w w0) := by show Below _ _ _; rw [hw0]; exact one_new _ _
 have KC : Hid (Bk w.heap.size (cmc c) w0) := by show Bk _ _ _; rw [hw0]; exact Bk.new w (cmc c) 49 w.heap.size rfl
 have HD : Hid (Bd B M r f w0) := h.later HB0.out;have HG : Hid (Gl a n w0) := hg.later HB0.out;have HC : Hid (Calls Tryz.prog 148 #[ptr B,v3 (toP c)] w0 (ObP a B M r f c w0)) := goTo_any HD.out HG.out hB hM hr hf hk;have HK := hdd hk;obtain ⟨k,x,y,z,v⟩ := c;simp only at hk;subst hk;clear h hg hf
 go_enter Tryz.func95,Tryz.ntmps95
 go_wp2_with fail
 simp only [show w.alloc (.cells #[.int .i64 2,.int .i64 x,.int .i64 y,.int .i64 z,.int .i64 v] 49) = w0 from hw0.symm];clear hw0;refine Calls.mono HC.out ?_;rintro e w1 hP;obtain ⟨rfl,f1,hd,hk1,ho⟩ := hP;have HF := (show Hid (ObP a B M r f ⟨2,x,y,z,v⟩ w (.returned (er a (obE r f ⟨2,x,y,z,v⟩))) w1) from ObP.back ⟨rfl,f1,hd,hk1,ho⟩ (Kpt.of_below HB0.out));clear hd hk1 ho;go_wp2;go_ret;exact HF.out
theorem obey_3 (a : Nat → Addr) (n B M : Nat) (r : Rg) (f : Fm) (c : Cm) (w : World) (h : Bd B M r f w) (hg : Gl a n w) (hB : n ≤ B) (hM : n ≤ M) (hr : RgOk r) (hf : FmOk r f) (hk : c.k = 3) (hv : 0 ≤ c.v ∧ c.v ≤ 1000000000) : Calls Tryz.prog 95 #[ptr B,cmv c] w (ObP a B M r f c w) := by
 obtain ⟨w0,hw0⟩ : ∃ x,x = w.alloc (cmo c) := ⟨_,rfl⟩;have HB0 : Hid (bw w w0) := by show Below _ _ _; rw [hw0]; exact one_new _ _
 have KC : Hid (Bk w.heap.size (cmc c) w0) := by show Bk _ _ _; rw [hw0]; exact Bk.new w (cmc c) 49 w.heap.size rfl
 have HD : Hid (Bd B M r f w0) := h.later HB0.out;have HG : Hid (Gl a n w0) := hg.later HB0.out;have HC : Hid (Calls Tryz.prog 149 #[ptr B,.int .i64 c.v] w0 (ObP a B M r f c w0)) := press_any HD.out HG.out hB hM hr hf hk hv.1;have HK := hdd hk;obtain ⟨k,x,y,z,v⟩ := c;simp only at hk;subst hk;clear h hg hf
 go_enter Tryz.func95,Tryz.ntmps95
 go_wp2_with fail
 simp only [show w.alloc (.cells #[.int .i64 3,.int .i64 x,.int .i64 y,.int .i64 z,.int .i64 v] 49) = w0 from hw0.symm];clear hw0;refine Calls.mono HC.out ?_;rintro e w1 hP;obtain ⟨rfl,f1,hd,hk1,ho⟩ := hP;have HF := (show Hid (ObP a B M r f ⟨3,x,y,z,v⟩ w (.returned (er a (obE r f ⟨3,x,y,z,v⟩))) w1) from ObP.back ⟨rfl,f1,hd,hk1,ho⟩ (Kpt.of_below HB0.out));clear hd hk1 ho;go_wp2;go_ret;exact HF.out
theorem obey_4 (a : Nat → Addr) (n B M : Nat) (r : Rg) (f : Fm) (c : Cm) (w : World) (h : Bd B M r f w) (hg : Gl a n w) (hf : FmOk r f) (hk : c.k = 4) : Calls Tryz.prog 95 #[ptr B,cmv c] w (ObP a B M r f c w) := by
 obtain ⟨w0,hw0⟩ : ∃ x,x = w.alloc (cmo c) := ⟨_,rfl⟩;have HB0 : Hid (bw w w0) := by show Below _ _ _; rw [hw0]; exact one_new _ _
 have KC : Hid (Bk w.heap.size (cmc c) w0) := by show Bk _ _ _; rw [hw0]; exact Bk.new w (cmc c) 49 w.heap.size rfl
 have HD : Hid (Bd B M r f w0) := h.later HB0.out;have HG : Hid (Gl a n w0) := hg.later HB0.out;have HC : Hid (Calls Tryz.prog 150 #[ptr B] w0 (ObP a B M r f c w0)) := grab_any HD.out HG.out hf hk;have HK := hdd hk;obtain ⟨k,x,y,z,v⟩ := c;simp only at hk;subst hk;clear h hg hf
 go_enter Tryz.func95,Tryz.ntmps95
 go_wp2_with fail
 simp only [show w.alloc (.cells #[.int .i64 4,.int .i64 x,.int .i64 y,.int .i64 z,.int .i64 v] 49) = w0 from hw0.symm];clear hw0;refine Calls.mono HC.out ?_;rintro e w1 hP;obtain ⟨rfl,f1,hd,hk1,ho⟩ := hP;have HF := (show Hid (ObP a B M r f ⟨4,x,y,z,v⟩ w (.returned (er a (obE r f ⟨4,x,y,z,v⟩))) w1) from ObP.back ⟨rfl,f1,hd,hk1,ho⟩ (Kpt.of_below HB0.out));clear hd hk1 ho;go_wp2;go_ret;exact HF.out
theorem obey_5 (a : Nat → Addr) (n B M : Nat) (r : Rg) (f : Fm) (c : Cm) (w : World) (h : Bd B M r f w) (hg : Gl a n w) (hf : FmOk r f) (hk : c.k = 5) : Calls Tryz.prog 95 #[ptr B,cmv c] w (ObP a B M r f c w) := by
 obtain ⟨w0,hw0⟩ : ∃ x,x = w.alloc (cmo c) := ⟨_,rfl⟩;have HB0 : Hid (bw w w0) := by show Below _ _ _; rw [hw0]; exact one_new _ _
 have KC : Hid (Bk w.heap.size (cmc c) w0) := by show Bk _ _ _; rw [hw0]; exact Bk.new w (cmc c) 49 w.heap.size rfl
 have HD : Hid (Bd B M r f w0) := h.later HB0.out;have HG : Hid (Gl a n w0) := hg.later HB0.out;have HC : Hid (Calls Tryz.prog 151 #[ptr B] w0 (ObP a B M r f c w0)) := eject_any HD.out HG.out hf hk;have HK := hdd hk;obtain ⟨k,x,y,z,v⟩ := c;simp only at hk;subst hk;clear h hg hf
 go_enter Tryz.func95,Tryz.ntmps95
 go_wp2_with fail
 simp only [show w.alloc (.cells #[.int .i64 5,.int .i64 x,.int .i64 y,.int .i64 z,.int .i64 v] 49) = w0 from hw0.symm];clear hw0;refine Calls.mono HC.out ?_;rintro e w1 hP;obtain ⟨rfl,f1,hd,hk1,ho⟩ := hP;have HF := (show Hid (ObP a B M r f ⟨5,x,y,z,v⟩ w (.returned (er a (obE r f ⟨5,x,y,z,v⟩))) w1) from ObP.back ⟨rfl,f1,hd,hk1,ho⟩ (Kpt.of_below HB0.out));clear hd hk1 ho;go_wp2;go_ret;exact HF.out
theorem obey_6 (a : Nat → Addr) (B M : Nat) (r : Rg) (f : Fm) (c : Cm) (w : World) (h : Bd B M r f w) (hf : FmOk r f) (hk : c.k = 6) : Calls Tryz.prog 95 #[ptr B,cmv c] w (ObP a B M r f c w) := by
 have e1 : errC r f c = none := by unfold errC; simp [hk]
 have e2 : durC r f c = 0 := by unfold durC; simp [hk]
 have e3 : obF r f c = { f with ht := c.v } := by unfold obF; simp [hk]
 have ho := obE_none e1 (by have := hf.tk; rw [e2]; omega);have q18 := h.bk.c 18 rfl;have z18 := h.bk.f 18 rfl;have hBw : B < w.heap.size := h.bk.1;obtain ⟨h1,k1⟩ := h.set 18 (.int .i64 c.v) (f' := { f with ht := c.v }) rfl;have HF := (show Hid (ObP a B M r f c w (.returned .nilIface) ((w.setCell ⟨B,18,none⟩ (.int .i64 c.v)).alloc (cmo c))) from obP_ok ho e3.symm rfl (h1.later (one_new _ _)) (k1.onB (one_new _ _)));clear h hf h1 k1 ho e1 e2 e3;obtain ⟨k,x,y,z,v⟩ := c;simp only at hk;subst hk
 go_enter Tryz.func95,Tryz.ntmps95
 go_wp2;go_ret;exact HF.out
theorem obey_8 (a : Nat → Addr) (B M : Nat) (r : Rg) (f : Fm) (c : Cm) (w : World) (h : Bd B M r f w) (hf : FmOk r f) (hk : c.k = 8) : Calls Tryz.prog 95 #[ptr B,cmv c] w (ObP a B M r f c w) := by
 have e1 : errC r f c = none := by unfold errC; simp [hk]
 have e2 : durC r f c = 0 := by unfold durC; simp [hk]
 have e3 : obF r f c = { f with tu := c.v } := by unfold obF; simp [hk]
 have ho := obE_none e1 (by have := hf.tk; rw [e2]; omega);have q19 := h.bk.c 19 rfl;have z19 := h.bk.f 19 rfl;have hBw : B < w.heap.size := h.bk.1;obtain ⟨h1,k1⟩ := h.set 19 (.int .i64 c.v) (f' := { f with tu := c.v }) rfl;have HF := (show Hid (ObP a B M r f c w (.returned .nilIface) ((w.setCell ⟨B,19,none⟩ (.int .i64 c.v)).alloc (cmo c))) from obP_ok ho e3.symm rfl (h1.later (one_new _ _)) (k1.onB (one_new _ _)));clear h hf h1 k1 ho e1 e2 e3;obtain ⟨k,x,y,z,v⟩ := c;simp only at hk;subst hk
 go_enter Tryz.func95,Tryz.ntmps95
 go_wp2;go_ret;exact HF.out
def orV (B C : Nat) (r : Rg) (u m t : Int) (d : Nat) (v : Value) (_ : World) : Prop :=
 match d with
 | 46 | 49 | 50 | 51 => v = .pointer (some ⟨B,0,none⟩)
 | 47 => v = .pointer (some ⟨C,4,none⟩)
 | 48 => v = .int .i64 u
 | 52 | 53 => v = .pointer (some ⟨B,6,none⟩)
 | 54 => v = .int .i64 r.rp.c
 | 55 => v = .int .i64 m
 | 56 => v = .int .i64 t
 | _ => True
theorem orV_mono (B C : Nat) (r : Rg) (u m t : Int) (d : Nat) (v : Value) (w w' : World) (h : orV B C r u m t d v w) (_ : bw w w') : orV B C r u m t d v w' := h
theorem obey_7 (a : Nat → Addr) (n B M : Nat) (r : Rg) (f : Fm) (c : Cm) (w : World) (h : Bd B M r f w) (hg : Gl a n w) (hr : RgOk r) (hf : FmOk r f) (hk : c.k = 7) (hv : 0 ≤ c.v ∧ c.v ≤ 1000000000) : Calls Tryz.prog 95 #[ptr B,cmv c] w (ObP a B M r f c w) := by
 obtain ⟨t,ht⟩ : ∃ t,t = upB (c.v * r.rp.c) 1000 := ⟨_,rfl⟩;obtain ⟨m,hm⟩ : ∃ m,m = c.v * r.rp.c := ⟨_,rfl⟩;have hrp := rpOk_iff.1 hr.rp;have hm0 : 0 ≤ m := by rw [hm]; exact Int.mul_nonneg hv.1 (by omega)
 have hm1 : m ≤ 100000000000000000 := by
  rw [hm];exact Int.le_trans (Int.mul_le_mul_of_nonneg_right hv.2 (by omega)) (by omega)
 have ht0 : 0 ≤ t := by rw [ht,← hm]; exact (upB_bd hm0 (by omega)).1
 have HU : Hid (∀ W,Calls Tryz.prog 153 #[.int .i64 m,.int .i64 1000] W fun e w' => e = .returned (.int .i64 t) ∧ w' = W) := fun W => by rw [ht,← hm]; exact upBy_any m 1000 W hm0 (by omega) (by omega) (by omega)
 obtain ⟨w0,hw0⟩ : ∃ x,x = w.alloc (cmo c) := ⟨_,rfl⟩;have HB0 : Hid (bw w w0) := by show Below _ _ _; rw [hw0]; exact one_new _ _
 have KC : Hid (Bk w.heap.size (cmc c) w0) := by show Bk _ _ _; rw [hw0]; exact Bk.new w (cmc c) 49 w.heap.size rfl
 have HD : Hid (Bd B M r f w0) := h.later HB0.out;have HG : Hid (Gl a n w0) := hg.later HB0.out;have HP : Hid (∀ W,bw w0 W → Calls Tryz.prog 152 #[ptr B,.int .i64 t] W (ObP a B M r f c W)) := fun W hb => pass_any (HD.out.later hb) (HG.out.later hb) hf hk t ht ht0;have KB := hdd (HD.out.bk);obtain ⟨C,hC⟩ : ∃ b,b = w.heap.size := ⟨_,rfl⟩;rw [← hC] at KC;obtain ⟨k,x,y,z,u⟩ := c;simp only at hk hm hv;subst hk;have HM := hdd hm;have HMW : Hid (IntKind.i64.wrap (u * r.rp.c) = m) := by show _ = _; rw [← hm]; exact wrap_in (by omega) (by omega)
 clear h hg hf hr hrp ht ht0 hm hm0 hm1
 go_enter Tryz.func95,Tryz.ntmps95
 go_wp2_with fail
 simp only [show w.alloc (.cells #[.int .i64 7,.int .i64 x,.int .i64 y,.int .i64 z,.int .i64 u] 49) = w0 from hw0.symm,← hC];clear hw0 hC;rename_i KK hkk;have HKK := (show Hid _ from hkk);clear hkk
 refine region_seq 11 [zf,zf,zf,zf,zf,zf,zf,zf,zf,zf,zf,zf,zf,zf,zf,zf,zf,zf,zf,zf,zf,zf,zf,zf,zf,zf,zf,zf,zf,zf,zf,zf,zf,zf,zf,zf,zf,zf,zf,zf,zf,zf,zf,zf,zf,zf,zt,zt,zt,zt,zt,zt,zt,zt,zt,zt,zt,zf,zf,zf,zf,zf,zf,zf,zf,zf]
  [(46,[],none),(47,[],none),(48,[47],none),(49,[],none),(50,[49],none),(51,[50],none),(52,[51],none),(53,[52],none),(54,[53],none),(55,[48,54],none),(56,[55],none)]
  (orV B C r u m t) (by kernel_rfl) (by kernel_rfl) (by kernel_rfl) (by kernel_rfl) (by kernel_rfl) (by decide) (orV_mono B C r u m t) ?_ ?_
 ·refine ⟨?_,?_,?_,?_,?_,?_,?_,?_,?_,?_,?_,trivial⟩
  any_goals first | (intro f w1 hb _ K hK; simp only [ov,oL]; go_simp; exact hK _ _ ⟨_,rfl,by simp only [ov,oL]; rfl,brf⟩) | fail
  ·rintro f w1 hb ⟨(h47 : f 47 = _),_⟩ K hK
   have q4 := (KC.out.later hb).c 4 rfl;simp only [ov,oL,h47];go_simp;exact hK _ _ ⟨_,rfl,by simp only [ov,oL,h47]; rfl,brf⟩
  ·rintro f w1 hb ⟨(h49 : f 49 = _),_⟩ K hK
   simp only [ov,oL,h49];go_simp;exact hK _ _ ⟨_,rfl,by simp only [ov,oL,h49]; rfl,brf⟩
  ·rintro f w1 hb ⟨(h50 : f 50 = _),_⟩ K hK
   simp only [ov,oL,h50];go_simp;exact hK _ _ ⟨_,rfl,by simp only [ov,oL,h50]; rfl,brf⟩
  ·rintro f w1 hb ⟨(h51 : f 51 = _),_⟩ K hK
   simp only [ov,oL,h51];go_simp;exact hK _ _ ⟨_,rfl,by simp only [ov,oL,h51]; rfl,brf⟩
  ·rintro f w1 hb ⟨(h52 : f 52 = _),_⟩ K hK
   simp only [ov,oL,h52];go_simp;exact hK _ _ ⟨_,rfl,by simp only [ov,oL,h52]; rfl,brf⟩
  ·rintro f w1 hb ⟨(h53 : f 53 = _),_⟩ K hK
   have q6 := (KB.out.later hb).c 6 rfl;simp only [ov,oL,h53];go_simp;exact hK _ _ ⟨_,rfl,by simp only [ov,oL,h53]; rfl,brf⟩
  ·rintro f w1 hb ⟨(h48 : f 48 = _),(h54 : f 54 = _),_⟩ K hK
   simp only [ov,oL,h48,h54];go_simp;exact hK _ _ ⟨_,(congrArg (Value.int .i64) HMW.out),by simp only [ov,oL,h48,h54]; rfl,brf⟩
  ·rintro f w1 hb ⟨(h55 : f 55 = _),_⟩ K hK
   simp only [ov,oL,h55];go_simp;refine (HU.out _).mono ?_;rintro e w2 ⟨rfl,hb2⟩;exact hK _ _ ⟨_,rfl,by simp only [ov,oL,h55]; rfl,by rw [hb2]; exact brf⟩
 ·intro fr w1 hb1 hv
  have h46 : fr 46 = ptr B := hv.1;have h56 : fr 56 = .int .i64 t := hv.2.2.2.2.2.2.2.2.2.2.1;have HK1 : Hid (Kpt (BM B M) w w1) := Kpt.of_below (below_on HB0.out hb1);have HP1 := (show Hid _ from HP.out w1 hb1);simp only [oeq,oL,h46,h56,Nat.reduceAdd];clear hv h46 h56 hb1
  go_wp2_with fail
  refine Calls.mono HP1.out ?_;rintro e w2 hP;obtain ⟨rfl,f1,hd,hk1,ho⟩ := hP;have HF := (show Hid (ObP a B M r f ⟨7,x,y,z,u⟩ w (.returned (er a (obE r f ⟨7,x,y,z,u⟩))) w2) from ObP.back ⟨rfl,f1,hd,hk1,ho⟩ HK1.out);clear hd hk1 ho;go_wp2;refine HKK.out _ _ ?_;go_wp2;go_ret;exact HF.out
theorem info29 : (Tryz.prog.info? 44).map (·.size) = some 9 := by kernel_rfl
theorem load29 {Z : Nat} {f : Fm} {w : World} (h : Bk Z (fc f) w) : (loadVar 44 ⟨Z,0,none⟩).run Tryz.prog w = .ok (fv f) w :=
 run_loadVar_mid (P := Tryz.prog) w Z 0 44 (fc f) _ h.range Tryz.underlying44 rfl info29
theorem Bd.setF {B M : Nat} {r : Rg} {f1 : Fm} {w : World} (h : Bd B M r f1 w) (f : Fm) : Bd B M r f (w.setCells B 12 (fc f)) ∧ Kpt (BM B M) w (w.setCells B 12 (fc f)) := by
 obtain ⟨h1,k1⟩ := h.set 12 (.bool f.hm) (f' := { f1 with hm := f.hm }) rfl;obtain ⟨h2,k2⟩ := h1.set3 f.pt;obtain ⟨h3,k3⟩ := h2.set 16 (.int .i64 f.pl) (f' := { f1 with hm := f.hm,pt := f.pt,pl := f.pl }) rfl;obtain ⟨h4,k4⟩ := h3.set 17 (.bool f.tp) (f' := { f1 with hm := f.hm,pt := f.pt,pl := f.pl,tp := f.tp }) rfl;obtain ⟨h5,k5⟩ := h4.set 18 (.int .i64 f.ht) (f' := { f1 with hm := f.hm,pt := f.pt,pl := f.pl,tp := f.tp,ht := f.ht }) rfl;obtain ⟨h6,k6⟩ := h5.set 19 (.int .i64 f.tu) (f' := { f1 with hm := f.hm,pt := f.pt,pl := f.pl,tp := f.tp,ht := f.ht,tu := f.tu }) rfl;obtain ⟨h7,k7⟩ := h6.set 20 (.int .i64 f.tk) (f' := f) rfl;exact ⟨h7,(((((k1.trans k2).trans k3).trans k4).trans k5).trans k6).trans k7⟩
theorem obey_any (a : Nat → Addr) (n B M : Nat) (r : Rg) (f : Fm) (c : Cm) (w : World) (h : Bd B M r f w) (hg : Gl a n w) (hB : n ≤ B) (hM : n ≤ M) (hr : RgOk r) (hf : FmOk r f) (hc : chkM c = 0) : Calls Tryz.prog 95 #[ptr B,cmv c] w (ObP a B M r f c w) := by
 obtain ⟨h1,_,h3⟩ := chk_ok hc;have hk : c.k = 1 ∨ c.k = 2 ∨ c.k = 3 ∨ c.k = 4 ∨ c.k = 5 ∨ c.k = 6 ∨ c.k = 7 ∨ c.k = 8 := by omega
 rcases hk with hk | hk | hk | hk | hk | hk | hk | hk
 ·exact obey_1 a n B M r f c w h hg hB hM hr hf hk
 ·exact obey_2 a n B M r f c w h hg hB hM hr hf hk
 ·exact obey_3 a n B M r f c w h hg hB hM hr hf hk h3
 ·exact obey_4 a n B M r f c w h hg hf hk
 ·exact obey_5 a n B M r f c w h hg hf hk
 ·exact obey_6 a B M r f c w h hf hk
 ·exact obey_7 a n B M r f c w h hg hr hf hk h3
 ·exact obey_8 a B M r f c w h hf hk
theorem checkM (c : Cm) (w : World) (hT : WT w) : CR 88 #[cmv c] w (.int .i64 (chkM c)) := check_any c.k c.x c.y c.z c.v w hT
theorem do_a (a : Nat → Addr) (n B M : Nat) (r : Rg) (f : Fm) (c : Cm) (w : World) (h : Bd B M r f w) (hg : Gl a n w) (hc : chkM c ≠ 0) : Calls Tryz.prog 44 #[ptr B,cmv c] w fun e w' => e = .returned (.int .i64 (chkM c)) ∧ Bd B M r f w' ∧ Kpt (BM B M) w w' := by
 have HB0 : Hid (bw w (w.alloc (cmo c))) := one_new _ _;have KC0 : Hid (Bk w.heap.size (cmc c) (w.alloc (cmo c))) := Bk.new w (cmc c) 49 w.heap.size rfl;have HD0 : Hid (Bd B M r f (w.alloc (cmo c))) := h.later HB0.out;have HG0 : Hid (Gl a n (w.alloc (cmo c))) := hg.later HB0.out;have HC : Hid (∀ W,WT W → CR 88 #[cmv c] W (.int .i64 (chkM c))) := checkM c;obtain ⟨x,hx⟩ : ∃ x,x = chkM c := ⟨_,rfl⟩;rw [← hx] at HC hc;rw [← hx];clear hx h hg
 go_enter Tryz.func44,Tryz.ntmps44
 go_wp2_with fail
 refine (HC.out _ HG0.out.wt).mono ?_;rintro e w1 ⟨rfl,hb1⟩;have HF := (show Hid (Bd B M r f w1 ∧ Kpt (BM B M) w w1) from ⟨HD0.out.later hb1,Kpt.of_below (below_on HB0.out hb1)⟩);clear hb1;go_wp2;go_ret;exact ⟨rfl,HF.out⟩
theorem do_b (a : Nat → Addr) (n B M : Nat) (r : Rg) (f : Fm) (c : Cm) (w : World) (h : Bd B M r f w) (hg : Gl a n w) (hB : n ≤ B) (hM : n ≤ M) (hr : RgOk r) (hf : FmOk r f) (hc : chkM c = 0) : Calls Tryz.prog 44 #[ptr B,cmv c] w fun e w' => e = .returned (.int .i64 (numE (obE r f c))) ∧ Bd B M r (if obE r f c = none then obF r f c else f) w' ∧ Kpt (BM B M) w w' := by
 have HB0 : Hid (bw w (w.alloc (cmo c))) := one_new _ _;have KC0 : Hid (Bk w.heap.size (cmc c) (w.alloc (cmo c))) := Bk.new w (cmc c) 49 w.heap.size rfl;have HD0 : Hid (Bd B M r f (w.alloc (cmo c))) := h.later HB0.out;have HG0 : Hid (Gl a n (w.alloc (cmo c))) := hg.later HB0.out;have HC : Hid (∀ W,WT W → CR 88 #[cmv c] W (.int .i64 (chkM c))) := checkM c;rw [hc] at HC;obtain ⟨fz,hfz⟩ : ∃ x,x = if obE r f c = none then obF r f c else f := ⟨_,rfl⟩;rw [← hfz];have HZ := hdd hfz;clear hfz;have HO : Hid (∀ W,Bd B M r f W → Gl a n W → Calls Tryz.prog 95 #[ptr B,cmv c] W (ObP a B M r f c W)) := fun W h1 h2 => obey_any a n B M r f c W h1 h2 hB hM hr hf hc;have HN : Hid (∀ W,Gl a n W → Calls Tryz.prog 43 #[er a (obE r f c)] W fun e w' => e = .returned (.int .i64 (numE (obE r f c))) ∧ w' = W) := fun W h1 => number_any a n _ W h1 fun i hi => obE_lt hi;have HBM : Hid (n ≤ B ∧ n ≤ M) := ⟨hB,hM⟩
 have HCb : Hid (¬ BM B M w.heap.size) := by have := h.bk.1; have := h.tm.lt; intro e; rcases e with e | e <;> omega
 obtain ⟨C,hC⟩ : ∃ b,b = w.heap.size := ⟨_,rfl⟩;rw [← hC] at KC0 HCb;clear h hg hr hf
 go_enter Tryz.func44,Tryz.ntmps44
 go_wp2_with fail
 simp only [← hC];clear hC;refine (HC.out _ HG0.out.wt).mono ?_;rintro e w1 ⟨rfl,hb1⟩;have HK1 : Hid (Kpt (BM B M) w w1) := Kpt.of_below (below_on HB0.out hb1);have HD1 := hdd (HD0.out.later hb1);have KC1 := hdd (KC0.out.later hb1);have HG1 := hdd (HG0.out.later hb1);clear hb1 HB0 KC0 HD0 HG0;obtain ⟨w2,hw2⟩ : ∃ x,x = w1.alloc (fo f) := ⟨_,rfl⟩;have HD2 : Hid (Bd B M r f w2) := by show Bd _ _ _ _ _; rw [hw2]; exact HD1.out.later (one_new _ _)
 have HK2 : Hid (Kpt (BM B M) w w2) := by show Kpt _ _ _; rw [hw2]; exact HK1.out.onB (one_new _ _)
 have HG2 : Hid (Gl a n w2) := by show Gl _ _ _; rw [hw2]; exact HG1.out.later (one_new _ _)
 have KA2 : Hid (Bk w1.heap.size (fc f) w2) := by show Bk _ _ _; rw [hw2]; exact Bk.new w1 (fc f) 44 w1.heap.size rfl
 have HA2 : Hid (¬ BM B M w1.heap.size) := by have := HD1.out.bk.1; have := HD1.out.tm.lt; intro e; rcases e with e | e <;> omega
 obtain ⟨A,hA⟩ : ∃ b,b = w1.heap.size := ⟨_,rfl⟩;rw [← hA] at KA2 HA2;have q12 := HD1.out.bk.c 12 rfl;have q13 := HD1.out.bk.c 13 rfl;have q14 := HD1.out.bk.c 14 rfl;have q15 := HD1.out.bk.c 15 rfl;have q16 := HD1.out.bk.c 16 rfl;have q17 := HD1.out.bk.c 17 rfl;have q18 := HD1.out.bk.c 18 rfl;have q19 := HD1.out.bk.c 19 rfl;have q20 := HD1.out.bk.c 20 rfl;have c0 := KC1.out.c 0 rfl;have c1 := KC1.out.c 1 rfl;have c2 := KC1.out.c 2 rfl;have c3 := KC1.out.c 3 rfl;have c4 := KC1.out.c 4 rfl;have hBw : B < w1.heap.size := HD1.out.bk.1;have hCw : C < w1.heap.size := KC1.out.1
 go_wp2_with (refine wpList_store_new rfl 44 _ _ rfl w1 w1.heap.size _ _ rfl rfl rfl rfl info29 rfl (by kernel_rfl) ?_)
 simp only [show w1.alloc (.cells #[.bool f.hm,.int .i64 f.pt.x,.int .i64 f.pt.y,.int .i64 f.pt.z,.int .i64 f.pl,.bool f.tp,.int .i64 f.ht,.int .i64 f.tu,.int .i64 f.tk] 44) = w2 from hw2.symm,← hA];clear hw2 hA hBw hCw q12 q13 q14 q15 q16 q17 q18 q19 q20 c0 c1 c2 c3 c4 KC1 HD1 HK1 HG1;refine Calls.mono (HO.out _ HD2.out HG2.out) ?_;rintro e w3 hP;obtain ⟨rfl,f1,hd3,hk3,ho⟩ := hP;have HD3 := hdd hd3;have HK3 := hdd (HK2.out.trans hk3);have HG3 := hdd (HG2.out.onB hk3 HBM.out.1 HBM.out.2);have KA3 : Hid (Bk A (fc f) w3) := bk_kpt KA2.out hk3 HA2.out;clear hd3 hk3 HD2 HK2 HG2 KA2
 cases hob : obE r f c with
 | none =>
  have HN3 := HN.out w3 HG3.out;have HF1 : Hid (f1 = obF r f c) := ho hob;rw [hob] at HN3;have HN4 := (show Hid (Calls Tryz.prog 43 #[.nilIface] w3 fun e w' => e = .returned (.int .i64 (numE none)) ∧ w' = w3) from HN3);clear ho HN3;simp only [er]
  go_wp2_with fail
  refine Calls.mono HN4.out ?_;rintro e w4 ⟨rfl,hw4⟩;subst hw4;go_wp2;go_ret;exact ⟨by rw [hob]; rfl,by rw [HZ.out,if_pos hob,← HF1.out]; exact HD3.out,HK3.out⟩
 | some i =>
  rw [hob] at HN;clear ho;have HS := HD3.out.setF f;obtain ⟨w4,hw4⟩ : ∃ x,x = w3.setCells B 12 (fc f) := ⟨_,rfl⟩;rw [← hw4] at HS;have hw5 : w4 = (((((((((w3.setCell ⟨B,12,none⟩ (.bool f.hm)).setCell ⟨B,13,none⟩ (.int .i64 f.pt.x)).setCell ⟨B,14,none⟩ (.int .i64 f.pt.y)).setCell ⟨B,15,none⟩ (.int .i64 f.pt.z)).setCell ⟨B,16,none⟩ (.int .i64 f.pl)).setCell ⟨B,17,none⟩ (.bool f.tp)).setCell ⟨B,18,none⟩ (.int .i64 f.ht)).setCell ⟨B,19,none⟩ (.int .i64 f.tu)).setCell ⟨B,20,none⟩ (.int .i64 f.tk)) := hw4;have HD4 : Hid (Bd B M r f w4) := HS.1;have HK4 := hdd (HK3.out.trans HS.2);have HG4 := hdd (HG3.out.onB HS.2 HBM.out.1 HBM.out.2);clear HS;have HN4 := (show Hid (Calls Tryz.prog 43 #[.iface 387 (.pointer (some (a i)))] w4 fun e w' => e = .returned (.int .i64 (numE (some i))) ∧ w' = w4) from HN.out _ HG4.out);clear HN;have d0 := KA3.out.c 0 rfl;have d1 := KA3.out.c 1 rfl;have d2 := KA3.out.c 2 rfl;have d3 := KA3.out.c 3 rfl;have d4 := KA3.out.c 4 rfl;have d5 := KA3.out.c 5 rfl;have d6 := KA3.out.c 6 rfl;have d7 := KA3.out.c 7 rfl;have d8 := KA3.out.c 8 rfl;have b12 := HD3.out.bk.c 12 rfl;have z12 := HD3.out.bk.f 12 rfl;have b13 := HD3.out.bk.c 13 rfl;have z13 := HD3.out.bk.f 13 rfl;have b14 := HD3.out.bk.c 14 rfl;have z14 := HD3.out.bk.f 14 rfl;have b15 := HD3.out.bk.c 15 rfl;have z15 := HD3.out.bk.f 15 rfl;have b16 := HD3.out.bk.c 16 rfl;have z16 := HD3.out.bk.f 16 rfl;have b17 := HD3.out.bk.c 17 rfl;have z17 := HD3.out.bk.f 17 rfl;have b18 := HD3.out.bk.c 18 rfl;have z18 := HD3.out.bk.f 18 rfl;have b19 := HD3.out.bk.c 19 rfl;have z19 := HD3.out.bk.f 19 rfl;have b20 := HD3.out.bk.c 20 rfl;have z20 := HD3.out.bk.f 20 rfl;clear hw4;simp only [er]
  go_wp2_with fail
  simp only [← hw5];clear hw5;refine Calls.mono HN4.out ?_;rintro e w5 ⟨rfl,hw6⟩;subst hw6;go_wp2;go_ret;exact ⟨by rw [hob]; rfl,by rw [HZ.out,if_neg (by rw [hob]; simp)]; exact HD4.out,HK4.out⟩
theorem do_any (a : Nat → Addr) (n B M : Nat) (r : Rg) (f : Fm) (c : Cm) (w : World) (h : Bd B M r f w) (hg : Gl a n w) (hB : n ≤ B) (hM : n ≤ M) (hr : RgOk r) (hf : FmOk r f) : Calls Tryz.prog 44 #[ptr B,cmv c] w fun e w' => e = .returned (.int .i64 (doN r f c)) ∧ Bd B M r (doF r f c) w' ∧ Kpt (BM B M) w w' := by
 by_cases hc : chkM c = 0
 ·have e1 : doN r f c = numE (obE r f c) := by unfold doN; rw [if_pos hc]
  have e2 : doF r f c = if obE r f c = none then obF r f c else f := by
   unfold doF;rw [e1];have := numE_zero (o := obE r f c) fun i hi => obE_lt hi
   by_cases hn : obE r f c = none
   ·rw [if_pos (this.2 hn),if_pos hn]
   ·rw [if_neg (fun h => hn (this.1 h)),if_neg hn]
  rw [e1,e2];exact do_b a n B M r f c w h hg hB hM hr hf hc
 ·have e1 : doN r f c = chkM c := by unfold doN; rw [if_neg hc]
  have e2 : doF r f c = f := by unfold doF; rw [e1,if_neg hc]
  rw [e1,e2];exact do_a a n B M r f c w h hg hc
abbrev zfo : Obj := .cells #[.bool false,.int .i64 0,.int .i64 0,.int .i64 0,.int .i64 0,.bool false,.int .i64 0,.int .i64 0,.int .i64 0] 44
abbrev zfc : List Value := [.bool false,.int .i64 0,.int .i64 0,.int .i64 0,.int .i64 0,.bool false,.int .i64 0,.int .i64 0,.int .i64 0]
abbrev zfv : Value := .agg #[.bool false,.int .i64 0,.int .i64 0,.int .i64 0,.int .i64 0,.bool false,.int .i64 0,.int .i64 0,.int .i64 0]
end Go.Proofs.YtcajifelbldjnaaGreatDoor.K
namespace Go.Proofs.YtcajifelbldjnaaGreatDoor.K
open Go.RowKit
theorem dur_nn {r : Rg} {f : Fm} {c : Cm} (hr : RgOk r) (hf : FmOk r f) (hc : chkM c = 0) (he : errC r f c = none) : 0 ≤ durC r f c := by
 obtain ⟨_,_,hv⟩ := chk_ok hc;have hrp := rpOk_iff.1 hr.rp;unfold durC
 split
 ·unfold homeT
  split
  ·exact (tick_bd hr hf.at' (in_zero hr)).1
  ·exact (tick_bd hr (in_hi hr) (in_lo hr)).1
 ·split
  ·rename_i h2
   have hp : inS r (toP c) = true := by
    cases h : inS r (toP c) with
    | true => rfl
    | false =>
     unfold errC at he;simp [h2,h] at he
     split at he <;> cases he
   exact (tick_bd hr hf.at' hp).1
  ·split
   ·exact (upB_bd (by unfold chg; omega) (by decide)).1
   ·split
    ·exact (upB_bd (Int.mul_nonneg hv.1 (by omega)) (by decide)).1
    ·exact Int.le_refl _
theorem obE_split {r : Rg} {f : Fm} {c : Cm} (h : obE r f c = none) : errC r f c = none ∧ f.tk + durC r f c ≤ 1000000000000000 := by
 unfold obE at h
 cases e : errC r f c with
 | some i => rw [e] at h; cases h
 | none =>
  rw [e] at h;simp only at h
  split at h
  ·cases h
  ·rename_i h1
   exact ⟨rfl,by omega⟩
theorem keep_ok {r : Rg} {f : Fm} {c : Cm} (hr : RgOk r) (hf : FmOk r f) (hc : chkM c = 0) (ho : obE r f c = none) : FmOk r (obF r f c) ∧ f.tk ≤ (obF r f c).tk := by
 obtain ⟨hk,_,hv⟩ := chk_ok hc;obtain ⟨he,hl⟩ := obE_split ho;have hd := dur_nn hr hf hc he;have htk := hf.tk;have hmo := hr.mo;unfold obF
 split
 ·exact ⟨⟨in_zero hr,.inl rfl,hf.pl,hf.ht,hf.tu,by simp only; omega⟩,by simp only; omega⟩
 ·split
  ·rename_i h2
   have hh : f.hm = true ∧ inS r (toP c) = true := by
    unfold errC at he;rw [if_pos h2] at he
    split at he
    ·cases he
    ·rename_i h3
     split at he
     ·cases he
     ·rename_i h4
      exact ⟨by simpa using h3,by simpa using h4⟩
   exact ⟨⟨hh.2,.inl hh.1,hf.pl,hf.ht,hf.tu,by simp only; omega⟩,by simp only; omega⟩
  ·split
   ·rename_i h1 h2 h3
    have hm : c.v ≤ r.mo := by
     unfold errC at he;rw [if_neg h2,if_pos h3] at he
     split at he
     ·cases he
     ·split at he
      ·cases he
      ·split at he
       ·cases he
       ·omega
    exact ⟨⟨hf.at',hf.hm,⟨hv.1,hm⟩,hf.ht,hf.tu,by simp only; omega⟩,by simp only; omega⟩
   ·split
    ·exact ⟨⟨hf.at',hf.hm,by simp only; omega,hf.ht,hf.tu,hf.tk⟩,Int.le_refl _⟩
    ·split
     ·exact ⟨⟨hf.at',hf.hm,by simp only; omega,hf.ht,hf.tu,hf.tk⟩,Int.le_refl _⟩
     ·split
      ·exact ⟨⟨hf.at',hf.hm,hf.pl,hv,hf.tu,hf.tk⟩,Int.le_refl _⟩
      ·split
       ·exact ⟨⟨hf.at',hf.hm,hf.pl,hf.ht,hf.tu,by simp only; omega⟩,by simp only; omega⟩
       ·split
        ·exact ⟨⟨hf.at',hf.hm,hf.pl,hf.ht,hv,hf.tk⟩,Int.le_refl _⟩
        ·exact ⟨hf,Int.le_refl _⟩
def r1 : Rg := ⟨p0,⟨9,9,9⟩,⟨10,1,2,0⟩,1,5⟩
def c1 : Cm := ⟨1,0,0,0,0⟩
def f1 : Fm := ⟨true,p0,0,false,0,0,90⟩
end Go.Proofs.YtcajifelbldjnaaGreatDoor.K
namespace Go.Proofs.YtcajifelbldjnaaGreatDoor.K
open Go.RowKit Go.Maps
def RdC (w : World) (ao : Option Addr) (l : List Cm) : Prop :=
 l = [] ∨ ∃ b o,ao = some ⟨b,o,none⟩ ∧ b < w.heap.size ∧ ∀ i (h : i < l.length),w.cell? ⟨b,o + i * 5,none⟩ = some (.int .i64 (l[i]'h).k) ∧ w.cell? ⟨b,o + i * 5 + 1,none⟩ = some (.int .i64 (l[i]'h).x) ∧ w.cell? ⟨b,o + i * 5 + 2,none⟩ = some (.int .i64 (l[i]'h).y) ∧ w.cell? ⟨b,o + i * 5 + 3,none⟩ = some (.int .i64 (l[i]'h).z) ∧ w.cell? ⟨b,o + i * 5 + 4,none⟩ = some (.int .i64 (l[i]'h).v)
theorem RdC.low {w w1 : World} {ao : Option Addr} {l : List Cm} {N : Nat} (h : RdC w ao l) (hb : Below N w w1) (hN : ∀ b o,ao = some ⟨b,o,none⟩ → b < N) : RdC w1 ao l := by
 rcases h with h | ⟨b,o,h1,h2,h3⟩
 ·exact .inl h
 ·have hl := hN b o h1
  have hc : ∀ k v,w.cell? ⟨b,k,none⟩ = some v → w1.cell? ⟨b,k,none⟩ = some v := fun k v hv => (World.cell?_of_block (hb.block b hl)).trans hv;exact .inr ⟨b,o,h1,Nat.lt_of_lt_of_le h2 hb.size,fun i hi => ⟨hc _ _ (h3 i hi).1,hc _ _ (h3 i hi).2.1,hc _ _ (h3 i hi).2.2.1,hc _ _ (h3 i hi).2.2.2.1,hc _ _ (h3 i hi).2.2.2.2⟩⟩
theorem RdC.later {w w1 : World} {ao : Option Addr} {l : List Cm} (h : RdC w ao l) (hb : bw w w1) : RdC w1 ao l := by
 rcases h with h | ⟨b,o,h1,h2,h3⟩
 ·exact .inl h
 ·exact RdC.low (.inr ⟨b,o,h1,h2,h3⟩) hb fun b' o' e => by
   rw [h1] at e;injection e with e;injection e with e1 e2;omega
theorem RdC.at {w : World} {ao : Option Addr} {l : List Cm} (h : RdC w ao l) {i : Nat} (hi : i < l.length) : ∃ b o,ao = some ⟨b,o,none⟩ ∧ b < w.heap.size ∧ w.cell? ⟨b,o + i * 5,none⟩ = some (.int .i64 (l[i]'hi).k) ∧ w.cell? ⟨b,o + i * 5 + 1,none⟩ = some (.int .i64 (l[i]'hi).x) ∧ w.cell? ⟨b,o + i * 5 + 2,none⟩ = some (.int .i64 (l[i]'hi).y) ∧ w.cell? ⟨b,o + i * 5 + 3,none⟩ = some (.int .i64 (l[i]'hi).z) ∧ w.cell? ⟨b,o + i * 5 + 4,none⟩ = some (.int .i64 (l[i]'hi).v) := by
 rcases h with h | ⟨b,o,h1,h2,h3⟩
 ·subst h; simp at hi
 ·exact ⟨b,o,h1,h2,h3 i hi⟩
def runC (r : Rg) : Fm → Nat → List Cm → Fm × Nat × Int
 | f,k,[] => (f,k,0)
 | f,k,c :: l => if doN r f c = 0 then runC r (doF r f c) (k + 1) l else (f,k,doN r f c)
theorem doF_ok {r : Rg} {f : Fm} {c : Cm} (hr : RgOk r) (hf : FmOk r f) : FmOk r (doF r f c) := by
 unfold doF
 split
 ·rename_i h
  unfold doN at h
  split at h
  ·rename_i hc
   exact (keep_ok hr hf hc ((numE_zero (o := obE r f c) fun i hi => obE_lt hi).1 h)).1
  ·rename_i hc
   exact absurd h hc
 ·exact hf
structure RnI (a : Nat → Addr) (n : Nat) (r : Rg) (l : List Cm) (B M Z : Nat) (ao : Option Addr) (w : World) (k : Nat) (f : Fm) (W : World) : Prop where
 bd : Bd B M r f W
 gl : Gl a n W
 z : Bk Z zfc W
 rd : RdC W ao l
 low : bw w W
 ok : FmOk r f
 rest : runC r f0 0 l = runC r f k (l.drop k)
theorem Run_b (a : Nat → Addr) (n : Nat) (r : Rg) (ao : Option Addr) (cap : Nat) (l : List Cm) (w : World) (hg : Gl a n w) (h : rgOk r = true) (hR : RdC w ao l) (hl : l.length ≤ 1152921504606846976) :
  CR 17 #[rgv r,.slice ao l.length cap] w (.tuple #[fv (runC r f0 0 l).1,.int .i64 ((runC r f0 0 l).2.1 : Nat),.int .i64 (runC r f0 0 l).2.2]) := by
 obtain ⟨w0,hw0⟩ : ∃ x,x = (w.alloc (rgo r)).alloc zfo := ⟨_,rfl⟩;have HB0 : Hid (bw w w0) := by show Below _ _ _; rw [hw0]; exact two_new _ _ _
 have KZ0 : Hid (Bk (w.heap.size + 1) zfc w0) := by show Bk _ _ _; rw [hw0]; exact Bk.new (w.alloc (rgo r)) zfc 44 (w.heap.size + 1) (by simp)
 have HG0 : Hid (Gl a n w0) := hg.later HB0.out;obtain ⟨Z,hZ⟩ : ∃ b,b = w.heap.size + 1 := ⟨_,rfl⟩;rw [← hZ] at KZ0;have hZw : w.heap.size ≤ Z := by omega
 have hn0 : n ≤ w.heap.size := hg.size;obtain ⟨RV,hRV⟩ : ∃ x,x = runC r f0 0 l := ⟨_,rfl⟩;have HRV := hdd hRV;rw [← hRV];clear hRV;have HRg : Hid (RgOk r) := rgOk_iff.1 h;have HN : Hid (∀ W,Calls Tryz.prog 42 #[rgv r,zfv] W fun e w' => ∃ M,e = .returned (.tuple #[bdv r f0 M,.nilIface]) ∧ W.heap.size ≤ M ∧ TM r.rp M w' ∧ bw W w') := fun W => newBoard_c r f0 W h (fmOk_iff.2 (f0_ok (rgOk_iff.1 h)));have HD : Hid (∀ B M f c W,Bd B M r f W → Gl a n W → n ≤ B → n ≤ M → FmOk r f → Calls Tryz.prog 44 #[ptr B,cmv c] W fun e w' => e = .returned (.int .i64 (doN r f c)) ∧ Bd B M r (doF r f c) w' ∧ Kpt (BM B M) W w') := fun B M f c W h1 h2 h3 h4 h5 => do_any a n B M r f c W h1 h2 h3 h4 (rgOk_iff.1 h) h5;have HRd := hdd hR
 have HLw : Hid (∀ b o,l ≠ [] → ao = some ⟨b,o,none⟩ → b < w.heap.size) := fun b o hne e => by
  rcases hR with h0 | ⟨b',o',h1,h2,_⟩
  ·exact absurd h0 hne
  ·rw [h1] at e; injection e with e; injection e with e1 e2; omega
 clear h hg hR
 go_enter Tryz.func17,Tryz.ntmps17
 go_wp2_with fail
 simp only [← hw0,← hZ];clear hw0 hZ;refine (HN.out _).mono ?_;rintro e w1 ⟨M,rfl,hM,ht,hb1⟩;have HB1 : Hid (bw w w1) := below_on HB0.out hb1;have hM2 : M < w1.heap.size := ht.lt;have hMw : w.heap.size ≤ M := Nat.le_trans HB0.out.size hM;obtain ⟨w2,hw2⟩ : ∃ y,y = w1.alloc (bdo r f0 M) := ⟨_,rfl⟩;have HB2 : Hid (bw w w2) := by show Below _ _ _; rw [hw2]; exact below_on HB1.out (one_new _ _)
 have HI2 : Hid (RnI a n r l w1.heap.size M Z ao w 0 f0 w2) := by
  refine ⟨?_,?_,?_,HRd.out.later HB2.out,HB2.out,f0_ok HRg.out,rfl⟩
  ·rw [hw2]; exact ⟨Bk.new w1 (bdc r f0 M) 104 w1.heap.size rfl,ht.later (one_new _ _),by omega⟩
  ·rw [hw2]; exact (HG0.out.later hb1).later (one_new _ _)
  ·rw [hw2]; exact (KZ0.out.later hb1).later (one_new _ _)
 have hZ1 : Z < w1.heap.size := (KZ0.out.later hb1).1;have hZM : Z ≠ M := by have := KZ0.out.1; omega
 obtain ⟨B,hB⟩ : ∃ b,b = w1.heap.size := ⟨_,rfl⟩;rw [← hB] at HI2;have HX : Hid (n ≤ B ∧ n ≤ M ∧ Z ≠ B ∧ Z ≠ M ∧ w.heap.size ≤ B ∧ w.heap.size ≤ M) := by have := HB1.out.size; show _ ∧ _; omega
 clear hb1 ht hM
 go_wp2_with (refine wpList_store_new rfl 104 _ _ rfl w1 w1.heap.size _ _ rfl rfl rfl rfl info52 rfl (by kernel_rfl) ?_)
 simp only [show w1.alloc (.cells (bdc r f0 M).toArray 104) = w2 from hw2.symm,← hB];clear hw2 hB hM2 hZ1 hZM HN HB0 HB1 HB2 HG0 KZ0 HRd;obtain ⟨len,hlen⟩ : ∃ x,x = l.length := ⟨_,rfl⟩;have HLen := hdd hlen;simp only [← hlen];rw [← hlen] at hl;clear hlen
 go_loopw [25] (fun i wr => ∃ (k : Nat) (f : Fm),k ≤ len ∧ i = .int .i64 (k : Int) ∧ RnI a n r l B M Z ao w k f wr) (fun i _ => len - (intOf i).toNat)
 case atStart => exact ⟨0,f0,Nat.zero_le _,rfl,HI2.out⟩
 case round =>
  obtain ⟨k,f,hk,rfl,hI⟩ := hrel;have HI := hdd hI;clear hI
  by_cases hlt : k < len
  ·have hkl : k < l.length := by rw [← HLen.out]; exact hlt
   obtain ⟨b,off,hao,hbw,e0,e1,e2,e3,e4⟩ := HI.out.rd.at hkl;obtain ⟨c,hc⟩ : ∃ c,c = l[k]'hkl := ⟨_,rfl⟩;have HDr : Hid (l.drop k = c :: l.drop (k + 1)) := by show _ = _; rw [hc]; exact List.drop_eq_getElem_cons hkl
   rw [← hc] at e0 e1 e2 e3 e4;subst hao;obtain ⟨w3,hw3⟩ : ∃ x,x = wr.alloc (cmo c) := ⟨_,rfl⟩;have hb3 : bw wr w3 := by rw [hw3]; exact one_new _ _
   have HB3 := hdd hb3;have HC := HD.out B M f c w3 (HI.out.bd.later hb3) (HI.out.gl.later hb3) HX.out.1 HX.out.2.1 HI.out.ok;have HLb : Hid (b < w.heap.size) := HLw.out b off (fun e => by rw [e] at hkl; simp at hkl) rfl;obtain ⟨x,hx⟩ : ∃ x,x = doN r f c := ⟨_,rfl⟩;have HXx := hdd hx;rw [← hx] at HC;have HC' := (show Hid _ from HC);clear hc hb3 HC hx
   go_wp2_with fail
   simp only [show wr.alloc (.cells #[.int .i64 c.k,.int .i64 c.x,.int .i64 c.y,.int .i64 c.z,.int .i64 c.v] 49) = w3 from hw3.symm];clear hw3 e0 e1 e2 e3 e4 hbw;refine Calls.mono HC'.out ?_;rintro e w4 ⟨rfl,hd4,hk4⟩
   have HB4 : Hid (bw w w4) := (below_on HI.out.low HB3.out).trans (hk4.below (Nat.le_trans HI.out.low.size HB3.out.size) fun k hk => by rcases hk with e | e <;> (have := HX.out; omega))
   have HG4 : Hid (Gl a n w4) := (HI.out.gl.later HB3.out).onB hk4 HX.out.1 HX.out.2.1
   have KZ4 : Hid (Bk Z zfc w4) := bk_kpt (HI.out.z.later HB3.out) hk4 fun e => by rcases e with e | e <;> (have := HX.out; omega)
   by_cases hx0 : x = 0
   ·have HD4 := hdd hd4
    have HI4 : Hid (RnI a n r l B M Z (some ⟨b,off,none⟩) w (k + 1) (doF r f c) w4) := ⟨hd4,HG4.out,KZ4.out,HI.out.rd.low (N := w.heap.size) ((HB3.out.mono HI.out.low.size).trans (hk4.below (Nat.le_trans HI.out.low.size HB3.out.size) fun k hk => by rcases hk with e | e <;> (have := HX.out; omega))) (fun b' o' e => by injection e with e; injection e with e1 e2; have := HLb.out; omega),HB4.out,doF_ok HRg.out HI.out.ok,by rw [HI.out.rest,HDr.out,runC,if_pos (by rw [← HXx.out,hx0])]⟩
    clear hd4 hk4;go_wp2
    go_roundw
    case rel => exact ⟨k + 1,_,by omega,by go_num,HI4.out⟩
    case measure => simp [intOf]; omega
   ·have hfe : doF r f c = f := by unfold doF; rw [if_neg (by rw [← HXx.out]; exact hx0)]
    rw [hfe] at hd4;have HD4 := hdd hd4;have HRe : Hid (RV = (f,k,x)) := by show _ = _; rw [HRV.out,HI.out.rest,HDr.out,runC,if_neg (by rw [← HXx.out]; exact hx0),HXx.out]
    clear hd4 hk4 hfe;have d12 := HD4.out.bk.c 12 rfl;have d13 := HD4.out.bk.c 13 rfl;have d14 := HD4.out.bk.c 14 rfl;have d15 := HD4.out.bk.c 15 rfl;have d16 := HD4.out.bk.c 16 rfl;have d17 := HD4.out.bk.c 17 rfl;have d18 := HD4.out.bk.c 18 rfl;have d19 := HD4.out.bk.c 19 rfl;have d20 := HD4.out.bk.c 20 rfl
    go_wp2_with (refine wpList_store_mid rfl 44 _ _ rfl Z 0 (fc f).toArray rfl rfl (KZ4.out.there (Nat.le_refl _)) info29 (by kernel_rfl) ?_)
    have KZ5 : Hid (Bk Z (fc f) (w4.setCells Z 0 (fc f))) := KZ4.out.setAll _ rfl;have HB5 : Hid (bw w (w4.setCells Z 0 (fc f))) := HB4.out.trans (low_setCells hZw _ _ _);exact bodyPost_ret (v := .tuple #[fv f,.int .i64 (k : Int),.int .i64 x]) (results_ctt Tryz.results17 _ _ _ rfl rfl rfl (load29 KZ5.out)) rfl ⟨by rw [HRe.out],HB5.out⟩
  ·have hke : k = len := by omega
   subst hke;have HRe : Hid (RV = (f,k,0)) := by show _ = _; rw [HRV.out,HI.out.rest,HLen.out,List.drop_length]; rfl
   have KZ4 : Hid (Bk Z zfc wr) := HI.out.z;have HD4 : Hid (Bd B M r f wr) := HI.out.bd;have d12 := HD4.out.bk.c 12 rfl;have d13 := HD4.out.bk.c 13 rfl;have d14 := HD4.out.bk.c 14 rfl;have d15 := HD4.out.bk.c 15 rfl;have d16 := HD4.out.bk.c 16 rfl;have d17 := HD4.out.bk.c 17 rfl;have d18 := HD4.out.bk.c 18 rfl;have d19 := HD4.out.bk.c 19 rfl;have d20 := HD4.out.bk.c 20 rfl
   go_wp2_with (refine wpList_store_mid rfl 44 _ _ rfl Z 0 (fc f).toArray rfl rfl (KZ4.out.there (Nat.le_refl _)) info29 (by kernel_rfl) ?_)
   have KZ5 : Hid (Bk Z (fc f) (wr.setCells Z 0 (fc f))) := KZ4.out.setAll _ rfl;have HB5 : Hid (bw w (wr.setCells Z 0 (fc f))) := HI.out.low.trans (low_setCells hZw _ _ _);exact bodyPost_ret (v := .tuple #[fv f,.int .i64 (k : Int),.int .i64 0]) (results_ctt Tryz.results17 _ _ _ rfl rfl rfl (load29 KZ5.out)) rfl ⟨by rw [HRe.out],HB5.out⟩
end Go.Proofs.YtcajifelbldjnaaGreatDoor.K
namespace Go.Proofs.YtcajifelbldjnaaGreatDoor
open Go.RowKit Go.Maps
theorem fold_set {κ : Type} [DecidableEq κ] {k : κ} {v : Value} : ∀ (L : List (κ × Value)) (g : κ → Option Value),(∀ x ∈ L,x.1 = k → x.2 = v) → (g k = some v ∨ ∃ x ∈ L,x.1 = k) → L.foldl (fun g x => setF g x.1 x.2) g k = some v
 | [],g,_,h => by
  rcases h with h | ⟨x,hx,_⟩
  ·exact h
  ·cases hx
 | x :: r,g,hc,h => by
  rw [List.foldl_cons];refine fold_set r _ (fun y hy => hc y (List.mem_cons_of_mem _ hy)) ?_
  by_cases e : x.1 = k
  ·refine .inl ?_
   unfold setF;rw [if_pos e.symm,hc x (List.mem_cons_self) e]
  ·rcases h with h | ⟨y,hy,e2⟩
   ·refine .inl ?_
    unfold setF;rw [if_neg (fun e3 => e e3.symm)];exact h
   ·rcases List.mem_cons.1 hy with rfl | hy
    ·exact absurd e2 e
    ·exact .inr ⟨y,hy,e2⟩
def pairsS (s : Sit) : List (Std × Value) := (spotsOf s).map fun p => (stdOf s.ware.kind (spotPt s p),plv (spotP s.slot p))
def pairsP (s : Sit) : List (Plc × Value) := (spotsOf s).map fun p => (spotP s.slot p,pvv (spotPt s p))
theorem floorS_pairs : ∀ (ls : List Sit) (g : Std → Option Value),ls.foldl (fun g s => flrS s (spotsOf s) g) g = (ls.flatMap pairsS).foldl (fun g x => setF g x.1 x.2) g
 | [],g => rfl
 | s :: r,g => by
  rw [List.foldl_cons,List.flatMap_cons,List.foldl_append,floorS_pairs r];unfold flrS pairsS;rw [List.foldl_map]
theorem floorP_pairs : ∀ (ls : List Sit) (g : Plc → Option Value),ls.foldl (fun g s => flrP s (spotsOf s) g) g = (ls.flatMap pairsP).foldl (fun g x => setF g x.1 x.2) g
 | [],g => rfl
 | s :: r,g => by
  rw [List.foldl_cons,List.flatMap_cons,List.foldl_append,floorP_pairs r];unfold flrP pairsP;rw [List.foldl_map]
theorem slots_one {l : List Sit} (hd : dchk l = 0) {s t : Sit} (hs : s ∈ l) (ht : t ∈ l) (e : s.slot = t.slot) : s = t := by
 have h1 := seatOf_self (slots_of hd) hs;have h2 := seatOf_self (slots_of hd) ht;rw [e,h2] at h1;injection h1 with h1;exact h1.symm
theorem spot_rng {s : Sit} (h : StOk s) {x : Nat × Nat} (hx : x ∈ spotsOf s) : (0 ≤ s.ware.x + (x.2 : Int) * s.ware.pitch ∧ s.ware.x + (x.2 : Int) * s.ware.pitch ≤ 132500) ∧ (0 ≤ s.ware.y + (x.1 : Int) * s.ware.pitch ∧ s.ware.y + (x.1 : Int) * s.ware.pitch ≤ 90500) := by
 obtain ⟨R,C,hR,hC,h1,h2,_,_⟩ := spotsOf_in h hx;have hin := chk_inR h.chk;have hro := (chk_in h.chk).2.2.2.2.2;simp only [roomOk,Bool.and_eq_true,decide_eq_true_eq] at hro;have q1 : (x.2 : Int) * s.ware.pitch ≤ (s.ware.cols - 1) * s.ware.pitch := Int.mul_le_mul_of_nonneg_right (by omega) hin.p0;have q2 : (x.1 : Int) * s.ware.pitch ≤ (s.ware.rows - 1) * s.ware.pitch := Int.mul_le_mul_of_nonneg_right (by omega) hin.p0;have q3 : 0 ≤ (x.2 : Int) * s.ware.pitch := Int.mul_nonneg (by omega) hin.p0;have q4 : 0 ≤ (x.1 : Int) * s.ware.pitch := Int.mul_nonneg (by omega) hin.p0;have h7 := h.size;have x0 := hin.x0;have y0 := hin.y0;omega
theorem pts_apart {l : List Sit} (hd : dchk l = 0) (hst : ∀ s ∈ l,StOk s) {s t : Sit} (hs : s ∈ l) (ht : t ∈ l) {x y : Nat × Nat} (hx : x ∈ spotsOf s) (hy : y ∈ spotsOf t) (e : spotPt s x = spotPt t y) : s = t ∧ x = y := by
 have a1 := spot_rng (hst s hs) hx;have a2 := spot_rng (hst t ht) hy;have b1 := (hst s hs).slot;have b2 := (hst t ht).slot;have ex : cx s.slot + (s.ware.x + (x.2 : Int) * s.ware.pitch) = cx t.slot + (t.ware.x + (y.2 : Int) * t.ware.pitch) := congrArg S.Pt.x e;have ey : cy s.slot + (s.ware.y + (x.1 : Int) * s.ware.pitch) = cy t.slot + (t.ware.y + (y.1 : Int) * t.ware.pitch) := congrArg S.Pt.y e
 have hst2 : s = t := by
  refine slots_one hd hs ht ?_;generalize s.ware.x + (x.2 : Int) * s.ware.pitch = A at *;generalize t.ware.x + (y.2 : Int) * t.ware.pitch = B at *;generalize s.ware.y + (x.1 : Int) * s.ware.pitch = C at *;generalize t.ware.y + (y.1 : Int) * t.ware.pitch = D at *;unfold cx at ex;unfold cy at ey;omega
 subst hst2;refine ⟨rfl,?_⟩;obtain ⟨R,C,hR,hC,h1,h2,_,_⟩ := spotsOf_in (hst s hs) hx;obtain ⟨R2,C2,hR2,hC2,h3,h4,_,_⟩ := spotsOf_in (hst s hs) hy;have e1 : (x.2 : Int) * s.ware.pitch = (y.2 : Int) * s.ware.pitch := by omega
 have e2 : (x.1 : Int) * s.ware.pitch = (y.1 : Int) * s.ware.pitch := by omega
 have hrg := (chk_in (hst s hs).chk).2.2.2.2.1;simp only [rangeOk,List.all_cons,List.all_nil,Bool.and_true,Bool.and_eq_true,inR_iff] at hrg;have hp := hrg.1.2.1.1
 by_cases hm : 1 < s.ware.rows * s.ware.cols
 ·have hl : loP s.ware = 1 := if_pos hm
  have hne : s.ware.pitch ≠ 0 := by omega
  have f1 := Int.eq_of_mul_eq_mul_right hne e1;have f2 := Int.eq_of_mul_eq_mul_right hne e2;exact Prod.ext (by omega) (by omega)
 ·have hRC : (R : Int) * C ≤ 1 := by rw [← hR,← hC]; omega
  have g1 : R ≤ 1 := by
   have : (R : Int) * 1 ≤ (R : Int) * C := Int.mul_le_mul_of_nonneg_left (by omega) (by omega);omega
  have g2 : C ≤ 1 := by
   have : 1 * (C : Int) ≤ (R : Int) * C := Int.mul_le_mul_of_nonneg_right (by omega) (by omega);omega
  exact Prod.ext (by omega) (by omega)
theorem floor_at {l ls : List Sit} (hd : dchk l = 0) (hst : ∀ s ∈ l,StOk s) (hp : ls.Perm l) {s : Sit} (hs : s ∈ l) {x : Nat × Nat} (hx : x ∈ spotsOf s) :
  ptQ ls (spotP s.slot x) = spotPt s x ∧ floorS ls (stdOf s.ware.kind (spotPt s x)) = some (plv (spotP s.slot x)) := by
 have hP : floorP ls (spotP s.slot x) = some (pvv (spotPt s x)) := by
  unfold floorP;rw [floorP_pairs];refine fold_set _ _ (fun y hy e => ?_) (.inr ⟨(spotP s.slot x,pvv (spotPt s x)),List.mem_flatMap.2 ⟨s,hp.symm.subset hs,List.mem_map.2 ⟨x,hx,rfl⟩⟩,rfl⟩);obtain ⟨t,ht,hy⟩ := List.mem_flatMap.1 hy;obtain ⟨z,hz,rfl⟩ := List.mem_map.1 hy;have e : spotP t.slot z = spotP s.slot x := e;have e0 : t.slot = s.slot := congrArg Prod.fst e;have := slots_one hd (hp.subset ht) hs e0;subst this;have e1 : (z.1 : Int) = x.1 := congrArg (fun q => q.2.1) e;have e2 : (z.2 : Int) = x.2 := congrArg (fun q => q.2.2) e;have : z = x := Prod.ext (by omega) (by omega);rw [this]
 refine ⟨?_,?_⟩
 ·rw [floorP_ofQ] at hP
  unfold ofQ at hP;unfold ptQ
  cases hq : floorQ ls (spotP s.slot x) with
  | none => rw [hq] at hP; cases hP
  | some q =>
   rw [hq] at hP;have h1 : pvv q = pvv (spotPt s x) := Option.some.inj hP;simp only [Value.agg.injEq,Array.mk.injEq,List.cons.injEq,Value.int.injEq,true_and,and_true] at h1;obtain ⟨qx,qy,qz⟩ := q;obtain ⟨a,b,c⟩ := h1;show S.Pt.mk qx qy qz = spotPt s x;rw [show qx = _ from a,show qy = _ from b,show qz = _ from c]
 ·unfold floorS
  rw [floorS_pairs];refine fold_set _ _ (fun y hy e => ?_) (.inr ⟨(stdOf s.ware.kind (spotPt s x),plv (spotP s.slot x)),List.mem_flatMap.2 ⟨s,hp.symm.subset hs,List.mem_map.2 ⟨x,hx,rfl⟩⟩,rfl⟩);obtain ⟨t,ht,hy⟩ := List.mem_flatMap.1 hy;obtain ⟨z,hz,rfl⟩ := List.mem_map.1 hy;have e : stdOf t.ware.kind (spotPt t z) = stdOf s.ware.kind (spotPt s x) := e
  have e3 : spotPt t z = spotPt s x := by
   have i1 : (spotPt t z).x = (spotPt s x).x := congrArg (fun q => q.2.1) e;have i2 : (spotPt t z).y = (spotPt s x).y := congrArg (fun q => q.2.2.1) e;have i3 : (spotPt t z).z = (spotPt s x).z := congrArg (fun q => q.2.2.2) e;generalize spotPt t z = u at *;generalize spotPt s x = v at *;obtain ⟨_,_,_⟩ := u;obtain ⟨_,_,_⟩ := v;simp only at i1 i2 i3;rw [i1,i2,i3]
  obtain ⟨rfl,rfl⟩ := pts_apart hd hst (hp.subset ht) hs hz hx e3
  rfl
theorem spot_mem {s : Sit} (h : StOk s) {r c : Int} (ho : spotOk r c s.ware.rows s.ware.cols = true) : ∃ x ∈ spotsOf s,r = (x.1 : Int) ∧ c = (x.2 : Int) := by
 have a1 := inR_iff.1 (chk_in h.chk).2.2.1;have a2 := inR_iff.1 (chk_in h.chk).2.2.2.1;have h1 := spotOk_iff.1 ho;obtain ⟨R,hR⟩ : ∃ R : Nat,s.ware.rows = R := ⟨s.ware.rows.toNat,by omega⟩;obtain ⟨C,hC⟩ : ∃ C : Nat,s.ware.cols = C := ⟨s.ware.cols.toNat,by omega⟩;obtain ⟨i,rfl⟩ : ∃ i : Nat,r = i := ⟨r.toNat,by omega⟩;obtain ⟨j,rfl⟩ : ∃ j : Nat,c = j := ⟨c.toNat,by omega⟩;refine ⟨(i,j),?_,rfl,rfl⟩;have e : spotsOf s = spots R (C * R) := by unfold spotsOf; rw [hR,hC]; rfl
 rw [e];have hi : i < R := by omega
 have hj : j < C := by omega
 refine List.mem_map.2 ⟨j * R + i,List.mem_range.2 ?_,?_⟩
 ·have : (j + 1) * R ≤ C * R := Nat.mul_le_mul_right _ hj
  rw [Nat.add_mul] at this;omega
 ·rw [Nat.mul_comm,Nat.mul_add_mod,Nat.mod_eq_of_lt hi,Nat.mul_add_div (by omega),Nat.div_eq_of_lt hi,Nat.add_zero]
def Wel (ls : List Sit) (k : Int) (p : Plc) : Prop := floorS ls (stdOf k (ptQ ls p)) = some (plv p)
theorem wel_ware {l ls : List Sit} (hd : dchk l = 0) (hst : ∀ s ∈ l,StOk s) (hp : ls.Perm l) {p : Plc} {a : Wr} (h : wareOf l p = some a) : Wel ls a.kind p := by
 obtain ⟨s,hs,h1,rfl,h2⟩ := wareOf_in h;obtain ⟨x,hx,e1,e2⟩ := spot_mem (hst s hs) h2
 have hpx : p = spotP s.slot x := by
  obtain ⟨a,b,c⟩ := p;simp only at h1 e1 e2;unfold spotP;rw [h1,e1,e2]
 have := floor_at hd hst hp hs hx;unfold Wel;rw [hpx,this.1,this.2]
theorem wel_well {l ls : List Sit} (hd : dchk l = 0) (hst : ∀ s ∈ l,StOk s) (hp : ls.Perm l) {p : Plc} (h : (wellM l p).2 = 0) : Wel ls 1 p := by
 unfold wellM at h
 split at h
 ·rename_i a ha
  split at h
  ·rename_i hk
   have := wel_ware hd hst hp ha;rw [hk] at this;exact this
  ·simp at h
 ·simp at h
theorem wel_tip {l ls : List Sit} (hd : dchk l = 0) (hst : ∀ s ∈ l,StOk s) (hp : ls.Perm l) {p : Plc} (h : p ∈ tipsL l) : Wel ls 2 p := by
 unfold tipsL at h;obtain ⟨k,hk,h⟩ := List.mem_flatMap.1 h;unfold rackIn at h
 split at h
 ·rename_i s hs
  split at h
  ·rename_i hk2
   obtain ⟨x,hx,rfl⟩ := List.mem_map.1 h;obtain ⟨hm,hsl⟩ := seatOf_in hs;have e : spots s.ware.rows.toNat (s.ware.rows.toNat * s.ware.cols.toNat) = spotsOf s := by unfold spotsOf; rw [Nat.mul_comm]
   rw [e] at hx;have := floor_at hd hst hp hm hx;unfold Wel;rw [← hsl,← hk2];show floorS ls (stdOf s.ware.kind (ptQ ls (spotP s.slot x))) = some (plv (spotP s.slot x));rw [this.1,this.2]
  ·cases h
 ·cases h
theorem wel_bin {l ls : List Sit} (hd : dchk l = 0) (hst : ∀ s ∈ l,StOk s) (hp : ls.Perm l) {p : Plc} (h : p ∈ floorB ls) : Wel ls 3 p := by
 unfold floorB at h;obtain ⟨s,hs,h⟩ := List.mem_flatMap.1 h;unfold flrB at h
 split at h
 ·rename_i hk
  obtain ⟨x,hx,rfl⟩ := List.mem_map.1 h;have := floor_at hd hst hp (hp.subset hs) hx;unfold Wel;rw [this.1,← hk,this.2]
 ·cases h
end Go.Proofs.YtcajifelbldjnaaGreatDoor
