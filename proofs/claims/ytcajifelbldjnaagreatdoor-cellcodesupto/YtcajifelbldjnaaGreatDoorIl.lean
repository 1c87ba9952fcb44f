import Derived.Test.YtcajifelbldjnaaGreatDoorIj
import Derived.Test.YtcajifelbldjnaaGreatDoorIk
import Derived.OwnWalkIn
import Derived.TacticsInMore
import Derived.LoopNIn
import Derived.LoopIn
import Derived.Test.YtcajifelbldjnaaGreatDoorIg
import Derived.Test.YtcajifelbldjnaaGreatDoorIa
import Derived.Test.YtcajifelbldjnaaGreatDoorIi
set_option maxRecDepth 100000
set_option maxHeartbeats 25600000
set_option linter.unusedVariables false
namespace Go.Proofs.YtcajifelbldjnaaGreatDoor
open Go.RowKit
def encD : Enc Sit := ⟨86, 14, fun s => (scs s).toList⟩
theorem goodD : Good encD := ⟨fun _ => rfl, fun x u hu => by
 have hu : u ∈ [Value.int .i64 x.slot, .string x.ware.name, .int .i64 x.ware.kind, .int .i64 x.ware.rows, .int .i64 x.ware.cols, .int .i64 x.ware.x, .int .i64 x.ware.y, .int .i64 x.ware.pitch, .int .i64 x.ware.wid, .int .i64 x.ware.len, .int .i64 x.ware.hei, .int .i64 x.ware.deep, .int .i64 x.ware.cap, .string x.name] := hu;simp only [List.mem_cons, List.mem_nil_iff, or_false] at hu
 rcases hu with rfl | rfl | rfl | rfl | rfl | rfl | rfl | rfl | rfl | rfl | rfl | rfl | rfl | rfl <;> rfl⟩
theorem infoD : (Tryz.prog.info? 86).map (fun i => (i.zero, i.size, i.bytes)) = some (some (sv zSt), 14, 128) := by kernel_rfl
theorem sts_of_rd {w : World} {ao : Option Addr} {l : List Sit} (h : RdR encD w ao l) : Sts w ao l := by
 rcases h with h | ⟨g, off, e, hg, hc⟩
 ·exact .inl h
 ·refine .inr ⟨g, off, e, fun k hk => ?_⟩
  have c := fun j (hj : j < 14) => hc k hk j hj;generalize l[k]'hk = s at c ⊢;have e : encD.sz = 14 := rfl;rw [e] at c;exact ⟨hg, c 0 (by decide), c 1 (by decide), c 2 (by decide), c 3 (by decide), c 4 (by decide), c 5 (by decide), c 6 (by decide), c 7 (by decide), c 8 (by decide), c 9 (by decide), c 10 (by decide), c 11 (by decide), c 12 (by decide), c 13 (by decide)⟩
theorem bkK {M : Nat → Prop} {b : Nat} {cs : List Value} {w w1 : World} (h : Bk b cs w) (hk : Kpt M w w1) (hM : ¬ M b) : Bk b cs w1 := h.same hk.size (hk.block b h.1 hM)
theorem Sts.kpt {M : Nat → Prop} {w w1 : World} {ao : Option Addr} {l : List Sit} (h : Sts w ao l) (hk : Kpt M w w1) (hM : l ≠ [] → ∀ ad, ao = some ad → ¬ M ad.block) : Sts w1 ao l := by
 by_cases hn : l = []
 ·exact .inl hn
 ·rcases h with h | ⟨b, off, e, h⟩
  ·exact absurd h hn
  ·have hb := hk.block b (h 0 (List.length_pos_iff.2 hn)).lt (hM hn _ e)
   refine .inr ⟨b, off, e, fun k hk2 => ?_⟩;obtain ⟨a, c0, c1, c2, c3, c4, c5, c6, c7, c8, c9, c10, c11, c12, c13⟩ := h k hk2;have t : ∀ {o : Nat} {v : Value}, w.cell? ⟨b, o, none⟩ = some v → w1.cell? ⟨b, o, none⟩ = some v := fun h => (World.cell?_of_block (w := w) hb).trans h;exact ⟨Nat.lt_of_lt_of_le a hk.size, t c0, t c1, t c2, t c3, t c4, t c5, t c6, t c7, t c8, t c9, t c10, t c11, t c12, t c13⟩
theorem Sts.lt {w : World} {ao : Option Addr} {l : List Sit} (h : Sts w ao l) (hn : l ≠ []) : ∀ ad, ao = some ad → ad.block < w.heap.size := by
 intro ad e
 rcases h with h | ⟨b, off, e2, h⟩
 ·exact absurd h hn
 ·rw [e2] at e
  injection e with e;subst e;exact (h 0 (List.length_pos_iff.2 hn)).lt
theorem own_kpt {α : Type} {c : Enc α} {w w1 : World} {B : Nat} {v : Value} {xs : List α} {M : Nat → Prop} (h : OwnR c w B v xs) (hk : Kpt M w w1) (hM : ∀ g, v.ownBlock = some g → ¬ M g) : OwnR c w1 B v xs := by
 obtain ⟨q1, q2⟩ := h;refine ⟨q1, q2.imp id ?_⟩;rintro ⟨g, cap, cur, e, hg, hh, r⟩;exact ⟨g, cap, cur, e, hg, (hk.block g (Array.getElem?_eq_some_iff.1 hh).1 (hM g (by rw [e]; rfl))).trans hh, r⟩
theorem values_any (ao : Option Addr) (n cap : Nat) (w : World) :
  Calls Tryz.prog 109 #[.slice ao n cap] w fun e w' => e = .returned (.func (.func 171) #[] #[ptr w.heap.size]) ∧ w' = w.alloc (.cells #[.slice ao n cap] 22) := by
 go_enter Tryz.func109, Tryz.ntmps109
 go_wp2;go_ret;exact ⟨rfl, rfl⟩
theorem enVl : ∀ args w, (callFunc 171 args).run Tryz.prog w = .ok (.enter 171 args) w := enters_of Tryz.func171 (by kernel_rfl) rfl
theorem seats_lv (N0 : Nat) (ao : Option Addr) (cap : Nat) (ls : List Sit) (C l : Nat) (M : Nat → Prop) (W : World) (hC : W.cell? ⟨C, 0, none⟩ = some (.slice ao ls.length cap)) (hCl : C < W.heap.size) (hA : Sts W ao ls) (hl : ls.length ≤ 9223372036854775807)
  (hCM : ¬ (M C ∨ C = l)) (hAM : ls ≠ [] → ∀ ad, ao = some ad → ¬ (M ad.block ∨ ad.block = l)) :
  SeqLv Tryz.prog N0 171 #[ptr C] (fun s : Sit => #[sv s]) (· <+: ls) (· = ls) M l W := by
 intro J Jx hJ hJx hY h0;have HA := hdd hA;have HCW := hdd hC;have HCM := hdd hCM;have HAM := hdd hAM;have HY := hdd hY;have HJ := hdd hJ;have HJX := hdd hJx;have H0 := hdd h0;have HCL := hdd hCl;clear hA hC hCM hAM hY hJ hJx h0 hCl;refine callsIn_of_wp Tryz.func171 rfl trivial ?_ rfl;simp only [Tryz.ntmps171, List.size_toArray, List.length_cons, List.length_nil, Nat.reduceAdd, Nat.reduceSub, Array.replicate_succ, Array.replicate_zero, List.push_toArray, List.append_toArray, List.nil_append, List.cons_append];have c00 := HCW.out
 gi_wp2
 clear c00
 gi_loopw [7] (fun i wr => ∃ k : Nat, k ≤ ls.length ∧ i = .int .i64 (k : Int) ∧ J (ls.take k) wr ∧ Kpt (fun x => M x ∨ x = l) W wr) (fun i _ => ls.length - (intOf i).toNat)
 case atStart => exact ⟨0, Nat.zero_le _, rfl, by simpa using H0.out, Kpt.refl _ _⟩
 case round =>
  obtain ⟨k, hk, rfl, hj, hkp⟩ := hrel;have HJ1 := hdd hj;have HKP := hdd hkp;clear hj hkp
  by_cases hlt : k < ls.length
  ·have HTK : Hid (ls.take (k + 1) = ls.take k ++ [ls[k]'hlt]) := List.take_succ_eq_append_getElem hlt
   have HPX : Hid (ls.take k ++ [ls[k]'hlt] <+: ls) := by show _ <+: _; rw [← HTK.out]; exact List.take_prefix _ _
   have hAw := HA.out.kpt HKP.out HAM.out;obtain ⟨b, off, e1, hat⟩ := hAw.at hlt;subst e1;clear hAw;generalize ls[k]'hlt = s at *;have hki : (k : Int) < (ls.length : Int) := by omega
   obtain ⟨_, c0, c1, c2, c3, c4, c5, c6, c7, c8, c9, c10, c11, c12, c13⟩ := hat
   gi_wp2_with fail
   obtain ⟨w1, hw1⟩ : ∃ x, x = wr.alloc (sobj s) := ⟨_, rfl⟩;have hb1 : bw wr w1 := by rw [hw1]; exact (brf).alloc (Nat.le_refl _) _
   obtain ⟨fn, tmps, assign, body, hy, hR⟩ := HY.out _ s w1 (HJ.out _ _ _ HJ1.out hb1) HPX.out (Nat.le_trans HKP.out.size hb1.size);have HB := hdd hb1
   try rw [← hw1]
   clear hb1 hw1 c0 c1 c2 c3 c4 c5 c6 c7 c8 c9 c10 c11 c12 c13;rw [show (#[sv s] : Array Value) = #[Value.agg #[.int .i64 s.slot, .string s.ware.name, .int .i64 s.ware.kind, .int .i64 s.ware.rows, .int .i64 s.ware.cols, .int .i64 s.ware.x, .int .i64 s.ware.y, .int .i64 s.ware.pitch, .int .i64 s.ware.wid, .int .i64 s.ware.len, .int .i64 s.ware.hei, .int .i64 s.ware.deep, .int .i64 s.ware.cap, .string s.name]] from rfl] at hy;rw [hy]
   gi_wp2
   refine ⟨(fun h => by cases h), hR.mono ?_⟩;rintro e w4 (⟨rfl, hJ4, hk4⟩ | ⟨rfl, hJ4⟩)
   ·gi_wp2
    go_roundw
    case rel => exact ⟨k + 1, by omega, by go_num, by rw [HTK.out]; exact hJ4, (HKP.out.trans (Kpt.of_below HB.out)).trans hk4⟩
    case measure => simp [intOf]; omega
   ·gi_wp2
    refine bodyPost_ret (v := .tuple #[]) (results_none (by kernel_rfl) _ _ _) rfl ?_;exact ⟨⟨_, rfl⟩, .inr ⟨_, HPX.out, hJ4⟩⟩
  ·have HE : Hid (ls.take k = ls) := List.take_of_length_le (by omega)
   gi_wp2
   go_end0
   have := HJ1.out;rw [HE.out] at this;exact ⟨⟨_, rfl⟩, .inl ⟨_, rfl, this⟩⟩
attribute [local go_sem] Oper.semAt_some
abbrev clV (C : Nat) : Value := .func (.func 171) #[] #[ptr C]
def ApD (w : World) (T : Nat) (pre : List Sit) (W : World) : Prop := ∃ v, Bk T [v] W ∧ OwnR encD W (T + 3) v pre ∧ bw w W
theorem own_lt {α : Type} {c : Enc α} {w : World} {B : Nat} {v : Value} {xs : List α} (h : OwnR c w B v xs) {g : Nat} (e : v.ownBlock = some g) : B ≤ g ∧ g < w.heap.size := World.ownsRow.lt h g e
theorem appendSeq_any (ao : Option Addr) (cap : Nat) (ls : List Sit) (C : Nat) (w : World) (hC : w.cell? ⟨C, 0, none⟩ = some (.slice ao ls.length cap)) (hCl : C < w.heap.size) (hA : Sts w ao ls) (hl : ls.length ≤ 12) :
  Calls Tryz.prog 205 #[.slice none 0 0, clV C] w fun e w' => ∃ v, e = .returned v ∧ OwnR encD w' w.heap.size v ls ∧ bw w w' := by
 have HA := hdd hA;have HC := hdd hC;have HL := hdd hl;clear hA hC hl;refine (callsIn_wide (n := 3)).1 (callsIn_of_wp_marks Tryz.func205 rfl trivial (wpIn_wide.2 ?_) rfl);simp only [Tryz.ntmps205, List.size_toArray, List.length_cons, List.length_nil, Nat.reduceAdd, Nat.reduceSub, Array.replicate_succ, Array.replicate_zero, List.push_toArray, List.append_toArray, List.nil_append, List.cons_append];obtain ⟨wR, hwR⟩ : ∃ x, x = w.alloc (.cells #[.slice none 0 0] 22) := ⟨_, rfl⟩;have hsR : wR.heap.size = w.heap.size + 1 := by rw [hwR]; simp
 have HBR : Hid (bw w wR) := by show Below _ _ _; rw [hwR]; exact (brf).alloc (Nat.le_refl _) _
 have KR : Hid (Bk w.heap.size [.slice none 0 0] wR) := by show Bk _ _ _; rw [hwR]; exact Bk.new w [.slice none 0 0] 22 w.heap.size rfl
 go_wp2_with fail
 rw [← hwR];clear hwR
 refine range_leave (n := 3) (gf := 171) (lb := #[ptr C]) rfl enVl (fun k => k = w.heap.size ∨ w.heap.size + 3 ≤ k)
  (· <+: ls) (· = ls) (fun s : Sit => #[sv s]) (fun _ => rfl) ?_ (by rw [hsR]; omega) (by rw [hsR]; omega)
  (ApD w w.heap.size) (fun _ _ => False) ?_ (fun _ _ _ h _ => h) ⟨_, KR.out, OwnR.nil _ _ _, HBR.out⟩
  (fun s a1 A => ∃ (g1 : Nat) (v8 v9 v10 v11 v12 : Value), w.heap.size + 3 ≤ g1 ∧ a1 = { tmps := #[.slice none 0 0, clV C, ptr w.heap.size, undef, .slice none 0 0, ptr g1, clV C, sv s, v8, v9, v10, v11, v12], defers := [] } ∧ Bk g1 (scs s).toList A) ?_ ?_ ?_ ?_ (fun _ _ _ h => h.elim)
 ·intro W hb hs
  exact seats_lv 2 ao cap ls C (wR.heap.size + 1) _ W ((cell_later hb (cell_later HBR.out HC.out))) (by have := hb.size; omega) ((HA.out.next HBR.out).next hb) (by have := HL.out; omega) (by omega) (fun hne ad e => by have := HA.out.lt hne ad e; omega)
 ·rintro s A B ⟨v, h1, h2, h3⟩ hk
  exact ⟨v, bkK h1 hk (by omega), own_kpt h2 hk (fun g e => by have := own_lt h2 e; omega), h3.trans (hk.below h3.size (fun k e => by omega))⟩
 ·rintro s a1 A B ⟨g1, v8, v9, v10, v11, v12, hg, h2, h3⟩ hk
  exact ⟨g1, v8, v9, v10, v11, v12, hg, h2, bkK h3 hk (by omega)⟩
 ·intro l pre s W K hI hpre hs hK
  have HKK : Hid _ := hK;have K1 : Hid (Bk W.heap.size (scs s).toList (W.alloc (sobj s))) := Bk.new W (scs s).toList 86 W.heap.size rfl;clear hK
  gi_wp2
  exact HKK.out _ _ ⟨W.heap.size, _, _, _, _, _, by omega, rfl, K1.out⟩ ((brf).alloc (Nat.le_refl _) _)
 ·rintro l pre s a1 W ⟨v, h1, h2, h3⟩ hpre hs ⟨g1, v8, v9, v10, v11, v12, hg, rfl, hk1⟩
  obtain ⟨aoV, nV, capV, rfl⟩ := h2.form;have H1 := hdd h1;have H2 := hdd h2;have H3 := hdd h3
  have HP : Hid (pre.length ≤ 12) := by
   have := hpre.length_le;rw [List.length_append] at this;have := HL.out;show _ ≤ _;omega
  have c1 := h1.c 0 rfl;have f1 := h1.f 0 rfl;have a0 := hk1.c 0 rfl;have a1 := hk1.c 1 rfl;have a2 := hk1.c 2 rfl;have a3 := hk1.c 3 rfl;have a4 := hk1.c 4 rfl;have a5 := hk1.c 5 rfl;have a6 := hk1.c 6 rfl;have a7 := hk1.c 7 rfl;have a8 := hk1.c 8 rfl;have a9 := hk1.c 9 rfl;have a10 := hk1.c 10 rfl;have a11 := hk1.c 11 rfl;have a12 := hk1.c 12 rfl;have a13 := hk1.c 13 rfl;have hTW : w.heap.size < W.heap.size := h1.1;have hTW3 : w.heap.size + 3 ≤ W.heap.size := by omega
  clear h1 h2 h3 hpre hk1 hs
  refine wpIn_block (region_round l _ (by rintro ⟨a, w, h⟩; rcases h with h | h <;> cases h.1) (by kernel_rfl) ?_)
  go_wp2_with (at_builtin; refine wpList_append_row goodD Tryz.underlying22 infoD rfl (by decide) (by decide) _ rfl (.tmp 8) (.tmp 10) rfl (w.heap.size + 3) (.slice aoV nV capV) pre rfl (H2.out.alloc _) W.heap.size s rfl (fun j u hu => (Bk.new W (scs s).toList 86 W.heap.size rfl).c j hu) (by have := HP.out; omega) (by simp; omega) ?_; intro v' w5 ho hg5 hloc; obtain ⟨ao5, n5, cap5, rfl⟩ := ho.form; have hbx : Bk w.heap.size [.slice aoV nV capV] w5 := (H1.out.later ((brf).alloc (Nat.le_refl _) _)).same hg5.size (hg5.block _ (by simp; omega) (fun e => by have := own_lt H2.out e.symm; omega)); have e0 := hbx.c 0 rfl; have ef0 := hbx.f 0 rfl)
  have k1 : Kpt (fun k => k = w.heap.size ∨ w.heap.size + 3 ≤ k) W w5 := (Kpt.of_below ((brf).alloc (Nat.le_refl _) _)).trans ⟨hg5.os, hg5.tape, hg5.output, hg5.size, fun k hk hn => hg5.block k hk (fun e => hn (.inr (own_lt H2.out e.symm).1))⟩;have k2 : Kpt (fun k => k = w.heap.size ∨ w.heap.size + 3 ≤ k) W (w5.setCell ⟨w.heap.size, 0, none⟩ (.slice ao5 n5 cap5)) := k1.trans (Kpt.setCell _ _ _ _ (.inl rfl));exact .inl ⟨trivial, k2, _, hbx.put 0 _, own_kpt ho (Kpt.setCell (M := fun k => k = w.heap.size) _ _ _ _ rfl) (fun g e => by have := own_lt ho e; omega), H3.out.trans (k2.below H3.out.size (fun k e => by omega))⟩
 ·rintro xs W rfl ⟨v, h1, h2, h3⟩ hs hd
  have c1 := h1.c 0 rfl;have kp : Kpt (fun k => k = wR.heap.size) W (W.putObj wR.heap.size (.deferred none)) := Kpt.putObj _ _ _ _ rfl;have HF : Hid (bw w (W.putObj wR.heap.size (.deferred none))) := h3.trans (kp.below h3.size (fun k e => by omega));have HO : Hid (OwnR encD (W.putObj wR.heap.size (.deferred none)) w.heap.size v xs) := (own_kpt h2 kp (fun g e => by have := own_lt h2 e; omega)).base (by omega);clear h1 h2 h3 kp;go_wp2;exact leave_mark hd (v := v) (by simp [results, Tryz.results205, go_sem]) ⟨v, rfl, HO.out, HF.out⟩
theorem collect_any (ao : Option Addr) (cap : Nat) (ls : List Sit) (C : Nat) (w : World) (hC : w.cell? ⟨C, 0, none⟩ = some (.slice ao ls.length cap)) (hCl : C < w.heap.size) (hA : Sts w ao ls) (hl : ls.length ≤ 12) :
  Calls Tryz.prog 169 #[clV C] w fun e w' => ∃ v, e = .returned v ∧ OwnR encD w' w.heap.size v ls ∧ bw w w' := by
 have HC := (show Hid _ from appendSeq_any ao cap ls C w hC hCl hA hl);clear hC hCl hA hl
 go_enter Tryz.func169, Tryz.ntmps169
 go_wp2_with fail
 refine Calls.mono HC.out ?_;rintro e w1 ⟨v, rfl, ho, hb⟩;obtain ⟨ao5, n5, cap5, rfl⟩ := ho.form;have HO : Hid _ := ho;have HB : Hid _ := hb;clear ho hb HC;go_wp2;go_ret;exact ⟨_, rfl, HO.out, HB.out⟩
def cmpD (x y : Sit) : Int := cmpI x.slot y.slot
theorem ltD (x y : Sit) : ltOf cmpD x y = decide (x.slot < y.slot) := by
 show decide (cmpI x.slot y.slot < 0) = _;unfold cmpI
 by_cases h : x.slot < y.slot
 ·simp [h]
 ·by_cases h2 : y.slot < x.slot
  ·simp [h, h2]
  ·simp [h, h2]
theorem swoD : Go.Sort.SWO (ltOf cmpD) where
 irrefl x := by rw [ltD]; simp
 trans x y z h1 h2 := by rw [ltD] at *; simp at *; omega
 ntrans x y z h1 h2 := by rw [ltD] at *; simp at *; omega
theorem bySlot_any (x y : Sit) (W : World) : Calls Tryz.prog 110 #[sv x, sv y] W fun e w' => e = .returned (.int .i64 (cmpD x y)) ∧ bw W w' ∧ W.drawn ≤ w'.drawn := by
 obtain ⟨r, hr⟩ : ∃ r, cmpI x.slot y.slot = r := ⟨_, rfl⟩;have HR := hdd hr;have HC : Hid (∀ W, Calls Tryz.prog 111 #[.int .i64 x.slot, .int .i64 y.slot] W fun e w' => e = .returned (.int .i64 r) ∧ w' = W) := fun W => compare_r x.slot y.slot r hr W;have HB : Hid (bw W ((W.alloc (sobj x)).alloc (sobj y))) := ((brf).alloc (Nat.le_refl _) _).alloc (by simp) _;clear hr;obtain ⟨x0, ⟨x1, x2, x3, x4, x5, x6, x7, x8, x9, x10, x11, x12⟩, x13⟩ := x;obtain ⟨y0, ⟨y1, y2, y3, y4, y5, y6, y7, y8, y9, y10, y11, y12⟩, y13⟩ := y
 go_enter Tryz.func110, Tryz.ntmps110
 go_wp2_with fail
 refine Calls.mono (HC.out _) ?_;rintro e w1 ⟨rfl, rfl⟩;go_wp2;go_ret;exact ⟨ret_int HR.out.symm, HB.out, Nat.le_refl _⟩
theorem en44 : ∀ args w, (callFunc 110 args).run Tryz.prog w = .ok (.enter 110 args) w := enters_of Tryz.func110 (by kernel_rfl) rfl
theorem grown_sortD [Inhabited Sit] {w : World} {g n : Nat} {d : Array Sit} {os : Array Obj} : w.grownBy (sortWorldK encD.enc 14 w g 0 n d os) (some g) := by
 refine ⟨rfl, rfl, rfl, ?_, fun k hk hne => ?_⟩
 ·simp [sortWorldK, Go.Sort.grow, Go.Sort.putRowK, Go.Sort.putRow, Go.Sort.mapBlock, Go.Sort.ahead]
 ·have hne' : g ≠ k := fun e => hne (by rw [e])
  simp only [sortWorldK, Go.Sort.grow, Go.Sort.putRowK, Go.Sort.putRow, Go.Sort.mapBlock, Go.Sort.ahead];rw [Array.getElem?_append_left (by simp; omega), Array.getElem?_modify, if_neg hne']
theorem enc_get (s : Sit) (j : Nat) (hj : j < 14) : (encD.enc s)[j]? = some ((encD.enc s)[j]!) := by
 have hl : (encD.enc s).length = 14 := rfl;rw [List.getElem?_eq_getElem (by omega), getElem!_pos _ _ (by omega)]
theorem sortD_any (base : Nat) (v : Value) (l : List Sit) (w : World) (h : OwnR encD w base v l) (hl : l.length ≤ 12) :
  Calls Tryz.prog 170 #[v, .func (.func 110) #[] #[]] w fun e w' => e = .returned (.tuple #[]) ∧ (∃ l' ao cap, l'.Perm l ∧ l'.Pairwise (fun x y => x.slot ≤ y.slot) ∧ v = .slice ao l'.length cap ∧ RdR encD w' ao l') ∧ w.grownBy w' v.ownBlock := by
 haveI : Inhabited Sit := ⟨zSt⟩
 by_cases h0 : l = []
 ·subst h0
  obtain ⟨ao, cap, rfl⟩ := h.shape;have := AnyF.slices_SortFunc_none { Tryz.sort170 with } ao cap (.func (.func 110) #[] #[]) w;refine Calls.mono (show Calls Tryz.prog 170 #[.slice ao 0 cap, .func (.func 110) #[] #[]] w _ from this) ?_;rintro e w' ⟨rfl, rfl⟩;exact ⟨rfl, ⟨[], ao, cap, List.Perm.refl _, List.Pairwise.nil, rfl, .inl rfl⟩, World.grownBy.refl _ _⟩
 ·have h' := h
  rcases h.2 with ⟨h1, h2⟩ | ⟨g, cap, cur, rfl, hb, hg, hn, hm, hs, ht⟩
  ·exact absurd (List.eq_nil_of_length_eq_zero h2) h0
  have hlt : g < w.heap.size := (Array.getElem?_eq_some_iff.1 hg).1
  have hH : Go.Sort.HoldsK encD.enc 14 w g 0 l.toArray := by
   intro j hj;rw [Go.Sort.size_flatK] at hj;have hj2 : j < l.length * 14 := by simpa using hj
   rw [Go.Sort.get_flatK _ _ _ _ hj, Nat.zero_add];refine ⟨?_, World.ownsRow.frozenAt h' j⟩;rw [World.ownsRow.cellAt h' j (by show j < l.length * 14; omega)];have := cells_at goodD (ps := l) (k := j / 14) (j := j % 14) (by omega) (by show j % 14 < 14; omega);rw [show j / 14 * encD.sz + j % 14 = j from (by show j / 14 * 14 + j % 14 = j; omega)] at this;rw [this];have e : (l.toArray[j / 14]!) = l[j / 14]'(by omega) := by rw [getElem!_pos _ _ (by simp; omega)]; simp
   rw [e];exact enc_get _ _ (by omega)
  have := AnyQ.slices_SortFunc Tryz.sort170 14 Tryz.isAgg86 Tryz.sizeOf86 encD.enc (fun _ => rfl) goodD.one cmpD swoD 110 #[] g 0 cap l.toArray w en44 (fun _ _ _ _ x y => (bySlot_any x y _).mono fun _ _ ⟨h1, h2, h3⟩ => ⟨h1, grown_of_below h2 h3⟩) hH hlt (by simp; omega);refine Calls.mono (show Calls Tryz.prog 170 #[.slice (some ⟨g, 0, none⟩) l.length cap, .func (.func 110) #[] #[]] w _ from this) ?_;rintro e w' ⟨rfl, d', n, os, hp, hsd, rfl⟩;obtain ⟨hp1, _, hp3⟩ := hp
  have hp4 : d'.toList.Perm l := by
   have e1 : (d'.extract 0 l.toArray.size) = d' := by rw [← hp1]; simp
   have e2 : (l.toArray.extract 0 l.toArray.size) = l.toArray := by simp
   rw [e1, e2] at hp3;exact hp3
  have hlen : d'.toList.length = l.length := hp4.length_eq;refine ⟨rfl, ⟨d'.toList, _, cap, hp4, ?_, by rw [hlen], ?_⟩, grown_sortD⟩
  ·rw [List.pairwise_iff_getElem]
   intro i j hi hj hij;have := hsd i j (Nat.zero_le _) hij (by rw [← hp1]; simpa using hj);rw [ltD, getElem!_pos _ _ (by simpa using hj), getElem!_pos _ _ (by simpa using hi)] at this
   simpa using this
  ·have hH2 := holdsK_sortWorldK_c encD.enc 14 w g 0 l.toArray d' n os hH hlt (by simpa using hp1)
   refine .inr ⟨g, 0, rfl, Nat.lt_of_lt_of_le hlt (grown_sortD (d := d')).size, fun k hk j hj => ?_⟩;have hj4 : j < 14 := hj;have hk2 : k < d'.size := by simpa using hk
   have c0 := (hH2.cell (i := k) (c := j) hk2 hj4).1;have e : d'[k]! = d'.toList[k]'hk := by rw [getElem!_pos d' k hk2]; simp
   rw [e] at c0;show (sortWorldK encD.enc 14 w g 0 n d' os).cell? ⟨g, 0 + k * 14 + j, none⟩ = _;rw [c0];exact (enc_get _ _ hj4).symm
theorem sortedFunc_any (ao : Option Addr) (cap : Nat) (ls : List Sit) (C : Nat) (w : World) (hC : w.cell? ⟨C, 0, none⟩ = some (.slice ao ls.length cap)) (hCl : C < w.heap.size) (hA : Sts w ao ls) (hl : ls.length ≤ 12) :
  Calls Tryz.prog 108 #[clV C, .func (.func 110) #[] #[]] w fun e w' => ∃ l' ao' cap', e = .returned (.slice ao' l'.length cap') ∧ l'.Perm ls ∧ l'.Pairwise (fun x y => x.slot ≤ y.slot) ∧ Sts w' ao' l' ∧ (∀ ad, ao' = some ad → w.heap.size ≤ ad.block) ∧ bw w w' := by
 have HC := (show Hid _ from collect_any ao cap ls C w hC hCl hA hl);have HL := hdd hl;clear hC hCl hA hl
 go_enter Tryz.func108, Tryz.ntmps108
 go_wp2_with fail
 refine Calls.mono HC.out ?_;rintro e w1 ⟨v, rfl, ho, hb⟩;have HS := (show Hid _ from sortD_any _ _ _ _ ho HL.out);obtain ⟨ao5, n5, cap5, rfl⟩ := ho.form;have HO := hdd ho;have HAD : Hid (∀ ad, ao5 = some ad → w.heap.size ≤ ad.block) := fun ad e => by subst e; exact (own_lt ho rfl).1
 have HB := hdd hb;clear ho hb HC
 go_wp2_with fail
 refine Calls.mono HS.out ?_;rintro e w2 ⟨rfl, ⟨l', ao', cap', hp, hpw, hv, hrd⟩, hg⟩;have HB2 : Hid (bw w w2) := below_row HB.out HO.out hg HB.out.size;have HP := hdd hp;have HW := hdd hpw;have HR : Hid (Sts w2 ao' l') := sts_of_rd hrd;injection hv with h1 h2 h3;subst h1 h2 h3;clear hp hpw hrd hg HS HO;go_wp2;go_ret;exact ⟨l', _, _, rfl, HP.out, HW.out, HR.out, HAD.out, HB2.out⟩
theorem bySlots_any (ao : Option Addr) (cap : Nat) (ls : List Sit) (w : World) (hA : Sts w ao ls) (hl : ls.length ≤ 12) :
  Calls Tryz.prog 52 #[.slice ao ls.length cap] w fun e w' => ∃ l' ao' cap', e = .returned (.slice ao' l'.length cap') ∧ l'.Perm ls ∧ l'.Pairwise (fun x y => x.slot ≤ y.slot) ∧ Sts w' ao' l' ∧ (∀ ad, ao' = some ad → w.heap.size ≤ ad.block) ∧ bw w w' := by
 have hb0 : bw w (w.alloc (.cells #[.slice ao ls.length cap] 22)) := (brf).alloc (Nat.le_refl _) _;have HC := (show Hid _ from sortedFunc_any ao cap ls w.heap.size (w.alloc (.cells #[.slice ao ls.length cap] 22)) (by go_simp) (by simp) (hA.next hb0) hl);have HB0 : Hid _ := hb0;clear hA hl hb0
 go_enter Tryz.func52, Tryz.ntmps52
 go_wp2_with fail
 refine Calls.mono (values_any ao ls.length cap w) ?_;rintro e w1 ⟨rfl, rfl⟩
 go_wp2_with fail
 refine Calls.mono HC.out ?_;rintro e w2 ⟨l', ao', cap', rfl, h1, h2, h3, h5, h4⟩;have H1 : Hid _ := h1;have H2 : Hid _ := h2;have H3 : Hid _ := h3;have H5 : Hid (∀ ad, ao' = some ad → w.heap.size ≤ ad.block) := fun ad e => Nat.le_trans (by simp) (h5 ad e);have H4 := hdd (HB0.out.trans (h4.mono (by simp)));clear h1 h2 h3 h4 h5 HC;go_wp2;go_ret;exact ⟨l', _, _, rfl, H1.out, H2.out, H3.out, H5.out, H4.out⟩
def OnC (C : List Nat) (i ph : Nat) : Prop := ∀ j, C[j]? = some i → ph = j
def nxC (C : List Nat) (i ph : Nat) : Nat := match C.contains i with
 | true => ph + 1
 | false => ph
def PhB (ops : Array Oper) (C : List Nat) (i ph : Nat) : Prop := (∀ j c, C[j]? = some c → coversB ops ops.size c i = true → ph ≤ j) ∧ ∀ j c, C[j]? = some c → coversB ops ops.size i c = true → j < ph
def lineB (ops : Array Oper) : List Nat → Bool
 | [] => true
 | c :: r => decide (c < ops.size) && (r.all fun d => (d != c) && coversB ops ops.size d c) && lineB ops r
def phC (C : List Nat) (listed : Array Bool) : Nat := C.countP fun c => listed.getD c false
section
variable (P : Program) (Q : Exit → Act → World → Prop) (a : Act) (m : List Bool) (plan : GPlan) (V : Nat → List Value → World → Prop) (JJ : Nat → (Nat → Value) → World → Prop) (w0 : World) (C : List Nat) (ops : Array Oper)
def OblC (i : Nat) (o : Oper) (p : List Nat × List Nat × Option (Nat × Bool)) : Prop :=
 ∀ ph, OnC C i ph ∧ PhB ops C i ph → ∀ f w, bw w0 w → JJ ph f w → AllJ plan V f w p.1 → match p.2.2 with
  | none => DoesG P Q a m plan V (JJ (nxC C i ph)) w0 i o f w
  | some (s, b) => (f s = .bool b → DoesG P Q a m plan V (JJ (nxC C i ph)) w0 i o f w) ∧ (f s ≠ .bool b → V i ((menOf plan i).map (updO f o.dst undef)) w ∧ JJ (nxC C i ph) (updO f o.dst undef) w)
def OblsC : Nat → List Oper → GPlan → Prop
 | i, o :: l, p :: q => OblC P Q a m plan V JJ w0 C ops i o p ∧ OblsC (i + 1) l q
 | _, _, _ => True
end
theorem phC_none (C : List Nat) (n : Nat) : phC C (Array.replicate n false) = 0 := by
 unfold phC;rw [List.countP_eq_zero];intro c _;rw [Array.getD_eq_getD_getElem?, Array.getElem?_replicate]
 split <;> simp
theorem getD_some {listed : Array Bool} {c : Nat} : listed.getD c false = true ↔ listed[c]? = some true := by
 rw [Array.getD_eq_getD_getElem?]
 cases listed[c]? with
 | none => simp
 | some x => simp
theorem lineB_lt {ops : Array Oper} : ∀ {C : List Nat}, lineB ops C = true → ∀ c ∈ C, c < ops.size
 | [], _, c, h => by cases h
 | d :: r, h, c, hc => by
  simp only [lineB, Bool.and_eq_true, decide_eq_true_eq] at h
  rcases List.mem_cons.1 hc with rfl | hc
  ·exact h.1.1
  ·exact lineB_lt h.2 c hc
theorem phC_all {ops : Array Oper} {C : List Nat} {listed : Array Bool} (h : lineB ops C = true) (hl : ∀ i, i < ops.size → listed[i]? = some true) : phC C listed = C.length := by
 unfold phC;rw [List.countP_eq_length];intro c hc;exact getD_some.2 (hl c (lineB_lt h c hc))
theorem lineB_pair {ops : Array Oper} : ∀ {C : List Nat}, lineB ops C = true → C.Pairwise fun c d => coversB ops ops.size d c = true
 | [], _ => List.Pairwise.nil
 | c :: r, h => by
  simp only [lineB, Bool.and_eq_true, decide_eq_true_eq, List.all_eq_true, bne_iff_ne, ne_eq] at h;exact List.pairwise_cons.2 ⟨fun d hd => (h.1.2 d hd).2, lineB_pair h.2⟩
theorem phC_le {listed : Array Bool} {C : List Nat} {j : Nat} (h : ∀ k, j ≤ k → ∀ c, C[k]? = some c → listed[c]? ≠ some true) : phC C listed ≤ j := by
 unfold phC;rw [← List.take_append_drop j C, List.countP_append];have h1 : (C.take j).countP (fun c => listed.getD c false) ≤ j := Nat.le_trans List.countP_le_length (by rw [List.length_take]; omega)
 have h2 : (C.drop j).countP (fun c => listed.getD c false) = 0 := by
  rw [List.countP_eq_zero];intro c hc e;obtain ⟨k, hk⟩ := List.mem_iff_getElem?.1 hc;rw [List.getElem?_drop] at hk;exact h (j + k) (by omega) c hk (getD_some.1 e)
 omega
theorem phC_ge {listed : Array Bool} {C : List Nat} {j : Nat} (hj : j < C.length) (h : ∀ k, k ≤ j → ∀ c, C[k]? = some c → listed[c]? = some true) : j < phC C listed := by
 unfold phC;rw [← List.take_append_drop (j + 1) C, List.countP_append]
 have h1 : (C.take (j + 1)).countP (fun c => listed.getD c false) = (C.take (j + 1)).length := by
  rw [List.countP_eq_length];intro c hc;obtain ⟨k, hk⟩ := List.mem_iff_getElem?.1 hc
  have hk2 : k < j + 1 := by
   have := (List.getElem?_eq_some_iff.1 hk).1;rw [List.length_take] at this;omega
  rw [List.getElem?_take, if_pos hk2] at hk;exact getD_some.2 (h k (by omega) c hk)
 rw [h1, List.length_take];omega
theorem phC_in {ops : Array Oper} {C : List Nat} {listed : Array Bool} {i : Nat} (hline : lineB ops C = true) (hcl : ∀ e d, listed[e]? = some true → coversB ops ops.size e d = true → listed[d]? = some true)
  (hn : listed[i]? ≠ some true) (hc : ∀ e, coversB ops ops.size i e = true → listed[e]? = some true) : PhB ops C i (phC C listed) := by
 have hp := lineB_pair hline;rw [List.pairwise_iff_getElem] at hp
 have hcov : ∀ {j k c d : Nat}, j < k → C[j]? = some c → C[k]? = some d → coversB ops ops.size d c = true := fun {j k c d} hjk h1 h2 => by
  obtain ⟨a1, a2⟩ := List.getElem?_eq_some_iff.1 h1;obtain ⟨b1, b2⟩ := List.getElem?_eq_some_iff.1 h2;have := hp j k a1 b1 hjk;rw [a2, b2] at this;exact this
 refine ⟨fun j c hj hci => phC_le fun k hk d hd e => ?_, fun j c hj hic => phC_ge (List.getElem?_eq_some_iff.1 hj).1 fun k hk d hd => ?_⟩
 ·have hd2 : listed[c]? = some true := by
   rcases Nat.lt_or_eq_of_le hk with h | h
   ·exact hcl d c e (hcov h hj hd)
   ·subst h
    rw [hj] at hd;injection hd with hd;subst hd;exact e
  exact hn (hcl c i hd2 hci)
 ·have h1 := hc c hic
  rcases Nat.lt_or_eq_of_le hk with h | h
  ·exact hcl c d h1 (hcov h hd hj)
  ·subst h
   rw [hj] at hd;injection hd with hd;subst hd;exact h1
theorem phC_step {ops : Array Oper} {listed : Array Bool} {i : Nat} : ∀ {C : List Nat}, lineB ops C = true → listed[i]? ≠ some true → i < listed.size →
  (∀ e, listed[e]? = some true → coversB ops ops.size e i = true → False) → (∀ e, coversB ops ops.size i e = true → listed[e]? = some true) →
  OnC C i (phC C listed) ∧ phC C (listed.setIfInBounds i true) = nxC C i (phC C listed)
 | [], _, _, _, _, _ => ⟨fun j h => by simp at h, rfl⟩
 | c :: r, h, hn, hlt, hd, hc => by
  simp only [lineB, Bool.and_eq_true, decide_eq_true_eq, List.all_eq_true, bne_iff_ne, ne_eq] at h;obtain ⟨⟨_, hr⟩, hl⟩ := h;have ih := phC_step hl hn hlt hd hc
  have hself : (listed.setIfInBounds i true).getD i false = true := by
   rw [getD_some, Array.getElem?_setIfInBounds];simp [hlt]
  have hoth : ∀ k, k ≠ i → (listed.setIfInBounds i true).getD k false = listed.getD k false := fun k hk => by
   rw [Array.getD_eq_getD_getElem?, Array.getD_eq_getD_getElem?, Array.getElem?_setIfInBounds];simp [Ne.symm hk]
  have hin : listed.getD i false = false := by
   cases e : listed.getD i false with
   | false => rfl
   | true => exact absurd (getD_some.1 e) hn
  by_cases e : c = i
  ·subst e
   have h0 : phC r listed = 0 := by
    unfold phC;rw [List.countP_eq_zero];intro d hd2 e2;exact hd d (getD_some.1 e2) (hr d hd2).2
   have h1 : phC r (listed.setIfInBounds c true) = 0 := by
    rw [← h0];unfold phC;refine List.countP_congr fun d hd2 => ?_;rw [hoth d (hr d hd2).1]
   have hnr : r.contains c = false := by
    cases e2 : r.contains c with
    | false => rfl
    | true => exact absurd rfl (hr c (by simpa using e2)).1
   refine ⟨fun j hj => ?_, ?_⟩
   ·have : phC (c :: r) listed = 0 := by
     unfold phC at h0 ⊢;rw [List.countP_cons, h0, hin]
     rfl
    rw [this]
    match j, hj with
    | 0, _ => rfl
    | j + 1, hj =>
     have := List.mem_of_getElem? (show r[j]? = some c by simpa using hj);exact absurd rfl (hr c this).1
   ·have a1 : phC (c :: r) listed = 0 := by
     unfold phC at h0 ⊢;rw [List.countP_cons, h0, hin]
     rfl
    have a2 : phC (c :: r) (listed.setIfInBounds c true) = 1 := by
     unfold phC at h1 ⊢;rw [List.countP_cons, h1, hself]
     rfl
    rw [a1, a2];simp [nxC]
  ·have hci : i ∈ r → listed.getD c false = true := fun hi => getD_some.2 (hc c (hr i hi).2)
   have e1 : ∀ l : Array Bool, phC (c :: r) l = phC r l + (if l.getD c false = true then 1 else 0) := fun l => by
    unfold phC;rw [List.countP_cons]
   have e2 : nxC (c :: r) i (phC (c :: r) listed) = nxC r i (phC r listed) + (if listed.getD c false = true then 1 else 0) := by
    rw [e1];unfold nxC
    have : (c :: r).contains i = r.contains i := by
     rw [List.contains_cons];have : (i == c) = false := by simpa using Ne.symm e
     rw [this, Bool.false_or]
    rw [this]
    cases r.contains i <;> simp only [] <;> omega
   refine ⟨fun j hj => ?_, ?_⟩
   ·match j, hj with
    | 0, hj => simp at hj; exact absurd hj e
    | j + 1, hj =>
     have hj2 : r[j]? = some i := by simpa using hj
     have := ih.1 j hj2;rw [e1, this, hci (List.mem_of_getElem? hj2)]
     rfl
   ·rw [e1, e2, ih.2, hoth c e]
section
variable {P : Program} {Q : Exit → Act → World → Prop} {a : Act} {m : List Bool} {plan : GPlan} {V : Nat → List Value → World → Prop} {JJ : Nat → (Nat → Value) → World → Prop} {w0 : World} {C : List Nat} {ops : Array Oper}
theorem oblsC_at : ∀ {l : List Oper} {q : GPlan} {s : Nat}, OblsC P Q a m plan V JJ w0 C ops s l q → ∀ {i : Nat} {o : Oper} {p}, l[i]? = some o → q[i]? = some p → OblC P Q a m plan V JJ w0 C ops (s + i) o p
 | [], _, _, _, _, _, _, h, _ => by simp at h
 | _ :: _, [], _, _, _, _, _, _, h => by simp at h
 | o :: l, p :: q, s, h, 0, _, _, ho, hp => by simp at ho hp; subst ho; subst hp; exact h.1
 | o :: l, p :: q, s, h, i + 1, _, _, ho, hp => by
  have := oblsC_at h.2 (i := i) (by simpa using ho) (by simpa using hp);rw [show s + 1 + i = s + (i + 1) by omega] at this;exact this
def InvC (a : Act) (m : List Bool) (plan : GPlan) (V : Nat → List Value → World → Prop) (JJ : Nat → (Nat → Value) → World → Prop) (w0 : World) (C : List Nat) (ops : Array Oper) (listed : Array Bool) (a' : Act) (w : World) : Prop :=
 Closed ops listed ∧ ∃ f, a' = over a m f ∧ bw w0 w ∧ JJ (phC C listed) f w ∧ ∀ i, listed[i]? = some true → V i ((menOf plan i).map f) w
theorem invC_step (hok : gOk ops plan m a.tmps.size = true) (hline : lineB ops C = true) (hob : OblsC P Q a m plan V JJ w0 C ops 0 ops.toList plan)
  {listed : Array Bool} (hsz : listed.size = ops.size) {i : Nat} (hi : i ∈ Region.ready .any ops listed) {a' : Act} {w : World} (h : InvC a m plan V JJ w0 C ops listed a' w) :
  wpOp P ops Q i (fun a2 w2 => InvC a m plan V JJ w0 C ops (listed.setIfInBounds i true) a2 w2) a' w := by
 simp only [gOk, Bool.and_eq_true] at hok;obtain ⟨⟨_, hall⟩, hmen⟩ := hok;obtain ⟨hlt, hun, hpre⟩ := ready_pre hi;obtain ⟨o, ho⟩ : ∃ o, ops[i]? = some o := ⟨ops[i], by simp [hlt]⟩;have hpre := hpre o ho;have hoL : ops.toList[i]? = some o := by simpa using ho
 obtain ⟨p, hp, h1⟩ := gAll_at hall hoL;have hO := oblsC_at hob hoL hp;rw [Nat.zero_add] at hO;simp only [gOne, Bool.and_eq_true] at h1;obtain ⟨⟨hd, hps⟩, hg⟩ := h1;obtain ⟨hcl, f, rfl, hb, hJ, hV⟩ := h
 have hav : ∀ l : List Nat, (∀ j ∈ l, j ∈ p.1) → AllJ plan V f w l := by
  intro l
  induction l with
  | nil => intro _; trivial
  | cons j l ih =>
   intro hl;refine ⟨?_, ih fun x hx => hl x (by simp [hx])⟩;have h2 := List.all_eq_true.1 hps j (hl j (by simp));obtain ⟨e, he, h3⟩ := Array.any_eq_true'.1 h2;simp only [Bool.and_eq_true, beq_iff_eq] at h3;have := hpre e he h3.1;rw [h3.2] at this;exact hV j this
 have hav := hav p.1 fun _ h => h
 have hnl : listed[i]? ≠ some true := by
  intro e;rw [Array.getD_eq_getD_getElem?, e] at hun;simp at hun
 have hpd : ∀ e, listed[e]? = some true → coversB ops ops.size e i = true → False := fun e he hc => hnl (covers_listed hcl _ e i (fun o' ho' => hcl e o' ho' he) hc);have hpc : ∀ e, coversB ops ops.size i e = true → listed[e]? = some true := fun e hc => covers_listed hcl _ i e (fun o' ho' => by rw [ho] at ho'; injection ho' with ho'; subst ho'; exact hpre) hc;have hph := phC_step (listed := listed) hline hnl (by omega) hpd hpc;have hpb := phC_in (listed := listed) hline (fun e d he hc => covers_listed hcl _ e d (fun o' ho' => hcl e o' ho' he) hc) hnl hpc
 have hput : ∀ v, (over a m f).put o.dst v = over a m (updO f o.dst v) := by
  intro v
  cases e : o.dst with
  | none => rfl
  | some d =>
   rw [e] at hd;simp only [Bool.and_eq_true] at hd;exact over_put a m f d v (getD_true hd.1)
 have hsame : ∀ (j : Nat) (v : Value), listed[j]? = some true → (menOf plan j).map (updO f o.dst v) = (menOf plan j).map f := by
  intro j v hj
  apply List.map_congr_left
  intro s hs
  apply updO_other
  intro e
  have hjs : j < ops.size := by
   by_cases h : j < ops.size
   ·exact h
   ·rw [Array.getElem?_eq_none (by omega)] at hj; cases hj
  unfold menB at hmen;have h1 := List.all_eq_true.1 (List.all_eq_true.1 hmen j (by simpa using hjs)) i (by simpa using hlt);simp only [Bool.or_eq_true, beq_iff_eq] at h1
  rcases h1 with (h1 | h1) | h1
  ·subst h1; exact hnl hj
  ·exact hnl (covers_listed hcl _ j i (fun o' ho' => hcl j o' ho' hj) h1)
  ·have := List.all_eq_true.1 h1 s hs
   rw [ho] at this;simp [e] at this
 have hcl2 := closed_next hcl hi
 have hfin : ∀ v w2, V i ((menOf plan i).map (updO f o.dst v)) w2 → bw w0 w2 → JJ (nxC C i (phC C listed)) (updO f o.dst v) w2 → (∀ j, V j ((menOf plan j).map f) w → V j ((menOf plan j).map f) w2) → InvC a m plan V JJ w0 C ops (listed.setIfInBounds i true) ((over a m f).put o.dst v) w2 := by
  intro v w2 hv hb2 hj2 hk;refine ⟨hcl2, updO f o.dst v, hput v, hb2, by rw [hph.2]; exact hj2, fun j hlj => ?_⟩
  by_cases e : j = i
  ·subst e; exact hv
  ·have hlj2 : listed[j]? = some true := by simpa [Array.getElem?_setIfInBounds, Ne.symm e] using hlj
   rw [hsame j v hlj2];exact hk j (hV j hlj2)
 have hDoes : DoesG P Q a m plan V (JJ (nxC C i (phC C listed))) w0 i o f w → o.wp P (over a m f) w (fun a2 w2 => InvC a m plan V JJ w0 C ops (listed.setIfInBounds i true) a2 w2) Q := fun hD =>
  hD _ fun a2 w2 ⟨v, ha, hv, hb2, hj2, hk⟩ => by subst ha; exact hfin v w2 hv hb2 hj2 hk
 have hO := hO _ ⟨hph.1, hpb⟩ f w hb hJ hav;unfold wpOp;rw [ho];simp only
 cases hgo : o.guard with
 | none =>
  rw [hgo] at hg;have hw : Region.wanted o (yielded ops (over a m f).tmps) = true := by simp [Region.wanted, hgo]
  rw [if_pos hw]
  cases hp2 : p.2.2 with
  | none => rw [hp2] at hO; exact .inl (hDoes hO)
  | some x => rw [hp2] at hg; simp at hg
 | some jb =>
  obtain ⟨j, b⟩ := jb;rw [hgo] at hg
  cases hp2 : p.2.2 with
  | none => rw [hp2] at hg; simp at hg
  | some sb =>
   obtain ⟨s, b'⟩ := sb;rw [hp2] at hg hO;simp only [Bool.and_eq_true] at hg;obtain ⟨⟨⟨hs, hbb⟩, hms⟩, hsn⟩ := hg;have hbb : b = b' := by simpa using hbb
   subst hbb;have hs : (ops[j]?).bind (·.dst) = some s := by simpa using hs
   have hgs : (over a m f).tmps[s]? = some (f s) := by
    have := overL_at f m 0 s a.tmps.toList (getD_true hms) (by simpa using hsn)
    simpa [over] using this
   have hy : yielded ops (over a m f).tmps j = match f s with | .bool x => some x | _ => none := by
    unfold yielded;rw [hs];simp only [Option.bind_some, hgs]
    cases f s <;> rfl
   by_cases hw : f s = .bool b
   ·have : Region.wanted o (yielded ops (over a m f).tmps) = true := by simp [Region.wanted, hgo, hy, hw]
    rw [if_pos this];exact .inl (hDoes (hO.1 hw))
   ·have : ¬ Region.wanted o (yielded ops (over a m f).tmps) = true := by
     simp only [Region.wanted, hgo, hy, beq_iff_eq]
     cases e : f s <;> simp
     rename_i x;intro e2; subst e2; exact hw e
    rw [if_neg this];exact hfin _ _ (hO.2 hw).1 hb (hO.2 hw).2 fun _ h => h
theorem anyC (hok : gOk ops plan m a.tmps.size = true) (hline : lineB ops C = true) (hob : OblsC P Q a m plan V JJ w0 C ops 0 ops.toList plan)
  (hdone : ∀ f w, bw w0 w → JJ C.length f w → AllG V f w 0 plan → Q .normal (over a m f) w) :
  ∀ (fuel : Nat) (listed : Array Bool) (a' : Act) (w : World), listed.size = ops.size → listed.toList.count false ≤ fuel → InvC a m plan V JJ w0 C ops listed a' w → wpAny P .any ops Q fuel listed a' w := by
 have hok2 := hok;simp only [gOk, Bool.and_eq_true] at hok2;obtain ⟨⟨hback, hall⟩, _⟩ := hok2;have hlen := gAll_length hall
 have hend : ∀ (listed : Array Bool) (a' : Act) (w : World), listed.size = ops.size → InvC a m plan V JJ w0 C ops listed a' w → Region.ready .any ops listed = [] → Q .normal a' w := by
  rintro listed a' w hsz ⟨_, f, rfl, hb, hJ, hV⟩ hr;have hL : phC C listed = C.length := phC_all hline fun i hi => all_listedE hback hsz hr i hi;rw [hL] at hJ;refine hdone f w hb hJ (allG_of fun i p hp => ?_);have hi : i < plan.length := (List.getElem?_eq_some_iff.1 hp).1;have := hV i (all_listedE hback hsz hr i (by simp at hlen; omega));rw [Nat.zero_add];unfold menOf at this;rw [hp] at this;exact this
 intro fuel
 induction fuel with
 | zero =>
  intro listed a' w hsz hc hI
  have hr : Region.ready .any ops listed = [] := by
   rw [List.eq_nil_iff_forall_not_mem];intro i hi;obtain ⟨hlt, h1, _⟩ := ready_pre hi;have h0 : listed.toList.count false = 0 := by omega
   rw [List.count_eq_zero] at h0;have hlt2 : i < listed.size := by omega
   simp only [Array.getD_eq_getD_getElem?, Array.getElem?_eq_getElem hlt2, Option.getD_some] at h1;exact h0 (by rw [← h1]; simp)
  exact ⟨hr, hend listed a' w hsz hI hr⟩
 | succ fuel ih =>
  intro listed a' w hsz hc hI;refine ⟨hend listed a' w hsz hI, fun i hi => wpOp_mono (fun a2 w2 h2 => ih _ _ _ (by simpa using hsz) ?_ h2) (invC_step hok hline hob hsz hi hI)⟩;obtain ⟨hlt, h1, _⟩ := ready_pre hi;have hlt2 : i < listed.size := by omega
  simp only [Array.getD_eq_getD_getElem?, Array.getElem?_eq_getElem hlt2, Option.getD_some] at h1;have hl : i < listed.toList.length := by simpa using hlt2
  have h2 : listed.toList[i] = false := by simpa using h1
  rw [Array.toList_setIfInBounds, List.count_set hl, h2];have hp : 0 < listed.toList.count false := List.count_pos_iff.2 (by rw [← h2]; exact List.getElem_mem _);rw [if_pos (by rfl), if_neg (by decide)];omega
theorem region_line {wB : World} {id : Nat} (C : List Nat) (m : List Bool) (plan : GPlan) (V : Nat → List Value → World → Prop) (JJ : Nat → (Nat → Value) → World → Prop) (hmix : P.follows .mixedOrders = true) (hok : gOk ops plan m a.tmps.size = true) (hline : lineB ops C = true)
  (hB : bw wB w0) (hJ0 : JJ 0 (fun k => (a.tmps.toList[k]?).getD undef) w0.drew) (hob : OblsC P Q a m plan V JJ wB C ops 0 ops.toList plan)
  (hdone : ∀ f w, bw wB w → JJ C.length f w → AllG V f w 0 plan → Q .normal (over a m f) w) : (Code.region id ops true).wp P Q a w0 := by
 refine wp_region_any hmix (anyC hok hline hob hdone _ _ _ _ (by simp) (by simp) ⟨?_, fun k => (a.tmps.toList[k]?).getD undef, (over_start a m).symm, ⟨hB.os, hB.tape, hB.output, hB.size, hB.block⟩, ?_, ?_⟩)
 ·intro i o _ h
  simp [Array.getElem?_replicate] at h
 ·rw [phC_none]
  exact hJ0
 ·intro i h
  simp [Array.getElem?_replicate] at h
end
end Go.Proofs.YtcajifelbldjnaaGreatDoor
namespace Go.Proofs.YtcajifelbldjnaaGreatDoor.S
open Go.RowKit
structure Pt where
 (x y z : Int)
structure Bx where
 (lx ly lz hx hy hz : Int)
abbrev Bx.lo (b : Bx) : Pt := ⟨b.lx, b.ly, b.lz⟩
abbrev Bx.hi (b : Bx) : Pt := ⟨b.hx, b.hy, b.hz⟩
def nr (n : Int) : Bool := decide (-10000000 ≤ n) && decide (n ≤ 10000000)
def nearP (p : Pt) : Bool := nr p.x && nr p.y && nr p.z
def nearB (b : Bx) : Bool := nearP b.lo && nearP b.hi
def below (p q : Pt) : Bool := decide (p.x < q.x) && decide (p.y < q.y) && decide (p.z < q.z)
def atMost (p q : Pt) : Bool := decide (p.x ≤ q.x) && decide (p.y ≤ q.y) && decide (p.z ≤ q.z)
def bad1 (b : Bx) : Int := if nearB b = true then (if atMost b.lo b.hi = true then 0 else 1) else 2
def badL : List Bx → Int
 | [] => 0
 | b :: l => if bad1 b = 0 then badL l else bad1 b
def one (n : Int) : Int := if n = 0 then 0 else 1
theorem bad1_ok {b : Bx} : bad1 b = 0 ↔ nearB b = true ∧ atMost b.lo b.hi = true := by
 unfold bad1
 split
 ·split
  ·simp_all
  ·simp_all
 ·simp_all
theorem badL_skip : ∀ {a l : List Bx}, (∀ b ∈ a, bad1 b = 0) → badL (a ++ l) = badL l
 | [], _, _ => rfl
 | b :: a, l, h => by
  simp only [List.cons_append, badL];rw [if_pos (h b (by simp)), badL_skip fun c hc => h c (by simp [hc])]
theorem badL_at {l : List Bx} {k : Nat} (h : k < l.length) (ha : ∀ b ∈ l.take k, bad1 b = 0) (hb : bad1 (l[k]'h) ≠ 0) : badL l = bad1 (l[k]'h) := by
 have e : l = l.take k ++ l[k]'h :: l.drop (k + 1) := by rw [← List.drop_eq_getElem_cons h, List.take_append_drop]
 conv => lhs; rw [e]
 rw [badL_skip ha];simp only [badL]; rw [if_neg hb]
end Go.Proofs.YtcajifelbldjnaaGreatDoor.S
namespace Go.Proofs.YtcajifelbldjnaaGreatDoor
open Go.RowKit Go.Maps Go.ChangeMaps
theorem over_eq (a : Act) (m : List Bool) (f : Nat → Value) : over a m f = { tmps := (overL f m 0 a.tmps.toList).toArray, defers := a.defers } := rfl
def spotPt (s : Sit) (p : Nat × Nat) : S.Pt := ⟨cx s.slot + (s.ware.x + (p.2 : Int) * s.ware.pitch), cy s.slot + (s.ware.y + (p.1 : Int) * s.ware.pitch), 0 + (s.ware.hei - s.ware.deep)⟩
abbrev pvv (q : S.Pt) : Value := ptv q.x q.y q.z
abbrev stdOf (k : Int) (q : S.Pt) : Std := (k, q.x, q.y, q.z)
def flrP (s : Sit) (ps : List (Nat × Nat)) (f : Plc → Option Value) : Plc → Option Value := ps.foldl (fun f p => setF f (spotP s.slot p) (pvv (spotPt s p))) f
def flrS (s : Sit) (ps : List (Nat × Nat)) (g : Std → Option Value) : Std → Option Value := ps.foldl (fun g p => setF g (stdOf s.ware.kind (spotPt s p)) (plv (spotP s.slot p))) g
def flrB (s : Sit) (ps : List (Nat × Nat)) : List Plc := if s.ware.kind = 3 then ps.map (spotP s.slot) else []
theorem flrP_succ (s : Sit) (ps : List (Nat × Nat)) (p : Nat × Nat) (f : Plc → Option Value) : flrP s (ps ++ [p]) f = setF (flrP s ps f) (spotP s.slot p) (pvv (spotPt s p)) := by simp [flrP, List.foldl_append]
theorem flrS_succ (s : Sit) (ps : List (Nat × Nat)) (p : Nat × Nat) (g : Std → Option Value) : flrS s (ps ++ [p]) g = setF (flrS s ps g) (stdOf s.ware.kind (spotPt s p)) (plv (spotP s.slot p)) := by simp [flrS, List.foldl_append]
structure StOk (s : Sit) : Prop where
 ok : SOk s
 chk : chk s.ware = 0
 slot : 1 ≤ s.slot ∧ s.slot ≤ 12
 alone : dchk [s] = 0
 size : s.ware.wid ≤ 132500 ∧ s.ware.len ≤ 90500
theorem spot_wf {s : Sit} (h : StOk s) {p : Nat × Nat} (h1 : p.1 < 16) (h2 : p.2 < 24) : Wf3 (spotP s.slot p) := by
 have := h.slot;unfold Wf3 Wf1 spotP;simp only;omega
theorem spot_in {s : Sit} (h : StOk s) {R C : Nat} (hR : s.ware.rows = R) (hC : s.ware.cols = C) {p : Nat × Nat} (h1 : p.1 < R) (h2 : p.2 < C) :
  (0 ≤ (spotPt s p).x ∧ (spotPt s p).x ≤ 407500) ∧ (0 ≤ (spotPt s p).y ∧ (spotPt s p).y ≤ 377000) ∧ (0 ≤ (spotPt s p).z ∧ (spotPt s p).z ≤ 200000) ∧ spotOk p.1 p.2 s.ware.rows s.ware.cols = true := by
 have hin := chk_inR h.chk
 have hsp : spotOk p.1 p.2 s.ware.rows s.ware.cols = true := by
  rw [spotOk_iff, hR, hC];omega
 have hro := (chk_in h.chk).2.2.2.2.2;simp only [roomOk, Bool.and_eq_true, decide_eq_true_eq] at hro;have q1 : (p.2 : Int) * s.ware.pitch ≤ (s.ware.cols - 1) * s.ware.pitch := Int.mul_le_mul_of_nonneg_right (by omega) hin.p0;have q2 : (p.1 : Int) * s.ware.pitch ≤ (s.ware.rows - 1) * s.ware.pitch := Int.mul_le_mul_of_nonneg_right (by omega) hin.p0;have q3 : 0 ≤ (p.2 : Int) * s.ware.pitch := Int.mul_nonneg (by omega) hin.p0;have q4 : 0 ≤ (p.1 : Int) * s.ware.pitch := Int.mul_nonneg (by omega) hin.p0;have h5 := cx_in (n := s.slot);have h6 := cy_in h.slot.1 h.slot.2;have h7 := h.size;obtain ⟨_, _, _, _, _, _, _, _, _, _, _, _, _, _, _, _, _, _⟩ := hin
 refine ⟨?_, ?_, ?_, hsp⟩ <;> simp only [spotPt] <;> omega
abbrev flc (ts bv : Value) (mp ms : Nat) : List Value := [ts, bv, .map (some mp), .map (some ms)]
theorem zeroPt (u : World) : (zeroValue 31).run Tryz.prog u = .ok (ptv 0 0 0) u := by kernel_rfl
theorem zeroPl (u : World) : (zeroValue 55).run Tryz.prog u = .ok (plv (0, 0, 0)) u := by kernel_rfl
theorem kpt_setBlock (M : Nat → Prop) (w : World) (b : Nat) (o : Obj) (h : M b) : Kpt M w (setBlock w b o) := by
 refine ⟨rfl, rfl, rfl, by simp [setBlock], fun k hk hn => ?_⟩;have : b ≠ k := fun e => hn (e ▸ h);simp only [setBlock];simp [this]
theorem heap_setBlock_ne {w : World} {b k : Nat} {o : Obj} (h : k ≠ b) : (setBlock w b o).heap[k]? = w.heap[k]? := by
 simp only [setBlock];simp [Ne.symm h]
def layJ (W : World) (mp ms c : Nat) (f : Plc → Option Value) (g : Std → Option Value) (p : Plc) (q : S.Pt) (kd : Int) (ph : Nat) (v : Nat → Value) (w : World) : Prop :=
 Kpt (fun k => k = mp ∨ k = ms) W w ∧ match ph with
  | 0 => w.heap[mp]? = W.heap[mp]? ∧ w.heap[ms]? = W.heap[ms]?
  | 1 => (∃ v0 st, v 52 = .tuple #[v0, st] ∧ Half kkP 63 mp c f p st w) ∧ w.heap[ms]? = W.heap[ms]?
  | 2 => MF kkP w mp (c + 1) (setF f p (pvv q)) ∧ w.heap[ms]? = W.heap[ms]?
  | 3 => MF kkP w mp (c + 1) (setF f p (pvv q)) ∧ ∃ v0 st, v 54 = .tuple #[v0, st] ∧ Half kkS 64 ms c g (stdOf kd q) st w
  | _ => MF kkP w mp (c + 1) (setF f p (pvv q)) ∧ MF kkS w ms (c + 1) (setF g (stdOf kd q) (plv p))
def layV (b mp ms S0 : Nat) (p : Plc) (q : S.Pt) (kd : Int) (i : Nat) (l : List Value) (w : World) : Prop :=
 match i, l with
 | 0, [v] => v = .pointer (some ⟨b, 0, none⟩)
 | 1, [v] => v = .pointer (some ⟨b, 0, none⟩)
 | 2, [v] => v = .pointer (some ⟨b, 2, none⟩)
 | 3, [v] => v = .map (some mp)
 | 4, [v] => v = .agg #[.int .i64 p.1, .int .i64 p.2.1, .int .i64 p.2.2]
 | 5, [v] => v = .pointer (some ⟨b, 0, none⟩)
 | 6, [v] => v = .pointer (some ⟨b, 0, none⟩)
 | 7, [v] => v = .pointer (some ⟨b, 3, none⟩)
 | 8, [v] => v = .map (some ms)
 | 9, [v] => v = .pointer (some ⟨S0, 1, none⟩)
 | 10, [v] => v = .pointer (some ⟨S0, 2, none⟩)
 | 11, [v] => v = .int .i64 kd
 | 12, [v] => v = .agg #[.int .i64 q.x, .int .i64 q.y, .int .i64 q.z]
 | 13, [v] => v = .agg #[.int .i64 kd, .int .i64 q.x, .int .i64 q.y, .int .i64 q.z]
 | 14, [v] => v = .agg #[.int .i64 q.x, .int .i64 q.y, .int .i64 q.z]
 | 15, [v] => v = .agg #[.int .i64 p.1, .int .i64 p.2.1, .int .i64 p.2.2]
 | 16, [v] => ∃ v0 st, v = .tuple #[v0, st]
 | 17, [v, u] => ∀ v0 st, v = .tuple #[v0, st] → u = st
 | 19, [v] => ∃ v0 st, v = .tuple #[v0, st]
 | 20, [v, u] => ∀ v0 st, v = .tuple #[v0, st] → u = st
 | _, _ => True
theorem own_ne_map {α κ : Type} {e : Enc α} {k : KK κ} {w : World} {B m n : Nat} {v : Value} {xs : List α} {f : κ → Option Value} (h : OwnR e w B v xs) (h2 : MF k w m n f) : v.ownBlock ≠ some m := by
 intro e1;obtain ⟨es, clock, hm⟩ := h2.isMap
 rcases h.2 with ⟨h3, _⟩ | ⟨g, cap, cur, h3, _, hh, _⟩
 ·rw [h3] at e1; cases e1
 ·rw [h3] at e1
  injection e1 with e1;subst e1;rw [hm] at hh
  cases hh
theorem sts_one {w : World} {b : Nat} {s : Sit} (h : StAt w b 0 s) : Sts w (some ⟨b, 0, none⟩) [s] := .inr ⟨b, 0, rfl, fun k hk => by
 obtain rfl : k = 0 := by (have : k < 1 := hk; omega)
 exact h⟩
structure LayI (w w2 : World) (wBs : Nat) (s : Sit) (sps : List (Nat × Nat)) (b mp ms c : Nat) (ts bv : Value) (bl : List Plc) (f : Plc → Option Value) (g : Std → Option Value) (r : Nat) (wr : World) : Prop where
 kpt : Kpt (fun k => k = b ∨ k = mp ∨ k = ms ∨ bv.ownBlock = some k) w2 wr
 mf : MF kkP wr mp (c + r) (flrP s (sps.take r) f)
 mg : MF kkS wr ms (c + r) (flrS s (sps.take r) g)
 bk : ∃ ao n cap, Bk b (flc ts (.slice ao n cap) mp ms) wr ∧ OwnR encP wr wBs (.slice ao n cap) (bl ++ flrB s (sps.take r)) ∧ (Value.slice ao n cap).ownBlock ≠ some b ∧ ∀ k, (Value.slice ao n cap).ownBlock = some k → bv.ownBlock = some k ∨ w2.heap.size ≤ k
theorem wp_append_run {P : Program} {o : Oper} {a : Act} {w w' : World} {K : Act → World → Prop} {Q : Exit → Act → World → Prop} {s x : Operand} {t ty : TypeId} {v u v' : Value} (hop : o.op = .call { callee := .builtin .append, args := #[s, x], argTypes := #[t, t] }) (hty : o.type = ty)
  (hs : a.eval s = v) (hx : a.eval x = u) (hr : (Builtin.append_ #[t, t] ty #[v, u]).run P w = .ok v' w') (hK : K (a.put o.dst v') w') : o.wp P a w K Q := by
 subst hty;unfold Oper.wp execOp;simp only [hop, resolve, invoke, builtin, Sem.run_bind, Sem.run_pure, Result.andThen_ok, List.map_toArray, List.map_cons, List.map_nil, hs, hx, hr];exact hK
theorem run_append_row {α : Type} {e : Enc α} (hgc : Good e) {T by' ty : Nat} {z : Value} (hT : Tryz.prog.underlying T = some (.slice e.E)) (hI : (Tryz.prog.info? e.E).map (fun i => (i.zero, i.size, i.bytes)) = some (some z, e.sz, by')) (hz : z.cells.size = e.sz) (hs0 : 0 < e.sz) (hby : by' ≤ 140)
  (w : World) (base : Nat) (v : Value) (ps : List α) (hown : OwnR e w base v ps) (b : Nat) (p : α) (hc : ∀ j u, (e.enc p)[j]? = some u → w.cell? ⟨b, j, none⟩ = some u) (hlen : ps.length ≤ 1000000000) (hbase : base ≤ w.heap.size) :
  ∃ v' w', (Builtin.append_ #[T, T] ty #[v, .slice (some ⟨b, 0, none⟩) 1 1]).run Tryz.prog w = .ok v' w' ∧ OwnR e w' base v' (ps ++ [p]) ∧ w.grownBy w' v.ownBlock ∧ (v'.ownBlock = v.ownBlock ∨ v'.ownBlock = some w.heap.size) := by
 obtain ⟨i0, hi, hz0, hz1, hz2⟩ := info_parts hI
 obtain ⟨v', w', hr, h2, h3, _, h5⟩ := run_append_own_at (P := Tryz.prog) w base T ty e.E i0 z e.sz by' hT hi hz0 hz1 hz2 hz hs0 v ps.length (e.cells ps) hown ⟨b, 0, none⟩ 1 1 (e.enc p) (by rw [hgc.len]; omega) (by
  intro j u hj;have hj2 := hc j u hj
  by_cases e : j = 0
  ·subst e; simpa [Addr.add] using hj2
  ·simpa [Addr.add, e] using hj2) (hgc.one p) (by unfold maxLen; omega) (by
  have : (ps.length + 1) * by' ≤ (ps.length + 1) * 140 := Nat.mul_le_mul_left _ hby
  omega) hbase
 refine ⟨v', w', hr, ?_, h3, h5⟩;unfold OwnR;rw [cells_append, cells_one, List.length_append];exact h2
def lbJ (W : World) (b N : Nat) (v0 : Value) (xs : List Plc) (p : Plc) (ph : Nat) (v : Nat → Value) (w : World) : Prop := match ph with
 | 0 => bw W w
 | 1 => bw W w ∧ ∃ x, v 66 = .slice (some ⟨x, 0, none⟩) 1 1 ∧ Bk x [.int .i64 p.1, .int .i64 p.2.1, .int .i64 p.2.2] w
 | 2 => ∃ ao n cap, v 67 = .slice ao n cap ∧ OwnR encP w N (.slice ao n cap) (xs ++ [p]) ∧ W.grownBy w v0.ownBlock ∧ ∀ k, (Value.slice ao n cap).ownBlock = some k → v0.ownBlock = some k ∨ W.heap.size ≤ k
 | _ => ∃ ao n cap w8, OwnR encP w8 N (.slice ao n cap) (xs ++ [p]) ∧ W.grownBy w8 v0.ownBlock ∧ (∀ k, (Value.slice ao n cap).ownBlock = some k → v0.ownBlock = some k ∨ W.heap.size ≤ k) ∧ w = w8.setCell ⟨b, 1, none⟩ (.slice ao n cap)
theorem lbJ_low {W : World} {b N : Nat} {v0 : Value} {xs : List Plc} {p : Plc} {ph : Nat} {v : Nat → Value} {w : World} (h : lbJ W b N v0 xs p ph v w) (hp : ph ≤ 1) : bw W w :=
 match ph, hp, h with
 | 0, _, h => h
 | 1, _, h => h.1
def lbV (b : Nat) (v0 : Value) (p : Plc) (i : Nat) (l : List Value) (w : World) : Prop :=
 match i, l with
 | 0, [v] => v = .pointer (some ⟨b, 0, none⟩)
 | 1, [v] => v = .pointer (some ⟨b, 0, none⟩)
 | 2, [v] => v = .pointer (some ⟨b, 0, none⟩)
 | 3, [v] => v = .pointer (some ⟨b, 1, none⟩)
 | 4, [v] => v = v0
 | 5, [v] => v = .agg #[.int .i64 p.1, .int .i64 p.2.1, .int .i64 p.2.2]
 | 8, [v] => v = .pointer (some ⟨b, 0, none⟩)
 | 9, [v] => v = .pointer (some ⟨b, 1, none⟩)
 | _, _ => True
theorem lay_any (wB w : World) (s : Sit) (R C b mp ms c : Nat) (ts : Value) (aoB : Option Addr) (nB capB : Nat) (bl : List Plc) (f : Plc → Option Value) (g : Std → Option Value) (hs : StOk s) (hR : s.ware.rows = R) (hC : s.ware.cols = C)
  (hb : bw wB w) (hlow : wB.heap.size ≤ b ∧ wB.heap.size ≤ mp ∧ wB.heap.size ≤ ms) (hne : b ≠ mp ∧ b ≠ ms ∧ mp ≠ ms) (hbk : Bk b (flc ts (.slice aoB nB capB) mp ms) w)
  (hO : OwnR encP w wB.heap.size (.slice aoB nB capB) bl) (hOb : (Value.slice aoB nB capB).ownBlock ≠ some b) (hF : MF kkP w mp c f) (hG : MF kkS w ms c g) (hc : c ≤ 10000) (hl : bl.length ≤ 10000) :
  Calls Tryz.prog 53 #[ptr b, sv s] w fun e w' => e = .returned (.tuple #[]) ∧ ∃ ao n cap, Bk b (flc ts (.slice ao n cap) mp ms) w' ∧ OwnR encP w' wB.heap.size (.slice ao n cap) (bl ++ flrB s (spots R (C * R))) ∧ (Value.slice ao n cap).ownBlock ≠ some b ∧
   (∀ k, (Value.slice ao n cap).ownBlock = some k → (Value.slice aoB nB capB).ownBlock = some k ∨ w.heap.size ≤ k) ∧ MF kkP w' mp (c + C * R) (flrP s (spots R (C * R)) f) ∧ MF kkS w' ms (c + C * R) (flrS s (spots R (C * R)) g) ∧ Kpt (fun k => k = b ∨ k = mp ∨ k = ms ∨ (Value.slice aoB nB capB).ownBlock = some k) w w' := by
 have HIN := (show Hid _ from chk_inR hs.chk);have r2 : R ≤ 16 := by have := HIN.out.r2; omega
 have k2 : C ≤ 24 := by have := HIN.out.c2; omega
 have HSP : Hid (∀ k (hk : k < (spots R (C * R)).length), ((spots R (C * R))[k]'hk).1 < R ∧ ((spots R (C * R))[k]'hk).2 < C) := by
  intro k hk;rw [spots_length] at hk
  have h0 : 0 < R := by
   rcases Nat.eq_zero_or_pos R with e | e
   ·subst e; simp at hk
   ·exact e
  have e : (spots R (C * R))[k]'(by rw [spots_length]; exact hk) = (k % R, k / R) := by simp [spots]
  rw [e];exact ⟨Nat.mod_lt _ h0, Nat.div_lt_of_lt_mul (by rw [Nat.mul_comm]; exact hk)⟩
 have HSL : Hid ((spots R (C * R)).length = C * R) := spots_length _ _;have HCR : Hid (C * R ≤ 384) := by show _ ≤ _; have := Nat.mul_le_mul k2 r2; omega
 have HAll : Hid (∀ W, Calls Tryz.prog 107 #[wv s.ware] W fun e w' => ∃ v, e = .returned (.tuple #[v, .int .i64 0]) ∧ Own w' (W.heap.size + 1) v (spots R (C * R)) ∧ bw W w') := fun W => all_ok s.ware R C W hs.ok.1 hs.chk hR hC;have HST := hdd hs;have HR := hdd hR;have HC := hdd hC;have HLOW := hdd hlow;have HNE := hdd hne;have HMB : Hid (∀ k, (k = mp ∨ k = ms) → wB.heap.size ≤ k) := fun k e => by rcases e with rfl | rfl; exact hlow.2.1; exact hlow.2.2
 have HLT : Hid (b < w.heap.size ∧ mp < w.heap.size ∧ ms < w.heap.size ∧ ∀ k, (Value.slice aoB nB capB).ownBlock = some k → wB.heap.size ≤ k ∧ k < w.heap.size) := ⟨hbk.1, hF.lt, hG.lt, fun k e => own_lt hO e⟩;have HBK := hdd hbk;have HO := hdd hO;have HOB := hdd hOb;have HF := hdd hF;have HG := hdd hG;have HC1 := hdd hc;have HL1 := hdd hl;have HB := hdd hb;clear hs hR hC hb hlow hne hbk hO hOb hF hG hc hl r2 k2;generalize spots R (C * R) = sps at *;obtain ⟨wA, hwA⟩ : ∃ wA, wA = (w.alloc (sobj s)).alloc (sobj s) := ⟨_, rfl⟩;have KS : Hid (Bk w.heap.size (scs s).toList wA) := by show Bk _ _ _; rw [hwA]; exact (Bk.new w (scs s).toList 86 w.heap.size rfl).later ((brf).alloc (Nat.le_refl _) _)
 have KA : Hid (StAt wA (w.heap.size + 1) 0 s) := by
  show StAt _ _ _ _;rw [hwA];have := (Sf.new (w.alloc (sobj s)) s).bx
  simpa using this
 have hbA : bw w wA := by rw [hwA]; exact ((brf).alloc (Nat.le_refl _) _).alloc (by simp) _
 have hsA : wA.heap.size = w.heap.size + 2 := by rw [hwA]; simp
 have HBA := hdd hbA;have HWA := hdd hwA;clear hbA hwA
 go_enter Tryz.func53, Tryz.ntmps53
 go_wp2_with fail
 rw [← HWA.out];refine Calls.mono (HAll.out wA) ?_;rintro e w2 ⟨u, rfl, hu, hb2⟩;have HB2 := hdd (HBA.out.trans (hb2.mono HBA.out.size));have KS2 := hdd (KS.out.later hb2);have KA2 := hdd (KA.out.next hb2);have h2s : w.heap.size + 2 ≤ w2.heap.size := by have := hb2.size; omega
 obtain ⟨aoS, capS, rfl⟩ := (own_spots hu).shape;have HU : Hid (OwnR encS w2 (w.heap.size + 3) (.slice aoS sps.length capS) sps) := (own_spots hu).base (by omega);clear hu hb2 HAll KS KA HWA hsA
 have HI0 : Hid (LayI w w2 wB.heap.size s sps b mp ms c ts (.slice aoB nB capB) bl f g 0 w2) := by
  refine ⟨Kpt.refl _ _, HF.out.next HB2.out, HG.out.next HB2.out, aoB, nB, capB, HBK.out.later HB2.out, ?_, HOB.out, fun k e => .inl e⟩
  have : flrB s (sps.take 0) = [] := by unfold flrB; split <;> rfl
  rw [this, List.append_nil];exact HO.out.later HB2.out
 go_wp2_with fail
 go_loopw [22] (fun i wr => ∃ r : Nat, r ≤ sps.length ∧ i = .int .i64 (r : Int) ∧ LayI w w2 wB.heap.size s sps b mp ms c ts (.slice aoB nB capB) bl f g r wr) (fun i _ => sps.length - (intOf i).toNat)
 case atStart => exact ⟨0, Nat.zero_le _, rfl, HI0.out⟩
 case round =>
  obtain ⟨r, hr, rfl, hI⟩ := hrel;have HI := hdd hI
  have hnM : ∀ k, w.heap.size ≤ k → ¬ (k = b ∨ k = mp ∨ k = ms ∨ (Value.slice aoB nB capB).ownBlock = some k) := fun k hk e => by
   obtain ⟨l1, l2, l3, l4⟩ := HLT.out
   rcases e with rfl | rfl | rfl | e
   ·omega
   ·omega
   ·omega
   ·have := (l4 k e).2; omega
  have HNM := hdd hnM;have KSr : Hid (Bk w.heap.size (scs s).toList wr) := bkK KS2.out hI.kpt (hnM _ (Nat.le_refl _));have HUr : Hid (OwnR encS wr (w.heap.size + 3) (.slice aoS sps.length capS) sps) := own_kpt HU.out hI.kpt (fun k e => hnM k (by have := own_lt HU.out e; omega));have HSTr : Hid (Sts wr (some ⟨w.heap.size + 1, 0, none⟩) [s]) := Sts.kpt (sts_one KA2.out) hI.kpt (fun _ ad e => by injection e with e; subst e; exact hnM _ (by show w.heap.size ≤ w.heap.size + 1; omega));have HWr : Hid (w2.heap.size ≤ wr.heap.size) := hI.kpt.size;clear hI hnM;have hsl : sps.length ≤ 384 := by have := HSL.out; have := HCR.out; omega
  by_cases hlt : r < sps.length
  ·have hsp := HSP.out r hlt
   have HTK : Hid (sps.take (r + 1) = sps.take r ++ [sps[r]'hlt]) := List.take_succ_eq_append_getElem hlt
   rcases HUr.out.read goodS with ⟨e0, _⟩ | ⟨gS, cap0, e0, _, _, hg, hcs⟩
   ·rw [e0] at hlt; simp at hlt
   injection e0 with e1 e2 e3;subst e1;have q0 := hcs r hlt 0 (by decide);have q1 := hcs r hlt 1 (by decide);generalize sps[r]'hlt = sp at *;simp only [List.getElem?_cons_zero, List.getElem?_cons_succ, Nat.add_zero] at q0 q1;have HPT := (show Hid _ from spot_in HST.out HR.out HC.out hsp.1 hsp.2);have HWP : Hid (kkP.ok (spotP s.slot sp)) := spot_wf HST.out (by have := HIN.out.r2; have := HR.out; omega) (by have := HIN.out.c2; have := HC.out; omega)
   have HWS : Hid (kkS.ok (stdOf s.ware.kind (spotPt s sp))) := by
    have hk := HIN.out;obtain ⟨⟨a1, a2⟩, ⟨a3, a4⟩, ⟨a5, a6⟩, _⟩ := HPT.out;have hkd := inR_iff.1 (chk_in HST.out.chk).2.1;show Wf1 _ ∧ Wf1 _ ∧ Wf1 _ ∧ Wf1 _;unfold Wf1;simp only;omega
   have HAT : Hid (∀ W : World, bw wr W → CR 112 #[.slice (some ⟨w.heap.size + 1, 0, none⟩) 1 1, ptv s.slot sp.1 sp.2] W (.tuple #[pvv (spotPt s sp), .int .i64 0])) := fun W hW =>
    at_ok (some ⟨w.heap.size + 1, 0, none⟩) 1 [s] s.slot sp.1 sp.2 W (HSTr.out.next hW) (by simp) (by simp) (fun t ht => by simp at ht; subst ht; exact HST.out.ok) HST.out.alone 0 (by simp) s rfl rfl (fun t ht => by simp at ht) HPT.out.2.2.2
   have HSPT : Hid ((spotP s.slot sp).1 = s.slot ∧ (spotP s.slot sp).2.1 = (sp.1 : Int) ∧ (spotP s.slot sp).2.2 = (sp.2 : Int)) := ⟨rfl, rfl, rfl⟩
   have HLAY : Hid (flrB s (sps.take (r + 1)) = flrB s (sps.take r) ++ (if s.ware.kind = 3 then [spotP s.slot sp] else [])) := by
    show _ = _;rw [HTK.out];unfold flrB
    split <;> simp
   have HL2 : Hid ((bl ++ flrB s (sps.take r)).length ≤ 1000000000) := by
    show _ ≤ _;have h1 := HL1.out;have h2 := HCR.out;have h3 := HSL.out
    have : (flrB s (sps.take r)).length ≤ sps.length := by unfold flrB; split <;> simp [List.length_take] <;> omega
    rw [List.length_append];omega
   have hri : (r : Int) < (sps.length : Int) := by omega
   have hgw : gS ≠ wr.heap.size := by omega
   clear hcs hg e2 e3 hsp;have s0 := KSr.out.c 0 rfl;have lS := KSr.out.1
   go_wp2_with fail
   refine Calls.mono (HAT.out _ (((brf).alloc (Nat.le_refl _) _).alloc (by simp) _)) ?_;rintro e w4 ⟨rfl, hb4⟩;have hb34 : bw wr w4 := (((brf).alloc (Nat.le_refl _) _).alloc (by simp) _).trans (hb4.mono (by simp; omega))
   have KP4 : Hid (Bk (wr.heap.size + 1) [.int .i64 s.slot, .int .i64 sp.1, .int .i64 sp.2] w4) := by
    show Bk _ _ _;exact (Bk.new (wr.alloc _) [.int .i64 s.slot, .int .i64 sp.1, .int .i64 sp.2] 55 (wr.heap.size + 1) (by simp)).later hb4
   have HB4 := hdd hb34;clear hb4 hb34 HAT q0 q1 s0
   go_wp2_with fail
   obtain ⟨w5, hw5⟩ : ∃ w5, w5 = w4.alloc (pto (spotPt s sp).x (spotPt s sp).y (spotPt s sp).z) := ⟨_, rfl⟩;have hb45 : bw w4 w5 := by rw [hw5]; exact (brf).alloc (Nat.le_refl _) _
   have KP5 := hdd (KP4.out.later hb45);have KQ5 : Hid (Bk w4.heap.size [.int .i64 (spotPt s sp).x, .int .i64 (spotPt s sp).y, .int .i64 (spotPt s sp).z] w5) := by show Bk _ _ _; rw [hw5]; exact Bk.new w4 [.int .i64 (spotPt s sp).x, .int .i64 (spotPt s sp).y, .int .i64 (spotPt s sp).z] 31 _ rfl
   have HB5 := hdd (HB4.out.trans (hb45.mono HB4.out.size));rw [← hw5];have HW5 := hdd (KQ5.out.1);have HWr4 := hdd (KP4.out.1);clear hw5 hb45 KP4 HB4;have hI := HI.out;obtain ⟨ao, nn, cap, hbk, hown, hob, hol⟩ := hI.bk;have HK25 : Hid (Kpt (fun k => k = b ∨ k = mp ∨ k = ms ∨ (Value.slice aoB nB capB).ownBlock = some k) w2 w5) := hI.kpt.trans (Kpt.of_below HB5.out);have HBK5 : Hid (Bk b (flc ts (.slice ao nn cap) mp ms) w5) := hbk.later HB5.out;have HO5 : Hid (OwnR encP w5 wB.heap.size (.slice ao nn cap) (bl ++ flrB s (sps.take r))) := hown.later HB5.out;have HOB5 := hdd hob;have HOL5 := hdd hol;have HMF : Hid (MF kkP w5 mp (c + r) (flrP s (sps.take r) f)) := hI.mf.next HB5.out;have HMG : Hid (MF kkS w5 ms (c + r) (flrS s (sps.take r) g)) := hI.mg.next HB5.out
   have HMLb : Hid (∀ k, (k = b ∨ k = mp ∨ k = ms ∨ (Value.slice aoB nB capB).ownBlock = some k) → wB.heap.size ≤ k) := fun k e => by
    obtain ⟨l1, l2, l3⟩ := HLOW.out
    rcases e with rfl | rfl | rfl | e
    ·exact l1
    ·exact l2
    ·exact l3
    ·exact (HLT.out.2.2.2 k e).1
   have HBW2 := hdd (HB.out.trans (HB2.out.mono HB.out.size));have HBW5 := hdd (HBW2.out.trans (HK25.out.below HBW2.out.size HMLb.out));have KS5 := hdd (KSr.out.later HB5.out);have hbM : ¬ (b = mp ∨ b = ms) := fun e => by rcases e with e | e; exact HNE.out.1 e; exact HNE.out.2.1 e
   have HM2 : Hid (∀ W1, Kpt (fun k => k = mp ∨ k = ms) w5 W1 → W1.cell? ⟨b, 2, none⟩ = some (.map (some mp))) := fun W1 hk => (bkK HBK5.out hk hbM).c 2 rfl;have HM3 : Hid (∀ W1, Kpt (fun k => k = mp ∨ k = ms) w5 W1 → W1.cell? ⟨b, 3, none⟩ = some (.map (some ms))) := fun W1 hk => (bkK HBK5.out hk hbM).c 3 rfl;have hlt2 := HLT.out;have HKD : Hid (∀ W1, Kpt (fun k => k = mp ∨ k = ms) w5 W1 → W1.cell? ⟨w.heap.size, 2, none⟩ = some (.int .i64 s.ware.kind)) := fun W1 hk => (bkK KS5.out hk (by omega)).c 2 rfl
   have HPL : Hid (∀ W1, Kpt (fun k => k = mp ∨ k = ms) w5 W1 → W1.cell? ⟨wr.heap.size + 1, 0, none⟩ = some (.int .i64 (spotP s.slot sp).1) ∧ W1.cell? ⟨wr.heap.size + 1, 1, none⟩ = some (.int .i64 (spotP s.slot sp).2.1) ∧ W1.cell? ⟨wr.heap.size + 1, 2, none⟩ = some (.int .i64 (spotP s.slot sp).2.2)) := fun W1 hk => by
    have := bkK KP5.out hk (by have := HWr.out; omega);exact ⟨this.c 0 rfl, this.c 1 rfl, this.c 2 rfl⟩
   have HPQ : Hid (∀ W1, Kpt (fun k => k = mp ∨ k = ms) w5 W1 → W1.cell? ⟨w4.heap.size, 0, none⟩ = some (.int .i64 (spotPt s sp).x) ∧ W1.cell? ⟨w4.heap.size, 1, none⟩ = some (.int .i64 (spotPt s sp).y) ∧ W1.cell? ⟨w4.heap.size, 2, none⟩ = some (.int .i64 (spotPt s sp).z)) := fun W1 hk => by
    have := bkK KQ5.out hk (by have := HWr.out; have := HWr4.out; omega);exact ⟨this.c 0 rfl, this.c 1 rfl, this.c 2 rfl⟩
   have HCN : Hid (c + r < maxLen) := by
    show _ < _;have h1 := HC1.out;have h2 := HCR.out;have h3 := HSL.out;unfold maxLen;omega
   have HFS : Hid (flrP s (sps.take (r + 1)) f = setF (flrP s (sps.take r) f) (spotP s.slot sp) (pvv (spotPt s sp))) := by show _ = _; rw [HTK.out, flrP_succ]
   have HGS : Hid (flrS s (sps.take (r + 1)) g = setF (flrS s (sps.take r) g) (stdOf s.ware.kind (spotPt s sp)) (plv (spotP s.slot sp))) := by show _ = _; rw [HTK.out, flrS_succ]
   clear hI hbk hown hob hol hbM hlt2 HI;obtain ⟨p, hp⟩ : ∃ p, p = spotP s.slot sp := ⟨_, rfl⟩;obtain ⟨q, hq⟩ : ∃ q, q = spotPt s sp := ⟨_, rfl⟩;have HPE := hdd hp;rw [← hp] at HPL HWP HFS HGS HLAY;rw [← hq] at HPQ HWS HFS HGS;clear hp hq;generalize flrP s (sps.take r) f = fr at *;generalize flrS s (sps.take r) g = gr at *;obtain ⟨fr1, hfr1⟩ : ∃ x, x = flrP s (sps.take (r + 1)) f := ⟨_, rfl⟩;obtain ⟨gr1, hgr1⟩ : ∃ x, x = flrS s (sps.take (r + 1)) g := ⟨_, rfl⟩;have HFR1 := hdd hfr1;have HGR1 := hdd hgr1;rw [← hfr1] at HFS;rw [← hgr1] at HGS;clear hfr1 hgr1;obtain ⟨kd, hkd⟩ : ∃ kd, kd = s.ware.kind := ⟨_, rfl⟩;have HKE := hdd hkd;rw [← hkd] at HKD HWS HGS HLAY;clear hkd
   refine region_line (wB := wB) [16, 18, 19, 21] [zf,zf,zf,zf,zf,zf,zf,zf,zf,zf,zf,zf,zf,zf,zf,zf,zf,zf,zf,zf,zf,zf,zf,zf,zf,zf,zf,zf,zf,zf,zf,zf,zf,zf,zf,zf,zt,zt,zt,zt,zt,zt,zt,zt,zt,zt,zt,zt,zt,zt,zt,zt,zt,zt,zt,zt,zf,zf,zf,zf,zf,zf,zf,zf,zf,zf,zf,zf,zf,zf,zf]
    [([], [36], none), ([0], [37], none), ([1], [38], none), ([2], [39], none), ([], [40], none), ([], [41], none), ([5], [42], none), ([6], [43], none), ([7], [44], none), ([], [45], none), ([9], [46], none), ([10], [47], none), ([], [48], none), ([11, 12], [49], none), ([], [50], none), ([], [51], none), ([3, 4], [52], none), ([16], [52, 53], none), ([3, 17, 14, 16], [], none), ([8, 13], [54], none), ([19], [54, 55], none), ([8, 20, 15, 19], [], none)]
    (layV b mp ms w.heap.size p q kd) (layJ w5 mp ms (c + r) fr gr p q kd) (by kernel_rfl) (by kernel_rfl) (by kernel_rfl) HBW5.out ⟨⟨rfl, rfl, rfl, Nat.le_refl _, fun _ _ _ => rfl⟩, rfl, rfl⟩ ?_ ?_
   ·refine ⟨?_, ?_, ?_, ?_, ?_, ?_, ?_, ?_, ?_, ?_, ?_, ?_, ?_, ?_, ?_, ?_, ?_, ?_, ?_, ?_, ?_, ?_, trivial⟩
    ·intro ph _ f w1 hb hJ _ K hK
     simp only [over, overL];go_simp;exact hK _ _ ⟨_, by simp only [over, overL]; rfl, rfl, hb, hJ, fun _ h => h⟩
    ·intro ph _ f w1 hb hJ ⟨h36, _⟩ K hK
     replace h36 : f 36 = _ := h36;simp only [over, overL, h36];go_simp;exact hK _ _ ⟨_, by simp only [over, overL, h36]; rfl, rfl, hb, hJ, fun _ h => h⟩
    ·intro ph _ f w1 hb hJ ⟨h37, _⟩ K hK
     replace h37 : f 37 = _ := h37;simp only [over, overL, h37];go_simp;exact hK _ _ ⟨_, by simp only [over, overL, h37]; rfl, rfl, hb, hJ, fun _ h => h⟩
    ·intro ph _ f w1 hb hJ ⟨h38, _⟩ K hK
     replace h38 : f 38 = _ := h38;have q0 := HM2.out w1 hJ.1;simp only [over, overL, h38];go_simp;exact hK _ _ ⟨_, by simp only [over, overL, h38]; rfl, rfl, hb, hJ, fun _ h => h⟩
    ·intro ph _ f w1 hb hJ _ K hK
     obtain ⟨q0, q1, q2⟩ := HPL.out w1 hJ.1;simp only [over, overL];go_simp;exact hK _ _ ⟨_, by simp only [over, overL]; rfl, rfl, hb, hJ, fun _ h => h⟩
    ·intro ph _ f w1 hb hJ _ K hK
     simp only [over, overL];go_simp;exact hK _ _ ⟨_, by simp only [over, overL]; rfl, rfl, hb, hJ, fun _ h => h⟩
    ·intro ph _ f w1 hb hJ ⟨h41, _⟩ K hK
     replace h41 : f 41 = _ := h41;simp only [over, overL, h41];go_simp;exact hK _ _ ⟨_, by simp only [over, overL, h41]; rfl, rfl, hb, hJ, fun _ h => h⟩
    ·intro ph _ f w1 hb hJ ⟨h42, _⟩ K hK
     replace h42 : f 42 = _ := h42;simp only [over, overL, h42];go_simp;exact hK _ _ ⟨_, by simp only [over, overL, h42]; rfl, rfl, hb, hJ, fun _ h => h⟩
    ·intro ph _ f w1 hb hJ ⟨h43, _⟩ K hK
     replace h43 : f 43 = _ := h43;have q0 := HM3.out w1 hJ.1;simp only [over, overL, h43];go_simp;exact hK _ _ ⟨_, by simp only [over, overL, h43]; rfl, rfl, hb, hJ, fun _ h => h⟩
    ·intro ph _ f w1 hb hJ _ K hK
     simp only [over, overL];go_simp;exact hK _ _ ⟨_, by simp only [over, overL]; rfl, rfl, hb, hJ, fun _ h => h⟩
    ·intro ph _ f w1 hb hJ ⟨h45, _⟩ K hK
     replace h45 : f 45 = _ := h45;simp only [over, overL, h45];go_simp;exact hK _ _ ⟨_, by simp only [over, overL, h45]; rfl, rfl, hb, hJ, fun _ h => h⟩
    ·intro ph _ f w1 hb hJ ⟨h46, _⟩ K hK
     replace h46 : f 46 = _ := h46;have q0 := HKD.out w1 hJ.1;simp only [over, overL, h46];go_simp;exact hK _ _ ⟨_, by simp only [over, overL, h46]; rfl, rfl, hb, hJ, fun _ h => h⟩
    ·intro ph _ f w1 hb hJ _ K hK
     obtain ⟨q0, q1, q2⟩ := HPQ.out w1 hJ.1;simp only [over, overL];go_simp;exact hK _ _ ⟨_, by simp only [over, overL]; rfl, rfl, hb, hJ, fun _ h => h⟩
    ·intro ph _ f w1 hb hJ ⟨h47, h48, _⟩ K hK
     replace h47 : f 47 = _ := h47;replace h48 : f 48 = _ := h48;simp only [over, overL, h47, h48];go_simp;exact hK _ _ ⟨_, by simp only [over, overL, h47, h48]; rfl, rfl, hb, hJ, fun _ h => h⟩
    ·intro ph _ f w1 hb hJ _ K hK
     obtain ⟨q0, q1, q2⟩ := HPQ.out w1 hJ.1;simp only [over, overL];go_simp;exact hK _ _ ⟨_, by simp only [over, overL]; rfl, rfl, hb, hJ, fun _ h => h⟩
    ·intro ph _ f w1 hb hJ _ K hK
     obtain ⟨q0, q1, q2⟩ := HPL.out w1 hJ.1;simp only [over, overL];go_simp;exact hK _ _ ⟨_, by simp only [over, overL]; rfl, rfl, hb, hJ, fun _ h => h⟩
    ·intro ph hph f w1 hb hJ ⟨h39, h40, _⟩ K hK
     obtain rfl : ph = 0 := hph.1 0 rfl;replace h39 : f 39 = _ := h39;replace h40 : f 40 = _ := h40;obtain ⟨hk, e1, e2⟩ := hJ;obtain ⟨v0, st, o1, q0, hh⟩ := (HMF.out.same e1).entry (c := kkP) (t := 63) Tryz.underlying63 zeroPt (p := p) HWP.out HCN.out;have kb : Kpt (fun k => k = mp ∨ k = ms) w1 (setBlock w1 mp o1) := kpt_setBlock _ _ _ _ (.inl rfl);replace q0 : (Instr.mapEntry 63 (.map (some mp)) (.agg #[.int .i64 p.1, .int .i64 p.2.1, .int .i64 p.2.2])).run Tryz.prog w1 = .ok (.tuple #[v0, st]) (setBlock w1 mp o1) := q0;simp only [over, overL, h39, h40];go_simp;exact hK _ _ ⟨.tuple #[v0, st], by simp only [over, overL, h39, h40]; rfl, ⟨v0, st, rfl⟩, hb.trans (kb.below hb.size HMB.out), ⟨hk.trans kb, ⟨v0, st, rfl, hh⟩, (heap_setBlock_ne HNE.out.2.2.symm).trans e2⟩, fun _ h => h⟩
    ·intro ph _ f w1 hb hJ ⟨h52, _⟩ K hK
     obtain ⟨v0, st, h52⟩ := h52;replace h52 : f 52 = _ := h52;simp only [over, overL, h52];go_simp;exact hK _ _ ⟨st, by simp only [over, overL, h52]; rfl, (fun v1 st1 e => by have e2 := h52.symm.trans e; injection e2 with e2; simp at e2; exact e2.2), hb, hJ, fun _ h => h⟩
    ·intro ph hph f w1 hb hJ ⟨h39, h53, h50, h52, _⟩ K hK
     obtain rfl : ph = 1 := hph.1 1 rfl;replace h39 : f 39 = _ := h39;replace h50 : f 50 = _ := h50;obtain ⟨hk, ⟨v0, st, e1, o1, q1, q2⟩, e2⟩ := hJ;replace h53 : f 53 = st := h53 v0 st e1;obtain ⟨o2, q3, hw2⟩ := q2 w1 (pvv q) q1;have kb : Kpt (fun k => k = mp ∨ k = ms) w1 (setBlock w1 mp o2) := kpt_setBlock _ _ _ _ (.inl rfl);have hlt : mp < w1.heap.size := (Array.getElem?_eq_some_iff.1 q1).1;clear q1 q2 e1;simp only [over, overL, h39, h53, h50];go_simp;exact hK _ _ ⟨undef, by simp only [over, overL, h39, h53, h50]; rfl, trivial, hb.trans (kb.below hb.size HMB.out), ⟨hk.trans kb, hw2 _ (heap_setBlock_at hlt), (heap_setBlock_ne HNE.out.2.2.symm).trans e2⟩, fun _ h => h⟩
    ·intro ph hph f w1 hb hJ ⟨h44, h49, _⟩ K hK
     obtain rfl : ph = 2 := hph.1 2 rfl;replace h44 : f 44 = _ := h44;replace h49 : f 49 = _ := h49;obtain ⟨hk, e1, e2⟩ := hJ;obtain ⟨v0, st, o1, q0, hh⟩ := (HMG.out.same e2).entry (c := kkS) (t := 64) Tryz.underlying64 zeroPl (p := stdOf kd q) HWS.out HCN.out;have kb : Kpt (fun k => k = mp ∨ k = ms) w1 (setBlock w1 ms o1) := kpt_setBlock _ _ _ _ (.inr rfl);replace q0 : (Instr.mapEntry 64 (.map (some ms)) (.agg #[.int .i64 kd, .int .i64 q.x, .int .i64 q.y, .int .i64 q.z])).run Tryz.prog w1 = .ok (.tuple #[v0, st]) (setBlock w1 ms o1) := q0;simp only [over, overL, h44, h49];go_simp;exact hK _ _ ⟨.tuple #[v0, st], by simp only [over, overL, h44, h49]; rfl, ⟨v0, st, rfl⟩, hb.trans (kb.below hb.size HMB.out), ⟨hk.trans kb, e1.same (heap_setBlock_ne HNE.out.2.2), v0, st, rfl, hh⟩, fun _ h => h⟩
    ·intro ph _ f w1 hb hJ ⟨h54, _⟩ K hK
     obtain ⟨v0, st, h54⟩ := h54;replace h54 : f 54 = _ := h54;simp only [over, overL, h54];go_simp;exact hK _ _ ⟨st, by simp only [over, overL, h54]; rfl, (fun v1 st1 e => by have e2 := h54.symm.trans e; injection e2 with e2; simp at e2; exact e2.2), hb, hJ, fun _ h => h⟩
    ·intro ph hph f w1 hb hJ ⟨h44, h55, h51, h54, _⟩ K hK
     obtain rfl : ph = 3 := hph.1 3 rfl;replace h44 : f 44 = _ := h44;replace h51 : f 51 = _ := h51;obtain ⟨hk, e2, v0, st, e1, o1, q1, q2⟩ := hJ;replace h55 : f 55 = st := h55 v0 st e1;obtain ⟨o2, q3, hw2⟩ := q2 w1 (plv p) q1;have kb : Kpt (fun k => k = mp ∨ k = ms) w1 (setBlock w1 ms o2) := kpt_setBlock _ _ _ _ (.inr rfl);have hlt : ms < w1.heap.size := (Array.getElem?_eq_some_iff.1 q1).1;clear q1 q2 e1;simp only [over, overL, h44, h55, h51];go_simp;exact hK _ _ ⟨undef, by simp only [over, overL, h44, h55, h51]; rfl, trivial, hb.trans (kb.below hb.size HMB.out), ⟨hk.trans kb, e2.same (heap_setBlock_ne HNE.out.2.2), hw2 _ (heap_setBlock_at hlt)⟩, fun _ h => h⟩
   intro fv w6 hb6 hJ6 _;obtain ⟨hk6, h6p, h6s⟩ := hJ6;have HK6 := hdd hk6;have H6P : Hid (MF kkP w6 mp (c + (r + 1)) fr1) := by show MF _ _ _ _ _; rw [HFS.out]; exact h6p
   have H6S : Hid (MF kkS w6 ms (c + (r + 1)) gr1) := by show MF _ _ _ _ _; rw [HGS.out]; exact h6s
   have HK26 : Hid (Kpt (fun k => k = b ∨ k = mp ∨ k = ms ∨ (Value.slice aoB nB capB).ownBlock = some k) w2 w6) := HK25.out.trans (hk6.mono fun k e => by rcases e with e | e; exact .inr (.inl e); exact .inr (.inr (.inl e)));have HBK6 : Hid (Bk b (flc ts (.slice ao nn cap) mp ms) w6) := bkK HBK5.out hk6 (fun e => by rcases e with e | e; exact HNE.out.1 e; exact HNE.out.2.1 e);have HO6 : Hid (OwnR encP w6 wB.heap.size (.slice ao nn cap) (bl ++ flrB s (sps.take r))) := own_kpt HO5.out hk6 (fun k e e2 => by rcases e2 with rfl | rfl; exact own_ne_map HO5.out HMF.out e; exact own_ne_map HO5.out HMG.out e);have s2 := HKD.out w6 hk6
   have HPL6 : Hid (Bk (wr.heap.size + 1) [.int .i64 p.1, .int .i64 p.2.1, .int .i64 p.2.2] w6) := by
    have := bkK KP5.out hk6 (by have := HLT.out; have := HWr.out; omega);rw [HPE.out];exact this
   clear hk6 h6p h6s hb6 HM2 HM3 HPQ HKD HMF HMG HFS HGS HBK5 HO5 HPL HK25 KQ5 KP5;simp only [over_eq, overL]
   by_cases hk3 : kd = 3
   rotate_left
   ·have hk4 : (kd == 3) = false := by simp [hk3]
    have HLN : Hid (flrB s (sps.take (r + 1)) = flrB s (sps.take r)) := by show _ = _; rw [HLAY.out, if_neg hk3, List.append_nil]
    clear hk3;go_wp2
    go_roundw
    case rel => exact ⟨r + 1, by omega, by go_num, HK26.out, (by rw [← HFR1.out]; exact H6P.out), (by rw [← HGR1.out]; exact H6S.out), ao, nn, cap, HBK6.out, by rw [HLN.out]; exact HO6.out, HOB5.out, HOL5.out⟩
    case measure => simp [intOf]; omega
   ·have hk4 : (kd == 3) = true := by simp [hk3]
    have HLN : Hid (flrB s (sps.take (r + 1)) = flrB s (sps.take r) ++ [p]) := by show _ = _; rw [HLAY.out, if_pos hk3]
    clear hk3
    go_wp2_with fail
    obtain ⟨wn, hwn⟩ : ∃ wn, wn = w6 := ⟨_, rfl⟩;have HBn : Hid (bw wB wn) := by show Below _ _ _; rw [hwn]; exact HBW2.out.trans (HK26.out.below HBW2.out.size HMLb.out)
    rw [← hwn] at HK26 HBK6 HO6 H6P H6S HPL6 s2 ⊢;clear hwn
    refine region_line (wB := wB) [6, 7, 10] [zf,zf,zf,zf,zf,zf,zf,zf,zf,zf,zf,zf,zf,zf,zf,zf,zf,zf,zf,zf,zf,zf,zf,zf,zf,zf,zf,zf,zf,zf,zf,zf,zf,zf,zf,zf,zf,zf,zf,zf,zf,zf,zf,zf,zf,zf,zf,zf,zf,zf,zf,zf,zf,zf,zf,zf,zf,zf,zf,zf,zt,zt,zt,zt,zt,zt,zt,zt,zt,zt,zf]
     [([], [60], none), ([], [61], none), ([1], [62], none), ([2], [63], none), ([3], [64], none), ([], [65], none), ([5], [], none), ([4, 6], [], none), ([0], [68], none), ([8], [69], none), ([9, 7], [], none)]
     (lbV b (.slice ao nn cap) p) (lbJ wn b wB.heap.size (.slice ao nn cap) (bl ++ flrB s (sps.take r)) p) (by kernel_rfl) (by kernel_rfl) (by kernel_rfl) HBn.out ⟨rfl, rfl, rfl, Nat.le_refl _, fun _ _ => rfl⟩ ?_ ?_
    ·refine ⟨?_, ?_, ?_, ?_, ?_, ?_, ?_, ?_, ?_, ?_, ?_, trivial⟩
     ·intro ph _ f w1 hb hJ _ K hK
      simp only [over, overL];go_simp;exact hK _ _ ⟨_, by simp only [over, overL]; rfl, rfl, hb, hJ, fun _ h => h⟩
     ·intro ph _ f w1 hb hJ _ K hK
      simp only [over, overL];go_simp;exact hK _ _ ⟨_, by simp only [over, overL]; rfl, rfl, hb, hJ, fun _ h => h⟩
     ·intro ph _ f w1 hb hJ ⟨h61, _⟩ K hK
      replace h61 : f 61 = _ := h61;simp only [over, overL, h61];go_simp;exact hK _ _ ⟨_, by simp only [over, overL, h61]; rfl, rfl, hb, hJ, fun _ h => h⟩
     ·intro ph _ f w1 hb hJ ⟨h62, _⟩ K hK
      replace h62 : f 62 = _ := h62;simp only [over, overL, h62];go_simp;exact hK _ _ ⟨_, by simp only [over, overL, h62]; rfl, rfl, hb, hJ, fun _ h => h⟩
     ·intro ph hph f w1 hb hJ ⟨h63, _⟩ K hK
      replace h63 : f 63 = _ := h63;have q0 := (HBK6.out.later (lbJ_low hJ (hph.2.1 1 7 rfl (by kernel_rfl)))).c 1 rfl;simp only [over, overL, h63];go_simp;exact hK _ _ ⟨_, by simp only [over, overL, h63]; rfl, rfl, hb, hJ, fun _ h => h⟩
     ·intro ph hph f w1 hb hJ _ K hK
      have hk := HPL6.out.later (lbJ_low hJ (Nat.le_succ_of_le (hph.2.1 0 6 rfl (by kernel_rfl))));have q0 := hk.c 0 rfl;have q1 := hk.c 1 rfl;have q2 := hk.c 2 rfl;clear hk;simp only [over, overL];go_simp;exact hK _ _ ⟨_, by simp only [over, overL]; rfl, rfl, hb, hJ, fun _ h => h⟩
     ·intro ph hph f w1 hb hJ ⟨h65, _⟩ K hK
      obtain rfl : ph = 0 := hph.1 0 rfl;replace h65 : f 65 = _ := h65;have ha : bw w1 (w1.alloc (.cells #[.int .i64 p.1, .int .i64 p.2.1, .int .i64 p.2.2] 55)) := (brf).alloc (Nat.le_refl _) _;have hJ2 : bw wn (w1.alloc (.cells #[.int .i64 p.1, .int .i64 p.2.1, .int .i64 p.2.2] 55)) := Below.trans hJ (ha.mono (Below.size hJ));simp only [over, overL, h65];go_simp;exact hK _ _ ⟨_, by simp only [over, overL, h65]; rfl, trivial, hb.trans (ha.mono hb.size), ⟨hJ2, _, rfl, Bk.new w1 [.int .i64 p.1, .int .i64 p.2.1, .int .i64 p.2.2] 55 _ rfl⟩, fun _ h => h⟩
     ·intro ph hph f w1 hb hJ ⟨h64, _, _⟩ K hK
      obtain rfl : ph = 1 := hph.1 1 rfl;replace h64 : f 64 = _ := h64;obtain ⟨hbw, x, h66, hbx⟩ := hJ;obtain ⟨v', w8, q0, ho, hg8, hloc⟩ := run_append_row (ty := 62) goodP Tryz.underlying62 infoP rfl (by decide) (by decide) w1 wB.heap.size (.slice ao nn cap) (bl ++ flrB s (sps.take r)) (HO6.out.later hbw) x p (fun j u hu => hbx.c j hu) HL2.out hb.size;obtain ⟨ao8, n8, cap8, rfl⟩ := ho.form;have hgW : wn.grownBy w8 (Value.slice ao nn cap).ownBlock := (grown_of hbw).trans hg8;have hB8 : bw wB w8 := below_row hb (HO6.out.later hbw) hg8 hb.size
      have hol : ∀ k, (Value.slice ao8 n8 cap8).ownBlock = some k → (Value.slice ao nn cap).ownBlock = some k ∨ wn.heap.size ≤ k := fun k e => by
       rcases hloc with h | h
       ·exact .inl (h ▸ e)
       ·rw [h] at e
        injection e with e;exact .inr (by have := hbw.size; omega)
      exact wp_append_run (s := .tmp 64) (x := .tmp 66) (t := 62) (ty := 62) rfl rfl (by simp only [over, overL, h64]; rfl) (by simp only [over, overL, h66]; rfl) q0 (hK _ _ ⟨_, rfl, trivial, hB8, ⟨ao8, n8, cap8, rfl, ho, hgW, hol⟩, fun _ h => h⟩)
     ·intro ph _ f w1 hb hJ ⟨h60, _⟩ K hK
      replace h60 : f 60 = _ := h60;simp only [over, overL, h60];go_simp;exact hK _ _ ⟨_, by simp only [over, overL, h60]; rfl, rfl, hb, hJ, fun _ h => h⟩
     ·intro ph _ f w1 hb hJ ⟨h68, _⟩ K hK
      replace h68 : f 68 = _ := h68;simp only [over, overL, h68];go_simp;exact hK _ _ ⟨_, by simp only [over, overL, h68]; rfl, rfl, hb, hJ, fun _ h => h⟩
     ·intro ph hph f w1 hb hJ ⟨h69, _, _⟩ K hK
      obtain rfl : ph = 2 := hph.1 2 rfl;replace h69 : f 69 = _ := h69;obtain ⟨ao8, n8, cap8, h67, ho, hg8, hol⟩ := hJ;have hbk8 : Bk b (flc ts (.slice ao nn cap) mp ms) w1 := HBK6.out.same hg8.size (hg8.block _ HBK6.out.1 (fun e => HOB5.out e.symm));have e1 := hbk8.c 1 rfl;have ef1 := hbk8.f 1 rfl;clear hbk8;simp only [over, overL, h69, h67];go_simp;exact hK _ _ ⟨undef, by simp only [over, overL, h69, h67]; rfl, trivial, hb.setCell HLOW.out.1 _, ⟨ao8, n8, cap8, w1, ho, hg8, hol, rfl⟩, fun _ h => h⟩
    intro fv w9 hb9 hJ9 _;obtain ⟨ao8, n8, cap8, w8, ho, hg8, hol, hw9⟩ := hJ9;have hbk8 : Bk b (flc ts (.slice ao nn cap) mp ms) w8 := HBK6.out.same hg8.size (hg8.block _ HBK6.out.1 (fun e => HOB5.out e.symm))
    have k8 : Kpt (fun k => k = b ∨ k = mp ∨ k = ms ∨ (Value.slice aoB nB capB).ownBlock = some k) w2 w8 := by
     refine ⟨hg8.os.trans HK26.out.os, hg8.tape.trans HK26.out.tape, hg8.output.trans HK26.out.output, Nat.le_trans HK26.out.size hg8.size, fun k hk hn => ?_⟩;refine (hg8.block k (Nat.lt_of_lt_of_le hk HK26.out.size) (fun e => ?_)).trans (HK26.out.block k hk hn)
     rcases HOL5.out k e.symm with e2 | e2
     ·exact hn (.inr (.inr (.inr e2)))
     ·omega
    have hb8 : (Value.slice ao8 n8 cap8).ownBlock ≠ some b := fun e => by
     rcases hol b e with h | h
     ·exact HOB5.out h
     ·have := HBK6.out.1
      omega
    have hl8 : ∀ k, (Value.slice ao8 n8 cap8).ownBlock = some k → (Value.slice aoB nB capB).ownBlock = some k ∨ w2.heap.size ≤ k := fun k e => by
     rcases hol k e with h | h
     ·exact HOL5.out k h
     ·exact .inr (by have := HK26.out.size; omega)
    have m8 : MF kkP w8 mp (c + (r + 1)) fr1 := H6P.out.same (hg8.block _ H6P.out.lt (fun e => own_ne_map HO6.out H6P.out e.symm));have n8' : MF kkS w8 ms (c + (r + 1)) gr1 := H6S.out.same (hg8.block _ H6S.out.lt (fun e => own_ne_map HO6.out H6S.out e.symm));have ks : Kpt (fun k => k = b) w8 (w8.setCell ⟨b, 1, none⟩ (.slice ao8 n8 cap8)) := Kpt.setCell _ _ _ _ rfl;rw [← hw9] at ks;have HK9 : Hid (Kpt (fun k => k = b ∨ k = mp ∨ k = ms ∨ (Value.slice aoB nB capB).ownBlock = some k) w2 w9) := k8.trans (ks.mono fun k e => .inl e);have H9P : Hid (MF kkP w9 mp (c + (r + 1)) fr1) := m8.same (ks.block _ m8.lt HNE.out.1.symm);have H9S : Hid (MF kkS w9 ms (c + (r + 1)) gr1) := n8'.same (ks.block _ n8'.lt HNE.out.2.1.symm);have HB9 : Hid (Bk b (flc ts (.slice ao8 n8 cap8) mp ms) w9) := by show Bk _ _ _; rw [hw9]; exact hbk8.put 1 _
    have HO9 : Hid (OwnR encP w9 wB.heap.size (.slice ao8 n8 cap8) (bl ++ flrB s (sps.take (r + 1)))) := by
     show OwnR _ _ _ _ _;rw [HLN.out, ← List.append_assoc];exact own_kpt ho ks (fun k e e2 => hb8 (by rw [e, e2]))
    have H9B := hdd hb8;have H9L := hdd hl8;clear k8 hb8 hl8 m8 n8' ks hbk8 ho hg8 hol hw9 hb9;simp only [over_eq, overL];go_wp2
    go_roundw
    case rel => exact ⟨r + 1, by omega, by go_num, HK9.out, (by rw [← HFR1.out]; exact H9P.out), (by rw [← HGR1.out]; exact H9S.out), ao8, n8, cap8, HB9.out, HO9.out, H9B.out, H9L.out⟩
    case measure => simp [intOf]; omega
  ·have HE : Hid (r = sps.length) := by show _ = _; omega
   go_wp2
   go_end0
   have hI := HI.out;rw [HE.out, HSL.out] at hI;obtain ⟨hk, h1, h2, ao, nn, cap, h3, h4, h5, h6⟩ := hI;rw [List.take_of_length_le (Nat.le_of_eq HSL.out)] at h1 h2 h4;refine ⟨rfl, ao, nn, cap, h3, h4, h5, fun k e => ?_, h1, h2, (Kpt.of_below HB2.out).trans hk⟩
   rcases h6 k e with e2 | e2
   ·exact .inl e2
   ·exact .inr (by have := HB2.out.size; omega)
end Go.Proofs.YtcajifelbldjnaaGreatDoor
namespace Go.Proofs.YtcajifelbldjnaaGreatDoor
open Go.RowKit Go.Maps
theorem hid {p : Prop} (h : p) : Hid p := h
theorem st_ok {l : List Sit} (hd : dchk l = 0) (hok : ∀ s ∈ l, SOk s) : ∀ s ∈ l, StOk s := by
 intro s hs;obtain ⟨k, hk, rfl⟩ := List.mem_iff_getElem.1 hs;obtain ⟨h1, h2, h3⟩ := (dchk_in hd).2 k hk
 have hsz : (l[k]'hk).ware.wid ≤ 132500 ∧ (l[k]'hk).ware.len ≤ 90500 := by
  unfold fit at h3
  split at h3
  ·omega
  ·omega
 have hf : fit ([(l[k]'hk)].take 0) (l[k]'hk) = 0 := by
  unfold fit;rw [if_neg (by omega)];simp
 have ha : dchk [(l[k]'hk)] = 0 := by
  refine dchk_ok (by simp) fun j hj => ?_;obtain rfl : j = 0 := by (have : j < 1 := hj; omega)
  rw [errAt_lt (by simp)];show one3 [(l[k]'hk)] 0 (l[k]'hk) = 0;unfold one3;refine orL_zero fun n hn => ?_;simp only [List.mem_cons, List.mem_nil_iff, or_false] at hn
  rcases hn with rfl | rfl | rfl
  ·exact h1
  ·exact h2
  ·exact hf
 exact ⟨hok _ hs, h2, ⟨(plc_in h1).1, (plc_in h1).2.1⟩, ha, hsz⟩
def spotsOf (s : Sit) : List (Nat × Nat) := spots s.ware.rows.toNat (s.ware.cols.toNat * s.ware.rows.toNat)
def floorP (ls : List Sit) : Plc → Option Value := ls.foldl (fun f s => flrP s (spotsOf s) f) (fun _ => none)
def floorS (ls : List Sit) : Std → Option Value := ls.foldl (fun g s => flrS s (spotsOf s) g) (fun _ => none)
def floorB (ls : List Sit) : List Plc := ls.flatMap fun s => flrB s (spotsOf s)
theorem floorP_succ (ls : List Sit) (s : Sit) : floorP (ls ++ [s]) = flrP s (spotsOf s) (floorP ls) := by simp [floorP, List.foldl_append]
theorem floorS_succ (ls : List Sit) (s : Sit) : floorS (ls ++ [s]) = flrS s (spotsOf s) (floorS ls) := by simp [floorS, List.foldl_append]
theorem floorB_succ (ls : List Sit) (s : Sit) : floorB (ls ++ [s]) = floorB ls ++ flrB s (spotsOf s) := by simp [floorB]
theorem tips_err (ao : Option Addr) (cap : Nat) (l : List Sit) (w : World) (hD : Dk w ao cap l) (hl : l.length ≤ 9223372036854775807) (hd : dchk l ≠ 0) :
  CR 51 #[.slice ao l.length cap] w (.tuple #[.slice none 0 0, .int .i64 (dchk l)]) := by
 have HC := (show Hid _ from dk_check ao cap l w hD hl);have hne : (dchk l != 0) = true := by simp [hd]
 clear hD hl hd;generalize dchk l = d at *
 go_enter Tryz.func51, Tryz.ntmps51
 go_wp2_with fail
 refine Calls.mono HC.out ?_;rintro e w1 ⟨rfl, hb⟩;have HB : Hid _ := hb;clear hb HC;go_wp2;refine bodyPost_ret (v := .tuple #[.slice none 0 0, .int .i64 d]) (by simp [results, Tryz.results51, go_sem]) rfl ⟨rfl, HB.out⟩
abbrev flz : List Value := [.slice none 0 0, .slice none 0 0, .map none, .map none]
abbrev flv (ts bv : Value) (mp ms : Nat) : Value := .agg #[ts, bv, .map (some mp), .map (some ms)]
structure Flr (w w' : World) (l ls : List Sit) (v : Value) : Prop where
 perm : ls.Perm l
 sorted : ls.Pairwise fun x y => x.slot ≤ y.slot
 below : bw w w'
 val : ∃ aoT capT aoB capB mp ms c, v = flv (.slice aoT (tipsL l).length capT) (.slice aoB (floorB ls).length capB) mp ms ∧ OwnR encP w' w.heap.size (.slice aoT (tipsL l).length capT) (tipsL l) ∧ OwnR encP w' w.heap.size (.slice aoB (floorB ls).length capB) (floorB ls) ∧
  MF kkP w' mp c (floorP ls) ∧ MF kkS w' ms c (floorS ls) ∧ w.heap.size ≤ mp ∧ w.heap.size ≤ ms
theorem newFloor_err (ao : Option Addr) (cap : Nat) (l : List Sit) (w : World) (hD : Dk w ao cap l) (hl : l.length ≤ 9223372036854775807) (hd : dchk l ≠ 0) :
  CR 22 #[.slice ao l.length cap] w (.tuple #[.agg #[.slice none 0 0, .slice none 0 0, .map none, .map none], .int .i64 (dchk l)]) := by
 have hb0 : bw w (w.alloc (.cells flz.toArray 66)) := (brf).alloc (Nat.le_refl _) _;have HC := (show Hid _ from tips_err ao cap l (w.alloc (.cells flz.toArray 66)) (hD.next hb0) hl hd);have KF : Hid (Bk w.heap.size flz (w.alloc (.cells flz.toArray 66))) := Bk.new w flz 66 w.heap.size rfl;have HB0 : Hid _ := hb0;have hne : (dchk l != 0) = true := by simp [hd]
 clear hD hl hd hb0;generalize dchk l = d at *
 go_enter Tryz.func22, Tryz.ntmps22
 go_wp2_with fail
 refine Calls.mono HC.out ?_;rintro e w1 ⟨rfl, hb⟩;have KF1 := KF.out.later hb;have HB := hdd (HB0.out.trans (hb.mono HB0.out.size));have r0 := KF1.c 0 rfl;have rf0 := KF1.f 0 rfl;have r1 := KF1.c 1 rfl;have rf1 := KF1.f 1 rfl;have r2 := KF1.c 2 rfl;have rf2 := KF1.f 2 rfl;have r3 := KF1.c 3 rfl;have rf3 := KF1.f 3 rfl;have hlt := KF1.1;clear hb HC KF KF1;go_wp2;refine bodyPost_ret (v := .tuple #[.agg #[.slice none 0 0, .slice none 0 0, .map none, .map none], .int .i64 d]) (by simp [results, Tryz.results22, go_sem, r0, r1, r2, r3]) rfl ⟨rfl, ?_⟩;exact (((HB.out.setCell (Nat.le_refl _) _).setCell (Nat.le_refl _) _).setCell (Nat.le_refl _) _).setCell (Nat.le_refl _) _
structure NfI (w1 w4 : World) (ls : List Sit) (b mp ms : Nat) (ts : Value) (k : Nat) (wr : World) : Prop where
 kpt : Kpt (fun j => j = b ∨ j = mp ∨ j = ms) w4 wr
 maps : ∃ c, c ≤ 384 * k ∧ MF kkP wr mp c (floorP (ls.take k)) ∧ MF kkS wr ms c (floorS (ls.take k))
 len : (floorB (ls.take k)).length ≤ 384 * k
 bk : ∃ ao n cap, Bk b (flc ts (.slice ao n cap) mp ms) wr ∧ OwnR encP wr w1.heap.size (.slice ao n cap) (floorB (ls.take k)) ∧ (Value.slice ao n cap).ownBlock ≠ some b ∧ ∀ j, (Value.slice ao n cap).ownBlock = some j → w4.heap.size ≤ j
theorem own_len {α : Type} {c : Enc α} {w : World} {B : Nat} {ao : Option Addr} {n cap : Nat} {xs : List α} (h : OwnR c w B (.slice ao n cap) xs) : n = xs.length := by
 obtain ⟨a, b, e⟩ := h.shape;injection e
theorem Kpt.belowC {M : Nat → Prop} {W W' w : World} (hk : Kpt M W W') (h : bw w W) (hM : ∀ k, M k → w.heap.size ≤ k) : bw w W' := h.trans (hk.below h.size hM)
theorem newFloor_ok (ao : Option Addr) (cap : Nat) (l : List Sit) (w : World) (hD : Dk w ao cap l) (hd : dchk l = 0) :
  Calls Tryz.prog 22 #[.slice ao l.length cap] w fun e w' => ∃ ls v, e = .returned (.tuple #[v, .int .i64 0]) ∧ Flr w w' l ls v := by
 have hb0 : bw w (w.alloc (.cells flz.toArray 66)) := (brf).alloc (Nat.le_refl _) _;have HC := (show Hid _ from tips_any ao cap l (w.alloc (.cells flz.toArray 66)) (hD.next hb0) hd);have KF : Hid (Bk w.heap.size flz (w.alloc (.cells flz.toArray 66))) := Bk.new w flz 66 w.heap.size rfl;have HB0 : Hid _ := hb0;have HD := hdd hD;have HL : Hid (l.length ≤ 12) := dk_len hd;have HSO : Hid (∀ s ∈ l, StOk s) := st_ok hd hD.ok;clear hD hd hb0
 go_enter Tryz.func22, Tryz.ntmps22
 go_wp2_with fail
 refine Calls.mono HC.out ?_;rintro e w1 ⟨vT, rfl, hoT, hb⟩;obtain ⟨aoT, nT, capT, rfl⟩ := hoT.form;obtain rfl := own_len hoT;have HB1 := hdd (HB0.out.trans (hb.mono HB0.out.size));have KF1 := hdd (KF.out.later hb);have HT1 : Hid (OwnR encP w1 (w.heap.size + 1) (.slice aoT (tipsL l).length capT) (tipsL l)) := hoT.base (by simp);clear hb HC KF hoT HB0;generalize hTL : tipsL l = tl at *;have HTLE := hdd hTL;clear hTL;have hmm := @run_makeMap Tryz.prog
 go_wp2_with fail
 clear hmm;obtain ⟨w3, hw3⟩ : ∃ w3, w3 = ((w1.alloc (.map #[] 0)).alloc (.map #[] 0)).alloc (.cells (flc (.slice aoT tl.length capT) (.slice none 0 0) w1.heap.size (w1.heap.size + 1)).toArray 66) := ⟨_, rfl⟩;have hb13 : bw w1 w3 := by rw [hw3]; exact (((brf).alloc (Nat.le_refl _) _).alloc (by simp) _).alloc (by simp; omega) _
 have hs3 : w3.heap.size = w1.heap.size + 3 := by rw [hw3]; simp
 have MP3 : Hid (MF kkP w3 w1.heap.size 0 (fun _ => none)) := by
  show MF _ _ _ _ _;rw [hw3];exact ((MF.made w1).next ((brf).alloc (Nat.le_refl _) _)).next ((brf).alloc (Nat.le_refl _) _)
 have MS3 : Hid (MF kkS w3 (w1.heap.size + 1) 0 (fun _ => none)) := by
  show MF _ _ _ _ _;rw [hw3];have := MF.made (c := kkS) (w1.alloc (.map #[] 0));simp only [World.size_alloc] at this;exact this.next ((brf).alloc (Nat.le_refl _) _)
 have KB3 : Hid (Bk (w1.heap.size + 2) (flc (.slice aoT tl.length capT) (.slice none 0 0) w1.heap.size (w1.heap.size + 1)) w3) := by
  show Bk _ _ _;rw [hw3];exact Bk.new _ (flc (.slice aoT tl.length capT) (.slice none 0 0) w1.heap.size (w1.heap.size + 1)) 66 (w1.heap.size + 2) (by simp)
 have HB3 := hdd (HB1.out.trans (hb13.mono HB1.out.size));have HB13 := hdd hb13;have HW3 := hdd hw3;have HS3 := hdd hs3
 try rw [← hw3]
 clear hb13 hw3 hs3;refine Calls.mono (bySlots_any ao cap l w3 (HD.out.sts.next HB3.out) HL.out) ?_;rintro e w4 ⟨ls, aoL, capL, rfl, hp, hpw, hsts, hadl, hb34⟩;have HP := hdd hp;have HPW := hdd hpw;have HLS : Hid (ls.length ≤ 12) := by show _ ≤ _; rw [hp.length_eq]; exact HL.out
 have HSS : Hid (∀ s ∈ ls, StOk s) := fun s hs => HSO.out s (hp.subset hs);have HST := hdd hsts;have HADL := hdd hadl;have HB14 := hdd (HB13.out.trans (hb34.mono HB13.out.size));have HB4 := hdd (HB3.out.trans (hb34.mono HB3.out.size))
 have HI0 : Hid (NfI w1 w4 ls (w1.heap.size + 2) w1.heap.size (w1.heap.size + 1) (.slice aoT tl.length capT) 0 w4) :=
  ⟨Kpt.refl _ _, ⟨0, Nat.zero_le _, MP3.out.next hb34, MS3.out.next hb34⟩, by simp [floorB], none, 0, 0, KB3.out.later hb34, OwnR.nil _ _ _, (fun e => by cases e), (fun j e => by cases e)⟩
 have HW4 : Hid (w1.heap.size + 3 ≤ w4.heap.size) := by have := hb34.size; have := HS3.out; show _ ≤ _; omega
 have HADL2 : Hid (∀ ad, aoL = some ad → w1.heap.size + 3 ≤ ad.block) := fun ad e => by have := hadl ad e; have := HS3.out; omega
 clear HADL;clear hadl hp hpw hsts hb34 MP3 MS3 KB3 HW3 HS3 HB3 HB13 HSO
 go_wp2_with fail
 go_loopw [25] (fun i wr => ∃ k : Nat, k ≤ ls.length ∧ i = .int .i64 (k : Int) ∧ NfI w1 w4 ls (w1.heap.size + 2) w1.heap.size (w1.heap.size + 1) (.slice aoT tl.length capT) k wr) (fun i _ => ls.length - (intOf i).toNat)
 case atStart => exact ⟨0, Nat.zero_le _, rfl, HI0.out⟩
 case round =>
  obtain ⟨k, hk, rfl, hI⟩ := hrel;have HI := hdd hI;have hw4 := HW4.out
  have HSTr : Hid (Sts wr aoL ls) := by
   show Sts _ _ _;refine HST.out.kpt hI.kpt fun hne ad e => ?_;have := HADL2.out ad e;omega
  have HWr : Hid (w4.heap.size ≤ wr.heap.size) := hI.kpt.size;have HB1r : Hid (bw w1 wr) := HB14.out.trans (hI.kpt.below HB14.out.size (fun j e => by omega));clear hI;have hls := HLS.out
  by_cases hlt : k < ls.length
  ·obtain ⟨g, off, hao, hat⟩ := HSTr.out.at hlt
   have HTK : Hid (ls.take (k + 1) = ls.take k ++ [ls[k]'hlt]) := List.take_succ_eq_append_getElem hlt;have HSO := (show Hid _ from HSS.out _ (List.getElem_mem hlt));generalize ls[k]'hlt = s at *;subst hao;obtain ⟨c, hc, hf, hg⟩ := HI.out.maps;obtain ⟨ao2, n2, cap2, hbk, hown, hob, hol⟩ := HI.out.bk;obtain ⟨R, hR⟩ : ∃ R : Nat, s.ware.rows = R := ⟨s.ware.rows.toNat, by have := inR_iff.1 (chk_in HSO.out.chk).2.2.1; omega⟩;obtain ⟨C, hC⟩ : ∃ C : Nat, s.ware.cols = C := ⟨s.ware.cols.toNat, by have := inR_iff.1 (chk_in HSO.out.chk).2.2.2.1; omega⟩
   have hCR : C * R ≤ 384 := by
    have a1 := inR_iff.1 (chk_in HSO.out.chk).2.2.1;have a2 := inR_iff.1 (chk_in HSO.out.chk).2.2.2.1;have := Nat.mul_le_mul (show C ≤ 24 by omega) (show R ≤ 16 by omega);omega
   have HSPO : Hid (spotsOf s = spots R (C * R)) := by show _ = _; unfold spotsOf; rw [hR, hC]; rfl
   have HLN : Hid ((flrB s (spots R (C * R))).length ≤ 384) := by
    show _ ≤ _;unfold flrB
    split
    ·rw [List.length_map, spots_length]; exact hCR
    ·simp
   have hb5 : bw wr (wr.alloc (sobj s)) := (brf).alloc (Nat.le_refl _) _;have HLAY := hid (lay_any w1 (wr.alloc (sobj s)) s R C (w1.heap.size + 2) w1.heap.size (w1.heap.size + 1) c (.slice aoT tl.length capT) ao2 n2 cap2 (floorB (ls.take k)) (floorP (ls.take k)) (floorS (ls.take k)) HSO.out hR hC (HB1r.out.trans (hb5.mono HB1r.out.size)) (by omega) (by omega) (hbk.later hb5) (hown.later hb5) hob (hf.next hb5) (hg.next hb5) (by omega) (by have := HI.out.len; omega));have HCC : Hid (c + C * R ≤ 384 * (k + 1)) := by show _ ≤ _; omega
   have HOL2 := hdd hol;have HB5 := hdd hb5;obtain ⟨_, c0, c1, c2, c3, c4, c5, c6, c7, c8, c9, c10, c11, c12, c13⟩ := hat;have hki : (k : Int) < (ls.length : Int) := by omega
   clear hc hf hg hbk hown hob hol hR hC hCR hb5
   go_wp2_with fail
   refine Calls.mono HLAY.out ?_;rintro e w5 ⟨rfl, ao5, n5, cap5, hbk5, hown5, hob5, hol5, hf5, hg5, hk5⟩
   have HI5 : Hid (NfI w1 w4 ls (w1.heap.size + 2) w1.heap.size (w1.heap.size + 1) (.slice aoT tl.length capT) (k + 1) w5) := by
    have hI := HI.out;have e1 := floorP_succ (ls.take k) s;have e2 := floorS_succ (ls.take k) s;have e3 := floorB_succ (ls.take k) s;rw [HSPO.out] at e1 e2 e3;refine ⟨⟨hk5.os.trans (HB5.out.os.trans hI.kpt.os), hk5.tape.trans (HB5.out.tape.trans hI.kpt.tape), hk5.output.trans (HB5.out.output.trans hI.kpt.output), Nat.le_trans hI.kpt.size (Nat.le_trans HB5.out.size hk5.size), fun j hj hn => ?_⟩, ⟨c + C * R, HCC.out, ?_, ?_⟩, ?_, ao5, n5, cap5, hbk5, ?_, hob5, fun j e => ?_⟩
    ·have hjr : j < wr.heap.size := Nat.lt_of_lt_of_le hj hI.kpt.size
     refine ((hk5.block j (Nat.lt_of_lt_of_le hjr HB5.out.size) fun e => ?_).trans (HB5.out.block j hjr)).trans (hI.kpt.block j hj hn)
     rcases e with e | e | e | e
     ·exact hn (.inl e)
     ·exact hn (.inr (.inl e))
     ·exact hn (.inr (.inr e))
     ·have := HOL2.out j e; omega
    ·rw [HTK.out, e1]; exact hf5
    ·rw [HTK.out, e2]; exact hg5
    ·rw [HTK.out, e3, List.length_append]
     have := hI.len;have := HLN.out;omega
    ·rw [HTK.out, e3]; exact hown5
    ·rcases hol5 j e with h | h
     ·exact HOL2.out j h
     ·have := HB5.out.size; have := HWr.out; omega
   clear hbk5 hown5 hob5 hol5 hf5 hg5 hk5 c0 c1 c2 c3 c4 c5 c6 c7 c8 c9 c10 c11 c12 c13 HLAY;go_wp2
   go_roundw
   case rel => exact ⟨k + 1, by omega, by go_num, HI5.out⟩
   case measure => simp [intOf]; omega
  ·have HE : Hid (k = ls.length) := by show _ = _; omega
   have hI := HI.out;rw [HE.out] at hI;obtain ⟨ao2, n2, cap2, hbk, hown, hob, hol⟩ := hI.bk;have HKF : Hid (Bk w.heap.size flz wr) := bkK (KF1.out.later (HB14.out)) hI.kpt (fun e => by have := KF1.out.1; omega);have HBKr := hdd hbk;have HOr := hdd hown;have HTr : Hid (OwnR encP wr (w.heap.size + 1) (.slice aoT tl.length capT) tl) := own_kpt (HT1.out.later HB14.out) hI.kpt (fun j e e2 => by have := own_lt HT1.out e; omega);have HBr : Hid (bw w wr) := hI.kpt.belowC HB4.out (fun j e => by have := HB1.out.size; omega);have HMr := (show Hid _ from hI.maps);have e0 := hbk.c 0 rfl;have e1 := hbk.c 1 rfl;have e2 := hbk.c 2 rfl;have e3 := hbk.c 3 rfl;have hbne : w1.heap.size + 2 ≠ w.heap.size := fun e => by have := KF1.out.1; omega
   have r0 := HKF.out.c 0 rfl;have rf0 := HKF.out.f 0 rfl;have r1 := HKF.out.c 1 rfl;have rf1 := HKF.out.f 1 rfl;have r2 := HKF.out.c 2 rfl;have rf2 := HKF.out.f 2 rfl;have r3 := HKF.out.c 3 rfl;have rf3 := HKF.out.f 3 rfl;have hFlt := HKF.out.1;clear hI hbk hown hob hol;go_wp2;refine bodyPost_ret (v := .tuple #[flv (.slice aoT tl.length capT) (.slice ao2 n2 cap2) w1.heap.size (w1.heap.size + 1), .int .i64 0]) (by simp [results, Tryz.results22, go_sem, r0, r1, r2, r3]) rfl ⟨ls, _, rfl, HP.out, HPW.out, ?_, ?_⟩
   ·exact (((HBr.out.setCell (Nat.le_refl _) _).setCell (Nat.le_refl _) _).setCell (Nat.le_refl _) _).setCell (Nat.le_refl _) _
   ·have hLT : ls.take ls.length = ls := List.take_length
    obtain ⟨c, hc, hf, hg⟩ := HMr.out;have hO := HOr.out;rw [hLT] at hf hg hO
    have k4 : Kpt (fun j => j = w.heap.size) wr ((((wr.setCell ⟨w.heap.size, 0, none⟩ (.slice aoT tl.length capT)).setCell ⟨w.heap.size, 1, none⟩ (.slice ao2 n2 cap2)).setCell ⟨w.heap.size, 2, none⟩ (.map (some w1.heap.size))).setCell ⟨w.heap.size, 3, none⟩ (.map (some (w1.heap.size + 1)))) :=
     (((Kpt.setCell (M := fun j => j = w.heap.size) wr w.heap.size 0 _ rfl).trans (Kpt.setCell _ w.heap.size 1 _ rfl)).trans (Kpt.setCell _ w.heap.size 2 _ rfl)).trans (Kpt.setCell _ w.heap.size 3 _ rfl)
    obtain rfl := own_len hO;have hlt1 := KF1.out.1;rw [HTLE.out];refine ⟨aoT, capT, ao2, cap2, w1.heap.size, w1.heap.size + 1, c, rfl, ?_, ?_, ?_, ?_, by omega, by omega⟩
    ·exact (own_kpt HTr.out k4 (fun j e e2 => by have := own_lt HTr.out e; omega)).base (by omega)
    ·exact (own_kpt hO k4 (fun j e e2 => by have := own_lt hO e; omega)).base (by omega)
    ·exact hf.same (k4.block _ hf.lt (by omega))
    ·exact hg.same (k4.block _ hg.lt (by omega))
structure ButL (bs : List Nat) (w w1 : World) : Prop where
 os : w1.os = w.os
 tape : w1.tape = w.tape
 output : w1.output = w.output
 size : w.heap.size ≤ w1.heap.size
 block : ∀ k, k < w.heap.size → k ∉ bs → w1.heap[k]? = w.heap[k]?
def Fla (bs : List Nat) (w : World) (ao : Option Addr) (ps : List F.Pc) : Prop := F.Fl w ao ps ∧ (ps = [] ∨ ∀ a, ao = some a → a.block ∉ bs ∧ bs.headD 0 ≤ a.block)
theorem Fla.but {bs : List Nat} {w w1 : World} {ao : Option Addr} {ps : List F.Pc} (h : Fla bs w ao ps) (hb : ButL bs w w1) : Fla bs w1 ao ps := by
 obtain ⟨⟨h0, h1⟩, h2⟩ := h;refine ⟨⟨h0, ?_⟩, h2⟩
 rcases h1 with h1 | ⟨g, off, e, hg, hc⟩
 ·exact .inl h1
 ·rcases h2 with h2 | h2
  ·exact .inl h2
  ·have hbl := hb.block g hg (h2 _ e).1
   exact .inr ⟨g, off, e, Nat.lt_of_lt_of_le hg hb.size, fun k hk => ⟨(World.cell?_of_block (w := w) hbl).trans (hc k hk).1, (World.cell?_of_block (w := w) hbl).trans (hc k hk).2⟩⟩
theorem Fla.more {bs bs' : List Nat} {w : World} {ao : Option Addr} {ps : List F.Pc} (h : Fla bs w ao ps) (hs : ∀ k, k < w.heap.size → k ∈ bs' → k ∈ bs) (hd : bs'.headD 0 ≤ bs.headD 0) : Fla bs' w ao ps := by
 obtain ⟨⟨h0, h1⟩, h2⟩ := h;refine ⟨⟨h0, h1⟩, ?_⟩
 rcases h2 with h2 | h2
 ·exact .inl h2
 ·rcases h1 with h1 | ⟨g, off, e, hg, hc⟩
  ·exact .inl h1
  ·refine .inr fun a ha => ?_
   rw [e] at ha;injection ha with ha;subst ha;exact ⟨fun hm => (h2 _ e).1 (hs _ hg hm), Nat.le_trans hd (h2 _ e).2⟩
theorem butL_below {bs : List Nat} {w w1 : World} (h : bw w w1) : ButL bs w w1 := ⟨h.os, h.tape, h.output, h.size, fun k hk _ => h.block k hk⟩
theorem butL_grown {bs : List Nat} {w w1 : World} {r : Option Nat} (h : w.grownBy w1 r) (hr : ∀ k, r = some k → k ∈ bs) : ButL bs w w1 := ⟨h.os, h.tape, h.output, h.size, fun k hk hn => h.block k hk (fun e => hn (hr k e.symm))⟩
theorem butL_set {bs : List Nat} (w : World) (b k : Nat) (v : Value) (hb : b ∈ bs) : ButL bs w (w.setCell ⟨b, k, none⟩ v) := ⟨rfl, rfl, rfl, by simp [World.setCell], fun i _ h1 => Below.heap_setCell w ⟨b, k, none⟩ v i (fun e => h1 (by simp only at e; rw [e]; exact hb))⟩
theorem fla_own {bs : List Nat} {w : World} {base : Nat} {v : Value} {ps : List F.Pc} (h : OwnR encC w base v ps) (hs : ∀ p ∈ ps, p.1.size ≤ maxLen) (hb : ∀ k ∈ bs, k < base) : ∃ ao cap, v = .slice ao ps.length cap ∧ Fla bs w ao ps := by
 obtain ⟨ao, cap, e, hf⟩ := fl_of h hs;refine ⟨ao, cap, e, hf, ?_⟩
 by_cases hn : ps = []
 ·exact .inl hn
 ·refine .inr fun a ha => ?_
  subst e;subst ha;have h1 := (World.ownsRow.lt h a.block rfl).1;refine ⟨fun hm => ?_, ?_⟩
  ·have := hb _ hm
   omega
  ·cases bs with
   | nil => exact Nat.zero_le _
   | cons k r =>
    have := hb k (List.mem_cons_self ..);simp only [List.headD_cons];omega
def Tk (wl acc : List Wh) (left : Lit → Bool) : Prop := (whp acc ++ whp (wl.filter fun x => left (klP x.1))).Perm (whp wl)
theorem filter_one {wl : List Wh} {left : Lit → Bool} {y : Wh} (ho : Once wl) (hw : ∀ x ∈ wl, Wf3 x.1) (hy : y ∈ wl) (hl : left (klP y.1) = true) :
  (wl.filter fun x => left (klP x.1)).Perm (y :: wl.filter fun x => left (klP x.1) && !(klP x.1).sameKey (klP y.1)) := by
 induction wl with
 | nil => cases hy
 | cons x r ih =>
  obtain ⟨h1, h2⟩ := List.pairwise_cons.1 ho;have hwr : ∀ z ∈ r, Wf3 z.1 := fun z hz => hw z (List.mem_cons_of_mem _ hz)
  rcases List.mem_cons.1 hy with rfl | hy
  ·have hs : (klP y.1).sameKey (klP y.1) = true := WideAt.sameKey_self (lawP.key (keyP_some (hw y (List.mem_cons_self ..))))
   have e : (r.filter fun x => left (klP x.1) && !(klP x.1).sameKey (klP y.1)) = r.filter fun x => left (klP x.1) := by
    refine List.filter_congr fun z hz => ?_;have : (klP z.1).sameKey (klP y.1) = false := sameKey_ne fun e => h1 z hz (klP_inj (hwr z hz) (hw y (List.mem_cons_self ..)) e).symm;rw [this]; simp
   rw [List.filter_cons, List.filter_cons, hl, hs, e];simp
  ·have hne : x.1 ≠ y.1 := h1 y hy
   have hs : (klP x.1).sameKey (klP y.1) = false := sameKey_ne fun e => hne (klP_inj (hw x (List.mem_cons_self ..)) (hwr y hy) e);have := ih h2 hwr hy;rw [List.filter_cons, List.filter_cons, hs]
   cases left (klP x.1)
   ·simpa using this
   ·simp only [Bool.not_false, Bool.and_true, if_true]
    exact (this.cons x).trans (List.Perm.swap ..)
theorem tk_step {wl acc : List Wh} {left : Lit → Bool} {y : Wh} (h : Tk wl acc left) (ho : Once wl) (hw : ∀ x ∈ wl, Wf3 x.1) (hy : y ∈ wl) (hl : left (klP y.1) = true) {z : Wh} (hz : (z.1, z.2.2.2) = (y.1, y.2.2.2)) :
  Tk wl (acc ++ [z]) (fun x => left x && !x.sameKey (klP y.1)) := by
 unfold Tk at h ⊢;refine List.Perm.trans ?_ h;have h1 := (filter_one ho hw hy hl).map fun x : Wh => (x.1, x.2.2.2);have e : whp (acc ++ [z]) = whp acc ++ [(y.1, y.2.2.2)] := by simp only [whp, List.map_append, List.map_cons, List.map_nil, hz]
 rw [e, List.append_assoc];exact List.Perm.append_left _ h1.symm
theorem tk_end {wl acc : List Wh} {left : Lit → Bool} (h : Tk wl acc left) (hl : ∀ k, left k = false) : (whp acc).Perm (whp wl) := by
 unfold Tk at h;have : (wl.filter fun x => left (klP x.1)) = [] := List.filter_eq_nil_iff.2 fun x _ => by rw [hl]; simp
 rw [this] at h
 simpa [whp] using h
theorem perm_rising {a b : Wls} (h : a.Perm b) (ha : a.Pairwise fun x y => pltB y.1 x.1 = false) (hb : Rising b) : a = b := by
 have hr : Rising a := by
  have hn : a.Pairwise fun x y => x.1 ≠ y.1 := (List.Perm.pairwise_iff (fun hxy => hxy.symm) h).2 (List.Pairwise.imp (fun hlt => plt_ne hlt) hb)
  exact List.Pairwise.imp₂ (fun x y h1 h2 => by
   rcases plt_total h2 with h3 | h3
   ·exact h3
   ·rw [h1] at h3; cases h3) ha hn
 exact List.Perm.eq_of_pairwise (fun x y _ _ h1 h2 => absurd h2 (by rw [plt_not h1]; decide)) hr hb h
theorem left_at {wl : List Wh} {D : DataW Value} (h : Reads D wl) {p : Plc} (hp : Wf3 p) (hh : has D (klP p) = true) : ∃ y ∈ wl, y.1 = p := by
 by_cases hn : ∃ y ∈ wl, y.1 = p
 ·exact hn
 ·have := h.none' p hp fun x hx e => hn ⟨x, hx, e⟩
  rw [this] at hh
  cases hh
theorem has_of {wl : List Wh} {D : DataW Value} (h : Reads D wl) {x : Wh} (hx : x ∈ wl) : has D (klP x.1) = true := has_true_of_atKey (h.at' x hx)
structure SmHi (n : Nat) (t : Sm) : Prop where
 row : t.wl = [] ∨ ∀ a, t.aoW = some a → n ≤ a.block
 fl : ∀ x ∈ t.wl, x.2.2.2 = [] ∨ ∀ a, x.2.1 = some a → n ≤ a.block
 held : t.held = [] ∨ ∀ a, t.aoH = some a → n ≤ a.block
 touched : t.touched = [] ∨ ∀ a, t.aoT = some a → n ≤ a.block
theorem apart_of {α : Type} {n b m : Nat} {ps : List α} {ao : Option Addr} (h : ps = [] ∨ ∀ a, ao = some a → n ≤ a.block) (hb : b < n) (hm : m < n) : ps = [] ∨ ∀ a, ao = some a → a.block ≠ b ∧ a.block ≠ m :=
 h.imp id fun h a ha => by have := h a ha; exact ⟨by omega, by omega⟩
theorem SmIn.but {n b m : Nat} {w w1 : World} {t : Sm} (h : SmIn w t) (hi : SmHi n t) (hbut : But b m w w1) (hb : b < n) (hm : m < n) : SmIn w1 t := by
 refine ⟨?_, (Flx.but ⟨h.held, apart_of hi.held hb hm⟩ hbut).1, (Txx.but ⟨h.touched, apart_of hi.touched hb hm⟩ hbut).1⟩
 rcases h.wells with e | ⟨g, off, e, hc⟩
 ·exact .inl e
 ·rcases hi.row with e2 | hr
  ·exact .inl e2
  ·have hg := hr _ e
   refine .inr ⟨g, off, e, fun k hk => ?_⟩;obtain ⟨h0, h1, h2, h3, h4, h5⟩ := hc k hk;have hbl := hbut.block g h0 (by simp only at hg; omega) (by simp only at hg; omega);exact ⟨Nat.lt_of_lt_of_le h0 hbut.size, (World.cell?_of_block (w := w) hbl).trans h1, (World.cell?_of_block (w := w) hbl).trans h2, (World.cell?_of_block (w := w) hbl).trans h3, (World.cell?_of_block (w := w) hbl).trans h4, (Flx.but ⟨h5, apart_of (hi.fl _ (List.getElem_mem hk)) hb hm⟩ hbut).1⟩
theorem flxR_of {b m : Nat} {w : World} {base : Nat} {v : Value} {ps : List F.Pc} (h : OwnR encC w base v ps) (hs : ∀ p ∈ ps, p.1.size ≤ maxLen) (hb : b < base) (hm : m < base) : ∃ ao cap, v = .slice ao ps.length cap ∧ Flx b m w ao ps := by
 obtain ⟨ao, cap, e, hf⟩ := fl_of h hs;refine ⟨ao, cap, e, hf, ?_⟩
 by_cases hn : ps = []
 ·exact .inl hn
 ·refine .inr fun a ha => ?_
  subst e;subst ha;have := (World.ownsRow.lt h a.block rfl).1;omega
theorem but_set' (b m : Nat) (w : World) (k : Nat) (v : Value) : But b m w (w.setCell ⟨m, k, none⟩ v) := ⟨rfl, rfl, rfl, by simp [World.setCell], fun i _ _ h1 => Below.heap_setCell w ⟨m, k, none⟩ v i h1⟩
theorem grown_set (w : World) (b k : Nat) (v : Value) : w.grownBy (w.setCell ⟨b, k, none⟩ v) (some b) := ⟨rfl, rfl, rfl, by simp [World.setCell], fun i _ h1 => Below.heap_setCell w ⟨b, k, none⟩ v i (fun e => h1 (by simp only at e; rw [e]))⟩
theorem Fla.row {bs bs' : List Nat} {w w1 : World} {ao : Option Addr} {ps : List F.Pc} (h : Fla bs w ao ps) (hb : ButL bs w w1) (hs : ∀ k, k < w.heap.size → k ∈ bs' → k ∈ bs) (hd : bs'.headD 0 ≤ bs.headD 0) : Fla bs' w1 ao ps := ⟨(h.but hb).1, (h.more hs hd).2⟩
theorem whs_of {w : World} {ao : Option Addr} {l : List Wh} (h : RdR encW w ao l) (hf : ∀ x ∈ l, F.Fl w x.2.1 x.2.2.2) : Whs w ao l := by
 rcases h with h | ⟨b, off, e, hlt, hc⟩
 ·exact .inl h
 ·refine .inr ⟨b, off, e, fun k hk => ⟨hlt, ?_, ?_, ?_, ?_, hf _ (List.getElem_mem hk)⟩⟩
  ·exact hc k hk 0 (by decide)
  ·exact hc k hk 1 (by decide)
  ·exact hc k hk 2 (by decide)
  ·exact hc k hk 3 (by decide)
theorem RdR.but {α : Type} {c : Enc α} {b m : Nat} {w w1 : World} {ao : Option Addr} {l : List α} (h : RdR c w ao l) (ha : ∀ a, ao = some a → a.block ≠ b ∧ a.block ≠ m) (hb : But b m w w1) : RdR c w1 ao l := by
 rcases h with h | ⟨g, off, e, hlt, hc⟩
 ·exact .inl h
 ·obtain ⟨n1, n2⟩ := ha _ e
  have hbl := hb.block g hlt n1 n2;exact .inr ⟨g, off, e, Nat.lt_of_lt_of_le hlt hb.size, fun k hk j hj => (World.cell?_of_block (w := w) hbl).trans (hc k hk j hj)⟩
theorem may_lens {l : List Sit} {s : Sta} (h : May l s) : s.held.length ≤ 100 ∧ s.touched.length ≤ 100 ∧ (∀ p ∈ s.held, p.1.size ≤ maxLen) := by
 cases ht : s.tip with
 | true =>
  obtain ⟨u1, u2, u3, u4⟩ := tip_parts h ht;have := (mayHold_iff.1 u3).1;exact ⟨(F.fref_in this).1, (mayTouch_iff.1 u4).1, F.fine_size this⟩
 | false =>
  have := h.take;unfold mayTake at this;rw [if_neg (by rw [ht]; decide)] at this;simp only [Bool.and_eq_true, decide_eq_true_eq] at this;rw [this.2.1, this.2.2];exact ⟨Nat.zero_le _, Nat.zero_le _, fun p hp => by cases hp⟩
abbrev z7 : List Value := [.slice none 0 0, .bool false, .slice none 0 0, .slice none 0 0, .int .i64 0, .int .i64 0, .int .i64 0]
abbrev s7 (v : Value) (s : Sta) (vh vt : Value) : List Value := [v, .bool s.tip, vh, vt, .int .i64 s.used, .int .i64 s.heat, .int .i64 s.clock]
abbrev avo (n r : Nat) (v : Value) : List Nat := [n, n + 1, r, v.ownBlock.getD n]
structure Ti (w wr : World) (r : Nat) (wl : List Wh) (D : DataW Value) (s : Sta) (vh vt : Value) (left : Lit → Bool) (acc : List Wh) (v : Value) : Prop where
 sub : ∀ kl, left kl = true → has D kl = true
 tk : Tk wl acc left
 own : OwnR encW wr (r + 1) v acc
 k0 : Bk w.heap.size z7 wr
 k1 : Bk (w.heap.size + 1) (s7 v s vh vt) wr
 fl : ∀ x ∈ acc, Fla (avo w.heap.size r v) wr x.2.1 x.2.2.2
 below : bw w wr
 lt : r < wr.heap.size
def FC (bs : List Nat) (ps : List F.Pc) (v : Value) (w : World) : Prop := ∃ ao cap, v = .slice ao ps.length cap ∧ Fla bs w ao ps
theorem FC.later {bs : List Nat} {ps : List F.Pc} {v : Value} {w w1 : World} (h : FC bs ps v w) (hb : bw w w1) : FC bs ps v w1 := by
 obtain ⟨ao, cap, e, hf⟩ := h;exact ⟨ao, cap, e, hf.but (butL_below hb)⟩
def FD (bs : List Nat) (p : Plc) (ps : List F.Pc) (v : Value) (w : World) : Prop := ∃ ao cap, v = .agg #[.int .i64 p.1, .int .i64 p.2.1, .int .i64 p.2.2, .slice ao ps.length cap] ∧ Fla bs w ao ps
theorem FD.later {bs : List Nat} {p : Plc} {ps : List F.Pc} {v : Value} {w w1 : World} (h : FD bs p ps v w) (hb : bw w w1) : FD bs p ps v w1 := by
 obtain ⟨ao, cap, e, hf⟩ := h;exact ⟨ao, cap, e, hf.but (butL_below hb)⟩
def FE (bs : List Nat) (p : Plc) (ps : List F.Pc) (v : Value) (w : World) : Prop := ∃ g ao cap, v = .slice (some ⟨g, 0, none⟩) 1 1 ∧ Bk g [.int .i64 p.1, .int .i64 p.2.1, .int .i64 p.2.2, .slice ao ps.length cap] w ∧ Fla bs w ao ps
theorem FE.later {bs : List Nat} {p : Plc} {ps : List F.Pc} {v : Value} {w w1 : World} (h : FE bs p ps v w) (hb : bw w w1) : FE bs p ps v w1 := by
 obtain ⟨g, ao, cap, e, hk, hf⟩ := h;exact ⟨g, ao, cap, e, hk.later hb, hf.but (butL_below hb)⟩
def tdV (S : Nat) (aoV : Option Addr) (nV capV : Nat) (y : Wh) (bs : List Nat) (d : Nat) (v : Value) (w : World) : Prop :=
 match d with
 | 21 => v = .pointer (some ⟨S, 0, none⟩)
 | 22 => v = .slice aoV nV capV
 | 23 => v = .agg #[.int .i64 y.1.1, .int .i64 y.1.2.1, .int .i64 y.1.2.2]
 | 24 => v = .slice y.2.1 y.2.2.2.length y.2.2.1
 | 25 => FC bs y.2.2.2 v w
 | 26 => FD bs y.1 y.2.2.2 v w
 | 27 => FE bs y.1 y.2.2.2 v w
 | _ => True
theorem tdV_mono (S : Nat) (aoV : Option Addr) (nV capV : Nat) (y : Wh) (bs : List Nat) (d : Nat) (v : Value) (w w' : World) (h : tdV S aoV nV capV y bs d v w) (hb : bw w w') : tdV S aoV nV capV y bs d v w' := by
 unfold tdV at h ⊢
 split <;> simp only [] at h <;> first | exact h | exact h.later hb
theorem told_any (wB w : World) (ao : Option Addr) (cap : Nat) (l : List Sit) (b m md : Nat) (s : Sta) (hB : Bn wB w ao cap l b m md s) :
  Calls Tryz.prog 56 #[ptr b] w fun e w' => ∃ t : Sm, e = .returned (smv t) ∧ t.st = s ∧ SmIn w' t ∧ SmHi w.heap.size t ∧ bw w w' := by
 have HBN := hdd hB;clear hB;obtain ⟨cw, aoH, capH, aoT, capT, K, hh, ht⟩ := HBN.out.bk;have KB : Hid (Bk b (bcs ao cap l md m cw s aoH capH aoT capT) w) := K;have HH : Hid (F.Fl w aoH s.held) := hh.1;have HT : Hid (Tx w aoT s.touched) := ht.1;have hbw := KB.out.1;obtain ⟨wl, hwm, hwl, hfl⟩ := HBN.out.wells;have HON := hdd (HBN.out.once hwl);have HLN : Hid (s.held.length ≤ 100 ∧ s.touched.length ≤ 100 ∧ (∀ p ∈ s.held, p.1.size ≤ maxLen)) := may_lens HBN.out.may;have HWL := hdd hwl;have HFL : Hid (∀ x ∈ wl, F.Fl w x.2.1 x.2.2.2 ∧ F.fref x.2.2.2 = 0) := fun x hx => ⟨(hfl x hx).1, (mayHold_iff.1 (HBN.out.may.wells (x.1, x.2.2.2) (by rw [← hwl]; exact List.mem_map.2 ⟨x, hx, rfl⟩)).2.2).1⟩;have HML : Hid (m < w.heap.size) := hwm.lt;obtain ⟨D, hown, hrd⟩ := hwm;have HRD := hdd hrd;obtain ⟨wA, hwA⟩ : ∃ wA, wA = (w.alloc (.cells z7.toArray 73)).alloc (.cells (s7 (.slice none 0 0) s (.slice aoH s.held.length capH) (.slice aoT s.touched.length capT)).toArray 73) := ⟨_, rfl⟩;have hbA : bw w wA := by rw [hwA]; exact ((brf).alloc (Nat.le_refl _) _).alloc (by simp) _
 have HOW : Hid (wA.ownsMap Tryz.prog 55 RV m (Maps.size D) D) := by
  obtain ⟨es, clock, h1, h2⟩ := hown;exact ⟨es, clock, (hbA.block m HML.out).trans h1, h2⟩
 have HKA : Hid (Bk w.heap.size z7 wA ∧ Bk (w.heap.size + 1) (s7 (.slice none 0 0) s (.slice aoH s.held.length capH) (.slice aoT s.touched.length capT)) wA) := by
  refine ⟨?_, ?_⟩
  ·rw [hwA]; exact (Bk.new w z7 73 w.heap.size rfl).later ((brf).alloc (Nat.le_refl _) _)
  ·rw [hwA]; exact Bk.new _ _ 73 (w.heap.size + 1) (by simp)
 have HAS : Hid (wA.heap.size = w.heap.size + 2) := by show _ = _; rw [hwA]; simp
 have HBA := hdd hbA;have HWA := hdd hwA;clear K hh ht hwl hfl hown hrd hwA hbA;obtain ⟨k0, k1, k2, k3, k4, k5, k6, k7, k8, k9, k10, k11⟩ := (KB.out).c12
 go_enter Tryz.func56, Tryz.ntmps56
 go_wp2_with (first
  | (at_range; rw [← HWA.out]; refine wpList_range_own _ rfl _ 201 rfl 55 70 lawP Tryz.underlying201 RV m (Maps.size D) D rfl HOW.out ?_; intro w0 hrg0 hg0 hs0)
  | go_in)
 go_frame
 have HTI : Hid (Ti w w0 wA.heap.size wl D s (.slice aoH s.held.length capH) (.slice aoT s.touched.length capT) (has D) [] (.slice none 0 0)) := by
  have hb0 : bw wA w0 := ⟨hg0.os, hg0.tape, hg0.output, hg0.size, fun k hk => hg0.block k hk (by simp)⟩;refine ⟨fun _ h => h, ?_, OwnR.nil _ _ _, HKA.out.1.later hb0, HKA.out.2.later hb0, (fun x hx => by cases hx), HBA.out.trans (hb0.mono HBA.out.size), by rw [hs0]; omega⟩;unfold Tk;have : (wl.filter fun x => has D (klP x.1)) = wl := List.filter_eq_self.2 fun x hx => has_of HRD.out hx;rw [this];exact List.Perm.refl _
 have HRG0 := hdd hrg0;clear hrg0 hg0 hs0 k0 k1 k2 k3 k4 k5 k6 k7 k8 k9 k10 k11
 go_loopw [16] (fun _ wr => ∃ (left : Lit → Bool) (cnt : Nat) (acc : List Wh) (v : Value), wr.ranges Tryz.prog 55 RV m wA.heap.size (Maps.size D) D left cnt ∧ Ti w wr wA.heap.size wl D s (.slice aoH s.held.length capH) (.slice aoT s.touched.length capT) left acc v) (fun _ wr => wr.rangeLeft m wA.heap.size)
 case atStart => exact ⟨_, _, _, _, HRG0.out, HTI.out⟩
 case round =>
  obtain ⟨left, cnt, acc, v, hrg, hti⟩ := hrel;have HI := hdd hti;have HRG := hdd hrg;obtain ⟨aoV, capV, hvv⟩ := hti.own.shape;subst hvv;clear hti
  go_wp2_with (first
   | (at_next; refine wpList_next_ranges _ rfl _ rfl 55 lawP RV plv (fun v : Value => v) (fun key kl h => by obtain ⟨p, hp, _⟩ := keyP_inv h; exact ⟨p, hp⟩) (fun v _ _ => ⟨v, rfl⟩) m wA.heap.size (Maps.size D) D left cnt rfl HRG.out ?_ ?_)
   | go_in)
  ·intro _ hl0
   clear hrg;have HPE : Hid ((whp acc).Perm (whp wl)) := tk_end HI.out.tk hl0
   have hln : acc.length ≤ 4608 := by
    have := HPE.out.length_eq;rw [whp_length, whp_length] at this;have := HON.out.2;omega
   have HO := hdd (HI.out.own);have K1 := hdd (HI.out.k1);clear hl0;obtain ⟨q0, q1, q2, q3, q4, q5, q6⟩ := (K1.out).c7
   go_wp2_with fail
   refine (sortW_any (wA.heap.size + 1) _ acc wr HO.out hln).mono ?_;rintro e w2 ⟨rfl, ⟨l', ao2, cap2, hp, hs, hv, hrd⟩, hg⟩;injection hv with hv1 hv2 hv3;subst hv1 hv3;have hrow : ∀ k, (Value.slice aoV acc.length capV).ownBlock = some k → wA.heap.size + 1 ≤ k := fun k hk => (World.ownsRow.lt HO.out k hk).1;have h12 : w.heap.size + 2 = wA.heap.size := HAS.out.symm;have KR2 : Hid (Bk w.heap.size z7 w2) := HI.out.k0.same hg.size (hg.block _ HI.out.k0.1 (fun e => by have := hrow _ e.symm; omega));have K2 : Hid (Bk (w.heap.size + 1) (s7 (.slice aoV acc.length capV) s (.slice aoH s.held.length capH) (.slice aoT s.touched.length capT)) w2) := K1.out.same hg.size (hg.block _ K1.out.1 (fun e => by have := hrow _ e.symm; omega));have HB2 : Hid (bw w w2) := HI.out.below.grown hg HI.out.below.size (fun k hk => by have := hrow k hk; omega)
   have HF2 : Hid (∀ x ∈ l', Flx w.heap.size (w.heap.size + 1) w2 x.2.1 x.2.2.2) := fun x hx => by
    have h1 := (HI.out.fl x (hp.mem_iff.1 hx)).but (butL_grown hg (fun k hk => by show k ∈ [_, _, _, Option.getD _ _]; rw [hk]; simp));exact ⟨h1.1, h1.2.imp id fun h a ha => ⟨fun e => (h a ha).1 (by rw [e]; simp), fun e => (h a ha).1 (by rw [e]; simp)⟩⟩
   have HHI : Hid (∀ x ∈ l', x.2.2.2 = [] ∨ ∀ a, x.2.1 = some a → w.heap.size ≤ a.block) := fun x hx => (HI.out.fl x (hp.mem_iff.1 hx)).2.imp id fun h a ha => (h a ha).2;have HR2 := hdd hrd
   have HAP : Hid (∀ a, aoV = some a → a.block ≠ w.heap.size ∧ a.block ≠ w.heap.size + 1) := fun a ha => by
    have := hrow a.block (by rw [ha]; rfl);exact ⟨by omega, by omega⟩
   have HAW : Hid (∀ a, aoV = some a → w.heap.size ≤ a.block) := fun a ha => by
    have := hrow a.block (by rw [ha]; rfl);omega
   have HLL := hdd hv2
   have HST : Hid (whp l' = s.wells) := by
    show _ = _;rw [← HWL.out];refine perm_rising ((hp.map _).trans HPE.out) ?_ (by rw [HWL.out]; exact HBN.out.may.rising);unfold whp;rw [List.pairwise_map];exact hs
   clear hp hs hv2 hrd hg hrow h12 q0 q1 q2 q3 q4 q5 q6;obtain ⟨q0, q1, q2, q3, q4, q5, q6⟩ := (K2.out).c7
   go_wp2_with fail
   refine (cloneC_any aoH capH s.held w2 (rd_fl (HH.out.next HB2.out)) (by have := HLN.out.1; omega)).mono ?_;rintro e w3 ⟨_, rfl, ho, hb⟩;obtain ⟨aoH2, capH2, rfl, hh2⟩ := flxR_of (b := w.heap.size) (m := w.heap.size + 1) ho HLN.out.2.2 KR2.out.1 K2.out.1
   have HHH : Hid (s.held = [] ∨ ∀ a, aoH2 = some a → w.heap.size ≤ a.block) := .inr fun a ha => by
    have h1 := (World.ownsRow.lt ho a.block (by rw [ha]; rfl)).1;have h2 := HB2.out.size;omega
   obtain ⟨w4, hw4⟩ : ∃ w4, w4 = w3.setCell ⟨w.heap.size + 1, 2, none⟩ (.slice aoH2 s.held.length capH2) := ⟨_, rfl⟩;have hbu : But w.heap.size (w.heap.size + 1) w2 w4 := by rw [hw4]; exact (but_below hb).trans ⟨rfl, rfl, rfl, by simp [World.setCell], fun i _ _ h1 => Below.heap_setCell w3 ⟨w.heap.size + 1, 2, none⟩ _ i h1⟩
   have hbu3 : But w.heap.size (w.heap.size + 1) w3 w4 := by rw [hw4]; exact ⟨rfl, rfl, rfl, by simp [World.setCell], fun i _ _ h1 => Below.heap_setCell w3 ⟨w.heap.size + 1, 2, none⟩ _ i h1⟩
   have HH4 : Hid (Flx w.heap.size (w.heap.size + 1) w4 aoH2 s.held) := hh2.but hbu3;have KR4 : Hid (Bk w.heap.size z7 w4) := by show Bk _ _ _; rw [hw4]; exact (KR2.out.later hb).other (by omega) 2 _
   have K4 : Hid (Bk (w.heap.size + 1) (s7 (.slice aoV acc.length capV) s (.slice aoH2 s.held.length capH2) (.slice aoT s.touched.length capT)) w4) := by show Bk _ _ _; rw [hw4]; exact (K2.out.later hb).put 2 _
   have K3 := hdd (K2.out.later hb);have HB4 : Hid (bw w w4) := by show Below _ _ _; rw [hw4]; exact (HB2.out.trans (hb.mono HB2.out.size)).setCell (by simp) _
   have HF4 : Hid (∀ x ∈ l', Flx w.heap.size (w.heap.size + 1) w4 x.2.1 x.2.2.2) := fun x hx => (HF2.out x hx).but hbu;have HR4 := hdd (HR2.out.but HAP.out hbu);have HW4 := hdd hw4;clear ho hb hh2 hbu hbu3 hw4 q0 q1 q2 q3 q4 q5 q6;have lt3 := K3.out.1;obtain ⟨q0, q1, q2, q3, q4, q5, q6⟩ := (K3.out).c7;obtain ⟨qf0, qf1, qf2, qf3, qf4, qf5, qf6⟩ := (K3.out).f7
   go_wp2_with fail
   clear q0 q1 q2 q3 q4 q5 q6 qf0 qf1 qf2 qf3 qf4 qf5 qf6;rw [← HW4.out];refine (cloneT_any aoT capT s.touched w4 (rd_tx (HT.out.next HB4.out)) (by have := HLN.out.2.1; omega)).mono ?_;rintro e w5 ⟨_, rfl, ho, hb⟩;obtain ⟨aoT2, capT2, rfl, ht2⟩ := txx_of (b := w.heap.size) (m := w.heap.size + 1) ho HT.out.1 KR4.out.1 K4.out.1
   have HHT : Hid (s.touched = [] ∨ ∀ a, aoT2 = some a → w.heap.size ≤ a.block) := .inr fun a ha => by
    have h1 := (World.ownsRow.lt ho a.block (by rw [ha]; rfl)).1;have h2 := HB4.out.size;omega
   have HT5 := hdd ht2;have HH5 := hdd (HH4.out.next hb);have KR5 := hdd (KR4.out.later hb);have K5 := hdd (K4.out.later hb);have HB5 := hdd (HB4.out.trans (hb.mono HB4.out.size));have HF5 : Hid (∀ x ∈ l', Flx w.heap.size (w.heap.size + 1) w5 x.2.1 x.2.2.2) := fun x hx => (HF4.out x hx).next hb;have HR5 := hdd (HR4.out.next goodW hb);clear ho hb ht2;have lt5 := K5.out.1;have lt6 := KR5.out.1;have ne1 : w.heap.size ≠ w.heap.size + 1 := by omega
   have ne2 : w.heap.size + 1 ≠ w.heap.size := by omega
   obtain ⟨q0, q1, q2, q3, q4, q5, q6⟩ := (K5.out).c7;obtain ⟨qf0, qf1, qf2, qf3, qf4, qf5, qf6⟩ := (K5.out).f7;obtain ⟨p0, p1, p2, p3, p4, p5, p6⟩ := (KR5.out).c7;obtain ⟨pf0, pf1, pf2, pf3, pf4, pf5, pf6⟩ := (KR5.out).f7;go_wp2
   have hch : But w.heap.size (w.heap.size + 1) w5 ((((((((w5.setCell ⟨w.heap.size + 1, 3, none⟩ (.slice aoT2 s.touched.length capT2)).setCell ⟨w.heap.size, 0, none⟩ (.slice aoV acc.length capV)).setCell ⟨w.heap.size, 1, none⟩ (.bool s.tip)).setCell ⟨w.heap.size, 2, none⟩ (.slice aoH2 s.held.length capH2)).setCell ⟨w.heap.size, 3, none⟩ (.slice aoT2 s.touched.length capT2)).setCell ⟨w.heap.size, 4, none⟩ (.int .i64 s.used)).setCell ⟨w.heap.size, 5, none⟩ (.int .i64 s.heat)).setCell ⟨w.heap.size, 6, none⟩ (.int .i64 s.clock)) :=
    (((((((but_set' _ _ w5 3 _).trans (but_set _ _ _ 0 _)).trans (but_set _ _ _ 1 _)).trans (but_set _ _ _ 2 _)).trans (but_set _ _ _ 3 _)).trans (but_set _ _ _ 4 _)).trans (but_set _ _ _ 5 _)).trans (but_set _ _ _ 6 _)
   refine bodyPost_ret (v := .agg #[.slice aoV acc.length capV, .bool s.tip, .slice aoH2 s.held.length capH2, .slice aoT2 s.touched.length capT2, .int .i64 s.used, .int .i64 s.heat, .int .i64 s.clock]) (by simp [results, Tryz.results56, go_sem, p0, p1, p2, p3, p4, p5, p6]) rfl ⟨⟨aoV, capV, l', s.tip, aoH2, capH2, s.held, aoT2, capT2, s.touched, s.used, s.heat, s.clock⟩, ?_, ?_, ?_, ?_, ?_⟩
   ·simp only [smv, smc]
    rw [HLL.out]
   ·unfold Sm.st
    simp only;rw [HST.out]
   ·exact ⟨whs_of (HR5.out.but HAP.out hch) fun x hx => ((HF5.out x hx).but hch).1, (HH5.out.but hch).1, (HT5.out.but hch).1⟩
   ·exact ⟨.inr HAW.out, HHI.out, HHH.out, HHT.out⟩
   ·exact (((((((HB5.out.setCell (by simp) _).setCell (by simp) _).setCell (by simp) _).setCell (by simp) _).setCell (by simp) _).setCell (by simp) _).setCell (by simp) _).setCell (by simp) _
  ·intro x1 x2 x3 c kl yd yp w1 cnt1 hkey hlk hv hat hrg1 hlt hg1 hs1 hen
   obtain ⟨x', hxx, hwf⟩ := keyP_inv (v := plv (x1, x2, x3)) hkey
   obtain rfl : (x1, x2, x3) = x' := by
    simp only [plv] at hxx;injection hxx with hxx;simp at hxx;obtain ⟨a1, a2, a3⟩ := hxx;exact Prod.ext a1 (Prod.ext a2 a3)
   obtain rfl : klP (x1, x2, x3) = kl := by
    have := keyP_some hwf;rw [show keyOf Tryz.prog 55 (plv (x1, x2, x3)) = some kl from hkey] at this;injection this with this;exact this.symm
   obtain ⟨y, hy, hyx⟩ := left_at HRD.out hwf (HI.out.sub _ hlk);obtain ⟨rfl, rfl, rfl⟩ : x1 = y.1.1 ∧ x2 = y.1.2.1 ∧ x3 = y.1.2.2 := by rw [hyx]; exact ⟨rfl, rfl, rfl⟩
   clear hyx
   obtain rfl : c = hdv y.2 := by
    have h1 := HRD.out.at' y hy .nil;have h2 := hat .nil;rw [show D.atKey (klP y.1) .nil = yd from h2] at h1;simp only [RV, Option.some.injEq, Prod.mk.injEq] at hv;rw [← hv.1] at h1;injection h1
   have HEN := hdd hen;have hit : wA.heap.size < wr.heap.size := HI.out.lt;have h12 : w.heap.size + 2 = wA.heap.size := HAS.out.symm;have hrow : ∀ k, (Value.slice aoV acc.length capV).ownBlock = some k → wA.heap.size + 1 ≤ k ∧ k < wr.heap.size := fun k hk => World.ownsRow.lt HI.out.own k hk;have hbu1 : ButL (avo w.heap.size wA.heap.size (.slice aoV acc.length capV)) wr w1 := butL_grown hg1 (fun k hk => by injection hk with hk; rw [← hk]; simp);have HO1 : Hid (OwnR encW w1 (wA.heap.size + 1) (.slice aoV acc.length capV) acc) := HI.out.own.kept hg1 (.inr fun e => by have := hrow _ e; omega);have KR1 := hdd (HI.out.k0.same hg1.size (hg1.block _ HI.out.k0.1 (by simp; omega)));have KS1 := hdd (HI.out.k1.same hg1.size (hg1.block _ HI.out.k1.1 (by simp; omega)));have HF1 : Hid (∀ x ∈ acc, Fla (avo w.heap.size wA.heap.size (.slice aoV acc.length capV)) w1 x.2.1 x.2.2.2) := fun x hx => (HI.out.fl x hx).but hbu1;have HB1 : Hid (bw w w1) := HI.out.below.grown hg1 HI.out.below.size (fun k hk => by injection hk with hk; omega);have HTS : Hid (∀ z : Wh, (z.1, z.2.2.2) = (y.1, y.2.2.2) → Tk wl (acc ++ [z]) (fun x => left x && !x.sameKey (klP y.1))) := fun z hz => tk_step HI.out.tk HON.out.1 HRD.out.wf hy hlk hz;have HSU : Hid (∀ kl, (left kl && !kl.sameKey (klP y.1)) = true → has D kl = true) := fun kl h => HI.out.sub kl (by simp at h; exact h.1);have HRG1 := hdd hrg1;have HLT := hdd hlt
   have hac : acc.length ≤ 4608 := by
    have := HI.out.tk.length_eq;rw [List.length_append, whp_length, whp_length, whp_length] at this;have := HON.out.2;omega
   have HFY := hdd (HFL.out y hy);have HIS : Hid (wA.heap.size < w1.heap.size) := by show _ < _; rw [hs1]; exact hit
   have HRO : Hid (∀ k, (Value.slice aoV acc.length capV).ownBlock = some k → wA.heap.size + 1 ≤ k) := fun k hk => (hrow k hk).1;clear hkey hlk hv hat hrg1 hlt hg1 hs1 hen hxx hwf hy hrow hbu1 hrg hit;have hen := HEN;unfold Hid at hen;obtain ⟨w2, hw2⟩ : ∃ w2, w2 = w1.alloc (pobj y.1) := ⟨_, rfl⟩;have b2 : bw w1 w2 := by rw [hw2]; exact (brf).alloc (Nat.le_refl _) _
   have KP : Hid (Bk w1.heap.size (pcl y.1) w2) := by show Bk _ _ _; rw [hw2]; exact Bk.new w1 (pcl y.1) 55 w1.heap.size rfl
   have KS2 := hdd (KS1.out.later b2);have HB2 : Hid (bw w1 w2) := b2;have HW2 := hdd hw2
   have HCL : Hid (∀ W, bw w2 W → Calls Tryz.prog 115 #[.slice y.2.1 y.2.2.2.length y.2.2.1] W fun e w' => ∃ v, e = .returned v ∧ FC (avo w.heap.size wA.heap.size (.slice aoV acc.length capV)) y.2.2.2 v w' ∧ bw W w') := fun W hW => by
    have hw : bw w W := (HB1.out.trans (HB2.out.mono HB1.out.size)).trans (hW.mono (Nat.le_trans HB1.out.size HB2.out.size));refine (cloneC_any y.2.1 y.2.2.1 y.2.2.2 W (rd_fl (HFY.out.1.next hw)) (by have := (F.fref_in HFY.out.2).1; omega)).mono ?_;rintro e w' ⟨v, rfl, ho, hb⟩;refine ⟨v, rfl, fla_own ho (F.fine_size HFY.out.2) ?_, hb⟩;intro k hk;have h1 := HIS.out;have h2 := HB2.out.size;have h3 := hW.size;have h4 := KS1.out.1;simp only [avo, List.mem_cons, List.not_mem_nil, or_false] at hk
    rcases hk with rfl | rfl | rfl | rfl
    ·omega
    ·omega
    ·omega
    ·cases e : (Value.slice aoV acc.length capV).ownBlock with
     | none => simp only [Option.getD_none]; omega
     | some g => simp only [Option.getD_some]; have := (World.ownsRow.lt HO1.out g e).2; omega
   clear b2 hw2;generalize hn : acc.length = nV at *;have HN := hdd hn;clear hn
   go_wp2_with fail
   rw [← HW2.out]
   refine region_seq 7 [zf,zf,zf,zf,zf,zf,zf,zf,zf,zf,zf,zf,zf,zf,zf,zf,zf,zf,zf,zf,zf,zt,zt,zt,zt,zt,zt,zt,zf,zf,zf,zf,zf,zf,zf,zf,zf,zf,zf,zf,zf,zf]
    [(21, [], none), (22, [21], none), (23, [], none), (24, [], none), (25, [24], none), (26, [23, 25], none), (27, [26], none)]
    (tdV (w.heap.size + 1) aoV nV capV y (avo w.heap.size wA.heap.size (.slice aoV nV capV))) (by kernel_rfl) (by kernel_rfl) (by kernel_rfl) (by kernel_rfl) (by kernel_rfl) (by decide) (tdV_mono (w.heap.size + 1) aoV nV capV y (avo w.heap.size wA.heap.size (.slice aoV nV capV))) ?_ ?_
   ·refine ⟨?_, ?_, ?_, ?_, ?_, ?_, ?_, trivial⟩
    any_goals first | (intro f w1 hb _ K hK; simp only [over, overL]; go_simp; exact hK _ _ ⟨_, rfl, by simp only [over, overL]; rfl, brf⟩) | fail
    ·rintro f wA hb ⟨(h21 : f 21 = _), _⟩ K hK
     have q0 := (KS2.out.later hb).c 0 rfl;simp only [over, overL, h21];go_simp;exact hK _ _ ⟨_, rfl, by simp only [over, overL, h21]; rfl, brf⟩
    ·intro f wA hb _ K hK
     have q0 := (KP.out.later hb).c 0 rfl;have q1 := (KP.out.later hb).c 1 rfl;have q2 := (KP.out.later hb).c 2 rfl;simp only [over, overL];go_simp;exact hK _ _ ⟨_, rfl, by simp only [over, overL]; rfl, brf⟩
    ·rintro f wA hb ⟨(h24 : f 24 = _), _⟩ K hK
     simp only [over, overL, h24];go_simp;refine ((HCL.out wA hb).mono) ?_;rintro e w2 ⟨x, rfl, ht, hb2⟩;exact hK _ _ ⟨_, ht, by simp only [over, overL, h24]; rfl, hb2⟩
    ·rintro f wA hb ⟨(h23 : f 23 = _), h25, _⟩ K hK
     obtain ⟨aoN, capN, h25, hx⟩ := h25;simp only [over, overL, h23, h25];go_simp;exact hK _ _ ⟨_, ⟨aoN, capN, rfl, hx⟩, by simp only [over, overL, h23, h25]; rfl, brf⟩
    ·intro f wA hb ⟨h26, _⟩ K hK
     obtain ⟨aoN, capN, h26, hx⟩ := h26;have al : bw wA (wA.alloc (.cells #[.int .i64 y.1.1, .int .i64 y.1.2.1, .int .i64 y.1.2.2, .slice aoN y.2.2.2.length capN] 205)) := (brf).alloc (Nat.le_refl _) _;simp only [over, overL, h26];go_simp;exact hK _ _ ⟨_, ⟨wA.heap.size, aoN, capN, rfl, Bk.new wA [.int .i64 y.1.1, .int .i64 y.1.2.1, .int .i64 y.1.2.2, .slice aoN y.2.2.2.length capN] 205 wA.heap.size rfl, hx.but (butL_below al)⟩, by simp only [over, overL, h26]; rfl, (brf).alloc (Nat.le_refl _) _⟩
   intro f w3 hb hv;have h22 : f 22 = _ := hv.2.1;have h27 : FE (avo w.heap.size wA.heap.size (.slice aoV nV capV)) y.1 y.2.2.2 (f 27) w3 := hv.2.2.2.2.2.2.1;obtain ⟨g, aoN, capN, h27, hkg, hx⟩ := h27;have KG := hdd hkg;have HX3 := hdd hx;have HB13 := hdd (HB2.out.trans (hb.mono HB2.out.size));have HO3 := hdd (HO1.out.later HB13.out);have HF3 : Hid (∀ x ∈ acc, Fla (avo w.heap.size wA.heap.size (.slice aoV nV capV)) w3 x.2.1 x.2.2.2) := fun x hx => (HF1.out x hx).but (butL_below HB13.out);have HB3 := hdd (HB1.out.trans (HB13.out.mono HB1.out.size));have KR3 := hdd (KR1.out.later HB13.out);have KS3 := hdd (KS1.out.later HB13.out);have HRG3 := hdd (HRG1.out.kept (grown_of HB13.out (r := none)) (by simp) (by simp));have hl3 : wA.heap.size + 1 ≤ w3.heap.size := by have := HIS.out; have := HB13.out.size; omega
   have hle : acc.length ≤ 1000000000 := by rw [HN.out]; omega
   clear hv hb hkg hx hen;simp only [List.drop, over, overL, h22, h27];clear h22 h27
   go_wp2_with (first
    | (at_builtin; refine wpList_append_row goodW Tryz.underlying69 infoW rfl (by decide) (by decide) _ rfl (.tmp 22) (.tmp 27) rfl (wA.heap.size + 1) (.slice aoV nV capV) acc rfl HO3.out g (y.1, (aoN, capN, y.2.2.2)) rfl (fun j u hu => KG.out.c j hu) hle hl3 ?_; intro v' w4 ho hg hloc; obtain ⟨aoW, capW, rfl⟩ := ho.shape; have KS4 : Hid (Bk (w.heap.size + 1) (s7 (.slice aoV nV capV) s (.slice aoH s.held.length capH) (.slice aoT s.touched.length capT)) w4) := KS3.out.same hg.size (hg.block _ KS3.out.1 (fun e => by have := HRO.out _ e.symm; omega)); have s0 := KS4.out.c 0 rfl; have sf0 := KS4.out.f 0 rfl; have lt4 := KS4.out.1)
    | go_in)
   have hrow' : ∀ k, (Value.slice aoW (acc ++ [(y.1, (aoN, capN, y.2.2.2))]).length capW).ownBlock = some k → wA.heap.size + 1 ≤ k := fun k hk => (World.ownsRow.lt ho k hk).1;have hml := HML.out
   have HRG5 : Hid ((w4.setCell ⟨w.heap.size + 1, 0, none⟩ (.slice aoW (acc ++ [(y.1, (aoN, capN, y.2.2.2))]).length capW)).ranges Tryz.prog 55 RV m wA.heap.size (Maps.size D) D (fun x => left x && !x.sameKey (klP y.1)) cnt1) :=
    (HRG3.out.kept hg (fun e => by have := HRO.out _ e.symm; omega) (fun e => by have := HRO.out _ e.symm; omega)).kept (grown_set w4 (w.heap.size + 1) 0 _) (by simp; omega) (by simp; omega)
   have hbu : ButL (avo w.heap.size wA.heap.size (.slice aoV nV capV)) w3 w4 := butL_grown hg (fun k hk => by show k ∈ [_, _, _, Option.getD _ _]; rw [hk]; simp)
   have hmem : ∀ k, k < w3.heap.size → k ∈ avo w.heap.size wA.heap.size (.slice aoW (acc ++ [(y.1, (aoN, capN, y.2.2.2))]).length capW) → k ∈ (avo w.heap.size wA.heap.size (.slice aoV nV capV)) := by
    intro k hk hm;simp only [avo, List.mem_cons, List.not_mem_nil, or_false] at hm ⊢
    rcases hm with h | h | h | h
    ·exact .inl h
    ·exact .inr (.inl h)
    ·exact .inr (.inr (.inl h))
    ·rcases hloc with e | e
     ·rw [e] at h
      exact .inr (.inr (.inr h))
     ·rw [e, Option.getD_some] at h
      omega
   have HTI5 : Hid (Ti w (w4.setCell ⟨w.heap.size + 1, 0, none⟩ (.slice aoW (acc ++ [(y.1, (aoN, capN, y.2.2.2))]).length capW)) wA.heap.size wl D s (.slice aoH s.held.length capH) (.slice aoT s.touched.length capT) (fun x => left x && !x.sameKey (klP y.1)) (acc ++ [(y.1, (aoN, capN, y.2.2.2))]) (.slice aoW (acc ++ [(y.1, (aoN, capN, y.2.2.2))]).length capW)) := by
    have hbs := fun v => butL_set (bs := avo w.heap.size wA.heap.size (.slice aoW (acc ++ [(y.1, (aoN, capN, y.2.2.2))]).length capW)) w4 (w.heap.size + 1) 0 v (by simp);refine ⟨HSU.out, HTS.out _ rfl, ho.kept (grown_set w4 _ 0 _) (.inr fun e => by have := hrow' _ e; omega), ?_, KS4.out.put 0 _, ?_, ?_, ?_⟩
    ·exact (KR3.out.same hg.size (hg.block _ KR3.out.1 (fun e => by have := HRO.out _ e.symm; omega))).other (by omega) 0 _
    ·intro x hx
     rcases List.mem_append.1 hx with hx | hx
     ·exact ((HF3.out x hx).row hbu hmem (Nat.le_refl _)).but (hbs _)
     ·rw [List.mem_singleton] at hx
      subst hx;exact (HX3.out.row hbu hmem (Nat.le_refl _)).but (hbs _)
    ·exact (HB3.out.grown hg HB3.out.size (fun k hk => by have := HRO.out k hk; omega)).setCell (by simp) _
    ·have := hg.size
     show _ < (w4.setCell _ _).heap.size;simp only [World.setCell, Array.size_modify];omega
   clear ho hg hloc hrow' hbu hmem;have hle2 : (acc ++ [(y.1, (aoN, capN, y.2.2.2))]).length = acc.length + 1 := by simp
   rw [hle2] at HRG5 HTI5
   go_roundw
   case rel => exact ⟨_, _, _, _, HRG5.out, HTI5.out⟩
   case measure => rw [HRG5.out.left_eq, HRG.out.left_eq]; exact HLT.out
abbrev put7 (w : World) (R : Nat) (t : Sm) : World := (((((((w).setCell ⟨R, 0, none⟩ (.slice t.aoW t.wl.length t.capW)).setCell ⟨R, 1, none⟩ (.bool t.tip)).setCell ⟨R, 2, none⟩ (.slice t.aoH t.held.length t.capH)).setCell ⟨R, 3, none⟩ (.slice t.aoT t.touched.length t.capT)).setCell ⟨R, 4, none⟩ (.int .i64 t.used)).setCell ⟨R, 5, none⟩ (.int .i64 t.heat)).setCell ⟨R, 6, none⟩ (.int .i64 t.clock)
theorem but_put7 (R : Nat) (w : World) (t : Sm) : But R R w (put7 w R t) :=
 ((((((but_set R R w 0 _).trans (but_set R R _ 1 _)).trans (but_set R R _ 2 _)).trans (but_set R R _ 3 _)).trans (but_set R R _ 4 _)).trans (but_set R R _ 5 _)).trans (but_set R R _ 6 _)
theorem blw_put7 {B R : Nat} {a w : World} (h : Below B a w) (hR : B ≤ R) (t : Sm) : Below B a (put7 w R t) :=
 ((((((h.setCell hR _).setCell hR _).setCell hR _).setCell hR _).setCell hR _).setCell hR _).setCell hR _
theorem SmHi.less {n n' : Nat} {t : Sm} (h : SmHi n t) (hn : n' ≤ n) : SmHi n' t :=
 ⟨h.row.imp id fun h a ha => Nat.le_trans hn (h a ha), fun x hx => (h.fl x hx).imp id fun h a ha => Nat.le_trans hn (h a ha), h.held.imp id fun h a ha => Nat.le_trans hn (h a ha), h.touched.imp id fun h a ha => Nat.le_trans hn (h a ha)⟩
theorem SmHi.zero (n : Nat) : SmHi n sm0 := ⟨.inl rfl, (fun x hx => by cases hx), .inl rfl, .inl rfl⟩
abbrev encA : Enc Acn := ⟨57, 8, acl⟩
structure Acs (w : World) (ao : Option Addr) (acs : List Acn) : Prop where
 rd : RdR encA w ao acs
 ok : ∀ a ∈ acs, a.label.size ≤ maxLen ∧ (Lit.int .i64 a.kind).wf = true
theorem goodA : Good encA := ⟨fun _ => rfl, fun x u hu => by simp [acl] at hu; rcases hu with rfl | rfl | rfl | rfl | rfl | rfl | rfl | rfl <;> rfl⟩
theorem Acs.next {w w1 : World} {ao : Option Addr} {acs : List Acn} (h : Acs w ao acs) (hb : bw w w1) : Acs w1 ao acs := ⟨h.rd.next goodA hb, h.ok⟩
theorem Acs.at {w : World} {ao : Option Addr} {acs : List Acn} (h : Acs w ao acs) {k : Nat} (hk : k < acs.length) : ∃ g off, ao = some ⟨g, off, none⟩ ∧ ∀ j, j < 8 → w.cell? ⟨g, off + k * 8 + j, none⟩ = (acl (acs[k]'hk))[j]? := by
 rcases h.rd with rfl | ⟨g, off, e, _, hc⟩
 ·simp at hk
 ·exact ⟨g, off, e, fun j hj => hc k hk j hj⟩
def runR (l : List Sit) (acs : List Acn) : Sta × Nat × Int := if dchk l = 0 then runA l sta0 0 acs else (sta0, 0, dchk l)
theorem runA_step {l : List Sit} {acs : List Acn} {s : Sta} {k : Nat} (hk : k < acs.length) (h : (doA l s (acs[k]'hk)).2 = 0) : runA l s k (acs.drop k) = runA l (doA l s (acs[k]'hk)).1 (k + 1) (acs.drop (k + 1)) := by
 rw [List.drop_eq_getElem_cons hk];simp only [runA];rw [if_pos h]
theorem runA_stop {l : List Sit} {acs : List Acn} {s : Sta} {k : Nat} (hk : k < acs.length) (h : (doA l s (acs[k]'hk)).2 ≠ 0) : runA l s k (acs.drop k) = (s, k, (doA l s (acs[k]'hk)).2) := by
 rw [List.drop_eq_getElem_cons hk];simp only [runA];rw [if_neg h]
theorem runA_done {l : List Sit} {acs : List Acn} {s : Sta} {k : Nat} (hk : acs.length ≤ k) : runA l s k (acs.drop k) = (s, k, 0) := by
 rw [List.drop_eq_nil_of_le hk]
 rfl
theorem fill_or (l : List Sit) (s : Sta) (a : Acn) : (fillA l s a).2 = 0 ∨ (fillA l s a).1 = s := by
 unfold fillA
 repeat' split
 all_goals first | exact .inr rfl | exact .inl rfl
theorem draw_or (l : List Sit) (s : Sta) (a : Acn) : (drawA l s a).2 = 0 ∨ (drawA l s a).1 = s := by
 unfold drawA
 repeat' split
 all_goals first | exact .inr rfl | exact .inl rfl
theorem put_or (l : List Sit) (s : Sta) (a : Acn) : (putA l s a).2 = 0 ∨ (putA l s a).1 = s := by
 unfold putA
 repeat' split
 all_goals first | exact .inr rfl | exact .inl rfl
theorem tip_or (l : List Sit) (s : Sta) : (tipA l s).2 = 0 ∨ (tipA l s).1 = s := by
 unfold tipA
 repeat' split
 all_goals first | exact .inr rfl | exact .inl rfl
theorem drop_or (s : Sta) : (dropA s).2 = 0 ∨ (dropA s).1 = s := by
 unfold dropA
 repeat' split
 all_goals first | exact .inr rfl | exact .inl rfl
theorem warm_or (s : Sta) (a : Acn) : (warmA s a).2 = 0 ∨ (warmA s a).1 = s := by
 unfold warmA
 repeat' split
 all_goals first | exact .inr rfl | exact .inl rfl
theorem pass_or (s : Sta) (a : Acn) : (passA s a).2 = 0 ∨ (passA s a).1 = s := by
 unfold passA
 repeat' split
 all_goals first | exact .inr rfl | exact .inl rfl
theorem shake_or (s : Sta) (a : Acn) : (shakeA s a).2 = 0 ∨ (shakeA s a).1 = s := by
 unfold shakeA passA
 repeat' split
 all_goals first | exact .inr rfl | exact .inl rfl
theorem do_same {l : List Sit} {s : Sta} {a : Acn} (h : (doA l s a).2 ≠ 0) : (doA l s a).1 = s := by
 refine (show (doA l s a).2 = 0 ∨ (doA l s a).1 = s from ?_).resolve_left h;unfold doA
 repeat' split
 all_goals first | exact fill_or l s a | exact tip_or l s | exact drop_or s | exact draw_or l s a | exact put_or l s a | exact warm_or s a | exact pass_or s a | exact shake_or s a | exact .inr rfl
theorem run_any (ao : Option Addr) (cap : Nat) (l : List Sit) (aoA : Option Addr) (capA : Nat) (acs : List Acn) (w : World) (hD : Dk w ao cap l) (hln : l.length ≤ 9223372036854775807) (hA : Acs w aoA acs) (hla : acs.length ≤ 9223372036854775807) :
  Calls Tryz.prog 23 #[.slice ao l.length cap, .slice aoA acs.length capA] w fun e w' => ∃ t : Sm, e = .returned (.tuple #[smv t, .int .i64 ((runR l acs).2.1 : Int), .int .i64 (runR l acs).2.2]) ∧ t.st = (runR l acs).1 ∧ SmIn w' t ∧ SmHi w.heap.size t ∧ bw w w' := by
 obtain ⟨w0, hw0⟩ : ∃ w0, w0 = w.alloc (.cells z7.toArray 73) := ⟨_, rfl⟩;have b0 : bw w w0 := by rw [hw0]; exact (brf).alloc (Nat.le_refl _) _
 have KR0 : Hid (Bk w.heap.size z7 w0) := by show Bk _ _ _; rw [hw0]; exact Bk.new _ z7 73 w.heap.size rfl
 have HB0 : Hid (bw w w0) := b0;have HW0 := hdd hw0;have HD0 : Hid (Dk w0 ao cap l) := hD.next b0;have HA0 : Hid (Acs w0 aoA acs) := hA.next b0;have HCK := (show Hid _ from dk_check ao cap l w0 HD0.out hln);clear hD hA hw0 b0
 go_enter Tryz.func23, Tryz.ntmps23
 go_wp2_with fail
 rw [← HW0.out];refine Calls.mono HCK.out ?_;rintro e w1 ⟨rfl, hb1⟩;have KR1 := hdd (KR0.out.later hb1);have HB1 := hdd (HB0.out.trans (hb1.mono HB0.out.size));have HD1 := hdd (HD0.out.next hb1);have HA1 := hdd (HA0.out.next hb1);clear hb1 HCK HD0 HA0 KR0 HB0;obtain ⟨c, hc⟩ : ∃ c, dchk l = c := ⟨_, rfl⟩;have HC := hdd hc;rw [hc];clear hc
 by_cases he : c = 0
 rotate_left
 ·have h2 : (c == 0) = false := by simp [he]
  have h3 : (c != 0) = true := by simp [he]
  have HQ : Hid (runR l acs = (sta0, 0, c)) := by show _ = _; unfold runR; rw [HC.out, if_neg he]
  obtain ⟨r0, r1, r2, r3, r4, r5, r6⟩ := (KR1.out).c7;obtain ⟨rf0, rf1, rf2, rf3, rf4, rf5, rf6⟩ := (KR1.out).f7;have lt1 := KR1.out.1;clear he;go_wp2;refine bodyPost_ret (v := .tuple #[smv sm0, .int .i64 0, .int .i64 c]) (by simp [results, Tryz.results23, go_sem, r0, r1, r2, r3, r4, r5, r6]) rfl ⟨sm0, ?_, ?_, ?_, ?_, ?_⟩
  ·rw [HQ.out]; rfl
  ·rw [HQ.out]; rfl
  ·exact SmIn.zero _
  ·exact SmHi.zero _
  ·exact blw_put7 HB1.out (by omega) sm0
 ·subst he
  have HQ0 : Hid (runR l acs = runA l sta0 0 acs) := by show _ = _; unfold runR; rw [HC.out, if_pos rfl]
  go_wp2_with fail
  refine (newBench_any ao cap l sm0 w1 HD1.out HC.out (SmIn.zero _) (may_sta0 l)).mono ?_;rintro e w2 ⟨b, m, md, rfl, hB⟩;have HBn2 := hdd hB;clear hB
  go_wp2_with fail
  go_loopw [23] (fun i wr => ∃ (k : Nat) (s : Sta), k ≤ acs.length ∧ i = .int .i64 k ∧ runR l acs = runA l s k (acs.drop k) ∧ Bn w1 wr ao cap l b m md s) (fun i _ => acs.length - (intOf i).toNat)
  case atStart => exact ⟨0, sta0, Nat.zero_le _, rfl, HQ0.out, HBn2.out⟩
  case round =>
   obtain ⟨k, s, hk, rfl, hq, hB⟩ := hrel;have HBn3 := hdd hB;have HQ1 := hdd hq;have KR3 := hdd (KR1.out.later hB.below);have HB3 := hdd (HB1.out.trans (hB.below.mono HB1.out.size));clear hq hB
   by_cases hlt : k < acs.length
   rotate_left
   ·obtain rfl : k = acs.length := by omega
    have HQ : Hid (runR l acs = (s, acs.length, 0)) := by show _ = _; rw [HQ1.out]; exact runA_done (Nat.le_refl _)
    clear hlt
    go_wp2_with fail
    refine (told_any w1 wr ao cap l b m md s HBn3.out).mono ?_;rintro e w4 ⟨t, rfl, hst, hin, hhi, hb4⟩;have KR4 := hdd (KR3.out.later hb4);have HST := hdd hst;have HIN := hdd hin;have HHI := hdd hhi;have HB4 := hdd (HB3.out.trans (hb4.mono HB3.out.size));have l3 := KR3.out.1;clear hst hin hhi hb4;obtain ⟨r0, r1, r2, r3, r4, r5, r6⟩ := (KR4.out).c7;obtain ⟨rf0, rf1, rf2, rf3, rf4, rf5, rf6⟩ := (KR4.out).f7;have lt1 := KR4.out.1;go_wp2;refine bodyPost_ret (v := .tuple #[smv t, .int .i64 (acs.length : Int), .int .i64 0]) (by simp [results, Tryz.results23, go_sem, r0, r1, r2, r3, r4, r5, r6]) rfl ⟨t, ?_, ?_, ?_, ?_, ?_⟩
    ·rw [HQ.out]
    ·rw [HQ.out]; exact HST.out
    ·exact HIN.out.but HHI.out (but_put7 w.heap.size w4 t) l3 l3
    ·exact HHI.out.less (by omega)
    ·exact blw_put7 HB4.out (by omega) t
   ·obtain ⟨g, off, hao, hcs⟩ := (HA1.out.next HBn3.out.below).at hlt
    have hok := HA1.out.ok _ (List.getElem_mem hlt);have HS1 : Hid ((doA l s (acs[k]'hlt)).2 = 0 → runR l acs = runA l (doA l s (acs[k]'hlt)).1 (k + 1) (acs.drop (k + 1))) := fun h => by rw [HQ1.out]; exact runA_step hlt h
    have HS2 : Hid ((doA l s (acs[k]'hlt)).2 ≠ 0 → runR l acs = (s, k, (doA l s (acs[k]'hlt)).2)) := fun h => by rw [HQ1.out]; exact runA_stop hlt h
    generalize acs[k]'hlt = a at *;subst hao;have c0 := hcs 0 (by decide);have c1 := hcs 1 (by decide);have c2 := hcs 2 (by decide);have c3 := hcs 3 (by decide);have c4 := hcs 4 (by decide);have c5 := hcs 5 (by decide);have c6 := hcs 6 (by decide);have c7 := hcs 7 (by decide);simp only [acl, List.getElem?_cons_zero, List.getElem?_cons_succ, Nat.add_zero] at c0 c1 c2 c3 c4 c5 c6 c7;have HOK := hdd hok;obtain ⟨w4, hw4⟩ : ∃ w4, w4 = wr.alloc (aobj a) := ⟨_, rfl⟩;have b4 : bw wr w4 := by rw [hw4]; exact (brf).alloc (Nat.le_refl _) _
    have HBn4 := hdd (HBn3.out.next b4);have HW4 := hdd hw4;have hki : (k : Int) < (acs.length : Int) := by omega
    clear hcs hok hw4 b4
    go_wp2_with fail
    rw [← HW4.out];refine (do_any w1 w4 ao cap l b m md s a HBn4.out HOK.out.1 HOK.out.2).mono ?_;rintro e w5 ⟨rfl, hB⟩;obtain ⟨⟨s', e1⟩, hdq⟩ : ∃ x, doA l s a = x := ⟨_, rfl⟩;rw [hdq] at hB HS1 HS2;rw [hdq];simp only at hB HS1 HS2;have HBn5 := hdd hB;have HDQ := hdd hdq;clear hB hdq c0 c1 c2 c3 c4 c5 c6 c7;simp only
    by_cases he : e1 = 0
    ·subst he
     have HQ := hdd (HS1.out rfl);go_wp2
     go_roundw
     case rel => exact ⟨k + 1, s', by omega, by go_num, HQ.out, HBn5.out⟩
     case measure => simp [intOf]; omega
    ·have h2 : (e1 == 0) = false := by simp [he]
     have h3 : (e1 != 0) = true := by simp [he]
     have HQ := hdd (HS2.out he);have hne : s' = s := by have := do_same (l := l) (s := s) (a := a) (by rw [HDQ.out]; exact he); rw [HDQ.out] at this; exact this
     subst hne;have KR5 := hdd (KR1.out.later HBn5.out.below);have HB5 := hdd (HB1.out.trans (HBn5.out.below.mono HB1.out.size));clear he
     go_wp2_with fail
     refine (told_any w1 w5 ao cap l b m md _ HBn5.out).mono ?_;rintro e w6 ⟨t, rfl, hst, hin, hhi, hb4⟩;have KR6 := hdd (KR5.out.later hb4);have HST := hdd hst;have HIN := hdd hin;have HHI := hdd hhi;have HB6 := hdd (HB5.out.trans (hb4.mono HB5.out.size));have l3 := KR5.out.1;clear hst hin hhi hb4;obtain ⟨r0, r1, r2, r3, r4, r5, r6⟩ := (KR6.out).c7;obtain ⟨rf0, rf1, rf2, rf3, rf4, rf5, rf6⟩ := (KR6.out).f7;have lt1 := KR6.out.1;go_wp2;refine bodyPost_ret (v := .tuple #[smv t, .int .i64 (k : Int), .int .i64 e1]) (by simp [results, Tryz.results23, go_sem, r0, r1, r2, r3, r4, r5, r6]) rfl ⟨t, ?_, ?_, ?_, ?_, ?_⟩
     ·rw [HQ.out]
     ·rw [HQ.out]; exact HST.out
     ·exact HIN.out.but HHI.out (but_put7 w.heap.size w6 t) l3 l3
     ·exact HHI.out.less (by omega)
     ·exact blw_put7 HB6.out (by omega) t
end Go.Proofs.YtcajifelbldjnaaGreatDoor
