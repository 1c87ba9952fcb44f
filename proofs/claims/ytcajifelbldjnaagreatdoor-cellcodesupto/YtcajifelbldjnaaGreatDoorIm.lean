import Derived.Test.YtcajifelbldjnaaGreatDoorIl
import Derived.Test.YtcajifelbldjnaaGreatDoorIk
import Derived.OwnWalkIn
import Derived.TacticsInMore
import Derived.LoopNIn
import Derived.LoopIn
import Derived.Test.YtcajifelbldjnaaGreatDoorIg
import Derived.Shelf.Abstract
set_option maxRecDepth 100000
set_option maxHeartbeats 25600000
set_option linter.unusedVariables false
namespace Go.Proofs.YtcajifelbldjnaaGreatDoor
open Go.RowKit
structure Cd where
 k : Int
 x : Int
 y : Int
 z : Int
 v : Int
abbrev cd (k v : Int) : Cd := ⟨k, 0, 0, 0, v⟩
abbrev goC (p : S.Pt) : Cd := ⟨2, p.x, p.y, p.z, 0⟩
abbrev upC (p : S.Pt) : S.Pt := ⟨p.x, p.y, 200000⟩
def workC (p : S.Pt) (c : Cd) : List Cd := [goC (upC p), goC p, c, goC (upC p)]
def restC (t : Int) : List Cd := if 0 < t then [cd 7 t] else []
structure Cst where
 cs : List Cd
 used : Nat
 held : Int
def cst0 : Cst := ⟨[cd 1 0, goC ⟨0, 0, 200000⟩], 0, 0⟩
abbrev plc0 : Plc := (0, 0, 0)
def stepC (ts bins : List Plc) (pt : Plc → S.Pt) (s : Cst) (a : Acn) : Cst × Int :=
 if a.kind = 6 then (⟨s.cs ++ workC (pt (ts.getD s.used plc0)) (cd 4 0), s.used + 1, s.held⟩, 0)
 else if a.kind = 7 then (match bins with
  | [] => (s, 5)
  | b :: _ => (⟨s.cs ++ workC (pt b) (cd 5 0), s.used, 0⟩, 0))
 else if a.kind = 8 then (⟨s.cs ++ workC (pt a.pl) (cd 3 (s.held + a.vol)), s.used, s.held + a.vol⟩, 0)
 else if a.kind = 9 then (⟨s.cs ++ workC (pt a.pl) (cd 3 (s.held + -a.vol)), s.used, s.held + -a.vol⟩, 0)
 else if a.kind = 11 then (⟨s.cs ++ [cd 6 a.value], s.used, s.held⟩, 0)
 else if a.kind = 12 ∨ a.kind = 14 then (⟨s.cs ++ restC a.time, s.used, s.held⟩, 0)
 else if a.kind = 13 then (⟨s.cs ++ [cd 8 a.value] ++ restC a.time ++ [cd 8 0], s.used, s.held⟩, 0)
 else (s, 0)
def compL (ts bins : List Plc) (pt : Plc → S.Pt) : Cst → Nat → List Acn → Cst × Nat × Int
 | s, k, [] => (s, k, 0)
 | s, k, a :: r => if (stepC ts bins pt s a).2 = 0 then compL ts bins pt (stepC ts bins pt s a).1 (k + 1) r else (s, k, (stepC ts bins pt s a).2)
theorem compL_step {ts bins : List Plc} {pt : Plc → S.Pt} {acs : List Acn} {s : Cst} {k : Nat} (hk : k < acs.length) (h : (stepC ts bins pt s (acs[k]'hk)).2 = 0) :
  compL ts bins pt s k (acs.drop k) = compL ts bins pt (stepC ts bins pt s (acs[k]'hk)).1 (k + 1) (acs.drop (k + 1)) := by
 rw [List.drop_eq_getElem_cons hk];simp only [compL];rw [if_pos h]
theorem compL_stop {ts bins : List Plc} {pt : Plc → S.Pt} {acs : List Acn} {s : Cst} {k : Nat} (hk : k < acs.length) (h : (stepC ts bins pt s (acs[k]'hk)).2 ≠ 0) :
  compL ts bins pt s k (acs.drop k) = (s, k, (stepC ts bins pt s (acs[k]'hk)).2) := by
 rw [List.drop_eq_getElem_cons hk];simp only [compL];rw [if_neg h]
theorem compL_done {ts bins : List Plc} {pt : Plc → S.Pt} {acs : List Acn} {s : Cst} {k : Nat} (hk : acs.length ≤ k) : compL ts bins pt s k (acs.drop k) = (s, k, 0) := by
 rw [List.drop_eq_nil_of_le hk]
 rfl
def staA (l : List Sit) (acs : List Acn) (k : Nat) : Sta := (acs.take k).foldl (fun s a => (doA l s a).1) sta0
theorem staA_succ {l : List Sit} {acs : List Acn} {k : Nat} (hk : k < acs.length) : staA l acs (k + 1) = (doA l (staA l acs k) (acs[k]'hk)).1 := by
 unfold staA;rw [List.take_succ_eq_append_getElem hk, List.foldl_append]
 rfl
theorem runA_ok {l : List Sit} : ∀ (acs : List Acn) (s : Sta) (k : Nat), (runA l s k acs).2.2 = 0 → ∀ j (hj : j < acs.length), (doA l ((acs.take j).foldl (fun s a => (doA l s a).1) s) (acs[j]'hj)).2 = 0
 | [], s, k, _, j, hj => by simp at hj
 | a :: r, s, k, h, j, hj => by
  simp only [runA] at h
  split at h
  ·rename_i h0
   match j with
   | 0 => simpa using h0
   | j + 1 => simpa using runA_ok r _ _ h j (by simpa using hj)
  ·rename_i h0
   exact absurd h h0
theorem run_ok {l : List Sit} {acs : List Acn} (hd : dchk l = 0) (h : (runR l acs).2.2 = 0) : ∀ j (hj : j < acs.length), (doA l (staA l acs j) (acs[j]'hj)).2 = 0 := by
 unfold runR at h;rw [if_pos hd] at h;exact runA_ok acs sta0 0 h
theorem tip_ok {l : List Sit} {s : Sta} (h : (tipA l s).2 = 0) : s.tip = false ∧ s.used < (tipsL l).length ∧ (tipA l s).1.used = s.used + 1 := by
 unfold tipA at h ⊢
 split at h
 ·simp at h
 ·split at h
  ·simp at h
  ·rename_i h1 h2
   rw [if_neg h1, if_neg h2];exact ⟨by simpa using h1, by omega, rfl⟩
theorem do_tip {l : List Sit} {s : Sta} {a : Acn} (hk : a.kind = 6) : doA l s a = tipA l s := by unfold doA; simp [hk]
theorem fill_used (l : List Sit) (s : Sta) (a : Acn) : (fillA l s a).1.used = s.used := by
 unfold fillA
 repeat' split
 all_goals rfl
theorem drop_used (s : Sta) : (dropA s).1.used = s.used := by
 unfold dropA
 repeat' split
 all_goals rfl
theorem draw_used (l : List Sit) (s : Sta) (a : Acn) : (drawA l s a).1.used = s.used := by
 unfold drawA
 repeat' split
 all_goals rfl
theorem put_used (l : List Sit) (s : Sta) (a : Acn) : (putA l s a).1.used = s.used := by
 unfold putA
 repeat' split
 all_goals rfl
theorem warm_used (s : Sta) (a : Acn) : (warmA s a).1.used = s.used := by
 unfold warmA
 repeat' split
 all_goals rfl
theorem pass_used (s : Sta) (a : Acn) : (passA s a).1.used = s.used := by
 unfold passA
 repeat' split
 all_goals rfl
theorem shake_used (s : Sta) (a : Acn) : (shakeA s a).1.used = s.used := by
 unfold shakeA
 split
 ·exact pass_used s a
 ·rfl
theorem used_same {l : List Sit} {s : Sta} {a : Acn} (hk : a.kind ≠ 6) : (doA l s a).1.used = s.used := by
 unfold doA;rw [if_neg hk]
 repeat' split
 all_goals first | exact fill_used l s a | exact drop_used s | exact draw_used l s a | exact put_used l s a | exact warm_used s a | exact pass_used s a | exact shake_used s a | rfl
theorem used_tip {l : List Sit} {s : Sta} {a : Acn} (hk : a.kind = 6) (h : (doA l s a).2 = 0) : s.used < (tipsL l).length ∧ (doA l s a).1.used = s.used + 1 := by
 rw [do_tip hk] at h ⊢;exact (tip_ok h).2
theorem aim_vol {l : List Sit} {a : Acn} (h : (aimR l a).2 = 0) : 1 ≤ a.vol ∧ a.vol ≤ 1000000000 := by
 unfold aimR at h
 split at h
 ·rename_i h0
  split at h
  ·rename_i h1
   exact inR_iff.1 h1
  ·simp at h
 ·rename_i h0
  exact absurd h h0
theorem vol_draw {l : List Sit} {s : Sta} {a : Acn} (hk : a.kind = 8) (h : (doA l s a).2 = 0) : (wellM l a.pl).2 = 0 ∧ 1 ≤ a.vol ∧ a.vol ≤ 1000000000 := by
 have e : doA l s a = drawA l s a := by unfold doA; simp [hk]
 rw [e] at h;unfold drawA at h
 split at h
 ·rename_i h0; exact absurd h h0
 ·rename_i h0
  have h1 : (aimR l a).2 = 0 := Classical.not_not.1 h0;refine ⟨?_, aim_vol h1⟩;unfold aimR at h1
  split at h1
  ·assumption
  ·exact h1
theorem vol_put {l : List Sit} {s : Sta} {a : Acn} (hk : a.kind = 9) (h : (doA l s a).2 = 0) : (wellM l a.pl).2 = 0 ∧ 1 ≤ a.vol ∧ a.vol ≤ 1000000000 := by
 have e : doA l s a = putA l s a := by unfold doA; simp [hk]
 rw [e] at h;unfold putA at h
 split at h
 ·rename_i h0; exact absurd h h0
 ·rename_i h0
  have h1 : (aimR l a).2 = 0 := Classical.not_not.1 h0;refine ⟨?_, aim_vol h1⟩;unfold aimR at h1
  split at h1
  ·assumption
  ·exact h1
def InP (p : S.Pt) : Prop := (0 ≤ p.x ∧ p.x ≤ 1000000) ∧ (0 ≤ p.y ∧ p.y ≤ 1000000)
end Go.Proofs.YtcajifelbldjnaaGreatDoor
namespace Go.Proofs.YtcajifelbldjnaaGreatDoor
open Go.RowKit Go.Maps
def setQ (f : Plc → Option S.Pt) (p : Plc) (q : S.Pt) : Plc → Option S.Pt := fun x => if x = p then some q else f x
def flrQ (s : Sit) (ps : List (Nat × Nat)) (f : Plc → Option S.Pt) : Plc → Option S.Pt := ps.foldl (fun f p => setQ f (spotP s.slot p) (spotPt s p)) f
def floorQ (ls : List Sit) : Plc → Option S.Pt := ls.foldl (fun f s => flrQ s (spotsOf s) f) (fun _ => none)
def ofQ (f : Plc → Option S.Pt) : Plc → Option Value := fun p => (f p).map pvv
theorem setF_ofQ (f : Plc → Option S.Pt) (p : Plc) (q : S.Pt) : setF (ofQ f) p (pvv q) = ofQ (setQ f p q) := by
 funext x
 unfold setF ofQ setQ
 split <;> rfl
theorem flrP_ofQ (s : Sit) : ∀ (ps : List (Nat × Nat)) (f : Plc → Option S.Pt), flrP s ps (ofQ f) = ofQ (flrQ s ps f)
 | [], f => rfl
 | p :: r, f => by
  show flrP s r (setF (ofQ f) (spotP s.slot p) (pvv (spotPt s p))) = ofQ (flrQ s r (setQ f (spotP s.slot p) (spotPt s p)));rw [setF_ofQ];exact flrP_ofQ s r _
theorem floorP_ofQ (ls : List Sit) : floorP ls = ofQ (floorQ ls) := by
 have : ∀ (ls : List Sit) (f : Plc → Option S.Pt), ls.foldl (fun f s => flrP s (spotsOf s) f) (ofQ f) = ofQ (ls.foldl (fun f s => flrQ s (spotsOf s) f) f) := by
  intro ls
  induction ls with
  | nil => intro f; rfl
  | cons s r ih => intro f; simp only [List.foldl_cons]; rw [flrP_ofQ]; exact ih _
 exact this ls fun _ => none
def PtIn (q : S.Pt) : Prop := InP q ∧ 0 ≤ q.z ∧ q.z ≤ 200000
theorem flrQ_in {s : Sit} {P : Plc → S.Pt → Prop} : ∀ {ps : List (Nat × Nat)} {f : Plc → Option S.Pt}, (∀ p q, f p = some q → P p q) → (∀ x ∈ ps, P (spotP s.slot x) (spotPt s x)) → ∀ p q, flrQ s ps f p = some q → P p q
 | [], f, hf, _, p, q, h => hf p q h
 | x :: r, f, hf, hx, p, q, h => by
  refine flrQ_in (ps := r) (f := setQ f (spotP s.slot x) (spotPt s x)) (fun p q h => ?_) (fun y hy => hx y (by simp [hy])) p q h;unfold setQ at h
  split at h
  ·rename_i e
   injection h with h;subst h;rw [e];exact hx x (by simp)
  ·exact hf p q h
theorem spotsOf_in {s : Sit} (h : StOk s) {x : Nat × Nat} (hx : x ∈ spotsOf s) : ∃ R C : Nat, s.ware.rows = R ∧ s.ware.cols = C ∧ x.1 < R ∧ x.2 < C ∧ R ≤ 16 ∧ C ≤ 24 := by
 have a1 := inR_iff.1 (chk_in h.chk).2.2.1;have a2 := inR_iff.1 (chk_in h.chk).2.2.2.1;obtain ⟨R, hR⟩ : ∃ R : Nat, s.ware.rows = R := ⟨s.ware.rows.toNat, by omega⟩;obtain ⟨C, hC⟩ : ∃ C : Nat, s.ware.cols = C := ⟨s.ware.cols.toNat, by omega⟩;refine ⟨R, C, hR, hC, ?_⟩;have e : spotsOf s = spots R (C * R) := by unfold spotsOf; rw [hR, hC]; rfl
 rw [e] at hx;unfold spots at hx;obtain ⟨k, hk, rfl⟩ := List.mem_map.1 hx;have hk := List.mem_range.1 hk
 have h0 : 0 < R := by
  rcases Nat.eq_zero_or_pos R with e | e
  ·subst e; simp at hk
  ·exact e
 exact ⟨Nat.mod_lt _ h0, Nat.div_lt_of_lt_mul (by rw [Nat.mul_comm]; exact hk), by omega, by omega⟩
theorem floorQ_in {ls : List Sit} (h : ∀ s ∈ ls, StOk s) : ∀ p q, floorQ ls p = some q → PtIn q := by
 have : ∀ (ls : List Sit) (f : Plc → Option S.Pt), (∀ s ∈ ls, StOk s) → (∀ p q, f p = some q → PtIn q) → ∀ p q, ls.foldl (fun f s => flrQ s (spotsOf s) f) f p = some q → PtIn q := by
  intro ls
  induction ls with
  | nil => intro f _ hf; exact hf
  | cons s r ih =>
   intro f hs hf;simp only [List.foldl_cons];refine ih _ (fun t ht => hs t (by simp [ht])) (flrQ_in (P := fun _ q => PtIn q) hf fun x hx => ?_);obtain ⟨R, C, hR, hC, h1, h2, _, _⟩ := spotsOf_in (hs s (by simp)) hx;obtain ⟨a, b, c, _⟩ := spot_in (hs s (by simp)) hR hC h1 h2;unfold PtIn InP;omega
 exact this ls _ h (fun _ _ e => by cases e)
def ptQ (ls : List Sit) (p : Plc) : S.Pt := (floorQ ls p).getD ⟨0, 0, 0⟩
theorem ptQ_in {ls : List Sit} (h : ∀ s ∈ ls, StOk s) (p : Plc) : PtIn (ptQ ls p) := by
 unfold ptQ
 cases e : floorQ ls p with
 | none => unfold PtIn InP; simp
 | some q => exact floorQ_in h p q e
theorem ptQ_val (ls : List Sit) (p : Plc) : (floorP ls p).getD (ptv 0 0 0) = pvv (ptQ ls p) := by
 rw [floorP_ofQ];unfold ofQ ptQ
 cases floorQ ls p <;> rfl
theorem floorB_wf {ls : List Sit} (h : ∀ s ∈ ls, StOk s) : ∀ p ∈ floorB ls, Wf3 p := by
 intro p hp;unfold floorB at hp;obtain ⟨s, hs, hp⟩ := List.mem_flatMap.1 hp;unfold flrB at hp
 split at hp
 ·obtain ⟨x, hx, rfl⟩ := List.mem_map.1 hp
  obtain ⟨R, C, _, _, h1, h2, h3, h4⟩ := spotsOf_in (h s hs) hx;exact spot_wf (h s hs) (by omega) (by omega)
 ·cases hp
theorem tips_wf {l : List Sit} (h : ∀ s ∈ l, StOk s) : ∀ p ∈ tipsL l, Wf3 p := by
 intro p hp;unfold tipsL at hp;obtain ⟨k, hk, hp⟩ := List.mem_flatMap.1 hp;have hk := List.mem_range.1 hk;unfold rackIn at hp
 split at hp
 ·rename_i s hs
  split at hp
  ·obtain ⟨x, hx, rfl⟩ := List.mem_map.1 hp
   have hm := (seatOf_in hs).1;have e : spots s.ware.rows.toNat (s.ware.rows.toNat * s.ware.cols.toNat) = spotsOf s := by unfold spotsOf; rw [Nat.mul_comm]
   rw [e] at hx;obtain ⟨R, C, _, _, h1, h2, h3, h4⟩ := spotsOf_in (h s hm) hx;unfold Wf3 Wf1;simp only;omega
  ·cases hp
 ·cases hp
abbrev cdl (c : Cd) : List Value := [.int .i64 c.k, .int .i64 c.x, .int .i64 c.y, .int .i64 c.z, .int .i64 c.v]
abbrev cdv (c : Cd) : Value := .agg #[.int .i64 c.k, .int .i64 c.x, .int .i64 c.y, .int .i64 c.z, .int .i64 c.v]
def encK : Enc Cd := ⟨49, 5, cdl⟩
theorem goodK : Good encK := ⟨fun _ => rfl, fun x u hu => by simp [encK, cdl] at hu; rcases hu with rfl | rfl | rfl | rfl | rfl <;> rfl⟩
theorem infoK : (Tryz.prog.info? 49).map (fun i => (i.zero, i.size, i.bytes)) = some (some (.agg #[.int .i64 0, .int .i64 0, .int .i64 0, .int .i64 0, .int .i64 0]), 5, 40) := by kernel_rfl
abbrev cmc (ts bv cs : Value) (mp ms : Nat) (u : Nat) (n : Int) : List Value := [ts, bv, .map (some mp), .map (some ms), cs, .int .i64 (u : Int), .int .i64 n]
structure Cmp (wB w : World) (bc : Nat) (ts bv : Value) (mp ms : Nat) (s : Cst) : Prop where
 below : bw wB w
 low : wB.heap.size ≤ bc
 bk : ∃ ao n cap, Bk bc (cmc ts bv (.slice ao n cap) mp ms s.used s.held) w ∧ OwnR encK w (bc + 1) (.slice ao n cap) s.cs
theorem Cmp.next {wB w w1 : World} {bc : Nat} {ts bv : Value} {mp ms : Nat} {s : Cst} (h : Cmp wB w bc ts bv mp ms s) (hb : bw w w1) : Cmp wB w1 bc ts bv mp ms s := by
 obtain ⟨h1, h2, ao, n, cap, h3, h4⟩ := h;exact ⟨h1.trans (hb.mono h1.size), h2, ao, n, cap, h3.later hb, h4.later hb⟩
theorem tell_any (wB w : World) (bc : Nat) (ts bv : Value) (mp ms : Nat) (s : Cst) (ad : Addr) (cp : Nat) (xs : List Cd) (h : Cmp wB w bc ts bv mp ms s) (hx : RdR encK w (some ad) xs) (hn : xs.length ≤ 4) (hl : s.cs.length ≤ 1000000000) :
  Calls Tryz.prog 57 #[ptr bc, .slice (some ad) xs.length cp] w fun e w' => e = .returned (.tuple #[]) ∧ Cmp wB w' bc ts bv mp ms ⟨s.cs ++ xs, s.used, s.held⟩ := by
 obtain ⟨h1, h2, ao, n, cap, h3, h4⟩ := h;have HB := hdd h1;have HLO := hdd h2;have HK := hdd h3;have HO := hdd h4;have HX := hdd hx;have q4 := h3.c 4 rfl;have hlt := h3.1;clear h1 h2 h3 h4 hx
 go_enter Tryz.func57, Tryz.ntmps57
 go_wp2_with (at_builtin; refine wpList_append_list goodK Tryz.underlying24 infoK rfl (by decide) _ rfl (.tmp 8) (.tmp 9) rfl (bc + 1) (.slice ao n cap) s.cs rfl HO.out ad cp xs rfl HX.out (by unfold maxLen; omega) (by omega) (by omega) ?_; intro v' w5 ho hg hloc; obtain ⟨ao5, n5, cap5, rfl⟩ := ho.form; have hbk : Bk bc (cmc ts bv (.slice ao n cap) mp ms s.used s.held) w5 := HK.out.same hg.size (hg.block _ HK.out.1 (fun e => by have := own_lt HO.out e.symm; omega)); have e4 := hbk.c 4 rfl; have ef4 := hbk.f 4 rfl)
 have HB5 : Hid (bw wB (w5.setCell ⟨bc, 4, none⟩ (.slice ao5 n5 cap5))) := (below_row HB.out (HO.out.base (Nat.le_succ_of_le HLO.out)) hg HB.out.size).setCell HLO.out _;have HBK5 : Hid (Bk bc (cmc ts bv (.slice ao5 n5 cap5) mp ms s.used s.held) (w5.setCell ⟨bc, 4, none⟩ (.slice ao5 n5 cap5))) := hbk.put 4 _;have HO5 : Hid (OwnR encK (w5.setCell ⟨bc, 4, none⟩ (.slice ao5 n5 cap5)) (bc + 1) (.slice ao5 n5 cap5) (s.cs ++ xs)) := own_kpt ho (Kpt.setCell (M := fun k => k = bc) _ _ _ _ rfl) (fun g e e2 => by have := own_lt ho e; omega);clear ho hg hloc hbk e4 ef4 q4;go_wp2
 go_end0
 exact ⟨rfl, HB5.out, HLO.out, ao5, n5, cap5, HBK5.out, HO5.out⟩
theorem goTo_any (q : S.Pt) (w : World) : CR 58 #[pvv q] w (cdv (goC q)) := by
 go_enter Tryz.func58, Tryz.ntmps58
 go_wp2;refine bodyPost_ret (v := cdv (goC q)) (by simp [results, Tryz.results58, go_sem]) rfl ⟨rfl, ((brf).alloc (Nat.le_refl _) _).alloc (by simp) _⟩
def Nw (B x : Nat) (cs : List Value) (w : World) : Prop := B ≤ x ∧ Bk x cs w
theorem Nw.later {B x : Nat} {cs : List Value} {w w1 : World} (h : Nw B x cs w) (hb : bw w w1) : Nw B x cs w1 := ⟨h.1, h.2.later hb⟩
def wkV (bc mp B : Nat) (p : Plc) (q : S.Pt) (d : Nat) (v : Value) (w : World) : Prop :=
 match d with
 | 8 | 9 | 10 => v = .pointer (some ⟨bc, 0, none⟩)
 | 11 => v = .pointer (some ⟨bc, 2, none⟩)
 | 12 => v = .map (some mp)
 | 13 => v = .agg #[.int .i64 p.1, .int .i64 p.2.1, .int .i64 p.2.2]
 | 14 => v = pvv q
 | 6 => ∃ x, v = .pointer (some ⟨x, 0, none⟩) ∧ Nw B x [.int .i64 0, .int .i64 0, .int .i64 0] w
 | _ => True
theorem wkV_mono (bc mp B : Nat) (p : Plc) (q : S.Pt) (d : Nat) (v : Value) (w w' : World) (h : wkV bc mp B p q d v w) (hb : bw w w') : wkV bc mp B p q d v w' := by
 unfold wkV at h ⊢
 split <;> simp only [] at h <;> first | exact h | (obtain ⟨x, h1, h2⟩ := h; exact ⟨x, h1, h2.later hb⟩)
def wlV (bc : Nat) (q : S.Pt) (c : Cd) (d : Nat) (v : Value) (w : World) : Prop :=
 match d with
 | 20 => v = .pointer (some ⟨bc, 0, none⟩)
 | 21 | 26 => v = pvv (upC q)
 | 22 | 27 => v = cdv (goC (upC q))
 | 23 => v = pvv q
 | 24 => v = cdv (goC q)
 | 25 => v = cdv c
 | 28 => ∃ x, v = .slice (some ⟨x, 0, none⟩) 4 4 ∧ Bk x (encK.cells (workC q c)) w
 | _ => True
theorem wlV_mono (bc : Nat) (q : S.Pt) (c : Cd) (d : Nat) (v : Value) (w w' : World) (h : wlV bc q c d v w) (hb : bw w w') : wlV bc q c d v w' := by
 unfold wlV at h ⊢
 split <;> simp only [] at h <;> first | exact h | (obtain ⟨x, h1, h2⟩ := h; exact ⟨x, h1, h2.later hb⟩)
theorem rdK_of {w : World} {x : Nat} {cs : List Cd} (h : Bk x (encK.cells cs) w) : RdR encK w (some ⟨x, 0, none⟩) cs := by
 refine .inr ⟨x, 0, rfl, h.1, fun k hk j hj => ?_⟩;have h1 := cells_at goodK hk hj;have hl := cells_length goodK cs;have hj5 : j < 5 := hj;have hs : encK.sz = 5 := rfl;rw [hs] at hl h1
 have hlt : k * 5 + j < (encK.cells cs).length := by
  have : (k + 1) * 5 ≤ cs.length * 5 := Nat.mul_le_mul_right _ hk;omega
 have e : (encK.cells cs)[k * 5 + j]? = some ((encK.cells cs)[k * 5 + j]'hlt) := List.getElem?_eq_getElem hlt;have h2 := h.c _ e;rw [hs, Nat.zero_add, h2, ← e];exact h1
theorem work_any (wB w : World) (bc : Nat) (ts bv : Value) (mp ms c0 : Nat) (ls : List Sit) (s : Cst) (p : Plc) (c : Cd) (h : Cmp wB w bc ts bv mp ms s) (hm : MF kkP wB mp c0 (floorP ls)) (hp : Wf3 p) (hl : s.cs.length ≤ 1000000000) :
  Calls Tryz.prog 119 #[ptr bc, plv p, cdv c] w fun e w' => e = .returned (.tuple #[]) ∧ Cmp wB w' bc ts bv mp ms ⟨s.cs ++ workC (ptQ ls p) c, s.used, s.held⟩ := by
 have HC := hdd h;have HL := hdd hl;obtain ⟨h1, h2, ao, n, cap, h3, h4⟩ := h;obtain ⟨w0, hw0⟩ : ∃ w0, w0 = (w.alloc (.cells #[.int .i64 p.1, .int .i64 p.2.1, .int .i64 p.2.2] 55)).alloc (.cells #[.int .i64 c.k, .int .i64 c.x, .int .i64 c.y, .int .i64 c.z, .int .i64 c.v] 49) := ⟨_, rfl⟩;have hb0 : bw w w0 := by rw [hw0]; exact ((brf).alloc (Nat.le_refl _) _).alloc (by simp) _
 have KP : Hid (Bk w.heap.size [.int .i64 p.1, .int .i64 p.2.1, .int .i64 p.2.2] w0) := by show Bk _ _ _; rw [hw0]; exact (Bk.new w [.int .i64 p.1, .int .i64 p.2.1, .int .i64 p.2.2] 55 w.heap.size rfl).later ((brf).alloc (Nat.le_refl _) _)
 have KC0 : Hid (Bk (w.heap.size + 1) (cdl c) w0) := by show Bk _ _ _; rw [hw0]; exact Bk.new _ (cdl c) 49 (w.heap.size + 1) (by simp)
 have HK0 : Hid (Bk bc (cmc ts bv (.slice ao n cap) mp ms s.used s.held) w0) := h3.later hb0;have HB0 := hdd hb0;have hB0 : bw wB w0 := h1.trans (hb0.mono h1.size);obtain ⟨q, hq⟩ : ∃ q, q = ptQ ls p := ⟨_, rfl⟩;have HQ := hdd hq
 have HLK : Hid (∀ W, bw w0 W → (Instr.lookup 63 (.map (some mp)) (.agg #[.int .i64 p.1, .int .i64 p.2.1, .int .i64 p.2.2]) false).run Tryz.prog W = .ok (pvv q) W) := by
  intro W hW;have := (hm.next (hB0.trans (hW.mono hB0.size))).look (c := kkP) (t := 63) Tryz.underlying63 (zeroPt W) (p := p) hp;rw [ptQ_val, ← hq] at this;exact this
 have HW0 := hdd hw0;clear h1 h2 h3 h4 hm hp hb0 hB0 hw0 hq hl
 go_enter Tryz.func119, Tryz.ntmps119
 go_wp2_with fail
 rw [← HW0.out];clear HW0
 refine region_seq 8 [zf,zf,zf,zf,zf,zf,zt,zf,zt,zt,zt,zt,zt,zt,zt,zf,zf,zf,zf,zf,zf,zf,zf,zf,zf,zf,zf,zf,zf,zf]
  [(8, [], none), (9, [8], none), (10, [9], none), (11, [10], none), (12, [11], none), (13, [], none), (14, [12, 13], none), (6, [], none)]
  (wkV bc mp w0.heap.size p q) (by kernel_rfl) (by kernel_rfl) (by kernel_rfl) (by kernel_rfl) (by kernel_rfl) (by decide) (wkV_mono bc mp w0.heap.size p q) ?_ ?_
 ·refine ⟨?_, ?_, ?_, ?_, ?_, ?_, ?_, ?_, trivial⟩
  ·intro f w1 hb _ K hK
   simp only [over, overL];go_simp;exact hK _ _ ⟨_, rfl, by simp only [over, overL]; rfl, brf⟩
  ·rintro f w1 hb ⟨(h8 : f 8 = _), _⟩ K hK
   simp only [over, overL, h8];go_simp;exact hK _ _ ⟨_, rfl, by simp only [over, overL, h8]; rfl, brf⟩
  ·rintro f w1 hb ⟨(h9 : f 9 = _), _⟩ K hK
   simp only [over, overL, h9];go_simp;exact hK _ _ ⟨_, rfl, by simp only [over, overL, h9]; rfl, brf⟩
  ·rintro f w1 hb ⟨(h10 : f 10 = _), _⟩ K hK
   simp only [over, overL, h10];go_simp;exact hK _ _ ⟨_, rfl, by simp only [over, overL, h10]; rfl, brf⟩
  ·rintro f w1 hb ⟨(h11 : f 11 = _), _⟩ K hK
   have q0 := (HK0.out.later hb).c 2 rfl;simp only [over, overL, h11];go_simp;exact hK _ _ ⟨_, rfl, by simp only [over, overL, h11]; rfl, brf⟩
  ·intro f w1 hb _ K hK
   have q0 := (KP.out.later hb).c 0 rfl;have q1 := (KP.out.later hb).c 1 rfl;have q2 := (KP.out.later hb).c 2 rfl;simp only [over, overL];go_simp;exact hK _ _ ⟨_, rfl, by simp only [over, overL]; rfl, brf⟩
  ·rintro f w1 hb ⟨(h12 : f 12 = _), (h13 : f 13 = _), _⟩ K hK
   have q0 := HLK.out w1 hb;simp only [over, overL, h12, h13];go_simp;exact hK _ _ ⟨_, rfl, by simp only [over, overL, h12, h13]; rfl, brf⟩
  ·intro f w1 hb _ K hK
   simp only [over, overL];go_simp;exact hK _ _ ⟨_, ⟨_, rfl, hb.size, Bk.new w1 [.int .i64 0, .int .i64 0, .int .i64 0] 31 _ rfl⟩, by simp only [over, overL]; rfl, (brf).alloc (Nat.le_refl _) _⟩
 intro f w1 hb hv;have h14 : f 14 = pvv q := hv.2.2.2.2.2.2.1;obtain ⟨A, h6, hA0, hka⟩ := (show ∃ x, f 6 = .pointer (some ⟨x, 0, none⟩) ∧ Nw w0.heap.size x [.int .i64 0, .int .i64 0, .int .i64 0] w1 from hv.2.2.2.2.2.2.2.1);have HKA := hdd hka;have HA0 : Hid (w.heap.size ≤ A) := Nat.le_trans HB0.out.size hA0;have HB1 := hdd (HB0.out.trans (hb.mono HB0.out.size));have HC1 := hdd (KC0.out.later hb);have HA1 : Hid (A ≠ w.heap.size + 1) := by show _ ≠ _; have := KC0.out.1; omega
 simp only [over_eq, overL, h14, h6, Nat.reduceAdd, List.drop_succ_cons, List.drop_zero];have a0 := hka.c 0 rfl;have af0 := hka.f 0 rfl;have a1 := hka.c 1 rfl;have af1 := hka.f 1 rfl;have a2 := hka.c 2 rfl;have af2 := hka.f 2 rfl;have hAlt := hka.1;clear hv h14 h6 hka hb hA0 HLK HK0 KP KC0
 go_wp2_with fail
 obtain ⟨w2, hw2⟩ : ∃ w2, w2 = ((w1.setCell ⟨A, 0, none⟩ (.int .i64 q.x)).setCell ⟨A, 1, none⟩ (.int .i64 q.y)).setCell ⟨A, 2, none⟩ (.int .i64 q.z) := ⟨_, rfl⟩;have KQ2 : Bk A [.int .i64 q.x, .int .i64 q.y, .int .i64 q.z] w2 := by rw [hw2]; exact ((HKA.out.put 0 _).put 1 _).put 2 _
 have kk : Kpt (fun k => k = A) w1 w2 := by rw [hw2]; exact ((Kpt.setCell (M := fun k => k = A) w1 A 0 _ rfl).trans (Kpt.setCell _ A 1 _ rfl)).trans (Kpt.setCell _ A 2 _ rfl)
 have HB2 : Hid (bw w w2) := HB1.out.trans (kk.below HB1.out.size (fun k e => by have := HA0.out; omega));have hs2 : w2.heap.size = w1.heap.size := by rw [hw2]; simp [World.setCell]
 obtain ⟨w3, hw3⟩ : ∃ w3, w3 = w2.alloc (pto q.x q.y 200000) := ⟨_, rfl⟩;have hb23 : bw w2 w3 := by rw [hw3]; exact (brf).alloc (Nat.le_refl _) _
 have KQ : Hid (Bk A [.int .i64 q.x, .int .i64 q.y, .int .i64 q.z] w3) := KQ2.later hb23;have KU : Hid (Bk w1.heap.size [.int .i64 q.x, .int .i64 q.y, .int .i64 200000] w3) := by show Bk _ _ _; rw [hw3]; exact Bk.new w2 [.int .i64 q.x, .int .i64 q.y, .int .i64 200000] 31 _ hs2.symm
 have KC : Hid (Bk (w.heap.size + 1) (cdl c) w3) := (bkK HC1.out kk (by have := HA1.out; omega)).later hb23;have HB3 := hdd (HB2.out.trans (hb23.mono HB2.out.size));have HW3 := hdd hw3;rw [hw2] at HW3;clear KQ2 kk hs2 hw2 hw3 hb23 a0 af0 a1 af1 a2 af2 HKA HC1;rw [← HW3.out];clear HW3 HB2
 refine region_seq 9 [zf,zf,zf,zf,zf,zf,zf,zf,zf,zf,zf,zf,zf,zf,zf,zf,zf,zf,zf,zf,zt,zt,zt,zt,zt,zt,zt,zt,zt,zf]
  [(20, [], none), (21, [], none), (22, [21], none), (23, [], none), (24, [23], none), (25, [], none), (26, [], none), (27, [26], none), (28, [22, 24, 25, 27], none)]
  (wlV bc q c) (by kernel_rfl) (by kernel_rfl) (by kernel_rfl) (by kernel_rfl) (by kernel_rfl) (by decide) (wlV_mono bc q c) ?_ ?_
 ·refine ⟨?_, ?_, ?_, ?_, ?_, ?_, ?_, ?_, ?_, trivial⟩
  ·intro f w1 hb _ K hK
   simp only [over, overL];go_simp;exact hK _ _ ⟨_, rfl, by simp only [over, overL]; rfl, brf⟩
  ·intro f w1 hb _ K hK
   have q0 := (KU.out.later hb).c 0 rfl;have q1 := (KU.out.later hb).c 1 rfl;have q2 := (KU.out.later hb).c 2 rfl;simp only [over, overL];go_simp;exact hK _ _ ⟨_, rfl, by simp only [over, overL]; rfl, brf⟩
  ·rintro f w1 hb ⟨(h21 : f 21 = _), _⟩ K hK
   simp only [over, overL, h21];go_simp;refine Calls.mono (goTo_any (upC q) w1) ?_;rintro e w2 ⟨rfl, hb2⟩;exact hK _ _ ⟨_, rfl, by simp only [over, overL, h21]; rfl, hb2⟩
  ·intro f w1 hb _ K hK
   have q0 := (KQ.out.later hb).c 0 rfl;have q1 := (KQ.out.later hb).c 1 rfl;have q2 := (KQ.out.later hb).c 2 rfl;simp only [over, overL];go_simp;exact hK _ _ ⟨_, rfl, by simp only [over, overL]; rfl, brf⟩
  ·rintro f w1 hb ⟨(h23 : f 23 = _), _⟩ K hK
   simp only [over, overL, h23];go_simp;refine Calls.mono (goTo_any q w1) ?_;rintro e w2 ⟨rfl, hb2⟩;exact hK _ _ ⟨_, rfl, by simp only [over, overL, h23]; rfl, hb2⟩
  ·intro f w1 hb _ K hK
   have q0 := (KC.out.later hb).c 0 rfl;have q1 := (KC.out.later hb).c 1 rfl;have q2 := (KC.out.later hb).c 2 rfl;have q3 := (KC.out.later hb).c 3 rfl;have q4 := (KC.out.later hb).c 4 rfl;simp only [over, overL];go_simp;exact hK _ _ ⟨_, rfl, by simp only [over, overL]; rfl, brf⟩
  ·intro f w1 hb _ K hK
   have q0 := (KU.out.later hb).c 0 rfl;have q1 := (KU.out.later hb).c 1 rfl;have q2 := (KU.out.later hb).c 2 rfl;simp only [over, overL];go_simp;exact hK _ _ ⟨_, rfl, by simp only [over, overL]; rfl, brf⟩
  ·rintro f w1 hb ⟨(h26 : f 26 = _), _⟩ K hK
   simp only [over, overL, h26];go_simp;refine Calls.mono (goTo_any (upC q) w1) ?_;rintro e w2 ⟨rfl, hb2⟩;exact hK _ _ ⟨_, rfl, by simp only [over, overL, h26]; rfl, hb2⟩
  ·rintro f w1 hb ⟨(h22 : f 22 = _), (h24 : f 24 = _), (h25 : f 25 = _), (h27 : f 27 = _), _⟩ K hK
   simp only [over, overL, h22, h24, h25, h27];go_simp;exact hK _ _ ⟨_, ⟨_, rfl, Bk.new w1 (encK.cells (workC q c)) 49 _ rfl⟩, by simp only [over, overL, h22, h24, h25, h27]; rfl, (brf).alloc (Nat.le_refl _) _⟩
 intro f w4 hb hv;have h20 : f 20 = .pointer (some ⟨bc, 0, none⟩) := hv.1;obtain ⟨x, h28, hkx⟩ := (show ∃ x, f 28 = .slice (some ⟨x, 0, none⟩) 4 4 ∧ Bk x (encK.cells (workC q c)) w4 from hv.2.2.2.2.2.2.2.2.1);have HT := hid (tell_any wB w4 bc ts bv mp ms s ⟨x, 0, none⟩ 4 (workC q c) ((HC.out.next HB3.out).next hb) (rdK_of hkx) (by simp [workC]) HL.out);simp only [over_eq, overL, h20, h28, Nat.reduceAdd, List.drop_succ_cons, List.drop_zero];clear hv h20 h28 hkx hb
 go_wp2_with fail
 refine Calls.mono HT.out ?_;rintro e w5 ⟨rfl, hc5⟩;rw [HQ.out] at hc5;have H5 : Hid _ := hc5;clear hc5 HT;go_wp2
 go_end0
 exact ⟨rfl, H5.out⟩
theorem rdP_at {w : World} {ao : Option Addr} {l : List Plc} (h : RdR encP w ao l) {k : Nat} (hk : k < l.length) : ∃ g off, ao = some ⟨g, off, none⟩ ∧ w.cell? ⟨g, off + k * 3, none⟩ = some (.int .i64 (l[k]'hk).1) ∧ w.cell? ⟨g, off + k * 3 + 1, none⟩ = some (.int .i64 (l[k]'hk).2.1) ∧ w.cell? ⟨g, off + k * 3 + 2, none⟩ = some (.int .i64 (l[k]'hk).2.2) := by
 rcases h with h | ⟨g, off, e, _, hc⟩
 ·subst h; simp at hk
 ·exact ⟨g, off, e, hc k hk 0 (by decide), hc k hk 1 (by decide), hc k hk 2 (by decide)⟩
def grV (bc aoB off n cap u : Nat) (p : Plc) (d : Nat) (v : Value) (w : World) : Prop :=
 match d with
 | 2 | 3 | 4 | 5 | 6 | 8 | 9 => v = .pointer (some ⟨bc, 0, none⟩)
 | 7 => v = .slice (some ⟨aoB, off, none⟩) n cap
 | 10 => v = .pointer (some ⟨bc, 5, none⟩)
 | 11 => v = .int .i64 (u : Int)
 | 12 => v = .pointer (some ⟨aoB, off + u * 3, none⟩)
 | 13 => v = .agg #[.int .i64 p.1, .int .i64 p.2.1, .int .i64 p.2.2]
 | 14 => v = cdv (cd 4 0)
 | _ => True
theorem grV_mono (bc aoB off n cap u : Nat) (p : Plc) (d : Nat) (v : Value) (w w' : World) (h : grV bc aoB off n cap u p d v w) (hb : bw w w') : grV bc aoB off n cap u p d v w' := by
 unfold grV at h ⊢
 split <;> simp only [] at h <;> first | exact h | (obtain ⟨x, h1, h2⟩ := h; exact ⟨x, h1, h2.later hb⟩)
def prV (bc B : Nat) (p : Plc) (n : Int) (d : Nat) (v : Value) (w : World) : Prop :=
 match d with
 | 14 | 16 | 17 => v = .pointer (some ⟨bc, 0, none⟩)
 | 15 => v = .agg #[.int .i64 p.1, .int .i64 p.2.1, .int .i64 p.2.2]
 | 18 => v = .pointer (some ⟨bc, 6, none⟩)
 | 19 => v = .int .i64 n
 | 20 => v = cdv (cd 3 n)
 | _ => True
theorem prV_mono (bc B : Nat) (p : Plc) (n : Int) (d : Nat) (v : Value) (w w' : World) (h : prV bc B p n d v w) (hb : bw w w') : prV bc B p n d v w' := by
 unfold prV at h ⊢
 split <;> simp only [] at h <;> first | exact h | (obtain ⟨x, h1, h2⟩ := h; exact ⟨x, h1, h2.later hb⟩)
theorem grab_any (wB w : World) (bc : Nat) (aoT : Option Addr) (capT : Nat) (tl : List Plc) (bv : Value) (mp ms c0 : Nat) (ls : List Sit) (s : Cst) (h : Cmp wB w bc (.slice aoT tl.length capT) bv mp ms s) (hm : MF kkP wB mp c0 (floorP ls)) (ht : RdR encP wB aoT tl) (hu : s.used < tl.length) (hw : ∀ p ∈ tl, Wf3 p) (hl : s.cs.length ≤ 1000000000) (hus : s.used ≤ 1000000000) :
  Calls Tryz.prog 59 #[ptr bc] w fun e w' => e = .returned (.tuple #[]) ∧ Cmp wB w' bc (.slice aoT tl.length capT) bv mp ms ⟨s.cs ++ workC (ptQ ls (tl.getD s.used plc0)) (cd 4 0), s.used + 1, s.held⟩ := by
 obtain ⟨g, off, hao, c0', c1', c2'⟩ := rdP_at (ht.next (w1 := w) goodP h.below) hu;have hgd : tl.getD s.used plc0 = tl[s.used]'hu := by simp [List.getD, hu]
 rw [hgd];have hpw := hw _ (List.getElem_mem hu);generalize tl[s.used]'hu = p at *;have HP0 : Hid (w.cell? ⟨g, off + s.used * 3, none⟩ = some (.int .i64 p.1)) := c0';have HP1 : Hid (w.cell? ⟨g, off + s.used * 3 + 1, none⟩ = some (.int .i64 p.2.1)) := c1';have HP2 : Hid (w.cell? ⟨g, off + s.used * 3 + 2, none⟩ = some (.int .i64 p.2.2)) := c2';subst hao;have HC := hdd h;obtain ⟨h1, h2, ao, n, cap, h3, h4⟩ := h;have HK := hdd h3;have HUN : Hid ((s.used : Int) < (tl.length : Int)) := by show _ < _; omega
 have HLT := hdd hus;have HWK : Hid (∀ W, bw w W → Calls Tryz.prog 119 #[ptr bc, plv p, cdv (cd 4 0)] W fun e w' => e = .returned (.tuple #[]) ∧ Cmp wB w' bc (.slice (some ⟨g, off, none⟩) tl.length capT) bv mp ms ⟨s.cs ++ workC (ptQ ls p) (cd 4 0), s.used, s.held⟩) := fun W hW => work_any wB W bc _ bv mp ms c0 ls s p (cd 4 0) (HC.out.next hW) hm hpw hl;generalize tl.length = nt at *;clear h1 h2 h3 h4 hm ht hu hw hpw hgd hl c0' c1' c2'
 go_enter Tryz.func59, Tryz.ntmps59
 go_wp2_with fail
 refine region_seq 13 [zf,zf,zt,zt,zt,zt,zt,zt,zt,zt,zt,zt,zt,zt,zt,zf,zf,zf,zf,zf,zf,zf,zf]
  [(2, [], none), (3, [], none), (4, [3], none), (5, [4], none), (6, [5], none), (7, [6], none), (8, [], none), (9, [8], none), (10, [9], none), (11, [10], none), (12, [7, 11], none), (13, [12], none), (14, [], none)]
  (grV bc g off nt capT s.used p) (by kernel_rfl) (by kernel_rfl) (by kernel_rfl) (by kernel_rfl) (by kernel_rfl) (by decide) (grV_mono bc g off nt capT s.used p) ?_ ?_
 ·refine ⟨?_, ?_, ?_, ?_, ?_, ?_, ?_, ?_, ?_, ?_, ?_, ?_, ?_, trivial⟩
  any_goals first | (intro f w1 hb _ K hK; simp only [over, overL]; go_simp; exact hK _ _ ⟨_, rfl, by simp only [over, overL]; rfl, brf⟩) | fail
  any_goals first | (intro f w1 hb hh K hK; have q := HK.out.later hb; have q0 := q.c 0 rfl; clear q; simp only [AllV, grV] at hh; simp only [over, overL, hh]; go_simp; exact hK _ _ ⟨_, rfl, by simp only [over, overL, hh]; rfl, brf⟩) | fail
  ·rintro f w1 hb ⟨(h10 : f 10 = _), _⟩ K hK
   have q0 := (HK.out.later hb).c 5 rfl;simp only [over, overL, h10];go_simp;exact hK _ _ ⟨_, rfl, by simp only [over, overL, h10]; rfl, brf⟩
  ·rintro f w1 hb ⟨(h7 : f 7 = _), (h11 : f 11 = _), _⟩ K hK
   have q0 := HUN.out;simp only [over, overL, h7, h11];go_simp;exact hK _ _ ⟨_, rfl, by simp only [over, overL, h7, h11]; rfl, brf⟩
  ·rintro f w1 hb ⟨(h12 : f 12 = _), _⟩ K hK
   have q0 := cell_later hb HP0.out;have q1 := cell_later hb HP1.out;have q2 := cell_later hb HP2.out;simp only [over, overL, h12];go_simp;exact hK _ _ ⟨_, rfl, by simp only [over, overL, h12]; rfl, brf⟩
 intro f w1 hb hv;have h2 : f 2 = .pointer (some ⟨bc, 0, none⟩) := hv.1;have h13 : f 13 = plv p := hv.2.2.2.2.2.2.2.2.2.2.2.1;have h14 : f 14 = cdv (cd 4 0) := hv.2.2.2.2.2.2.2.2.2.2.2.2.1;have HW1 := hid (HWK.out w1 hb);simp only [over_eq, overL, h2, h13, h14, Nat.reduceAdd, List.drop_succ_cons, List.drop_zero];clear hv h2 h13 h14 hb HWK
 go_wp2_with fail
 refine Calls.mono HW1.out ?_;rintro e w2 ⟨rfl, b1, b2, ao2, n2, cap2, b3, b4⟩;have B1 : Hid _ := b1;have B2 : Hid _ := b2;have B3 : Hid (Bk bc (cmc (.slice (some ⟨g, off, none⟩) nt capT) bv (.slice ao2 n2 cap2) mp ms s.used s.held) w2) := b3;have B4 : Hid (OwnR encK w2 (bc + 1) (.slice ao2 n2 cap2) (s.cs ++ workC (ptQ ls p) (cd 4 0))) := b4;have u0 := b3.c 5 rfl;have uf0 := b3.f 5 rfl;have ult := b3.1;have HU := HLT.out;clear b1 b2 b3 b4 HW1;go_wp2
 go_end0
 refine ⟨rfl, Below.setCell B1.out B2.out _, B2.out, ao2, n2, cap2, ?_, own_kpt B4.out (Kpt.setCell (M := fun k => k = bc) _ _ _ _ rfl) (fun g e e2 => by have := own_lt B4.out e; omega)⟩;have := B3.out.put 5 (.int .i64 ((s.used + 1 : Nat) : Int));have e1 : wrap64 ((s.used : Int) + 1) = ((s.used + 1 : Nat) : Int) := by rw [IntWalk.wrap64_in _ ⟨by omega, by omega⟩]; omega
 first | (rw [e1]; exact this) | exact this
theorem eject_no (wB w : World) (bc : Nat) (ts : Value) (aoB : Option Addr) (capB : Nat) (mp ms : Nat) (s : Cst) (h : Cmp wB w bc ts (.slice aoB 0 capB) mp ms s) :
  Calls Tryz.prog 60 #[ptr bc] w fun e w' => e = .returned (.int .i64 5) ∧ w' = w := by
 obtain ⟨h1, h2, ao, n, cap, h3, h4⟩ := h;have q1 := h3.c 1 rfl;clear h1 h2 h3 h4
 go_enter Tryz.func60, Tryz.ntmps60
 go_wp2;go_ret;exact ⟨rfl, rfl⟩
theorem eject_any (wB w : World) (bc : Nat) (ts : Value) (aoB : Option Addr) (capB : Nat) (p : Plc) (bl : List Plc) (mp ms c0 : Nat) (ls : List Sit) (s : Cst) (h : Cmp wB w bc ts (.slice aoB (p :: bl).length capB) mp ms s) (hm : MF kkP wB mp c0 (floorP ls)) (ht : RdR encP wB aoB (p :: bl)) (hw : Wf3 p) (hl : s.cs.length ≤ 1000000000) :
  Calls Tryz.prog 60 #[ptr bc] w fun e w' => e = .returned (.int .i64 0) ∧ Cmp wB w' bc ts (.slice aoB (p :: bl).length capB) mp ms ⟨s.cs ++ workC (ptQ ls p) (cd 5 0), s.used, 0⟩ := by
 obtain ⟨g, off, hao, c0', c1', c2'⟩ := rdP_at (ht.next (w1 := w) goodP h.below) (k := 0) (by simp);have HP0 : Hid (w.cell? ⟨g, off, none⟩ = some (.int .i64 p.1)) := by show _ = _; simpa using c0'
 have HP1 : Hid (w.cell? ⟨g, off + 1, none⟩ = some (.int .i64 p.2.1)) := by show _ = _; simpa using c1'
 have HP2 : Hid (w.cell? ⟨g, off + 2, none⟩ = some (.int .i64 p.2.2)) := by show _ = _; simpa using c2'
 subst hao;have HC := hdd h;obtain ⟨h1, h2, ao, n, cap, h3, h4⟩ := h;have HWK : Hid (∀ W, bw w W → Calls Tryz.prog 119 #[ptr bc, plv p, cdv (cd 5 0)] W fun e w' => e = .returned (.tuple #[]) ∧ Cmp wB w' bc ts (.slice (some ⟨g, off, none⟩) (p :: bl).length capB) mp ms ⟨s.cs ++ workC (ptQ ls p) (cd 5 0), s.used, s.held⟩) := fun W hW => work_any wB W bc ts _ mp ms c0 ls s p (cd 5 0) (HC.out.next hW) hm hw hl;have hpos : (0 : Int) < ((p :: bl).length : Int) := by rw [List.length_cons]; omega
 have hne : (((p :: bl).length : Int) == 0) = false := by
  have : ((p :: bl).length : Int) ≠ 0 := by omega
  simpa using this
 have q1 := h3.c 1 rfl;have q2 := HP0.out;have q3 := HP1.out;have q4 := HP2.out;clear h1 h2 h3 h4 hm ht hw hl c0' c1' c2';generalize (p :: bl).length = nb at *
 go_enter Tryz.func60, Tryz.ntmps60
 go_wp2_with fail
 refine Calls.mono (HWK.out w (brf)) ?_;rintro e w2 ⟨rfl, b1, b2, ao2, n2, cap2, b3, b4⟩;have B1 : Hid _ := b1;have B2 : Hid _ := b2;have B3 : Hid (Bk bc (cmc ts (.slice (some ⟨g, off, none⟩) nb capB) (.slice ao2 n2 cap2) mp ms s.used s.held) w2) := b3;have B4 : Hid (OwnR encK w2 (bc + 1) (.slice ao2 n2 cap2) (s.cs ++ workC (ptQ ls p) (cd 5 0))) := b4;have u0 := b3.c 6 rfl;have uf0 := b3.f 6 rfl;have ult := b3.1;clear b1 b2 b3 b4 HWK q1 q2 q3 q4;go_wp2;go_ret;exact ⟨rfl, Below.setCell B1.out B2.out _, B2.out, ao2, n2, cap2, B3.out.put 6 _, own_kpt B4.out (Kpt.setCell (M := fun k => k = bc) _ _ _ _ rfl) (fun g e e2 => by have := own_lt B4.out e; omega)⟩
theorem press_any (wB w : World) (bc : Nat) (ts bv : Value) (mp ms c0 : Nat) (ls : List Sit) (s : Cst) (p : Plc) (m : Int) (h : Cmp wB w bc ts bv mp ms s) (hm : MF kkP wB mp c0 (floorP ls)) (hw : Wf3 p) (hl : s.cs.length ≤ 1000000000) (hh : -4000000000000000000 ≤ s.held ∧ s.held ≤ 4000000000000000000) (hmm : -4000000000000000000 ≤ m ∧ m ≤ 4000000000000000000) :
  Calls Tryz.prog 61 #[ptr bc, plv p, .int .i64 m] w fun e w' => e = .returned (.tuple #[]) ∧ Cmp wB w' bc ts bv mp ms ⟨s.cs ++ workC (ptQ ls p) (cd 3 (s.held + m)), s.used, s.held + m⟩ := by
 have HL := hdd hl;have HM := hdd hm;have HW := hdd hw;obtain ⟨h1, h2, ao, n, cap, h3, h4⟩ := h;have hb0 : bw w (w.alloc (.cells #[.int .i64 p.1, .int .i64 p.2.1, .int .i64 p.2.2] 55)) := (brf).alloc (Nat.le_refl _) _;have KP0 : Hid (Bk w.heap.size [.int .i64 p.1, .int .i64 p.2.1, .int .i64 p.2.2] (w.alloc (.cells #[.int .i64 p.1, .int .i64 p.2.1, .int .i64 p.2.2] 55))) := Bk.new w [.int .i64 p.1, .int .i64 p.2.1, .int .i64 p.2.2] 55 w.heap.size rfl;have HK : Hid (Bk bc (cmc ts bv (.slice ao n cap) mp ms s.used s.held) (w.alloc (.cells #[.int .i64 p.1, .int .i64 p.2.1, .int .i64 p.2.2] 55))) := h3.later hb0;have HO : Hid (OwnR encK (w.alloc (.cells #[.int .i64 p.1, .int .i64 p.2.1, .int .i64 p.2.2] 55)) (bc + 1) (.slice ao n cap) s.cs) := h4.later hb0;have HB : Hid (bw wB (w.alloc (.cells #[.int .i64 p.1, .int .i64 p.2.1, .int .i64 p.2.2] 55))) := h1.trans (hb0.mono h1.size);have HLO := hdd h2;have HBC : Hid (bc < w.heap.size) := h3.1;have hwr : wrap64 (s.held + m) = s.held + m := IntWalk.wrap64_in _ ⟨by omega, by omega⟩;have HWR := hdd hwr;have r6 := HK.out.c 6 rfl;have rf6 := HK.out.f 6 rfl;have rlt := HK.out.1;clear h1 h2 h3 h4 hm hw hl hb0 hwr
 go_enter Tryz.func61, Tryz.ntmps61
 go_wp2_with fail
 obtain ⟨w2, hw2⟩ : ∃ w2, w2 = (w.alloc (.cells #[.int .i64 p.1, .int .i64 p.2.1, .int .i64 p.2.2] 55)).setCell ⟨bc, 6, none⟩ (.int .i64 (s.held + m)) := ⟨_, rfl⟩;have kk : Kpt (fun k => k = bc) (w.alloc (.cells #[.int .i64 p.1, .int .i64 p.2.1, .int .i64 p.2.2] 55)) w2 := by rw [hw2]; exact Kpt.setCell _ _ _ _ rfl
 have HK2 : Hid (Bk bc (cmc ts bv (.slice ao n cap) mp ms s.used (s.held + m)) w2) := by show Bk _ _ _; rw [hw2]; exact HK.out.put 6 _
 have KP : Hid (Bk w.heap.size [.int .i64 p.1, .int .i64 p.2.1, .int .i64 p.2.2] w2) := bkK KP0.out kk (by have := HBC.out; omega);have HC2 : Hid (Cmp wB w2 bc ts bv mp ms ⟨s.cs, s.used, s.held + m⟩) := ⟨by rw [hw2]; exact HB.out.setCell HLO.out _, HLO.out, ao, n, cap, HK2.out, own_kpt HO.out kk (fun g e e2 => by have := own_lt HO.out e; omega)⟩;have HW2 := hdd hw2;clear kk hw2 r6 rf6 rlt;rw [← HW2.out];clear HW2 HK HO HB KP0
 refine region_seq 7 [zf,zf,zf,zf,zf,zf,zf,zf,zf,zf,zf,zf,zf,zf,zt,zt,zt,zt,zt,zt,zt,zf]
  [(14, [], none), (15, [], none), (16, [], none), (17, [16], none), (18, [17], none), (19, [18], none), (20, [19], none)]
  (prV bc 0 p (s.held + m)) (by kernel_rfl) (by kernel_rfl) (by kernel_rfl) (by kernel_rfl) (by kernel_rfl) (by decide) (prV_mono bc 0 p (s.held + m)) ?_ ?_
 ·refine ⟨?_, ?_, ?_, ?_, ?_, ?_, ?_, trivial⟩
  any_goals first | (intro f w1 hb _ K hK; simp only [over, overL]; go_simp; exact hK _ _ ⟨_, rfl, by simp only [over, overL]; rfl, brf⟩) | fail
  any_goals first | (intro f w1 hb hh K hK; simp only [AllV, prV] at hh; simp only [over, overL, hh]; go_simp; exact hK _ _ ⟨_, rfl, by simp only [over, overL, hh]; rfl, brf⟩) | fail
  ·intro f w1 hb _ K hK
   have q0 := (KP.out.later hb).c 0 rfl;have q1 := (KP.out.later hb).c 1 rfl;have q2 := (KP.out.later hb).c 2 rfl;simp only [over, overL];go_simp;exact hK _ _ ⟨_, rfl, by simp only [over, overL]; rfl, brf⟩
  ·rintro f w1 hb ⟨(h18 : f 18 = _), _⟩ K hK
   have q0 := (HK2.out.later hb).c 6 rfl;simp only [over, overL, h18];go_simp;exact hK _ _ ⟨_, rfl, by simp only [over, overL, h18]; rfl, brf⟩
 intro f w3 hb hv;have h14 : f 14 = .pointer (some ⟨bc, 0, none⟩) := hv.1;have h15 : f 15 = plv p := hv.2.1;have h20 : f 20 = cdv (cd 3 (s.held + m)) := hv.2.2.2.2.2.2.1;have HWK := hid (work_any wB w3 bc ts bv mp ms c0 ls ⟨s.cs, s.used, s.held + m⟩ p (cd 3 (s.held + m)) (HC2.out.next hb) HM.out HW.out HL.out);simp only [over_eq, overL, h14, h15, h20, Nat.reduceAdd, List.drop_succ_cons, List.drop_zero];clear hv h14 h15 h20 hb
 go_wp2_with fail
 refine Calls.mono HWK.out ?_;rintro e w5 ⟨rfl, hc5⟩;have H5 : Hid _ := hc5;clear hc5 HWK;go_wp2
 go_end0
 exact ⟨rfl, H5.out⟩
theorem rest_any (wB w : World) (bc : Nat) (ts bv : Value) (mp ms : Nat) (s : Cst) (t : Int) (h : Cmp wB w bc ts bv mp ms s) (hl : s.cs.length ≤ 1000000000) :
  Calls Tryz.prog 62 #[ptr bc, .int .i64 t] w fun e w' => e = .returned (.tuple #[]) ∧ Cmp wB w' bc ts bv mp ms ⟨s.cs ++ restC t, s.used, s.held⟩ := by
 by_cases ht : 0 < t
 ·have HR : Hid (restC t = [cd 7 t]) := if_pos ht
  have HT : Hid (∀ W, bw w W → ∀ x, Bk x (encK.cells [cd 7 t]) W → Calls Tryz.prog 57 #[ptr bc, .slice (some ⟨x, 0, none⟩) 1 1] W fun e w' => e = .returned (.tuple #[]) ∧ Cmp wB w' bc ts bv mp ms ⟨s.cs ++ [cd 7 t], s.used, s.held⟩) := fun W hW x hx => tell_any wB W bc ts bv mp ms s ⟨x, 0, none⟩ 1 [cd 7 t] (h.next hW) (rdK_of hx) (by simp) hl;clear h hl
  go_enter Tryz.func62, Tryz.ntmps62
  go_wp2_with fail
  refine Calls.mono (HT.out _ ((brf).alloc (Nat.le_refl _) _) _ (Bk.new w (encK.cells [cd 7 t]) 49 _ rfl)) ?_;rintro e w2 ⟨rfl, hc⟩;have H5 : Hid _ := hc;clear hc HT;go_wp2
  go_end0
  rw [HR.out];exact ⟨rfl, H5.out⟩
 ·have HR : Hid (restC t = []) := if_neg ht
  have HC : Hid _ := h;clear h
  go_enter Tryz.func62, Tryz.ntmps62
  go_wp2
  go_end0
  rw [HR.out, List.append_nil];exact ⟨rfl, HC.out⟩
theorem tell_keep (wB w : World) (bc : Nat) (ts bv : Value) (mp ms : Nat) (s : Cst) (ad : Addr) (cp : Nat) (xs : List Cd) (h : Cmp wB w bc ts bv mp ms s) (hx : RdR encK w (some ad) xs) (hn : xs.length ≤ 4) (hl : s.cs.length ≤ 1000000000) :
  Calls Tryz.prog 57 #[ptr bc, .slice (some ad) xs.length cp] w fun e w' => e = .returned (.tuple #[]) ∧ Cmp wB w' bc ts bv mp ms ⟨s.cs ++ xs, s.used, s.held⟩ ∧ ∀ k, k < w.heap.size → k ≠ bc → (∀ cur f, w.heap[k]? ≠ some (.cells cur 49 f)) → w'.heap[k]? = w.heap[k]? := by
 obtain ⟨h1, h2, ao, n, cap, h3, h4⟩ := h;have HB := hdd h1;have HLO := hdd h2;have HK := hdd h3;have HO := hdd h4;have HX := hdd hx;have q4 := h3.c 4 rfl;have hlt := h3.1;clear h1 h2 h3 h4 hx
 go_enter Tryz.func57, Tryz.ntmps57
 go_wp2_with (at_builtin; refine wpList_append_list goodK Tryz.underlying24 infoK rfl (by decide) _ rfl (.tmp 8) (.tmp 9) rfl (bc + 1) (.slice ao n cap) s.cs rfl HO.out ad cp xs rfl HX.out (by unfold maxLen; omega) (by omega) (by omega) ?_; intro v' w5 ho hg hloc; obtain ⟨ao5, n5, cap5, rfl⟩ := ho.form; have hbk : Bk bc (cmc ts bv (.slice ao n cap) mp ms s.used s.held) w5 := HK.out.same hg.size (hg.block _ HK.out.1 (fun e => by have := own_lt HO.out e.symm; omega)); have e4 := hbk.c 4 rfl; have ef4 := hbk.f 4 rfl)
 have HB5 : Hid (bw wB (w5.setCell ⟨bc, 4, none⟩ (.slice ao5 n5 cap5))) := (below_row HB.out (HO.out.base (Nat.le_succ_of_le HLO.out)) hg HB.out.size).setCell HLO.out _;have HBK5 : Hid (Bk bc (cmc ts bv (.slice ao5 n5 cap5) mp ms s.used s.held) (w5.setCell ⟨bc, 4, none⟩ (.slice ao5 n5 cap5))) := hbk.put 4 _;have HO5 : Hid (OwnR encK (w5.setCell ⟨bc, 4, none⟩ (.slice ao5 n5 cap5)) (bc + 1) (.slice ao5 n5 cap5) (s.cs ++ xs)) := own_kpt ho (Kpt.setCell (M := fun k => k = bc) _ _ _ _ rfl) (fun g e e2 => by have := own_lt ho e; omega)
 have HKE : Hid (∀ k, k < w.heap.size → k ≠ bc → (∀ cur f, w.heap[k]? ≠ some (.cells cur 49 f)) → (w5.setCell ⟨bc, 4, none⟩ (.slice ao5 n5 cap5)).heap[k]? = w.heap[k]?) := by
  intro k hk hne hno;refine (Below.heap_setCell w5 ⟨bc, 4, none⟩ _ k hne).trans (hg.block k hk fun e => ?_)
  rcases HO.out.2 with ⟨e2, _⟩ | ⟨g, cp2, cur, e2, _, hh, _⟩
  ·rw [e2] at e; cases e
  ·rw [e2] at e
   injection e with e;subst e;exact hno _ _ hh
 clear ho hg hloc hbk e4 ef4 q4;go_wp2
 go_end0
 exact ⟨rfl, ⟨HB5.out, HLO.out, ao5, n5, cap5, HBK5.out, HO5.out⟩, HKE.out⟩
structure AcOk (tl : List Plc) (s : Cst) (a : Acn) : Prop where
 tip : a.kind = 6 → s.used < tl.length
 well : a.kind = 8 ∨ a.kind = 9 → Wf3 a.pl ∧ 1 ≤ a.vol ∧ a.vol ≤ 1000000000
 held : -1000000000000000000 ≤ s.held ∧ s.held ≤ 1000000000000000000
 used : s.used ≤ 1000000000
 few : s.cs.length ≤ 100000000
theorem compile_fill (wB w : World) (bc : Nat) (aoT : Option Addr) (capT : Nat) (tl : List Plc) (aoB : Option Addr) (capB : Nat) (bl : List Plc) (mp ms c0 : Nat) (ls : List Sit) (s : Cst) (a : Acn) (hk : a.kind = 5) (h : Cmp wB w bc (.slice aoT tl.length capT) (.slice aoB bl.length capB) mp ms s)
  (hm : MF kkP wB mp c0 (floorP ls)) (ht : RdR encP wB aoT tl) (hb : RdR encP wB aoB bl) (hwt : ∀ p ∈ tl, Wf3 p) (hwb : ∀ p ∈ bl, Wf3 p) (ha : AcOk tl s a) :
  Calls Tryz.prog 25 #[ptr bc, av a] w fun e w' => e = .returned (.int .i64 (stepC tl bl (ptQ ls) s a).2) ∧ Cmp wB w' bc (.slice aoT tl.length capT) (.slice aoB bl.length capB) mp ms (stepC tl bl (ptQ ls) s a).1 := by
 have hb0 : bw w (w.alloc (aobj a)) := (brf).alloc (Nat.le_refl _) _;have HC0 : Hid (Cmp wB (w.alloc (aobj a)) bc (.slice aoT tl.length capT) (.slice aoB bl.length capB) mp ms s) := h.next hb0;have hfew : s.cs.length ≤ 1000000000 := by have := ha.few; omega
 have HS : Hid (stepC tl bl (ptQ ls) s a = (s, 0)) := by show _ = _; obtain ⟨ak, apl, al, avl, avv, atm⟩ := a; simp only at hk; subst hk; rfl
 clear h hm ht hb hwt hwb ha hb0 hfew;obtain ⟨ak, ⟨a1, a2, a3⟩, al, avl, avv, atm⟩ := a;simp only at hk;subst hk
 go_enter Tryz.func25, Tryz.ntmps25
 go_wp2;go_ret;rw [HS.out];exact ⟨rfl, HC0.out⟩
theorem compile_tip (wB w : World) (bc : Nat) (aoT : Option Addr) (capT : Nat) (tl : List Plc) (aoB : Option Addr) (capB : Nat) (bl : List Plc) (mp ms c0 : Nat) (ls : List Sit) (s : Cst) (a : Acn) (hk : a.kind = 6) (h : Cmp wB w bc (.slice aoT tl.length capT) (.slice aoB bl.length capB) mp ms s)
  (hm : MF kkP wB mp c0 (floorP ls)) (ht : RdR encP wB aoT tl) (hb : RdR encP wB aoB bl) (hwt : ∀ p ∈ tl, Wf3 p) (hwb : ∀ p ∈ bl, Wf3 p) (ha : AcOk tl s a) :
  Calls Tryz.prog 25 #[ptr bc, av a] w fun e w' => e = .returned (.int .i64 (stepC tl bl (ptQ ls) s a).2) ∧ Cmp wB w' bc (.slice aoT tl.length capT) (.slice aoB bl.length capB) mp ms (stepC tl bl (ptQ ls) s a).1 := by
 have hb0 : bw w (w.alloc (aobj a)) := (brf).alloc (Nat.le_refl _) _;have HC0 : Hid (Cmp wB (w.alloc (aobj a)) bc (.slice aoT tl.length capT) (.slice aoB bl.length capB) mp ms s) := h.next hb0;have hfew : s.cs.length ≤ 1000000000 := by have := ha.few; omega
 have HW := hid (grab_any wB (w.alloc (aobj a)) bc aoT capT tl (.slice aoB bl.length capB) mp ms c0 ls s HC0.out hm ht (ha.tip hk) hwt hfew ha.used);have HS : Hid (stepC tl bl (ptQ ls) s a = (⟨s.cs ++ workC (ptQ ls (tl.getD s.used plc0)) (cd 4 0), s.used + 1, s.held⟩, 0)) := by show _ = _; obtain ⟨ak, apl, al, avl, avv, atm⟩ := a; simp only at hk; subst hk; rfl
 clear h hm ht hb hwt hwb ha hb0 hfew;obtain ⟨ak, ⟨a1, a2, a3⟩, al, avl, avv, atm⟩ := a;simp only at hk;subst hk
 go_enter Tryz.func25, Tryz.ntmps25
 go_wp2_with fail
 refine Calls.mono HW.out ?_;rintro e w2 ⟨rfl, hc⟩;have H2 : Hid _ := hc;clear hc HW;go_wp2;go_ret;rw [HS.out];exact ⟨rfl, H2.out⟩
theorem compile_drop0 (wB w : World) (bc : Nat) (aoT : Option Addr) (capT : Nat) (tl : List Plc) (aoB : Option Addr) (capB : Nat) (bl : List Plc) (mp ms c0 : Nat) (ls : List Sit) (s : Cst) (a : Acn) (hk : a.kind = 7 ∧ bl = []) (h : Cmp wB w bc (.slice aoT tl.length capT) (.slice aoB bl.length capB) mp ms s)
  (hm : MF kkP wB mp c0 (floorP ls)) (ht : RdR encP wB aoT tl) (hb : RdR encP wB aoB bl) (hwt : ∀ p ∈ tl, Wf3 p) (hwb : ∀ p ∈ bl, Wf3 p) (ha : AcOk tl s a) :
  Calls Tryz.prog 25 #[ptr bc, av a] w fun e w' => e = .returned (.int .i64 (stepC tl bl (ptQ ls) s a).2) ∧ Cmp wB w' bc (.slice aoT tl.length capT) (.slice aoB bl.length capB) mp ms (stepC tl bl (ptQ ls) s a).1 := by
 have hb0 : bw w (w.alloc (aobj a)) := (brf).alloc (Nat.le_refl _) _;have HC0 : Hid (Cmp wB (w.alloc (aobj a)) bc (.slice aoT tl.length capT) (.slice aoB bl.length capB) mp ms s) := h.next hb0;have hfew : s.cs.length ≤ 1000000000 := by have := ha.few; omega
 obtain ⟨hk, hbl⟩ := hk;subst hbl;have HW := hid (eject_no wB (w.alloc (aobj a)) bc (.slice aoT tl.length capT) aoB capB mp ms s HC0.out);have HS : Hid (stepC tl [] (ptQ ls) s a = (s, 5)) := by show _ = _; obtain ⟨ak, apl, al, avl, avv, atm⟩ := a; simp only at hk; subst hk; rfl
 clear h hm ht hb hwt hwb ha hb0 hfew;obtain ⟨ak, ⟨a1, a2, a3⟩, al, avl, avv, atm⟩ := a;simp only at hk;subst hk
 go_enter Tryz.func25, Tryz.ntmps25
 go_wp2_with fail
 refine Calls.mono HW.out ?_;rintro e w2 ⟨rfl, rfl⟩;clear HW;go_wp2;go_ret;rw [HS.out];exact ⟨rfl, HC0.out⟩
theorem compile_drop1 (wB w : World) (bc : Nat) (aoT : Option Addr) (capT : Nat) (tl : List Plc) (aoB : Option Addr) (capB : Nat) (bl : List Plc) (mp ms c0 : Nat) (ls : List Sit) (s : Cst) (a : Acn) (hk : a.kind = 7 ∧ bl ≠ []) (h : Cmp wB w bc (.slice aoT tl.length capT) (.slice aoB bl.length capB) mp ms s)
  (hm : MF kkP wB mp c0 (floorP ls)) (ht : RdR encP wB aoT tl) (hb : RdR encP wB aoB bl) (hwt : ∀ p ∈ tl, Wf3 p) (hwb : ∀ p ∈ bl, Wf3 p) (ha : AcOk tl s a) :
  Calls Tryz.prog 25 #[ptr bc, av a] w fun e w' => e = .returned (.int .i64 (stepC tl bl (ptQ ls) s a).2) ∧ Cmp wB w' bc (.slice aoT tl.length capT) (.slice aoB bl.length capB) mp ms (stepC tl bl (ptQ ls) s a).1 := by
 have hb0 : bw w (w.alloc (aobj a)) := (brf).alloc (Nat.le_refl _) _;have HC0 : Hid (Cmp wB (w.alloc (aobj a)) bc (.slice aoT tl.length capT) (.slice aoB bl.length capB) mp ms s) := h.next hb0;have hfew : s.cs.length ≤ 1000000000 := by have := ha.few; omega
 obtain ⟨hk, hbl⟩ := hk;obtain ⟨p, bl, rfl⟩ := List.exists_cons_of_ne_nil hbl;have HW := hid (eject_any wB (w.alloc (aobj a)) bc (.slice aoT tl.length capT) aoB capB p bl mp ms c0 ls s HC0.out hm hb (hwb p (by simp)) hfew);have HS : Hid (stepC tl (p :: bl) (ptQ ls) s a = (⟨s.cs ++ workC (ptQ ls p) (cd 5 0), s.used, 0⟩, 0)) := by show _ = _; obtain ⟨ak, apl, al, avl, avv, atm⟩ := a; simp only at hk; subst hk; rfl
 clear h hm ht hb hwt hwb ha hb0 hfew hbl;obtain ⟨ak, ⟨a1, a2, a3⟩, al, avl, avv, atm⟩ := a;simp only at hk;subst hk
 go_enter Tryz.func25, Tryz.ntmps25
 go_wp2_with fail
 refine Calls.mono HW.out ?_;rintro e w2 ⟨rfl, hc⟩;have H2 : Hid _ := hc;clear hc HW;go_wp2;go_ret;rw [HS.out];exact ⟨rfl, H2.out⟩
theorem compile_draw (wB w : World) (bc : Nat) (aoT : Option Addr) (capT : Nat) (tl : List Plc) (aoB : Option Addr) (capB : Nat) (bl : List Plc) (mp ms c0 : Nat) (ls : List Sit) (s : Cst) (a : Acn) (hk : a.kind = 8) (h : Cmp wB w bc (.slice aoT tl.length capT) (.slice aoB bl.length capB) mp ms s)
  (hm : MF kkP wB mp c0 (floorP ls)) (ht : RdR encP wB aoT tl) (hb : RdR encP wB aoB bl) (hwt : ∀ p ∈ tl, Wf3 p) (hwb : ∀ p ∈ bl, Wf3 p) (ha : AcOk tl s a) :
  Calls Tryz.prog 25 #[ptr bc, av a] w fun e w' => e = .returned (.int .i64 (stepC tl bl (ptQ ls) s a).2) ∧ Cmp wB w' bc (.slice aoT tl.length capT) (.slice aoB bl.length capB) mp ms (stepC tl bl (ptQ ls) s a).1 := by
 have hb0 : bw w (w.alloc (aobj a)) := (brf).alloc (Nat.le_refl _) _;have HC0 : Hid (Cmp wB (w.alloc (aobj a)) bc (.slice aoT tl.length capT) (.slice aoB bl.length capB) mp ms s) := h.next hb0;have hfew : s.cs.length ≤ 1000000000 := by have := ha.few; omega
 have HW := hid (press_any wB (w.alloc (aobj a)) bc (.slice aoT tl.length capT) (.slice aoB bl.length capB) mp ms c0 ls s a.pl a.vol HC0.out hm (ha.well (.inl hk)).1 hfew (by have := ha.held; omega) (by have := (ha.well (.inl hk)).2; omega));have HS : Hid (stepC tl bl (ptQ ls) s a = (⟨s.cs ++ workC (ptQ ls a.pl) (cd 3 (s.held + a.vol)), s.used, s.held + a.vol⟩, 0)) := by show _ = _; obtain ⟨ak, apl, al, avl, avv, atm⟩ := a; simp only at hk; subst hk; rfl
 clear h hm ht hb hwt hwb ha hb0 hfew;obtain ⟨ak, ⟨a1, a2, a3⟩, al, avl, avv, atm⟩ := a;simp only at hk;subst hk
 go_enter Tryz.func25, Tryz.ntmps25
 go_wp2_with fail
 refine Calls.mono HW.out ?_;rintro e w2 ⟨rfl, hc⟩;have H2 : Hid _ := hc;clear hc HW;go_wp2;go_ret;rw [HS.out];exact ⟨rfl, H2.out⟩
theorem compile_put (wB w : World) (bc : Nat) (aoT : Option Addr) (capT : Nat) (tl : List Plc) (aoB : Option Addr) (capB : Nat) (bl : List Plc) (mp ms c0 : Nat) (ls : List Sit) (s : Cst) (a : Acn) (hk : a.kind = 9) (h : Cmp wB w bc (.slice aoT tl.length capT) (.slice aoB bl.length capB) mp ms s)
  (hm : MF kkP wB mp c0 (floorP ls)) (ht : RdR encP wB aoT tl) (hb : RdR encP wB aoB bl) (hwt : ∀ p ∈ tl, Wf3 p) (hwb : ∀ p ∈ bl, Wf3 p) (ha : AcOk tl s a) :
  Calls Tryz.prog 25 #[ptr bc, av a] w fun e w' => e = .returned (.int .i64 (stepC tl bl (ptQ ls) s a).2) ∧ Cmp wB w' bc (.slice aoT tl.length capT) (.slice aoB bl.length capB) mp ms (stepC tl bl (ptQ ls) s a).1 := by
 have hb0 : bw w (w.alloc (aobj a)) := (brf).alloc (Nat.le_refl _) _;have HC0 : Hid (Cmp wB (w.alloc (aobj a)) bc (.slice aoT tl.length capT) (.slice aoB bl.length capB) mp ms s) := h.next hb0;have hfew : s.cs.length ≤ 1000000000 := by have := ha.few; omega
 have HW := hid (press_any wB (w.alloc (aobj a)) bc (.slice aoT tl.length capT) (.slice aoB bl.length capB) mp ms c0 ls s a.pl (-a.vol) HC0.out hm (ha.well (.inr hk)).1 hfew (by have := ha.held; omega) (by have := (ha.well (.inr hk)).2; omega));have hwr : wrap64 (-a.vol) = -a.vol := IntWalk.wrap64_in _ (by have := (ha.well (.inr hk)).2; exact ⟨by omega, by omega⟩);have HS : Hid (stepC tl bl (ptQ ls) s a = (⟨s.cs ++ workC (ptQ ls a.pl) (cd 3 (s.held + -a.vol)), s.used, s.held + -a.vol⟩, 0)) := by show _ = _; obtain ⟨ak, apl, al, avl, avv, atm⟩ := a; simp only at hk; subst hk; rfl
 clear h hm ht hb hwt hwb ha hb0 hfew;obtain ⟨ak, ⟨a1, a2, a3⟩, al, avl, avv, atm⟩ := a;simp only at hk;subst hk
 go_enter Tryz.func25, Tryz.ntmps25
 go_wp2_with fail
 refine Calls.mono HW.out ?_;rintro e w2 ⟨rfl, hc⟩;have H2 : Hid _ := hc;clear hc HW;go_wp2;go_ret;rw [HS.out];exact ⟨rfl, H2.out⟩
theorem compile_warm (wB w : World) (bc : Nat) (aoT : Option Addr) (capT : Nat) (tl : List Plc) (aoB : Option Addr) (capB : Nat) (bl : List Plc) (mp ms c0 : Nat) (ls : List Sit) (s : Cst) (a : Acn) (hk : a.kind = 11) (h : Cmp wB w bc (.slice aoT tl.length capT) (.slice aoB bl.length capB) mp ms s)
  (hm : MF kkP wB mp c0 (floorP ls)) (ht : RdR encP wB aoT tl) (hb : RdR encP wB aoB bl) (hwt : ∀ p ∈ tl, Wf3 p) (hwb : ∀ p ∈ bl, Wf3 p) (ha : AcOk tl s a) :
  Calls Tryz.prog 25 #[ptr bc, av a] w fun e w' => e = .returned (.int .i64 (stepC tl bl (ptQ ls) s a).2) ∧ Cmp wB w' bc (.slice aoT tl.length capT) (.slice aoB bl.length capB) mp ms (stepC tl bl (ptQ ls) s a).1 := by
 have hb0 : bw w (w.alloc (aobj a)) := (brf).alloc (Nat.le_refl _) _;have HC0 : Hid (Cmp wB (w.alloc (aobj a)) bc (.slice aoT tl.length capT) (.slice aoB bl.length capB) mp ms s) := h.next hb0;have hfew : s.cs.length ≤ 1000000000 := by have := ha.few; omega
 have HW : Hid (∀ x, Bk x (encK.cells [cd 6 a.value]) ((w.alloc (aobj a)).alloc (.cells (cdl (cd 6 a.value)).toArray 49)) → Calls Tryz.prog 57 #[ptr bc, .slice (some ⟨x, 0, none⟩) 1 1] ((w.alloc (aobj a)).alloc (.cells (cdl (cd 6 a.value)).toArray 49)) fun e w2 => e = .returned (.tuple #[]) ∧ Cmp wB w2 bc (.slice aoT tl.length capT) (.slice aoB bl.length capB) mp ms ⟨s.cs ++ [cd 6 a.value], s.used, s.held⟩) := fun x hx => tell_any wB _ bc _ _ mp ms s ⟨x, 0, none⟩ 1 [cd 6 a.value] (HC0.out.next ((brf).alloc (Nat.le_refl _) _)) (rdK_of hx) (by simp) hfew;have HS : Hid (stepC tl bl (ptQ ls) s a = (⟨s.cs ++ [cd 6 a.value], s.used, s.held⟩, 0)) := by show _ = _; obtain ⟨ak, apl, al, avl, avv, atm⟩ := a; simp only at hk; subst hk; rfl
 clear h hm ht hb hwt hwb ha hb0 hfew;obtain ⟨ak, ⟨a1, a2, a3⟩, al, avl, avv, atm⟩ := a;simp only at hk;subst hk
 go_enter Tryz.func25, Tryz.ntmps25
 go_wp2_with fail
 refine Calls.mono (HW.out _ (Bk.new _ (encK.cells [cd 6 avv]) 49 _ (by simp))) ?_;rintro e w2 ⟨rfl, hc⟩;have H2 : Hid _ := hc;clear hc HW;go_wp2;go_ret;rw [HS.out];exact ⟨rfl, H2.out⟩
theorem compile_hold (wB w : World) (bc : Nat) (aoT : Option Addr) (capT : Nat) (tl : List Plc) (aoB : Option Addr) (capB : Nat) (bl : List Plc) (mp ms c0 : Nat) (ls : List Sit) (s : Cst) (a : Acn) (hk : a.kind = 12) (h : Cmp wB w bc (.slice aoT tl.length capT) (.slice aoB bl.length capB) mp ms s)
  (hm : MF kkP wB mp c0 (floorP ls)) (ht : RdR encP wB aoT tl) (hb : RdR encP wB aoB bl) (hwt : ∀ p ∈ tl, Wf3 p) (hwb : ∀ p ∈ bl, Wf3 p) (ha : AcOk tl s a) :
  Calls Tryz.prog 25 #[ptr bc, av a] w fun e w' => e = .returned (.int .i64 (stepC tl bl (ptQ ls) s a).2) ∧ Cmp wB w' bc (.slice aoT tl.length capT) (.slice aoB bl.length capB) mp ms (stepC tl bl (ptQ ls) s a).1 := by
 have hb0 : bw w (w.alloc (aobj a)) := (brf).alloc (Nat.le_refl _) _;have HC0 : Hid (Cmp wB (w.alloc (aobj a)) bc (.slice aoT tl.length capT) (.slice aoB bl.length capB) mp ms s) := h.next hb0;have hfew : s.cs.length ≤ 1000000000 := by have := ha.few; omega
 have HW := hid (rest_any wB (w.alloc (aobj a)) bc (.slice aoT tl.length capT) (.slice aoB bl.length capB) mp ms s a.time HC0.out hfew);have HS : Hid (stepC tl bl (ptQ ls) s a = (⟨s.cs ++ restC a.time, s.used, s.held⟩, 0)) := by show _ = _; obtain ⟨ak, apl, al, avl, avv, atm⟩ := a; simp only at hk; subst hk; rfl
 clear h hm ht hb hwt hwb ha hb0 hfew;obtain ⟨ak, ⟨a1, a2, a3⟩, al, avl, avv, atm⟩ := a;simp only at hk;subst hk
 go_enter Tryz.func25, Tryz.ntmps25
 go_wp2_with fail
 refine Calls.mono HW.out ?_;rintro e w2 ⟨rfl, hc⟩;have H2 : Hid _ := hc;clear hc HW;go_wp2;go_ret;rw [HS.out];exact ⟨rfl, H2.out⟩
theorem compile_wait (wB w : World) (bc : Nat) (aoT : Option Addr) (capT : Nat) (tl : List Plc) (aoB : Option Addr) (capB : Nat) (bl : List Plc) (mp ms c0 : Nat) (ls : List Sit) (s : Cst) (a : Acn) (hk : a.kind = 14) (h : Cmp wB w bc (.slice aoT tl.length capT) (.slice aoB bl.length capB) mp ms s)
  (hm : MF kkP wB mp c0 (floorP ls)) (ht : RdR encP wB aoT tl) (hb : RdR encP wB aoB bl) (hwt : ∀ p ∈ tl, Wf3 p) (hwb : ∀ p ∈ bl, Wf3 p) (ha : AcOk tl s a) :
  Calls Tryz.prog 25 #[ptr bc, av a] w fun e w' => e = .returned (.int .i64 (stepC tl bl (ptQ ls) s a).2) ∧ Cmp wB w' bc (.slice aoT tl.length capT) (.slice aoB bl.length capB) mp ms (stepC tl bl (ptQ ls) s a).1 := by
 have hb0 : bw w (w.alloc (aobj a)) := (brf).alloc (Nat.le_refl _) _;have HC0 : Hid (Cmp wB (w.alloc (aobj a)) bc (.slice aoT tl.length capT) (.slice aoB bl.length capB) mp ms s) := h.next hb0;have hfew : s.cs.length ≤ 1000000000 := by have := ha.few; omega
 have HW := hid (rest_any wB (w.alloc (aobj a)) bc (.slice aoT tl.length capT) (.slice aoB bl.length capB) mp ms s a.time HC0.out hfew);have HS : Hid (stepC tl bl (ptQ ls) s a = (⟨s.cs ++ restC a.time, s.used, s.held⟩, 0)) := by show _ = _; obtain ⟨ak, apl, al, avl, avv, atm⟩ := a; simp only at hk; subst hk; rfl
 clear h hm ht hb hwt hwb ha hb0 hfew;obtain ⟨ak, ⟨a1, a2, a3⟩, al, avl, avv, atm⟩ := a;simp only at hk;subst hk
 go_enter Tryz.func25, Tryz.ntmps25
 go_wp2_with fail
 refine Calls.mono HW.out ?_;rintro e w2 ⟨rfl, hc⟩;have H2 : Hid _ := hc;clear hc HW;go_wp2;go_ret;rw [HS.out];exact ⟨rfl, H2.out⟩
theorem compile_shake (wB w : World) (bc : Nat) (aoT : Option Addr) (capT : Nat) (tl : List Plc) (aoB : Option Addr) (capB : Nat) (bl : List Plc) (mp ms c0 : Nat) (ls : List Sit) (s : Cst) (a : Acn) (hk : a.kind = 13) (h : Cmp wB w bc (.slice aoT tl.length capT) (.slice aoB bl.length capB) mp ms s)
  (hm : MF kkP wB mp c0 (floorP ls)) (ht : RdR encP wB aoT tl) (hb : RdR encP wB aoB bl) (hwt : ∀ p ∈ tl, Wf3 p) (hwb : ∀ p ∈ bl, Wf3 p) (ha : AcOk tl s a) :
  Calls Tryz.prog 25 #[ptr bc, av a] w fun e w' => e = .returned (.int .i64 (stepC tl bl (ptQ ls) s a).2) ∧ Cmp wB w' bc (.slice aoT tl.length capT) (.slice aoB bl.length capB) mp ms (stepC tl bl (ptQ ls) s a).1 := by
 have hb0 : bw w (w.alloc (aobj a)) := (brf).alloc (Nat.le_refl _) _;have HC0 : Hid (Cmp wB (w.alloc (aobj a)) bc (.slice aoT tl.length capT) (.slice aoB bl.length capB) mp ms s) := h.next hb0;have hfew : s.cs.length ≤ 1000000000 := by have := ha.few; omega
 have HW : Hid (∀ x, Bk x (encK.cells [cd 8 a.value]) ((w.alloc (aobj a)).alloc (.cells (cdl (cd 8 a.value)).toArray 49)) → Calls Tryz.prog 57 #[ptr bc, .slice (some ⟨x, 0, none⟩) 1 1] ((w.alloc (aobj a)).alloc (.cells (cdl (cd 8 a.value)).toArray 49)) fun e w2 => e = .returned (.tuple #[]) ∧ Cmp wB w2 bc (.slice aoT tl.length capT) (.slice aoB bl.length capB) mp ms ⟨s.cs ++ [cd 8 a.value], s.used, s.held⟩ ∧ w2.cell? ⟨w.heap.size, 7, none⟩ = some (.int .i64 a.time)) := fun x hx => (tell_keep wB _ bc _ _ mp ms s ⟨x, 0, none⟩ 1 [cd 8 a.value] (HC0.out.next ((brf).alloc (Nat.le_refl _) _)) (rdK_of hx) (by simp) hfew).mono fun e w2 ⟨q1, q2, q3⟩ => ⟨q1, q2, by
  have hbc : bc < w.heap.size := h.bk.choose_spec.choose_spec.choose_spec.1.1;have e1 : ((w.alloc (aobj a)).alloc (.cells (cdl (cd 8 a.value)).toArray 49)).heap[w.heap.size]? = some (aobj a) := (Below.heap_alloc _ _ _ (by simp)).trans (World.alloc_heap_new w _);have e2 := q3 w.heap.size (by simp; omega) (by omega) (fun cur f e => by rw [e1] at e; simp at e)
  exact (World.cell?_of_block (a := ⟨w.heap.size, 7, none⟩) (e2.trans e1 |>.trans (World.alloc_heap_new w (aobj a)).symm)).trans (by go_simp)⟩
 have HR : Hid (∀ W, Cmp wB W bc (.slice aoT tl.length capT) (.slice aoB bl.length capB) mp ms ⟨s.cs ++ [cd 8 a.value], s.used, s.held⟩ → Calls Tryz.prog 62 #[ptr bc, .int .i64 a.time] W fun e w2 => e = .returned (.tuple #[]) ∧ Cmp wB w2 bc (.slice aoT tl.length capT) (.slice aoB bl.length capB) mp ms ⟨(s.cs ++ [cd 8 a.value]) ++ restC a.time, s.used, s.held⟩) := fun W hW => rest_any wB W bc _ _ mp ms ⟨s.cs ++ [cd 8 a.value], s.used, s.held⟩ a.time hW (by have := ha.few; simp; omega)
 have HT : Hid (∀ W, Cmp wB W bc (.slice aoT tl.length capT) (.slice aoB bl.length capB) mp ms ⟨(s.cs ++ [cd 8 a.value]) ++ restC a.time, s.used, s.held⟩ → ∀ x, Bk x (encK.cells [cd 8 0]) W → Calls Tryz.prog 57 #[ptr bc, .slice (some ⟨x, 0, none⟩) 1 1] W fun e w2 => e = .returned (.tuple #[]) ∧ Cmp wB w2 bc (.slice aoT tl.length capT) (.slice aoB bl.length capB) mp ms ⟨(s.cs ++ [cd 8 a.value]) ++ restC a.time ++ [cd 8 0], s.used, s.held⟩) := fun W hW x hx => tell_any wB W bc _ _ mp ms ⟨(s.cs ++ [cd 8 a.value]) ++ restC a.time, s.used, s.held⟩ ⟨x, 0, none⟩ 1 [cd 8 0] hW (rdK_of hx) (by simp) (by have := ha.few; have : (restC a.time).length ≤ 1 := (by unfold restC; split <;> simp); simp; omega)
 have HS : Hid (stepC tl bl (ptQ ls) s a = (⟨s.cs ++ [cd 8 a.value] ++ restC a.time ++ [cd 8 0], s.used, s.held⟩, 0)) := by show _ = _; obtain ⟨ak, apl, al, avl, avv, atm⟩ := a; simp only at hk; subst hk; rfl
 clear h hm ht hb hwt hwb ha hb0 hfew;obtain ⟨ak, ⟨a1, a2, a3⟩, al, avl, avv, atm⟩ := a;simp only at hk;subst hk
 go_enter Tryz.func25, Tryz.ntmps25
 go_wp2_with fail
 refine Calls.mono (HW.out _ (Bk.new _ (encK.cells [cd 8 avv]) 49 _ (by simp))) ?_;rintro e w2 ⟨rfl, hc, q7⟩;have H2 : Hid _ := hc;clear hc HW
 go_wp2_with fail
 refine Calls.mono (HR.out _ H2.out) ?_;rintro e w3 ⟨rfl, hc⟩;have H3 : Hid _ := hc;clear hc HR q7 H2
 go_wp2_with fail
 refine Calls.mono (HT.out _ (H3.out.next ((brf).alloc (Nat.le_refl _) _)) _ (Bk.new _ (encK.cells [cd 8 0]) 49 _ rfl)) ?_;rintro e w4 ⟨rfl, hc⟩;have H4 : Hid _ := hc;clear hc HT H3;go_wp2;go_ret;rw [HS.out];exact ⟨rfl, H4.out⟩
theorem compile_none (wB w : World) (bc : Nat) (aoT : Option Addr) (capT : Nat) (tl : List Plc) (aoB : Option Addr) (capB : Nat) (bl : List Plc) (mp ms c0 : Nat) (ls : List Sit) (s : Cst) (a : Acn) (hk : a.kind ≠ 5 ∧ a.kind ≠ 6 ∧ a.kind ≠ 7 ∧ a.kind ≠ 8 ∧ a.kind ≠ 9 ∧ a.kind ≠ 11 ∧ a.kind ≠ 12 ∧ a.kind ≠ 13 ∧ a.kind ≠ 14) (h : Cmp wB w bc (.slice aoT tl.length capT) (.slice aoB bl.length capB) mp ms s)
  (hm : MF kkP wB mp c0 (floorP ls)) (ht : RdR encP wB aoT tl) (hb : RdR encP wB aoB bl) (hwt : ∀ p ∈ tl, Wf3 p) (hwb : ∀ p ∈ bl, Wf3 p) (ha : AcOk tl s a) :
  Calls Tryz.prog 25 #[ptr bc, av a] w fun e w' => e = .returned (.int .i64 (stepC tl bl (ptQ ls) s a).2) ∧ Cmp wB w' bc (.slice aoT tl.length capT) (.slice aoB bl.length capB) mp ms (stepC tl bl (ptQ ls) s a).1 := by
 have hb0 : bw w (w.alloc (aobj a)) := (brf).alloc (Nat.le_refl _) _;have HC0 : Hid (Cmp wB (w.alloc (aobj a)) bc (.slice aoT tl.length capT) (.slice aoB bl.length capB) mp ms s) := h.next hb0;have hfew : s.cs.length ≤ 1000000000 := by have := ha.few; omega
 obtain ⟨k1, k2, k3, k4, k5, k6, k7, k8, k9⟩ := hk;have HS : Hid (stepC tl bl (ptQ ls) s a = (s, 0)) := by show _ = _; unfold stepC; simp [k2, k3, k4, k5, k6, k7, k8, k9]
 have e5 : (a.kind == 5) = false := by simpa using k1
 have e6 : (a.kind == 6) = false := by simpa using k2
 have e7 : (a.kind == 7) = false := by simpa using k3
 have e8 : (a.kind == 8) = false := by simpa using k4
 have e9 : (a.kind == 9) = false := by simpa using k5
 have e11 : (a.kind == 11) = false := by simpa using k6
 have e12 : (a.kind == 12) = false := by simpa using k7
 have e13 : (a.kind == 13) = false := by simpa using k8
 have e14 : (a.kind == 14) = false := by simpa using k9
 clear h hm ht hb hwt hwb ha hb0 hfew k1 k2 k3 k4 k5 k6 k7 k8 k9;obtain ⟨ak, ⟨a1, a2, a3⟩, al, avl, avv, atm⟩ := a;simp only at *
 go_enter Tryz.func25, Tryz.ntmps25
 go_wp2;go_ret;rw [HS.out];exact ⟨rfl, HC0.out⟩
theorem compile_any (wB w : World) (bc : Nat) (aoT : Option Addr) (capT : Nat) (tl : List Plc) (aoB : Option Addr) (capB : Nat) (bl : List Plc) (mp ms c0 : Nat) (ls : List Sit) (s : Cst) (a : Acn) (h : Cmp wB w bc (.slice aoT tl.length capT) (.slice aoB bl.length capB) mp ms s)
  (hm : MF kkP wB mp c0 (floorP ls)) (ht : RdR encP wB aoT tl) (hb : RdR encP wB aoB bl) (hwt : ∀ p ∈ tl, Wf3 p) (hwb : ∀ p ∈ bl, Wf3 p) (ha : AcOk tl s a) :
  Calls Tryz.prog 25 #[ptr bc, av a] w fun e w' => e = .returned (.int .i64 (stepC tl bl (ptQ ls) s a).2) ∧ Cmp wB w' bc (.slice aoT tl.length capT) (.slice aoB bl.length capB) mp ms (stepC tl bl (ptQ ls) s a).1 := by
 by_cases k5 : a.kind = 5
 ·exact compile_fill wB w bc aoT capT tl aoB capB bl mp ms c0 ls s a k5 h hm ht hb hwt hwb ha
 by_cases k6 : a.kind = 6
 ·exact compile_tip wB w bc aoT capT tl aoB capB bl mp ms c0 ls s a k6 h hm ht hb hwt hwb ha
 by_cases k7 : a.kind = 7
 ·by_cases hbl : bl = []
  ·exact compile_drop0 wB w bc aoT capT tl aoB capB bl mp ms c0 ls s a ⟨k7, hbl⟩ h hm ht hb hwt hwb ha
  ·exact compile_drop1 wB w bc aoT capT tl aoB capB bl mp ms c0 ls s a ⟨k7, hbl⟩ h hm ht hb hwt hwb ha
 by_cases k8 : a.kind = 8
 ·exact compile_draw wB w bc aoT capT tl aoB capB bl mp ms c0 ls s a k8 h hm ht hb hwt hwb ha
 by_cases k9 : a.kind = 9
 ·exact compile_put wB w bc aoT capT tl aoB capB bl mp ms c0 ls s a k9 h hm ht hb hwt hwb ha
 by_cases k11 : a.kind = 11
 ·exact compile_warm wB w bc aoT capT tl aoB capB bl mp ms c0 ls s a k11 h hm ht hb hwt hwb ha
 by_cases k12 : a.kind = 12
 ·exact compile_hold wB w bc aoT capT tl aoB capB bl mp ms c0 ls s a k12 h hm ht hb hwt hwb ha
 by_cases k13 : a.kind = 13
 ·exact compile_shake wB w bc aoT capT tl aoB capB bl mp ms c0 ls s a k13 h hm ht hb hwt hwb ha
 by_cases k14 : a.kind = 14
 ·exact compile_wait wB w bc aoT capT tl aoB capB bl mp ms c0 ls s a k14 h hm ht hb hwt hwb ha
 exact compile_none wB w bc aoT capT tl aoB capB bl mp ms c0 ls s a ⟨k5, k6, k7, k8, k9, k11, k12, k13, k14⟩ h hm ht hb hwt hwb ha
theorem newCompiler_any (w : World) (aoT : Option Addr) (nT capT : Nat) (aoB : Option Addr) (nB capB mp ms : Nat) :
  Calls Tryz.prog 24 #[flv (.slice aoT nT capT) (.slice aoB nB capB) mp ms] w fun e w' => ∃ bc, e = .returned (ptr bc) ∧ Cmp w w' bc (.slice aoT nT capT) (.slice aoB nB capB) mp ms cst0 := by
 obtain ⟨w2, hw2⟩ : ∃ w2, w2 = (w.alloc (.cells #[.slice aoT nT capT, .slice aoB nB capB, .map (some mp), .map (some ms)] 66)).alloc (.cells #[.slice aoT nT capT, .slice aoB nB capB, .map (some mp), .map (some ms), .slice none 0 0, .int .i64 0, .int .i64 0] 80) := ⟨_, rfl⟩;have hb2 : bw w w2 := by rw [hw2]; exact ((brf).alloc (Nat.le_refl _) _).alloc (by simp) _
 have KB : Hid (Bk (w.heap.size + 1) (cmc (.slice aoT nT capT) (.slice aoB nB capB) (.slice none 0 0) mp ms 0 0) w2) := by show Bk _ _ _; rw [hw2]; exact Bk.new _ (cmc (.slice aoT nT capT) (.slice aoB nB capB) (.slice none 0 0) mp ms 0 0) 80 (w.heap.size + 1) (by simp)
 have HC : Hid (Cmp w w2 (w.heap.size + 1) (.slice aoT nT capT) (.slice aoB nB capB) mp ms ⟨[], 0, 0⟩) := ⟨hb2, Nat.le_succ _, none, 0, 0, KB.out, OwnR.nil _ _ _⟩;have HW2 := hdd hw2;have HT : Hid (∀ W, bw w2 W → ∀ x, Bk x (encK.cells [cd 1 0, goC ⟨0, 0, 200000⟩]) W → Calls Tryz.prog 57 #[ptr (w.heap.size + 1), .slice (some ⟨x, 0, none⟩) 2 2] W fun e w' => e = .returned (.tuple #[]) ∧ Cmp w w' (w.heap.size + 1) (.slice aoT nT capT) (.slice aoB nB capB) mp ms cst0) := fun W hW x hx => tell_any w W (w.heap.size + 1) _ _ mp ms ⟨[], 0, 0⟩ ⟨x, 0, none⟩ 2 [cd 1 0, goC ⟨0, 0, 200000⟩] (HC.out.next hW) (rdK_of hx) (by simp) (by simp);clear hb2 hw2
 go_enter Tryz.func24, Tryz.ntmps24
 go_wp2_with fail
 rw [← HW2.out];refine Calls.mono (goTo_any ⟨0, 0, 200000⟩ w2) ?_;rintro e w3 ⟨rfl, hb3⟩;have HB3 : Hid _ := hb3;clear hb3 HW2
 go_wp2_with fail
 refine Calls.mono (HT.out _ (HB3.out.trans (((brf).alloc (Nat.le_refl _) _).mono HB3.out.size)) _ (Bk.new w3 (encK.cells [cd 1 0, goC ⟨0, 0, 200000⟩]) 49 _ rfl)) ?_;rintro e w4 ⟨rfl, hc⟩;have H4 : Hid _ := hc;clear hc HT;go_wp2;go_ret;exact ⟨_, rfl, H4.out⟩
structure CI (l : List Sit) (acs : List Acn) (k : Nat) (s : Cst) : Prop where
 used : (s.used : Int) = (staA l acs k).used
 held : -(1000000000 * (k : Int)) ≤ s.held ∧ s.held ≤ 1000000000 * (k : Int)
 few : s.cs.length ≤ 2 + 4 * k
 le : s.used ≤ k
theorem CI.start (l : List Sit) (acs : List Acn) : CI l acs 0 cst0 := ⟨rfl, by simp [cst0], by simp [cst0], by simp [cst0]⟩
theorem work_len (p : S.Pt) (c : Cd) : (workC p c).length = 4 := rfl
theorem rest_len (t : Int) : (restC t).length ≤ 1 := by unfold restC; split <;> simp
theorem CI.step {l : List Sit} {acs : List Acn} {k : Nat} {s : Cst} {ts bins : List Plc} {pt : Plc → S.Pt} (h : CI l acs k s) (hk : k < acs.length) (hd : (doA l (staA l acs k) (acs[k]'hk)).2 = 0) : CI l acs (k + 1) (stepC ts bins pt s (acs[k]'hk)).1 := by
 obtain ⟨h1, ⟨h2, h3⟩, h4, h5⟩ := h;have hu := staA_succ (l := l) hk
 have hv : (acs[k]'hk).kind = 8 ∨ (acs[k]'hk).kind = 9 → 1 ≤ (acs[k]'hk).vol ∧ (acs[k]'hk).vol ≤ 1000000000 := fun e => by
  rcases e with e | e
  ·exact (vol_draw e hd).2
  ·exact (vol_put e hd).2
 generalize acs[k]'hk = a at *;have hrl := rest_len a.time
 by_cases k6 : a.kind = 6
 ·have := (used_tip k6 hd).2
  refine ⟨?_, ?_, ?_, ?_⟩
  ·rw [hu, this]; simp [stepC, k6]; exact h1
  ·simp only [stepC, if_pos k6]; omega
  ·simp only [stepC, if_pos k6, List.length_append, work_len]; omega
  ·simp only [stepC, if_pos k6]; omega
 ·have := used_same (l := l) (s := staA l acs k) k6
  refine ⟨?_, ?_, ?_, ?_⟩
  ·rw [hu, this, ← h1]
   unfold stepC;rw [if_neg k6]
   repeat' split
   all_goals rfl
  ·unfold stepC
   rw [if_neg k6]
   repeat' split
   all_goals first
    | (simp only; omega)
    | (have := hv (.inl (by assumption)); simp only; omega)
    | (have := hv (.inr (by assumption)); simp only; omega)
  ·unfold stepC
   rw [if_neg k6]
   repeat' split
   all_goals (simp only [List.length_append, work_len, List.length_cons, List.length_nil]; omega)
  ·unfold stepC
   rw [if_neg k6]
   repeat' split
   all_goals (simp only; omega)
theorem rd_own {α : Type} {c : Enc α} (hg : Good c) {w : World} {B : Nat} {ao : Option Addr} {n cap : Nat} {xs : List α} (h : OwnR c w B (.slice ao n cap) xs) : RdR c w ao xs := by
 rcases h.read hg with ⟨e, _⟩ | ⟨g, cap', e, _, _, hlt, hc⟩
 ·exact .inl e
 ·injection e with e1 e2 e3
  exact .inr ⟨g, 0, e1, hlt, fun k hk j hj => by rw [Nat.zero_add]; exact hc k hk j hj⟩
def compR (l ls : List Sit) (acs : List Acn) : List Cd × Nat × Int :=
 if dchk l ≠ 0 then ([], 0, dchk l) else if (runR l acs).2.2 ≠ 0 then ([], (runR l acs).2.1, (runR l acs).2.2) else
  if (compL (tipsL l) (floorB ls) (ptQ ls) cst0 0 acs).2.2 = 0 then ((compL (tipsL l) (floorB ls) (ptQ ls) cst0 0 acs).1.cs, 0, 0) else ([], (compL (tipsL l) (floorB ls) (ptQ ls) cst0 0 acs).2.1, (compL (tipsL l) (floorB ls) (ptQ ls) cst0 0 acs).2.2)
theorem compile_err1 (ao : Option Addr) (cap : Nat) (l : List Sit) (aoA : Option Addr) (capA : Nat) (acs : List Acn) (w : World) (hD : Dk w ao cap l) (hl : l.length ≤ 9223372036854775807) (hd : dchk l ≠ 0) :
  CR 6 #[.slice ao l.length cap, .slice aoA acs.length capA] w (.tuple #[.slice none 0 0, .int .i64 0, .int .i64 (dchk l)]) := by
 have HC := hid (newFloor_err ao cap l w hD hl hd);have hne : (dchk l != 0) = true := by simp [hd]
 clear hD hl hd;generalize dchk l = d at *
 go_enter Tryz.func6, Tryz.ntmps6
 go_wp2_with fail
 refine Calls.mono HC.out ?_;rintro e w1 ⟨rfl, hb⟩;have HB : Hid _ := hb;clear hb HC;go_wp2;refine bodyPost_ret (v := .tuple #[.slice none 0 0, .int .i64 0, .int .i64 d]) (by simp [results, Tryz.results6, go_sem]) rfl ⟨rfl, HB.out.alloc HB.out.size _⟩
theorem compile_err2 (ao : Option Addr) (cap : Nat) (l : List Sit) (aoA : Option Addr) (capA : Nat) (acs : List Acn) (w : World) (hD : Dk w ao cap l) (hA : Acs w aoA acs) (hla : acs.length ≤ 10000000) (hd : dchk l = 0) (hr : (runR l acs).2.2 ≠ 0) :
  CR 6 #[.slice ao l.length cap, .slice aoA acs.length capA] w (.tuple #[.slice none 0 0, .int .i64 ((runR l acs).2.1 : Int), .int .i64 (runR l acs).2.2]) := by
 have HC := hid (newFloor_ok ao cap l w hD hd)
 have HR : Hid (∀ W, bw w W → Calls Tryz.prog 23 #[.slice ao l.length cap, .slice aoA acs.length capA] W fun e w' => ∃ t : Sm, e = .returned (.tuple #[smv t, .int .i64 ((runR l acs).2.1 : Int), .int .i64 (runR l acs).2.2]) ∧ bw W w') := fun W hW =>
  (run_any ao cap l aoA capA acs W (hD.next hW) (by have := dk_len hd; omega) (hA.next hW) (by omega)).mono fun e w' ⟨t, h1, _, _, _, h5⟩ => ⟨t, h1, h5⟩
 have hne : ((runR l acs).2.2 != 0) = true := by simp [hr]
 clear hD hA hd hr;generalize (runR l acs).2.2 = d at *;generalize (runR l acs).2.1 = m at *
 go_enter Tryz.func6, Tryz.ntmps6
 go_wp2_with fail
 refine Calls.mono HC.out ?_;rintro e w1 ⟨ls, v, rfl, hf⟩;obtain ⟨hp, hpw, hb, aoT, capT, aoB, capB, mp, ms, c, hv, _, _, _, _, _, _⟩ := hf;subst hv;have HB : Hid (bw w (w1.alloc (.cells #[.slice aoT (tipsL l).length capT, .slice aoB (floorB ls).length capB, .map (some mp), .map (some ms)] 66))) := hb.alloc hb.size _;clear hb HC hp hpw;generalize (tipsL l).length = nT at *;generalize (floorB ls).length = nB at *
 go_wp2_with fail
 refine Calls.mono (HR.out _ HB.out) ?_;rintro e w2 ⟨t, rfl, hb2⟩;have HB2 := hdd (HB.out.trans (hb2.mono HB.out.size));clear hb2 HR HB;go_wp2;refine bodyPost_ret (v := .tuple #[.slice none 0 0, .int .i64 (m : Int), .int .i64 d]) (by simp [results, Tryz.results6, go_sem]) rfl ⟨rfl, HB2.out.alloc HB2.out.size _⟩
theorem compile_ok (ao : Option Addr) (cap : Nat) (l : List Sit) (aoA : Option Addr) (capA : Nat) (acs : List Acn) (w : World) (hD : Dk w ao cap l) (hA : Acs w aoA acs) (hla : acs.length ≤ 10000000) (hd : dchk l = 0) (hr : (runR l acs).2.2 = 0) :
  Calls Tryz.prog 6 #[.slice ao l.length cap, .slice aoA acs.length capA] w fun e w' => ∃ ls aoC nC capC, ls.Perm l ∧ (ls.Pairwise fun x y => x.slot ≤ y.slot) ∧ e = .returned (.tuple #[.slice aoC nC capC, .int .i64 ((compR l ls acs).2.1 : Int), .int .i64 (compR l ls acs).2.2]) ∧ OwnR encK w' w.heap.size (.slice aoC nC capC) (compR l ls acs).1 ∧ bw w w' := by
 have HC := hid (newFloor_ok ao cap l w hD hd)
 have HR : Hid (∀ W, bw w W → Calls Tryz.prog 23 #[.slice ao l.length cap, .slice aoA acs.length capA] W fun e w' => ∃ t : Sm, e = .returned (.tuple #[smv t, .int .i64 ((runR l acs).2.1 : Int), .int .i64 0]) ∧ bw W w') := fun W hW =>
  (run_any ao cap l aoA capA acs W (hD.next hW) (by have := dk_len hd; omega) (hA.next hW) (by omega)).mono fun e w' ⟨t, h1, _, _, _, h5⟩ => ⟨t, by rw [h1, hr], h5⟩
 have HOK : Hid (∀ j (hj : j < acs.length), (doA l (staA l acs j) (acs[j]'hj)).2 = 0) := run_ok hd hr;have HSS : Hid (∀ s ∈ l, StOk s) := st_ok hd hD.ok;have HDC := hdd hd;have HA := hdd hA
 have HCR : Hid (∀ ls, compR l ls acs = if (compL (tipsL l) (floorB ls) (ptQ ls) cst0 0 acs).2.2 = 0 then ((compL (tipsL l) (floorB ls) (ptQ ls) cst0 0 acs).1.cs, 0, 0) else ([], (compL (tipsL l) (floorB ls) (ptQ ls) cst0 0 acs).2.1, (compL (tipsL l) (floorB ls) (ptQ ls) cst0 0 acs).2.2)) := fun ls => by
  unfold compR;rw [if_neg (by rw [hd]; simp), if_neg (by rw [hr]; simp)]
 clear hD hA hd hr;generalize (runR l acs).2.1 = m at *
 go_enter Tryz.func6, Tryz.ntmps6
 go_wp2_with fail
 refine Calls.mono HC.out ?_;rintro e w1 ⟨ls, v, rfl, hf⟩;obtain ⟨hp, hpw, hb, aoT, capT, aoB, capB, mp, ms, c, hv, hoT, hoB, hmf, hmg, _, _⟩ := hf;subst hv;have HP := hdd hp;have HPW := hdd hpw;have HLS : Hid (∀ s ∈ ls, StOk s) := fun s hs => HSS.out s (hp.subset hs);have HB1 := hdd hb;have HT1 := hdd hoT;have HO1 := hdd hoB;have HM1 := hdd hmf;have HTW : Hid (∀ p ∈ tipsL l, Wf3 p) := tips_wf HSS.out;have HBW : Hid (∀ p ∈ floorB ls, Wf3 p) := floorB_wf HLS.out;have HCR2 := hid (HCR.out ls);have hb2 : bw w1 (w1.alloc (.cells #[.slice aoT (tipsL l).length capT, .slice aoB (floorB ls).length capB, .map (some mp), .map (some ms)] 66)) := (brf).alloc (Nat.le_refl _) _;have HB2 := hdd hb2
 have HCI : Hid (∀ k s, CI l acs k s → ∀ hk : k < acs.length, AcOk (tipsL l) s (acs[k]'hk)) := by
  intro k s hci hk;have hdo := HOK.out k hk;have hh := hci.held;have hf := hci.few;have hu := hci.used;refine ⟨fun e => ?_, fun e => ?_, ?_, ?_, by omega⟩
  ·have := (used_tip e hdo).1
   omega
  ·rcases e with e | e
   ·exact ⟨wf_place HDC.out (vol_draw e hdo).1, (vol_draw e hdo).2⟩
   ·exact ⟨wf_place HDC.out (vol_put e hdo).1, (vol_put e hdo).2⟩
  ·omega
  ·have := hci.le
   omega
 have KF2 : Hid (Bk w1.heap.size (flc (.slice aoT (tipsL l).length capT) (.slice aoB (floorB ls).length capB) mp ms) (w1.alloc (.cells #[.slice aoT (tipsL l).length capT, .slice aoB (floorB ls).length capB, .map (some mp), .map (some ms)] 66))) := Bk.new w1 (flc (.slice aoT (tipsL l).length capT) (.slice aoB (floorB ls).length capB) mp ms) 66 _ rfl;have HTL : Hid (tipsL l = tipsL l) := rfl;clear hp hpw hb hoT hoB hmf hmg hb2 HC HCR HSS;generalize tipsL l = tl at *;generalize floorB ls = bl at *
 go_wp2_with fail
 refine Calls.mono (HR.out _ (HB1.out.trans (HB2.out.mono HB1.out.size))) ?_;rintro e w3 ⟨t, rfl, hb3⟩;have HB13 := hdd (HB2.out.trans (hb3.mono HB2.out.size));have KF3 := hdd (KF2.out.later hb3);clear hb3 HR KF2 HB2;obtain ⟨w4, hw4⟩ : ∃ w4, w4 = w3.alloc (smo t) := ⟨_, rfl⟩;have hb34 : bw w3 w4 := by rw [hw4]; exact (brf).alloc (Nat.le_refl _) _
 have HB14 := hdd (HB13.out.trans (hb34.mono HB13.out.size));have KF4 := KF3.out.later hb34;have r0 := KF4.c 0 rfl;have r1 := KF4.c 1 rfl;have r2 := KF4.c 2 rfl;have r3 := KF4.c 3 rfl;have HW4 := hdd hw4;rw [hw4] at r0 r1 r2 r3;clear hw4 hb34 KF3 KF4
 go_wp2_with fail
 rw [← HW4.out];refine Calls.mono (newCompiler_any w4 aoT tl.length capT aoB bl.length capB mp ms) ?_;rintro e w5 ⟨bc, rfl, hc5⟩;have HC5 := hdd hc5;have HT4 : Hid (RdR encP w4 aoT tl) := (rd_own goodP HT1.out).next goodP HB14.out;have HO4 : Hid (RdR encP w4 aoB bl) := (rd_own goodP HO1.out).next goodP HB14.out;have HM4 := hdd (HM1.out.next HB14.out);have HA4 := hdd (HA.out.next (HB1.out.trans (HB14.out.mono HB1.out.size)));have HBw4 := hdd (HB1.out.trans (HB14.out.mono HB1.out.size));clear hc5 r0 r1 r2 r3
 go_wp2_with fail
 go_loopw [39] (fun i wr => ∃ (k : Nat) (s : Cst), k ≤ acs.length ∧ i = .int .i64 (k : Int) ∧ Cmp w4 wr bc (.slice aoT tl.length capT) (.slice aoB bl.length capB) mp ms s ∧ CI l acs k s ∧ compL tl bl (ptQ ls) cst0 0 acs = compL tl bl (ptQ ls) s k (acs.drop k)) (fun i _ => acs.length - (intOf i).toNat)
 case atStart => exact ⟨0, cst0, Nat.zero_le _, rfl, HC5.out, CI.start _ _, by simp⟩
 case round =>
  obtain ⟨k, s, hk, rfl, hcm, hci, hq⟩ := hrel;have HCM := hdd hcm;have HCIk := hdd hci;have HQ := hdd hq;clear hcm hci hq
  by_cases hlt : k < acs.length
  ·obtain ⟨g, off, hao, hcs⟩ := (HA4.out.next HCM.out.below).at hlt
   have HAC := hid (HCI.out k s HCIk.out hlt);have HST := hid (fun ts bins pt => HCIk.out.step (ts := ts) (bins := bins) (pt := pt) hlt (HOK.out k hlt));have HQ1 : Hid ((stepC tl bl (ptQ ls) s (acs[k]'hlt)).2 = 0 → compL tl bl (ptQ ls) cst0 0 acs = compL tl bl (ptQ ls) (stepC tl bl (ptQ ls) s (acs[k]'hlt)).1 (k + 1) (acs.drop (k + 1))) := fun h => HQ.out.trans (compL_step hlt h);have HQ2 : Hid ((stepC tl bl (ptQ ls) s (acs[k]'hlt)).2 ≠ 0 → compL tl bl (ptQ ls) cst0 0 acs = (s, k, (stepC tl bl (ptQ ls) s (acs[k]'hlt)).2)) := fun h => HQ.out.trans (compL_stop hlt h);generalize acs[k]'hlt = a at *;subst hao;have c0 := hcs 0 (by decide);have c1 := hcs 1 (by decide);have c2 := hcs 2 (by decide);have c3 := hcs 3 (by decide);have c4 := hcs 4 (by decide);have c5 := hcs 5 (by decide);have c6 := hcs 6 (by decide);have c7 := hcs 7 (by decide);simp only [acl, List.getElem?_cons_zero, List.getElem?_cons_succ, Nat.add_zero] at c0 c1 c2 c3 c4 c5 c6 c7;have hki : (k : Int) < (acs.length : Int) := by omega
   have hb6 : bw wr (wr.alloc (aobj a)) := (brf).alloc (Nat.le_refl _) _;have HCA := hid (compile_any w4 (wr.alloc (aobj a)) bc aoT capT tl aoB capB bl mp ms c ls s a (HCM.out.next hb6) HM4.out HT4.out HO4.out HTW.out HBW.out HAC.out);clear hcs hb6
   go_wp2_with fail
   refine Calls.mono HCA.out ?_;rintro e w6 ⟨rfl, hc6⟩;obtain ⟨⟨s', e1⟩, hsq⟩ : ∃ x, stepC tl bl (ptQ ls) s a = x := ⟨_, rfl⟩;rw [hsq] at hc6 HQ1 HQ2;have HST1 : Hid (CI l acs (k + 1) s') := by have := HST.out tl bl (ptQ ls); rw [hsq] at this; exact this
   rw [hsq];simp only at hc6 HQ1 HQ2;have HC6 := hdd hc6;clear hc6 hsq c0 c1 c2 c3 c4 c5 c6 c7 HCA HST;simp only
   by_cases he : e1 = 0
   ·subst he
    have HQ3 := hid (HQ1.out rfl);clear HQ1 HQ2;go_wp2
    go_roundw
    case rel => exact ⟨k + 1, s', by omega, by go_num, HC6.out, HST1.out, HQ3.out⟩
    case measure => simp [intOf]; omega
   ·have h3 : (e1 != 0) = true := by simp [he]
    have HQ3 := hid (HQ2.out he);have HCRE : Hid (compR l ls acs = ([], k, e1)) := by show _ = _; rw [HCR2.out, HQ3.out]; exact if_neg he
    clear HQ1 HQ2 he;go_wp2;refine bodyPost_ret (v := .tuple #[.slice none 0 0, .int .i64 (k : Int), .int .i64 e1]) (by simp [results, Tryz.results6, go_sem]) rfl ⟨ls, none, 0, 0, HP.out, HPW.out, by rw [HCRE.out], by rw [HCRE.out]; exact OwnR.nil _ _ _, ?_⟩;exact HBw4.out.trans (HC6.out.below.mono HBw4.out.size)
  ·have HE : Hid (k = acs.length) := by show _ = _; omega
   have HQ3 := hdd (HQ.out.trans (compL_done (by omega)));have HCRE : Hid (compR l ls acs = (s.cs, 0, 0)) := by show _ = _; rw [HCR2.out, HQ3.out]; exact if_pos rfl
   obtain ⟨h1, h2, aoC, nC, capC, h3, h4⟩ := HCM.out;have q4 := h3.c 4 rfl;have HO9 : Hid (OwnR encK wr w.heap.size (.slice aoC nC capC) s.cs) := h4.base (by have := HBw4.out.size; omega);have HB9 := hdd (HBw4.out.trans (h1.mono HBw4.out.size));clear h1 h2 h3 h4;go_wp2;refine bodyPost_ret (v := .tuple #[.slice aoC nC capC, .int .i64 0, .int .i64 0]) (by simp [results, Tryz.results6, go_sem]) rfl ⟨ls, aoC, nC, capC, HP.out, HPW.out, by rw [HCRE.out]; rfl, by rw [HCRE.out]; exact HO9.out, HB9.out⟩
theorem fold_set {κ : Type} [DecidableEq κ] {k : κ} {v : Value} : ∀ (L : List (κ × Value)) (g : κ → Option Value), (∀ x ∈ L, x.1 = k → x.2 = v) → (g k = some v ∨ ∃ x ∈ L, x.1 = k) → L.foldl (fun g x => setF g x.1 x.2) g k = some v
 | [], g, _, h => by
  rcases h with h | ⟨x, hx, _⟩
  ·exact h
  ·cases hx
 | x :: r, g, hc, h => by
  rw [List.foldl_cons];refine fold_set r _ (fun y hy => hc y (List.mem_cons_of_mem _ hy)) ?_
  by_cases e : x.1 = k
  ·refine .inl ?_
   unfold setF;rw [if_pos e.symm, hc x (List.mem_cons_self) e]
  ·rcases h with h | ⟨y, hy, e2⟩
   ·refine .inl ?_
    unfold setF;rw [if_neg (fun e3 => e e3.symm)];exact h
   ·rcases List.mem_cons.1 hy with rfl | hy
    ·exact absurd e2 e
    ·exact .inr ⟨y, hy, e2⟩
def pairsS (s : Sit) : List (Std × Value) := (spotsOf s).map fun p => (stdOf s.ware.kind (spotPt s p), plv (spotP s.slot p))
def pairsP (s : Sit) : List (Plc × Value) := (spotsOf s).map fun p => (spotP s.slot p, pvv (spotPt s p))
theorem floorS_pairs : ∀ (ls : List Sit) (g : Std → Option Value), ls.foldl (fun g s => flrS s (spotsOf s) g) g = (ls.flatMap pairsS).foldl (fun g x => setF g x.1 x.2) g
 | [], g => rfl
 | s :: r, g => by
  rw [List.foldl_cons, List.flatMap_cons, List.foldl_append, floorS_pairs r];unfold flrS pairsS;rw [List.foldl_map]
theorem floorP_pairs : ∀ (ls : List Sit) (g : Plc → Option Value), ls.foldl (fun g s => flrP s (spotsOf s) g) g = (ls.flatMap pairsP).foldl (fun g x => setF g x.1 x.2) g
 | [], g => rfl
 | s :: r, g => by
  rw [List.foldl_cons, List.flatMap_cons, List.foldl_append, floorP_pairs r];unfold flrP pairsP;rw [List.foldl_map]
theorem slots_one {l : List Sit} (hd : dchk l = 0) {s t : Sit} (hs : s ∈ l) (ht : t ∈ l) (e : s.slot = t.slot) : s = t := by
 have h1 := seatOf_self (slots_of hd) hs;have h2 := seatOf_self (slots_of hd) ht;rw [e, h2] at h1;injection h1 with h1;exact h1.symm
theorem spot_rng {s : Sit} (h : StOk s) {x : Nat × Nat} (hx : x ∈ spotsOf s) : (0 ≤ s.ware.x + (x.2 : Int) * s.ware.pitch ∧ s.ware.x + (x.2 : Int) * s.ware.pitch ≤ 132500) ∧ (0 ≤ s.ware.y + (x.1 : Int) * s.ware.pitch ∧ s.ware.y + (x.1 : Int) * s.ware.pitch ≤ 90500) := by
 obtain ⟨R, C, hR, hC, h1, h2, _, _⟩ := spotsOf_in h hx;have hin := chk_inR h.chk;have hro := (chk_in h.chk).2.2.2.2.2;simp only [roomOk, Bool.and_eq_true, decide_eq_true_eq] at hro;have q1 : (x.2 : Int) * s.ware.pitch ≤ (s.ware.cols - 1) * s.ware.pitch := Int.mul_le_mul_of_nonneg_right (by omega) hin.p0;have q2 : (x.1 : Int) * s.ware.pitch ≤ (s.ware.rows - 1) * s.ware.pitch := Int.mul_le_mul_of_nonneg_right (by omega) hin.p0;have q3 : 0 ≤ (x.2 : Int) * s.ware.pitch := Int.mul_nonneg (by omega) hin.p0;have q4 : 0 ≤ (x.1 : Int) * s.ware.pitch := Int.mul_nonneg (by omega) hin.p0;have h7 := h.size;have x0 := hin.x0;have y0 := hin.y0;omega
theorem pts_apart {l : List Sit} (hd : dchk l = 0) (hst : ∀ s ∈ l, StOk s) {s t : Sit} (hs : s ∈ l) (ht : t ∈ l) {x y : Nat × Nat} (hx : x ∈ spotsOf s) (hy : y ∈ spotsOf t) (e : spotPt s x = spotPt t y) : s = t ∧ x = y := by
 have a1 := spot_rng (hst s hs) hx;have a2 := spot_rng (hst t ht) hy;have b1 := (hst s hs).slot;have b2 := (hst t ht).slot;have ex : cx s.slot + (s.ware.x + (x.2 : Int) * s.ware.pitch) = cx t.slot + (t.ware.x + (y.2 : Int) * t.ware.pitch) := congrArg S.Pt.x e;have ey : cy s.slot + (s.ware.y + (x.1 : Int) * s.ware.pitch) = cy t.slot + (t.ware.y + (y.1 : Int) * t.ware.pitch) := congrArg S.Pt.y e
 have hst2 : s = t := by
  refine slots_one hd hs ht ?_;generalize s.ware.x + (x.2 : Int) * s.ware.pitch = A at *;generalize t.ware.x + (y.2 : Int) * t.ware.pitch = B at *;generalize s.ware.y + (x.1 : Int) * s.ware.pitch = C at *;generalize t.ware.y + (y.1 : Int) * t.ware.pitch = D at *;unfold cx at ex;unfold cy at ey;omega
 subst hst2;refine ⟨rfl, ?_⟩;obtain ⟨R, C, hR, hC, h1, h2, _, _⟩ := spotsOf_in (hst s hs) hx;obtain ⟨R2, C2, hR2, hC2, h3, h4, _, _⟩ := spotsOf_in (hst s hs) hy;have e1 : (x.2 : Int) * s.ware.pitch = (y.2 : Int) * s.ware.pitch := by omega
 have e2 : (x.1 : Int) * s.ware.pitch = (y.1 : Int) * s.ware.pitch := by omega
 have hrg := (chk_in (hst s hs).chk).2.2.2.2.1;simp only [rangeOk, List.all_cons, List.all_nil, Bool.and_true, Bool.and_eq_true, inR_iff] at hrg;have hp := hrg.1.2.1.1
 by_cases hm : 1 < s.ware.rows * s.ware.cols
 ·have hl : loP s.ware = 1 := if_pos hm
  have hne : s.ware.pitch ≠ 0 := by omega
  have f1 := Int.eq_of_mul_eq_mul_right hne e1;have f2 := Int.eq_of_mul_eq_mul_right hne e2;exact Prod.ext (by omega) (by omega)
 ·have hRC : (R : Int) * C ≤ 1 := by rw [← hR, ← hC]; omega
  have g1 : R ≤ 1 := by
   have : (R : Int) * 1 ≤ (R : Int) * C := Int.mul_le_mul_of_nonneg_left (by omega) (by omega);omega
  have g2 : C ≤ 1 := by
   have : 1 * (C : Int) ≤ (R : Int) * C := Int.mul_le_mul_of_nonneg_right (by omega) (by omega);omega
  exact Prod.ext (by omega) (by omega)
theorem floor_at {l ls : List Sit} (hd : dchk l = 0) (hst : ∀ s ∈ l, StOk s) (hp : ls.Perm l) {s : Sit} (hs : s ∈ l) {x : Nat × Nat} (hx : x ∈ spotsOf s) :
  ptQ ls (spotP s.slot x) = spotPt s x ∧ floorS ls (stdOf s.ware.kind (spotPt s x)) = some (plv (spotP s.slot x)) := by
 have hP : floorP ls (spotP s.slot x) = some (pvv (spotPt s x)) := by
  unfold floorP;rw [floorP_pairs];refine fold_set _ _ (fun y hy e => ?_) (.inr ⟨(spotP s.slot x, pvv (spotPt s x)), List.mem_flatMap.2 ⟨s, hp.symm.subset hs, List.mem_map.2 ⟨x, hx, rfl⟩⟩, rfl⟩);obtain ⟨t, ht, hy⟩ := List.mem_flatMap.1 hy;obtain ⟨z, hz, rfl⟩ := List.mem_map.1 hy;have e : spotP t.slot z = spotP s.slot x := e;have e0 : t.slot = s.slot := congrArg Prod.fst e;have := slots_one hd (hp.subset ht) hs e0;subst this;have e1 : (z.1 : Int) = x.1 := congrArg (fun q => q.2.1) e;have e2 : (z.2 : Int) = x.2 := congrArg (fun q => q.2.2) e;have : z = x := Prod.ext (by omega) (by omega);rw [this]
 refine ⟨?_, ?_⟩
 ·rw [floorP_ofQ] at hP
  unfold ofQ at hP;unfold ptQ
  cases hq : floorQ ls (spotP s.slot x) with
  | none => rw [hq] at hP; cases hP
  | some q =>
   rw [hq] at hP;have h1 : pvv q = pvv (spotPt s x) := Option.some.inj hP;simp only [Value.agg.injEq, Array.mk.injEq, List.cons.injEq, Value.int.injEq, true_and, and_true] at h1;obtain ⟨qx, qy, qz⟩ := q;obtain ⟨a, b, c⟩ := h1;show S.Pt.mk qx qy qz = spotPt s x;rw [show qx = _ from a, show qy = _ from b, show qz = _ from c]
 ·unfold floorS
  rw [floorS_pairs];refine fold_set _ _ (fun y hy e => ?_) (.inr ⟨(stdOf s.ware.kind (spotPt s x), plv (spotP s.slot x)), List.mem_flatMap.2 ⟨s, hp.symm.subset hs, List.mem_map.2 ⟨x, hx, rfl⟩⟩, rfl⟩);obtain ⟨t, ht, hy⟩ := List.mem_flatMap.1 hy;obtain ⟨z, hz, rfl⟩ := List.mem_map.1 hy;have e : stdOf t.ware.kind (spotPt t z) = stdOf s.ware.kind (spotPt s x) := e
  have e3 : spotPt t z = spotPt s x := by
   have i1 : (spotPt t z).x = (spotPt s x).x := congrArg (fun q => q.2.1) e;have i2 : (spotPt t z).y = (spotPt s x).y := congrArg (fun q => q.2.2.1) e;have i3 : (spotPt t z).z = (spotPt s x).z := congrArg (fun q => q.2.2.2) e;generalize spotPt t z = u at *;generalize spotPt s x = v at *;obtain ⟨_, _, _⟩ := u;obtain ⟨_, _, _⟩ := v;simp only at i1 i2 i3;rw [i1, i2, i3]
  obtain ⟨rfl, rfl⟩ := pts_apart hd hst (hp.subset ht) hs hz hx e3
  rfl
theorem spot_mem {s : Sit} (h : StOk s) {r c : Int} (ho : spotOk r c s.ware.rows s.ware.cols = true) : ∃ x ∈ spotsOf s, r = (x.1 : Int) ∧ c = (x.2 : Int) := by
 have a1 := inR_iff.1 (chk_in h.chk).2.2.1;have a2 := inR_iff.1 (chk_in h.chk).2.2.2.1;have h1 := spotOk_iff.1 ho;obtain ⟨R, hR⟩ : ∃ R : Nat, s.ware.rows = R := ⟨s.ware.rows.toNat, by omega⟩;obtain ⟨C, hC⟩ : ∃ C : Nat, s.ware.cols = C := ⟨s.ware.cols.toNat, by omega⟩;obtain ⟨i, rfl⟩ : ∃ i : Nat, r = i := ⟨r.toNat, by omega⟩;obtain ⟨j, rfl⟩ : ∃ j : Nat, c = j := ⟨c.toNat, by omega⟩;refine ⟨(i, j), ?_, rfl, rfl⟩;have e : spotsOf s = spots R (C * R) := by unfold spotsOf; rw [hR, hC]; rfl
 rw [e];have hi : i < R := by omega
 have hj : j < C := by omega
 refine List.mem_map.2 ⟨j * R + i, List.mem_range.2 ?_, ?_⟩
 ·have : (j + 1) * R ≤ C * R := Nat.mul_le_mul_right _ hj
  rw [Nat.add_mul] at this;omega
 ·rw [Nat.mul_comm, Nat.mul_add_mod, Nat.mod_eq_of_lt hi, Nat.mul_add_div (by omega), Nat.div_eq_of_lt hi, Nat.add_zero]
def Wel (ls : List Sit) (k : Int) (p : Plc) : Prop := floorS ls (stdOf k (ptQ ls p)) = some (plv p)
theorem wel_ware {l ls : List Sit} (hd : dchk l = 0) (hst : ∀ s ∈ l, StOk s) (hp : ls.Perm l) {p : Plc} {a : Wr} (h : wareOf l p = some a) : Wel ls a.kind p := by
 obtain ⟨s, hs, h1, rfl, h2⟩ := wareOf_in h;obtain ⟨x, hx, e1, e2⟩ := spot_mem (hst s hs) h2
 have hpx : p = spotP s.slot x := by
  obtain ⟨a, b, c⟩ := p;simp only at h1 e1 e2;unfold spotP;rw [h1, e1, e2]
 have := floor_at hd hst hp hs hx;unfold Wel;rw [hpx, this.1, this.2]
theorem wel_well {l ls : List Sit} (hd : dchk l = 0) (hst : ∀ s ∈ l, StOk s) (hp : ls.Perm l) {p : Plc} (h : (wellM l p).2 = 0) : Wel ls 1 p := by
 unfold wellM at h
 split at h
 ·rename_i a ha
  split at h
  ·rename_i hk
   have := wel_ware hd hst hp ha;rw [hk] at this;exact this
  ·simp at h
 ·simp at h
theorem wel_tip {l ls : List Sit} (hd : dchk l = 0) (hst : ∀ s ∈ l, StOk s) (hp : ls.Perm l) {p : Plc} (h : p ∈ tipsL l) : Wel ls 2 p := by
 unfold tipsL at h;obtain ⟨k, hk, h⟩ := List.mem_flatMap.1 h;unfold rackIn at h
 split at h
 ·rename_i s hs
  split at h
  ·rename_i hk2
   obtain ⟨x, hx, rfl⟩ := List.mem_map.1 h;obtain ⟨hm, hsl⟩ := seatOf_in hs;have e : spots s.ware.rows.toNat (s.ware.rows.toNat * s.ware.cols.toNat) = spotsOf s := by unfold spotsOf; rw [Nat.mul_comm]
   rw [e] at hx;have := floor_at hd hst hp hm hx;unfold Wel;rw [← hsl, ← hk2];show floorS ls (stdOf s.ware.kind (ptQ ls (spotP s.slot x))) = some (plv (spotP s.slot x));rw [this.1, this.2]
  ·cases h
 ·cases h
theorem wel_bin {l ls : List Sit} (hd : dchk l = 0) (hst : ∀ s ∈ l, StOk s) (hp : ls.Perm l) {p : Plc} (h : p ∈ floorB ls) : Wel ls 3 p := by
 unfold floorB at h;obtain ⟨s, hs, h⟩ := List.mem_flatMap.1 h;unfold flrB at h
 split at h
 ·rename_i hk
  obtain ⟨x, hx, rfl⟩ := List.mem_map.1 h;have := floor_at hd hst hp (hp.subset hs) hx;unfold Wel;rw [this.1, ← hk, this.2]
 ·cases h
end Go.Proofs.YtcajifelbldjnaaGreatDoor
namespace Go.Proofs.YtcajifelbldjnaaGreatDoor
open Go.RowKit F
def DoK (l : List Sit) (st : Sta) (a : Acn) (t : Sta) : Prop :=
 (a.kind = 5 ∧ t.held = st.held ∧ t.tip = st.tip ∧ t.used = st.used ∧ t.clock = st.clock) ∨
 (a.kind = 6 ∧ st.tip = false ∧ t.held = st.held ∧ t.tip = true ∧ st.used < (tipsL l).length ∧ t.used = st.used + 1 ∧ t.clock = st.clock) ∨
 (a.kind = 7 ∧ st.tip = true ∧ t.held = [] ∧ t.tip = false ∧ t.used = st.used ∧ t.clock = st.clock) ∨
 (a.kind = 8 ∧ st.tip = true ∧ (wellM l a.pl).2 = 0 ∧ 1 ≤ a.vol ∧ tot t.held = tot st.held + a.vol ∧ t.tip = true ∧ t.used = st.used ∧ t.clock = st.clock) ∨
 (a.kind = 9 ∧ st.tip = true ∧ (wellM l a.pl).2 = 0 ∧ 1 ≤ a.vol ∧ tot t.held = tot st.held - a.vol ∧ t.tip = true ∧ t.used = st.used ∧ t.clock = st.clock) ∨
 (a.kind = 11 ∧ (0 ≤ a.value ∧ a.value ≤ 1000000000) ∧ t.held = st.held ∧ t.tip = st.tip ∧ t.used = st.used ∧ t.clock = st.clock) ∨
 ((a.kind = 12 ∨ a.kind = 14) ∧ (0 ≤ a.time ∧ a.time ≤ 1000000000) ∧ t.held = st.held ∧ t.tip = st.tip ∧ t.used = st.used ∧ t.clock = st.clock + a.time) ∨
 (a.kind = 13 ∧ (0 ≤ a.value ∧ a.value ≤ 1000000000) ∧ (0 ≤ a.time ∧ a.time ≤ 1000000000) ∧ t.held = st.held ∧ t.tip = st.tip ∧ t.used = st.used ∧ t.clock = st.clock + a.time)
theorem DoK.fill {l : List Sit} {st : Sta} {a : Acn} {t : Sta} (k : a.kind = 5) (he : t.held = st.held) (ti : t.tip = st.tip) (us : t.used = st.used) (cl : t.clock = st.clock) : DoK l st a t := Or.inl ⟨k, he, ti, us, cl⟩
theorem DoK.tip {l : List Sit} {st : Sta} {a : Acn} {t : Sta} (k : a.kind = 6) (h0 : st.tip = false) (he : t.held = st.held) (ti : t.tip = true) (ul : st.used < (tipsL l).length) (us : t.used = st.used + 1) (cl : t.clock = st.clock) : DoK l st a t := Or.inr (Or.inl ⟨k, h0, he, ti, ul, us, cl⟩)
theorem DoK.drop {l : List Sit} {st : Sta} {a : Acn} {t : Sta} (k : a.kind = 7) (h0 : st.tip = true) (he : t.held = []) (ti : t.tip = false) (us : t.used = st.used) (cl : t.clock = st.clock) : DoK l st a t := Or.inr (Or.inr (Or.inl ⟨k, h0, he, ti, us, cl⟩))
theorem DoK.draw {l : List Sit} {st : Sta} {a : Acn} {t : Sta} (k : a.kind = 8) (h0 : st.tip = true) (wl : (wellM l a.pl).2 = 0) (v0 : 1 ≤ a.vol) (he : tot t.held = tot st.held + a.vol) (ti : t.tip = true) (us : t.used = st.used) (cl : t.clock = st.clock) : DoK l st a t := Or.inr (Or.inr (Or.inr (Or.inl ⟨k, h0, wl, v0, he, ti, us, cl⟩)))
theorem DoK.put {l : List Sit} {st : Sta} {a : Acn} {t : Sta} (k : a.kind = 9) (h0 : st.tip = true) (wl : (wellM l a.pl).2 = 0) (v0 : 1 ≤ a.vol) (he : tot t.held = tot st.held - a.vol) (ti : t.tip = true) (us : t.used = st.used) (cl : t.clock = st.clock) : DoK l st a t := Or.inr (Or.inr (Or.inr (Or.inr (Or.inl ⟨k, h0, wl, v0, he, ti, us, cl⟩))))
theorem DoK.warm {l : List Sit} {st : Sta} {a : Acn} {t : Sta} (k : a.kind = 11) (vr : 0 ≤ a.value ∧ a.value ≤ 1000000000) (he : t.held = st.held) (ti : t.tip = st.tip) (us : t.used = st.used) (cl : t.clock = st.clock) : DoK l st a t := Or.inr (Or.inr (Or.inr (Or.inr (Or.inr (Or.inl ⟨k, vr, he, ti, us, cl⟩)))))
theorem DoK.pass {l : List Sit} {st : Sta} {a : Acn} {t : Sta} (k : a.kind = 12 ∨ a.kind = 14) (tr : 0 ≤ a.time ∧ a.time ≤ 1000000000) (he : t.held = st.held) (ti : t.tip = st.tip) (us : t.used = st.used) (cl : t.clock = st.clock + a.time) : DoK l st a t := Or.inr (Or.inr (Or.inr (Or.inr (Or.inr (Or.inr (Or.inl ⟨k, tr, he, ti, us, cl⟩))))))
theorem DoK.shake {l : List Sit} {st : Sta} {a : Acn} {t : Sta} (k : a.kind = 13) (vr : 0 ≤ a.value ∧ a.value ≤ 1000000000) (tr : 0 ≤ a.time ∧ a.time ≤ 1000000000) (he : t.held = st.held) (ti : t.tip = st.tip) (us : t.used = st.used) (cl : t.clock = st.clock + a.time) : DoK l st a t := Or.inr (Or.inr (Or.inr (Or.inr (Or.inr (Or.inr (Or.inr ⟨k, vr, tr, he, ti, us, cl⟩))))))
theorem DoK.elim {l : List Sit} {st : Sta} {a : Acn} {t : Sta} {motive : DoK l st a t → Prop} (h : DoK l st a t)
  (fill : ∀ (k : a.kind = 5) (he : t.held = st.held) (ti : t.tip = st.tip) (us : t.used = st.used) (cl : t.clock = st.clock), motive (DoK.fill k he ti us cl))
  (tip : ∀ (k : a.kind = 6) (h0 : st.tip = false) (he : t.held = st.held) (ti : t.tip = true) (ul : st.used < (tipsL l).length) (us : t.used = st.used + 1) (cl : t.clock = st.clock), motive (DoK.tip k h0 he ti ul us cl))
  (drop : ∀ (k : a.kind = 7) (h0 : st.tip = true) (he : t.held = []) (ti : t.tip = false) (us : t.used = st.used) (cl : t.clock = st.clock), motive (DoK.drop k h0 he ti us cl))
  (draw : ∀ (k : a.kind = 8) (h0 : st.tip = true) (wl : (wellM l a.pl).2 = 0) (v0 : 1 ≤ a.vol) (he : tot t.held = tot st.held + a.vol) (ti : t.tip = true) (us : t.used = st.used) (cl : t.clock = st.clock), motive (DoK.draw k h0 wl v0 he ti us cl))
  (put : ∀ (k : a.kind = 9) (h0 : st.tip = true) (wl : (wellM l a.pl).2 = 0) (v0 : 1 ≤ a.vol) (he : tot t.held = tot st.held - a.vol) (ti : t.tip = true) (us : t.used = st.used) (cl : t.clock = st.clock), motive (DoK.put k h0 wl v0 he ti us cl))
  (warm : ∀ (k : a.kind = 11) (vr : 0 ≤ a.value ∧ a.value ≤ 1000000000) (he : t.held = st.held) (ti : t.tip = st.tip) (us : t.used = st.used) (cl : t.clock = st.clock), motive (DoK.warm k vr he ti us cl))
  (pass : ∀ (k : a.kind = 12 ∨ a.kind = 14) (tr : 0 ≤ a.time ∧ a.time ≤ 1000000000) (he : t.held = st.held) (ti : t.tip = st.tip) (us : t.used = st.used) (cl : t.clock = st.clock + a.time), motive (DoK.pass k tr he ti us cl))
  (shake : ∀ (k : a.kind = 13) (vr : 0 ≤ a.value ∧ a.value ≤ 1000000000) (tr : 0 ≤ a.time ∧ a.time ≤ 1000000000) (he : t.held = st.held) (ti : t.tip = st.tip) (us : t.used = st.used) (cl : t.clock = st.clock + a.time), motive (DoK.shake k vr tr he ti us cl)) : motive h := by
 rcases h with ⟨k, he, ti, us, cl⟩ | ⟨k, h0, he, ti, ul, us, cl⟩ | ⟨k, h0, he, ti, us, cl⟩ | ⟨k, h0, wl, v0, he, ti, us, cl⟩ | ⟨k, h0, wl, v0, he, ti, us, cl⟩ | ⟨k, vr, he, ti, us, cl⟩ | ⟨k, tr, he, ti, us, cl⟩ | ⟨k, vr, tr, he, ti, us, cl⟩
 ·exact fill k he ti us cl
 ·exact tip k h0 he ti ul us cl
 ·exact drop k h0 he ti us cl
 ·exact draw k h0 wl v0 he ti us cl
 ·exact put k h0 wl v0 he ti us cl
 ·exact warm k vr he ti us cl
 ·exact pass k tr he ti us cl
 ·exact shake k vr tr he ti us cl
theorem fill_same (l : List Sit) (s : Sta) (a : Acn) : (fillA l s a).1.held = s.held ∧ (fillA l s a).1.tip = s.tip ∧ (fillA l s a).1.used = s.used ∧ (fillA l s a).1.clock = s.clock := by
 unfold fillA
 repeat' split
 all_goals exact ⟨rfl, rfl, rfl, rfl⟩
theorem pass_ok {s : Sta} {a : Acn} (h : (passA s a).2 = 0) : (0 ≤ a.time ∧ a.time ≤ 1000000000) ∧ (passA s a).1.held = s.held ∧ (passA s a).1.tip = s.tip ∧ (passA s a).1.used = s.used ∧ (passA s a).1.clock = s.clock + a.time := by
 unfold passA at h ⊢
 split at h
 ·rename_i h1
  split at h
  ·simp at h
  ·rename_i h2
   rw [if_pos h1, if_neg h2];exact ⟨inR_iff.1 h1, rfl, rfl, rfl, rfl⟩
 ·simp at h
theorem tip_all {l : List Sit} {s : Sta} (h : (tipA l s).2 = 0) : s.tip = false ∧ (tipA l s).1.held = s.held ∧ (tipA l s).1.tip = true ∧ s.used < (tipsL l).length ∧ (tipA l s).1.used = s.used + 1 ∧ (tipA l s).1.clock = s.clock := by
 unfold tipA at h ⊢
 split at h
 ·simp at h
 ·rename_i h1
  split at h
  ·simp at h
  ·rename_i h2
   rw [if_neg h1, if_neg h2];exact ⟨by simpa using h1, rfl, rfl, by omega, rfl, rfl⟩
theorem drop_all {s : Sta} (h : (dropA s).2 = 0) : s.tip = true ∧ (dropA s).1.held = [] ∧ (dropA s).1.tip = false ∧ (dropA s).1.used = s.used ∧ (dropA s).1.clock = s.clock := by
 unfold dropA at h ⊢
 split at h
 ·rename_i h1
  rw [if_pos h1];exact ⟨h1, rfl, rfl, rfl, rfl⟩
 ·simp at h
theorem aim_well {l : List Sit} {a : Acn} (h : (aimR l a).2 = 0) : (wellM l a.pl).2 = 0 := by
 unfold aimR at h
 split at h
 ·assumption
 ·rename_i h1; exact absurd h h1
theorem draw_all {l : List Sit} {s : Sta} {a : Acn} (h0 : (drawA l s a).2 = 0) : s.tip = true ∧ (wellM l a.pl).2 = 0 ∧ 1 ≤ a.vol ∧ tot (drawA l s a).1.held = tot s.held + a.vol ∧ (drawA l s a).1.tip = true ∧ (drawA l s a).1.used = s.used ∧ (drawA l s a).1.clock = s.clock := by
 unfold drawA at h0 ⊢
 split at h0
 ·rename_i h1; exact absurd h0 h1
 ·rename_i h1
  have h1' := Classical.not_not.1 h1
  split at h0
  ·simp at h0
  ·rename_i h2
   split at h0
   ·rename_i h3; exact absurd h0 h3
   ·rename_i h3
    split at h0
    ·simp at h0
    ·rename_i h4
     split at h0
     ·rename_i h5; exact absurd h0 h5
     ·rename_i h5
      rw [if_neg h1, if_neg h2, if_neg h3, if_neg h4, if_neg h5];have ht : s.tip = true := by simpa using h2
      have e1 := tot_tog (Classical.not_not.1 h5);have e2 := (tot_drawF (Classical.not_not.1 h3)).1;refine ⟨ht, aim_well h1', (aim_vol h1').1, ?_, ht, rfl, rfl⟩;show tot (togR s.held (drawF a.vol (wellF s.wells a.pl)).1 (tipM l)).1 = _;rw [e1, e2]
theorem put_all {l : List Sit} {s : Sta} {a : Acn} (h0 : (putA l s a).2 = 0) : s.tip = true ∧ (wellM l a.pl).2 = 0 ∧ 1 ≤ a.vol ∧ tot (putA l s a).1.held = tot s.held - a.vol ∧ (putA l s a).1.tip = true ∧ (putA l s a).1.used = s.used ∧ (putA l s a).1.clock = s.clock := by
 unfold putA at h0 ⊢
 split at h0
 ·rename_i h1; exact absurd h0 h1
 ·rename_i h1
  have h1' := Classical.not_not.1 h1
  split at h0
  ·simp at h0
  ·rename_i h2
   split at h0
   ·rename_i h3; exact absurd h0 h3
   ·rename_i h3
    split at h0
    ·rename_i h4; exact absurd h0 h4
    ·rename_i h4
     rw [if_neg h1, if_neg h2, if_neg h3, if_neg h4];have ht : s.tip = true := by simpa using h2
     have e2 := (tot_drawF (Classical.not_not.1 h3)).2;exact ⟨ht, aim_well h1', (aim_vol h1').1, e2, ht, rfl, rfl⟩
theorem doK {l : List Sit} {st : Sta} {a : Acn} (h0 : (doA l st a).2 = 0) : DoK l st a (doA l st a).1 := by
 unfold doA at h0 ⊢
 split at h0
 ·rename_i k
  rw [if_pos k];obtain ⟨x1, x2, x3, x4⟩ := fill_same l st a;exact .fill k x1 x2 x3 x4
 ·rename_i k5
  rw [if_neg k5]
  split at h0
  ·rename_i k
   rw [if_pos k];obtain ⟨x1, x2, x3, x4, x5, x6⟩ := tip_all h0;exact .tip k x1 x2 x3 x4 x5 x6
  ·rename_i k6
   rw [if_neg k6]
   split at h0
   ·rename_i k
    rw [if_pos k];obtain ⟨x1, x2, x3, x4, x5⟩ := drop_all h0;exact .drop k x1 x2 x3 x4 x5
   ·rename_i k7
    rw [if_neg k7]
    split at h0
    ·rename_i k
     rw [if_pos k];obtain ⟨x1, x2, x3, x4, x5, x6, x7⟩ := draw_all h0;exact .draw k x1 x2 x3 x4 x5 x6 x7
    ·rename_i k8
     rw [if_neg k8]
     split at h0
     ·rename_i k
      rw [if_pos k];obtain ⟨x1, x2, x3, x4, x5, x6, x7⟩ := put_all h0;exact .put k x1 x2 x3 x4 x5 x6 x7
     ·rename_i k9
      rw [if_neg k9]
      split at h0
      ·rename_i k
       rw [if_pos k];unfold warmA at h0 ⊢
       split at h0
       ·rename_i h1
        rw [if_pos h1];exact .warm k (inR_iff.1 h1) rfl rfl rfl rfl
       ·simp at h0
      ·rename_i k11
       rw [if_neg k11]
       split at h0
       ·rename_i k
        rw [if_pos k];obtain ⟨x1, x2, x3, x4, x5⟩ := pass_ok h0;exact .pass (.inl k) x1 x2 x3 x4 x5
       ·rename_i k12
        rw [if_neg k12]
        split at h0
        ·rename_i k
         rw [if_pos k];unfold shakeA at h0 ⊢
         split at h0
         ·rename_i h1
          rw [if_pos h1];obtain ⟨x1, x2, x3, x4, x5⟩ := pass_ok h0;exact .shake k (inR_iff.1 h1) x1 x2 x3 x4 x5
         ·simp at h0
        ·rename_i k13
         rw [if_neg k13]
         split at h0
         ·rename_i k
          rw [if_pos k];obtain ⟨x1, x2, x3, x4, x5⟩ := pass_ok h0;exact .pass (.inr k) x1 x2 x3 x4 x5
         ·simp at h0
theorem may_do {l : List Sit} {st : Sta} {a : Acn} (hd : dchk l = 0) (h : May l st) (h0 : (doA l st a).2 = 0) : May l (doA l st a).1 := (left_do hd h h0).may
theorem held_in {l : List Sit} {st : Sta} (hd : dchk l = 0) (h : May l st) : 0 ≤ tot st.held ∧ tot st.held ≤ 1000000000 ∧ (st.tip = true → tot st.held ≤ tipM l) ∧ (st.tip = false → st.held = []) := by
 have hm := tipM_in hd
 cases ht : st.tip with
 | false =>
  have := h.take;unfold mayTake at this;rw [if_neg (by rw [ht]; decide)] at this;simp only [Bool.and_eq_true, decide_eq_true_eq] at this;have e := this.2.1;rw [e];exact ⟨by decide, by decide, fun h => (by cases h), fun _ => rfl⟩
 | true =>
  have h3 := (tip_parts h ht).2.2.1;rw [mayHold_iff] at h3;have h4 := tot_nonneg (fref_in h3.1).2.1.nn;exact ⟨h4, by omega, fun _ => h3.2.2, fun h => (by cases h)⟩
structure Rl (l : List Sit) (st : Sta) (s : Cst) : Prop where
 may : May l st
 held : s.held = tot st.held
 used : (s.used : Int) = st.used
theorem Rl.start (l : List Sit) : Rl l sta0 cst0 := ⟨may_sta0 l, rfl, rfl⟩
def chunkC (ts bins : List Plc) (pt : Plc → S.Pt) (s : Cst) (a : Acn) : List Cd :=
 if a.kind = 6 then workC (pt (ts.getD s.used plc0)) (cd 4 0)
 else if a.kind = 7 then (match bins with
  | [] => []
  | b :: _ => workC (pt b) (cd 5 0))
 else if a.kind = 8 then workC (pt a.pl) (cd 3 (s.held + a.vol))
 else if a.kind = 9 then workC (pt a.pl) (cd 3 (s.held + -a.vol))
 else if a.kind = 11 then [cd 6 a.value]
 else if a.kind = 12 ∨ a.kind = 14 then restC a.time
 else if a.kind = 13 then [cd 8 a.value] ++ restC a.time ++ [cd 8 0]
 else []
theorem step_chunk (ts bins : List Plc) (pt : Plc → S.Pt) (s : Cst) (a : Acn) : (stepC ts bins pt s a).1.cs = s.cs ++ chunkC ts bins pt s a := by
 cases bins <;> simp only [stepC, chunkC]
 all_goals
  repeat' split
  all_goals simp [List.append_assoc]
theorem Rl.step {l : List Sit} {st : Sta} {s : Cst} {a : Acn} {ts bins : List Plc} {pt : Plc → S.Pt} (hd : dchk l = 0) (h : Rl l st s) (h0 : (doA l st a).2 = 0) (h1 : (stepC ts bins pt s a).2 = 0) : Rl l (doA l st a).1 (stepC ts bins pt s a).1 := by
 refine ⟨may_do hd h.may h0, ?_, ?_⟩
 ·have hh := h.held
  cases doK h0 using DoK.elim with
  | fill k he => unfold stepC; simp [k, he, hh]
  | tip k _ he => unfold stepC; simp [k, he, hh]
  | drop k _ he =>
   cases bins with
   | nil => unfold stepC at h1; simp [k] at h1
   | cons b r => unfold stepC; simp [k, he, tot]
  | draw k _ _ _ he => unfold stepC; simp [k, he, hh]
  | put k _ _ _ he => unfold stepC; simp [k, he, hh]; omega
  | warm k _ he => unfold stepC; simp [k, he, hh]
  | pass k _ he => rcases k with k | k <;> (unfold stepC; simp [k, he, hh])
  | shake k _ _ he => unfold stepC; simp [k, he, hh]
 ·have hh := h.used
  cases doK h0 using DoK.elim with
  | fill k _ _ us => unfold stepC; simp [k, us, hh]
  | tip k _ _ _ _ us => unfold stepC; simp [k, us, hh]
  | drop k _ _ _ us =>
   cases bins with
   | nil => unfold stepC at h1; simp [k] at h1
   | cons b r => unfold stepC; simp [k, us, hh]
  | draw k _ _ _ _ _ us => unfold stepC; simp [k, us, hh]
  | put k _ _ _ _ _ us => unfold stepC; simp [k, us, hh]
  | warm k _ _ _ us => unfold stepC; simp [k, us, hh]
  | pass k _ _ _ us => rcases k with k | k <;> (unfold stepC; simp [k, us, hh])
  | shake k _ _ _ _ us => unfold stepC; simp [k, us, hh]
theorem comp_ind {l : List Sit} {ts bins : List Plc} {pt : Plc → S.Pt} (hd : dchk l = 0) {I : List Acn → Sta → Cst → Prop}
  (hs : ∀ A st s a, I A st s → Rl l st s → (doA l st a).2 = 0 → (stepC ts bins pt s a).2 = 0 → DoK l st a (doA l st a).1 → I (A ++ [a]) (doA l st a).1 (stepC ts bins pt s a).1) :
  ∀ (acs : List Acn) (A : List Acn) (st : Sta) (s : Cst) (k : Nat), I A st s → Rl l st s → (∀ j (hj : j < acs.length), (doA l ((acs.take j).foldl (fun s a => (doA l s a).1) st) (acs[j]'hj)).2 = 0) → (compL ts bins pt s k acs).2.2 = 0 →
   ∃ st', I (A ++ acs) st' (compL ts bins pt s k acs).1 ∧ Rl l st' (compL ts bins pt s k acs).1
 | [], A, st, s, k, h, hr, _, _ => ⟨st, by rw [List.append_nil]; exact h, hr⟩
 | a :: r, A, st, s, k, h, hr, hj, hc => by
  have h0 : (doA l st a).2 = 0 := hj 0 (by simp);simp only [compL] at hc ⊢
  split at hc
  ·rename_i h1
   rw [if_pos h1];have := comp_ind hd hs r (A ++ [a]) (doA l st a).1 (stepC ts bins pt s a).1 (k + 1) (hs A st s a h hr h0 h1 (doK h0)) (hr.step hd h0 h1) (fun j hj2 => by have := hj (j + 1) (by simpa using hj2); simpa using this) hc;rw [List.append_assoc] at this;exact this
  ·rename_i h1
   exact absurd hc h1
def setG (f : Std → Option Plc) (k : Std) (p : Plc) : Std → Option Plc := fun x => if x = k then some p else f x
def flrG (s : Sit) (ps : List (Nat × Nat)) (g : Std → Option Plc) : Std → Option Plc := ps.foldl (fun g p => setG g (stdOf s.ware.kind (spotPt s p)) (spotP s.slot p)) g
def floorG (ls : List Sit) : Std → Option Plc := ls.foldl (fun g s => flrG s (spotsOf s) g) (fun _ => none)
def ofG (g : Std → Option Plc) : Std → Option Value := fun k => (g k).map plv
theorem setF_ofG (g : Std → Option Plc) (k : Std) (p : Plc) : setF (ofG g) k (plv p) = ofG (setG g k p) := by
 funext x
 unfold setF ofG setG
 split <;> rfl
theorem flrS_ofG (s : Sit) : ∀ (ps : List (Nat × Nat)) (g : Std → Option Plc), flrS s ps (ofG g) = ofG (flrG s ps g)
 | [], g => rfl
 | p :: r, g => by
  show flrS s r (setF (ofG g) (stdOf s.ware.kind (spotPt s p)) (plv (spotP s.slot p))) = ofG (flrG s r (setG g (stdOf s.ware.kind (spotPt s p)) (spotP s.slot p)));rw [setF_ofG];exact flrS_ofG s r _
theorem floorS_ofG (ls : List Sit) : floorS ls = ofG (floorG ls) := by
 have : ∀ (ls : List Sit) (g : Std → Option Plc), ls.foldl (fun g s => flrS s (spotsOf s) g) (ofG g) = ofG (ls.foldl (fun g s => flrG s (spotsOf s) g) g) := by
  intro ls
  induction ls with
  | nil => intro g; rfl
  | cons s r ih => intro g; simp only [List.foldl_cons]; rw [flrS_ofG]; exact ih _
 exact this ls fun _ => none
theorem wel_G {ls : List Sit} {k : Int} {p : Plc} (h : Wel ls k p) : floorG ls (stdOf k (ptQ ls p)) = some p := by
 unfold Wel at h;rw [floorS_ofG] at h;unfold ofG at h
 cases e : floorG ls (stdOf k (ptQ ls p)) with
 | none => rw [e] at h; cases h
 | some q =>
  rw [e] at h;have h1 : plv q = plv p := Option.some.inj h;simp only [Value.agg.injEq, Array.mk.injEq, List.cons.injEq, Value.int.injEq, true_and, and_true] at h1;obtain ⟨a, b, c⟩ := h1;exact congrArg some (Prod.ext a (Prod.ext b c))
structure Wt where
 pos : S.Pt
 plug : Int
 acts : List Acn
abbrev noT : ByteArray := ⟨#[]⟩
abbrev acK (k : Int) : Acn := ⟨k, plc0, noT, 0, 0, 0⟩
abbrev acP (k : Int) (p : Plc) (v : Int) : Acn := ⟨k, p, noT, v, 0, 0⟩
abbrev acW (v : Int) : Acn := ⟨11, plc0, noT, 0, v, 0⟩
abbrev acT (t : Int) : Acn := ⟨14, plc0, noT, 0, 0, t⟩
def pressL (p : Plc) (m : Int) : List Acn := if 0 < m then [acP 8 p m] else if m < 0 then [acP 9 p (-m)] else []
def watchC (g : Std → Option Plc) (w : Wt) (c : Cd) : Wt × Int :=
 if c.k = 1 then (⟨⟨0, 0, 0⟩, w.plug, w.acts⟩, 0)
 else if c.k = 2 then (⟨⟨c.x, c.y, c.z⟩, w.plug, w.acts⟩, 0)
 else if c.k = 4 then (match g (stdOf 2 w.pos) with
  | none => (w, 5)
  | some _ => (⟨w.pos, 0, w.acts ++ [acK 6]⟩, 0))
 else if c.k = 5 then (match g (stdOf 3 w.pos) with
  | none => (w, 5)
  | some _ => (⟨w.pos, 0, w.acts ++ [acK 7]⟩, 0))
 else if c.k = 3 then (match g (stdOf 1 w.pos) with
  | none => (w, 5)
  | some p => (⟨w.pos, c.v, w.acts ++ pressL p (c.v - w.plug)⟩, 0))
 else if c.k = 6 then (⟨w.pos, w.plug, w.acts ++ [acW c.v]⟩, 0)
 else if c.k = 7 then (⟨w.pos, w.plug, w.acts ++ [acT c.v]⟩, 0)
 else (w, 0)
def watchL (g : Std → Option Plc) : Wt → Nat → List Cd → Wt × Nat × Int
 | w, k, [] => (w, k, 0)
 | w, k, c :: r => if (watchC g w c).2 = 0 then watchL g (watchC g w c).1 (k + 1) r else (w, k, (watchC g w c).2)
theorem watchL_app (g : Std → Option Plc) : ∀ (a b : List Cd) (w w' : Wt) (k n : Nat), watchL g w k a = (w', n, 0) → watchL g w k (a ++ b) = watchL g w' n b
 | [], b, w, w', k, n, h => by
  simp only [watchL, Prod.mk.injEq, and_true] at h;rw [List.nil_append, h.1, h.2]
 | c :: r, b, w, w', k, n, h => by
  simp only [watchL] at h;simp only [List.cons_append, watchL]
  split at h
  ·rename_i h1
   rw [if_pos h1];exact watchL_app g r b _ w' (k + 1) n h
  ·rename_i h1
   simp only [Prod.mk.injEq] at h;exact absurd h.2.2 h1
theorem watch_go (g : Std → Option Plc) (w : Wt) (p : S.Pt) : watchC g w (goC p) = (⟨p, w.plug, w.acts⟩, 0) := rfl
theorem work_watch {g : Std → Option Plc} {w w' : Wt} {k : Nat} {p : S.Pt} {c : Cd} (h : watchC g ⟨p, w.plug, w.acts⟩ c = (w', 0)) : watchL g w k (workC p c) = (⟨upC p, w'.plug, w'.acts⟩, k + 4, 0) := by
 unfold workC;simp only [watchL, watch_go, if_true, h]
def seenA (a : Acn) : List Acn :=
 if a.kind = 6 ∨ a.kind = 7 then [acK a.kind] else if a.kind = 8 ∨ a.kind = 9 then [acP a.kind a.pl a.vol] else if a.kind = 11 then [acW a.value]
 else if a.kind = 12 ∨ a.kind = 13 ∨ a.kind = 14 then (if 0 < a.time then [acT a.time] else []) else []
theorem rest_watch (g : Std → Option Plc) (w : Wt) (k : Nat) (t : Int) : watchL g w k (restC t) = (⟨w.pos, w.plug, w.acts ++ (if 0 < t then [acT t] else [])⟩, k + (restC t).length, 0) := by
 unfold restC
 split
 ·rfl
 ·simp [watchL]
theorem chunk_watch {l ls : List Sit} (hd : dchk l = 0) (hst : ∀ s ∈ l, StOk s) (hp : ls.Perm l) {st : Sta} {s : Cst} {a : Acn} {t : Sta} (hr : Rl l st s) (hk : DoK l st a t) (h1 : (stepC (tipsL l) (floorB ls) (ptQ ls) s a).2 = 0) (w : Wt) (k : Nat) (hw : w.plug = s.held) :
  ∃ q, watchL (floorG ls) w k (chunkC (tipsL l) (floorB ls) (ptQ ls) s a) = (⟨q, (stepC (tipsL l) (floorB ls) (ptQ ls) s a).1.held, w.acts ++ seenA a⟩, k + (chunkC (tipsL l) (floorB ls) (ptQ ls) s a).length, 0) := by
 have hin := held_in hd hr.may
 cases hk using DoK.elim with
 | fill k5 =>
  have e1 : chunkC (tipsL l) (floorB ls) (ptQ ls) s a = [] := by unfold chunkC; simp [k5]
  have e2 : (stepC (tipsL l) (floorB ls) (ptQ ls) s a).1.held = s.held := by unfold stepC; simp [k5]
  have e3 : seenA a = [] := by unfold seenA; simp [k5]
  rw [e1, e2, e3, ← hw];exact ⟨w.pos, by simp [watchL]⟩
 | tip k6 h0 he ti ul us =>
  have hus := hr.used;have hlt : s.used < (tipsL l).length := by omega
  have e1 : chunkC (tipsL l) (floorB ls) (ptQ ls) s a = workC (ptQ ls ((tipsL l)[s.used]'hlt)) (cd 4 0) := by unfold chunkC; rw [if_pos k6, List.getD_eq_getElem?_getD, List.getElem?_eq_getElem hlt]; rfl
  have e2 : (stepC (tipsL l) (floorB ls) (ptQ ls) s a).1.held = s.held := by unfold stepC; simp [k6]
  have e3 : seenA a = [acK 6] := by unfold seenA; simp [k6]
  have hh : s.held = 0 := by rw [hr.held, hin.2.2.2 h0]; rfl
  have hg := wel_G (wel_tip hd hst hp (List.getElem_mem hlt));refine ⟨upC (ptQ ls ((tipsL l)[s.used]'hlt)), ?_⟩;rw [e1, e2, e3, hh];refine (work_watch (w' := ⟨ptQ ls ((tipsL l)[s.used]'hlt), 0, w.acts ++ [acK 6]⟩) ?_);unfold watchC;simp [hg]
 | drop k7 h0 he ti =>
  cases hb : floorB ls with
  | nil => rw [hb] at h1; unfold stepC at h1; simp [k7] at h1
  | cons b r =>
   have e1 : chunkC (tipsL l) (b :: r) (ptQ ls) s a = workC (ptQ ls b) (cd 5 0) := by unfold chunkC; simp [k7]
   have e2 : (stepC (tipsL l) (b :: r) (ptQ ls) s a).1.held = 0 := by unfold stepC; simp [k7]
   have e3 : seenA a = [acK 7] := by unfold seenA; simp [k7]
   have hg := wel_G (wel_bin hd hst hp (p := b) (by rw [hb]; simp));refine ⟨upC (ptQ ls b), ?_⟩;rw [e1, e2, e3];refine (work_watch (w' := ⟨ptQ ls b, 0, w.acts ++ [acK 7]⟩) ?_);unfold watchC;simp [hg]
 | draw k8 h0 wl v0 =>
  have e1 : chunkC (tipsL l) (floorB ls) (ptQ ls) s a = workC (ptQ ls a.pl) (cd 3 (s.held + a.vol)) := by unfold chunkC; simp [k8]
  have e2 : (stepC (tipsL l) (floorB ls) (ptQ ls) s a).1.held = s.held + a.vol := by unfold stepC; simp [k8]
  have e3 : seenA a = [acP 8 a.pl a.vol] := by unfold seenA; simp [k8]
  have hg := wel_G (wel_well hd hst hp wl);refine ⟨upC (ptQ ls a.pl), ?_⟩;rw [e1, e2, e3];refine (work_watch (w' := ⟨ptQ ls a.pl, s.held + a.vol, w.acts ++ [acP 8 a.pl a.vol]⟩) ?_);have e4 : s.held + a.vol - w.plug = a.vol := by omega
  have e5 : pressL a.pl a.vol = [acP 8 a.pl a.vol] := if_pos (by omega);unfold watchC;simp [hg, e4, e5]
 | put k9 h0 wl v0 =>
  have e1 : chunkC (tipsL l) (floorB ls) (ptQ ls) s a = workC (ptQ ls a.pl) (cd 3 (s.held + -a.vol)) := by unfold chunkC; simp [k9]
  have e2 : (stepC (tipsL l) (floorB ls) (ptQ ls) s a).1.held = s.held + -a.vol := by unfold stepC; simp [k9]
  have e3 : seenA a = [acP 9 a.pl a.vol] := by unfold seenA; simp [k9]
  have hg := wel_G (wel_well hd hst hp wl);refine ⟨upC (ptQ ls a.pl), ?_⟩;rw [e1, e2, e3];refine (work_watch (w' := ⟨ptQ ls a.pl, s.held + -a.vol, w.acts ++ [acP 9 a.pl a.vol]⟩) ?_);have e4 : s.held + -a.vol - w.plug = -a.vol := by omega
  have e5 : pressL a.pl (-a.vol) = [acP 9 a.pl a.vol] := by
   unfold pressL;rw [if_neg (by omega), if_pos (by omega), Int.neg_neg]
  unfold watchC;simp only [hg, e4, e5]
  rfl
 | warm k11 =>
  have e1 : chunkC (tipsL l) (floorB ls) (ptQ ls) s a = [cd 6 a.value] := by unfold chunkC; simp [k11]
  have e2 : (stepC (tipsL l) (floorB ls) (ptQ ls) s a).1.held = s.held := by unfold stepC; simp [k11]
  have e3 : seenA a = [acW a.value] := by unfold seenA; simp [k11]
  rw [e1, e2, e3, ← hw];exact ⟨w.pos, rfl⟩
 | pass kk =>
  have e1 : chunkC (tipsL l) (floorB ls) (ptQ ls) s a = restC a.time := by unfold chunkC; rcases kk with kk | kk <;> simp [kk]
  have e2 : (stepC (tipsL l) (floorB ls) (ptQ ls) s a).1.held = s.held := by unfold stepC; rcases kk with kk | kk <;> simp [kk]
  have e3 : seenA a = if 0 < a.time then [acT a.time] else [] := by unfold seenA; rcases kk with kk | kk <;> simp [kk]
  rw [e1, e2, e3, ← hw];exact ⟨w.pos, rest_watch _ _ _ _⟩
 | shake k13 =>
  have e1 : chunkC (tipsL l) (floorB ls) (ptQ ls) s a = [cd 8 a.value] ++ restC a.time ++ [cd 8 0] := by unfold chunkC; simp [k13]
  have e2 : (stepC (tipsL l) (floorB ls) (ptQ ls) s a).1.held = s.held := by unfold stepC; simp [k13]
  have e3 : seenA a = if 0 < a.time then [acT a.time] else [] := by unfold seenA; simp [k13]
  rw [e1, e2, e3, ← hw];refine ⟨w.pos, ?_⟩;have t1 : ∀ v k, watchL (floorG ls) w k [cd 8 v] = (w, k + 1, 0) := fun v k => rfl;rw [List.append_assoc, watchL_app _ _ _ _ _ _ _ (t1 a.value k), watchL_app _ _ _ _ _ _ _ (rest_watch _ _ _ _)];simp only [List.length_append, List.length_cons, List.length_nil];show (_, _, (0 : Int)) = _
  congr 2
  omega
theorem start_watch (g : Std → Option Plc) : watchL g ⟨⟨0, 0, 0⟩, 0, []⟩ 0 cst0.cs = (⟨⟨0, 0, 200000⟩, 0, []⟩, 2, 0) := rfl
theorem comp_watch {l ls : List Sit} (hd : dchk l = 0) (hst : ∀ s ∈ l, StOk s) (hp : ls.Perm l) {acs : List Acn} (hr : (runR l acs).2.2 = 0) (hc : (compL (tipsL l) (floorB ls) (ptQ ls) cst0 0 acs).2.2 = 0) :
  ∃ q p, watchL (floorG ls) ⟨⟨0, 0, 0⟩, 0, []⟩ 0 (compL (tipsL l) (floorB ls) (ptQ ls) cst0 0 acs).1.cs = (⟨q, p, acs.flatMap seenA⟩, (compL (tipsL l) (floorB ls) (ptQ ls) cst0 0 acs).1.cs.length, 0) := by
 obtain ⟨st', ⟨q, h⟩, _⟩ := comp_ind (ts := tipsL l) (bins := floorB ls) (pt := ptQ ls) hd (I := fun A _ s => ∃ q, watchL (floorG ls) ⟨⟨0, 0, 0⟩, 0, []⟩ 0 s.cs = (⟨q, s.held, A.flatMap seenA⟩, s.cs.length, 0))
  (fun A st s a h hrl h0 h1 hk => by
   obtain ⟨q, h⟩ := h;obtain ⟨q2, h2⟩ := chunk_watch hd hst hp hrl hk h1 ⟨q, s.held, A.flatMap seenA⟩ s.cs.length rfl;refine ⟨q2, ?_⟩;rw [step_chunk, watchL_app _ _ _ _ _ _ _ h, h2]
   simp [List.flatMap_append])
  acs [] sta0 cst0 0 ⟨⟨0, 0, 200000⟩, start_watch _⟩ (Rl.start l) (run_ok hd hr) hc
 rw [List.nil_append] at h;exact ⟨q, _, h⟩
end Go.Proofs.YtcajifelbldjnaaGreatDoor
namespace Go.Proofs.YtcajifelbldjnaaGreatDoor
open Go.RowKit Go.Maps
end Go.Proofs.YtcajifelbldjnaaGreatDoor
namespace Go.Proofs.YtcajifelbldjnaaGreatDoor.K
open Go.RowKit
section
variable {P : Program} {Q : Exit → Act → World → Prop} {a : Act} {m : List Bool} {V : Nat → Value → World → Prop} {w0 : World} {ops : Array Oper} {plan : Plan} {k n L : Nat}
end
section
variable {P : Program} {n : Nat}
end
structure Rp where
 c : Int
 f : Int
 m : Int
 r : Int
def rpOk (r : Rp) : Bool := decide (1 ≤ r.f ∧ r.f ≤ r.m ∧ r.m ≤ r.c ∧ r.c ≤ 100000000 ∧ 0 ≤ r.r ∧ r.r ≤ 100000)
theorem rpOk_iff {r : Rp} : rpOk r = true ↔ 1 ≤ r.f ∧ r.f ≤ r.m ∧ r.m ≤ r.c ∧ r.c ≤ 100000000 ∧ 0 ≤ r.r ∧ r.r ≤ 100000 := by simp [rpOk]
def spA (r : Rp) (k : Nat) : Int := min (r.f + r.r * k) r.m
theorem mul_bd {r : Rp} (h : rpOk r = true) {k : Nat} (hk : k ≤ 20000) : 0 ≤ r.r * (k : Int) ∧ r.r * (k : Int) ≤ 2000000000 := by
 obtain ⟨_, _, _, _, h5, h6⟩ := rpOk_iff.1 h;refine ⟨Int.mul_nonneg h5 (by omega), ?_⟩;exact Int.le_trans (Int.mul_le_mul_of_nonneg_right h6 (by omega : (0 : Int) ≤ k)) (by omega)
theorem spA_bd {r : Rp} (h : rpOk r = true) {k : Nat} (hk : k ≤ 20000) : r.f ≤ spA r k ∧ spA r k ≤ r.m := by
 have := mul_bd h hk;have := rpOk_iff.1 h;unfold spA;omega
def letW : Nat → Nat → List UInt8
 | 2, 0 => [88]
 | 2, 1 => [89]
 | 2, 2 => [90]
 | 3, 3 => [83]
 | 6, 3 => [83]
 | 7, 3 => [80]
 | 8, 3 => [83]
 | _, _ => []
def inP (n : Int) : Bool := decide (-10000000 ≤ n) && decide (n ≤ 10000000)
def inRg (x y z v : Int) : Bool := inP x && inP y && inP z && (decide (0 ≤ v) && decide (v ≤ 1000000000))
def usedC (k : Nat) (x y z v : Int) : Bool := (x == 0 || letW k 0 != []) && (y == 0 || letW k 1 != []) && (z == 0 || letW k 2 != []) && (v == 0 || letW k 3 != [])
def chkC (k x y z v : Int) : Int := if k < 1 ∨ 8 < k then 6 else if inRg x y z v = false then 2 else if usedC k.toNat x y z v = false then 1 else 0
theorem inP_iff {n : Int} : inP n = true ↔ -10000000 ≤ n ∧ n ≤ 10000000 := by simp [inP]
theorem inRg_iff {x y z v : Int} : inRg x y z v = true ↔ (-10000000 ≤ x ∧ x ≤ 10000000) ∧ (-10000000 ≤ y ∧ y ≤ 10000000) ∧ (-10000000 ≤ z ∧ z ≤ 10000000) ∧ (0 ≤ v ∧ v ≤ 1000000000) := by
 simp [inRg, inP_iff, and_assoc]
end Go.Proofs.YtcajifelbldjnaaGreatDoor.K
namespace Go.Proofs.YtcajifelbldjnaaGreatDoor
open Go.RowKit Go.Maps
abbrev chkD (c : Cd) : Int := K.chkC c.k c.x c.y c.z c.v
theorem rdK5 {w : World} {ao : Option Addr} {cs : List Cd} (h : RdR encK w ao cs) {k : Nat} (hk : k < cs.length) : ∃ g off, ao = some ⟨g, off, none⟩ ∧ g < w.heap.size ∧ w.cell? ⟨g, off + k * 5, none⟩ = some (.int .i64 (cs[k]'hk).k) ∧ w.cell? ⟨g, off + k * 5 + 1, none⟩ = some (.int .i64 (cs[k]'hk).x) ∧ w.cell? ⟨g, off + k * 5 + 2, none⟩ = some (.int .i64 (cs[k]'hk).y) ∧ w.cell? ⟨g, off + k * 5 + 3, none⟩ = some (.int .i64 (cs[k]'hk).z) ∧ w.cell? ⟨g, off + k * 5 + 4, none⟩ = some (.int .i64 (cs[k]'hk).v) := by
 rcases h with h | ⟨g, off, e, hg, hc⟩
 ·subst h; simp at hk
 ·exact ⟨g, off, e, hg, hc k hk 0 (by decide), hc k hk 1 (by decide), hc k hk 2 (by decide), hc k hk 3 (by decide), hc k hk 4 (by decide)⟩
theorem chkD_in {c : Cd} (h : chkD c = 0) : (1 ≤ c.k ∧ c.k ≤ 8) ∧ (-10000000 ≤ c.x ∧ c.x ≤ 10000000) ∧ (-10000000 ≤ c.y ∧ c.y ≤ 10000000) ∧ (-10000000 ≤ c.z ∧ c.z ≤ 10000000) ∧ (0 ≤ c.v ∧ c.v ≤ 1000000000) := by
 unfold chkD K.chkC at h
 split at h
 ·simp at h
 ·rename_i h1
  split at h
  ·simp at h
  ·rename_i h2
   have := K.inRg_iff.1 (by simpa using h2);omega
end Go.Proofs.YtcajifelbldjnaaGreatDoor
namespace Go.Proofs.YtcajifelbldjnaaGreatDoor.K
open Go.RowKit
attribute [local go_sem] Oper.semAt_some
def speedsL (r : Rp) (n : Nat) : List Int := (List.range n).map fun i => spA r (min i (n - 1 - i))
theorem speedsL_length (r : Rp) (n : Nat) : (speedsL r n).length = n := by simp [speedsL]
theorem speedsL_at (r : Rp) (n : Nat) {k : Nat} (h : k < (speedsL r n).length) : (speedsL r n)[k]'h = spA r (min k (n - 1 - k)) := by simp [speedsL]
attribute [local go_sem] Oper.semAt_some
def timesL (r : Rp) (xs : List Int) : List Int := xs.map fun x => Int.tdiv r.c x
theorem timesL_length (r : Rp) (xs : List Int) : (timesL r xs).length = xs.length := by simp [timesL]
attribute [local go_sem] Oper.semAt_some
theorem spA_pos {r : Rp} (hr : rpOk r = true) {k : Nat} (hk : k ≤ 20000) : 1 ≤ spA r k := by have := spA_bd hr hk; have := rpOk_iff.1 hr; omega
theorem speedsL_pos {r : Rp} {n : Nat} (hr : rpOk r = true) (hn : n ≤ 20000) : ∀ x ∈ speedsL r n, 1 ≤ x := by
 intro x hx;unfold speedsL at hx;obtain ⟨i, hi, rfl⟩ := List.mem_map.1 hx;have := List.mem_range.1 hi;exact spA_pos hr (by omega)
theorem tdiv_bd {c x : Int} (hc : 0 ≤ c) (hx : 1 ≤ x) : 0 ≤ Int.tdiv c x ∧ Int.tdiv c x ≤ c := by
 rw [Int.tdiv_eq_ediv_of_nonneg hc];exact ⟨Int.ediv_nonneg hc (by omega), Int.ediv_le_self x hc⟩
theorem timesL_bd {r : Rp} {xs : List Int} (hr : rpOk r = true) (hx : ∀ x ∈ xs, 1 ≤ x) : ∀ x ∈ timesL r xs, 0 ≤ x ∧ x ≤ 100000000 := by
 intro x h;unfold timesL at h;obtain ⟨i, hi, rfl⟩ := List.mem_map.1 h;have h1 := rpOk_iff.1 hr;have := tdiv_bd (c := r.c) (by omega) (hx i hi);omega
theorem sum_bd {xs : List Int} (hx : ∀ x ∈ xs, 0 ≤ x ∧ x ≤ 100000000) : 0 ≤ xs.sum ∧ xs.sum ≤ 100000000 * (xs.length : Int) := by
 induction xs with
 | nil => simp
 | cons x xs ih =>
  have h1 := hx x (by simp);have h2 := ih fun y hy => hx y (by simp [hy]);simp only [List.sum_cons, List.length_cons];omega
def totR (r : Rp) (n : Nat) : Int := (timesL r (speedsL r n)).sum
end Go.Proofs.YtcajifelbldjnaaGreatDoor.K
