import Derived.Test.YtcajifelbldjnaaGreatDoorHl
set_option maxRecDepth 100000
set_option maxHeartbeats 25600000
set_option linter.unusedVariables false
namespace Go.Proofs.YtcajifelbldjnaaGreatDoor
open Go.RowKit Go.Maps
theorem tell_keep (wB w : World) (bc : Nat) (ts bv : Value) (mp ms : Nat) (s : Cst) (ad : Addr) (cp : Nat) (xs : List Cd) (h : Cmp wB w bc ts bv mp ms s) (hx : RdR encK w (some ad) xs) (hn : xs.length ≤ 4) (hl : s.cs.length ≤ 1000000000) :
  Calls Tryz.prog 57 #[ptr bc, .slice (some ad) xs.length cp] w fun e w' => e = .returned (.tuple #[]) ∧ Cmp wB w' bc ts bv mp ms ⟨s.cs ++ xs, s.used, s.held⟩ ∧ ∀ k, k < w.heap.size → k ≠ bc → (∀ cur f, w.heap[k]? ≠ some (.cells cur 49 f)) → w'.heap[k]? = w.heap[k]? := by
 obtain ⟨h1, h2, ao, n, cap, h3, h4⟩ := h;have HB := hdd h1;have HLO := hdd h2;have HK := hdd h3;have HO := hdd h4;have HX := hdd hx;have q4 := h3.c 4 rfl;have hlt := h3.1;clear h1 h2 h3 h4 hx
 go_enter Tryz.func57, Tryz.ntmps57
 go_wp2_with (at_builtin; refine wpList_append_list goodK Tryz.underlying24 infoK rfl (by decide) _ rfl (.tmp 8) (.tmp 9) rfl (bc + 1) (.slice ao n cap) s.cs rfl HO.out ad cp xs rfl HX.out (by unfold maxLen; omega) (by omega) (by omega) ?_; intro v' w5 ho hg hloc; obtain ⟨ao5, n5, cap5, rfl⟩ := ho.form; have hbk : Bk bc (cmc ts bv (.slice ao n cap) mp ms s.used s.held) w5 := HK.out.same hg.size (hg.block _ HK.out.1 (fun e => by have := own_lt HO.out e.symm; omega)); have e4 := hbk.c 4 rfl; have ef4 := hbk.f 4 rfl)
 have HB5 : Hid (bw wB (w5.setCell ⟨bc, 4, none⟩ (.slice ao5 n5 cap5))) := (below_row HB.out (HO.out.base (Nat.le_succ_of_le HLO.out)) hg HB.out.size).setCell HLO.out _;have HBK5 : Hid (Bk bc (cmc ts bv (.slice ao5 n5 cap5) mp ms s.used s.held) (w5.setCell ⟨bc, 4, none⟩ (.slice ao5 n5 cap5))) := hbk.put 4 _;have HO5 : Hid (OwnR encK (w5.setCell ⟨bc, 4, none⟩ (.slice ao5 n5 cap5)) (bc + 1) (.slice ao5 n5 cap5) (s.cs ++ xs)) := own_kpt ho (Kpt.setCell (M := fun k => k = bc) _ _ _ _ rfl) (fun g e e2 => by have := own_lt ho e; omega)
 have HKE : Hid (∀ k, k < w.heap.size → k ≠ bc → (∀ cur f, w.heap[k]? ≠ some (.cells cur 49 f)) → (w5.setCell ⟨bc, 4, none⟩ (.slice ao5 n5 cap5)).heap[k]? = w.heap[k]?) := by
  intro k hk hne hno;refine (Below.heap_setCell w5 ⟨bc, 4, none⟩ _ k hne).trans (hg.block k hk fun e => ?_)
  rcases HO.out.2 with ⟨e2, _⟩ | ⟨g, cp2, cur, e2, _, hh, _⟩
  ·rw [e2] at e; cases e
  ·rw [e2] at e
   injection e with e;subst e;exact hno _ _ hh
 clear ho hg hloc hbk e4 ef4 q4;go_wp2
 go_end0
 exact ⟨rfl, ⟨HB5.out, HLO.out, ao5, n5, cap5, HBK5.out, HO5.out⟩, HKE.out⟩
structure AcOk (tl : List Plc) (s : Cst) (a : Acn) : Prop where
 tip : a.kind = 6 → s.used < tl.length
 well : a.kind = 8 ∨ a.kind = 9 → Wf3 a.pl ∧ 1 ≤ a.vol ∧ a.vol ≤ 1000000000
 held : -1000000000000000000 ≤ s.held ∧ s.held ≤ 1000000000000000000
 used : s.used ≤ 1000000000
 few : s.cs.length ≤ 100000000
theorem compile_fill (wB w : World) (bc : Nat) (aoT : Option Addr) (capT : Nat) (tl : List Plc) (aoB : Option Addr) (capB : Nat) (bl : List Plc) (mp ms c0 : Nat) (ls : List Sit) (s : Cst) (a : Acn) (hk : a.kind = 5) (h : Cmp wB w bc (.slice aoT tl.length capT) (.slice aoB bl.length capB) mp ms s)
  (hm : MF kkP wB mp c0 (floorP ls)) (ht : RdR encP wB aoT tl) (hb : RdR encP wB aoB bl) (hwt : ∀ p ∈ tl, Wf3 p) (hwb : ∀ p ∈ bl, Wf3 p) (ha : AcOk tl s a) :
  Calls Tryz.prog 25 #[ptr bc, av a] w fun e w' => e = .returned (.int .i64 (stepC tl bl (ptQ ls) s a).2) ∧ Cmp wB w' bc (.slice aoT tl.length capT) (.slice aoB bl.length capB) mp ms (stepC tl bl (ptQ ls) s a).1 := by
 have hb0 : bw w (w.alloc (aobj a)) := (brf).alloc (Nat.le_refl _) _;have HC0 : Hid (Cmp wB (w.alloc (aobj a)) bc (.slice aoT tl.length capT) (.slice aoB bl.length capB) mp ms s) := h.next hb0;have hfew : s.cs.length ≤ 1000000000 := by have := ha.few; omega
 have HS : Hid (stepC tl bl (ptQ ls) s a = (s, 0)) := by show _ = _; obtain ⟨ak, apl, al, avl, avv, atm⟩ := a; simp only at hk; subst hk; rfl
 clear h hm ht hb hwt hwb ha hb0 hfew;obtain ⟨ak, ⟨a1, a2, a3⟩, al, avl, avv, atm⟩ := a;simp only at hk;subst hk
 go_enter Tryz.func25, Tryz.ntmps25
 go_wp2;go_ret;rw [HS.out];exact ⟨rfl, HC0.out⟩
theorem compile_tip (wB w : World) (bc : Nat) (aoT : Option Addr) (capT : Nat) (tl : List Plc) (aoB : Option Addr) (capB : Nat) (bl : List Plc) (mp ms c0 : Nat) (ls : List Sit) (s : Cst) (a : Acn) (hk : a.kind = 6) (h : Cmp wB w bc (.slice aoT tl.length capT) (.slice aoB bl.length capB) mp ms s)
  (hm : MF kkP wB mp c0 (floorP ls)) (ht : RdR encP wB aoT tl) (hb : RdR encP wB aoB bl) (hwt : ∀ p ∈ tl, Wf3 p) (hwb : ∀ p ∈ bl, Wf3 p) (ha : AcOk tl s a) :
  Calls Tryz.prog 25 #[ptr bc, av a] w fun e w' => e = .returned (.int .i64 (stepC tl bl (ptQ ls) s a).2) ∧ Cmp wB w' bc (.slice aoT tl.length capT) (.slice aoB bl.length capB) mp ms (stepC tl bl (ptQ ls) s a).1 := by
 have hb0 : bw w (w.alloc (aobj a)) := (brf).alloc (Nat.le_refl _) _;have HC0 : Hid (Cmp wB (w.alloc (aobj a)) bc (.slice aoT tl.length capT) (.slice aoB bl.length capB) mp ms s) := h.next hb0;have hfew : s.cs.length ≤ 1000000000 := by have := ha.few; omega
 have HW := hid (grab_any wB (w.alloc (aobj a)) bc aoT capT tl (.slice aoB bl.length capB) mp ms c0 ls s HC0.out hm ht (ha.tip hk) hwt hfew ha.used);have HS : Hid (stepC tl bl (ptQ ls) s a = (⟨s.cs ++ workC (ptQ ls (tl.getD s.used plc0)) (cd 4 0), s.used + 1, s.held⟩, 0)) := by show _ = _; obtain ⟨ak, apl, al, avl, avv, atm⟩ := a; simp only at hk; subst hk; rfl
 clear h hm ht hb hwt hwb ha hb0 hfew;obtain ⟨ak, ⟨a1, a2, a3⟩, al, avl, avv, atm⟩ := a;simp only at hk;subst hk
 go_enter Tryz.func25, Tryz.ntmps25
 go_wp2_with fail
 refine Calls.mono HW.out ?_;rintro e w2 ⟨rfl, hc⟩;have H2 : Hid _ := hc;clear hc HW;go_wp2;go_ret;rw [HS.out];exact ⟨rfl, H2.out⟩
theorem compile_drop0 (wB w : World) (bc : Nat) (aoT : Option Addr) (capT : Nat) (tl : List Plc) (aoB : Option Addr) (capB : Nat) (bl : List Plc) (mp ms c0 : Nat) (ls : List Sit) (s : Cst) (a : Acn) (hk : a.kind = 7 ∧ bl = []) (h : Cmp wB w bc (.slice aoT tl.length capT) (.slice aoB bl.length capB) mp ms s)
  (hm : MF kkP wB mp c0 (floorP ls)) (ht : RdR encP wB aoT tl) (hb : RdR encP wB aoB bl) (hwt : ∀ p ∈ tl, Wf3 p) (hwb : ∀ p ∈ bl, Wf3 p) (ha : AcOk tl s a) :
  Calls Tryz.prog 25 #[ptr bc, av a] w fun e w' => e = .returned (.int .i64 (stepC tl bl (ptQ ls) s a).2) ∧ Cmp wB w' bc (.slice aoT tl.length capT) (.slice aoB bl.length capB) mp ms (stepC tl bl (ptQ ls) s a).1 := by
 have hb0 : bw w (w.alloc (aobj a)) := (brf).alloc (Nat.le_refl _) _;have HC0 : Hid (Cmp wB (w.alloc (aobj a)) bc (.slice aoT tl.length capT) (.slice aoB bl.length capB) mp ms s) := h.next hb0;have hfew : s.cs.length ≤ 1000000000 := by have := ha.few; omega
 obtain ⟨hk, hbl⟩ := hk;subst hbl;have HW := hid (eject_no wB (w.alloc (aobj a)) bc (.slice aoT tl.length capT) aoB capB mp ms s HC0.out);have HS : Hid (stepC tl [] (ptQ ls) s a = (s, 5)) := by show _ = _; obtain ⟨ak, apl, al, avl, avv, atm⟩ := a; simp only at hk; subst hk; rfl
 clear h hm ht hb hwt hwb ha hb0 hfew;obtain ⟨ak, ⟨a1, a2, a3⟩, al, avl, avv, atm⟩ := a;simp only at hk;subst hk
 go_enter Tryz.func25, Tryz.ntmps25
 go_wp2_with fail
 refine Calls.mono HW.out ?_;rintro e w2 ⟨rfl, rfl⟩;clear HW;go_wp2;go_ret;rw [HS.out];exact ⟨rfl, HC0.out⟩
theorem compile_drop1 (wB w : World) (bc : Nat) (aoT : Option Addr) (capT : Nat) (tl : List Plc) (aoB : Option Addr) (capB : Nat) (bl : List Plc) (mp ms c0 : Nat) (ls : List Sit) (s : Cst) (a : Acn) (hk : a.kind = 7 ∧ bl ≠ []) (h : Cmp wB w bc (.slice aoT tl.length capT) (.slice aoB bl.length capB) mp ms s)
  (hm : MF kkP wB mp c0 (floorP ls)) (ht : RdR encP wB aoT tl) (hb : RdR encP wB aoB bl) (hwt : ∀ p ∈ tl, Wf3 p) (hwb : ∀ p ∈ bl, Wf3 p) (ha : AcOk tl s a) :
  Calls Tryz.prog 25 #[ptr bc, av a] w fun e w' => e = .returned (.int .i64 (stepC tl bl (ptQ ls) s a).2) ∧ Cmp wB w' bc (.slice aoT tl.length capT) (.slice aoB bl.length capB) mp ms (stepC tl bl (ptQ ls) s a).1 := by
 have hb0 : bw w (w.alloc (aobj a)) := (brf).alloc (Nat.le_refl _) _;have HC0 : Hid (Cmp wB (w.alloc (aobj a)) bc (.slice aoT tl.length capT) (.slice aoB bl.length capB) mp ms s) := h.next hb0;have hfew : s.cs.length ≤ 1000000000 := by have := ha.few; omega
 obtain ⟨hk, hbl⟩ := hk;obtain ⟨p, bl, rfl⟩ := List.exists_cons_of_ne_nil hbl;have HW := hid (eject_any wB (w.alloc (aobj a)) bc (.slice aoT tl.length capT) aoB capB p bl mp ms c0 ls s HC0.out hm hb (hwb p (by simp)) hfew);have HS : Hid (stepC tl (p :: bl) (ptQ ls) s a = (⟨s.cs ++ workC (ptQ ls p) (cd 5 0), s.used, 0⟩, 0)) := by show _ = _; obtain ⟨ak, apl, al, avl, avv, atm⟩ := a; simp only at hk; subst hk; rfl
 clear h hm ht hb hwt hwb ha hb0 hfew hbl;obtain ⟨ak, ⟨a1, a2, a3⟩, al, avl, avv, atm⟩ := a;simp only at hk;subst hk
 go_enter Tryz.func25, Tryz.ntmps25
 go_wp2_with fail
 refine Calls.mono HW.out ?_;rintro e w2 ⟨rfl, hc⟩;have H2 : Hid _ := hc;clear hc HW;go_wp2;go_ret;rw [HS.out];exact ⟨rfl, H2.out⟩
theorem compile_draw (wB w : World) (bc : Nat) (aoT : Option Addr) (capT : Nat) (tl : List Plc) (aoB : Option Addr) (capB : Nat) (bl : List Plc) (mp ms c0 : Nat) (ls : List Sit) (s : Cst) (a : Acn) (hk : a.kind = 8) (h : Cmp wB w bc (.slice aoT tl.length capT) (.slice aoB bl.length capB) mp ms s)
  (hm : MF kkP wB mp c0 (floorP ls)) (ht : RdR encP wB aoT tl) (hb : RdR encP wB aoB bl) (hwt : ∀ p ∈ tl, Wf3 p) (hwb : ∀ p ∈ bl, Wf3 p) (ha : AcOk tl s a) :
  Calls Tryz.prog 25 #[ptr bc, av a] w fun e w' => e = .returned (.int .i64 (stepC tl bl (ptQ ls) s a).2) ∧ Cmp wB w' bc (.slice aoT tl.length capT) (.slice aoB bl.length capB) mp ms (stepC tl bl (ptQ ls) s a).1 := by
 have hb0 : bw w (w.alloc (aobj a)) := (brf).alloc (Nat.le_refl _) _;have HC0 : Hid (Cmp wB (w.alloc (aobj a)) bc (.slice aoT tl.length capT) (.slice aoB bl.length capB) mp ms s) := h.next hb0;have hfew : s.cs.length ≤ 1000000000 := by have := ha.few; omega
 have HW := hid (press_any wB (w.alloc (aobj a)) bc (.slice aoT tl.length capT) (.slice aoB bl.length capB) mp ms c0 ls s a.pl a.vol HC0.out hm (ha.well (.inl hk)).1 hfew (by have := ha.held; omega) (by have := (ha.well (.inl hk)).2; omega));have HS : Hid (stepC tl bl (ptQ ls) s a = (⟨s.cs ++ workC (ptQ ls a.pl) (cd 3 (s.held + a.vol)), s.used, s.held + a.vol⟩, 0)) := by show _ = _; obtain ⟨ak, apl, al, avl, avv, atm⟩ := a; simp only at hk; subst hk; rfl
 clear h hm ht hb hwt hwb ha hb0 hfew;obtain ⟨ak, ⟨a1, a2, a3⟩, al, avl, avv, atm⟩ := a;simp only at hk;subst hk
 go_enter Tryz.func25, Tryz.ntmps25
 go_wp2_with fail
 refine Calls.mono HW.out ?_;rintro e w2 ⟨rfl, hc⟩;have H2 : Hid _ := hc;clear hc HW;go_wp2;go_ret;rw [HS.out];exact ⟨rfl, H2.out⟩
theorem compile_put (wB w : World) (bc : Nat) (aoT : Option Addr) (capT : Nat) (tl : List Plc) (aoB : Option Addr) (capB : Nat) (bl : List Plc) (mp ms c0 : Nat) (ls : List Sit) (s : Cst) (a : Acn) (hk : a.kind = 9) (h : Cmp wB w bc (.slice aoT tl.length capT) (.slice aoB bl.length capB) mp ms s)
  (hm : MF kkP wB mp c0 (floorP ls)) (ht : RdR encP wB aoT tl) (hb : RdR encP wB aoB bl) (hwt : ∀ p ∈ tl, Wf3 p) (hwb : ∀ p ∈ bl, Wf3 p) (ha : AcOk tl s a) :
  Calls Tryz.prog 25 #[ptr bc, av a] w fun e w' => e = .returned (.int .i64 (stepC tl bl (ptQ ls) s a).2) ∧ Cmp wB w' bc (.slice aoT tl.length capT) (.slice aoB bl.length capB) mp ms (stepC tl bl (ptQ ls) s a).1 := by
 have hb0 : bw w (w.alloc (aobj a)) := (brf).alloc (Nat.le_refl _) _;have HC0 : Hid (Cmp wB (w.alloc (aobj a)) bc (.slice aoT tl.length capT) (.slice aoB bl.length capB) mp ms s) := h.next hb0;have hfew : s.cs.length ≤ 1000000000 := by have := ha.few; omega
 have HW := hid (press_any wB (w.alloc (aobj a)) bc (.slice aoT tl.length capT) (.slice aoB bl.length capB) mp ms c0 ls s a.pl (-a.vol) HC0.out hm (ha.well (.inr hk)).1 hfew (by have := ha.held; omega) (by have := (ha.well (.inr hk)).2; omega));have hwr : wrap64 (-a.vol) = -a.vol := IntWalk.wrap64_in _ (by have := (ha.well (.inr hk)).2; exact ⟨by omega, by omega⟩);have HS : Hid (stepC tl bl (ptQ ls) s a = (⟨s.cs ++ workC (ptQ ls a.pl) (cd 3 (s.held + -a.vol)), s.used, s.held + -a.vol⟩, 0)) := by show _ = _; obtain ⟨ak, apl, al, avl, avv, atm⟩ := a; simp only at hk; subst hk; rfl
 clear h hm ht hb hwt hwb ha hb0 hfew;obtain ⟨ak, ⟨a1, a2, a3⟩, al, avl, avv, atm⟩ := a;simp only at hk;subst hk
 go_enter Tryz.func25, Tryz.ntmps25
 go_wp2_with fail
 refine Calls.mono HW.out ?_;rintro e w2 ⟨rfl, hc⟩;have H2 : Hid _ := hc;clear hc HW;go_wp2;go_ret;rw [HS.out];exact ⟨rfl, H2.out⟩
theorem compile_warm (wB w : World) (bc : Nat) (aoT : Option Addr) (capT : Nat) (tl : List Plc) (aoB : Option Addr) (capB : Nat) (bl : List Plc) (mp ms c0 : Nat) (ls : List Sit) (s : Cst) (a : Acn) (hk : a.kind = 11) (h : Cmp wB w bc (.slice aoT tl.length capT) (.slice aoB bl.length capB) mp ms s)
  (hm : MF kkP wB mp c0 (floorP ls)) (ht : RdR encP wB aoT tl) (hb : RdR encP wB aoB bl) (hwt : ∀ p ∈ tl, Wf3 p) (hwb : ∀ p ∈ bl, Wf3 p) (ha : AcOk tl s a) :
  Calls Tryz.prog 25 #[ptr bc, av a] w fun e w' => e = .returned (.int .i64 (stepC tl bl (ptQ ls) s a).2) ∧ Cmp wB w' bc (.slice aoT tl.length capT) (.slice aoB bl.length capB) mp ms (stepC tl bl (ptQ ls) s a).1 := by
 have hb0 : bw w (w.alloc (aobj a)) := (brf).alloc (Nat.le_refl _) _;have HC0 : Hid (Cmp wB (w.alloc (aobj a)) bc (.slice aoT tl.length capT) (.slice aoB bl.length capB) mp ms s) := h.next hb0;have hfew : s.cs.length ≤ 1000000000 := by have := ha.few; omega
 have HW : Hid (∀ x, Bk x (encK.cells [cd 6 a.value]) ((w.alloc (aobj a)).alloc (.cells (cdl (cd 6 a.value)).toArray 49)) → Calls Tryz.prog 57 #[ptr bc, .slice (some ⟨x, 0, none⟩) 1 1] ((w.alloc (aobj a)).alloc (.cells (cdl (cd 6 a.value)).toArray 49)) fun e w2 => e = .returned (.tuple #[]) ∧ Cmp wB w2 bc (.slice aoT tl.length capT) (.slice aoB bl.length capB) mp ms ⟨s.cs ++ [cd 6 a.value], s.used, s.held⟩) := fun x hx => tell_any wB _ bc _ _ mp ms s ⟨x, 0, none⟩ 1 [cd 6 a.value] (HC0.out.next ((brf).alloc (Nat.le_refl _) _)) (rdK_of hx) (by simp) hfew;have HS : Hid (stepC tl bl (ptQ ls) s a = (⟨s.cs ++ [cd 6 a.value], s.used, s.held⟩, 0)) := by show _ = _; obtain ⟨ak, apl, al, avl, avv, atm⟩ := a; simp only at hk; subst hk; rfl
 clear h hm ht hb hwt hwb ha hb0 hfew;obtain ⟨ak, ⟨a1, a2, a3⟩, al, avl, avv, atm⟩ := a;simp only at hk;subst hk
 go_enter Tryz.func25, Tryz.ntmps25
 go_wp2_with fail
 refine Calls.mono (HW.out _ (Bk.new _ (encK.cells [cd 6 avv]) 49 _ (by simp))) ?_;rintro e w2 ⟨rfl, hc⟩;have H2 : Hid _ := hc;clear hc HW;go_wp2;go_ret;rw [HS.out];exact ⟨rfl, H2.out⟩
theorem compile_hold (wB w : World) (bc : Nat) (aoT : Option Addr) (capT : Nat) (tl : List Plc) (aoB : Option Addr) (capB : Nat) (bl : List Plc) (mp ms c0 : Nat) (ls : List Sit) (s : Cst) (a : Acn) (hk : a.kind = 12) (h : Cmp wB w bc (.slice aoT tl.length capT) (.slice aoB bl.length capB) mp ms s)
  (hm : MF kkP wB mp c0 (floorP ls)) (ht : RdR encP wB aoT tl) (hb : RdR encP wB aoB bl) (hwt : ∀ p ∈ tl, Wf3 p) (hwb : ∀ p ∈ bl, Wf3 p) (ha : AcOk tl s a) :
  Calls Tryz.prog 25 #[ptr bc, av a] w fun e w' => e = .returned (.int .i64 (stepC tl bl (ptQ ls) s a).2) ∧ Cmp wB w' bc (.slice aoT tl.length capT) (.slice aoB bl.length capB) mp ms (stepC tl bl (ptQ ls) s a).1 := by
 have hb0 : bw w (w.alloc (aobj a)) := (brf).alloc (Nat.le_refl _) _;have HC0 : Hid (Cmp wB (w.alloc (aobj a)) bc (.slice aoT tl.length capT) (.slice aoB bl.length capB) mp ms s) := h.next hb0;have hfew : s.cs.length ≤ 1000000000 := by have := ha.few; omega
 have HW := hid (rest_any wB (w.alloc (aobj a)) bc (.slice aoT tl.length capT) (.slice aoB bl.length capB) mp ms s a.time HC0.out hfew);have HS : Hid (stepC tl bl (ptQ ls) s a = (⟨s.cs ++ restC a.time, s.used, s.held⟩, 0)) := by show _ = _; obtain ⟨ak, apl, al, avl, avv, atm⟩ := a; simp only at hk; subst hk; rfl
 clear h hm ht hb hwt hwb ha hb0 hfew;obtain ⟨ak, ⟨a1, a2, a3⟩, al, avl, avv, atm⟩ := a;simp only at hk;subst hk
 go_enter Tryz.func25, Tryz.ntmps25
 go_wp2_with fail
 refine Calls.mono HW.out ?_;rintro e w2 ⟨rfl, hc⟩;have H2 : Hid _ := hc;clear hc HW;go_wp2;go_ret;rw [HS.out];exact ⟨rfl, H2.out⟩
theorem compile_wait (wB w : World) (bc : Nat) (aoT : Option Addr) (capT : Nat) (tl : List Plc) (aoB : Option Addr) (capB : Nat) (bl : List Plc) (mp ms c0 : Nat) (ls : List Sit) (s : Cst) (a : Acn) (hk : a.kind = 14) (h : Cmp wB w bc (.slice aoT tl.length capT) (.slice aoB bl.length capB) mp ms s)
  (hm : MF kkP wB mp c0 (floorP ls)) (ht : RdR encP wB aoT tl) (hb : RdR encP wB aoB bl) (hwt : ∀ p ∈ tl, Wf3 p) (hwb : ∀ p ∈ bl, Wf3 p) (ha : AcOk tl s a) :
  Calls Tryz.prog 25 #[ptr bc, av a] w fun e w' => e = .returned (.int .i64 (stepC tl bl (ptQ ls) s a).2) ∧ Cmp wB w' bc (.slice aoT tl.length capT) (.slice aoB bl.length capB) mp ms (stepC tl bl (ptQ ls) s a).1 := by
 have hb0 : bw w (w.alloc (aobj a)) := (brf).alloc (Nat.le_refl _) _;have HC0 : Hid (Cmp wB (w.alloc (aobj a)) bc (.slice aoT tl.length capT) (.slice aoB bl.length capB) mp ms s) := h.next hb0;have hfew : s.cs.length ≤ 1000000000 := by have := ha.few; omega
 have HW := hid (rest_any wB (w.alloc (aobj a)) bc (.slice aoT tl.length capT) (.slice aoB bl.length capB) mp ms s a.time HC0.out hfew);have HS : Hid (stepC tl bl (ptQ ls) s a = (⟨s.cs ++ restC a.time, s.used, s.held⟩, 0)) := by show _ = _; obtain ⟨ak, apl, al, avl, avv, atm⟩ := a; simp only at hk; subst hk; rfl
 clear h hm ht hb hwt hwb ha hb0 hfew;obtain ⟨ak, ⟨a1, a2, a3⟩, al, avl, avv, atm⟩ := a;simp only at hk;subst hk
 go_enter Tryz.func25, Tryz.ntmps25
 go_wp2_with fail
 refine Calls.mono HW.out ?_;rintro e w2 ⟨rfl, hc⟩;have H2 : Hid _ := hc;clear hc HW;go_wp2;go_ret;rw [HS.out];exact ⟨rfl, H2.out⟩
theorem compile_shake (wB w : World) (bc : Nat) (aoT : Option Addr) (capT : Nat) (tl : List Plc) (aoB : Option Addr) (capB : Nat) (bl : List Plc) (mp ms c0 : Nat) (ls : List Sit) (s : Cst) (a : Acn) (hk : a.kind = 13) (h : Cmp wB w bc (.slice aoT tl.length capT) (.slice aoB bl.length capB) mp ms s)
  (hm : MF kkP wB mp c0 (floorP ls)) (ht : RdR encP wB aoT tl) (hb : RdR encP wB aoB bl) (hwt : ∀ p ∈ tl, Wf3 p) (hwb : ∀ p ∈ bl, Wf3 p) (ha : AcOk tl s a) :
  Calls Tryz.prog 25 #[ptr bc, av a] w fun e w' => e = .returned (.int .i64 (stepC tl bl (ptQ ls) s a).2) ∧ Cmp wB w' bc (.slice aoT tl.length capT) (.slice aoB bl.length capB) mp ms (stepC tl bl (ptQ ls) s a).1 := by
 have hb0 : bw w (w.alloc (aobj a)) := (brf).alloc (Nat.le_refl _) _;have HC0 : Hid (Cmp wB (w.alloc (aobj a)) bc (.slice aoT tl.length capT) (.slice aoB bl.length capB) mp ms s) := h.next hb0;have hfew : s.cs.length ≤ 1000000000 := by have := ha.few; omega
 have HW : Hid (∀ x, Bk x (encK.cells [cd 8 a.value]) ((w.alloc (aobj a)).alloc (.cells (cdl (cd 8 a.value)).toArray 49)) → Calls Tryz.prog 57 #[ptr bc, .slice (some ⟨x, 0, none⟩) 1 1] ((w.alloc (aobj a)).alloc (.cells (cdl (cd 8 a.value)).toArray 49)) fun e w2 => e = .returned (.tuple #[]) ∧ Cmp wB w2 bc (.slice aoT tl.length capT) (.slice aoB bl.length capB) mp ms ⟨s.cs ++ [cd 8 a.value], s.used, s.held⟩ ∧ w2.cell? ⟨w.heap.size, 7, none⟩ = some (.int .i64 a.time)) := fun x hx => (tell_keep wB _ bc _ _ mp ms s ⟨x, 0, none⟩ 1 [cd 8 a.value] (HC0.out.next ((brf).alloc (Nat.le_refl _) _)) (rdK_of hx) (by simp) hfew).mono fun e w2 ⟨q1, q2, q3⟩ => ⟨q1, q2, by
  have hbc : bc < w.heap.size := h.bk.choose_spec.choose_spec.choose_spec.1.1;have e1 : ((w.alloc (aobj a)).alloc (.cells (cdl (cd 8 a.value)).toArray 49)).heap[w.heap.size]? = some (aobj a) := (Below.heap_alloc _ _ _ (by simp)).trans (World.alloc_heap_new w _);have e2 := q3 w.heap.size (by simp; omega) (by omega) (fun cur f e => by rw [e1] at e; simp at e)
  exact (World.cell?_of_block (a := ⟨w.heap.size, 7, none⟩) (e2.trans e1 |>.trans (World.alloc_heap_new w (aobj a)).symm)).trans (by go_simp)⟩
 have HR : Hid (∀ W, Cmp wB W bc (.slice aoT tl.length capT) (.slice aoB bl.length capB) mp ms ⟨s.cs ++ [cd 8 a.value], s.used, s.held⟩ → Calls Tryz.prog 62 #[ptr bc, .int .i64 a.time] W fun e w2 => e = .returned (.tuple #[]) ∧ Cmp wB w2 bc (.slice aoT tl.length capT) (.slice aoB bl.length capB) mp ms ⟨(s.cs ++ [cd 8 a.value]) ++ restC a.time, s.used, s.held⟩) := fun W hW => rest_any wB W bc _ _ mp ms ⟨s.cs ++ [cd 8 a.value], s.used, s.held⟩ a.time hW (by have := ha.few; simp; omega)
 have HT : Hid (∀ W, Cmp wB W bc (.slice aoT tl.length capT) (.slice aoB bl.length capB) mp ms ⟨(s.cs ++ [cd 8 a.value]) ++ restC a.time, s.used, s.held⟩ → ∀ x, Bk x (encK.cells [cd 8 0]) W → Calls Tryz.prog 57 #[ptr bc, .slice (some ⟨x, 0, none⟩) 1 1] W fun e w2 => e = .returned (.tuple #[]) ∧ Cmp wB w2 bc (.slice aoT tl.length capT) (.slice aoB bl.length capB) mp ms ⟨(s.cs ++ [cd 8 a.value]) ++ restC a.time ++ [cd 8 0], s.used, s.held⟩) := fun W hW x hx => tell_any wB W bc _ _ mp ms ⟨(s.cs ++ [cd 8 a.value]) ++ restC a.time, s.used, s.held⟩ ⟨x, 0, none⟩ 1 [cd 8 0] hW (rdK_of hx) (by simp) (by have := ha.few; have : (restC a.time).length ≤ 1 := (by unfold restC; split <;> simp); simp; omega)
 have HS : Hid (stepC tl bl (ptQ ls) s a = (⟨s.cs ++ [cd 8 a.value] ++ restC a.time ++ [cd 8 0], s.used, s.held⟩, 0)) := by show _ = _; obtain ⟨ak, apl, al, avl, avv, atm⟩ := a; simp only at hk; subst hk; rfl
 clear h hm ht hb hwt hwb ha hb0 hfew;obtain ⟨ak, ⟨a1, a2, a3⟩, al, avl, avv, atm⟩ := a;simp only at hk;subst hk
 go_enter Tryz.func25, Tryz.ntmps25
 go_wp2_with fail
 refine Calls.mono (HW.out _ (Bk.new _ (encK.cells [cd 8 avv]) 49 _ (by simp))) ?_;rintro e w2 ⟨rfl, hc, q7⟩;have H2 : Hid _ := hc;clear hc HW
 go_wp2_with fail
 refine Calls.mono (HR.out _ H2.out) ?_;rintro e w3 ⟨rfl, hc⟩;have H3 : Hid _ := hc;clear hc HR q7 H2
 go_wp2_with fail
 refine Calls.mono (HT.out _ (H3.out.next ((brf).alloc (Nat.le_refl _) _)) _ (Bk.new _ (encK.cells [cd 8 0]) 49 _ rfl)) ?_;rintro e w4 ⟨rfl, hc⟩;have H4 : Hid _ := hc;clear hc HT H3;go_wp2;go_ret;rw [HS.out];exact ⟨rfl, H4.out⟩
theorem compile_none (wB w : World) (bc : Nat) (aoT : Option Addr) (capT : Nat) (tl : List Plc) (aoB : Option Addr) (capB : Nat) (bl : List Plc) (mp ms c0 : Nat) (ls : List Sit) (s : Cst) (a : Acn) (hk : a.kind ≠ 5 ∧ a.kind ≠ 6 ∧ a.kind ≠ 7 ∧ a.kind ≠ 8 ∧ a.kind ≠ 9 ∧ a.kind ≠ 11 ∧ a.kind ≠ 12 ∧ a.kind ≠ 13 ∧ a.kind ≠ 14) (h : Cmp wB w bc (.slice aoT tl.length capT) (.slice aoB bl.length capB) mp ms s)
  (hm : MF kkP wB mp c0 (floorP ls)) (ht : RdR encP wB aoT tl) (hb : RdR encP wB aoB bl) (hwt : ∀ p ∈ tl, Wf3 p) (hwb : ∀ p ∈ bl, Wf3 p) (ha : AcOk tl s a) :
  Calls Tryz.prog 25 #[ptr bc, av a] w fun e w' => e = .returned (.int .i64 (stepC tl bl (ptQ ls) s a).2) ∧ Cmp wB w' bc (.slice aoT tl.length capT) (.slice aoB bl.length capB) mp ms (stepC tl bl (ptQ ls) s a).1 := by
 have hb0 : bw w (w.alloc (aobj a)) := (brf).alloc (Nat.le_refl _) _;have HC0 : Hid (Cmp wB (w.alloc (aobj a)) bc (.slice aoT tl.length capT) (.slice aoB bl.length capB) mp ms s) := h.next hb0;have hfew : s.cs.length ≤ 1000000000 := by have := ha.few; omega
 obtain ⟨k1, k2, k3, k4, k5, k6, k7, k8, k9⟩ := hk;have HS : Hid (stepC tl bl (ptQ ls) s a = (s, 0)) := by show _ = _; unfold stepC; simp [k2, k3, k4, k5, k6, k7, k8, k9]
 have e5 : (a.kind == 5) = false := by simpa using k1
 have e6 : (a.kind == 6) = false := by simpa using k2
 have e7 : (a.kind == 7) = false := by simpa using k3
 have e8 : (a.kind == 8) = false := by simpa using k4
 have e9 : (a.kind == 9) = false := by simpa using k5
 have e11 : (a.kind == 11) = false := by simpa using k6
 have e12 : (a.kind == 12) = false := by simpa using k7
 have e13 : (a.kind == 13) = false := by simpa using k8
 have e14 : (a.kind == 14) = false := by simpa using k9
 clear h hm ht hb hwt hwb ha hb0 hfew k1 k2 k3 k4 k5 k6 k7 k8 k9;obtain ⟨ak, ⟨a1, a2, a3⟩, al, avl, avv, atm⟩ := a;simp only at *
 go_enter Tryz.func25, Tryz.ntmps25
 go_wp2;go_ret;rw [HS.out];exact ⟨rfl, HC0.out⟩
theorem compile_any (wB w : World) (bc : Nat) (aoT : Option Addr) (capT : Nat) (tl : List Plc) (aoB : Option Addr) (capB : Nat) (bl : List Plc) (mp ms c0 : Nat) (ls : List Sit) (s : Cst) (a : Acn) (h : Cmp wB w bc (.slice aoT tl.length capT) (.slice aoB bl.length capB) mp ms s)
  (hm : MF kkP wB mp c0 (floorP ls)) (ht : RdR encP wB aoT tl) (hb : RdR encP wB aoB bl) (hwt : ∀ p ∈ tl, Wf3 p) (hwb : ∀ p ∈ bl, Wf3 p) (ha : AcOk tl s a) :
  Calls Tryz.prog 25 #[ptr bc, av a] w fun e w' => e = .returned (.int .i64 (stepC tl bl (ptQ ls) s a).2) ∧ Cmp wB w' bc (.slice aoT tl.length capT) (.slice aoB bl.length capB) mp ms (stepC tl bl (ptQ ls) s a).1 := by
 by_cases k5 : a.kind = 5
 ·exact compile_fill wB w bc aoT capT tl aoB capB bl mp ms c0 ls s a k5 h hm ht hb hwt hwb ha
 by_cases k6 : a.kind = 6
 ·exact compile_tip wB w bc aoT capT tl aoB capB bl mp ms c0 ls s a k6 h hm ht hb hwt hwb ha
 by_cases k7 : a.kind = 7
 ·by_cases hbl : bl = []
  ·exact compile_drop0 wB w bc aoT capT tl aoB capB bl mp ms c0 ls s a ⟨k7, hbl⟩ h hm ht hb hwt hwb ha
  ·exact compile_drop1 wB w bc aoT capT tl aoB capB bl mp ms c0 ls s a ⟨k7, hbl⟩ h hm ht hb hwt hwb ha
 by_cases k8 : a.kind = 8
 ·exact compile_draw wB w bc aoT capT tl aoB capB bl mp ms c0 ls s a k8 h hm ht hb hwt hwb ha
 by_cases k9 : a.kind = 9
 ·exact compile_put wB w bc aoT capT tl aoB capB bl mp ms c0 ls s a k9 h hm ht hb hwt hwb ha
 by_cases k11 : a.kind = 11
 ·exact compile_warm wB w bc aoT capT tl aoB capB bl mp ms c0 ls s a k11 h hm ht hb hwt hwb ha
 by_cases k12 : a.kind = 12
 ·exact compile_hold wB w bc aoT capT tl aoB capB bl mp ms c0 ls s a k12 h hm ht hb hwt hwb ha
 by_cases k13 : a.kind = 13
 ·exact compile_shake wB w bc aoT capT tl aoB capB bl mp ms c0 ls s a k13 h hm ht hb hwt hwb ha
 by_cases k14 : a.kind = 14
 ·exact compile_wait wB w bc aoT capT tl aoB capB bl mp ms c0 ls s a k14 h hm ht hb hwt hwb ha
 exact compile_none wB w bc aoT capT tl aoB capB bl mp ms c0 ls s a ⟨k5, k6, k7, k8, k9, k11, k12, k13, k14⟩ h hm ht hb hwt hwb ha
theorem newCompiler_any (w : World) (aoT : Option Addr) (nT capT : Nat) (aoB : Option Addr) (nB capB mp ms : Nat) :
  Calls Tryz.prog 24 #[flv (.slice aoT nT capT) (.slice aoB nB capB) mp ms] w fun e w' => ∃ bc, e = .returned (ptr bc) ∧ Cmp w w' bc (.slice aoT nT capT) (.slice aoB nB capB) mp ms cst0 := by
 obtain ⟨w2, hw2⟩ : ∃ w2, w2 = (w.alloc (.cells #[.slice aoT nT capT, .slice aoB nB capB, .map (some mp), .map (some ms)] 66)).alloc (.cells #[.slice aoT nT capT, .slice aoB nB capB, .map (some mp), .map (some ms), .slice none 0 0, .int .i64 0, .int .i64 0] 80) := ⟨_, rfl⟩;have hb2 : bw w w2 := by rw [hw2]; exact ((brf).alloc (Nat.le_refl _) _).alloc (by simp) _
 have KB : Hid (Bk (w.heap.size + 1) (cmc (.slice aoT nT capT) (.slice aoB nB capB) (.slice none 0 0) mp ms 0 0) w2) := by show Bk _ _ _; rw [hw2]; exact Bk.new _ (cmc (.slice aoT nT capT) (.slice aoB nB capB) (.slice none 0 0) mp ms 0 0) 80 (w.heap.size + 1) (by simp)
 have HC : Hid (Cmp w w2 (w.heap.size + 1) (.slice aoT nT capT) (.slice aoB nB capB) mp ms ⟨[], 0, 0⟩) := ⟨hb2, Nat.le_succ _, none, 0, 0, KB.out, OwnR.nil _ _ _⟩;have HW2 := hdd hw2;have HT : Hid (∀ W, bw w2 W → ∀ x, Bk x (encK.cells [cd 1 0, goC ⟨0, 0, 200000⟩]) W → Calls Tryz.prog 57 #[ptr (w.heap.size + 1), .slice (some ⟨x, 0, none⟩) 2 2] W fun e w' => e = .returned (.tuple #[]) ∧ Cmp w w' (w.heap.size + 1) (.slice aoT nT capT) (.slice aoB nB capB) mp ms cst0) := fun W hW x hx => tell_any w W (w.heap.size + 1) _ _ mp ms ⟨[], 0, 0⟩ ⟨x, 0, none⟩ 2 [cd 1 0, goC ⟨0, 0, 200000⟩] (HC.out.next hW) (rdK_of hx) (by simp) (by simp);clear hb2 hw2
 go_enter Tryz.func24, Tryz.ntmps24
 go_wp2_with fail
 rw [← HW2.out];refine Calls.mono (goTo_any ⟨0, 0, 200000⟩ w2) ?_;rintro e w3 ⟨rfl, hb3⟩;have HB3 : Hid _ := hb3;clear hb3 HW2
 go_wp2_with fail
 refine Calls.mono (HT.out _ (HB3.out.trans (((brf).alloc (Nat.le_refl _) _).mono HB3.out.size)) _ (Bk.new w3 (encK.cells [cd 1 0, goC ⟨0, 0, 200000⟩]) 49 _ rfl)) ?_;rintro e w4 ⟨rfl, hc⟩;have H4 : Hid _ := hc;clear hc HT;go_wp2;go_ret;exact ⟨_, rfl, H4.out⟩
structure CI (l : List Sit) (acs : List Acn) (k : Nat) (s : Cst) : Prop where
 used : (s.used : Int) = (staA l acs k).used
 held : -(1000000000 * (k : Int)) ≤ s.held ∧ s.held ≤ 1000000000 * (k : Int)
 few : s.cs.length ≤ 2 + 4 * k
 le : s.used ≤ k
theorem CI.start (l : List Sit) (acs : List Acn) : CI l acs 0 cst0 := ⟨rfl, by simp [cst0], by simp [cst0], by simp [cst0]⟩
theorem work_len (p : S.Pt) (c : Cd) : (workC p c).length = 4 := rfl
theorem rest_len (t : Int) : (restC t).length ≤ 1 := by unfold restC; split <;> simp
theorem CI.step {l : List Sit} {acs : List Acn} {k : Nat} {s : Cst} {ts bins : List Plc} {pt : Plc → S.Pt} (h : CI l acs k s) (hk : k < acs.length) (hd : (doA l (staA l acs k) (acs[k]'hk)).2 = 0) : CI l acs (k + 1) (stepC ts bins pt s (acs[k]'hk)).1 := by
 obtain ⟨h1, ⟨h2, h3⟩, h4, h5⟩ := h;have hu := staA_succ (l := l) hk
 have hv : (acs[k]'hk).kind = 8 ∨ (acs[k]'hk).kind = 9 → 1 ≤ (acs[k]'hk).vol ∧ (acs[k]'hk).vol ≤ 1000000000 := fun e => by
  rcases e with e | e
  ·exact (vol_draw e hd).2
  ·exact (vol_put e hd).2
 generalize acs[k]'hk = a at *;have hrl := rest_len a.time
 by_cases k6 : a.kind = 6
 ·have := (used_tip k6 hd).2
  refine ⟨?_, ?_, ?_, ?_⟩
  ·rw [hu, this]; simp [stepC, k6]; exact h1
  ·simp only [stepC, if_pos k6]; omega
  ·simp only [stepC, if_pos k6, List.length_append, work_len]; omega
  ·simp only [stepC, if_pos k6]; omega
 ·have := used_same (l := l) (s := staA l acs k) k6
  refine ⟨?_, ?_, ?_, ?_⟩
  ·rw [hu, this, ← h1]
   unfold stepC;rw [if_neg k6]
   repeat' split
   all_goals rfl
  ·unfold stepC
   rw [if_neg k6]
   repeat' split
   all_goals first
    | (simp only; omega)
    | (have := hv (.inl (by assumption)); simp only; omega)
    | (have := hv (.inr (by assumption)); simp only; omega)
  ·unfold stepC
   rw [if_neg k6]
   repeat' split
   all_goals (simp only [List.length_append, work_len, List.length_cons, List.length_nil]; omega)
  ·unfold stepC
   rw [if_neg k6]
   repeat' split
   all_goals (simp only; omega)
theorem rd_own {α : Type} {c : Enc α} (hg : Good c) {w : World} {B : Nat} {ao : Option Addr} {n cap : Nat} {xs : List α} (h : OwnR c w B (.slice ao n cap) xs) : RdR c w ao xs := by
 rcases h.read hg with ⟨e, _⟩ | ⟨g, cap', e, _, _, hlt, hc⟩
 ·exact .inl e
 ·injection e with e1 e2 e3
  exact .inr ⟨g, 0, e1, hlt, fun k hk j hj => by rw [Nat.zero_add]; exact hc k hk j hj⟩
def compR (l ls : List Sit) (acs : List Acn) : List Cd × Nat × Int :=
 if dchk l ≠ 0 then ([], 0, dchk l) else if (runR l acs).2.2 ≠ 0 then ([], (runR l acs).2.1, (runR l acs).2.2) else
  if (compL (tipsL l) (floorB ls) (ptQ ls) cst0 0 acs).2.2 = 0 then ((compL (tipsL l) (floorB ls) (ptQ ls) cst0 0 acs).1.cs, 0, 0) else ([], (compL (tipsL l) (floorB ls) (ptQ ls) cst0 0 acs).2.1, (compL (tipsL l) (floorB ls) (ptQ ls) cst0 0 acs).2.2)
theorem compile_err1 (ao : Option Addr) (cap : Nat) (l : List Sit) (aoA : Option Addr) (capA : Nat) (acs : List Acn) (w : World) (hD : Dk w ao cap l) (hl : l.length ≤ 9223372036854775807) (hd : dchk l ≠ 0) :
  CR 6 #[.slice ao l.length cap, .slice aoA acs.length capA] w (.tuple #[.slice none 0 0, .int .i64 0, .int .i64 (dchk l)]) := by
 have HC := hid (newFloor_err ao cap l w hD hl hd);have hne : (dchk l != 0) = true := by simp [hd]
 clear hD hl hd;generalize dchk l = d at *
 go_enter Tryz.func6, Tryz.ntmps6
 go_wp2_with fail
 refine Calls.mono HC.out ?_;rintro e w1 ⟨rfl, hb⟩;have HB : Hid _ := hb;clear hb HC;go_wp2;refine bodyPost_ret (v := .tuple #[.slice none 0 0, .int .i64 0, .int .i64 d]) (by simp [results, Tryz.results6, go_sem]) rfl ⟨rfl, HB.out.alloc HB.out.size _⟩
theorem compile_err2 (ao : Option Addr) (cap : Nat) (l : List Sit) (aoA : Option Addr) (capA : Nat) (acs : List Acn) (w : World) (hD : Dk w ao cap l) (hA : Acs w aoA acs) (hla : acs.length ≤ 10000000) (hd : dchk l = 0) (hr : (runR l acs).2.2 ≠ 0) :
  CR 6 #[.slice ao l.length cap, .slice aoA acs.length capA] w (.tuple #[.slice none 0 0, .int .i64 ((runR l acs).2.1 : Int), .int .i64 (runR l acs).2.2]) := by
 have HC := hid (newFloor_ok ao cap l w hD hd)
 have HR : Hid (∀ W, bw w W → Calls Tryz.prog 23 #[.slice ao l.length cap, .slice aoA acs.length capA] W fun e w' => ∃ t : Sm, e = .returned (.tuple #[smv t, .int .i64 ((runR l acs).2.1 : Int), .int .i64 (runR l acs).2.2]) ∧ bw W w') := fun W hW =>
  (run_any ao cap l aoA capA acs W (hD.next hW) (by have := dk_len hd; omega) (hA.next hW) (by omega)).mono fun e w' ⟨t, h1, _, _, _, h5⟩ => ⟨t, h1, h5⟩
 have hne : ((runR l acs).2.2 != 0) = true := by simp [hr]
 clear hD hA hd hr;generalize (runR l acs).2.2 = d at *;generalize (runR l acs).2.1 = m at *
 go_enter Tryz.func6, Tryz.ntmps6
 go_wp2_with fail
 refine Calls.mono HC.out ?_;rintro e w1 ⟨ls, v, rfl, hf⟩;obtain ⟨hp, hpw, hb, aoT, capT, aoB, capB, mp, ms, c, hv, _, _, _, _, _, _⟩ := hf;subst hv;have HB : Hid (bw w (w1.alloc (.cells #[.slice aoT (tipsL l).length capT, .slice aoB (floorB ls).length capB, .map (some mp), .map (some ms)] 66))) := hb.alloc hb.size _;clear hb HC hp hpw;generalize (tipsL l).length = nT at *;generalize (floorB ls).length = nB at *
 go_wp2_with fail
 refine Calls.mono (HR.out _ HB.out) ?_;rintro e w2 ⟨t, rfl, hb2⟩;have HB2 := hdd (HB.out.trans (hb2.mono HB.out.size));clear hb2 HR HB;go_wp2;refine bodyPost_ret (v := .tuple #[.slice none 0 0, .int .i64 (m : Int), .int .i64 d]) (by simp [results, Tryz.results6, go_sem]) rfl ⟨rfl, HB2.out.alloc HB2.out.size _⟩
theorem compile_ok (ao : Option Addr) (cap : Nat) (l : List Sit) (aoA : Option Addr) (capA : Nat) (acs : List Acn) (w : World) (hD : Dk w ao cap l) (hA : Acs w aoA acs) (hla : acs.length ≤ 10000000) (hd : dchk l = 0) (hr : (runR l acs).2.2 = 0) :
  Calls Tryz.prog 6 #[.slice ao l.length cap, .slice aoA acs.length capA] w fun e w' => ∃ ls aoC nC capC, ls.Perm l ∧ (ls.Pairwise fun x y => x.slot ≤ y.slot) ∧ e = .returned (.tuple #[.slice aoC nC capC, .int .i64 ((compR l ls acs).2.1 : Int), .int .i64 (compR l ls acs).2.2]) ∧ OwnR encK w' w.heap.size (.slice aoC nC capC) (compR l ls acs).1 ∧ bw w w' := by
 have HC := hid (newFloor_ok ao cap l w hD hd)
 have HR : Hid (∀ W, bw w W → Calls Tryz.prog 23 #[.slice ao l.length cap, .slice aoA acs.length capA] W fun e w' => ∃ t : Sm, e = .returned (.tuple #[smv t, .int .i64 ((runR l acs).2.1 : Int), .int .i64 0]) ∧ bw W w') := fun W hW =>
  (run_any ao cap l aoA capA acs W (hD.next hW) (by have := dk_len hd; omega) (hA.next hW) (by omega)).mono fun e w' ⟨t, h1, _, _, _, h5⟩ => ⟨t, by rw [h1, hr], h5⟩
 have HOK : Hid (∀ j (hj : j < acs.length), (doA l (staA l acs j) (acs[j]'hj)).2 = 0) := run_ok hd hr;have HSS : Hid (∀ s ∈ l, StOk s) := st_ok hd hD.ok;have HDC := hdd hd;have HA := hdd hA
 have HCR : Hid (∀ ls, compR l ls acs = if (compL (tipsL l) (floorB ls) (ptQ ls) cst0 0 acs).2.2 = 0 then ((compL (tipsL l) (floorB ls) (ptQ ls) cst0 0 acs).1.cs, 0, 0) else ([], (compL (tipsL l) (floorB ls) (ptQ ls) cst0 0 acs).2.1, (compL (tipsL l) (floorB ls) (ptQ ls) cst0 0 acs).2.2)) := fun ls => by
  unfold compR;rw [if_neg (by rw [hd]; simp), if_neg (by rw [hr]; simp)]
 clear hD hA hd hr;generalize (runR l acs).2.1 = m at *
 go_enter Tryz.func6, Tryz.ntmps6
 go_wp2_with fail
 refine Calls.mono HC.out ?_;rintro e w1 ⟨ls, v, rfl, hf⟩;obtain ⟨hp, hpw, hb, aoT, capT, aoB, capB, mp, ms, c, hv, hoT, hoB, hmf, hmg, _, _⟩ := hf;subst hv;have HP := hdd hp;have HPW := hdd hpw;have HLS : Hid (∀ s ∈ ls, StOk s) := fun s hs => HSS.out s (hp.subset hs);have HB1 := hdd hb;have HT1 := hdd hoT;have HO1 := hdd hoB;have HM1 := hdd hmf;have HTW : Hid (∀ p ∈ tipsL l, Wf3 p) := tips_wf HSS.out;have HBW : Hid (∀ p ∈ floorB ls, Wf3 p) := floorB_wf HLS.out;have HCR2 := hid (HCR.out ls);have hb2 : bw w1 (w1.alloc (.cells #[.slice aoT (tipsL l).length capT, .slice aoB (floorB ls).length capB, .map (some mp), .map (some ms)] 66)) := (brf).alloc (Nat.le_refl _) _;have HB2 := hdd hb2
 have HCI : Hid (∀ k s, CI l acs k s → ∀ hk : k < acs.length, AcOk (tipsL l) s (acs[k]'hk)) := by
  intro k s hci hk;have hdo := HOK.out k hk;have hh := hci.held;have hf := hci.few;have hu := hci.used;refine ⟨fun e => ?_, fun e => ?_, ?_, ?_, by omega⟩
  ·have := (used_tip e hdo).1
   omega
  ·rcases e with e | e
   ·exact ⟨wf_place HDC.out (vol_draw e hdo).1, (vol_draw e hdo).2⟩
   ·exact ⟨wf_place HDC.out (vol_put e hdo).1, (vol_put e hdo).2⟩
  ·omega
  ·have := hci.le
   omega
 have KF2 : Hid (Bk w1.heap.size (flc (.slice aoT (tipsL l).length capT) (.slice aoB (floorB ls).length capB) mp ms) (w1.alloc (.cells #[.slice aoT (tipsL l).length capT, .slice aoB (floorB ls).length capB, .map (some mp), .map (some ms)] 66))) := Bk.new w1 (flc (.slice aoT (tipsL l).length capT) (.slice aoB (floorB ls).length capB) mp ms) 66 _ rfl;have HTL : Hid (tipsL l = tipsL l) := rfl;clear hp hpw hb hoT hoB hmf hmg hb2 HC HCR HSS;generalize tipsL l = tl at *;generalize floorB ls = bl at *
 go_wp2_with fail
 refine Calls.mono (HR.out _ (HB1.out.trans (HB2.out.mono HB1.out.size))) ?_;rintro e w3 ⟨t, rfl, hb3⟩;have HB13 := hdd (HB2.out.trans (hb3.mono HB2.out.size));have KF3 := hdd (KF2.out.later hb3);clear hb3 HR KF2 HB2;obtain ⟨w4, hw4⟩ : ∃ w4, w4 = w3.alloc (smo t) := ⟨_, rfl⟩;have hb34 : bw w3 w4 := by rw [hw4]; exact (brf).alloc (Nat.le_refl _) _
 have HB14 := hdd (HB13.out.trans (hb34.mono HB13.out.size));have KF4 := KF3.out.later hb34;have r0 := KF4.c 0 rfl;have r1 := KF4.c 1 rfl;have r2 := KF4.c 2 rfl;have r3 := KF4.c 3 rfl;have HW4 := hdd hw4;rw [hw4] at r0 r1 r2 r3;clear hw4 hb34 KF3 KF4
 go_wp2_with fail
 rw [← HW4.out];refine Calls.mono (newCompiler_any w4 aoT tl.length capT aoB bl.length capB mp ms) ?_;rintro e w5 ⟨bc, rfl, hc5⟩;have HC5 := hdd hc5;have HT4 : Hid (RdR encP w4 aoT tl) := (rd_own goodP HT1.out).next goodP HB14.out;have HO4 : Hid (RdR encP w4 aoB bl) := (rd_own goodP HO1.out).next goodP HB14.out;have HM4 := hdd (HM1.out.next HB14.out);have HA4 := hdd (HA.out.next (HB1.out.trans (HB14.out.mono HB1.out.size)));have HBw4 := hdd (HB1.out.trans (HB14.out.mono HB1.out.size));clear hc5 r0 r1 r2 r3
 go_wp2_with fail
 go_loopw [39] (fun i wr => ∃ (k : Nat) (s : Cst), k ≤ acs.length ∧ i = .int .i64 (k : Int) ∧ Cmp w4 wr bc (.slice aoT tl.length capT) (.slice aoB bl.length capB) mp ms s ∧ CI l acs k s ∧ compL tl bl (ptQ ls) cst0 0 acs = compL tl bl (ptQ ls) s k (acs.drop k)) (fun i _ => acs.length - (intOf i).toNat)
 case atStart => exact ⟨0, cst0, Nat.zero_le _, rfl, HC5.out, CI.start _ _, by simp⟩
 case round =>
  obtain ⟨k, s, hk, rfl, hcm, hci, hq⟩ := hrel;have HCM := hdd hcm;have HCIk := hdd hci;have HQ := hdd hq;clear hcm hci hq
  by_cases hlt : k < acs.length
  ·obtain ⟨g, off, hao, hcs⟩ := (HA4.out.next HCM.out.below).at hlt
   have HAC := hid (HCI.out k s HCIk.out hlt);have HST := hid (fun ts bins pt => HCIk.out.step (ts := ts) (bins := bins) (pt := pt) hlt (HOK.out k hlt));have HQ1 : Hid ((stepC tl bl (ptQ ls) s (acs[k]'hlt)).2 = 0 → compL tl bl (ptQ ls) cst0 0 acs = compL tl bl (ptQ ls) (stepC tl bl (ptQ ls) s (acs[k]'hlt)).1 (k + 1) (acs.drop (k + 1))) := fun h => HQ.out.trans (compL_step hlt h);have HQ2 : Hid ((stepC tl bl (ptQ ls) s (acs[k]'hlt)).2 ≠ 0 → compL tl bl (ptQ ls) cst0 0 acs = (s, k, (stepC tl bl (ptQ ls) s (acs[k]'hlt)).2)) := fun h => HQ.out.trans (compL_stop hlt h);generalize acs[k]'hlt = a at *;subst hao;have c0 := hcs 0 (by decide);have c1 := hcs 1 (by decide);have c2 := hcs 2 (by decide);have c3 := hcs 3 (by decide);have c4 := hcs 4 (by decide);have c5 := hcs 5 (by decide);have c6 := hcs 6 (by decide);have c7 := hcs 7 (by decide);simp only [acl, List.getElem?_cons_zero, List.getElem?_cons_succ, Nat.add_zero] at c0 c1 c2 c3 c4 c5 c6 c7;have hki : (k : Int) < (acs.length : Int) := by omega
   have hb6 : bw wr (wr.alloc (aobj a)) := (brf).alloc (Nat.le_refl _) _;have HCA := hid (compile_any w4 (wr.alloc (aobj a)) bc aoT capT tl aoB capB bl mp ms c ls s a (HCM.out.next hb6) HM4.out HT4.out HO4.out HTW.out HBW.out HAC.out);clear hcs hb6
   go_wp2_with fail
   refine Calls.mono HCA.out ?_;rintro e w6 ⟨rfl, hc6⟩;obtain ⟨⟨s', e1⟩, hsq⟩ : ∃ x, stepC tl bl (ptQ ls) s a = x := ⟨_, rfl⟩;rw [hsq] at hc6 HQ1 HQ2;have HST1 : Hid (CI l acs (k + 1) s') := by have := HST.out tl bl (ptQ ls); rw [hsq] at this; exact this
   rw [hsq];simp only at hc6 HQ1 HQ2;have HC6 := hdd hc6;clear hc6 hsq c0 c1 c2 c3 c4 c5 c6 c7 HCA HST;simp only
   by_cases he : e1 = 0
   ·subst he
    have HQ3 := hid (HQ1.out rfl);clear HQ1 HQ2;go_wp2
    go_roundw
    case rel => exact ⟨k + 1, s', by omega, by go_num, HC6.out, HST1.out, HQ3.out⟩
    case measure => simp [intOf]; omega
   ·have h3 : (e1 != 0) = true := by simp [he]
    have HQ3 := hid (HQ2.out he);have HCRE : Hid (compR l ls acs = ([], k, e1)) := by show _ = _; rw [HCR2.out, HQ3.out]; exact if_neg he
    clear HQ1 HQ2 he;go_wp2;refine bodyPost_ret (v := .tuple #[.slice none 0 0, .int .i64 (k : Int), .int .i64 e1]) (by simp [results, Tryz.results6, go_sem]) rfl ⟨ls, none, 0, 0, HP.out, HPW.out, by rw [HCRE.out], by rw [HCRE.out]; exact OwnR.nil _ _ _, ?_⟩;exact HBw4.out.trans (HC6.out.below.mono HBw4.out.size)
  ·have HE : Hid (k = acs.length) := by show _ = _; omega
   have HQ3 := hdd (HQ.out.trans (compL_done (by omega)));have HCRE : Hid (compR l ls acs = (s.cs, 0, 0)) := by show _ = _; rw [HCR2.out, HQ3.out]; exact if_pos rfl
   obtain ⟨h1, h2, aoC, nC, capC, h3, h4⟩ := HCM.out;have q4 := h3.c 4 rfl;have HO9 : Hid (OwnR encK wr w.heap.size (.slice aoC nC capC) s.cs) := h4.base (by have := HBw4.out.size; omega);have HB9 := hdd (HBw4.out.trans (h1.mono HBw4.out.size));clear h1 h2 h3 h4;go_wp2;refine bodyPost_ret (v := .tuple #[.slice aoC nC capC, .int .i64 0, .int .i64 0]) (by simp [results, Tryz.results6, go_sem]) rfl ⟨ls, aoC, nC, capC, HP.out, HPW.out, by rw [HCRE.out]; rfl, by rw [HCRE.out]; exact HO9.out, HB9.out⟩
end Go.Proofs.YtcajifelbldjnaaGreatDoor
