import Derived.Test.YtcajifelbldjnaaGreatHq
import Derived.Test.YtcajifelbldjnaaGreatHp
import Derived.Test.YtcajifelbldjnaaGreatHa

/- The compiler's parts walked. -/
namespace Go.Proofs.YtcajifelbldjnaaGreat
open Go.RowKit Go.Maps
/-! ### what the floor's map of points says -/
def setQ (f : Plc → Option S.Pt) (p : Plc) (q : S.Pt) : Plc → Option S.Pt := fun x => if x = p then some q else f x
def flrQ (s : Sit) (ps : List (Nat × Nat)) (f : Plc → Option S.Pt) : Plc → Option S.Pt := ps.foldl (fun f p => setQ f (spotP s.slot p) (spotPt s p)) f
def floorQ (ls : List Sit) : Plc → Option S.Pt := ls.foldl (fun f s => flrQ s (spotsOf s) f) (fun _ => none)
def ofQ (f : Plc → Option S.Pt) : Plc → Option Value := fun p => (f p).map pvv
theorem setF_ofQ (f : Plc → Option S.Pt) (p : Plc) (q : S.Pt) : setF (ofQ f) p (pvv q) = ofQ (setQ f p q) := by
  funext x
  unfold setF ofQ setQ
  split <;> rfl
theorem flrP_ofQ (s : Sit) : ∀ (ps : List (Nat × Nat)) (f : Plc → Option S.Pt), flrP s ps (ofQ f) = ofQ (flrQ s ps f)
  | [], f => rfl
  | p :: r, f => by
    show flrP s r (setF (ofQ f) (spotP s.slot p) (pvv (spotPt s p))) = ofQ (flrQ s r (setQ f (spotP s.slot p) (spotPt s p)))
    rw [setF_ofQ]
    exact flrP_ofQ s r _
theorem floorP_ofQ (ls : List Sit) : floorP ls = ofQ (floorQ ls) := by
  have : ∀ (ls : List Sit) (f : Plc → Option S.Pt), ls.foldl (fun f s => flrP s (spotsOf s) f) (ofQ f) = ofQ (ls.foldl (fun f s => flrQ s (spotsOf s) f) f) := by
    intro ls
    induction ls with
    | nil => intro f; rfl
    | cons s r ih => intro f; simp only [List.foldl_cons]; rw [flrP_ofQ]; exact ih _
  exact this ls fun _ => none
/-- A point that the machine can come to. -/
def PtIn (q : S.Pt) : Prop := InP q ∧ 0 ≤ q.z ∧ q.z ≤ 200000
theorem flrQ_in {s : Sit} {P : Plc → S.Pt → Prop} : ∀ {ps : List (Nat × Nat)} {f : Plc → Option S.Pt}, (∀ p q, f p = some q → P p q) → (∀ x ∈ ps, P (spotP s.slot x) (spotPt s x)) → ∀ p q, flrQ s ps f p = some q → P p q
  | [], f, hf, _, p, q, h => hf p q h
  | x :: r, f, hf, hx, p, q, h => by
    refine flrQ_in (ps := r) (f := setQ f (spotP s.slot x) (spotPt s x)) (fun p q h => ?_) (fun y hy => hx y (by simp [hy])) p q h
    unfold setQ at h
    split at h
    · rename_i e
      injection h with h
      subst h
      rw [e]
      exact hx x (by simp)
    · exact hf p q h
theorem spotsOf_in {s : Sit} (h : StOk s) {x : Nat × Nat} (hx : x ∈ spotsOf s) : ∃ R C : Nat, s.ware.rows = R ∧ s.ware.cols = C ∧ x.1 < R ∧ x.2 < C ∧ R ≤ 16 ∧ C ≤ 24 := by
  have a1 := inR_iff.1 (chk_in h.chk).2.2.1
  have a2 := inR_iff.1 (chk_in h.chk).2.2.2.1
  obtain ⟨R, hR⟩ : ∃ R : Nat, s.ware.rows = R := ⟨s.ware.rows.toNat, by omega⟩
  obtain ⟨C, hC⟩ : ∃ C : Nat, s.ware.cols = C := ⟨s.ware.cols.toNat, by omega⟩
  refine ⟨R, C, hR, hC, ?_⟩
  have e : spotsOf s = spots R (C * R) := by unfold spotsOf; rw [hR, hC]; rfl
  rw [e] at hx
  unfold spots at hx
  obtain ⟨k, hk, rfl⟩ := List.mem_map.1 hx
  have hk := List.mem_range.1 hk
  have h0 : 0 < R := by
    rcases Nat.eq_zero_or_pos R with e | e
    · subst e; simp at hk
    · exact e
  exact ⟨Nat.mod_lt _ h0, Nat.div_lt_of_lt_mul (by rw [Nat.mul_comm]; exact hk), by omega, by omega⟩
theorem floorQ_in {ls : List Sit} (h : ∀ s ∈ ls, StOk s) : ∀ p q, floorQ ls p = some q → PtIn q := by
  have : ∀ (ls : List Sit) (f : Plc → Option S.Pt), (∀ s ∈ ls, StOk s) → (∀ p q, f p = some q → PtIn q) → ∀ p q, ls.foldl (fun f s => flrQ s (spotsOf s) f) f p = some q → PtIn q := by
    intro ls
    induction ls with
    | nil => intro f _ hf; exact hf
    | cons s r ih =>
      intro f hs hf
      simp only [List.foldl_cons]
      refine ih _ (fun t ht => hs t (by simp [ht])) (flrQ_in (P := fun _ q => PtIn q) hf fun x hx => ?_)
      obtain ⟨R, C, hR, hC, h1, h2, _, _⟩ := spotsOf_in (hs s (by simp)) hx
      obtain ⟨a, b, c, _⟩ := spot_in (hs s (by simp)) hR hC h1 h2
      unfold PtIn InP
      omega
  exact this ls _ h (fun _ _ e => by cases e)
/-- Where the machine works at a place; at the corner, if it is none. -/
def ptQ (ls : List Sit) (p : Plc) : S.Pt := (floorQ ls p).getD ⟨0, 0, 0⟩
theorem ptQ_in {ls : List Sit} (h : ∀ s ∈ ls, StOk s) (p : Plc) : PtIn (ptQ ls p) := by
  unfold ptQ
  cases e : floorQ ls p with
  | none => unfold PtIn InP; simp
  | some q => exact floorQ_in h p q e
theorem ptQ_val (ls : List Sit) (p : Plc) : (floorP ls p).getD (ptv 0 0 0) = pvv (ptQ ls p) := by
  rw [floorP_ofQ]
  unfold ofQ ptQ
  cases floorQ ls p <;> rfl
theorem floorB_wf {ls : List Sit} (h : ∀ s ∈ ls, StOk s) : ∀ p ∈ floorB ls, Wf3 p := by
  intro p hp
  unfold floorB at hp
  obtain ⟨s, hs, hp⟩ := List.mem_flatMap.1 hp
  unfold flrB at hp
  split at hp
  · obtain ⟨x, hx, rfl⟩ := List.mem_map.1 hp
    obtain ⟨R, C, _, _, h1, h2, h3, h4⟩ := spotsOf_in (h s hs) hx
    exact spot_wf (h s hs) (by omega) (by omega)
  · cases hp
theorem tips_wf {l : List Sit} (h : ∀ s ∈ l, StOk s) : ∀ p ∈ tipsL l, Wf3 p := by
  intro p hp
  unfold tipsL at hp
  obtain ⟨k, hk, hp⟩ := List.mem_flatMap.1 hp
  have hk := List.mem_range.1 hk
  unfold rackIn at hp
  split at hp
  · rename_i s hs
    split at hp
    · obtain ⟨x, hx, rfl⟩ := List.mem_map.1 hp
      have hm := (seatOf_in hs).1
      have e : spots s.ware.rows.toNat (s.ware.rows.toNat * s.ware.cols.toNat) = spotsOf s := by unfold spotsOf; rw [Nat.mul_comm]
      rw [e] at hx
      obtain ⟨R, C, _, _, h1, h2, h3, h4⟩ := spotsOf_in (h s hm) hx
      unfold Wf3 Wf1
      simp only
      omega
    · cases hp
  · cases hp
/-! ### the compiler in memory -/
abbrev cdl (c : Cd) : List Value := [.int .i64 c.k, .int .i64 c.x, .int .i64 c.y, .int .i64 c.z, .int .i64 c.v]
abbrev cdv (c : Cd) : Value := .agg #[.int .i64 c.k, .int .i64 c.x, .int .i64 c.y, .int .i64 c.z, .int .i64 c.v]
def encK : Enc Cd := ⟨31, 5, cdl⟩
theorem goodK : Good encK := ⟨fun _ => rfl, fun x u hu => by simp [encK, cdl] at hu; rcases hu with rfl | rfl | rfl | rfl | rfl <;> rfl⟩
theorem infoK : (Tryz.prog.info? 31).map (fun i => (i.zero, i.size, i.bytes)) = some (some (.agg #[.int .i64 0, .int .i64 0, .int .i64 0, .int .i64 0, .int .i64 0]), 5, 40) := by kernel_rfl
abbrev cmc (ts bv cs : Value) (mp ms : Nat) (u : Nat) (n : Int) : List Value := [ts, bv, .map (some mp), .map (some ms), cs, .int .i64 (u : Int), .int .i64 n]
/-- A compiler in block bc, made behind world wB. -/
structure Cmp (wB w : World) (bc : Nat) (ts bv : Value) (mp ms : Nat) (s : Cst) : Prop where
  below : Below wB.heap.size wB w
  low : wB.heap.size ≤ bc
  bk : ∃ ao n cap, Bk bc (cmc ts bv (.slice ao n cap) mp ms s.used s.held) w ∧ OwnR encK w (bc + 1) (.slice ao n cap) s.cs
theorem Cmp.next {wB w w1 : World} {bc : Nat} {ts bv : Value} {mp ms : Nat} {s : Cst} (h : Cmp wB w bc ts bv mp ms s) (hb : Below w.heap.size w w1) : Cmp wB w1 bc ts bv mp ms s := by
  obtain ⟨h1, h2, ao, n, cap, h3, h4⟩ := h
  exact ⟨h1.trans (hb.mono h1.size), h2, ao, n, cap, h3.later hb, h4.later hb⟩
set_option maxHeartbeats 3200000 in
theorem tell_any (wB w : World) (bc : Nat) (ts bv : Value) (mp ms : Nat) (s : Cst) (ad : Addr) (cp : Nat) (xs : List Cd) (h : Cmp wB w bc ts bv mp ms s) (hx : RdR encK w (some ad) xs) (hn : xs.length ≤ 4) (hl : s.cs.length ≤ 1000000000) :
    Calls Tryz.prog 23 #[ptr bc, .slice (some ad) xs.length cp] w fun e w' => e = .returned (.tuple #[]) ∧ Cmp wB w' bc ts bv mp ms ⟨s.cs ++ xs, s.used, s.held⟩ := by
  obtain ⟨h1, h2, ao, n, cap, h3, h4⟩ := h
  have HB : Hid (Below wB.heap.size wB w) := h1
  have HLO : Hid (wB.heap.size ≤ bc) := h2
  have HK : Hid (Bk bc (cmc ts bv (.slice ao n cap) mp ms s.used s.held) w) := h3
  have HO : Hid (OwnR encK w (bc + 1) (.slice ao n cap) s.cs) := h4
  have HX : Hid (RdR encK w (some ad) xs) := hx
  have q4 := h3.c 4 rfl
  have hlt := h3.1
  clear h1 h2 h3 h4 hx
  go_enter Tryz.func23, Tryz.ntmps23
  go_wp2_with (at_builtin; refine wpList_append_list goodK Tryz.underlying24 infoK rfl (by decide) _ rfl (.tmp 8) (.tmp 9) rfl (bc + 1) (.slice ao n cap) s.cs rfl HO.out ad cp xs rfl HX.out (by unfold maxLen; omega) (by omega) (by omega) ?_; intro v' w5 ho hg hloc; obtain ⟨ao5, n5, cap5, rfl⟩ := ho.form; have hbk : Bk bc (cmc ts bv (.slice ao n cap) mp ms s.used s.held) w5 := HK.out.same hg.size (hg.block _ HK.out.1 (fun e => by have := own_lt HO.out e.symm; omega)); have e4 := hbk.c 4 rfl; have ef4 := hbk.f 4 rfl)
  have HB5 : Hid (Below wB.heap.size wB (w5.setCell ⟨bc, 4, none⟩ (.slice ao5 n5 cap5))) := (below_row HB.out (HO.out.base (Nat.le_succ_of_le HLO.out)) hg HB.out.size).setCell HLO.out _
  have HBK5 : Hid (Bk bc (cmc ts bv (.slice ao5 n5 cap5) mp ms s.used s.held) (w5.setCell ⟨bc, 4, none⟩ (.slice ao5 n5 cap5))) := hbk.put 4 _
  have HO5 : Hid (OwnR encK (w5.setCell ⟨bc, 4, none⟩ (.slice ao5 n5 cap5)) (bc + 1) (.slice ao5 n5 cap5) (s.cs ++ xs)) := own_kpt ho (Kpt.setCell (M := fun k => k = bc) _ _ _ _ rfl) (fun g e e2 => by have := own_lt ho e; omega)
  clear ho hg hloc hbk e4 ef4 q4
  go_wp2
  go_end0
  exact ⟨rfl, HB5.out, HLO.out, ao5, n5, cap5, HBK5.out, HO5.out⟩
set_option maxHeartbeats 1600000 in
theorem goTo_any (q : S.Pt) (w : World) : Calls Tryz.prog 24 #[pvv q] w fun e w' => e = .returned (cdv (goC q)) ∧ Below w.heap.size w w' := by
  go_enter Tryz.func24, Tryz.ntmps24
  go_wp2
  refine bodyPost_ret (v := cdv (goC q)) (by simp [results, Tryz.results24, go_sem]) rfl ⟨rfl, ((Below.refl _ _).alloc (Nat.le_refl _) _).alloc (by simp) _⟩
/-- A block that is there since a world of size B. -/
def Nw (B x : Nat) (cs : List Value) (w : World) : Prop := B ≤ x ∧ Bk x cs w
theorem Nw.later {B x : Nat} {cs : List Value} {w w1 : World} (h : Nw B x cs w) (hb : Below w.heap.size w w1) : Nw B x cs w1 := ⟨h.1, h.2.later hb⟩
set_option linter.unusedVariables false in
def wkV (bc mp B : Nat) (p : Plc) (q : S.Pt) (d : Nat) (v : Value) (w : World) : Prop :=
  match d with
  | 8 => v = .pointer (some ⟨bc, 0, none⟩)
  | 9 => v = .pointer (some ⟨bc, 0, none⟩)
  | 10 => v = .pointer (some ⟨bc, 0, none⟩)
  | 11 => v = .pointer (some ⟨bc, 2, none⟩)
  | 12 => v = .map (some mp)
  | 13 => v = .agg #[.int .i64 p.1, .int .i64 p.2.1, .int .i64 p.2.2]
  | 14 => v = pvv q
  | 6 => ∃ x, v = .pointer (some ⟨x, 0, none⟩) ∧ Nw B x [.int .i64 0, .int .i64 0, .int .i64 0] w
  | _ => True
set_option linter.unusedVariables false in
theorem wkV_mono (bc mp B : Nat) (p : Plc) (q : S.Pt) (d : Nat) (v : Value) (w w' : World) (h : wkV bc mp B p q d v w) (hb : Below w.heap.size w w') : wkV bc mp B p q d v w' := by
  unfold wkV at h ⊢
  split <;> simp only [] at h <;> first | exact h | (obtain ⟨x, h1, h2⟩ := h; exact ⟨x, h1, h2.later hb⟩)
set_option linter.unusedVariables false in
def wlV (bc : Nat) (q : S.Pt) (c : Cd) (d : Nat) (v : Value) (w : World) : Prop :=
  match d with
  | 20 => v = .pointer (some ⟨bc, 0, none⟩)
  | 21 => v = pvv (upC q)
  | 22 => v = cdv (goC (upC q))
  | 23 => v = pvv q
  | 24 => v = cdv (goC q)
  | 25 => v = cdv c
  | 26 => v = pvv (upC q)
  | 27 => v = cdv (goC (upC q))
  | 28 => ∃ x, v = .slice (some ⟨x, 0, none⟩) 4 4 ∧ Bk x (encK.cells (workC q c)) w
  | _ => True
set_option linter.unusedVariables false in
theorem wlV_mono (bc : Nat) (q : S.Pt) (c : Cd) (d : Nat) (v : Value) (w w' : World) (h : wlV bc q c d v w) (hb : Below w.heap.size w w') : wlV bc q c d v w' := by
  unfold wlV at h ⊢
  split <;> simp only [] at h <;> first | exact h | (obtain ⟨x, h1, h2⟩ := h; exact ⟨x, h1, h2.later hb⟩)
theorem rdK_of {w : World} {x : Nat} {cs : List Cd} (h : Bk x (encK.cells cs) w) : RdR encK w (some ⟨x, 0, none⟩) cs := by
  refine .inr ⟨x, 0, rfl, h.1, fun k hk j hj => ?_⟩
  have h1 := cells_at goodK hk hj
  have hl := cells_length goodK cs
  have hj5 : j < 5 := hj
  have hs : encK.sz = 5 := rfl
  rw [hs] at hl h1
  have hlt : k * 5 + j < (encK.cells cs).length := by
    have : (k + 1) * 5 ≤ cs.length * 5 := Nat.mul_le_mul_right _ hk
    omega
  have e : (encK.cells cs)[k * 5 + j]? = some ((encK.cells cs)[k * 5 + j]'hlt) := List.getElem?_eq_getElem hlt
  have h2 := h.c _ e
  rw [hs, Nat.zero_add, h2, ← e]
  exact h1
set_option maxHeartbeats 6400000 in
set_option maxRecDepth 100000 in
theorem work_any (wB w : World) (bc : Nat) (ts bv : Value) (mp ms c0 : Nat) (ls : List Sit) (s : Cst) (p : Plc) (c : Cd) (h : Cmp wB w bc ts bv mp ms s) (hm : MF kkP wB mp c0 (floorP ls)) (hp : Wf3 p) (hl : s.cs.length ≤ 1000000000) :
    Calls Tryz.prog 57 #[ptr bc, plv p, cdv c] w fun e w' => e = .returned (.tuple #[]) ∧ Cmp wB w' bc ts bv mp ms ⟨s.cs ++ workC (ptQ ls p) c, s.used, s.held⟩ := by
  have HC : Hid (Cmp wB w bc ts bv mp ms s) := h
  have HL : Hid (s.cs.length ≤ 1000000000) := hl
  obtain ⟨h1, h2, ao, n, cap, h3, h4⟩ := h
  obtain ⟨w0, hw0⟩ : ∃ w0, w0 = (w.alloc (.cells #[.int .i64 p.1, .int .i64 p.2.1, .int .i64 p.2.2] 57)).alloc (.cells #[.int .i64 c.k, .int .i64 c.x, .int .i64 c.y, .int .i64 c.z, .int .i64 c.v] 31) := ⟨_, rfl⟩
  have hb0 : Below w.heap.size w w0 := by rw [hw0]; exact ((Below.refl _ _).alloc (Nat.le_refl _) _).alloc (by simp) _
  have KP : Hid (Bk w.heap.size [.int .i64 p.1, .int .i64 p.2.1, .int .i64 p.2.2] w0) := by show Bk _ _ _; rw [hw0]; exact (Bk.new w [.int .i64 p.1, .int .i64 p.2.1, .int .i64 p.2.2] 57 w.heap.size rfl).later ((Below.refl _ _).alloc (Nat.le_refl _) _)
  have KC0 : Hid (Bk (w.heap.size + 1) (cdl c) w0) := by show Bk _ _ _; rw [hw0]; exact Bk.new _ (cdl c) 31 (w.heap.size + 1) (by simp)
  have HK0 : Hid (Bk bc (cmc ts bv (.slice ao n cap) mp ms s.used s.held) w0) := h3.later hb0
  have HB0 : Hid (Below w.heap.size w w0) := hb0
  have hB0 : Below wB.heap.size wB w0 := h1.trans (hb0.mono h1.size)
  obtain ⟨q, hq⟩ : ∃ q, q = ptQ ls p := ⟨_, rfl⟩
  have HQ : Hid (q = ptQ ls p) := hq
  have HLK : Hid (∀ W, Below w0.heap.size w0 W → (Instr.lookup 39 (.map (some mp)) (.agg #[.int .i64 p.1, .int .i64 p.2.1, .int .i64 p.2.2]) false).run Tryz.prog W = .ok (pvv q) W) := by
    intro W hW
    have := (hm.next (hB0.trans (hW.mono hB0.size))).look (c := kkP) (t := 39) Tryz.underlying39 (zeroPt W) (p := p) hp
    rw [ptQ_val, ← hq] at this
    exact this
  have HW0 : Hid (w0 = _) := hw0
  clear h1 h2 h3 h4 hm hp hb0 hB0 hw0 hq hl
  go_enter Tryz.func57, Tryz.ntmps57
  go_wp2_with fail
  rw [← HW0.out]
  clear HW0
  refine region_seq 8 [false, false, false, false, false, false, true, false, true, true, true, true, true, true, true, false, false, false, false, false, false, false, false, false, false, false, false, false, false, false]
    [(8, [], none), (9, [8], none), (10, [9], none), (11, [10], none), (12, [11], none), (13, [], none), (14, [12, 13], none), (6, [], none)]
    (wkV bc mp w0.heap.size p q) (by kernel_rfl) (by kernel_rfl) (by kernel_rfl) (by kernel_rfl) (by kernel_rfl) (by decide) (wkV_mono bc mp w0.heap.size p q) ?_ ?_
  · refine ⟨?_, ?_, ?_, ?_, ?_, ?_, ?_, ?_, trivial⟩
    · intro f w1 hb _ K hK
      simp only [over, overL, Nat.reduceAdd]
      go_simp
      exact hK _ _ ⟨_, rfl, by simp only [over, overL, Nat.reduceAdd]; rfl, Below.refl _ _⟩
    · intro f w1 hb ⟨h8, _⟩ K hK
      replace h8 : f 8 = _ := h8
      simp only [over, overL, Nat.reduceAdd, h8]
      go_simp
      exact hK _ _ ⟨_, rfl, by simp only [over, overL, Nat.reduceAdd, h8]; rfl, Below.refl _ _⟩
    · intro f w1 hb ⟨h9, _⟩ K hK
      replace h9 : f 9 = _ := h9
      simp only [over, overL, Nat.reduceAdd, h9]
      go_simp
      exact hK _ _ ⟨_, rfl, by simp only [over, overL, Nat.reduceAdd, h9]; rfl, Below.refl _ _⟩
    · intro f w1 hb ⟨h10, _⟩ K hK
      replace h10 : f 10 = _ := h10
      simp only [over, overL, Nat.reduceAdd, h10]
      go_simp
      exact hK _ _ ⟨_, rfl, by simp only [over, overL, Nat.reduceAdd, h10]; rfl, Below.refl _ _⟩
    · intro f w1 hb ⟨h11, _⟩ K hK
      replace h11 : f 11 = _ := h11
      have q0 := (HK0.out.later hb).c 2 rfl
      simp only [over, overL, Nat.reduceAdd, h11]
      go_simp
      exact hK _ _ ⟨_, rfl, by simp only [over, overL, Nat.reduceAdd, h11]; rfl, Below.refl _ _⟩
    · intro f w1 hb _ K hK
      have q0 := (KP.out.later hb).c 0 rfl
      have q1 := (KP.out.later hb).c 1 rfl
      have q2 := (KP.out.later hb).c 2 rfl
      simp only [over, overL, Nat.reduceAdd]
      go_simp
      exact hK _ _ ⟨_, rfl, by simp only [over, overL, Nat.reduceAdd]; rfl, Below.refl _ _⟩
    · intro f w1 hb ⟨h12, h13, _⟩ K hK
      replace h12 : f 12 = _ := h12
      replace h13 : f 13 = _ := h13
      have q0 := HLK.out w1 hb
      simp only [over, overL, Nat.reduceAdd, h12, h13]
      go_simp
      exact hK _ _ ⟨_, rfl, by simp only [over, overL, Nat.reduceAdd, h12, h13]; rfl, Below.refl _ _⟩
    · intro f w1 hb _ K hK
      simp only [over, overL, Nat.reduceAdd]
      go_simp
      exact hK _ _ ⟨_, ⟨_, rfl, hb.size, Bk.new w1 [.int .i64 0, .int .i64 0, .int .i64 0] 29 _ rfl⟩, by simp only [over, overL, Nat.reduceAdd]; rfl, (Below.refl _ _).alloc (Nat.le_refl _) _⟩
  intro f w1 hb hv
  have h14 : f 14 = pvv q := hv.2.2.2.2.2.2.1
  obtain ⟨A, h6, hA0, hka⟩ := (show ∃ x, f 6 = .pointer (some ⟨x, 0, none⟩) ∧ Nw w0.heap.size x [.int .i64 0, .int .i64 0, .int .i64 0] w1 from hv.2.2.2.2.2.2.2.1)
  have HKA : Hid (Bk A [.int .i64 0, .int .i64 0, .int .i64 0] w1) := hka
  have HA0 : Hid (w.heap.size ≤ A) := Nat.le_trans HB0.out.size hA0
  have HB1 : Hid (Below w.heap.size w w1) := HB0.out.trans (hb.mono HB0.out.size)
  have HC1 : Hid (Bk (w.heap.size + 1) (cdl c) w1) := KC0.out.later hb
  have HA1 : Hid (A ≠ w.heap.size + 1) := by show _ ≠ _; have := KC0.out.1; omega
  simp only [over_eq, overL, h14, h6, Nat.reduceAdd, List.drop_succ_cons, List.drop_zero]
  have a0 := hka.c 0 rfl
  have af0 := hka.f 0 rfl
  have a1 := hka.c 1 rfl
  have af1 := hka.f 1 rfl
  have a2 := hka.c 2 rfl
  have af2 := hka.f 2 rfl
  have hAlt := hka.1
  clear hv h14 h6 hka hb hA0 HLK HK0 KP KC0
  go_wp2_with fail
  obtain ⟨w2, hw2⟩ : ∃ w2, w2 = ((w1.setCell ⟨A, 0, none⟩ (.int .i64 q.x)).setCell ⟨A, 1, none⟩ (.int .i64 q.y)).setCell ⟨A, 2, none⟩ (.int .i64 q.z) := ⟨_, rfl⟩
  have KQ2 : Bk A [.int .i64 q.x, .int .i64 q.y, .int .i64 q.z] w2 := by rw [hw2]; exact ((HKA.out.put 0 _).put 1 _).put 2 _
  have kk : Kpt (fun k => k = A) w1 w2 := by rw [hw2]; exact ((Kpt.setCell (M := fun k => k = A) w1 A 0 _ rfl).trans (Kpt.setCell _ A 1 _ rfl)).trans (Kpt.setCell _ A 2 _ rfl)
  have HB2 : Hid (Below w.heap.size w w2) := HB1.out.trans (kk.below HB1.out.size (fun k e => by have := HA0.out; omega))
  have hs2 : w2.heap.size = w1.heap.size := by rw [hw2]; simp [World.setCell]
  obtain ⟨w3, hw3⟩ : ∃ w3, w3 = w2.alloc (pto q.x q.y 200000) := ⟨_, rfl⟩
  have hb23 : Below w2.heap.size w2 w3 := by rw [hw3]; exact (Below.refl _ _).alloc (Nat.le_refl _) _
  have KQ : Hid (Bk A [.int .i64 q.x, .int .i64 q.y, .int .i64 q.z] w3) := KQ2.later hb23
  have KU : Hid (Bk w1.heap.size [.int .i64 q.x, .int .i64 q.y, .int .i64 200000] w3) := by show Bk _ _ _; rw [hw3]; exact Bk.new w2 [.int .i64 q.x, .int .i64 q.y, .int .i64 200000] 29 _ hs2.symm
  have KC : Hid (Bk (w.heap.size + 1) (cdl c) w3) := (bkK HC1.out kk (by have := HA1.out; omega)).later hb23
  have HB3 : Hid (Below w.heap.size w w3) := HB2.out.trans (hb23.mono HB2.out.size)
  have HW3 : Hid (w3 = _) := hw3
  rw [hw2] at HW3
  clear KQ2 kk hs2 hw2 hw3 hb23 a0 af0 a1 af1 a2 af2 HKA HC1
  rw [← HW3.out]
  clear HW3 HB2
  refine region_seq 9 [false, false, false, false, false, false, false, false, false, false, false, false, false, false, false, false, false, false, false, false, true, true, true, true, true, true, true, true, true, false]
    [(20, [], none), (21, [], none), (22, [21], none), (23, [], none), (24, [23], none), (25, [], none), (26, [], none), (27, [26], none), (28, [22, 24, 25, 27], none)]
    (wlV bc q c) (by kernel_rfl) (by kernel_rfl) (by kernel_rfl) (by kernel_rfl) (by kernel_rfl) (by decide) (wlV_mono bc q c) ?_ ?_
  · refine ⟨?_, ?_, ?_, ?_, ?_, ?_, ?_, ?_, ?_, trivial⟩
    · intro f w1 hb _ K hK
      simp only [over, overL, Nat.reduceAdd]
      go_simp
      exact hK _ _ ⟨_, rfl, by simp only [over, overL, Nat.reduceAdd]; rfl, Below.refl _ _⟩
    · intro f w1 hb _ K hK
      have q0 := (KU.out.later hb).c 0 rfl
      have q1 := (KU.out.later hb).c 1 rfl
      have q2 := (KU.out.later hb).c 2 rfl
      simp only [over, overL, Nat.reduceAdd]
      go_simp
      exact hK _ _ ⟨_, rfl, by simp only [over, overL, Nat.reduceAdd]; rfl, Below.refl _ _⟩
    · intro f w1 hb ⟨h21, _⟩ K hK
      replace h21 : f 21 = _ := h21
      simp only [over, overL, Nat.reduceAdd, h21]
      go_simp
      refine Calls.mono (goTo_any (upC q) w1) ?_
      rintro e w2 ⟨rfl, hb2⟩
      exact hK _ _ ⟨_, rfl, by simp only [over, overL, Nat.reduceAdd, h21]; rfl, hb2⟩
    · intro f w1 hb _ K hK
      have q0 := (KQ.out.later hb).c 0 rfl
      have q1 := (KQ.out.later hb).c 1 rfl
      have q2 := (KQ.out.later hb).c 2 rfl
      simp only [over, overL, Nat.reduceAdd]
      go_simp
      exact hK _ _ ⟨_, rfl, by simp only [over, overL, Nat.reduceAdd]; rfl, Below.refl _ _⟩
    · intro f w1 hb ⟨h23, _⟩ K hK
      replace h23 : f 23 = _ := h23
      simp only [over, overL, Nat.reduceAdd, h23]
      go_simp
      refine Calls.mono (goTo_any q w1) ?_
      rintro e w2 ⟨rfl, hb2⟩
      exact hK _ _ ⟨_, rfl, by simp only [over, overL, Nat.reduceAdd, h23]; rfl, hb2⟩
    · intro f w1 hb _ K hK
      have q0 := (KC.out.later hb).c 0 rfl
      have q1 := (KC.out.later hb).c 1 rfl
      have q2 := (KC.out.later hb).c 2 rfl
      have q3 := (KC.out.later hb).c 3 rfl
      have q4 := (KC.out.later hb).c 4 rfl
      simp only [over, overL, Nat.reduceAdd]
      go_simp
      exact hK _ _ ⟨_, rfl, by simp only [over, overL, Nat.reduceAdd]; rfl, Below.refl _ _⟩
    · intro f w1 hb _ K hK
      have q0 := (KU.out.later hb).c 0 rfl
      have q1 := (KU.out.later hb).c 1 rfl
      have q2 := (KU.out.later hb).c 2 rfl
      simp only [over, overL, Nat.reduceAdd]
      go_simp
      exact hK _ _ ⟨_, rfl, by simp only [over, overL, Nat.reduceAdd]; rfl, Below.refl _ _⟩
    · intro f w1 hb ⟨h26, _⟩ K hK
      replace h26 : f 26 = _ := h26
      simp only [over, overL, Nat.reduceAdd, h26]
      go_simp
      refine Calls.mono (goTo_any (upC q) w1) ?_
      rintro e w2 ⟨rfl, hb2⟩
      exact hK _ _ ⟨_, rfl, by simp only [over, overL, Nat.reduceAdd, h26]; rfl, hb2⟩
    · intro f w1 hb ⟨h22, h24, h25, h27, _⟩ K hK
      replace h22 : f 22 = _ := h22
      replace h24 : f 24 = _ := h24
      replace h25 : f 25 = _ := h25
      replace h27 : f 27 = _ := h27
      simp only [over, overL, Nat.reduceAdd, h22, h24, h25, h27]
      go_simp
      exact hK _ _ ⟨_, ⟨_, rfl, Bk.new w1 (encK.cells (workC q c)) 31 _ rfl⟩, by simp only [over, overL, Nat.reduceAdd, h22, h24, h25, h27]; rfl, (Below.refl _ _).alloc (Nat.le_refl _) _⟩
  intro f w4 hb hv
  have h20 : f 20 = .pointer (some ⟨bc, 0, none⟩) := hv.1
  obtain ⟨x, h28, hkx⟩ := (show ∃ x, f 28 = .slice (some ⟨x, 0, none⟩) 4 4 ∧ Bk x (encK.cells (workC q c)) w4 from hv.2.2.2.2.2.2.2.2.1)
  have HT := hid (tell_any wB w4 bc ts bv mp ms s ⟨x, 0, none⟩ 4 (workC q c) ((HC.out.next HB3.out).next hb) (rdK_of hkx) (by simp [workC]) HL.out)
  simp only [over_eq, overL, h20, h28, Nat.reduceAdd, List.drop_succ_cons, List.drop_zero]
  clear hv h20 h28 hkx hb
  go_wp2_with fail
  refine Calls.mono HT.out ?_
  rintro e w5 ⟨rfl, hc5⟩
  rw [HQ.out] at hc5
  have H5 : Hid _ := hc5
  clear hc5 HT
  go_wp2
  go_end0
  exact ⟨rfl, H5.out⟩
end Go.Proofs.YtcajifelbldjnaaGreat

/- The compiler's grab, eject, press, rest walked. -/
namespace Go.Proofs.YtcajifelbldjnaaGreat
open Go.RowKit Go.Maps
/-- Places that can be read. -/
theorem rdP_at {w : World} {ao : Option Addr} {l : List Plc} (h : RdR encP w ao l) {k : Nat} (hk : k < l.length) : ∃ g off, ao = some ⟨g, off, none⟩ ∧ w.cell? ⟨g, off + k * 3, none⟩ = some (.int .i64 (l[k]'hk).1) ∧ w.cell? ⟨g, off + k * 3 + 1, none⟩ = some (.int .i64 (l[k]'hk).2.1) ∧ w.cell? ⟨g, off + k * 3 + 2, none⟩ = some (.int .i64 (l[k]'hk).2.2) := by
  rcases h with h | ⟨g, off, e, _, hc⟩
  · subst h; simp at hk
  · exact ⟨g, off, e, hc k hk 0 (by decide), hc k hk 1 (by decide), hc k hk 2 (by decide)⟩
set_option linter.unusedVariables false in
def grV (bc aoB off n cap u : Nat) (p : Plc) (d : Nat) (v : Value) (w : World) : Prop :=
  match d with
  | 2 => v = .pointer (some ⟨bc, 0, none⟩)
  | 3 => v = .pointer (some ⟨bc, 0, none⟩)
  | 4 => v = .pointer (some ⟨bc, 0, none⟩)
  | 5 => v = .pointer (some ⟨bc, 0, none⟩)
  | 6 => v = .pointer (some ⟨bc, 0, none⟩)
  | 7 => v = .slice (some ⟨aoB, off, none⟩) n cap
  | 8 => v = .pointer (some ⟨bc, 0, none⟩)
  | 9 => v = .pointer (some ⟨bc, 0, none⟩)
  | 10 => v = .pointer (some ⟨bc, 5, none⟩)
  | 11 => v = .int .i64 (u : Int)
  | 12 => v = .pointer (some ⟨aoB, off + u * 3, none⟩)
  | 13 => v = .agg #[.int .i64 p.1, .int .i64 p.2.1, .int .i64 p.2.2]
  | 14 => v = cdv (cd 4 0)
  | _ => True
set_option linter.unusedVariables false in
theorem grV_mono (bc aoB off n cap u : Nat) (p : Plc) (d : Nat) (v : Value) (w w' : World) (h : grV bc aoB off n cap u p d v w) (hb : Below w.heap.size w w') : grV bc aoB off n cap u p d v w' := by
  unfold grV at h ⊢
  split <;> simp only [] at h <;> first | exact h | (obtain ⟨x, h1, h2⟩ := h; exact ⟨x, h1, h2.later hb⟩)
set_option linter.unusedVariables false in
def prV (bc B : Nat) (p : Plc) (n : Int) (d : Nat) (v : Value) (w : World) : Prop :=
  match d with
  | 14 => v = .pointer (some ⟨bc, 0, none⟩)
  | 15 => v = .agg #[.int .i64 p.1, .int .i64 p.2.1, .int .i64 p.2.2]
  | 16 => v = .pointer (some ⟨bc, 0, none⟩)
  | 17 => v = .pointer (some ⟨bc, 0, none⟩)
  | 18 => v = .pointer (some ⟨bc, 6, none⟩)
  | 19 => v = .int .i64 n
  | 20 => v = cdv (cd 3 n)
  | _ => True
set_option linter.unusedVariables false in
theorem prV_mono (bc B : Nat) (p : Plc) (n : Int) (d : Nat) (v : Value) (w w' : World) (h : prV bc B p n d v w) (hb : Below w.heap.size w w') : prV bc B p n d v w' := by
  unfold prV at h ⊢
  split <;> simp only [] at h <;> first | exact h | (obtain ⟨x, h1, h2⟩ := h; exact ⟨x, h1, h2.later hb⟩)
set_option maxHeartbeats 6400000 in
set_option maxRecDepth 100000 in
theorem grab_any (wB w : World) (bc : Nat) (aoT : Option Addr) (capT : Nat) (tl : List Plc) (bv : Value) (mp ms c0 : Nat) (ls : List Sit) (s : Cst) (h : Cmp wB w bc (.slice aoT tl.length capT) bv mp ms s) (hm : MF kkP wB mp c0 (floorP ls)) (ht : RdR encP wB aoT tl) (hu : s.used < tl.length) (hw : ∀ p ∈ tl, Wf3 p) (hl : s.cs.length ≤ 1000000000) (hus : s.used ≤ 1000000000) :
    Calls Tryz.prog 25 #[ptr bc] w fun e w' => e = .returned (.tuple #[]) ∧ Cmp wB w' bc (.slice aoT tl.length capT) bv mp ms ⟨s.cs ++ workC (ptQ ls (tl.getD s.used plc0)) (cd 4 0), s.used + 1, s.held⟩ := by
  obtain ⟨g, off, hao, c0', c1', c2'⟩ := rdP_at (ht.next (w1 := w) goodP h.below) hu
  have hgd : tl.getD s.used plc0 = tl[s.used]'hu := by simp [List.getD, hu]
  rw [hgd]
  have hpw := hw _ (List.getElem_mem hu)
  generalize tl[s.used]'hu = p at *
  have HP0 : Hid (w.cell? ⟨g, off + s.used * 3, none⟩ = some (.int .i64 p.1)) := c0'
  have HP1 : Hid (w.cell? ⟨g, off + s.used * 3 + 1, none⟩ = some (.int .i64 p.2.1)) := c1'
  have HP2 : Hid (w.cell? ⟨g, off + s.used * 3 + 2, none⟩ = some (.int .i64 p.2.2)) := c2'
  subst hao
  have HC : Hid (Cmp wB w bc (.slice (some ⟨g, off, none⟩) tl.length capT) bv mp ms s) := h
  obtain ⟨h1, h2, ao, n, cap, h3, h4⟩ := h
  have HK : Hid (Bk bc (cmc (.slice (some ⟨g, off, none⟩) tl.length capT) bv (.slice ao n cap) mp ms s.used s.held) w) := h3
  have HUN : Hid ((s.used : Int) < (tl.length : Int)) := by show _ < _; omega
  have HLT : Hid (s.used ≤ 1000000000) := hus
  have HWK : Hid (∀ W, Below w.heap.size w W → Calls Tryz.prog 57 #[ptr bc, plv p, cdv (cd 4 0)] W fun e w' => e = .returned (.tuple #[]) ∧ Cmp wB w' bc (.slice (some ⟨g, off, none⟩) tl.length capT) bv mp ms ⟨s.cs ++ workC (ptQ ls p) (cd 4 0), s.used, s.held⟩) := fun W hW => work_any wB W bc _ bv mp ms c0 ls s p (cd 4 0) (HC.out.next hW) hm hpw hl
  generalize tl.length = nt at *
  clear h1 h2 h3 h4 hm ht hu hw hpw hgd hl c0' c1' c2'
  go_enter Tryz.func25, Tryz.ntmps25
  go_wp2_with fail
  refine region_seq 13 [false, false, true, true, true, true, true, true, true, true, true, true, true, true, true, false, false, false, false, false, false, false, false]
    [(2, [], none), (3, [], none), (4, [3], none), (5, [4], none), (6, [5], none), (7, [6], none), (8, [], none), (9, [8], none), (10, [9], none), (11, [10], none), (12, [7, 11], none), (13, [12], none), (14, [], none)]
    (grV bc g off nt capT s.used p) (by kernel_rfl) (by kernel_rfl) (by kernel_rfl) (by kernel_rfl) (by kernel_rfl) (by decide) (grV_mono bc g off nt capT s.used p) ?_ ?_
  · refine ⟨?_, ?_, ?_, ?_, ?_, ?_, ?_, ?_, ?_, ?_, ?_, ?_, ?_, trivial⟩
    · intro f w1 hb _ K hK
      simp only [over, overL, Nat.reduceAdd]
      go_simp
      exact hK _ _ ⟨_, rfl, by simp only [over, overL, Nat.reduceAdd]; rfl, Below.refl _ _⟩
    · intro f w1 hb _ K hK
      simp only [over, overL, Nat.reduceAdd]
      go_simp
      exact hK _ _ ⟨_, rfl, by simp only [over, overL, Nat.reduceAdd]; rfl, Below.refl _ _⟩
    · intro f w1 hb ⟨h3, _⟩ K hK
      replace h3 : f 3 = _ := h3
      simp only [over, overL, Nat.reduceAdd, h3]
      go_simp
      exact hK _ _ ⟨_, rfl, by simp only [over, overL, Nat.reduceAdd, h3]; rfl, Below.refl _ _⟩
    · intro f w1 hb ⟨h4, _⟩ K hK
      replace h4 : f 4 = _ := h4
      simp only [over, overL, Nat.reduceAdd, h4]
      go_simp
      exact hK _ _ ⟨_, rfl, by simp only [over, overL, Nat.reduceAdd, h4]; rfl, Below.refl _ _⟩
    · intro f w1 hb ⟨h5, _⟩ K hK
      replace h5 : f 5 = _ := h5
      simp only [over, overL, Nat.reduceAdd, h5]
      go_simp
      exact hK _ _ ⟨_, rfl, by simp only [over, overL, Nat.reduceAdd, h5]; rfl, Below.refl _ _⟩
    · intro f w1 hb ⟨h6, _⟩ K hK
      replace h6 : f 6 = _ := h6
      have q0 := (HK.out.later hb).c 0 rfl
      simp only [over, overL, Nat.reduceAdd, h6]
      go_simp
      exact hK _ _ ⟨_, rfl, by simp only [over, overL, Nat.reduceAdd, h6]; rfl, Below.refl _ _⟩
    · intro f w1 hb _ K hK
      simp only [over, overL, Nat.reduceAdd]
      go_simp
      exact hK _ _ ⟨_, rfl, by simp only [over, overL, Nat.reduceAdd]; rfl, Below.refl _ _⟩
    · intro f w1 hb ⟨h8, _⟩ K hK
      replace h8 : f 8 = _ := h8
      simp only [over, overL, Nat.reduceAdd, h8]
      go_simp
      exact hK _ _ ⟨_, rfl, by simp only [over, overL, Nat.reduceAdd, h8]; rfl, Below.refl _ _⟩
    · intro f w1 hb ⟨h9, _⟩ K hK
      replace h9 : f 9 = _ := h9
      simp only [over, overL, Nat.reduceAdd, h9]
      go_simp
      exact hK _ _ ⟨_, rfl, by simp only [over, overL, Nat.reduceAdd, h9]; rfl, Below.refl _ _⟩
    · intro f w1 hb ⟨h10, _⟩ K hK
      replace h10 : f 10 = _ := h10
      have q0 := (HK.out.later hb).c 5 rfl
      simp only [over, overL, Nat.reduceAdd, h10]
      go_simp
      exact hK _ _ ⟨_, rfl, by simp only [over, overL, Nat.reduceAdd, h10]; rfl, Below.refl _ _⟩
    · intro f w1 hb ⟨h7, h11, _⟩ K hK
      replace h7 : f 7 = _ := h7
      replace h11 : f 11 = _ := h11
      have q0 := HUN.out
      simp only [over, overL, Nat.reduceAdd, h7, h11]
      go_simp
      exact hK _ _ ⟨_, rfl, by simp only [over, overL, Nat.reduceAdd, h7, h11]; rfl, Below.refl _ _⟩
    · intro f w1 hb ⟨h12, _⟩ K hK
      replace h12 : f 12 = _ := h12
      have q0 := cell_later hb HP0.out
      have q1 := cell_later hb HP1.out
      have q2 := cell_later hb HP2.out
      simp only [over, overL, Nat.reduceAdd, h12]
      go_simp
      exact hK _ _ ⟨_, rfl, by simp only [over, overL, Nat.reduceAdd, h12]; rfl, Below.refl _ _⟩
    · intro f w1 hb _ K hK
      simp only [over, overL, Nat.reduceAdd]
      go_simp
      exact hK _ _ ⟨_, rfl, by simp only [over, overL, Nat.reduceAdd]; rfl, Below.refl _ _⟩
  intro f w1 hb hv
  have h2 : f 2 = .pointer (some ⟨bc, 0, none⟩) := hv.1
  have h13 : f 13 = plv p := hv.2.2.2.2.2.2.2.2.2.2.2.1
  have h14 : f 14 = cdv (cd 4 0) := hv.2.2.2.2.2.2.2.2.2.2.2.2.1
  have HW1 := hid (HWK.out w1 hb)
  simp only [over_eq, overL, h2, h13, h14, Nat.reduceAdd, List.drop_succ_cons, List.drop_zero]
  clear hv h2 h13 h14 hb HWK
  go_wp2_with fail
  refine Calls.mono HW1.out ?_
  rintro e w2 ⟨rfl, b1, b2, ao2, n2, cap2, b3, b4⟩
  have B1 : Hid _ := b1
  have B2 : Hid _ := b2
  have B3 : Hid (Bk bc (cmc (.slice (some ⟨g, off, none⟩) nt capT) bv (.slice ao2 n2 cap2) mp ms s.used s.held) w2) := b3
  have B4 : Hid (OwnR encK w2 (bc + 1) (.slice ao2 n2 cap2) (s.cs ++ workC (ptQ ls p) (cd 4 0))) := b4
  have u0 := b3.c 5 rfl
  have uf0 := b3.f 5 rfl
  have ult := b3.1
  have HU := HLT.out
  clear b1 b2 b3 b4 HW1
  go_wp2
  go_end0
  refine ⟨rfl, Below.setCell B1.out B2.out _, B2.out, ao2, n2, cap2, ?_, own_kpt B4.out (Kpt.setCell (M := fun k => k = bc) _ _ _ _ rfl) (fun g e e2 => by have := own_lt B4.out e; omega)⟩
  have := B3.out.put 5 (.int .i64 ((s.used + 1 : Nat) : Int))
  have e1 : wrap64 ((s.used : Int) + 1) = ((s.used + 1 : Nat) : Int) := by rw [IntWalk.wrap64_in _ ⟨by omega, by omega⟩]; omega
  first | (rw [e1]; exact this) | exact this
set_option maxHeartbeats 3200000 in
theorem eject_no (wB w : World) (bc : Nat) (ts : Value) (aoB : Option Addr) (capB : Nat) (mp ms : Nat) (s : Cst) (h : Cmp wB w bc ts (.slice aoB 0 capB) mp ms s) :
    Calls Tryz.prog 26 #[ptr bc] w fun e w' => e = .returned (.int .i64 5) ∧ w' = w := by
  obtain ⟨h1, h2, ao, n, cap, h3, h4⟩ := h
  have q1 := h3.c 1 rfl
  clear h1 h2 h3 h4
  go_enter Tryz.func26, Tryz.ntmps26
  go_wp2
  go_ret
  exact ⟨rfl, rfl⟩
set_option maxHeartbeats 3200000 in
set_option maxRecDepth 100000 in
theorem eject_any (wB w : World) (bc : Nat) (ts : Value) (aoB : Option Addr) (capB : Nat) (p : Plc) (bl : List Plc) (mp ms c0 : Nat) (ls : List Sit) (s : Cst) (h : Cmp wB w bc ts (.slice aoB (p :: bl).length capB) mp ms s) (hm : MF kkP wB mp c0 (floorP ls)) (ht : RdR encP wB aoB (p :: bl)) (hw : Wf3 p) (hl : s.cs.length ≤ 1000000000) :
    Calls Tryz.prog 26 #[ptr bc] w fun e w' => e = .returned (.int .i64 0) ∧ Cmp wB w' bc ts (.slice aoB (p :: bl).length capB) mp ms ⟨s.cs ++ workC (ptQ ls p) (cd 5 0), s.used, 0⟩ := by
  obtain ⟨g, off, hao, c0', c1', c2'⟩ := rdP_at (ht.next (w1 := w) goodP h.below) (k := 0) (by simp)
  have HP0 : Hid (w.cell? ⟨g, off, none⟩ = some (.int .i64 p.1)) := by show _ = _; simpa using c0'
  have HP1 : Hid (w.cell? ⟨g, off + 1, none⟩ = some (.int .i64 p.2.1)) := by show _ = _; simpa using c1'
  have HP2 : Hid (w.cell? ⟨g, off + 2, none⟩ = some (.int .i64 p.2.2)) := by show _ = _; simpa using c2'
  subst hao
  have HC : Hid (Cmp wB w bc ts (.slice (some ⟨g, off, none⟩) (p :: bl).length capB) mp ms s) := h
  obtain ⟨h1, h2, ao, n, cap, h3, h4⟩ := h
  have HWK : Hid (∀ W, Below w.heap.size w W → Calls Tryz.prog 57 #[ptr bc, plv p, cdv (cd 5 0)] W fun e w' => e = .returned (.tuple #[]) ∧ Cmp wB w' bc ts (.slice (some ⟨g, off, none⟩) (p :: bl).length capB) mp ms ⟨s.cs ++ workC (ptQ ls p) (cd 5 0), s.used, s.held⟩) := fun W hW => work_any wB W bc ts _ mp ms c0 ls s p (cd 5 0) (HC.out.next hW) hm hw hl
  have hpos : (0 : Int) < ((p :: bl).length : Int) := by rw [List.length_cons]; omega
  have hne : (((p :: bl).length : Int) == 0) = false := by
    have : ((p :: bl).length : Int) ≠ 0 := by omega
    simpa using this
  have q1 := h3.c 1 rfl
  have q2 := HP0.out
  have q3 := HP1.out
  have q4 := HP2.out
  clear h1 h2 h3 h4 hm ht hw hl c0' c1' c2'
  generalize (p :: bl).length = nb at *
  go_enter Tryz.func26, Tryz.ntmps26
  go_wp2_with fail
  refine Calls.mono (HWK.out w (Below.refl _ _)) ?_
  rintro e w2 ⟨rfl, b1, b2, ao2, n2, cap2, b3, b4⟩
  have B1 : Hid _ := b1
  have B2 : Hid _ := b2
  have B3 : Hid (Bk bc (cmc ts (.slice (some ⟨g, off, none⟩) nb capB) (.slice ao2 n2 cap2) mp ms s.used s.held) w2) := b3
  have B4 : Hid (OwnR encK w2 (bc + 1) (.slice ao2 n2 cap2) (s.cs ++ workC (ptQ ls p) (cd 5 0))) := b4
  have u0 := b3.c 6 rfl
  have uf0 := b3.f 6 rfl
  have ult := b3.1
  clear b1 b2 b3 b4 HWK q1 q2 q3 q4
  go_wp2
  go_ret
  exact ⟨rfl, Below.setCell B1.out B2.out _, B2.out, ao2, n2, cap2, B3.out.put 6 _, own_kpt B4.out (Kpt.setCell (M := fun k => k = bc) _ _ _ _ rfl) (fun g e e2 => by have := own_lt B4.out e; omega)⟩
set_option maxHeartbeats 6400000 in
set_option maxRecDepth 100000 in
theorem press_any (wB w : World) (bc : Nat) (ts bv : Value) (mp ms c0 : Nat) (ls : List Sit) (s : Cst) (p : Plc) (m : Int) (h : Cmp wB w bc ts bv mp ms s) (hm : MF kkP wB mp c0 (floorP ls)) (hw : Wf3 p) (hl : s.cs.length ≤ 1000000000) (hh : -4000000000000000000 ≤ s.held ∧ s.held ≤ 4000000000000000000) (hmm : -4000000000000000000 ≤ m ∧ m ≤ 4000000000000000000) :
    Calls Tryz.prog 27 #[ptr bc, plv p, .int .i64 m] w fun e w' => e = .returned (.tuple #[]) ∧ Cmp wB w' bc ts bv mp ms ⟨s.cs ++ workC (ptQ ls p) (cd 3 (s.held + m)), s.used, s.held + m⟩ := by
  have HL : Hid (s.cs.length ≤ 1000000000) := hl
  have HM : Hid (MF kkP wB mp c0 (floorP ls)) := hm
  have HW : Hid (Wf3 p) := hw
  obtain ⟨h1, h2, ao, n, cap, h3, h4⟩ := h
  have hb0 : Below w.heap.size w (w.alloc (.cells #[.int .i64 p.1, .int .i64 p.2.1, .int .i64 p.2.2] 57)) := (Below.refl _ _).alloc (Nat.le_refl _) _
  have KP0 : Hid (Bk w.heap.size [.int .i64 p.1, .int .i64 p.2.1, .int .i64 p.2.2] (w.alloc (.cells #[.int .i64 p.1, .int .i64 p.2.1, .int .i64 p.2.2] 57))) := Bk.new w [.int .i64 p.1, .int .i64 p.2.1, .int .i64 p.2.2] 57 w.heap.size rfl
  have HK : Hid (Bk bc (cmc ts bv (.slice ao n cap) mp ms s.used s.held) (w.alloc (.cells #[.int .i64 p.1, .int .i64 p.2.1, .int .i64 p.2.2] 57))) := h3.later hb0
  have HO : Hid (OwnR encK (w.alloc (.cells #[.int .i64 p.1, .int .i64 p.2.1, .int .i64 p.2.2] 57)) (bc + 1) (.slice ao n cap) s.cs) := h4.later hb0
  have HB : Hid (Below wB.heap.size wB (w.alloc (.cells #[.int .i64 p.1, .int .i64 p.2.1, .int .i64 p.2.2] 57))) := h1.trans (hb0.mono h1.size)
  have HLO : Hid (wB.heap.size ≤ bc) := h2
  have HBC : Hid (bc < w.heap.size) := h3.1
  have hwr : wrap64 (s.held + m) = s.held + m := IntWalk.wrap64_in _ ⟨by omega, by omega⟩
  have HWR : Hid (wrap64 (s.held + m) = s.held + m) := hwr
  have r6 := HK.out.c 6 rfl
  have rf6 := HK.out.f 6 rfl
  have rlt := HK.out.1
  clear h1 h2 h3 h4 hm hw hl hb0 hwr
  go_enter Tryz.func27, Tryz.ntmps27
  go_wp2_with fail
  obtain ⟨w2, hw2⟩ : ∃ w2, w2 = (w.alloc (.cells #[.int .i64 p.1, .int .i64 p.2.1, .int .i64 p.2.2] 57)).setCell ⟨bc, 6, none⟩ (.int .i64 (s.held + m)) := ⟨_, rfl⟩
  have kk : Kpt (fun k => k = bc) (w.alloc (.cells #[.int .i64 p.1, .int .i64 p.2.1, .int .i64 p.2.2] 57)) w2 := by rw [hw2]; exact Kpt.setCell _ _ _ _ rfl
  have HK2 : Hid (Bk bc (cmc ts bv (.slice ao n cap) mp ms s.used (s.held + m)) w2) := by show Bk _ _ _; rw [hw2]; exact HK.out.put 6 _
  have KP : Hid (Bk w.heap.size [.int .i64 p.1, .int .i64 p.2.1, .int .i64 p.2.2] w2) := bkK KP0.out kk (by have := HBC.out; omega)
  have HC2 : Hid (Cmp wB w2 bc ts bv mp ms ⟨s.cs, s.used, s.held + m⟩) := ⟨by rw [hw2]; exact HB.out.setCell HLO.out _, HLO.out, ao, n, cap, HK2.out, own_kpt HO.out kk (fun g e e2 => by have := own_lt HO.out e; omega)⟩
  have HW2 : Hid (w2 = _) := hw2
  clear kk hw2 r6 rf6 rlt
  rw [← HW2.out]
  clear HW2 HK HO HB KP0
  refine region_seq 7 [false, false, false, false, false, false, false, false, false, false, false, false, false, false, true, true, true, true, true, true, true, false]
    [(14, [], none), (15, [], none), (16, [], none), (17, [16], none), (18, [17], none), (19, [18], none), (20, [19], none)]
    (prV bc 0 p (s.held + m)) (by kernel_rfl) (by kernel_rfl) (by kernel_rfl) (by kernel_rfl) (by kernel_rfl) (by decide) (prV_mono bc 0 p (s.held + m)) ?_ ?_
  · refine ⟨?_, ?_, ?_, ?_, ?_, ?_, ?_, trivial⟩
    · intro f w1 hb _ K hK
      simp only [over, overL, Nat.reduceAdd]
      go_simp
      exact hK _ _ ⟨_, rfl, by simp only [over, overL, Nat.reduceAdd]; rfl, Below.refl _ _⟩
    · intro f w1 hb _ K hK
      have q0 := (KP.out.later hb).c 0 rfl
      have q1 := (KP.out.later hb).c 1 rfl
      have q2 := (KP.out.later hb).c 2 rfl
      simp only [over, overL, Nat.reduceAdd]
      go_simp
      exact hK _ _ ⟨_, rfl, by simp only [over, overL, Nat.reduceAdd]; rfl, Below.refl _ _⟩
    · intro f w1 hb _ K hK
      simp only [over, overL, Nat.reduceAdd]
      go_simp
      exact hK _ _ ⟨_, rfl, by simp only [over, overL, Nat.reduceAdd]; rfl, Below.refl _ _⟩
    · intro f w1 hb ⟨h16, _⟩ K hK
      replace h16 : f 16 = _ := h16
      simp only [over, overL, Nat.reduceAdd, h16]
      go_simp
      exact hK _ _ ⟨_, rfl, by simp only [over, overL, Nat.reduceAdd, h16]; rfl, Below.refl _ _⟩
    · intro f w1 hb ⟨h17, _⟩ K hK
      replace h17 : f 17 = _ := h17
      simp only [over, overL, Nat.reduceAdd, h17]
      go_simp
      exact hK _ _ ⟨_, rfl, by simp only [over, overL, Nat.reduceAdd, h17]; rfl, Below.refl _ _⟩
    · intro f w1 hb ⟨h18, _⟩ K hK
      replace h18 : f 18 = _ := h18
      have q0 := (HK2.out.later hb).c 6 rfl
      simp only [over, overL, Nat.reduceAdd, h18]
      go_simp
      exact hK _ _ ⟨_, rfl, by simp only [over, overL, Nat.reduceAdd, h18]; rfl, Below.refl _ _⟩
    · intro f w1 hb ⟨h19, _⟩ K hK
      replace h19 : f 19 = _ := h19
      simp only [over, overL, Nat.reduceAdd, h19]
      go_simp
      exact hK _ _ ⟨_, rfl, by simp only [over, overL, Nat.reduceAdd, h19]; rfl, Below.refl _ _⟩
  intro f w3 hb hv
  have h14 : f 14 = .pointer (some ⟨bc, 0, none⟩) := hv.1
  have h15 : f 15 = plv p := hv.2.1
  have h20 : f 20 = cdv (cd 3 (s.held + m)) := hv.2.2.2.2.2.2.1
  have HWK := hid (work_any wB w3 bc ts bv mp ms c0 ls ⟨s.cs, s.used, s.held + m⟩ p (cd 3 (s.held + m)) (HC2.out.next hb) HM.out HW.out HL.out)
  simp only [over_eq, overL, h14, h15, h20, Nat.reduceAdd, List.drop_succ_cons, List.drop_zero]
  clear hv h14 h15 h20 hb
  go_wp2_with fail
  refine Calls.mono HWK.out ?_
  rintro e w5 ⟨rfl, hc5⟩
  have H5 : Hid _ := hc5
  clear hc5 HWK
  go_wp2
  go_end0
  exact ⟨rfl, H5.out⟩
set_option maxHeartbeats 1600000 in
theorem rest_any (wB w : World) (bc : Nat) (ts bv : Value) (mp ms : Nat) (s : Cst) (t : Int) (h : Cmp wB w bc ts bv mp ms s) (hl : s.cs.length ≤ 1000000000) :
    Calls Tryz.prog 28 #[ptr bc, .int .i64 t] w fun e w' => e = .returned (.tuple #[]) ∧ Cmp wB w' bc ts bv mp ms ⟨s.cs ++ restC t, s.used, s.held⟩ := by
  by_cases ht : 0 < t
  · have HR : Hid (restC t = [cd 7 t]) := if_pos ht
    have HT : Hid (∀ W, Below w.heap.size w W → ∀ x, Bk x (encK.cells [cd 7 t]) W → Calls Tryz.prog 23 #[ptr bc, .slice (some ⟨x, 0, none⟩) 1 1] W fun e w' => e = .returned (.tuple #[]) ∧ Cmp wB w' bc ts bv mp ms ⟨s.cs ++ [cd 7 t], s.used, s.held⟩) := fun W hW x hx => tell_any wB W bc ts bv mp ms s ⟨x, 0, none⟩ 1 [cd 7 t] (h.next hW) (rdK_of hx) (by simp) hl
    clear h hl
    go_enter Tryz.func28, Tryz.ntmps28
    go_wp2_with fail
    refine Calls.mono (HT.out _ ((Below.refl _ _).alloc (Nat.le_refl _) _) _ (Bk.new w (encK.cells [cd 7 t]) 31 _ rfl)) ?_
    rintro e w2 ⟨rfl, hc⟩
    have H5 : Hid _ := hc
    clear hc HT
    go_wp2
    go_end0
    rw [HR.out]
    exact ⟨rfl, H5.out⟩
  · have HR : Hid (restC t = []) := if_neg ht
    have HC : Hid _ := h
    clear h
    go_enter Tryz.func28, Tryz.ntmps28
    go_wp2
    go_end0
    rw [HR.out, List.append_nil]
    exact ⟨rfl, HC.out⟩
end Go.Proofs.YtcajifelbldjnaaGreat

/- compile walked. -/
namespace Go.Proofs.YtcajifelbldjnaaGreat
open Go.RowKit Go.Maps
set_option maxHeartbeats 3200000 in
/-- tell, and what it leaves as it was. -/
theorem tell_keep (wB w : World) (bc : Nat) (ts bv : Value) (mp ms : Nat) (s : Cst) (ad : Addr) (cp : Nat) (xs : List Cd) (h : Cmp wB w bc ts bv mp ms s) (hx : RdR encK w (some ad) xs) (hn : xs.length ≤ 4) (hl : s.cs.length ≤ 1000000000) :
    Calls Tryz.prog 23 #[ptr bc, .slice (some ad) xs.length cp] w fun e w' => e = .returned (.tuple #[]) ∧ Cmp wB w' bc ts bv mp ms ⟨s.cs ++ xs, s.used, s.held⟩ ∧ ∀ k, k < w.heap.size → k ≠ bc → (∀ cur f, w.heap[k]? ≠ some (.cells cur 31 f)) → w'.heap[k]? = w.heap[k]? := by
  obtain ⟨h1, h2, ao, n, cap, h3, h4⟩ := h
  have HB : Hid (Below wB.heap.size wB w) := h1
  have HLO : Hid (wB.heap.size ≤ bc) := h2
  have HK : Hid (Bk bc (cmc ts bv (.slice ao n cap) mp ms s.used s.held) w) := h3
  have HO : Hid (OwnR encK w (bc + 1) (.slice ao n cap) s.cs) := h4
  have HX : Hid (RdR encK w (some ad) xs) := hx
  have q4 := h3.c 4 rfl
  have hlt := h3.1
  clear h1 h2 h3 h4 hx
  go_enter Tryz.func23, Tryz.ntmps23
  go_wp2_with (at_builtin; refine wpList_append_list goodK Tryz.underlying24 infoK rfl (by decide) _ rfl (.tmp 8) (.tmp 9) rfl (bc + 1) (.slice ao n cap) s.cs rfl HO.out ad cp xs rfl HX.out (by unfold maxLen; omega) (by omega) (by omega) ?_; intro v' w5 ho hg hloc; obtain ⟨ao5, n5, cap5, rfl⟩ := ho.form; have hbk : Bk bc (cmc ts bv (.slice ao n cap) mp ms s.used s.held) w5 := HK.out.same hg.size (hg.block _ HK.out.1 (fun e => by have := own_lt HO.out e.symm; omega)); have e4 := hbk.c 4 rfl; have ef4 := hbk.f 4 rfl)
  have HB5 : Hid (Below wB.heap.size wB (w5.setCell ⟨bc, 4, none⟩ (.slice ao5 n5 cap5))) := (below_row HB.out (HO.out.base (Nat.le_succ_of_le HLO.out)) hg HB.out.size).setCell HLO.out _
  have HBK5 : Hid (Bk bc (cmc ts bv (.slice ao5 n5 cap5) mp ms s.used s.held) (w5.setCell ⟨bc, 4, none⟩ (.slice ao5 n5 cap5))) := hbk.put 4 _
  have HO5 : Hid (OwnR encK (w5.setCell ⟨bc, 4, none⟩ (.slice ao5 n5 cap5)) (bc + 1) (.slice ao5 n5 cap5) (s.cs ++ xs)) := own_kpt ho (Kpt.setCell (M := fun k => k = bc) _ _ _ _ rfl) (fun g e e2 => by have := own_lt ho e; omega)
  have HKE : Hid (∀ k, k < w.heap.size → k ≠ bc → (∀ cur f, w.heap[k]? ≠ some (.cells cur 31 f)) → (w5.setCell ⟨bc, 4, none⟩ (.slice ao5 n5 cap5)).heap[k]? = w.heap[k]?) := by
    intro k hk hne hno
    refine (Below.heap_setCell w5 ⟨bc, 4, none⟩ _ k hne).trans (hg.block k hk fun e => ?_)
    rcases HO.out.2 with ⟨e2, _⟩ | ⟨g, cp2, cur, e2, _, hh, _⟩
    · rw [e2] at e; cases e
    · rw [e2] at e
      injection e with e
      subst e
      exact hno _ _ hh
  clear ho hg hloc hbk e4 ef4 q4
  go_wp2
  go_end0
  exact ⟨rfl, ⟨HB5.out, HLO.out, ao5, n5, cap5, HBK5.out, HO5.out⟩, HKE.out⟩
/-- What a compiler asks of an action. -/
structure AcOk (tl : List Plc) (s : Cst) (a : Acn) : Prop where
  tip : a.kind = 6 → s.used < tl.length
  well : a.kind = 8 ∨ a.kind = 9 → Wf3 a.pl ∧ 1 ≤ a.vol ∧ a.vol ≤ 1000000000
  held : -1000000000000000000 ≤ s.held ∧ s.held ≤ 1000000000000000000
  used : s.used ≤ 1000000000
  few : s.cs.length ≤ 100000000
set_option linter.unusedVariables false in
set_option maxHeartbeats 3200000 in
set_option maxRecDepth 100000 in
theorem compile_fill (wB w : World) (bc : Nat) (aoT : Option Addr) (capT : Nat) (tl : List Plc) (aoB : Option Addr) (capB : Nat) (bl : List Plc) (mp ms c0 : Nat) (ls : List Sit) (s : Cst) (a : Acn) (hk : a.kind = 5) (h : Cmp wB w bc (.slice aoT tl.length capT) (.slice aoB bl.length capB) mp ms s)
    (hm : MF kkP wB mp c0 (floorP ls)) (ht : RdR encP wB aoT tl) (hb : RdR encP wB aoB bl) (hwt : ∀ p ∈ tl, Wf3 p) (hwb : ∀ p ∈ bl, Wf3 p) (ha : AcOk tl s a) :
    Calls Tryz.prog 9 #[ptr bc, av a] w fun e w' => e = .returned (.int .i64 (stepC tl bl (ptQ ls) s a).2) ∧ Cmp wB w' bc (.slice aoT tl.length capT) (.slice aoB bl.length capB) mp ms (stepC tl bl (ptQ ls) s a).1 := by
  have hb0 : Below w.heap.size w (w.alloc (aobj a)) := (Below.refl _ _).alloc (Nat.le_refl _) _
  have HC0 : Hid (Cmp wB (w.alloc (aobj a)) bc (.slice aoT tl.length capT) (.slice aoB bl.length capB) mp ms s) := h.next hb0
  have hfew : s.cs.length ≤ 1000000000 := by have := ha.few; omega
  have HS : Hid (stepC tl bl (ptQ ls) s a = (s, 0)) := by show _ = _; obtain ⟨ak, apl, al, avl, avv, atm⟩ := a; simp only at hk; subst hk; rfl
  clear h hm ht hb hwt hwb ha hb0 hfew
  obtain ⟨ak, ⟨a1, a2, a3⟩, al, avl, avv, atm⟩ := a
  simp only at hk
  subst hk
  go_enter Tryz.func9, Tryz.ntmps9
  go_wp2
  go_ret
  rw [HS.out]
  exact ⟨rfl, HC0.out⟩
set_option linter.unusedVariables false in
set_option maxHeartbeats 3200000 in
set_option maxRecDepth 100000 in
theorem compile_tip (wB w : World) (bc : Nat) (aoT : Option Addr) (capT : Nat) (tl : List Plc) (aoB : Option Addr) (capB : Nat) (bl : List Plc) (mp ms c0 : Nat) (ls : List Sit) (s : Cst) (a : Acn) (hk : a.kind = 6) (h : Cmp wB w bc (.slice aoT tl.length capT) (.slice aoB bl.length capB) mp ms s)
    (hm : MF kkP wB mp c0 (floorP ls)) (ht : RdR encP wB aoT tl) (hb : RdR encP wB aoB bl) (hwt : ∀ p ∈ tl, Wf3 p) (hwb : ∀ p ∈ bl, Wf3 p) (ha : AcOk tl s a) :
    Calls Tryz.prog 9 #[ptr bc, av a] w fun e w' => e = .returned (.int .i64 (stepC tl bl (ptQ ls) s a).2) ∧ Cmp wB w' bc (.slice aoT tl.length capT) (.slice aoB bl.length capB) mp ms (stepC tl bl (ptQ ls) s a).1 := by
  have hb0 : Below w.heap.size w (w.alloc (aobj a)) := (Below.refl _ _).alloc (Nat.le_refl _) _
  have HC0 : Hid (Cmp wB (w.alloc (aobj a)) bc (.slice aoT tl.length capT) (.slice aoB bl.length capB) mp ms s) := h.next hb0
  have hfew : s.cs.length ≤ 1000000000 := by have := ha.few; omega
  have HW := hid (grab_any wB (w.alloc (aobj a)) bc aoT capT tl (.slice aoB bl.length capB) mp ms c0 ls s HC0.out hm ht (ha.tip hk) hwt hfew ha.used)
  have HS : Hid (stepC tl bl (ptQ ls) s a = (⟨s.cs ++ workC (ptQ ls (tl.getD s.used plc0)) (cd 4 0), s.used + 1, s.held⟩, 0)) := by show _ = _; obtain ⟨ak, apl, al, avl, avv, atm⟩ := a; simp only at hk; subst hk; rfl
  clear h hm ht hb hwt hwb ha hb0 hfew
  obtain ⟨ak, ⟨a1, a2, a3⟩, al, avl, avv, atm⟩ := a
  simp only at hk
  subst hk
  go_enter Tryz.func9, Tryz.ntmps9
  go_wp2_with fail
  refine Calls.mono HW.out ?_
  rintro e w2 ⟨rfl, hc⟩
  have H2 : Hid _ := hc
  clear hc HW
  go_wp2
  go_ret
  rw [HS.out]
  exact ⟨rfl, H2.out⟩
set_option linter.unusedVariables false in
set_option maxHeartbeats 3200000 in
set_option maxRecDepth 100000 in
theorem compile_drop0 (wB w : World) (bc : Nat) (aoT : Option Addr) (capT : Nat) (tl : List Plc) (aoB : Option Addr) (capB : Nat) (bl : List Plc) (mp ms c0 : Nat) (ls : List Sit) (s : Cst) (a : Acn) (hk : a.kind = 7 ∧ bl = []) (h : Cmp wB w bc (.slice aoT tl.length capT) (.slice aoB bl.length capB) mp ms s)
    (hm : MF kkP wB mp c0 (floorP ls)) (ht : RdR encP wB aoT tl) (hb : RdR encP wB aoB bl) (hwt : ∀ p ∈ tl, Wf3 p) (hwb : ∀ p ∈ bl, Wf3 p) (ha : AcOk tl s a) :
    Calls Tryz.prog 9 #[ptr bc, av a] w fun e w' => e = .returned (.int .i64 (stepC tl bl (ptQ ls) s a).2) ∧ Cmp wB w' bc (.slice aoT tl.length capT) (.slice aoB bl.length capB) mp ms (stepC tl bl (ptQ ls) s a).1 := by
  have hb0 : Below w.heap.size w (w.alloc (aobj a)) := (Below.refl _ _).alloc (Nat.le_refl _) _
  have HC0 : Hid (Cmp wB (w.alloc (aobj a)) bc (.slice aoT tl.length capT) (.slice aoB bl.length capB) mp ms s) := h.next hb0
  have hfew : s.cs.length ≤ 1000000000 := by have := ha.few; omega
  obtain ⟨hk, hbl⟩ := hk
  subst hbl
  have HW := hid (eject_no wB (w.alloc (aobj a)) bc (.slice aoT tl.length capT) aoB capB mp ms s HC0.out)
  have HS : Hid (stepC tl [] (ptQ ls) s a = (s, 5)) := by show _ = _; obtain ⟨ak, apl, al, avl, avv, atm⟩ := a; simp only at hk; subst hk; rfl
  clear h hm ht hb hwt hwb ha hb0 hfew
  obtain ⟨ak, ⟨a1, a2, a3⟩, al, avl, avv, atm⟩ := a
  simp only at hk
  subst hk
  go_enter Tryz.func9, Tryz.ntmps9
  go_wp2_with fail
  refine Calls.mono HW.out ?_
  rintro e w2 ⟨rfl, rfl⟩
  clear HW
  go_wp2
  go_ret
  rw [HS.out]
  exact ⟨rfl, HC0.out⟩
set_option linter.unusedVariables false in
set_option maxHeartbeats 3200000 in
set_option maxRecDepth 100000 in
theorem compile_drop1 (wB w : World) (bc : Nat) (aoT : Option Addr) (capT : Nat) (tl : List Plc) (aoB : Option Addr) (capB : Nat) (bl : List Plc) (mp ms c0 : Nat) (ls : List Sit) (s : Cst) (a : Acn) (hk : a.kind = 7 ∧ bl ≠ []) (h : Cmp wB w bc (.slice aoT tl.length capT) (.slice aoB bl.length capB) mp ms s)
    (hm : MF kkP wB mp c0 (floorP ls)) (ht : RdR encP wB aoT tl) (hb : RdR encP wB aoB bl) (hwt : ∀ p ∈ tl, Wf3 p) (hwb : ∀ p ∈ bl, Wf3 p) (ha : AcOk tl s a) :
    Calls Tryz.prog 9 #[ptr bc, av a] w fun e w' => e = .returned (.int .i64 (stepC tl bl (ptQ ls) s a).2) ∧ Cmp wB w' bc (.slice aoT tl.length capT) (.slice aoB bl.length capB) mp ms (stepC tl bl (ptQ ls) s a).1 := by
  have hb0 : Below w.heap.size w (w.alloc (aobj a)) := (Below.refl _ _).alloc (Nat.le_refl _) _
  have HC0 : Hid (Cmp wB (w.alloc (aobj a)) bc (.slice aoT tl.length capT) (.slice aoB bl.length capB) mp ms s) := h.next hb0
  have hfew : s.cs.length ≤ 1000000000 := by have := ha.few; omega
  obtain ⟨hk, hbl⟩ := hk
  obtain ⟨p, bl, rfl⟩ := List.exists_cons_of_ne_nil hbl
  have HW := hid (eject_any wB (w.alloc (aobj a)) bc (.slice aoT tl.length capT) aoB capB p bl mp ms c0 ls s HC0.out hm hb (hwb p (by simp)) hfew)
  have HS : Hid (stepC tl (p :: bl) (ptQ ls) s a = (⟨s.cs ++ workC (ptQ ls p) (cd 5 0), s.used, 0⟩, 0)) := by show _ = _; obtain ⟨ak, apl, al, avl, avv, atm⟩ := a; simp only at hk; subst hk; rfl
  clear h hm ht hb hwt hwb ha hb0 hfew hbl
  obtain ⟨ak, ⟨a1, a2, a3⟩, al, avl, avv, atm⟩ := a
  simp only at hk
  subst hk
  go_enter Tryz.func9, Tryz.ntmps9
  go_wp2_with fail
  refine Calls.mono HW.out ?_
  rintro e w2 ⟨rfl, hc⟩
  have H2 : Hid _ := hc
  clear hc HW
  go_wp2
  go_ret
  rw [HS.out]
  exact ⟨rfl, H2.out⟩
set_option linter.unusedVariables false in
set_option maxHeartbeats 3200000 in
set_option maxRecDepth 100000 in
theorem compile_draw (wB w : World) (bc : Nat) (aoT : Option Addr) (capT : Nat) (tl : List Plc) (aoB : Option Addr) (capB : Nat) (bl : List Plc) (mp ms c0 : Nat) (ls : List Sit) (s : Cst) (a : Acn) (hk : a.kind = 8) (h : Cmp wB w bc (.slice aoT tl.length capT) (.slice aoB bl.length capB) mp ms s)
    (hm : MF kkP wB mp c0 (floorP ls)) (ht : RdR encP wB aoT tl) (hb : RdR encP wB aoB bl) (hwt : ∀ p ∈ tl, Wf3 p) (hwb : ∀ p ∈ bl, Wf3 p) (ha : AcOk tl s a) :
    Calls Tryz.prog 9 #[ptr bc, av a] w fun e w' => e = .returned (.int .i64 (stepC tl bl (ptQ ls) s a).2) ∧ Cmp wB w' bc (.slice aoT tl.length capT) (.slice aoB bl.length capB) mp ms (stepC tl bl (ptQ ls) s a).1 := by
  have hb0 : Below w.heap.size w (w.alloc (aobj a)) := (Below.refl _ _).alloc (Nat.le_refl _) _
  have HC0 : Hid (Cmp wB (w.alloc (aobj a)) bc (.slice aoT tl.length capT) (.slice aoB bl.length capB) mp ms s) := h.next hb0
  have hfew : s.cs.length ≤ 1000000000 := by have := ha.few; omega
  have HW := hid (press_any wB (w.alloc (aobj a)) bc (.slice aoT tl.length capT) (.slice aoB bl.length capB) mp ms c0 ls s a.pl a.vol HC0.out hm (ha.well (.inl hk)).1 hfew (by have := ha.held; omega) (by have := (ha.well (.inl hk)).2; omega))
  have HS : Hid (stepC tl bl (ptQ ls) s a = (⟨s.cs ++ workC (ptQ ls a.pl) (cd 3 (s.held + a.vol)), s.used, s.held + a.vol⟩, 0)) := by show _ = _; obtain ⟨ak, apl, al, avl, avv, atm⟩ := a; simp only at hk; subst hk; rfl
  clear h hm ht hb hwt hwb ha hb0 hfew
  obtain ⟨ak, ⟨a1, a2, a3⟩, al, avl, avv, atm⟩ := a
  simp only at hk
  subst hk
  go_enter Tryz.func9, Tryz.ntmps9
  go_wp2_with fail
  refine Calls.mono HW.out ?_
  rintro e w2 ⟨rfl, hc⟩
  have H2 : Hid _ := hc
  clear hc HW
  go_wp2
  go_ret
  rw [HS.out]
  exact ⟨rfl, H2.out⟩
set_option linter.unusedVariables false in
set_option maxHeartbeats 3200000 in
set_option maxRecDepth 100000 in
theorem compile_put (wB w : World) (bc : Nat) (aoT : Option Addr) (capT : Nat) (tl : List Plc) (aoB : Option Addr) (capB : Nat) (bl : List Plc) (mp ms c0 : Nat) (ls : List Sit) (s : Cst) (a : Acn) (hk : a.kind = 9) (h : Cmp wB w bc (.slice aoT tl.length capT) (.slice aoB bl.length capB) mp ms s)
    (hm : MF kkP wB mp c0 (floorP ls)) (ht : RdR encP wB aoT tl) (hb : RdR encP wB aoB bl) (hwt : ∀ p ∈ tl, Wf3 p) (hwb : ∀ p ∈ bl, Wf3 p) (ha : AcOk tl s a) :
    Calls Tryz.prog 9 #[ptr bc, av a] w fun e w' => e = .returned (.int .i64 (stepC tl bl (ptQ ls) s a).2) ∧ Cmp wB w' bc (.slice aoT tl.length capT) (.slice aoB bl.length capB) mp ms (stepC tl bl (ptQ ls) s a).1 := by
  have hb0 : Below w.heap.size w (w.alloc (aobj a)) := (Below.refl _ _).alloc (Nat.le_refl _) _
  have HC0 : Hid (Cmp wB (w.alloc (aobj a)) bc (.slice aoT tl.length capT) (.slice aoB bl.length capB) mp ms s) := h.next hb0
  have hfew : s.cs.length ≤ 1000000000 := by have := ha.few; omega
  have HW := hid (press_any wB (w.alloc (aobj a)) bc (.slice aoT tl.length capT) (.slice aoB bl.length capB) mp ms c0 ls s a.pl (-a.vol) HC0.out hm (ha.well (.inr hk)).1 hfew (by have := ha.held; omega) (by have := (ha.well (.inr hk)).2; omega))
  have hwr : wrap64 (-a.vol) = -a.vol := IntWalk.wrap64_in _ (by have := (ha.well (.inr hk)).2; exact ⟨by omega, by omega⟩)
  have HS : Hid (stepC tl bl (ptQ ls) s a = (⟨s.cs ++ workC (ptQ ls a.pl) (cd 3 (s.held + -a.vol)), s.used, s.held + -a.vol⟩, 0)) := by show _ = _; obtain ⟨ak, apl, al, avl, avv, atm⟩ := a; simp only at hk; subst hk; rfl
  clear h hm ht hb hwt hwb ha hb0 hfew
  obtain ⟨ak, ⟨a1, a2, a3⟩, al, avl, avv, atm⟩ := a
  simp only at hk
  subst hk
  go_enter Tryz.func9, Tryz.ntmps9
  go_wp2_with fail
  refine Calls.mono HW.out ?_
  rintro e w2 ⟨rfl, hc⟩
  have H2 : Hid _ := hc
  clear hc HW
  go_wp2
  go_ret
  rw [HS.out]
  exact ⟨rfl, H2.out⟩
set_option linter.unusedVariables false in
set_option maxHeartbeats 3200000 in
set_option maxRecDepth 100000 in
theorem compile_warm (wB w : World) (bc : Nat) (aoT : Option Addr) (capT : Nat) (tl : List Plc) (aoB : Option Addr) (capB : Nat) (bl : List Plc) (mp ms c0 : Nat) (ls : List Sit) (s : Cst) (a : Acn) (hk : a.kind = 11) (h : Cmp wB w bc (.slice aoT tl.length capT) (.slice aoB bl.length capB) mp ms s)
    (hm : MF kkP wB mp c0 (floorP ls)) (ht : RdR encP wB aoT tl) (hb : RdR encP wB aoB bl) (hwt : ∀ p ∈ tl, Wf3 p) (hwb : ∀ p ∈ bl, Wf3 p) (ha : AcOk tl s a) :
    Calls Tryz.prog 9 #[ptr bc, av a] w fun e w' => e = .returned (.int .i64 (stepC tl bl (ptQ ls) s a).2) ∧ Cmp wB w' bc (.slice aoT tl.length capT) (.slice aoB bl.length capB) mp ms (stepC tl bl (ptQ ls) s a).1 := by
  have hb0 : Below w.heap.size w (w.alloc (aobj a)) := (Below.refl _ _).alloc (Nat.le_refl _) _
  have HC0 : Hid (Cmp wB (w.alloc (aobj a)) bc (.slice aoT tl.length capT) (.slice aoB bl.length capB) mp ms s) := h.next hb0
  have hfew : s.cs.length ≤ 1000000000 := by have := ha.few; omega
  have HW : Hid (∀ x, Bk x (encK.cells [cd 6 a.value]) ((w.alloc (aobj a)).alloc (.cells (cdl (cd 6 a.value)).toArray 31)) → Calls Tryz.prog 23 #[ptr bc, .slice (some ⟨x, 0, none⟩) 1 1] ((w.alloc (aobj a)).alloc (.cells (cdl (cd 6 a.value)).toArray 31)) fun e w2 => e = .returned (.tuple #[]) ∧ Cmp wB w2 bc (.slice aoT tl.length capT) (.slice aoB bl.length capB) mp ms ⟨s.cs ++ [cd 6 a.value], s.used, s.held⟩) := fun x hx => tell_any wB _ bc _ _ mp ms s ⟨x, 0, none⟩ 1 [cd 6 a.value] (HC0.out.next ((Below.refl _ _).alloc (Nat.le_refl _) _)) (rdK_of hx) (by simp) hfew
  have HS : Hid (stepC tl bl (ptQ ls) s a = (⟨s.cs ++ [cd 6 a.value], s.used, s.held⟩, 0)) := by show _ = _; obtain ⟨ak, apl, al, avl, avv, atm⟩ := a; simp only at hk; subst hk; rfl
  clear h hm ht hb hwt hwb ha hb0 hfew
  obtain ⟨ak, ⟨a1, a2, a3⟩, al, avl, avv, atm⟩ := a
  simp only at hk
  subst hk
  go_enter Tryz.func9, Tryz.ntmps9
  go_wp2_with fail
  refine Calls.mono (HW.out _ (Bk.new _ (encK.cells [cd 6 avv]) 31 _ (by simp))) ?_
  rintro e w2 ⟨rfl, hc⟩
  have H2 : Hid _ := hc
  clear hc HW
  go_wp2
  go_ret
  rw [HS.out]
  exact ⟨rfl, H2.out⟩
set_option linter.unusedVariables false in
set_option maxHeartbeats 3200000 in
set_option maxRecDepth 100000 in
theorem compile_hold (wB w : World) (bc : Nat) (aoT : Option Addr) (capT : Nat) (tl : List Plc) (aoB : Option Addr) (capB : Nat) (bl : List Plc) (mp ms c0 : Nat) (ls : List Sit) (s : Cst) (a : Acn) (hk : a.kind = 12) (h : Cmp wB w bc (.slice aoT tl.length capT) (.slice aoB bl.length capB) mp ms s)
    (hm : MF kkP wB mp c0 (floorP ls)) (ht : RdR encP wB aoT tl) (hb : RdR encP wB aoB bl) (hwt : ∀ p ∈ tl, Wf3 p) (hwb : ∀ p ∈ bl, Wf3 p) (ha : AcOk tl s a) :
    Calls Tryz.prog 9 #[ptr bc, av a] w fun e w' => e = .returned (.int .i64 (stepC tl bl (ptQ ls) s a).2) ∧ Cmp wB w' bc (.slice aoT tl.length capT) (.slice aoB bl.length capB) mp ms (stepC tl bl (ptQ ls) s a).1 := by
  have hb0 : Below w.heap.size w (w.alloc (aobj a)) := (Below.refl _ _).alloc (Nat.le_refl _) _
  have HC0 : Hid (Cmp wB (w.alloc (aobj a)) bc (.slice aoT tl.length capT) (.slice aoB bl.length capB) mp ms s) := h.next hb0
  have hfew : s.cs.length ≤ 1000000000 := by have := ha.few; omega
  have HW := hid (rest_any wB (w.alloc (aobj a)) bc (.slice aoT tl.length capT) (.slice aoB bl.length capB) mp ms s a.time HC0.out hfew)
  have HS : Hid (stepC tl bl (ptQ ls) s a = (⟨s.cs ++ restC a.time, s.used, s.held⟩, 0)) := by show _ = _; obtain ⟨ak, apl, al, avl, avv, atm⟩ := a; simp only at hk; subst hk; rfl
  clear h hm ht hb hwt hwb ha hb0 hfew
  obtain ⟨ak, ⟨a1, a2, a3⟩, al, avl, avv, atm⟩ := a
  simp only at hk
  subst hk
  go_enter Tryz.func9, Tryz.ntmps9
  go_wp2_with fail
  refine Calls.mono HW.out ?_
  rintro e w2 ⟨rfl, hc⟩
  have H2 : Hid _ := hc
  clear hc HW
  go_wp2
  go_ret
  rw [HS.out]
  exact ⟨rfl, H2.out⟩
set_option linter.unusedVariables false in
set_option maxHeartbeats 3200000 in
set_option maxRecDepth 100000 in
theorem compile_wait (wB w : World) (bc : Nat) (aoT : Option Addr) (capT : Nat) (tl : List Plc) (aoB : Option Addr) (capB : Nat) (bl : List Plc) (mp ms c0 : Nat) (ls : List Sit) (s : Cst) (a : Acn) (hk : a.kind = 14) (h : Cmp wB w bc (.slice aoT tl.length capT) (.slice aoB bl.length capB) mp ms s)
    (hm : MF kkP wB mp c0 (floorP ls)) (ht : RdR encP wB aoT tl) (hb : RdR encP wB aoB bl) (hwt : ∀ p ∈ tl, Wf3 p) (hwb : ∀ p ∈ bl, Wf3 p) (ha : AcOk tl s a) :
    Calls Tryz.prog 9 #[ptr bc, av a] w fun e w' => e = .returned (.int .i64 (stepC tl bl (ptQ ls) s a).2) ∧ Cmp wB w' bc (.slice aoT tl.length capT) (.slice aoB bl.length capB) mp ms (stepC tl bl (ptQ ls) s a).1 := by
  have hb0 : Below w.heap.size w (w.alloc (aobj a)) := (Below.refl _ _).alloc (Nat.le_refl _) _
  have HC0 : Hid (Cmp wB (w.alloc (aobj a)) bc (.slice aoT tl.length capT) (.slice aoB bl.length capB) mp ms s) := h.next hb0
  have hfew : s.cs.length ≤ 1000000000 := by have := ha.few; omega
  have HW := hid (rest_any wB (w.alloc (aobj a)) bc (.slice aoT tl.length capT) (.slice aoB bl.length capB) mp ms s a.time HC0.out hfew)
  have HS : Hid (stepC tl bl (ptQ ls) s a = (⟨s.cs ++ restC a.time, s.used, s.held⟩, 0)) := by show _ = _; obtain ⟨ak, apl, al, avl, avv, atm⟩ := a; simp only at hk; subst hk; rfl
  clear h hm ht hb hwt hwb ha hb0 hfew
  obtain ⟨ak, ⟨a1, a2, a3⟩, al, avl, avv, atm⟩ := a
  simp only at hk
  subst hk
  go_enter Tryz.func9, Tryz.ntmps9
  go_wp2_with fail
  refine Calls.mono HW.out ?_
  rintro e w2 ⟨rfl, hc⟩
  have H2 : Hid _ := hc
  clear hc HW
  go_wp2
  go_ret
  rw [HS.out]
  exact ⟨rfl, H2.out⟩
set_option linter.unusedVariables false in
set_option maxHeartbeats 3200000 in
set_option maxRecDepth 100000 in
theorem compile_shake (wB w : World) (bc : Nat) (aoT : Option Addr) (capT : Nat) (tl : List Plc) (aoB : Option Addr) (capB : Nat) (bl : List Plc) (mp ms c0 : Nat) (ls : List Sit) (s : Cst) (a : Acn) (hk : a.kind = 13) (h : Cmp wB w bc (.slice aoT tl.length capT) (.slice aoB bl.length capB) mp ms s)
    (hm : MF kkP wB mp c0 (floorP ls)) (ht : RdR encP wB aoT tl) (hb : RdR encP wB aoB bl) (hwt : ∀ p ∈ tl, Wf3 p) (hwb : ∀ p ∈ bl, Wf3 p) (ha : AcOk tl s a) :
    Calls Tryz.prog 9 #[ptr bc, av a] w fun e w' => e = .returned (.int .i64 (stepC tl bl (ptQ ls) s a).2) ∧ Cmp wB w' bc (.slice aoT tl.length capT) (.slice aoB bl.length capB) mp ms (stepC tl bl (ptQ ls) s a).1 := by
  have hb0 : Below w.heap.size w (w.alloc (aobj a)) := (Below.refl _ _).alloc (Nat.le_refl _) _
  have HC0 : Hid (Cmp wB (w.alloc (aobj a)) bc (.slice aoT tl.length capT) (.slice aoB bl.length capB) mp ms s) := h.next hb0
  have hfew : s.cs.length ≤ 1000000000 := by have := ha.few; omega
  have HW : Hid (∀ x, Bk x (encK.cells [cd 8 a.value]) ((w.alloc (aobj a)).alloc (.cells (cdl (cd 8 a.value)).toArray 31)) → Calls Tryz.prog 23 #[ptr bc, .slice (some ⟨x, 0, none⟩) 1 1] ((w.alloc (aobj a)).alloc (.cells (cdl (cd 8 a.value)).toArray 31)) fun e w2 => e = .returned (.tuple #[]) ∧ Cmp wB w2 bc (.slice aoT tl.length capT) (.slice aoB bl.length capB) mp ms ⟨s.cs ++ [cd 8 a.value], s.used, s.held⟩ ∧ w2.cell? ⟨w.heap.size, 7, none⟩ = some (.int .i64 a.time)) := fun x hx => (tell_keep wB _ bc _ _ mp ms s ⟨x, 0, none⟩ 1 [cd 8 a.value] (HC0.out.next ((Below.refl _ _).alloc (Nat.le_refl _) _)) (rdK_of hx) (by simp) hfew).mono fun e w2 ⟨q1, q2, q3⟩ => ⟨q1, q2, by
    have hbc : bc < w.heap.size := h.bk.choose_spec.choose_spec.choose_spec.1.1
    have e1 : ((w.alloc (aobj a)).alloc (.cells (cdl (cd 8 a.value)).toArray 31)).heap[w.heap.size]? = some (aobj a) := (Below.heap_alloc _ _ _ (by simp)).trans (World.alloc_heap_new w _)
    have e2 := q3 w.heap.size (by simp; omega) (by omega) (fun cur f e => by rw [e1] at e; simp at e)
    exact (World.cell?_of_block (a := ⟨w.heap.size, 7, none⟩) (e2.trans e1 |>.trans (World.alloc_heap_new w (aobj a)).symm)).trans (by go_simp)⟩
  have HR : Hid (∀ W, Cmp wB W bc (.slice aoT tl.length capT) (.slice aoB bl.length capB) mp ms ⟨s.cs ++ [cd 8 a.value], s.used, s.held⟩ → Calls Tryz.prog 28 #[ptr bc, .int .i64 a.time] W fun e w2 => e = .returned (.tuple #[]) ∧ Cmp wB w2 bc (.slice aoT tl.length capT) (.slice aoB bl.length capB) mp ms ⟨(s.cs ++ [cd 8 a.value]) ++ restC a.time, s.used, s.held⟩) := fun W hW => rest_any wB W bc _ _ mp ms ⟨s.cs ++ [cd 8 a.value], s.used, s.held⟩ a.time hW (by have := ha.few; simp; omega)
  have HT : Hid (∀ W, Cmp wB W bc (.slice aoT tl.length capT) (.slice aoB bl.length capB) mp ms ⟨(s.cs ++ [cd 8 a.value]) ++ restC a.time, s.used, s.held⟩ → ∀ x, Bk x (encK.cells [cd 8 0]) W → Calls Tryz.prog 23 #[ptr bc, .slice (some ⟨x, 0, none⟩) 1 1] W fun e w2 => e = .returned (.tuple #[]) ∧ Cmp wB w2 bc (.slice aoT tl.length capT) (.slice aoB bl.length capB) mp ms ⟨(s.cs ++ [cd 8 a.value]) ++ restC a.time ++ [cd 8 0], s.used, s.held⟩) := fun W hW x hx => tell_any wB W bc _ _ mp ms ⟨(s.cs ++ [cd 8 a.value]) ++ restC a.time, s.used, s.held⟩ ⟨x, 0, none⟩ 1 [cd 8 0] hW (rdK_of hx) (by simp) (by have := ha.few; have : (restC a.time).length ≤ 1 := (by unfold restC; split <;> simp); simp; omega)
  have HS : Hid (stepC tl bl (ptQ ls) s a = (⟨s.cs ++ [cd 8 a.value] ++ restC a.time ++ [cd 8 0], s.used, s.held⟩, 0)) := by show _ = _; obtain ⟨ak, apl, al, avl, avv, atm⟩ := a; simp only at hk; subst hk; rfl
  clear h hm ht hb hwt hwb ha hb0 hfew
  obtain ⟨ak, ⟨a1, a2, a3⟩, al, avl, avv, atm⟩ := a
  simp only at hk
  subst hk
  go_enter Tryz.func9, Tryz.ntmps9
  go_wp2_with fail
  refine Calls.mono (HW.out _ (Bk.new _ (encK.cells [cd 8 avv]) 31 _ (by simp))) ?_
  rintro e w2 ⟨rfl, hc, q7⟩
  have H2 : Hid _ := hc
  clear hc HW
  go_wp2_with fail
  refine Calls.mono (HR.out _ H2.out) ?_
  rintro e w3 ⟨rfl, hc⟩
  have H3 : Hid _ := hc
  clear hc HR q7 H2
  go_wp2_with fail
  refine Calls.mono (HT.out _ (H3.out.next ((Below.refl _ _).alloc (Nat.le_refl _) _)) _ (Bk.new _ (encK.cells [cd 8 0]) 31 _ rfl)) ?_
  rintro e w4 ⟨rfl, hc⟩
  have H4 : Hid _ := hc
  clear hc HT H3
  go_wp2
  go_ret
  rw [HS.out]
  exact ⟨rfl, H4.out⟩
set_option linter.unusedVariables false in
set_option maxHeartbeats 3200000 in
set_option maxRecDepth 100000 in
theorem compile_none (wB w : World) (bc : Nat) (aoT : Option Addr) (capT : Nat) (tl : List Plc) (aoB : Option Addr) (capB : Nat) (bl : List Plc) (mp ms c0 : Nat) (ls : List Sit) (s : Cst) (a : Acn) (hk : a.kind ≠ 5 ∧ a.kind ≠ 6 ∧ a.kind ≠ 7 ∧ a.kind ≠ 8 ∧ a.kind ≠ 9 ∧ a.kind ≠ 11 ∧ a.kind ≠ 12 ∧ a.kind ≠ 13 ∧ a.kind ≠ 14) (h : Cmp wB w bc (.slice aoT tl.length capT) (.slice aoB bl.length capB) mp ms s)
    (hm : MF kkP wB mp c0 (floorP ls)) (ht : RdR encP wB aoT tl) (hb : RdR encP wB aoB bl) (hwt : ∀ p ∈ tl, Wf3 p) (hwb : ∀ p ∈ bl, Wf3 p) (ha : AcOk tl s a) :
    Calls Tryz.prog 9 #[ptr bc, av a] w fun e w' => e = .returned (.int .i64 (stepC tl bl (ptQ ls) s a).2) ∧ Cmp wB w' bc (.slice aoT tl.length capT) (.slice aoB bl.length capB) mp ms (stepC tl bl (ptQ ls) s a).1 := by
  have hb0 : Below w.heap.size w (w.alloc (aobj a)) := (Below.refl _ _).alloc (Nat.le_refl _) _
  have HC0 : Hid (Cmp wB (w.alloc (aobj a)) bc (.slice aoT tl.length capT) (.slice aoB bl.length capB) mp ms s) := h.next hb0
  have hfew : s.cs.length ≤ 1000000000 := by have := ha.few; omega
  obtain ⟨k1, k2, k3, k4, k5, k6, k7, k8, k9⟩ := hk
  have HS : Hid (stepC tl bl (ptQ ls) s a = (s, 0)) := by show _ = _; unfold stepC; simp [k2, k3, k4, k5, k6, k7, k8, k9]
  have e5 : (a.kind == 5) = false := by simpa using k1
  have e6 : (a.kind == 6) = false := by simpa using k2
  have e7 : (a.kind == 7) = false := by simpa using k3
  have e8 : (a.kind == 8) = false := by simpa using k4
  have e9 : (a.kind == 9) = false := by simpa using k5
  have e11 : (a.kind == 11) = false := by simpa using k6
  have e12 : (a.kind == 12) = false := by simpa using k7
  have e13 : (a.kind == 13) = false := by simpa using k8
  have e14 : (a.kind == 14) = false := by simpa using k9
  clear h hm ht hb hwt hwb ha hb0 hfew k1 k2 k3 k4 k5 k6 k7 k8 k9
  obtain ⟨ak, ⟨a1, a2, a3⟩, al, avl, avv, atm⟩ := a
  simp only at *
  go_enter Tryz.func9, Tryz.ntmps9
  go_wp2
  go_ret
  rw [HS.out]
  exact ⟨rfl, HC0.out⟩
set_option linter.unusedVariables false in
set_option maxHeartbeats 3200000 in
set_option maxRecDepth 100000 in
theorem compile_any (wB w : World) (bc : Nat) (aoT : Option Addr) (capT : Nat) (tl : List Plc) (aoB : Option Addr) (capB : Nat) (bl : List Plc) (mp ms c0 : Nat) (ls : List Sit) (s : Cst) (a : Acn) (h : Cmp wB w bc (.slice aoT tl.length capT) (.slice aoB bl.length capB) mp ms s)
    (hm : MF kkP wB mp c0 (floorP ls)) (ht : RdR encP wB aoT tl) (hb : RdR encP wB aoB bl) (hwt : ∀ p ∈ tl, Wf3 p) (hwb : ∀ p ∈ bl, Wf3 p) (ha : AcOk tl s a) :
    Calls Tryz.prog 9 #[ptr bc, av a] w fun e w' => e = .returned (.int .i64 (stepC tl bl (ptQ ls) s a).2) ∧ Cmp wB w' bc (.slice aoT tl.length capT) (.slice aoB bl.length capB) mp ms (stepC tl bl (ptQ ls) s a).1 := by
  by_cases k5 : a.kind = 5
  · exact compile_fill wB w bc aoT capT tl aoB capB bl mp ms c0 ls s a k5 h hm ht hb hwt hwb ha
  by_cases k6 : a.kind = 6
  · exact compile_tip wB w bc aoT capT tl aoB capB bl mp ms c0 ls s a k6 h hm ht hb hwt hwb ha
  by_cases k7 : a.kind = 7
  · by_cases hbl : bl = []
    · exact compile_drop0 wB w bc aoT capT tl aoB capB bl mp ms c0 ls s a ⟨k7, hbl⟩ h hm ht hb hwt hwb ha
    · exact compile_drop1 wB w bc aoT capT tl aoB capB bl mp ms c0 ls s a ⟨k7, hbl⟩ h hm ht hb hwt hwb ha
  by_cases k8 : a.kind = 8
  · exact compile_draw wB w bc aoT capT tl aoB capB bl mp ms c0 ls s a k8 h hm ht hb hwt hwb ha
  by_cases k9 : a.kind = 9
  · exact compile_put wB w bc aoT capT tl aoB capB bl mp ms c0 ls s a k9 h hm ht hb hwt hwb ha
  by_cases k11 : a.kind = 11
  · exact compile_warm wB w bc aoT capT tl aoB capB bl mp ms c0 ls s a k11 h hm ht hb hwt hwb ha
  by_cases k12 : a.kind = 12
  · exact compile_hold wB w bc aoT capT tl aoB capB bl mp ms c0 ls s a k12 h hm ht hb hwt hwb ha
  by_cases k13 : a.kind = 13
  · exact compile_shake wB w bc aoT capT tl aoB capB bl mp ms c0 ls s a k13 h hm ht hb hwt hwb ha
  by_cases k14 : a.kind = 14
  · exact compile_wait wB w bc aoT capT tl aoB capB bl mp ms c0 ls s a k14 h hm ht hb hwt hwb ha
  exact compile_none wB w bc aoT capT tl aoB capB bl mp ms c0 ls s a ⟨k5, k6, k7, k8, k9, k11, k12, k13, k14⟩ h hm ht hb hwt hwb ha
end Go.Proofs.YtcajifelbldjnaaGreat

/- newCompiler, Compile walked. -/
namespace Go.Proofs.YtcajifelbldjnaaGreat
open Go.RowKit Go.Maps
set_option maxHeartbeats 3200000 in
theorem newCompiler_any (w : World) (aoT : Option Addr) (nT capT : Nat) (aoB : Option Addr) (nB capB mp ms : Nat) :
    Calls Tryz.prog 8 #[flv (.slice aoT nT capT) (.slice aoB nB capB) mp ms] w fun e w' => ∃ bc, e = .returned (ptr bc) ∧ Cmp w w' bc (.slice aoT nT capT) (.slice aoB nB capB) mp ms cst0 := by
  obtain ⟨w2, hw2⟩ : ∃ w2, w2 = (w.alloc (.cells #[.slice aoT nT capT, .slice aoB nB capB, .map (some mp), .map (some ms)] 42)).alloc (.cells #[.slice aoT nT capT, .slice aoB nB capB, .map (some mp), .map (some ms), .slice none 0 0, .int .i64 0, .int .i64 0] 62) := ⟨_, rfl⟩
  have hb2 : Below w.heap.size w w2 := by rw [hw2]; exact ((Below.refl _ _).alloc (Nat.le_refl _) _).alloc (by simp) _
  have KB : Hid (Bk (w.heap.size + 1) (cmc (.slice aoT nT capT) (.slice aoB nB capB) (.slice none 0 0) mp ms 0 0) w2) := by show Bk _ _ _; rw [hw2]; exact Bk.new _ (cmc (.slice aoT nT capT) (.slice aoB nB capB) (.slice none 0 0) mp ms 0 0) 62 (w.heap.size + 1) (by simp)
  have HC : Hid (Cmp w w2 (w.heap.size + 1) (.slice aoT nT capT) (.slice aoB nB capB) mp ms ⟨[], 0, 0⟩) := ⟨hb2, Nat.le_succ _, none, 0, 0, KB.out, OwnR.nil _ _ _⟩
  have HW2 : Hid (w2 = _) := hw2
  have HT : Hid (∀ W, Below w2.heap.size w2 W → ∀ x, Bk x (encK.cells [cd 1 0, goC ⟨0, 0, 200000⟩]) W → Calls Tryz.prog 23 #[ptr (w.heap.size + 1), .slice (some ⟨x, 0, none⟩) 2 2] W fun e w' => e = .returned (.tuple #[]) ∧ Cmp w w' (w.heap.size + 1) (.slice aoT nT capT) (.slice aoB nB capB) mp ms cst0) := fun W hW x hx => tell_any w W (w.heap.size + 1) _ _ mp ms ⟨[], 0, 0⟩ ⟨x, 0, none⟩ 2 [cd 1 0, goC ⟨0, 0, 200000⟩] (HC.out.next hW) (rdK_of hx) (by simp) (by simp)
  clear hb2 hw2
  go_enter Tryz.func8, Tryz.ntmps8
  go_wp2_with fail
  rw [← HW2.out]
  refine Calls.mono (goTo_any ⟨0, 0, 200000⟩ w2) ?_
  rintro e w3 ⟨rfl, hb3⟩
  have HB3 : Hid _ := hb3
  clear hb3 HW2
  go_wp2_with fail
  refine Calls.mono (HT.out _ (HB3.out.trans (((Below.refl _ _).alloc (Nat.le_refl _) _).mono HB3.out.size)) _ (Bk.new w3 (encK.cells [cd 1 0, goC ⟨0, 0, 200000⟩]) 31 _ rfl)) ?_
  rintro e w4 ⟨rfl, hc⟩
  have H4 : Hid _ := hc
  clear hc HT
  go_wp2
  go_ret
  exact ⟨_, rfl, H4.out⟩
/-- Where a compiler is behind k actions that may be. -/
structure CI (l : List Sit) (acs : List Acn) (k : Nat) (s : Cst) : Prop where
  used : (s.used : Int) = (staA l acs k).used
  held : -(1000000000 * (k : Int)) ≤ s.held ∧ s.held ≤ 1000000000 * (k : Int)
  few : s.cs.length ≤ 2 + 4 * k
  le : s.used ≤ k
theorem CI.start (l : List Sit) (acs : List Acn) : CI l acs 0 cst0 := ⟨rfl, by simp [cst0], by simp [cst0], by simp [cst0]⟩
theorem work_len (p : S.Pt) (c : Cd) : (workC p c).length = 4 := rfl
theorem rest_len (t : Int) : (restC t).length ≤ 1 := by unfold restC; split <;> simp
theorem CI.step {l : List Sit} {acs : List Acn} {k : Nat} {s : Cst} {ts bins : List Plc} {pt : Plc → S.Pt} (h : CI l acs k s) (hk : k < acs.length) (hd : (doA l (staA l acs k) (acs[k]'hk)).2 = 0) : CI l acs (k + 1) (stepC ts bins pt s (acs[k]'hk)).1 := by
  obtain ⟨h1, ⟨h2, h3⟩, h4, h5⟩ := h
  have hu := staA_succ (l := l) hk
  have hv : (acs[k]'hk).kind = 8 ∨ (acs[k]'hk).kind = 9 → 1 ≤ (acs[k]'hk).vol ∧ (acs[k]'hk).vol ≤ 1000000000 := fun e => by
    rcases e with e | e
    · exact (vol_draw e hd).2
    · exact (vol_put e hd).2
  generalize acs[k]'hk = a at *
  have hrl := rest_len a.time
  by_cases k6 : a.kind = 6
  · have := (used_tip k6 hd).2
    refine ⟨?_, ?_, ?_, ?_⟩
    · rw [hu, this]; simp [stepC, k6]; exact h1
    · simp only [stepC, if_pos k6]; omega
    · simp only [stepC, if_pos k6, List.length_append, work_len]; omega
    · simp only [stepC, if_pos k6]; omega
  · have := used_same (l := l) (s := staA l acs k) k6
    refine ⟨?_, ?_, ?_, ?_⟩
    · rw [hu, this, ← h1]
      unfold stepC
      rw [if_neg k6]
      repeat' split
      all_goals rfl
    · unfold stepC
      rw [if_neg k6]
      repeat' split
      all_goals first
        | (simp only; omega)
        | (have := hv (.inl (by assumption)); simp only; omega)
        | (have := hv (.inr (by assumption)); simp only; omega)
    · unfold stepC
      rw [if_neg k6]
      repeat' split
      all_goals (simp only [List.length_append, work_len, List.length_cons, List.length_nil]; omega)
    · unfold stepC
      rw [if_neg k6]
      repeat' split
      all_goals (simp only; omega)
theorem rd_own {α : Type} {c : Enc α} (hg : Good c) {w : World} {B : Nat} {ao : Option Addr} {n cap : Nat} {xs : List α} (h : OwnR c w B (.slice ao n cap) xs) : RdR c w ao xs := by
  rcases h.read hg with ⟨e, _⟩ | ⟨g, cap', e, _, _, hlt, hc⟩
  · exact .inl e
  · injection e with e1 e2 e3
    exact .inr ⟨g, 0, e1, hlt, fun k hk j hj => by rw [Nat.zero_add]; exact hc k hk j hj⟩
/-- What Compile tells. -/
def compR (l ls : List Sit) (acs : List Acn) : List Cd × Nat × Int :=
  if dchk l ≠ 0 then ([], 0, dchk l) else if (runR l acs).2.2 ≠ 0 then ([], (runR l acs).2.1, (runR l acs).2.2) else
    if (compL (tipsL l) (floorB ls) (ptQ ls) cst0 0 acs).2.2 = 0 then ((compL (tipsL l) (floorB ls) (ptQ ls) cst0 0 acs).1.cs, 0, 0) else ([], (compL (tipsL l) (floorB ls) (ptQ ls) cst0 0 acs).2.1, (compL (tipsL l) (floorB ls) (ptQ ls) cst0 0 acs).2.2)
set_option maxHeartbeats 6400000 in
set_option maxRecDepth 100000 in
theorem compile_err1 (ao : Option Addr) (cap : Nat) (l : List Sit) (aoA : Option Addr) (capA : Nat) (acs : List Acn) (w : World) (hD : Dk w ao cap l) (hl : l.length ≤ 9223372036854775807) (hd : dchk l ≠ 0) :
    Calls Tryz.prog 4 #[.slice ao l.length cap, .slice aoA acs.length capA] w fun e w' => e = .returned (.tuple #[.slice none 0 0, .int .i64 0, .int .i64 (dchk l)]) ∧ Below w.heap.size w w' := by
  have HC := hid (newFloor_err ao cap l w hD hl hd)
  have hne : (dchk l != 0) = true := by simp [hd]
  clear hD hl hd
  generalize dchk l = d at *
  go_enter Tryz.func4, Tryz.ntmps4
  go_wp2_with fail
  refine Calls.mono HC.out ?_
  rintro e w1 ⟨rfl, hb⟩
  have HB : Hid _ := hb
  clear hb HC
  go_wp2
  refine bodyPost_ret (v := .tuple #[.slice none 0 0, .int .i64 0, .int .i64 d]) (by simp [results, Tryz.results4, go_sem]) rfl ⟨rfl, HB.out.alloc HB.out.size _⟩
set_option maxHeartbeats 6400000 in
set_option maxRecDepth 100000 in
theorem compile_err2 (ao : Option Addr) (cap : Nat) (l : List Sit) (aoA : Option Addr) (capA : Nat) (acs : List Acn) (w : World) (hD : Dk w ao cap l) (hA : Acs w aoA acs) (hla : acs.length ≤ 10000000) (hd : dchk l = 0) (hr : (runR l acs).2.2 ≠ 0) :
    Calls Tryz.prog 4 #[.slice ao l.length cap, .slice aoA acs.length capA] w fun e w' => e = .returned (.tuple #[.slice none 0 0, .int .i64 ((runR l acs).2.1 : Int), .int .i64 (runR l acs).2.2]) ∧ Below w.heap.size w w' := by
  have HC := hid (newFloor_ok ao cap l w hD hd)
  have HR : Hid (∀ W, Below w.heap.size w W → Calls Tryz.prog 7 #[.slice ao l.length cap, .slice aoA acs.length capA] W fun e w' => ∃ t : Sm, e = .returned (.tuple #[smv t, .int .i64 ((runR l acs).2.1 : Int), .int .i64 (runR l acs).2.2]) ∧ Below W.heap.size W w') := fun W hW =>
    (run_any ao cap l aoA capA acs W (hD.next hW) (by have := dk_len hd; omega) (hA.next hW) (by omega)).mono fun e w' ⟨t, h1, _, _, _, h5⟩ => ⟨t, h1, h5⟩
  have hne : ((runR l acs).2.2 != 0) = true := by simp [hr]
  clear hD hA hd hr
  generalize (runR l acs).2.2 = d at *
  generalize (runR l acs).2.1 = m at *
  go_enter Tryz.func4, Tryz.ntmps4
  go_wp2_with fail
  refine Calls.mono HC.out ?_
  rintro e w1 ⟨ls, v, rfl, hf⟩
  obtain ⟨hp, hpw, hb, aoT, capT, aoB, capB, mp, ms, c, hv, _, _, _, _, _, _⟩ := hf
  subst hv
  have HB : Hid (Below w.heap.size w (w1.alloc (.cells #[.slice aoT (tipsL l).length capT, .slice aoB (floorB ls).length capB, .map (some mp), .map (some ms)] 42))) := hb.alloc hb.size _
  clear hb HC hp hpw
  generalize (tipsL l).length = nT at *
  generalize (floorB ls).length = nB at *
  go_wp2_with fail
  refine Calls.mono (HR.out _ HB.out) ?_
  rintro e w2 ⟨t, rfl, hb2⟩
  have HB2 : Hid (Below w.heap.size w w2) := HB.out.trans (hb2.mono HB.out.size)
  clear hb2 HR HB
  go_wp2
  refine bodyPost_ret (v := .tuple #[.slice none 0 0, .int .i64 (m : Int), .int .i64 d]) (by simp [results, Tryz.results4, go_sem]) rfl ⟨rfl, HB2.out.alloc HB2.out.size _⟩
end Go.Proofs.YtcajifelbldjnaaGreat

/- Compile walked. -/
namespace Go.Proofs.YtcajifelbldjnaaGreat
open Go.RowKit Go.Maps
set_option maxHeartbeats 12800000 in
set_option maxRecDepth 100000 in
theorem compile_ok (ao : Option Addr) (cap : Nat) (l : List Sit) (aoA : Option Addr) (capA : Nat) (acs : List Acn) (w : World) (hD : Dk w ao cap l) (hA : Acs w aoA acs) (hla : acs.length ≤ 10000000) (hd : dchk l = 0) (hr : (runR l acs).2.2 = 0) :
    Calls Tryz.prog 4 #[.slice ao l.length cap, .slice aoA acs.length capA] w fun e w' => ∃ ls aoC nC capC, ls.Perm l ∧ e = .returned (.tuple #[.slice aoC nC capC, .int .i64 ((compR l ls acs).2.1 : Int), .int .i64 (compR l ls acs).2.2]) ∧ OwnR encK w' w.heap.size (.slice aoC nC capC) (compR l ls acs).1 ∧ Below w.heap.size w w' := by
  have HC := hid (newFloor_ok ao cap l w hD hd)
  have HR : Hid (∀ W, Below w.heap.size w W → Calls Tryz.prog 7 #[.slice ao l.length cap, .slice aoA acs.length capA] W fun e w' => ∃ t : Sm, e = .returned (.tuple #[smv t, .int .i64 ((runR l acs).2.1 : Int), .int .i64 0]) ∧ Below W.heap.size W w') := fun W hW =>
    (run_any ao cap l aoA capA acs W (hD.next hW) (by have := dk_len hd; omega) (hA.next hW) (by omega)).mono fun e w' ⟨t, h1, _, _, _, h5⟩ => ⟨t, by rw [h1, hr], h5⟩
  have HOK : Hid (∀ j (hj : j < acs.length), (doA l (staA l acs j) (acs[j]'hj)).2 = 0) := run_ok hd hr
  have HSS : Hid (∀ s ∈ l, StOk s) := st_ok hd hD.ok
  have HDC : Hid (dchk l = 0) := hd
  have HA : Hid (Acs w aoA acs) := hA
  have HCR : Hid (∀ ls, compR l ls acs = if (compL (tipsL l) (floorB ls) (ptQ ls) cst0 0 acs).2.2 = 0 then ((compL (tipsL l) (floorB ls) (ptQ ls) cst0 0 acs).1.cs, 0, 0) else ([], (compL (tipsL l) (floorB ls) (ptQ ls) cst0 0 acs).2.1, (compL (tipsL l) (floorB ls) (ptQ ls) cst0 0 acs).2.2)) := fun ls => by
    unfold compR
    rw [if_neg (by rw [hd]; simp), if_neg (by rw [hr]; simp)]
  clear hD hA hd hr
  generalize (runR l acs).2.1 = m at *
  go_enter Tryz.func4, Tryz.ntmps4
  go_wp2_with fail
  refine Calls.mono HC.out ?_
  rintro e w1 ⟨ls, v, rfl, hf⟩
  obtain ⟨hp, hpw, hb, aoT, capT, aoB, capB, mp, ms, c, hv, hoT, hoB, hmf, hmg, _, _⟩ := hf
  subst hv
  have HP : Hid (ls.Perm l) := hp
  have HLS : Hid (∀ s ∈ ls, StOk s) := fun s hs => HSS.out s (hp.subset hs)
  have HB1 : Hid (Below w.heap.size w w1) := hb
  have HT1 : Hid (OwnR encP w1 w.heap.size (.slice aoT (tipsL l).length capT) (tipsL l)) := hoT
  have HO1 : Hid (OwnR encP w1 w.heap.size (.slice aoB (floorB ls).length capB) (floorB ls)) := hoB
  have HM1 : Hid (MF kkP w1 mp c (floorP ls)) := hmf
  have HTW : Hid (∀ p ∈ tipsL l, Wf3 p) := tips_wf HSS.out
  have HBW : Hid (∀ p ∈ floorB ls, Wf3 p) := floorB_wf HLS.out
  have HCR2 := hid (HCR.out ls)
  have hb2 : Below w1.heap.size w1 (w1.alloc (.cells #[.slice aoT (tipsL l).length capT, .slice aoB (floorB ls).length capB, .map (some mp), .map (some ms)] 42)) := (Below.refl _ _).alloc (Nat.le_refl _) _
  have HB2 : Hid (Below w1.heap.size w1 (w1.alloc (.cells #[.slice aoT (tipsL l).length capT, .slice aoB (floorB ls).length capB, .map (some mp), .map (some ms)] 42))) := hb2
  have HCI : Hid (∀ k s, CI l acs k s → ∀ hk : k < acs.length, AcOk (tipsL l) s (acs[k]'hk)) := by
    intro k s hci hk
    have hdo := HOK.out k hk
    have hh := hci.held
    have hf := hci.few
    have hu := hci.used
    refine ⟨fun e => ?_, fun e => ?_, ?_, ?_, by omega⟩
    · have := (used_tip e hdo).1
      omega
    · rcases e with e | e
      · exact ⟨wf_place HDC.out (vol_draw e hdo).1, (vol_draw e hdo).2⟩
      · exact ⟨wf_place HDC.out (vol_put e hdo).1, (vol_put e hdo).2⟩
    · omega
    · have := hci.le
      omega
  have KF2 : Hid (Bk w1.heap.size (flc (.slice aoT (tipsL l).length capT) (.slice aoB (floorB ls).length capB) mp ms) (w1.alloc (.cells #[.slice aoT (tipsL l).length capT, .slice aoB (floorB ls).length capB, .map (some mp), .map (some ms)] 42))) := Bk.new w1 (flc (.slice aoT (tipsL l).length capT) (.slice aoB (floorB ls).length capB) mp ms) 42 _ rfl
  have HTL : Hid (tipsL l = tipsL l) := rfl
  clear hp hpw hb hoT hoB hmf hmg hb2 HC HCR HSS
  generalize tipsL l = tl at *
  generalize floorB ls = bl at *
  go_wp2_with fail
  refine Calls.mono (HR.out _ (HB1.out.trans (HB2.out.mono HB1.out.size))) ?_
  rintro e w3 ⟨t, rfl, hb3⟩
  have HB13 : Hid (Below w1.heap.size w1 w3) := HB2.out.trans (hb3.mono HB2.out.size)
  have KF3 : Hid (Bk w1.heap.size (flc (.slice aoT tl.length capT) (.slice aoB bl.length capB) mp ms) w3) := KF2.out.later hb3
  clear hb3 HR KF2 HB2
  obtain ⟨w4, hw4⟩ : ∃ w4, w4 = w3.alloc (smo t) := ⟨_, rfl⟩
  have hb34 : Below w3.heap.size w3 w4 := by rw [hw4]; exact (Below.refl _ _).alloc (Nat.le_refl _) _
  have HB14 : Hid (Below w1.heap.size w1 w4) := HB13.out.trans (hb34.mono HB13.out.size)
  have KF4 := KF3.out.later hb34
  have r0 := KF4.c 0 rfl
  have r1 := KF4.c 1 rfl
  have r2 := KF4.c 2 rfl
  have r3 := KF4.c 3 rfl
  have HW4 : Hid (w4 = w3.alloc (smo t)) := hw4
  rw [hw4] at r0 r1 r2 r3
  clear hw4 hb34 KF3 KF4
  go_wp2_with fail
  rw [← HW4.out]
  refine Calls.mono (newCompiler_any w4 aoT tl.length capT aoB bl.length capB mp ms) ?_
  rintro e w5 ⟨bc, rfl, hc5⟩
  have HC5 : Hid (Cmp w4 w5 bc (.slice aoT tl.length capT) (.slice aoB bl.length capB) mp ms cst0) := hc5
  have HT4 : Hid (RdR encP w4 aoT tl) := (rd_own goodP HT1.out).next goodP HB14.out
  have HO4 : Hid (RdR encP w4 aoB bl) := (rd_own goodP HO1.out).next goodP HB14.out
  have HM4 : Hid (MF kkP w4 mp c (floorP ls)) := HM1.out.next HB14.out
  have HA4 : Hid (Acs w4 aoA acs) := HA.out.next (HB1.out.trans (HB14.out.mono HB1.out.size))
  have HBw4 : Hid (Below w.heap.size w w4) := HB1.out.trans (HB14.out.mono HB1.out.size)
  clear hc5 r0 r1 r2 r3
  go_wp2_with fail
  go_loopw [39] (fun i wr => ∃ (k : Nat) (s : Cst), k ≤ acs.length ∧ i = .int .i64 (k : Int) ∧ Cmp w4 wr bc (.slice aoT tl.length capT) (.slice aoB bl.length capB) mp ms s ∧ CI l acs k s ∧ compL tl bl (ptQ ls) cst0 0 acs = compL tl bl (ptQ ls) s k (acs.drop k)) (fun i _ => acs.length - (intOf i).toNat)
  case atStart => exact ⟨0, cst0, Nat.zero_le _, rfl, HC5.out, CI.start _ _, by simp⟩
  case round =>
    obtain ⟨k, s, hk, rfl, hcm, hci, hq⟩ := hrel
    have HCM : Hid (Cmp w4 wr bc (.slice aoT tl.length capT) (.slice aoB bl.length capB) mp ms s) := hcm
    have HCIk : Hid (CI l acs k s) := hci
    have HQ : Hid (compL tl bl (ptQ ls) cst0 0 acs = compL tl bl (ptQ ls) s k (acs.drop k)) := hq
    clear hcm hci hq
    by_cases hlt : k < acs.length
    · obtain ⟨g, off, hao, hcs⟩ := (HA4.out.next HCM.out.below).at hlt
      have HAC := hid (HCI.out k s HCIk.out hlt)
      have HST := hid (fun ts bins pt => HCIk.out.step (ts := ts) (bins := bins) (pt := pt) hlt (HOK.out k hlt))
      have HQ1 : Hid ((stepC tl bl (ptQ ls) s (acs[k]'hlt)).2 = 0 → compL tl bl (ptQ ls) cst0 0 acs = compL tl bl (ptQ ls) (stepC tl bl (ptQ ls) s (acs[k]'hlt)).1 (k + 1) (acs.drop (k + 1))) := fun h => HQ.out.trans (compL_step hlt h)
      have HQ2 : Hid ((stepC tl bl (ptQ ls) s (acs[k]'hlt)).2 ≠ 0 → compL tl bl (ptQ ls) cst0 0 acs = (s, k, (stepC tl bl (ptQ ls) s (acs[k]'hlt)).2)) := fun h => HQ.out.trans (compL_stop hlt h)
      generalize acs[k]'hlt = a at *
      subst hao
      have c0 := hcs 0 (by decide)
      have c1 := hcs 1 (by decide)
      have c2 := hcs 2 (by decide)
      have c3 := hcs 3 (by decide)
      have c4 := hcs 4 (by decide)
      have c5 := hcs 5 (by decide)
      have c6 := hcs 6 (by decide)
      have c7 := hcs 7 (by decide)
      simp only [acl, List.getElem?_cons_zero, List.getElem?_cons_succ, Nat.add_zero] at c0 c1 c2 c3 c4 c5 c6 c7
      have hki : (k : Int) < (acs.length : Int) := by omega
      have hb6 : Below wr.heap.size wr (wr.alloc (aobj a)) := (Below.refl _ _).alloc (Nat.le_refl _) _
      have HCA := hid (compile_any w4 (wr.alloc (aobj a)) bc aoT capT tl aoB capB bl mp ms c ls s a (HCM.out.next hb6) HM4.out HT4.out HO4.out HTW.out HBW.out HAC.out)
      clear hcs hb6
      go_wp2_with fail
      refine Calls.mono HCA.out ?_
      rintro e w6 ⟨rfl, hc6⟩
      obtain ⟨⟨s', e1⟩, hsq⟩ : ∃ x, stepC tl bl (ptQ ls) s a = x := ⟨_, rfl⟩
      rw [hsq] at hc6 HQ1 HQ2
      have HST1 : Hid (CI l acs (k + 1) s') := by have := HST.out tl bl (ptQ ls); rw [hsq] at this; exact this
      rw [hsq]
      simp only at hc6 HQ1 HQ2
      have HC6 : Hid (Cmp w4 w6 bc (.slice aoT tl.length capT) (.slice aoB bl.length capB) mp ms s') := hc6
      clear hc6 hsq c0 c1 c2 c3 c4 c5 c6 c7 HCA HST
      simp only
      by_cases he : e1 = 0
      · subst he
        have HQ3 := hid (HQ1.out rfl)
        clear HQ1 HQ2
        go_wp2
        go_roundw
        case rel => exact ⟨k + 1, s', by omega, by go_num, HC6.out, HST1.out, HQ3.out⟩
        case measure => simp [intOf]; omega
      · have h3 : (e1 != 0) = true := by simp [he]
        have HQ3 := hid (HQ2.out he)
        have HCRE : Hid (compR l ls acs = ([], k, e1)) := by show _ = _; rw [HCR2.out, HQ3.out]; exact if_neg he
        clear HQ1 HQ2 he
        go_wp2
        refine bodyPost_ret (v := .tuple #[.slice none 0 0, .int .i64 (k : Int), .int .i64 e1]) (by simp [results, Tryz.results4, go_sem]) rfl ⟨ls, none, 0, 0, HP.out, by rw [HCRE.out], by rw [HCRE.out]; exact OwnR.nil _ _ _, ?_⟩
        exact HBw4.out.trans (HC6.out.below.mono HBw4.out.size)
    · have HE : Hid (k = acs.length) := by show _ = _; omega
      have HQ3 : Hid (compL tl bl (ptQ ls) cst0 0 acs = (s, k, 0)) := HQ.out.trans (compL_done (by omega))
      have HCRE : Hid (compR l ls acs = (s.cs, 0, 0)) := by show _ = _; rw [HCR2.out, HQ3.out]; exact if_pos rfl
      obtain ⟨h1, h2, aoC, nC, capC, h3, h4⟩ := HCM.out
      have q4 := h3.c 4 rfl
      have HO9 : Hid (OwnR encK wr w.heap.size (.slice aoC nC capC) s.cs) := h4.base (by have := HBw4.out.size; omega)
      have HB9 : Hid (Below w.heap.size w wr) := HBw4.out.trans (h1.mono HBw4.out.size)
      clear h1 h2 h3 h4
      go_wp2
      refine bodyPost_ret (v := .tuple #[.slice aoC nC capC, .int .i64 0, .int .i64 0]) (by simp [results, Tryz.results4, go_sem]) rfl ⟨ls, aoC, nC, capC, HP.out, by rw [HCRE.out]; rfl, by rw [HCRE.out]; exact HO9.out, HB9.out⟩
end Go.Proofs.YtcajifelbldjnaaGreat

/- Values of boxes and points, boxes in memory. -/
namespace Go.Proofs.YtcajifelbldjnaaGreat.S
open Go.RowKit
theorem bcell {W w1 : World} (hb : Below W.heap.size W w1) : (∀ b o, b < W.heap.size → w1.cell? ⟨b, o, none⟩ = W.cell? ⟨b, o, none⟩) ∧ (∀ b o, b < W.heap.size → w1.frozen? ⟨b, o, none⟩ = W.frozen? ⟨b, o, none⟩) :=
  ⟨fun b o h => hb.cell (p := ⟨b, o, none⟩) h, fun b o h => hb.frozen (p := ⟨b, o, none⟩) h⟩
theorem ret_bool {a b : Bool} (h : a = b) : Ending.returned (.bool a) = .returned (.bool b) := by rw [h]
theorem ret_int {k : IntKind} {a b : Int} (h : a = b) : Ending.returned (.int k a) = .returned (.int k b) := by rw [h]
theorem cell_later {w w' : World} (hb : Below w.heap.size w w') {b o : Nat} {v : Value} (h : w.cell? ⟨b, o, none⟩ = some v) : w'.cell? ⟨b, o, none⟩ = some v := by
  rw [← h]
  refine hb.cell (p := ⟨b, o, none⟩) ?_
  show b < w.heap.size
  by_cases e : b < w.heap.size
  · exact e
  · have : w.heap[b]? = none := by simp; omega
    simp [World.cell?, this] at h

/-- Values. -/
abbrev pv (p : Pt) : Value := .agg #[.int .i64 p.x, .int .i64 p.y, .int .i64 p.z]
abbrev bv (b : Bx) : Value := .agg #[.int .i64 b.lx, .int .i64 b.ly, .int .i64 b.lz, .int .i64 b.hx, .int .i64 b.hy, .int .i64 b.hz]

/-- A box at a place of a block. -/
def BxAt (w : World) (b o : Nat) (a : Bx) : Prop :=
  b < w.heap.size ∧ w.cell? ⟨b, o, none⟩ = some (.int .i64 a.lx) ∧ w.cell? ⟨b, o + 1, none⟩ = some (.int .i64 a.ly) ∧ w.cell? ⟨b, o + 2, none⟩ = some (.int .i64 a.lz) ∧
    w.cell? ⟨b, o + 3, none⟩ = some (.int .i64 a.hx) ∧ w.cell? ⟨b, o + 4, none⟩ = some (.int .i64 a.hy) ∧ w.cell? ⟨b, o + 5, none⟩ = some (.int .i64 a.hz)
theorem BxAt.next {w w1 : World} {b o : Nat} {a : Bx} (h : BxAt w b o a) (hb : Below w.heap.size w w1) : BxAt w1 b o a :=
  ⟨Nat.lt_of_lt_of_le h.1 hb.size, cell_later hb h.2.1, cell_later hb h.2.2.1, cell_later hb h.2.2.2.1, cell_later hb h.2.2.2.2.1, cell_later hb h.2.2.2.2.2.1, cell_later hb h.2.2.2.2.2.2⟩
/-- A slice's memory holds these boxes. -/
def Bxs (w : World) (ao : Option Addr) (l : List Bx) : Prop :=
  l = [] ∨ ∃ b off, ao = some ⟨b, off, none⟩ ∧ ∀ k (h : k < l.length), BxAt w b (off + k * 6) (l[k]'h)
theorem Bxs.next {w w1 : World} {ao : Option Addr} {l : List Bx} (h : Bxs w ao l) (hb : Below w.heap.size w w1) : Bxs w1 ao l :=
  h.imp id fun ⟨b, off, h1, h2⟩ => ⟨b, off, h1, fun k hk => (h2 k hk).next hb⟩
theorem Bxs.at {w : World} {ao : Option Addr} {l : List Bx} (h : Bxs w ao l) {k : Nat} (hk : k < l.length) : ∃ b off, ao = some ⟨b, off, none⟩ ∧ BxAt w b (off + k * 6) (l[k]'hk) := by
  rcases h with rfl | ⟨b, off, h1, h2⟩
  · exact absurd hk (Nat.not_lt_zero _)
  · exact ⟨b, off, h1, h2 k hk⟩
theorem Bxs.one (w : World) (a : Bx) : Bxs (w.alloc (.cells #[.int .i64 a.lx, .int .i64 a.ly, .int .i64 a.lz, .int .i64 a.hx, .int .i64 a.hy, .int .i64 a.hz] 35)) (some ⟨w.heap.size, 0, none⟩) [a] := by
  refine .inr ⟨w.heap.size, 0, rfl, fun k hk => ?_⟩
  match k, hk with
  | 0, _ => exact ⟨by simp, by go_simp, by go_simp, by go_simp, by go_simp, by go_simp, by go_simp⟩
theorem Bxs.two (w : World) (a c : Bx) : Bxs (w.alloc (.cells #[.int .i64 a.lx, .int .i64 a.ly, .int .i64 a.lz, .int .i64 a.hx, .int .i64 a.hy, .int .i64 a.hz, .int .i64 c.lx, .int .i64 c.ly, .int .i64 c.lz, .int .i64 c.hx, .int .i64 c.hy, .int .i64 c.hz] 35)) (some ⟨w.heap.size, 0, none⟩) [a, c] := by
  refine .inr ⟨w.heap.size, 0, rfl, fun k hk => ?_⟩
  match k, hk with
  | 0, _ => exact ⟨by simp, by go_simp, by go_simp, by go_simp, by go_simp, by go_simp, by go_simp⟩
  | 1, _ => exact ⟨by simp, by go_simp, by go_simp, by go_simp, by go_simp, by go_simp, by go_simp⟩
/-- A slice of points at the head of a block. -/
def Pts (w : World) (b : Nat) (l : List Pt) : Prop :=
  ∀ k (h : k < l.length), w.cell? ⟨b, k * 3, none⟩ = some (.int .i64 (l[k]'h).x) ∧ w.cell? ⟨b, k * 3 + 1, none⟩ = some (.int .i64 (l[k]'h).y) ∧ w.cell? ⟨b, k * 3 + 2, none⟩ = some (.int .i64 (l[k]'h).z)
theorem Pts.next {w w1 : World} {b : Nat} {l : List Pt} (h : Pts w b l) (hb : Below w.heap.size w w1) : Pts w1 b l :=
  fun k hk => ⟨cell_later hb (h k hk).1, cell_later hb (h k hk).2.1, cell_later hb (h k hk).2.2⟩
theorem Pts.one (w : World) (p : Pt) : Pts (w.alloc (.cells #[.int .i64 p.x, .int .i64 p.y, .int .i64 p.z] 29)) w.heap.size [p] := by
  intro k hk
  match k, hk with
  | 0, _ => exact ⟨by go_simp, by go_simp, by go_simp⟩
theorem Pts.two (w : World) (p q : Pt) : Pts (w.alloc (.cells #[.int .i64 p.x, .int .i64 p.y, .int .i64 p.z, .int .i64 q.x, .int .i64 q.y, .int .i64 q.z] 29)) w.heap.size [p, q] := by
  intro k hk
  match k, hk with
  | 0, _ => exact ⟨by go_simp, by go_simp, by go_simp⟩
  | 1, _ => exact ⟨by go_simp, by go_simp, by go_simp⟩

theorem box3 {w : World} {b : Nat} {u0 u1 u2 : Value} (c0 : w.cell? ⟨b, 0, none⟩ = some u0) (c1 : w.cell? ⟨b, 1, none⟩ = some u1) (c2 : w.cell? ⟨b, 2, none⟩ = some u2) (x y z : Value) :
    (((w.setCell ⟨b, 0, none⟩ x).setCell ⟨b, 1, none⟩ y).setCell ⟨b, 2, none⟩ z).cell? ⟨b, 0, none⟩ = some x ∧
    (((w.setCell ⟨b, 0, none⟩ x).setCell ⟨b, 1, none⟩ y).setCell ⟨b, 2, none⟩ z).cell? ⟨b, 1, none⟩ = some y ∧
    (((w.setCell ⟨b, 0, none⟩ x).setCell ⟨b, 1, none⟩ y).setCell ⟨b, 2, none⟩ z).cell? ⟨b, 2, none⟩ = some z := by
  refine ⟨?_, ?_, ?_⟩
  all_goals simp [go_sem, c0, c1, c2]

/-- An array of three, indexed. -/
theorem ix0 (x y z : Int) (w : World) : (Instr.index 143 (.agg #[.int .i64 x, .int .i64 y, .int .i64 z]) (.int .i64 0)).run Tryz.prog w = .ok (.int .i64 x) w := by kernel_rfl
theorem ix1 (x y z : Int) (w : World) : (Instr.index 143 (.agg #[.int .i64 x, .int .i64 y, .int .i64 z]) (.int .i64 1)).run Tryz.prog w = .ok (.int .i64 y) w := by kernel_rfl
theorem ix2 (x y z : Int) (w : World) : (Instr.index 143 (.agg #[.int .i64 x, .int .i64 y, .int .i64 z]) (.int .i64 2)).run Tryz.prog w = .ok (.int .i64 z) w := by kernel_rfl

/-- The numbers of a point. -/
theorem numbers_any (p : Pt) (w : World) :
    Calls Tryz.prog 93 #[pv p] w fun e w' => e = .returned (pv p) ∧ w' = (w.alloc (.cells #[.int .i64 p.x, .int .i64 p.y, .int .i64 p.z] 29)).alloc (.cells #[.int .i64 p.x, .int .i64 p.y, .int .i64 p.z] 143) := by
  go_enter Tryz.func93, Tryz.ntmps93
  go_wp2
  refine bodyPost_ret (v := pv p) (by simp [results, Tryz.results93, go_sem]) rfl ⟨rfl, rfl⟩

end Go.Proofs.YtcajifelbldjnaaGreat.S

/- isBelow, isOrdered, isNear walked. -/
namespace Go.Proofs.YtcajifelbldjnaaGreat.S
open Go.RowKit
theorem min_any (x y : Int) (w : World) : Calls Tryz.prog 153 #[.int .i64 x, .int .i64 y] w fun e w' => e = .returned (.int .i64 (min x y)) ∧ w' = w := by
  go_enter Tryz.func153, Tryz.ntmps153
  go_wp2
  all_goals
    go_ret
    exact ⟨ret_int (by omega), rfl⟩
theorem max_any (x y : Int) (w : World) : Calls Tryz.prog 154 #[.int .i64 x, .int .i64 y] w fun e w' => e = .returned (.int .i64 (max x y)) ∧ w' = w := by
  go_enter Tryz.func154, Tryz.ntmps154
  go_wp2
  all_goals
    go_ret
    exact ⟨ret_int (by omega), rfl⟩
theorem add_any (x y : Int) (w : World) (h : -9223372036854775808 ≤ x + y) (h2 : x + y ≤ 9223372036854775807) : Calls Tryz.prog 94 #[.int .i64 x, .int .i64 y] w fun e w' => e = .returned (.int .i64 (x + y)) ∧ w' = w := by
  go_enter Tryz.func94, Tryz.ntmps94
  go_wp2
  go_ret
  exact ⟨rfl, rfl⟩

theorem below_grow {w w' : World} (n : Nat) (hn : n ≤ w.heap.size) (h : Below n w w') (o : Obj) : Below n w (w'.alloc o) := h.alloc (Nat.le_trans hn h.size) o

set_option maxHeartbeats 3200000 in
theorem isBelow_any (p q : Pt) (w : World) :
    Calls Tryz.prog 130 #[pv p, pv q] w fun e w' => e = .returned (.bool (below p q)) ∧ Below w.heap.size w w' := by
  obtain ⟨px, py, pz⟩ := p
  obtain ⟨qx, qy, qz⟩ := q
  have hx := ix0 px py pz
  have hy := ix1 px py pz
  have hz := ix2 px py pz
  go_enter Tryz.func130, Tryz.ntmps130
  go_wp2_with fail
  refine (numbers_any ⟨qx, qy, qz⟩ _).mono ?_
  rintro e w1 ⟨rfl, rfl⟩
  go_wp2_with fail
  refine (numbers_any ⟨px, py, pz⟩ _).mono ?_
  rintro e w1 ⟨rfl, rfl⟩
  go_wp2_with fail
  by_cases h0 : px < qx
  · by_cases h1 : py < qy
    · by_cases h2 : pz < qz
      · refine wp_loop_rounds 4 ?_
        rw [rounds_succ]
        go_wp2
        rw [rounds_succ]
        go_wp2
        rw [rounds_succ]
        go_wp2
        rw [rounds_succ]
        go_wp2
        go_ret
        refine ⟨ret_bool (below_yes h0 h1 h2), ?_⟩
        repeat (first | exact Below.refl _ _ | refine below_grow _ (Nat.le_refl _) ?_ _)
      · refine wp_loop_rounds 4 ?_
        rw [rounds_succ]
        go_wp2
        rw [rounds_succ]
        go_wp2
        rw [rounds_succ]
        go_wp2
        go_ret
        refine ⟨ret_bool (below_no (.inr (.inr (by simp only; omega)))), ?_⟩
        repeat (first | exact Below.refl _ _ | refine below_grow _ (Nat.le_refl _) ?_ _)
    · refine wp_loop_rounds 4 ?_
      rw [rounds_succ]
      go_wp2
      rw [rounds_succ]
      go_wp2
      go_ret
      refine ⟨ret_bool (below_no (.inr (.inl (by simp only; omega)))), ?_⟩
      repeat (first | exact Below.refl _ _ | refine below_grow _ (Nat.le_refl _) ?_ _)
  · refine wp_loop_rounds 4 ?_
    rw [rounds_succ]
    go_wp2
    go_ret
    refine ⟨ret_bool (below_no (.inl (by simp only; omega))), ?_⟩
    repeat (first | exact Below.refl _ _ | refine below_grow _ (Nat.le_refl _) ?_ _)

set_option maxHeartbeats 3200000 in
theorem isOrdered_any (a : Bx) (w : World) :
    Calls Tryz.prog 92 #[bv a] w fun e w' => e = .returned (.bool (atMost a.lo a.hi)) ∧ Below w.heap.size w w' := by
  obtain ⟨px, py, pz, qx, qy, qz⟩ := a
  have hx := ix0 px py pz
  have hy := ix1 px py pz
  have hz := ix2 px py pz
  go_enter Tryz.func92, Tryz.ntmps92
  go_wp2_with fail
  refine (numbers_any ⟨qx, qy, qz⟩ _).mono ?_
  rintro e w1 ⟨rfl, rfl⟩
  go_wp2_with fail
  refine (numbers_any ⟨px, py, pz⟩ _).mono ?_
  rintro e w1 ⟨rfl, rfl⟩
  go_wp2_with fail
  by_cases h0 : px ≤ qx
  · by_cases h1 : py ≤ qy
    · by_cases h2 : pz ≤ qz
      · refine wp_loop_rounds 4 ?_
        rw [rounds_succ]
        go_wp2
        rw [rounds_succ]
        go_wp2
        rw [rounds_succ]
        go_wp2
        rw [rounds_succ]
        go_wp2
        go_ret
        refine ⟨ret_bool (atMost_yes h0 h1 h2), ?_⟩
        repeat (first | exact Below.refl _ _ | refine below_grow _ (Nat.le_refl _) ?_ _)
      · refine wp_loop_rounds 4 ?_
        rw [rounds_succ]
        go_wp2
        rw [rounds_succ]
        go_wp2
        rw [rounds_succ]
        go_wp2
        go_ret
        refine ⟨ret_bool (atMost_no (.inr (.inr (by simp only; omega)))), ?_⟩
        repeat (first | exact Below.refl _ _ | refine below_grow _ (Nat.le_refl _) ?_ _)
    · refine wp_loop_rounds 4 ?_
      rw [rounds_succ]
      go_wp2
      rw [rounds_succ]
      go_wp2
      go_ret
      refine ⟨ret_bool (atMost_no (.inr (.inl (by simp only; omega)))), ?_⟩
      repeat (first | exact Below.refl _ _ | refine below_grow _ (Nat.le_refl _) ?_ _)
  · refine wp_loop_rounds 4 ?_
    rw [rounds_succ]
    go_wp2
    go_ret
    refine ⟨ret_bool (atMost_no (.inl (by simp only; omega))), ?_⟩
    repeat (first | exact Below.refl _ _ | refine below_grow _ (Nat.le_refl _) ?_ _)

set_option maxHeartbeats 6400000 in
theorem isNear_any (b c : Nat) (ps : List Pt) (w : World) (hP : Pts w b ps) (hl : ps.length ≤ 100) :
    Calls Tryz.prog 60 #[.slice (some ⟨b, 0, none⟩) ps.length c] w fun e w' => e = .returned (.bool (ps.all nearP)) ∧ Below w.heap.size w w' := by
  have HP : Hid (Pts w b ps) := hP
  clear hP
  go_enter Tryz.func60, Tryz.ntmps60
  go_wp2
  go_loopw [9] (fun i wr => ∃ k : Nat, k ≤ ps.length ∧ i = .int .i64 k ∧ (∀ p ∈ ps.take k, nearP p = true) ∧ Below w.heap.size w wr) (fun i _ => ps.length - (intOf i).toNat)
  case atStart => exact ⟨0, Nat.zero_le _, rfl, (fun f hf => by simp at hf), Below.refl _ _⟩
  case round =>
    obtain ⟨k, hk, rfl, hok, hb⟩ := hrel
    obtain ⟨w1, rfl⟩ : ∃ w1, w1 = wr := ⟨_, rfl⟩
    have HB : Hid (Below w.heap.size w w1) := hb
    have HO : Hid (∀ p ∈ ps.take k, nearP p = true) := hok
    clear hb hok
    by_cases hlt : k < ps.length
    · obtain ⟨c0, c1, c2⟩ := HP.out.next HB.out k hlt
      have HX : Hid (∀ p, nearP (ps[k]'hlt) = p → (p = false → ps.all nearP = false) ∧ (p = true → ∀ q ∈ ps.take (k + 1), nearP q = true)) := by
        show ∀ p, _
        rintro p rfl
        refine ⟨fun h => ?_, fun h => ?_⟩
        · rw [List.all_eq_false]; exact ⟨_, List.getElem_mem hlt, by simp [h]⟩
        · rw [List.take_succ_eq_append_getElem hlt]
          intro f hf
          rcases List.mem_append.1 hf with hf | hf
          · exact HO.out f hf
          · simp at hf; subst hf; exact h
      generalize ps[k]'hlt = p at *
      obtain ⟨px, py, pz⟩ := p
      simp only at c0 c1 c2
      have hx := ix0 px py pz
      have hy := ix1 px py pz
      have hz := ix2 px py pz
      go_wp2_with fail
      refine (numbers_any ⟨px, py, pz⟩ _).mono ?_
      rintro e w2 ⟨rfl, rfl⟩
      have HB2 : Hid (Below w.heap.size w (((w1.alloc (.cells #[.int .i64 px, .int .i64 py, .int .i64 pz] 29)).alloc (.cells #[.int .i64 px, .int .i64 py, .int .i64 pz] 29)).alloc (.cells #[.int .i64 px, .int .i64 py, .int .i64 pz] 143))) := by
        refine below_grow _ (Nat.le_refl _) (below_grow _ (Nat.le_refl _) (below_grow _ (Nat.le_refl _) HB.out _) _) _
      go_wp2_with fail
      by_cases lpx : px < -10000000
      · have Hn : Hid (nr px = false) := nr_no (.inl lpx)
        have tpx : decide (px < -10000000) = true := decide_eq_true lpx
        refine wp_loop_rounds 4 ?_
        rw [rounds_succ]
        go_wp2
        go_ret
        exact ⟨ret_bool ((HX.out _ rfl).1 (nearP_no (.inl Hn.out))).symm, HB2.out⟩
      by_cases gpx : 10000000 < px
      · have Hn : Hid (nr px = false) := nr_no (.inr gpx)
        have tpx : decide (px < -10000000) = false := decide_eq_false lpx
        have spx : decide (10000000 < px) = true := decide_eq_true gpx
        refine wp_loop_rounds 4 ?_
        rw [rounds_succ]
        go_wp2
        go_ret
        exact ⟨ret_bool ((HX.out _ rfl).1 (nearP_no (.inl Hn.out))).symm, HB2.out⟩
      have Hpx : Hid (nr px = true) := nr_yes (by omega) (by omega)
      have tpx : decide (px < -10000000) = false := decide_eq_false lpx
      have spx : decide (10000000 < px) = false := decide_eq_false gpx
      by_cases lpy : py < -10000000
      · have Hn : Hid (nr py = false) := nr_no (.inl lpy)
        have tpy : decide (py < -10000000) = true := decide_eq_true lpy
        refine wp_loop_rounds 4 ?_
        rw [rounds_succ]
        go_wp2
        rw [rounds_succ]
        go_wp2
        go_ret
        exact ⟨ret_bool ((HX.out _ rfl).1 (nearP_no (.inr (.inl Hn.out)))).symm, HB2.out⟩
      by_cases gpy : 10000000 < py
      · have Hn : Hid (nr py = false) := nr_no (.inr gpy)
        have tpy : decide (py < -10000000) = false := decide_eq_false lpy
        have spy : decide (10000000 < py) = true := decide_eq_true gpy
        refine wp_loop_rounds 4 ?_
        rw [rounds_succ]
        go_wp2
        rw [rounds_succ]
        go_wp2
        go_ret
        exact ⟨ret_bool ((HX.out _ rfl).1 (nearP_no (.inr (.inl Hn.out)))).symm, HB2.out⟩
      have Hpy : Hid (nr py = true) := nr_yes (by omega) (by omega)
      have tpy : decide (py < -10000000) = false := decide_eq_false lpy
      have spy : decide (10000000 < py) = false := decide_eq_false gpy
      by_cases lpz : pz < -10000000
      · have Hn : Hid (nr pz = false) := nr_no (.inl lpz)
        have tpz : decide (pz < -10000000) = true := decide_eq_true lpz
        refine wp_loop_rounds 4 ?_
        rw [rounds_succ]
        go_wp2
        rw [rounds_succ]
        go_wp2
        rw [rounds_succ]
        go_wp2
        go_ret
        exact ⟨ret_bool ((HX.out _ rfl).1 (nearP_no (.inr (.inr Hn.out)))).symm, HB2.out⟩
      by_cases gpz : 10000000 < pz
      · have Hn : Hid (nr pz = false) := nr_no (.inr gpz)
        have tpz : decide (pz < -10000000) = false := decide_eq_false lpz
        have spz : decide (10000000 < pz) = true := decide_eq_true gpz
        refine wp_loop_rounds 4 ?_
        rw [rounds_succ]
        go_wp2
        rw [rounds_succ]
        go_wp2
        rw [rounds_succ]
        go_wp2
        go_ret
        exact ⟨ret_bool ((HX.out _ rfl).1 (nearP_no (.inr (.inr Hn.out)))).symm, HB2.out⟩
      have Hpz : Hid (nr pz = true) := nr_yes (by omega) (by omega)
      have tpz : decide (pz < -10000000) = false := decide_eq_false lpz
      have spz : decide (10000000 < pz) = false := decide_eq_false gpz
      refine wp_loop_rounds 4 ?_
      rw [rounds_succ]
      go_wp2
      rw [rounds_succ]
      go_wp2
      rw [rounds_succ]
      go_wp2
      rw [rounds_succ]
      go_wp2
      go_roundw
      case rel => exact ⟨k + 1, by omega, by go_num, (HX.out _ rfl).2 (by simp [nearP, Hpx.out, Hpy.out, Hpz.out]), HB2.out⟩
      case measure => simp [intOf]; omega
    · go_wp2
      go_ret
      exact ⟨ret_bool (by symm; rw [List.all_eq_true]; intro p hp; exact HO.out p (by rw [List.take_of_length_le (by omega)]; exact hp)), HB.out⟩

end Go.Proofs.YtcajifelbldjnaaGreat.S
