/- newBoard walked. -/
import Derived.Test.YtgahlhfgpkklaaaDoorFHH
import Derived.Test.YtgahlhfgpkklaaaDoorFIH
import Derived.Deep.MidRow
import Derived.Deep.WholeRow
namespace Go.Proofs.YtgahlhfgpkklaaaDoor
open Go.RowKit Go.Maps

/-- A board of nothing. -/
abbrev zbv : Value := .agg #[.int .i64 0, .int .i64 0, .int .i64 0, .int .i64 0, .int .i64 0, .int .i64 0, .int .i64 0, .int .i64 0, .int .i64 0, .int .i64 0, .int .i64 0, .int .i64 0, .bool false, .int .i64 0, .int .i64 0, .int .i64 0, .int .i64 0, .bool false, .int .i64 0, .int .i64 0, .int .i64 0, .map none]
abbrev zbo : Obj := .cells #[.int .i64 0, .int .i64 0, .int .i64 0, .int .i64 0, .int .i64 0, .int .i64 0, .int .i64 0, .int .i64 0, .int .i64 0, .int .i64 0, .int .i64 0, .int .i64 0, .bool false, .int .i64 0, .int .i64 0, .int .i64 0, .int .i64 0, .bool false, .int .i64 0, .int .i64 0, .int .i64 0, .map none] 52
abbrev zbc : List Value := [.int .i64 0, .int .i64 0, .int .i64 0, .int .i64 0, .int .i64 0, .int .i64 0, .int .i64 0, .int .i64 0, .int .i64 0, .int .i64 0, .int .i64 0, .int .i64 0, .bool false, .int .i64 0, .int .i64 0, .int .i64 0, .int .i64 0, .bool false, .int .i64 0, .int .i64 0, .int .i64 0, .map none]
theorem info52 : (Tryd.prog.info? 52).map (·.size) = some 22 := by kernel_rfl
theorem Bk.there {b : Nat} {cs : List Value} {w : World} (h : Bk b cs w) {n : Nat} (hn : n ≤ cs.length) : w.there b 0 n := by
  intro j hj
  have hv : cs[j]? = some (cs[j]'(by omega)) := List.getElem?_eq_getElem (by omega)
  have := h.2 j _ hv
  rw [Nat.zero_add]
  exact ⟨by rw [this.1]; rfl, this.2⟩
theorem Bk.range {b : Nat} {cs : List Value} {w : World} (h : Bk b cs w) : w.rangeAt b 0 cs := fun j v hv => by rw [Nat.zero_add]; exact (h.2 j v hv).1
theorem setCell_id {w : World} {b k : Nat} {v : Value} (h : w.cell? ⟨b, k, none⟩ = some v) : w.setCell ⟨b, k, none⟩ v = w := by
  unfold World.cell? at h
  have e : (w.setCell ⟨b, k, none⟩ v).heap = w.heap := by
    unfold World.setCell
    apply Array.ext_getElem?
    intro i
    simp only [Array.getElem?_modify]
    split
    · rename_i e
      subst e
      cases hb : w.heap[b]? with
      | none => rfl
      | some o =>
        simp only [hb] at h
        cases o with
        | cells c t fz =>
          simp only [Option.isSome_none, Bool.false_eq_true, if_false] at h
          simp only [Option.map_some, Option.isSome_none, Bool.false_eq_true, if_false]
          congr 2
          apply Array.ext_getElem?
          intro j
          rw [Array.getElem?_setIfInBounds]
          split
          · rename_i e2
            subst e2
            rw [if_pos (Array.getElem?_eq_some_iff.1 h).1, h]
          · rfl
        | _ => simp at h
    · rfl
  calc w.setCell ⟨b, k, none⟩ v = { w with heap := (w.setCell ⟨b, k, none⟩ v).heap } := rfl
    _ = w := by rw [e]
theorem setCells_id {b : Nat} : ∀ (cs : List Value) (o : Nat) (w : World), (∀ k v, cs[k]? = some v → w.cell? ⟨b, o + k, none⟩ = some v) → w.setCells b o cs = w
  | [], _, _, _ => rfl
  | v :: vs, o, w, h => by
    show (w.setCell ⟨b, o, none⟩ v).setCells b (o + 1) vs = w
    rw [setCell_id (show w.cell? ⟨b, o, none⟩ = some v from h 0 v rfl)]
    exact setCells_id vs (o + 1) w fun k u hu => by have := h (k + 1) u hu; rwa [Nat.add_assoc, Nat.add_comm 1 k]
theorem Bk.stays {b : Nat} {cs : List Value} {w : World} (h : Bk b cs w) : w.setCells b 0 cs = w := setCells_id cs 0 w fun k v hv => by rw [Nat.zero_add]; exact (h.2 k v hv).1
theorem results_ct {fn : Func} {a u : Tmp} {t : TypeId} (h : fn.results = #[.cell a t, .tmp u]) (tmps : Array Value) (P : Program) (w : World) {Z : Addr} {v e : Value} (ha : tmps.getD a undef = .pointer (some Z)) (he : tmps.getD u undef = e) (hl : (loadVar t Z).run P w = .ok v w) : (results fn tmps).run P w = .ok (.tuple #[v, e]) w := by
  rw [Array.getD_eq_getD_getElem?] at ha he
  simp [results, h, ha, hl, asAddr, he]
theorem results_ctt {fn : Func} {a u x : Tmp} {t : TypeId} (h : fn.results = #[.cell a t, .tmp u, .tmp x]) (tmps : Array Value) (P : Program) (w : World) {Z : Addr} {v e d : Value} (ha : tmps.getD a undef = .pointer (some Z)) (he : tmps.getD u undef = e) (hd : tmps.getD x undef = d) (hl : (loadVar t Z).run P w = .ok v w) : (results fn tmps).run P w = .ok (.tuple #[v, e, d]) w := by
  rw [Array.getD_eq_getD_getElem?] at ha he hd
  simp [results, h, ha, hl, asAddr, he, hd]

theorem out_setCells {k b : Nat} (h : k ≠ b) : ∀ (vs : List Value) (o : Nat) (w : World), (w.setCells b o vs).heap[k]? = w.heap[k]?
  | [], _, _ => rfl
  | v :: vs, o, w => (out_setCells h vs (o + 1) _).trans (Below.heap_setCell w ⟨b, o, none⟩ v k h)
theorem low_setCells {n b : Nat} (h : n ≤ b) : ∀ (vs : List Value) (o : Nat) (w : World), Below n w (w.setCells b o vs)
  | [], _, _ => Below.refl _ _
  | v :: vs, o, w => ((Below.refl n w).setCell h v).trans (low_setCells h vs (o + 1) _)
theorem Bk.setAll {b : Nat} {cs : List Value} {w : World} (h : Bk b cs w) (ds : List Value) (hl : ds.length = cs.length) : Bk b ds (w.setCells b 0 ds) := by
  have hs := World.rangeAt_setCells_same w b 0 ds (h.there (by omega))
  refine ⟨Nat.lt_of_lt_of_le h.1 (low_setCells (Nat.zero_le b) ds 0 w).size, fun k v hv => ⟨?_, ?_⟩⟩
  · have := hs k v hv
    rwa [Nat.zero_add] at this
  · rw [World.frozen?_setCells]
    have hk : k < cs.length := by have := (List.getElem?_eq_some_iff.1 hv).1; omega
    exact (h.2 k _ (List.getElem?_eq_getElem hk)).2
theorem load52 {Z : Nat} {cs : List Value} {w : World} (h : Bk Z cs w) (hl : cs.length = 22) : (loadVar 52 ⟨Z, 0, none⟩).run Tryd.prog w = .ok (.agg cs.toArray) w :=
  run_loadVar_mid (P := Tryd.prog) w Z 0 52 cs _ h.range Tryd.underlying52 rfl (by rw [info52, hl])
theorem wpList_store_new {P : Program} {ops : Array Oper} {rest : List Oper} {op : Oper} {a : Act} {w : World} {Q : Exit → Act → World → Prop} (hgd : op.guard = none) (ty : TypeId) (x y : Operand) (ho : op.op = .store ty x y)
    (W : World) (b : Nat) (c c' : Array Value) (hw : w = W.alloc (.cells c ty)) (hb : b = W.heap.size) (hx : a.eval x = .pointer (some ⟨b, 0, none⟩)) (hy : a.eval y = .agg c')
    (hi : (P.info? ty).map (·.size) = some c'.size) (hs : c.size = c'.size) (h1 : c'.all (·.oneCell') = true)
    (h : wpList P ops Q rest (a.put op.dst undef) (W.alloc (.cells c' ty))) : wpList P ops Q (op :: rest) a w := by
  subst hb
  subst hw
  refine wpList_plain hgd fun K hK => ?_
  unfold Oper.wp execOp
  simp only [ho, hx, hy, Instr.storeAt, Instr.sureAddr, Sem.run_bind, Sem.run_pure, Result.andThen_ok, run_storeVar_new W ty c c' hi hs h1]
  exact hK _ _ h
set_option linter.unusedVariables false in
def nb2V (a : Nat → Addr) (i : Nat) (l : List Value) (w : World) : Prop :=
  match i, l with
  | 0, [v] => v = zbv
  | 1, [v] => v = .iface 109 (.pointer (some (a 1)))
  | 3, [v] => v = .iface 109 (.pointer (some (a 1)))
  | _, _ => True
set_option linter.unusedVariables false in
def nb5V (a : Nat → Addr) (i : Nat) (l : List Value) (w : World) : Prop :=
  match i, l with
  | 0, [v] => v = zbv
  | 1, [v] => v = .iface 109 (.pointer (some (a 2)))
  | 3, [v] => v = .iface 109 (.pointer (some (a 2)))
  | _, _ => True
set_option maxHeartbeats 6400000 in
set_option maxRecDepth 100000 in
theorem newBoard_a (a : Nat → Addr) (n : Nat) (r : Rg) (f : Fm) (w : World) (hg : Gl a n w) (hr : rgOk r = false) :
    Calls Tryd.prog 19 #[rgv r, fv f] w fun e w' => e = .returned (.tuple #[zbv, .iface 109 (.pointer (some (a 1)))]) ∧ Below w.heap.size w w' := by
  have HR : Hid (∀ W, Calls Tryd.prog 33 #[rgv r] W fun e w' => e = .returned (.bool false) ∧ Below W.heap.size W w') := fun W => by have := isRig_any r W; rwa [hr] at this
  obtain ⟨w0, hw0⟩ : ∃ x, x = ((w.alloc (rgo r)).alloc (fo f)).alloc zbo := ⟨_, rfl⟩
  have HB0 : Hid (Below w.heap.size w w0) := by show Below _ _ _; rw [hw0]; exact three_new _ _ _ _
  have KZ0 : Hid (Bk (w.heap.size + 1 + 1) zbc w0) := by show Bk _ _ _; rw [hw0]; exact Bk.new ((w.alloc (rgo r)).alloc (fo f)) zbc 52 (w.heap.size + 1 + 1) (by simp)
  have KF0 : Hid (Bk (w.heap.size + 1) (fc f) w0) := by show Bk _ _ _; rw [hw0]; exact (Bk.new (w.alloc (rgo r)) (fc f) 29 (w.heap.size + 1) (by simp)).later (one_new _ _)
  have KR0 : Hid (Bk w.heap.size (rgc r) w0) := by show Bk _ _ _; rw [hw0]; exact (Bk.new w (rgc r) 27 w.heap.size rfl).later (two_new _ _ _)
  obtain ⟨Z, hZ⟩ : ∃ b, b = w.heap.size + 1 + 1 := ⟨_, rfl⟩
  obtain ⟨F, hF⟩ : ∃ b, b = w.heap.size + 1 := ⟨_, rfl⟩
  obtain ⟨R, hR⟩ : ∃ b, b = w.heap.size := ⟨_, rfl⟩
  rw [← hZ] at KZ0
  rw [← hF] at KF0
  rw [← hR] at KR0
  have hZw : w.heap.size ≤ Z := by omega
  go_enter Tryd.func19, Tryd.ntmps19
  go_wp2_with fail
  simp only [← hw0, ← hZ]
  simp only [← hF]
  simp only [← hR]
  clear hZ hF hw0 hR
  refine (HR.out _).mono ?_
  rintro e w1 ⟨rfl, hb1⟩
  have HB1 : Hid (Below w.heap.size w w1) := below_on HB0.out hb1
  have KZ1 : Hid (Bk Z zbc w1) := KZ0.out.later hb1
  have KF1 : Hid (Bk F (fc f) w1) := KF0.out.later hb1
  have KR1 : Hid (Bk R (rgc r) w1) := KR0.out.later hb1
  have HG1 : Hid (Gl a n w1) := hg.later HB1.out
  clear hb1 KZ0 KF0 KR0 hg KF1 KR1
  go_wp2_with fail
  rename_i KK hkk
  have HKK := (show Hid _ from hkk)
  clear hkk
  refine region_all [false, false, false, false, false, true, false, false, false, false, true, true, false, false, false, false, false, false, false, false, false]
    [([], [10], none), ([], [11], none), ([0], [], none), ([1], [5], none)]
    (nb2V a) (fun _ w => Bk Z zbc w) (by kernel_rfl) (by kernel_rfl) (fun W hb => KZ1.out.later hb) ?_ ?_
  · refine ⟨?_, ?_, ?_, ?_, trivial⟩
    · intro f w1 hb hJ _ K hK
      simp only [over, overL, Nat.reduceAdd]
      go_simp
      exact hK _ _ ⟨_, by simp only [over, overL, Nat.reduceAdd]; rfl, rfl, hb, hJ, fun _ h => h⟩
    · intro f w1 hb hJ _ K hK
      have g1 : w1.cell? ⟨1, 0, none⟩ = some (.iface 109 (.pointer (some (a 1)))) := (HG1.out.later hb).cell 1 (by decide)
      simp only [over, overL, Nat.reduceAdd]
      go_simp
      exact hK _ _ ⟨_, by simp only [over, overL, Nat.reduceAdd]; rfl, rfl, hb, hJ, fun _ h => h⟩
    · intro f w1 hb hJ ⟨h10, _⟩ K hK
      replace h10 : f 10 = zbv := h10
      simp only [over, overL, Nat.reduceAdd, h10]
      refine wp_store_mid 52 _ _ rfl Z 0 _ rfl rfl (hJ.there (Nat.le_refl _)) info52 (by kernel_rfl) ?_
      rw [show w1.setCells Z 0 (Array.toList _) = w1 from hJ.stays]
      exact hK _ _ ⟨undef, by simp only [over, overL, Nat.reduceAdd, h10], trivial, hb, hJ, fun _ h => h⟩
    · intro f w1 hb hJ ⟨h11, _⟩ K hK
      replace h11 : f 11 = .iface 109 (.pointer (some (a 1))) := h11
      simp only [over, overL, Nat.reduceAdd, h11]
      go_simp
      exact hK _ _ ⟨_, by simp only [over, overL, Nat.reduceAdd, h11]; rfl, rfl, hb, hJ, fun _ h => h⟩
  · intro fr w2 hb2 hJ hv
    have h5 : fr 5 = .iface 109 (.pointer (some (a 1))) := hv.2.2.2.1
    have HB2 : Hid (Below w.heap.size w w2) := below_on HB1.out hb2
    have KZ2 : Hid (Bk Z zbc w2) := hJ
    simp only [over_eq, overL, h5, Nat.reduceAdd]
    clear hv h5 hb2 hJ
    refine HKK.out _ _ ?_
    go_wp2
    exact bodyPost_ret (v := .tuple #[zbv, .iface 109 (.pointer (some (a 1)))]) (results_ct Tryd.results19 _ _ _ rfl rfl (load52 KZ2.out rfl)) rfl ⟨rfl, HB2.out⟩
set_option maxHeartbeats 6400000 in
set_option maxRecDepth 100000 in
theorem newBoard_b (a : Nat → Addr) (n : Nat) (r : Rg) (f : Fm) (w : World) (hg : Gl a n w) (hr : rgOk r = true) (hf : fmOk r f = false) :
    Calls Tryd.prog 19 #[rgv r, fv f] w fun e w' => e = .returned (.tuple #[zbv, .iface 109 (.pointer (some (a 2)))]) ∧ Below w.heap.size w w' := by
  have HM : Hid (∀ B M W, Bk B (bdc r f M) W → Calls Tryd.prog 34 #[ptr B] W fun e w' => e = .returned (.bool false) ∧ Below W.heap.size W w') := fun B M W hW => by have := mayBe_any B M r f W hW; rwa [hf] at this
  have HR : Hid (∀ W, Calls Tryd.prog 33 #[rgv r] W fun e w' => e = .returned (.bool true) ∧ Below W.heap.size W w') := fun W => by have := isRig_any r W; rwa [hr] at this
  obtain ⟨w0, hw0⟩ : ∃ x, x = ((w.alloc (rgo r)).alloc (fo f)).alloc zbo := ⟨_, rfl⟩
  have HB0 : Hid (Below w.heap.size w w0) := by show Below _ _ _; rw [hw0]; exact three_new _ _ _ _
  have KZ0 : Hid (Bk (w.heap.size + 1 + 1) zbc w0) := by show Bk _ _ _; rw [hw0]; exact Bk.new ((w.alloc (rgo r)).alloc (fo f)) zbc 52 (w.heap.size + 1 + 1) (by simp)
  have KF0 : Hid (Bk (w.heap.size + 1) (fc f) w0) := by show Bk _ _ _; rw [hw0]; exact (Bk.new (w.alloc (rgo r)) (fc f) 29 (w.heap.size + 1) (by simp)).later (one_new _ _)
  have KR0 : Hid (Bk w.heap.size (rgc r) w0) := by show Bk _ _ _; rw [hw0]; exact (Bk.new w (rgc r) 27 w.heap.size rfl).later (two_new _ _ _)
  obtain ⟨Z, hZ⟩ : ∃ b, b = w.heap.size + 1 + 1 := ⟨_, rfl⟩
  obtain ⟨F, hF⟩ : ∃ b, b = w.heap.size + 1 := ⟨_, rfl⟩
  obtain ⟨R, hR⟩ : ∃ b, b = w.heap.size := ⟨_, rfl⟩
  rw [← hZ] at KZ0
  rw [← hF] at KF0
  rw [← hR] at KR0
  have hZw : w.heap.size ≤ Z := by omega
  go_enter Tryd.func19, Tryd.ntmps19
  go_wp2_with fail
  simp only [← hw0, ← hZ]
  simp only [← hF]
  simp only [← hR]
  clear hZ hF hw0 hR
  refine (HR.out _).mono ?_
  rintro e w1 ⟨rfl, hb1⟩
  have HB1 : Hid (Below w.heap.size w w1) := below_on HB0.out hb1
  have KZ1 : Hid (Bk Z zbc w1) := KZ0.out.later hb1
  have KF1 : Hid (Bk F (fc f) w1) := KF0.out.later hb1
  have KR1 : Hid (Bk R (rgc r) w1) := KR0.out.later hb1
  have HG1 : Hid (Gl a n w1) := hg.later HB1.out
  clear hb1 KZ0 KF0 KR0
  have r0 := KR1.out.c 0 rfl
  have r1 := KR1.out.c 1 rfl
  have r2 := KR1.out.c 2 rfl
  have r3 := KR1.out.c 3 rfl
  have r4 := KR1.out.c 4 rfl
  have r5 := KR1.out.c 5 rfl
  have r6 := KR1.out.c 6 rfl
  have r7 := KR1.out.c 7 rfl
  have r8 := KR1.out.c 8 rfl
  have r9 := KR1.out.c 9 rfl
  have r10 := KR1.out.c 10 rfl
  have r11 := KR1.out.c 11 rfl
  have s0 := KF1.out.c 0 rfl
  have s1 := KF1.out.c 1 rfl
  have s2 := KF1.out.c 2 rfl
  have s3 := KF1.out.c 3 rfl
  have s4 := KF1.out.c 4 rfl
  have s5 := KF1.out.c 5 rfl
  have s6 := KF1.out.c 6 rfl
  have s7 := KF1.out.c 7 rfl
  have s8 := KF1.out.c 8 rfl
  have hmk := run_makeMap (P := Tryd.prog) 50 w1
  have hR1 : R < w1.heap.size := KR1.out.1
  have hF1 : F < w1.heap.size := KF1.out.1
  obtain ⟨w2, hw2⟩ : ∃ x, x = (w1.alloc (.map #[] 0)).alloc (bdo r f w1.heap.size) := ⟨_, rfl⟩
  have HB2 : Hid (Below w.heap.size w w2) := by show Below _ _ _; rw [hw2]; exact below_on HB1.out (two_new _ _ _)
  have KB2 : Hid (Bk (w1.heap.size + 1) (bdc r f w1.heap.size) w2) := by show Bk _ _ _; rw [hw2]; exact Bk.new (w1.alloc (.map #[] 0)) (bdc r f w1.heap.size) 52 (w1.heap.size + 1) (by simp)
  have KM2 : Hid (TM r.rp w1.heap.size w2) := by show TM _ _ _; rw [hw2]; exact (TM.made r.rp w1).later (one_new _ _)
  have KZ2 : Hid (Bk Z zbc w2) := by show Bk _ _ _; rw [hw2]; exact KZ1.out.later (two_new _ _ _)
  obtain ⟨S, hS⟩ : ∃ b, b = w1.heap.size + 1 := ⟨_, rfl⟩
  obtain ⟨M, hM⟩ : ∃ b, b = w1.heap.size := ⟨_, rfl⟩
  have hMw : w.heap.size ≤ M := by rw [hM]; exact HB1.out.size
  have hMZ : M ≠ Z := by have := KZ1.out.1; omega
  rw [← hS] at KB2
  rw [← hM] at KB2 KM2
  go_wp2_with (refine wpList_store_new rfl 52 _ _ rfl (w1.alloc (.map #[] 0)) (w1.heap.size + 1) _ _ rfl (by simp) rfl rfl info52 rfl (by kernel_rfl) ?_)
  simp only [← hw2, ← hS]
  try simp only [← hM]
  clear hmk hS hM hw2 hR1 hF1 r0 r1 r2 r3 r4 r5 r6 r7 r8 r9 r10 r11 s0 s1 s2 s3 s4 s5 s6 s7 s8
  refine (HM.out S M _ KB2.out).mono ?_
  rintro e w3 ⟨rfl, hb3⟩
  have HB3 : Hid (Below w.heap.size w w3) := below_on HB2.out hb3
  have KZ3 : Hid (Bk Z zbc w3) := KZ2.out.later hb3
  have KB3 : Hid (Bk S (bdc r f M) w3) := KB2.out.later hb3
  have KM3 : Hid (TM r.rp M w3) := KM2.out.later hb3
  have HG3 : Hid (Gl a n w3) := hg.later HB3.out
  clear hb3 hg KB2 KM2 KZ2 KB3 KM3 hMZ hMw
  go_wp2_with fail
  rename_i KK hkk
  have HKK := (show Hid _ from hkk)
  clear hkk
  refine region_all [false, false, false, false, false, true, false, false, false, false, false, false, false, false, false, false, false, false, true, true, false]
    [([], [18], none), ([], [19], none), ([0], [], none), ([1], [5], none)]
    (nb5V a) (fun _ w => Bk Z zbc w) (by kernel_rfl) (by kernel_rfl) (fun W hb => KZ3.out.later hb) ?_ ?_
  · refine ⟨?_, ?_, ?_, ?_, trivial⟩
    · intro f w1 hb hJ _ K hK
      simp only [over, overL, Nat.reduceAdd]
      go_simp
      exact hK _ _ ⟨_, by simp only [over, overL, Nat.reduceAdd]; rfl, rfl, hb, hJ, fun _ h => h⟩
    · intro f w1 hb hJ _ K hK
      have g2 : w1.cell? ⟨2, 0, none⟩ = some (.iface 109 (.pointer (some (a 2)))) := (HG3.out.later hb).cell 2 (by decide)
      simp only [over, overL, Nat.reduceAdd]
      go_simp
      exact hK _ _ ⟨_, by simp only [over, overL, Nat.reduceAdd]; rfl, rfl, hb, hJ, fun _ h => h⟩
    · intro f w1 hb hJ ⟨h18, _⟩ K hK
      replace h18 : f 18 = zbv := h18
      simp only [over, overL, Nat.reduceAdd, h18]
      refine wp_store_mid 52 _ _ rfl Z 0 _ rfl rfl (hJ.there (Nat.le_refl _)) info52 (by kernel_rfl) ?_
      rw [show w1.setCells Z 0 (Array.toList _) = w1 from hJ.stays]
      exact hK _ _ ⟨undef, by simp only [over, overL, Nat.reduceAdd, h18], trivial, hb, hJ, fun _ h => h⟩
    · intro f w1 hb hJ ⟨h19, _⟩ K hK
      replace h19 : f 19 = .iface 109 (.pointer (some (a 2))) := h19
      simp only [over, overL, Nat.reduceAdd, h19]
      go_simp
      exact hK _ _ ⟨_, by simp only [over, overL, Nat.reduceAdd, h19]; rfl, rfl, hb, hJ, fun _ h => h⟩
  · intro fr w2 hb2 hJ hv
    have h5 : fr 5 = .iface 109 (.pointer (some (a 2))) := hv.2.2.2.1
    have HB2 : Hid (Below w.heap.size w w2) := below_on HB3.out hb2
    have KZ2 : Hid (Bk Z zbc w2) := hJ
    simp only [over_eq, overL, h5, Nat.reduceAdd]
    clear hv h5 hb2 hJ
    refine HKK.out _ _ ?_
    go_wp2
    exact bodyPost_ret (v := .tuple #[zbv, .iface 109 (.pointer (some (a 2)))]) (results_ct Tryd.results19 _ _ _ rfl rfl (load52 KZ2.out rfl)) rfl ⟨rfl, HB2.out⟩
set_option maxHeartbeats 6400000 in
set_option maxRecDepth 100000 in
theorem newBoard_c (r : Rg) (f : Fm) (w : World) (hr : rgOk r = true) (hf : fmOk r f = true) :
    Calls Tryd.prog 19 #[rgv r, fv f] w fun e w' => ∃ M, e = .returned (.tuple #[bdv r f M, .nilIface]) ∧ w.heap.size ≤ M ∧ TM r.rp M w' ∧ Below w.heap.size w w' := by
  have HM : Hid (∀ B M W, Bk B (bdc r f M) W → Calls Tryd.prog 34 #[ptr B] W fun e w' => e = .returned (.bool true) ∧ Below W.heap.size W w') := fun B M W hW => by have := mayBe_any B M r f W hW; rwa [hf] at this
  have HR : Hid (∀ W, Calls Tryd.prog 33 #[rgv r] W fun e w' => e = .returned (.bool true) ∧ Below W.heap.size W w') := fun W => by have := isRig_any r W; rwa [hr] at this
  obtain ⟨w0, hw0⟩ : ∃ x, x = ((w.alloc (rgo r)).alloc (fo f)).alloc zbo := ⟨_, rfl⟩
  have HB0 : Hid (Below w.heap.size w w0) := by show Below _ _ _; rw [hw0]; exact three_new _ _ _ _
  have KZ0 : Hid (Bk (w.heap.size + 1 + 1) zbc w0) := by show Bk _ _ _; rw [hw0]; exact Bk.new ((w.alloc (rgo r)).alloc (fo f)) zbc 52 (w.heap.size + 1 + 1) (by simp)
  have KF0 : Hid (Bk (w.heap.size + 1) (fc f) w0) := by show Bk _ _ _; rw [hw0]; exact (Bk.new (w.alloc (rgo r)) (fc f) 29 (w.heap.size + 1) (by simp)).later (one_new _ _)
  have KR0 : Hid (Bk w.heap.size (rgc r) w0) := by show Bk _ _ _; rw [hw0]; exact (Bk.new w (rgc r) 27 w.heap.size rfl).later (two_new _ _ _)
  obtain ⟨Z, hZ⟩ : ∃ b, b = w.heap.size + 1 + 1 := ⟨_, rfl⟩
  obtain ⟨F, hF⟩ : ∃ b, b = w.heap.size + 1 := ⟨_, rfl⟩
  obtain ⟨R, hR⟩ : ∃ b, b = w.heap.size := ⟨_, rfl⟩
  rw [← hZ] at KZ0
  rw [← hF] at KF0
  rw [← hR] at KR0
  have hZw : w.heap.size ≤ Z := by omega
  go_enter Tryd.func19, Tryd.ntmps19
  go_wp2_with fail
  simp only [← hw0, ← hZ]
  simp only [← hF]
  simp only [← hR]
  clear hZ hF hw0 hR
  refine (HR.out _).mono ?_
  rintro e w1 ⟨rfl, hb1⟩
  have HB1 : Hid (Below w.heap.size w w1) := below_on HB0.out hb1
  have KZ1 : Hid (Bk Z zbc w1) := KZ0.out.later hb1
  have KF1 : Hid (Bk F (fc f) w1) := KF0.out.later hb1
  have KR1 : Hid (Bk R (rgc r) w1) := KR0.out.later hb1
  clear hb1 KZ0 KF0 KR0
  have r0 := KR1.out.c 0 rfl
  have r1 := KR1.out.c 1 rfl
  have r2 := KR1.out.c 2 rfl
  have r3 := KR1.out.c 3 rfl
  have r4 := KR1.out.c 4 rfl
  have r5 := KR1.out.c 5 rfl
  have r6 := KR1.out.c 6 rfl
  have r7 := KR1.out.c 7 rfl
  have r8 := KR1.out.c 8 rfl
  have r9 := KR1.out.c 9 rfl
  have r10 := KR1.out.c 10 rfl
  have r11 := KR1.out.c 11 rfl
  have s0 := KF1.out.c 0 rfl
  have s1 := KF1.out.c 1 rfl
  have s2 := KF1.out.c 2 rfl
  have s3 := KF1.out.c 3 rfl
  have s4 := KF1.out.c 4 rfl
  have s5 := KF1.out.c 5 rfl
  have s6 := KF1.out.c 6 rfl
  have s7 := KF1.out.c 7 rfl
  have s8 := KF1.out.c 8 rfl
  have hmk := run_makeMap (P := Tryd.prog) 50 w1
  have hR1 : R < w1.heap.size := KR1.out.1
  have hF1 : F < w1.heap.size := KF1.out.1
  obtain ⟨w2, hw2⟩ : ∃ x, x = (w1.alloc (.map #[] 0)).alloc (bdo r f w1.heap.size) := ⟨_, rfl⟩
  have HB2 : Hid (Below w.heap.size w w2) := by show Below _ _ _; rw [hw2]; exact below_on HB1.out (two_new _ _ _)
  have KB2 : Hid (Bk (w1.heap.size + 1) (bdc r f w1.heap.size) w2) := by show Bk _ _ _; rw [hw2]; exact Bk.new (w1.alloc (.map #[] 0)) (bdc r f w1.heap.size) 52 (w1.heap.size + 1) (by simp)
  have KM2 : Hid (TM r.rp w1.heap.size w2) := by show TM _ _ _; rw [hw2]; exact (TM.made r.rp w1).later (one_new _ _)
  have KZ2 : Hid (Bk Z zbc w2) := by show Bk _ _ _; rw [hw2]; exact KZ1.out.later (two_new _ _ _)
  obtain ⟨S, hS⟩ : ∃ b, b = w1.heap.size + 1 := ⟨_, rfl⟩
  obtain ⟨M, hM⟩ : ∃ b, b = w1.heap.size := ⟨_, rfl⟩
  have hMw : w.heap.size ≤ M := by rw [hM]; exact HB1.out.size
  have hMZ : M ≠ Z := by have := KZ1.out.1; omega
  rw [← hS] at KB2
  rw [← hM] at KB2 KM2
  go_wp2_with (refine wpList_store_new rfl 52 _ _ rfl (w1.alloc (.map #[] 0)) (w1.heap.size + 1) _ _ rfl (by simp) rfl rfl info52 rfl (by kernel_rfl) ?_)
  simp only [← hw2, ← hS]
  try simp only [← hM]
  clear hmk hS hM hw2 hR1 hF1 r0 r1 r2 r3 r4 r5 r6 r7 r8 r9 r10 r11 s0 s1 s2 s3 s4 s5 s6 s7 s8
  refine (HM.out S M _ KB2.out).mono ?_
  rintro e w3 ⟨rfl, hb3⟩
  have HB3 : Hid (Below w.heap.size w w3) := below_on HB2.out hb3
  have KZ3 : Hid (Bk Z zbc w3) := KZ2.out.later hb3
  have KB3 : Hid (Bk S (bdc r f M) w3) := KB2.out.later hb3
  have KM3 : Hid (TM r.rp M w3) := KM2.out.later hb3
  go_wp2_with (first
    | (refine wpList_load_mid rfl 52 _ rfl S 0 rfl (bdc r f M) _ KB3.out.range Tryd.underlying52 rfl info52 ?_)
    | (refine wpList_store_mid rfl 52 _ _ rfl Z 0 (bdc r f M).toArray rfl rfl (KZ3.out.there (Nat.le_refl _)) info52 (by kernel_rfl) ?_))
  have KZ4 : Hid (Bk Z (bdc r f M) (w3.setCells Z 0 (bdc r f M))) := KZ3.out.setAll _ rfl
  have HB4 : Hid (Below w.heap.size w (w3.setCells Z 0 (bdc r f M))) := HB3.out.trans (low_setCells hZw _ _ _)
  have KM4 : Hid (TM r.rp M (w3.setCells Z 0 (bdc r f M))) := KM3.out.same (out_setCells (fun e => hMZ e) _ _ _)
  exact bodyPost_ret (v := .tuple #[bdv r f M, .nilIface]) (results_ct Tryd.results19 _ _ _ rfl rfl (load52 KZ4.out rfl)) rfl ⟨M, rfl, hMw, KM4.out, HB4.out⟩
end Go.Proofs.YtgahlhfgpkklaaaDoor
